/- The walk of the law that is not asked longer than is needed. -/
import Derived.Test.YtlgomifpohdniaaGreatCls
namespace Go.Proofs.YtlgomifpohdniaaGreat
open Go.RowKit Go.Deep
set_option linter.unusedVariables false
set_option linter.unusedSimpArgs false

theorem sum_ok {f b : Int} {n : Nat} {len : Nat → Nat} {g : Nat → Nat → Nd} {n1 n2 n3 n4 : Nat} {z1 z2 z3 z4 : Nat → Int} (h : planB f b n len g n1 z1 n2 z2 n3 z3 n4 z4 = true) (z : Nat → Int) {k : Nat} (hk : k ≤ n) : scB (sumT (scO g (ordN z1) z) k) = true := by
  unfold planB at h
  simp only [Bool.and_eq_true, decide_eq_true_eq] at h
  obtain ⟨hE, ⟨rfl, hO⟩, -⟩ := h
  have hlt := ordN_lt hO
  have hT := (ensB_iff.1 hE).2.2
  have hb := sumT_bound (p := scO g (ordN z1) z) (n := n1) (fun i hi => lvv_bound z (hT.2 (ordN z1 i) (hlt i hi))) k hk
  have h12 := hT.1
  unfold scB
  rw [decide_eq_true (by omega), decide_eq_true (by omega)]
  rfl
theorem bd_is {f b : Int} {n : Nat} {len : Nat → Nat} {g : Nat → Nat → Nd} {n1 n2 n3 n4 : Nat} {z1 z2 z3 z4 : Nat → Int} (h : planB f b n len g n1 z1 n2 z2 n3 z3 n4 z4 = true) (z y : Nat → Int) {k : Nat} (hk : k ≤ n) : bdN (planB f b n len g n1 z1 n2 z2 n3 z3 n4 z4) n (k : Int) (sumT (scO g (ordN z1) z) k) b y = b + sumT (scO g (ordN z1) z) k + y k := by
  unfold bdN bdB
  rw [h, sum_ok h z hk, decide_eq_true (by omega : (0 : Int) ≤ (k : Int)), decide_eq_true (by omega : (k : Int) ≤ (n : Int)), Int.toNat_natCast]
  rfl
theorem en_no {t lo hi : Int} (h : enB t lo hi = false) : lo < t ∧ hi ≥ t := by
  unfold enB at h
  rw [Bool.or_eq_false_iff, decide_eq_false_iff_not, decide_eq_false_iff_not] at h
  omega
/-- What was asked is no more than is needed. -/
theorem exit_at {f b : Int} {n : Nat} {len : Nat → Nat} {g : Nat → Nat → Nd} {n1 n2 n3 n4 : Nat} {z1 z2 z3 z4 z : Nat → Int} {t : Int} {B : Bool} {a s q : Int} {p : Nat} (h : planB f b n len g n1 z1 n2 z2 n3 z3 n4 z4 = true) (hf : fitB f p z = true) (hA : ClAns b n g z1 n2 z2 z3 z4 z t true B a s q) :
    ∃ (kk : Nat) (LO HI : Int), a = (kk : Int) ∧ bdN (planB f b n len g n1 z1 n2 z2 n3 z3 n4 z4) n a s b z3 = LO ∧ bdN (planB f b n len g n1 z1 n2 z2 n3 z3 n4 z4) n a s b z4 = HI ∧ (B = true → decide (LO < t) = false) ∧ (B = false → decide (HI ≥ t) = false) ∧ (kk = 0 → s = 0 ∧ q = 0) ∧
      ∀ i, i ≤ n2 → (∀ j, j < i → z2 j < (kk : Int)) → 0 < kk → ∃ (jj : Nat) (S C lo hi : Int), lastE z2 i = (jj : Int) ∧ stOk f b n len g n1 z1 n2 z2 n3 z3 n4 z4 p z (jj : Int) = true ∧ stAns true (jj : Int) (sumT (scO g (ordN z1) z) (jj : Int).toNat) (sumT (csF g (ordN z1) z) (jj : Int).toNat) = stV (jj : Int) S C ∧
        bdN (planB f b n len g n1 z1 n2 z2 n3 z3 n4 z4) n (jj : Int) S b z3 = lo ∧ bdN (planB f b n len g n1 z1 n2 z2 n3 z3 n4 z4) n (jj : Int) S b z4 = hi ∧ decide (lo < t) = true ∧ decide (hi ≥ t) = true := by
  have hE : EndsAt z2 n2 n := by
    have h' := h
    unfold planB at h'
    simp only [Bool.and_eq_true, decide_eq_true_eq] at h'
    exact endsAt_of h'.2.2.1
  obtain ⟨k, hk, hB, rfl, rfl, rfl⟩ := hA.2 rfl
  obtain ⟨hkn, hks, hken, hkl⟩ := hk
  refine ⟨k, _, _, rfl, bd_is h z z3 hkn, bd_is h z z4 hkn, fun e => ?_, fun e => ?_, fun e => ?_, fun i hi hj h0 => ?_⟩
  · rw [e] at hB
    have := of_decide_eq_true hB.symm
    exact decide_eq_false (by omega)
  · rw [e] at hB
    have h1 := of_decide_eq_false hB.symm
    have h2 : enB t (b + sumT (scO g (ordN z1) z) k + z3 k) (b + sumT (scO g (ordN z1) z) k + z4 k) = true := hken
    unfold enB at h2
    rw [Bool.or_eq_true, decide_eq_true_eq, decide_eq_true_eq] at h2
    exact decide_eq_false (by omega)
  · subst e
    exact ⟨rfl, rfl⟩
  · have hl := hE.le hi
    obtain ⟨jj, hjj⟩ : ∃ jj : Nat, lastE z2 i = (jj : Int) := ⟨(lastE z2 i).toNat, by omega⟩
    have hjk : jj < k := by
      cases i with
      | zero =>
        have e' : (0 : Int) = (jj : Int) := hjj
        omega
      | succ i =>
        have e' : z2 i = (jj : Int) := hjj
        have := hj i (by omega)
        omega
    have hst : stN z2 n2 jj = true := hE.st.2 ⟨i, hi, hjj⟩
    have hen : enB t (b + sumT (scO g (ordN z1) z) jj + z3 jj) (b + sumT (scO g (ordN z1) z) jj + z4 jj) = false := hkl jj hjk hst
    obtain ⟨e1, e2⟩ := en_no hen
    refine ⟨jj, sumT (scO g (ordN z1) z) jj, sumT (csF g (ordN z1) z) jj, _, _, hjj, ?_, ?_, bd_is h z z3 (by omega), bd_is h z z4 (by omega), decide_eq_true e1, decide_eq_true e2⟩
    · unfold stOk
      rw [h, hf, decide_eq_true (by omega : (0 : Int) ≤ (jj : Int)), decide_eq_true (by omega : (jj : Int) ≤ (n : Int))]
      rfl
    · rw [Int.toNat_natCast]
      rfl

set_option maxRecDepth 100000 in
set_option maxHeartbeats 8000000 in
theorem lawExit (A : Option Addr) (n cap : Nat) (w : World) (h : Bs w w.heap.size A n) :
    Calls Tryz.prog 5 #[.slice A n cap] w fun e w' => e = .returned (.bool true) ∧ Below w.heap.size w w' := by
  go_enter Tryz.func5, Tryz.ntmps5
  go_wp2_with fail
  by_cases hbig : (1048576 : Int) < (n : Int)
  · refine (big_yes A n cap w hbig).mono ?_
    rintro e w' ⟨rfl, rfl⟩
    go_wp2_with fail
    go_ret
    exact ⟨rfl, Below.refl _ _⟩
  refine (big_no A n cap w hbig).mono ?_
  rintro e w' ⟨rfl, rfl⟩
  go_wp2_with fail
  with_reducible refine Calls.mono (drawClassify A n cap w h (by omega)) ?_
  rintro e w1 ⟨f, b, k, A', c, len, g, A1, n1, c1, A2, n2, c2, A3, n3, c3, A4, n4, c4, m, z, D, dc, t, hk, hl, ⟨m1, m2, m3, m4⟩, hm, rfl, hr, hp, hd, hb1⟩
  have hQ : ∀ x, w.heap.size ≤ x ∧ x < w1.heap.size → x < w1.heap.size := fun x q => q.2
  obtain ⟨z1, r1⟩ := hp.1.rd hQ
  obtain ⟨z2, r2⟩ := hp.2.1.rd hQ
  obtain ⟨z3, r3⟩ := hp.2.2.1.rd hQ
  obtain ⟨z4, r4⟩ := hp.2.2.2.rd hQ
  have hrT := hr.rdT hQ
  have hdd : Rd w1 w1.heap.size D m z := fun h0 => by
    obtain ⟨q, rfl, _, hw⟩ := hd h0
    exact (hw.rd hw.lt) h0
  have hbx := ((Below.refl w1.heap.size w1).alloc (Nat.le_refl _) (.cells #[.int .i64 f, .int .i64 b, .slice A' k c] 26)).alloc (by simp) (.cells #[.slice A1 n1 c1, .slice A2 n2 c2, .slice A3 n3 c3, .slice A4 n4 c4] 29)
  have e1 : Blk ((w1.alloc (.cells #[.int .i64 f, .int .i64 b, .slice A' k c] 26)).alloc (.cells #[.slice A1 n1 c1, .slice A2 n2 c2, .slice A3 n3 c3, .slice A4 n4 c4] 29)) w1.heap.size 26 #[.int .i64 f, .int .i64 b, .slice A' k c] := (Blk.new w1 _ _).alloc _
  have e2 : Blk ((w1.alloc (.cells #[.int .i64 f, .int .i64 b, .slice A' k c] 26)).alloc (.cells #[.slice A1 n1 c1, .slice A2 n2 c2, .slice A3 n3 c3, .slice A4 n4 c4] 29)) (w1.heap.size + 1) 29 #[.slice A1 n1 c1, .slice A2 n2 c2, .slice A3 n3 c3, .slice A4 n4 c4] := Blk.new2 w1 _ _ _
  have hwb := hb1.trans (hbx.mono hb1.size)
  have hrT1 := hrT.to hbx hbx.size
  have hP1 : RdP _ _ A1 n1 z1 A2 n2 z2 A3 n3 z3 A4 n4 z4 := (⟨r1, r2, r3, r4⟩ : RdP w1 w1.heap.size A1 n1 z1 A2 n2 z2 A3 n3 z3 A4 n4 z4).to hbx hbx.size
  have hd1 := hdd.to hbx hbx.size
  clear hr hp hd r1 r2 r3 r4 hrT hdd hQ hb1 hbx
  go_wp2_with fail
  obtain ⟨W1, hW1⟩ : ∃ W, (w1.alloc (.cells #[.int .i64 f, .int .i64 b, .slice A' k c] 26)).alloc (.cells #[.slice A1 n1 c1, .slice A2 n2 c2, .slice A3 n3 c3, .slice A4 n4 c4] 29) = W := ⟨_, rfl⟩
  rw [hW1] at e1 e2 hwb hrT1 hP1 hd1 ⊢
  obtain ⟨eb, heb⟩ : ∃ eb, w1.heap.size = eb := ⟨_, rfl⟩
  rw [heb] at e1 e2
  try rw [heb]
  clear hW1 heb
  have HL := hid hl
  have hk' : k ≤ 4194304 := by omega
  have hl' : Hid (∀ i, i < k → len i ≤ 4194304) := fun i hi => Nat.le_trans (HL.out i hi) (by omega)
  have hm' : m ≤ 4194304 := by omega
  have k1 : n1 ≤ 9223372036854775807 := by omega
  have k2 : n2 ≤ 9223372036854775807 := by omega
  have k3 : n3 ≤ 9223372036854775807 := by omega
  have k4 : n4 ≤ 9223372036854775807 := by omega
  obtain ⟨V, hV⟩ : ∃ V, clOk f b k len g n1 z1 n2 z2 n3 z3 n4 z4 m z t = V := ⟨_, rfl⟩
  have HV := hid hV
  clear hl hV
  obtain ⟨x0, x1, x2, y0, y1, y2, y3⟩ := ob_cells (Below.refl _ W1) e1 e2
  with_reducible refine Calls.mono (iClassify_any f b A' k c len g A1 n1 c1 z1 A2 n2 c2 z2 A3 n3 c3 z3 A4 n4 c4 z4 D m dc z t V W1 hrT1 hP1 hd1 hk' hl' k1 k2 k3 k4 hm' HV) ?_
  rintro e w2 ⟨B, a, s, q, rfl, hb2, hno, hyes⟩
  have HA : Hid (ClAns b k g z1 n2 z2 z3 z4 z t V B a s q) := ⟨hno, hyes⟩
  have s2 := Blk.new w2 33 #[.int .i64 a, .int .i64 s, .int .i64 q]
  have hB2 := hb2.alloc hb2.size (.cells #[.int .i64 a, .int .i64 s, .int .i64 q] 33)
  clear hb2 hno hyes x0 x1 x2 y0 y1 y2 y3
  obtain ⟨x0, x1, x2, y0, y1, y2, y3⟩ := ob_cells hB2 e1 e2
  go_wp2_with fail
  obtain ⟨W2, hW2⟩ : ∃ W, w2.alloc (.cells #[.int .i64 a, .int .i64 s, .int .i64 q] 33) = W := ⟨_, rfl⟩
  rw [hW2] at s2 hB2 x0 x1 x2 y0 y1 y2 y3 ⊢
  obtain ⟨sx, hsx⟩ : ∃ x, w2.heap.size = x := ⟨_, rfl⟩
  rw [hsx] at s2
  try rw [hsx]
  clear hW2 hsx
  with_reducible refine Calls.mono (sClassify_any f b A' k c len g A1 n1 c1 z1 A2 n2 c2 z2 A3 n3 c3 z3 A4 n4 c4 z4 D m dc z t V W2 (hrT1.to hB2 hB2.size) (hP1.to hB2 hB2.size) (hd1.to hB2 hB2.size) hk' hl' k1 k2 k3 k4 hm' HV) ?_
  rintro e w3 ⟨B', a', s', q', rfl, hb3, hno, hyes⟩
  obtain ⟨rfl, rfl, rfl, rfl⟩ := ClAns.same HA.out ⟨hno, hyes⟩
  have s3 := (s2.below hb3 s2.lt).alloc (.cells #[.int .i64 a, .int .i64 s, .int .i64 q] 33)
  have s3' := Blk.new w3 33 #[.int .i64 a, .int .i64 s, .int .i64 q]
  have hB3 := (hB2.trans (hb3.mono hB2.size)).alloc (by have := hb3.size; have := hB2.size; omega) (.cells #[.int .i64 a, .int .i64 s, .int .i64 q] 33)
  clear hb3 hno hyes s2 hB2 x0 x1 x2 y0 y1 y2 y3
  obtain ⟨u0, u1, u2⟩ := blk_three s3
  obtain ⟨v0, v1, v2⟩ := blk_three s3'
  have q1 : (B != B) = false := by simp
  have q2 : (V != V) = false := by simp
  have q3 : (B == B) = true := by simp
  have q4 : (V == V) = true := by simp
  have he := fun wx => eqSt a s q wx
  cases V with
  | false =>
    have HB3 := hid hB3
    clear hB3 s3 s3' HA HV
    go_wp2_with fail
    go_ret
    exact ⟨rfl, hwb.trans (HB3.out.mono hwb.size)⟩
  | true =>
    have hpl : planB f b k len g n1 z1 n2 z2 n3 z3 n4 z4 = true := by
      have hVt := HV.out
      unfold clOk at hVt
      rw [Bool.and_eq_true, Bool.and_eq_true] at hVt
      exact hVt.1.1
    have hfi : fitB f m z = true := by
      have hVt := HV.out
      unfold clOk at hVt
      rw [Bool.and_eq_true, Bool.and_eq_true] at hVt
      exact hVt.1.2
    obtain ⟨kk, LO, HI, rfl, hLO, hHI, hBt, hBf, hzero, hX⟩ := exit_at hpl hfi HA.out
    have HLO := hid hLO
    have HHI := hid hHI
    have HZ := hid hzero
    have HX := hid hX
    have HBT := hid hBt
    have HBF := hid hBf
    have HWB := hid hwb
    have E1 := e1
    have E2 := e2
    have hn2 : n2 ≤ 9223372036854775807 := k2
    clear hpl hfi hLO hHI hBt hBf hzero hX hwb e1 e2 HA HV
    obtain ⟨x0, x1, x2, y0, y1, y2, y3⟩ := ob_cells hB3 E1 E2
    go_wp2_with fail
    clear u0 u1 u2 v0 v1 v2 x0 x1 x2 y0 y1 y2 y3 he q1 q2 q3 q4 s3'
    obtain ⟨W3, hW3⟩ : ∃ W, w3.alloc (.cells #[.int .i64 (kk : Int), .int .i64 s, .int .i64 q] 33) = W := ⟨_, rfl⟩
    rw [hW3] at hB3 s3 ⊢
    clear hW3
    with_reducible refine Calls.mono (iBounds_any (kk : Int) s q f b A' k c len g A1 n1 c1 z1 A2 n2 c2 z2 A3 n3 c3 z3 A4 n4 c4 z4 W3 (hrT1.to hB3 hB3.size) (hP1.to hB3 hB3.size) hk' hl' k1 k2 k3 k4) ?_
    rintro e W4 ⟨rfl, hb4⟩
    rw [HLO.out, HHI.out]
    have HB4 := hid (hB3.trans (hb4.mono hB3.size))
    have S4 := hid (s3.below hb4 s3.lt)
    clear hb4 hB3 s3 HLO HHI
    cases B with
    | false =>
      have b1 := HBF.out rfl
      clear HBF HBT
      go_wp2_with fail
      go_loopw [15, 16] (fun l iv wr => ∃ i mm : Nat, i ≤ n2 ∧ l = .int .i64 (lastE z2 i) ∧ iv = .int .i64 (i : Nat) ∧ Hid (∀ j, j < i → z2 j < (kk : Int)) ∧ wr = W4.drewN mm) (fun _ iv _ => n2 - (intOf iv).toNat)
      case atStart => exact ⟨0, 0, Nat.zero_le _, rfl, rfl, fun j hj => absurd hj (Nat.not_lt_zero j), rfl⟩
      case round =>
        obtain ⟨i, mm, hi, rfl, rfl, HJ, rfl⟩ := hrel
        have hBr := below_drewN HB4.out mm
        obtain ⟨t0, t1, t2, t3⟩ := blk_four (E2.below HB4.out E2.lt)
        obtain ⟨u0, u1, u2⟩ := blk_three S4.out
        by_cases hin : i < n2
        · have rdE := hP1.e.to HB4.out HB4.out.size
          obtain ⟨bb, off, rfl, hbb, hcc⟩ := rdE.at_ hin
          have hi1 : (i : Int) < (n2 : Int) := by omega
          have hi0 : (0 : Int) ≤ (i : Int) := by omega
          by_cases hz : z2 i < (kk : Int)
          · have d1 : decide (z2 i < (kk : Int)) = true := decide_eq_true hz
            have HZ2 := hid hz
            clear hz rdE hBr
            go_wp2_with fail
            go_quiet (fail)
            go_wp2_with fail
            go_roundw
            case rel => exact ⟨i + 1, _, by omega, rfl, by go_num, fun j hj => by
              by_cases e : j = i
              · rw [e]; exact HZ2.out
              · exact HJ.out j (by omega), rfl⟩
            case measure => simp [intOf]; omega
          · have d1 : decide (z2 i < (kk : Int)) = false := decide_eq_false hz
            clear hz rdE
            go_wp2_with fail
            go_quiet (fail)
            clear hbb hcc
            have HB5 := hid (below_drewN hBr nq)
            have S5 := hid (S4.out.below (below_drewN (below_drewN (Below.refl _ W4) mm) nq) S4.out.lt)
            obtain ⟨W5, hW5⟩ : ∃ W, (W4.drewN mm).drewN nq = W := ⟨_, rfl⟩
            rw [hW5] at HB5 S5
            try rw [hW5]
            try (rw [World.drewN_drewN] at hW5; rw [hW5])
            clear hW5 hBr t0 t1 t2 t3 u0 u1 u2
            obtain ⟨u0, u1, u2⟩ := blk_three S5.out
            by_cases hk0 : kk = 0
            · obtain ⟨rfl, rfl⟩ := HZ.out hk0
              subst hk0
              go_wp2_with fail
              go_ret
              exact ⟨rfl, HWB.out.trans (HB5.out.mono HWB.out.size)⟩
            have hz0 : ((kk : Int) == 0) = false := by simpa using hk0
            obtain ⟨jj, S, C, lo, hi2, hlast, hok, hans, hlo, hhi, hd1', hd2'⟩ := HX.out i hi HJ.out (by omega)
            rw [hlast]
            have HOK := hid hok
            have HANS := hid hans
            have HLO2 := hid hlo
            have HHI2 := hid hhi
            clear hok hans hlo hhi hlast hk0
            obtain ⟨x0, x1, x2, y0, y1, y2, y3⟩ := ob_cells HB5.out E1 E2
            go_wp2_with fail
            with_reducible refine Calls.mono (iStateTo_any f b A' k c len g A1 n1 c1 z1 _ n2 c2 z2 A3 n3 c3 z3 A4 n4 c4 z4 D m dc z (jj : Int) true W5 (hrT1.to HB5.out HB5.out.size) (hP1.to HB5.out HB5.out.size) (hd1.to HB5.out HB5.out.size) hk' hl' k1 k2 k3 k4 hm' HOK) ?_
            rintro e w6 ⟨rfl, hb6⟩
            rw [HANS.out]
            have HB6 := hid (HB5.out.trans ((hb6.alloc hb6.size (.cells #[.int .i64 (jj : Int), .int .i64 S, .int .i64 C] 33)).mono HB5.out.size))
            have s6 := Blk.new w6 33 #[.int .i64 (jj : Int), .int .i64 S, .int .i64 C]
            clear hb6 x0 x1 x2 y0 y1 y2 y3 u0 u1 u2
            obtain ⟨x0, x1, x2, y0, y1, y2, y3⟩ := ob_cells HB6.out E1 E2
            obtain ⟨u0, u1, u2⟩ := blk_three s6
            go_wp2_with fail
            obtain ⟨W6, hW6⟩ : ∃ W, w6.alloc (.cells #[.int .i64 (jj : Int), .int .i64 S, .int .i64 C] 33) = W := ⟨_, rfl⟩
            rw [hW6] at HB6 ⊢
            clear hW6 x0 x1 x2 y0 y1 y2 y3 u0 u1 u2 s6
            with_reducible refine Calls.mono (iBounds_any (jj : Int) S C f b A' k c len g A1 n1 c1 z1 _ n2 c2 z2 A3 n3 c3 z3 A4 n4 c4 z4 W6 (hrT1.to HB6.out HB6.out.size) (hP1.to HB6.out HB6.out.size) hk' hl' k1 k2 k3 k4) ?_
            rintro e w7 ⟨rfl, hb7⟩
            rw [HLO2.out, HHI2.out]
            have HB7 := hid (HB6.out.trans (hb7.mono HB6.out.size))
            clear hb7 HB6
            go_wp2_with fail
            go_ret
            exact ⟨rfl, HWB.out.trans (HB7.out.mono HWB.out.size)⟩
        · have e : i = n2 := by omega
          have d1 : decide ((i : Int) < (n2 : Int)) = false := decide_eq_false (by omega)
          clear e
          go_wp2_with fail
          go_quiet (fail)
          have HB5 := hid (below_drewN hBr nq)
          have S5 := hid (S4.out.below (below_drewN (below_drewN (Below.refl _ W4) mm) nq) S4.out.lt)
          obtain ⟨W5, hW5⟩ : ∃ W, (W4.drewN mm).drewN nq = W := ⟨_, rfl⟩
          rw [hW5] at HB5 S5
          try rw [hW5]
          try (rw [World.drewN_drewN] at hW5; rw [hW5])
          clear hW5 hBr t0 t1 t2 t3 u0 u1 u2
          obtain ⟨u0, u1, u2⟩ := blk_three S5.out
          by_cases hk0 : kk = 0
          · obtain ⟨rfl, rfl⟩ := HZ.out hk0
            subst hk0
            go_wp2_with fail
            go_ret
            exact ⟨rfl, HWB.out.trans (HB5.out.mono HWB.out.size)⟩
          have hz0 : ((kk : Int) == 0) = false := by simpa using hk0
          obtain ⟨jj, S, C, lo, hi2, hlast, hok, hans, hlo, hhi, hd1', hd2'⟩ := HX.out i hi HJ.out (by omega)
          rw [hlast]
          have HOK := hid hok
          have HANS := hid hans
          have HLO2 := hid hlo
          have HHI2 := hid hhi
          clear hok hans hlo hhi hlast hk0
          obtain ⟨x0, x1, x2, y0, y1, y2, y3⟩ := ob_cells HB5.out E1 E2
          go_wp2_with fail
          with_reducible refine Calls.mono (iStateTo_any f b A' k c len g A1 n1 c1 z1 _ n2 c2 z2 A3 n3 c3 z3 A4 n4 c4 z4 D m dc z (jj : Int) true W5 (hrT1.to HB5.out HB5.out.size) (hP1.to HB5.out HB5.out.size) (hd1.to HB5.out HB5.out.size) hk' hl' k1 k2 k3 k4 hm' HOK) ?_
          rintro e w6 ⟨rfl, hb6⟩
          rw [HANS.out]
          have HB6 := hid (HB5.out.trans ((hb6.alloc hb6.size (.cells #[.int .i64 (jj : Int), .int .i64 S, .int .i64 C] 33)).mono HB5.out.size))
          have s6 := Blk.new w6 33 #[.int .i64 (jj : Int), .int .i64 S, .int .i64 C]
          clear hb6 x0 x1 x2 y0 y1 y2 y3 u0 u1 u2
          obtain ⟨x0, x1, x2, y0, y1, y2, y3⟩ := ob_cells HB6.out E1 E2
          obtain ⟨u0, u1, u2⟩ := blk_three s6
          go_wp2_with fail
          obtain ⟨W6, hW6⟩ : ∃ W, w6.alloc (.cells #[.int .i64 (jj : Int), .int .i64 S, .int .i64 C] 33) = W := ⟨_, rfl⟩
          rw [hW6] at HB6 ⊢
          clear hW6 x0 x1 x2 y0 y1 y2 y3 u0 u1 u2 s6
          with_reducible refine Calls.mono (iBounds_any (jj : Int) S C f b A' k c len g A1 n1 c1 z1 _ n2 c2 z2 A3 n3 c3 z3 A4 n4 c4 z4 W6 (hrT1.to HB6.out HB6.out.size) (hP1.to HB6.out HB6.out.size) hk' hl' k1 k2 k3 k4) ?_
          rintro e w7 ⟨rfl, hb7⟩
          rw [HLO2.out, HHI2.out]
          have HB7 := hid (HB6.out.trans (hb7.mono HB6.out.size))
          clear hb7 HB6
          go_wp2_with fail
          go_ret
          exact ⟨rfl, HWB.out.trans (HB7.out.mono HWB.out.size)⟩
    | true =>
      have b1 := HBT.out rfl
      clear HBF HBT
      go_wp2_with fail
      go_loopw [15, 16] (fun l iv wr => ∃ i mm : Nat, i ≤ n2 ∧ l = .int .i64 (lastE z2 i) ∧ iv = .int .i64 (i : Nat) ∧ Hid (∀ j, j < i → z2 j < (kk : Int)) ∧ wr = W4.drewN mm) (fun _ iv _ => n2 - (intOf iv).toNat)
      case atStart => exact ⟨0, 0, Nat.zero_le _, rfl, rfl, fun j hj => absurd hj (Nat.not_lt_zero j), rfl⟩
      case round =>
        obtain ⟨i, mm, hi, rfl, rfl, HJ, rfl⟩ := hrel
        have hBr := below_drewN HB4.out mm
        obtain ⟨t0, t1, t2, t3⟩ := blk_four (E2.below HB4.out E2.lt)
        obtain ⟨u0, u1, u2⟩ := blk_three S4.out
        by_cases hin : i < n2
        · have rdE := hP1.e.to HB4.out HB4.out.size
          obtain ⟨bb, off, rfl, hbb, hcc⟩ := rdE.at_ hin
          have hi1 : (i : Int) < (n2 : Int) := by omega
          have hi0 : (0 : Int) ≤ (i : Int) := by omega
          by_cases hz : z2 i < (kk : Int)
          · have d1 : decide (z2 i < (kk : Int)) = true := decide_eq_true hz
            have HZ2 := hid hz
            clear hz rdE hBr
            go_wp2_with fail
            go_quiet (fail)
            go_wp2_with fail
            go_roundw
            case rel => exact ⟨i + 1, _, by omega, rfl, by go_num, fun j hj => by
              by_cases e : j = i
              · rw [e]; exact HZ2.out
              · exact HJ.out j (by omega), rfl⟩
            case measure => simp [intOf]; omega
          · have d1 : decide (z2 i < (kk : Int)) = false := decide_eq_false hz
            clear hz rdE
            go_wp2_with fail
            go_quiet (fail)
            clear hbb hcc
            have HB5 := hid (below_drewN hBr nq)
            have S5 := hid (S4.out.below (below_drewN (below_drewN (Below.refl _ W4) mm) nq) S4.out.lt)
            obtain ⟨W5, hW5⟩ : ∃ W, (W4.drewN mm).drewN nq = W := ⟨_, rfl⟩
            rw [hW5] at HB5 S5
            try rw [hW5]
            try (rw [World.drewN_drewN] at hW5; rw [hW5])
            clear hW5 hBr t0 t1 t2 t3 u0 u1 u2
            obtain ⟨u0, u1, u2⟩ := blk_three S5.out
            by_cases hk0 : kk = 0
            · obtain ⟨rfl, rfl⟩ := HZ.out hk0
              subst hk0
              go_wp2_with fail
              go_ret
              exact ⟨rfl, HWB.out.trans (HB5.out.mono HWB.out.size)⟩
            have hz0 : ((kk : Int) == 0) = false := by simpa using hk0
            obtain ⟨jj, S, C, lo, hi2, hlast, hok, hans, hlo, hhi, hd1', hd2'⟩ := HX.out i hi HJ.out (by omega)
            rw [hlast]
            have HOK := hid hok
            have HANS := hid hans
            have HLO2 := hid hlo
            have HHI2 := hid hhi
            clear hok hans hlo hhi hlast hk0
            obtain ⟨x0, x1, x2, y0, y1, y2, y3⟩ := ob_cells HB5.out E1 E2
            go_wp2_with fail
            with_reducible refine Calls.mono (iStateTo_any f b A' k c len g A1 n1 c1 z1 _ n2 c2 z2 A3 n3 c3 z3 A4 n4 c4 z4 D m dc z (jj : Int) true W5 (hrT1.to HB5.out HB5.out.size) (hP1.to HB5.out HB5.out.size) (hd1.to HB5.out HB5.out.size) hk' hl' k1 k2 k3 k4 hm' HOK) ?_
            rintro e w6 ⟨rfl, hb6⟩
            rw [HANS.out]
            have HB6 := hid (HB5.out.trans ((hb6.alloc hb6.size (.cells #[.int .i64 (jj : Int), .int .i64 S, .int .i64 C] 33)).mono HB5.out.size))
            have s6 := Blk.new w6 33 #[.int .i64 (jj : Int), .int .i64 S, .int .i64 C]
            clear hb6 x0 x1 x2 y0 y1 y2 y3 u0 u1 u2
            obtain ⟨x0, x1, x2, y0, y1, y2, y3⟩ := ob_cells HB6.out E1 E2
            obtain ⟨u0, u1, u2⟩ := blk_three s6
            go_wp2_with fail
            obtain ⟨W6, hW6⟩ : ∃ W, w6.alloc (.cells #[.int .i64 (jj : Int), .int .i64 S, .int .i64 C] 33) = W := ⟨_, rfl⟩
            rw [hW6] at HB6 ⊢
            clear hW6 x0 x1 x2 y0 y1 y2 y3 u0 u1 u2 s6
            with_reducible refine Calls.mono (iBounds_any (jj : Int) S C f b A' k c len g A1 n1 c1 z1 _ n2 c2 z2 A3 n3 c3 z3 A4 n4 c4 z4 W6 (hrT1.to HB6.out HB6.out.size) (hP1.to HB6.out HB6.out.size) hk' hl' k1 k2 k3 k4) ?_
            rintro e w7 ⟨rfl, hb7⟩
            rw [HLO2.out, HHI2.out]
            have HB7 := hid (HB6.out.trans (hb7.mono HB6.out.size))
            clear hb7 HB6
            go_wp2_with fail
            go_ret
            exact ⟨rfl, HWB.out.trans (HB7.out.mono HWB.out.size)⟩
        · have e : i = n2 := by omega
          have d1 : decide ((i : Int) < (n2 : Int)) = false := decide_eq_false (by omega)
          clear e
          go_wp2_with fail
          go_quiet (fail)
          have HB5 := hid (below_drewN hBr nq)
          have S5 := hid (S4.out.below (below_drewN (below_drewN (Below.refl _ W4) mm) nq) S4.out.lt)
          obtain ⟨W5, hW5⟩ : ∃ W, (W4.drewN mm).drewN nq = W := ⟨_, rfl⟩
          rw [hW5] at HB5 S5
          try rw [hW5]
          try (rw [World.drewN_drewN] at hW5; rw [hW5])
          clear hW5 hBr t0 t1 t2 t3 u0 u1 u2
          obtain ⟨u0, u1, u2⟩ := blk_three S5.out
          by_cases hk0 : kk = 0
          · obtain ⟨rfl, rfl⟩ := HZ.out hk0
            subst hk0
            go_wp2_with fail
            go_ret
            exact ⟨rfl, HWB.out.trans (HB5.out.mono HWB.out.size)⟩
          have hz0 : ((kk : Int) == 0) = false := by simpa using hk0
          obtain ⟨jj, S, C, lo, hi2, hlast, hok, hans, hlo, hhi, hd1', hd2'⟩ := HX.out i hi HJ.out (by omega)
          rw [hlast]
          have HOK := hid hok
          have HANS := hid hans
          have HLO2 := hid hlo
          have HHI2 := hid hhi
          clear hok hans hlo hhi hlast hk0
          obtain ⟨x0, x1, x2, y0, y1, y2, y3⟩ := ob_cells HB5.out E1 E2
          go_wp2_with fail
          with_reducible refine Calls.mono (iStateTo_any f b A' k c len g A1 n1 c1 z1 _ n2 c2 z2 A3 n3 c3 z3 A4 n4 c4 z4 D m dc z (jj : Int) true W5 (hrT1.to HB5.out HB5.out.size) (hP1.to HB5.out HB5.out.size) (hd1.to HB5.out HB5.out.size) hk' hl' k1 k2 k3 k4 hm' HOK) ?_
          rintro e w6 ⟨rfl, hb6⟩
          rw [HANS.out]
          have HB6 := hid (HB5.out.trans ((hb6.alloc hb6.size (.cells #[.int .i64 (jj : Int), .int .i64 S, .int .i64 C] 33)).mono HB5.out.size))
          have s6 := Blk.new w6 33 #[.int .i64 (jj : Int), .int .i64 S, .int .i64 C]
          clear hb6 x0 x1 x2 y0 y1 y2 y3 u0 u1 u2
          obtain ⟨x0, x1, x2, y0, y1, y2, y3⟩ := ob_cells HB6.out E1 E2
          obtain ⟨u0, u1, u2⟩ := blk_three s6
          go_wp2_with fail
          obtain ⟨W6, hW6⟩ : ∃ W, w6.alloc (.cells #[.int .i64 (jj : Int), .int .i64 S, .int .i64 C] 33) = W := ⟨_, rfl⟩
          rw [hW6] at HB6 ⊢
          clear hW6 x0 x1 x2 y0 y1 y2 y3 u0 u1 u2 s6
          with_reducible refine Calls.mono (iBounds_any (jj : Int) S C f b A' k c len g A1 n1 c1 z1 _ n2 c2 z2 A3 n3 c3 z3 A4 n4 c4 z4 W6 (hrT1.to HB6.out HB6.out.size) (hP1.to HB6.out HB6.out.size) hk' hl' k1 k2 k3 k4) ?_
          rintro e w7 ⟨rfl, hb7⟩
          rw [HLO2.out, HHI2.out]
          have HB7 := hid (HB6.out.trans (hb7.mono HB6.out.size))
          clear hb7 HB6
          go_wp2_with fail
          go_ret
          exact ⟨rfl, HWB.out.trans (HB7.out.mono HWB.out.size)⟩
end Go.Proofs.YtlgomifpohdniaaGreat
