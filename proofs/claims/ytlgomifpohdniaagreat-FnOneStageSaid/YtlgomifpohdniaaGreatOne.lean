/- The walk of the law of plans of one stage. -/
import Derived.Test.YtlgomifpohdniaaGreatCls
namespace Go.Proofs.YtlgomifpohdniaaGreat
open Go.RowKit Go.Deep
set_option linter.unusedVariables false
set_option linter.unusedSimpArgs false

/-- Both sides' plan of one stage. -/
theorem planOf_stage (f b : Int) (n : Nat) (len : Nat → Nat) (g : Nat → Nat → Nd) (hn : n ≤ 4194304) (hlen : Hid (∀ i, i < n → len i ≤ 4194304)) (Y : Bool) (hY : planY f b 2 12 n len g = Y) :
    ∃ (N1 N2 N3 : Nat) (z1 z2 z3 z4 : Nat → Int), (N1 ≤ 13 ∧ N2 ≤ 13 ∧ N3 ≤ 13) ∧ (Y = true → N2 ≤ 1 ∧ n ≤ 12 ∧ planB f b n len g N1 z1 N2 z2 N3 z3 N3 z4 = true) ∧
      (∀ A c w, RdT w w.heap.size A n len g → Calls Tryz.prog 19 #[enV f b A n c, .int .i64 2, .int .i64 12] w (PlP2 w N1 N2 N3 z1 z2 z3 z4 Y)) ∧
      (∀ A c w, RdT w w.heap.size A n len g → Calls Tryz.prog 21 #[enV f b A n c, .int .i64 2, .int .i64 12] w (PlP2 w N1 N2 N3 z1 z2 z3 z4 Y)) := by
  cases Y with
  | false =>
    obtain ⟨HI, HS⟩ := planOf_no2 f b 2 12 n len g hn hlen hY (fun _ => 0)
    exact ⟨0, 0, 0, _, _, _, _, ⟨by omega, by omega, by omega⟩, fun h => (by cases h), HI, HS⟩
  | true =>
    have hy := hY
    unfold planY at hy
    rw [Bool.and_eq_true] at hy
    have hE := (polB_true hy.1).1
    have hn12 := (ensB_iff.1 hE).2.2.1
    have hN : endN n 12 ≤ 1 := by
      unfold endN
      split
      · omega
      · omega
    refine ⟨n, endN n 12, n + 1, ordZ 2 len g n, endZ n 12, tabLo len g (ordF (wtF 2 len g) n) n, tabHi len g (ordF (wtF 2 len g) n) n, ⟨by omega, by omega, by omega⟩, fun _ => ⟨hN, hn12, planB_made hE (by omega)⟩, fun A c w h => ?_, fun A c w h => ?_⟩
    · exact (iPlanOf_yes f b 2 12 A n c len g w h hn hlen hY).mono fun _ _ ⟨A1, c1, A2, c2, A3, c3, A4, c4, he, ho, hb⟩ => ⟨A1, c1, A2, c2, A3, c3, A4, c4, he, ho.rdP, hb⟩
    · exact (sPlanOf_yes f b 2 12 A n c len g w h hn hlen hY).mono fun _ _ ⟨A1, c1, A2, c2, A3, c3, A4, c4, he, ho, hb⟩ => ⟨A1, c1, A2, c2, A3, c3, A4, c4, he, ho.rdP, hb⟩
/-- With one stage it is asked at the beginning or at the end. -/
theorem one_at {f b : Int} {n : Nat} {len : Nat → Nat} {g : Nat → Nat → Nd} {n1 n2 n3 n4 : Nat} {z1 z2 z3 z4 z : Nat → Int} {t : Int} {B : Bool} {a s q : Int} (h : planB f b n len g n1 z1 n2 z2 n3 z3 n4 z4 = true) (h2 : n2 ≤ 1) (hA : ClAns b n g z1 n2 z2 z3 z4 z t true B a s q) : a = 0 ∨ a = (n : Int) := by
  unfold planB at h
  simp only [Bool.and_eq_true, decide_eq_true_eq] at h
  have hE := endsAt_of h.2.2.1
  obtain ⟨k, hk, -, e, -, -⟩ := hA.2 rfl
  obtain ⟨i, hi, e'⟩ := hE.st.1 hk.2.1
  rw [e, ← e']
  by_cases q : i = n2
  · right
    rw [q, hE.last]
  · left
    have : i = 0 := by omega
    rw [this]
    rfl
/-- Nothing of W1 is written; two plans lie in their boxes. -/
def P2 (W1 : World) (pb : Nat) (pc : Array Value) (qb : Nat) (qc : Array Value) (W : World) : Prop := Below W1.heap.size W1 W ∧ Blk W pb 29 pc ∧ Blk W qb 29 qc
theorem P2.bel {W1 W : World} {pb qb : Nat} {pc qc : Array Value} (h : P2 W1 pb pc qb qc W) : Below W1.heap.size W1 W := h.1
theorem stb_P2 {W1 : World} {pb qb : Nat} {pc qc : Array Value} : Stb (P2 W1 pb pc qb qc) := stb_bel.and (stb_blk.and stb_blk)

set_option maxRecDepth 100000 in
set_option maxHeartbeats 8000000 in
theorem lawOneStage (A : Option Addr) (n cap : Nat) (w : World) (h : Bs w w.heap.size A n) :
    Calls Tryz.prog 6 #[.slice A n cap] w fun e w' => e = .returned (.bool true) ∧ Below w.heap.size w w' := by
  go_enter Tryz.func6, Tryz.ntmps6
  go_wp2_with fail
  by_cases hbig : (1048576 : Int) < (n : Int)
  · refine (big_yes A n cap w hbig).mono ?_
    rintro e w' ⟨rfl, rfl⟩
    go_wp2_with fail
    go_ret
    exact ⟨rfl, Below.refl _ _⟩
  refine (big_no A n cap w hbig).mono ?_
  rintro e w' ⟨rfl, rfl⟩
  go_wp2_with fail
  with_reducible refine Calls.mono (drawClassify A n cap w h (by omega)) ?_
  rintro e w1 ⟨f, b, k, A', c, len, g, A1, n1, c1, A2, n2, c2, A3, n3, c3, A4, n4, c4, m, z, D, dc, t, hk, hl, ⟨m1, m2, m3, m4⟩, hm, rfl, hr, hp, hd, hb1⟩
  have hQ : ∀ x, w.heap.size ≤ x ∧ x < w1.heap.size → x < w1.heap.size := fun x q => q.2
  obtain ⟨z1, r1⟩ := hp.1.rd hQ
  obtain ⟨z2, r2⟩ := hp.2.1.rd hQ
  obtain ⟨z3, r3⟩ := hp.2.2.1.rd hQ
  obtain ⟨z4, r4⟩ := hp.2.2.2.rd hQ
  have hrT := hr.rdT hQ
  have hdd : Rd w1 w1.heap.size D m z := fun h0 => by
    obtain ⟨q, rfl, _, hw⟩ := hd h0
    exact (hw.rd hw.lt) h0
  have hbx := ((Below.refl w1.heap.size w1).alloc (Nat.le_refl _) (.cells #[.int .i64 f, .int .i64 b, .slice A' k c] 26)).alloc (by simp) (.cells #[.slice A1 n1 c1, .slice A2 n2 c2, .slice A3 n3 c3, .slice A4 n4 c4] 29)
  have e1 : Blk ((w1.alloc (.cells #[.int .i64 f, .int .i64 b, .slice A' k c] 26)).alloc (.cells #[.slice A1 n1 c1, .slice A2 n2 c2, .slice A3 n3 c3, .slice A4 n4 c4] 29)) w1.heap.size 26 #[.int .i64 f, .int .i64 b, .slice A' k c] := (Blk.new w1 _ _).alloc _
  have e2 : Blk ((w1.alloc (.cells #[.int .i64 f, .int .i64 b, .slice A' k c] 26)).alloc (.cells #[.slice A1 n1 c1, .slice A2 n2 c2, .slice A3 n3 c3, .slice A4 n4 c4] 29)) (w1.heap.size + 1) 29 #[.slice A1 n1 c1, .slice A2 n2 c2, .slice A3 n3 c3, .slice A4 n4 c4] := Blk.new2 w1 _ _ _
  have hwb := hb1.trans (hbx.mono hb1.size)
  have hrT1 := hrT.to hbx hbx.size
  have hP1 : RdP _ _ A1 n1 z1 A2 n2 z2 A3 n3 z3 A4 n4 z4 := (⟨r1, r2, r3, r4⟩ : RdP w1 w1.heap.size A1 n1 z1 A2 n2 z2 A3 n3 z3 A4 n4 z4).to hbx hbx.size
  have hd1 := hdd.to hbx hbx.size
  clear hr hp hd r1 r2 r3 r4 hrT hdd hQ hb1 hbx
  go_wp2_with fail
  obtain ⟨W1, hW1⟩ : ∃ W, (w1.alloc (.cells #[.int .i64 f, .int .i64 b, .slice A' k c] 26)).alloc (.cells #[.slice A1 n1 c1, .slice A2 n2 c2, .slice A3 n3 c3, .slice A4 n4 c4] 29) = W := ⟨_, rfl⟩
  rw [hW1] at e1 e2 hwb hrT1 hP1 hd1 ⊢
  obtain ⟨eb, heb⟩ : ∃ eb, w1.heap.size = eb := ⟨_, rfl⟩
  rw [heb] at e1 e2
  try rw [heb]
  clear hW1 heb
  have HL := hid hl
  have hk' : k ≤ 4194304 := by omega
  have hl' : Hid (∀ i, i < k → len i ≤ 4194304) := fun i hi => Nat.le_trans (HL.out i hi) (by omega)
  have hm' : m ≤ 4194304 := by omega
  obtain ⟨Y, hY⟩ : ∃ Y, planY f b 2 12 k len g = Y := ⟨_, rfl⟩
  obtain ⟨N1, N2, N3, y1, y2, y3, y4, ⟨i1, i2, i3⟩, hyes, HI, HS⟩ := planOf_stage f b k len g hk' hl' Y hY
  have HYES := hid hyes
  have E1 := e1
  clear hl hY hyes e2
  with_reducible refine Calls.mono (HI A' c W1 hrT1) ?_
  rintro e w2 ⟨I1, p1, I2, p2, I3, p3, I4, p4, rfl, hp2, hb2⟩
  have hx2 := (Below.refl w2.heap.size w2).alloc (Nat.le_refl _) (.cells #[.slice I1 N1 p1, .slice I2 N2 p2, .slice I3 N3 p3, .slice I4 N3 p4] 29)
  have hB2 := hb2.alloc hb2.size (.cells #[.slice I1 N1 p1, .slice I2 N2 p2, .slice I3 N3 p3, .slice I4 N3 p4] 29)
  have P2a := Blk.new w2 29 #[.slice I1 N1 p1, .slice I2 N2 p2, .slice I3 N3 p3, .slice I4 N3 p4]
  have R2 := hp2.to hx2 hx2.size
  obtain ⟨x0, x1, x2⟩ := ens_cells hB2 E1
  clear e1 hb2 hp2 hx2 HI
  go_wp2_with fail
  obtain ⟨W2, hW2⟩ : ∃ W, w2.alloc (.cells #[.slice I1 N1 p1, .slice I2 N2 p2, .slice I3 N3 p3, .slice I4 N3 p4] 29) = W := ⟨_, rfl⟩
  rw [hW2] at hB2 P2a R2 x0 x1 x2 ⊢
  obtain ⟨pb, hpb⟩ : ∃ x, w2.heap.size = x := ⟨_, rfl⟩
  rw [hpb] at P2a
  try rw [hpb]
  clear hW2 hpb
  with_reducible refine Calls.mono (HS A' c W2 (hrT1.to hB2 hB2.size)) ?_
  rintro e w3 ⟨S1, q1, S2, q2, S3, q3, S4, q4, rfl, hp3, hb3⟩
  have hx3 := (Below.refl w3.heap.size w3).alloc (Nat.le_refl _) (.cells #[.slice S1 N1 q1, .slice S2 N2 q2, .slice S3 N3 q3, .slice S4 N3 q4] 29)
  have hb3' := hb3.alloc hb3.size (.cells #[.slice S1 N1 q1, .slice S2 N2 q2, .slice S3 N3 q3, .slice S4 N3 q4] 29)
  have O3 : P2 W1 pb #[.slice I1 N1 p1, .slice I2 N2 p2, .slice I3 N3 p3, .slice I4 N3 p4] w3.heap.size #[.slice S1 N1 q1, .slice S2 N2 q2, .slice S3 N3 q3, .slice S4 N3 q4] (w3.alloc (.cells #[.slice S1 N1 q1, .slice S2 N2 q2, .slice S3 N3 q3, .slice S4 N3 q4] 29)) := ⟨hB2.trans (hb3'.mono hB2.size), P2a.below hb3' P2a.lt, Blk.new w3 _ _⟩
  have R3 := R2.to hb3' hb3'.size
  have Q3 := hp3.to hx3 hx3.size
  clear hb3 hb3' hp3 hx3 HS P2a hB2 R2 x0 x1 x2
  obtain ⟨x0, x1, x2⟩ := ens_cells O3.1 E1
  obtain ⟨⟨u0, u1, u2, u3⟩, f0, f1, f2, f3⟩ := blk_cells4 O3.2.1
  obtain ⟨⟨v0, v1, v2, v3⟩, g0, g1, g2, g3⟩ := blk_cells4 O3.2.2
  have b1 : (Y != Y) = false := by simp
  have b2 : (Y == Y) = true := by simp
  have HO3 := hid O3
  clear O3
  go_wp2_with fail
  obtain ⟨W3, hW3⟩ : ∃ W, w3.alloc (.cells #[.slice S1 N1 q1, .slice S2 N2 q2, .slice S3 N3 q3, .slice S4 N3 q4] 29) = W := ⟨_, rfl⟩
  rw [hW3] at HO3 R3 Q3 ⊢
  clear hW3 x0 x1 x2 u0 u1 u2 u3 f0 f1 f2 f3 v0 v1 v2 v3 g0 g1 g2 g3
  obtain ⟨qb, hqb⟩ : ∃ x, w3.heap.size = x := ⟨_, rfl⟩
  rw [hqb] at HO3
  try rw [hqb]
  clear hqb
  with_reducible refine Calls.mono (samePlan_any I1 N1 p1 y1 I2 N2 p2 y2 I3 N3 p3 y3 I4 N3 p4 y4 S1 q1 S2 q2 S3 q3 S4 q4 W3 R3 Q3 (by omega) (by omega) (by omega) (by omega)) ?_
  rintro e w4 ⟨rfl, hb4⟩
  have HO4 := hid (stb_P2 _ _ HO3.out hb4)
  have R4 := R3.to hb4 hb4.size
  have Q4 := Q3.to hb4 hb4.size
  clear HO3 R3 Q3 hb4
  obtain ⟨x0, x1, x2⟩ := ens_cells HO4.out.1 E1
  obtain ⟨⟨u0, u1, u2, u3⟩, f0, f1, f2, f3⟩ := blk_cells4 HO4.out.2.1
  obtain ⟨⟨v0, v1, v2, v3⟩, g0, g1, g2, g3⟩ := blk_cells4 HO4.out.2.2
  have HWB := hid hwb
  clear hwb
  cases Y with
  | false =>
    clear b1 b2
    go_wp2_with fail
    with_reducible refine Calls.mono (samePlan_any I1 N1 p1 y1 I2 N2 p2 y2 I3 N3 p3 y3 I4 N3 p4 y4 S1 q1 S2 q2 S3 q3 S4 q4 w4 R4 Q4 (by omega) (by omega) (by omega) (by omega)) ?_
    rintro e w5 ⟨rfl, hb5⟩
    have HB5 := hid (HO4.out.1.trans (hb5.mono HO4.out.1.size))
    clear hb5 R4 Q4 x0 x1 x2 u0 u1 u2 u3 f0 f1 f2 f3 v0 v1 v2 v3 g0 g1 g2 g3
    go_wp2_with fail
    go_ret
    exact ⟨rfl, HWB.out.trans (HB5.out.mono HWB.out.size)⟩
  | true =>
    clear b1 b2
    obtain ⟨hN2, hk12, hpl⟩ := HYES.out rfl
    have HPL := hid hpl
    obtain ⟨V, hV⟩ : ∃ V, clOk f b k len g N1 y1 N2 y2 N3 y3 N3 y4 m z t = V := ⟨_, rfl⟩
    have HV := hid hV
    clear hpl hV
    go_wp2_with fail
    with_reducible refine Calls.mono (iClassify_any f b A' k c len g I1 N1 p1 y1 I2 N2 p2 y2 I3 N3 p3 y3 I4 N3 p4 y4 D m dc z t V w4 (hrT1.to HO4.out.bel HO4.out.bel.size) R4 (hd1.to HO4.out.bel HO4.out.bel.size) hk' hl' (by omega) (by omega) (by omega) (by omega) hm' HV) ?_
    rintro e w5 ⟨B, a, s, q, rfl, hb5, hno, hyes⟩
    have HA : Hid (ClAns b k g y1 N2 y2 y3 y4 z t V B a s q) := ⟨hno, hyes⟩
    have hb5' := hb5.alloc hb5.size (.cells #[.int .i64 a, .int .i64 s, .int .i64 q] 33)
    have HO5 := hid (stb_P2 _ _ HO4.out hb5')
    have R5 := R4.to hb5' hb5'.size
    have s5 := Blk.new w5 33 #[.int .i64 a, .int .i64 s, .int .i64 q]
    clear hb5 hb5' hno hyes x0 x1 x2 u0 u1 u2 u3 f0 f1 f2 f3 v0 v1 v2 v3 g0 g1 g2 g3 R4 Q4
    obtain ⟨x0, x1, x2⟩ := ens_cells HO5.out.1 E1
    obtain ⟨⟨u0, u1, u2, u3⟩, f0, f1, f2, f3⟩ := blk_cells4 HO5.out.2.1
    go_wp2_with fail
    obtain ⟨W5, hW5⟩ : ∃ W, w5.alloc (.cells #[.int .i64 a, .int .i64 s, .int .i64 q] 33) = W := ⟨_, rfl⟩
    rw [hW5] at HO5 R5 s5 ⊢
    obtain ⟨sx, hsx⟩ : ∃ x, w5.heap.size = x := ⟨_, rfl⟩
    rw [hsx] at s5
    try rw [hsx]
    clear hW5 hsx x0 x1 x2 u0 u1 u2 u3 f0 f1 f2 f3
    with_reducible refine Calls.mono (sClassify_any f b A' k c len g I1 N1 p1 y1 I2 N2 p2 y2 I3 N3 p3 y3 I4 N3 p4 y4 D m dc z t V W5 (hrT1.to HO5.out.bel HO5.out.bel.size) R5 (hd1.to HO5.out.bel HO5.out.bel.size) hk' hl' (by omega) (by omega) (by omega) (by omega) hm' HV) ?_
    rintro e w6 ⟨B', a', s', q', rfl, hb6, hno, hyes⟩
    obtain ⟨rfl, rfl, rfl, rfl⟩ := ClAns.same HA.out ⟨hno, hyes⟩
    have s6 := (s5.below hb6 s5.lt).alloc (.cells #[.int .i64 a, .int .i64 s, .int .i64 q] 33)
    have s6' := Blk.new w6 33 #[.int .i64 a, .int .i64 s, .int .i64 q]
    have HO6 := hid (stb_P2 _ _ HO5.out (hb6.alloc hb6.size (.cells #[.int .i64 a, .int .i64 s, .int .i64 q] 33)))
    clear hb6 hno hyes R5 s5 HO5
    obtain ⟨x0, x1, x2⟩ := ens_cells HO6.out.1 E1
    obtain ⟨⟨u0, u1, u2, u3⟩, f0, f1, f2, f3⟩ := blk_cells4 HO6.out.2.1
    obtain ⟨c0, c1', c2'⟩ := blk_three s6
    obtain ⟨d0, d1, d2⟩ := blk_three s6'
    have he := fun wx => eqSt a s q wx
    have b4 : (V == V) = true := by simp
    have b5 : decide ((N2 : Int) ≤ 1) = true := decide_eq_true (by omega)
    have b5' : ((N2 : Int) ≤ 1) := by omega
    clear s6 s6'
    cases V with
    | false =>
      clear HA HV
      go_wp2_with fail
      go_ret
      exact ⟨rfl, HWB.out.trans (HO6.out.1.mono HWB.out.size)⟩
    | true =>
      have hat := one_at HPL.out hN2 HA.out
      clear HA HV HPL
      by_cases h0 : a = 0
      · subst h0
        clear hat
        go_wp2_with fail
        go_ret
        exact ⟨rfl, HWB.out.trans (HO6.out.1.mono HWB.out.size)⟩
      · have hak : a = (k : Int) := by omega
        subst hak
        have b6 : ((k : Int) == 0) = false := by simpa using h0
        have b7 : ((k : Int) == (k : Int)) = true := by simp
        clear hat h0
        go_wp2_with fail
        go_ret
        exact ⟨rfl, HWB.out.trans (HO6.out.1.mono HWB.out.size)⟩
end Go.Proofs.YtlgomifpohdniaaGreat
