/- The walk of the law of thresholds. -/
import Derived.Test.YtlgomifpohdniaaClQ
import Derived.Test.YtlgomifpohdniaaSdF
import Derived.Deep.RegionHeld3
namespace Go.Proofs.Ytlgomifpohdniaa
open Go.RowKit Go.Deep
set_option linter.unusedVariables false
set_option linter.unusedSimpArgs false

theorem eqSt (a s q : Int) (w : World) : (Op.equalIn 10000 31 (.agg #[.int .i64 a, .int .i64 s, .int .i64 q]) (.agg #[.int .i64 a, .int .i64 s, .int .i64 q])).run Try.prog w = .ok true w := by
  have u2 := Try.underlying2
  have p2 := Try.isAgg2
  have z2 := Try.sizeOf2
  have hS : Try.prog.underlying 31 = some (.struct (Try.prog.fieldsOf 31)) := by kernel_rfl
  have hp : Try.prog.stoodInHeld 31 = false := by kernel_rfl
  rw [show (10000 : Nat) = 9999 + 1 from rfl, run_equalIn_agg w 9999 31 _ _ hS hp]
  simp only [Program.fieldsOf, Try.underlying31]
  go_simp
  try simp

/-- Nothing that lay in W1 is written; a state's block of the call's own, if it is there. -/
def OB (W1 : World) (q : Option Nat) (W : World) : Prop := Below W1.heap.size W1 W ∧ ∀ x, q = some x → W1.heap.size ≤ x ∧ Blk W x 31 #[.int .i64 0, .int .i64 0, .int .i64 0]
section
variable {W1 W : World} {q : Option Nat} {x : Nat}
theorem stb_OB : Stb (OB W1 q) := stb_bel.and stb_opt
theorem OB.bel (h : OB W1 q W) : Below W1.heap.size W1 W := h.1
theorem OB.alloc (h : OB W1 none W) : OB W1 (some W.heap.size) (W.alloc (.cells #[.int .i64 0, .int .i64 0, .int .i64 0] 31)) := ⟨h.1.alloc h.1.size _, fun x e => by
  injection e with e
  subst e
  exact ⟨h.1.size, Blk.new W _ _⟩⟩
theorem OB.old (h : OB W1 (some x) W) : (W.cell? ⟨x, 0, none⟩ = some (.int .i64 0) ∧ W.cell? ⟨x, 1, none⟩ = some (.int .i64 0) ∧ W.cell? ⟨x, 2, none⟩ = some (.int .i64 0)) ∧ W.frozen? ⟨x, 0, none⟩ = false ∧ W.frozen? ⟨x, 1, none⟩ = false ∧ W.frozen? ⟨x, 2, none⟩ = false :=
  ⟨⟨(h.2 x rfl).2.cell 0, (h.2 x rfl).2.cell 1, (h.2 x rfl).2.cell 2⟩, (h.2 x rfl).2.frozen 0, (h.2 x rfl).2.frozen 1, (h.2 x rfl).2.frozen 2⟩
theorem OB.put (h : OB W1 (some x) W) (u0 u1 u2 : Value) : Below W1.heap.size W1 (((W.setCell ⟨x, 0, none⟩ u0).setCell ⟨x, 1, none⟩ u1).setCell ⟨x, 2, none⟩ u2) := by
  have hx := (h.2 x rfl).1
  exact ((h.1.setCell (p := ⟨x, 0, none⟩) hx _).setCell (p := ⟨x, 1, none⟩) hx _).setCell (p := ⟨x, 2, none⟩) hx _
end
/-- The seven cells of an ensemble and a plan. -/
theorem ob_cells {W1 W : World} {eb pb : Nat} {x0 x1 x2 y0 y1 y2 y3 : Value} (h : Below W1.heap.size W1 W) (h1 : Blk W1 eb 36 #[x0, x1, x2]) (h2 : Blk W1 pb 38 #[y0, y1, y2, y3]) :
    W.cell? ⟨eb, 0, none⟩ = some x0 ∧ W.cell? ⟨eb, 1, none⟩ = some x1 ∧ W.cell? ⟨eb, 2, none⟩ = some x2 ∧ W.cell? ⟨pb, 0, none⟩ = some y0 ∧ W.cell? ⟨pb, 1, none⟩ = some y1 ∧ W.cell? ⟨pb, 2, none⟩ = some y2 ∧ W.cell? ⟨pb, 3, none⟩ = some y3 := by
  have e1 := h1.below h h1.lt
  have e2 := h2.below h h2.lt
  exact ⟨e1.cell 0, e1.cell 1, e1.cell 2, e2.cell 0, e2.cell 1, e2.cell 2, e2.cell 3⟩

set_option maxRecDepth 100000 in
set_option maxHeartbeats 8000000 in
theorem lawThreshold (A : Option Addr) (n cap : Nat) (w : World) (h : Bs w w.heap.size A n) :
    Calls Try.prog 6 #[.slice A n cap] w fun e w' => e = .returned (.bool true) ∧ Below w.heap.size w w' := by
  go_enter Try.func6, Try.ntmps6
  go_wp2_with fail
  by_cases hbig : (1048576 : Int) < (n : Int)
  · refine (big_yes A n cap w hbig).mono ?_
    rintro e w' ⟨rfl, rfl⟩
    go_wp2_with fail
    go_ret
    exact ⟨rfl, Below.refl _ _⟩
  refine (big_no A n cap w hbig).mono ?_
  rintro e w' ⟨rfl, rfl⟩
  go_wp2_with fail
  with_reducible refine Calls.mono (drawClassify A n cap w h (by omega)) ?_
  rintro e w1 ⟨f, b, k, A', c, len, g, A1, n1, c1, A2, n2, c2, A3, n3, c3, A4, n4, c4, m, z, D, dc, t, hk, hl, ⟨m1, m2, m3, m4⟩, hm, rfl, hr, hp, hd, hb1⟩
  have hQ : ∀ x, w.heap.size ≤ x ∧ x < w1.heap.size → x < w1.heap.size := fun x q => q.2
  obtain ⟨z1, r1⟩ := hp.1.rd hQ
  obtain ⟨z2, r2⟩ := hp.2.1.rd hQ
  obtain ⟨z3, r3⟩ := hp.2.2.1.rd hQ
  obtain ⟨z4, r4⟩ := hp.2.2.2.rd hQ
  have hrT := hr.rdT hQ
  have hdd : Rd w1 w1.heap.size D m z := fun h0 => by
    obtain ⟨q, rfl, _, hw⟩ := hd h0
    exact (hw.rd hw.lt) h0
  have hbx := ((Below.refl w1.heap.size w1).alloc (Nat.le_refl _) (.cells #[.int .i64 f, .int .i64 b, .slice A' k c] 36)).alloc (by simp) (.cells #[.slice A1 n1 c1, .slice A2 n2 c2, .slice A3 n3 c3, .slice A4 n4 c4] 38)
  have e1 : Blk ((w1.alloc (.cells #[.int .i64 f, .int .i64 b, .slice A' k c] 36)).alloc (.cells #[.slice A1 n1 c1, .slice A2 n2 c2, .slice A3 n3 c3, .slice A4 n4 c4] 38)) w1.heap.size 36 #[.int .i64 f, .int .i64 b, .slice A' k c] := (Blk.new w1 _ _).alloc _
  have e2 : Blk ((w1.alloc (.cells #[.int .i64 f, .int .i64 b, .slice A' k c] 36)).alloc (.cells #[.slice A1 n1 c1, .slice A2 n2 c2, .slice A3 n3 c3, .slice A4 n4 c4] 38)) (w1.heap.size + 1) 38 #[.slice A1 n1 c1, .slice A2 n2 c2, .slice A3 n3 c3, .slice A4 n4 c4] := Blk.new2 w1 _ _ _
  have hwb := hb1.trans (hbx.mono hb1.size)
  have hrT1 := hrT.to hbx hbx.size
  have hP1 : RdP _ _ A1 n1 z1 A2 n2 z2 A3 n3 z3 A4 n4 z4 := (⟨r1, r2, r3, r4⟩ : RdP w1 w1.heap.size A1 n1 z1 A2 n2 z2 A3 n3 z3 A4 n4 z4).to hbx hbx.size
  have hd1 := hdd.to hbx hbx.size
  clear hr hp hd r1 r2 r3 r4 hrT hdd hQ hb1 hbx
  go_wp2_with fail
  obtain ⟨W1, hW1⟩ : ∃ W, (w1.alloc (.cells #[.int .i64 f, .int .i64 b, .slice A' k c] 36)).alloc (.cells #[.slice A1 n1 c1, .slice A2 n2 c2, .slice A3 n3 c3, .slice A4 n4 c4] 38) = W := ⟨_, rfl⟩
  rw [hW1] at e1 e2 hwb hrT1 hP1 hd1 ⊢
  obtain ⟨eb, heb⟩ : ∃ eb, w1.heap.size = eb := ⟨_, rfl⟩
  rw [heb] at e1 e2
  try rw [heb]
  clear hW1 heb
  have HL := hid hl
  have hk' : k ≤ 4194304 := by omega
  have hl' : Hid (∀ i, i < k → len i ≤ 4194304) := fun i hi => Nat.le_trans (HL.out i hi) (by omega)
  have hm' : m ≤ 4194304 := by omega
  have k1 : n1 ≤ 9223372036854775807 := by omega
  have k2 : n2 ≤ 9223372036854775807 := by omega
  have k3 : n3 ≤ 9223372036854775807 := by omega
  have k4 : n4 ≤ 9223372036854775807 := by omega
  obtain ⟨V, hV⟩ : ∃ V, clOk f b k len g n1 z1 n2 z2 n3 z3 n4 z4 m z t = V := ⟨_, rfl⟩
  have HV := hid hV
  clear hl hV
  obtain ⟨x0, x1, x2, y0, y1, y2, y3⟩ := ob_cells (Below.refl _ W1) e1 e2
  with_reducible refine Calls.mono (iClassify_any f b A' k c len g A1 n1 c1 z1 A2 n2 c2 z2 A3 n3 c3 z3 A4 n4 c4 z4 D m dc z t V W1 hrT1 hP1 hd1 hk' hl' k1 k2 k3 k4 hm' HV) ?_
  rintro e w2 ⟨B, a, s, q, rfl, hb2, hno, hyes⟩
  have HA : Hid (ClAns b k g z1 n2 z2 z3 z4 z t V B a s q) := ⟨hno, hyes⟩
  have s2 := Blk.new w2 31 #[.int .i64 a, .int .i64 s, .int .i64 q]
  have hB2 := hb2.alloc hb2.size (.cells #[.int .i64 a, .int .i64 s, .int .i64 q] 31)
  clear hb2 hno hyes x0 x1 x2 y0 y1 y2 y3
  obtain ⟨x0, x1, x2, y0, y1, y2, y3⟩ := ob_cells hB2 e1 e2
  go_wp2_with fail
  obtain ⟨W2, hW2⟩ : ∃ W, w2.alloc (.cells #[.int .i64 a, .int .i64 s, .int .i64 q] 31) = W := ⟨_, rfl⟩
  rw [hW2] at s2 hB2 x0 x1 x2 y0 y1 y2 y3 ⊢
  obtain ⟨sx, hsx⟩ : ∃ x, w2.heap.size = x := ⟨_, rfl⟩
  rw [hsx] at s2
  try rw [hsx]
  clear hW2 hsx
  with_reducible refine Calls.mono (sClassify_any f b A' k c len g A1 n1 c1 z1 A2 n2 c2 z2 A3 n3 c3 z3 A4 n4 c4 z4 D m dc z t V W2 (hrT1.to hB2 hB2.size) (hP1.to hB2 hB2.size) (hd1.to hB2 hB2.size) hk' hl' k1 k2 k3 k4 hm' HV) ?_
  rintro e w3 ⟨B', a', s', q', rfl, hb3, hno, hyes⟩
  obtain ⟨rfl, rfl, rfl, rfl⟩ := ClAns.same HA.out ⟨hno, hyes⟩
  have s3 := (s2.below hb3 s2.lt).alloc (.cells #[.int .i64 a, .int .i64 s, .int .i64 q] 31)
  have s3' := Blk.new w3 31 #[.int .i64 a, .int .i64 s, .int .i64 q]
  have hB3 := (hB2.trans (hb3.mono hB2.size)).alloc (by have := hb3.size; have := hB2.size; omega) (.cells #[.int .i64 a, .int .i64 s, .int .i64 q] 31)
  clear hb3 hno hyes s2 hB2 x0 x1 x2 y0 y1 y2 y3
  obtain ⟨u0, u1, u2⟩ := blk_three s3
  obtain ⟨v0, v1, v2⟩ := blk_three s3'
  have q1 : (B != B) = false := by simp
  have q2 : (V != V) = false := by simp
  have q3 : (B == B) = true := by simp
  have q4 : (V == V) = true := by simp
  have he := fun wx => eqSt a s q wx
  cases V with
  | false =>
    have HB3 := hid hB3
    clear hB3 s3 s3' HA HV
    go_wp2_with fail
    go_ret
    exact ⟨rfl, hwb.trans (HB3.out.mono hwb.size)⟩
  | true =>
    by_cases ht : t > 99999999700
    · have d1 : decide (t > 99999999700) = true := decide_eq_true ht
      have HB3 := hid hB3
      clear hB3 s3 s3' HA HV ht
      go_wp2_with fail
      go_ret
      exact ⟨rfl, hwb.trans (HB3.out.mono hwb.size)⟩
    have d1 : decide (t > 99999999700) = false := decide_eq_false ht
    have hVt := HV.out
    unfold clOk at hVt
    rw [Bool.and_eq_true, Bool.and_eq_true] at hVt
    obtain ⟨⟨hpl, hfi⟩, hsc⟩ := hVt
    have ht0 : -100000000000 ≤ t := by
      unfold scB at hsc
      rw [Bool.and_eq_true, decide_eq_true_eq] at hsc
      exact hsc.1
    have HV3 : Hid (∀ y, 0 ≤ y → y ≤ 255 → clOk f b k len g n1 z1 n2 z2 n3 z3 n4 z4 m z (t + y) = true) := fun y h1 h2 => by
      unfold clOk scB
      rw [hpl, hfi, decide_eq_true (by omega : -100000000000 ≤ t + y), decide_eq_true (by omega : t + y ≤ 100000000000)]
      rfl
    have HPL := hid hpl
    have ht1 : t ≤ 99999999700 := by omega
    clear hpl hfi hsc ht
    have HWB := hid hwb
    clear s3 s3'
    go_wp2_with fail
    clear u0 u1 u2 v0 v1 v2 he q1 q2 q3 q4 d1
    obtain ⟨W3, hW3⟩ : ∃ W, w3.alloc (.cells #[.int .i64 a, .int .i64 s, .int .i64 q] 31) = W := ⟨_, rfl⟩
    rw [hW3] at hB3 ⊢
    clear hW3
    have X0 : Hid (OB W1 none W3.drew) := ⟨hB3.drew, fun x e => by cases e⟩
    have X0a : Hid (OB W1 (some W3.heap.size) (W3.alloc (.cells #[.int .i64 0, .int .i64 0, .int .i64 0] 31)).drew) := stb_OB.drew (OB.alloc ⟨hB3, fun x e => by cases e⟩)
    have S0 := hid (ob_cells X0.out.bel e1 e2)
    have S0a := hid (ob_cells X0a.out.bel e1 e2)
    clear hB3
    go_cut [13, 14, 15] (fun s13 s14 s15 wx => ∃ (B3 : Bool) (x : Nat), s13 = .bool B3 ∧ s14 = .pointer (some ⟨x, 0, none⟩) ∧ s15 = .bool true ∧ Hid (B3 = true → B = true) ∧ Hid (Below W1.heap.size W1 wx))
    case first =>
      go_region_held3 (fun w' => w'.cell? ⟨eb, 0, none⟩ = some (.int .i64 f) ∧ w'.cell? ⟨eb, 1, none⟩ = some (.int .i64 b) ∧ w'.cell? ⟨eb, 2, none⟩ = some (.slice A' k c) ∧ w'.cell? ⟨eb + 1, 0, none⟩ = some (.slice A1 n1 c1) ∧ w'.cell? ⟨eb + 1, 1, none⟩ = some (.slice A2 n2 c2) ∧ w'.cell? ⟨eb + 1, 2, none⟩ = some (.slice A3 n3 c3) ∧ w'.cell? ⟨eb + 1, 3, none⟩ = some (.slice A4 n4 c4))
        ((refine Hid.out ?_; with_reducible assumption))
        (first
          | (go_at_call 33; first
            | ((with_reducible refine Calls.mono (byte_at A n cap 3 W3.drew (Bs.more (Bs.keep h fun _ hp => (HWB.out.trans (X0.out.bel.mono HWB.out.size)).cell hp) (HWB.out.trans (X0.out.bel.mono HWB.out.size)).size) (by omega) (by omega)) ?_); rintro e w5 ⟨y, rfl, hy0, hy1, rfl⟩; have X5 := X0; have hwy : IntKind.i64.wrap (t + y) = t + y := IntWalk.i64_in _ (by omega))
            | ((with_reducible refine Calls.mono (byte_at A n cap 3 (W3.alloc (.cells #[.int .i64 0, .int .i64 0, .int .i64 0] 31)).drew (Bs.more (Bs.keep h fun _ hp => (HWB.out.trans (X0a.out.bel.mono HWB.out.size)).cell hp) (HWB.out.trans (X0a.out.bel.mono HWB.out.size)).size) (by omega) (by omega)) ?_); rintro e w5 ⟨y, rfl, hy0, hy1, rfl⟩; have X5 := X0a; have hwy : IntKind.i64.wrap (t + y) = t + y := IntWalk.i64_in _ (by omega)))
          | (go_at_call 25; first
            | ((with_reducible refine Calls.mono (iClassify_any f b A' k c len g A1 n1 c1 z1 A2 n2 c2 z2 A3 n3 c3 z3 A4 n4 c4 z4 D m dc z (t + y) true W3.drew (hrT1.to X5.out.bel X5.out.bel.size) (hP1.to X5.out.bel X5.out.bel.size) (hd1.to X5.out.bel X5.out.bel.size) hk' hl' k1 k2 k3 k4 hm' (hid (HV3.out y hy0 hy1))) ?_); rintro e w6 ⟨B3, a3, s3, q3, rfl, hb6, hno, hyes⟩; have hB3 := hid (thr_pure HPL.out HA.out ⟨hno, hyes⟩ hy0); have x6 := stb_OB _ _ X5.out hb6; clear hno hyes; (try obtain ⟨⟨v0, v1, v2⟩, q0, q1, q2⟩ := x6.old); have S6 := hid (ob_cells x6.bel e1 e2); have S6z := hid (ob_cells (x6.bel.alloc x6.bel.size (.cells #[.int .i64 0, .int .i64 0, .int .i64 0] 31)) e1 e2); have S6a := hid (ob_cells (x6.bel.alloc x6.bel.size (.cells #[.int .i64 a3, .int .i64 s3, .int .i64 q3] 31)) e1 e2); (try have S6q := hid (ob_cells (x6.put (.int .i64 a3) (.int .i64 s3) (.int .i64 q3)) e1 e2)); have X6 := hid x6; clear x6 hb6)
            | ((with_reducible refine Calls.mono (iClassify_any f b A' k c len g A1 n1 c1 z1 A2 n2 c2 z2 A3 n3 c3 z3 A4 n4 c4 z4 D m dc z (t + y) true (W3.alloc (.cells #[.int .i64 0, .int .i64 0, .int .i64 0] 31)).drew (hrT1.to X0a.out.bel X0a.out.bel.size) (hP1.to X0a.out.bel X0a.out.bel.size) (hd1.to X0a.out.bel X0a.out.bel.size) hk' hl' k1 k2 k3 k4 hm' (hid (HV3.out y hy0 hy1))) ?_); rintro e w6 ⟨B3, a3, s3, q3, rfl, hb6, hno, hyes⟩; have hB3 := hid (thr_pure HPL.out HA.out ⟨hno, hyes⟩ hy0); have x6 := stb_OB _ _ X0a.out hb6; clear hno hyes; (try obtain ⟨⟨v0, v1, v2⟩, q0, q1, q2⟩ := x6.old); have S6 := hid (ob_cells x6.bel e1 e2); have S6z := hid (ob_cells (x6.bel.alloc x6.bel.size (.cells #[.int .i64 0, .int .i64 0, .int .i64 0] 31)) e1 e2); have S6a := hid (ob_cells (x6.bel.alloc x6.bel.size (.cells #[.int .i64 a3, .int .i64 s3, .int .i64 q3] 31)) e1 e2); (try have S6q := hid (ob_cells (x6.put (.int .i64 a3) (.int .i64 s3) (.int .i64 q3)) e1 e2)); have X6 := hid x6; clear x6 hb6)))
      all_goals
        go_wp2_with fail
        go_meet
        first
          | exact ⟨B3, _, rfl, rfl, rfl, hB3, hid (X6.out.bel.alloc X6.out.bel.size _)⟩
          | exact ⟨B3, _, rfl, rfl, rfl, hB3, hid (X6.out.put (.int .i64 a3) (.int .i64 s3) (.int .i64 q3))⟩
    case rest =>
      obtain ⟨B3, x, rfl, rfl, rfl, hB3, hbw⟩ := hcut
      clear X0 X0a S0 S0a
      cases B3 with
      | false =>
        go_wp2_with fail
        go_ret
        exact ⟨rfl, HWB.out.trans (hbw.out.mono HWB.out.size)⟩
      | true =>
        have hBt := hB3.out rfl
        subst hBt
        go_wp2_with fail
        go_ret
        exact ⟨rfl, HWB.out.trans (hbw.out.mono HWB.out.size)⟩
end Go.Proofs.Ytlgomifpohdniaa
