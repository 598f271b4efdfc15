/- The walk of the law that classifies. -/
import Derived.Test.YtlgomifpohdniaaGreatClQ
import Derived.Test.YtlgomifpohdniaaGreatSdF
import Derived.Deep.RegionHeld3
namespace Go.Proofs.YtlgomifpohdniaaGreat
open Go.RowKit Go.Deep
set_option linter.unusedVariables false
set_option linter.unusedSimpArgs false

theorem eqSt (a s q : Int) (w : World) : (Op.equalIn 10000 33 (.agg #[.int .i64 a, .int .i64 s, .int .i64 q]) (.agg #[.int .i64 a, .int .i64 s, .int .i64 q])).run Tryz.prog w = .ok true w := by
  have u2 := Tryz.underlying2
  have p2 := Tryz.isAgg2
  have z2 := Tryz.sizeOf2
  have hS : Tryz.prog.underlying 33 = some (.struct (Tryz.prog.fieldsOf 33)) := by kernel_rfl
  have hp : Tryz.prog.stoodInHeld 33 = false := by kernel_rfl
  rw [show (10000 : Nat) = 9999 + 1 from rfl, run_equalIn_agg w 9999 33 _ _ hS hp]
  simp only [Program.fieldsOf, Tryz.underlying33]
  go_simp
  try simp

/-- The seven cells of an ensemble and a plan. -/
theorem ob_cells {W1 W : World} {eb pb : Nat} {x0 x1 x2 y0 y1 y2 y3 : Value} (h : Below W1.heap.size W1 W) (h1 : Blk W1 eb 26 #[x0, x1, x2]) (h2 : Blk W1 pb 29 #[y0, y1, y2, y3]) :
    W.cell? ⟨eb, 0, none⟩ = some x0 ∧ W.cell? ⟨eb, 1, none⟩ = some x1 ∧ W.cell? ⟨eb, 2, none⟩ = some x2 ∧ W.cell? ⟨pb, 0, none⟩ = some y0 ∧ W.cell? ⟨pb, 1, none⟩ = some y1 ∧ W.cell? ⟨pb, 2, none⟩ = some y2 ∧ W.cell? ⟨pb, 3, none⟩ = some y3 := by
  have e1 := h1.below h h1.lt
  have e2 := h2.below h h2.lt
  exact ⟨e1.cell 0, e1.cell 1, e1.cell 2, e2.cell 0, e2.cell 1, e2.cell 2, e2.cell 3⟩


theorem sumT_o (v : Nat → Int) (o : Nat → Nat) : ∀ k, sumT (fun j => v (o j)) k = sumO v o k := by
  intro k
  induction k with
  | zero => rfl
  | succ k ih => simp only [sumT, sumO, ih]
/-- In whatever order: the whole score. -/
theorem score_all {f b : Int} {n : Nat} {len : Nat → Nat} {g : Nat → Nat → Nd} {n1 n2 n3 n4 : Nat} {z1 z2 z3 z4 : Nat → Int} (h : planB f b n len g n1 z1 n2 z2 n3 z3 n4 z4 = true) (z : Nat → Int) : sumT (scO g (ordN z1) z) n = sumT (scF g z) n := by
  unfold planB at h
  simp only [Bool.and_eq_true, decide_eq_true_eq] at h
  obtain ⟨hE, ⟨rfl, hO⟩, -⟩ := h
  have hlt := ordN_lt hO
  have hin : ∀ i j, i < n1 → j < n1 → i ≠ j → ordN z1 i ≠ ordN z1 j := fun i j hi hj hne e => by
    have a := ordO_iff.1 hO i hi
    have c := ordO_iff.1 hO j hj
    unfold ordN at e
    have e' : z1 i = z1 j := by omega
    rcases Nat.lt_or_gt_of_ne hne with h | h
    · exact c.2 i h e'
    · exact a.2 j h e'.symm
  rw [← sum_perm n1 (scF g z) (ordN z1) hlt hin]
  exact sumT_o (scF g z) (ordN z1) n1
theorem cl_full {f b : Int} {n : Nat} {len : Nat → Nat} {g : Nat → Nat → Nd} {n1 n2 n3 n4 : Nat} {z1 z2 z3 z4 z : Nat → Int} {t : Int} {B : Bool} {a s q : Int} (h : planB f b n len g n1 z1 n2 z2 n3 z3 n4 z4 = true) (hA : ClAns b n g z1 n2 z2 z3 z4 z t true B a s q) :
    decide (b + sumT (scF g z) n ≥ t) = B := by
  rw [cl_says h hA, score_all h]
/-- A plan that was made: right, and in memory of its own. -/
def MadeOwn (w : World) (B : Nat) (f b : Int) (k : Nat) (len : Nat → Nat) (g : Nat → Nat → Nd) (A1 : Option Addr) (N1 c1 : Nat) (A2 : Option Addr) (N2 c2 : Nat) (A3 : Option Addr) (N3 c3 : Nat) (A4 : Option Addr) (N4 c4 : Nat) : Prop :=
  ∃ z1 z2 z3 z4, Owns4 w B A1 N1 c1 z1 A2 N2 c2 z2 A3 N3 c3 z3 A4 N4 c4 z4 ∧ planB f b k len g N1 z1 N2 z2 N3 z3 N4 z4 = true ∧ N1 ≤ 13 ∧ N2 ≤ 13 ∧ N3 ≤ 13 ∧ N4 ≤ 13
theorem iPlanOf_made (f b pol st : Int) (A : Option Addr) (k c : Nat) (len : Nat → Nat) (g : Nat → Nat → Nd) (w : World) (h : RdT w w.heap.size A k len g) (hn : k ≤ 4194304) (hlen : Hid (∀ i, i < k → len i ≤ 4194304)) (hE : ensB f b k len g = true) (p1 : 1 ≤ pol) (p3 : pol ≤ 3) (h1 : 1 ≤ st) (h12 : st ≤ 12) :
    Calls Tryz.prog 19 #[enV f b A k c, .int .i64 pol, .int .i64 st] w fun e w' => ∃ (A1 : Option Addr) (N1 c1 : Nat) (A2 : Option Addr) (N2 c2 : Nat) (A3 : Option Addr) (N3 c3 : Nat) (A4 : Option Addr) (N4 c4 : Nat), e = .returned (.tuple #[plV A1 N1 c1 A2 N2 c2 A3 N3 c3 A4 N4 c4, .bool true]) ∧ MadeOwn w' w.heap.size f b k len g A1 N1 c1 A2 N2 c2 A3 N3 c3 A4 N4 c4 ∧ Below w.heap.size w w' := by
  have hY : planY f b pol st k len g = true := by
    unfold planY polB
    rw [hE, decide_eq_true p1, decide_eq_true p3, decide_eq_true h1, decide_eq_true h12]
    rfl
  have hn12 := (ensB_iff.1 hE).2.2.1
  obtain ⟨s, rfl⟩ : ∃ s : Nat, st = (s : Int) := ⟨st.toNat, by omega⟩
  have hs : 1 ≤ s := by omega
  have hN := endN_le2 hn12 hs
  refine (iPlanOf_yes f b pol s A k c len g w h hn hlen hY).mono fun _ w' ⟨A1, c1, A2, c2, A3, c3, A4, c4, he, ho, hb⟩ => ?_
  exact ⟨A1, k, c1, A2, endN k s, c2, A3, k + 1, c3, A4, k + 1, c4, he, ⟨_, _, _, _, ho, planB_made hE hs, by omega, by omega, by omega, by omega⟩, hb⟩
/-- Nothing that lay in W1 is written; a plan's block of the call's own, if it is there. -/
def PB (W1 : World) (q : Option Nat) (W : World) : Prop := Below W1.heap.size W1 W ∧ ∀ x, q = some x → W1.heap.size ≤ x ∧ Blk W x 29 #[.slice none 0 0, .slice none 0 0, .slice none 0 0, .slice none 0 0]
/-- And the plan that was made. -/
def PM (W1 : World) (q : Option Nat) (f b : Int) (k : Nat) (len : Nat → Nat) (g : Nat → Nat → Nd) (A1 : Option Addr) (N1 c1 : Nat) (A2 : Option Addr) (N2 c2 : Nat) (A3 : Option Addr) (N3 c3 : Nat) (A4 : Option Addr) (N4 c4 : Nat) (W : World) : Prop :=
  PB W1 q W ∧ ∃ B, (∀ x, q = some x → x < B) ∧ MadeOwn W B f b k len g A1 N1 c1 A2 N2 c2 A3 N3 c3 A4 N4 c4
/-- In the block x lies a right plan. -/
def Made (W1 : World) (f b : Int) (k : Nat) (len : Nat → Nat) (g : Nat → Nat → Nd) (x : Nat) (W : World) : Prop :=
  ∃ (A1 : Option Addr) (N1 c1 : Nat) (z1 : Nat → Int) (A2 : Option Addr) (N2 c2 : Nat) (z2 : Nat → Int) (A3 : Option Addr) (N3 c3 : Nat) (z3 : Nat → Int) (A4 : Option Addr) (N4 c4 : Nat) (z4 : Nat → Int), Blk W x 29 #[.slice A1 N1 c1, .slice A2 N2 c2, .slice A3 N3 c3, .slice A4 N4 c4] ∧ RdP W W.heap.size A1 N1 z1 A2 N2 z2 A3 N3 z3 A4 N4 z4 ∧ planB f b k len g N1 z1 N2 z2 N3 z3 N4 z4 = true ∧ (N1 ≤ 13 ∧ N2 ≤ 13 ∧ N3 ≤ 13 ∧ N4 ≤ 13) ∧ Below W1.heap.size W1 W
section
variable {W1 W W' : World} {q : Option Nat} {x k N1 c1 N2 c2 N3 c3 N4 c4 : Nat} {A1 A2 A3 A4 : Option Addr} {f b : Int} {len : Nat → Nat} {g : Nat → Nat → Nd}
theorem stb_PB : Stb (PB W1 q) := stb_bel.and stb_opt
theorem PB.bel (h : PB W1 q W) : Below W1.heap.size W1 W := h.1
theorem PB.alloc (h : PB W1 none W) : PB W1 (some W.heap.size) (W.alloc (.cells #[.slice none 0 0, .slice none 0 0, .slice none 0 0, .slice none 0 0] 29)) := ⟨h.1.alloc h.1.size _, fun x e => by
  injection e with e
  subst e
  exact ⟨h.1.size, Blk.new W _ _⟩⟩
theorem PB.made (h : PB W1 q W) (hb : Below W.heap.size W W') (hm : MadeOwn W' W.heap.size f b k len g A1 N1 c1 A2 N2 c2 A3 N3 c3 A4 N4 c4) : PM W1 q f b k len g A1 N1 c1 A2 N2 c2 A3 N3 c3 A4 N4 c4 W' :=
  ⟨stb_PB _ _ h hb, W.heap.size, fun x e => (h.2 x e).2.lt, hm⟩
theorem PM.bel (h : PM W1 q f b k len g A1 N1 c1 A2 N2 c2 A3 N3 c3 A4 N4 c4 W) : Below W1.heap.size W1 W := h.1.1
theorem PM.old (h : PM W1 (some x) f b k len g A1 N1 c1 A2 N2 c2 A3 N3 c3 A4 N4 c4 W) : Blk W x 29 #[.slice none 0 0, .slice none 0 0, .slice none 0 0, .slice none 0 0] := (h.1.2 x rfl).2
theorem PM.new (h : PM W1 none f b k len g A1 N1 c1 A2 N2 c2 A3 N3 c3 A4 N4 c4 W) : Made W1 f b k len g W.heap.size (W.alloc (.cells #[.slice A1 N1 c1, .slice A2 N2 c2, .slice A3 N3 c3, .slice A4 N4 c4] 29)) := by
  obtain ⟨h1, B, hq, z1, z2, z3, z4, ho, hp, hN⟩ := h
  have hx := (Below.refl W.heap.size W).alloc (Nat.le_refl _) (.cells #[.slice A1 N1 c1, .slice A2 N2 c2, .slice A3 N3 c3, .slice A4 N4 c4] 29)
  exact ⟨A1, N1, c1, z1, A2, N2, c2, z2, A3, N3, c3, z3, A4, N4, c4, z4, Blk.new W _ _, ho.rdP.to hx hx.size, hp, hN, h1.1.alloc h1.1.size _⟩
theorem PM.bel4 (h : PM W1 (some x) f b k len g A1 N1 c1 A2 N2 c2 A3 N3 c3 A4 N4 c4 W) (u0 u1 u2 u3 : Value) : Below W1.heap.size W1 ((((W.setCell ⟨x, 0, none⟩ u0).setCell ⟨x, 1, none⟩ u1).setCell ⟨x, 2, none⟩ u2).setCell ⟨x, 3, none⟩ u3) := by
  have hx := (h.1.2 x rfl).1
  exact (((h.1.1.setCell (p := ⟨x, 0, none⟩) hx _).setCell (p := ⟨x, 1, none⟩) hx _).setCell (p := ⟨x, 2, none⟩) hx _).setCell (p := ⟨x, 3, none⟩) hx _
theorem PM.put (h : PM W1 (some x) f b k len g A1 N1 c1 A2 N2 c2 A3 N3 c3 A4 N4 c4 W) : Made W1 f b k len g x ((((W.setCell ⟨x, 0, none⟩ (.slice A1 N1 c1)).setCell ⟨x, 1, none⟩ (.slice A2 N2 c2)).setCell ⟨x, 2, none⟩ (.slice A3 N3 c3)).setCell ⟨x, 3, none⟩ (.slice A4 N4 c4)) := by
  have h4 := h.bel4 (.slice A1 N1 c1) (.slice A2 N2 c2) (.slice A3 N3 c3) (.slice A4 N4 c4)
  have hb := h.old
  obtain ⟨h1, B, hq, z1, z2, z3, z4, ho, hp, hN⟩ := h
  have hxB := hq x rfl
  exact ⟨A1, N1, c1, z1, A2, N2, c2, z2, A3, N3, c3, z3, A4, N4, c4, z4, (((hb.set_ 0 _).set_ 1 _).set_ 2 _).set_ 3 _, (ho.keep (Nat.le_refl _) fun y hy _ => far4 _ _ _ _ y (by omega)).rdP, hp, hN, h4⟩
end
theorem ens_cells {W1 W : World} {eb : Nat} {x0 x1 x2 : Value} (h : Below W1.heap.size W1 W) (h1 : Blk W1 eb 26 #[x0, x1, x2]) : W.cell? ⟨eb, 0, none⟩ = some x0 ∧ W.cell? ⟨eb, 1, none⟩ = some x1 ∧ W.cell? ⟨eb, 2, none⟩ = some x2 := by
  have e1 := h1.below h h1.lt
  exact ⟨e1.cell 0, e1.cell 1, e1.cell 2⟩
theorem byte_rem (m : Int) (A : Option Addr) (n cap k : Nat) (w : World) (h : Bs w w.heap.size A n) (hn : n ≤ 4194304) (hk : k ≤ 1000) (hm : 0 < m) (hm2 : m ≤ 100) :
    Calls Tryz.prog 20 #[.slice A n cap, .int .i64 k] w fun e w' => ∃ x r : Int, e = .returned (.int .i64 x) ∧ Int.tmod x m = r ∧ IntKind.i64.wrap (1 + r) = 1 + r ∧ 1 ≤ 1 + r ∧ 1 + r ≤ m ∧ w = w' :=
  (byte_at A n cap k w h hn hk).mono fun e w' ⟨x, he, h0, h1, hw⟩ => by
    have a := Int.tmod_nonneg m h0
    have c := Int.tmod_lt_of_pos x hm
    exact ⟨x, _, he, rfl, IntWalk.i64_in _ (by omega), by omega, by omega, hw⟩

set_option maxRecDepth 100000 in
set_option maxHeartbeats 8000000 in
theorem lawClassified (A : Option Addr) (n cap : Nat) (w : World) (h : Bs w w.heap.size A n) :
    Calls Tryz.prog 4 #[.slice A n cap] w fun e w' => e = .returned (.bool true) ∧ Below w.heap.size w w' := by
  go_enter Tryz.func4, Tryz.ntmps4
  go_wp2_with fail
  by_cases hbig : (1048576 : Int) < (n : Int)
  · refine (big_yes A n cap w hbig).mono ?_
    rintro e w' ⟨rfl, rfl⟩
    go_wp2_with fail
    go_ret
    exact ⟨rfl, Below.refl _ _⟩
  refine (big_no A n cap w hbig).mono ?_
  rintro e w' ⟨rfl, rfl⟩
  go_wp2_with fail
  with_reducible refine Calls.mono (drawClassify A n cap w h (by omega)) ?_
  rintro e w1 ⟨f, b, k, A', c, len, g, A1, n1, c1, A2, n2, c2, A3, n3, c3, A4, n4, c4, m, z, D, dc, t, hk, hl, ⟨m1, m2, m3, m4⟩, hm, rfl, hr, hp, hd, hb1⟩
  have hQ : ∀ x, w.heap.size ≤ x ∧ x < w1.heap.size → x < w1.heap.size := fun x q => q.2
  obtain ⟨z1, r1⟩ := hp.1.rd hQ
  obtain ⟨z2, r2⟩ := hp.2.1.rd hQ
  obtain ⟨z3, r3⟩ := hp.2.2.1.rd hQ
  obtain ⟨z4, r4⟩ := hp.2.2.2.rd hQ
  have hrT := hr.rdT hQ
  have hdd : Rd w1 w1.heap.size D m z := fun h0 => by
    obtain ⟨q, rfl, _, hw⟩ := hd h0
    exact (hw.rd hw.lt) h0
  have hbx := ((Below.refl w1.heap.size w1).alloc (Nat.le_refl _) (.cells #[.int .i64 f, .int .i64 b, .slice A' k c] 26)).alloc (by simp) (.cells #[.slice A1 n1 c1, .slice A2 n2 c2, .slice A3 n3 c3, .slice A4 n4 c4] 29)
  have e1 : Blk ((w1.alloc (.cells #[.int .i64 f, .int .i64 b, .slice A' k c] 26)).alloc (.cells #[.slice A1 n1 c1, .slice A2 n2 c2, .slice A3 n3 c3, .slice A4 n4 c4] 29)) w1.heap.size 26 #[.int .i64 f, .int .i64 b, .slice A' k c] := (Blk.new w1 _ _).alloc _
  have e2 : Blk ((w1.alloc (.cells #[.int .i64 f, .int .i64 b, .slice A' k c] 26)).alloc (.cells #[.slice A1 n1 c1, .slice A2 n2 c2, .slice A3 n3 c3, .slice A4 n4 c4] 29)) (w1.heap.size + 1) 29 #[.slice A1 n1 c1, .slice A2 n2 c2, .slice A3 n3 c3, .slice A4 n4 c4] := Blk.new2 w1 _ _ _
  have hwb := hb1.trans (hbx.mono hb1.size)
  have hrT1 := hrT.to hbx hbx.size
  have hP1 : RdP _ _ A1 n1 z1 A2 n2 z2 A3 n3 z3 A4 n4 z4 := (⟨r1, r2, r3, r4⟩ : RdP w1 w1.heap.size A1 n1 z1 A2 n2 z2 A3 n3 z3 A4 n4 z4).to hbx hbx.size
  have hd1 := hdd.to hbx hbx.size
  clear hr hp hd r1 r2 r3 r4 hrT hdd hQ hb1 hbx
  go_wp2_with fail
  obtain ⟨W1, hW1⟩ : ∃ W, (w1.alloc (.cells #[.int .i64 f, .int .i64 b, .slice A' k c] 26)).alloc (.cells #[.slice A1 n1 c1, .slice A2 n2 c2, .slice A3 n3 c3, .slice A4 n4 c4] 29) = W := ⟨_, rfl⟩
  rw [hW1] at e1 e2 hwb hrT1 hP1 hd1 ⊢
  obtain ⟨eb, heb⟩ : ∃ eb, w1.heap.size = eb := ⟨_, rfl⟩
  rw [heb] at e1 e2
  try rw [heb]
  clear hW1 heb
  have HL := hid hl
  have hk' : k ≤ 4194304 := by omega
  have hl' : Hid (∀ i, i < k → len i ≤ 4194304) := fun i hi => Nat.le_trans (HL.out i hi) (by omega)
  have hm' : m ≤ 4194304 := by omega
  have k1 : n1 ≤ 9223372036854775807 := by omega
  have k2 : n2 ≤ 9223372036854775807 := by omega
  have k3 : n3 ≤ 9223372036854775807 := by omega
  have k4 : n4 ≤ 9223372036854775807 := by omega
  obtain ⟨V, hV⟩ : ∃ V, clOk f b k len g n1 z1 n2 z2 n3 z3 n4 z4 m z t = V := ⟨_, rfl⟩
  have HV := hid hV
  clear hl hV
  obtain ⟨x0, x1, x2, y0, y1, y2, y3⟩ := ob_cells (Below.refl _ W1) e1 e2
  with_reducible refine Calls.mono (iClassify_any f b A' k c len g A1 n1 c1 z1 A2 n2 c2 z2 A3 n3 c3 z3 A4 n4 c4 z4 D m dc z t V W1 hrT1 hP1 hd1 hk' hl' k1 k2 k3 k4 hm' HV) ?_
  rintro e w2 ⟨B, a, s, q, rfl, hb2, hno, hyes⟩
  have HA : Hid (ClAns b k g z1 n2 z2 z3 z4 z t V B a s q) := ⟨hno, hyes⟩
  have s2 := Blk.new w2 33 #[.int .i64 a, .int .i64 s, .int .i64 q]
  have hB2 := hb2.alloc hb2.size (.cells #[.int .i64 a, .int .i64 s, .int .i64 q] 33)
  clear hb2 hno hyes x0 x1 x2 y0 y1 y2 y3
  obtain ⟨x0, x1, x2, y0, y1, y2, y3⟩ := ob_cells hB2 e1 e2
  go_wp2_with fail
  obtain ⟨W2, hW2⟩ : ∃ W, w2.alloc (.cells #[.int .i64 a, .int .i64 s, .int .i64 q] 33) = W := ⟨_, rfl⟩
  rw [hW2] at s2 hB2 x0 x1 x2 y0 y1 y2 y3 ⊢
  obtain ⟨sx, hsx⟩ : ∃ x, w2.heap.size = x := ⟨_, rfl⟩
  rw [hsx] at s2
  try rw [hsx]
  clear hW2 hsx
  with_reducible refine Calls.mono (sClassify_any f b A' k c len g A1 n1 c1 z1 A2 n2 c2 z2 A3 n3 c3 z3 A4 n4 c4 z4 D m dc z t V W2 (hrT1.to hB2 hB2.size) (hP1.to hB2 hB2.size) (hd1.to hB2 hB2.size) hk' hl' k1 k2 k3 k4 hm' HV) ?_
  rintro e w3 ⟨B', a', s', q', rfl, hb3, hno, hyes⟩
  obtain ⟨rfl, rfl, rfl, rfl⟩ := ClAns.same HA.out ⟨hno, hyes⟩
  have s3 := (s2.below hb3 s2.lt).alloc (.cells #[.int .i64 a, .int .i64 s, .int .i64 q] 33)
  have s3' := Blk.new w3 33 #[.int .i64 a, .int .i64 s, .int .i64 q]
  have hB3 := (hB2.trans (hb3.mono hB2.size)).alloc (by have := hb3.size; have := hB2.size; omega) (.cells #[.int .i64 a, .int .i64 s, .int .i64 q] 33)
  clear hb3 hno hyes s2 hB2 x0 x1 x2 y0 y1 y2 y3
  obtain ⟨u0, u1, u2⟩ := blk_three s3
  obtain ⟨v0, v1, v2⟩ := blk_three s3'
  have q1 : (B != B) = false := by simp
  have q2 : (V != V) = false := by simp
  have q3 : (B == B) = true := by simp
  have q4 : (V == V) = true := by simp
  have he := fun wx => eqSt a s q wx
  cases V with
  | false =>
    have HB3 := hid hB3
    clear hB3 s3 s3' HA HV
    go_wp2_with fail
    go_ret
    exact ⟨rfl, hwb.trans (HB3.out.mono hwb.size)⟩
  | true =>
    have hpl : planB f b k len g n1 z1 n2 z2 n3 z3 n4 z4 = true := by
      have hVt := HV.out
      unfold clOk at hVt
      rw [Bool.and_eq_true, Bool.and_eq_true] at hVt
      exact hVt.1.1
    have hfi : fitB f m z = true := by
      have hVt := HV.out
      unfold clOk at hVt
      rw [Bool.and_eq_true, Bool.and_eq_true] at hVt
      exact hVt.1.2
    have hEn : ensB f b k len g = true := (planB_says hpl).1
    have hff : (ensB f b k len g && fitB f m z) = true := by
      rw [hEn, hfi]
      rfl
    have hge := cl_full hpl HA.out
    have hfn : fullN f b k len g m z = b + sumT (scF g z) k := by
      unfold fullN
      rw [if_pos hff]
    rw [← hfn] at hge
    have HGE := hid hge
    have HPL := hid hpl
    have HE := hid hEn
    have HFN := hid hfn
    have HWB := hid hwb
    have E1 := e1
    clear hge hpl hEn hfi hff hfn hwb s3 s3'
    obtain ⟨x0, x1, x2⟩ := ens_cells hB3 E1
    go_wp2_with fail
    clear u0 u1 u2 v0 v1 v2 x0 x1 x2 he q1 q2 q3 q4
    obtain ⟨W3, hW3⟩ : ∃ W, w3.alloc (.cells #[.int .i64 a, .int .i64 s, .int .i64 q] 33) = W := ⟨_, rfl⟩
    rw [hW3] at hB3 ⊢
    clear hW3
    with_reducible refine Calls.mono (iFull_any f b A' k c len g D m dc z W3 (hrT1.to hB3 hB3.size) (hd1.to hB3 hB3.size) hk' hl' hm') ?_
    rintro e w4 ⟨rfl, hb4⟩
    obtain ⟨NN, hNN⟩ : ∃ N, fullN f b k len g m z = N := ⟨_, rfl⟩
    obtain ⟨FF, hFF⟩ : ∃ F, fullB f b k len g m z = F := ⟨_, rfl⟩
    rw [hNN] at HGE ⊢
    rw [hFF]
    have HB4 := hid (hB3.trans (hb4.mono hB3.size))
    have HNN : Hid (b + sumT (scF g z) k = NN) := hid (HFN.out.symm.trans hNN)
    clear hNN hFF HFN hb4 hB3
    obtain ⟨x0, x1, x2⟩ := ens_cells HB4.out E1
    go_wp2_with fail
    have X0 : Hid (PB W1 none w4.drew) := ⟨HB4.out.drew, fun x e => by cases e⟩
    have X0a : Hid (PB W1 (some w4.heap.size) (w4.alloc (.cells #[.slice none 0 0, .slice none 0 0, .slice none 0 0, .slice none 0 0] 29)).drew) := stb_PB.drew (PB.alloc ⟨HB4.out, fun x e => by cases e⟩)
    have S0 := hid (ens_cells X0.out.bel E1)
    have S0a := hid (ens_cells X0a.out.bel E1)
    clear e1 e2
    go_cut [15, 16] (fun s15 s16 wx => ∃ (x : Nat), s15 = .pointer (some ⟨x, 0, none⟩) ∧ s16 = .bool true ∧ Hid (Made W1 f b k len g x wx))
    case first =>
      go_region_held3 (fun w' => w'.cell? ⟨eb, 0, none⟩ = some (.int .i64 f) ∧ w'.cell? ⟨eb, 1, none⟩ = some (.int .i64 b) ∧ w'.cell? ⟨eb, 2, none⟩ = some (.slice A' k c))
        ((refine Hid.out ?_; with_reducible assumption))
        (first
          | (go_at_call 20; first
            | ((with_reducible refine Calls.mono (byte_rem 3 A n cap 3 w4.drew (Bs.more (Bs.keep h fun _ hp => (HWB.out.trans (X0.out.bel.mono HWB.out.size)).cell hp) (HWB.out.trans (X0.out.bel.mono HWB.out.size)).size) (by omega) (by omega) (by omega) (by omega)) ?_); rintro e w5 ⟨xy3, y3, rfl, hty3, hwy3, h1y3, h2y3, rfl⟩)
            | ((with_reducible refine Calls.mono (byte_rem 3 A n cap 3 (w4.alloc (.cells #[.slice none 0 0, .slice none 0 0, .slice none 0 0, .slice none 0 0] 29)).drew (Bs.more (Bs.keep h fun _ hp => (HWB.out.trans (X0a.out.bel.mono HWB.out.size)).cell hp) (HWB.out.trans (X0a.out.bel.mono HWB.out.size)).size) (by omega) (by omega) (by omega) (by omega)) ?_); rintro e w5 ⟨xy3, y3, rfl, hty3, hwy3, h1y3, h2y3, rfl⟩))
          | (go_at_call 20; first
            | ((with_reducible refine Calls.mono (byte_rem 12 A n cap 4 w4.drew (Bs.more (Bs.keep h fun _ hp => (HWB.out.trans (X0.out.bel.mono HWB.out.size)).cell hp) (HWB.out.trans (X0.out.bel.mono HWB.out.size)).size) (by omega) (by omega) (by omega) (by omega)) ?_); rintro e w5 ⟨xy4, y4, rfl, hty4, hwy4, h1y4, h2y4, rfl⟩)
            | ((with_reducible refine Calls.mono (byte_rem 12 A n cap 4 (w4.alloc (.cells #[.slice none 0 0, .slice none 0 0, .slice none 0 0, .slice none 0 0] 29)).drew (Bs.more (Bs.keep h fun _ hp => (HWB.out.trans (X0a.out.bel.mono HWB.out.size)).cell hp) (HWB.out.trans (X0a.out.bel.mono HWB.out.size)).size) (by omega) (by omega) (by omega) (by omega)) ?_); rintro e w5 ⟨xy4, y4, rfl, hty4, hwy4, h1y4, h2y4, rfl⟩))
          | (go_at_call 19; first
            | ((with_reducible refine Calls.mono (iPlanOf_made f b (1 + y3) (1 + y4) A' k c len g w4.drew (hrT1.to X0.out.bel X0.out.bel.size) hk' hl' HE.out h1y3 h2y3 h1y4 h2y4) ?_); rintro e w6 ⟨M1, N1, e1', M2, N2, e2', M3, N3, e3', M4, N4, e4', rfl, hmo, hb6⟩; have x6 := X0.out.made hb6 hmo; clear hmo; (try obtain ⟨⟨v0, v1, v2, v3⟩, q0, q1, q2, q3⟩ := blk_cells4 x6.old); have S6 := hid (ens_cells x6.bel E1); have S6z := hid (ens_cells (x6.bel.alloc x6.bel.size (.cells #[.slice none 0 0, .slice none 0 0, .slice none 0 0, .slice none 0 0] 29)) E1); have S6a := hid (ens_cells (x6.bel.alloc x6.bel.size (.cells #[.slice M1 N1 e1', .slice M2 N2 e2', .slice M3 N3 e3', .slice M4 N4 e4'] 29)) E1); (try have S6q := hid (ens_cells (x6.bel4 (.slice M1 N1 e1') (.slice M2 N2 e2') (.slice M3 N3 e3') (.slice M4 N4 e4')) E1)); have X6 := hid x6; clear x6 hb6)
            | ((with_reducible refine Calls.mono (iPlanOf_made f b (1 + y3) (1 + y4) A' k c len g (w4.alloc (.cells #[.slice none 0 0, .slice none 0 0, .slice none 0 0, .slice none 0 0] 29)).drew (hrT1.to X0a.out.bel X0a.out.bel.size) hk' hl' HE.out h1y3 h2y3 h1y4 h2y4) ?_); rintro e w6 ⟨M1, N1, e1', M2, N2, e2', M3, N3, e3', M4, N4, e4', rfl, hmo, hb6⟩; have x6 := X0a.out.made hb6 hmo; clear hmo; (try obtain ⟨⟨v0, v1, v2, v3⟩, q0, q1, q2, q3⟩ := blk_cells4 x6.old); have S6 := hid (ens_cells x6.bel E1); have S6z := hid (ens_cells (x6.bel.alloc x6.bel.size (.cells #[.slice none 0 0, .slice none 0 0, .slice none 0 0, .slice none 0 0] 29)) E1); have S6a := hid (ens_cells (x6.bel.alloc x6.bel.size (.cells #[.slice M1 N1 e1', .slice M2 N2 e2', .slice M3 N3 e3', .slice M4 N4 e4'] 29)) E1); (try have S6q := hid (ens_cells (x6.bel4 (.slice M1 N1 e1') (.slice M2 N2 e2') (.slice M3 N3 e3') (.slice M4 N4 e4')) E1)); have X6 := hid x6; clear x6 hb6)))
      all_goals clear S0 S0a X0 X0a S6 S6z S6a hty3 hty4 hwy3 hwy4 h1y3 h2y3 h1y4 h2y4
      all_goals (try clear S6q)
      all_goals
        go_wp2_with fail
        go_meet
        first
          | ((with_reducible have Y6 := hid (PM.put (Hid.out X6))); clear X6; with_reducible exact ⟨_, rfl, rfl, Y6⟩)
          | ((with_reducible have Y6 := hid (PM.new (Hid.out X6))); clear X6; with_reducible exact ⟨_, rfl, rfl, Y6⟩)
    case rest =>
      obtain ⟨x, rfl, rfl, hmd⟩ := hcut
      clear X0 X0a S0 S0a
      obtain ⟨M1, N1, e1', y1, M2, N2, e2', y2, M3, N3, e3', y3, M4, N4, e4', y4, hbk, hrd, hpl2, ⟨o1, o2, o3, o4⟩, hbw⟩ := hmd.out
      obtain ⟨s0, s1, s2⟩ := ens_cells hbw E1
      obtain ⟨⟨t0, t1, t2, t3⟩, r0, r1, r2, r3⟩ := blk_cells4 hbk
      obtain ⟨V2, hV2⟩ : ∃ V, clOk f b k len g N1 y1 N2 y2 N3 y3 N4 y4 m z t = V := ⟨_, rfl⟩
      have HV2 := hid hV2
      have hVt : V2 = true := by
        have hVt := HV.out
        rw [← hV2]
        unfold clOk at hVt ⊢
        rw [HPL.out] at hVt
        rw [hpl2]
        exact hVt
      subst hVt
      have HPL2 := hid hpl2
      clear hV2 hpl2 hmd
      go_wp2_with fail
      with_reducible refine Calls.mono (iClassify_any f b A' k c len g M1 N1 e1' y1 M2 N2 e2' y2 M3 N3 e3' y3 M4 N4 e4' y4 D m dc z t true _ (hrT1.to hbw hbw.size) hrd (hd1.to hbw hbw.size) hk' hl' (by omega) (by omega) (by omega) (by omega) hm' HV2) ?_
      rintro e w7 ⟨B7, a7, s7, q7, rfl, hb7, hno, hyes⟩
      have hBB : B7 = B := by
        rw [← cl_full HPL2.out ⟨hno, hyes⟩, HNN.out]
        exact HGE.out
      subst hBB
      have HBF := hid (HWB.out.trans ((hbw.trans (hb7.mono hbw.size)).mono HWB.out.size))
      have hge := HGE.out
      have q3 : (B7 == B7) = true := by simp
      clear hno hyes hb7 hbw hbk hrd s0 s1 s2 t0 t1 t2 t3 r0 r1 r2 r3 HA HGE
      cases B7 with
      | false =>
        go_wp2_with fail
        go_ret
        exact ⟨rfl, by first | exact HBF.out | exact HBF.out.alloc HBF.out.size _⟩
      | true =>
        go_wp2_with fail
        go_ret
        exact ⟨rfl, by first | exact HBF.out | exact HBF.out.alloc HBF.out.size _⟩
end Go.Proofs.YtlgomifpohdniaaGreat
