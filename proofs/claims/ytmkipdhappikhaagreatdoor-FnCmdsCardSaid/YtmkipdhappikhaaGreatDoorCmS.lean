/- A command's text read by the program. -/
import Derived.Test.YtmkipdhappikhaaGreatDoorCmR
namespace Go.Proofs.YtmkipdhappikhaaGreatDoor
open Go.RowKit Go.Deep
set_option linter.unusedVariables false
set_option linter.unusedSimpArgs false

abbrev zC : Array Value := cmC 0 0 0 0 none 0 0 ⟨#[]⟩
@[go_sem] theorem buildCmd1 (k : Int) (w : World) : (Instr.build 35 #[(0, .int .i64 k)]).run Tryz.prog w = .ok (cmV k 0 0 0 none 0 0 ⟨#[]⟩) w := run_build w 35 _ _ (by kernel_rfl)
@[go_sem] theorem buildCmd0 (w : World) : (Instr.build 35 #[]).run Tryz.prog w = .ok (cmV 0 0 0 0 none 0 0 ⟨#[]⟩) w := run_build w 35 _ _ (by kernel_rfl)
/-- The six cells of the answer, written. -/
abbrev set6 (W : World) (g : Nat) (v0 v1 v2 v3 v4 v5 : Value) : World := (((((W.setCell ⟨g, 0, none⟩ v0).setCell ⟨g, 1, none⟩ v1).setCell ⟨g, 2, none⟩ v2).setCell ⟨g, 3, none⟩ v3).setCell ⟨g, 4, none⟩ v4).setCell ⟨g, 5, none⟩ v5
theorem set6_far {W : World} {g x : Nat} {v0 v1 v2 v3 v4 v5 : Value} (h : x ≠ g) : (set6 W g v0 v1 v2 v3 v4 v5).heap[x]? = W.heap[x]? := by
  unfold set6
  rw [Below.heap_setCell _ _ _ x h, Below.heap_setCell _ _ _ x h, Below.heap_setCell _ _ _ x h, Below.heap_setCell _ _ _ x h, Below.heap_setCell _ _ _ x h, Below.heap_setCell _ _ _ x h]
theorem set6_blk {W : World} {g : Nat} {t : TypeId} {u0 u1 u2 u3 u4 u5 : Value} (h : Blk W g t #[u0, u1, u2, u3, u4, u5]) (v0 v1 v2 v3 v4 v5 : Value) : Blk (set6 W g v0 v1 v2 v3 v4 v5) g t #[v0, v1, v2, v3, v4, v5] :=
  (((((h.set_ 0 v0).set_ 1 v1).set_ 2 v2).set_ 3 v3).set_ 4 v4).set_ 5 v5
theorem set6_below {w0 W : World} (h : Below w0.heap.size w0 W) (v0 v1 v2 v3 v4 v5 : Value) : Below w0.heap.size w0 (set6 W w0.heap.size v0 v1 v2 v3 v4 v5) :=
  (((((h.setCell (p := ⟨w0.heap.size, 0, none⟩) (Nat.le_refl _) v0).setCell (p := ⟨w0.heap.size, 1, none⟩) (Nat.le_refl _) v1).setCell (p := ⟨w0.heap.size, 2, none⟩) (Nat.le_refl _) v2).setCell (p := ⟨w0.heap.size, 3, none⟩) (Nat.le_refl _) v3).setCell (p := ⟨w0.heap.size, 4, none⟩) (Nat.le_refl _) v4).setCell (p := ⟨w0.heap.size, 5, none⟩) (Nat.le_refl _) v5
theorem set6_size {W : World} {g : Nat} {v0 v1 v2 v3 v4 v5 : Value} : (set6 W g v0 v1 v2 v3 v4 v5).heap.size = W.heap.size := by simp [set6, World.setCell]

/-- What lies in memory while a command is read. -/
structure GC (w0 : World) (sb q : Nat) (S C : Array Value) (W : World) : Prop where
  res : Blk W w0.heap.size 35 zC
  str : Blk W sb 9 S
  cmd : Blk W q 35 C
  lt0 : w0.heap.size < q
  lt1 : q < sb
  bel : Below w0.heap.size w0 W
section
variable {w0 W W' w5 : World} {sb q : Nat} {S C : Array Value}
theorem GC.below (h : GC w0 sb q S C W) (hb : Below W.heap.size W W') : GC w0 sb q S C W' :=
  ⟨h.res.below hb h.res.lt, h.str.below hb h.str.lt, h.cmd.below hb h.cmd.lt, h.lt0, h.lt1, h.bel.trans (hb.mono h.bel.size)⟩
theorem GC.set (h : GC w0 sb q S C W) (o : Nat) (v : Value) : GC w0 sb q S (C.setIfInBounds o v) (W.setCell ⟨q, o, none⟩ v) :=
  ⟨h.res.far (p := ⟨q, o, none⟩) (by show w0.heap.size ≠ q; have := h.lt0; omega) _, h.str.far (p := ⟨q, o, none⟩) (by show sb ≠ q; have := h.lt1; omega) _, h.cmd.set_ o _, h.lt0, h.lt1,
    h.bel.setCell (p := ⟨q, o, none⟩) (by show w0.heap.size ≤ q; have := h.lt0; omega) _⟩
theorem GC.grown (h : GC w0 sb q S C W) {ob : Option Nat} (hg : W.grownBy W' ob) (hlo : ∀ x, ob = some x → sb < x) : GC w0 sb q S C W' :=
  have h0 := h.lt0
  have h1 := h.lt1
  ⟨h.res.grown hg (fun e => by have := hlo _ e.symm; omega), h.str.grown hg (fun e => by have := hlo _ e.symm; omega), h.cmd.grown hg (fun e => by have := hlo _ e.symm; omega), h0, h1, h.bel.grown hg h.bel.size (fun x e => by have := hlo _ e; omega)⟩
end
/-- The numbers read so far, in their cells. -/
def nA (k : Int) (X : Nat → Int) (q : Nat) : Int := if 0 < fA k ∧ 0 < q then X 0 else 0
def nB (k : Int) (X : Nat → Int) (q : Nat) : Int := if 0 < fB k ∧ 1 < q then X 1 else 0
def nT (k : Int) (X : Nat → Int) (q : Nat) : Int := if 0 < fT k ∧ 0 < q then X 0 else 0
abbrev cellsN (k : Int) (X : Nat → Int) (q : Nat) : Array Value := cmC k (nA k X q) (nB k X q) (nT k X q) none 0 0 ⟨#[]⟩
theorem cellsN_zero (k : Int) (X : Nat → Int) : cellsN k X 0 = cmC k 0 0 0 none 0 0 ⟨#[]⟩ := by simp [cellsN, nA, nB, nT]
theorem cellsN_step (k : Int) (X : Nat → Int) (x : Int) {q : Nat} (hq : q < (ptrO k).length) :
    ∃ o v, (ptrO k)[q]? = some o ∧ (cellsN k X q)[o]? = some v ∧ (cellsN k X q).setIfInBounds o (.int .i64 x) = cellsN k (updQ X q x) (q + 1) := by
  rcases kind_or k with rfl | rfl | rfl | rfl | rfl | ⟨k1, k2, k3, k4, k5⟩
  · simp [ptrO, fA, fB, fT] at hq
  · have e1 : ptrO 2 = [1, 2] := by simp [ptrO, fA, fB, fT]
    rw [e1] at hq ⊢
    have hi2 : q < 2 := hq
    obtain rfl | rfl : q = 0 ∨ q = 1 := by omega
    · exact ⟨1, _, rfl, rfl, by simp [cellsN, nA, nB, nT, fA, fB, fT, updQ]⟩
    · exact ⟨2, _, rfl, rfl, by simp [cellsN, nA, nB, nT, fA, fB, fT, updQ]⟩
  · simp [ptrO, fA, fB, fT] at hq
  · have e1 : ptrO 4 = [3] := by simp [ptrO, fA, fB, fT]
    rw [e1] at hq ⊢
    have hi2 : q < 1 := hq
    obtain rfl : q = 0 := by omega
    exact ⟨3, _, rfl, rfl, by simp [cellsN, nA, nB, nT, fA, fB, fT, updQ]⟩
  · have e1 : ptrO 5 = [1] := by simp [ptrO, fA, fB, fT]
    rw [e1] at hq ⊢
    have hi2 : q < 1 := hq
    obtain rfl : q = 0 := by omega
    exact ⟨1, _, rfl, rfl, by simp [cellsN, nA, nB, nT, fA, fB, fT, updQ]⟩
  · simp [ptrO, fA, fB, fT, k2, k4, k5] at hq
theorem nums_all (k : Int) (X : Nat → Int) : numsL k (nA k X (ptrO k).length) (nB k X (ptrO k).length) (nT k X (ptrO k).length) = (List.range (ptrO k).length).map X := by
  rcases kind_or k with rfl | rfl | rfl | rfl | rfl | ⟨k1, k2, k3, k4, k5⟩
  · simp [numsL, ptrO, fA, fB, fT, List.range_succ]
  · simp [numsL, ptrO, nA, nB, nT, fA, fB, fT, List.range_succ]
  · simp [numsL, ptrO, fA, fB, fT, List.range_succ]
  · simp [numsL, ptrO, nA, nB, nT, fA, fB, fT, List.range_succ]
  · simp [numsL, ptrO, nA, nB, nT, fA, fB, fT, List.range_succ]
  · simp [numsL, ptrO, fA, fB, fT, k2, k4, k5]
theorem nums_in {k : Int} {X : Nat → Int} {q : Nat} (h : ∀ j, j < q → I64 (X j)) : I64 (nA k X q) ∧ I64 (nB k X q) ∧ I64 (nT k X q) := by
  unfold nA nB nT
  refine ⟨?_, ?_, ?_⟩
  · split
    · exact h 0 (by omega)
    · exact ⟨by omega, by omega⟩
  · split
    · exact h 1 (by omega)
    · exact ⟨by omega, by omega⟩
  · split
    · exact h 0 (by omega)
    · exact ⟨by omega, by omega⟩

/-- What lies in memory while the documents are read. -/
structure GD (w0 : World) (sb q : Nat) (S : Array Value) (k a b t : Int) (D : Option Addr) (n dc : Nat) (Ad : Nat → Option Addr) (bl len cp : Nat → Nat) (z : Nat → Nat → Int) (W : World) : Prop where
  gc : GC w0 sb q S (cmC k a b t D n dc ⟨#[]⟩) W
  rows : W.ownsRow (sb + 1) 67 1 (.slice D n dc) n (hdQ n Ad len cp)
  docs : RowsQ W (sb + 1) n Ad bl len z
section
variable {w0 W W' w5 : World} {sb q : Nat} {S : Array Value} {k a b t : Int} {D A5 : Option Addr} {n dc : Nat} {Ad : Nat → Option Addr} {bl len cp : Nat → Nat} {z : Nat → Nat → Int}
theorem GD.below (h : GD w0 sb q S k a b t D n dc Ad bl len cp z W) (hb : Below W.heap.size W W') : GD w0 sb q S k a b t D n dc Ad bl len cp z W' := ⟨h.gc.below hb, own_belowT h.rows hb, h.docs.below hb⟩
theorem GD.apart (h : GD w0 sb q S k a b t D n dc Ad bl len cp z W) {x : Nat} (hx : W.heap.size ≤ x) : ∀ i, i < n → 0 < len i → bl i ≠ x := fun i hi h0 e => by
  have := (h.docs i hi h0).2.2.1.lt
  omega
theorem GD.next (h : GD w0 sb q S k a b t D n dc Ad bl len cp z W) {b4 m4 c4 cp5 : Nat} {y : Nat → Int} (hr : Row W 2 b4 m4 y) (hq : sb + 1 ≤ b4) (hne : ∀ i, i < n → 0 < len i → bl i ≠ b4) (O : Obj)
    (hown : w5.ownsRow (sb + 1) 67 1 (.slice A5 (n + 1) cp5) (n + 1) (hdQ n Ad len cp ++ [.slice (some ⟨b4, 0, none⟩) m4 c4]))
    (hg : (W.alloc O).grownBy w5 (Value.slice D n dc).ownBlock) :
    GD w0 sb q S k a b t A5 (n + 1) cp5 (updQ Ad n (some ⟨b4, 0, none⟩)) (updQ bl n b4) (updQ len n m4) (updQ cp n c4) (updQ z n y) (w5.setCell ⟨q, 4, none⟩ (.slice A5 (n + 1) cp5)) := by
  have h0 := h.gc.lt0
  have h1 := h.gc.lt1
  have hA := h.below ((Below.refl _ W).alloc (Nat.le_refl _) O)
  have hrA : Row (W.alloc O) 2 b4 m4 y := hr.below ((Below.refl _ W).alloc (Nat.le_refl _) O) hr.lt
  have hk : ∀ x, x ≠ q → (w5.setCell ⟨q, 4, none⟩ (.slice A5 (n + 1) cp5)).heap[x]? = w5.heap[x]? := fun x hx => Below.heap_setCell _ _ _ x hx
  have hg5 : GC w0 sb q S (cmC k a b t D n dc ⟨#[]⟩) w5 := hA.gc.grown hg fun x hx => by have := (hA.rows.lt x hx).1; omega
  have hr5 : Row w5 2 b4 m4 y := by
    obtain ⟨cs, hB, hx⟩ := hrA
    exact ⟨cs, (hg.block _ hB.lt (own_ne_blk hA.rows hB (by decide))).trans hB, hx⟩
  have hd5 := RowsQ.push (hA.docs.grown hA.rows hg) (A := some ⟨b4, 0, none⟩) (b := b4) (m := m4) (y := y) (fun _ => ⟨rfl, hq, hr5⟩) (fun _ => hne)
  refine ⟨hg5.set 4 _, ?_, hd5.keep fun i hi h0' => hk _ (by have := (hd5 i hi h0').2.1; omega)⟩
  rw [hdQ_push]
  exact own_keepJ hown fun x hx _ _ => hk x (by omega)
end

theorem parts_ext {P : List ByteArray} {x0 : ByteArray} {X Y : Nat → ByteArray} {j L : Nat} (hl : P.length = 1 + j + L) (h0 : P[0]? = some x0) (h1 : ∀ i, i < j → P[i + 1]? = some (X i)) (h2 : ∀ i, i < L → P[1 + j + i]? = some (Y i)) : P = x0 :: ((List.range j).map X ++ (List.range L).map Y) := by
  apply List.ext_getElem?
  intro i
  cases i with
  | zero => rw [h0]; rfl
  | succ i =>
    rw [List.getElem?_cons_succ]
    by_cases hi : i < j
    · rw [List.getElem?_append_left (by simpa using hi), List.getElem?_map, List.getElem?_range hi, h1 i hi]
      rfl
    · rw [List.getElem?_append_right (by simp; omega), List.length_map, List.length_range]
      by_cases hi2 : i - j < L
      · rw [List.getElem?_map, List.getElem?_range hi2, show i + 1 = 1 + j + (i - j) by omega, h2 _ hi2]
        rfl
      · rw [List.getElem?_eq_none (by omega), List.getElem?_eq_none (by simp; omega)]

/-- What readCmd answers. -/
def RdCmd (s : ByteArray) (w : World) (e : Ending) (w' : World) : Prop :=
  ((∃ (k a b t : Int) (D : Option Addr) (n c : Nat) (len : Nat → Nat) (z : Nat → Nat → Int) (x : ByteArray),
      ((FormC k a b t n len z x ∧ s = joinL (wordsC k a b t n len z x)) ∨ (k = 0 ∧ NoCmd s)) ∧ n ≤ 22 ∧ (∀ i, i < n → docB (len i) (z i) = true) ∧
      e = .returned (.tuple #[cmV k a b t D n c x, .bool true]) ∧ LaidQ w' w.heap.size w'.heap.size D n len z) ∨
   (NoCmd s ∧ ∃ k x, e = .returned (.tuple #[cmV k 0 0 0 none 0 0 x, .bool false]))) ∧ Below w.heap.size w w'

set_option maxRecDepth 100000 in
set_option maxHeartbeats 4000000 in
theorem readCmd_any (s : ByteArray) (w : World) (hs : s.size ≤ 4194304) (hE : ErrOk w) (hM : LenOk w) (hp : Hid (Pow w w.heap.size)) :
    Calls Tryz.prog 44 #[.string s] w (RdCmd s w) := by
  have HE : Hid (∀ W, Below w.heap.size w W → ErrOk W) := fun W hW => hE.below hW
  have HM : Hid (∀ W, Below w.heap.size w W → LenOk W) := fun W hW => hM.below hW
  have HPW : Hid (∀ W, Below w.heap.size w W → Pow W W.heap.size) := fun W hW W' hW' => hp.out W' (hW.trans (hW'.mono hW.size))
  clear hE hM hp
  have hb0 := (Below.refl w.heap.size w).alloc (Nat.le_refl _) (.cells zC 35)
  have hB0 := Blk.new w 35 zC
  obtain ⟨t, r, m, ht, hr, hcut, e1, e2, e3⟩ := cut_sp s
  obtain ⟨M, hMM⟩ := HM.out _ hb0
  have HC := hid (strings_Cut s (one1 32) M _ (by omega) hMM)
  rw [e1, e2, e3] at HC
  have HCUT := hid hcut
  clear e1 e2 e3 hMM hcut
  go_enter Tryz.func44, Tryz.ntmps44
  go_wp2_with fail
  refine HC.out.mono ?_
  rintro e w2 ⟨rfl, j, rfl⟩
  have hw2 := below_drewN hb0 j
  have hB2 : Blk ((w.alloc (.cells zC 35)).drewN j) w.heap.size 35 zC := hB0
  clear HC hb0 hB0
  generalize (w.alloc (.cells zC 35)).drewN j = W2 at hw2 hB2 ⊢
  go_wp2_with fail
  refine (kindNamed_any t _).mono ?_
  rintro e w3 ⟨k, hK, rfl, hb3⟩
  have HK := hid hK
  have HNO : Hid (∀ (k' a' b' u' : Int) (n' : Nat) (len' : Nat → Nat) (z' : Nat → Nat → Int) (x' : ByteArray), cmdB k' a' b' u' n' len' z' x' = true → s = cmdS k' a' b' u' n' len' z' x' → k' = k ∧ (k = 1 → m = true ∧ r = x') ∧ (k ≠ 1 → wordsK s = fName k :: ((numsL k a' b' u').map decS ++ docsL n' len' z'))) := fun k' a' b' u' n' len' z' x' h e => by
    obtain ⟨p1, p2, p3⟩ := parts_cmd HCUT.out h e
    have hk' := (cmd_in h).1
    have : k' = k := by
      rcases HK.out with ⟨h1, h2⟩ | ⟨_, h2⟩
      · exact fName_inj hk' h1 (p1.symm.trans h2.symm)
      · exact absurd p1.symm (h2 k' hk'.1 hk'.2)
    subst this
    exact ⟨rfl, p2, p3⟩
  have hw3 := hw2.trans (hb3.mono hw2.size)
  have hB3 := hB2.below hb3 hB2.lt
  clear hK hw2 hB2 hb3
  have hBQ := Blk.new w3 35 (cmC k 0 0 0 none 0 0 ⟨#[]⟩)
  have hB4 := hB3.alloc (.cells (cmC k 0 0 0 none 0 0 ⟨#[]⟩) 35)
  have hw4 := hw3.alloc hw3.size (.cells (cmC k 0 0 0 none 0 0 ⟨#[]⟩) 35)
  have hqs : w3.heap.size < (w3.alloc (.cells (cmC k 0 0 0 none 0 0 ⟨#[]⟩) 35)).heap.size := by simp
  have hwq : w.heap.size < w3.heap.size := hB3.lt
  obtain ⟨c0, c1, c2, c3, c4, c5⟩ := blk_cells6 hBQ
  clear hw3 hB3
  go_wp2_with fail
  generalize w3.alloc (.cells (cmC k 0 0 0 none 0 0 ⟨#[]⟩) 35) = W4 at hBQ hB4 hw4 hqs c0 c1 c2 c3 c4 c5 ⊢
  generalize w3.heap.size = q at hBQ hqs hwq c0 c1 c2 c3 c4 c5 ⊢
  clear c0 c1 c2 c3 c4 c5
  refine (formOf_any k _).mono ?_
  rintro e w5 ⟨rfl, hb5⟩
  have hBQ5 := hBQ.below hb5 hBQ.lt
  have hB5 := hB4.below hb5 hB4.lt
  have hw5 := hw4.trans (hb5.mono hw4.size)
  have hqs5 : q < w5.heap.size := hBQ5.lt
  clear hBQ hB4 hw4 hqs hb5
  by_cases hk1 : k = 1
  · subst hk1
    have hx : fX 1 = 4000 := rfl
    have c5 := hBQ5.cell 5
    have f5 := hBQ5.frozen 5
    have hBQ6 : Blk (w5.setCell ⟨q, 5, none⟩ (.string r)) q 35 (cmC 1 0 0 0 none 0 0 r) := hBQ5.set_ 5 (.string r)
    have hB6 : Blk (w5.setCell ⟨q, 5, none⟩ (.string r)) w.heap.size 35 zC := hB5.far (p := ⟨q, 5, none⟩) (by show w.heap.size ≠ q; omega) _
    have hw6 := hw5.setCell (p := ⟨q, 5, none⟩) (by show w.heap.size ≤ q; omega) (.string r)
    obtain ⟨g0, g1, g2, g3, g4, g5⟩ := blk_cells6 hBQ6
    have d0 := hB6.cell 0; have d1 := hB6.cell 1; have d2 := hB6.cell 2; have d3 := hB6.cell 3; have d4 := hB6.cell 4; have d5 := hB6.cell 5
    have f0 := hB6.frozen 0; have f1 := hB6.frozen 1; have f2 := hB6.frozen 2; have f3 := hB6.frozen 3; have f4 := hB6.frozen 4; have f6 := hB6.frozen 5
    rw [hx]
    go_wp2_with fail
    refine bodyPost_ret (results_en rfl _ _ w.heap.size 35 #[.int .i64 1, .int .i64 0, .int .i64 0, .int .i64 0, .slice none 0 0, .string r] (0, 0) _ rfl (set6_blk hB6 _ _ _ _ _ _) Tryz.underlying35 rfl size_cmd) rfl ?_
    refine ⟨?_, set6_below hw6 _ _ _ _ _ _⟩
    cases m
    · refine .inr ⟨fun k' a' b' u' n' len' z' x' h e => ?_, 1, r, rfl⟩
      obtain ⟨rfl, p2, _⟩ := HNO.out k' a' b' u' n' len' z' x' h e
      exact absurd (p2 (by trivial)).1 (by decide)
    · refine .inl ⟨1, 0, 0, 0, none, 0, 0, fun _ => 0, fun _ _ => 0, r, .inl ⟨⟨by omega, ⟨⟨by omega, by omega⟩, ⟨by omega, by omega⟩, by omega, by omega⟩, fun i hi => absurd hi (Nat.not_lt_zero i), fun _ => rfl, fun _ => rfl, fun _ => rfl, fun _ => rfl, fun h => absurd rfl h⟩, ?_⟩, by omega, fun i hi => absurd hi (Nat.not_lt_zero i), rfl, laidQ_none⟩
      have hf : t = fName 1 := by
        rcases HK.out with ⟨_, h2⟩ | ⟨h2, _⟩
        · exact h2.symm
        · cases h2
      rcases HCUT.out with ⟨_, h2, _⟩ | ⟨h2, _⟩
      · rw [h2, hf]
        exact (joinL_two _ r).symm
      · cases h2
  have hx : ¬ 0 < fX k := by unfold fX; rw [if_neg hk1]; omega
  have HNK : Hid (∀ (k' a' b' u' : Int) (n' : Nat) (len' : Nat → Nat) (z' : Nat → Nat → Int) (x' : ByteArray), cmdB k' a' b' u' n' len' z' x' = true → s = cmdS k' a' b' u' n' len' z' x' → wordsK s = fName k :: ((numsL k a' b' u').map decS ++ docsL n' len' z') ∧ (∀ y ∈ numsL k a' b' u', I64 y) ∧ ∀ i, i < n' → docB (len' i) (z' i) = true) := fun k' a' b' u' n' len' z' x' h e => by
    obtain ⟨rfl, _, p3⟩ := HNO.out k' a' b' u' n' len' z' x' h e
    obtain ⟨_, h2, ⟨_, h4⟩, _, _⟩ := cmd_in h
    exact ⟨p3 hk1, nums_I64 h2, h4⟩
  clear HNO
  go_upto_region 6 with fail
  clear hx
  obtain ⟨P, HP⟩ : ∃ P, Hid (wordsK s = P) := ⟨_, hid rfl⟩
  have hPl : P.length ≤ 23 := by rw [← HP.out]; exact wordsK_len s
  obtain ⟨L0, hL0⟩ := wordsK_head HCUT.out
  rw [HP.out] at hL0
  have hPp : 0 < P.length := by rw [hL0]; simp
  have HPJ : Hid (s = joinL P) := by show _ = _; rw [← HP.out, wordsK_join]
  have HPT : Hid (P[0]? = some t) := by show _ = _; rw [hL0]; rfl
  have HPM : Hid (∀ x, x ∈ P → x.size ≤ 4194304) := fun x hx => by
    rw [← HP.out] at hx
    exact Nat.le_trans (split_mem _ s x hx) hs
  rw [HP.out] at HNK
  clear hL0
  have HSP := hid (wordsK_any s w5 hs (HM.out _ hw5))
  rw [HP.out] at HSP
  have HG0 : Hid (∀ N w6, Blk w6 w5.heap.size 9 (Lib.cellsOf P N) → Below w5.heap.size w5 w6 → GC w w5.heap.size q (Lib.cellsOf P N) (cmC k 0 0 0 none 0 0 ⟨#[]⟩) w6) := fun N w6 hS6 hb6 => ⟨hB5.below hb6 hB5.lt, hS6, hBQ5.below hb6 hBQ5.lt, hwq, hqs5, hw5.trans (hb6.mono hw5.size)⟩
  have HPN : Hid (∀ N, N = min 23 (s.size + 1) → P.length ≤ N) := fun N hN => by
    have := Lib.splitB_length_le (one1 32) 0 (min 23 (s.size + 1) - 1) s
    have e : (wordsK s).length = P.length := by rw [HP.out]
    unfold wordsK at e
    omega
  clear hB5 hBQ5 hw5
  go_cut [8] (fun s8 wx => ∃ (N c8 : Nat) (A1 : Option Addr), s8 = .slice A1 (P.length - 1) c8 ∧ P.length - 1 ≤ c8 ∧ Hid (c8 = 0 ∨ A1 = some ⟨w5.heap.size, 1, none⟩) ∧ Hid (GC w w5.heap.size q (Lib.cellsOf P N) (cmC k 0 0 0 none 0 0 ⟨#[]⟩) wx))
  case first =>
    go_wp2_with fail
    refine HSP.out.mono ?_
    rintro e w6 ⟨N, hN, rfl, hS6, hb6⟩
    have hNP := HPN.out N hN
    have HG := hid (HG0.out N w6 hS6 hb6)
    clear hN hS6 hb6
    by_cases hN1 : N = 1
    · subst hN1
      go_wp2_with fail
      go_meet
      exact ⟨1, 0, _, by rw [show P.length - 1 = 0 by omega], by omega, .inl rfl, HG⟩
    · go_wp2_with fail
      go_meet
      exact ⟨N, N - 1, _, rfl, by omega, .inr rfl, HG⟩
  case rest =>
  clear HG0 HPN HSP
  obtain ⟨N, c8, A1, rfl, hNP, hA1, HG⟩ := hcut
  obtain ⟨w6, hwc⟩ : ∃ w6, w6 = wc := ⟨_, rfl⟩
  rw [← hwc] at HG ⊢
  clear hwc
  generalize w5.heap.size = sb at HG hA1 hqs5 ⊢
  have HLT := hid (And.intro hwq hqs5)
  clear hwq hqs5
  have hpO := ptrO_len k
  have HPV : Hid (∀ i, i < (ptrO k).length → ∃ o, (ptrO k)[i]? = some o ∧ (ptrV q k)[i]? = some (.pointer (some ⟨q, o, none⟩))) := fun i hi => ⟨_, List.getElem?_eq_getElem hi, ptrV_at (List.getElem?_eq_getElem hi)⟩
  have hpv := ptrV_len q k
  go_wp2_with fail
  refine (numbers_any k 0 0 0 none 0 0 ⟨#[]⟩ q _ HG.out.cmd).mono ?_
  rintro e w7 ⟨PA, pc, rfl, hPO, hb7⟩
  have hsz6 : w.heap.size ≤ w6.heap.size := HG.out.bel.size
  have HG7 := hid (HG.out.below hb7)
  have HS6 : Hid (sb < w6.heap.size) := HG.out.str.lt
  have HPO := hid hPO
  clear HG hPO hb7
  generalize ptrV q k = PV at HPO HPV hpv ⊢
  obtain ⟨nn, hnn⟩ : ∃ nn, (ptrO k).length = nn := ⟨_, rfl⟩
  have HNN := hid hnn
  rw [hnn] at hpO hpv HPV
  rw [hpv] at HPO ⊢
  clear hnn hpv
  by_cases hlw : P.length - 1 < nn
  · have j1 : ((P.length - 1 : Nat) : Int) < (nn : Int) := by omega
    have HX : Hid (NoCmd s) := fun k' a' b' u' n' len' z' x' h e => by
      obtain ⟨p1, _, _⟩ := HNK.out k' a' b' u' n' len' z' x' h e
      have p2 := nums_len k a' b' u'
      rw [HNN.out] at p2
      rw [p1] at hlw
      simp at hlw
      omega
    clear hlw
    have d0 := HG7.out.res.cell 0; have d1 := HG7.out.res.cell 1; have d2 := HG7.out.res.cell 2; have d3 := HG7.out.res.cell 3; have d4 := HG7.out.res.cell 4; have d5 := HG7.out.res.cell 5
    have f0 := HG7.out.res.frozen 0; have f1 := HG7.out.res.frozen 1; have f2 := HG7.out.res.frozen 2; have f3 := HG7.out.res.frozen 3; have f4 := HG7.out.res.frozen 4; have f5 := HG7.out.res.frozen 5
    go_wp2_with fail
    refine bodyPost_ret (results_en rfl _ _ w.heap.size 35 #[.int .i64 0, .int .i64 0, .int .i64 0, .int .i64 0, .slice none 0 0, .string ⟨#[]⟩] (0, 0) _ rfl (set6_blk HG7.out.res _ _ _ _ _ _) Tryz.underlying35 rfl size_cmd) rfl ?_
    exact ⟨.inr ⟨HX.out, 0, ⟨#[]⟩, rfl⟩, set6_below HG7.out.bel _ _ _ _ _ _⟩
  have j1 : ¬ ((P.length - 1 : Nat) : Int) < (nn : Int) := by omega
  go_wp2_with fail
  clear j1
  go_loopw [48] (fun i wr => ∃ (j : Nat) (X : Nat → Int), j ≤ nn ∧ i = .int .i64 j ∧ Hid (GC w sb q (Lib.cellsOf P N) (cellsN k X j) wr) ∧ Hid (wr.ownsRow w6.heap.size 66 1 (.slice PA nn pc) nn PV) ∧ Hid (∀ i, i < j → I64 (X i) ∧ P[i + 1]? = some (decS (X i))))
    (fun i _ => nn - (intOf i).toNat)
  case atStart => exact ⟨0, fun _ => 0, Nat.zero_le _, rfl, (by rw [cellsN_zero]; exact HG7), HPO, fun i hi => absurd hi (Nat.not_lt_zero i)⟩
  case round =>
    clear HG7 HPO
    obtain ⟨j, X, hj, rfl, hG, hPO, hX⟩ := hrel
    by_cases hlt : j < nn
    · obtain ⟨o, ho, hov⟩ := HPV.out j hlt
      obtain ⟨pb, rfl, hpb, hpl, hpc⟩ := own_at1 hPO.out (by omega)
      have cp : wr.cell? ⟨pb, j, none⟩ = some (.pointer (some ⟨q, o, none⟩)) := hpc j _ hov
      obtain ⟨x, hx⟩ : ∃ x, P.getD (j + 1) ByteArray.empty = x := ⟨_, rfl⟩
      have hxk := getD_wordC (P := P) (k := j + 1) (by omega)
      rw [hx] at hxk
      have hA1' : A1 = some ⟨sb, 1, none⟩ := by
        rcases hA1.out with h | h
        · omega
        · exact h
      have cw : wr.cell? ⟨sb, 1 + j, none⟩ = some (.string x) := by rw [hG.out.str.cell, Nat.add_comm]; exact cells_word hxk
      have hxs : x.size ≤ 4194304 := HPM.out x (List.mem_of_getElem? hxk)
      have HXK := hid hxk
      have i1 : (j : Int) < (nn : Int) := by omega
      have i2 : (j : Int) < ((P.length - 1 : Nat) : Int) := by omega
      have i0' : (0 : Int) ≤ (j : Int) := by omega
      clear hx hxk hpc hov
      rw [hA1'] at hA1 ⊢
      go_wp2_with fail
      refine (readDec_any x _ hxs (HE.out _ hG.out.bel) (hid (HPW.out _ hG.out.bel))).mono ?_
      rintro e w8 ⟨hans, hb8⟩
      have hG8 := hid (hG.out.below hb8)
      have hPO8 := hid (own_belowT hPO.out hb8)
      have cp8 : w8.cell? ⟨pb, j, none⟩ = some (.pointer (some ⟨q, o, none⟩)) := (hb8.cell (show (⟨pb, j, none⟩ : Addr).block < wr.heap.size from hpl)).trans cp
      clear hG hPO hb8 cw cp
      rcases hans.symm with ⟨hno, rfl⟩ | ⟨y, hy, hyx, rfl⟩
      · have HX : Hid (NoCmd s) := fun k' a' b' u' n' len' z' x' h e => by
          obtain ⟨p1, p2, _⟩ := HNK.out k' a' b' u' n' len' z' x' h e
          have p3 := nums_len k a' b' u'
          rw [HNN.out] at p3
          have p4 := HXK.out
          rw [p1, List.getElem?_cons_succ, List.getElem?_append_left (by rw [List.length_map]; omega), List.getElem?_map, List.getElem?_eq_getElem (by omega)] at p4
          exact hno _ (p2 _ (List.getElem_mem (by omega))) (Option.some.inj p4)
        clear hno
        have d0 := hG8.out.res.cell 0; have d1 := hG8.out.res.cell 1; have d2 := hG8.out.res.cell 2; have d3 := hG8.out.res.cell 3; have d4 := hG8.out.res.cell 4; have d5 := hG8.out.res.cell 5
        have f0 := hG8.out.res.frozen 0; have f1 := hG8.out.res.frozen 1; have f2 := hG8.out.res.frozen 2; have f3 := hG8.out.res.frozen 3; have f4 := hG8.out.res.frozen 4; have f5 := hG8.out.res.frozen 5
        go_wp2_with fail
        refine bodyPost_ret (results_en rfl _ _ w.heap.size 35 #[.int .i64 0, .int .i64 0, .int .i64 0, .int .i64 0, .slice none 0 0, .string ⟨#[]⟩] (0, 0) _ rfl (set6_blk hG8.out.res _ _ _ _ _ _) Tryz.underlying35 rfl size_cmd) rfl ?_
        exact ⟨.inr ⟨HX.out, 0, ⟨#[]⟩, rfl⟩, set6_below hG8.out.bel _ _ _ _ _ _⟩
      · obtain ⟨o', v, ho', hcv, hst⟩ := cellsN_step k X y (q := j) (by rw [HNN.out]; exact hlt)
        obtain rfl : o' = o := Option.some.inj (ho'.symm.trans ho)
        have cq : w8.cell? ⟨q, o', none⟩ = some v := by rw [hG8.out.cmd.cell]; exact hcv
        have fq := hG8.out.cmd.frozen o'
        have HG9 : Hid (GC w sb q (Lib.cellsOf P N) (cellsN k (updQ X j y) (j + 1)) (w8.setCell ⟨q, o', none⟩ (.int .i64 y))) := by
          show GC _ _ _ _ _ _
          rw [← hst]
          exact hG8.out.set o' _
        have hq6 : q < w6.heap.size := Nat.lt_trans HLT.out.2 HS6.out
        have HPO9 : Hid ((w8.setCell ⟨q, o', none⟩ (.int .i64 y)).ownsRow w6.heap.size 66 1 (.slice (some ⟨pb, 0, none⟩) nn pc) nn PV) :=
          own_keepJ hPO8.out fun x hx _ _ => Below.heap_setCell _ _ _ x (fun e => by have e' : x = q := e; omega)
        have HX9 : Hid (∀ i, i < j + 1 → I64 (updQ X j y i) ∧ P[i + 1]? = some (decS (updQ X j y i))) := fun i hi => by
          by_cases e : i = j
          · subst e
            rw [updQ_same, hyx]
            exact ⟨hy, HXK.out⟩
          · rw [updQ_other e]
            exact hX.out i (by omega)
        clear hst hcv ho' ho hX hG8 hPO8 cp8 hyx
        go_wp2_with fail
        go_roundw
        case rel => exact ⟨j + 1, updQ X j y, by omega, by go_num, HG9, HPO9, HX9⟩
        case measure => simp [intOf]; omega
    · obtain rfl : j = nn := by omega
      have j1 : ¬ (j : Int) < (j : Int) := by omega
      have HNI := hid (nums_in (k := k) fun i hi => (hX.out i hi).1)
      have HNM : Hid (numsL k (nA k X j) (nB k X j) (nT k X j) = (List.range j).map X) := by
        show _ = _
        have := nums_all k X
        rw [HNN.out] at this
        exact this
      have HFM : Hid ((¬ 0 < fA k → nA k X j = 0) ∧ (¬ 0 < fB k → nB k X j = 0) ∧ (¬ 0 < fT k → nT k X j = 0)) :=
        ⟨fun h => if_neg fun h' => h h'.1, fun h => if_neg fun h' => h h'.1, fun h => if_neg fun h' => h h'.1⟩
      clear hPO HPV
      have hG' : Hid (GC w sb q (Lib.cellsOf P N) (cmC k (nA k X j) (nB k X j) (nT k X j) none 0 0 ⟨#[]⟩) wr) := hG
      clear hG
      have hG := hG'
      clear hG'
      generalize nA k X j = na at hG HNI HNM HFM ⊢
      generalize nB k X j = nb at hG HNI HNM HFM ⊢
      generalize nT k X j = nt at hG HNI HNM HFM ⊢
      go_upto_region 18 with fail
      clear j1
      obtain ⟨w9, hwc⟩ : ∃ w9, w9 = wr := ⟨_, rfl⟩
      rw [← hwc] at hG ⊢
      clear hwc
      obtain ⟨L, hL⟩ : ∃ L, P.length - 1 - j = L := ⟨_, rfl⟩
      go_cut [71, 72, 73] (fun s71 s72 s73 wx => (∃ A2 c2, s71 = .slice A2 L c2 ∧ Hid (0 < L → A2 = some ⟨sb, 1 + j, none⟩)) ∧ s72 = .int .i64 (L : Int) ∧ s73 = .int .i64 0 ∧ wx = w9)
      case first =>
        have j2 : (j : Int) ≤ ((P.length - 1 : Nat) : Int) := by omega
        have j3 : ((P.length - 1 : Nat) : Int) ≤ (c8 : Int) := by omega
        by_cases hcap : c8 = j
        · subst hcap
          go_wp2_with fail
          go_meet
          exact ⟨⟨A1, 0, rfl, fun h => by omega⟩, rfl, rfl, rfl⟩
        · go_wp2_with fail
          go_meet
          refine ⟨⟨_, _, rfl, fun h => ?_⟩, rfl, rfl, rfl⟩
          rcases hA1.out with h1 | h1
          · omega
          · rw [h1, Option.map_some, Addr.add_lit]
      case rest =>
      obtain ⟨⟨A2, c2, rfl, hA2⟩, rfl, rfl, rfl⟩ := hcut
      have HPL : P.length = 1 + j + L := by omega
      clear hL hA1 hNP
      have hL22 : L ≤ 22 := by omega
      obtain ⟨i0, hi0, hz0, hz1, hz2⟩ := info_intsQ
      have HD0 : Hid (GD w sb q (Lib.cellsOf P N) k na nb nt none 0 0 (fun _ => none) (fun _ => 0) (fun _ => 0) (fun _ => 0) (fun _ _ => 0) wc) := ⟨hG.out, own_nil _ _ _, rowsQ_nil⟩
      clear hG
      go_wp2_with fail
      go_loopw [73] (fun i wr => ∃ (n : Nat) (D : Option Addr) (dc : Nat) (Ad : Nat → Option Addr) (bl len cp : Nat → Nat) (z : Nat → Nat → Int), n ≤ L ∧ i = .int .i64 n ∧ Hid (GD w sb q (Lib.cellsOf P N) k na nb nt D n dc Ad bl len cp z wr) ∧ Hid (∀ i, i < n → docB (len i) (z i) = true ∧ P[1 + j + i]? = some (docS (len i) (z i))))
        (fun i _ => L - (intOf i).toNat)
      case atStart => exact ⟨0, _, _, _, _, _, _, _, Nat.zero_le _, rfl, HD0, fun i hi => absurd hi (Nat.not_lt_zero i)⟩
      case round =>
        clear HD0
        obtain ⟨n, D, dc, Ad, bl, len, cp, z, hn, rfl, hD, hT⟩ := hrel
        by_cases hlt : n < L
        · obtain ⟨x, hx⟩ : ∃ x, P.getD (1 + j + n) ByteArray.empty = x := ⟨_, rfl⟩
          have hxk := getD_wordC (P := P) (k := 1 + j + n) (by omega)
          rw [hx] at hxk
          have hA2' := hA2.out (by omega)
          have cw : wr.cell? ⟨sb, 1 + j + n, none⟩ = some (.string x) := by rw [hD.out.gc.str.cell]; exact cells_word hxk
          have hxs : x.size ≤ 4194304 := HPM.out x (List.mem_of_getElem? hxk)
          have HXK := hid hxk
          have i1 : (n : Int) < (L : Int) := by omega
          have i0' : (0 : Int) ≤ (n : Int) := by omega
          have hbl := hD.out.gc.bel
          have HRD := hid (iRead_any x wr hxs (HE.out _ hbl) (HM.out _ hbl) (hid (HPW.out _ hbl)))
          clear hx hxk hbl
          rw [hA2'] at hA2 ⊢
          go_wp2_with fail
          refine HRD.out.mono ?_
          rintro e w8 ⟨hans, hb8⟩
          have hD8 := hid (hD.out.below hb8)
          have hs8 : wr.heap.size ≤ w8.heap.size := hb8.size
          clear HRD hb8 cw
          rcases hans.symm with ⟨hno, rfl⟩ | ⟨m4, y, b4, c4, hy, hxy, rfl, hb4, hr4⟩
          · have HX : Hid (NoCmd s) := fun k' a' b' u' n' len' z' x' h e => by
              obtain ⟨p1, _, p2⟩ := HNK.out k' a' b' u' n' len' z' x' h e
              have p3 := nums_len k a' b' u'
              rw [HNN.out] at p3
              have p4 := HXK.out
              have p5 := congrArg List.length p1
              simp only [List.length_cons, List.length_append, List.length_map, docsL_len, p3] at p5
              rw [p1, show 1 + j + n = (j + n) + 1 by omega, List.getElem?_cons_succ, List.getElem?_append_right (by rw [List.length_map]; omega), List.length_map, p3, Nat.add_sub_cancel_left, docsL_at (by omega)] at p4
              exact hno _ _ (p2 n (by omega)) (Option.some.inj p4).symm
            clear hno hD
            have d0 := hD8.out.gc.res.cell 0; have d1 := hD8.out.gc.res.cell 1; have d2 := hD8.out.gc.res.cell 2; have d3 := hD8.out.gc.res.cell 3; have d4 := hD8.out.gc.res.cell 4; have d5 := hD8.out.gc.res.cell 5
            have f0 := hD8.out.gc.res.frozen 0; have f1 := hD8.out.gc.res.frozen 1; have f2 := hD8.out.gc.res.frozen 2; have f3 := hD8.out.gc.res.frozen 3; have f4 := hD8.out.gc.res.frozen 4; have f5 := hD8.out.gc.res.frozen 5
            go_wp2_with fail
            refine bodyPost_ret (results_en rfl _ _ w.heap.size 35 #[.int .i64 0, .int .i64 0, .int .i64 0, .int .i64 0, .slice none 0 0, .string ⟨#[]⟩] (0, 0) _ rfl (set6_blk hD8.out.gc.res _ _ _ _ _ _) Tryz.underlying35 rfl size_cmd) rfl ?_
            exact ⟨.inr ⟨HX.out, 0, ⟨#[]⟩, rfl⟩, set6_below hD8.out.gc.bel _ _ _ _ _ _⟩
          · have c4' : w8.cell? ⟨q, 4, none⟩ = some (.slice D n dc) := hD8.out.gc.cmd.cell 4
            have hsb := hD8.out.gc.str.lt
            have hne := hD.out.apart hb4
            have hq4 : sb + 1 ≤ b4 := by have := hD.out.gc.str.lt; omega
            have HR4 := hid hr4
            have HNE := hid hne
            have HY := hid (And.intro hy hxy)
            clear hr4 hne hD hy hxy
            go_wp2_with (at_builtin; refine wpList_append_own _ rfl (.tmp 86) (.tmp 88) 33 rfl (sb + 1) 67 i0 (.slice none 0 0) 1 24 Tryz.underlying33 hi0 hz0 hz1 hz2 rfl (by decide) _ n _ rfl (hD8.out.rows.alloc _) ⟨w8.heap.size, 0, none⟩ 1 1 [.slice (some ⟨b4, 0, none⟩) m4 c4] rfl rfl (cell_one_newT _ _ _) (by intro u hu; simp at hu; subst hu; rfl) (by unfold maxLen; omega) (by omega) (by simp; omega) ?_)
            intro v' w10 hown10 hg10 _
            obtain ⟨A10, cp10, rfl⟩ := own_formT hown10
            have hC10 : GC w sb q (Lib.cellsOf P N) (cmC k na nb nt D n dc ⟨#[]⟩) w10 := (hD8.out.gc.below ((Below.refl _ w8).alloc (Nat.le_refl _) _)).grown hg10 fun x hx => by have := (hD8.out.rows.lt x hx).1; omega
            have c10 : w10.cell? ⟨q, 4, none⟩ = some (.slice D n dc) := hC10.cmd.cell 4
            have f10 := hC10.cmd.frozen 4
            have HD10 := hid (hD8.out.next HR4.out hq4 HNE.out _ hown10 hg10)
            have HT10 : Hid (∀ i, i < n + 1 → docB (updQ len n m4 i) (updQ z n y i) = true ∧ P[1 + j + i]? = some (docS (updQ len n m4 i) (updQ z n y i))) := fun i hi => by
              by_cases e : i = n
              · subst e
                rw [updQ_same, updQ_same]
                exact ⟨HY.out.1, by rw [← HY.out.2]; exact HXK.out⟩
              · rw [updQ_other e, updQ_other e]
                exact hT.out i (by omega)
            clear hown10 hg10 hC10 c4' hD8 hT
            go_wp2_with fail
            go_roundw
            case rel => exact ⟨n + 1, _, _, _, _, _, _, _, by omega, by go_num, HD10, HT10⟩
            case measure => simp [intOf]; omega
        · obtain rfl : n = L := by omega
          have j1 : ¬ (n : Int) < (n : Int) := by omega
          have hD7 := hD.out
          obtain ⟨g0, g1, g2, g3, g4, g5⟩ := blk_cells6 hD7.gc.cmd
          have d0 := hD7.gc.res.cell 0; have d1 := hD7.gc.res.cell 1; have d2 := hD7.gc.res.cell 2; have d3 := hD7.gc.res.cell 3; have d4 := hD7.gc.res.cell 4; have d5 := hD7.gc.res.cell 5
          have f0 := hD7.gc.res.frozen 0; have f1 := hD7.gc.res.frozen 1; have f2 := hD7.gc.res.frozen 2; have f3 := hD7.gc.res.frozen 3; have f4 := hD7.gc.res.frozen 4; have f5 := hD7.gc.res.frozen 5
          clear hD7
          go_wp2_with fail
          refine bodyPost_ret (results_en rfl _ _ w.heap.size 35 #[.int .i64 k, .int .i64 na, .int .i64 nb, .int .i64 nt, .slice D n dc, .string ⟨#[]⟩] (0, 0) _ rfl (set6_blk hD.out.gc.res _ _ _ _ _ _) Tryz.underlying35 rfl size_cmd) rfl ?_
          refine ⟨.inl ⟨k, na, nb, nt, D, n, dc, len, z, ⟨#[]⟩, ?_, hL22, fun i hi => (hT.out i hi).1, rfl, ?_⟩, set6_below hD.out.gc.bel _ _ _ _ _ _⟩
          · rcases HK.out with ⟨h1, h2⟩ | ⟨h1, h2⟩
            · left
              have hF : FormC k na nb nt n len z ⟨#[]⟩ := ⟨h1, HNI.out, fun i hi => (hT.out i hi).1, fun h => HFM.out.1 (by omega), fun h => HFM.out.2.1 (by omega), fun h => HFM.out.2.2 (by omega), fun h => absurd h hk1, fun _ => rfl⟩
              refine ⟨hF, ?_⟩
              rw [(words_no hF hk1).1, HNM.out, List.map_map, HPJ.out]
              congr 1
              exact parts_ext HPL (by rw [h2]; exact HPT.out) (fun i hi => (hX.out i hi).2) fun i hi => (hT.out i hi).2
            · right
              exact ⟨h1, fun k' a' b' u' n' len' z' x' h e => h2 k' (cmd_in h).1.1 (cmd_in h).1.2 (parts_cmd HCUT.out h e).1.symm⟩
          · have hL7 : LaidQ wr (sb + 1) wr.heap.size D n len z := laidQ_own hD.out.rows hD.out.docs fun i hi => (docB_true (hT.out i hi).1).1
            have h0 := hD.out.gc.lt0
            have h1 := hD.out.gc.lt1
            exact (hL7.keep fun x hx _ => set6_far (by omega)).less (by omega) (Nat.le_of_eq set6_size.symm)
end Go.Proofs.YtmkipdhappikhaaGreatDoor
