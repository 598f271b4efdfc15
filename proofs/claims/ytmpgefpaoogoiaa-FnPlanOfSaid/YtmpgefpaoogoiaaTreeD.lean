/- The program's own tree: nodes joined from the last one down. take and twigOf. -/
import Derived.Test.YtmpgefpaoogoiaaTreeC
namespace Go.Proofs.Ytmpgefpaoogoiaa
open Go.RowKit Go.Deep

/-- Block R holds fifteen pointers c. -/
def Rest (w : World) (R : Nat) (c : Nat → Option Addr) : Prop :=
  ∃ cs : Array Value, Blk w R 184 cs ∧ cs.size = 15 ∧ ∀ j, j < 15 → cs[j]? = some (.pointer (c j))
section
variable {w w' : World} {R : Nat} {c : Nat → Option Addr}
theorem Rest.lt (h : Rest w R c) : R < w.heap.size := by obtain ⟨cs, hb, _⟩ := h; exact hb.lt
theorem Rest.cell {j : Nat} (h : Rest w R c) (hj : j < 15) : w.cell? ⟨R, j, none⟩ = some (.pointer (c j)) := by
  obtain ⟨cs, hb, _, hc⟩ := h; rw [hb.cell, hc j hj]
theorem Rest.frozen (h : Rest w R c) (j : Nat) : w.frozen? ⟨R, j, none⟩ = false := by obtain ⟨cs, hb, _⟩ := h; exact hb.frozen j
theorem Rest.keep (h : Rest w R c) (hk : w'.heap[R]? = w.heap[R]?) : Rest w' R c := by
  obtain ⟨cs, hb, hn, hc⟩ := h
  exact ⟨cs, hk.trans hb, hn, hc⟩
theorem Rest.below {B : Nat} (h : Rest w R c) (hb : Below B w w') (hB : R < B) : Rest w' R c := h.keep (hb.block R hB)
theorem Rest.set_ (h : Rest w R c) {i : Nat} (hi : i < 15) (p : Option Addr) : Rest (w.setCell ⟨R, i, none⟩ (.pointer p)) R (fun j => if j = i then p else c j) := by
  obtain ⟨cs, hb, hn, hc⟩ := h
  refine ⟨_, hb.set_ i _, by simpa using hn, fun j hj => ?_⟩
  show _ = some (Value.pointer (if j = i then p else c j))
  by_cases e : j = i
  · subst e; rw [if_pos rfl, Array.getElem?_setIfInBounds_self_of_lt (by omega)]
  · rw [if_neg e, Array.getElem?_setIfInBounds_ne (by omega)]; exact hc j hj
theorem Rest.congr {c' : Nat → Option Addr} (h : Rest w R c) (he : ∀ j, j < 15 → c j = c' j) : Rest w R c' := by
  obtain ⟨cs, hb, hn, hc⟩ := h
  exact ⟨cs, hb, hn, fun j hj => by rw [← he j hj]; exact hc j hj⟩
end
theorem grown_set {w : World} {R o : Nat} (u : Value) : w.grownBy (w.setCell ⟨R, o, none⟩ u) (some R) :=
  ⟨rfl, rfl, rfl, by simp [World.setCell], fun i _ hne => Below.heap_setCell _ _ _ i (by rintro rfl; exact hne rfl)⟩
theorem grown_trans {a b d : World} {r : Option Nat} (h : a.grownBy b r) (k : b.grownBy d r) : a.grownBy d r :=
  ⟨k.os.trans h.os, k.tape.trans h.tape, k.output.trans h.output, Nat.le_trans h.size k.size, fun i hi hne => (k.block i (Nat.lt_of_lt_of_le hi h.size) hne).trans (h.block i hi hne)⟩
theorem grown_below {a w w' : World} {B : Nat} {r : Option Nat} (h : a.grownBy w r) (hb : Below B w w') (hB : a.heap.size ≤ B) : a.grownBy w' r :=
  ⟨hb.os.trans h.os, hb.tape.trans h.tape, hb.output.trans h.output, Nat.le_trans h.size hb.size, fun i hi hne => (hb.block i (Nat.lt_of_lt_of_le hi hB)).trans (h.block i hi hne)⟩
theorem grown_setNew {a w : World} {r : Option Nat} (h : a.grownBy w r) {p : Addr} (hp : a.heap.size ≤ p.block) (u : Value) : a.grownBy (w.setCell p u) r :=
  ⟨h.os, h.tape, h.output, by simpa [World.setCell] using h.size, fun i hi hne => (Below.heap_setCell w p u i (by omega)).trans (h.block i hi hne)⟩

/-- What take gives, and what it leaves. -/
def takeV (c : Nat → Option Addr) (z : Int) : Option Addr := if 0 ≤ z ∧ z < 15 then c z.toNat else none
def takeC (c : Nat → Option Addr) (z : Int) : Nat → Option Addr := fun j => if (j : Int) = z then none else c j

theorem takeC_nat (c : Nat → Option Addr) (k j : Nat) : (fun j => if j = k then none else c j) j = takeC c k j := by
  show (if j = k then none else c j) = _
  unfold takeC
  by_cases e : j = k
  · subst e; simp
  · rw [if_neg e, if_neg (by omega)]
theorem take_any (R : Nat) (c : Nat → Option Addr) (z : Int) (w : World) (h : Rest w R c) :
    Calls Try.prog 154 #[.pointer (some ⟨R, 0, none⟩), .int .i64 z] w fun e w' =>
      e = .returned (.pointer (takeV c z)) ∧ Rest w' R (takeC c z) ∧ w.grownBy w' (some R) := by
  by_cases h0 : z < 0
  · have hv : takeV c z = none := by unfold takeV; rw [if_neg (by omega)]
    have HV := hid hv
    clear hv
    go_enter Try.func154, Try.ntmps154
    go_wp2_with fail
    go_ret
    exact ⟨by rw [HV.out]; rfl, h.congr fun j hj => by unfold takeC; rw [if_neg (by omega)], World.grownBy.refl _ _⟩
  · by_cases h1 : 15 ≤ z
    · have hv : takeV c z = none := by unfold takeV; rw [if_neg (by omega)]
      have HV := hid hv
      clear hv
      go_enter Try.func154, Try.ntmps154
      go_wp2_with fail
      go_ret
      exact ⟨by rw [HV.out]; rfl, h.congr fun j hj => by unfold takeC; rw [if_neg (by omega)], World.grownBy.refl _ _⟩
    · obtain ⟨k, rfl⟩ := Int.eq_ofNat_of_zero_le (show 0 ≤ z by omega)
      have hk : k < 15 := by omega
      have hv : takeV c k = c k := by unfold takeV; rw [if_pos (by omega)]; rfl
      have HV := hid hv
      clear hv
      have hc := h.cell hk
      have hf := h.frozen k
      have i1 : (k : Int) < 15 := by omega
      go_enter Try.func154, Try.ntmps154
      go_wp2_with fail
      go_ret
      exact ⟨by rw [HV.out]; rfl, (h.set_ hk none).congr fun j _ => takeC_nat c k j, grown_set _⟩

/-- Block b is the twig of node d with number i, pointers p and q behind it. -/
def twC (d : Nd) (i : Nat) (p q : Option Addr) : Array Value := #[.int .i64 d.feat, .int .i64 d.cut, .int .i64 d.left, .int .i64 d.right, .bool d.miss, .int .i64 d.value, .int .i64 i, .pointer p, .pointer q]
abbrev Tw (w : World) (b : Nat) (d : Nd) (i : Nat) (p q : Option Addr) : Prop := Blk w b 144 (twC d i p q)

def ndA (d : Nd) : Array Value := #[.int .i64 d.feat, .int .i64 d.cut, .int .i64 d.left, .int .i64 d.right, .bool d.miss, .int .i64 d.value]
theorem ndA_cells {w : World} {b : Nat} {t : TypeId} {d : Nd} (h : Blk w b t (ndA d)) :
    w.cell? ⟨b, 0, none⟩ = some (.int .i64 d.feat) ∧ w.cell? ⟨b, 1, none⟩ = some (.int .i64 d.cut) ∧ w.cell? ⟨b, 2, none⟩ = some (.int .i64 d.left) ∧ w.cell? ⟨b, 3, none⟩ = some (.int .i64 d.right) ∧
    w.cell? ⟨b, 4, none⟩ = some (.bool d.miss) ∧ w.cell? ⟨b, 5, none⟩ = some (.int .i64 d.value) :=
  ⟨h.cell 0, h.cell 1, h.cell 2, h.cell 3, h.cell 4, h.cell 5⟩
theorem tw_new (w : World) (d : Nd) (i : Nat) : Tw ((w.alloc (.cells (ndA d) 135)).alloc (.cells (twC d i none none) 144)) (w.heap.size + 1) d i none none := Blk.new2 _ _ _ _
theorem nd_new (w : World) (d : Nd) (i : Nat) : Blk ((w.alloc (.cells (ndA d) 135)).alloc (.cells (twC d i none none) 144)) w.heap.size 135 (ndA d) := (Blk.new w _ _).alloc _
theorem be_new (w : World) (d : Nd) (i : Nat) : Below w.heap.size w ((w.alloc (.cells (ndA d) 135)).alloc (.cells (twC d i none none) 144)) := ((Below.refl _ _).alloc (Nat.le_refl _) _).alloc (by simp) _

set_option maxHeartbeats 1000000 in
theorem twigOf_leaf (d : Nd) (i : Nat) (f : Int) (R : Nat) (w : World) (h0 : (d.left == 0) = true) :
    Calls Try.prog 153 #[ndV d, .int .i64 i, .int .i64 f, .pointer (some ⟨R, 0, none⟩)] w fun e w' =>
      e = .returned (.pointer (if lfB d = true then some ⟨w.heap.size + 1, 0, none⟩ else none)) ∧ Tw w' (w.heap.size + 1) d i none none ∧ Below w.heap.size w w' := by
  cases hl : lfB d
  all_goals
    have HL := hid hl
    have H0 := hid h0
    clear hl
    go_enter Try.func153, Try.ntmps153
    go_wp2_with fail
    refine (isLeaf_any d _).mono ?_
    rintro e w1 ⟨rfl, hb1⟩
    rw [H0.out]
    have hT := (tw_new w d i).below hb1 (tw_new w d i).lt
    have hN := (nd_new w d i).below hb1 (nd_new w d i).lt
    have hW := (be_new w d i).trans (hb1.mono (be_new w d i).size)
    clear hb1
    obtain ⟨c0, c1, c2, c3, c4, c5⟩ := ndA_cells hN
    go_wp2_with fail
    refine (leafOk_any d _).mono ?_
    rintro e w2 ⟨rfl, hb2⟩
    rw [HL.out]
    have hT2 := hT.below hb2 hT.lt
    have hW2 := hW.trans (hb2.mono hW.size)
    clear hT hb2 hW c0 c1 c2 c3 c4 c5 hN
    go_wp2_with fail
    go_ret
    exact ⟨rfl, hT2, hW2⟩

/-- What becomes of a split. -/
def splitP (f : Int) (d : Nd) (p q : Option Addr) : Bool := spB f d && (p.isSome && q.isSome)
def twP (b : Nat) (f : Int) (d : Nd) (p q : Option Addr) : Option Addr := if splitP f d p q = true then some ⟨b, 0, none⟩ else none

theorem tw_set7 {w : World} {b i : Nat} {d : Nd} {p q : Option Addr} (h : Tw w b d i p q) (p' : Option Addr) : Tw (w.setCell ⟨b, 7, none⟩ (.pointer p')) b d i p' q := h.set_ 7 _
theorem tw_set8 {w : World} {b i : Nat} {d : Nd} {p q : Option Addr} (h : Tw w b d i p q) (q' : Option Addr) : Tw (w.setCell ⟨b, 8, none⟩ (.pointer q')) b d i p q' := h.set_ 8 _

set_option maxHeartbeats 2000000 in
theorem twigOf_split (d : Nd) (i : Nat) (f : Int) (R : Nat) (c : Nat → Option Addr) (w : World) (h : Rest w R c) (h0 : (d.left == 0) = false) :
    Calls Try.prog 153 #[ndV d, .int .i64 i, .int .i64 f, .pointer (some ⟨R, 0, none⟩)] w fun e w' =>
      e = .returned (.pointer (twP (w.heap.size + 1) f d (takeV c d.left) (takeV (takeC c d.left) d.right))) ∧
      Tw w' (w.heap.size + 1) d i (takeV c d.left) (takeV (takeC c d.left) d.right) ∧ Rest w' R (takeC (takeC c d.left) d.right) ∧ w.grownBy w' (some R) := by
  have H0 := hid h0
  have hRw := h.lt
  go_enter Try.func153, Try.ntmps153
  go_wp2_with fail
  refine (isLeaf_any d _).mono ?_
  rintro e w1 ⟨rfl, hb1⟩
  rw [H0.out]
  have hT := (tw_new w d i).below hb1 (tw_new w d i).lt
  have hN := (nd_new w d i).below hb1 (nd_new w d i).lt
  have hW := (be_new w d i).trans (hb1.mono (be_new w d i).size)
  have hR := h.below hW h.lt
  clear hb1 h h0
  obtain ⟨c0, c1, c2, c3, c4, c5⟩ := ndA_cells hN
  go_wp2_with fail
  refine (take_any R c d.left _ hR).mono ?_
  rintro e w2 ⟨rfl, hR2, hg2⟩
  have hT2 := hT.grown hg2 (by simp; omega)
  have hN2 := hN.grown hg2 (by simp; omega)
  have hs2 := hg2.size
  have hW2 : w.grownBy w2 (some R) := ⟨hg2.os.trans hW.os, hg2.tape.trans hW.tape, hg2.output.trans hW.output, Nat.le_trans hW.size hg2.size, fun k hk hne => (hg2.block k (Nat.lt_of_lt_of_le hk hW.size) hne).trans (hW.block k hk)⟩
  clear hT hN hR hg2 c0 c1 c2 c3 c4 c5 hs2 hW
  have t7 : w2.cell? ⟨w.heap.size + 1, 7, none⟩ = some (.pointer none) := hT2.cell 7
  have f7 := hT2.frozen 7
  have hlt2 := hT2.lt
  obtain ⟨c0, c1, c2, c3, c4, c5⟩ := ndA_cells hN2
  go_wp2_with fail
  have hR3 : Rest (w2.setCell ⟨w.heap.size + 1, 7, none⟩ (.pointer (takeV c d.left))) R (takeC c d.left) := hR2.keep (Below.heap_setCell _ _ _ _ (by simp; omega))
  have hN3 : Blk (w2.setCell ⟨w.heap.size + 1, 7, none⟩ (.pointer (takeV c d.left))) w.heap.size 135 (ndA d) := hN2.far (by simp) _
  have hT3 := tw_set7 hT2 (takeV c d.left)
  have hW3 := grown_setNew (p := ⟨w.heap.size + 1, 7, none⟩) hW2 (by simp) (.pointer (takeV c d.left))
  clear hT2 hN2 hR2 hW2 c0 c1 c2 c3 c4 c5 t7 f7 hlt2
  refine (take_any R (takeC c d.left) d.right _ hR3).mono ?_
  rintro e w3 ⟨rfl, hR4, hg3⟩
  have hT4 := hT3.grown hg3 (by simp; omega)
  have hN4 := hN3.grown hg3 (by simp; omega)
  have hW4 := grown_trans hW3 hg3
  clear hT3 hN3 hR3 hg3 hW3
  have t8 : w3.cell? ⟨w.heap.size + 1, 8, none⟩ = some (.pointer none) := hT4.cell 8
  have f8 := hT4.frozen 8
  have hlt4 := hT4.lt
  obtain ⟨c0, c1, c2, c3, c4, c5⟩ := ndA_cells hN4
  go_wp2_with fail
  have hR5 : Rest (w3.setCell ⟨w.heap.size + 1, 8, none⟩ (.pointer (takeV (takeC c d.left) d.right))) R (takeC (takeC c d.left) d.right) := hR4.keep (Below.heap_setCell _ _ _ _ (by simp; omega))
  have hT5 := tw_set8 hT4 (takeV (takeC c d.left) d.right)
  have hW5 := grown_setNew (p := ⟨w.heap.size + 1, 8, none⟩) hW4 (by simp) (.pointer (takeV (takeC c d.left) d.right))
  clear hT4 hN4 hR4 hW4 c0 c1 c2 c3 c4 c5 t8 f8 hlt4
  refine (splitOk_any d f _).mono ?_
  rintro e w4 ⟨rfl, hb4⟩
  have hR6 := hR5.below hb4 hR5.lt
  have hT6 := hT5.below hb4 hT5.lt
  have hW6 := grown_below hW5 hb4 hW5.size
  clear hR5 hT5 hW5 hb4
  have t7 : w4.cell? ⟨w.heap.size + 1, 7, none⟩ = some (.pointer (takeV c d.left)) := hT6.cell 7
  have t8 : w4.cell? ⟨w.heap.size + 1, 8, none⟩ = some (.pointer (takeV (takeC c d.left) d.right)) := hT6.cell 8
  cases hsp : spB f d
  · have HS : Hid (twP (w.heap.size + 1) f d (takeV c d.left) (takeV (takeC c d.left) d.right) = none) := by show twP _ f d _ _ = _; unfold twP splitP; rw [hsp]; rfl
    clear hsp
    go_wp2_with fail
    go_ret
    exact ⟨by rw [HS.out]; rfl, hT6, hR6, hW6⟩
  cases hp : (takeV c d.left).isNone
  · cases hq : (takeV (takeC c d.left) d.right).isNone
    · have HS : Hid (twP (w.heap.size + 1) f d (takeV c d.left) (takeV (takeC c d.left) d.right) = some ⟨w.heap.size + 1, 0, none⟩) := by
        show twP _ f d _ _ = _
        unfold twP splitP
        rw [hsp, ← Option.not_isNone, hp, ← Option.not_isNone, hq]
        rfl
      clear hsp
      go_wp2_with fail
      go_ret
      exact ⟨by rw [HS.out]; rfl, hT6, hR6, hW6⟩
    · have HS : Hid (twP (w.heap.size + 1) f d (takeV c d.left) (takeV (takeC c d.left) d.right) = none) := by
        show twP _ f d _ _ = _
        unfold twP splitP
        rw [hsp, ← Option.not_isNone, hp, ← Option.not_isNone, hq]
        rfl
      clear hsp
      go_wp2_with fail
      go_ret
      exact ⟨by rw [HS.out]; rfl, hT6, hR6, hW6⟩
  · have HS : Hid (twP (w.heap.size + 1) f d (takeV c d.left) (takeV (takeC c d.left) d.right) = none) := by
      show twP _ f d _ _ = _
      unfold twP splitP
      rw [hsp, ← Option.not_isNone, hp]
      rfl
    clear hsp
    go_wp2_with fail
    go_ret
    exact ⟨by rw [HS.out]; rfl, hT6, hR6, hW6⟩
end Go.Proofs.Ytmpgefpaoogoiaa
