/- CachePut of the program. -/
import Derived.Test.YtckhooibjmheiaaCaH
import Derived.Test.YtckhooibjmheiaaCaP
import Derived.Test.YtckhooibjmheiaaCaQ
namespace Go.Proofs.Ytckhooibjmheiaa
open Go.RowKit Go.Deep
set_option linter.unusedVariables false
set_option linter.unusedSimpArgs false

def putY (cap clock : Int) (k : Nat) (s : Nat → Slt) (n : Nat) (g : Nat → Sp) : Bool := canB cap clock k s && boxB n g
def pClk (cap clock : Int) (k : Nat) (s : Nat → Slt) (n : Nat) (g : Nat → Sp) : Int := if putY cap clock k s n g = true then clock + 1 else clock
def pK (cap clock : Int) (k : Nat) (s : Nat → Slt) (n : Nat) (g : Nat → Sp) : Nat := if putY cap clock k s n g = true then putK cap k else k
def pS (cap clock : Int) (k : Nat) (s : Nat → Slt) (n : Nat) (g : Nat → Sp) (x : Int) : Nat → Slt := if putY cap clock k s n g = true then putS cap k s ⟨n, g, x, clock + 1⟩ else s
/-- What CachePut answers. -/
def PutAns (cap clock : Int) (k : Nat) (s : Nat → Slt) (n : Nat) (g : Nat → Sp) (x : Int) (w : World) (e : Ending) (w' : World) : Prop :=
  ∃ A' c', e = .returned (.tuple #[caV cap (pClk cap clock k s n g) A' (pK cap clock k s n g) c', .bool (putY cap clock k s n g)]) ∧ OwC w' w.heap.size A' (pK cap clock k s n g) c' (pS cap clock k s n g x) ∧ Below w.heap.size w w'
theorem putAns_no {cap clock : Int} {k : Nat} {s : Nat → Slt} {n : Nat} {g : Nat → Sp} {x : Int} {w w' : World} {A' : Option Addr} {c' : Nat} (hY : putY cap clock k s n g = false) (h : OwC w' w.heap.size A' k c' s) (hb : Below w.heap.size w w') :
    PutAns cap clock k s n g x w (.returned (.tuple #[caV cap clock A' k c', .bool false])) w' := by
  unfold PutAns pClk pK pS
  rw [hY]
  exact ⟨A', c', rfl, h, hb⟩
theorem putAns_yes {cap clock : Int} {k : Nat} {s : Nat → Slt} {n : Nat} {g : Nat → Sp} {x : Int} {w w' : World} {A' : Option Addr} {c' k' : Nat} (hY : putY cap clock k s n g = true) (hk : putK cap k = k') (h : OwC w' w.heap.size A' k' c' (putS cap k s ⟨n, g, x, clock + 1⟩)) (hb : Below w.heap.size w w') :
    PutAns cap clock k s n g x w (.returned (.tuple #[caV cap (clock + 1) A' k' c', .bool true])) w' := by
  unfold PutAns pClk pK pS
  rw [hY]
  subst hk
  exact ⟨A', c', rfl, h, hb⟩

/-- What stands behind the checks of CachePut. -/
def PutPk (w0 : World) (rb nb : Nat) (X : Array Value) (A3 : Option Addr) (k c3 : Nat) (s : Nat → Slt) (w : World) : Prop :=
  Blk w rb 26 #[.int .i64 0, .int .i64 0, .slice none 0 0] ∧ Blk w nb 26 X ∧ OwC w w0.heap.size A3 k c3 s ∧ Below w0.heap.size w0 w ∧ w0.heap.size < rb ∧ rb < nb
section
variable {w0 w w' : World} {A3 : Option Addr} {k rb nb c3 : Nat} {X : Array Value} {s : Nat → Slt}
theorem GetPk.put {cap clock : Int} {A : Option Addr} {c : Nat} (h : GetPk w0 cap clock A k c rb nb X A3 c3 s w) : PutPk w0 rb nb X A3 k c3 s w := ⟨h.2.1, h.2.2.1, h.2.2.2.1, h.2.2.2.2.1, h.2.2.2.2.2⟩
theorem PutPk.below (h : PutPk w0 rb nb X A3 k c3 s w) (hb : Below w.heap.size w w') : PutPk w0 rb nb X A3 k c3 s w' :=
  ⟨h.1.below hb h.1.lt, h.2.1.below hb h.2.1.lt, h.2.2.1.below hb, h.2.2.2.1.trans (hb.mono h.2.2.2.1.size), h.2.2.2.2⟩
theorem PutPk.setN (h : PutPk w0 rb nb X A3 k c3 s w) (o : Nat) (x : Value) : PutPk w0 rb nb (X.setIfInBounds o x) A3 k c3 s (w.setCell ⟨nb, o, none⟩ x) := by
  obtain ⟨h2, h3, h4, h5, h6, h7⟩ := h
  exact ⟨h2.far (p := ⟨nb, o, none⟩) (by show rb ≠ nb; omega) _, h3.set_ o x, h4.keep1 h3 o x, h5.setCell (p := ⟨nb, o, none⟩) (by show w0.heap.size ≤ nb; omega) _, h6, h7⟩
theorem PutPk.fin (h : PutPk w0 rb nb X A3 k c3 s w) (x y z : Value) :
    Blk (((w.setCell ⟨rb, 0, none⟩ x).setCell ⟨rb, 1, none⟩ y).setCell ⟨rb, 2, none⟩ z) rb 26 #[x, y, z] ∧ OwC (((w.setCell ⟨rb, 0, none⟩ x).setCell ⟨rb, 1, none⟩ y).setCell ⟨rb, 2, none⟩ z) w0.heap.size A3 k c3 s ∧ Below w0.heap.size w0 (((w.setCell ⟨rb, 0, none⟩ x).setCell ⟨rb, 1, none⟩ y).setCell ⟨rb, 2, none⟩ z) := by
  obtain ⟨h2, h3, h4, h5, h6, h7⟩ := h
  exact ⟨((h2.set_ 0 x).set_ 1 y).set_ 2 z, h4.keepE h2 x y z, ((h5.setCell (p := ⟨rb, 0, none⟩) (by show w0.heap.size ≤ rb; omega) x).setCell (p := ⟨rb, 1, none⟩) (by show w0.heap.size ≤ rb; omega) y).setCell (p := ⟨rb, 2, none⟩) (by show w0.heap.size ≤ rb; omega) z⟩
/-- The cut slots: a row of its own again. -/
theorem boxes_cut {L at_ : Nat} {hv : Nat → Value} (h : Boxes w L k hv s) (hat : at_ < k) : Boxes w L (k - 1) (cutV hv at_) (cutS s at_) := fun i hi => by
  have q : ∀ i, i < k - 1 → ∃ i', i' < k ∧ cutV hv at_ i = hv i' ∧ cutS s at_ i = s i' ∧ i ≤ i' ∧ i' ≤ i + 1 ∧ (i' = i ∨ at_ ≤ i) ∧ (i < at_ → i' = i) ∧ (at_ ≤ i → i' = i + 1) := fun i hi => by
    unfold cutV cutS
    by_cases e : i < at_
    · rw [if_pos e, if_pos e]; exact ⟨i, by omega, rfl, rfl, by omega, by omega, by omega, by omega, by omega⟩
    · rw [if_neg e, if_neg e]; exact ⟨i + 1, by omega, rfl, rfl, by omega, by omega, by omega, by omega, by omega⟩
  obtain ⟨i', hi', e1, e2, q1, q2, q3, q4, q5⟩ := q i hi
  rw [e1, e2]
  refine ⟨(h i' hi').1, fun j hj x hx => ?_⟩
  obtain ⟨j', hj', f1, f2, p1, p2, p3, p4, p5⟩ := q j (by omega)
  rw [f1]
  exact (h i' hi').2 j' (by omega) x hx
theorem PutPk.delete {gb at_ : Nat} {hv : Nat → Value} (h : PutPk w0 rb nb X (some ⟨gb, 0, none⟩) k c3 s w) (hrow : w.ownsRow w0.heap.size 37 3 (.slice (some ⟨gb, 0, none⟩) k c3) k (slotsC k hv s)) (hbx : Boxes w w0.heap.size k hv s) (hat : at_ < k)
    (hrow' : w'.ownsRow w0.heap.size 37 3 (.slice (some ⟨gb, 0, none⟩) (k - 1) c3) (k - 1) (slotsC (k - 1) (cutV hv at_) (cutS s at_))) (hg : w.grownBy w' (some gb)) : PutPk w0 rb nb X (some ⟨gb, 0, none⟩) (k - 1) c3 (cutS s at_) w' := by
  obtain ⟨h2, h3, h4, h5, h6, h7⟩ := h
  obtain ⟨b', cs, e, hL, hB, _, _⟩ := own_slots hrow (by omega)
  injection e with e
  injection e with e
  subst e
  refine ⟨h2.grown hg (by intro e; injection e with e; exact h2.ne_ hB (by decide) e), h3.grown hg (by intro e; injection e with e; exact h3.ne_ hB (by decide) e), ⟨_, hrow', boxes_cut (hbx.row hB hg) hat⟩, ?_, h6, h7⟩
  exact ⟨hg.os.trans h5.os, hg.tape.trans h5.tape, hg.output.trans h5.output, Nat.le_trans h5.size hg.size, fun x hx => (hg.block x (Nat.lt_of_lt_of_le hx h5.size) (by intro e; injection e with e; omega)).trans (h5.block x hx)⟩
/-- One slot more. -/
theorem PutPk.add {w4 w5 : World} {hv : Nat → Value} {v : Value} {n c5 : Nat} {g : Nat → Sp} {x u : Int} {O : Obj} {A5 : Option Addr} (h : PutPk w0 rb nb X A3 k c3 s w) (hrow : w.ownsRow w0.heap.size 37 3 (.slice A3 k c3) k (slotsC k hv s)) (hbx : Boxes w w0.heap.size k hv s) (hb4 : Below w.heap.size w w4)
    (hown4 : w4.ownsRow w.heap.size 74 3 v n (spansC n g)) (hown5 : w5.ownsRow w0.heap.size 37 3 (.slice A5 (k + 1) c5) (k + 1) (slotsC k hv s ++ [v, .int .i64 x, .int .i64 u])) (hg5 : (w4.alloc O).grownBy w5 (Value.slice A3 k c3).ownBlock) :
    PutPk w0 rb nb X A5 (k + 1) c5 (addS s k ⟨n, g, x, u⟩) w5 := by
  obtain ⟨h2, h3, _, h5, h6, h7⟩ := h
  have hrow4 : (w4.alloc O).ownsRow w0.heap.size 37 3 (.slice A3 k c3) k (slotsC k hv s) := (own_below hrow hb4).alloc O
  have g2 : Blk (w4.alloc O) rb 26 _ := (h2.below hb4 h2.lt).alloc O
  have g3 : Blk (w4.alloc O) nb 26 _ := (h3.below hb4 h3.lt).alloc O
  have hs4 := hb4.size
  have keep : ∀ {v : Value} {m : Nat} {xs : List Value}, w4.ownsRow w0.heap.size 74 3 v m xs → w5.ownsRow w0.heap.size 74 3 v m xs := fun {v m xs} ho => own_keepJ ho fun y hy hyl hyo => by
    obtain ⟨_, _, cs', hcs'⟩ := own_ltJ ho y hyo
    have hb' : Blk (w4.alloc O) y 74 cs' := hcs'.alloc O
    exact (hg5.block y hb'.lt (own_blk_ne hrow4 hb' (by decide))).trans (hb'.trans hcs'.symm)
  refine ⟨g2.grown hg5 (own_blk_ne hrow4 g2 (by decide)), g3.grown hg5 (own_blk_ne hrow4 g3 (by decide)), ⟨upV hv k v, ?_, fun i hi => ?_⟩, ?_, h6, h7⟩
  · have : slotsC (k + 1) (upV hv k v) (addS s k ⟨n, g, x, u⟩) = slotsC k hv s ++ [v, .int .i64 x, .int .i64 u] := by
      rw [slotsC_succ]
      congr 1
      · exact slotsC_congr fun i hi => by unfold upV addS; rw [if_neg (by omega), if_neg (by omega)]; exact ⟨rfl, rfl, rfl⟩
      · simp [slC, upV, addS]
    rw [this]
    exact hown5
  · unfold upV addS
    by_cases e : i = k
    · subst e
      rw [if_pos rfl, if_pos rfl]
      refine ⟨keep (own_lessC hown4 h5.size), fun a ha y hy => ?_⟩
      rw [if_neg (by omega)]
      intro e2
      have l1 := (own_ltJ (hbx a ha).1 y e2).2.1
      have l2 := (own_ltJ hown4 y hy).1
      omega
    · rw [if_neg e, if_neg e]
      refine ⟨keep ((hbx.below hb4) i (by omega)).1, fun a ha y hy => ?_⟩
      rw [if_neg (by omega)]
      exact (hbx i (by omega)).2 a ha y hy
  · have b4 := (h5.trans (hb4.mono h5.size)).alloc (Nat.le_trans h5.size hs4) O
    exact b4.grown hg5 (by rw [World.size_alloc]; have := h5.size; omega) (fun y hy => (hrow4.lt y hy).1)
end
end Go.Proofs.Ytckhooibjmheiaa
