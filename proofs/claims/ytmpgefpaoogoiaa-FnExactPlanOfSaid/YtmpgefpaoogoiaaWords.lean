/- Words for memory: a slice that reads as n numbers; a block that is known whole; a row of the call's own. -/
import Derived.Below
import Derived.Laws.OwnMore
import Derived.Deep.AppendLies
import Derived.Deep.Draws
import Derived.Laws.Rows
namespace Go.Proofs.Ytmpgefpaoogoiaa
open Go.RowKit

/-- Block g is just the cells cs of element type t, none frozen. -/
def Blk (w : World) (g : Nat) (t : TypeId) (cs : Array Value) : Prop := w.heap[g]? = some (.cells cs t (0, 0))

section
variable {w w' : World} {g : Nat} {t : TypeId} {cs : Array Value}
theorem Blk.lt (h : Blk w g t cs) : g < w.heap.size := by
  rcases Nat.lt_or_ge g w.heap.size with hlt | hge
  · exact hlt
  · unfold Blk at h; rw [Array.getElem?_eq_none hge] at h; cases h
theorem Blk.cell (h : Blk w g t cs) (i : Nat) : w.cell? ⟨g, i, none⟩ = cs[i]? := cell_of_row w g i cs t (0, 0) h
theorem Blk.frozen (h : Blk w g t cs) (i : Nat) : w.frozen? ⟨g, i, none⟩ = false := by
  unfold Blk at h
  simp [World.frozen?, h]
theorem Blk.new (w : World) (t : TypeId) (cs : Array Value) : Blk (w.alloc (.cells cs t)) w.heap.size t cs := heap_alloc_new w _
theorem Blk.new2 (w : World) (o : Obj) (t : TypeId) (cs : Array Value) : Blk ((w.alloc o).alloc (.cells cs t)) (w.heap.size + 1) t cs := by
  have := Blk.new (w.alloc o) t cs
  rwa [World.size_alloc] at this
theorem Blk.new3 (w : World) (o o' : Obj) (t : TypeId) (cs : Array Value) : Blk (((w.alloc o).alloc o').alloc (.cells cs t)) (w.heap.size + 2) t cs := by
  have := Blk.new ((w.alloc o).alloc o') t cs
  rwa [World.size_alloc, World.size_alloc] at this
theorem Blk.drew (h : Blk w g t cs) : Blk w.drew g t cs := h
theorem Blk.drewN (h : Blk w g t cs) (n : Nat) : Blk (w.drewN n) g t cs := h
theorem Blk.alloc (h : Blk w g t cs) (o : Obj) : Blk (w.alloc o) g t cs := (Below.heap_alloc w o g h.lt).trans h
theorem Blk.set_ (h : Blk w g t cs) (i : Nat) (u : Value) : Blk (w.setCell ⟨g, i, none⟩ u) g t (cs.setIfInBounds i u) := by
  unfold Blk at h ⊢
  simp [World.setCell, Array.getElem?_modify, h]
theorem Blk.far (h : Blk w g t cs) {p : Addr} (hp : g ≠ p.block) (u : Value) : Blk (w.setCell p u) g t cs := (Below.heap_setCell w p u g hp).trans h
theorem Blk.below {B : Nat} (h : Blk w g t cs) (hb : Below B w w') (hg : g < B) : Blk w' g t cs := (hb.block g hg).trans h
theorem Blk.grown {row : Option Nat} (h : Blk w g t cs) (hb : w.grownBy w' row) (hg : some g ≠ row) : Blk w' g t cs := (hb.block g h.lt hg).trans h
theorem Blk.ne_ {g' : Nat} {t' : TypeId} {cs' : Array Value} (h : Blk w g t cs) (h' : Blk w g' t' cs') (hne : t ≠ t') : g ≠ g' := by
  rintro rfl
  unfold Blk at h h'
  rw [h] at h'
  injection h' with h'
  injection h' with _ ht
  exact hne ht
end

theorem hid {p : Prop} (h : p) : Hid p := h
theorem below_drewN {B : Nat} {a w : World} (h : Below B a w) (n : Nat) : Below B a (w.drewN n) := ⟨h.os, h.tape, h.output, h.size, h.block⟩

/-- The slice at A reads as n numbers z, and lies below block B. -/
def Rd (w : World) (B : Nat) (A : Option Addr) (n : Nat) (z : Nat → Int) : Prop :=
  0 < n → ∃ b off, A = some ⟨b, off, none⟩ ∧ b < B ∧ ∀ i, i < n → w.cell? ⟨b, off + i, none⟩ = some (.int .i64 (z i))

section
variable {w w' : World} {B B' n : Nat} {A : Option Addr} {z : Nat → Int}
theorem Rd.keep (h : Rd w B A n z) (hk : ∀ p : Addr, p.block < B → w'.cell? p = w.cell? p) : Rd w' B A n z := fun hn => by
  obtain ⟨b, off, e, hb, hc⟩ := h hn
  exact ⟨b, off, e, hb, fun i hi => (hk _ hb).trans (hc i hi)⟩
theorem Rd.more (h : Rd w B A n z) (hB : B ≤ B') : Rd w B' A n z := fun hn => by
  obtain ⟨b, off, e, hb, hc⟩ := h hn
  exact ⟨b, off, e, by omega, hc⟩
theorem Rd.below (h : Rd w B A n z) (hb : Below B w w') : Rd w' B A n z := h.keep fun _ hp => hb.cell hp
theorem Rd.to (h : Rd w B A n z) (hb : Below B w w') (hB : B ≤ w'.heap.size) : Rd w' w'.heap.size A n z := (h.below hb).more hB
theorem Rd.at_ {k : Nat} (h : Rd w B A n z) (hk : k < n) : ∃ b off, A = some ⟨b, off, none⟩ ∧ b < B ∧ w.cell? ⟨b, off + k, none⟩ = some (.int .i64 (z k)) := by
  obtain ⟨b, off, e, hb, hc⟩ := h (by omega)
  exact ⟨b, off, e, hb, hc k hk⟩
theorem Rd.congr {y : Nat → Int} (h : Rd w B A n z) (he : ∀ i, i < n → z i = y i) : Rd w B A n y := fun hn => by
  obtain ⟨b, off, e, hb, hc⟩ := h hn
  exact ⟨b, off, e, hb, fun i hi => by rw [← he i hi]; exact hc i hi⟩
end

/-- Block b, of element type t, bears the numbers z at its first n places. -/
def Row (w : World) (t : TypeId) (b n : Nat) (z : Nat → Int) : Prop :=
  ∃ cs : Array Value, Blk w b t cs ∧ n ≤ cs.size ∧ ∀ i, i < n → cs[i]? = some (.int .i64 (z i))

section
variable {w w' : World} {t : TypeId} {b n : Nat} {z : Nat → Int}
theorem Row.lt (h : Row w t b n z) : b < w.heap.size := by obtain ⟨cs, hb, _⟩ := h; exact hb.lt
theorem Row.rd {B : Nat} (h : Row w t b n z) (hB : b < B) : Rd w B (some ⟨b, 0, none⟩) n z := fun _ => by
  obtain ⟨cs, hb, hn, hc⟩ := h
  exact ⟨b, 0, rfl, hB, fun i hi => by rw [Nat.zero_add, hb.cell, hc i hi]⟩
theorem Row.keep (h : Row w t b n z) (hk : w'.heap[b]? = w.heap[b]?) : Row w' t b n z := by
  obtain ⟨cs, hb, hn, hc⟩ := h
  exact ⟨cs, hk.trans hb, hn, hc⟩
theorem Row.below {B : Nat} (h : Row w t b n z) (hb : Below B w w') (hB : b < B) : Row w' t b n z := h.keep (hb.block b hB)
theorem Row.frozen (h : Row w t b n z) (i : Nat) : w.frozen? ⟨b, i, none⟩ = false := by obtain ⟨cs, hb, _⟩ := h; exact hb.frozen i
theorem Row.cell {i : Nat} (h : Row w t b n z) (hi : i < n) : w.cell? ⟨b, i, none⟩ = some (.int .i64 (z i)) := by
  obtain ⟨cs, hb, _, hc⟩ := h; rw [hb.cell, hc i hi]
theorem Row.set_ {i : Nat} (h : Row w t b n z) (x : Int) : Row (w.setCell ⟨b, i, none⟩ (.int .i64 x)) t b n (fun j => if j = i then x else z j) := by
  obtain ⟨cs, hb, hn, hc⟩ := h
  refine ⟨_, hb.set_ i _, by simpa using hn, fun j hj => ?_⟩
  show _ = some (Value.int IntKind.i64 (if j = i then x else z j))
  by_cases e : j = i
  · subst e
    rw [if_pos rfl, Array.getElem?_setIfInBounds_self_of_lt (by omega)]
  · rw [if_neg e, Array.getElem?_setIfInBounds_ne (by omega)]
    exact hc j hj
theorem Row.congr {y : Nat → Int} (h : Row w t b n z) (he : ∀ i, i < n → z i = y i) : Row w t b n y := by
  obtain ⟨cs, hb, hn, hc⟩ := h
  exact ⟨cs, hb, hn, fun i hi => by rw [← he i hi]; exact hc i hi⟩
end
end Go.Proofs.Ytmpgefpaoogoiaa
