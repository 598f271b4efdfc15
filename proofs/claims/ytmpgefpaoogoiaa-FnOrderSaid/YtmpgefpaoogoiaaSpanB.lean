/- Slices of spans: what reads as a list of spans; copies and comparisons of the exact laws. -/
import Derived.Test.YtmpgefpaoogoiaaTreeB
import Derived.Test.YtmpgefpaoogoiaaBoxes
namespace Go.Proofs.Ytmpgefpaoogoiaa
open Go.RowKit Go.Deep

/-- A span as the program's value. -/
abbrev spV (d : Sp) : Value := .agg #[.int .i64 d.lo, .int .i64 d.hi, .bool d.gone]
/-- Three cells at an address are the span d. -/
def SpAt (w : World) (b o : Nat) (d : Sp) : Prop :=
  w.cell? ⟨b, o, none⟩ = some (.int .i64 d.lo) ∧ w.cell? ⟨b, o + 1, none⟩ = some (.int .i64 d.hi) ∧ w.cell? ⟨b, o + 2, none⟩ = some (.bool d.gone)
/-- The slice at A reads as n spans g, and lies below block B. -/
def RdS (w : World) (B : Nat) (A : Option Addr) (n : Nat) (g : Nat → Sp) : Prop :=
  0 < n → ∃ b off, A = some ⟨b, off, none⟩ ∧ b < B ∧ ∀ i, i < n → SpAt w b (off + i * 3) (g i)
section
variable {w w' : World} {B B' n : Nat} {A : Option Addr} {g : Nat → Sp}
theorem SpAt.keep {b o : Nat} {d : Sp} (h : SpAt w b o d) (hk : ∀ o, w'.cell? ⟨b, o, none⟩ = w.cell? ⟨b, o, none⟩) : SpAt w' b o d := by
  unfold SpAt at h ⊢
  simp only [hk]
  exact h
theorem RdS.keep (h : RdS w B A n g) (hk : ∀ p : Addr, p.block < B → w'.cell? p = w.cell? p) : RdS w' B A n g := fun hn => by
  obtain ⟨b, off, e, hb, hc⟩ := h hn
  exact ⟨b, off, e, hb, fun i hi => (hc i hi).keep fun o => hk ⟨b, o, none⟩ hb⟩
theorem RdS.more (h : RdS w B A n g) (hB : B ≤ B') : RdS w B' A n g := fun hn => by
  obtain ⟨b, off, e, hb, hc⟩ := h hn
  exact ⟨b, off, e, by omega, hc⟩
theorem RdS.below (h : RdS w B A n g) (hb : Below B w w') : RdS w' B A n g := h.keep fun _ hp => hb.cell hp
theorem RdS.to (h : RdS w B A n g) (hb : Below B w w') (hB : B ≤ w'.heap.size) : RdS w' w'.heap.size A n g := (h.below hb).more hB
theorem RdS.at_ {k : Nat} (h : RdS w B A n g) (hk : k < n) : ∃ b off, A = some ⟨b, off, none⟩ ∧ b < B ∧ SpAt w b (off + k * 3) (g k) := by
  obtain ⟨b, off, e, hb, hc⟩ := h (by omega)
  exact ⟨b, off, e, hb, hc k hk⟩
end
theorem rds_none {w : World} {B : Nat} {A : Option Addr} {g : Nat → Sp} : RdS w B A 0 g := fun h => absurd h (by omega)

/-- The cells of a span. -/
def spC (d : Sp) : List Value := [.int .i64 d.lo, .int .i64 d.hi, .bool d.gone]
/-- Block b, of element type t, bears the spans g at its first n places. -/
def RowS (w : World) (t : TypeId) (b n : Nat) (g : Nat → Sp) : Prop :=
  ∃ cs : Array Value, Blk w b t cs ∧ n * 3 ≤ cs.size ∧ ∀ i, i < n → ∀ j, j < 3 → cs[i * 3 + j]? = (spC (g i))[j]?
section
variable {w w' : World} {t : TypeId} {b n : Nat} {g : Nat → Sp}
theorem RowS.lt (h : RowS w t b n g) : b < w.heap.size := by obtain ⟨cs, hb, _⟩ := h; exact hb.lt
theorem RowS.spAt {i : Nat} (h : RowS w t b n g) (hi : i < n) : SpAt w b (i * 3) (g i) := by
  obtain ⟨cs, hb, hn, hc⟩ := h
  have h0 := hc i hi 0 (by omega); have h1 := hc i hi 1 (by omega); have h2 := hc i hi 2 (by omega)
  exact ⟨(hb.cell _).trans h0, (hb.cell _).trans h1, (hb.cell _).trans h2⟩
theorem RowS.rd {B : Nat} (h : RowS w t b n g) (hB : b < B) : RdS w B (some ⟨b, 0, none⟩) n g := fun _ =>
  ⟨b, 0, rfl, hB, fun i hi => by rw [Nat.zero_add]; exact h.spAt hi⟩
theorem RowS.keep (h : RowS w t b n g) (hk : w'.heap[b]? = w.heap[b]?) : RowS w' t b n g := by
  obtain ⟨cs, hb, hn, hc⟩ := h
  exact ⟨cs, hk.trans hb, hn, hc⟩
theorem RowS.below {B : Nat} (h : RowS w t b n g) (hb : Below B w w') (hB : b < B) : RowS w' t b n g := h.keep (hb.block b hB)
theorem RowS.grown {b' : Nat} (h : RowS w t b n g) (hg : w.grownBy w' (some b')) (hne : b ≠ b') : RowS w' t b n g :=
  h.keep (hg.block b h.lt (by simpa using hne))
end
theorem rds_of {w : World} {t : TypeId} {b n : Nat} {g : Nat → Sp} (h : RowS w t b n g) : RdS w w.heap.size (some ⟨b, 0, none⟩) n g := h.rd h.lt

/-- Three cells written from place k * 3 on. -/
def put3 (cs : Array Value) (k : Nat) (d : Sp) : Array Value :=
  ((cs.setIfInBounds (k * 3) (.int .i64 d.lo)).setIfInBounds (k * 3 + 1) (.int .i64 d.hi)).setIfInBounds (k * 3 + 2) (.bool d.gone)
theorem put3_size (cs : Array Value) (k : Nat) (d : Sp) : (put3 cs k d).size = cs.size := by simp [put3]
theorem put3_in {cs : Array Value} {k : Nat} (d : Sp) (h : k * 3 + 3 ≤ cs.size) (j : Nat) (hj : j < 3) : (put3 cs k d)[k * 3 + j]? = (spC d)[j]? := by
  unfold put3 spC
  obtain rfl | rfl | rfl : j = 0 ∨ j = 1 ∨ j = 2 := by omega
  all_goals (simp only [Array.getElem?_setIfInBounds, Array.size_setIfInBounds]; simp; try omega)
theorem put3_out {cs : Array Value} {k : Nat} (d : Sp) (p : Nat) (hp : p < k * 3 ∨ k * 3 + 3 ≤ p) : (put3 cs k d)[p]? = cs[p]? := by
  unfold put3
  rw [Array.getElem?_setIfInBounds_ne (by omega), Array.getElem?_setIfInBounds_ne (by omega), Array.getElem?_setIfInBounds_ne (by omega)]
theorem blk_put3 {w : World} {b : Nat} {t : TypeId} {cs : Array Value} (h : Blk w b t cs) (k : Nat) (d : Sp) :
    Blk (((w.setCell ⟨b, k * 3, none⟩ (.int .i64 d.lo)).setCell ⟨b, k * 3 + 1, none⟩ (.int .i64 d.hi)).setCell ⟨b, k * 3 + 2, none⟩ (.bool d.gone)) b t (put3 cs k d) :=
  ((h.set_ (k * 3) (.int .i64 d.lo)).set_ (k * 3 + 1) (.int .i64 d.hi)).set_ (k * 3 + 2) (.bool d.gone)
theorem below_put3 {B : Nat} {a w : World} {b : Nat} (h : Below B a w) (hb : B ≤ b) (k : Nat) (d : Sp) :
    Below B a (((w.setCell ⟨b, k * 3, none⟩ (.int .i64 d.lo)).setCell ⟨b, k * 3 + 1, none⟩ (.int .i64 d.hi)).setCell ⟨b, k * 3 + 2, none⟩ (.bool d.gone)) := by
  have h0 := h.setCell (p := ⟨b, k * 3, none⟩) hb (.int .i64 d.lo)
  have h1 := h0.setCell (p := ⟨b, k * 3 + 1, none⟩) hb (.int .i64 d.hi)
  exact h1.setCell (p := ⟨b, k * 3 + 2, none⟩) hb (.bool d.gone)

end Go.Proofs.Ytmpgefpaoogoiaa
