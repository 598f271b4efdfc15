/- Rows of Hits: copies and comparisons of the exact laws. -/
import Derived.Test.YthjphnopcgdgdaaDoorTxS
import Derived.Test.YthjphnopcgdgdaaDoorK2
namespace Go.Proofs.YthjphnopcgdgdaaDoor
open Go.RowKit Go.Deep
set_option linter.unusedVariables false
set_option linter.unusedSimpArgs false

/-- The cells of a Hit. -/
def htC (h : Ht) : List Value := [.int .i64 h.ix, .int .i64 h.sc]
/-- Block b, of element type t, bears the Hits g at its first n places. -/
def RowH (w : World) (t : TypeId) (b n : Nat) (g : Nat → Ht) : Prop :=
  ∃ cs : Array Value, Blk w b t cs ∧ n * 2 ≤ cs.size ∧ ∀ i, i < n → ∀ j, j < 2 → cs[i * 2 + j]? = (htC (g i))[j]?
section
variable {w w' : World} {t : TypeId} {b n : Nat} {g : Nat → Ht}
theorem RowH.lt (h : RowH w t b n g) : b < w.heap.size := by obtain ⟨cs, hb, _⟩ := h; exact hb.lt
theorem RowH.htAt {i : Nat} (h : RowH w t b n g) (hi : i < n) : HtAt w b (i * 2) (g i) := by
  obtain ⟨cs, hb, hn, hc⟩ := h
  have h0 := hc i hi 0 (by omega); have h1 := hc i hi 1 (by omega)
  exact ⟨(hb.cell _).trans h0, (hb.cell _).trans h1⟩
theorem RowH.rd {B : Nat} (h : RowH w t b n g) (hB : b < B) : RdH w B (some ⟨b, 0, none⟩) n g := fun _ =>
  ⟨b, 0, rfl, hB, fun i hi => by rw [Nat.zero_add]; exact h.htAt hi⟩
theorem RowH.keep (h : RowH w t b n g) (hk : w'.heap[b]? = w.heap[b]?) : RowH w' t b n g := by
  obtain ⟨cs, hb, hn, hc⟩ := h
  exact ⟨cs, hk.trans hb, hn, hc⟩
theorem RowH.below {B : Nat} (h : RowH w t b n g) (hb : Below B w w') (hB : b < B) : RowH w' t b n g := h.keep (hb.block b hB)
theorem RowH.grown {b' : Nat} (h : RowH w t b n g) (hg : w.grownBy w' (some b')) (hne : b ≠ b') : RowH w' t b n g :=
  h.keep (hg.block b h.lt (by simpa using hne))
end
theorem rdh_of {w : World} {t : TypeId} {b n : Nat} {g : Nat → Ht} (h : RowH w t b n g) : RdH w w.heap.size (some ⟨b, 0, none⟩) n g := h.rd h.lt

theorem info_hit : (Tryd.prog.info? 25).map (fun i => (i.zero, i.size, i.bytes)) = some (some (hitV 0 0), 2, 16) := by kernel_rfl

/-- Two cells written from place k * 2 on. -/
def putH (cs : Array Value) (k : Nat) (d : Ht) : Array Value := (cs.setIfInBounds (k * 2) (.int .i64 d.ix)).setIfInBounds (k * 2 + 1) (.int .i64 d.sc)
theorem putH_size (cs : Array Value) (k : Nat) (d : Ht) : (putH cs k d).size = cs.size := by simp [putH]
theorem putH_in {cs : Array Value} {k : Nat} (d : Ht) (h : k * 2 + 2 ≤ cs.size) (j : Nat) (hj : j < 2) : (putH cs k d)[k * 2 + j]? = (htC d)[j]? := by
  unfold putH htC
  obtain rfl | rfl : j = 0 ∨ j = 1 := by omega
  all_goals (simp only [Array.getElem?_setIfInBounds, Array.size_setIfInBounds]; simp; try omega)
theorem putH_out {cs : Array Value} {k : Nat} (d : Ht) (p : Nat) (hp : p < k * 2 ∨ k * 2 + 2 ≤ p) : (putH cs k d)[p]? = cs[p]? := by
  unfold putH
  rw [Array.getElem?_setIfInBounds_ne (by omega), Array.getElem?_setIfInBounds_ne (by omega)]
theorem blk_putH {w : World} {b : Nat} {t : TypeId} {cs : Array Value} (h : Blk w b t cs) (k : Nat) (d : Ht) :
    Blk ((w.setCell ⟨b, k * 2, none⟩ (.int .i64 d.ix)).setCell ⟨b, k * 2 + 1, none⟩ (.int .i64 d.sc)) b t (putH cs k d) :=
  (h.set_ (k * 2) (.int .i64 d.ix)).set_ (k * 2 + 1) (.int .i64 d.sc)
theorem below_putH {B : Nat} {a w : World} {b : Nat} (h : Below B a w) (hb : B ≤ b) (k : Nat) (d : Ht) :
    Below B a ((w.setCell ⟨b, k * 2, none⟩ (.int .i64 d.ix)).setCell ⟨b, k * 2 + 1, none⟩ (.int .i64 d.sc)) := by
  have h0 := h.setCell (p := ⟨b, k * 2, none⟩) hb (.int .i64 d.ix)
  exact h0.setCell (p := ⟨b, k * 2 + 1, none⟩) hb (.int .i64 d.sc)

end Go.Proofs.YthjphnopcgdgdaaDoor
