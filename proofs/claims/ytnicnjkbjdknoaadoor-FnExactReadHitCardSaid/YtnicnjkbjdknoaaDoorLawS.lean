/- A slice of spans that came in, as the walks take it. -/
import Derived.Test.YtnicnjkbjdknoaaDoorK8
import Derived.Test.YtnicnjkbjdknoaaDoorK2
namespace Go.Proofs.YtnicnjkbjdknoaaDoor
open Go.ChangeShapes Go.WideShapes Go.Deep

/-- A slice of spans that came in. -/
def IsSpans (w : World) (a : Option Addr) (len _cap : Nat) (g : Nat → Sp) : Prop := RdS w w.heap.size a len g ∧ len ≤ 9223372036854775807

theorem isSpans_of {H : Type} {enc : TypeId × Value → H} {w : World} {fuel len cap : Nat} {a : Option Addr} {x : DataW H × List MemPlace}
    (hf : DataW.trod enc Tryd.prog w 0 (fun _ => true) true fuel 38 (Value.slice a len cap).cells.toList = some x) : ∃ g, IsSpans w a len cap g := by
  have hf' : DataW.trod enc Tryd.prog w 0 (fun _ => true) true fuel 38 [Value.slice a len cap] = some x := by simpa [Value.cells] using hf
  rcases open_slice_fields Tryd.underlying38 Tryd.underlying33 (by kernel_rfl) (by kernel_rfl) hf' with ⟨hcs, _⟩ | ⟨ad, l, c, m, D, Pl, hcs, _, hl, hm, hmm, _, hcell⟩
  · simp at hcs
    obtain ⟨rfl, rfl, rfl⟩ := hcs
    exact ⟨fun _ => ⟨0, 0, false⟩, fun h => absurd h (by omega), by omega⟩
  · simp at hcs
    obtain ⟨rfl, rfl, rfl⟩ := hcs
    have hmc : m = cap := by simpa using hmm
    subst hmc
    have one : ∀ i, i < len → ∃ d : Sp, w.cell? (ad.add (i * 3 + 0)) = some (.int .i64 d.lo) ∧ w.cell? (ad.add (i * 3 + 1)) = some (.int .i64 d.hi) ∧ w.cell? (ad.add (i * 3 + 2)) = some (.bool d.gone) := by
      intro i hi
      obtain ⟨ys, n, _, _, _, hff⟩ := hcell i (by omega)
      obtain ⟨v0, y0, e0, _, t0⟩ := hff 0 _ rfl
      obtain ⟨v1, y1, e1, _, t1⟩ := hff 1 _ rfl
      obtain ⟨v2, y2, e2, _, t2⟩ := hff 2 _ rfl
      obtain ⟨x0, r0, _⟩ := DataW.trod_int Tryd.underlying2 t0
      obtain ⟨x1, r1, _⟩ := DataW.trod_int Tryd.underlying2 t1
      obtain ⟨x2, r2, _⟩ := DataW.trod_bool Tryd.underlying4 t2
      injection r0 with r0; injection r1 with r1; injection r2 with r2
      subst r0 r1 r2
      exact ⟨⟨x0, x1, x2⟩, e0, e1, e2⟩
    obtain ⟨g, hg⟩ : ∃ g : Nat → Sp, ∀ i, i < len → w.cell? (ad.add (i * 3 + 0)) = some (.int .i64 (g i).lo) ∧ w.cell? (ad.add (i * 3 + 1)) = some (.int .i64 (g i).hi) ∧ w.cell? (ad.add (i * 3 + 2)) = some (.bool (g i).gone) :=
      ⟨fun i => if h : i < len then Classical.choose (one i h) else ⟨0, 0, false⟩, fun i hi => by simp only [dif_pos hi]; exact Classical.choose_spec (one i hi)⟩
    refine ⟨g, fun hn => ?_, by unfold maxLen at hm; omega⟩
    obtain ⟨b, off, spot⟩ := ad
    have h0 := (hg 0 hn).1
    have hs : spot = none := by simpa [Addr.add] using World.cell?_spot h0
    subst hs
    refine ⟨b, off, rfl, ?_, fun i hi => ?_⟩
    · have := cell_lt h0
      simpa [Addr.add_lit] using this
    · obtain ⟨e0, e1, e2⟩ := hg i hi
      simp only [Addr.add_lit, ← Nat.add_assoc, Nat.add_zero] at e0 e1 e2
      exact ⟨e0, e1, e2⟩
end Go.Proofs.YtnicnjkbjdknoaaDoor
