/- A cache that came in, as the walks take it. -/
import Derived.Test.YtckhooibjmheiaaK8
import Derived.Test.YtckhooibjmheiaaLawS
import Derived.Test.YtckhooibjmheiaaCaA
namespace Go.Proofs.Ytckhooibjmheiaa
open Go.ChangeShapes Go.WideShapes Go.Deep

theorem IsRow.short {k : IntKind} {w : World} {a : Option Addr} {len cap : Nat} {zs : List Int} (h : IsRow k w a len cap zs) : len ≤ 9223372036854775807 := by
  rcases h with ⟨_, rfl, _⟩ | ⟨_, _, h1, h2, _⟩
  · omega
  · unfold maxLen at h2; omega
/-- A list of slots that came in. -/
theorem isSlots_of {H : Type} {enc : TypeId × Value → H} {w : World} {fuel : Nat} {v : Value} {x : DataW H × List MemPlace}
    (hf : DataW.trod enc Try.prog w 0 (fun _ => true) true fuel 44 [v] = some x) :
    ∃ A k c s, v = .slice A k c ∧ RdC w w.heap.size A k s ∧ k ≤ 9223372036854775807 ∧ ∀ i, i < k → (s i).n ≤ 9223372036854775807 := by
  rcases open_slice_fields Try.underlying44 Try.underlying190 (by kernel_rfl) (by kernel_rfl) hf with ⟨hcs, _⟩ | ⟨ad, l, c, m, D, Pl, hcs, _, hl, hm, hmm, _, hcell⟩
  · simp at hcs
    subst hcs
    exact ⟨none, 0, 0, fun _ => ⟨0, fun _ => ⟨0, 0, false⟩, 0, 0⟩, rfl, rdc_none, by omega, fun i hi => by omega⟩
  · simp at hcs
    subst hcs
    have hmc : m = c := by simpa using hmm
    subst hmc
    have one : ∀ i, i < l → ∃ (d : Slt) (A : Option Addr) (ci : Nat), w.cell? (ad.add (i * 3 + 0)) = some (.slice A d.n ci) ∧ w.cell? (ad.add (i * 3 + 1)) = some (.int .i64 d.score) ∧ w.cell? (ad.add (i * 3 + 2)) = some (.int .i64 d.used) ∧ RdS w w.heap.size A d.n d.g ∧ d.n ≤ 9223372036854775807 := by
      intro i hi
      obtain ⟨ys, n, _, _, _, hff⟩ := hcell i (by omega)
      obtain ⟨v0, y0, e0, _, t0⟩ := hff 0 _ rfl
      obtain ⟨v1, y1, e1, _, t1⟩ := hff 1 _ rfl
      obtain ⟨v2, y2, e2, _, t2⟩ := hff 2 _ rfl
      obtain ⟨x1, r1, _⟩ := DataW.trod_int Try.underlying2 t1
      obtain ⟨x2, r2, _⟩ := DataW.trod_int Try.underlying2 t2
      injection r1 with r1; injection r2 with r2
      subst r1 r2
      have key : ∀ (A : Option Addr) (li ci : Nat), [v0] = [.slice A li ci] → ∃ (d : Slt) (A : Option Addr) (ci : Nat), w.cell? (ad.add (i * 3 + 0)) = some (.slice A d.n ci) ∧ w.cell? (ad.add (i * 3 + 1)) = some (.int .i64 d.score) ∧ w.cell? (ad.add (i * 3 + 2)) = some (.int .i64 d.used) ∧ RdS w w.heap.size A d.n d.g ∧ d.n ≤ 9223372036854775807 := by
        intro A li ci e
        injection e with e _
        subst e
        obtain ⟨gi, hg⟩ := isSpans_of (len := li) (cap := ci) (a := A) (x := y0) (by simpa [Value.cells] using t0)
        exact ⟨⟨li, gi, x1, x2⟩, A, ci, e0, e1, e2, hg.1, hg.2⟩
      rcases open_slice Try.underlying55 t0 with ⟨hcs', _⟩ | ⟨ad', l', c', m', n'', D', Pl', hcs', _⟩
      · exact key _ _ _ hcs'
      · exact key _ _ _ hcs'
    obtain ⟨s, hs⟩ : ∃ s : Nat → Slt, ∀ i, i < l → ∃ (A : Option Addr) (ci : Nat), w.cell? (ad.add (i * 3 + 0)) = some (.slice A (s i).n ci) ∧ w.cell? (ad.add (i * 3 + 1)) = some (.int .i64 (s i).score) ∧ w.cell? (ad.add (i * 3 + 2)) = some (.int .i64 (s i).used) ∧ RdS w w.heap.size A (s i).n (s i).g ∧ (s i).n ≤ 9223372036854775807 :=
      ⟨fun i => if h : i < l then Classical.choose (one i h) else ⟨0, fun _ => ⟨0, 0, false⟩, 0, 0⟩, fun i hi => by simp only [dif_pos hi]; exact Classical.choose_spec (one i hi)⟩
    refine ⟨some ad, l, m, s, rfl, fun hn => ?_, by unfold maxLen at hm; omega, fun i hi => by obtain ⟨_, _, _, _, _, _, h⟩ := hs i hi; exact h⟩
    obtain ⟨b, off, spot⟩ := ad
    obtain ⟨_, _, h0, _⟩ := hs 0 hn
    have hsp : spot = none := by simpa [Addr.add] using World.cell?_spot h0
    subst hsp
    refine ⟨b, off, rfl, ?_, fun i hi => ?_⟩
    · have := cell_lt h0
      simpa [Addr.add_lit] using this
    · obtain ⟨A, ci, e0, e1, e2, e3, _⟩ := hs i hi
      simp only [Addr.add_lit, ← Nat.add_assoc, Nat.add_zero] at e0 e1 e2
      exact ⟨A, ci, e0, e1, e2, e3⟩

/-- A cache that came in. -/
theorem isCache_of {H : Type} {enc : TypeId × Value → H} {w : World} {fuel : Nat} {cs : Array Value} {x : DataW H × List MemPlace}
    (hf : DataW.trod enc Try.prog w 0 (fun _ => true) true fuel 46 (Value.agg cs).cells.toList = some x) :
    ∃ cap clock A k c s, Value.agg cs = caV cap clock A k c ∧ RdC w w.heap.size A k s ∧ k ≤ 9223372036854775807 ∧ ∀ i, i < k → (s i).n ≤ 9223372036854775807 := by
  have hf' : DataW.trod enc Try.prog w 0 (fun _ => true) true fuel 46 cs.toList = some x := hf
  obtain ⟨hl, n', hh⟩ := open_struct_fields Try.underlying46 (by kernel_rfl) (by kernel_rfl) hf'
  obtain ⟨v0, y0, e0, t0⟩ := hh 0 _ rfl
  obtain ⟨v1, y1, e1, t1⟩ := hh 1 _ rfl
  obtain ⟨v2, y2, e2, t2⟩ := hh 2 _ rfl
  obtain ⟨x0, r0, _⟩ := DataW.trod_int Try.underlying2 t0
  obtain ⟨x1, r1, _⟩ := DataW.trod_int Try.underlying2 t1
  obtain ⟨A, k, c, s, r2, hr, hn, hlen⟩ := isSlots_of t2
  injection r0 with r0
  injection r1 with r1
  subst r0 r1 r2
  refine ⟨x0, x1, A, k, c, s, ?_, hr, hn, hlen⟩
  have hl3 : cs.toList.length = 3 := hl
  have : cs = #[.int .i64 x0, .int .i64 x1, .slice A k c] := by
    apply Array.ext'
    apply List.ext_getElem?
    intro i
    match i with
    | 0 => exact e0
    | 1 => exact e1
    | 2 => exact e2
    | i + 3 => rw [List.getElem?_eq_none (by omega), List.getElem?_eq_none (by simp)]
  rw [this]
end Go.Proofs.Ytckhooibjmheiaa
