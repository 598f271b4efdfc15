/- A plan that came in, as the walks take it. -/
import Derived.Test.YtmpgefpaoogoiaaLawE
import Derived.Test.YtmpgefpaoogoiaaPlB
namespace Go.Proofs.Ytmpgefpaoogoiaa
open Go.ChangeShapes Go.WideShapes Go.Deep Go.RowKit

/-- A list of numbers that came in. -/
theorem isI_of {H : Type} {enc : TypeId × Value → H} {w : World} {fuel : Nat} {v : Value} {x : DataW H × List MemPlace}
    (hf : DataW.trod enc Try.prog w 0 (fun _ => true) true fuel 25 [v] = some x) :
    ∃ A n c z, v = .slice A n c ∧ Rd w w.heap.size A n z ∧ n ≤ 9223372036854775807 := by
  rcases open_ints Try.underlying25 Try.underlying2 (by kernel_rfl) hf with ⟨hcs, _⟩ | ⟨y, l, c, zs, hcs, _, hl, hm, hz, _, hcell, hwz⟩
  · simp at hcs
    subst hcs
    exact ⟨none, 0, 0, fun _ => 0, rfl, fun h => absurd h (by omega), by omega⟩
  · simp at hcs
    subst hcs
    have hr : IsRow .i64 w (some y) l c zs := .inr ⟨_, rfl, hl, hm, by simpa using hz, hcell, hwz⟩
    exact ⟨some y, l, c, _, rfl, hr.rd, hr.le⟩
theorem isPlan_of {H : Type} {enc : TypeId × Value → H} {w : World} {fuel : Nat} {cs : Array Value} {x : DataW H × List MemPlace}
    (hf : DataW.trod enc Try.prog w 0 (fun _ => true) true fuel 27 (Value.agg cs).cells.toList = some x) :
    ∃ A1 n1 c1 z1 A2 n2 c2 z2 A3 n3 c3 z3 A4 n4 c4 z4, Value.agg cs = plV A1 n1 c1 A2 n2 c2 A3 n3 c3 A4 n4 c4 ∧ RdP w w.heap.size A1 n1 z1 A2 n2 z2 A3 n3 z3 A4 n4 z4 ∧ n1 ≤ 9223372036854775807 ∧ n2 ≤ 9223372036854775807 ∧ n3 ≤ 9223372036854775807 ∧ n4 ≤ 9223372036854775807 := by
  have hf' : DataW.trod enc Try.prog w 0 (fun _ => true) true fuel 27 cs.toList = some x := hf
  obtain ⟨hl, n', hh⟩ := open_struct_fields Try.underlying27 (by kernel_rfl) (by kernel_rfl) hf'
  obtain ⟨v0, y0, e0, t0⟩ := hh 0 _ rfl
  obtain ⟨v1, y1, e1, t1⟩ := hh 1 _ rfl
  obtain ⟨v2, y2, e2, t2⟩ := hh 2 _ rfl
  obtain ⟨v3, y3, e3, t3⟩ := hh 3 _ rfl
  obtain ⟨A1, n1, c1, z1, r1, h1, k1⟩ := isI_of t0
  obtain ⟨A2, n2, c2, z2, r2, h2, k2⟩ := isI_of t1
  obtain ⟨A3, n3, c3, z3, r3, h3, k3⟩ := isI_of t2
  obtain ⟨A4, n4, c4, z4, r4, h4, k4⟩ := isI_of t3
  subst r1 r2 r3 r4
  refine ⟨A1, n1, c1, z1, A2, n2, c2, z2, A3, n3, c3, z3, A4, n4, c4, z4, ?_, ⟨h1, h2, h3, h4⟩, k1, k2, k3, k4⟩
  have hl3 : cs.toList.length = 4 := hl
  have : cs = #[.slice A1 n1 c1, .slice A2 n2 c2, .slice A3 n3 c3, .slice A4 n4 c4] := by
    apply Array.ext'
    apply List.ext_getElem?
    intro i
    match i with
    | 0 => exact e0
    | 1 => exact e1
    | 2 => exact e2
    | 3 => exact e3
    | i + 4 => rw [List.getElem?_eq_none (by omega), List.getElem?_eq_none (by simp)]
  rw [this]
end Go.Proofs.Ytmpgefpaoogoiaa
