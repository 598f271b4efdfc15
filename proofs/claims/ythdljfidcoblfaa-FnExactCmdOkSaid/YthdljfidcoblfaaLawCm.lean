/- A command that came in. -/
import Derived.Test.YthdljfidcoblfaaCmG
import Derived.Test.YthdljfidcoblfaaK8
namespace Go.Proofs.Ythdljfidcoblfaa
open Go.ChangeShapes Go.WideShapes Go.Deep Go.RowKit
set_option linter.unusedVariables false
set_option linter.unusedSimpArgs false

/-- A list of lists of numbers that came in. -/
theorem isQ_of {H : Type} {enc : TypeId × Value → H} {w : World} {fuel : Nat} {v : Value} {x : DataW H × List MemPlace}
    (hf : DataW.trod enc Try.prog w 0 (fun _ => true) true fuel 22 [v] = some x) :
    ∃ A n c len z, v = .slice A n c ∧ RdQ w w.heap.size A n len z ∧ n ≤ 9223372036854775807 ∧ ∀ i, i < n → len i ≤ 9223372036854775807 := by
  rcases open_slice Try.underlying22 hf with ⟨hcs, _⟩ | ⟨ad, l, c, m, n', D, Pl, hcs, _, hl, hm, hmm, _, hcell⟩
  · simp at hcs
    subst hcs
    exact ⟨none, 0, 0, fun _ => 0, fun _ _ => 0, rfl, rdq_none, by omega, fun i hi => by omega⟩
  · simp at hcs
    subst hcs
    have hmc : m = c := by simpa using hmm
    subst hmc
    have hco : Try.prog.cellsOf 33 = 1 := by kernel_rfl
    have one : ∀ i, i < l → ∃ (p : Option Addr × Nat × Nat) (zi : Nat → Int), w.cell? (ad.add i) = some (.slice p.1 p.2.1 p.2.2) ∧ Rd w w.heap.size p.1 p.2.1 zi ∧ p.2.1 ≤ 9223372036854775807 := by
      intro i hi
      obtain ⟨cs', hc, ht⟩ := hcell i (by omega)
      rw [hco] at hc
      obtain ⟨_, hcl, hat⟩ := World.cells?_some hc
      have h0 := hat 0 (by omega)
      rw [Nat.mul_one] at h0
      have e0 : (ad.add i).add 0 = ad.add i := by cases ad; rfl
      rw [e0] at h0
      obtain ⟨v', rfl⟩ : ∃ v', cs' = [v'] := List.length_eq_one_iff.1 hcl
      obtain ⟨A, n, c', zi, rfl, hr, hn⟩ := isI_of ht
      exact ⟨(A, n, c'), zi, h0, hr, hn⟩
    have pick : ∃ (q : Nat → Option Addr × Nat × Nat) (z : Nat → Nat → Int), ∀ i, i < l → w.cell? (ad.add i) = some (.slice (q i).1 (q i).2.1 (q i).2.2) ∧ Rd w w.heap.size (q i).1 (q i).2.1 (z i) ∧ (q i).2.1 ≤ 9223372036854775807 :=
      ⟨fun i => if h : i < l then Classical.choose (one i h) else (none, 0, 0), fun i => if h : i < l then Classical.choose (Classical.choose_spec (one i h)) else fun _ => 0,
        fun i hi => by simp only [dif_pos hi]; exact Classical.choose_spec (Classical.choose_spec (one i hi))⟩
    obtain ⟨q, z, hq⟩ := pick
    refine ⟨some ad, l, m, fun i => (q i).2.1, z, rfl, fun hn => ?_, by unfold maxLen at hm; omega, fun i hi => (hq i hi).2.2⟩
    obtain ⟨b, off, spot⟩ := ad
    have h0 := (hq 0 hn).1
    have hs : spot = none := by simpa [Addr.add] using World.cell?_spot h0
    subst hs
    refine ⟨b, off, rfl, ?_, fun i hi => ⟨(q i).1, (q i).2.2, ?_, (hq i hi).2.1⟩⟩
    · have := cell_lt h0
      simpa [Addr.add_lit] using this
    · have := (hq i hi).1
      simpa [Addr.add_lit] using this
theorem isCmd_of {H : Type} {enc : TypeId × Value → H} {w : World} {fuel : Nat} {cs : Array Value} {x : DataW H × List MemPlace}
    (hf : DataW.trod enc Try.prog w 0 (fun _ => true) true fuel 24 (Value.agg cs).cells.toList = some x) :
    ∃ k a b t D n dc len z s, Value.agg cs = cmV k a b t D n dc s ∧ RdQ w w.heap.size D n len z ∧ n ≤ 9223372036854775807 ∧ (∀ i, i < n → len i ≤ 9223372036854775807) ∧ s.size ≤ 9223372036854775807 := by
  have hf' : DataW.trod enc Try.prog w 0 (fun _ => true) true fuel 24 cs.toList = some x := hf
  obtain ⟨hl, n', hh⟩ := open_struct_fields Try.underlying24 (by kernel_rfl) (by kernel_rfl) hf'
  obtain ⟨v0, y0, e0, t0⟩ := hh 0 _ rfl
  obtain ⟨v1, y1, e1, t1⟩ := hh 1 _ rfl
  obtain ⟨v2, y2, e2, t2⟩ := hh 2 _ rfl
  obtain ⟨v3, y3, e3, t3⟩ := hh 3 _ rfl
  obtain ⟨v4, y4, e4, t4⟩ := hh 4 _ rfl
  obtain ⟨v5, y5, e5, t5⟩ := hh 5 _ rfl
  obtain ⟨x0, r0, _⟩ := DataW.trod_int Try.underlying2 t0
  obtain ⟨x1, r1, _⟩ := DataW.trod_int Try.underlying2 t1
  obtain ⟨x2, r2, _⟩ := DataW.trod_int Try.underlying2 t2
  obtain ⟨x3, r3, _⟩ := DataW.trod_int Try.underlying2 t3
  obtain ⟨D, n, dc, len, z, r4, hr, hn, hlen⟩ := isQ_of t4
  obtain ⟨s, r5, _, hs⟩ := DataW.trod_string Try.underlying9 t5
  injection r0 with r0
  injection r1 with r1
  injection r2 with r2
  injection r3 with r3
  injection r5 with r5
  subst r0 r1 r2 r3 r4 r5
  refine ⟨x0, x1, x2, x3, D, n, dc, len, z, s, ?_, hr, hn, hlen, by unfold maxLen at hs; omega⟩
  have hl6 : cs.toList.length = 6 := hl
  have : cs = cmC x0 x1 x2 x3 D n dc s := by
    apply Array.ext'
    apply List.ext_getElem?
    intro i
    match i with
    | 0 => exact e0
    | 1 => exact e1
    | 2 => exact e2
    | 3 => exact e3
    | 4 => exact e4
    | 5 => exact e5
    | i + 6 => rw [List.getElem?_eq_none (by omega), List.getElem?_eq_none (by simp)]
  rw [this]
end Go.Proofs.Ythdljfidcoblfaa
