/- An ensemble that came in, as the walks take it. -/
import Derived.Test.YtmpgefpaoogoiaaLawN
import Derived.Test.YtmpgefpaoogoiaaEnsB
namespace Go.Proofs.Ytmpgefpaoogoiaa
open Go.ChangeShapes Go.WideShapes Go.Deep

section
variable {H : Type} {enc : TypeId × Value → H} {P : Program} {w : World} {base : Nat} {spare : Nat → Bool} {held : Bool}
theorem open_struct_fields {t : TypeId} {fs : Array Field} {fuel : Nat} {cs : List Value} {x : DataW H × List MemPlace} (ht : P.underlying t = some (.struct fs)) (hone : oneCellFields P fs = true) (hC : P.cellsOf t = fs.size)
    (h : DataW.trod enc P w base spare held fuel t cs = some x) :
    cs.length = fs.size ∧ ∃ n, ∀ (j : Nat) (f : Field), fs[j]? = some f → ∃ (v : Value) (y : DataW H × List MemPlace), cs[j]? = some v ∧ DataW.trod enc P w base spare held n f.type [v] = some y := by
  obtain ⟨xs, n', _, _, hlen, hxl, hf⟩ := DataW.trod_struct ht h
  rw [hC] at hlen
  refine ⟨hlen, n', fun j f hj => ?_⟩
  obtain ⟨ho, hk⟩ := hone_of hone j f hj
  have hjl : j < fs.size := (Array.getElem?_eq_some_iff.1 hj).1
  have hv : cs[j]? = some (cs[j]'(by omega)) := List.getElem?_eq_getElem (by omega)
  have h1 := hf j f hj
  rw [ho, hk] at h1
  have hone' : (cs.drop j).take 1 = [cs[j]'(by omega)] := by
    rw [List.drop_eq_getElem_cons (by omega)]
    rfl
  rw [hone'] at h1
  have hys : xs[j]? = some (xs[j]'(by omega)) := List.getElem?_eq_getElem (by omega)
  exact ⟨_, _, hv, h1.trans hys⟩
end

/-- A list of lists of nodes that came in. -/
theorem isT_of {H : Type} {enc : TypeId × Value → H} {w : World} {fuel : Nat} {v : Value} {x : DataW H × List MemPlace}
    (hf : DataW.trod enc Try.prog w 0 (fun _ => true) true fuel 22 [v] = some x) :
    ∃ A n c len g, v = .slice A n c ∧ RdT w w.heap.size A n len g ∧ n ≤ 9223372036854775807 ∧ ∀ i, i < n → len i ≤ 9223372036854775807 := by
  rcases open_slice Try.underlying22 hf with ⟨hcs, _⟩ | ⟨ad, l, c, m, n', D, Pl, hcs, _, hl, hm, hmm, _, hcell⟩
  · simp at hcs
    subst hcs
    exact ⟨none, 0, 0, fun _ => 0, fun _ _ => ⟨0, 0, 0, 0, false, 0⟩, rfl, rdt_none, by omega, fun i hi => by omega⟩
  · simp at hcs
    subst hcs
    have hmc : m = c := by simpa using hmm
    subst hmc
    have hco : Try.prog.cellsOf 146 = 1 := by kernel_rfl
    have one : ∀ i, i < l → ∃ (p : Option Addr × Nat × Nat) (gi : Nat → Nd), w.cell? (ad.add i) = some (.slice p.1 p.2.1 p.2.2) ∧ RdN w w.heap.size p.1 p.2.1 gi ∧ p.2.1 ≤ 9223372036854775807 := by
      intro i hi
      obtain ⟨cs', hc, ht⟩ := hcell i (by omega)
      rw [hco] at hc
      obtain ⟨_, hcl, hat⟩ := World.cells?_some hc
      have h0 := hat 0 (by omega)
      rw [Nat.mul_one] at h0
      have e0 : (ad.add i).add 0 = ad.add i := by cases ad; rfl
      rw [e0] at h0
      have key : ∀ (A : Option Addr) (li ci : Nat), cs' = [.slice A li ci] → ∃ (p : Option Addr × Nat × Nat) (gi : Nat → Nd), w.cell? (ad.add i) = some (.slice p.1 p.2.1 p.2.2) ∧ RdN w w.heap.size p.1 p.2.1 gi ∧ p.2.1 ≤ 9223372036854775807 := by
        intro A li ci e
        subst e
        obtain ⟨gi, hg⟩ := isNodes_of (len := li) (cap := ci) (a := A) (x := (D i, Pl i)) (by simpa [Value.cells] using ht)
        exact ⟨(A, li, ci), gi, h0, hg.1, hg.2⟩
      rcases open_slice Try.underlying146 ht with ⟨hcs', _⟩ | ⟨ad', l', c', m', n'', D', Pl', hcs', _⟩
      · exact key _ _ _ hcs'
      · exact key _ _ _ hcs'
    have pick : ∃ (q : Nat → Option Addr × Nat × Nat) (g : Nat → Nat → Nd), ∀ i, i < l → w.cell? (ad.add i) = some (.slice (q i).1 (q i).2.1 (q i).2.2) ∧ RdN w w.heap.size (q i).1 (q i).2.1 (g i) ∧ (q i).2.1 ≤ 9223372036854775807 :=
      ⟨fun i => if h : i < l then Classical.choose (one i h) else (none, 0, 0), fun i => if h : i < l then Classical.choose (Classical.choose_spec (one i h)) else fun _ => ⟨0, 0, 0, 0, false, 0⟩,
        fun i hi => by simp only [dif_pos hi]; exact Classical.choose_spec (Classical.choose_spec (one i hi))⟩
    obtain ⟨q, g, hq⟩ := pick
    refine ⟨some ad, l, m, fun i => (q i).2.1, g, rfl, fun hn => ?_, by unfold maxLen at hm; omega, fun i hi => (hq i hi).2.2⟩
    obtain ⟨b, off, spot⟩ := ad
    have h0 := (hq 0 hn).1
    have hs : spot = none := by simpa [Addr.add] using World.cell?_spot h0
    subst hs
    refine ⟨b, off, rfl, ?_, fun i hi => ⟨(q i).1, (q i).2.2, ?_, (hq i hi).2.1⟩⟩
    · have := cell_lt h0
      simpa [Addr.add_lit] using this
    · have := (hq i hi).1
      simpa [Addr.add_lit] using this

/-- An ensemble that came in. -/
theorem isEns_of {H : Type} {enc : TypeId × Value → H} {w : World} {fuel : Nat} {cs : Array Value} {x : DataW H × List MemPlace}
    (hf : DataW.trod enc Try.prog w 0 (fun _ => true) true fuel 24 (Value.agg cs).cells.toList = some x) :
    ∃ f b A n c len g, Value.agg cs = enV f b A n c ∧ RdT w w.heap.size A n len g ∧ n ≤ 9223372036854775807 ∧ ∀ i, i < n → len i ≤ 9223372036854775807 := by
  have hf' : DataW.trod enc Try.prog w 0 (fun _ => true) true fuel 24 cs.toList = some x := hf
  obtain ⟨hl, n', hh⟩ := open_struct_fields Try.underlying24 (by kernel_rfl) (by kernel_rfl) hf'
  obtain ⟨v0, y0, e0, t0⟩ := hh 0 _ rfl
  obtain ⟨v1, y1, e1, t1⟩ := hh 1 _ rfl
  obtain ⟨v2, y2, e2, t2⟩ := hh 2 _ rfl
  obtain ⟨x0, r0, _⟩ := DataW.trod_int Try.underlying2 t0
  obtain ⟨x1, r1, _⟩ := DataW.trod_int Try.underlying2 t1
  obtain ⟨A, n, c, len, g, r2, hr, hn, hlen⟩ := isT_of t2
  injection r0 with r0
  injection r1 with r1
  subst r0 r1 r2
  refine ⟨x0, x1, A, n, c, len, g, ?_, hr, hn, hlen⟩
  have hl3 : cs.toList.length = 3 := hl
  have : cs = #[.int .i64 x0, .int .i64 x1, .slice A n c] := by
    apply Array.ext'
    apply List.ext_getElem?
    intro i
    match i with
    | 0 => exact e0
    | 1 => exact e1
    | 2 => exact e2
    | i + 3 => rw [List.getElem?_eq_none (by omega), List.getElem?_eq_none (by simp)]
  rw [this]
end Go.Proofs.Ytmpgefpaoogoiaa
