/- A slice of nodes that came in, as the walks take it. -/
import Derived.Test.YtmpgefpaoogoiaaLaw
import Derived.Test.YtmpgefpaoogoiaaTreeB
import Derived.Deep.Slices
import Derived.Deep.Fields
import Derived.ChangeSame
namespace Go.Proofs.Ytmpgefpaoogoiaa
open Go.ChangeShapes Go.WideShapes Go.Deep
section
variable {H : Type} {enc : TypeId × Value → H} {P : Program} {w : World} {base : Nat} {spare : Nat → Bool} {held : Bool}
theorem open_slice_fields {t e : TypeId} {fs : Array Field} {fuel : Nat} {cs : List Value} {x : DataW H × List MemPlace} (ht : P.underlying t = some (.slice e)) (he : P.underlying e = some (.struct fs))
    (hone : oneCellFields P fs = true) (hC : P.cellsOf e = fs.size) (h : DataW.trod enc P w base spare held fuel t cs = some x) :
    (cs = [.slice none 0 0] ∧ x = (.nil, [])) ∨
    ∃ (a : Addr) (len cap m : Nat) (D : Nat → DataW H) (Pl : Nat → List MemPlace), cs = [.slice (some a) len cap] ∧ base ≤ a.block ∧ len ≤ cap ∧ cap ≤ maxLen ∧ m = (if spare a.block then cap else len) ∧
      x = (.slice ((List.range len).map D) ((List.range (m - len)).map fun j => D (len + j)), MemPlace.row a (m * fs.size) ++ (List.range m).flatMap Pl) ∧
      ∀ i, i < m → ∃ (ys : List (DataW H × List MemPlace)) (n : Nat), D i = .agg (ys.map (·.1)) ∧ Pl i = ys.flatMap (·.2) ∧ ys.length = fs.size ∧
        ∀ (j : Nat) (f : Field), fs[j]? = some f → ∃ (v : Value) (y : DataW H × List MemPlace), w.cell? (a.add (i * fs.size + j)) = some v ∧ ys[j]? = some y ∧ DataW.trod enc P w base spare held n f.type [v] = some y := by
  rcases open_slice ht h with h0 | ⟨a, len, cap, m, n, D, Pl, hcs, hb, hl, hm, hmm, hx, hi⟩
  · exact .inl h0
  · refine .inr ⟨a, len, cap, m, D, Pl, hcs, hb, hl, hm, hmm, by rw [hC] at hx; exact hx, fun i him => ?_⟩
    obtain ⟨cs', hc, ht'⟩ := hi i him
    rw [hC] at hc
    obtain ⟨ys, n', hn', hy, hlen, hyl, hf⟩ := DataW.trod_struct he ht'
    obtain ⟨_, hcl, hat⟩ := World.cells?_some hc
    simp only [Prod.mk.injEq] at hy
    refine ⟨ys, n', hy.1, hy.2, hyl, fun j f hj => ?_⟩
    obtain ⟨ho, hk⟩ := hone_of hone j f hj
    have hjl : j < fs.size := (Array.getElem?_eq_some_iff.1 hj).1
    have hcell := hat j hjl
    have hv : cs'[j]? = some (cs'[j]'(by omega)) := List.getElem?_eq_getElem (by omega)
    have h1 := hf j f hj
    rw [ho, hk] at h1
    have hone' : (cs'.drop j).take 1 = [cs'[j]'(by omega)] := by
      rw [List.drop_eq_getElem_cons (by omega)]
      rfl
    rw [hone'] at h1
    have hys : ys[j]? = some (ys[j]'(by omega)) := List.getElem?_eq_getElem (by omega)
    refine ⟨_, _, ?_, hys, h1.trans hys⟩
    rw [← Go.Deep.add_add, hcell, hv]
end

/-- A slice of nodes that came in. -/
def IsNodes (w : World) (a : Option Addr) (len _cap : Nat) (g : Nat → Nd) : Prop := RdN w w.heap.size a len g ∧ len ≤ 9223372036854775807

theorem isNodes_of {H : Type} {enc : TypeId × Value → H} {w : World} {fuel len cap : Nat} {a : Option Addr} {x : DataW H × List MemPlace}
    (hf : DataW.trod enc Try.prog w 0 (fun _ => true) true fuel 146 (Value.slice a len cap).cells.toList = some x) : ∃ g, IsNodes w a len cap g := by
  have hf' : DataW.trod enc Try.prog w 0 (fun _ => true) true fuel 146 [Value.slice a len cap] = some x := by simpa [Value.cells] using hf
  rcases open_slice_fields Try.underlying146 Try.underlying190 (by kernel_rfl) (by kernel_rfl) hf' with ⟨hcs, _⟩ | ⟨ad, l, c, m, D, Pl, hcs, _, hl, hm, hmm, _, hcell⟩
  · simp at hcs
    obtain ⟨rfl, rfl, rfl⟩ := hcs
    exact ⟨fun _ => ⟨0, 0, 0, 0, false, 0⟩, fun h => absurd h (by omega), by omega⟩
  · simp at hcs
    obtain ⟨rfl, rfl, rfl⟩ := hcs
    have hmc : m = cap := by simpa using hmm
    subst hmc
    have one : ∀ i, i < len → ∃ d : Nd, w.cell? (ad.add (i * 6 + 0)) = some (.int .i64 d.feat) ∧ w.cell? (ad.add (i * 6 + 1)) = some (.int .i64 d.cut) ∧ w.cell? (ad.add (i * 6 + 2)) = some (.int .i64 d.left) ∧
        w.cell? (ad.add (i * 6 + 3)) = some (.int .i64 d.right) ∧ w.cell? (ad.add (i * 6 + 4)) = some (.bool d.miss) ∧ w.cell? (ad.add (i * 6 + 5)) = some (.int .i64 d.value) := by
      intro i hi
      obtain ⟨ys, n, _, _, _, hff⟩ := hcell i (by omega)
      obtain ⟨v0, y0, e0, _, t0⟩ := hff 0 _ rfl
      obtain ⟨v1, y1, e1, _, t1⟩ := hff 1 _ rfl
      obtain ⟨v2, y2, e2, _, t2⟩ := hff 2 _ rfl
      obtain ⟨v3, y3, e3, _, t3⟩ := hff 3 _ rfl
      obtain ⟨v4, y4, e4, _, t4⟩ := hff 4 _ rfl
      obtain ⟨v5, y5, e5, _, t5⟩ := hff 5 _ rfl
      obtain ⟨x0, r0, _⟩ := DataW.trod_int Try.underlying2 t0
      obtain ⟨x1, r1, _⟩ := DataW.trod_int Try.underlying2 t1
      obtain ⟨x2, r2, _⟩ := DataW.trod_int Try.underlying2 t2
      obtain ⟨x3, r3, _⟩ := DataW.trod_int Try.underlying2 t3
      obtain ⟨x4, r4, _⟩ := DataW.trod_bool Try.underlying4 t4
      obtain ⟨x5, r5, _⟩ := DataW.trod_int Try.underlying2 t5
      injection r0 with r0; injection r1 with r1; injection r2 with r2; injection r3 with r3; injection r4 with r4; injection r5 with r5
      subst r0 r1 r2 r3 r4 r5
      exact ⟨⟨x0, x1, x2, x3, x4, x5⟩, e0, e1, e2, e3, e4, e5⟩
    obtain ⟨g, hg⟩ : ∃ g : Nat → Nd, ∀ i, i < len → w.cell? (ad.add (i * 6 + 0)) = some (.int .i64 (g i).feat) ∧ w.cell? (ad.add (i * 6 + 1)) = some (.int .i64 (g i).cut) ∧ w.cell? (ad.add (i * 6 + 2)) = some (.int .i64 (g i).left) ∧
        w.cell? (ad.add (i * 6 + 3)) = some (.int .i64 (g i).right) ∧ w.cell? (ad.add (i * 6 + 4)) = some (.bool (g i).miss) ∧ w.cell? (ad.add (i * 6 + 5)) = some (.int .i64 (g i).value) :=
      ⟨fun i => if h : i < len then Classical.choose (one i h) else ⟨0, 0, 0, 0, false, 0⟩, fun i hi => by simp only [dif_pos hi]; exact Classical.choose_spec (one i hi)⟩
    refine ⟨g, fun hn => ?_, by unfold maxLen at hm; omega⟩
    obtain ⟨b, off, spot⟩ := ad
    have h0 := (hg 0 hn).1
    have hs : spot = none := by simpa [Addr.add] using World.cell?_spot h0
    subst hs
    refine ⟨b, off, rfl, ?_, fun i hi => ?_⟩
    · have := cell_lt h0
      simpa [Addr.add_lit] using this
    · obtain ⟨e0, e1, e2, e3, e4, e5⟩ := hg i hi
      simp only [Addr.add_lit, ← Nat.add_assoc, Nat.add_zero] at e0 e1 e2 e3 e4 e5
      exact ⟨e0, e1, e2, e3, e4, e5⟩
end Go.Proofs.Ytmpgefpaoogoiaa
