/- Copies of trees in memory of their own: spec's copy, the library's Clone. -/
import Derived.Test.YtmpgefpaoogoiaaEnsC
import Derived.Test.YtmpgefpaoogoiaaNodeRows
import Derived.Deep.RegionLaw
import Derived.Deep.AppendLies
namespace Go.Proofs.Ytmpgefpaoogoiaa
open Go.RowKit Go.Deep

/-- Headers of trees. -/
def hdJ (n : Nat) (bl len cp : Nat → Nat) : List Value := (List.range n).map fun i => .slice (some ⟨bl i, 0, none⟩) (len i) (cp i)
def setN (f : Nat → Nat) (k x : Nat) : Nat → Nat := fun i => if i = k then x else f i
theorem setN_same (f : Nat → Nat) (k x : Nat) : setN f k x k = x := if_pos rfl
theorem setN_other {f : Nat → Nat} {k x i : Nat} (h : i ≠ k) : setN f k x i = f i := if_neg h
theorem hdJ_len (n : Nat) (bl len cp : Nat → Nat) : (hdJ n bl len cp).length = n := by simp [hdJ]
theorem hdJ_at {n : Nat} {bl len cp : Nat → Nat} {i : Nat} (hi : i < n) : (hdJ n bl len cp)[i]? = some (.slice (some ⟨bl i, 0, none⟩) (len i) (cp i)) := by
  unfold hdJ
  rw [List.getElem?_map, List.getElem?_range hi]
  rfl
theorem hdJ_one (n : Nat) (bl len cp : Nat → Nat) : ∀ u ∈ hdJ n bl len cp, u.oneCell' = true := by
  intro u hu
  obtain ⟨i, _, rfl⟩ := List.mem_map.1 hu
  rfl
theorem hdJ_snoc (n : Nat) (bl len cp : Nat → Nat) (b c : Nat) : hdJ (n + 1) (setN bl n b) len (setN cp n c) = hdJ n bl len cp ++ [.slice (some ⟨b, 0, none⟩) (len n) c] := by
  unfold hdJ
  rw [List.range_succ, List.map_append, List.map_cons, List.map_nil, setN_same, setN_same]
  congr 1
  refine List.map_congr_left fun i hi => ?_
  have hi' : i ≠ n := by have := List.mem_range.1 hi; omega
  rw [setN_other hi', setN_other hi']

/-- Trees in memory of their own, each in a block of its own. -/
def TreesN (w : World) (B n : Nat) (bl len : Nat → Nat) (g : Nat → Nat → Nd) : Prop := ∀ i, i < n → B ≤ bl i ∧ RowN w 135 (bl i) (len i) (g i) ∧ ∀ j, j < i → bl j ≠ bl i
theorem TreesN.keep {w w' : World} {B n : Nat} {bl len : Nat → Nat} {g : Nat → Nat → Nd} (h : TreesN w B n bl len g) (hk : ∀ i, i < n → w'.heap[bl i]? = w.heap[bl i]?) : TreesN w' B n bl len g := fun i hi =>
  ⟨(h i hi).1, (h i hi).2.1.keep (hk i hi), (h i hi).2.2⟩
theorem TreesN.below {w w' : World} {B n : Nat} {bl len : Nat → Nat} {g : Nat → Nat → Nd} (h : TreesN w B n bl len g) (hb : Below w.heap.size w w') : TreesN w' B n bl len g :=
  h.keep fun i hi => hb.block _ (h i hi).2.1.lt
theorem TreesN.less {w : World} {B B' n : Nat} {bl len : Nat → Nat} {g : Nat → Nat → Nd} (h : TreesN w B n bl len g) (hB : B' ≤ B) : TreesN w B' n bl len g := fun i hi =>
  ⟨Nat.le_trans hB (h i hi).1, (h i hi).2⟩
theorem TreesN.snoc {w : World} {B n b : Nat} {bl len : Nat → Nat} {g : Nat → Nat → Nd} (h : TreesN w B n bl len g) (hb : B ≤ b) (hr : RowN w 135 b (len n) (g n)) (hlt : ∀ i, i < n → bl i ≠ b) : TreesN w B (n + 1) (setN bl n b) len g := fun i hi => by
  by_cases e : i = n
  · subst e
    rw [setN_same]
    refine ⟨hb, hr, fun j hj => ?_⟩
    rw [setN_other (by omega)]
    exact hlt j hj
  · rw [setN_other e]
    have hi' : i < n := by omega
    refine ⟨(h i hi').1, (h i hi').2.1, fun j hj => ?_⟩
    rw [setN_other (by omega)]
    exact (h i hi').2.2 j hj
theorem treesN_nil {w : World} {B : Nat} {bl len : Nat → Nat} {g : Nat → Nat → Nd} : TreesN w B 0 bl len g := fun i hi => by omega
theorem own_keepJ {w w' : World} {B : Nat} {e : TypeId} {size : Nat} {v : Value} {n : Nat} {xs : List Value} (h : w.ownsRow B e size v n xs) (hk : ∀ g, B ≤ g → g < w.heap.size → v.ownBlock = some g → w'.heap[g]? = w.heap[g]?) : w'.ownsRow B e size v n xs := by
  refine ⟨h.1, ?_⟩
  rcases h.2 with h0 | ⟨g, cap, cur, hv, hb, hg, rest⟩
  · exact .inl h0
  · exact .inr ⟨g, cap, cur, hv, hb, (hk g hb (Blk.lt hg) (by rw [hv]; rfl)).trans hg, rest⟩
theorem own_ltJ {w : World} {B : Nat} {e : TypeId} {size : Nat} {v : Value} {n : Nat} {xs : List Value} (h : w.ownsRow B e size v n xs) : ∀ x, v.ownBlock = some x → B ≤ x ∧ x < w.heap.size ∧ ∃ cs, Blk w x e cs := by
  intro x hx
  rcases h.2 with ⟨rfl, _⟩ | ⟨g, cap, cur, rfl, hb, hg, _⟩
  · cases hx
  · have e1 : (Value.slice (some ⟨g, 0, none⟩) n cap).ownBlock = some g := rfl
    rw [e1] at hx
    injection hx with hx
    subst hx
    exact ⟨hb, Blk.lt hg, _, hg⟩
/-- The cells of a row of headers. -/
theorem own_hdJ {w : World} {B n c : Nat} {A : Option Addr} {xs : List Value} (h : w.ownsRow B 74 1 (.slice A n c) n xs) (hn : 0 < n) :
    ∃ gg, A = some ⟨gg, 0, none⟩ ∧ B ≤ gg ∧ gg < w.heap.size ∧ (∃ cs, Blk w gg 74 cs) ∧ ∀ i u, xs[i]? = some u → w.cell? ⟨gg, i, none⟩ = some u := by
  have hlen := h.1
  rcases h.2 with ⟨_, h0⟩ | ⟨gg, cap, cur, hv, hb, hg, _, _, _, ht⟩
  · omega
  · injection hv with hA _ _
    refine ⟨gg, hA, hb, Blk.lt hg, ⟨cur, hg⟩, fun i u hu => ?_⟩
    have hi : i < n * 1 := by have := (List.getElem?_eq_some_iff.1 hu).1; omega
    have h1 : (cur.toList.take (n * 1))[i]? = xs[i]? := by rw [ht]
    rw [List.getElem?_take, if_pos hi, Array.getElem?_toList, hu] at h1
    exact (Blk.cell hg i).trans h1
theorem rdT_J {w : World} {B B' n c : Nat} {A : Option Addr} {bl len cp : Nat → Nat} {g : Nat → Nat → Nd} (h : w.ownsRow B 74 1 (.slice A n c) n (hdJ n bl len cp)) (hT : TreesN w B' n bl len g) : RdT w w.heap.size A n len g := fun hn => by
  obtain ⟨gg, hA, _, hlt, _, hc⟩ := own_hdJ h hn
  refine ⟨gg, 0, hA, hlt, fun i hi => ⟨some ⟨bl i, 0, none⟩, cp i, ?_, rdN_of (hT i hi).2.1⟩⟩
  rw [Nat.zero_add]
  exact hc i _ (hdJ_at hi)

/-- The first k trees copied. -/
def Copied (w : World) (len : Nat → Nat) (g : Nat → Nat → Nd) (v : Value) (k : Nat) (wr : World) : Prop :=
  ∃ gb c bl cp, v = .slice (some ⟨gb, 0, none⟩) k c ∧ wr.ownsRow w.heap.size 74 1 (.slice (some ⟨gb, 0, none⟩) k c) k (hdJ k bl len cp) ∧ TreesN wr w.heap.size k bl len g ∧ Below w.heap.size w wr

end Go.Proofs.Ytmpgefpaoogoiaa
