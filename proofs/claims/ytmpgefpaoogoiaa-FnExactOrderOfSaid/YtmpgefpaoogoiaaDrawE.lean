/- What is drawn of trees: whole ones, and hurt ones. -/
import Derived.Test.YtmpgefpaoogoiaaDrawD
namespace Go.Proofs.Ytmpgefpaoogoiaa
open Go.RowKit Go.Deep

theorem own_more {w : World} {B B2 : Nat} {e : TypeId} {size : Nat} {v : Value} {n : Nat} {xs : List Value} (h : w.ownsRow B2 e size v n xs) (hB : B ≤ B2) : w.ownsRow B e size v n xs := by
  refine ⟨h.1, ?_⟩
  rcases h.2 with h0 | ⟨g, cap, cur, hv, hb, rest⟩
  · exact .inl h0
  · exact .inr ⟨g, cap, cur, hv, Nat.le_trans hB hb, rest⟩

theorem tree_draw (R n cap : Nat) (A : Option Addr) (f : Int) (hf1 : 1 ≤ f) (hf6 : f ≤ 6) (w : World) (h : Rs w R A n cap) :
    Calls Try.prog 149 #[.pointer (some ⟨R, 0, none⟩), .int .i64 f] w (GrownPost R n cap A 3 w) := by
  go_enter Try.func149, Try.ntmps149
  go_wp2_with fail
  refine (below_draw R n cap A 4 _ h (by omega) (by omega)).mono ?_
  rintro e w1 ⟨x, rfl, hx0, hx1, hR1, hg1⟩
  obtain ⟨k, rfl⟩ := Int.eq_ofNat_of_zero_le hx0
  have hs1 := hg1.size
  go_wp2_with fail
  refine (grown_draw R n cap A f hf1 hf6 k 0 _ hR1 (by omega) (by omega) (by omega)).mono ?_
  rintro e w2 ⟨m, ds, A', c, hm, hm', rfl, hown, hR2, hg2⟩
  go_wp2_with fail
  go_ret
  exact ⟨m, ds, A', c, hm, Nat.lt_of_lt_of_le hm' (Nat.pow_le_pow_right (by omega) (by omega)), rfl, ⟨hown.1, own_more hown.2 hs1⟩, hR2, grown_trans hg1 hg2⟩

theorem flat_at (ds : List Nd) : ∀ (i j : Nat), i < ds.length → j < 6 → (ds.flatMap ndC)[i * 6 + j]? = (ndC (ds.getD i ⟨0, 0, 0, 0, false, 0⟩))[j]? := by
  induction ds with
  | nil => intro i j hi; simp at hi
  | cons d ds ih =>
    intro i j hi hj
    rw [List.flatMap_cons]
    cases i with
    | zero => rw [List.getElem?_append_left (by simp [ndC]; omega)]; simp
    | succ i =>
      rw [List.getElem?_append_right (by simp [ndC]; omega)]
      have e : (i + 1) * 6 + j - (ndC d).length = i * 6 + j := by simp [ndC]; omega
      rw [e, ih i j (by simpa using hi) hj]
      simp

/-- The block g holds m nodes. -/
def NdRow (w : World) (b m : Nat) (g : Nat → Nd) : Prop := ∀ i, i < m → NdAt w b (i * 6) (g i)

theorem ndRow_own {w : World} {B m c : Nat} {A' : Option Addr} {ds : List Nd} (h : Owned w B A' m c ds) (hm : 0 < m) :
    ∃ b, A' = some ⟨b, 0, none⟩ ∧ B ≤ b ∧ b < w.heap.size ∧ NdRow w b m (fun i => ds.getD i ⟨0, 0, 0, 0, false, 0⟩) := by
  obtain ⟨b, e, hB, hlt, hc⟩ := own_cells h.2 hm
  refine ⟨b, e, hB, hlt, fun i hi => ?_⟩
  have hf := fun j hj => flat_at ds i j (by rw [h.1]; exact hi) hj
  exact ⟨hc _ _ (hf 0 (by omega)), hc _ _ (hf 1 (by omega)), hc _ _ (hf 2 (by omega)), hc _ _ (hf 3 (by omega)), hc _ _ (hf 4 (by omega)), hc _ _ (hf 5 (by omega))⟩
theorem NdRow.rdN {w : World} {b m : Nat} {g : Nat → Nd} (h : NdRow w b m g) (hb : b < w.heap.size) : RdN w w.heap.size (some ⟨b, 0, none⟩) m g := fun _ => ⟨b, 0, rfl, hb, fun i hi => by rw [Nat.zero_add]; exact h i hi⟩
end Go.Proofs.Ytmpgefpaoogoiaa
