/- What is put into a cache that is drawn. -/
import Derived.Test.YtckhooibjmheiaaCdA
import Derived.Test.YtckhooibjmheiaaCaT
namespace Go.Proofs.Ytckhooibjmheiaa
open Go.RowKit Go.Deep
set_option linter.unusedVariables false
set_option linter.unusedSimpArgs false

theorem put_good {cap clock : Int} {k : Nat} {s : Nat → Slt} {n : Nat} {g : Nat → Sp} {x : Int} (hY : putY cap clock k s n g = true) : pK cap clock k s n g ≤ 8 ∧ ∀ i, i < pK cap clock k s n g → (pS cap clock k s n g x i).n ≤ 16 := by
  unfold pK pS
  rw [hY]
  have hY' := hY
  unfold putY canB at hY'
  simp only [Bool.and_eq_true] at hY'
  obtain ⟨⟨hc, _⟩, hb⟩ := hY'
  obtain ⟨⟨c1, c2⟩, _, hk, hs⟩ := cacheB_iff.1 hc
  have hn := (boxB_iff.1 hb).2.1
  have h6 : ∀ i, i < k → (s i).n ≤ 6 := fun i hi => (boxB_iff.1 (slotB_iff.1 (hs i hi)).1).2.1
  simp only [if_true]
  refine ⟨by unfold putK; split <;> omega, fun i hi => ?_⟩
  unfold putS
  by_cases e : (k : Int) = cap
  · rw [if_pos e]
    unfold putK at hi
    rw [if_pos e] at hi
    unfold addS cutS
    by_cases q : i = k - 1
    · rw [if_pos q]; show n ≤ 16; omega
    · rw [if_neg q]
      by_cases q2 : i < oldI (fun i => (s i).used) k
      · rw [if_pos q2]; have := h6 i (by omega); omega
      · rw [if_neg q2]; have := h6 (i + 1) (by omega); omega
  · rw [if_neg e]
    unfold putK at hi
    rw [if_neg e] at hi
    unfold addS
    by_cases q : i = k
    · rw [if_pos q]; show n ≤ 16; omega
    · rw [if_neg q]; have := h6 i (by omega); omega
theorem sPut_draw (cap clock : Int) (A : Option Addr) (k c : Nat) (s : Nat → Slt) (D : Option Addr) (n dc : Nat) (g : Nat → Sp) (x : Int) (w : World) (h : RdC w w.heap.size A k s) (hd : RdS w w.heap.size D n g) (hgo : k ≤ 8 ∧ ∀ i, i < k → (s i).n ≤ 16) (hf : n ≤ 16) :
    Calls Try.prog 30 #[caV cap clock A k c, .slice D n dc, .int .i64 x] w fun e w' => ∃ (C : Int) (A' : Option Addr) (k' c' : Nat) (s' : Nat → Slt) (B : Bool), e = .returned (.tuple #[.agg #[.int .i64 cap, .int .i64 C, .slice A' k' c'], .bool B]) ∧ OwC w' w.heap.size A' k' c' s' ∧ (B = true → k' ≤ 8 ∧ ∀ i, i < k' → (s' i).n ≤ 16) ∧ Below w.heap.size w w' := by
  refine (sPut_any cap clock A k c s D n dc g x w h hd (by omega) (fun i hi => by have := hgo.2 i hi; omega) (by omega)).mono fun e w' ⟨A', c', he, ho, hb⟩ => ?_
  exact ⟨_, A', _, c', _, _, he, ho, fun hY => put_good hY, hb⟩
end Go.Proofs.Ytckhooibjmheiaa
