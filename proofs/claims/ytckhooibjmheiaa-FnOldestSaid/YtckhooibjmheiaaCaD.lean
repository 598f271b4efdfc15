/- Copies of caches, on both sides. -/
import Derived.Test.YtckhooibjmheiaaCaC
import Derived.Test.YtckhooibjmheiaaJoinB
import Derived.Deep.RegionLaw
import Derived.Lib.SliceRun
namespace Go.Proofs.Ytckhooibjmheiaa
open Go.RowKit Go.Deep

/-- A slice of slots that is read, its boxes' headers named. -/
def SrcC (w : World) (A : Option Addr) (k : Nat) (hv : Nat → Value) (s : Nat → Slt) : Prop :=
  (0 < k → ∃ b off, A = some ⟨b, off, none⟩ ∧ b < w.heap.size ∧ ∀ j u, (slotsC k hv s)[j]? = some u → w.cell? ⟨b, off + j, none⟩ = some u) ∧ ∀ i, i < k → ∃ Ai ci, hv i = .slice Ai (s i).n ci ∧ RdS w w.heap.size Ai (s i).n (s i).g
theorem RdC.src {w : World} {A : Option Addr} {k : Nat} {s : Nat → Slt} (h : RdC w w.heap.size A k s) : ∃ hv, SrcC w A k hv s := by
  rcases Nat.eq_zero_or_pos k with h0 | h0
  · subst h0
    exact ⟨fun _ => .slice none 0 0, fun h => by omega, fun i hi => by omega⟩
  · obtain ⟨b, off, e, hb, hc⟩ := h h0
    refine ⟨fun i => if h : i < k then .slice (Classical.choose (hc i h)) (s i).n (Classical.choose (Classical.choose_spec (hc i h))) else .slice none 0 0, fun _ => ⟨b, off, e, hb, fun j u hu => ?_⟩, fun i hi => ?_⟩
    · have hj : j < k * 3 := by
        have := (List.getElem?_eq_some_iff.1 hu).1
        rwa [slotsC_len] at this
      have hi : j / 3 < k := by omega
      have ej : j = j / 3 * 3 + j % 3 := by omega
      rw [ej, slotsC_at _ _ k (j / 3) (j % 3) hi (by omega)] at hu
      obtain ⟨e0, e1, e2, _⟩ := Classical.choose_spec (Classical.choose_spec (hc (j / 3) hi))
      have h3 : j % 3 = 0 ∨ j % 3 = 1 ∨ j % 3 = 2 := by omega
      rcases h3 with h3 | h3 | h3
      · rw [h3] at hu
        simp only [slC, dif_pos hi] at hu
        rw [ej, h3, Nat.add_zero, e0]; exact hu
      · rw [h3] at hu
        simp only [slC] at hu
        rw [ej, h3, ← Nat.add_assoc, e1]; exact hu
      · rw [h3] at hu
        simp only [slC] at hu
        rw [ej, h3, ← Nat.add_assoc, e2]; exact hu
    · obtain ⟨_, _, _, e3⟩ := Classical.choose_spec (Classical.choose_spec (hc i hi))
      exact ⟨_, _, dif_pos hi, e3⟩
theorem SrcC.one {w : World} {A : Option Addr} {k : Nat} {hv : Nat → Value} {s : Nat → Slt} (h : SrcC w A k hv s) : ∀ u ∈ slotsC k hv s, u.oneCell' = true := by
  intro u hu
  unfold slotsC at hu
  obtain ⟨i, hi, hu⟩ := List.mem_flatMap.1 hu
  obtain ⟨Ai, ci, e, _⟩ := h.2 i (by simpa using hi)
  simp only [slC, List.mem_cons, List.not_mem_nil, or_false, e] at hu
  rcases hu with rfl | rfl | rfl <;> rfl
theorem spans_one (n : Nat) (g : Nat → Sp) : ∀ u ∈ spansC n g, u.oneCell' = true := by
  intro u hu
  unfold spansC at hu
  obtain ⟨i, _, hu⟩ := List.mem_flatMap.1 hu
  exact spC_one _ u hu
/-- What is read of spans, cell by cell. -/
theorem spans_src {w : World} {B n : Nat} {A : Option Addr} {g : Nat → Sp} (h : RdS w B A n g) : 0 < n → ∃ b off, A = some ⟨b, off, none⟩ ∧ b < B ∧ ∀ j u, (spansC n g)[j]? = some u → w.cell? ⟨b, off + j, none⟩ = some u := fun hn => by
  obtain ⟨b, off, e, hb, hc⟩ := h hn
  refine ⟨b, off, e, hb, fun j u hu => ?_⟩
  have hj : j < n * 3 := by
    have := (List.getElem?_eq_some_iff.1 hu).1
    rwa [spansC_len] at this
  have hi : j / 3 < n := by omega
  have ej : j = j / 3 * 3 + j % 3 := by omega
  rw [ej, spansC_at _ n (j / 3) (j % 3) hi (by omega)] at hu
  obtain ⟨e0, e1, e2⟩ := hc (j / 3) hi
  have h3 : j % 3 = 0 ∨ j % 3 = 1 ∨ j % 3 = 2 := by omega
  rcases h3 with h3 | h3 | h3
  · rw [h3] at hu
    simp only [spC] at hu
    rw [ej, h3, Nat.add_zero, e0]; exact hu
  · rw [h3] at hu
    simp only [spC] at hu
    rw [ej, h3, ← Nat.add_assoc, e1]; exact hu
  · rw [h3] at hu
    simp only [spC] at hu
    rw [ej, h3, ← Nat.add_assoc, e2]; exact hu

set_option maxRecDepth 100000 in
set_option maxHeartbeats 1000000 in
theorem cloneS_any (A : Option Addr) (n c : Nat) (g : Nat → Sp) (w : World) (h : RdS w w.heap.size A n g) (hn : n ≤ 4194304) :
    Calls Try.prog 97 #[.slice A n c] w fun e w' => ∃ A' c', e = .returned (.slice A' n c') ∧ w'.ownsRow w.heap.size 74 3 (.slice A' n c') n (spansC n g) ∧ Below w.heap.size w w' := by
  obtain ⟨i0, hi0, hz0, hz1, hz2⟩ := info_parts info_span
  have HS := hid (spans_src (h.below ((Below.refl w.heap.size w).alloc (Nat.le_refl _) (.cells #[] 74))))
  have q : ∀ (w : World) (a : Option Addr) (n c n' c' : Nat), (binOp .eql 35 (.slice a n c) (.slice none n' c')).run Try.prog w = .ok (.bool a.isNone) w := fun w a n c n' c' => Lib.run_eql_slice_nil w _ _ a n c n' c' Try.underlying35
  cases A with
  | none =>
    have h0 : n = 0 := by
      rcases Nat.eq_zero_or_pos n with h0 | h0
      · exact h0
      · obtain ⟨b, off, e, _⟩ := h h0
        cases e
    subst h0
    clear HS h
    go_enter Try.func97, Try.ntmps97
    go_wp2_with fail
    go_ret
    exact ⟨none, 0, rfl, World.ownsRow_nil _ _ _ _, Below.refl _ _⟩
  | some a =>
    clear h
    go_enter Try.func97, Try.ntmps97
    go_wp2_with (at_builtin; refine wpList_append_mayJ rfl (.tmp 5) (.tmp 6) 35 rfl w.heap.size 74 i0 (spV ⟨0, 0, false⟩) 3 24 Try.underlying35 hi0 hz0 hz1 hz2 rfl (by decide) (.slice (some ⟨w.heap.size, 0, none⟩) 0 0) 0 [] rfl (World.ownsRow_made w #[] 0 (Nat.le_refl _) (by unfold maxLen; omega) rfl) (some a) n c (spansC n g) rfl (spansC_len _ _) (fun h0 => by obtain ⟨b, off, e, _, hc⟩ := HS.out h0; exact ⟨b, off, e, hc⟩) (spans_one _ _) (by unfold maxLen; omega) (by omega) (by simp) ?_)
    intro v5 w5 hown5 hg5
    obtain ⟨A5, c5, rfl⟩ := own_form hown5
    have hb5 : Below w.heap.size w w5 := ((Below.refl _ _).alloc (Nat.le_refl _) _).grown hg5 (by simp) (fun x hx => by simp [Value.ownBlock] at hx; omega)
    have HO : Hid (w5.ownsRow w.heap.size 74 3 (.slice A5 n c5) n (spansC n g)) := by show World.ownsRow _ _ _ _ _ _ _; simpa using hown5
    have eN : (0 : Nat) + n = n := Nat.zero_add n
    clear hown5 hg5 HS
    go_wp2_with fail
    go_ret
    exact ⟨A5, c5, rfl, HO.out, hb5⟩

set_option maxRecDepth 100000 in
set_option maxHeartbeats 1000000 in
theorem cloneC_any (A : Option Addr) (k c : Nat) (hv : Nat → Value) (s : Nat → Slt) (w : World) (h : SrcC w A k hv s) (hn : k ≤ 4194304) :
    Calls Try.prog 148 #[.slice A k c] w fun e w' => ∃ A' c', e = .returned (.slice A' k c') ∧ w'.ownsRow w.heap.size 37 3 (.slice A' k c') k (slotsC k hv s) ∧ Below w.heap.size w w' := by
  obtain ⟨i0, hi0, hz0, hz1, hz2⟩ := info_parts info_slot
  have HONE := hid h.one
  have HS := hid h.1
  have q : ∀ (w : World) (a : Option Addr) (n c n' c' : Nat), (binOp .eql 24 (.slice a n c) (.slice none n' c')).run Try.prog w = .ok (.bool a.isNone) w := fun w a n c n' c' => Lib.run_eql_slice_nil w _ _ a n c n' c' Try.underlying24
  cases A with
  | none =>
    have h0 : k = 0 := by
      rcases Nat.eq_zero_or_pos k with h0 | h0
      · exact h0
      · obtain ⟨b, off, e, _⟩ := h.1 h0
        cases e
    subst h0
    clear HS h HONE
    go_enter Try.func148, Try.ntmps148
    go_wp2_with fail
    go_ret
    exact ⟨none, 0, rfl, World.ownsRow_nil _ _ _ _, Below.refl _ _⟩
  | some a =>
    clear h
    have HB := hid ((Below.refl w.heap.size w).alloc (Nat.le_refl _) (.cells #[] 37))
    go_enter Try.func148, Try.ntmps148
    go_wp2_with (at_builtin; refine wpList_append_mayJ rfl (.tmp 5) (.tmp 6) 24 rfl w.heap.size 37 i0 (.agg #[.slice none 0 0, .int .i64 0, .int .i64 0]) 3 40 Try.underlying24 hi0 hz0 hz1 hz2 rfl (by decide) (.slice (some ⟨w.heap.size, 0, none⟩) 0 0) 0 [] rfl (World.ownsRow_made w #[] 0 (Nat.le_refl _) (by unfold maxLen; omega) rfl) (some a) k c (slotsC k hv s) rfl (slotsC_len _ _ _) (fun h0 => by obtain ⟨b, off, e, hb, hc⟩ := HS.out h0; exact ⟨b, off, e, fun j u hu => (HB.out.cell (p := ⟨b, off + j, none⟩) hb).trans (hc j u hu)⟩) HONE.out (by unfold maxLen; omega) (by omega) (by simp) ?_)
    intro v5 w5 hown5 hg5
    obtain ⟨A5, c5, rfl⟩ := own_form hown5
    have hb5 : Below w.heap.size w w5 := HB.out.grown hg5 (by simp) (fun x hx => by simp [Value.ownBlock] at hx; omega)
    have HO : Hid (w5.ownsRow w.heap.size 37 3 (.slice A5 k c5) k (slotsC k hv s)) := by show World.ownsRow _ _ _ _ _ _ _; simpa using hown5
    have eN : (0 : Nat) + k = k := Nat.zero_add k
    clear hown5 hg5 HS HB HONE
    go_wp2_with fail
    go_ret
    exact ⟨A5, c5, rfl, HO.out, hb5⟩
end Go.Proofs.Ytckhooibjmheiaa
