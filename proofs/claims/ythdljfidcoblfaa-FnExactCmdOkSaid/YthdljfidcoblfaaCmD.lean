/- The text of a command: its words; of the program. -/
import Derived.Test.YthdljfidcoblfaaCmC
import Derived.Deep.DeepCutAuto
namespace Go.Proofs.Ythdljfidcoblfaa
open Go.RowKit Go.Deep
set_option linter.unusedVariables false
set_option linter.unusedSimpArgs false

/-! ### pure -/
def numsL (k a b t : Int) : List Int := (if 0 < fA k then [a] else []) ++ ((if 0 < fB k then [b] else []) ++ (if 0 < fT k then [t] else []))
def ptrO (k : Int) : List Nat := (if 0 < fA k then [1] else []) ++ ((if 0 < fB k then [2] else []) ++ (if 0 < fT k then [3] else []))
def ptrV (cb : Nat) (k : Int) : List Value := (ptrO k).map fun o => .pointer (some ⟨cb, o, none⟩)
def textL (k : Int) (s : ByteArray) : List ByteArray := if 0 < fX k then [s] else []
def docsL (n : Nat) (len : Nat → Nat) (z : Nat → Nat → Int) : List ByteArray := (List.range n).map fun i => docS (len i) (z i)
def wordsC (k a b t : Int) (n : Nat) (len : Nat → Nat) (z : Nat → Nat → Int) (s : ByteArray) : List ByteArray := ([fName k] ++ (numsL k a b t).map decS) ++ docsL n len z ++ textL k s
def joinL (L : List ByteArray) : ByteArray := joinTo (fun i => L.getD i ByteArray.empty) (one1 32) L.length
def cmdS (k a b t : Int) (n : Nat) (len : Nat → Nat) (z : Nat → Nat → Int) (s : ByteArray) : ByteArray := if cmdB k a b t n len z s = true then joinL (wordsC k a b t n len z s) else ByteArray.empty
theorem list_range (L : List ByteArray) : (List.range L.length).map (fun i => L.getD i ByteArray.empty) = L := by
  apply List.ext_getElem?
  intro i
  rw [List.getElem?_map]
  by_cases h : i < L.length
  · rw [List.getElem?_range h]
    show some (L.getD i ByteArray.empty) = _
    rw [List.getD_eq_getElem?_getD, List.getElem?_eq_getElem h]
    rfl
  · rw [List.getElem?_eq_none (by simpa using h), List.getElem?_eq_none (by omega)]
    rfl
theorem joinL_snoc {L : List ByteArray} (x : ByteArray) (h : L ≠ []) : joinL (L ++ [x]) = joinL L ++ one1 32 ++ x := by
  have hl : 0 < L.length := List.length_pos_iff.2 h
  unfold joinL
  rw [List.length_append, List.length_singleton]
  show (if 0 < L.length then joinTo _ (one1 32) L.length ++ one1 32 else joinTo _ (one1 32) L.length) ++ (L ++ [x]).getD L.length ByteArray.empty = _
  rw [if_pos hl]
  have e1 : (L ++ [x]).getD L.length ByteArray.empty = x := by
    rw [List.getD_eq_getElem?_getD, List.getElem?_append_right (Nat.le_refl _), Nat.sub_self]; rfl
  have e2 : joinTo (fun i => (L ++ [x]).getD i ByteArray.empty) (one1 32) L.length = joinTo (fun i => L.getD i ByteArray.empty) (one1 32) L.length := joinTo_congr _ fun i hi => by
    simp only [List.getD_eq_getElem?_getD]
    rw [List.getElem?_append_left hi]
  rw [e1, e2]
theorem joinL_one (x : ByteArray) : joinL [x] = x := by
  show joinTo (fun i => [x].getD i ByteArray.empty) (one1 32) 1 = x
  show ByteArray.empty ++ x = x
  rw [ByteArray.empty_append]
theorem joinL_two (x y : ByteArray) : joinL [x, y] = x ++ one1 32 ++ y := by
  have := joinL_snoc (L := [x]) y (by simp)
  rw [joinL_one] at this
  exact this
theorem joinL_three (x y z : ByteArray) : joinL [x, y, z] = x ++ one1 32 ++ y ++ one1 32 ++ z := by
  have := joinL_snoc (L := [x, y]) z (by simp)
  rw [joinL_two] at this
  exact this
theorem joinL_size {L : List ByteArray} {M : Nat} (h : ∀ x ∈ L, x.size ≤ M) : (joinL L).size ≤ L.length * (M + 1) := by
  have := joinTo_size (f := fun i => L.getD i ByteArray.empty) (sep := one1 32) (M := M) L.length (fun i hi => by
    show (L.getD i ByteArray.empty).size ≤ M
    rw [List.getD_eq_getElem?_getD, List.getElem?_eq_getElem hi]
    exact h _ (List.getElem_mem hi))
  exact this
/-- What is known of a good command. -/
theorem cmd_in {k a b t : Int} {n : Nat} {len : Nat → Nat} {z : Nat → Nat → Int} {s : ByteArray} (h : cmdB k a b t n len z s = true) :
    (1 ≤ k ∧ k ≤ 5) ∧ ((0 ≤ a ∧ a ≤ fA k) ∧ (0 ≤ b ∧ b ≤ fB k) ∧ -fT k ≤ t ∧ t ≤ fT k) ∧ ((n : Int) ≤ fD k ∧ ∀ i, i < n → docB (len i) (z i) = true) ∧ (s.size : Int) ≤ fX k ∧ nlB s = false := by
  unfold cmdB docsF textF docsB at h
  simp only [Bool.and_eq_true, decide_eq_true_eq, Bool.not_eq_true'] at h
  obtain ⟨h1, h2, ⟨h3, h4⟩, h5, h6⟩ := h
  exact ⟨by unfold kindB at h1; simpa using h1, numF_iff.1 h2, ⟨h3, fun i hi => allP_iff.1 h4 i hi⟩, h5, h6⟩
theorem nums_I64 {k a b t : Int} (h : (0 ≤ a ∧ a ≤ fA k) ∧ (0 ≤ b ∧ b ≤ fB k) ∧ -fT k ≤ t ∧ t ≤ fT k) : ∀ x ∈ numsL k a b t, I64 x := by
  have hl := f_low k
  intro x hx
  unfold numsL at hx
  rcases List.mem_append.1 hx with hx | hx
  · split at hx
    · obtain rfl : x = a := by simpa using hx
      exact ⟨by omega, by omega⟩
    · cases hx
  · rcases List.mem_append.1 hx with hx | hx
    · split at hx
      · obtain rfl : x = b := by simpa using hx
        exact ⟨by omega, by omega⟩
      · cases hx
    · split at hx
      · obtain rfl : x = t := by simpa using hx
        exact ⟨by omega, by omega⟩
      · cases hx
theorem nums_len (k a b t : Int) : (numsL k a b t).length = (ptrO k).length := by
  unfold numsL ptrO
  simp only [List.length_append]
  repeat' split
  all_goals rfl
theorem ptrO_len (k : Int) : (ptrO k).length ≤ 3 := by
  unfold ptrO
  simp only [List.length_append]
  have h1 : (if 0 < fA k then [1] else ([] : List Nat)).length ≤ 1 := by split <;> simp
  have h2 : (if 0 < fB k then [2] else ([] : List Nat)).length ≤ 1 := by split <;> simp
  have h3 : (if 0 < fT k then [3] else ([] : List Nat)).length ≤ 1 := by split <;> simp
  omega
/-- The i-th number lies where the i-th pointer points. -/
theorem ptr_num (k a b t : Int) (D : Option Addr) (n dc : Nat) (s : ByteArray) {i : Nat} (hi : i < (ptrO k).length) :
    ∃ o x, (ptrO k)[i]? = some o ∧ (numsL k a b t)[i]? = some x ∧ (cmC k a b t D n dc s)[o]? = some (.int .i64 x) := by
  rcases kind_or k with rfl | rfl | rfl | rfl | rfl | ⟨k1, k2, k3, k4, k5⟩
  · simp [ptrO, fA, fB, fT] at hi
  · have e1 : ptrO 2 = [1, 2] := by simp [ptrO, fA, fB, fT]
    have e2 : numsL 2 a b t = [a, b] := by simp [numsL, fA, fB, fT]
    rw [e1] at hi ⊢
    rw [e2]
    have hi2 : i < 2 := hi
    obtain rfl | rfl : i = 0 ∨ i = 1 := by omega
    · exact ⟨1, a, rfl, rfl, rfl⟩
    · exact ⟨2, b, rfl, rfl, rfl⟩
  · simp [ptrO, fA, fB, fT] at hi
  · have e1 : ptrO 4 = [3] := by simp [ptrO, fA, fB, fT]
    have e2 : numsL 4 a b t = [t] := by simp [numsL, fA, fB, fT]
    rw [e1] at hi ⊢
    rw [e2]
    have hi2 : i < 1 := hi
    obtain rfl : i = 0 := by omega
    exact ⟨3, t, rfl, rfl, rfl⟩
  · have e1 : ptrO 5 = [1] := by simp [ptrO, fA, fB, fT]
    have e2 : numsL 5 a b t = [a] := by simp [numsL, fA, fB, fT]
    rw [e1] at hi ⊢
    rw [e2]
    have hi2 : i < 1 := hi
    obtain rfl : i = 0 := by omega
    exact ⟨1, a, rfl, rfl, rfl⟩
  · simp [ptrO, fA, fB, fT, k2, k4, k5] at hi
theorem ptrV_at {cb : Nat} {k : Int} {i o : Nat} (h : (ptrO k)[i]? = some o) : (ptrV cb k)[i]? = some (.pointer (some ⟨cb, o, none⟩)) := by
  unfold ptrV
  rw [List.getElem?_map, h]
  rfl
theorem ptrV_len (cb : Nat) (k : Int) : (ptrV cb k).length = (ptrO k).length := by unfold ptrV; simp
theorem words_le {k a b t : Int} {n : Nat} {len : Nat → Nat} {z : Nat → Nat → Int} {s : ByteArray} (h : cmdB k a b t n len z s = true) : ∀ x ∈ wordsC k a b t n len z s, x.size ≤ 4000 := by
  obtain ⟨_, h2, ⟨_, h4⟩, h5, _⟩ := cmd_in h
  have hl := f_low k
  intro x hx
  unfold wordsC at hx
  rcases List.mem_append.1 hx with hx | hx
  · rcases List.mem_append.1 hx with hx | hx
    · rcases List.mem_append.1 hx with hx | hx
      · obtain rfl : x = fName k := by simpa using hx
        have := fName_size k
        omega
      · obtain ⟨y, hy, rfl⟩ := List.mem_map.1 hx
        have := (nums_I64 h2 y hy).size
        omega
    · unfold docsL at hx
      obtain ⟨i, hi, rfl⟩ := List.mem_map.1 hx
      have := docS_sz (h4 i (List.mem_range.1 hi))
      omega
  · unfold textL at hx
    split at hx
    · obtain rfl : x = s := by simpa using hx
      omega
    · cases hx
theorem cwords_len {k a b t : Int} {n : Nat} {len : Nat → Nat} {z : Nat → Nat → Int} {s : ByteArray} (h : cmdB k a b t n len z s = true) : (wordsC k a b t n len z s).length ≤ 25 := by
  obtain ⟨_, _, ⟨h3, _⟩, _, _⟩ := cmd_in h
  have hl := f_low k
  have hp := ptrO_len k
  have e1 := nums_len k a b t
  have e2 : (textL k s).length ≤ 1 := by unfold textL; split <;> simp
  unfold wordsC docsL
  simp only [List.length_append, List.length_map, List.length_range, List.length_singleton]
  omega

/-! ### the numbers' places -/
theorem own_nil (w : World) (B : Nat) (e : TypeId) : w.ownsRow B e 1 (.slice none 0 0) 0 [] := ⟨rfl, .inl ⟨rfl, rfl⟩⟩

end Go.Proofs.Ythdljfidcoblfaa
