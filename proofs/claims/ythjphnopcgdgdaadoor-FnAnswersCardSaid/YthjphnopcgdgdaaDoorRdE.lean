/- A document read, of the other side. -/
import Derived.Test.YthjphnopcgdgdaaDoorRdD
import Derived.Test.YthjphnopcgdgdaaDoorTxC
import Derived.WalkMore
namespace Go.Proofs.YthjphnopcgdgdaaDoor
open Go.RowKit Go.Deep

theorem ba_listT {a b : ByteArray} (h : a ≠ b) : (a.toList == b.toList) = false := by
  rw [beq_eq_false_iff_ne]
  intro e
  rw [ByteArray.toList_eq, ByteArray.toList_eq] at e
  exact h (ByteArray.ext (Array.toList_inj.1 e))
theorem list_full {a : ByteArray} (h : a ≠ ⟨#[]⟩) : a.toList.isEmpty = false := by
  have := ba_listT h
  cases hl : a.toList with
  | nil => rw [hl] at this; simp [ByteArray.toList_eq] at this
  | cons x l => rfl
theorem dec_dash (x : Int) : ((decS x).toList == [45]) = false := by
  have := ba_listT (decS_ne_dash x)
  rw [ByteArray.toList_eq (⟨#[45]⟩ : ByteArray)] at this
  exact this
def extT (z : Nat → Int) (k : Nat) (x : Int) : Nat → Int := fun j => if j = k then x else z j
theorem numsOf_extT (k : Nat) (z : Nat → Int) (x : Int) : numsOf (k + 1) (extT z k x) = numsOf k z ++ [.int .i64 x] := by
  rw [numsOf_succ]
  have e1 : numsOf k (extT z k x) = numsOf k z := by
    unfold numsOf
    refine List.map_congr_left fun j hj => ?_
    have : j < k := List.mem_range.1 hj
    unfold extT
    rw [if_neg (by omega)]
  rw [e1]
  unfold extT
  rw [if_pos rfl]
def strLenT : Value → Nat
  | .string b => b.size
  | _ => 0
/-- What a loop over the words has before it. -/
def msrT (r : Value) : Value → Nat
  | .bool true => 1 + strLenT r
  | _ => 0
theorem msr_less {t r : ByteArray} {m : Bool} (h : m = true → r.size < t.size) : msrT (.string r) (.bool m) < msrT (.string t) (.bool true) := by
  cases m
  · show 0 < 1 + _; omega
  · have := h rfl; show 1 + r.size < 1 + t.size; omega
theorem cut_some (s : ByteArray) (hs : s.size ≤ 4194304) : ∃ t r m, (m = true → r.size < s.size) ∧ t.size ≤ s.size ∧ r.size ≤ s.size ∧
    ∀ w, Calls Tryd.prog 34 #[.string s, .int .u8 44] w fun e w' => e = .returned (.tuple #[.string t, .string r, .bool m]) ∧ ∃ j, w' = w.drewN j := by
  rcases part_or 44 s with h | ⟨t, r, rfl, h⟩
  · exact ⟨s, ⟨#[]⟩, false, by simp, Nat.le_refl _, Nat.zero_le _, fun w => cut_miss s 44 44 w rfl h hs⟩
  · have e := size_app3 t r 44
    exact ⟨t, r, true, fun _ => by rw [e]; omega, by rw [e]; omega, by rw [e]; omega, fun w => cut_hit t r 44 44 w rfl h hs⟩
theorem numS_sz {x : Int} (h : may x = true) : (numS x).size ≤ 8 := by
  have hb := may_bd h
  simp only [may, Bool.or_eq_true, Bool.and_eq_true, decide_eq_true_eq, beq_iff_eq] at h
  unfold numS
  split
  · decide
  · show (Lib.itoa x).toArray.size ≤ 8
    rw [List.size_toArray]
    by_cases hn : x < 0
    · obtain ⟨M, rfl⟩ : ∃ M : Nat, x = -(M : Int) := ⟨x.natAbs, by omega⟩
      rw [Lib.itoa_neg M (by omega), List.length_cons, Lib.decDigits_length]
      have := digits_le M 6 (by omega)
      omega
    · obtain ⟨M, rfl⟩ : ∃ M : Nat, x = (M : Int) := ⟨x.toNat, by omega⟩
      rw [Lib.itoa_nonneg, Lib.decDigits_length]
      have := digits_le M 6 (by omega)
      omega
theorem docS_yes {n : Nat} {z : Nat → Int} (h : docB n z = true) : docS n z = joinTo (fun i => numS (z i)) (one1 44) n := by unfold docS; rw [if_pos h]; rfl
theorem docS_sz {n : Nat} {z : Nat → Int} (h : docB n z = true) : (docS n z).size ≤ 54 := by
  obtain ⟨h1, h6, hall⟩ := docB_true h
  rw [docS_yes h]
  have := joinTo_size (f := fun i => numS (z i)) (sep := one1 44) (M := 8) n (fun i hi => numS_sz (hall i hi))
  have e : (one1 44).size = 1 := rfl
  rw [e] at this
  omega
theorem numS_pos (x : Int) : 0 < (numS x).size := by
  unfold numS
  split
  · decide
  · show 0 < (Lib.itoa x).toArray.size
    rw [List.size_toArray]
    unfold Lib.itoa
    have hp := fun u => Lib.nDigits_pos u
    split
    · rw [List.length_cons]; omega
    · rw [Lib.decDigits_length]; exact hp _
theorem docS_ne {n : Nat} {z : Nat → Int} (h : docB n z = true) : docS n z ≠ ⟨#[]⟩ := by
  obtain ⟨h1, h6, hall⟩ := docB_true h
  rw [docS_yes h]
  obtain ⟨m, rfl⟩ : ∃ m, n = m + 1 := ⟨n - 1, by omega⟩
  intro e
  have h2 := congrArg ByteArray.size e
  have h3 := numS_pos (z m)
  have h4 : (joinTo (fun i => numS (z i)) (one1 44) (m + 1)).size ≥ (numS (z m)).size := by
    show ((if 0 < m then _ else _) ++ numS (z m)).size ≥ _
    rw [ByteArray.size_append]; omega
  rw [h2] at h4
  have h5 : (⟨#[]⟩ : ByteArray).size = 0 := rfl
  omega
/-- What is left of a document's text behind k numbers. -/
def leftS (n : Nat) (z : Nat → Int) (k : Nat) : ByteArray := joinTo (fun i => numS (z (k + i))) (one1 44) (n - k)
theorem left_zero {n : Nat} {z : Nat → Int} (h : docB n z = true) : leftS n z 0 = docS n z := by
  rw [docS_yes h]; unfold leftS; simp only [Nat.zero_add, Nat.sub_zero]
theorem cut_left {n : Nat} {z : Nat → Int} {k : Nat} (hk : k < n) (hs : (leftS n z k).size ≤ 4194304) : ∃ r m, ((k + 1 < n ∧ m = true ∧ r = leftS n z (k + 1)) ∨ (k + 1 = n ∧ m = false)) ∧ (m = true → r.size < (leftS n z k).size) ∧ r.size ≤ (leftS n z k).size ∧
    ∀ w, Calls Tryd.prog 34 #[.string (leftS n z k), .int .u8 44] w fun e w' => e = .returned (.tuple #[.string (numS (z k)), .string r, .bool m]) ∧ ∃ j, w' = w.drewN j := by
  have hno : NoC 44 (numS (z k)) := numS_noC _ (.inl (by decide))
  by_cases h1 : k + 1 = n
  · have e : leftS n z k = numS (z k) := by
      unfold leftS
      rw [show n - k = 1 by omega, join_one]
      rfl
    rw [e] at hs ⊢
    exact ⟨⟨#[]⟩, false, .inr ⟨h1, rfl⟩, by simp, Nat.zero_le _, fun w => cut_miss _ 44 44 w rfl hno hs⟩
  · obtain ⟨j, hj⟩ : ∃ j, n - k = j + 2 := ⟨n - k - 2, by omega⟩
    have e : leftS n z k = numS (z k) ++ one1 44 ++ leftS n z (k + 1) := by
      unfold leftS
      rw [hj, join_head, show n - (k + 1) = j + 1 by omega]
      have : (fun i => numS (z (k + (i + 1)))) = fun i => numS (z (k + 1 + i)) := by funext i; congr 2; omega
      rw [this]
      rfl
    have e2 := size_app3 (numS (z k)) (leftS n z (k + 1)) 44
    rw [e] at hs ⊢
    exact ⟨leftS n z (k + 1), true, .inl ⟨by omega, rfl, rfl⟩, fun _ => by rw [e2]; omega, by rw [e2]; omega, fun w => cut_hit _ _ 44 44 w rfl hno hs⟩

end Go.Proofs.YthjphnopcgdgdaaDoor
