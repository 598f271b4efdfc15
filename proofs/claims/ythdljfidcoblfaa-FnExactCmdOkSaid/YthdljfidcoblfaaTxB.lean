/- Strings joined, in plain words. -/
import Derived.Test.YthdljfidcoblfaaTxA
import Derived.Test.YthdljfidcoblfaaK2
import Derived.Lib.Join
namespace Go.Proofs.Ythdljfidcoblfaa
open Go.RowKit Go.Deep

def joinTo (f : Nat → ByteArray) (sep : ByteArray) : Nat → ByteArray
  | 0 => ByteArray.empty
  | k + 1 => (if 0 < k then joinTo f sep k ++ sep else joinTo f sep k) ++ f k
theorem join_snoc (l : List (List UInt8)) (x sep : List UInt8) : Lib.join (l ++ [x]) sep = (if l = [] then x else Lib.join l sep ++ sep ++ x) := by
  cases l with
  | nil => rw [List.nil_append, Lib.join_one, if_pos rfl]
  | cons y r =>
    rw [if_neg (by simp), List.cons_append, Lib.join_cons, Lib.join_cons]
    simp [Lib.joinTail, List.append_assoc]
theorem join_is (f : Nat → ByteArray) (sep : ByteArray) : ∀ n, (⟨(Lib.join (((List.range n).map f).map (·.data.toList)) sep.data.toList).toArray⟩ : ByteArray) = joinTo f sep n
  | 0 => rfl
  | n + 1 => by
    have ih := join_is f sep n
    rw [List.range_succ, List.map_append, List.map_append, List.map_cons, List.map_nil, List.map_cons, List.map_nil, join_snoc]
    show _ = (if 0 < n then joinTo f sep n ++ sep else joinTo f sep n) ++ f n
    by_cases h0 : 0 < n
    · rw [if_neg (by simp; omega), if_pos h0, ← ih]
      apply ByteArray.ext
      rw [ByteArray.data_append, ByteArray.data_append]
      apply Array.ext'
      simp
    · obtain rfl : n = 0 := by omega
      rw [if_pos (by simp), if_neg (by omega)]
      apply ByteArray.ext
      rw [ByteArray.data_append]
      apply Array.ext'
      simp [joinTo]
theorem joinTo_size {f : Nat → ByteArray} {sep : ByteArray} {M : Nat} : ∀ n, (∀ i, i < n → (f i).size ≤ M) → (joinTo f sep n).size ≤ n * (M + sep.size)
  | 0, _ => by show 0 ≤ _; omega
  | n + 1, h => by
    have ih := joinTo_size (f := f) (sep := sep) (M := M) n (fun i hi => h i (by omega))
    have h1 := h n (by omega)
    show ((if 0 < n then joinTo f sep n ++ sep else joinTo f sep n) ++ f n).size ≤ _
    rw [ByteArray.size_append, Nat.add_mul]
    split
    · rw [ByteArray.size_append]; omega
    · omega
theorem join_len {f : Nat → ByteArray} {sep : ByteArray} {n M : Nat} (h : (joinTo f sep n).size ≤ M) : (Lib.join (((List.range n).map f).map (·.data.toList)) sep.data.toList).length ≤ M := by
  rw [← join_is] at h
  have e : (Lib.join (((List.range n).map f).map (·.data.toList)) sep.data.toList).toArray.size ≤ M := h
  rwa [List.size_toArray] at e

def numS (x : Int) : ByteArray := if x = 9999999 then ⟨#[45]⟩ else decS x
def docS (n : Nat) (z : Nat → Int) : ByteArray := if docB n z = true then joinTo (fun i => numS (z i)) ⟨#[44]⟩ n else ByteArray.empty
theorem decS_size {x : Int} (h0 : -9223372036854775808 ≤ x) (h1 : x ≤ 9223372036854775807) : (decS x).size ≤ 21 := by
  show (Lib.itoa x).toArray.size ≤ 21
  rw [List.size_toArray]
  exact Lib.itoa_length_le x h0 h1
theorem may_bd {x : Int} (h : may x = true) : -1000000 ≤ x ∧ x ≤ 9999999 := by
  simp only [may, Bool.or_eq_true, Bool.and_eq_true, decide_eq_true_eq, beq_iff_eq] at h
  omega
theorem numS_size {x : Int} (h : may x = true) : (numS x).size ≤ 21 := by
  have := may_bd h
  unfold numS
  split
  · decide
  · exact decS_size (by omega) (by omega)

theorem docC_at2 (z : Nat → Int) (n : Int) {k : Nat} (h : k < 6) : (docC z n)[k]? = some (.int .i64 (z k)) := by
  obtain rfl | rfl | rfl | rfl | rfl | rfl : k = 0 ∨ k = 1 ∨ k = 2 ∨ k = 3 ∨ k = 4 ∨ k = 5 := by omega
  all_goals rfl
theorem info_strT : (Try.prog.info? 9).map (fun i => (i.zero, i.size, i.bytes)) = some (some (.string ByteArray.empty), 1, 16) := by kernel_rfl

end Go.Proofs.Ythdljfidcoblfaa
