/- Frames in plain words: what stands at the head of bytes; the frames one after another. -/
import Derived.Test.YtiojjkadnhcdhaaFrC
namespace Go.Proofs.Ytiojjkadnhcdhaa
open Go.RowKit Go.Deep

/-- The number of the first k bytes, the high one first. -/
def lenTo (r : ByteArray) : Nat → Nat
  | 0 => 0
  | k + 1 => lenTo r k * 256 + byS r k
theorem lenTo_lt (r : ByteArray) : ∀ k, lenTo r k < 256 ^ k
  | 0 => by show 0 < 1; omega
  | k + 1 => by
    have h := lenTo_lt r k
    have hb := byS_lt r k
    show lenTo r k * 256 + byS r k < 256 ^ (k + 1)
    rw [Nat.pow_succ]; omega
theorem lenTo_lt3 (r : ByteArray) {k : Nat} (hk : k ≤ 3) : lenTo r k < 16777216 := by
  have h := lenTo_lt r k
  obtain rfl | rfl | rfl | rfl : k = 0 ∨ k = 1 ∨ k = 2 ∨ k = 3 := by omega
  all_goals omega
/-- The bytes from 4 on are those of c, the low one first. -/
def crcB (r : ByteArray) (c : Nat) : Nat → Bool
  | 0 => true
  | k + 1 => crcB r c k && byS r (4 + k) == c / 256 ^ k % 256
theorem crcB_false {r : ByteArray} {c k : Nat} (h : crcB r c k = false) : ∀ {n}, k ≤ n → crcB r c n = false
  | 0, hn => by obtain rfl : k = 0 := by omega
                exact h
  | n + 1, hn => by
    by_cases e : k = n + 1
    · subst e; exact h
    · show (crcB r c n && _) = false
      rw [crcB_false h (n := n) (by omega)]; rfl
def dataOf (r : ByteArray) : ByteArray := r.extract 8 (8 + lenTo r 4)
def headB (r : ByteArray) : Bool := decide (8 ≤ r.size) && (decide (lenTo r 4 ≤ 100000) && (decide (8 + lenTo r 4 ≤ r.size) && crcB r (crcS (dataOf r)) 4))
def restS (s : ByteArray) (p : Nat) : ByteArray := s.extract p s.size
theorem restS_size (s : ByteArray) (p : Nat) : (restS s p).size = s.size - p := by simp [restS]
theorem restS_zero (s : ByteArray) : restS s 0 = s := by simp [restS]
theorem restS_rest (s : ByteArray) (p q : Nat) : (restS s p).extract q (restS s p).size = restS s (p + q) := by
  rw [restS_size]
  unfold restS
  rw [ByteArray.extract_extract]
  congr 1
  omega
theorem dataOf_size {r : ByteArray} (h : 8 + lenTo r 4 ≤ r.size) : (dataOf r).size = lenTo r 4 := by
  simp [dataOf]; omega
/-- Frames, and the place behind them, after k steps. -/
def tkN (s : ByteArray) : Nat → List ByteArray × Nat
  | 0 => ([], 0)
  | k + 1 => if headB (restS s (tkN s k).2) = true then ((tkN s k).1 ++ [dataOf (restS s (tkN s k).2)], (tkN s k).2 + 8 + lenTo (restS s (tkN s k).2) 4) else tkN s k
def tkEnd (s : ByteArray) (k : Nat) : Prop := headB (restS s (tkN s k).2) = false
theorem tkEnd.stays {s : ByteArray} {k : Nat} (h : tkEnd s k) : ∀ j, tkN s (k + j) = tkN s k
  | 0 => rfl
  | j + 1 => by
    show (if headB (restS s (tkN s (k + j)).2) = true then _ else tkN s (k + j)) = _
    rw [h.stays j]
    rw [if_neg (by rw [h]; decide)]
theorem tkEnd.same {s : ByteArray} {k j : Nat} (h : tkEnd s k) (h' : tkEnd s j) : tkN s k = tkN s j := by
  rcases Nat.le_total k j with hl | hl
  · have := h.stays (j - k)
    rw [Nat.add_sub_of_le hl] at this
    exact this.symm
  · have := h'.stays (k - j)
    rw [Nat.add_sub_of_le hl] at this
    exact this
theorem tkN_next {s : ByteArray} {k : Nat} {L : List ByteArray} {p : Nat} (h : tkN s k = (L, p)) (hb : headB (restS s p) = true) : tkN s (k + 1) = (L ++ [dataOf (restS s p)], p + 8 + lenTo (restS s p) 4) := by
  show (if _ then _ else _) = _
  rw [h]
  rw [if_pos hb]
theorem tkN_end {s : ByteArray} {k : Nat} {L : List ByteArray} {p : Nat} (h : tkN s k = (L, p)) (hb : headB (restS s p) = false) : tkEnd s k := by
  unfold tkEnd
  rw [h]; exact hb
theorem tk_len8 (s : ByteArray) : ∀ k, (tkN s k).2 ≤ s.size ∧ 8 * (tkN s k).1.length ≤ (tkN s k).2
  | 0 => ⟨Nat.zero_le _, Nat.zero_le _⟩
  | k + 1 => by
    obtain ⟨h1, h2⟩ := tk_len8 s k
    by_cases hb : headB (restS s (tkN s k).2) = true
    · rw [tkN_next (L := (tkN s k).1) (p := (tkN s k).2) rfl hb]
      have h3 : 8 + lenTo (restS s (tkN s k).2) 4 ≤ (restS s (tkN s k).2).size := by
        simp only [headB, Bool.and_eq_true, decide_eq_true_eq] at hb
        exact hb.2.2.1
      rw [restS_size] at h3
      simp only [List.length_append, List.length_cons, List.length_nil]
      omega
    · have e : tkN s (k + 1) = tkN s k := by
        show (if headB (restS s (tkN s k).2) = true then _ else tkN s k) = _
        rw [if_neg hb]
      rw [e]; exact ⟨h1, h2⟩
theorem tk_len {s : ByteArray} {k : Nat} {L : List ByteArray} {p : Nat} (h : tkN s k = (L, p)) : L.length ≤ s.size := by
  have := tk_len8 s k
  rw [h] at this
  dsimp only at this
  omega
theorem headB_short {r : ByteArray} (h : ¬ 8 ≤ r.size) : headB r = false := by simp [headB, h]
theorem headB_long {r : ByteArray} (h : 100000 < lenTo r 4) : headB r = false := by simp [headB, show ¬ lenTo r 4 ≤ 100000 by omega]
theorem headB_past {r : ByteArray} (h : r.size < 8 + lenTo r 4) : headB r = false := by simp [headB, show ¬ 8 + lenTo r 4 ≤ r.size by omega]
theorem headB_torn {r : ByteArray} {k : Nat} (hk : k ≤ 4) (h : crcB r (crcS (dataOf r)) k = false) : headB r = false := by simp [headB, crcB_false h hk]
theorem headB_yes {r : ByteArray} (h1 : 8 ≤ r.size) (h2 : lenTo r 4 ≤ 100000) (h3 : 8 + lenTo r 4 ≤ r.size) (h4 : crcB r (crcS (dataOf r)) 4 = true) : headB r = true := by simp [headB, h1, h2, h3, h4]
theorem byS_rest (s : ByteArray) (p i : Nat) : byS (restS s p) i = byS s (p + i) := by
  unfold byS restS
  rw [ByteArray.data_extract, Array.getElem?_extract]
  split
  · rfl
  · rename_i h
    have h1 : s.data.size = s.size := rfl
    rw [Array.getElem?_eq_none (by simp at h; omega)]
theorem byS_ext (r : ByteArray) (a b i : Nat) (h : a + i < b) : byS (r.extract a b) i = byS r (a + i) := by
  unfold byS
  rw [ByteArray.data_extract, Array.getElem?_extract]
  split
  · rfl
  · rename_i h2
    have h1 : r.data.size = r.size := rfl
    rw [Array.getElem?_eq_none (by simp at h2; omega)]
end Go.Proofs.Ytiojjkadnhcdhaa
