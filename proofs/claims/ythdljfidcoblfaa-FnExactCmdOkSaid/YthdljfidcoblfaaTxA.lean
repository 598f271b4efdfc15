/- Numbers in decimal, on both sides. -/
import Derived.Test.YthdljfidcoblfaaDocA
import Derived.Test.YthdljfidcoblfaaShelf
import Derived.Laws.BitsAllLaws
import Derived.Laws.IdiomStrings
import Derived.Lib.ItoaLen
import Derived.Lib.AppendIntMem
import Derived.PlainAid
namespace Go.Proofs.Ythdljfidcoblfaa
open Go.RowKit Go.Deep

def decS (x : Int) : ByteArray := ⟨(Lib.itoa x).toArray⟩
theorem ret_strT {a b : ByteArray} (h : a = b) : Ending.returned (.string a) = .returned (.string b) := by rw [h]
theorem u8vT {n m : Nat} (h : n % 256 = m) : (Value.int .u8 ((UInt8.ofNat n).toNat : Int)) = .int .u8 (m : Int) := by
  rw [← h]; rfl
/-- The world behind the library's answer: new blocks and draws alone. -/
theorem below_grow {w : World} {k : Nat} {os : Array Obj} : Below w.heap.size w (Go.Sort.grow (w.drewN k) os) := by
  refine ⟨rfl, rfl, rfl, ?_, fun i hi => ?_⟩
  · show w.heap.size ≤ (w.heap ++ os).size
    rw [Array.size_append]; omega
  · show (w.heap ++ os)[i]? = w.heap[i]?
    rw [Array.getElem?_append_left hi]

/-- The library's table lies below. -/
abbrev Pow (w : World) (B : Nat) : Prop := Lib.TabBelow Try.prog B w "internal/strconv.uint64pow10" .u64 Lib.pow10Tab

theorem dec_step {m M d : Nat} {t : ByteArray} (h : 10 ≤ m) (hd : d = 48 + m % 10) (hD : Lib.decDigits m ++ t.data.toList = Lib.decDigits M) : Lib.decDigits (m / 10) ++ ((⟨[UInt8.ofNat d].toArray⟩ : ByteArray) ++ t).data.toList = Lib.decDigits M := by
  rw [← hD, ByteArray.data_append, Array.toList_append]
  conv => rhs; rw [Lib.decDigits, dif_neg (show ¬ m < 10 by omega)]
  rw [hd, List.append_assoc]
theorem dec_last {m M d : Nat} {t : ByteArray} (h : m < 10) (hd : d = 48 + m) (hD : Lib.decDigits m ++ t.data.toList = Lib.decDigits M) : ((⟨[UInt8.ofNat d].toArray⟩ : ByteArray) ++ t) = ⟨(Lib.decDigits M).toArray⟩ := by
  rw [← hD, Lib.decDigits_one h, hd]
  apply ByteArray.ext
  rw [ByteArray.data_append]
  apply Array.ext'
  simp
theorem dec_len {k M : Nat} {t : ByteArray} (h : Lib.decDigits k ++ t.data.toList = Lib.decDigits M) (hM : (Lib.decDigits M).length ≤ 20) : t.size ≤ 20 := by
  have e : (Lib.decDigits k).length + t.size = (Lib.decDigits M).length := by rw [← h, List.length_append, Array.length_toList]; rfl
  omega
theorem dec_len' {M : Nat} {t : ByteArray} (h : t = ⟨(Lib.decDigits M).toArray⟩) (hM : (Lib.decDigits M).length ≤ 20) : t.size ≤ 20 := by
  rw [h]
  show (Lib.decDigits M).toArray.size ≤ 20
  rw [List.size_toArray]; exact hM
theorem dec_max {M : Nat} (h : M ≤ 9223372036854775808) : (Lib.decDigits M).length ≤ 20 := by
  have h1 := Lib.itoa_length_le (-(M : Int)) (by omega) (by omega)
  by_cases h0 : 1 ≤ M
  · rw [Lib.itoa_neg M h0, List.length_cons] at h1
    omega
  · obtain rfl : M = 0 := by omega
    rw [Lib.decDigits_one (by omega)]
    decide

end Go.Proofs.Ythdljfidcoblfaa
