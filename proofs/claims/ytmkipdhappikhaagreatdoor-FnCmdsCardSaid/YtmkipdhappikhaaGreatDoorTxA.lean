/- Numbers in decimal, on both sides. -/
import Derived.Test.YtmkipdhappikhaaGreatDoorDocA
import Derived.Test.YtmkipdhappikhaaGreatDoorShelf
import Derived.Laws.BitsAllLaws
import Derived.Laws.IdiomStrings
import Derived.Lib.ItoaLen
import Derived.Lib.AppendIntMem
import Derived.PlainAid
namespace Go.Proofs.YtmkipdhappikhaaGreatDoor
open Go.RowKit Go.Deep

def decS (x : Int) : ByteArray := ⟨(Lib.itoa x).toArray⟩
theorem ret_strT {a b : ByteArray} (h : a = b) : Ending.returned (.string a) = .returned (.string b) := by rw [h]
theorem u8vT {n m : Nat} (h : n % 256 = m) : (Value.int .u8 ((UInt8.ofNat n).toNat : Int)) = .int .u8 (m : Int) := by
  rw [← h]; rfl
theorem one_conv (d : Nat) (hd : d < 256) (W : World) (g : Nat) (hB : Blk W g 5 #[.int .u8 (d : Int)]) :
    (convert 22 9 (.slice (some ⟨g, 0, none⟩) 1 1)).run Tryz.prog W = .ok (.string ⟨[UInt8.ofNat d].toArray⟩) W := by
  refine run_convert_bytes_back W 22 9 5 ⟨g, 0, none⟩ 1 [UInt8.ofNat d] Tryz.underlying22 Tryz.underlying5 Tryz.underlying9 ?_
  intro j hj
  obtain rfl : j = 0 := by simp at hj; omega
  rw [Addr.add_lit, Nat.zero_add, hB.cell]
  exact congrArg some ((u8vT (n := d) (m := d) (by omega)).symm)

/-- The world behind the library's answer: new blocks and draws alone. -/
theorem below_grow {w : World} {k : Nat} {os : Array Obj} : Below w.heap.size w (Go.Sort.grow (w.drewN k) os) := by
  refine ⟨rfl, rfl, rfl, ?_, fun i hi => ?_⟩
  · show w.heap.size ≤ (w.heap ++ os).size
    rw [Array.size_append]; omega
  · show (w.heap ++ os)[i]? = w.heap[i]?
    rw [Array.getElem?_append_left hi]

/-- The library's table lies below. -/
abbrev Pow (w : World) (B : Nat) : Prop := Lib.TabBelow Tryz.prog B w "internal/strconv.uint64pow10" .u64 Lib.pow10Tab

theorem decimal_any (x : Int) (w : World) (h0 : -9223372036854775808 ≤ x) (h1 : x ≤ 9223372036854775807) (hp : Hid (Lib.TabIs Tryz.prog w "internal/strconv.uint64pow10" .u64 Lib.pow10Tab)) :
    Calls Tryz.prog 24 #[.int .i64 x] w fun e w' => e = .returned (.string (decS x)) ∧ Below w.heap.size w w' := by
  go_enter Tryz.func24, Tryz.ntmps24
  go_wp2_with fail
  refine (strconv_FormatInt_10 x h0 h1 _ hp.out).mono ?_
  rintro e w1 ⟨rfl, k, os, rfl⟩
  go_wp2_with fail
  go_ret
  exact ⟨rfl, below_grow⟩

theorem dec_step {m M d : Nat} {t : ByteArray} (h : 10 ≤ m) (hd : d = 48 + m % 10) (hD : Lib.decDigits m ++ t.data.toList = Lib.decDigits M) : Lib.decDigits (m / 10) ++ ((⟨[UInt8.ofNat d].toArray⟩ : ByteArray) ++ t).data.toList = Lib.decDigits M := by
  rw [← hD, ByteArray.data_append, Array.toList_append]
  conv => rhs; rw [Lib.decDigits, dif_neg (show ¬ m < 10 by omega)]
  rw [hd, List.append_assoc]
theorem dec_last {m M d : Nat} {t : ByteArray} (h : m < 10) (hd : d = 48 + m) (hD : Lib.decDigits m ++ t.data.toList = Lib.decDigits M) : ((⟨[UInt8.ofNat d].toArray⟩ : ByteArray) ++ t) = ⟨(Lib.decDigits M).toArray⟩ := by
  rw [← hD, Lib.decDigits_one h, hd]
  apply ByteArray.ext
  rw [ByteArray.data_append]
  apply Array.ext'
  simp
theorem dec_len {k M : Nat} {t : ByteArray} (h : Lib.decDigits k ++ t.data.toList = Lib.decDigits M) (hM : (Lib.decDigits M).length ≤ 20) : t.size ≤ 20 := by
  have e : (Lib.decDigits k).length + t.size = (Lib.decDigits M).length := by rw [← h, List.length_append, Array.length_toList]; rfl
  omega
theorem dec_len' {M : Nat} {t : ByteArray} (h : t = ⟨(Lib.decDigits M).toArray⟩) (hM : (Lib.decDigits M).length ≤ 20) : t.size ≤ 20 := by
  rw [h]
  show (Lib.decDigits M).toArray.size ≤ 20
  rw [List.size_toArray]; exact hM
theorem dec_max {M : Nat} (h : M ≤ 9223372036854775808) : (Lib.decDigits M).length ≤ 20 := by
  have h1 := Lib.itoa_length_le (-(M : Int)) (by omega) (by omega)
  by_cases h0 : 1 ≤ M
  · rw [Lib.itoa_neg M h0, List.length_cons] at h1
    omega
  · obtain rfl : M = 0 := by omega
    rw [Lib.decDigits_one (by omega)]
    decide

set_option maxRecDepth 100000 in
set_option maxHeartbeats 2000000 in
theorem l1Dec_any (x : Int) (w : World) (h0 : -9223372036854775808 ≤ x) (h1 : x ≤ 9223372036854775807) :
    Calls Tryz.prog 77 #[.int .i64 x] w fun e w' => e = .returned (.string (decS x)) ∧ Below w.heap.size w w' := by
  by_cases hn : x < 0
  · obtain ⟨M, z, HM, hz, hz0, hz1, HML, HX⟩ : ∃ (M : Nat) (z : Int), Hid (z = M) ∧ IntKind.u64.wrap (-IntKind.u64.wrap x) = z ∧ 0 ≤ z ∧ z ≤ 9223372036854775808 ∧ Hid ((Lib.decDigits M).length ≤ 20) ∧ Hid (x = -(M : Int) ∧ 1 ≤ M) :=
      ⟨x.natAbs, -x, hid (by omega), by rw [IntKind.wrap_u64, IntKind.wrap_u64]; omega, by omega, by omega, hid (dec_max (by omega)), hid ⟨by omega, by omega⟩⟩
    go_enter Tryz.func77, Tryz.ntmps77
    go_wp2_with fail
    go_loopw [3, 4] (fun a s wr => ∃ (m : Nat) (y : Int) (t : ByteArray), a = .int .u64 y ∧ 0 ≤ y ∧ y ≤ 9223372036854775808 ∧ Hid (y = m) ∧ s = .string t ∧ t.size ≤ 20 ∧ Hid (Lib.decDigits m ++ t.data.toList = Lib.decDigits M) ∧ Below w.heap.size w wr) (fun a _ _ => (intOf a).toNat)
    case atStart => exact ⟨M, _, _, rfl, by omega, by omega, HM, rfl, by show 0 ≤ 20; omega, by show _ ++ [] = _; rw [List.append_nil], Below.refl _ _⟩
    case round =>
      obtain ⟨m, y, t, rfl, hy0, hy1, HY, rfl, hts, HD, hbl⟩ := hrel
      by_cases hlt : 10 ≤ y
      · obtain ⟨d, hd, hdl, HDD⟩ : ∃ d : Nat, (48 + y % 10) = (d : Int) ∧ d < 256 ∧ Hid (d = 48 + m % 10) := ⟨48 + m % 10, by have := HY.out; omega, by omega, hid rfl⟩
        have kc := one_conv d hdl (wr.alloc (.cells #[.int .u8 (d : Int)] 5)) wr.heap.size (Blk.new wr _ _)
        obtain ⟨t2, ht2, hs2, HT2⟩ : ∃ t2 : ByteArray, (⟨[UInt8.ofNat d].toArray⟩ : ByteArray) ++ t = t2 ∧ t2.size ≤ 20 ∧ Hid (Lib.decDigits (m / 10) ++ t2.data.toList = Lib.decDigits M) := by
          refine ⟨_, rfl, ?_, ?_⟩
          · exact dec_len (dec_step (by have := HY.out; omega) HDD.out HD.out) HML.out
          · exact hid (dec_step (by have := HY.out; omega) HDD.out HD.out)
        have z1 : ¬ 9223372036854775807 < (⟨[UInt8.ofNat d].toArray⟩ : ByteArray).size + t.size := by
          show ¬ 9223372036854775807 < 1 + t.size
          omega
        go_wp2_with fail
        go_roundw
        case rel => exact ⟨m / 10, y / 10, t2, rfl, by omega, by omega, hid (by have := HY.out; omega), rfl, hs2, HT2, hbl.alloc hbl.size _⟩
        case measure => simp [intOf]; omega
      · obtain ⟨d, hd, hdl, HDD⟩ : ∃ d : Nat, (48 + y) = (d : Int) ∧ d < 256 ∧ Hid (d = 48 + m) := ⟨48 + m, by have := HY.out; omega, by have := HY.out; omega, hid rfl⟩
        have kc := one_conv d hdl (wr.alloc (.cells #[.int .u8 (d : Int)] 5)) wr.heap.size (Blk.new wr _ _)
        obtain ⟨t2, ht2, hs2, HT2⟩ : ∃ t2 : ByteArray, (⟨[UInt8.ofNat d].toArray⟩ : ByteArray) ++ t = t2 ∧ t2.size ≤ 20 ∧ Hid (t2 = ⟨(Lib.decDigits M).toArray⟩) := by
          refine ⟨_, rfl, ?_, ?_⟩
          · exact dec_len' (dec_last (by have := HY.out; omega) HDD.out HD.out) HML.out
          · exact hid (dec_last (by have := HY.out; omega) HDD.out HD.out)
        have z1 : ¬ 9223372036854775807 < (⟨[UInt8.ofNat d].toArray⟩ : ByteArray).size + t.size := by
          show ¬ 9223372036854775807 < 1 + t.size
          omega
        have z2 : ¬ 9223372036854775807 < 1 + t2.size := by omega
        go_wp2_with fail
        go_ret
        exact ⟨ret_strT (by rw [HT2.out, decS, HX.out.1, Lib.itoa_neg M HX.out.2]; apply ByteArray.ext; rw [ByteArray.data_append]; apply Array.ext'; simp), hbl.alloc hbl.size _⟩
  · obtain ⟨M, HM, HML⟩ : ∃ (M : Nat), Hid (x = M) ∧ Hid ((Lib.decDigits M).length ≤ 20) := ⟨x.toNat, hid (by omega), hid (dec_max (by omega))⟩
    go_enter Tryz.func77, Tryz.ntmps77
    go_wp2_with fail
    go_loopw [3, 4] (fun a s wr => ∃ (m : Nat) (y : Int) (t : ByteArray), a = .int .u64 y ∧ 0 ≤ y ∧ y ≤ 9223372036854775808 ∧ Hid (y = m) ∧ s = .string t ∧ t.size ≤ 20 ∧ Hid (Lib.decDigits m ++ t.data.toList = Lib.decDigits M) ∧ Below w.heap.size w wr) (fun a _ _ => (intOf a).toNat)
    case atStart => exact ⟨M, _, _, rfl, by omega, by omega, HM, rfl, by show 0 ≤ 20; omega, by show _ ++ [] = _; rw [List.append_nil], Below.refl _ _⟩
    case round =>
      obtain ⟨m, y, t, rfl, hy0, hy1, HY, rfl, hts, HD, hbl⟩ := hrel
      by_cases hlt : 10 ≤ y
      · obtain ⟨d, hd, hdl, HDD⟩ : ∃ d : Nat, (48 + y % 10) = (d : Int) ∧ d < 256 ∧ Hid (d = 48 + m % 10) := ⟨48 + m % 10, by have := HY.out; omega, by omega, hid rfl⟩
        have kc := one_conv d hdl (wr.alloc (.cells #[.int .u8 (d : Int)] 5)) wr.heap.size (Blk.new wr _ _)
        obtain ⟨t2, ht2, hs2, HT2⟩ : ∃ t2 : ByteArray, (⟨[UInt8.ofNat d].toArray⟩ : ByteArray) ++ t = t2 ∧ t2.size ≤ 20 ∧ Hid (Lib.decDigits (m / 10) ++ t2.data.toList = Lib.decDigits M) := by
          refine ⟨_, rfl, ?_, ?_⟩
          · exact dec_len (dec_step (by have := HY.out; omega) HDD.out HD.out) HML.out
          · exact hid (dec_step (by have := HY.out; omega) HDD.out HD.out)
        have z1 : ¬ 9223372036854775807 < (⟨[UInt8.ofNat d].toArray⟩ : ByteArray).size + t.size := by
          show ¬ 9223372036854775807 < 1 + t.size
          omega
        go_wp2_with fail
        go_roundw
        case rel => exact ⟨m / 10, y / 10, t2, rfl, by omega, by omega, hid (by have := HY.out; omega), rfl, hs2, HT2, hbl.alloc hbl.size _⟩
        case measure => simp [intOf]; omega
      · obtain ⟨d, hd, hdl, HDD⟩ : ∃ d : Nat, (48 + y) = (d : Int) ∧ d < 256 ∧ Hid (d = 48 + m) := ⟨48 + m, by have := HY.out; omega, by have := HY.out; omega, hid rfl⟩
        have kc := one_conv d hdl (wr.alloc (.cells #[.int .u8 (d : Int)] 5)) wr.heap.size (Blk.new wr _ _)
        obtain ⟨t2, ht2, hs2, HT2⟩ : ∃ t2 : ByteArray, (⟨[UInt8.ofNat d].toArray⟩ : ByteArray) ++ t = t2 ∧ t2.size ≤ 20 ∧ Hid (t2 = ⟨(Lib.decDigits M).toArray⟩) := by
          refine ⟨_, rfl, ?_, ?_⟩
          · exact dec_len' (dec_last (by have := HY.out; omega) HDD.out HD.out) HML.out
          · exact hid (dec_last (by have := HY.out; omega) HDD.out HD.out)
        have z1 : ¬ 9223372036854775807 < (⟨[UInt8.ofNat d].toArray⟩ : ByteArray).size + t.size := by
          show ¬ 9223372036854775807 < 1 + t.size
          omega
        go_wp2_with fail
        go_ret
        exact ⟨ret_strT (by rw [HT2.out, decS, HM.out, Lib.itoa_nonneg]), hbl.alloc hbl.size _⟩
end Go.Proofs.YtmkipdhappikhaaGreatDoor
