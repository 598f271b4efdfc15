/- A frame, of the other side. -/
import Derived.Test.YtiojjkadnhcdhaaFrC
import Derived.Deep.RegionHeld3
import Derived.Deep.RegionWith
namespace Go.Proofs.Ytiojjkadnhcdhaa
open Go.RowKit Go.Deep

theorem odd2 {x : Nat} (h : x < 4294967296) (ho : ((x : Int) % 2 == 1) = true) : bits .xor .u32 ((x : Int) / 2) 3988292384 = ((stp x : Nat) : Int) := by
  rw [xor_poly x h]
  simp at ho
  unfold stp
  rw [if_pos (by omega)]
theorem even2 {x : Nat} (ho : ((x : Int) % 2 == 1) = false) : ((x : Int) / 2) = ((stp x : Nat) : Int) := by
  simp at ho
  unfold stp
  rw [if_neg (by omega)]
  omega

theorem sum_conv (c : Nat) (W : World) (g : Nat) (hB : Blk W g 5 #[.int .u8 ((c : Int) % 256), .int .u8 ((c : Int) / 256 % 256), .int .u8 ((c : Int) / 65536 % 256), .int .u8 ((c : Int) / 16777216 % 256)]) :
    (convert 22 9 (.slice (some ⟨g, 0, none⟩) 4 4)).run Try.prog W = .ok (.string (bytesOf (le4 c))) W := by
  refine run_convert_bytes_back W 22 9 5 ⟨g, 0, none⟩ 4 ((le4 c).map UInt8.ofNat) Try.underlying22 Try.underlying5 Try.underlying9 ?_
  have hl : ((le4 c).map UInt8.ofNat).length = 4 := rfl
  intro j hj
  rw [hl] at hj
  rw [Addr.add_lit, Nat.zero_add, hB.cell]
  match j, hj with
  | 0, _ => exact congrArg some ((u8v (n := c % 256) (m := c % 256) (by omega)).symm)
  | 1, _ => exact congrArg some ((u8v (n := c / 256 % 256) (m := c / 256 % 256) (by omega)).symm)
  | 2, _ => exact congrArg some ((u8v (n := c / 65536 % 256) (m := c / 65536 % 256) (by omega)).symm)
  | 3, _ => exact congrArg some ((u8v (n := c / 16777216 % 256) (m := c / 16777216 % 256) (by omega)).symm)
  | m + 4, h => exact absurd h (by omega)

set_option maxRecDepth 100000 in
set_option maxHeartbeats 2000000 in
theorem Sum_any (s : ByteArray) (w : World) (hs : s.size ≤ 4194304) :
    Calls Try.prog 22 #[.string s] w fun e w' => e = .returned (.string (bytesOf (le4 (crcS s)))) ∧ Below w.heap.size w w' := by
  go_enter Try.func22, Try.ntmps22
  go_wp2_with fail
  go_loop [3, 4] (fun c i => ∃ k : Nat, k ≤ s.size ∧ c = .int .u32 (crcTo s k : Nat) ∧ i = .int .i64 k)
    (fun _ i => s.size - (intOf i).toNat)
  case atStart => exact ⟨0, by omega, rfl, rfl⟩
  case round =>
    obtain ⟨k, hk, rfl, rfl⟩ := hrel
    by_cases hlt : k < s.size
    · have hbt := byS_lt s k
      have hgb : (s[k].toNat : Int) = (byS s k : Nat) := by unfold byS; rw [Array.getElem?_eq_getElem hlt]; rfl
      obtain ⟨x, hx, hx2, hX⟩ := xorW (crcTo s k) (byS s k) (crcTo_lt s k) hbt
      go_wp2_with fail
      go_loop [3, 5] (fun c i => ∃ j : Nat, j ≤ 8 ∧ c = .int .u32 (stps j x : Nat) ∧ i = .int .i64 j)
        (fun _ i => 8 - (intOf i).toNat)
      case atStart => exact ⟨0, by omega, rfl, rfl⟩
      case round =>
        obtain ⟨j, hj, rfl, rfl⟩ := hrel
        have hx := stps_lt (x := x) (by omega) j
        by_cases hl8 : j < 8
        · go_wp2_with fail
          all_goals go_round
          case' rel => exact ⟨j + 1, by omega, u32_eq (odd2 hx ‹_›), by go_num⟩
          case' measure => simp [intOf]; omega
          case' rel => exact ⟨j + 1, by omega, u32_eq (even2 ‹_›), by go_num⟩
          case' measure => simp [intOf]; omega
        · have e8 : j = 8 := by omega
          subst e8
          go_wp2_with fail
          go_round
          case rel => exact ⟨k + 1, by omega, by rw [hX.out]; rfl, by go_num⟩
          case measure => simp [intOf]; omega
    · have e : k = s.size := by omega
      subst e
      have hx := u32_xor_nat 4294967295 (crcTo s s.size) (by omega) (crcTo_lt s _)
      have hx' : bits .xor .u32 IntKind.u32.max (crcTo s s.size : Nat) = (crcS s : Nat) := hx
      obtain ⟨c, hcl, hx2, HC⟩ : ∃ c : Nat, c < 4294967296 ∧ bits .xor .u32 IntKind.u32.max (crcTo s s.size : Nat) = (c : Nat) ∧ Hid (c = crcS s) := ⟨_, crcS_lt s, hx', hid rfl⟩
      clear hx hx'
      have kc := sum_conv c (w.alloc (.cells #[.int .u8 ((c : Int) % 256), .int .u8 ((c : Int) / 256 % 256), .int .u8 ((c : Int) / 65536 % 256), .int .u8 ((c : Int) / 16777216 % 256)] 5)) w.heap.size (Blk.new w _ _)
      go_wp2_with fail
      go_ret
      exact ⟨ret_str (by rw [HC.out]), (Below.refl _ _).alloc (Nat.le_refl _) _⟩

theorem be_conv (n : Nat) (b0 b1 b2 b3 : Nat) (hb : Hid (be4 n = [b0, b1, b2, b3] ∧ b0 < 256 ∧ b1 < 256 ∧ b2 < 256 ∧ b3 < 256)) (W : World) (g : Nat) (hB : Blk W g 5 #[.int .u8 (b0 : Int), .int .u8 (b1 : Int), .int .u8 (b2 : Int), .int .u8 (b3 : Int)]) :
    (convert 22 9 (.slice (some ⟨g, 0, none⟩) 4 4)).run Try.prog W = .ok (.string (bytesOf (be4 n))) W := by
  refine run_convert_bytes_back W 22 9 5 ⟨g, 0, none⟩ 4 ((be4 n).map UInt8.ofNat) Try.underlying22 Try.underlying5 Try.underlying9 ?_
  obtain ⟨e, l0, l1, l2, l3⟩ := hb.out
  have hl : ((be4 n).map UInt8.ofNat).length = 4 := rfl
  intro j hj
  rw [hl] at hj
  rw [Addr.add_lit, Nat.zero_add, hB.cell]
  simp only [e]
  match j, hj with
  | 0, _ => exact congrArg some ((u8v (n := b0) (m := b0) (by omega)).symm)
  | 1, _ => exact congrArg some ((u8v (n := b1) (m := b1) (by omega)).symm)
  | 2, _ => exact congrArg some ((u8v (n := b2) (m := b2) (by omega)).symm)
  | 3, _ => exact congrArg some ((u8v (n := b3) (m := b3) (by omega)).symm)
  | m + 4, h => exact absurd h (by omega)
theorem be_vals (n : Nat) : ∃ b0 b1 b2 b3 : Nat, IntKind.u8.wrap ((n : Int) / 16777216) = (b0 : Int) ∧ IntKind.u8.wrap ((n : Int) / 65536) = (b1 : Int) ∧ IntKind.u8.wrap ((n : Int) / 256) = (b2 : Int) ∧ IntKind.u8.wrap (n : Int) = (b3 : Int) ∧ Hid (be4 n = [b0, b1, b2, b3] ∧ b0 < 256 ∧ b1 < 256 ∧ b2 < 256 ∧ b3 < 256) :=
  ⟨n / 16777216 % 256, n / 65536 % 256, n / 256 % 256, n % 256, by rw [IntKind.wrap_u8']; omega, by rw [IntKind.wrap_u8']; omega, by rw [IntKind.wrap_u8']; omega, by rw [IntKind.wrap_u8']; omega, hid ⟨rfl, by omega, by omega, by omega, by omega⟩⟩

theorem bytesOf_append (a b : List Nat) : bytesOf (a ++ b) = bytesOf a ++ bytesOf b := by
  apply ByteArray.ext
  rw [ByteArray.data_append]
  simp [bytesOf]
theorem frame_parts {s : ByteArray} (h : s.size ≤ 100000) : bytesOf (be4 s.size) ++ bytesOf (le4 (crcS s)) ++ s = frame s := by
  rw [frame_yes h, headL, bytesOf_append]

theorem sFrameOf_no (s : ByteArray) (w : World) (hs : s.size ≤ 4194304) (hn : 100000 < s.size) :
    Calls Try.prog 13 #[.string s] w fun e w' => e = .returned (.string (frame s)) ∧ Below w.heap.size w w' := by
  have hl : (100000 : Int) < (s.size : Int) := by omega
  go_enter Try.func13, Try.ntmps13
  go_wp2_with fail
  go_ret
  exact ⟨by unfold frame; rw [if_neg (by omega)]; rfl, Below.refl _ _⟩

set_option maxRecDepth 100000 in
set_option maxHeartbeats 4000000 in
theorem sFrameOf_yes (s : ByteArray) (w : World) (hn : s.size ≤ 100000) :
    Calls Try.prog 13 #[.string s] w fun e w' => e = .returned (.string (frame s)) ∧ Below w.heap.size w w' := by
  have hl : ¬ (100000 : Int) < (s.size : Int) := by omega
  go_enter Try.func13, Try.ntmps13
  go_wp2_with fail
  have z1 : ¬ 9223372036854775807 < (bytesOf (be4 s.size)).size + (bytesOf (le4 (crcS s))).size := by
    show ¬ 9223372036854775807 < 4 + 4
    omega
  have z2 : ¬ 9223372036854775807 < (bytesOf (be4 s.size)).size + (bytesOf (le4 (crcS s))).size + s.size := by
    show ¬ 9223372036854775807 < 4 + 4 + s.size
    omega
  obtain ⟨b0, b1, b2, b3, e0, e1, e2, e3, HB⟩ := be_vals s.size
  have k0 := be_conv s.size b0 b1 b2 b3 HB (w.alloc (.cells #[.int .u8 (b0 : Int), .int .u8 (b1 : Int), .int .u8 (b2 : Int), .int .u8 (b3 : Int)] 5)).drew w.heap.size (Blk.new w _ _)
  go_region_with (go_at_call 22; refine (Sum_any s _ (by omega)).mono ?_; rintro e w1 ⟨rfl, hb⟩; have k1 := be_conv s.size b0 b1 b2 b3 HB (w1.alloc (.cells #[.int .u8 (b0 : Int), .int .u8 (b1 : Int), .int .u8 (b2 : Int), .int .u8 (b3 : Int)] 5)) w1.heap.size (Blk.new w1 _ _); first | (have k2 := be_conv s.size b0 b1 b2 b3 HB w1 w.heap.size (Blk.below (Blk.new w _ _).drew hb (by simp))) | skip)
  all_goals go_wp2_with fail
  all_goals go_ret
  all_goals first
    | exact ⟨ret_str (frame_parts hn), (((Below.refl _ _).alloc (Nat.le_refl _) _).drew).trans (hb.mono (by simp))⟩
    | exact ⟨ret_str (frame_parts hn), ((Below.refl _ _).drew.trans hb).alloc (by have := hb.size; exact this) _⟩
    | trace_state

theorem sFrameOf_any (s : ByteArray) (w : World) (hs : s.size ≤ 4194304) :
    Calls Try.prog 13 #[.string s] w fun e w' => e = .returned (.string (frame s)) ∧ Below w.heap.size w w' := by
  by_cases h : s.size ≤ 100000
  · exact sFrameOf_yes s w h
  · exact sFrameOf_no s w hs (by omega)
end Go.Proofs.Ytiojjkadnhcdhaa
