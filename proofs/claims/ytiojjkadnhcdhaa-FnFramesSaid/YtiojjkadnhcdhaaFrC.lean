/- A frame, of the program. -/
import Derived.Test.YtiojjkadnhcdhaaFrB
import Derived.Laws.Concat
import Derived.LoopN
import Derived.Laws.Strings
namespace Go.Proofs.Ytiojjkadnhcdhaa
open Go.RowKit Go.Deep

/-- The four bytes of a number, the high one first; the low one first. -/
def be4 (n : Nat) : List Nat := [n / 16777216 % 256, n / 65536 % 256, n / 256 % 256, n % 256]
def le4 (n : Nat) : List Nat := [n % 256, n / 256 % 256, n / 65536 % 256, n / 16777216 % 256]
def bytesOf (l : List Nat) : ByteArray := ⟨(l.map UInt8.ofNat).toArray⟩
/-- What stands ahead of a frame's data. -/
def headL (s : ByteArray) : List Nat := be4 s.size ++ le4 (crcS s)
def frame (s : ByteArray) : ByteArray := if s.size ≤ 100000 then bytesOf (headL s) ++ s else ByteArray.empty

theorem headB_size (s : ByteArray) : (bytesOf (headL s)).size = 8 := rfl
theorem frame_yes {s : ByteArray} (h : s.size ≤ 100000) : frame s = bytesOf (headL s) ++ s := by unfold frame; rw [if_pos h]
theorem ret_str {a b : ByteArray} (h : a = b) : Ending.returned (.string a) = .returned (.string b) := by rw [h]

set_option maxRecDepth 100000 in
set_option maxHeartbeats 2000000 in
theorem FrameOf_no (s : ByteArray) (w : World) (hs : s.size ≤ 4194304) (hn : 100000 < s.size) :
    Calls Try.prog 11 #[.string s] w fun e w' => e = .returned (.string (frame s)) ∧ Below w.heap.size w w' := by
  have hl : (100000 : Int) < (s.size : Int) := by omega
  go_enter Try.func11, Try.ntmps11
  go_wp2_with fail
  go_ret
  exact ⟨by unfold frame; rw [if_neg (by omega)]; rfl, Below.refl _ _⟩

theorem head_blk {w1 W : World} {g : Nat} {n c : Int} (hB : Blk w1 g 39 (Array.replicate 8 (.int .u8 0)))
    (hW : W = (((((((w1.setCell ⟨g, 3, none⟩ (.int .u8 (n % 256))).setCell ⟨g, 4, none⟩ (.int .u8 (c % 256))).setCell ⟨g, 2, none⟩ (.int .u8 (n / 256 % 256))).setCell ⟨g, 5, none⟩ (.int .u8 (c / 256 % 256))).setCell ⟨g, 1, none⟩ (.int .u8 (n / 65536))).setCell ⟨g, 6, none⟩ (.int .u8 (c / 65536 % 256))).setCell ⟨g, 0, none⟩ (.int .u8 (n / 16777216))).setCell ⟨g, 7, none⟩ (.int .u8 (c / 16777216 % 256))) :
    Blk W g 39 #[.int .u8 (n / 16777216), .int .u8 (n / 65536), .int .u8 (n / 256 % 256), .int .u8 (n % 256), .int .u8 (c % 256), .int .u8 (c / 256 % 256), .int .u8 (c / 65536 % 256), .int .u8 (c / 16777216 % 256)] := by
  subst hW
  have h1 : Blk _ g 39 #[.int .u8 0, .int .u8 0, .int .u8 0, .int .u8 (n % 256), .int .u8 0, .int .u8 0, .int .u8 0, .int .u8 0] := hB.set_ 3 (.int .u8 (n % 256))
  have h2 : Blk _ g 39 #[.int .u8 0, .int .u8 0, .int .u8 0, .int .u8 (n % 256), .int .u8 (c % 256), .int .u8 0, .int .u8 0, .int .u8 0] := h1.set_ 4 (.int .u8 (c % 256))
  have h3 : Blk _ g 39 #[.int .u8 0, .int .u8 0, .int .u8 (n / 256 % 256), .int .u8 (n % 256), .int .u8 (c % 256), .int .u8 0, .int .u8 0, .int .u8 0] := h2.set_ 2 (.int .u8 (n / 256 % 256))
  have h4 : Blk _ g 39 #[.int .u8 0, .int .u8 0, .int .u8 (n / 256 % 256), .int .u8 (n % 256), .int .u8 (c % 256), .int .u8 (c / 256 % 256), .int .u8 0, .int .u8 0] := h3.set_ 5 (.int .u8 (c / 256 % 256))
  have h5 : Blk _ g 39 #[.int .u8 0, .int .u8 (n / 65536), .int .u8 (n / 256 % 256), .int .u8 (n % 256), .int .u8 (c % 256), .int .u8 (c / 256 % 256), .int .u8 0, .int .u8 0] := h4.set_ 1 (.int .u8 (n / 65536))
  have h6 : Blk _ g 39 #[.int .u8 0, .int .u8 (n / 65536), .int .u8 (n / 256 % 256), .int .u8 (n % 256), .int .u8 (c % 256), .int .u8 (c / 256 % 256), .int .u8 (c / 65536 % 256), .int .u8 0] := h5.set_ 6 (.int .u8 (c / 65536 % 256))
  have h7 : Blk _ g 39 #[.int .u8 (n / 16777216), .int .u8 (n / 65536), .int .u8 (n / 256 % 256), .int .u8 (n % 256), .int .u8 (c % 256), .int .u8 (c / 256 % 256), .int .u8 (c / 65536 % 256), .int .u8 0] := h6.set_ 0 (.int .u8 (n / 16777216))
  exact h7.set_ 7 (.int .u8 (c / 16777216 % 256))
theorem head_bel {w w1 W : World} {o : Obj} {a b c d e f g h : Value} (hb : Below (w.alloc o).heap.size (w.alloc o) w1)
    (hW : W = (((((((w1.setCell ⟨w.heap.size, 3, none⟩ a).setCell ⟨w.heap.size, 4, none⟩ b).setCell ⟨w.heap.size, 2, none⟩ c).setCell ⟨w.heap.size, 5, none⟩ d).setCell ⟨w.heap.size, 1, none⟩ e).setCell ⟨w.heap.size, 6, none⟩ f).setCell ⟨w.heap.size, 0, none⟩ g).setCell ⟨w.heap.size, 7, none⟩ h) : Below w.heap.size w W := by
  subst hW
  have h0 : Below w.heap.size w w1 := ((Below.refl _ _).alloc (Nat.le_refl _) o).trans (hb.mono (by simp))
  exact (((((((h0.setCell (Nat.le_refl _) _).setCell (Nat.le_refl _) _).setCell (Nat.le_refl _) _).setCell (Nat.le_refl _) _).setCell (Nat.le_refl _) _).setCell (Nat.le_refl _) _).setCell (Nat.le_refl _) _).setCell (Nat.le_refl _) _
theorem u8v {n m : Nat} (h : n % 256 = m) : (Value.int .u8 ((UInt8.ofNat n).toNat : Int)) = .int .u8 (m : Int) := by
  rw [← h]; rfl
theorem head_conv (s : ByteArray) (W : World) (g : Nat) (hB : Blk W g 39 #[.int .u8 ((s.size : Int) / 16777216), .int .u8 ((s.size : Int) / 65536), .int .u8 ((s.size : Int) / 256 % 256), .int .u8 ((s.size : Int) % 256), .int .u8 ((crcS s : Int) % 256), .int .u8 ((crcS s : Int) / 256 % 256), .int .u8 ((crcS s : Int) / 65536 % 256), .int .u8 ((crcS s : Int) / 16777216 % 256)]) (hn : s.size ≤ 100000) :
    (convert 22 9 (.slice (some ⟨g, 0, none⟩) 8 8)).run Try.prog W = .ok (.string (bytesOf (headL s))) W := by
  refine run_convert_bytes_back W 22 9 5 ⟨g, 0, none⟩ 8 ((headL s).map UInt8.ofNat) Try.underlying22 Try.underlying5 Try.underlying9 ?_
  have hl : ((headL s).map UInt8.ofNat).length = 8 := rfl
  intro j hj
  rw [hl] at hj
  rw [Addr.add_lit, Nat.zero_add, hB.cell]
  have hc := crcS_lt s
  match j, hj with
  | 0, _ => exact congrArg some ((u8v (n := s.size / 16777216 % 256) (m := s.size / 16777216) (by omega)).symm)
  | 1, _ => exact congrArg some ((u8v (n := s.size / 65536 % 256) (m := s.size / 65536) (by omega)).symm)
  | 2, _ => exact congrArg some ((u8v (n := s.size / 256 % 256) (m := s.size / 256 % 256) (by omega)).symm)
  | 3, _ => exact congrArg some ((u8v (n := s.size % 256) (m := s.size % 256) (by omega)).symm)
  | 4, _ => exact congrArg some ((u8v (n := crcS s % 256) (m := crcS s % 256) (by omega)).symm)
  | 5, _ => exact congrArg some ((u8v (n := crcS s / 256 % 256) (m := crcS s / 256 % 256) (by omega)).symm)
  | 6, _ => exact congrArg some ((u8v (n := crcS s / 65536 % 256) (m := crcS s / 65536 % 256) (by omega)).symm)
  | 7, _ => exact congrArg some ((u8v (n := crcS s / 16777216 % 256) (m := crcS s / 16777216 % 256) (by omega)).symm)
  | m + 8, h => exact absurd h (by omega)

set_option maxRecDepth 100000 in
set_option maxHeartbeats 2000000 in
theorem FrameOf_yes (s : ByteArray) (w : World) (hn : s.size ≤ 100000) :
    Calls Try.prog 11 #[.string s] w fun e w' => e = .returned (.string (frame s)) ∧ Below w.heap.size w w' := by
  have hl : ¬ (100000 : Int) < (s.size : Int) := by omega
  go_enter Try.func11, Try.ntmps11
  go_wp2_with fail
  refine (crcOf_any s _ (by omega)).mono ?_
  rintro e w1 ⟨rfl, hb⟩
  have hB : Blk w1 w.heap.size 39 (Array.replicate 8 (.int .u8 0)) := (Blk.new w _ _).below hb (by simp)
  have c0 := hB.cell 0; have c1 := hB.cell 1; have c2 := hB.cell 2; have c3 := hB.cell 3
  have c4 := hB.cell 4; have c5 := hB.cell 5; have c6 := hB.cell 6; have c7 := hB.cell 7
  have f0 := hB.frozen 0; have f1 := hB.frozen 1; have f2 := hB.frozen 2; have f3 := hB.frozen 3
  have f4 := hB.frozen 4; have f5 := hB.frozen 5; have f6 := hB.frozen 6; have f7 := hB.frozen 7
  go_wp2_with fail
  refine wp_loop_rounds 5 ?_
  rw [rounds_succ]; go_wp2_with fail
  rw [rounds_succ]; go_wp2_with fail
  rw [rounds_succ]; go_wp2_with fail
  rw [rounds_succ]; go_wp2_with fail
  clear c0 c1 c2 c3 c4 c5 c6 c7 f0 f1 f2 f3 f4 f5 f6 f7
  obtain ⟨W, hW⟩ : ∃ W, W = (((((((w1.setCell ⟨w.heap.size, 3, none⟩ (.int .u8 ((s.size : Int) % 256))).setCell ⟨w.heap.size, 4, none⟩ (.int .u8 ((crcS s : Int) % 256))).setCell ⟨w.heap.size, 2, none⟩ (.int .u8 ((s.size : Int) / 256 % 256))).setCell ⟨w.heap.size, 5, none⟩ (.int .u8 ((crcS s : Int) / 256 % 256))).setCell ⟨w.heap.size, 1, none⟩ (.int .u8 ((s.size : Int) / 65536))).setCell ⟨w.heap.size, 6, none⟩ (.int .u8 ((crcS s : Int) / 65536 % 256))).setCell ⟨w.heap.size, 0, none⟩ (.int .u8 ((s.size : Int) / 16777216))).setCell ⟨w.heap.size, 7, none⟩ (.int .u8 ((crcS s : Int) / 16777216 % 256)) := ⟨_, rfl⟩
  rw [← hW]
  have hBW := head_blk hB hW
  have hbW := head_bel hb hW
  clear hW
  have kc := head_conv s W w.heap.size hBW hn
  have hz : ¬ 9223372036854775807 < (bytesOf (headL s)).size + s.size := by rw [headB_size]; omega
  rw [rounds_succ]; go_wp2_with fail
  go_ret
  exact ⟨ret_str (frame_yes hn).symm, hbW⟩

theorem FrameOf_any (s : ByteArray) (w : World) (hs : s.size ≤ 4194304) :
    Calls Try.prog 11 #[.string s] w fun e w' => e = .returned (.string (frame s)) ∧ Below w.heap.size w w' := by
  by_cases h : s.size ≤ 100000
  · exact FrameOf_yes s w h
  · exact FrameOf_no s w hs (by omega)
end Go.Proofs.Ytiojjkadnhcdhaa
