/- The program's CRC: the table, and a string's. -/
import Derived.Test.YtiojjkadnhcdhaaFrA
import Derived.Test.YtiojjkadnhcdhaaRows
import Derived.WalkKit
import Derived.WalkSpells
import Derived.WalkSmall
import Derived.StillTactics
import Derived.Lib.Hide
import Derived.Outline
import Derived.Laws.BitsAllLaws
import Derived.Laws.IdiomStrings
import Derived.Laws.CopyOwn
import Derived.Deep.OwnRows
import Derived.Deep.QuietTactic
import Derived.BigQuiet
namespace Go.Proofs.Ytiojjkadnhcdhaa
open Go.RowKit Go.Deep

/-- The first k entries of the table. -/
def TabTo (cs : Array Value) (k : Nat) : Prop := cs.size = 16 ∧ (∀ i, i < k → cs[i]? = some (.int .u32 (stps 4 i : Nat))) ∧ cs.all (·.oneCell') = true

theorem TabTo.next {cs : Array Value} {k : Nat} (h : TabTo cs k) (hk : k < 16) : TabTo (cs.setIfInBounds k (.int .u32 (stps 4 k : Nat))) (k + 1) := by
  obtain ⟨hs, hc, h1⟩ := h
  refine ⟨by simpa using hs, fun i hi => ?_, ?_⟩
  · by_cases e : i = k
    · subst e
      rw [Array.getElem?_setIfInBounds_self_of_lt (by omega)]
    · rw [Array.getElem?_setIfInBounds_ne (by omega)]
      exact hc i (by omega)
  · rw [Array.all_eq_true] at h1 ⊢
    intro i hi
    rw [Array.getElem_setIfInBounds]
    split
    · rfl
    · exact h1 i (by simpa using hi)

theorem and_one (x : Nat) (h : x < 4294967296) : bits .and .u32 (x : Int) 1 = ((x % 2 : Nat) : Int) := by
  have := u32_and_nat x 1 h (by omega)
  rw [Nat.and_one_is_mod] at this
  exact this
theorem xor_poly (x : Nat) (h : x < 4294967296) : bits .xor .u32 ((x : Int) / 2) 3988292384 = ((x / 2 ^^^ 3988292384 : Nat) : Int) := by
  have := u32_xor_nat (x / 2) 3988292384 (by omega) (by omega)
  exact this
theorem odd_step {x : Nat} (h : x < 4294967296) (ho : (bits .and .u32 (x : Int) 1 != 0) = true) : bits .xor .u32 ((x : Int) / 2) 3988292384 = ((stp x : Nat) : Int) := by
  rw [xor_poly x h]
  rw [and_one x h] at ho
  simp at ho
  unfold stp
  rw [if_pos (by omega)]
theorem even_step {x : Nat} (h : x < 4294967296) (ho : (bits .and .u32 (x : Int) 1 != 0) = false) : ((x : Int) / 2) = ((stp x : Nat) : Int) := by
  rw [and_one x h] at ho
  simp at ho
  unfold stp
  rw [if_neg (by omega)]
  omega
theorem ret_u32 {a b : Int} (h : a = b) : Ending.returned (.int .u32 a) = .returned (.int .u32 b) := by rw [h]
theorem u32_eq {a b : Int} (h : a = b) : Value.int .u32 a = .int .u32 b := by rw [h]

theorem size_tab : (Try.prog.info? 44).map (·.size) = some 16 := by kernel_rfl

set_option maxRecDepth 100000 in
set_option maxHeartbeats 2000000 in
theorem crcTable_any (w : World) :
    Calls Try.prog 26 #[] w fun e w' => ∃ cs, e = .returned (.agg cs) ∧ TabTo cs 16 ∧ Below w.heap.size w w' := by
  go_enter Try.func26, Try.ntmps26
  go_wp2_with fail
  go_loopw [4] (fun i wr => ∃ (k : Nat) (cs : Array Value), k ≤ 16 ∧ i = .int .i64 k ∧ Blk wr (w.heap.size + 1) 44 cs ∧ TabTo cs k ∧ Blk wr w.heap.size 44 (Array.replicate 16 (.int .u32 0)) ∧ Below w.heap.size w wr)
    (fun i _ => 16 - (intOf i).toNat)
  case atStart => exact ⟨0, _, by omega, rfl, Blk.new2 w _ _ _, ⟨rfl, fun i hi => absurd hi (by omega), by simp [Value.oneCell']⟩, (Blk.new w _ _).alloc _, ((Below.refl _ _).alloc (Nat.le_refl _) _).alloc (by simp) _⟩
  case round =>
    obtain ⟨k, cs, hk, rfl, hB, hT, hR, hbl⟩ := hrel
    by_cases hlt : k < 16
    · have hl : (k : Int) < 16 := by omega
      have hl0 : (0 : Int) ≤ (k : Int) := by omega
      have hcell : wr.cell? ⟨w.heap.size + 1, k, none⟩ = some (cs[k]'(by have := hT.1; omega)) := by rw [hB.cell, Array.getElem?_eq_getElem]
      have hfr := hB.frozen k
      go_wp2_with fail
      go_loop [3, 9] (fun x i => ∃ j : Nat, j ≤ 4 ∧ i = .int .i64 j ∧ x = .int .u32 (stps j k : Nat)) (fun _ i => 4 - (intOf i).toNat)
      case atStart => exact ⟨0, by omega, rfl, rfl⟩
      case round =>
        obtain ⟨j, hj, rfl, rfl⟩ := hrel
        have hx := stps_lt (x := k) (by omega) j
        by_cases hl4 : j < 4
        · go_wp2_with fail
          all_goals go_round
          case' rel => exact ⟨j + 1, by omega, by go_num, u32_eq (odd_step hx ‹_›)⟩
          case' measure => simp [intOf]; omega
          case' rel => exact ⟨j + 1, by omega, by go_num, u32_eq (even_step hx ‹_›)⟩
          case' measure => simp [intOf]; omega
        · go_wp2_with fail
          have e4 : j = 4 := by omega
          subst e4
          go_roundw
          case rel => exact ⟨k + 1, _, by omega, by go_num, hB.set_ k _, hT.next hlt, hR.far (by simp) _, hbl.setCell (by simp) _⟩
          case measure => simp [intOf]; omega
    · have e : k = 16 := by omega
      subst e
      have hs := hT.1
      go_wp2_with (first
        | (refine wpList_load_row rfl 44 _ rfl (w.heap.size + 1) rfl 44 cs _ _ hB Try.underlying44 rfl (by rw [hT.1]; exact size_tab) ?_)
        | (refine wpList_store_row rfl 44 _ _ rfl w.heap.size cs rfl rfl 44 _ hR (by rw [hT.1]; exact size_tab) (by rw [hT.1]; rfl) hT.2.2 ?_))
      refine bodyPost_ret (results_cell_row rfl _ _ w.heap.size 44 cs (0, 0) _ rfl (setRow_heap _ _ _ _ _ _ hR) Try.underlying44 rfl (by rw [hT.1]; exact size_tab)) rfl ?_
      exact ⟨cs, rfl, hT, below_setRow hbl (Nat.le_refl _) _⟩

theorem byS_at (s : ByteArray) {k : Nat} (hk : k < s.size) (cap : Nat) : (bytesRow s cap)[k]? = some (.int .u8 (byS s k : Nat)) := by
  rw [bytesRow_at s cap k hk]
  unfold byS
  rw [Array.getElem?_eq_getElem hk]
  rfl

/-- Block g begins with the bytes of s. -/
def SByt (w : World) (g : Nat) (s : ByteArray) : Prop := ∀ k, k < s.size → w.cell? ⟨g, k, none⟩ = some (.int .u8 (byS s k : Nat))
theorem sByt_new (w : World) (s : ByteArray) (cap : Nat) (t : TypeId) (fr : Nat × Nat) (g : Nat) (hg : w.heap.size = g) : SByt (w.alloc (.cells (bytesRow s cap) t fr)).drew g s := by
  subst hg
  intro k hk
  have := World.cell?_alloc_mark w (bytesRow s cap) t fr k
  rw [byS_at s hk] at this
  exact this
theorem SByt.below {B g : Nat} {w w' : World} {s : ByteArray} (h : SByt w g s) (hb : Below B w w') (hg : g < B) : SByt w' g s :=
  fun k hk => (hb.cell (p := ⟨g, k, none⟩) hg).trans (h k hk)
theorem blk_setRow {w : World} {g : Nat} {t : TypeId} {old cs : Array Value} (h : Blk w g t old) : Blk (w.setRow g cs) g t cs := setRow_heap _ _ _ _ _ _ h

theorem nibW (x : Nat) (h : x < 4294967296) : ∃ m t y : Nat, bits .and .u32 (x : Int) 15 = (m : Int) ∧ m < 16 ∧ bits .xor .u32 ((x : Int) / 16) (t : Int) = (y : Int) ∧ y < 4294967296 ∧ Hid (t = stps 4 m ∧ y = nib x) := by
  have h1 := u32_and_nat x 15 h (by omega)
  have e : x &&& 15 = x % 16 := Nat.and_two_pow_sub_one_eq_mod x 4
  rw [e] at h1
  have hl := stps_lt (x := x % 16) (by omega) 4
  refine ⟨x % 16, stps 4 (x % 16), nib x, h1, by omega, ?_, ?_, hid ⟨rfl, rfl⟩⟩
  · exact u32_xor_nat (x / 16) _ (by omega) hl
  · exact Nat.xor_lt_two_pow (n := 32) (by omega) hl
theorem xorW (x b : Nat) (h : x < 4294967296) (hb : b < 256) : ∃ y : Nat, bits .xor .u32 (x : Int) (b : Int) = (y : Int) ∧ y < 4294967296 ∧ Hid (y = x ^^^ b) :=
  ⟨_, u32_xor_nat x b h (by omega), Nat.xor_lt_two_pow (n := 32) (by omega) (by omega), hid rfl⟩

set_option maxRecDepth 100000 in
set_option maxHeartbeats 2000000 in
theorem crcOf_any (s : ByteArray) (w : World) (hs : s.size ≤ 4194304) :
    Calls Try.prog 21 #[.string s] w fun e w' => e = .returned (.int .u32 (crcS s : Nat)) ∧ Below w.heap.size w w' := by
  have kb := fun (w : World) => run_bytes_of_string (P := Try.prog) w 9 22 5 s Try.underlying9 Try.underlying22 Try.underlying5
  go_enter Try.func21, Try.ntmps21
  go_wp2_with fail
  refine (crcTable_any _).mono ?_
  rintro e w1 ⟨cs, rfl, hT, hb⟩
  go_wp2_with (first
        | (refine wpList_store_row rfl 44 _ _ rfl w1.heap.size cs rfl rfl 44 _ (Blk.new w1 _ _) (by rw [hT.1]; exact size_tab) (by rw [hT.1]; rfl) hT.2.2 ?_))
  clear kb
  go_loopw [4, 11] (fun c i wr => ∃ k : Nat, k ≤ s.size ∧ c = .int .u32 (crcTo s k : Nat) ∧ i = .int .i64 k ∧ Blk wr w1.heap.size 44 cs ∧ SByt wr (w1.heap.size + 1) s ∧ Below w.heap.size w wr)
    (fun _ i _ => s.size - (intOf i).toNat)
  case atStart =>
    exact ⟨0, by omega, rfl, rfl, ((blk_setRow (Blk.new w1 _ _)).alloc _).drew, sByt_new _ _ _ _ _ _ (by simp), hb.trans ((((below_setRow ((Below.refl _ _).alloc (Nat.le_refl _) _) (Nat.le_refl _) _).alloc (by simp) _).drew).mono hb.size)⟩
  case round =>
    obtain ⟨k, hk, rfl, rfl, hB, hS, hbl⟩ := hrel
    by_cases hlt : k < s.size
    · have hbt := byS_lt s k
      have hc := hS k hlt
      obtain ⟨x, hx, hx2, hX⟩ := xorW (crcTo s k) (byS s k) (crcTo_lt s k) hbt
      obtain ⟨m, t, y, hm, hm2, hy, hy2, hY⟩ := nibW x hx2
      obtain ⟨m', t', y', hm', hm2', hy', hy2', hY'⟩ := nibW y hy2
      have c1 : wr.cell? ⟨w1.heap.size, m, none⟩ = some (.int .u32 (t : Nat)) := by rw [hB.cell, hT.2.1 m hm2, hY.out.1]
      have c2 : wr.cell? ⟨w1.heap.size, m', none⟩ = some (.int .u32 (t' : Nat)) := by rw [hB.cell, hT.2.1 m' hm2', hY'.out.1]
      go_wp2_with fail
      go_roundw
      case rel => exact ⟨k + 1, by omega, by rw [crcTo_nib, ← hX.out, ← hY.out.2, ← hY'.out.2], by go_num, hB, hS, hbl⟩
      case measure => simp [intOf]; omega
    · have e : k = s.size := by omega
      subst e
      go_wp2_with fail
      have hx := u32_xor_nat 4294967295 (crcTo s s.size) (by omega) (crcTo_lt s _)
      have hx' : bits .xor .u32 IntKind.u32.max (crcTo s s.size : Nat) = (crcS s : Nat) := hx
      go_ret
      exact ⟨ret_u32 hx', hbl⟩
end Go.Proofs.Ytiojjkadnhcdhaa
