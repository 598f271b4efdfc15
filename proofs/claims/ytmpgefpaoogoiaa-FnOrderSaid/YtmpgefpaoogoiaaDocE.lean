/- DocWith on both sides; the marks of the exact laws. -/
import Derived.Test.YtmpgefpaoogoiaaDocD
namespace Go.Proofs.Ytmpgefpaoogoiaa
open Go.RowKit Go.Deep

/-! ### the marks -/
set_option maxHeartbeats 400000 in
theorem mark_any (A : Option Addr) (n cap b : Nat) (z : Nat → Int) (k0 : Int) (w : World) (h : 0 < n → A = some ⟨b, 0, none⟩ ∧ Row w 2 b n z) (hn : n ≤ 4194304) (h0 : 0 ≤ k0) (h1 : k0 ≤ 100000000) :
    Calls Try.prog 28 #[.slice A n cap, .int .i64 k0] w fun e w' =>
      e = .returned (.int .i64 (k0 + n)) ∧ w.grownBy w' (some b) ∧ (0 < n → Row w' 2 b n (fun j => k0 + j)) := by
  have H := hid h
  clear h
  go_enter Try.func28, Try.ntmps28
  go_wp2_with fail
  go_loopw [1, 5] (fun k i wr => ∃ m : Nat, m ≤ n ∧ i = .int .i64 m ∧ k = .int .i64 (k0 + m) ∧ Hid (w.grownBy wr (some b)) ∧ Hid (0 < n → A = some ⟨b, 0, none⟩ ∧ Row wr 2 b n (fun j => if j < m then k0 + j else z j))) (fun _ i _ => n - (intOf i).toNat)
  case atStart => exact ⟨0, Nat.zero_le _, rfl, by go_num, World.grownBy.refl _ _, fun hp => ⟨(H.out hp).1, ((H.out hp).2).congr fun j _ => by rw [if_neg (by omega)]⟩⟩
  case round =>
    obtain ⟨m, hm, rfl, rfl, hg, hr⟩ := hrel
    by_cases hlt : m < n
    · obtain ⟨rfl, hrow⟩ := hr.out (by omega)
      have hc := hrow.cell hlt
      have hf := hrow.frozen m
      have hi1 : (m : Int) < (n : Int) := by omega
      go_wp2_with fail
      go_roundw
      case rel =>
        refine ⟨m + 1, by omega, by go_num, by go_num, ⟨hg.out.os, hg.out.tape, hg.out.output, by simpa [World.setCell] using hg.out.size, fun i hi hne => (Below.heap_setCell _ _ _ i (by rintro rfl; exact hne rfl)).trans (hg.out.block i hi hne)⟩, fun hp => ⟨by first | trivial | rfl, (hrow.set_ _).congr fun j hj => ?_⟩⟩
        show (if j = m then k0 + (m : Int) else if j < m then k0 + (j : Int) else z j) = if j < m + 1 then k0 + (j : Int) else z j
        by_cases e : j = m
        · subst e; rw [if_pos rfl, if_pos (by omega)]
        · rw [if_neg e]
          by_cases e' : j < m
          · rw [if_pos e', if_pos (by omega)]
          · rw [if_neg e', if_neg (by omega)]
      case measure => simp [intOf]; omega
    · have e : m = n := by omega
      go_wp2_with fail
      go_ret
      subst e
      exact ⟨rfl, hg.out, fun hp => ((hr.out hp).2).congr fun j hj => by rw [if_pos hj]⟩

set_option maxHeartbeats 400000 in
theorem held_any (A : Option Addr) (n cap b : Nat) (k0 : Int) (w : World) (h : 0 < n → A = some ⟨b, 0, none⟩ ∧ Row w 2 b n (fun j => k0 + j)) (hn : n ≤ 4194304) (h0 : 0 ≤ k0) (h1 : k0 ≤ 100000000) :
    Calls Try.prog 29 #[.slice A n cap, .int .i64 k0] w fun e w' =>
      e = .returned (.int .i64 (k0 + n)) ∧ w = w' := by
  have H := hid h
  clear h
  go_enter Try.func29, Try.ntmps29
  go_wp2_with fail
  go_loop [1, 5] (fun k i => ∃ m : Nat, m ≤ n ∧ i = .int .i64 m ∧ k = .int .i64 (k0 + m)) (fun _ i => n - (intOf i).toNat)
  case atStart => exact ⟨0, Nat.zero_le _, rfl, by go_num⟩
  case round =>
    obtain ⟨m, hm, rfl, rfl⟩ := hrel
    by_cases hlt : m < n
    · obtain ⟨rfl, hrow⟩ := H.out (by omega)
      have hc : w.cell? ⟨b, m, none⟩ = some (.int .i64 (k0 + m)) := hrow.cell hlt
      have hi1 : (m : Int) < (n : Int) := by omega
      go_wp2_with fail
      go_round
      case rel => exact ⟨m + 1, by omega, by go_num, by go_num⟩
      case measure => simp [intOf]; omega
    · have e : m = n := by omega
      go_wp2_with fail
      go_ret
      subst e
      exact ⟨rfl, rfl⟩

/-! ### list -/
theorem splice_nums (n : Nat) (z : Nat → Int) (cur : List Value) (hc : cur.length = n) : (splice cur 0 (numsOf n z)).toArray = (numsOf n z).toArray := by
  unfold splice
  rw [List.drop_of_length_le (by rw [numsOf_len]; omega)]
  simp
theorem row_nums {w : World} {t : TypeId} {b n : Nat} {z : Nat → Int} (h : Blk w b t (numsOf n z).toArray) : Row w t b n z :=
  ⟨_, h, by simp [numsOf_len], fun i hi => by simp [numsOf, hi]⟩

theorem heap_new2L (w : World) (o : Obj) (t : TypeId) (cs : Array Value) : ((w.alloc o).alloc (.cells cs t)).heap[w.heap.size + 1]? = some (.cells cs.toList.toArray t (0, 0)) := Blk.new2 w o t cs
theorem doc_src {W : World} {B n : Nat} {t : TypeId} {z : Nat → Int} {m : Int} (hn : n ≤ 6) (hW : Blk W B t (docC z m)) :
    ∀ j v, (numsOf n z)[j]? = some v → W.cell? (Addr.add ⟨B, 0, none⟩ j) = some v := by
  intro j v hv
  obtain ⟨hj, rfl⟩ := numsOf_at hv
  rw [Addr.add_lit, Nat.zero_add, hW.cell, docC_at _ _ _ (by omega)]
theorem made_len (v : Value) (n : Nat) : (madeCells #[v] n).toList.length = n := by simp [madeCells]

end Go.Proofs.Ytmpgefpaoogoiaa
