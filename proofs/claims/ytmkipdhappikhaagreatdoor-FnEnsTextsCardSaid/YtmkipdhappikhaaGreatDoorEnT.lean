/- Two ensembles with the same content are told the same. -/
import Derived.Test.YtmkipdhappikhaaGreatDoorReX
import Derived.BigQuiet
import Derived.Deep.RegionLaw
namespace Go.Proofs.YtmkipdhappikhaaGreatDoor
open Go.RowKit Go.Deep

set_option maxHeartbeats 1000000 in
theorem sameT_any (A A' : Option Addr) (n c c' : Nat) (g : Nat → Nd) (w : World) (h : RdN w w.heap.size A n g) (h' : RdN w w.heap.size A' n g) (hn : n ≤ 4194304) :
    Calls Tryz.prog 38 #[.slice A n c, .slice A' n c'] w fun e w' => e = .returned (.bool true) ∧ ∃ m, w' = w.drewN m := by
  go_enter Tryz.func38, Tryz.ntmps38
  go_wp2_with fail
  go_loopw [5] (fun i wr => ∃ k m : Nat, k ≤ n ∧ i = .int .i64 k ∧ wr = w.drewN m) (fun i _ => n - (intOf i).toNat)
  case atStart => exact ⟨0, 0, Nat.zero_le _, rfl, rfl⟩
  case round =>
    obtain ⟨k, m, hk, rfl, rfl⟩ := hrel
    by_cases hlt : k < n
    · obtain ⟨b, off, rfl, hb, c0, c1, c2, c3, c4, c5⟩ := h.at_ hlt
      obtain ⟨b', off', rfl, hb', d0, d1, d2, d3, d4, d5⟩ := h'.at_ hlt
      have he := fun wx => eqNd (g k) (g k) wx
      simp only [beq_self_eq_true, Bool.and_self] at he
      have hi : (k : Int) < (n : Int) := by omega
      have hi0 : (0 : Int) ≤ (k : Int) := by omega
      go_wp2_with fail
      go_quiet (fail)
      go_wp2_with fail
      go_roundw
      case rel => exact ⟨k + 1, _, by omega, by go_num, rfl⟩
      case measure => simp [intOf]; omega
    · go_wp2_with fail
      go_ret
      exact ⟨rfl, m, rfl⟩

theorem sameT_at (A A' : Option Addr) (n c c' : Nat) (g : Nat → Nd) (w : World) (h : RdN w w.heap.size A n g) (h' : RdN w w.heap.size A' n g) (hn : n ≤ 4194304) :
    ∀ wx : World, (∃ m, wx = w.drewN m) → Calls Tryz.prog 38 #[.slice A n c, .slice A' n c'] wx fun e w' => e = .returned (.bool true) ∧ ∃ m, w' = wx.drewN m := by
  rintro wx ⟨m, rfl⟩
  exact sameT_any A A' n c c' g (w.drewN m) h h' hn

set_option maxRecDepth 100000 in
set_option maxHeartbeats 4000000 in
theorem sameE_any (f b : Int) (A A' : Option Addr) (n c c' : Nat) (len : Nat → Nat) (g : Nat → Nat → Nd) (w : World) (h : RdT w w.heap.size A n len g) (h' : RdT w w.heap.size A' n len g) (hn : n ≤ 4194304) (hlen : Hid (∀ i, i < n → len i ≤ 4194304)) :
    Calls Tryz.prog 12 #[enV f b A n c, enV f b A' n c'] w fun e w' => e = .returned (.bool true) ∧ Below w.heap.size w w' := by
  have hb1 := ((Below.refl w.heap.size w).alloc (Nat.le_refl _) (.cells #[.int .i64 f, .int .i64 b, .slice A n c] 26)).alloc (by simp) (.cells #[.int .i64 f, .int .i64 b, .slice A' n c'] 26)
  have hE1 := (Blk.new w 26 #[.int .i64 f, .int .i64 b, .slice A n c]).alloc (.cells #[.int .i64 f, .int .i64 b, .slice A' n c'] 26)
  have hE2 := Blk.new2 w (.cells #[.int .i64 f, .int .i64 b, .slice A n c] 26) 26 #[.int .i64 f, .int .i64 b, .slice A' n c']
  obtain ⟨W, hW⟩ : ∃ W, (w.alloc (.cells #[.int .i64 f, .int .i64 b, .slice A n c] 26)).alloc (.cells #[.int .i64 f, .int .i64 b, .slice A' n c'] 26) = W := ⟨_, rfl⟩
  rw [hW] at hb1 hE1 hE2
  have h1 := h.to hb1 hb1.size
  have h2 := h'.to hb1 hb1.size
  have a0 : W.cell? ⟨w.heap.size, 0, none⟩ = some (.int .i64 f) := hE1.cell 0
  have a1 : W.cell? ⟨w.heap.size, 1, none⟩ = some (.int .i64 b) := hE1.cell 1
  have a2 : W.cell? ⟨w.heap.size, 2, none⟩ = some (.slice A n c) := hE1.cell 2
  have e0 : W.cell? ⟨w.heap.size + 1, 0, none⟩ = some (.int .i64 f) := hE2.cell 0
  have e1 : W.cell? ⟨w.heap.size + 1, 1, none⟩ = some (.int .i64 b) := hE2.cell 1
  have e2 : W.cell? ⟨w.heap.size + 1, 2, none⟩ = some (.slice A' n c') := hE2.cell 2
  have hH1 := hid h1
  have hH2 := hid h2
  have HE1 := hid hE1
  have HE2 := hid hE2
  clear h h' h1 h2 hE1 hE2
  go_enter Tryz.func12, Tryz.ntmps12
  go_wp2_with fail
  clear a0 a1 a2 e0 e1 e2
  go_loopw [5] (fun i wr => ∃ k m : Nat, k ≤ n ∧ i = .int .i64 k ∧ wr = W.drewN m) (fun i _ => n - (intOf i).toNat)
  case atStart => first | exact ⟨0, 0, Nat.zero_le _, rfl, rfl⟩ | exact ⟨0, 1, Nat.zero_le _, rfl, rfl⟩
  case round =>
    obtain ⟨k, m, hk, rfl, rfl⟩ := hrel
    have a2 : W.cell? ⟨w.heap.size, 2, none⟩ = some (.slice A n c) := HE1.out.cell 2
    have e2 : W.cell? ⟨w.heap.size + 1, 2, none⟩ = some (.slice A' n c') := HE2.out.cell 2
    by_cases hlt : k < n
    · obtain ⟨bb, off, Ai, ci, rfl, hbb, hc, hrd⟩ := hH1.out.at_ hlt
      obtain ⟨bb', off', Ai', ci', rfl, hbb', hc', hrd'⟩ := hH2.out.at_ hlt
      have hi : (k : Int) < (n : Int) := by omega
      have hi0 : (0 : Int) ≤ (k : Int) := by omega
      have hlk := hlen.out k hlt
      have HQ := hid (sameT_at Ai Ai' (len k) ci ci' (g k) W hrd hrd' hlk)
      clear hrd hrd'
      go_wp2_with fail
      have hlb : bb < W.heap.size := hbb
      go_region_held3 (fun w' => w'.cell? ⟨w.heap.size, 2, none⟩ = some (.slice (some ⟨bb, off, none⟩) n c) ∧ w'.cell? ⟨w.heap.size + 1, 2, none⟩ = some (.slice (some ⟨bb', off', none⟩) n c') ∧ w'.cell? ⟨bb, off + k, none⟩ = some (.slice Ai (len k) ci) ∧ w'.cell? ⟨bb', off' + k, none⟩ = some (.slice Ai' (len k) ci'))
        (first | exact ⟨a2, e2, hc, hc'⟩ | (simp [go_sem, *]; done))
        (first
          | (go_at_call 38; refine (HQ.out _ ⟨m + 1, rfl⟩).mono ?_; rintro e w1 ⟨rfl, m1, rfl⟩))
      go_wp2_with fail
      go_roundw
      case rel => exact ⟨k + 1, m + 1 + m1, by omega, by go_num, rfl⟩
      case measure => simp [intOf]; omega
    · go_wp2_with fail
      go_ret
      exact ⟨rfl, below_drewN hb1 m⟩

end Go.Proofs.YtmkipdhappikhaaGreatDoor
