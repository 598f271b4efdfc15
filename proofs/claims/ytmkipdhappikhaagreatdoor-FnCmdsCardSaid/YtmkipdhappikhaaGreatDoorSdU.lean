/- A text of up to M bytes, hurt. -/
import Derived.Test.YtmkipdhappikhaaGreatDoorSdT
namespace Go.Proofs.YtmkipdhappikhaaGreatDoor
open Go.RowKit Go.Deep

set_option maxRecDepth 100000 in
set_option maxHeartbeats 4000000 in
theorem hurtM_draw (M : Nat) (hM : M ≤ 50000) (R n cap : Nat) (A : Option Addr) (s : ByteArray) (w : World) (h : Rs w R A n cap) (hs : s.size ≤ M) :
    Calls Tryz.prog 30 #[.pointer (some ⟨R, 0, none⟩), .string s] w (DrawnS R n cap A (M + 2) w) := by
  have hRw := h.lt
  go_enter Tryz.func30, Tryz.ntmps30
  go_wp2_with fail
  refine (belowN_any R n cap A 6 _ h (by omega)).mono ?_
  rintro e w1 ⟨k, rfl, hk, hR1, hg1⟩
  have hk6 := hk (by omega)
  have hR1w := hR1.lt
  clear hk
  by_cases e1 : k = 1
  · subst e1
    go_wp2_with fail
    refine (belowW_any R n cap A ((s.size : Int) + 1) _ hR1 (by omega)).mono ?_
    rintro e w2 ⟨i, rfl, hi, hR2, hg2⟩
    have hi2 := hi (by omega)
    have i1 : (i : Int) ≤ (s.size : Int) := by omega
    have hgg := hid (grown_trans hg1 hg2)
    clear hg1 hg2 hi
    go_wp2_with fail
    go_ret
    exact ⟨_, rfl, by rw [ByteArray.size_extract]; omega, hR2, hgg.out⟩
  by_cases e2 : k = 2
  · subst e2
    by_cases hz : (0 : Int) < (s.size : Int)
    · go_wp2_with fail
      refine (belowW_any R n cap A (s.size : Int) _ hR1 (by omega)).mono ?_
      rintro e w2 ⟨i, rfl, hi, hR2, hg2⟩
      have hi2 := hi (by omega)
      have hgg := hid (grown_trans hg1 hg2)
      have hR2w := hR2.lt
      clear hg1 hg2 hi
      obtain ⟨p1, hp1, hp1s⟩ : ∃ p1, s.extract 0 i = p1 ∧ p1.size ≤ s.size := ⟨_, rfl, by rw [ByteArray.size_extract]; omega⟩
      obtain ⟨p2, hp2, hp2s⟩ : ∃ p2, s.extract (i + 1) s.size = p2 ∧ p2.size + p1.size ≤ s.size := ⟨_, rfl, by rw [← hp1, ByteArray.size_extract, ByteArray.size_extract]; omega⟩
      have v1 : IntKind.i64.wrap ((i : Int) + 1) = (i : Int) + 1 := IntWalk.i64_in _ (by omega)
      have v2 : ((i : Int) + 1).toNat = i + 1 := by omega
      have g1 : (0 : Int) ≤ (i : Int) + 1 := by omega
      have g2 : (i : Int) + 1 ≤ (s.size : Int) := by omega
      have g3 : (0 : Int) ≤ (i : Int) := by omega
      have g4 : (i : Int) ≤ (s.size : Int) := by omega
      have HS2 := hid hp2s
      clear hp1s hp2s
      have RA : Rs (w2.alloc (.cells #[.string ⟨#[0]⟩, .string ⟨#[55]⟩, .string ⟨#[255]⟩, .string ⟨#[32]⟩] 9)).drew R A n cap := hR2.alloc _
      have RB : Rs w2.drew R A n cap := hR2
      go_wp2_with fail
      go_region_with (go_at_call 29; (first | (refine (belowN_any R n cap A 4 _ RA (by omega)).mono ?_) | (refine (belowN_any R n cap A 4 _ RB (by omega)).mono ?_)); rintro e w3 ⟨q, rfl, hq, hR3, hg3⟩; have hq4 := hq (by omega); clear hq; obtain ⟨x, hx, hxs⟩ := hurt_pick q (by omega); have cB := ((Blk.new w3 9 #[.string ⟨#[0]⟩, .string ⟨#[55]⟩, .string ⟨#[255]⟩, .string ⟨#[32]⟩]).cell q).trans hx; (first | (have cA := ((Blk.grown (Blk.new w2 9 #[.string ⟨#[0]⟩, .string ⟨#[55]⟩, .string ⟨#[255]⟩, .string ⟨#[32]⟩]).drew hg3 (by simp; omega)).cell q).trans hx) | skip); have z1 : ¬ 9223372036854775807 < p1.size + x.size := (by have := HS2.out; omega); have z2 : ¬ 9223372036854775807 < p1.size + x.size + p2.size := (by have := HS2.out; omega); have q1 : (q : Int) < 4 := (by omega); clear hx)
      all_goals go_wp2_with fail
      all_goals go_ret
      · exact ⟨p1 ++ x ++ p2, rfl, by rw [ByteArray.size_append, ByteArray.size_append]; have := HS2.out; omega, hR3, grown_trans hgg.out (grown_trans (World.grownBy_alloc w2 _ (some R)) (grown_trans (grown_drew1T _ _) hg3))⟩
      · exact ⟨p1 ++ x ++ p2, rfl, by rw [ByteArray.size_append, ByteArray.size_append]; have := HS2.out; omega, hR3.alloc _, grown_trans hgg.out (grown_trans (grown_drew1T _ _) (grown_trans hg3 (World.grownBy_alloc w3 _ (some R))))⟩
    · go_wp2_with fail
      go_ret
      exact ⟨s, rfl, by omega, hR1, hg1⟩
  by_cases e3 : k = 3
  · subst e3
    go_wp2_with fail
    refine (belowN_any R n cap A 4 _ (hR1.alloc _) (by omega)).mono ?_
    rintro e w2 ⟨i, rfl, hi, hR2, hg2⟩
    have hi2 := hi (by omega)
    have hB := Blk.grown (Blk.new w1 _ _) hg2 (by simp; omega)
    have c0 := hB.cell 0; have c1 := hB.cell 1; have c2 := hB.cell 2; have c3 := hB.cell 3
    simp at c0 c1 c2 c3
    have hgg := hid (grown_trans hg1 (grown_trans (World.grownBy_alloc w1 _ (some R)) hg2))
    clear hB hg2 hg1 hi
    have z0 : ¬ 9223372036854775807 < s.size + 1 := by omega
    obtain rfl | rfl | rfl | rfl : i = 0 ∨ i = 1 ∨ i = 2 ∨ i = 3 := by omega
    all_goals
      go_wp2_with fail
      go_ret
      exact ⟨_, rfl, by rw [ByteArray.size_append]; show s.size + 1 ≤ M + 2; omega, hR2, hgg.out⟩
  · go_wp2_with fail
    go_ret
    exact ⟨s, rfl, by omega, hR1, hg1⟩

end Go.Proofs.YtmkipdhappikhaaGreatDoor
