/- What a reader of commands answers; the program's. -/
import Derived.Test.YtmkipdhappikhaaGreatDoorCmS
namespace Go.Proofs.YtmkipdhappikhaaGreatDoor
open Go.RowKit Go.Deep
set_option linter.unusedVariables false
set_option linter.unusedSimpArgs false

/-- What a reader of commands answers. -/
def CmAns (s : ByteArray) (w : World) (e : Ending) (w' : World) : Prop :=
  ((∃ (k a b t : Int) (n : Nat) (len : Nat → Nat) (z : Nat → Nat → Int) (x : ByteArray) (D : Option Addr) (c : Nat), cmdB k a b t n len z x = true ∧ s = cmdS k a b t n len z x ∧ e = .returned (.tuple #[cmV k a b t D n c x, .bool true]) ∧ LaidQ w' w.heap.size w'.heap.size D n len z) ∨
   (NoCmd s ∧ e = .returned (.tuple #[cmV 0 0 0 0 none 0 0 ⟨#[]⟩, .bool false]))) ∧ Below w.heap.size w w'

set_option maxRecDepth 100000 in
set_option maxHeartbeats 4000000 in
theorem iReadCmd_any (s : ByteArray) (w : World) (hs : s.size ≤ 4194304) (hE : ErrOk w) (hM : LenOk w) (hp : Hid (Pow w w.heap.size)) :
    Calls Tryz.prog 16 #[.string s] w (CmAns s w) := by
  have hb0 := (Below.refl w.heap.size w).alloc (Nat.le_refl _) (.cells zC 35)
  have hB0 := Blk.new w 35 zC
  have HR := hid (readCmd_any s (w.alloc (.cells zC 35)) hs (hE.below hb0) (hM.below hb0) (hid (fun W' hW' => hp.out W' (hb0.trans (hW'.mono hb0.size)))))
  have hs0 : (w.alloc (.cells zC 35)).heap.size = w.heap.size + 1 := by simp
  clear hE hM hp
  go_enter Tryz.func16, Tryz.ntmps16
  go_wp2_with fail
  generalize w.alloc (.cells zC 35) = W0 at hb0 hB0 HR hs0 ⊢
  refine HR.out.mono ?_
  rintro e w2 ⟨⟨k, a, b, t, D, n, c, len, z, x, hf, hn, hdoc, rfl, hL⟩ | ⟨hno, k, x, rfl⟩, hb2⟩
  · have hB2 := hB0.below hb2 hB0.lt
    have hw2 := hb0.trans (hb2.mono hb0.size)
    have hbx := (Below.refl w2.heap.size w2).alloc (Nat.le_refl _) (.cells (cmC k a b t D n c x) 35)
    have hQ := Blk.new w2 35 (cmC k a b t D n c x)
    have hB3 := hB2.alloc (.cells (cmC k a b t D n c x) 35)
    have hw3 := hw2.alloc hw2.size (.cells (cmC k a b t D n c x) 35)
    have hL3 := hL.below hbx (Nat.le_refl _)
    have hw0 : w.heap.size < w2.heap.size := hB2.lt
    rw [hs0] at hL3
    have hz3 : (w2.alloc (.cells (cmC k a b t D n c x) 35)).heap.size = w2.heap.size + 1 := by simp
    clear HR hB0 hb0 hb2 hB2 hw2 hL hbx
    obtain ⟨g0, g1, g2, g3, g4, g5⟩ := blk_cells6 hQ
    have HF := hid hf
    have HDL : Hid (∀ i, i < n → len i ≤ 4194304) := fun i hi => by have := (docB_true (hdoc i hi)).2.1; omega
    clear hf hdoc
    go_wp2_with fail
    clear g0 g1 g2 g3 g4 g5
    generalize w2.alloc (.cells (cmC k a b t D n c x) 35) = W3 at hQ hB3 hw3 hL3 hz3 ⊢
    generalize w2.heap.size = q at hQ hL3 hw0 hz3 ⊢
    refine (iCmdOk_any k a b t D n c len z x _ hL3.rdq (by omega) HDL).mono ?_
    rintro e w4 ⟨rfl, hb4⟩
    have hB4 := hB3.below hb4 hB3.lt
    have hQ4 := hQ.below hb4 hQ.lt
    have hw4 := hw3.trans (hb4.mono hw3.size)
    have hL4 := hL3.below hb4 (by omega)
    have hs4 := hb4.size
    clear hB3 hQ hw3 hL3 hb4
    have d0 := hB4.cell 0; have d1 := hB4.cell 1; have d2 := hB4.cell 2; have d3 := hB4.cell 3; have d4 := hB4.cell 4; have d5 := hB4.cell 5
    have f0 := hB4.frozen 0; have f1 := hB4.frozen 1; have f2 := hB4.frozen 2; have f3 := hB4.frozen 3; have f4 := hB4.frozen 4; have f5 := hB4.frozen 5
    cases hok : cmdB k a b t n len z x
    · have HO := hid hok
      clear hok hL4 hQ4
      go_wp2_with fail
      refine bodyPost_ret (results_en rfl _ _ w.heap.size 35 #[.int .i64 0, .int .i64 0, .int .i64 0, .int .i64 0, .slice none 0 0, .string ⟨#[]⟩] (0, 0) _ rfl (set6_blk hB4 _ _ _ _ _ _) Tryz.underlying35 rfl size_cmd) rfl ?_
      refine ⟨.inr ⟨?_, rfl⟩, set6_below hw4 _ _ _ _ _ _⟩
      rcases HF.out with ⟨hF, hs'⟩ | ⟨_, hno⟩
      · intro k' a' b' u' n' len' z' x' h e
        have := cmd_good hF h (hs'.symm.trans e)
        rw [HO.out] at this
        cases this
      · exact hno
    · have HO := hid hok
      clear hok
      obtain ⟨g0, g1, g2, g3, g4, g5⟩ := blk_cells6 hQ4
      go_wp2_with fail
      refine bodyPost_ret (results_en rfl _ _ w.heap.size 35 #[.int .i64 k, .int .i64 a, .int .i64 b, .int .i64 t, .slice D n c, .string x] (0, 0) _ rfl (set6_blk hB4 _ _ _ _ _ _) Tryz.underlying35 rfl size_cmd) rfl ?_
      refine ⟨.inl ⟨k, a, b, t, n, len, z, x, D, c, HO.out, ?_, rfl, ?_⟩, set6_below hw4 _ _ _ _ _ _⟩
      · rcases HF.out with ⟨_, hs'⟩ | ⟨h0, _⟩
        · rw [cmdS_yes HO.out]
          exact hs'
        · have := (cmd_in HO.out).1
          omega
      · exact (hL4.keep fun y hy _ => set6_far (by omega)).less (by omega) (by rw [set6_size]; omega)
  · have hB2 := hB0.below hb2 hB0.lt
    have hw2 := hb0.trans (hb2.mono hb0.size)
    have hQ := Blk.new w2 35 (cmC k 0 0 0 none 0 0 x)
    have hB3 := hB2.alloc (.cells (cmC k 0 0 0 none 0 0 x) 35)
    have hw3 := hw2.alloc hw2.size (.cells (cmC k 0 0 0 none 0 0 x) 35)
    have HN := hid hno
    clear HR hB0 hb0 hb2 hB2 hw2 hno
    have d0 := hB3.cell 0; have d1 := hB3.cell 1; have d2 := hB3.cell 2; have d3 := hB3.cell 3; have d4 := hB3.cell 4; have d5 := hB3.cell 5
    have f0 := hB3.frozen 0; have f1 := hB3.frozen 1; have f2 := hB3.frozen 2; have f3 := hB3.frozen 3; have f4 := hB3.frozen 4; have f5 := hB3.frozen 5
    go_wp2_with fail
    refine bodyPost_ret (results_en rfl _ _ w.heap.size 35 #[.int .i64 0, .int .i64 0, .int .i64 0, .int .i64 0, .slice none 0 0, .string ⟨#[]⟩] (0, 0) _ rfl (set6_blk hB3 _ _ _ _ _ _) Tryz.underlying35 rfl size_cmd) rfl ?_
    exact ⟨.inr ⟨HN.out, rfl⟩, set6_below hw3 _ _ _ _ _ _⟩
end Go.Proofs.YtmkipdhappikhaaGreatDoor
