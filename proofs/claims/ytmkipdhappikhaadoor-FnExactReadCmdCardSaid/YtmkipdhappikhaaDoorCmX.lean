/- What both sides answer of a command's text, as the laws want it; the law of ReadCmd. -/
import Derived.Test.YtmkipdhappikhaaDoorCmW
namespace Go.Proofs.YtmkipdhappikhaaDoor
open Go.RowKit Go.Deep
set_option linter.unusedVariables false
set_option linter.unusedSimpArgs false

def CmIs (s : ByteArray) (k a b t : Int) (n : Nat) (len : Nat → Nat) (z : Nat → Nat → Int) (x : ByteArray) (m : Bool) : Prop :=
  (m = true ∧ cmdB k a b t n len z x = true ∧ s = cmdS k a b t n len z x) ∨ (m = false ∧ (k = 0 ∧ a = 0 ∧ b = 0 ∧ t = 0 ∧ n = 0 ∧ x = ⟨#[]⟩) ∧ NoCmd s)
theorem cm_formL {s : ByteArray} {w : World} {e : Ending} {w' : World} (h : CmAns s w e w') : ∃ k a b t n len z x D c m, CmIs s k a b t n len z x m ∧ n ≤ 20 ∧ (∀ i, i < n → 0 < len i ∧ len i ≤ 6) ∧ e = .returned (.tuple #[cmV k a b t D n c x, .bool m]) ∧ LaidQ w' w.heap.size w'.heap.size D n len z ∧ Below w.heap.size w w' := by
  rcases h with ⟨⟨k, a, b, t, n, len, z, x, D, c, h1, h2, rfl, h3⟩ | ⟨h1, rfl⟩, hb⟩
  · obtain ⟨_, _, ⟨h4, h5⟩, _, _⟩ := cmd_in h1
    have := f_low k
    exact ⟨k, a, b, t, n, len, z, x, D, c, true, .inl ⟨rfl, h1, h2⟩, by omega, fun i hi => ⟨(docB_true (h5 i hi)).1, (docB_true (h5 i hi)).2.1⟩, rfl, h3, hb⟩
  · exact ⟨0, 0, 0, 0, 0, fun _ => 0, fun _ _ => 0, ⟨#[]⟩, none, 0, false, .inr ⟨rfl, ⟨rfl, rfl, rfl, rfl, rfl, rfl⟩, h1⟩, by omega, fun i hi => absurd hi (Nat.not_lt_zero i), rfl, laidQ_none, hb⟩
theorem cm_sameL {s : ByteArray} {k a b t : Int} {n : Nat} {len : Nat → Nat} {z : Nat → Nat → Int} {x : ByteArray} {m : Bool} (HA : CmIs s k a b t n len z x m) {w : World} {e : Ending} {w' : World} (h : CmAns s w e w') :
    ∃ D c, e = .returned (.tuple #[cmV k a b t D n c x, .bool m]) ∧ LaidQ w' w.heap.size w'.heap.size D n len z ∧ Below w.heap.size w w' := by
  rcases h with ⟨⟨k', a', b', t', n', len', z', x', D, c, h1, h2, rfl, h3⟩ | ⟨h1, rfl⟩, hb⟩
  · rcases HA with ⟨rfl, k1, k2⟩ | ⟨rfl, _, hno⟩
    · have e2 : joinL (wordsC k' a' b' t' n' len' z' x') = joinL (wordsC k a b t n len z x) := by rw [← cmdS_yes h1, ← cmdS_yes k1, ← h2, ← k2]
      obtain ⟨rfl, rfl, rfl, rfl, hn, rfl, he⟩ := cmd_uniq (form_of h1) (form_of k1) e2
      subst hn
      exact ⟨D, c, rfl, h3.congr he, hb⟩
    · exact absurd h2 (hno _ _ _ _ _ _ _ _ h1)
  · rcases HA with ⟨rfl, k1, k2⟩ | ⟨rfl, ⟨rfl, rfl, rfl, rfl, rfl, rfl⟩, hno⟩
    · exact absurd k2 (h1 _ _ _ _ _ _ _ _ k1)
    · exact ⟨none, 0, rfl, laidQ_none, hb⟩

/-- The two answers of the law, each in its box, their documents where they lie. -/
structure LC (w0 : World) (pb gb : Nat) (k a b t : Int) (x : ByteArray) (A1 : Option Addr) (c1 : Nat) (A2 : Option Addr) (c2 n : Nat) (len : Nat → Nat) (g : Nat → Nat → Int) (L1 H1 L2 H2 : Nat) (g2 : Nat → Nat → Int) (W : World) : Prop where
  hp : Blk W pb 35 (cmC k a b t A1 n c1 x)
  hg : Blk W gb 35 (cmC k a b t A2 n c2 x)
  l1 : LaidQ W L1 H1 A1 n len g
  l2 : LaidQ W L2 H2 A2 n len g2
  s1 : H1 ≤ W.heap.size
  s2 : H2 ≤ W.heap.size
  bel : Below w0.heap.size w0 W
section
variable {w0 : World} {pb gb : Nat} {k a b t : Int} {x : ByteArray} {A1 : Option Addr} {c1 : Nat} {A2 : Option Addr} {c2 n : Nat} {len : Nat → Nat} {g : Nat → Nat → Int} {L1 H1 L2 H2 : Nat} {g2 g3 : Nat → Nat → Int} {W W' : World}
theorem LC.below (h : LC w0 pb gb k a b t x A1 c1 A2 c2 n len g L1 H1 L2 H2 g2 W) (hb : Below W.heap.size W W') : LC w0 pb gb k a b t x A1 c1 A2 c2 n len g L1 H1 L2 H2 g2 W' :=
  ⟨h.hp.below hb h.hp.lt, h.hg.below hb h.hg.lt, h.l1.below hb h.s1, h.l2.below hb h.s2, Nat.le_trans h.s1 hb.size, Nat.le_trans h.s2 hb.size, h.bel.trans (hb.mono h.bel.size)⟩
theorem LC.kept (h : LC w0 pb gb k a b t x A1 c1 A2 c2 n len g L1 H1 L2 H2 g2 W) (hk : KeptR L2 H2 W W') (hl : LaidQ W' L2 H2 A2 n len g3) (h1 : pb < L2) (h2 : H2 ≤ gb) (h3 : H1 ≤ L2) (h4 : w0.heap.size ≤ L2) : LC w0 pb gb k a b t x A1 c1 A2 c2 n len g L1 H1 L2 H2 g3 W' :=
  ⟨h.hp.kept hk (.inl h1), h.hg.kept hk (.inr h2), h.l1.kept hk (.inl h3) h.s1, hl, Nat.le_trans h.s1 hk.2.2.2.1, Nat.le_trans h.s2 hk.2.2.2.1, hk.below h.bel h4 h.bel.size⟩
end

set_option maxRecDepth 100000 in
set_option maxHeartbeats 4000000 in
theorem lawReadCmd (s : ByteArray) (w : World) (hE : ErrOk w) (hM : LenOk w) (hp : Hid (Pow w w.heap.size)) :
    Calls Tryd.prog 5 #[.string s] w fun e w' => e = .returned (.bool true) ∧ Below w.heap.size w w' := by
  by_cases hbig : (1048576 : Int) < (s.size : Int)
  · go_enter Tryd.func5, Tryd.ntmps5
    go_wp2_with fail
    go_ret
    exact ⟨rfl, Below.refl _ _⟩
  have hs : s.size ≤ 4194304 := by omega
  have HE : Hid (∀ W, Below w.heap.size w W → ErrOk W) := fun W hW => hE.below hW
  have HM : Hid (∀ W, Below w.heap.size w W → LenOk W) := fun W hW => hM.below hW
  have HP : Hid (∀ W, Below w.heap.size w W → Pow W W.heap.size) := fun W hW W' hW' => hp.out W' (hW.trans (hW'.mono hW.size))
  clear hE hM hp
  go_enter Tryd.func5, Tryd.ntmps5
  go_wp2_with fail
  refine (sReadCmd_any s _ hs).mono ?_
  rintro e w1 ha
  obtain ⟨k, a, b, t, n, len, g, x, A1, c1, m, hA, hn, hl, rfl, hL1, hb1⟩ := cm_formL ha
  have HA := hid hA
  have hn4 : n ≤ 4194304 := by omega
  have HL4 : Hid (∀ i, i < n → len i ≤ 4194304) := fun i hi => by have := hl i hi; omega
  have HL6 : Hid (∀ i, i < n → len i ≤ 1048576) := fun i hi => by have := hl i hi; omega
  have HPS : Hid (∀ i, i < n → 0 < len i) := fun i hi => (hl i hi).1
  have hcum : cumL len n ≤ 20 * 6 := Nat.le_trans (cumL_le (fun i hi => (hl i hi).2) n (Nat.le_refl _)) (Nat.mul_le_mul (by omega) (Nat.le_refl _))
  have hbx := (Below.refl w1.heap.size w1).alloc (Nat.le_refl _) (.cells (cmC k a b t A1 n c1 x) 35)
  have hP1 := Blk.new w1 35 (cmC k a b t A1 n c1 x)
  have hL1' := hL1.below hbx (Nat.le_refl _)
  have hw1 := hb1.trans (hbx.mono hb1.size)
  have hz1 : (w1.alloc (.cells (cmC k a b t A1 n c1 x) 35)).heap.size = w1.heap.size + 1 := by simp
  have hs01 := hb1.size
  clear ha hA hl hL1 hbx hb1
  go_wp2_with fail
  generalize w1.alloc (.cells (cmC k a b t A1 n c1 x) 35) = W1 at hP1 hL1' hw1 hz1 ⊢
  refine (iReadCmd_any s _ hs (HE.out _ hw1) (HM.out _ hw1) (hid (HP.out _ hw1))).mono ?_
  rintro e w2 ha
  obtain ⟨A2, c2, rfl, hL2, hb2⟩ := cm_sameL HA.out ha
  rw [hz1] at hL2
  have hs12 := hb2.size
  have hbx := (Below.refl w2.heap.size w2).alloc (Nat.le_refl _) (.cells (cmC k a b t A2 n c2 x) 35)
  have D2 : LC w w1.heap.size w2.heap.size k a b t x A1 c1 A2 c2 n len g w.heap.size w1.heap.size (w1.heap.size + 1) w2.heap.size g (w2.alloc (.cells (cmC k a b t A2 n c2 x) 35)) :=
    ⟨(hP1.below hb2 hP1.lt).alloc _, Blk.new w2 _ _, (hL1'.below hb2 (by omega)).below hbx (by omega), hL2.below hbx (Nat.le_refl _), by simp; omega, by simp, (hw1.trans (hb2.mono hw1.size)).trans (hbx.mono (hw1.trans (hb2.mono hw1.size)).size)⟩
  have hs2 : w1.heap.size + 1 ≤ w2.heap.size := by omega
  clear ha hL1' hL2 hP1 hw1 hbx hb2 hz1 hs12
  obtain ⟨p0, p1, p2, p3, p4, p5⟩ := blk_cells6 D2.hp
  obtain ⟨g0, g1, g2, g3, g4, g5⟩ := blk_cells6 D2.hg
  go_wp2_with fail
  clear p0 p1 p2 p3 p4 p5 g0 g1 g2 g3 g4 g5
  generalize w2.alloc (.cells (cmC k a b t A2 n c2 x) 35) = W2 at D2 ⊢
  generalize w2.heap.size = gb at D2 hs2 ⊢
  generalize w1.heap.size = pb at D2 hs2 hs01 ⊢
  refine (eqC_any k a b t A2 A1 n c2 c1 len g x _ D2.l2.rdq D2.l1.rdq hn4 HL4).mono ?_
  rintro e w3 ⟨rfl, hb3⟩
  have D3 := D2.below hb3
  have q3 : (m != m) = false := by simp
  clear D2 hb3
  obtain ⟨g0, g1, g2, g3, g4, g5⟩ := blk_cells6 D3.hg
  go_wp2_with fail
  clear g0 g1 g2 g3 g4 g5
  refine (markC_any k a b t x (pb + 1) gb n c2 A2 len g 1 _ D3.l2 HPS D3.s2 hn4 HL6 (by omega) (by omega) (by omega)).mono ?_
  rintro e w4 ⟨rfl, hL4, hk4⟩
  have D4 := D3.kept hk4 hL4 (by omega) (Nat.le_refl _) (by omega) (by omega)
  clear D3 hL4 hk4
  obtain ⟨q, hq⟩ : ∃ q : Int, 1 + ((cumL len n : Nat) : Int) = q := ⟨_, rfl⟩
  have hq0 : ¬ q < 0 := by omega
  have HQ := hid hq
  rw [hq]
  clear hq
  obtain ⟨g0, g1, g2, g3, g4, g5⟩ := blk_cells6 D4.hg
  go_wp2_with fail
  clear g0 g1 g2 g3 g4 g5
  refine (heldC_any k a b t x (pb + 1) gb n c2 A2 len 1 _ D4.l2 D4.s2 hn4 HL6 (by omega) (by omega) (by omega)).mono ?_
  rintro e w5 ⟨rfl, hb5⟩
  rw [HQ.out]
  have D5 := D4.below hb5
  clear D4 hb5
  go_wp2_with fail
  refine (iReadCmd_any s _ hs (HE.out _ D5.bel) (HM.out _ D5.bel) (hid (HP.out _ D5.bel))).mono ?_
  rintro e w6 ha
  obtain ⟨A6, c6, rfl, hL6, hb6⟩ := cm_sameL HA.out ha
  have hbx := (Below.refl w6.heap.size w6).alloc (Nat.le_refl _) (.cells (cmC k a b t A6 n c6 x) 35)
  have D6 := (D5.below hb6).below hbx
  have hH6 := Blk.new w6 35 (cmC k a b t A6 n c6 x)
  have hr6 := hL6.rdq.to hbx
  clear ha D5 hb6 hL6 hbx
  obtain ⟨p0, p1, p2, p3, p4, p5⟩ := blk_cells6 D6.hp
  obtain ⟨g0, g1, g2, g3, g4, g5⟩ := blk_cells6 hH6
  go_wp2_with fail
  clear p0 p1 p2 p3 p4 p5 g0 g1 g2 g3 g4 g5
  refine (eqC_any k a b t A6 A1 n c6 c1 len g x _ hr6 D6.l1.rdq hn4 HL4).mono ?_
  rintro e w7 ⟨rfl, hb7⟩
  have D7 := D6.below hb7
  clear D6 hb7 hH6 hr6
  obtain ⟨g0, g1, g2, g3, g4, g5⟩ := blk_cells6 D7.hg
  go_wp2_with fail
  clear g0 g1 g2 g3 g4 g5
  refine (heldC_any k a b t x (pb + 1) gb n c2 A2 len 1 _ D7.l2 D7.s2 hn4 HL6 (by omega) (by omega) (by omega)).mono ?_
  rintro e w8 ⟨rfl, hb8⟩
  rw [HQ.out]
  go_wp2_with fail
  go_ret
  exact ⟨rfl, D7.bel.trans (hb8.mono D7.bel.size)⟩
end Go.Proofs.YtmkipdhappikhaaDoor
