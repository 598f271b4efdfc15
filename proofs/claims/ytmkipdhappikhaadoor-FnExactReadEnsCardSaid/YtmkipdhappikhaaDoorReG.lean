/- What both sides answer of an ensemble's text, as the laws want it; the law of ReadEns. -/
import Derived.Test.YtmkipdhappikhaaDoorImX
import Derived.Test.YtmkipdhappikhaaDoorEnT
import Derived.Test.YtmkipdhappikhaaDoorRdI
namespace Go.Proofs.YtmkipdhappikhaaDoor
open Go.RowKit Go.Deep

theorem Laid.congr {w : World} {L H n : Nat} {A : Option Addr} {len len' : Nat → Nat} {g g' : Nat → Nat → Nd} (h : Laid w L H A n len g) (he : ∀ i, i < n → len' i = len i ∧ ∀ j, j < len i → g' i j = g i j) : Laid w L H A n len' g' := by
  obtain ⟨gg, bl, cp, h1, h2⟩ := h
  refine ⟨gg, bl, cp, fun h0 => ?_, fun i hi => ?_⟩
  · obtain ⟨a, b, c, d, e⟩ := h1 h0
    exact ⟨a, b, c, d, fun i hi => by rw [(he i hi).1]; exact e i hi⟩
  · obtain ⟨a, b, c, d⟩ := h2 i hi
    refine ⟨a, b, ?_, d⟩
    rw [(he i hi).1]
    exact RowN.congr c (fun j hj => ((he i hi).2 j hj).symm)
theorem en_formL {s : ByteArray} {w : World} {e : Ending} {w' : World} (h : EnL s w e w') : ∃ f b n len g A c m, EnIs s f b n len g m ∧ n ≤ 12 ∧ (∀ i, i < n → len i ≤ 15) ∧ e = .returned (.tuple #[enV f b A n c, .bool m]) ∧ Laid w' w.heap.size w'.heap.size A n len g ∧ Below w.heap.size w w' := by
  rcases h with ⟨⟨f, b, n, len, g, A, c, h1, h2, rfl, h3⟩ | ⟨h1, rfl⟩, hb⟩
  · exact ⟨f, b, n, len, g, A, c, true, .inl ⟨rfl, h1, h2⟩, (ens_in h1).2.2.1, fun i hi => tree_le ((ens_in h1).2.2.2 i hi), rfl, h3, hb⟩
  · exact ⟨0, 0, 0, fun _ => 0, fun _ _ => zNd, none, 0, false, .inr ⟨rfl, rfl, rfl, rfl, h1⟩, by omega, fun i hi => absurd hi (Nat.not_lt_zero i), rfl, laid_none, hb⟩
theorem en_sameL {s : ByteArray} {f b : Int} {n : Nat} {len : Nat → Nat} {g : Nat → Nat → Nd} {m : Bool} (HA : EnIs s f b n len g m) {w : World} {e : Ending} {w' : World} (h : EnL s w e w') :
    ∃ A c, e = .returned (.tuple #[enV f b A n c, .bool m]) ∧ Laid w' w.heap.size w'.heap.size A n len g ∧ Below w.heap.size w w' := by
  rcases h with ⟨⟨f', b', n', len', g', A, c, h1, h2, rfl, h3⟩ | ⟨h1, rfl⟩, hb⟩
  · rcases HA with ⟨rfl, k1, k2⟩ | ⟨rfl, rfl, rfl, rfl, k⟩
    · obtain ⟨rfl, rfl, hn, he⟩ := ens_inj h1 k1 (h2.symm.trans k2)
      subst hn
      exact ⟨A, c, rfl, h3.congr he, hb⟩
    · exact absurd h2 (k _ _ _ _ _ h1)
  · rcases HA with ⟨rfl, k1, k2⟩ | ⟨rfl, rfl, rfl, rfl, k⟩
    · exact absurd k2 (h1 _ _ _ _ _ k1)
    · exact ⟨none, 0, rfl, laid_none, hb⟩

/-- The two answers of the law, each in its box, their trees where they lie. -/
structure LE (w0 : World) (pb gb : Nat) (f b : Int) (A1 : Option Addr) (c1 : Nat) (A2 : Option Addr) (c2 n : Nat) (len : Nat → Nat) (g : Nat → Nat → Nd) (L1 H1 L2 H2 : Nat) (g2 : Nat → Nat → Nd) (W : World) : Prop where
  hp : Blk W pb 24 #[.int .i64 f, .int .i64 b, .slice A1 n c1]
  hg : Blk W gb 24 #[.int .i64 f, .int .i64 b, .slice A2 n c2]
  l1 : Laid W L1 H1 A1 n len g
  l2 : Laid W L2 H2 A2 n len g2
  s1 : H1 ≤ W.heap.size
  s2 : H2 ≤ W.heap.size
  bel : Below w0.heap.size w0 W
theorem LE.below {w0 : World} {pb gb : Nat} {f b : Int} {A1 : Option Addr} {c1 : Nat} {A2 : Option Addr} {c2 n : Nat} {len : Nat → Nat} {g : Nat → Nat → Nd} {L1 H1 L2 H2 : Nat} {g2 : Nat → Nat → Nd} {W W' : World}
    (h : LE w0 pb gb f b A1 c1 A2 c2 n len g L1 H1 L2 H2 g2 W) (hb : Below W.heap.size W W') : LE w0 pb gb f b A1 c1 A2 c2 n len g L1 H1 L2 H2 g2 W' :=
  ⟨h.hp.below hb h.hp.lt, h.hg.below hb h.hg.lt, h.l1.below hb h.s1, h.l2.below hb h.s2, Nat.le_trans h.s1 hb.size, Nat.le_trans h.s2 hb.size, h.bel.trans (hb.mono h.bel.size)⟩
theorem LE.kept {w0 : World} {pb gb : Nat} {f b : Int} {A1 : Option Addr} {c1 : Nat} {A2 : Option Addr} {c2 n : Nat} {len : Nat → Nat} {g : Nat → Nat → Nd} {L1 H1 L2 H2 : Nat} {g2 g3 : Nat → Nat → Nd} {W W' : World}
    (h : LE w0 pb gb f b A1 c1 A2 c2 n len g L1 H1 L2 H2 g2 W) (hk : KeptR L2 H2 W W') (hl : Laid W' L2 H2 A2 n len g3) (h1 : pb < L2) (h2 : H2 ≤ gb) (h3 : H1 ≤ L2) (h4 : w0.heap.size ≤ L2) : LE w0 pb gb f b A1 c1 A2 c2 n len g L1 H1 L2 H2 g3 W' :=
  ⟨h.hp.kept hk (.inl h1), h.hg.kept hk (.inr h2), h.l1.kept hk (.inl h3) h.s1, hl, Nat.le_trans h.s1 hk.2.2.2.1, Nat.le_trans h.s2 hk.2.2.2.1, hk.below h.bel h4 h.bel.size⟩

set_option maxRecDepth 100000 in
set_option maxHeartbeats 4000000 in
theorem lawReadEns (s : ByteArray) (w : World) (hE : ErrOk w) (hM : LenOk w) (hp : Hid (Pow w w.heap.size)) :
    Calls Tryd.prog 3 #[.string s] w fun e w' => e = .returned (.bool true) ∧ Below w.heap.size w w' := by
  by_cases hbig : (1048576 : Int) < (s.size : Int)
  · go_enter Tryd.func3, Tryd.ntmps3
    go_wp2_with fail
    go_ret
    exact ⟨rfl, Below.refl _ _⟩
  have hs : s.size ≤ 4194304 := by omega
  have HE : Hid (∀ W, Below w.heap.size w W → ErrOk W) := fun W hW => hE.below hW
  have HM : Hid (∀ W, Below w.heap.size w W → LenOk W) := fun W hW => hM.below hW
  have HP : Hid (∀ W, Below w.heap.size w W → Pow W W.heap.size) := fun W hW W' hW' => hp.out W' (hW.trans (hW'.mono hW.size))
  clear hE hM hp
  go_enter Tryd.func3, Tryd.ntmps3
  go_wp2_with fail
  refine (sReadEns_any s _ hs).mono ?_
  rintro e w1 ha
  obtain ⟨f, b, n, len, g, A1, c1, m, hA, hn, hl, rfl, hL1, hb1⟩ := en_formL ha.laid
  have HA := hid hA
  have hn4 : n ≤ 4194304 := by omega
  have HL4 : Hid (∀ i, i < n → len i ≤ 4194304) := fun i hi => by have := hl i hi; omega
  have HL6 : Hid (∀ i, i < n → len i ≤ 1048576) := fun i hi => by have := hl i hi; omega
  have hcum : cumL len n ≤ 12 * 15 := Nat.le_trans (cumL_le hl n (Nat.le_refl _)) (Nat.mul_le_mul (by omega) (Nat.le_refl _))
  have hbx := (Below.refl w1.heap.size w1).alloc (Nat.le_refl _) (.cells #[.int .i64 f, .int .i64 b, .slice A1 n c1] 24)
  have hP1 := Blk.new w1 24 #[.int .i64 f, .int .i64 b, .slice A1 n c1]
  have hL1' := hL1.below hbx (Nat.le_refl _)
  have hw1 := hb1.trans (hbx.mono hb1.size)
  have hz1 : (w1.alloc (.cells #[.int .i64 f, .int .i64 b, .slice A1 n c1] 24)).heap.size = w1.heap.size + 1 := by simp
  have hs01 := hb1.size
  clear ha hA hl hL1 hbx hb1
  go_wp2_with fail
  generalize w1.alloc (.cells #[.int .i64 f, .int .i64 b, .slice A1 n c1] 24) = W1 at hP1 hL1' hw1 hz1 ⊢
  refine (iReadEns_any s _ hs (HE.out _ hw1) (HM.out _ hw1) (hid (HP.out _ hw1))).mono ?_
  rintro e w2 ha
  obtain ⟨A2, c2, rfl, hL2, hb2⟩ := en_sameL HA.out ha
  rw [hz1] at hL2
  have hs12 := hb2.size
  have hbx := (Below.refl w2.heap.size w2).alloc (Nat.le_refl _) (.cells #[.int .i64 f, .int .i64 b, .slice A2 n c2] 24)
  have D2 : LE w w1.heap.size w2.heap.size f b A1 c1 A2 c2 n len g w.heap.size w1.heap.size (w1.heap.size + 1) w2.heap.size g (w2.alloc (.cells #[.int .i64 f, .int .i64 b, .slice A2 n c2] 24)) :=
    ⟨(hP1.below hb2 hP1.lt).alloc _, Blk.new w2 _ _, (hL1'.below hb2 (by omega)).below hbx (by omega), hL2.below hbx (Nat.le_refl _), by simp; omega, by simp, (hw1.trans (hb2.mono hw1.size)).trans (hbx.mono (hw1.trans (hb2.mono hw1.size)).size)⟩
  have hs2 : w1.heap.size + 1 ≤ w2.heap.size := by omega
  clear ha hL1' hL2 hP1 hw1 hbx hb2 hz1 hs12
  have p0 := D2.hp.cell 0; have p1 := D2.hp.cell 1; have p2 := D2.hp.cell 2
  have g0 := D2.hg.cell 0; have g1 := D2.hg.cell 1; have g2 := D2.hg.cell 2
  go_wp2_with fail
  clear p0 p1 p2 g0 g1 g2
  generalize w2.alloc (.cells #[.int .i64 f, .int .i64 b, .slice A2 n c2] 24) = W2 at D2 ⊢
  generalize w2.heap.size = gb at D2 hs2 ⊢
  generalize w1.heap.size = pb at D2 hs2 hs01 ⊢
  refine (eqE_any f b A2 A1 n c2 c1 len g _ D2.l2.rdT D2.l1.rdT hn4 HL4).mono ?_
  rintro e w3 ⟨rfl, hb3⟩
  have D3 := D2.below hb3
  have q3 : (m != m) = false := by simp
  clear D2 hb3
  have g0 := D3.hg.cell 0; have g1 := D3.hg.cell 1; have g2 := D3.hg.cell 2
  go_wp2_with fail
  clear g0 g1 g2
  refine (markE_any f b (pb + 1) gb n c2 A2 len g 1 _ D3.l2 D3.s2 hn4 HL6 (by omega) (by omega) (by omega)).mono ?_
  rintro e w4 ⟨rfl, hL4, hk4⟩
  have D4 := D3.kept hk4 hL4 (by omega) (Nat.le_refl _) (by omega) (by omega)
  clear D3 hL4 hk4
  obtain ⟨q, hq⟩ : ∃ q : Int, 1 + 6 * ((cumL len n : Nat) : Int) = q := ⟨_, rfl⟩
  have hq0 : ¬ q < 0 := by omega
  have HQ := hid hq
  rw [hq]
  clear hq
  have g0 := D4.hg.cell 0; have g1 := D4.hg.cell 1; have g2 := D4.hg.cell 2
  go_wp2_with fail
  clear g0 g1 g2
  refine (heldE_any f b (pb + 1) gb n c2 A2 len 1 _ D4.l2 D4.s2 hn4 HL6 (by omega) (by omega) (by omega)).mono ?_
  rintro e w5 ⟨rfl, hb5⟩
  rw [HQ.out]
  have D5 := D4.below hb5
  clear D4 hb5
  go_wp2_with fail
  refine (iReadEns_any s _ hs (HE.out _ D5.bel) (HM.out _ D5.bel) (hid (HP.out _ D5.bel))).mono ?_
  rintro e w6 ha
  obtain ⟨A6, c6, rfl, hL6, hb6⟩ := en_sameL HA.out ha
  have hbx := (Below.refl w6.heap.size w6).alloc (Nat.le_refl _) (.cells #[.int .i64 f, .int .i64 b, .slice A6 n c6] 24)
  have D6 := (D5.below hb6).below hbx
  have hH6 := Blk.new w6 24 #[.int .i64 f, .int .i64 b, .slice A6 n c6]
  have hr6 := hL6.rdT.to hbx hbx.size
  clear ha D5 hb6 hL6 hbx
  have p0 := D6.hp.cell 0; have p1 := D6.hp.cell 1; have p2 := D6.hp.cell 2
  have g0 := hH6.cell 0; have g1 := hH6.cell 1; have g2 := hH6.cell 2
  go_wp2_with fail
  clear p0 p1 p2 g0 g1 g2
  refine (eqE_any f b A6 A1 n c6 c1 len g _ hr6 D6.l1.rdT hn4 HL4).mono ?_
  rintro e w7 ⟨rfl, hb7⟩
  have D7 := D6.below hb7
  clear D6 hb7 hH6 hr6
  have g0 := D7.hg.cell 0; have g1 := D7.hg.cell 1; have g2 := D7.hg.cell 2
  go_wp2_with fail
  clear g0 g1 g2
  refine (heldE_any f b (pb + 1) gb n c2 A2 len 1 _ D7.l2 D7.s2 hn4 HL6 (by omega) (by omega) (by omega)).mono ?_
  rintro e w8 ⟨rfl, hb8⟩
  rw [HQ.out]
  go_wp2_with fail
  go_ret
  exact ⟨rfl, D7.bel.trans (hb8.mono D7.bel.size)⟩
end Go.Proofs.YtmkipdhappikhaaDoor
