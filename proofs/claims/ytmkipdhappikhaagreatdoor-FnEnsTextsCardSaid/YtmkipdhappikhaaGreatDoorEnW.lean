/- An ensemble is recovered from its text; what is read, written again, is that text: the law's walk. -/
import Derived.Test.YtmkipdhappikhaaGreatDoorEnD
import Derived.Test.YtmkipdhappikhaaGreatDoorReG
namespace Go.Proofs.YtmkipdhappikhaaGreatDoor
open Go.RowKit Go.Deep

theorem ens_some {f b : Int} {n : Nat} {len : Nat → Nat} {g : Nat → Nat → Nd} (h : ensB f b n len g = true) : ensS f b n len g ≠ ⟨#[]⟩ := by
  intro e
  have h1 := congrArg List.length (words_ens h)
  rw [e] at h1
  have h2 : (allW 32 ⟨#[]⟩).length = 1 := rfl
  rw [h2] at h1
  simp at h1
theorem en_of {f b : Int} {n : Nat} {len : Nat → Nat} {g : Nat → Nat → Nd} {w : World} {e : Ending} {w' : World} (ha : EnL (ensS f b n len g) w e w') :
    (ensB f b n len g = true → ∃ A c, e = .returned (.tuple #[enV f b A n c, .bool true]) ∧ RdT w' w'.heap.size A n len g ∧ Below w.heap.size w w') ∧ (ensB f b n len g = false → ∃ A c, e = .returned (.tuple #[enV 0 0 A 0 c, .bool false]) ∧ Below w.heap.size w w') := by
  constructor
  · intro h
    obtain ⟨A, c, h1, h2, h3⟩ := en_sameL (.inl ⟨rfl, h, rfl⟩) ha
    exact ⟨A, c, h1, h2.rdT, h3⟩
  · intro h
    obtain ⟨A, c, h1, _, h2⟩ := en_sameL (f := 0) (b := 0) (n := 0) (len := fun _ => 0) (g := fun _ _ => zNd) (m := false) (.inr ⟨rfl, rfl, rfl, rfl, fun f' b' n' len' g' hy e => by
      have hu : ensS f b n len g = ⟨#[]⟩ := by unfold ensS; rw [h]; rfl
      exact ens_some hy (by rw [← e, hu])⟩) ha
    exact ⟨A, c, h1, h2⟩
/-- The three ensembles of the law, each in its box. -/
structure E3 (w0 : World) (eb xb yb : Nat) (f b : Int) (A : Option Addr) (n c : Nat) (len : Nat → Nat) (g : Nat → Nat → Nd) (f' b' : Int) (X : Option Addr) (k cx : Nat) (Y : Option Addr) (cy : Nat) (len' : Nat → Nat) (g' : Nat → Nat → Nd) (W : World) : Prop where
  he : Blk W eb 26 #[.int .i64 f, .int .i64 b, .slice A n c]
  hx : Blk W xb 26 #[.int .i64 f', .int .i64 b', .slice X k cx]
  hy : Blk W yb 26 #[.int .i64 f', .int .i64 b', .slice Y k cy]
  re : RdT W W.heap.size A n len g
  rx : RdT W W.heap.size X k len' g'
  ry : RdT W W.heap.size Y k len' g'
  bel : Below w0.heap.size w0 W
theorem E3.below {w0 : World} {eb xb yb : Nat} {f b : Int} {A : Option Addr} {n c : Nat} {len : Nat → Nat} {g : Nat → Nat → Nd} {f' b' : Int} {X : Option Addr} {k cx : Nat} {Y : Option Addr} {cy : Nat} {len' : Nat → Nat} {g' : Nat → Nat → Nd} {W W' : World}
    (h : E3 w0 eb xb yb f b A n c len g f' b' X k cx Y cy len' g' W) (hb : Below W.heap.size W W') : E3 w0 eb xb yb f b A n c len g f' b' X k cx Y cy len' g' W' :=
  ⟨h.he.below hb h.he.lt, h.hx.below hb h.hx.lt, h.hy.below hb h.hy.lt, h.re.to hb hb.size, h.rx.to hb hb.size, h.ry.to hb hb.size, h.bel.trans (hb.mono h.bel.size)⟩

set_option maxRecDepth 100000 in
set_option maxHeartbeats 4000000 in
theorem lawEnsTexts (A : Option Addr) (n cap : Nat) (w : World) (h : Bs w w.heap.size A n) (hE : ErrOk w) (hM : LenOk w) (hp : Hid (Pow w w.heap.size)) :
    Calls Tryz.prog 3 #[.slice A n cap] w fun e w' => e = .returned (.bool true) ∧ Below w.heap.size w w' := by
  by_cases hbig : (1048576 : Int) < (n : Int)
  · go_enter Tryz.func3, Tryz.ntmps3
    go_wp2_with fail
    refine (big_yes A n cap _ hbig).mono ?_
    rintro e w1 ⟨rfl, rfl⟩
    go_wp2_with fail
    go_ret
    exact ⟨rfl, Below.refl _ _⟩
  have HE : Hid (∀ W, Below w.heap.size w W → ErrOk W) := fun W hW => hE.below hW
  have HM : Hid (∀ W, Below w.heap.size w W → LenOk W) := fun W hW => hM.below hW
  have HP : Hid (∀ W, Below w.heap.size w W → Pow W W.heap.size) := fun W hW W' hW' => hp.out W' (hW.trans (hW'.mono hW.size))
  clear hE hM hp
  go_enter Tryz.func3, Tryz.ntmps3
  go_wp2_with fail
  refine (big_no A n cap _ (by omega)).mono ?_
  rintro e w1 ⟨rfl, rfl⟩
  go_wp2_with fail
  refine (drawEnsText A n cap _ h (by omega)).mono ?_
  rintro e w1 ⟨f, b, m, T, c, len, g, hm, hl, rfl, hr1', hb1⟩
  have hr1 : RdT w1 w1.heap.size T m len g := hr1' w1 fun _ _ _ => rfl
  have HL : Hid (∀ i, i < m → len i ≤ 4194304) := fun i hi => by have := hl i hi; omega
  have hm4 : m ≤ 4194304 := by omega
  have hbx := (Below.refl w1.heap.size w1).alloc (Nat.le_refl _) (.cells #[.int .i64 f, .int .i64 b, .slice T m c] 26)
  have hE2 := Blk.new w1 26 #[.int .i64 f, .int .i64 b, .slice T m c]
  have hr2 := hr1.to hbx hbx.size
  have hw2 := hb1.trans (hbx.mono hb1.size)
  clear hl hbx hr1 hb1 hr1'
  have c0 := hE2.cell 0; have c1 := hE2.cell 1; have c2 := hE2.cell 2
  go_wp2_with fail
  generalize hW2 : w1.alloc (.cells #[.int .i64 f, .int .i64 b, .slice T m c] 26) = W2 at hE2 hr2 hw2 c0 c1 c2 ⊢
  generalize w1.heap.size = eb at hE2 c0 c1 c2 ⊢
  clear hW2
  refine (iEnsText_any f b T m c len g _ hr2 hm4 HL (hid (HP.out _ hw2))).mono ?_
  rintro e w3 ⟨rfl, hb3⟩
  have hw3 := hw2.trans (hb3.mono hw2.size)
  have hr3 := hr2.to hb3 hb3.size
  have hE3 := hE2.below hb3 hE2.lt
  have hne : (ensS f b m len g).size ≤ 4194304 := by have := @ensS_any f b m len g; omega
  clear hw2 hr2 hE2 hb3 c0 c1 c2
  go_wp2_with fail
  refine (drawReadEns A n cap _ (Bs.more (Bs.keep h fun _ hp => hw3.cell hp) hw3.size) (by omega)).mono ?_
  rintro e w4 ⟨u, rfl, hu, hb4⟩
  have hw4 := hw3.trans (hb4.mono hw3.size)
  have hr4 := hr3.to hb4 hb4.size
  have hE4 := hE3.below hb4 hE3.lt
  clear hw3 hr3 hE3 hb4
  go_wp2_with fail
  refine (iReadEns_any u _ (by omega) (HE.out _ hw4) (HM.out _ hw4) (hid (HP.out _ hw4))).mono ?_
  rintro e w5 ha
  obtain ⟨f', b', k, len', g', X, cx, is, hA, hk, hl, rfl, hL5, hb5⟩ := en_formL ha
  have HA := hid hA
  have hrx5 := hL5.rdT
  have hw5 := hw4.trans (hb5.mono hw4.size)
  have hr5 := hr4.to hb5 hb5.size
  have hE5 := hE4.below hb5 hE4.lt
  have HL' : Hid (∀ i, i < k → len' i ≤ 4194304) := fun i hi => by have := hl i hi; omega
  have hk4 : k ≤ 4194304 := by omega
  clear ha hA hw4 hr4 hE4 hL5 hb5 hl
  have hbx := (Below.refl w5.heap.size w5).alloc (Nat.le_refl _) (.cells #[.int .i64 f', .int .i64 b', .slice X k cx] 26)
  have hX6 := Blk.new w5 26 #[.int .i64 f', .int .i64 b', .slice X k cx]
  have hrx6 := hrx5.to hbx hbx.size
  have hr6 := hr5.to hbx hbx.size
  have hE6 := hE5.below hbx hE5.lt
  have hw6 := hw5.trans (hbx.mono hw5.size)
  clear hbx hrx5 hr5 hE5 hw5
  go_wp2_with fail
  generalize w5.alloc (.cells #[.int .i64 f', .int .i64 b', .slice X k cx] 26) = W6 at hX6 hrx6 hr6 hE6 hw6 ⊢
  generalize w5.heap.size = xb at hX6 ⊢
  refine (sReadEns_any u _ (by omega)).mono ?_
  rintro e w7 ha
  obtain ⟨Y, cy, rfl, hL7, hb7⟩ := en_sameL HA.out ha.laid
  have hry7 := hL7.rdT
  have hX7 := hX6.below hb7 hX6.lt
  have hrx7 := hrx6.to hb7 hb7.size
  have hr7 := hr6.to hb7 hb7.size
  have hE7 := hE6.below hb7 hE6.lt
  have hw7 := hw6.trans (hb7.mono hw6.size)
  clear ha hX6 hrx6 hr6 hE6 hw6 hb7 hL7
  have hbx := (Below.refl w7.heap.size w7).alloc (Nat.le_refl _) (.cells #[.int .i64 f', .int .i64 b', .slice Y k cy] 26)
  have D8 : E3 w eb xb w7.heap.size f b T m c len g f' b' X k cx Y cy len' g' (w7.alloc (.cells #[.int .i64 f', .int .i64 b', .slice Y k cy] 26)) :=
    ⟨hE7.below hbx hE7.lt, hX7.below hbx hX7.lt, Blk.new w7 _ _, hr7.to hbx hbx.size, hrx7.to hbx hbx.size, hry7.to hbx hbx.size, hw7.trans (hbx.mono hw7.size)⟩
  clear hbx hE7 hX7 hr7 hrx7 hry7 hw7
  have c0 := D8.he.cell 0; have c1 := D8.he.cell 1; have c2 := D8.he.cell 2
  simp at c0 c1 c2
  go_wp2_with fail
  clear c0 c1 c2
  generalize w7.alloc (.cells #[.int .i64 f', .int .i64 b', .slice Y k cy] 26) = W8 at D8 ⊢
  generalize w7.heap.size = yb at D8 ⊢
  refine (sEnsText_any f b T m c len g _ D8.re hm4 HL).mono ?_
  rintro e w9 ⟨rfl, hb9⟩
  have D9 := D8.below hb9
  clear D8 hb9
  have q1 : ((ensS f b m len g).toList != (ensS f b m len g).toList) = false := by simp
  have q3 : (is != is) = false := by simp
  have x0 := D9.hx.cell 0; have x1 := D9.hx.cell 1; have x2 := D9.hx.cell 2
  have y0 := D9.hy.cell 0; have y1 := D9.hy.cell 1; have y2 := D9.hy.cell 2
  go_wp2_with fail
  clear x0 x1 x2 y0 y1 y2
  refine (sameE_any f' b' X Y k cx cy len' g' _ D9.rx D9.ry hk4 HL').mono ?_
  rintro e wA ⟨rfl, hbA⟩
  have DA := D9.below hbA
  clear D9 hbA
  cases is
  · clear HA
    go_wp2_with fail
    refine (iReadEns_any (ensS f b m len g) _ hne (HE.out _ DA.bel) (HM.out _ DA.bel) (hid (HP.out _ DA.bel))).mono ?_
    rintro e wC ha
    cases hq : ensB f b m len g
    · obtain ⟨Z, cz, rfl, hbC⟩ := (en_of ha).2 hq
      have DC := DA.below hbC
      have hu : ensS f b m len g = ⟨#[]⟩ := by unfold ensS; rw [hq]; rfl
      rw [hu]
      clear ha hbC hq hu DA hne q1
      go_wp2_with fail
      go_ret
      exact ⟨rfl, DC.bel.alloc DC.bel.size _⟩
    · obtain ⟨Z, cz, rfl, hrz, hbC⟩ := (en_of ha).1 hq
      have DC := DA.below hbC
      have hl := ba_listT (ens_some hq)
      rw [ByteArray.toList_eq (⟨#[]⟩ : ByteArray)] at hl
      clear ha hbC hq DA hne q1
      have hbx := (Below.refl wC.heap.size wC).alloc (Nat.le_refl _) (.cells #[.int .i64 f, .int .i64 b, .slice Z m cz] 26)
      have hZ := Blk.new wC 26 #[.int .i64 f, .int .i64 b, .slice Z m cz]
      have DD := DC.below hbx
      have hrz2 := hrz.to hbx hbx.size
      clear DC hrz hbx
      have z0 := hZ.cell 0; have z1 := hZ.cell 1; have z2 := hZ.cell 2
      have c0 := DD.he.cell 0; have c1 := DD.he.cell 1; have c2 := DD.he.cell 2
      go_wp2_with fail
      refine (sameE_any f b Z T m cz c len g _ hrz2 DD.re hm4 HL).mono ?_
      rintro e wE ⟨rfl, hbE⟩
      go_wp2_with fail
      go_ret
      exact ⟨rfl, DD.bel.trans (hbE.mono DD.bel.size)⟩
  · have HXY : Hid (ensS f' b' k len' g' = u) := by
      rcases HA.out with ⟨_, _, k2⟩ | ⟨h, _⟩
      · exact k2.symm
      · cases h
    clear HA
    have x0 := DA.hx.cell 0; have x1 := DA.hx.cell 1; have x2 := DA.hx.cell 2
    go_wp2_with fail
    clear x0 x1 x2
    refine (iEnsText_any f' b' X k cx len' g' _ DA.rx hk4 HL' (hid (HP.out _ DA.bel))).mono ?_
    rintro e wB ⟨rfl, hbB⟩
    have DB := DA.below hbB
    clear DA hbB
    rw [HXY.out]
    have q5 : (u.toList != u.toList) = false := by simp
    go_wp2_with fail
    refine (iReadEns_any (ensS f b m len g) _ hne (HE.out _ DB.bel) (HM.out _ DB.bel) (hid (HP.out _ DB.bel))).mono ?_
    rintro e wC ha
    cases hq : ensB f b m len g
    · obtain ⟨Z, cz, rfl, hbC⟩ := (en_of ha).2 hq
      have DC := DB.below hbC
      have hu : ensS f b m len g = ⟨#[]⟩ := by unfold ensS; rw [hq]; rfl
      rw [hu]
      clear ha hbC hq hu DB hne q1
      go_wp2_with fail
      go_ret
      exact ⟨rfl, DC.bel.alloc DC.bel.size _⟩
    · obtain ⟨Z, cz, rfl, hrz, hbC⟩ := (en_of ha).1 hq
      have DC := DB.below hbC
      have hl := ba_listT (ens_some hq)
      rw [ByteArray.toList_eq (⟨#[]⟩ : ByteArray)] at hl
      clear ha hbC hq DB hne q1
      have hbx := (Below.refl wC.heap.size wC).alloc (Nat.le_refl _) (.cells #[.int .i64 f, .int .i64 b, .slice Z m cz] 26)
      have hZ := Blk.new wC 26 #[.int .i64 f, .int .i64 b, .slice Z m cz]
      have DD := DC.below hbx
      have hrz2 := hrz.to hbx hbx.size
      clear DC hrz hbx
      have z0 := hZ.cell 0; have z1 := hZ.cell 1; have z2 := hZ.cell 2
      have c0 := DD.he.cell 0; have c1 := DD.he.cell 1; have c2 := DD.he.cell 2
      go_wp2_with fail
      refine (sameE_any f b Z T m cz c len g _ hrz2 DD.re hm4 HL).mono ?_
      rintro e wE ⟨rfl, hbE⟩
      go_wp2_with fail
      go_ret
      exact ⟨rfl, DD.bel.trans (hbE.mono DD.bel.size)⟩
end Go.Proofs.YtmkipdhappikhaaGreatDoor
