/- The walk of the exact law of PathOf. -/
import Derived.Test.YtodcalghnoiaeaaTreeL
import Derived.Test.YtodcalghnoiaeaaDocWithLaw
namespace Go.Proofs.Ytodcalghnoiaeaa
open Go.RowKit Go.Deep

set_option maxHeartbeats 2000000 in
theorem markN_any (n cap b : Nat) (g : Nat → Nd) (k0 : Int) (w : World) (h : RowN w 56 b n g) (hn : n ≤ 4194304) (h0 : 0 ≤ k0) (h1 : k0 ≤ 100000) :
    Calls Try.prog 38 #[.slice (some ⟨b, 0, none⟩) n cap, .int .i64 k0] w fun e w' =>
      ∃ k1 : Int, e = .returned (.int .i64 k1) ∧ 0 ≤ k1 ∧ k1 ≤ 100000000 ∧ w.grownBy w' (some b) := by
  obtain ⟨cs, hB, hsz, _⟩ := h
  go_enter Try.func38, Try.ntmps38
  go_wp2_with fail
  go_loopw [1, 5] (fun k i wr => ∃ (m : Nat) (cs : Array Value) (y : Int), m ≤ n ∧ i = .int .i64 m ∧ k = .int .i64 y ∧ k0 + 6 * (m : Int) ≤ y ∧ y ≤ k0 + 6 * (m : Int) ∧ Blk wr b 56 cs ∧ n * 6 ≤ cs.size ∧ Hid (w.grownBy wr (some b)))
    (fun _ i _ => n - (intOf i).toNat)
  case atStart => exact ⟨0, cs, k0, Nat.zero_le _, rfl, rfl, by omega, by omega, hB, hsz, World.grownBy.refl _ _⟩
  case round =>
    obtain ⟨m, cs, y, hm, rfl, rfl, hy1, hy2, hB, hsz, hg⟩ := hrel
    by_cases hlt : m < n
    · have hl : (m : Int) < (n : Int) := by omega
      have s0 : wr.cell? ⟨b, m * 6, none⟩ = some (cs[m * 6]'(by omega)) := by rw [hB.cell, Array.getElem?_eq_getElem]
      have s1 : wr.cell? ⟨b, m * 6 + 1, none⟩ = some (cs[m * 6 + 1]'(by omega)) := by rw [hB.cell, Array.getElem?_eq_getElem]
      have s2 : wr.cell? ⟨b, m * 6 + 2, none⟩ = some (cs[m * 6 + 2]'(by omega)) := by rw [hB.cell, Array.getElem?_eq_getElem]
      have s3 : wr.cell? ⟨b, m * 6 + 3, none⟩ = some (cs[m * 6 + 3]'(by omega)) := by rw [hB.cell, Array.getElem?_eq_getElem]
      have s4 : wr.cell? ⟨b, m * 6 + 4, none⟩ = some (cs[m * 6 + 4]'(by omega)) := by rw [hB.cell, Array.getElem?_eq_getElem]
      have s5 : wr.cell? ⟨b, m * 6 + 5, none⟩ = some (cs[m * 6 + 5]'(by omega)) := by rw [hB.cell, Array.getElem?_eq_getElem]
      have f0 := hB.frozen (m * 6); have f1 := hB.frozen (m * 6 + 1); have f2 := hB.frozen (m * 6 + 2); have f3 := hB.frozen (m * 6 + 3); have f4 := hB.frozen (m * 6 + 4); have f5 := hB.frozen (m * 6 + 5)
      go_wp2_with fail
      go_roundw
      case rel =>
        refine ⟨m + 1, _, _, by omega, by go_num, rfl, by omega, by omega, (((((hB.set_ (m * 6) _).set_ (m * 6 + 1) _).set_ (m * 6 + 2) _).set_ (m * 6 + 3) _).set_ (m * 6 + 4) _).set_ (m * 6 + 5) _, by simp only [Array.size_setIfInBounds]; exact hsz, ?_⟩
        exact grown_trans (grown_trans (grown_trans (grown_trans (grown_trans (grown_trans hg.out (grown_set _)) (grown_set _)) (grown_set _)) (grown_set _)) (grown_set _)) (grown_set _)
      case measure => simp [intOf]; omega
    · have e : m = n := by omega
      go_wp2_with fail
      go_ret
      exact ⟨y, rfl, by omega, by omega, hg.out⟩

theorem rowN_grown {w w' : World} {t : TypeId} {b b' n : Nat} {g : Nat → Nd} (h : RowN w t b n g) (hg : w.grownBy w' (some b')) (hne : b ≠ b') : RowN w' t b n g :=
  h.keep (hg.block b h.lt (by simpa using hne))

set_option maxHeartbeats 4000000 in
theorem lawPath_no (A D : Option Addr) (n cap f dc : Nat) (g : Nat → Nd) (z : Nat → Int) (w : World) (h : RdN w w.heap.size A n g) (hd : Rd w w.heap.size D f z) (hn : n ≤ 1048576) (hf : f ≤ 1048576) (hno : (docB f z && treeB g n f) = false) :
    Calls Try.prog 7 #[.slice A n cap, .slice D f dc] w fun e w' => e = .returned (.bool true) ∧ Below w.heap.size w w' := by
  have hm : n ≤ 4194304 := by omega
  have hfm : f ≤ 4194304 := by omega
  have i1 : ¬ (1048576 : Int) < (f : Int) := by omega
  have HN := hid hno
  clear hno
  go_enter Try.func7, Try.ntmps7
  go_wp2_with fail
  refine (szN_ok A n cap 1048576 _ (by omega) (by omega) (by omega) (by omega)).mono ?_
  rintro e w1 ⟨rfl, rfl⟩
  go_wp2_with fail
  refine (toN_any A n cap g _ h hm).mono ?_
  rintro e w1 ⟨b1, rfl, _, hr1, hb1⟩
  go_wp2_with fail
  refine (toI_any D f dc z _ (hd.to hb1 hb1.size) hfm).mono ?_
  rintro e w2 ⟨b2, rfl, _, hr2, hb2⟩
  have hr1' := hr1.below hb2 hr1.lt
  have hw2 := hb1.trans (hb2.mono hb1.size)
  clear hb1 hb2 hr1
  go_wp2_with fail
  refine (sPath_no _ _ n n f f g z _ (rdN_of hr1') (rd_of hr2) hm hfm HN.out).mono ?_
  rintro e w3 ⟨rfl, hb3⟩
  have hw3 := hw2.trans (hb3.mono hw2.size)
  clear hb3 hw2 hr1' hr2
  go_wp2_with fail
  refine (toN_any A n cap g _ (h.to hw3 hw3.size) hm).mono ?_
  rintro e w4 ⟨b4, rfl, hl4, hr4, hb4⟩
  have hw4 := hw3.trans (hb4.mono hw3.size)
  have hl4' : w.heap.size ≤ b4 := Nat.le_trans hw3.size hl4
  clear hb4 hw3 hl4
  go_wp2_with fail
  refine (toI_any D f dc z _ (hd.to hw4 hw4.size) hfm).mono ?_
  rintro e w5 ⟨b5, rfl, hl5, hr5, hb5⟩
  have hr4' := hr4.below hb5 hr4.lt
  have hlt45 : b4 < b5 := Nat.lt_of_lt_of_le hr4.lt hl5
  have hw5 := hw4.trans (hb5.mono hw4.size)
  clear hb5 hw4 hr4 hl5
  go_wp2_with fail
  refine (iPath_no _ _ n n f f g z _ (rdN_of hr4') (rd_of hr5) hm hfm HN.out).mono ?_
  rintro e w6 ⟨rfl, hb6⟩
  have hr4 := hr4'.below hb6 hr4'.lt
  have hr6 := hr5.below hb6 hr5.lt
  have hw6 := hw5.trans (hb6.mono hw5.size)
  clear hb6 hw5 hr4' hr5
  go_wp2_with fail
  refine (eqI_any none none 0 0 0 nul nul _ rd_none rd_none (fun _ _ => rfl) (by omega)).mono ?_
  rintro e w7 ⟨rfl, m7, rfl⟩
  have hw7 := below_drewN hw6 m7
  go_wp2_with fail
  refine (toN_any A n cap g _ (h.to hw7 hw7.size) hm).mono ?_
  rintro e w8 ⟨b8, rfl, _, hr8, hb8⟩
  have hr4' : RowN w8 56 b4 n g := RowN.below (w := w6.drewN m7) hr4 hb8 hr4.lt
  have hr6' : Row w8 2 b5 f z := Row.below (w := w6.drewN m7) hr6 hb8 hr6.lt
  have hw8 := hw7.trans (hb8.mono hw7.size)
  clear hb8 hw7 hw6 hr4 hr6
  go_wp2_with fail
  refine (eqN_any _ _ n n n g _ (rdN_of hr4') (rdN_of hr8) hm).mono ?_
  rintro e w9 ⟨rfl, hb9⟩
  have hr4 := hr4'.below hb9 hr4'.lt
  have hr6 := hr6'.below hb9 hr6'.lt
  have hw9 := hw8.trans (hb9.mono hw8.size)
  clear hb9 hw8 hr4' hr6' hr8
  go_wp2_with fail
  refine (toI_any D f dc z _ (hd.to hw9 hw9.size) hfm).mono ?_
  rintro e w10 ⟨b10, rfl, _, hr10, hb10⟩
  have hr4' := hr4.below hb10 hr4.lt
  have hr6' := hr6.below hb10 hr6.lt
  have hw10 := hw9.trans (hb10.mono hw9.size)
  clear hb10 hw9 hr4 hr6
  go_wp2_with fail
  refine (eqI_any _ _ f f f z z _ (rd_of hr6') (rd_of hr10) (fun _ _ => rfl) hfm).mono ?_
  rintro e w11 ⟨rfl, m11, rfl⟩
  have hw11 := below_drewN hw10 m11
  go_wp2_with fail
  refine (markN_any n n b4 g 1 (w10.drewN m11) hr4' hm (by omega) (by omega)).mono ?_
  rintro e w12 ⟨k12, rfl, hk0, hk1, hg12⟩
  have hr6 : Row w12 2 b5 f z := row_grown (w := w10.drewN m11) hr6' hg12 (by omega)
  have hw12 : Below w.heap.size w w12 := hw11.grown hg12 hw11.size (fun x hx => by injection hx with hx; omega)
  clear hg12 hw11 hw10 hr4' hr6' hr10
  go_wp2_with fail
  refine (mark_any _ f f b5 z k12 w12 (fun _ => ⟨rfl, hr6⟩) hfm hk0 hk1).mono ?_
  rintro e w13 ⟨rfl, hg13, _⟩
  have hw13 : Below w.heap.size w w13 := hw12.grown hg13 hw12.size (fun x hx => by injection hx with hx; omega)
  have hk2 : ¬ k12 + (f : Int) < 0 := by omega
  clear hg13 hw12 hr6
  go_wp2_with fail
  refine (eqI_any none none 0 0 0 nul nul _ rd_none rd_none (fun _ _ => rfl) (by omega)).mono ?_
  rintro e w14 ⟨rfl, m14, rfl⟩
  have hw14 := below_drewN hw13 m14
  go_wp2_with fail
  refine (mark_any none 0 0 w13.heap.size nul 1 _ (fun h => absurd h (by omega)) (by omega) (by omega) (by omega)).mono ?_
  rintro e w15 ⟨rfl, hg15, _⟩
  have hw15 : Below w.heap.size w w15 := hw14.grown hg15 hw14.size (fun x hx => by injection hx with hx; have := hw13.size; omega)
  clear hg15 hw14 hw13
  go_wp2_with fail
  refine (held_any none 0 0 0 1 _ (fun h => absurd h (by omega)) (by omega) (by omega) (by omega)).mono ?_
  rintro e w15' ⟨rfl, rfl⟩
  go_wp2_with fail
  refine (toN_any A n cap g _ (h.to hw15 hw15.size) hm).mono ?_
  rintro e w16 ⟨b16, rfl, _, hr16, hb16⟩
  have hw16 := hw15.trans (hb16.mono hw15.size)
  clear hb16 hw15
  go_wp2_with fail
  refine (toI_any D f dc z _ (hd.to hw16 hw16.size) hfm).mono ?_
  rintro e w17 ⟨b17, rfl, _, hr17, hb17⟩
  have hr16' := hr16.below hb17 hr16.lt
  have hw17 := hw16.trans (hb17.mono hw16.size)
  clear hb17 hw16 hr16
  go_wp2_with fail
  refine (iPath_no _ _ n n f f g z _ (rdN_of hr16') (rd_of hr17) hm hfm HN.out).mono ?_
  rintro e w18 ⟨rfl, hb18⟩
  have hw18 := hw17.trans (hb18.mono hw17.size)
  clear hb18 hw17 hr16' hr17
  go_wp2_with fail
  refine (eqI_any none none 0 0 0 nul nul _ rd_none rd_none (fun _ _ => rfl) (by omega)).mono ?_
  rintro e w19 ⟨rfl, m19, rfl⟩
  go_wp2_with fail
  refine (held_any none 0 0 0 1 _ (fun h => absurd h (by omega)) (by omega) (by omega) (by omega)).mono ?_
  rintro e w20 ⟨rfl, rfl⟩
  go_wp2_with fail
  go_ret
  exact ⟨rfl, below_drewN hw18 m19⟩

set_option maxHeartbeats 4000000 in
theorem lawPath_yes (A D : Option Addr) (n cap f dc : Nat) (g : Nat → Nd) (z : Nat → Int) (w : World) (h : RdN w w.heap.size A n g) (hd : Rd w w.heap.size D f z) (hn : n ≤ 1048576) (hf : f ≤ 1048576) (h1 : docB f z = true) (h2 : treeB g n f = true) :
    Calls Try.prog 7 #[.slice A n cap, .slice D f dc] w fun e w' => e = .returned (.bool true) ∧ Below w.heap.size w w' := by
  have hm : n ≤ 4194304 := by omega
  have hfm : f ≤ 4194304 := by omega
  have i1 : ¬ (1048576 : Int) < (f : Int) := by omega
  have H1 := hid h1
  have H2 := hid h2
  clear h1 h2
  go_enter Try.func7, Try.ntmps7
  go_wp2_with fail
  refine (szN_ok A n cap 1048576 _ (by omega) (by omega) (by omega) (by omega)).mono ?_
  rintro e w1 ⟨rfl, rfl⟩
  go_wp2_with fail
  refine (toN_any A n cap g _ h hm).mono ?_
  rintro e w1 ⟨b1, rfl, _, hr1, hb1⟩
  go_wp2_with fail
  refine (toI_any D f dc z _ (hd.to hb1 hb1.size) hfm).mono ?_
  rintro e w2 ⟨b2, rfl, _, hr2, hb2⟩
  have hr1' := hr1.below hb2 hr1.lt
  have hw2 := hb1.trans (hb2.mono hb1.size)
  clear hb1 hb2 hr1
  go_wp2_with fail
  refine (sPath_yes _ _ n n f f g z _ (rdN_of hr1') (rd_of hr2) hm hfm H1.out H2.out).mono ?_
  rintro e w3 ⟨T, s, c, hE, hT, rfl, hls, hrs, hb3⟩
  have hw3 := hw2.trans (hb3.mono hw2.size)
  have hls' : w.heap.size ≤ s := Nat.le_trans hw2.size hls
  clear hb3 hw2 hr1' hr2 hls
  have hTm : T + 1 ≤ 4194304 := by omega
  go_wp2_with fail
  refine (toN_any A n cap g _ (h.to hw3 hw3.size) hm).mono ?_
  rintro e w4 ⟨b4, rfl, hl4, hr4, hb4⟩
  have hw4 := hw3.trans (hb4.mono hw3.size)
  have hs4 : s < b4 := Nat.lt_of_lt_of_le hrs.lt hl4
  have hrs4 := hrs.below hb4 hrs.lt
  clear hb4 hw3 hl4 hrs
  go_wp2_with fail
  refine (toI_any D f dc z _ (hd.to hw4 hw4.size) hfm).mono ?_
  rintro e w5 ⟨b5, rfl, hl5, hr5, hb5⟩
  have hr4' := hr4.below hb5 hr4.lt
  have hrs5 := hrs4.below hb5 hrs4.lt
  have hlt45 : b4 < b5 := Nat.lt_of_lt_of_le hr4.lt hl5
  have hw5 := hw4.trans (hb5.mono hw4.size)
  clear hb5 hw4 hr4 hl5 hrs4
  go_wp2_with fail
  refine (iPath_yes _ _ n n f f g z _ (rdN_of hr4') (rd_of hr5) hm H1.out H2.out).mono ?_
  rintro e w6 ⟨T', b6, c6, hE', _, rfl, hl6, hrg, hb6⟩
  obtain rfl := hE.same hE'
  have hEE := hid hE
  clear hE hE'
  have hlt56 : b5 < b6 := Nat.lt_of_lt_of_le hr5.lt hl6
  have hr4 := hr4'.below hb6 hr4'.lt
  have hr6 := hr5.below hb6 hr5.lt
  have hrs := hrs5.below hb6 hrs5.lt
  have hw6 := hw5.trans (hb6.mono hw5.size)
  clear hb6 hw5 hr4' hr5 hrs5 hl6
  go_wp2_with fail
  refine (eqI_any _ _ (T + 1) c6 c (seqZ g z) (seqZ g z) _ (rd_of hrg) (rd_of hrs) (fun _ _ => rfl) hTm).mono ?_
  rintro e w7 ⟨rfl, m7, rfl⟩
  have hw7 := below_drewN hw6 m7
  go_wp2_with fail
  refine (toN_any A n cap g _ (h.to hw7 hw7.size) hm).mono ?_
  rintro e w8 ⟨b8, rfl, _, hr8, hb8⟩
  have hr4' : RowN w8 56 b4 n g := RowN.below (w := w6.drewN m7) hr4 hb8 hr4.lt
  have hr6' : Row w8 2 b5 f z := Row.below (w := w6.drewN m7) hr6 hb8 hr6.lt
  have hrs8 : Row w8 2 s (T + 1) (seqZ g z) := Row.below (w := w6.drewN m7) hrs hb8 hrs.lt
  have hrg8 : Row w8 2 b6 (T + 1) (seqZ g z) := Row.below (w := w6.drewN m7) hrg hb8 hrg.lt
  have hw8 := hw7.trans (hb8.mono hw7.size)
  clear hb8 hw7 hw6 hr4 hr6 hrs hrg
  go_wp2_with fail
  refine (eqN_any _ _ n n n g _ (rdN_of hr4') (rdN_of hr8) hm).mono ?_
  rintro e w9 ⟨rfl, hb9⟩
  have hr4 := hr4'.below hb9 hr4'.lt
  have hr6 := hr6'.below hb9 hr6'.lt
  have hrs := hrs8.below hb9 hrs8.lt
  have hrg := hrg8.below hb9 hrg8.lt
  have hw9 := hw8.trans (hb9.mono hw8.size)
  clear hb9 hw8 hr4' hr6' hr8 hrs8 hrg8
  go_wp2_with fail
  refine (toI_any D f dc z _ (hd.to hw9 hw9.size) hfm).mono ?_
  rintro e w10 ⟨b10, rfl, _, hr10, hb10⟩
  have hr4' := hr4.below hb10 hr4.lt
  have hr6' := hr6.below hb10 hr6.lt
  have hrs8 := hrs.below hb10 hrs.lt
  have hrg8 := hrg.below hb10 hrg.lt
  have hw10 := hw9.trans (hb10.mono hw9.size)
  clear hb10 hw9 hr4 hr6 hrs hrg
  go_wp2_with fail
  refine (eqI_any _ _ f f f z z _ (rd_of hr6') (rd_of hr10) (fun _ _ => rfl) hfm).mono ?_
  rintro e w11 ⟨rfl, m11, rfl⟩
  have hw11 := below_drewN hw10 m11
  go_wp2_with fail
  refine (markN_any n n b4 g 1 (w10.drewN m11) hr4' hm (by omega) (by omega)).mono ?_
  rintro e w12 ⟨k12, rfl, hk0, hk1, hg12⟩
  have hr6 : Row w12 2 b5 f z := row_grown (w := w10.drewN m11) hr6' hg12 (by omega)
  have hrs : Row w12 2 s (T + 1) (seqZ g z) := row_grown (w := w10.drewN m11) hrs8 hg12 (by omega)
  have hrg : Row w12 2 b6 (T + 1) (seqZ g z) := row_grown (w := w10.drewN m11) hrg8 hg12 (by omega)
  have hw12 : Below w.heap.size w w12 := hw11.grown hg12 hw11.size (fun x hx => by injection hx with hx; omega)
  clear hg12 hw11 hw10 hr4' hr6' hr10 hrs8 hrg8
  go_wp2_with fail
  refine (mark_any _ f f b5 z k12 w12 (fun _ => ⟨rfl, hr6⟩) hfm hk0 hk1).mono ?_
  rintro e w13 ⟨rfl, hg13, _⟩
  have hrs8 := row_grown hrs hg13 (by omega)
  have hrg8 := row_grown hrg hg13 (by omega)
  have hw13 : Below w.heap.size w w13 := hw12.grown hg13 hw12.size (fun x hx => by injection hx with hx; omega)
  have hk2 : ¬ k12 + (f : Int) < 0 := by omega
  clear hg13 hw12 hr6 hrs hrg
  go_wp2_with fail
  refine (eqI_any _ _ (T + 1) c6 c (seqZ g z) (seqZ g z) _ (rd_of hrg8) (rd_of hrs8) (fun _ _ => rfl) hTm).mono ?_
  rintro e w14 ⟨rfl, m14, rfl⟩
  have hw14 := below_drewN hw13 m14
  go_wp2_with fail
  refine (mark_any _ (T + 1) c6 b6 (seqZ g z) 1 (w13.drewN m14) (fun _ => ⟨rfl, hrg8⟩) hTm (by omega) (by omega)).mono ?_
  rintro e w15 ⟨rfl, hg15, hk15⟩
  have hrs := row_grown (w := w13.drewN m14) hrs8 hg15 (by omega)
  have hrk := hk15 (by omega)
  have hw15 : Below w.heap.size w w15 := hw14.grown hg15 hw14.size (fun x hx => by injection hx with hx; omega)
  clear hg15 hw14 hw13 hk15 hrs8 hrg8
  go_wp2_with fail
  refine (held_any _ (T + 1) c6 b6 1 w15 (fun _ => ⟨rfl, hrk⟩) hTm (by omega) (by omega)).mono ?_
  rintro e w15' ⟨rfl, rfl⟩
  go_wp2_with fail
  refine (toN_any A n cap g _ (h.to hw15 hw15.size) hm).mono ?_
  rintro e w16 ⟨b16, rfl, _, hr16, hb16⟩
  have hrs8 := hrs.below hb16 hrs.lt
  have hrk8 := hrk.below hb16 hrk.lt
  have hw16 := hw15.trans (hb16.mono hw15.size)
  clear hb16 hw15 hrs hrk
  go_wp2_with fail
  refine (toI_any D f dc z _ (hd.to hw16 hw16.size) hfm).mono ?_
  rintro e w17 ⟨b17, rfl, _, hr17, hb17⟩
  have hr16' := hr16.below hb17 hr16.lt
  have hrs := hrs8.below hb17 hrs8.lt
  have hrk := hrk8.below hb17 hrk8.lt
  have hw17 := hw16.trans (hb17.mono hw16.size)
  clear hb17 hw16 hr16 hrs8 hrk8
  go_wp2_with fail
  refine (iPath_yes _ _ n n f f g z _ (rdN_of hr16') (rd_of hr17) hm H1.out H2.out).mono ?_
  rintro e w18 ⟨T', b18, c18, hE', _, rfl, hl18, hrh, hb18⟩
  have hTT : T' = T := hE'.same hEE.out
  subst hTT
  have hrs8 := hrs.below hb18 hrs.lt
  have hrk8 := hrk.below hb18 hrk.lt
  have hw18 := hw17.trans (hb18.mono hw17.size)
  clear hb18 hw17 hr16' hr17 hrs hrk hE' hl18
  go_wp2_with fail
  refine (eqI_any _ _ (T' + 1) c18 c (seqZ g z) (seqZ g z) _ (rd_of hrh) (rd_of hrs8) (fun _ _ => rfl) hTm).mono ?_
  rintro e w19 ⟨rfl, m19, rfl⟩
  go_wp2_with fail
  refine (held_any _ (T' + 1) c6 b6 1 (w18.drewN m19) (fun _ => ⟨rfl, hrk8⟩) hTm (by omega) (by omega)).mono ?_
  rintro e w20 ⟨rfl, rfl⟩
  go_wp2_with fail
  go_ret
  exact ⟨rfl, below_drewN hw18 m19⟩

theorem lawPathOf (A D : Option Addr) (n cap f dc : Nat) (g : Nat → Nd) (z : Nat → Int) (w : World) (h : RdN w w.heap.size A n g) (hd : Rd w w.heap.size D f z) (hn : n ≤ 9223372036854775807) :
    Calls Try.prog 7 #[.slice A n cap, .slice D f dc] w fun e w' => e = .returned (.bool true) ∧ Below w.heap.size w w' := by
  by_cases hf : (1048576 : Int) < (f : Int)
  · go_enter Try.func7, Try.ntmps7
    go_wp2_with fail
    go_ret
    exact ⟨rfl, Below.refl _ _⟩
  by_cases hbig : (1048576 : Int) - (n : Int) < 0
  · go_enter Try.func7, Try.ntmps7
    go_wp2_with fail
    refine (szN_big A n cap 1048576 _ hn (by omega) (by omega) (by omega)).mono ?_
    rintro e w1 ⟨rfl, rfl⟩
    go_wp2_with fail
    go_ret
    exact ⟨rfl, Below.refl _ _⟩
  cases hno : (docB f z && treeB g n f)
  · exact lawPath_no A D n cap f dc g z w h hd (by omega) (by omega) hno
  · simp only [Bool.and_eq_true] at hno
    exact lawPath_yes A D n cap f dc g z w h hd (by omega) (by omega) hno.1 hno.2
end Go.Proofs.Ytodcalghnoiaeaa
