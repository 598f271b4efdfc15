/- The law of ReadTree: the walk. -/
import Derived.Test.YtnicnjkbjdknoaaDoorRtE
import Derived.Test.YtnicnjkbjdknoaaDoorRdI
import Derived.Test.YtnicnjkbjdknoaaDoorMkN
import Derived.Test.YtnicnjkbjdknoaaDoorK4
namespace Go.Proofs.YtnicnjkbjdknoaaDoor
open Go.RowKit Go.Deep

theorem rdn_zero {w : World} {B : Nat} {A : Option Addr} {g : Nat → Nd} : RdN w B A 0 g := fun h => absurd h (by omega)
theorem rowN_congrT {w : World} {t : TypeId} {b n : Nat} {g y : Nat → Nd} (h : RowN w t b n g) (he : ∀ i, i < n → g i = y i) : RowN w t b n y := by
  obtain ⟨cs, hB, hsz, hc⟩ := h
  exact ⟨cs, hB, hsz, fun i hi j hj => by rw [← he i hi]; exact hc i hi j hj⟩
theorem rdn_of {w : World} {t : TypeId} {b n : Nat} {g : Nat → Nd} (h : RowN w t b n g) : RdN w w.heap.size (some ⟨b, 0, none⟩) n g := h.rd h.lt
theorem rowN_grownT {w w' : World} {t : TypeId} {b b' n : Nat} {g : Nat → Nd} (h : RowN w t b n g) (hg : w.grownBy w' (some b')) (hne : b ≠ b') : RowN w' t b n g := by
  obtain ⟨cs, hB, hsz, hc⟩ := h
  exact ⟨cs, hB.grown hg (by intro e; injection e with e; exact hne e), hsz, hc⟩
theorem treS_inj {n m : Nat} {g y : Nat → Nd} (hg : treeB g n 6 = true) (hy : treeB y m 6 = true) (e : treS n g = treS m y) : m = n ∧ ∀ i, i < n → y i = g i := by
  have h1 := allW_tree hg
  rw [e, allW_tree hy] at h1
  have hl : m = n := by have := congrArg List.length h1; simpa using this
  subst hl
  refine ⟨rfl, fun i hi => ?_⟩
  have h2 := congrArg (fun l => l[i]?) h1
  simp only [List.getElem?_map, List.getElem?_range hi] at h2
  exact ndS_inj (tree_in hy i hi) (tree_in hg i hi) (node_good (((treeB_iff y m 6).1 hy).2.2 i hi).1) (node_good (((treeB_iff g m 6).1 hg).2.2 i hi).1) (Option.some.inj h2)
theorem tr_yes {n : Nat} {z : Nat → Nd} {w : World} {e : Ending} {w' : World} (hd : treeB z n 6 = true) (h : TrAns (treS n z) w e w') :
    ∃ b c, e = .returned (.tuple #[.slice (some ⟨b, 0, none⟩) n c, .bool true]) ∧ w.heap.size ≤ b ∧ RowN w' 87 b n z ∧ Below w.heap.size w w' := by
  obtain ⟨⟨m, y, b, c, hy, hs, rfl, hb, hr⟩ | ⟨hno, _⟩, hbl⟩ := h
  · obtain ⟨rfl, he⟩ := treS_inj hd hy hs
    exact ⟨b, c, rfl, hb, rowN_congrT hr he, hbl⟩
  · exact absurd rfl (hno n z hd)
theorem tr_no {s : ByteArray} {w : World} {e : Ending} {w' : World} (hno : ∀ n z, treeB z n 6 = true → s ≠ treS n z) (h : TrAns s w e w') : e = .returned (.tuple #[.slice none 0 0, .bool false]) ∧ Below w.heap.size w w' := by
  obtain ⟨⟨m, y, b, c, hy, hs, rfl, hb, hr⟩ | ⟨_, rfl⟩, hbl⟩ := h
  · exact absurd hs (hno m y hy)
  · exact ⟨rfl, hbl⟩
theorem sT_yes (n : Nat) (z : Nat → Nd) (w : World) (hd : treeB z n 6 = true) :
    Calls Tryd.prog 28 #[.string (treS n z)] w fun e w' => ∃ b c, e = .returned (.tuple #[.slice (some ⟨b, 0, none⟩) n c, .bool true]) ∧ w.heap.size ≤ b ∧ RowN w' 87 b n z ∧ Below w.heap.size w w' :=
  (sReadTree_any _ w (by have := treS_600 hd; omega)).mono fun _ _ h => tr_yes hd h
theorem sT_no (s : ByteArray) (w : World) (hs : s.size ≤ 4194304) (hno : ∀ n z, treeB z n 6 = true → s ≠ treS n z) :
    Calls Tryd.prog 28 #[.string s] w fun e w' => e = .returned (.tuple #[.slice none 0 0, .bool false]) ∧ Below w.heap.size w w' :=
  (sReadTree_any s w hs).mono fun _ _ h => tr_no hno h
theorem iT_yes (n : Nat) (z : Nat → Nd) (w : World) (hd : treeB z n 6 = true) (hE : ErrOk w) (hM : LenOk w) (hp : Hid (Pow w w.heap.size)) :
    Calls Tryd.prog 29 #[.string (treS n z)] w fun e w' => ∃ b c, e = .returned (.tuple #[.slice (some ⟨b, 0, none⟩) n c, .bool true]) ∧ w.heap.size ≤ b ∧ RowN w' 87 b n z ∧ Below w.heap.size w w' :=
  (iReadTree_any _ w (by have := treS_600 hd; omega) hE hM hp).mono fun _ _ h => tr_yes hd h
theorem iT_no (s : ByteArray) (w : World) (hs : s.size ≤ 4194304) (hno : ∀ n z, treeB z n 6 = true → s ≠ treS n z) (hE : ErrOk w) (hM : LenOk w) (hp : Hid (Pow w w.heap.size)) :
    Calls Tryd.prog 29 #[.string s] w fun e w' => e = .returned (.tuple #[.slice none 0 0, .bool false]) ∧ Below w.heap.size w w' :=
  (iReadTree_any s w hs hE hM hp).mono fun _ _ h => tr_no hno h

set_option maxRecDepth 100000 in
set_option maxHeartbeats 4000000 in
theorem lawTree_no (s : ByteArray) (w : World) (hs : s.size ≤ 1048576) (hno : ∀ n z, treeB z n 6 = true → s ≠ treS n z) (hE : ErrOk w) (hM : LenOk w) (hp : Hid (Pow w w.heap.size)) :
    Calls Tryd.prog 8 #[.string s] w fun e w' => e = .returned (.bool true) ∧ Below w.heap.size w w' := by
  have HN := hid hno
  have HE := hid hE
  have HM := hid hM
  have hn : s.size ≤ 4194304 := by omega
  have hi : ¬ (1048576 : Int) < (s.size : Int) := by omega
  clear hno hE hM
  go_enter Tryd.func8, Tryd.ntmps8
  go_wp2_with fail
  refine (sT_no s _ hn HN.out).mono ?_
  rintro e w1 ⟨rfl, hw1⟩
  have hp1 := hid (show Pow w1 w1.heap.size from fun w' hb => (hp.out w' (hw1.trans (hb.mono hw1.size))))
  go_wp2_with fail
  refine (iT_no s _ hn HN.out (HE.out.below hw1) (HM.out.below hw1) hp1).mono ?_
  rintro e w2 ⟨rfl, hb2⟩
  have hw2 := hw1.trans (hb2.mono hw1.size)
  clear hb2 hw1 hp1
  go_wp2_with fail
  refine (eqN_any none none 0 0 0 (fun _ => zNd) _ rdn_zero rdn_zero (by omega)).mono ?_
  rintro e w3 ⟨rfl, hb3⟩
  go_wp2_with fail
  refine (markN_all none 0 0 w2.heap.size (fun _ => zNd) 1 _ (fun h => absurd h (by omega)) (by omega) (by omega) (by omega)).mono ?_
  rintro e w4 ⟨rfl, hg4, _⟩
  have hw4 : Below w.heap.size w w4 := (hw2.trans (hb3.mono hw2.size)).grown hg4 (hw2.trans (hb3.mono hw2.size)).size (fun k hk => by injection hk with hk; have := hw2.size; omega)
  clear hg4 hw2
  go_wp2_with fail
  refine (heldN_all none 0 0 0 1 _ (fun h => absurd h (by omega)) (by omega) (by omega) (by omega)).mono ?_
  rintro e w5 ⟨rfl, rfl⟩
  have hp5 := hid (show Pow w4 w4.heap.size from fun w' hb => (hp.out w' (hw4.trans (hb.mono hw4.size))))
  go_wp2_with fail
  refine (iT_no s _ hn HN.out (HE.out.below hw4) (HM.out.below hw4) hp5).mono ?_
  rintro e w6 ⟨rfl, hb6⟩
  have hw6 := hw4.trans (hb6.mono hw4.size)
  clear hb6 hw4 hp5
  go_wp2_with fail
  refine (eqN_any none none 0 0 0 (fun _ => zNd) _ rdn_zero rdn_zero (by omega)).mono ?_
  rintro e w7 ⟨rfl, hb7⟩
  go_wp2_with fail
  refine (heldN_all none 0 0 0 1 _ (fun h => absurd h (by omega)) (by omega) (by omega) (by omega)).mono ?_
  rintro e w8 ⟨rfl, rfl⟩
  go_wp2_with fail
  go_ret
  exact ⟨rfl, hw6.trans (hb7.mono hw6.size)⟩

set_option maxRecDepth 100000 in
set_option maxHeartbeats 4000000 in
theorem lawTree_yes (n : Nat) (z : Nat → Nd) (w : World) (hd : treeB z n 6 = true) (hE : ErrOk w) (hM : LenOk w) (hp : Hid (Pow w w.heap.size)) :
    Calls Tryd.prog 8 #[.string (treS n z)] w fun e w' => e = .returned (.bool true) ∧ Below w.heap.size w w' := by
  have HE := hid hE
  have HM := hid hM
  have hn6 := ((treeB_iff z n 6).1 hd).2.1.2
  have hn1 := ((treeB_iff z n 6).1 hd).2.1.1
  have hsz := treS_600 hd
  have sY := fun w => sT_yes n z w hd
  have iY := fun w h1 h2 h3 => iT_yes n z w hd h1 h2 h3
  obtain ⟨s, hs⟩ : ∃ s, treS n z = s := ⟨_, rfl⟩
  rw [hs] at hsz sY iY ⊢
  have SY := hid sY
  have IY := hid iY
  have hn : n ≤ 4194304 := by omega
  have hi : ¬ (1048576 : Int) < (s.size : Int) := by omega
  clear hd hE hM hs sY iY
  go_enter Tryd.func8, Tryd.ntmps8
  go_wp2_with fail
  refine (SY.out _).mono ?_
  rintro e w1 ⟨b1, c1', rfl, hl1, hr1, hw1⟩
  have hp1 := hid (show Pow w1 w1.heap.size from fun w' hb => (hp.out w' (hw1.trans (hb.mono hw1.size))))
  go_wp2_with fail
  refine (IY.out _ (HE.out.below hw1) (HM.out.below hw1) hp1).mono ?_
  rintro e w2 ⟨b2, c2', rfl, hl2, hr2, hb2⟩
  have hb12 : b1 < b2 := Nat.lt_of_lt_of_le hr1.lt hl2
  have hr12 := hr1.below hb2 hr1.lt
  have hw2 := hw1.trans (hb2.mono hw1.size)
  have hl2' : w.heap.size ≤ b2 := Nat.le_trans hw1.size hl2
  clear hb2 hw1 hp1 hr1 hl2
  go_wp2_with fail
  refine (eqN_any _ _ n c2' c1' z _ (rdn_of hr2) (rdn_of hr12) hn).mono ?_
  rintro e w3 ⟨rfl, hb3⟩
  go_wp2_with fail
  refine (markN_all _ n c2' b2 z 1 w3 (fun _ => ⟨rfl, hr2.below hb3 hr2.lt⟩) hn (by omega) (by omega)).mono ?_
  rintro e w4 ⟨rfl, hg4, hk4⟩
  have hw4 : Below w.heap.size w w4 := (hw2.trans (hb3.mono hw2.size)).grown hg4 (hw2.trans (hb3.mono hw2.size)).size (fun k hk => by injection hk with hk; omega)
  have hr14 : RowN w4 87 b1 n z := rowN_grownT (hr12.below hb3 hr12.lt) hg4 (by omega)
  have hrk4 := hk4 (by omega)
  clear hg4 hw2 hr2 hr12 hk4
  go_wp2_with fail
  refine (heldN_all _ n c2' b2 1 _ (fun _ => ⟨rfl, hrk4⟩) hn (by omega) (by omega)).mono ?_
  rintro e w5 ⟨rfl, rfl⟩
  have hp5 := hid (show Pow w4 w4.heap.size from fun w' hb => (hp.out w' (hw4.trans (hb.mono hw4.size))))
  go_wp2_with fail
  refine (IY.out _ (HE.out.below hw4) (HM.out.below hw4) hp5).mono ?_
  rintro e w6 ⟨b6, c6', rfl, hl6, hr6, hb6⟩
  have hr16 := hr14.below hb6 hr14.lt
  have hrk6 := hrk4.below hb6 hrk4.lt
  have hw6 := hw4.trans (hb6.mono hw4.size)
  clear hb6 hw4 hp5 hr14 hrk4
  go_wp2_with fail
  refine (eqN_any _ _ n c6' c1' z _ (rdn_of hr6) (rdn_of hr16) hn).mono ?_
  rintro e w7 ⟨rfl, hb7⟩
  go_wp2_with fail
  refine (heldN_all _ n c2' b2 1 w7 (fun _ => ⟨rfl, hrk6.below hb7 hrk6.lt⟩) hn (by omega) (by omega)).mono ?_
  rintro e w8 ⟨rfl, rfl⟩
  go_wp2_with fail
  go_ret
  exact ⟨rfl, hw6.trans (hb7.mono hw6.size)⟩

theorem lawReadTree (s : ByteArray) (w : World) (hE : ErrOk w) (hM : LenOk w) (hp : Hid (Pow w w.heap.size)) :
    Calls Tryd.prog 8 #[.string s] w fun e w' => e = .returned (.bool true) ∧ Below w.heap.size w w' := by
  by_cases hbig : (1048576 : Int) < (s.size : Int)
  · go_enter Tryd.func8, Tryd.ntmps8
    go_wp2_with fail
    go_ret
    exact ⟨rfl, Below.refl _ _⟩
  · by_cases h : ∃ n z, treeB z n 6 = true ∧ s = treS n z
    · obtain ⟨n, z, hd, rfl⟩ := h
      exact lawTree_yes n z w hd hE hM hp
    · exact lawTree_no s w (by omega) (fun n z hd e => h ⟨n, z, hd, e⟩) hE hM hp
end Go.Proofs.YtnicnjkbjdknoaaDoor
