/- The law of ReadDoc: the walk. -/
import Derived.Test.YtifjbljfpmkmdaaDoorRdG
import Derived.HandedShaped
import Derived.Stop.LaidErr
import Derived.Shelf.Vars
namespace Go.Proofs.YtifjbljfpmkmdaaDoor
open Go.RowKit Go.Deep

theorem docS_inj {n m : Nat} {z y : Nat → Int} (hz : docB n z = true) (hy : docB m y = true) (h : docS n z = docS m y) : n = m ∧ ∀ i, i < n → y i = z i := by
  have h1 := words_doc hz
  have h2 := words_doc hy
  rw [h, h2] at h1
  have hl : m = n := by simpa using congrArg List.length h1
  refine ⟨hl.symm, fun i hi => ?_⟩
  have h3 : ((List.range m).map fun i => numS (y i))[i]? = ((List.range n).map fun i => numS (z i))[i]? := by rw [h1]
  rw [List.getElem?_map, List.getElem?_map, List.getElem?_range hi, List.getElem?_range (by omega)] at h3
  exact numS_inj (may_i64 ((docB_true hy).2.2 i (by omega))) (may_i64 ((docB_true hz).2.2 i hi)) (Option.some.inj h3)
theorem row_congr {w : World} {t : TypeId} {b n : Nat} {z y : Nat → Int} (h : Row w t b n z) (e : ∀ i, i < n → z i = y i) : Row w t b n y := by
  obtain ⟨cs, h1, h2, h3⟩ := h
  exact ⟨cs, h1, h2, fun i hi => by rw [h3 i hi, e i hi]⟩
theorem iRead_yes (n : Nat) (z : Nat → Int) (w : World) (hd : docB n z = true) (hE : ErrOk w) (hM : LenOk w) (hp : Hid (Pow w w.heap.size)) :
    Calls Tryd.prog 9 #[.string (docS n z)] w fun e w' =>
      ∃ b c, e = .returned (.tuple #[.slice (some ⟨b, 0, none⟩) n c, .bool true]) ∧ w.heap.size ≤ b ∧ Row w' 2 b n z ∧ Below w.heap.size w w' := by
  refine (iRead_any (docS n z) w (by have := docS_sz hd; omega) hE hM hp).mono ?_
  rintro e w' ⟨⟨m, y, b, c, hy, hs, rfl, hb, hr⟩ | ⟨hno, _⟩, hbl⟩
  · obtain ⟨rfl, he⟩ := docS_inj hd hy hs
    exact ⟨b, c, rfl, hb, row_congr hr he, hbl⟩
  · exact absurd rfl (hno n z hd)
theorem iRead_no (s : ByteArray) (w : World) (hs : s.size ≤ 4194304) (hno : ∀ n z, docB n z = true → s ≠ docS n z) (hE : ErrOk w) (hM : LenOk w) (hp : Hid (Pow w w.heap.size)) :
    Calls Tryd.prog 9 #[.string s] w fun e w' => e = .returned (.tuple #[.slice none 0 0, .bool false]) ∧ Below w.heap.size w w' := by
  refine (iRead_any s w hs hE hM hp).mono ?_
  rintro e w' ⟨⟨m, y, b, c, hy, hs, rfl, hb, hr⟩ | ⟨_, rfl⟩, hbl⟩
  · exact absurd hs (hno m y hy)
  · exact ⟨rfl, hbl⟩

set_option maxRecDepth 100000 in
set_option maxHeartbeats 4000000 in
theorem lawRead_no (s : ByteArray) (w : World) (hs : s.size ≤ 1048576) (hno : ∀ n z, docB n z = true → s ≠ docS n z) (hE : ErrOk w) (hM : LenOk w) (hp : Hid (Pow w w.heap.size)) :
    Calls Tryd.prog 3 #[.string s] w fun e w' => e = .returned (.bool true) ∧ Below w.heap.size w w' := by
  have HN := hid hno
  have HE := hid hE
  have HM := hid hM
  have hn : s.size ≤ 4194304 := by omega
  have hi : ¬ (1048576 : Int) < (s.size : Int) := by omega
  clear hno hE hM
  go_enter Tryd.func3, Tryd.ntmps3
  go_wp2_with fail
  refine (sRead_no s _ hn HN.out).mono ?_
  rintro e w1 ⟨rfl, hw1⟩
  have hp1 := hid (show Pow w1 w1.heap.size from fun w' hb => (hp.out w' (hw1.trans (hb.mono hw1.size))))
  go_wp2_with fail
  refine (iRead_no s _ hn HN.out (HE.out.below hw1) (HM.out.below hw1) hp1).mono ?_
  rintro e w2 ⟨rfl, hb2⟩
  have hw2 := hw1.trans (hb2.mono hw1.size)
  clear hb2 hw1 hp1
  go_wp2_with fail
  refine (eqI_any none none 0 0 0 nul nul _ rd_none rd_none (fun _ _ => rfl) (by omega)).mono ?_
  rintro e w3 ⟨rfl, m3, rfl⟩
  go_wp2_with fail
  refine (mark_any none 0 0 w2.heap.size nul 1 _ (fun h => absurd h (by omega)) (by omega) (by omega) (by omega)).mono ?_
  rintro e w4 ⟨rfl, hg4, _⟩
  have hw4 : Below w.heap.size w w4 := (below_drewN hw2 m3).grown hg4 hw2.size (fun k hk => by injection hk with hk; have := hw2.size; omega)
  clear hg4 hw2
  go_wp2_with fail
  refine (held_any none 0 0 0 1 _ (fun h => absurd h (by omega)) (by omega) (by omega) (by omega)).mono ?_
  rintro e w5 ⟨rfl, rfl⟩
  have hp5 := hid (show Pow w4 w4.heap.size from fun w' hb => (hp.out w' (hw4.trans (hb.mono hw4.size))))
  go_wp2_with fail
  refine (iRead_no s _ hn HN.out (HE.out.below hw4) (HM.out.below hw4) hp5).mono ?_
  rintro e w6 ⟨rfl, hb6⟩
  have hw6 := hw4.trans (hb6.mono hw4.size)
  clear hb6 hw4 hp5
  go_wp2_with fail
  refine (eqI_any none none 0 0 0 nul nul _ rd_none rd_none (fun _ _ => rfl) (by omega)).mono ?_
  rintro e w7 ⟨rfl, m7, rfl⟩
  go_wp2_with fail
  refine (held_any none 0 0 0 1 _ (fun h => absurd h (by omega)) (by omega) (by omega) (by omega)).mono ?_
  rintro e w8 ⟨rfl, rfl⟩
  go_wp2_with fail
  go_ret
  exact ⟨rfl, below_drewN hw6 m7⟩

set_option maxRecDepth 100000 in
set_option maxHeartbeats 4000000 in
theorem lawRead_yes (n : Nat) (z : Nat → Int) (w : World) (hd : docB n z = true) (hE : ErrOk w) (hM : LenOk w) (hp : Hid (Pow w w.heap.size)) :
    Calls Tryd.prog 3 #[.string (docS n z)] w fun e w' => e = .returned (.bool true) ∧ Below w.heap.size w w' := by
  have HE := hid hE
  have HM := hid hM
  have hn6 := (docB_true hd).2.1
  have hn1 := (docB_true hd).1
  have hsz := docS_sz hd
  have sY := fun w => sRead_yes n z w hd
  have iY := fun w h1 h2 h3 => iRead_yes n z w hd h1 h2 h3
  obtain ⟨s, hs⟩ : ∃ s, docS n z = s := ⟨_, rfl⟩
  rw [hs] at hsz sY iY ⊢
  have SY := hid sY
  have IY := hid iY
  have hn : n ≤ 4194304 := by omega
  have hi : ¬ (1048576 : Int) < (s.size : Int) := by omega
  clear hd hE hM hs sY iY
  go_enter Tryd.func3, Tryd.ntmps3
  go_wp2_with fail
  refine (SY.out _).mono ?_
  rintro e w1 ⟨b1, c1', rfl, hl1, hr1, hw1⟩
  have hp1 := hid (show Pow w1 w1.heap.size from fun w' hb => (hp.out w' (hw1.trans (hb.mono hw1.size))))
  go_wp2_with fail
  refine (IY.out _ (HE.out.below hw1) (HM.out.below hw1) hp1).mono ?_
  rintro e w2 ⟨b2, c2', rfl, hl2, hr2, hb2⟩
  have hb12 : b1 < b2 := Nat.lt_of_lt_of_le hr1.lt hl2
  have hr12 := hr1.below hb2 hr1.lt
  have hw2 := hw1.trans (hb2.mono hw1.size)
  have hl2' : w.heap.size ≤ b2 := Nat.le_trans hw1.size hl2
  clear hb2 hw1 hp1 hr1 hl2
  go_wp2_with fail
  refine (eqI_any _ _ n c2' c1' z z _ (rd_of hr2) (rd_of hr12) (fun _ _ => rfl) hn).mono ?_
  rintro e w3 ⟨rfl, m3, rfl⟩
  go_wp2_with fail
  refine (mark_any _ n c2' b2 z 1 (w2.drewN m3) (fun _ => ⟨rfl, hr2⟩) hn (by omega) (by omega)).mono ?_
  rintro e w4 ⟨rfl, hg4, hk4⟩
  have hw4 : Below w.heap.size w w4 := (below_drewN hw2 m3).grown hg4 hw2.size (fun k hk => by injection hk with hk; omega)
  have hr14 : Row w4 2 b1 n z := row_grown (w := w2.drewN m3) hr12 hg4 (by omega)
  have hrk4 := hk4 (by omega)
  clear hg4 hw2 hr2 hr12 hk4
  go_wp2_with fail
  refine (held_any _ n c2' b2 1 _ (fun _ => ⟨rfl, hrk4⟩) hn (by omega) (by omega)).mono ?_
  rintro e w5 ⟨rfl, rfl⟩
  have hp5 := hid (show Pow w4 w4.heap.size from fun w' hb => (hp.out w' (hw4.trans (hb.mono hw4.size))))
  go_wp2_with fail
  refine (IY.out _ (HE.out.below hw4) (HM.out.below hw4) hp5).mono ?_
  rintro e w6 ⟨b6, c6', rfl, hl6, hr6, hb6⟩
  have hr16 := hr14.below hb6 hr14.lt
  have hrk6 := hrk4.below hb6 hrk4.lt
  have hw6 := hw4.trans (hb6.mono hw4.size)
  clear hb6 hw4 hp5 hr14 hrk4
  go_wp2_with fail
  refine (eqI_any _ _ n c6' c1' z z _ (rd_of hr6) (rd_of hr16) (fun _ _ => rfl) hn).mono ?_
  rintro e w7 ⟨rfl, m7, rfl⟩
  go_wp2_with fail
  refine (held_any _ n c2' b2 1 (w6.drewN m7) (fun _ => ⟨rfl, hrk6⟩) hn (by omega) (by omega)).mono ?_
  rintro e w8 ⟨rfl, rfl⟩
  go_wp2_with fail
  go_ret
  exact ⟨rfl, below_drewN hw6 m7⟩

theorem lawReadDoc (s : ByteArray) (w : World) (hE : ErrOk w) (hM : LenOk w) (hp : Hid (Pow w w.heap.size)) :
    Calls Tryd.prog 3 #[.string s] w fun e w' => e = .returned (.bool true) ∧ Below w.heap.size w w' := by
  by_cases hbig : (1048576 : Int) < (s.size : Int)
  · go_enter Tryd.func3, Tryd.ntmps3
    go_wp2_with fail
    go_ret
    exact ⟨rfl, Below.refl _ _⟩
  · by_cases h : ∃ n z, docB n z = true ∧ s = docS n z
    · obtain ⟨n, z, hd, rfl⟩ := h
      exact lawRead_yes n z w hd hE hM hp
    · exact lawRead_no s w (by omega) (fun n z hd e => h ⟨n, z, hd, e⟩) hE hM hp
end Go.Proofs.YtifjbljfpmkmdaaDoor
