/- LeafOf on both sides, and the walk of its exact law. -/
import Derived.Test.YtodcalghnoiaeaaTreeL
namespace Go.Proofs.Ytodcalghnoiaeaa
open Go.RowKit Go.Deep

theorem iLeaf_no (A D : Option Addr) (n cap f dc : Nat) (g : Nat → Nd) (z : Nat → Int) (w : World) (h : RdN w w.heap.size A n g) (hd : Rd w w.heap.size D f z) (hn : n ≤ 4194304) (hf : f ≤ 4194304) (hno : (docB f z && treeB g n f) = false) :
    Calls Try.prog 40 #[.slice A n cap, .slice D f dc] w fun e w' => e = .returned (.int .i64 (-1)) ∧ Below w.heap.size w w' := by
  have HN := hid hno
  clear hno
  go_enter Try.func40, Try.ntmps40
  go_wp2_with fail
  refine (iPath_no A D n cap f dc g z _ h hd hn hf HN.out).mono ?_
  rintro e w1 ⟨rfl, hb⟩
  go_wp2_with fail
  go_ret
  exact ⟨rfl, hb⟩

/-- What LeafOf gives for a tree and a document that fit. -/
def LeafPost (g : Nat → Nd) (z : Nat → Int) (w : World) (e : Ending) (w' : World) : Prop :=
  ∃ T, Ends g z T ∧ e = .returned (.int .i64 (seqZ g z T)) ∧ Below w.heap.size w w'

set_option maxHeartbeats 1000000 in
theorem iLeaf_yes (A D : Option Addr) (n cap f dc : Nat) (g : Nat → Nd) (z : Nat → Int) (w : World) (h : RdN w w.heap.size A n g) (hd : Rd w w.heap.size D f z) (hn : n ≤ 4194304) (h1 : docB f z = true) (h2 : treeB g n f = true) :
    Calls Try.prog 40 #[.slice A n cap, .slice D f dc] w (LeafPost g z w) := by
  have H1 := hid h1
  have H2 := hid h2
  clear h1 h2
  go_enter Try.func40, Try.ntmps40
  go_wp2_with fail
  refine (iPath_yes A D n cap f dc g z _ h hd hn H1.out H2.out).mono ?_
  rintro e w1 ⟨T, b, c, hE, hT, rfl, hl, hr, hb⟩
  have hc := hr.cell (i := T) (by omega)
  have HE := hid hE
  have q1 : (T : Int) < 15 := by omega
  have q2 : (((T + 1 : Nat) : Int) == 0) = false := by simp; omega
  clear hE
  go_wp2_with fail
  go_ret
  exact ⟨T, HE.out, rfl, hb⟩

set_option maxHeartbeats 2000000 in
theorem l2Leaf_any (A D : Option Addr) (n cap f dc : Nat) (g : Nat → Nd) (z : Nat → Int) (w : World) (h : RdN w w.heap.size A n g) (hd : Rd w w.heap.size D f z) (h2 : treeB g n f = true) :
    Calls Try.prog 68 #[.slice A n cap, .slice D f dc] w (LeafPost g z w) := by
  have hT := (treeB_iff g n f).1 h2
  have hn1 : 0 < n ∧ n ≤ 15 := by have := hT.2.1; omega
  have hu := hT.up
  have HU := hid hu
  have HT := hid hT
  clear h2 hT hu
  obtain ⟨hn0, hn15⟩ := hn1
  go_enter Try.func68, Try.ntmps68
  go_wp2_with fail
  go_loopw [5] (fun i wr => ∃ t : Nat, i = .int .i64 ((itr g z t : Nat) : Int) ∧ Hid (∀ s, s < t → (g (itr g z s)).left ≠ 0) ∧ Below w.heap.size w wr)
    (fun i _ => n - (intOf i).toNat)
  case atStart => exact ⟨0, rfl, fun s hs => by omega, Below.refl _ _⟩
  case round =>
    obtain ⟨t, rfl, hst, hbl⟩ := hrel
    obtain ⟨ht1, ht2⟩ := itr_up z HU.out hn0 t hst.out
    have hnext : itr g z (t + 1) = nxt g z (itr g z t) := rfl
    generalize hat : itr g z t = a at ht1 ht2 hnext ⊢
    obtain ⟨b, off, rfl, hbb, c0, c1, c2, c3, c4, c5⟩ := (h.below hbl).at_ ht2
    have hl : (a : Int) < (n : Int) := by omega
    have hl0 : (0 : Int) ≤ (a : Int) := by omega
    by_cases h0 : (g a).left = 0
    · have q0 : ¬ 0 < (g a).left := by omega
      have HE : Hid (Ends g z t) := ⟨hst.out, by rw [hat]; exact h0⟩
      have HAT := hid hat
      clear h0 hat hnext
      go_wp2_with fail
      go_ret
      exact ⟨t, HE.out, by unfold seqZ; rw [HAT.out]; rfl, hbl⟩
    · have hk := HU.out a ht2 h0
      obtain ⟨f0, f1⟩ := split_feat (HT.out.2.2 a ht2).1 h0
      have q0 : 0 < (g a).left := by omega
      obtain ⟨k, hk'⟩ := Int.eq_ofNat_of_zero_le f0
      have hkf : k < f := by omega
      rw [hk'] at c0
      have HN := hid (nxI_nxt (z := z) HU.out ht2 h0 hk')
      have HETA := hid (nd_eta hk')
      have HST : Hid (∀ s, s < t + 1 → (g (itr g z s)).left ≠ 0) := fun s hs => by
        by_cases e : s = t
        · subst e; rw [hat]; exact h0
        · exact hst.out s (by omega)
      obtain ⟨hna, hnn⟩ := nxt_up z HU.out ht2 h0
      have HX := hid hnext
      clear h0 hat hk' hk f0 f1 hnext hst
      have hdr := hd.to hbl hbl.size
      go_wp2_with fail
      refine (l2Next_any k (g a).cut (g a).left (g a).right (g a).miss (g a).value D f dc z _ hdr hkf).mono ?_
      rintro e w2 ⟨rfl, hb2⟩
      rw [HETA.out, HN.out]
      have hbl2 := hbl.trans (hb2.mono hbl.size)
      clear hb2 hbl c0 c1 c2 c3 c4 c5 HN HETA hdr
      go_wp2_with fail
      go_roundw
      case rel => exact ⟨t + 1, by rw [HX.out], HST, hbl2⟩
      case measure => simp [intOf]; omega

theorem sLeaf_no (A D : Option Addr) (n cap f dc : Nat) (g : Nat → Nd) (z : Nat → Int) (w : World) (h : RdN w w.heap.size A n g) (hd : Rd w w.heap.size D f z) (hn : n ≤ 4194304) (hf : f ≤ 4194304) (hno : (docB f z && treeB g n f) = false) :
    Calls Try.prog 39 #[.slice A n cap, .slice D f dc] w fun e w' => e = .returned (.int .i64 (-1)) ∧ Below w.heap.size w w' := by
  rcases path_false hno with h1 | ⟨h1, h2⟩
  · have H1 := hid h1
    clear h1 hno
    go_enter Try.func39, Try.ntmps39
    go_wp2_with fail
    refine (sDocOk_any D f dc z _ hd hf).mono ?_
    rintro e w1 ⟨rfl, rfl⟩
    rw [H1.out]
    go_wp2_with fail
    go_ret
    exact ⟨rfl, Below.refl _ _⟩
  · have H1 := hid h1
    have H2 := hid h2
    clear h1 h2 hno
    go_enter Try.func39, Try.ntmps39
    go_wp2_with fail
    refine (sDocOk_any D f dc z _ hd hf).mono ?_
    rintro e w1 ⟨rfl, rfl⟩
    rw [H1.out]
    go_wp2_with fail
    refine (sTreeOk_any A n cap g f _ h hn).mono ?_
    rintro e w1 ⟨rfl, hb⟩
    rw [H2.out]
    go_wp2_with fail
    go_ret
    exact ⟨rfl, hb⟩
theorem sLeaf_yes (A D : Option Addr) (n cap f dc : Nat) (g : Nat → Nd) (z : Nat → Int) (w : World) (h : RdN w w.heap.size A n g) (hd : Rd w w.heap.size D f z) (hn : n ≤ 4194304) (hf : f ≤ 4194304) (h1 : docB f z = true) (h2 : treeB g n f = true) :
    Calls Try.prog 39 #[.slice A n cap, .slice D f dc] w (LeafPost g z w) := by
  have H1 := hid h1
  have H2 := hid h2
  clear h1 h2
  go_enter Try.func39, Try.ntmps39
  go_wp2_with fail
  refine (sDocOk_any D f dc z _ hd hf).mono ?_
  rintro e w1 ⟨rfl, rfl⟩
  rw [H1.out]
  go_wp2_with fail
  refine (sTreeOk_any A n cap g f _ h hn).mono ?_
  rintro e w1 ⟨rfl, hb⟩
  rw [H2.out]
  go_wp2_with fail
  refine (l2Leaf_any A D n cap f dc g z _ (h.to hb hb.size) (hd.to hb hb.size) H2.out).mono ?_
  rintro e w2 ⟨T, hE, rfl, hb2⟩
  have HE := hid hE
  clear hE
  go_wp2_with fail
  go_ret
  exact ⟨T, HE.out, rfl, hb.trans (hb2.mono hb.size)⟩

set_option maxHeartbeats 2000000 in
theorem lawLeafOf (A D : Option Addr) (n cap f dc : Nat) (g : Nat → Nd) (z : Nat → Int) (w : World) (h : RdN w w.heap.size A n g) (hd : Rd w w.heap.size D f z) (hn : n ≤ 9223372036854775807) :
    Calls Try.prog 8 #[.slice A n cap, .slice D f dc] w fun e w' => e = .returned (.bool true) ∧ Below w.heap.size w w' := by
  by_cases hf : (1048576 : Int) < (f : Int)
  · go_enter Try.func8, Try.ntmps8
    go_wp2_with fail
    go_ret
    exact ⟨rfl, Below.refl _ _⟩
  by_cases hbig : (1048576 : Int) - (n : Int) < 0
  · go_enter Try.func8, Try.ntmps8
    go_wp2_with fail
    refine (szN_big A n cap 1048576 _ hn (by omega) (by omega) (by omega)).mono ?_
    rintro e w1 ⟨rfl, rfl⟩
    go_wp2_with fail
    go_ret
    exact ⟨rfl, Below.refl _ _⟩
  have hm : n ≤ 4194304 := by omega
  have hfm : f ≤ 4194304 := by omega
  cases hno : (docB f z && treeB g n f)
  · have HN := hid hno
    clear hno
    go_enter Try.func8, Try.ntmps8
    go_wp2_with fail
    refine (szN_ok A n cap 1048576 _ (by omega) (by omega) (by omega) (by omega)).mono ?_
    rintro e w1 ⟨rfl, rfl⟩
    go_wp2_with fail
    refine (toN_any A n cap g _ h hm).mono ?_
    rintro e w1 ⟨b1, rfl, _, hr1, hb1⟩
    go_wp2_with fail
    refine (toI_any D f dc z _ (hd.to hb1 hb1.size) hfm).mono ?_
    rintro e w2 ⟨b2, rfl, _, hr2, hb2⟩
    have hr1' := hr1.below hb2 hr1.lt
    have hw2 := hb1.trans (hb2.mono hb1.size)
    clear hb1 hb2 hr1
    go_wp2_with fail
    refine (sLeaf_no _ _ n n f f g z _ (rdN_of hr1') (hr2.rd hr2.lt) hm hfm HN.out).mono ?_
    rintro e w3 ⟨rfl, hb3⟩
    have hw3 := hw2.trans (hb3.mono hw2.size)
    clear hb3 hw2 hr1' hr2
    go_wp2_with fail
    refine (toN_any A n cap g _ (h.to hw3 hw3.size) hm).mono ?_
    rintro e w4 ⟨b4, rfl, _, hr4, hb4⟩
    have hw4 := hw3.trans (hb4.mono hw3.size)
    clear hb4 hw3
    go_wp2_with fail
    refine (toI_any D f dc z _ (hd.to hw4 hw4.size) hfm).mono ?_
    rintro e w5 ⟨b5, rfl, _, hr5, hb5⟩
    have hr4' := hr4.below hb5 hr4.lt
    have hw5 := hw4.trans (hb5.mono hw4.size)
    clear hb5 hw4 hr4
    go_wp2_with fail
    refine (iLeaf_no _ _ n n f f g z _ (rdN_of hr4') (hr5.rd hr5.lt) hm hfm HN.out).mono ?_
    rintro e w6 ⟨rfl, hb6⟩
    have hr4 := hr4'.below hb6 hr4'.lt
    have hr6 := hr5.below hb6 hr5.lt
    have hw6 := hw5.trans (hb6.mono hw5.size)
    clear hb6 hw5 hr4' hr5
    go_wp2_with fail
    refine (toN_any A n cap g _ (h.to hw6 hw6.size) hm).mono ?_
    rintro e w8 ⟨b8, rfl, _, hr8, hb8⟩
    have hr4' := hr4.below hb8 hr4.lt
    have hr6' := hr6.below hb8 hr6.lt
    have hw8 := hw6.trans (hb8.mono hw6.size)
    clear hb8 hw6 hr4 hr6
    go_wp2_with fail
    refine (eqN_any _ _ n n n g _ (rdN_of hr4') (rdN_of hr8) hm).mono ?_
    rintro e w9 ⟨rfl, hb9⟩
    have hr6 := hr6'.below hb9 hr6'.lt
    have hw9 := hw8.trans (hb9.mono hw8.size)
    clear hb9 hw8 hr4' hr6' hr8
    go_wp2_with fail
    refine (toI_any D f dc z _ (hd.to hw9 hw9.size) hfm).mono ?_
    rintro e w10 ⟨b10, rfl, _, hr10, hb10⟩
    have hr6' := hr6.below hb10 hr6.lt
    have hw10 := hw9.trans (hb10.mono hw9.size)
    clear hb10 hw9 hr6
    go_wp2_with fail
    refine (eqI_any _ _ f f f z z _ (hr6'.rd hr6'.lt) (hr10.rd hr10.lt) (fun _ _ => rfl) hfm).mono ?_
    rintro e w11 ⟨rfl, m11, rfl⟩
    go_wp2_with fail
    go_ret
    exact ⟨rfl, below_drewN hw10 m11⟩
  · simp only [Bool.and_eq_true] at hno
    have H1 := hid hno.1
    have H2 := hid hno.2
    clear hno
    go_enter Try.func8, Try.ntmps8
    go_wp2_with fail
    refine (szN_ok A n cap 1048576 _ (by omega) (by omega) (by omega) (by omega)).mono ?_
    rintro e w1 ⟨rfl, rfl⟩
    go_wp2_with fail
    refine (toN_any A n cap g _ h hm).mono ?_
    rintro e w1 ⟨b1, rfl, _, hr1, hb1⟩
    go_wp2_with fail
    refine (toI_any D f dc z _ (hd.to hb1 hb1.size) hfm).mono ?_
    rintro e w2 ⟨b2, rfl, _, hr2, hb2⟩
    have hr1' := hr1.below hb2 hr1.lt
    have hw2 := hb1.trans (hb2.mono hb1.size)
    clear hb1 hb2 hr1
    go_wp2_with fail
    refine (sLeaf_yes _ _ n n f f g z _ (rdN_of hr1') (hr2.rd hr2.lt) hm hfm H1.out H2.out).mono ?_
    rintro e w3 ⟨T, hE, rfl, hb3⟩
    have HE := hid hE
    have hw3 := hw2.trans (hb3.mono hw2.size)
    clear hb3 hw2 hr1' hr2 hE
    go_wp2_with fail
    refine (toN_any A n cap g _ (h.to hw3 hw3.size) hm).mono ?_
    rintro e w4 ⟨b4, rfl, _, hr4, hb4⟩
    have hw4 := hw3.trans (hb4.mono hw3.size)
    clear hb4 hw3
    go_wp2_with fail
    refine (toI_any D f dc z _ (hd.to hw4 hw4.size) hfm).mono ?_
    rintro e w5 ⟨b5, rfl, _, hr5, hb5⟩
    have hr4' := hr4.below hb5 hr4.lt
    have hw5 := hw4.trans (hb5.mono hw4.size)
    clear hb5 hw4 hr4
    go_wp2_with fail
    refine (iLeaf_yes _ _ n n f f g z _ (rdN_of hr4') (hr5.rd hr5.lt) hm H1.out H2.out).mono ?_
    rintro e w6 ⟨T', hE', rfl, hb6⟩
    obtain rfl := HE.out.same hE'
    have hr4 := hr4'.below hb6 hr4'.lt
    have hr6 := hr5.below hb6 hr5.lt
    have hw6 := hw5.trans (hb6.mono hw5.size)
    clear hb6 hw5 hr4' hr5 hE'
    go_wp2_with fail
    refine (toN_any A n cap g _ (h.to hw6 hw6.size) hm).mono ?_
    rintro e w8 ⟨b8, rfl, _, hr8, hb8⟩
    have hr4' := hr4.below hb8 hr4.lt
    have hr6' := hr6.below hb8 hr6.lt
    have hw8 := hw6.trans (hb8.mono hw6.size)
    clear hb8 hw6 hr4 hr6
    go_wp2_with fail
    refine (eqN_any _ _ n n n g _ (rdN_of hr4') (rdN_of hr8) hm).mono ?_
    rintro e w9 ⟨rfl, hb9⟩
    have hr6 := hr6'.below hb9 hr6'.lt
    have hw9 := hw8.trans (hb9.mono hw8.size)
    clear hb9 hw8 hr4' hr6' hr8
    go_wp2_with fail
    refine (toI_any D f dc z _ (hd.to hw9 hw9.size) hfm).mono ?_
    rintro e w10 ⟨b10, rfl, _, hr10, hb10⟩
    have hr6' := hr6.below hb10 hr6.lt
    have hw10 := hw9.trans (hb10.mono hw9.size)
    clear hb10 hw9 hr6
    go_wp2_with fail
    refine (eqI_any _ _ f f f z z _ (hr6'.rd hr6'.lt) (hr10.rd hr10.lt) (fun _ _ => rfl) hfm).mono ?_
    rintro e w11 ⟨rfl, m11, rfl⟩
    go_wp2_with fail
    go_ret
    exact ⟨rfl, below_drewN hw10 m11⟩
end Go.Proofs.Ytodcalghnoiaeaa
