/- LeafOf on both sides, and the walk of its exact law. -/
import Derived.Test.YtmpgefpaoogoiaaTreeL
namespace Go.Proofs.Ytmpgefpaoogoiaa
open Go.RowKit Go.Deep

theorem iLeaf_no (A D : Option Addr) (n cap f dc : Nat) (g : Nat → Nd) (z : Nat → Int) (w : World) (h : RdN w w.heap.size A n g) (hd : Rd w w.heap.size D f z) (hn : n ≤ 4194304) (hf : f ≤ 4194304) (hno : (docB f z && treeB g n f) = false) :
    Calls Try.prog 112 #[.slice A n cap, .slice D f dc] w fun e w' => e = .returned (.int .i64 (-1)) ∧ Below w.heap.size w w' := by
  have HN := hid hno
  clear hno
  go_enter Try.func112, Try.ntmps112
  go_wp2_with fail
  refine (iPath_no A D n cap f dc g z _ h hd hn hf HN.out).mono ?_
  rintro e w1 ⟨rfl, hb⟩
  go_wp2_with fail
  go_ret
  exact ⟨rfl, hb⟩

/-- What LeafOf gives for a tree and a document that fit. -/
def LeafPost (g : Nat → Nd) (z : Nat → Int) (w : World) (e : Ending) (w' : World) : Prop :=
  ∃ T, Ends g z T ∧ e = .returned (.int .i64 (seqZ g z T)) ∧ Below w.heap.size w w'

set_option maxHeartbeats 1000000 in
theorem iLeaf_yes (A D : Option Addr) (n cap f dc : Nat) (g : Nat → Nd) (z : Nat → Int) (w : World) (h : RdN w w.heap.size A n g) (hd : Rd w w.heap.size D f z) (hn : n ≤ 4194304) (h1 : docB f z = true) (h2 : treeB g n f = true) :
    Calls Try.prog 112 #[.slice A n cap, .slice D f dc] w (LeafPost g z w) := by
  have H1 := hid h1
  have H2 := hid h2
  clear h1 h2
  go_enter Try.func112, Try.ntmps112
  go_wp2_with fail
  refine (iPath_yes A D n cap f dc g z _ h hd hn H1.out H2.out).mono ?_
  rintro e w1 ⟨T, b, c, hE, hT, rfl, hl, hr, hb⟩
  have hc := hr.cell (i := T) (by omega)
  have HE := hid hE
  have q1 : (T : Int) < 15 := by omega
  have q2 : (((T + 1 : Nat) : Int) == 0) = false := by simp; omega
  clear hE
  go_wp2_with fail
  go_ret
  exact ⟨T, HE.out, rfl, hb⟩

set_option maxHeartbeats 2000000 in
theorem l2Leaf_any (A D : Option Addr) (n cap f dc : Nat) (g : Nat → Nd) (z : Nat → Int) (w : World) (h : RdN w w.heap.size A n g) (hd : Rd w w.heap.size D f z) (h2 : treeB g n f = true) :
    Calls Try.prog 142 #[.slice A n cap, .slice D f dc] w (LeafPost g z w) := by
  have hT := (treeB_iff g n f).1 h2
  have hn1 : 0 < n ∧ n ≤ 15 := by have := hT.2.1; omega
  have hu := hT.up
  have HU := hid hu
  have HT := hid hT
  clear h2 hT hu
  obtain ⟨hn0, hn15⟩ := hn1
  go_enter Try.func142, Try.ntmps142
  go_wp2_with fail
  go_loopw [5] (fun i wr => ∃ t : Nat, i = .int .i64 ((itr g z t : Nat) : Int) ∧ Hid (∀ s, s < t → (g (itr g z s)).left ≠ 0) ∧ Below w.heap.size w wr)
    (fun i _ => n - (intOf i).toNat)
  case atStart => exact ⟨0, rfl, fun s hs => by omega, Below.refl _ _⟩
  case round =>
    obtain ⟨t, rfl, hst, hbl⟩ := hrel
    obtain ⟨ht1, ht2⟩ := itr_up z HU.out hn0 t hst.out
    have hnext : itr g z (t + 1) = nxt g z (itr g z t) := rfl
    generalize hat : itr g z t = a at ht1 ht2 hnext ⊢
    obtain ⟨b, off, rfl, hbb, c0, c1, c2, c3, c4, c5⟩ := (h.below hbl).at_ ht2
    have hl : (a : Int) < (n : Int) := by omega
    have hl0 : (0 : Int) ≤ (a : Int) := by omega
    by_cases h0 : (g a).left = 0
    · have q0 : ¬ 0 < (g a).left := by omega
      have HE : Hid (Ends g z t) := ⟨hst.out, by rw [hat]; exact h0⟩
      have HAT := hid hat
      clear h0 hat hnext
      go_wp2_with fail
      go_ret
      exact ⟨t, HE.out, by unfold seqZ; rw [HAT.out]; rfl, hbl⟩
    · have hk := HU.out a ht2 h0
      obtain ⟨f0, f1⟩ := split_feat (HT.out.2.2 a ht2).1 h0
      have q0 : 0 < (g a).left := by omega
      obtain ⟨k, hk'⟩ := Int.eq_ofNat_of_zero_le f0
      have hkf : k < f := by omega
      rw [hk'] at c0
      have HN := hid (nxI_nxt (z := z) HU.out ht2 h0 hk')
      have HETA := hid (nd_eta hk')
      have HST : Hid (∀ s, s < t + 1 → (g (itr g z s)).left ≠ 0) := fun s hs => by
        by_cases e : s = t
        · subst e; rw [hat]; exact h0
        · exact hst.out s (by omega)
      obtain ⟨hna, hnn⟩ := nxt_up z HU.out ht2 h0
      have HX := hid hnext
      clear h0 hat hk' hk f0 f1 hnext hst
      have hdr := hd.to hbl hbl.size
      go_wp2_with fail
      refine (l2Next_any k (g a).cut (g a).left (g a).right (g a).miss (g a).value D f dc z _ hdr hkf).mono ?_
      rintro e w2 ⟨rfl, hb2⟩
      rw [HETA.out, HN.out]
      have hbl2 := hbl.trans (hb2.mono hbl.size)
      clear hb2 hbl c0 c1 c2 c3 c4 c5 HN HETA hdr
      go_wp2_with fail
      go_roundw
      case rel => exact ⟨t + 1, by rw [HX.out], HST, hbl2⟩
      case measure => simp [intOf]; omega

end Go.Proofs.Ytmpgefpaoogoiaa
