/- The walk of the law of two numbers changed in drawn documents. -/
import Derived.Test.YtodcalghnoiaeaaGoneLaw
import Derived.Test.YtodcalghnoiaeaaSame
namespace Go.Proofs.Ytodcalghnoiaeaa
open Go.RowKit Go.Deep

theorem bs_to {w w' : World} {A : Option Addr} {n : Nat} (h : Bs w w.heap.size A n) (hb : Below w.heap.size w w') : Bs w' w'.heap.size A n := (h.keep fun _ hp => hb.cell hp).more hb.size

set_option maxHeartbeats 4000000 in
theorem lawDocTwo (A M : Option Addr) (n cap n' cap' : Nat) (w : World) (h : Bs w w.heap.size A n) (h' : Bs w w.heap.size M n') :
    Calls Try.prog 13 #[.slice A n cap, .slice M n' cap'] w fun e w' => e = .returned (.bool true) ∧ Below w.heap.size w w' := by
  by_cases hbig : (1048576 : Int) < (n : Int)
  · go_enter Try.func13, Try.ntmps13
    go_wp2_with fail
    refine (big_yes A n cap _ hbig).mono ?_
    rintro e w1 ⟨rfl, rfl⟩
    go_wp2_with fail
    go_ret
    exact ⟨rfl, Below.refl _ _⟩
  · by_cases hbig' : (1048576 : Int) < (n' : Int)
    · go_enter Try.func13, Try.ntmps13
      go_wp2_with fail
      refine (big_no A n cap _ (by omega)).mono ?_
      rintro e w0 ⟨rfl, rfl⟩
      go_wp2_with fail
      refine (big_yes M n' cap' _ (by omega)).mono ?_
      rintro e w1 ⟨rfl, rfl⟩
      go_wp2_with fail
      go_ret
      exact ⟨rfl, Below.refl _ _⟩
    · have hn : n ≤ 4194304 := by omega
      have hn' : n' ≤ 4194304 := by omega
      go_enter Try.func13, Try.ntmps13
      go_wp2_with fail
      refine (big_no A n cap _ (by omega)).mono ?_
      rintro e w0 ⟨rfl, rfl⟩
      go_wp2_with fail
      refine (big_no M n' cap' _ (by omega)).mono ?_
      rintro e w0 ⟨rfl, rfl⟩
      go_wp2_with fail
      refine (drawDocWith A n cap _ h hn).mono ?_
      rintro e w1 ⟨m, z, D, c, i, x, hm, rfl, hr1, hb1⟩
      have hm' : m ≤ 4194304 := by omega
      go_wp2_with fail
      refine (drawDocWith M n' cap' _ (bs_to h' hb1) hn').mono ?_
      rintro e w2 ⟨m2, z2, D2, c2, k, y, _, rfl, _, hb2⟩
      have hr2 := hr1.to hb2 hb2.size
      have hw2 := hb1.trans (hb2.mono hb1.size)
      clear hb2 hr1 hb1
      cases hno : withB m z i x with
      | false =>
        have HN := hid hno
        clear hno
        go_wp2_with fail
        refine (iWith_no D m c z i x _ hr2 hm' HN.out).mono ?_
        rintro e w3 ⟨rfl, hb3⟩
        have hr3 := hr2.to hb3 hb3.size
        have hw3 := hw2.trans (hb3.mono hw2.size)
        clear hb3 hr2 hw2
        go_wp2_with fail
        refine (sWith_no D m c z i x _ hr3 hm' HN.out).mono ?_
        rintro e w4 ⟨rfl, rfl⟩
        go_wp2_with fail
        refine (iWith_no none 0 0 nul k y _ rd_none (by omega) (by simp [withB, docB])).mono ?_
        rintro e w5 ⟨rfl, hb5⟩
        go_wp2_with fail
        go_ret
        exact ⟨rfl, hw3.trans (hb5.mono hw3.size)⟩
      | true =>
        simp only [withB, Bool.and_eq_true, decide_eq_true_eq] at hno
        obtain ⟨hd, ⟨h0, hi⟩, hx⟩ := hno
        obtain ⟨i, rfl⟩ := Int.eq_ofNat_of_zero_le h0
        have hk : i < m := by omega
        have hu := docB_upd (i := i) hd hx
        have HD := hid hd
        have HX := hid hx
        have HU := hid hu
        clear hd hx hu
        go_wp2_with fail
        refine (iWith_yes D m c i z x _ hr2 HD.out hk HX.out).mono ?_
        rintro e w3 ⟨b3, rfl, hl3, hrow3, hb3⟩
        have hr3 := hr2.to hb3 hb3.size
        have hw3 := hw2.trans (hb3.mono hw2.size)
        clear hb3 hr2 hw2
        go_wp2_with fail
        refine (sWith_yes D m c i z x _ hr3 HD.out hk HX.out).mono ?_
        rintro e w4 ⟨b4, c4, rfl, hl4, hrow4, hb4⟩
        have hr4 := hr3.to hb4 hb4.size
        have hrow3' := hrow3.below hb4 hrow3.lt
        have hw4 := hw3.trans (hb4.mono hw3.size)
        clear hb4 hr3 hw3 hrow3 hrow4
        cases hno : withB m (upd z i x) k y with
        | false =>
          have HN := hid hno
          clear hno
          go_wp2_with fail
          refine (iWith_no _ m m (upd z i x) k y _ (rd_of hrow3') hm' HN.out).mono ?_
          rintro e w5 ⟨rfl, hb5⟩
          go_wp2_with fail
          go_ret
          exact ⟨rfl, hw4.trans (hb5.mono hw4.size)⟩
        | true =>
          simp only [withB, Bool.and_eq_true, decide_eq_true_eq] at hno
          obtain ⟨_, ⟨h0', hi'⟩, hy⟩ := hno
          obtain ⟨k, rfl⟩ := Int.eq_ofNat_of_zero_le h0'
          have hk' : k < m := by omega
          have HY := hid hy
          have HV := hid (docB_upd (i := k) HD.out hy)
          clear hy
          go_wp2_with fail
          refine (iWith_yes _ m m k (upd z i x) y _ (rd_of hrow3') HU.out hk' HY.out).mono ?_
          rintro e w5 ⟨b5, rfl, hl5, hrow5, hb5⟩
          have hr5 := hr4.to hb5 hb5.size
          have hw5 := hw4.trans (hb5.mono hw4.size)
          clear hb5 hr4 hw4 hrow3'
          by_cases hik : i = k
          · subst hik
            go_wp2_with fail
            go_ret
            exact ⟨rfl, hw5⟩
          · have hik' : ¬ (i : Int) = (k : Int) := by omega
            go_wp2_with fail
            refine (iWith_yes D m c k z y _ hr5 HD.out hk' HY.out).mono ?_
            rintro e w6 ⟨b6, rfl, hl6, hrow6, hb6⟩
            have hrow5' := hrow5.below hb6 hrow5.lt
            have hw6 := hw5.trans (hb6.mono hw5.size)
            clear hb6 hr5 hw5 hrow5
            go_wp2_with fail
            refine (iWith_yes _ m m i (upd z k y) x _ (rd_of hrow6) HV.out hk HX.out).mono ?_
            rintro e w7 ⟨b7, rfl, hl7, hrow7, hb7⟩
            have hrow5'' := hrow5'.below hb7 hrow5'.lt
            have hw7 := hw6.trans (hb7.mono hw6.size)
            clear hb7 hw6 hrow5' hrow6
            go_wp2_with fail
            refine (same_any _ _ m m m (upd (upd z i x) k y) (upd (upd z k y) i x) _ (rd_of hrow5'') (rd_of hrow7) (fun j _ => by unfold upd; split <;> split <;> first | rfl | omega) hm').mono ?_
            rintro e w8 ⟨rfl, m8, rfl⟩
            go_wp2_with fail
            go_ret
            exact ⟨by simp, below_drewN hw7 m8⟩
end Go.Proofs.Ytodcalghnoiaeaa
