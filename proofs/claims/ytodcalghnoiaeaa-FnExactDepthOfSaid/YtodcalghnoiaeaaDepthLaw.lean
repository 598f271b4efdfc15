/- The walk of the exact law of DepthOf. -/
import Derived.Test.YtodcalghnoiaeaaTreeI
namespace Go.Proofs.Ytodcalghnoiaeaa
open Go.RowKit Go.Deep
set_option maxHeartbeats 1000000 in
theorem lawDepthOf (A : Option Addr) (n cap : Nat) (g : Nat → Nd) (w : World) (h : RdN w w.heap.size A n g) (hn : n ≤ 9223372036854775807) :
    Calls Try.prog 10 #[.slice A n cap] w fun e w' => e = .returned (.bool true) ∧ Below w.heap.size w w' := by
  by_cases hbig : (1048576 : Int) - (n : Int) < 0
  · go_enter Try.func10, Try.ntmps10
    go_wp2_with fail
    refine (szN_big A n cap 1048576 _ hn (by omega) (by omega) (by omega)).mono ?_
    rintro e w1 ⟨rfl, rfl⟩
    go_wp2_with fail
    go_ret
    exact ⟨rfl, Below.refl _ _⟩
  have hm : n ≤ 4194304 := by omega
  cases ht : treeB g n 6
  all_goals
    have HT := hid ht
    clear ht
    go_enter Try.func10, Try.ntmps10
    go_wp2_with fail
    refine (szN_ok A n cap 1048576 _ hn (by omega) (by omega) (by omega)).mono ?_
    rintro e w1 ⟨rfl, rfl⟩
    go_wp2_with fail
    refine (toN_any A n cap g _ h hm).mono ?_
    rintro e w1 ⟨b1, rfl, _, hr1, hb1⟩
    go_wp2_with fail
    first
      | refine (sDepth_no _ n n g _ (rdN_of hr1) hm HT.out).mono ?_
      | refine (sDepth_yes _ n n g _ (rdN_of hr1) hm HT.out).mono ?_
    rintro e w2 ⟨rfl, hb2⟩
    have hw2 := hb1.trans (hb2.mono hb1.size)
    clear hb1 hb2 hr1
    go_wp2_with fail
    refine (toN_any A n cap g _ (h.to hw2 hw2.size) hm).mono ?_
    rintro e w3 ⟨b3, rfl, _, hr3, hb3⟩
    have hw3 := hw2.trans (hb3.mono hw2.size)
    clear hb3 hw2
    go_wp2_with fail
    first
      | refine (iDepth_no _ n n g _ (rdN_of hr3) hm HT.out).mono ?_
      | refine (iDepth_yes _ n n g _ (rdN_of hr3) hm HT.out).mono ?_
    rintro e w4 ⟨rfl, hb4⟩
    have hr4 := hr3.below hb4 hr3.lt
    have hw4 := hw3.trans (hb4.mono hw3.size)
    clear hr3 hb4 hw3
    go_wp2_with fail
    refine (toN_any A n cap g _ (h.to hw4 hw4.size) hm).mono ?_
    rintro e w5 ⟨b5, rfl, _, hr5, hb5⟩
    have hr6 := hr4.below hb5 hr4.lt
    have hw5 := hw4.trans (hb5.mono hw4.size)
    clear hr4 hb5 hw4
    go_wp2_with fail
    refine (eqN_any _ _ n n n g _ (rdN_of hr6) (rdN_of hr5) hm).mono ?_
    rintro e w6 ⟨rfl, hb6⟩
    go_wp2_with fail
    go_ret
    exact ⟨rfl, hw5.trans (hb6.mono hw5.size)⟩
end Go.Proofs.Ytodcalghnoiaeaa
