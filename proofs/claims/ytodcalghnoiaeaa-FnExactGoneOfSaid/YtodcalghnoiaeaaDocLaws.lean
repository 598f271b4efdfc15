/- The walks of the exact laws of DocOk and GoneOf. -/
import Derived.Test.YtodcalghnoiaeaaDocD
namespace Go.Proofs.Ytodcalghnoiaeaa
open Go.RowKit Go.Deep

set_option maxHeartbeats 1000000 in
theorem lawDocOk (A : Option Addr) (n cap : Nat) (z : Nat → Int) (w : World) (h : Rd w w.heap.size A n z) :
    Calls Try.prog 3 #[.slice A n cap] w fun e w' => e = .returned (.bool true) ∧ Below w.heap.size w w' := by
  by_cases hbig : (1048576 : Int) < (n : Int)
  · go_enter Try.func3, Try.ntmps3
    go_wp2_with fail
    go_ret
    exact ⟨rfl, Below.refl _ _⟩
  · have hm : n ≤ 4194304 := by omega
    go_enter Try.func3, Try.ntmps3
    go_wp2_with fail
    refine (toI_any A n cap z _ h hm).mono ?_
    rintro e w1 ⟨b1, rfl, _, hr1, hb1⟩
    go_wp2_with fail
    refine (sDocOk_any _ n n z _ (hr1.rd hr1.lt) hm).mono ?_
    rintro e w1' ⟨rfl, rfl⟩
    go_wp2_with fail
    refine (toI_any A n cap z _ (h.to hb1 hb1.size) hm).mono ?_
    rintro e w2 ⟨b2, rfl, _, hr2, hb2⟩
    go_wp2_with fail
    refine (iDocOk_any _ n n z _ (hr2.rd hr2.lt) hm).mono ?_
    rintro e w3 ⟨rfl, hb3⟩
    have hr3 := hr2.below hb3 hr2.lt
    have hw3 := (hb1.trans (hb2.mono hb1.size)).trans (hb3.mono (Nat.le_trans hb1.size hb2.size))
    clear hr2 hb1 hb2 hb3 hr1
    go_wp2_with fail
    refine (toI_any A n cap z _ (h.to hw3 hw3.size) hm).mono ?_
    rintro e w4 ⟨b4, rfl, _, hr4, hb4⟩
    go_wp2_with fail
    refine (eqI_any _ _ n n n z z _ ((hr3.below hb4 hr3.lt).rd (Nat.lt_of_lt_of_le hr3.lt hb4.size)) (hr4.rd hr4.lt) (fun _ _ => rfl) hm).mono ?_
    rintro e w5 ⟨rfl, m, rfl⟩
    go_wp2_with fail
    go_ret
    exact ⟨rfl, below_drewN (hw3.trans (hb4.mono hw3.size)) m⟩

set_option maxHeartbeats 1000000 in
theorem lawGoneOf (A : Option Addr) (n cap : Nat) (z : Nat → Int) (w : World) (h : Rd w w.heap.size A n z) :
    Calls Try.prog 4 #[.slice A n cap] w fun e w' => e = .returned (.bool true) ∧ Below w.heap.size w w' := by
  by_cases hbig : (1048576 : Int) < (n : Int)
  · go_enter Try.func4, Try.ntmps4
    go_wp2_with fail
    go_ret
    exact ⟨rfl, Below.refl _ _⟩
  · have hm : n ≤ 4194304 := by omega
    go_enter Try.func4, Try.ntmps4
    go_wp2_with fail
    refine (toI_any A n cap z _ h hm).mono ?_
    rintro e w1 ⟨b1, rfl, _, hr1, hb1⟩
    go_wp2_with fail
    refine (sGone_any _ n n z _ (hr1.rd hr1.lt) hm).mono ?_
    rintro e w1' ⟨rfl, rfl⟩
    go_wp2_with fail
    refine (toI_any A n cap z _ (h.to hb1 hb1.size) hm).mono ?_
    rintro e w2 ⟨b2, rfl, _, hr2, hb2⟩
    go_wp2_with fail
    refine (iGone_any _ n n z _ (hr2.rd hr2.lt) hm).mono ?_
    rintro e w3 ⟨rfl, hb3⟩
    have hr3 := hr2.below hb3 hr2.lt
    have hw3 := (hb1.trans (hb2.mono hb1.size)).trans (hb3.mono (Nat.le_trans hb1.size hb2.size))
    clear hr2 hb1 hb2 hb3 hr1
    go_wp2_with fail
    refine (toI_any A n cap z _ (h.to hw3 hw3.size) hm).mono ?_
    rintro e w4 ⟨b4, rfl, _, hr4, hb4⟩
    go_wp2_with fail
    refine (eqI_any _ _ n n n z z _ ((hr3.below hb4 hr3.lt).rd (Nat.lt_of_lt_of_le hr3.lt hb4.size)) (hr4.rd hr4.lt) (fun _ _ => rfl) hm).mono ?_
    rintro e w5 ⟨rfl, m, rfl⟩
    go_wp2_with fail
    go_ret
    exact ⟨rfl, below_drewN (hw3.trans (hb4.mono hw3.size)) m⟩
end Go.Proofs.Ytodcalghnoiaeaa
