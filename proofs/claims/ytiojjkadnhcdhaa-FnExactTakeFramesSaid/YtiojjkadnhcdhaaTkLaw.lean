/- The walk of the law of TakeFrames. -/
import Derived.Test.YtiojjkadnhcdhaaFrH
namespace Go.Proofs.Ytiojjkadnhcdhaa
open Go.RowKit Go.Deep

theorem own_grownS {w w' : World} {base : Nat} {e : TypeId} {size : Nat} {v : Value} {m : Nat} {r : Option Nat} {xs : List Value} (h : w.ownsRow base e size v m xs) (hg : w.grownBy w' r) (hR : ∀ k, v.ownBlock = some k → r ≠ some k) : w'.ownsRow base e size v m xs := by
  refine h.kept hg ?_
  cases hv : v.ownBlock with
  | none => exact .inl rfl
  | some k => exact .inr (fun e => hR k hv e.symm)

set_option maxRecDepth 100000 in
set_option maxHeartbeats 4000000 in
theorem lawTakeFrames (s : ByteArray) (w : World) :
    Calls Try.prog 5 #[.string s] w fun e w' => e = .returned (.bool true) ∧ Below w.heap.size w w' := by
  by_cases hbig : (1048576 : Int) < (s.size : Int)
  · go_enter Try.func5, Try.ntmps5
    go_wp2_with fail
    go_ret
    exact ⟨rfl, Below.refl _ _⟩
  · go_enter Try.func5, Try.ntmps5
    go_wp2_with fail
    refine (sTakeFrames_any s _ (by omega)).mono ?_
    rintro e w1 ⟨k1, L, p, A1, c1, rfl, hT1, hE1, hp, hown1, hb1⟩
    go_wp2_with fail
    refine (TakeFrames_any s _ (by omega)).mono ?_
    rintro e w2 ⟨k2, L2, p2, A2, c2, rfl, hT2, hE2, hp2, hown2, hb2⟩
    obtain ⟨rfl, rfl⟩ : L2 = L ∧ p2 = p := by
      have := hE2.same hE1
      rw [hT1, hT2] at this
      injection this with a b
      exact ⟨a, b⟩
    have hLs : L2.length ≤ s.size := tk_len hT2
    have hown12 := own_belowS hown1 hb2
    have HT := hid (And.intro hT1 hE1)
    have hs1 := hb1.size
    have hb12 := hb1.trans (hb2.mono hb1.size)
    have HO := hid (fun k (hk : (Value.slice A2 L2.length c2).ownBlock = some k) => (hown2.lt k hk).1)
    have HO1 := hid (fun k (hk : (Value.slice A1 L2.length c1).ownBlock = some k) => (hown1.lt k hk).2)
    clear hT1 hE1 hT2 hE2 hown1 hb1 hb2
    go_wp2_with fail
    refine (eqStr_any A2 A1 c2 c1 _ _ L2 _ hown2 hown12 (by omega)).mono ?_
    rintro e w3 ⟨rfl, hb3⟩
    have hown23 := own_belowS hown2 hb3
    have hown13 := own_belowS hown12 hb3
    have hb13 := hb12.trans (hb3.mono hb12.size)
    clear hown2 hown12 hb12 hb3
    go_wp2_with fail
    refine (mark_any A2 c2 _ 1 L2 _ hown23 (by omega) (by omega) (by omega)).mono ?_
    rintro e w4 ⟨rfl, hown24, hg4⟩
    have hown14 := own_grownS hown13 hg4 (fun k hk e => by have := HO1.out k hk; have := HO.out k e; omega)
    have hb14 : Below w.heap.size w w4 := hb13.grown hg4 (by exact hb13.size) (fun k hk => by have := HO.out k hk; omega)
    clear hown23 hown13 hb13 hg4
    go_wp2_with fail
    refine (held_any A2 c2 _ 1 L2 _ hown24 (by omega) (by omega) (by omega)).mono ?_
    rintro e w5 ⟨rfl, hb5⟩
    have hown25 := own_belowS hown24 hb5
    have hown15 := own_belowS hown14 hb5
    have hb15 := hb14.trans (hb5.mono hb14.size)
    clear hown24 hown14 hb14 hb5
    go_wp2_with fail
    refine (TakeFrames_any s _ (by omega)).mono ?_
    rintro e w6 ⟨k3, L3, p3, A3, c3, rfl, hT3, hE3, hp3, hown36, hb6⟩
    obtain ⟨rfl, rfl⟩ : L3 = L2 ∧ p3 = p2 := by
      have := hE3.same HT.out.2
      rw [HT.out.1, hT3] at this
      injection this with a b
      exact ⟨a, b⟩
    have hown26 := own_belowS hown25 hb6
    have hown16 := own_belowS hown15 hb6
    have hb16 := hb15.trans (hb6.mono hb15.size)
    clear hT3 hE3 hown25 hown15 hb15 hb6
    go_wp2_with fail
    refine (eqStr_any A3 A1 c3 c1 _ _ L3 _ hown36 hown16 (by omega)).mono ?_
    rintro e w7 ⟨rfl, hb7⟩
    have hown27 := own_belowS hown26 hb7
    have hb17 := hb16.trans (hb7.mono hb16.size)
    clear hown26 hown16 hown36 hb16 hb7
    go_wp2_with fail
    refine (held_any A2 c2 _ 1 L3 _ hown27 (by omega) (by omega) (by omega)).mono ?_
    rintro e w8 ⟨rfl, hb8⟩
    have hb18 := hb17.trans (hb8.mono hb17.size)
    clear hown27 hb17 hb8
    go_wp2_with fail
    go_ret
    exact ⟨rfl, hb18⟩
end Go.Proofs.Ytiojjkadnhcdhaa
