/- The walk of the law of frames. -/
import Derived.Test.YtiojjkadnhcdhaaFrDs
import Derived.Test.YtiojjkadnhcdhaaFrP
namespace Go.Proofs.Ytiojjkadnhcdhaa
open Go.RowKit Go.Deep

/-- The slice at A begins with the strings of L. -/
def RdT (w : World) (A : Option Addr) (L : List ByteArray) : Prop := ∀ (k : Nat) (x : ByteArray), L[k]? = some x → ∃ g, A = some ⟨g, 0, none⟩ ∧ g < w.heap.size ∧ w.cell? ⟨g, k, none⟩ = some (.string x)
theorem RdT.of_own {w : World} {base c : Nat} {A : Option Addr} {L : List ByteArray} (h : w.ownsRow base 9 1 (.slice A L.length c) L.length (strV L)) : RdT w A L := fun k x hx => by
  have hk : k < L.length := (List.getElem?_eq_some_iff.1 hx).1
  obtain ⟨g, x', e, _, hg, hx', hc⟩ := own_atS h hk
  rw [hx] at hx'
  injection hx' with hx'
  subst hx'
  exact ⟨g, e, hg, hc⟩
theorem RdT.below {w w' : World} {A : Option Addr} {L : List ByteArray} (h : RdT w A L) (hb : Below w.heap.size w w') : RdT w' A L := fun k x hx => by
  obtain ⟨g, e, hg, hc⟩ := h k x hx
  exact ⟨g, e, Nat.lt_of_lt_of_le hg hb.size, (hb.cell (p := ⟨g, k, none⟩) hg).trans hc⟩
theorem RdT.take {w : World} {A : Option Addr} {L : List ByteArray} (h : RdT w A L) (n : Nat) : RdT w A (L.take n) := fun k x hx => h k x (by
  rw [List.getElem?_take] at hx
  split at hx
  · exact hx
  · cases hx)

set_option maxRecDepth 100000 in
set_option maxHeartbeats 2000000 in
theorem sameTexts_any (A A' : Option Addr) (c c' : Nat) (L : List ByteArray) (w : World) (h : RdT w A L) (h' : RdT w A' L) (hn : L.length ≤ 4194304) :
    Calls Try.prog 10 #[.slice A L.length c, .slice A' L.length c'] w fun e w' => e = .returned (.bool true) ∧ Below w.heap.size w w' := by
  go_enter Try.func10, Try.ntmps10
  go_wp2_with fail
  go_loopw [5] (fun i wr => ∃ k m : Nat, k ≤ L.length ∧ i = .int .i64 k ∧ wr = w.drewN m) (fun i _ => L.length - (intOf i).toNat)
  case atStart => exact ⟨0, 0, by omega, rfl, rfl⟩
  case round =>
    obtain ⟨k, m, hk, rfl, rfl⟩ := hrel
    by_cases hlt : k < L.length
    · obtain ⟨x, hx⟩ : ∃ x, L[k]? = some x := ⟨_, List.getElem?_eq_getElem hlt⟩
      obtain ⟨g, rfl, _, hc⟩ := h k x hx
      obtain ⟨g', rfl, _, hc'⟩ := h' k x hx
      have i1 : (k : Int) < (L.length : Int) := by omega
      clear hx
      go_wp2_with fail
      go_quiet (fail)
      go_wp2_with fail
      go_roundw
      case rel => exact ⟨k + 1, _, by omega, by go_num, rfl⟩
      case measure => simp [intOf]; omega
    · go_wp2_with fail
      go_ret
      exact ⟨rfl, below_drewN (Below.refl _ _) m⟩

theorem own_capS {w : World} {base n c : Nat} {A : Option Addr} {L : List Value} (h : w.ownsRow base 9 1 (.slice A n c) n L) : n ≤ c := by
  rcases h.2 with ⟨_, h0⟩ | ⟨g, cap, cur, hv, _, _, hc, _⟩
  · omega
  · injection hv with _ _ e
    omega
theorem cat_take_le (L : List ByteArray) (j : Nat) : (catL (L.take j)).size ≤ (catL L).size := by
  conv => rhs; rw [← List.take_append_drop j L, catL_app, ByteArray.size_append]
  omega

set_option maxRecDepth 100000 in
set_option maxHeartbeats 8000000 in
theorem lawFrames (A : Option Addr) (n cap : Nat) (w : World) (h : Bs w w.heap.size A n) :
    Calls Try.prog 3 #[.slice A n cap] w fun e w' => e = .returned (.bool true) ∧ Below w.heap.size w w' := by
  by_cases hbig : (1048576 : Int) < (n : Int)
  · go_enter Try.func3, Try.ntmps3
    go_wp2_with fail
    refine (big_yes A n cap _ hbig).mono ?_
    rintro e w1 ⟨rfl, rfl⟩
    go_wp2_with fail
    go_ret
    exact ⟨rfl, Below.refl _ _⟩
  · have hn : n ≤ 4194304 := by omega
    have HBS := hid (fun (w' : World) (hb : Below w.heap.size w w') => h.keep (fun p hp => hb.cell hp) |>.more hb.size)
    go_enter Try.func3, Try.ntmps3
    go_wp2_with fail
    refine (big_no A n cap _ (by omega)).mono ?_
    rintro e w1 ⟨rfl, rfl⟩
    go_wp2_with fail
    refine (drawTake A n cap _ h hn).mono ?_
    rintro e w1 ⟨s, rfl, hs, hb1⟩
    go_wp2_with fail
    refine (TakeFrames_any s _ (by omega)).mono ?_
    rintro e w2 ⟨k1, L, p, A1, c1, rfl, hT1, hE1, hp, hown1, hb2⟩
    have hb12 := hb1.trans (hb2.mono hb1.size)
    go_wp2_with fail
    refine (sTakeFrames_any s _ (by omega)).mono ?_
    rintro e w3 ⟨k2, L2, p2, A2, c2, rfl, hT2, hE2, hp2, hown2, hb3⟩
    obtain ⟨rfl, rfl⟩ : L2 = L ∧ p2 = p := by
      have := hE2.same hE1
      rw [hT1, hT2] at this
      injection this with a b
      exact ⟨a, b⟩
    have hLs : L2.length ≤ s.size := tk_len hT2
    have hcp := own_capS hown1
    have hR1 := (RdT.of_own hown1).below hb3
    have hR2 := RdT.of_own hown2
    obtain ⟨hcat, hsm⟩ := frames_fact hT2
    have HSM := hid hsm
    have HCAT := hid hcat
    have hb13 := hb12.trans (hb3.mono hb12.size)
    have hcl : (catL L2).size = p2 := by rw [hcat, ByteArray.size_extract]; omega
    have HCL := hid hcl
    have hpi : ¬ (s.size : Int) < (p2 : Int) := by omega
    have hpn : decide (s.size < p2) = false := by simp; omega
    clear hT1 hE1 hT2 hE2 hown1 hown2 hb1 hb2 hb3 hb12 hcat hsm hcl
    go_wp2_with fail
    refine (sameTexts_any A1 A2 c1 c2 L2 _ hR1 hR2 (by omega)).mono ?_
    rintro e w4 ⟨rfl, hb4⟩
    have HR1 := hid (hR1.below hb4)
    have hb14 := hid (hb13.trans (hb4.mono hb13.size))
    clear hR1 hR2 hb13 hb4
    go_wp2_with fail
    go_loopw [8, 9] (fun a i wr => ∃ (j : Nat) (t : ByteArray), j ≤ L2.length ∧ i = .int .i64 j ∧ a = .string t ∧ Hid (t = catL (L2.take j)) ∧ Hid (RdT wr A1 L2) ∧ Hid (Below w.heap.size w wr)) (fun _ i _ => L2.length - (intOf i).toNat)
    case atStart => exact ⟨0, _, by omega, rfl, rfl, rfl, HR1, hb14⟩
    case round =>
      obtain ⟨j, t, hj, rfl, rfl, HT, HRr, HBr⟩ := hrel
      have hts : t.size ≤ 252 := by have := HT.out; have := cat_take_le L2 j; have := HCL.out; subst t; omega
      by_cases hlt : j < L2.length
      · obtain ⟨x, hx⟩ : ∃ x, L2[j]? = some x := ⟨_, List.getElem?_eq_getElem hlt⟩
        obtain ⟨g, rfl, _, hc⟩ := HRr.out j x hx
        have hxs := HSM.out x (List.mem_of_getElem? hx)
        have i1 : (j : Int) < (L2.length : Int) := by omega
        have HX := hid hx
        clear hx
        go_wp2_with fail
        refine (FrameOf_any x _ (by omega)).mono ?_
        rintro e w5 ⟨rfl, hb5⟩
        have HR5 := hid (HRr.out.below hb5)
        have HB5 := hid (HBr.out.trans (hb5.mono HBr.out.size))
        have hnx : t ++ frame x = catL (L2.take (j + 1)) := by
          rw [List.take_add_one, HX.out, HT.out]
          exact (catL_snoc _ _).symm
        have hnl : (t ++ frame x).size ≤ 252 := by
          rw [hnx]
          have := cat_take_le L2 (j + 1); have := HCL.out; omega
        rw [ByteArray.size_append] at hnl
        have z1 : ¬ 9223372036854775807 < t.size + (frame x).size := by omega
        have HNX := hid hnx
        clear hnx hb5 hc
        go_wp2_with fail
        go_roundw
        case rel => exact ⟨j + 1, t ++ frame x, by omega, by go_num, rfl, HNX, HR5, HB5⟩
        case measure => simp [intOf]; omega
      · have e : j = L2.length := by omega
        subst e
        have HA : Hid (t = catL L2) := by
          have := HT.out
          rw [List.take_length] at this
          exact this
        have hbs := HBS.out _ HBr.out
        go_wp2_with fail
        refine (drawFrameOf A n cap _ hbs hn).mono ?_
        rintro e w5 ⟨u, rfl, hu, hb5⟩
        have HR5 := hid (HRr.out.below hb5)
        have HB5 := hid (HBr.out.trans (hb5.mono HBr.out.size))
        clear hb5 hbs
        go_wp2_with fail
        refine (FrameOf_any u _ (by omega)).mono ?_
        rintro e w6 ⟨rfl, hb6⟩
        have HR6 := hid (HR5.out.below hb6)
        have HB6 := hid (HB5.out.trans (hb6.mono HB5.out.size))
        have hfu := frame_size hu (by omega)
        have z1 : ¬ 9223372036854775807 < t.size + (frame u).size := by omega
        clear hb6
        go_wp2_with fail
        refine (TakeFrames_any (t ++ frame u) _ (by rw [ByteArray.size_append]; omega)).mono ?_
        rintro e w7 ⟨k3, K, q, A3, c3, rfl, hT3, hE3, hq3, hown3, hb7⟩
        have HR7 := hid (HR6.out.below hb7)
        have HB7 := hid (HB6.out.trans (hb7.mono HB6.out.size))
        obtain ⟨rfl, rfl⟩ : K = L2 ++ [u] ∧ q = t.size + (frame u).size := by
          rw [HA.out] at hT3 hE3 ⊢
          exact more_fact HSM.out (by omega) hT3 hE3
        have HK := hid (RdT.of_own hown3)
        clear hT3 hE3 hown3 hb7
        obtain ⟨m, hm, hmt⟩ : ∃ m : Nat, (n : Int) % ((t.size : Int) + 1) = (m : Int) ∧ m ≤ t.size := ⟨n % (t.size + 1), (Int.natCast_emod n (t.size + 1)).symm, Nat.le_of_lt_succ (Nat.mod_lt n (Nat.succ_pos _))⟩
        have i0 : ¬ (t.size : Int) + 1 = 0 := by omega
        have i1 : (m : Int) ≤ (t.size : Int) := by omega
        obtain ⟨v, hv, HV⟩ : ∃ v, t.extract 0 m = v ∧ Hid (v = (catL L2).extract 0 m ∧ v.size ≤ 252) := ⟨_, rfl, hid ⟨by rw [HA.out], by rw [ByteArray.size_extract]; omega⟩⟩
        go_wp2_with fail
        refine (TakeFrames_any v _ (by have := HV.out.2; omega)).mono ?_
        rintro e w8 ⟨k4, F, q4, A4, c4, rfl, hT4, hE4, hq4, hown4, hb8⟩
        have HR8 := hid (HR7.out.below hb8)
        have HK8 := hid (HK.out.below hb8)
        have HB8 := hid (HB7.out.trans (hb8.mono HB7.out.size))
        have HF := hid (show F.length ≤ L2.length ∧ F = L2.take F.length by
          rw [HV.out.1] at hT4 hE4
          exact few_fact HSM.out hT4 hE4)
        have HF4 := hid (RdT.of_own hown4)
        clear hT4 hE4 hown4 hb8
        have hlf := HF.out.1
        obtain ⟨g3, rfl, _, hc3⟩ := HK8.out L2.length u (by simp)
        have htp : (t.size : Int) = (p2 : Int) := by rw [HA.out, HCL.out]
        have HST := hid (show s.extract 0 p2 = t by rw [HA.out, HCAT.out])
        have hst := HST.out
        have q1 : (F.length : Int) ≤ (L2.length : Int) := by omega
        have q2 : F.length ≤ c1 := by omega
        have q3 : ¬ (c1 : Int) < (F.length : Int) := by omega
        have HTK := hid (show RdT w8 A1 F by rw [HF.out.2]; exact HR8.out.take _)
        go_wp2_with fail
        refine (FrameOf_any u _ (by omega)).mono ?_
        rintro e w9 ⟨rfl, hb9⟩
        have HTK9 := hid (HTK.out.below hb9)
        have HF9 := hid (HF4.out.below hb9)
        have HB9 := hid (HB8.out.trans (hb9.mono HB8.out.size))
        clear hb9
        go_wp2_with fail
        refine (sameTexts_any A4 A1 c4 c1 F _ HF9.out HTK9.out (by omega)).mono ?_
        rintro e w10 ⟨rfl, hb10⟩
        have HB10 := hid (HB9.out.trans (hb10.mono HB9.out.size))
        clear hb10
        go_wp2_with fail
        go_ret
        exact ⟨rfl, HB10.out⟩
end Go.Proofs.Ytiojjkadnhcdhaa
