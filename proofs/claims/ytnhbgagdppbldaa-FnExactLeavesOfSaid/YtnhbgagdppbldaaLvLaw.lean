/- The walk of the exact law of LeavesOf. -/
import Derived.Test.YtnhbgagdppbldaaLvC
import Derived.Test.YtnhbgagdppbldaaPathLaw
namespace Go.Proofs.Ytnhbgagdppbldaa
open Go.RowKit Go.Deep

set_option maxHeartbeats 4000000 in
theorem lawLeaves_no (A : Option Addr) (n cap : Nat) (g : Nat → Nd) (w : World) (h : RdN w w.heap.size A n g) (hn : n ≤ 1048576) (ht : treeB g n 6 = false) :
    Calls Try.prog 15 #[.slice A n cap] w fun e w' => e = .returned (.bool true) ∧ Below w.heap.size w w' := by
  have hm : n ≤ 4194304 := by omega
  have HT := hid ht
  clear ht
  go_enter Try.func15, Try.ntmps15
  go_wp2_with fail
  refine (szN_ok A n cap 1048576 _ (by omega) (by omega) (by omega) (by omega)).mono ?_
  rintro e w0 ⟨rfl, rfl⟩
  go_wp2_with fail
  refine (toN_any A n cap g _ h hm).mono ?_
  rintro e w1 ⟨b1, rfl, _, rn1, hb1⟩
  have hw1 := hb1
  clear hb1
  go_wp2_with fail
  refine (sLeaves_no _ n n g _ (rdN_of rn1) hm HT.out).mono ?_
  rintro e w2 ⟨rfl, hb2⟩
  have rn1_2 := rn1.below hb2 rn1.lt
  clear rn1
  have hw2 := hw1.trans (hb2.mono hw1.size)
  clear hw1 hb2
  clear rn1_2
  go_wp2_with fail
  refine (toN_any A n cap g _ (h.to hw2 hw2.size) hm).mono ?_
  rintro e w3 ⟨b2, rfl, hlb2, rn2, hb3⟩
  have hwb2 := Nat.le_trans hw2.size hlb2
  have hw3 := hw2.trans (hb3.mono hw2.size)
  clear hw2 hb3
  go_wp2_with fail
  refine (iLeaves_no _ n n g _ (rdN_of rn2) hm HT.out).mono ?_
  rintro e w4 ⟨rfl, hb4⟩
  have rn2_4 := rn2.below hb4 rn2.lt
  clear rn2
  have hw4 := hw3.trans (hb4.mono hw3.size)
  clear hw3 hb4
  go_wp2_with fail
  refine (eqI_any none none 0 0 0 nul nul _ rd_none rd_none (fun _ _ => rfl) (by omega)).mono ?_
  rintro e w5 ⟨rfl, m5, rfl⟩
  have rn2_5 : RowN (w4.drewN m5) 33 b2 n g := rn2_4
  clear rn2_4
  have hw5 := below_drewN hw4 m5
  clear hw4
  go_wp2_with fail
  refine (toN_any A n cap g _ (h.to hw5 hw5.size) hm).mono ?_
  rintro e w6 ⟨b3, rfl, _, rn3, hb6⟩
  have rn2_6 := rn2_5.below hb6 rn2_5.lt
  clear rn2_5
  have hw6 := hw5.trans (hb6.mono hw5.size)
  clear hw5 hb6
  go_wp2_with fail
  refine (eqN_any _ _ n n n g _ (rdN_of rn2_6) (rdN_of rn3) hm).mono ?_
  rintro e w7 ⟨rfl, hb7⟩
  have rn2_7 := rn2_6.below hb7 rn2_6.lt
  clear rn2_6
  have rn3_7 := rn3.below hb7 rn3.lt
  clear rn3
  have hw7 := hw6.trans (hb7.mono hw6.size)
  clear hw6 hb7
  clear rn3_7
  go_wp2_with fail
  refine (markN_any n n b2 g 1 w7 rn2_7 hm (by omega) (by omega)).mono ?_
  rintro e w8 ⟨k1, rfl, hk0, hk1, hg8⟩
  have hw8 : Below w.heap.size w w8 := hw7.grown hg8 hw7.size (fun x hx => by injection hx with hx; omega)
  clear rn2_7
  clear hw7 hg8
  have hk2 : ¬ k1 < 0 := by omega
  go_wp2_with fail
  refine (eqI_any none none 0 0 0 nul nul _ rd_none rd_none (fun _ _ => rfl) (by omega)).mono ?_
  rintro e w9 ⟨rfl, m9, rfl⟩
  have hw9 := below_drewN hw8 m9
  clear hw8
  go_wp2_with fail
  refine (mark_any none 0 0 w.heap.size nul 1 _ (fun h => absurd h (by omega)) (by omega) (by omega) (by omega)).mono ?_
  rintro e w10 ⟨rfl, hg10, _⟩
  have hw10 : Below w.heap.size w w10 := hw9.grown hg10 hw9.size (fun x hx => by injection hx with hx; omega)
  clear hw9 hg10
  go_wp2_with fail
  refine (held_any none 0 0 0 1 _ (fun h => absurd h (by omega)) (by omega) (by omega) (by omega)).mono ?_
  rintro e w10' ⟨rfl, rfl⟩
  go_wp2_with fail
  refine (toN_any A n cap g _ (h.to hw10 hw10.size) hm).mono ?_
  rintro e w11 ⟨b4, rfl, _, rn4, hb11⟩
  have hw11 := hw10.trans (hb11.mono hw10.size)
  clear hw10 hb11
  go_wp2_with fail
  refine (iLeaves_no _ n n g _ (rdN_of rn4) hm HT.out).mono ?_
  rintro e w12 ⟨rfl, hb12⟩
  have rn4_12 := rn4.below hb12 rn4.lt
  clear rn4
  have hw12 := hw11.trans (hb12.mono hw11.size)
  clear hw11 hb12
  clear rn4_12
  go_wp2_with fail
  refine (eqI_any none none 0 0 0 nul nul _ rd_none rd_none (fun _ _ => rfl) (by omega)).mono ?_
  rintro e w13 ⟨rfl, m13, rfl⟩
  go_wp2_with fail
  refine (held_any none 0 0 0 1 _ (fun h => absurd h (by omega)) (by omega) (by omega) (by omega)).mono ?_
  rintro e w13' ⟨rfl, rfl⟩
  go_wp2_with fail
  go_ret
  exact ⟨rfl, below_drewN hw12 m13⟩

set_option maxHeartbeats 4000000 in
theorem lawLeaves_yes (A : Option Addr) (n cap : Nat) (g : Nat → Nd) (w : World) (h : RdN w w.heap.size A n g) (hn : n ≤ 1048576) (ht : treeB g n 6 = true) :
    Calls Try.prog 15 #[.slice A n cap] w fun e w' => e = .returned (.bool true) ∧ Below w.heap.size w w' := by
  have hm : n ≤ 4194304 := by omega
  have hL := lvs_len_le ((treeB_iff g n 6).1 ht)
  have hL1 := hL.2.1
  have hL2 := hL.2.2
  have hLm : (lfs g n).length ≤ 4194304 := by omega
  clear hL
  have HT := hid ht
  clear ht
  obtain ⟨L, hLL⟩ : ∃ L, (lfs g n).length = L := ⟨_, rfl⟩
  rw [hLL] at hL1 hL2 hLm
  have HL := hid hLL
  clear hLL
  go_enter Try.func15, Try.ntmps15
  go_wp2_with fail
  refine (szN_ok A n cap 1048576 _ (by omega) (by omega) (by omega) (by omega)).mono ?_
  rintro e w0 ⟨rfl, rfl⟩
  go_wp2_with fail
  refine (toN_any A n cap g _ h hm).mono ?_
  rintro e w1 ⟨b1, rfl, _, rn1, hb1⟩
  have hw1 := hb1
  have hw1s := hb1.size
  clear hb1
  go_wp2_with fail
  refine (sLeaves_yes _ n n g _ (rdN_of rn1) hm HT.out).mono ?_
  rintro e w2 ⟨s0, cs0, rfl, hls0, rs, hb2⟩
  have rn1_2 := rn1.below hb2 rn1.lt
  clear rn1
  have hw2 := hw1.trans (hb2.mono hw1.size)
  clear hw1 hb2
  rw [HL.out] at rs ⊢
  clear rn1_2
  have hlts : s0 < w2.heap.size := rs.lt
  have hws : w.heap.size ≤ s0 := Nat.le_trans hw1s hls0
  go_wp2_with fail
  refine (toN_any A n cap g _ (h.to hw2 hw2.size) hm).mono ?_
  rintro e w3 ⟨b2, rfl, hlb2, rn2, hb3⟩
  have hwb2 := Nat.le_trans hw2.size hlb2
  have rs_3 := rs.below hb3 rs.lt
  clear rs
  have hw3 := hw2.trans (hb3.mono hw2.size)
  clear hw2 hb3
  have hlt2 := rn2.lt
  go_wp2_with fail
  refine (iLeaves_yes _ n n g _ (rdN_of rn2) hm HT.out).mono ?_
  rintro e w4 ⟨g0, cg0, rfl, hlg0, rg, hb4⟩
  have rs_4 := rs_3.below hb4 rs_3.lt
  clear rs_3
  have rn2_4 := rn2.below hb4 rn2.lt
  clear rn2
  have hw4 := hw3.trans (hb4.mono hw3.size)
  clear hw3 hb4
  rw [HL.out] at rg ⊢
  have hsb : s0 < b2 := Nat.lt_of_lt_of_le hlts hlb2
  have hbg : b2 < g0 := Nat.lt_of_lt_of_le hlt2 hlg0
  go_wp2_with fail
  refine (eqI_any _ _ L cg0 cs0 (lvZ g n) (lvZ g n) _ (rd_of rg) (rd_of rs_4) (fun _ _ => rfl) hLm).mono ?_
  rintro e w5 ⟨rfl, m5, rfl⟩
  have rs_5 : Row (w4.drewN m5) 2 s0 L (lvZ g n) := rs_4
  clear rs_4
  have rn2_5 : RowN (w4.drewN m5) 33 b2 n g := rn2_4
  clear rn2_4
  have rg_5 : Row (w4.drewN m5) 2 g0 L (lvZ g n) := rg
  clear rg
  have hw5 := below_drewN hw4 m5
  clear hw4
  go_wp2_with fail
  refine (toN_any A n cap g _ (h.to hw5 hw5.size) hm).mono ?_
  rintro e w6 ⟨b3, rfl, _, rn3, hb6⟩
  have rs_6 := rs_5.below hb6 rs_5.lt
  clear rs_5
  have rn2_6 := rn2_5.below hb6 rn2_5.lt
  clear rn2_5
  have rg_6 := rg_5.below hb6 rg_5.lt
  clear rg_5
  have hw6 := hw5.trans (hb6.mono hw5.size)
  clear hw5 hb6
  go_wp2_with fail
  refine (eqN_any _ _ n n n g _ (rdN_of rn2_6) (rdN_of rn3) hm).mono ?_
  rintro e w7 ⟨rfl, hb7⟩
  have rs_7 := rs_6.below hb7 rs_6.lt
  clear rs_6
  have rn2_7 := rn2_6.below hb7 rn2_6.lt
  clear rn2_6
  have rg_7 := rg_6.below hb7 rg_6.lt
  clear rg_6
  have rn3_7 := rn3.below hb7 rn3.lt
  clear rn3
  have hw7 := hw6.trans (hb7.mono hw6.size)
  clear hw6 hb7
  clear rn3_7
  go_wp2_with fail
  refine (markN_any n n b2 g 1 w7 rn2_7 hm (by omega) (by omega)).mono ?_
  rintro e w8 ⟨k1, rfl, hk0, hk1, hg8⟩
  have rs_8 : Row w8 2 s0 L (lvZ g n) := row_grown (w := w7) rs_7 hg8 (by omega)
  clear rs_7
  have rg_8 : Row w8 2 g0 L (lvZ g n) := row_grown (w := w7) rg_7 hg8 (by omega)
  clear rg_7
  have hw8 : Below w.heap.size w w8 := hw7.grown hg8 hw7.size (fun x hx => by injection hx with hx; omega)
  clear rn2_7
  clear hw7 hg8
  have hk2 : ¬ k1 < 0 := by omega
  go_wp2_with fail
  refine (eqI_any _ _ L cg0 cs0 (lvZ g n) (lvZ g n) _ (rd_of rg_8) (rd_of rs_8) (fun _ _ => rfl) hLm).mono ?_
  rintro e w9 ⟨rfl, m9, rfl⟩
  have rs_9 : Row (w8.drewN m9) 2 s0 L (lvZ g n) := rs_8
  clear rs_8
  have rg_9 : Row (w8.drewN m9) 2 g0 L (lvZ g n) := rg_8
  clear rg_8
  have hw9 := below_drewN hw8 m9
  clear hw8
  go_wp2_with fail
  refine (mark_any _ L cg0 g0 (lvZ g n) 1 (w8.drewN m9) (fun _ => ⟨rfl, rg_9⟩) hLm (by omega) (by omega)).mono ?_
  rintro e w10 ⟨rfl, hg10, hkk⟩
  have rk := hkk (by omega)
  have rs_10 : Row w10 2 s0 L (lvZ g n) := row_grown (w := (w8.drewN m9)) rs_9 hg10 (by omega)
  clear rs_9
  clear rg_9
  have hw10 : Below w.heap.size w w10 := hw9.grown hg10 hw9.size (fun x hx => by injection hx with hx; omega)
  clear hkk hw9 hg10
  go_wp2_with fail
  refine (held_any _ L cg0 g0 1 w10 (fun _ => ⟨rfl, rk⟩) hLm (by omega) (by omega)).mono ?_
  rintro e w10' ⟨rfl, rfl⟩
  go_wp2_with fail
  refine (toN_any A n cap g _ (h.to hw10 hw10.size) hm).mono ?_
  rintro e w11 ⟨b4, rfl, _, rn4, hb11⟩
  have rs_11 := rs_10.below hb11 rs_10.lt
  clear rs_10
  have rk_11 := rk.below hb11 rk.lt
  clear rk
  have hw11 := hw10.trans (hb11.mono hw10.size)
  clear hw10 hb11
  go_wp2_with fail
  refine (iLeaves_yes _ n n g _ (rdN_of rn4) hm HT.out).mono ?_
  rintro e w12 ⟨g1, cg1, rfl, _, rh, hb12⟩
  have rs_12 := rs_11.below hb12 rs_11.lt
  clear rs_11
  have rn4_12 := rn4.below hb12 rn4.lt
  clear rn4
  have rk_12 := rk_11.below hb12 rk_11.lt
  clear rk_11
  have hw12 := hw11.trans (hb12.mono hw11.size)
  clear hw11 hb12
  rw [HL.out] at rh ⊢
  clear rn4_12
  go_wp2_with fail
  refine (eqI_any _ _ L cg1 cs0 (lvZ g n) (lvZ g n) _ (rd_of rh) (rd_of rs_12) (fun _ _ => rfl) hLm).mono ?_
  rintro e w13 ⟨rfl, m13, rfl⟩
  go_wp2_with fail
  refine (held_any _ L cg0 g0 1 (w12.drewN m13) (fun _ => ⟨rfl, rk_12⟩) hLm (by omega) (by omega)).mono ?_
  rintro e w13' ⟨rfl, rfl⟩
  go_wp2_with fail
  go_ret
  exact ⟨rfl, below_drewN hw12 m13⟩

theorem lawLeavesOf (A : Option Addr) (n cap : Nat) (g : Nat → Nd) (w : World) (h : RdN w w.heap.size A n g) (hn : n ≤ 9223372036854775807) :
    Calls Try.prog 15 #[.slice A n cap] w fun e w' => e = .returned (.bool true) ∧ Below w.heap.size w w' := by
  by_cases hbig : (1048576 : Int) - (n : Int) < 0
  · go_enter Try.func15, Try.ntmps15
    go_wp2_with fail
    refine (szN_big A n cap 1048576 _ hn (by omega) (by omega) (by omega)).mono ?_
    rintro e w1 ⟨rfl, rfl⟩
    go_wp2_with fail
    go_ret
    exact ⟨rfl, Below.refl _ _⟩
  cases ht : treeB g n 6
  · exact lawLeaves_no A n cap g w h (by omega) ht
  · exact lawLeaves_yes A n cap g w h (by omega) ht
end Go.Proofs.Ytnhbgagdppbldaa
