/- The walk of the exact law of BoxMeet. -/
import Derived.Test.YtmlcpjcchgihfaaMeetE
namespace Go.Proofs.Ytmlcpjcchgihfaa
open Go.RowKit Go.Deep

set_option maxHeartbeats 4000000 in
theorem lawMeet_no (A A' : Option Addr) (n k c c' : Nat) (g h : Nat → Sp) (w : World) (ha : RdS w w.heap.size A n g) (hb : RdS w w.heap.size A' k h) (hnk : n + k ≤ 1048576) (hno : meetB n g k h = false) :
    Calls Try.prog 10 #[.slice A n c, .slice A' k c'] w fun e w' => e = .returned (.bool true) ∧ Below w.heap.size w w' := by
  have hn : n ≤ 4194304 := by omega
  have hk : k ≤ 4194304 := by omega
  have HY := hid hno
  clear hno
  go_enter Try.func10, Try.ntmps10
  go_wp2_with fail
  refine (szS_ok A n c 1048576 _ (by omega) (by omega) (by omega) (by omega)).mono ?_
  rintro e w0 ⟨rfl, rfl⟩
  go_wp2_with fail
  refine (szS_ok A' k c' _ _ (by omega) (by omega) (by omega) (by omega)).mono ?_
  rintro e w0 ⟨rfl, rfl⟩
  go_wp2_with fail
  refine (toS_any A n c g _ ha hn).mono ?_
  rintro e w3 ⟨b1, rfl, hl1, r2, hb4⟩
  go_wp2_with fail
  refine (toS_any A' k c' h _ (hb.to hb4 hb4.size) hk).mono ?_
  rintro e w7 ⟨b2, rfl, hl5, r6, hb8⟩
  have r9 : RowS w7 80 b1 n g := RowS.below (w := w3) r2 hb8 r2.lt
  have hw10 := hb4.trans (hb8.mono hb4.size)
  clear r2 hb4 hb8
  go_wp2_with fail
  refine (sMeet_no _ _ n k n k g h _ (rds_of r9) (rds_of r6) hn hk HY.out).mono ?_
  rintro e w11 ⟨rfl, hb12⟩
  have hw13 := hw10.trans (hb12.mono hw10.size)
  clear r9 r6 hw10 hb12
  have hz0 := hw13.size
  go_wp2_with fail
  refine (toS_any A n c g _ (ha.to hw13 hw13.size) hn).mono ?_
  rintro e w16 ⟨x0, rfl, hl14, r15, hb17⟩
  have hw18 := hw13.trans (hb17.mono hw13.size)
  clear hw13 hb17
  have hx0 := r15.lt
  go_wp2_with fail
  refine (toS_any A' k c' h _ (hb.to hw18 hw18.size) hk).mono ?_
  rintro e w21 ⟨x1, rfl, hl19, r20, hb22⟩
  have r23 : RowS w21 80 x0 n g := RowS.below (w := w16) r15 hb22 r15.lt
  have hw24 := hw18.trans (hb22.mono hw18.size)
  clear r15 hw18 hb22
  have hx1 := r20.lt
  go_wp2_with fail
  refine (iMeet_no _ _ n k n k g h _ (rds_of r23) (rds_of r20) hn hk HY.out).mono ?_
  rintro e w25 ⟨rfl, hb26⟩
  have r27 : RowS w25 80 x0 n g := RowS.below (w := w21) r23 hb26 r23.lt
  have r28 : RowS w25 80 x1 k h := RowS.below (w := w21) r20 hb26 r20.lt
  have hw29 := hw24.trans (hb26.mono hw24.size)
  clear r23 r20 hw24 hb26
  go_wp2_with fail
  refine (eqS_any none none 0 0 0 (fun _ => ⟨0, 0, false⟩) _ rds_none rds_none (by omega)).mono ?_
  rintro e w30 ⟨rfl, hb31⟩
  have r32 : RowS w30 80 x0 n g := RowS.below (w := w25) r27 hb31 r27.lt
  have r33 : RowS w30 80 x1 k h := RowS.below (w := w25) r28 hb31 r28.lt
  have hw34 := hw29.trans (hb31.mono hw29.size)
  clear r27 r28 hw29 hb31
  go_wp2_with fail
  refine (toS_any A n c g _ (ha.to hw34 hw34.size) hn).mono ?_
  rintro e w37 ⟨t1, rfl, hl35, r36, hb38⟩
  have r39 : RowS w37 80 x0 n g := RowS.below (w := w30) r32 hb38 r32.lt
  have r40 : RowS w37 80 x1 k h := RowS.below (w := w30) r33 hb38 r33.lt
  have hw41 := hw34.trans (hb38.mono hw34.size)
  clear r32 r33 hw34 hb38
  go_wp2_with fail
  refine (eqS_any _ _ n n n g _ (rds_of r39) (rds_of r36) hn).mono ?_
  rintro e w42 ⟨rfl, hb43⟩
  have r44 : RowS w42 80 x0 n g := RowS.below (w := w37) r39 hb43 r39.lt
  have r45 : RowS w42 80 x1 k h := RowS.below (w := w37) r40 hb43 r40.lt
  have hw46 := hw41.trans (hb43.mono hw41.size)
  clear r39 r40 r36 hw41 hb43
  go_wp2_with fail
  refine (toS_any A' k c' h _ (hb.to hw46 hw46.size) hk).mono ?_
  rintro e w49 ⟨t2, rfl, hl47, r48, hb50⟩
  have r51 : RowS w49 80 x0 n g := RowS.below (w := w42) r44 hb50 r44.lt
  have r52 : RowS w49 80 x1 k h := RowS.below (w := w42) r45 hb50 r45.lt
  have hw53 := hw46.trans (hb50.mono hw46.size)
  clear r44 r45 hw46 hb50
  go_wp2_with fail
  refine (eqS_any _ _ k k k h _ (rds_of r52) (rds_of r48) hk).mono ?_
  rintro e w54 ⟨rfl, hb55⟩
  have r56 : RowS w54 80 x0 n g := RowS.below (w := w49) r51 hb55 r51.lt
  have r57 : RowS w54 80 x1 k h := RowS.below (w := w49) r52 hb55 r52.lt
  have hw58 := hw53.trans (hb55.mono hw53.size)
  clear r51 r52 r48 hw53 hb55
  go_wp2_with fail
  refine (markS_all _ n n x0 g 1 w54 (fun _ => ⟨rfl, r56⟩) hn (by omega) (by omega)).mono ?_
  rintro e w59 ⟨rfl, hg60, _⟩
  have r62 : RowS w59 80 x1 k h := RowS.grown (w := w54) r57 hg60 (by omega)
  have hw63 : Below w.heap.size w w59 := hw58.grown hg60 hw58.size (fun x hx => by injection hx with hx; omega)
  clear r56 r57 hw58 hg60
  go_wp2_with fail
  refine (markS_all _ k k x1 h (1 + 3 * (n : Int)) w59 (fun _ => ⟨rfl, r62⟩) hk (by omega) (by omega)).mono ?_
  rintro e w64 ⟨rfl, hg65, _⟩
  have hw67 : Below w.heap.size w w64 := hw63.grown hg65 hw63.size (fun x hx => by injection hx with hx; omega)
  clear r62 hw63 hg65
  have hk0 : ¬ (1 + 3 * (n : Int) + 3 * (k : Int)) < 0 := by omega
  go_wp2_with fail
  refine (eqS_any none none 0 0 0 (fun _ => ⟨0, 0, false⟩) _ rds_none rds_none (by omega)).mono ?_
  rintro e w68 ⟨rfl, hb69⟩
  have hw70 := hw67.trans (hb69.mono hw67.size)
  clear hw67 hb69
  have hz9 := hw70.size
  go_wp2_with fail
  refine (markS_all none 0 0 w68.heap.size (fun _ => ⟨0, 0, false⟩) 1 w68 (fun h => absurd h (by omega)) (by omega) (by omega) (by omega)).mono ?_
  rintro e w71 ⟨rfl, hg72, _⟩
  have hw74 : Below w.heap.size w w71 := hw70.grown hg72 hw70.size (fun x hx => by injection hx with hx; omega)
  clear hw70 hg72
  go_wp2_with fail
  refine (heldS_all none 0 0 0 1 w71 (fun h => absurd h (by omega)) (by omega) (by omega) (by omega)).mono ?_
  rintro e w75 ⟨rfl, rfl⟩
  go_wp2_with fail
  refine (toS_any A n c g _ (ha.to hw74 hw74.size) hn).mono ?_
  rintro e w78 ⟨b3, rfl, hl76, r77, hb79⟩
  have hw80 := hw74.trans (hb79.mono hw74.size)
  clear hw74 hb79
  go_wp2_with fail
  refine (toS_any A' k c' h _ (hb.to hw80 hw80.size) hk).mono ?_
  rintro e w83 ⟨b4, rfl, hl81, r82, hb84⟩
  have r85 : RowS w83 80 b3 n g := RowS.below (w := w78) r77 hb84 r77.lt
  have hw86 := hw80.trans (hb84.mono hw80.size)
  clear r77 hw80 hb84
  go_wp2_with fail
  refine (iMeet_no _ _ n k n k g h _ (rds_of r85) (rds_of r82) hn hk HY.out).mono ?_
  rintro e w87 ⟨rfl, hb88⟩
  have hw89 := hw86.trans (hb88.mono hw86.size)
  clear r85 r82 hw86 hb88
  go_wp2_with fail
  refine (eqS_any none none 0 0 0 (fun _ => ⟨0, 0, false⟩) _ rds_none rds_none (by omega)).mono ?_
  rintro e w90 ⟨rfl, hb91⟩
  have hw92 := hw89.trans (hb91.mono hw89.size)
  clear hw89 hb91
  go_wp2_with fail
  refine (heldS_all none 0 0 0 1 w90 (fun h => absurd h (by omega)) (by omega) (by omega) (by omega)).mono ?_
  rintro e w93 ⟨rfl, rfl⟩
  go_wp2_with fail
  go_ret
  exact ⟨rfl, hw92⟩

set_option maxHeartbeats 4000000 in
theorem lawMeet_yes (A A' : Option Addr) (n c c' : Nat) (g h : Nat → Sp) (w : World) (ha : RdS w w.heap.size A n g) (hb : RdS w w.heap.size A' n h) (hy : meetB n g n h = true) :
    Calls Try.prog 10 #[.slice A n c, .slice A' n c'] w fun e w' => e = .returned (.bool true) ∧ Below w.heap.size w w' := by
  have hn6 := (boxB_iff.1 (meetB_iff.1 hy).1).2.1
  have hn1 := (boxB_iff.1 (meetB_iff.1 hy).1).1
  have hn : n ≤ 4194304 := by omega
  have hk : n ≤ 4194304 := by omega
  have HY := hid hy
  clear hy
  go_enter Try.func10, Try.ntmps10
  go_wp2_with fail
  refine (szS_ok A n c 1048576 _ (by omega) (by omega) (by omega) (by omega)).mono ?_
  rintro e w0 ⟨rfl, rfl⟩
  go_wp2_with fail
  refine (szS_ok A' n c' _ _ (by omega) (by omega) (by omega) (by omega)).mono ?_
  rintro e w0 ⟨rfl, rfl⟩
  go_wp2_with fail
  refine (toS_any A n c g _ ha hn).mono ?_
  rintro e w3 ⟨b1, rfl, hl1, r2, hb4⟩
  go_wp2_with fail
  refine (toS_any A' n c' h _ (hb.to hb4 hb4.size) hk).mono ?_
  rintro e w7 ⟨b2, rfl, hl5, r6, hb8⟩
  have r9 : RowS w7 80 b1 n g := RowS.below (w := w3) r2 hb8 r2.lt
  have hw10 := hb4.trans (hb8.mono hb4.size)
  clear r2 hb4 hb8
  go_wp2_with fail
  refine (sMeet_yes _ _ n n n g h _ (rds_of r9) (rds_of r6) HY.out).mono ?_
  rintro e w13 ⟨s, cs, rfl, hl11, r12, hb14⟩
  have hw15 := hw10.trans (hb14.mono hw10.size)
  clear r9 r6 hw10 hb14
  have hs1 := r12.lt
  have hz0 := hw15.size
  go_wp2_with fail
  refine (toS_any A n c g _ (ha.to hw15 hw15.size) hn).mono ?_
  rintro e w18 ⟨x0, rfl, hl16, r17, hb19⟩
  have r20 : RowS w18 80 s n (meetF g h) := RowS.below (w := w13) r12 hb19 r12.lt
  have hw21 := hw15.trans (hb19.mono hw15.size)
  clear r12 hw15 hb19
  have hx0 := r17.lt
  go_wp2_with fail
  refine (toS_any A' n c' h _ (hb.to hw21 hw21.size) hk).mono ?_
  rintro e w24 ⟨x1, rfl, hl22, r23, hb25⟩
  have r26 : RowS w24 80 s n (meetF g h) := RowS.below (w := w18) r20 hb25 r20.lt
  have r27 : RowS w24 80 x0 n g := RowS.below (w := w18) r17 hb25 r17.lt
  have hw28 := hw21.trans (hb25.mono hw21.size)
  clear r20 r17 hw21 hb25
  have hx1 := r23.lt
  go_wp2_with fail
  refine (iMeet_yes _ _ n n n g h _ (rds_of r27) (rds_of r23) HY.out).mono ?_
  rintro e w31 ⟨b, cb, rfl, hl29, r30, hb32⟩
  have r33 : RowS w31 80 s n (meetF g h) := RowS.below (w := w24) r26 hb32 r26.lt
  have r34 : RowS w31 80 x0 n g := RowS.below (w := w24) r27 hb32 r27.lt
  have r35 : RowS w31 80 x1 n h := RowS.below (w := w24) r23 hb32 r23.lt
  have hw36 := hw28.trans (hb32.mono hw28.size)
  clear r26 r27 r23 hw28 hb32
  have hxg := r30.lt
  go_wp2_with fail
  refine (eqS_any _ _ n cb cs (meetF g h) _ (rds_of r30) (rds_of r33) hn).mono ?_
  rintro e w37 ⟨rfl, hb38⟩
  have r39 : RowS w37 80 s n (meetF g h) := RowS.below (w := w31) r33 hb38 r33.lt
  have r40 : RowS w37 80 x0 n g := RowS.below (w := w31) r34 hb38 r34.lt
  have r41 : RowS w37 80 x1 n h := RowS.below (w := w31) r35 hb38 r35.lt
  have r42 : RowS w37 80 b n (meetF g h) := RowS.below (w := w31) r30 hb38 r30.lt
  have hw43 := hw36.trans (hb38.mono hw36.size)
  clear r33 r34 r35 r30 hw36 hb38
  go_wp2_with fail
  refine (toS_any A n c g _ (ha.to hw43 hw43.size) hn).mono ?_
  rintro e w46 ⟨t1, rfl, hl44, r45, hb47⟩
  have r48 : RowS w46 80 s n (meetF g h) := RowS.below (w := w37) r39 hb47 r39.lt
  have r49 : RowS w46 80 x0 n g := RowS.below (w := w37) r40 hb47 r40.lt
  have r50 : RowS w46 80 x1 n h := RowS.below (w := w37) r41 hb47 r41.lt
  have r51 : RowS w46 80 b n (meetF g h) := RowS.below (w := w37) r42 hb47 r42.lt
  have hw52 := hw43.trans (hb47.mono hw43.size)
  clear r39 r40 r41 r42 hw43 hb47
  go_wp2_with fail
  refine (eqS_any _ _ n n n g _ (rds_of r49) (rds_of r45) hn).mono ?_
  rintro e w53 ⟨rfl, hb54⟩
  have r55 : RowS w53 80 s n (meetF g h) := RowS.below (w := w46) r48 hb54 r48.lt
  have r56 : RowS w53 80 x0 n g := RowS.below (w := w46) r49 hb54 r49.lt
  have r57 : RowS w53 80 x1 n h := RowS.below (w := w46) r50 hb54 r50.lt
  have r58 : RowS w53 80 b n (meetF g h) := RowS.below (w := w46) r51 hb54 r51.lt
  have hw59 := hw52.trans (hb54.mono hw52.size)
  clear r48 r49 r50 r51 r45 hw52 hb54
  go_wp2_with fail
  refine (toS_any A' n c' h _ (hb.to hw59 hw59.size) hk).mono ?_
  rintro e w62 ⟨t2, rfl, hl60, r61, hb63⟩
  have r64 : RowS w62 80 s n (meetF g h) := RowS.below (w := w53) r55 hb63 r55.lt
  have r65 : RowS w62 80 x0 n g := RowS.below (w := w53) r56 hb63 r56.lt
  have r66 : RowS w62 80 x1 n h := RowS.below (w := w53) r57 hb63 r57.lt
  have r67 : RowS w62 80 b n (meetF g h) := RowS.below (w := w53) r58 hb63 r58.lt
  have hw68 := hw59.trans (hb63.mono hw59.size)
  clear r55 r56 r57 r58 hw59 hb63
  go_wp2_with fail
  refine (eqS_any _ _ n n n h _ (rds_of r66) (rds_of r61) hk).mono ?_
  rintro e w69 ⟨rfl, hb70⟩
  have r71 : RowS w69 80 s n (meetF g h) := RowS.below (w := w62) r64 hb70 r64.lt
  have r72 : RowS w69 80 x0 n g := RowS.below (w := w62) r65 hb70 r65.lt
  have r73 : RowS w69 80 x1 n h := RowS.below (w := w62) r66 hb70 r66.lt
  have r74 : RowS w69 80 b n (meetF g h) := RowS.below (w := w62) r67 hb70 r67.lt
  have hw75 := hw68.trans (hb70.mono hw68.size)
  clear r64 r65 r66 r67 r61 hw68 hb70
  go_wp2_with fail
  refine (markS_all _ n n x0 g 1 w69 (fun _ => ⟨rfl, r72⟩) hn (by omega) (by omega)).mono ?_
  rintro e w76 ⟨rfl, hg77, _⟩
  have r79 : RowS w76 80 s n (meetF g h) := RowS.grown (w := w69) r71 hg77 (by omega)
  have r80 : RowS w76 80 x1 n h := RowS.grown (w := w69) r73 hg77 (by omega)
  have r81 : RowS w76 80 b n (meetF g h) := RowS.grown (w := w69) r74 hg77 (by omega)
  have hw82 : Below w.heap.size w w76 := hw75.grown hg77 hw75.size (fun x hx => by injection hx with hx; omega)
  clear r71 r72 r73 r74 hw75 hg77
  go_wp2_with fail
  refine (markS_all _ n n x1 h (1 + 3 * (n : Int)) w76 (fun _ => ⟨rfl, r80⟩) hk (by omega) (by omega)).mono ?_
  rintro e w83 ⟨rfl, hg84, _⟩
  have r86 : RowS w83 80 s n (meetF g h) := RowS.grown (w := w76) r79 hg84 (by omega)
  have r87 : RowS w83 80 b n (meetF g h) := RowS.grown (w := w76) r81 hg84 (by omega)
  have hw88 : Below w.heap.size w w83 := hw82.grown hg84 hw82.size (fun x hx => by injection hx with hx; omega)
  clear r79 r80 r81 hw82 hg84
  have hk0 : ¬ (1 + 3 * (n : Int) + 3 * (n : Int)) < 0 := by omega
  go_wp2_with fail
  refine (eqS_any _ _ n cb cs (meetF g h) _ (rds_of r87) (rds_of r86) hn).mono ?_
  rintro e w89 ⟨rfl, hb90⟩
  have r91 : RowS w89 80 s n (meetF g h) := RowS.below (w := w83) r86 hb90 r86.lt
  have r92 : RowS w89 80 b n (meetF g h) := RowS.below (w := w83) r87 hb90 r87.lt
  have hw93 := hw88.trans (hb90.mono hw88.size)
  clear r86 r87 hw88 hb90
  go_wp2_with fail
  refine (markS_all _ n cb b (meetF g h) 1 w89 (fun _ => ⟨rfl, r92⟩) hn (by omega) (by omega)).mono ?_
  rintro e w94 ⟨rfl, hg95, hn96⟩
  have r97 : RowS w94 80 s n (meetF g h) := RowS.grown (w := w89) r91 hg95 (by omega)
  have r98 : RowS w94 80 b n (markF 1) := hn96 (by omega)
  have hw99 : Below w.heap.size w w94 := hw93.grown hg95 hw93.size (fun x hx => by injection hx with hx; omega)
  clear r91 r92 hw93 hg95
  go_wp2_with fail
  refine (heldS_all _ n cb b 1 w94 (fun _ => ⟨rfl, r98⟩) hn (by omega) (by omega)).mono ?_
  rintro e w100 ⟨rfl, rfl⟩
  go_wp2_with fail
  refine (toS_any A n c g _ (ha.to hw99 hw99.size) hn).mono ?_
  rintro e w103 ⟨b3, rfl, hl101, r102, hb104⟩
  have r105 : RowS w103 80 s n (meetF g h) := RowS.below (w := w94) r97 hb104 r97.lt
  have r106 : RowS w103 80 b n (markF 1) := RowS.below (w := w94) r98 hb104 r98.lt
  have hw107 := hw99.trans (hb104.mono hw99.size)
  clear r97 r98 hw99 hb104
  go_wp2_with fail
  refine (toS_any A' n c' h _ (hb.to hw107 hw107.size) hk).mono ?_
  rintro e w110 ⟨b4, rfl, hl108, r109, hb111⟩
  have r112 : RowS w110 80 s n (meetF g h) := RowS.below (w := w103) r105 hb111 r105.lt
  have r113 : RowS w110 80 b n (markF 1) := RowS.below (w := w103) r106 hb111 r106.lt
  have r114 : RowS w110 80 b3 n g := RowS.below (w := w103) r102 hb111 r102.lt
  have hw115 := hw107.trans (hb111.mono hw107.size)
  clear r105 r106 r102 hw107 hb111
  go_wp2_with fail
  refine (iMeet_yes _ _ n n n g h _ (rds_of r114) (rds_of r109) HY.out).mono ?_
  rintro e w118 ⟨b5, c5, rfl, hl116, r117, hb119⟩
  have r120 : RowS w118 80 s n (meetF g h) := RowS.below (w := w110) r112 hb119 r112.lt
  have r121 : RowS w118 80 b n (markF 1) := RowS.below (w := w110) r113 hb119 r113.lt
  have hw122 := hw115.trans (hb119.mono hw115.size)
  clear r112 r113 r114 r109 hw115 hb119
  go_wp2_with fail
  refine (eqS_any _ _ n c5 cs (meetF g h) _ (rds_of r117) (rds_of r120) hn).mono ?_
  rintro e w123 ⟨rfl, hb124⟩
  have r125 : RowS w123 80 s n (meetF g h) := RowS.below (w := w118) r120 hb124 r120.lt
  have r126 : RowS w123 80 b n (markF 1) := RowS.below (w := w118) r121 hb124 r121.lt
  have r127 : RowS w123 80 b5 n (meetF g h) := RowS.below (w := w118) r117 hb124 r117.lt
  have hw128 := hw122.trans (hb124.mono hw122.size)
  clear r120 r121 r117 hw122 hb124
  go_wp2_with fail
  refine (heldS_all _ n cb b 1 w123 (fun _ => ⟨rfl, r126⟩) hn (by omega) (by omega)).mono ?_
  rintro e w129 ⟨rfl, rfl⟩
  go_wp2_with fail
  go_ret
  exact ⟨rfl, hw128⟩

theorem lawBoxMeet (A A' : Option Addr) (n k c c' : Nat) (g h : Nat → Sp) (w : World) (ha : RdS w w.heap.size A n g) (hb : RdS w w.heap.size A' k h) (hn : n ≤ 9223372036854775807) (hk : k ≤ 9223372036854775807) :
    Calls Try.prog 10 #[.slice A n c, .slice A' k c'] w fun e w' => e = .returned (.bool true) ∧ Below w.heap.size w w' := by
  by_cases hbig : (1048576 : Int) - (n : Int) < 0
  · go_enter Try.func10, Try.ntmps10
    go_wp2_with fail
    refine (szS_big A n c 1048576 _ hn (by omega) (by omega) hbig).mono ?_
    rintro e w1 ⟨rfl, rfl⟩
    go_wp2_with fail
    go_ret
    exact ⟨rfl, Below.refl _ _⟩
  by_cases hbig2 : (1048576 : Int) - (n : Int) - (k : Int) < 0
  · go_enter Try.func10, Try.ntmps10
    go_wp2_with fail
    refine (szS_ok A n c 1048576 _ hn (by omega) (by omega) (by omega)).mono ?_
    rintro e w1 ⟨rfl, rfl⟩
    go_wp2_with fail
    refine (szS_big A' k c' _ _ hk (by omega) (by omega) hbig2).mono ?_
    rintro e w1 ⟨rfl, rfl⟩
    go_wp2_with fail
    go_ret
    exact ⟨rfl, Below.refl _ _⟩
  cases hy : meetB n g k h with
  | false => exact lawMeet_no A A' n k c c' g h w ha hb (by omega) hy
  | true =>
    obtain rfl : n = k := (meetB_iff.1 hy).2.2.1
    exact lawMeet_yes A A' n c c' g h w ha hb hy
end Go.Proofs.Ytmlcpjcchgihfaa
