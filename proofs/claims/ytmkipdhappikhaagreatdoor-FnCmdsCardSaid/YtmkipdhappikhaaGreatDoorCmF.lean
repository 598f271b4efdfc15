/- The text of a command, of the other side. -/
import Derived.Test.YtmkipdhappikhaaGreatDoorCmE
import Derived.Deep.RegionWith
import Derived.Deep.DeepCutAuto
namespace Go.Proofs.YtmkipdhappikhaaGreatDoor
open Go.RowKit Go.Deep
set_option linter.unusedVariables false
set_option linter.unusedSimpArgs false

theorem names_any (w : World) : Calls Tryz.prog 46 #[] w fun e w' => ∃ g, e = .returned (.slice (some ⟨g, 0, none⟩) 5 5) ∧ w.heap.size ≤ g ∧ (∀ j : Nat, j < 5 → w'.cell? ⟨g, j, none⟩ = some (.string (fName ((j : Int) + 1)))) ∧ Below w.heap.size w w' := by
  have hB := Blk.new w 9 #[.string ⟨#[108, 111, 97, 100]⟩, .string ⟨#[112, 108, 97, 110]⟩, .string ⟨#[115, 99, 111, 114, 101]⟩, .string ⟨#[99, 108, 97, 115, 115]⟩, .string ⟨#[116, 111, 112]⟩]
  have HB := hid hB
  clear hB
  go_enter Tryz.func46, Tryz.ntmps46
  go_wp2_with fail
  go_ret
  refine ⟨w.heap.size, rfl, Nat.le_refl _, fun j hj => ?_, (Below.refl w.heap.size w).alloc (Nat.le_refl _) _⟩
  obtain rfl | rfl | rfl | rfl | rfl : j = 0 ∨ j = 1 ∨ j = 2 ∨ j = 3 ∨ j = 4 := by omega
  · exact HB.out.cell 0
  · exact HB.out.cell 1
  · exact HB.out.cell 2
  · exact HB.out.cell 3
  · exact HB.out.cell 4
set_option maxRecDepth 100000 in
set_option maxHeartbeats 4000000 in
theorem sCText_any (k a b t : Int) (D : Option Addr) (n dc : Nat) (len : Nat → Nat) (z : Nat → Nat → Int) (s : ByteArray) (w : World) (h : RdQ w w.heap.size D n len z) (hlen : Hid (∀ i, i < n → len i ≤ 4194304)) (hok : cmdB k a b t n len z s = true) :
    Calls Tryz.prog 48 #[cmV k a b t D n dc s] w fun e w' => e = .returned (.string (joinL (wordsC k a b t n len z s))) ∧ Below w.heap.size w w' := by
  have hb0 := (Below.refl w.heap.size w).alloc (Nat.le_refl _) (.cells (cmC k a b t D n dc s) 35)
  have hC0 := Blk.new w 35 (cmC k a b t D n dc s)
  obtain ⟨hk5, hnum, ⟨hnd, hdocs⟩, hsx, hnl⟩ := cmd_in hok
  have hI := nums_I64 hnum
  have HOK := hid hok
  clear hok hnl
  rcases kind_or k with rfl | rfl | rfl | rfl | rfl | hk6
  · obtain rfl : n = 0 := by simp [fD] at hnd; omega
    have hsz : s.size ≤ 4000 := by simp [fX] at hsx; omega
    have HR : Hid (joinL (wordsC 1 a b t 0 len z s) = ⟨#[108, 111, 97, 100]⟩ ++ one1 32 ++ s) := joinL_two ⟨#[108, 111, 97, 100]⟩ s
    generalize joinL (wordsC 1 a b t 0 len z s) = J at HR ⊢
    go_enter Tryz.func48, Tryz.ntmps48
    go_upto_region 1 with fail
    generalize w.alloc (.cells (cmC 1 a b t D 0 dc s) 35) = w1 at hb0 hC0 ⊢
    have c0 : w1.drew.cell? ⟨w.heap.size, 0, none⟩ = some (.int .i64 1) := hC0.cell 0
    have HC : Hid (∀ W, Below w1.heap.size w1 W → Blk W w.heap.size 35 (cmC 1 a b t D 0 dc s)) := fun W hW => hC0.below hW hC0.lt
    have hlw : w.heap.size < w1.heap.size := hC0.lt
    go_cut [3] (fun v wx => v = .string ⟨#[108, 111, 97, 100]⟩ ∧ Hid (Below w1.heap.size w1 wx))
    case first =>
      go_region_with
        (go_at_call 46; refine (names_any _).mono ?_; rintro e w3 ⟨g, rfl, hg, hcell, hb3⟩; have hn0 : w3.cell? ⟨g, 0, none⟩ = some (.string ⟨#[108, 111, 97, 100]⟩) := hcell 0 (by omega); have c0x : w3.cell? ⟨w.heap.size, 0, none⟩ = some (.int .i64 1) := (hb3.cell (show (⟨w.heap.size, 0, none⟩ : Addr).block < w1.drew.heap.size from hlw)).trans c0; have HB3 := hid ((Below.refl w1.heap.size w1).drew.trans hb3); clear hcell hb3)
      all_goals
        go_wp2_with fail
        go_meet
        exact ⟨rfl, HB3⟩
    case rest =>
    obtain ⟨rfl, hbc⟩ := hcut
    have hC3 := HC.out wc hbc.out
    have hw3 := hb0.trans (hbc.out.mono hb0.size)
    clear HC hb0 hC0 hbc c0 hlw
    obtain ⟨w3, hwc⟩ : ∃ w3, w3 = wc := ⟨_, rfl⟩
    rw [← hwc] at hC3 hw3 ⊢
    clear hwc
    obtain ⟨c0, c1, c2, c3, c4, c5⟩ := blk_cells6 hC3
    obtain ⟨T1, e1, s1, F1⟩ := cat_ (⟨#[108, 111, 97, 100]⟩ : ByteArray) ⟨#[32]⟩ (Nat.le_refl _) (one_arr _)
    obtain ⟨T2, e2, s2, F2⟩ := cat_ T1 s s1 hsz
    have l0 : (⟨#[108, 111, 97, 100]⟩ : ByteArray).size = 4 := rfl
    have z1 : ¬ 9223372036854775807 < (⟨#[108, 111, 97, 100]⟩ : ByteArray).size + 1 := by omega
    have z2 : ¬ 9223372036854775807 < T1.size + s.size := by omega
    have HX : Hid (T2 = J) := by show _ = _; rw [HR.out, F2.out, F1.out]; rfl
    clear s1 s2 F1 F2
    go_wp2_with fail
    go_ret
    exact ⟨ret_strT HX.out, hw3⟩
  · obtain rfl : n = 0 := by simp [fD] at hnd; omega
    have hIa : I64 a := hI a (by simp [numsL, fA, fB, fT])
    have hIb : I64 b := hI b (by simp [numsL, fA, fB, fT])
    have HR : Hid (joinL (wordsC 2 a b t 0 len z s) = ⟨#[112, 108, 97, 110]⟩ ++ one1 32 ++ decS a ++ one1 32 ++ decS b) := by
      show _ = _
      have e : wordsC 2 a b t 0 len z s = [⟨#[112, 108, 97, 110]⟩, decS a, decS b] := by simp [wordsC, numsL, textL, docsL, fA, fB, fT, fX, fName]
      rw [e, joinL_three]
    generalize joinL (wordsC 2 a b t 0 len z s) = J at HR ⊢
    go_enter Tryz.func48, Tryz.ntmps48
    go_upto_region 1 with fail
    generalize w.alloc (.cells (cmC 2 a b t D 0 dc s) 35) = w1 at hb0 hC0 ⊢
    have c0 : w1.drew.cell? ⟨w.heap.size, 0, none⟩ = some (.int .i64 2) := hC0.cell 0
    have HC : Hid (∀ W, Below w1.heap.size w1 W → Blk W w.heap.size 35 (cmC 2 a b t D 0 dc s)) := fun W hW => hC0.below hW hC0.lt
    have hlw : w.heap.size < w1.heap.size := hC0.lt
    go_cut [3] (fun v wx => v = .string ⟨#[112, 108, 97, 110]⟩ ∧ Hid (Below w1.heap.size w1 wx))
    case first =>
      go_region_with
        (go_at_call 46; refine (names_any _).mono ?_; rintro e w3 ⟨g, rfl, hg, hcell, hb3⟩; have hn0 : w3.cell? ⟨g, 1, none⟩ = some (.string ⟨#[112, 108, 97, 110]⟩) := hcell 1 (by omega); have c0x : w3.cell? ⟨w.heap.size, 0, none⟩ = some (.int .i64 2) := (hb3.cell (show (⟨w.heap.size, 0, none⟩ : Addr).block < w1.drew.heap.size from hlw)).trans c0; have HB3 := hid ((Below.refl w1.heap.size w1).drew.trans hb3); clear hcell hb3)
      all_goals
        go_wp2_with fail
        go_meet
        exact ⟨rfl, HB3⟩
    case rest =>
    obtain ⟨rfl, hbc⟩ := hcut
    have hC3 := HC.out wc hbc.out
    have hw3 := hb0.trans (hbc.out.mono hb0.size)
    clear HC hb0 hC0 hbc c0 hlw
    obtain ⟨w3, hwc⟩ : ∃ w3, w3 = wc := ⟨_, rfl⟩
    rw [← hwc] at hC3 hw3 ⊢
    clear hwc
    obtain ⟨c0, c1, c2, c3, c4, c5⟩ := blk_cells6 hC3
    obtain ⟨T1, e1, s1, F1⟩ := cat_ (⟨#[112, 108, 97, 110]⟩ : ByteArray) ⟨#[32]⟩ (Nat.le_refl _) (one_arr _)
    obtain ⟨T2, e2, s2, F2⟩ := cat_ T1 (decS a) s1 hIa.size
    obtain ⟨T3, e3, s3, F3⟩ := cat_ T2 ⟨#[32]⟩ s2 (one_arr _)
    obtain ⟨T4, e4, s4, F4⟩ := cat_ T3 (decS b) s3 hIb.size
    have l0 : (⟨#[112, 108, 97, 110]⟩ : ByteArray).size = 4 := rfl
    have u1 := hIa.size
    have u2 := hIb.size
    have z1 : ¬ 9223372036854775807 < (⟨#[112, 108, 97, 110]⟩ : ByteArray).size + 1 := by omega
    have z2 : ¬ 9223372036854775807 < T1.size + (decS a).size := by omega
    have z3 : ¬ 9223372036854775807 < T2.size + 1 := by omega
    have z4 : ¬ 9223372036854775807 < T3.size + (decS b).size := by omega
    have HX : Hid (T4 = J) := by show _ = _; rw [HR.out, F4.out, F3.out, F2.out, F1.out]; rfl
    clear s1 s2 s3 s4 F1 F2 F3 F4 u1 u2
    have HCC : Hid (∀ W, Below w3.heap.size w3 W → W.cell? ⟨w.heap.size, 1, none⟩ = some (.int .i64 a) ∧ W.cell? ⟨w.heap.size, 2, none⟩ = some (.int .i64 b)) := fun W hW => ⟨(hC3.below hW hC3.lt).cell 1, (hC3.below hW hC3.lt).cell 2⟩
    have DK : Hid (∀ (x : Int) (W : World), I64 x → Below w3.heap.size w3 W → Calls Tryz.prog 77 #[.int .i64 x] W fun e w' => e = .returned (.string (decS x)) ∧ Below w3.heap.size w3 w') := fun x W hx hW =>
      (l1Dec_any x W hx.1 hx.2).mono fun e w' ⟨he, hb⟩ => ⟨he, hW.trans (hb.mono hW.size)⟩
    have D0 := hid ((Below.refl w3.heap.size w3).drew)
    have HIa := hid hIa
    have HIb := hid hIb
    have HW3 := hid hw3
    clear hw3 hC3 c1 c2 c3 c4 c5 hIa hIb
    go_wp2_with fail
    refine region_classT (C := fun W => Below w3.heap.size w3 W) (by kernel_rfl) (by kernel_rfl) D0.out ?_
    repeat
      with_reducible refine wpQuiet_step (fun K hK => ?_)
      first
        | (rw [if_pos (by rfl)]; apply Exists.intro; refine ⟨fun W hW => ?_, hK _ ?_⟩; (first
            | (obtain ⟨v1, v2⟩ := HCC.out W hW; go_simp <;> with_reducible rfl)
            | (go_simp; go_at_call 77; with_reducible refine Calls.mono (DK.out a W HIa.out hW) ?_; rintro e w5 ⟨rfl, hb5⟩; exact ⟨rfl, hb5⟩)
            | (go_simp; go_at_call 77; with_reducible refine Calls.mono (DK.out b W HIb.out hW) ?_; rintro e w5 ⟨rfl, hb5⟩; exact ⟨rfl, hb5⟩)); clear hK K; (try simp only [Act.put, List.setIfInBounds_toArray, List.set_cons_zero, List.set_cons_succ]))
        | (refine Eq.mpr (if_neg ?_) (hK _ ?_); exact (fun h => Bool.false_ne_true h); clear hK K; (try simp only [Act.put, List.setIfInBounds_toArray, List.set_cons_zero, List.set_cons_succ]))
    refine wpQuiet_nil ?_
    intro WZ hZ
    have HZ := hid (HW3.out.trans (hZ.mono HW3.out.size))
    clear hZ HCC DK D0 e1 e2 e3 e4 z1 z2 z3 z4
    go_wp2_with fail
    go_ret
    exact ⟨ret_strT HX.out, HZ.out⟩
  · have HWS : Hid (∀ q, wordsC 3 a b t q len z s = [⟨#[115, 99, 111, 114, 101]⟩] ++ docsL q len z) := fun q => by simp [wordsC, numsL, textL, fA, fB, fT, fX, fName]
    go_enter Tryz.func48, Tryz.ntmps48
    go_upto_region 1 with fail
    generalize w.alloc (.cells (cmC 3 a b t D n dc s) 35) = w1 at hb0 hC0 ⊢
    have c0 : w1.drew.cell? ⟨w.heap.size, 0, none⟩ = some (.int .i64 3) := hC0.cell 0
    have HC : Hid (∀ W, Below w1.heap.size w1 W → Blk W w.heap.size 35 (cmC 3 a b t D n dc s)) := fun W hW => hC0.below hW hC0.lt
    have hlw : w.heap.size < w1.heap.size := hC0.lt
    go_cut [3] (fun v wx => v = .string ⟨#[115, 99, 111, 114, 101]⟩ ∧ Hid (Below w1.heap.size w1 wx))
    case first =>
      go_region_with
        (go_at_call 46; refine (names_any _).mono ?_; rintro e w3 ⟨g, rfl, hg, hcell, hb3⟩; have hn0 : w3.cell? ⟨g, 2, none⟩ = some (.string ⟨#[115, 99, 111, 114, 101]⟩) := hcell 2 (by omega); have c0x : w3.cell? ⟨w.heap.size, 0, none⟩ = some (.int .i64 3) := (hb3.cell (show (⟨w.heap.size, 0, none⟩ : Addr).block < w1.drew.heap.size from hlw)).trans c0; have HB3 := hid ((Below.refl w1.heap.size w1).drew.trans hb3); clear hcell hb3)
      all_goals
        go_wp2_with fail
        go_meet
        exact ⟨rfl, HB3⟩
    case rest =>
    obtain ⟨rfl, hbc⟩ := hcut
    have hC3 := HC.out wc hbc.out
    have hw3 := hb0.trans (hbc.out.mono hb0.size)
    clear HC hb0 hC0 hbc c0 hlw
    obtain ⟨w3, hwc⟩ : ∃ w3, w3 = wc := ⟨_, rfl⟩
    rw [← hwc] at hC3 hw3 ⊢
    clear hwc
    obtain ⟨c0, c1, c2, c3, c4, c5⟩ := blk_cells6 hC3
    obtain ⟨P, hP⟩ : ∃ P : ByteArray, P = ⟨#[115, 99, 111, 114, 101]⟩ := ⟨_, rfl⟩
    have HP : Hid (P = joinL [⟨#[115, 99, 111, 114, 101]⟩]) := by show _ = _; rw [hP, joinL_one]
    have hPs : P.size ≤ 5 := by rw [hP]; decide
    rw [← hP]
    clear hP
    go_wp2_with fail
    have HW3 := hid hw3
    have HC3 := hid hC3
    have hn20 : n ≤ 20 := by simp [fD] at hnd; omega
    have hP2 : P.size ≤ 40 := by omega
    clear hw3 hC3 c0 c1 c2 c3 c4 c5
    go_loopw [3, 4] (fun v i wr => ∃ (q : Nat) (T : ByteArray), q ≤ n ∧ i = .int .i64 q ∧ v = .string T ∧ Hid (T = joinL ([⟨#[115, 99, 111, 114, 101]⟩] ++ docsL q len z)) ∧ T.size ≤ 40 + q * 60 ∧ Hid (Below w3.heap.size w3 wr))
      (fun _ i _ => n - (intOf i).toNat)
    case atStart => exact ⟨0, _, Nat.zero_le _, rfl, rfl, (by show _ = _; rw [HP.out]; unfold docsL; rw [List.range_zero, List.map_nil, List.append_nil]), by omega, Below.refl _ _⟩
    case round =>
      obtain ⟨q, T, hq, rfl, rfl, HT, hTs, hbl⟩ := hrel
      have hC := HC3.out.below hbl.out HC3.out.lt
      have c4 : wr.cell? ⟨w.heap.size, 4, none⟩ = some (.slice D n dc) := hC.cell 4
      have hbw := HW3.out.trans (hbl.out.mono HW3.out.size)
      have hrd := h.to hbw
      by_cases hlt : q < n
      · obtain ⟨b', off, Ai, ci, rfl, hb, hc, hri⟩ := hrd.at_ hlt
        have i1 : (q : Int) < (n : Int) := by omega
        have i0' : (0 : Int) ≤ (q : Int) := by omega
        have hlk := hlen.out q hlt
        have hds := docS_sz (hdocs q hlt)
        obtain ⟨T1, e1, s1, F1⟩ := cat_ T ⟨#[32]⟩ (Nat.le_refl _) (one_arr _)
        obtain ⟨T2, e2, s2, F2⟩ := cat_ T1 (docS (len q) (z q)) s1 hds
        have z1 : ¬ 9223372036854775807 < T.size + 1 := by omega
        have z2 : ¬ 9223372036854775807 < T1.size + (docS (len q) (z q)).size := by omega
        have HT2 : Hid (T2 = joinL ([⟨#[115, 99, 111, 114, 101]⟩] ++ docsL (q + 1) len z)) := by
          show _ = _
          have : docsL (q + 1) len z = docsL q len z ++ [docS (len q) (z q)] := by unfold docsL; rw [List.range_succ, List.map_append]; rfl
          rw [this, ← List.append_assoc, joinL_snoc _ (by simp), ← HT.out, F2.out, F1.out]
          rfl
        have hT2s : T2.size ≤ 40 + (q + 1) * 60 := by omega
        clear s1 s2 F1 F2 hC hds HT
        go_wp2_with fail
        refine (sDocText_any Ai (len q) ci (z q) _ hri hlk).mono ?_
        rintro e w6 ⟨rfl, hb6⟩
        have hbl6 := hid (hbl.out.trans (hb6.mono hbl.out.size))
        clear hb6 c4 hc hri hrd hbw hbl e1 z1
        go_wp2_with fail
        go_roundw
        case rel => exact ⟨q + 1, T2, by omega, by go_num, rfl, HT2, hT2s, hbl6⟩
        case measure => simp [intOf]; omega
      · obtain rfl : q = n := by omega
        have HX : Hid (joinL (wordsC 3 a b t q len z s) = T) := by show _ = _; rw [HT.out]; exact congrArg joinL (HWS.out q)
        clear hrd hC
        go_wp2_with fail
        go_ret
        exact ⟨ret_strT HX.out.symm, hbw⟩
  · have hIx : I64 t := hI t (by simp [numsL, fA, fB, fT])
    have HWS : Hid (∀ q, wordsC 4 a b t q len z s = [⟨#[99, 108, 97, 115, 115]⟩, decS t] ++ docsL q len z) := fun q => by simp [wordsC, numsL, textL, fA, fB, fT, fX, fName]
    go_enter Tryz.func48, Tryz.ntmps48
    go_upto_region 1 with fail
    generalize w.alloc (.cells (cmC 4 a b t D n dc s) 35) = w1 at hb0 hC0 ⊢
    have c0 : w1.drew.cell? ⟨w.heap.size, 0, none⟩ = some (.int .i64 4) := hC0.cell 0
    have HC : Hid (∀ W, Below w1.heap.size w1 W → Blk W w.heap.size 35 (cmC 4 a b t D n dc s)) := fun W hW => hC0.below hW hC0.lt
    have hlw : w.heap.size < w1.heap.size := hC0.lt
    go_cut [3] (fun v wx => v = .string ⟨#[99, 108, 97, 115, 115]⟩ ∧ Hid (Below w1.heap.size w1 wx))
    case first =>
      go_region_with
        (go_at_call 46; refine (names_any _).mono ?_; rintro e w3 ⟨g, rfl, hg, hcell, hb3⟩; have hn0 : w3.cell? ⟨g, 3, none⟩ = some (.string ⟨#[99, 108, 97, 115, 115]⟩) := hcell 3 (by omega); have c0x : w3.cell? ⟨w.heap.size, 0, none⟩ = some (.int .i64 4) := (hb3.cell (show (⟨w.heap.size, 0, none⟩ : Addr).block < w1.drew.heap.size from hlw)).trans c0; have HB3 := hid ((Below.refl w1.heap.size w1).drew.trans hb3); clear hcell hb3)
      all_goals
        go_wp2_with fail
        go_meet
        exact ⟨rfl, HB3⟩
    case rest =>
    obtain ⟨rfl, hbc⟩ := hcut
    have hC3 := HC.out wc hbc.out
    have hw3 := hb0.trans (hbc.out.mono hb0.size)
    clear HC hb0 hC0 hbc c0 hlw
    obtain ⟨w3, hwc⟩ : ∃ w3, w3 = wc := ⟨_, rfl⟩
    rw [← hwc] at hC3 hw3 ⊢
    clear hwc
    obtain ⟨c0, c1, c2, c3, c4, c5⟩ := blk_cells6 hC3
    obtain ⟨T1, e1, s1, F1⟩ := cat_ (⟨#[99, 108, 97, 115, 115]⟩ : ByteArray) ⟨#[32]⟩ (Nat.le_refl _) (one_arr _)
    obtain ⟨P, e2, s2, F2⟩ := cat_ T1 (decS t) s1 hIx.size
    have l0 : (⟨#[99, 108, 97, 115, 115]⟩ : ByteArray).size ≤ 5 := by decide
    have u1 := hIx.size
    have z1 : ¬ 9223372036854775807 < (⟨#[99, 108, 97, 115, 115]⟩ : ByteArray).size + 1 := by omega
    have z2 : ¬ 9223372036854775807 < T1.size + (decS t).size := by omega
    have HP : Hid (P = joinL [⟨#[99, 108, 97, 115, 115]⟩, decS t]) := by show _ = _; rw [joinL_two, F2.out, F1.out]; rfl
    have hPs : P.size ≤ 27 := by omega
    clear s1 s2 F1 F2 u1
    go_wp2_with fail
    refine (l1Dec_any t _ hIx.1 hIx.2).mono ?_
    rintro e w5 ⟨rfl, hb5⟩
    have hC5 := hC3.below hb5 hC3.lt
    have hw5 := hw3.trans (hb5.mono hw3.size)
    clear hC3 hw3 hb5 c0 c1 c2 c3 c4 c5
    obtain ⟨c0, c1, c2, c3, c4, c5⟩ := blk_cells6 hC5
    go_wp2_with fail
    have hC3 := hC5
    have hw3 := hw5
    clear hC5 hw5 e1 e2 z1 z2
    have HW3 := hid hw3
    have HC3 := hid hC3
    have hn20 : n ≤ 20 := by simp [fD] at hnd; omega
    have hP2 : P.size ≤ 40 := by omega
    clear hw3 hC3 c0 c1 c2 c3 c4 c5
    go_loopw [3, 4] (fun v i wr => ∃ (q : Nat) (T : ByteArray), q ≤ n ∧ i = .int .i64 q ∧ v = .string T ∧ Hid (T = joinL ([⟨#[99, 108, 97, 115, 115]⟩, decS t] ++ docsL q len z)) ∧ T.size ≤ 40 + q * 60 ∧ Hid (Below w5.heap.size w5 wr))
      (fun _ i _ => n - (intOf i).toNat)
    case atStart => exact ⟨0, _, Nat.zero_le _, rfl, rfl, (by show _ = _; rw [HP.out]; unfold docsL; rw [List.range_zero, List.map_nil, List.append_nil]), by omega, Below.refl _ _⟩
    case round =>
      obtain ⟨q, T, hq, rfl, rfl, HT, hTs, hbl⟩ := hrel
      have hC := HC3.out.below hbl.out HC3.out.lt
      have c4 : wr.cell? ⟨w.heap.size, 4, none⟩ = some (.slice D n dc) := hC.cell 4
      have hbw := HW3.out.trans (hbl.out.mono HW3.out.size)
      have hrd := h.to hbw
      by_cases hlt : q < n
      · obtain ⟨b', off, Ai, ci, rfl, hb, hc, hri⟩ := hrd.at_ hlt
        have i1 : (q : Int) < (n : Int) := by omega
        have i0' : (0 : Int) ≤ (q : Int) := by omega
        have hlk := hlen.out q hlt
        have hds := docS_sz (hdocs q hlt)
        obtain ⟨T1, e1, s1, F1⟩ := cat_ T ⟨#[32]⟩ (Nat.le_refl _) (one_arr _)
        obtain ⟨T2, e2, s2, F2⟩ := cat_ T1 (docS (len q) (z q)) s1 hds
        have z1 : ¬ 9223372036854775807 < T.size + 1 := by omega
        have z2 : ¬ 9223372036854775807 < T1.size + (docS (len q) (z q)).size := by omega
        have HT2 : Hid (T2 = joinL ([⟨#[99, 108, 97, 115, 115]⟩, decS t] ++ docsL (q + 1) len z)) := by
          show _ = _
          have : docsL (q + 1) len z = docsL q len z ++ [docS (len q) (z q)] := by unfold docsL; rw [List.range_succ, List.map_append]; rfl
          rw [this, ← List.append_assoc, joinL_snoc _ (by simp), ← HT.out, F2.out, F1.out]
          rfl
        have hT2s : T2.size ≤ 40 + (q + 1) * 60 := by omega
        clear s1 s2 F1 F2 hC hds HT
        go_wp2_with fail
        refine (sDocText_any Ai (len q) ci (z q) _ hri hlk).mono ?_
        rintro e w6 ⟨rfl, hb6⟩
        have hbl6 := hid (hbl.out.trans (hb6.mono hbl.out.size))
        clear hb6 c4 hc hri hrd hbw hbl e1 z1
        go_wp2_with fail
        go_roundw
        case rel => exact ⟨q + 1, T2, by omega, by go_num, rfl, HT2, hT2s, hbl6⟩
        case measure => simp [intOf]; omega
      · obtain rfl : q = n := by omega
        have HX : Hid (joinL (wordsC 4 a b t q len z s) = T) := by show _ = _; rw [HT.out]; exact congrArg joinL (HWS.out q)
        clear hrd hC
        go_wp2_with fail
        go_ret
        exact ⟨ret_strT HX.out.symm, hbw⟩
  · have hIx : I64 a := hI a (by simp [numsL, fA, fB, fT])
    have HWS : Hid (∀ q, wordsC 5 a b t q len z s = [⟨#[116, 111, 112]⟩, decS a] ++ docsL q len z) := fun q => by simp [wordsC, numsL, textL, fA, fB, fT, fX, fName]
    go_enter Tryz.func48, Tryz.ntmps48
    go_upto_region 1 with fail
    generalize w.alloc (.cells (cmC 5 a b t D n dc s) 35) = w1 at hb0 hC0 ⊢
    have c0 : w1.drew.cell? ⟨w.heap.size, 0, none⟩ = some (.int .i64 5) := hC0.cell 0
    have HC : Hid (∀ W, Below w1.heap.size w1 W → Blk W w.heap.size 35 (cmC 5 a b t D n dc s)) := fun W hW => hC0.below hW hC0.lt
    have hlw : w.heap.size < w1.heap.size := hC0.lt
    go_cut [3] (fun v wx => v = .string ⟨#[116, 111, 112]⟩ ∧ Hid (Below w1.heap.size w1 wx))
    case first =>
      go_region_with
        (go_at_call 46; refine (names_any _).mono ?_; rintro e w3 ⟨g, rfl, hg, hcell, hb3⟩; have hn0 : w3.cell? ⟨g, 4, none⟩ = some (.string ⟨#[116, 111, 112]⟩) := hcell 4 (by omega); have c0x : w3.cell? ⟨w.heap.size, 0, none⟩ = some (.int .i64 5) := (hb3.cell (show (⟨w.heap.size, 0, none⟩ : Addr).block < w1.drew.heap.size from hlw)).trans c0; have HB3 := hid ((Below.refl w1.heap.size w1).drew.trans hb3); clear hcell hb3)
      all_goals
        go_wp2_with fail
        go_meet
        exact ⟨rfl, HB3⟩
    case rest =>
    obtain ⟨rfl, hbc⟩ := hcut
    have hC3 := HC.out wc hbc.out
    have hw3 := hb0.trans (hbc.out.mono hb0.size)
    clear HC hb0 hC0 hbc c0 hlw
    obtain ⟨w3, hwc⟩ : ∃ w3, w3 = wc := ⟨_, rfl⟩
    rw [← hwc] at hC3 hw3 ⊢
    clear hwc
    obtain ⟨c0, c1, c2, c3, c4, c5⟩ := blk_cells6 hC3
    obtain ⟨T1, e1, s1, F1⟩ := cat_ (⟨#[116, 111, 112]⟩ : ByteArray) ⟨#[32]⟩ (Nat.le_refl _) (one_arr _)
    obtain ⟨P, e2, s2, F2⟩ := cat_ T1 (decS a) s1 hIx.size
    have l0 : (⟨#[116, 111, 112]⟩ : ByteArray).size ≤ 5 := by decide
    have u1 := hIx.size
    have z1 : ¬ 9223372036854775807 < (⟨#[116, 111, 112]⟩ : ByteArray).size + 1 := by omega
    have z2 : ¬ 9223372036854775807 < T1.size + (decS a).size := by omega
    have HP : Hid (P = joinL [⟨#[116, 111, 112]⟩, decS a]) := by show _ = _; rw [joinL_two, F2.out, F1.out]; rfl
    have hPs : P.size ≤ 27 := by omega
    clear s1 s2 F1 F2 u1
    go_wp2_with fail
    refine (l1Dec_any a _ hIx.1 hIx.2).mono ?_
    rintro e w5 ⟨rfl, hb5⟩
    have hC5 := hC3.below hb5 hC3.lt
    have hw5 := hw3.trans (hb5.mono hw3.size)
    clear hC3 hw3 hb5 c0 c1 c2 c3 c4 c5
    obtain ⟨c0, c1, c2, c3, c4, c5⟩ := blk_cells6 hC5
    go_wp2_with fail
    have hC3 := hC5
    have hw3 := hw5
    clear hC5 hw5 e1 e2 z1 z2
    have HW3 := hid hw3
    have HC3 := hid hC3
    have hn20 : n ≤ 20 := by simp [fD] at hnd; omega
    have hP2 : P.size ≤ 40 := by omega
    clear hw3 hC3 c0 c1 c2 c3 c4 c5
    go_loopw [3, 4] (fun v i wr => ∃ (q : Nat) (T : ByteArray), q ≤ n ∧ i = .int .i64 q ∧ v = .string T ∧ Hid (T = joinL ([⟨#[116, 111, 112]⟩, decS a] ++ docsL q len z)) ∧ T.size ≤ 40 + q * 60 ∧ Hid (Below w5.heap.size w5 wr))
      (fun _ i _ => n - (intOf i).toNat)
    case atStart => exact ⟨0, _, Nat.zero_le _, rfl, rfl, (by show _ = _; rw [HP.out]; unfold docsL; rw [List.range_zero, List.map_nil, List.append_nil]), by omega, Below.refl _ _⟩
    case round =>
      obtain ⟨q, T, hq, rfl, rfl, HT, hTs, hbl⟩ := hrel
      have hC := HC3.out.below hbl.out HC3.out.lt
      have c4 : wr.cell? ⟨w.heap.size, 4, none⟩ = some (.slice D n dc) := hC.cell 4
      have hbw := HW3.out.trans (hbl.out.mono HW3.out.size)
      have hrd := h.to hbw
      by_cases hlt : q < n
      · obtain ⟨b', off, Ai, ci, rfl, hb, hc, hri⟩ := hrd.at_ hlt
        have i1 : (q : Int) < (n : Int) := by omega
        have i0' : (0 : Int) ≤ (q : Int) := by omega
        have hlk := hlen.out q hlt
        have hds := docS_sz (hdocs q hlt)
        obtain ⟨T1, e1, s1, F1⟩ := cat_ T ⟨#[32]⟩ (Nat.le_refl _) (one_arr _)
        obtain ⟨T2, e2, s2, F2⟩ := cat_ T1 (docS (len q) (z q)) s1 hds
        have z1 : ¬ 9223372036854775807 < T.size + 1 := by omega
        have z2 : ¬ 9223372036854775807 < T1.size + (docS (len q) (z q)).size := by omega
        have HT2 : Hid (T2 = joinL ([⟨#[116, 111, 112]⟩, decS a] ++ docsL (q + 1) len z)) := by
          show _ = _
          have : docsL (q + 1) len z = docsL q len z ++ [docS (len q) (z q)] := by unfold docsL; rw [List.range_succ, List.map_append]; rfl
          rw [this, ← List.append_assoc, joinL_snoc _ (by simp), ← HT.out, F2.out, F1.out]
          rfl
        have hT2s : T2.size ≤ 40 + (q + 1) * 60 := by omega
        clear s1 s2 F1 F2 hC hds HT
        go_wp2_with fail
        refine (sDocText_any Ai (len q) ci (z q) _ hri hlk).mono ?_
        rintro e w6 ⟨rfl, hb6⟩
        have hbl6 := hid (hbl.out.trans (hb6.mono hbl.out.size))
        clear hb6 c4 hc hri hrd hbw hbl e1 z1
        go_wp2_with fail
        go_roundw
        case rel => exact ⟨q + 1, T2, by omega, by go_num, rfl, HT2, hT2s, hbl6⟩
        case measure => simp [intOf]; omega
      · obtain rfl : q = n := by omega
        have HX : Hid (joinL (wordsC 5 a b t q len z s) = T) := by show _ = _; rw [HT.out]; exact congrArg joinL (HWS.out q)
        clear hrd hC
        go_wp2_with fail
        go_ret
        exact ⟨ret_strT HX.out.symm, hbw⟩
  · omega

set_option maxHeartbeats 1000000 in
theorem sCmdText_any (k a b t : Int) (D : Option Addr) (n dc : Nat) (len : Nat → Nat) (z : Nat → Nat → Int) (s : ByteArray) (w : World) (h : RdQ w w.heap.size D n len z) (hn : n ≤ 4194304) (hlen : Hid (∀ i, i < n → len i ≤ 4194304)) (hs : s.size ≤ 4194304) :
    Calls Tryz.prog 18 #[cmV k a b t D n dc s] w fun e w' => e = .returned (.string (cmdS k a b t n len z s)) ∧ Below w.heap.size w w' := by
  have hb0 := (Below.refl w.heap.size w).alloc (Nat.le_refl _) (.cells (cmC k a b t D n dc s) 35)
  have hC0 := Blk.new w 35 (cmC k a b t D n dc s)
  obtain ⟨c0, c1, c2, c3, c4, c5⟩ := blk_cells6 hC0
  go_enter Tryz.func18, Tryz.ntmps18
  go_wp2_with fail
  refine (sCmdOk_any k a b t D n dc len z s _ (h.to hb0) hn hlen hs).mono ?_
  rintro e w1 ⟨rfl, hb1⟩
  have hw1 := hb0.trans (hb1.mono hb0.size)
  have hC1 := hC0.below hb1 hC0.lt
  clear hb0 hC0 hb1 c0 c1 c2 c3 c4 c5
  obtain ⟨c0, c1, c2, c3, c4, c5⟩ := blk_cells6 hC1
  cases hok : cmdB k a b t n len z s
  · have HT : Hid (cmdS k a b t n len z s = ⟨#[]⟩) := by show _ = _; unfold cmdS; rw [hok]; rfl
    clear hok
    go_wp2_with fail
    go_ret
    exact ⟨ret_strT HT.out.symm, hw1⟩
  · have HT : Hid (cmdS k a b t n len z s = joinL (wordsC k a b t n len z s)) := by show _ = _; unfold cmdS; rw [hok]; rfl
    have HOK := hid hok
    clear hok
    go_wp2_with fail
    refine (sCText_any k a b t D n dc len z s _ (h.to hw1) hlen HOK.out).mono ?_
    rintro e w2 ⟨rfl, hb2⟩
    go_wp2_with fail
    go_ret
    exact ⟨ret_strT HT.out.symm, hw1.trans (hb2.mono hw1.size)⟩
end Go.Proofs.YtmkipdhappikhaaGreatDoor
