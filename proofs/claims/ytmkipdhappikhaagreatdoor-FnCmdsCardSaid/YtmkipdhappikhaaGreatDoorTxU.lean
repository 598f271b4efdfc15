/- The text of a tree, both sides, and the law's walk. -/
import Derived.Test.YtmkipdhappikhaaGreatDoorTxT
namespace Go.Proofs.YtmkipdhappikhaaGreatDoor
open Go.RowKit Go.Deep

theorem sText_any (d : Nd) (w : World) (hd : NdIn d) :
    Calls Tryz.prog 105 #[ndV d] w fun e w' => e = .returned (.string (ndS d)) ∧ Below w.heap.size w w' := by
  cases h0 : (d.left == 0)
  · exact sText_split d w hd h0
  · exact sText_leaf d w hd.2.2.2.2 h0

theorem ntS_size {n : Nat} {g : Nat → Nd} (h : ∀ i, i < n → NdIn (g i)) : (ntS n g).size ≤ n * 112 :=
  joinTo_size (f := fun i => ndS (g i)) (sep := ⟨#[32]⟩) (M := 111) n (fun i hi => ndS_size (h i hi))

set_option maxRecDepth 100000 in
set_option maxHeartbeats 2000000 in
theorem sTree_any (A : Option Addr) (n cap : Nat) (g : Nat → Nd) (w : World) (h : RdN w w.heap.size A n g) (hn : n ≤ 4194304) (hall : ∀ i, i < n → NdIn (g i)) :
    Calls Tryz.prog 78 #[.slice A n cap] w fun e w' => e = .returned (.string (ntS n g)) ∧ Below w.heap.size w w' := by
  have HALL := hid hall
  clear hall
  go_enter Tryz.func78, Tryz.ntmps78
  go_wp2_with fail
  go_loopw [3, 4] (fun s i wr => ∃ (k : Nat) (t : ByteArray), k ≤ n ∧ i = .int .i64 k ∧ s = .string t ∧ t.size ≤ k * 112 ∧ Hid (t = ntS k g) ∧ Hid (Below w.heap.size w wr))
    (fun _ i _ => n - (intOf i).toNat)
  case atStart => exact ⟨0, _, Nat.zero_le _, rfl, rfl, by show 0 ≤ _; omega, rfl, Below.refl _ _⟩
  case round =>
    obtain ⟨k, t, hk, rfl, rfl, hts, HT, hbl⟩ := hrel
    by_cases hlt : k < n
    · obtain ⟨b, off, rfl, hb, c0, c1, c2, c3, c4, c5⟩ := (h.below hbl.out).at_ hlt
      have hns := ndS_size (HALL.out k hlt)
      have i1 : (k : Int) < (n : Int) := by omega
      by_cases h0 : 0 < k
      · obtain ⟨t2, ht2, hs2, HT2⟩ := cat_ t ⟨#[32]⟩ hts (one_arr _)
        obtain ⟨t3, ht3, hs3, HT3⟩ := cat_ t2 (ndS (g k)) hs2 hns
        have HE : Hid (t3 = ntS (k + 1) g) := by
          show t3 = (if 0 < k then _ else _) ++ _
          rw [if_pos h0, HT3.out, HT2.out, HT.out]
          rfl
        have z1 : ¬ 9223372036854775807 < t.size + 1 := by omega
        have z2 : ¬ 9223372036854775807 < t2.size + (ndS (g k)).size := by omega
        have z3 : t3.size ≤ (k + 1) * 112 := by omega
        have i0 : (0 : Int) < (k : Int) := by omega
        clear hs2 hs3 hns HT2 HT3 hts HT
        go_wp2_with fail
        refine (sText_any (g k) _ (HALL.out k hlt)).mono ?_
        rintro e w5 ⟨rfl, hb5⟩
        have hbl5 := hid (hbl.out.trans (hb5.mono hbl.out.size))
        clear hb5 c0 c1 c2 c3 c4 c5
        go_wp2_with fail
        go_roundw
        case rel => exact ⟨k + 1, _, by omega, by go_num, rfl, z3, HE, hbl5⟩
        case measure => simp [intOf]; omega
      · obtain ⟨t3, ht3, hs3, HT3⟩ := cat_ t (ndS (g k)) hts hns
        have HE : Hid (t3 = ntS (k + 1) g) := by
          show t3 = (if 0 < k then _ else _) ++ _
          rw [if_neg h0, HT3.out, HT.out]
          rfl
        have z2 : ¬ 9223372036854775807 < t.size + (ndS (g k)).size := by omega
        have z3 : t3.size ≤ (k + 1) * 112 := by omega
        have i0 : ¬ (0 : Int) < (k : Int) := by omega
        clear hs3 hns HT3 hts HT
        go_wp2_with fail
        refine (sText_any (g k) _ (HALL.out k hlt)).mono ?_
        rintro e w5 ⟨rfl, hb5⟩
        have hbl5 := hid (hbl.out.trans (hb5.mono hbl.out.size))
        clear hb5 c0 c1 c2 c3 c4 c5
        go_wp2_with fail
        go_roundw
        case rel => exact ⟨k + 1, _, by omega, by go_num, rfl, z3, HE, hbl5⟩
        case measure => simp [intOf]; omega
    · have e : k = n := by omega
      subst e
      go_wp2_with fail
      go_ret
      exact ⟨ret_strT HT.out, hbl.out⟩

set_option maxRecDepth 100000 in
set_option maxHeartbeats 2000000 in
theorem iTreeText_any (A : Option Addr) (n cap : Nat) (g : Nat → Nd) (w : World) (h : RdN w w.heap.size A n g) (hn : n ≤ 4194304) (hp : Hid (Pow w w.heap.size)) :
    Calls Tryz.prog 25 #[.slice A n cap] w fun e w' => e = .returned (.string (treS n g)) ∧ Below w.heap.size w w' := by
  have hmk := run_make_row' (P := Tryz.prog) 44 9 (.string ByteArray.empty) 16 Tryz.underlying44 info_strT rfl .i64 .i64 n (by omega) (by omega)
  go_enter Tryz.func25, Tryz.ntmps25
  go_wp2_with fail
  refine (iTreeOk_any A n cap g 6 _ h hn).mono ?_
  rintro e w1 ⟨rfl, hb1⟩
  cases ht : treeB g n 6
  · have HT : Hid (treS n g = ⟨#[]⟩) := by show _ = _; unfold treS; rw [ht]; rfl
    clear ht
    go_wp2_with fail
    go_ret
    exact ⟨ret_strT HT.out.symm, hb1⟩
  · have HT : Hid (treS n g = ntS n g) := by show _ = _; unfold treS; rw [ht]; rfl
    have HALL := hid (tree_in ht)
    have hn15 := ((treeB_iff g n 6).1 ht).2.1
    clear ht
    have h1 := h.to hb1 hb1.size
    go_wp2_with fail
    go_loopw [14] (fun i wr => ∃ (k : Nat) (cs : Array Value), k ≤ n ∧ i = .int .i64 k ∧ Blk wr w1.heap.size 9 cs ∧ cs.size = n ∧ Hid (∀ j, j < k → cs[j]? = some (.string (ndS (g j)))) ∧ Hid (Below w.heap.size w wr) ∧ Hid (RdN wr w1.heap.size A n g))
      (fun i _ => n - (intOf i).toNat)
    case atStart => exact ⟨0, _, Nat.zero_le _, rfl, Blk.new _ _ _, by simp [madeCells], fun j hj => by omega, hb1.alloc hb1.size _, (h1.below ((Below.refl w1.heap.size w1).alloc (Nat.le_refl _) _))⟩
    case round =>
      obtain ⟨k, cs, hk, rfl, hB, hsz, hcs, hbl, hrd⟩ := hrel
      by_cases hlt : k < n
      · obtain ⟨b, off, rfl, hb, c0, c1, c2, c3, c4, c5⟩ := hrd.out.at_ hlt
        have i1 : (k : Int) < (n : Int) := by omega
        have i3 : (0 : Int) ≤ (k : Int) := by omega
        have hBn := hB.alloc (.cells #[.int .i64 (g k).feat, .int .i64 (g k).cut, .int .i64 (g k).left, .int .i64 (g k).right, .bool (g k).miss, .int .i64 (g k).value] 58)
        have hbn := (Below.refl wr.heap.size wr).alloc (Nat.le_refl _) (.cells #[.int .i64 (g k).feat, .int .i64 (g k).cut, .int .i64 (g k).left, .int .i64 (g k).right, .bool (g k).miss, .int .i64 (g k).value] 58)
        have hpw : Hid (∀ W, Below wr.heap.size wr W → Pow W W.heap.size) := fun W hW W' hW' => hp.out W' ((hbl.out.trans (hW.mono hbl.out.size)).trans (hW'.mono (hbl.out.trans (hW.mono hbl.out.size)).size))
        have hBlt := hB.lt
        clear hB
        go_wp2_with fail
        refine (text_any (g k) _ (HALL.out k hlt) (hid (hpw.out _ hbn))).mono ?_
        rintro e w5 ⟨rfl, hb5⟩
        have hB5 := hBn.below hb5 hBn.lt
        have hb15 := hbn.trans (hb5.mono hbn.size)
        have hbl5 := hid (hbl.out.trans (hb15.mono hbl.out.size))
        have hrd5 := hid (hrd.out.below (hb15.mono (Nat.le_of_lt hBlt)))
        have hc2 : w5.cell? ⟨w1.heap.size, k, none⟩ = some (cs[k]'(by omega)) := by rw [hB5.cell, Array.getElem?_eq_getElem]
        have hf2 := hB5.frozen k
        clear hBn hb5 hb15 hbn hrd hbl c0 c1 c2 c3 c4 c5
        go_wp2_with fail
        go_roundw
        case rel =>
          refine ⟨k + 1, _, by omega, by go_num, hB5.set_ k _, by simpa using hsz, hid (fun j hj => ?_), hid (hbl5.out.setCell (by have := hb1.size; simp; omega) _), ?_⟩
          · by_cases e : j = k
            · subst e; rw [Array.getElem?_setIfInBounds_self_of_lt (by omega)]
            · rw [Array.getElem?_setIfInBounds_ne (by omega)]; exact hcs.out j (by omega)
          · exact hid (hrd5.out.below ((Below.refl w1.heap.size w5).setCell (Nat.le_refl _) _))
        case measure => simp [intOf]; omega
      · have e : k = n := by omega
        subst e
        have hjs := ntS_size HALL.out
        have hlx : ((List.range k).map (fun i => ndS (g i))).length = k := by simp
        have hJ := strings_Join w1.heap.size 0 k ((List.range k).map (fun i => ndS (g i))) ⟨#[32]⟩ wr (fun j x hx => by
          rw [Nat.zero_add, hB.cell]
          have hjk : j < k := by
            have := (List.getElem?_eq_some_iff.1 hx).1
            simpa using this
          rw [hcs.out j hjk]
          simp [hjk] at hx
          rw [hx]) hB.lt (by rw [hlx]; omega) (by rw [hlx]; exact Nat.le_refl _) (join_len (Nat.le_trans hjs (by omega)))
        rw [hlx, join_is] at hJ
        have HJ := hid hJ
        clear hJ hlx hjs hcs hB
        go_wp2_with fail
        refine HJ.out.mono ?_
        rintro e w6 ⟨rfl, hb6⟩
        have hfin := hbl.out.trans (hb6.mono hbl.out.size)
        go_wp2_with fail
        go_ret
        exact ⟨ret_strT HT.out.symm, hfin⟩

end Go.Proofs.YtmkipdhappikhaaGreatDoor
