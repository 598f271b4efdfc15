/- A tree's text read, of the program. -/
import Derived.Test.YtkkkpijdbfijfaaGreatDoorRtD
import Derived.Test.YtkkkpijdbfijfaaGreatDoorRtB
namespace Go.Proofs.YtkkkpijdbfijfaaGreatDoor
open Go.RowKit Go.Deep

theorem wordsT_any (s : ByteArray) (w : World) (hs : s.size ≤ 4194304) (hM : LenOk w) :
    Calls Tryz.prog 28 #[.string s, .string ⟨#[32]⟩, .int .i64 16] w fun e w' => ∃ N, e = .returned (.slice (some ⟨w.heap.size, 0, none⟩) (wordsT s).length N) ∧ Blk w' w.heap.size 9 (Lib.cellsOf (wordsT s) N) ∧ Below w.heap.size w w' := by
  obtain ⟨m, hm⟩ := hM
  refine (strings_SplitN s ⟨#[32]⟩ 16 m w (by omega) hm (by decide) (by omega) (by omega)).mono ?_
  rintro e w' ⟨rfl, rfl⟩
  exact ⟨_, rfl, Blk.new _ _ _, (Below.refl _ _).alloc (Nat.le_refl _) _⟩
theorem wordsT_pos (s : ByteArray) : 0 < (wordsT s).length := by
  unfold wordsT
  generalize min 16 (s.size + 1) - 1 = k
  cases k with
  | zero => rw [Lib.splitB_zero]; simp
  | succ k =>
    unfold Lib.splitB
    split <;> simp
theorem treS_nt {n : Nat} {g : Nat → Nd} (h : treeB g n 6 = true) : treS n g = ntS n g := by unfold treS; rw [if_pos h]

set_option maxRecDepth 100000 in
set_option maxHeartbeats 4000000 in
theorem iReadTree_any (s : ByteArray) (w : World) (hs : s.size ≤ 4194304) (hE : ErrOk w) (hM : LenOk w) (hp : Hid (Pow w w.heap.size)) :
    Calls Tryz.prog 9 #[.string s] w (TrAns s w) := by
  obtain ⟨P, HP⟩ : ∃ P, Hid (wordsT s = P) := ⟨_, hid rfl⟩
  have hPl : P.length ≤ 16 := by rw [← HP.out]; exact wordsT_len s
  have hPp : 0 < P.length := by rw [← HP.out]; exact wordsT_pos s
  have HSP := hid (wordsT_any s w hs hM)
  rw [HP.out] at HSP
  obtain ⟨i0, hi0, hz0, hz1, hz2⟩ := info_nodeT
  have hmk := fun wx => run_make_rowN (P := Tryz.prog) 24 42 i0 _ Tryz.underlying24 hi0 hz0 .i64 .i64 P.length P.length (Nat.le_refl _) (by rw [hz2]; omega) (by omega) wx
  rw [hz1] at hmk
  clear hz0 hz1 hz2 hi0
  have HE : Hid (∀ W, Below w.heap.size w W → ErrOk W) := fun W hW => hE.below hW
  have HMM : Hid (∀ W, Below w.heap.size w W → LenOk W) := fun W hW => hM.below hW
  have HPW : Hid (∀ W, Below w.heap.size w W → Pow W W.heap.size) := fun W hW W' hW' => hp.out W' (hW.trans (hW'.mono hW.size))
  clear hE hM hp
  go_enter Tryz.func9, Tryz.ntmps9
  go_wp2_with fail
  refine HSP.out.mono ?_
  rintro e w1 ⟨N, rfl, hS1, hb1⟩
  have hltq : w.heap.size < w1.heap.size := hS1.lt
  clear HSP
  go_wp2_with fail
  go_loopw [17] (fun i wr => ∃ (k : Nat) (cs : Array Value) (g : Nat → Nd), k ≤ P.length ∧ i = .int .i64 k ∧ Blk wr w1.heap.size 42 cs ∧ P.length * 6 ≤ cs.size ∧ Hid (∀ j, j < k → NdIn (g j) ∧ GoodN (g j) ∧ P.getD j ByteArray.empty = ndS (g j) ∧ ∀ i, i < 6 → cs[j * 6 + i]? = (ndC (g j))[i]?) ∧ Blk wr w.heap.size 9 (Lib.cellsOf P N) ∧ Hid (Below w.heap.size w wr))
    (fun i _ => P.length - (intOf i).toNat)
  case atStart => exact ⟨0, _, fun _ => zNd, Nat.zero_le _, rfl, Blk.new _ _ _, by simp [madeCells], fun j hj => by omega, hS1.alloc _, hb1.alloc hb1.size _⟩
  case round =>
    obtain ⟨k, cs, g, hk, rfl, hB, hsz, hcs, hS, hbl⟩ := hrel
    by_cases hlt : k < P.length
    · have i1 : (k : Int) < (P.length : Int) := by omega
      have i3 : (0 : Int) ≤ (k : Int) := by omega
      obtain ⟨x, hx⟩ : ∃ x, P.getD k ByteArray.empty = x := ⟨_, rfl⟩
      have hxk := getD_word hlt
      rw [hx] at hxk
      have hc : wr.cell? ⟨w.heap.size, k, none⟩ = some (.string x) := by rw [hS.cell]; exact cells_word hxk
      have hxs : x.size ≤ 4194304 := Nat.le_trans (split_mem _ s x (List.mem_of_getElem? (by rw [← HP.out] at hxk; exact hxk))) hs
      have HX := hid hx
      clear hx hxk
      go_wp2_with fail
      refine (iNode_any x _ hxs (HE.out _ hbl.out) (HMM.out _ hbl.out) (hid (HPW.out _ hbl.out))).mono ?_
      rintro e w5 ⟨hans, hb5⟩
      have hB5 := hB.below hb5 hB.lt
      have hS5 := hS.below hb5 hS.lt
      have hbl5 := hid (hbl.out.trans (hb5.mono hbl.out.size))
      clear hb5 hB hS hc hbl
      rcases hans with ⟨d, hd1, hd2, hd3, rfl⟩ | ⟨hno, d, rfl⟩
      · have HD := hid (And.intro hd1 (And.intro hd2 hd3))
        have hB6 := hB5.alloc (.cells #[.int .i64 d.feat, .int .i64 d.cut, .int .i64 d.left, .int .i64 d.right, .bool d.miss, .int .i64 d.value] 42)
        have hS6 := hS5.alloc (.cells #[.int .i64 d.feat, .int .i64 d.cut, .int .i64 d.left, .int .i64 d.right, .bool d.miss, .int .i64 d.value] 42)
        have hD6 := Blk.new w5 42 #[.int .i64 d.feat, .int .i64 d.cut, .int .i64 d.left, .int .i64 d.right, .bool d.miss, .int .i64 d.value]
        have hbl6 := hid (hbl5.out.alloc hbl5.out.size (.cells #[.int .i64 d.feat, .int .i64 d.cut, .int .i64 d.left, .int .i64 d.right, .bool d.miss, .int .i64 d.value] 42))
        have hne : w1.heap.size ≠ w5.heap.size := by have := hB5.lt; omega
        have d0 := hD6.cell 0; have d1 := hD6.cell 1; have d2 := hD6.cell 2; have d3 := hD6.cell 3; have d4 := hD6.cell 4; have d5 := hD6.cell 5
        have s0 : (w5.alloc (.cells #[.int .i64 d.feat, .int .i64 d.cut, .int .i64 d.left, .int .i64 d.right, .bool d.miss, .int .i64 d.value] 42)).cell? ⟨w1.heap.size, k * 6, none⟩ = some (cs[k * 6]'(by omega)) := by rw [hB6.cell, Array.getElem?_eq_getElem]
        have s1 : (w5.alloc (.cells #[.int .i64 d.feat, .int .i64 d.cut, .int .i64 d.left, .int .i64 d.right, .bool d.miss, .int .i64 d.value] 42)).cell? ⟨w1.heap.size, k * 6 + 1, none⟩ = some (cs[k * 6 + 1]'(by omega)) := by rw [hB6.cell, Array.getElem?_eq_getElem]
        have s2 : (w5.alloc (.cells #[.int .i64 d.feat, .int .i64 d.cut, .int .i64 d.left, .int .i64 d.right, .bool d.miss, .int .i64 d.value] 42)).cell? ⟨w1.heap.size, k * 6 + 2, none⟩ = some (cs[k * 6 + 2]'(by omega)) := by rw [hB6.cell, Array.getElem?_eq_getElem]
        have s3 : (w5.alloc (.cells #[.int .i64 d.feat, .int .i64 d.cut, .int .i64 d.left, .int .i64 d.right, .bool d.miss, .int .i64 d.value] 42)).cell? ⟨w1.heap.size, k * 6 + 3, none⟩ = some (cs[k * 6 + 3]'(by omega)) := by rw [hB6.cell, Array.getElem?_eq_getElem]
        have s4 : (w5.alloc (.cells #[.int .i64 d.feat, .int .i64 d.cut, .int .i64 d.left, .int .i64 d.right, .bool d.miss, .int .i64 d.value] 42)).cell? ⟨w1.heap.size, k * 6 + 4, none⟩ = some (cs[k * 6 + 4]'(by omega)) := by rw [hB6.cell, Array.getElem?_eq_getElem]
        have s5 : (w5.alloc (.cells #[.int .i64 d.feat, .int .i64 d.cut, .int .i64 d.left, .int .i64 d.right, .bool d.miss, .int .i64 d.value] 42)).cell? ⟨w1.heap.size, k * 6 + 5, none⟩ = some (cs[k * 6 + 5]'(by omega)) := by rw [hB6.cell, Array.getElem?_eq_getElem]
        have f0 := hB6.frozen (k * 6); have f1 := hB6.frozen (k * 6 + 1); have f2 := hB6.frozen (k * 6 + 2); have f3 := hB6.frozen (k * 6 + 3); have f4 := hB6.frozen (k * 6 + 4); have f5 := hB6.frozen (k * 6 + 5)
        clear hd1 hd2 hd3 hB5 hS5 hbl5 hD6
        go_wp2_with fail
        go_roundw
        case rel =>
          refine ⟨k + 1, _, fun j => if j = k then d else g j, by omega, by go_num, blk_put6 hB6 k d, by rw [put6_size]; exact hsz, hid (fun j hj => ?_), (((((hS6.far (p := ⟨w1.heap.size, k * 6, none⟩) (by show w.heap.size ≠ w1.heap.size; omega) _).far (p := ⟨w1.heap.size, k * 6 + 1, none⟩) (by show w.heap.size ≠ w1.heap.size; omega) _).far (p := ⟨w1.heap.size, k * 6 + 2, none⟩) (by show w.heap.size ≠ w1.heap.size; omega) _).far (p := ⟨w1.heap.size, k * 6 + 3, none⟩) (by show w.heap.size ≠ w1.heap.size; omega) _).far (p := ⟨w1.heap.size, k * 6 + 4, none⟩) (by show w.heap.size ≠ w1.heap.size; omega) _).far (p := ⟨w1.heap.size, k * 6 + 5, none⟩) (by show w.heap.size ≠ w1.heap.size; omega) _, hid (below_put6 hbl6.out (by omega) k d)⟩
          show NdIn (if j = k then d else g j) ∧ GoodN (if j = k then d else g j) ∧ P.getD j ByteArray.empty = ndS (if j = k then d else g j) ∧ ∀ i, i < 6 → (put6 cs k d)[j * 6 + i]? = (ndC (if j = k then d else g j))[i]?
          by_cases e : j = k
          · subst e
            rw [if_pos rfl, HX.out]
            exact ⟨HD.out.1, HD.out.2.1, HD.out.2.2, fun i hi => put6_in d (by omega) i hi⟩
          · rw [if_neg e]
            obtain ⟨h1, h2, h3, h4⟩ := hcs.out j (by omega)
            exact ⟨h1, h2, h3, fun i hi => by rw [put6_out d (j * 6 + i) (by omega)]; exact h4 i hi⟩
        case measure => simp [intOf]; omega
      · have HNO := hid hno
        clear hno
        have hbl6 := hid (hbl5.out.alloc hbl5.out.size (.cells #[.int .i64 d.feat, .int .i64 d.cut, .int .i64 d.left, .int .i64 d.right, .bool d.miss, .int .i64 d.value] 42))
        go_wp2_with fail
        go_ret2
        refine ⟨.inr ⟨fun n y hy e => ?_, rfl⟩, hbl6.out⟩
        have hP : P = (List.range n).map fun i => ndS (y i) := by rw [← HP.out, e, treS_nt hy, wordsT_tree hy]
        have hPn : P.length = n := by rw [hP]; simp
        have hkn : k < n := by omega
        refine HNO.out (y k) (tree_in hy k hkn) (node_good (((treeB_iff y n 6).1 hy).2.2 k hkn).1) ?_
        rw [← HX.out, hP, List.getD_eq_getElem?_getD, List.getElem?_map, List.getElem?_range hkn]
        rfl
    · obtain rfl : k = P.length := by omega
      have i1 : ¬ (P.length : Int) < (P.length : Int) := by omega
      have hrow : RowN wr 42 w1.heap.size P.length g := ⟨cs, hB, hsz, fun i hi j hj => (hcs.out i hi).2.2.2 j hj⟩
      have hg := hid (fun j (hj : j < P.length) => And.intro (hcs.out j hj).1 (And.intro (hcs.out j hj).2.1 (hcs.out j hj).2.2.1))
      clear hB hsz hcs hS
      go_wp2_with fail
      refine (iTreeOk_any _ P.length P.length g 6 _ (hrow.rd hrow.lt) (by omega)).mono ?_
      rintro e w5 ⟨rfl, hb5⟩
      have hrow5 := hrow.below hb5 hrow.lt
      have hbl5 := hbl.out.trans (hb5.mono hbl.out.size)
      have hs1 := hb1.size
      clear hb5 hrow hbl
      cases hq : treeB g P.length 6
      · have HQ := hid hq
        clear hq
        go_wp2_with fail
        go_ret2
        refine ⟨.inr ⟨fun n y hy e => ?_, rfl⟩, hbl5⟩
        have hP : P = (List.range n).map fun i => ndS (y i) := by rw [← HP.out, e, treS_nt hy, wordsT_tree hy]
        have hPn : P.length = n := by rw [hP]; simp
        have hgy : ∀ i, i < n → g i = y i := fun i hi => by
          obtain ⟨h1, h2, h3⟩ := hg.out i (by omega)
          refine ndS_inj h1 (tree_in hy i hi) h2 (node_good (((treeB_iff y n 6).1 hy).2.2 i hi).1) ?_
          rw [← h3, hP, List.getD_eq_getElem?_getD, List.getElem?_map, List.getElem?_range hi]
          rfl
        have := HQ.out
        rw [hPn, treeB_congrT hgy, hy] at this
        cases this
      · have HQ := hid hq
        clear hq
        go_wp2_with fail
        go_ret2
        refine ⟨.inl ⟨P.length, g, w1.heap.size, P.length, HQ.out, ?_, rfl, hs1, hrow5⟩, hbl5⟩
        rw [treS_nt HQ.out]
        have := wordsT_text (s := s) (g := g) (fun i hi => by
          rw [HP.out] at hi ⊢
          rw [getD_word hi, (hg.out i hi).2.2])
        rw [HP.out] at this
        exact this
end Go.Proofs.YtkkkpijdbfijfaaGreatDoor
