/- A tree's text read, of the other side: the walk. -/
import Derived.Test.YtkkkpijdbfijfaaGreatDoorRtA
import Derived.Test.YtkkkpijdbfijfaaGreatDoorTxU
namespace Go.Proofs.YtkkkpijdbfijfaaGreatDoor
open Go.RowKit Go.Deep

theorem cnt_congrT {p q : Nat → Nat} : ∀ n, (∀ i, i < n → p i = q i) → cnt p n = cnt q n
  | 0, _ => rfl
  | n + 1, h => by
    show cnt p n + p n = cnt q n + q n
    rw [cnt_congrT n (fun i hi => h i (by omega)), h n (by omega)]
theorem okTo_congrT {g y : Nat → Nd} {n : Nat} {f : Int} (h : ∀ i, i < n → g i = y i) : ∀ m, m ≤ n → okTo g n f m = okTo y n f m
  | 0, _ => rfl
  | m + 1, hm => by
    have ha : abv g m m = abv y m m := cnt_congrT m fun i hi => by rw [h i (by omega)]
    show (okTo g n f m && (nodeB f n m (g m) && (m == 0 || abv g m m == 1))) = (okTo y n f m && (nodeB f n m (y m) && (m == 0 || abv y m m == 1)))
    rw [okTo_congrT h m (by omega), h m (by omega), ha]
theorem treeB_congrT {g y : Nat → Nd} {n : Nat} {f : Int} (h : ∀ i, i < n → g i = y i) : treeB g n f = treeB y n f := by
  unfold treeB
  rw [okTo_congrT h n (Nat.le_refl _)]
theorem getD_word {P : List ByteArray} {k : Nat} (h : k < P.length) : P[k]? = some (P.getD k ByteArray.empty) := by
  rw [List.getD_eq_getElem?_getD, List.getElem?_eq_getElem h]
  rfl
set_option maxRecDepth 100000 in
set_option maxHeartbeats 4000000 in
theorem sReadTree_any (s : ByteArray) (w : World) (hs : s.size ≤ 4194304) :
    Calls Tryz.prog 10 #[.string s] w (TrAns s w) := by
  by_cases hbig : (600 : Int) < (s.size : Int)
  · go_enter Tryz.func10, Tryz.ntmps10
    go_wp2_with fail
    go_ret2
    exact ⟨.inr ⟨fun n g h e => by have := treS_600 h; rw [← e] at this; omega, rfl⟩, Below.refl _ _⟩
  obtain ⟨i0, hi0, hz0, hz1, hz2⟩ := info_nodeT
  obtain ⟨P, HP⟩ : ∃ P, Hid (allW 32 s = P) := ⟨_, hid rfl⟩
  have hPl : P.length ≤ 601 := by rw [← HP.out]; have := allW_len 32 s; omega
  have HSP := hid (split_any s (w.alloc (.cells #[] 42)) hs)
  rw [HP.out] at HSP
  go_enter Tryz.func10, Tryz.ntmps10
  go_wp2_with fail
  refine HSP.out.mono ?_
  rintro e w1 ⟨A5, c5, rfl, hown5, hb1⟩
  have hbw := (Below.refl w.heap.size w).alloc (Nat.le_refl _) (.cells #[] 42)
  have hw1 := hbw.trans (hb1.mono hbw.size)
  have hN1 := own_belowT (World.ownsRow_made (e := 42) (size := 6) w #[] 0 (Nat.le_refl w.heap.size) (by unfold maxLen; omega) rfl) hb1
  have hS1 := own_weak hown5 hbw.size
  clear hown5 hb1 hbw HSP
  go_wp2_with fail
  go_loopw [4, 6] (fun v i wr => ∃ (k : Nat) (L : List Nd) (A : Option Addr) (c : Nat), k ≤ P.length ∧ i = .int .i64 k ∧ v = .slice A k c ∧ L.length = k ∧ Hid (∀ j, j < k → Means (P.getD j ByteArray.empty) (L.getD j zNd)) ∧
      Hid (wr.ownsRow w.heap.size 42 6 (.slice A k c) k (L.flatMap ndC)) ∧ Hid (wr.ownsRow w.heap.size 9 1 (.slice A5 P.length c5) P.length (strT P)) ∧ Hid (Below w.heap.size w wr))
    (fun _ i _ => P.length - (intOf i).toNat)
  case atStart => exact ⟨0, [], _, _, Nat.zero_le _, rfl, rfl, rfl, fun j hj => by omega, hN1, hS1, hw1⟩
  case round =>
    obtain ⟨k, L, A, c, hk, rfl, rfl, hLk, hM, hN, hS, hbl⟩ := hrel
    by_cases hlt : k < P.length
    · have i1 : (k : Int) < (P.length : Int) := by omega
      have i3 : (0 : Int) ≤ (k : Int) := by omega
      obtain ⟨gb, rfl, hgb, _, hcell⟩ := own_strT hS.out (by omega)
      have hx := getD_word hlt
      obtain ⟨x, hxe⟩ : ∃ x, P.getD k ByteArray.empty = x := ⟨_, rfl⟩
      rw [hxe] at hx
      have hc : wr.cell? ⟨gb, k, none⟩ = some (.string x) := by have := hcell k x hx; rwa [Nat.zero_add] at this
      have hxs : x.size ≤ 4194304 := Nat.le_trans (split_mem _ s x (List.mem_of_getElem? (by rw [← HP.out] at hx; exact hx))) hs
      have HX := hid hxe
      have hsz := hbl.out.size
      clear hcell hx hxe
      go_wp2_with fail
      refine (sNode_any x _ hxs).mono ?_
      rintro e w2 ⟨d, rfl, hmean, hb2⟩
      have hN2 := own_belowT hN.out hb2
      have hS2 := own_belowT hS.out hb2
      have hbl2 := hbl.out.trans (hb2.mono hbl.out.size)
      have HMN := hid hmean
      clear hc hmean hb2 hN hS
      go_wp2_with (at_builtin; refine wpList_append_own _ rfl (.tmp 19) (.tmp 25) 24 rfl w.heap.size 42 i0 (ndV zNd) 6 48 Tryz.underlying24 hi0 hz0 hz1 hz2 rfl (by decide) _ k _ rfl (hN2.alloc _) ⟨w2.heap.size, 0, none⟩ 1 1 ([d].flatMap ndC) rfl rfl (nd_src w2 d) (ndC_one [d]) (by unfold maxLen; omega) (by omega) (by have := hbl2.size; simp; omega) ?_)
      intro v' w6 hown6 hg6 _
      have hbl6 : Below w.heap.size w w6 := (hbl2.alloc hbl2.size _).grown hg6 (by simp; have := hbl2.size; omega) (fun x hx => (hN2.lt x hx).1)
      have hS6 : w6.ownsRow w.heap.size 9 1 (.slice (some ⟨gb, 0, none⟩) P.length c5) P.length (strT P) := (hS2.alloc _).kept hg6 (own_apart hS2 hN2 (by decide))
      obtain ⟨A6, c6, rfl⟩ := own_formT hown6
      have HM6 : Hid (∀ j, j < k + 1 → Means (P.getD j ByteArray.empty) ((L ++ [d]).getD j zNd)) := by
        intro j hj
        by_cases e : j = k
        · subst e
          rw [HX.out, List.getD_eq_getElem?_getD, List.getElem?_append_right (by omega), hLk, Nat.sub_self]
          exact HMN.out
        · have e2 : (L ++ [d]).getD j zNd = L.getD j zNd := by
            simp only [List.getD_eq_getElem?_getD]
            rw [List.getElem?_append_left (by omega)]
          rw [e2]
          exact hM.out j (by omega)
      have HN6 : Hid (w6.ownsRow w.heap.size 42 6 (.slice A6 (k + 1) c6) (k + 1) ((L ++ [d]).flatMap ndC)) := by
        show World.ownsRow _ _ _ _ _ _ _
        rw [List.flatMap_append]
        exact hown6
      clear hg6 hown6 hN2 hS2 hbl2
      go_wp2_with fail
      go_roundw
      case rel => exact ⟨k + 1, L ++ [d], A6, c6, by omega, by go_num, rfl, by simp [hLk], HM6, HN6, hS6, hbl6⟩
      case measure => simp [intOf]; omega
    · obtain rfl : k = P.length := by omega
      have i1 : ¬ (P.length : Int) < (P.length : Int) := by omega
      have hrd := own_rdL hN.out hLk
      obtain ⟨gL, hgL⟩ : ∃ gL, (fun i => L.getD i zNd) = gL := ⟨_, rfl⟩
      rw [hgL] at hrd
      have HG := hid hgL
      clear hgL
      have HLK := hid hLk
      clear hLk
      by_cases hz : s.size = 0
      · obtain rfl : s = ⟨#[]⟩ := by
          apply ba_ext
          have : s.data.toList.length = 0 := by rw [size_len]; exact hz
          exact List.length_eq_zero_iff.1 this
        go_wp2_with fail
        go_ret2
        refine ⟨.inr ⟨fun n g h e => ?_, rfl⟩, hbl.out⟩
        have h1 := ((treeB_iff g n 6).1 h).2.1.1
        have h2 := congrArg List.length (allW_tree h)
        rw [← e] at h2
        have h3 : (treS n g).size = 0 := by rw [← e]; rfl
        rw [show treS n g = ntS n g by unfold treS; rw [if_pos h]] at h3
        obtain ⟨m, rfl⟩ : ∃ m, n = m + 1 := ⟨n - 1, by omega⟩
        have h4 : (ntS (m + 1) g).size = (if 0 < m then ntS m g ++ ⟨#[32]⟩ else ntS m g).size + (ndS (g m)).size := by
          show ((if 0 < m then ntS m g ++ ⟨#[32]⟩ else ntS m g) ++ ndS (g m)).size = _
          rw [ByteArray.size_append]
        have h5 : 0 < (ndS (g m)).size := by
          unfold ndS
          split
          · rw [ByteArray.size_append]; show 0 < 1 + _; omega
          · rw [ByteArray.size_append]; show 0 < 1 + _; omega
        omega
      · have hne : s ≠ ⟨#[]⟩ := fun e => hz (by rw [e]; rfl)
        have hl := ba_listT hne
        rw [ByteArray.toList_eq (⟨#[]⟩ : ByteArray)] at hl
        have HNE := hid hne
        clear hne hz
        go_wp2_with fail
        refine (sTreeText_any A P.length c gL _ hrd (by omega)).mono ?_
        rintro e w2 ⟨rfl, hb2⟩
        have hbl2 := hbl.out.trans (hb2.mono hbl.out.size)
        have hN2 := own_belowT hN.out hb2
        clear hb2 hrd
        by_cases he : treS P.length gL = s
        · have he2 : ((treS P.length gL).toList == s.toList) = true := by rw [he]; simp
          have hok : treeB gL P.length 6 = true := by
            cases hq : treeB gL P.length 6
            · have : treS P.length gL = ⟨#[]⟩ := by unfold treS; rw [hq]; rfl
              rw [this] at he
              exact absurd he.symm HNE.out
            · rfl
          have hp : 0 < P.length := ((treeB_iff _ _ 6).1 hok).2.1.1
          obtain ⟨b, rfl, hb, hrow⟩ := own_rowL hN2 HLK.out hp
          rw [HG.out] at hrow
          have HE := hid he
          have HOK := hid hok
          clear he hok
          go_wp2_with fail
          go_ret2
          exact ⟨.inl ⟨P.length, _, b, c, HOK.out, HE.out.symm, rfl, hb, hrow⟩, hbl2⟩
        · have he2 := ba_listT he
          have HE := hid he
          clear he
          go_wp2_with fail
          go_ret2
          refine ⟨.inr ⟨fun n g h e => HE.out ?_, rfl⟩, hbl2⟩
          have hP : P = (List.range n).map fun i => ndS (g i) := by rw [← HP.out, e, allW_tree h]
          have hPn : P.length = n := by rw [hP]; simp
          have hnd : ∀ i, i < n → L.getD i zNd = g i := fun i hi => by
            refine hM.out i (by omega) (g i) (tree_in h i hi) (node_good (((treeB_iff g n 6).1 h).2.2 i hi).1) ?_
            rw [hP, List.getD_eq_getElem?_getD, List.getElem?_map, List.getElem?_range hi]
            rfl
          rw [e, hPn]
          have hnd' : ∀ i, i < n → gL i = g i := fun i hi => by rw [← HG.out]; exact hnd i hi
          have ht : treeB gL n 6 = treeB g n 6 := treeB_congrT hnd'
          unfold treS
          rw [ht, h, if_pos rfl, if_pos rfl]
          exact joinTo_congr n fun i hi => congrArg ndS (hnd' i hi)
end Go.Proofs.YtkkkpijdbfijfaaGreatDoor
