/- The text of a command, of the program. -/
import Derived.Test.YtmkipdhappikhaaGreatDoorCmD
import Derived.Test.YtmkipdhappikhaaGreatDoorRdW
namespace Go.Proofs.YtmkipdhappikhaaGreatDoor
open Go.RowKit Go.Deep
set_option linter.unusedVariables false
set_option linter.unusedSimpArgs false

/-- What lies in memory while the words are gathered. -/
structure GW (w0 : World) (cb fbk : Nat) (C F : Array Value) (L : List ByteArray) (R : Option Addr) (m d : Nat) (W : World) : Prop where
  num : L.length = m
  cmd : Blk W cb 35 C
  frm : Blk W fbk 62 F
  wds : W.ownsRow w0.heap.size 9 1 (.slice R m d) m (strT L)
  bel : Below w0.heap.size w0 W
section
variable {w0 W W' : World} {cb fbk : Nat} {C F : Array Value} {L : List ByteArray} {R : Option Addr} {m d : Nat}
theorem GW.below (h : GW w0 cb fbk C F L R m d W) (hb : Below W.heap.size W W') : GW w0 cb fbk C F L R m d W' :=
  ⟨h.num, h.cmd.below hb h.cmd.lt, h.frm.below hb h.frm.lt, own_belowT h.wds hb, h.bel.trans (hb.mono h.bel.size)⟩
theorem own_ne_blk {w : World} {B : Nat} {e t : TypeId} {size n : Nat} {v : Value} {xs : List Value} {g : Nat} {cs : Array Value} (h : w.ownsRow B e size v n xs) (hB : Blk w g t cs) (hne : t ≠ e) : some g ≠ v.ownBlock := fun e' => by
  rcases h.2 with ⟨hv, _⟩ | ⟨gg, cap, cur, hv, _, hg, _⟩
  · rw [hv] at e'; cases e'
  · rw [hv] at e'
    have e2 : g = gg := by simpa [Value.ownBlock] using e'
    subst e2
    exact hB.ne_ hg hne rfl
theorem GW.snoc (h : GW w0 cb fbk C F L R m d W) {x : ByteArray} {A6 : Option Addr} {c6 : Nat} (O : Obj) (hown : W'.ownsRow w0.heap.size 9 1 (.slice A6 (m + 1) c6) (m + 1) (strT L ++ [.string x])) (hg : (W.alloc O).grownBy W' (Value.slice R m d).ownBlock) :
    GW w0 cb fbk C F (L ++ [x]) A6 (m + 1) c6 W' := by
  have hA := h.below ((Below.refl _ W).alloc (Nat.le_refl _) O)
  refine ⟨by rw [List.length_append, h.num]; rfl, hA.cmd.grown hg (own_ne_blk hA.wds hA.cmd (by decide)), hA.frm.grown hg (own_ne_blk hA.wds hA.frm (by decide)), ?_, hA.bel.grown hg hA.bel.size (fun x hx => (hA.wds.lt x hx).1)⟩
  rw [strT_snoc]
  exact hown
end
theorem joinL_any {w : World} {B d : Nat} {R : Option Addr} {L : List ByteArray} (h : w.ownsRow B 9 1 (.slice R L.length d) L.length (strT L)) (h0 : 0 < L.length) (hl : L.length ≤ 4194304) {M : Nat} (hM : (joinL L).size ≤ M) (hM2 : M ≤ 140737488355328) :
    Calls Tryz.prog 26 #[.slice R L.length d, .string ⟨#[32]⟩] w fun e w' => e = .returned (.string (joinL L)) ∧ Below w.heap.size w w' := by
  obtain ⟨gb, rfl, hgb, hdc, hcl⟩ := own_strT h h0
  have hJ := strings_Join gb 0 d L ⟨#[32]⟩ w hcl hgb (by omega) hdc (by
    have hq := join_len (f := fun i => L.getD i ByteArray.empty) (sep := one1 32) (n := L.length) (M := M) hM
    rw [list_range] at hq
    exact Nat.le_trans hq hM2)
  refine hJ.mono ?_
  rintro e w' ⟨rfl, hb⟩
  refine ⟨ret_strT ?_, hb⟩
  have hq := join_is (fun i => L.getD i ByteArray.empty) (one1 32) L.length
  rw [list_range] at hq
  exact hq
theorem own_at1 {w : World} {B n c : Nat} {e : TypeId} {A : Option Addr} {xs : List Value} (h : w.ownsRow B e 1 (.slice A n c) n xs) (hn : 0 < n) :
    ∃ gb, A = some ⟨gb, 0, none⟩ ∧ B ≤ gb ∧ gb < w.heap.size ∧ ∀ (j : Nat) x, xs[j]? = some x → w.cell? ⟨gb, j, none⟩ = some x := by
  have hl := h.1
  rcases h.2 with ⟨_, h0⟩ | ⟨gb, cap, cur, hv, hb, hh, hnc, _, _, ht⟩
  · omega
  · injection hv with hA _ hC
    subst hA hC
    refine ⟨gb, rfl, hb, Blk.lt (w := w) (g := gb) (t := e) (cs := cur) hh, fun j x hx => ?_⟩
    have hj : j < xs.length := (List.getElem?_eq_some_iff.1 hx).1
    rw [cell_of_row w gb j cur _ (0, 0) hh]
    rw [← ht] at hx
    rw [List.getElem?_take] at hx
    split at hx
    · rw [Array.getElem?_toList] at hx
      exact hx
    · cases hx
theorem take_succ_get {α : Type} {L : List α} {k : Nat} {x : α} (h : L[k]? = some x) : L.take (k + 1) = L.take k ++ [x] := by
  rw [List.take_add_one, h]
  rfl

set_option maxRecDepth 100000 in
set_option maxHeartbeats 4000000 in
theorem iCmdText_any (k a b t : Int) (D : Option Addr) (n dc : Nat) (len : Nat → Nat) (z : Nat → Nat → Int) (s : ByteArray) (w : World) (h : RdQ w w.heap.size D n len z) (hn : n ≤ 4194304) (hlen : Hid (∀ i, i < n → len i ≤ 4194304)) (hp : Hid (Pow w w.heap.size)) :
    Calls Tryz.prog 14 #[cmV k a b t D n dc s] w fun e w' => e = .returned (.string (cmdS k a b t n len z s)) ∧ Below w.heap.size w w' := by
  obtain ⟨i0, hi0, hz0, hz1, hz2⟩ := info_strT_parts
  have hb0 := (Below.refl w.heap.size w).alloc (Nat.le_refl _) (.cells (cmC k a b t D n dc s) 35)
  have hC0 := Blk.new w 35 (cmC k a b t D n dc s)
  obtain ⟨c0, c1, c2, c3, c4, c5⟩ := blk_cells6 hC0
  go_enter Tryz.func14, Tryz.ntmps14
  go_wp2_with fail
  refine (iCmdOk_any k a b t D n dc len z s _ (h.to hb0) hn hlen).mono ?_
  rintro e w1 ⟨rfl, hb1⟩
  have hw1 := hb0.trans (hb1.mono hb0.size)
  have hC1 := hC0.below hb1 hC0.lt
  clear hb0 hC0 hb1 c0 c1 c2 c3 c4 c5
  cases hok : cmdB k a b t n len z s
  · have HT : Hid (cmdS k a b t n len z s = ⟨#[]⟩) := by show _ = _; unfold cmdS; rw [hok]; rfl
    clear hok
    go_wp2_with fail
    go_ret
    exact ⟨ret_strT HT.out.symm, hw1⟩
  have HT : Hid (cmdS k a b t n len z s = joinL (wordsC k a b t n len z s)) := by show _ = _; unfold cmdS; rw [hok]; rfl
  have HOK := hid hok
  have hwl := cwords_len hok
  have HN := hid (nums_I64 (cmd_in hok).2.1)
  have hn20 : n ≤ 20 := by have h1 := (cmd_in hok).2.2.1.1; have := f_low k; omega
  clear hok
  obtain ⟨c0, _, _, _, _, _⟩ := blk_cells6 hC1
  go_wp2_with fail
  refine (formOf_any k _).mono ?_
  rintro e w2 ⟨rfl, hb2⟩
  have hbx := (Below.refl w2.heap.size w2).alloc (Nat.le_refl _) (.cells (fmC (fName k) (fA k) (fB k) (fT k) (fD k) (fX k)) 62)
  have hw3 := (hw1.trans (hb2.mono hw1.size)).trans (hbx.mono (hw1.trans (hb2.mono hw1.size)).size)
  have hC3 := (hC1.below hb2 hC1.lt).below hbx (hC1.below hb2 hC1.lt).lt
  have hF3 := Blk.new w2 62 (fmC (fName k) (fA k) (fB k) (fT k) (fD k) (fX k))
  obtain ⟨f0, f1, f2, f3, f4, f5⟩ := blk_cells6 hF3
  clear hw1 hC1 hb2 hbx c0
  have hl3 : w2.heap.size < (w2.alloc (.cells (fmC (fName k) (fA k) (fB k) (fT k) (fD k) (fX k)) 62)).heap.size := by simp
  have hC3s := hw3.size
  go_upto_region 5 with fail
  have hbn := (Below.refl (w2.alloc (.cells (fmC (fName k) (fA k) (fB k) (fT k) (fD k) (fX k)) 62)).heap.size _).alloc (Nat.le_refl _) (.cells #[.string (fName k)] 9)
  have HG4 : Hid (GW w w.heap.size w2.heap.size (cmC k a b t D n dc s) (fmC (fName k) (fA k) (fB k) (fT k) (fD k) (fX k)) ([fName k] ++ ((numsL k a b t).take 0).map decS) (some ⟨w2.heap.size + 1, 0, none⟩) 1 1 ((w2.alloc (.cells (fmC (fName k) (fA k) (fB k) (fT k) (fD k) (fX k)) 62)).alloc (.cells #[.string (fName k)] 9))) := by
    refine ⟨rfl, hC3.alloc _, hF3.alloc _, ?_, hw3.alloc hw3.size _⟩
    have := World.ownsRow_lit (base := w.heap.size) (w2.alloc (.cells (fmC (fName k) (fA k) (fB k) (fT k) (fD k) (fX k)) 62)) (e := 9) (size := 1) #[.string (fName k)] 1 hw3.size (by unfold maxLen; omega) rfl
    rw [World.size_alloc] at this
    exact this
  clear f0 f1 f2 f3 f4 f5 hC3 hF3 hw3 hbn hl3 hC3s
  generalize (w2.alloc (.cells (fmC (fName k) (fA k) (fB k) (fT k) (fD k) (fX k)) 62)).alloc (.cells #[.string (fName k)] 9) = W4 at HG4 ⊢
  generalize w2.heap.size = fbk at HG4 ⊢
  have hml := ptrO_len k
  have hnl := nums_len k a b t
  have hpl := (ptrV_len w.heap.size k).trans hnl.symm
  go_wp2_with fail
  refine (numbers_any k a b t D n dc s w.heap.size _ HG4.out.cmd).mono ?_
  rintro e w5 ⟨PA, pc, rfl, hPO, hb5⟩
  have HG5 := hid (HG4.out.below hb5)
  have HPO := hid hPO
  have HB4 := HG4.out.bel.size
  clear HG4 hPO hb5
  have HPT : Hid (∀ i, i < (ptrV w.heap.size k).length → ∃ o x, (ptrV w.heap.size k)[i]? = some (.pointer (some ⟨w.heap.size, o, none⟩)) ∧ (numsL k a b t)[i]? = some x ∧ (cmC k a b t D n dc s)[o]? = some (.int .i64 x)) := fun i hi => by
    obtain ⟨o, x, h1, h2, h3⟩ := ptr_num k a b t D n dc s (i := i) (by have := ptrV_len w.heap.size k; omega)
    exact ⟨o, x, ptrV_at h1, h2, h3⟩
  generalize ptrV w.heap.size k = PV at HPO HPT hpl ⊢
  generalize hNL : numsL k a b t = NL at HG5 HPT HN hnl hpl ⊢
  have hP3 : PV.length ≤ 3 := by omega
  have HPL := hid hpl
  clear hnl hpl hml
  go_wp2_with fail
  go_loopw [4, 20] (fun v i wr => ∃ (q : Nat) (R : Option Addr) (d : Nat), q ≤ PV.length ∧ i = .int .i64 q ∧ v = .slice R (1 + q) d ∧ Hid (GW w w.heap.size fbk (cmC k a b t D n dc s) (fmC (fName k) (fA k) (fB k) (fT k) (fD k) (fX k)) ([fName k] ++ (NL.take q).map decS) R (1 + q) d wr) ∧ Hid (wr.ownsRow W4.heap.size 66 1 (.slice PA PV.length pc) PV.length PV))
    (fun _ i _ => PV.length - (intOf i).toNat)
  case atStart => exact ⟨0, _, _, Nat.zero_le _, rfl, rfl, HG5, HPO⟩
  case round =>
    clear HG5 HPO
    obtain ⟨q, R, d, hq, rfl, rfl, hG, hPO⟩ := hrel
    by_cases hlt : q < PV.length
    · obtain ⟨o, x, hp1, hp2, hp3⟩ := HPT.out q hlt
      obtain ⟨pb, rfl, hpb, hpl2, hpc⟩ := own_at1 hPO.out (by omega)
      have cp : wr.cell? ⟨pb, q, none⟩ = some (.pointer (some ⟨w.heap.size, o, none⟩)) := hpc q _ hp1
      have cx : wr.cell? ⟨w.heap.size, o, none⟩ = some (.int .i64 x) := by rw [hG.out.cmd.cell]; exact hp3
      have hxI : I64 x := HN.out x (List.mem_of_getElem? hp2)
      have i1 : (q : Int) < (PV.length : Int) := by omega
      have i0' : (0 : Int) ≤ (q : Int) := by omega
      have HE : Hid ([fName k] ++ (NL.take (q + 1)).map decS = ([fName k] ++ (NL.take q).map decS) ++ [decS x]) := by
        show _ = _
        rw [take_succ_get hp2, List.map_append, List.append_assoc]
        rfl
      clear hp1 hp2 hp3 hpc
      go_wp2_with fail
      refine (decimal_any x _ hxI.1 hxI.2 (hid (hp.out _ hG.out.bel))).mono ?_
      rintro e w6 ⟨rfl, hb6⟩
      have hG6 := hG.out.below hb6
      have hPO6 := own_belowT hPO.out hb6
      clear hG hPO hb6 cp cx
      have hsz6 := hG6.bel.size
      generalize hLL : [fName k] ++ (NL.take q).map decS = LL at hG6 HE ⊢
      go_wp2_with (at_builtin; refine wpList_append_own _ rfl (.tmp 24) (.tmp 29) 44 rfl w.heap.size 9 i0 (.string ByteArray.empty) 1 16 Tryz.underlying44 hi0 hz0 hz1 hz2 rfl (by decide) _ (1 + q) _ rfl (hG6.wds.alloc _) ⟨w6.heap.size, 0, none⟩ 1 1 [.string (decS x)] rfl rfl (cell_one_newT _ _ _) (by intro u hu; simp at hu; subst hu; rfl) (by unfold maxLen; omega) (by omega) (by simp; omega) ?_)
      intro v' w7 hown7 hg7 _
      obtain ⟨A7, c7, rfl⟩ := own_formT hown7
      have hG7 := hG6.snoc _ hown7 hg7
      have hPO7 : w7.ownsRow W4.heap.size 66 1 (.slice (some ⟨pb, 0, none⟩) PV.length pc) PV.length PV := (hPO6.alloc _).kept hg7 (own_apart (hPO6.alloc (.cells #[.string (decS x)] 9)) (hG6.wds.alloc (.cells #[.string (decS x)] 9)) (by decide))
      have HG7 := hid hG7
      have HPO7 := hid hPO7
      clear hown7 hg7 hG6 hPO6 hG7 hPO7
      go_wp2_with fail
      go_roundw
      case rel =>
        refine ⟨q + 1, A7, c7, by omega, by go_num, rfl, ?_, HPO7⟩
        rw [HE.out]
        exact HG7
      case measure => simp [intOf]; omega
    · obtain rfl : q = PV.length := by omega
      have HX : Hid ([fName k] ++ (NL.take PV.length).map decS ++ docsL 0 len z = [fName k] ++ NL.map decS) := by
        show _ = _
        rw [HPL.out, List.take_length]
        exact List.append_nil _
      have hG0 : Hid (GW w w.heap.size fbk (cmC k a b t D n dc s) (fmC (fName k) (fA k) (fB k) (fT k) (fD k) (fX k)) ([fName k] ++ NL.map decS ++ docsL 0 len z) R (1 + PV.length) d wr) := by
        show GW _ _ _ _ _ _ _ _ _ _
        have := hG.out
        rw [HPL.out, List.take_length] at this
        rw [show docsL 0 len z = [] from rfl, List.append_nil, HPL.out]
        exact this
      clear hG HX hPO HPT
      generalize hQ : 1 + PV.length = Q at hG0 ⊢
      have hQ4 : Q ≤ 4 := by omega
      clear hQ
      obtain ⟨c0, c1, c2, c3, c4, c5⟩ := blk_cells6 hG0.out.cmd
      have hrd0 := h.to hG0.out.bel
      go_wp2_with fail
      clear c0 c1 c2 c3 c4 c5
      go_loopw [4, 35] (fun v i wr => ∃ (q : Nat) (R : Option Addr) (d : Nat), q ≤ n ∧ i = .int .i64 q ∧ v = .slice R (Q + q) d ∧ Hid (GW w w.heap.size fbk (cmC k a b t D n dc s) (fmC (fName k) (fA k) (fB k) (fT k) (fD k) (fX k)) ([fName k] ++ NL.map decS ++ docsL q len z) R (Q + q) d wr))
        (fun _ i _ => n - (intOf i).toNat)
      case atStart => exact ⟨0, _, _, Nat.zero_le _, rfl, rfl, hG0⟩
      case round =>
        clear hG0 hrd0
        obtain ⟨q, R, d, hq, rfl, rfl, hG⟩ := hrel
        have hrd := h.to hG.out.bel
        by_cases hlt : q < n
        · obtain ⟨b', off, Ai, ci, rfl, hb, hc, hri⟩ := hrd.at_ hlt
          have i1 : (q : Int) < (n : Int) := by omega
          have i0' : (0 : Int) ≤ (q : Int) := by omega
          have hlk := hlen.out q hlt
          have HE : Hid ([fName k] ++ NL.map decS ++ docsL (q + 1) len z = ([fName k] ++ NL.map decS ++ docsL q len z) ++ [docS (len q) (z q)]) := by
            show _ = _
            unfold docsL
            rw [List.range_succ, List.map_append, ← List.append_assoc]
            rfl
          go_wp2_with fail
          refine (iDocText_any Ai (len q) ci (z q) _ hri hlk (hid (fun W' hW' => hp.out W' (hG.out.bel.trans (hW'.mono hG.out.bel.size))))).mono ?_
          rintro e w6 ⟨rfl, hb6⟩
          have hG6 := hG.out.below hb6
          clear hG hrd hb6 hc hri
          have hsz6 := hG6.bel.size
          generalize hLL : [fName k] ++ NL.map decS ++ docsL q len z = LL at hG6 HE ⊢
          generalize docS (len q) (z q) = x at HE ⊢
          go_wp2_with (at_builtin; refine wpList_append_own _ rfl (.tmp 39) (.tmp 42) 44 rfl w.heap.size 9 i0 (.string ByteArray.empty) 1 16 Tryz.underlying44 hi0 hz0 hz1 hz2 rfl (by decide) _ (Q + q) _ rfl (hG6.wds.alloc _) ⟨w6.heap.size, 0, none⟩ 1 1 [.string x] rfl rfl (cell_one_newT _ _ _) (by intro u hu; simp at hu; subst hu; rfl) (by unfold maxLen; omega) (by omega) (by simp; omega) ?_)
          intro v' w7 hown7 hg7 _
          obtain ⟨A7, c7, rfl⟩ := own_formT hown7
          have HG7 := hid (hG6.snoc _ hown7 hg7)
          clear hown7 hg7 hG6
          go_wp2_with fail
          go_roundw
          case rel =>
            refine ⟨q + 1, A7, c7, by omega, by go_num, rfl, ?_⟩
            rw [HE.out]
            exact HG7
          case measure => simp [intOf]; omega
        · obtain rfl : q = n := by omega
          obtain ⟨f0, f1, f2, f3, f4, f5⟩ := blk_cells6 hG.out.frm
          obtain ⟨c0, c1, c2, c3, c4, c5⟩ := blk_cells6 hG.out.cmd
          have hG6 := hG.out
          have hsz6 := hG6.bel.size
          have HWS : Hid (wordsC k a b t q len z s = [fName k] ++ NL.map decS ++ docsL q len z ++ textL k s) := by show _ = _; rw [← hNL]; rfl
          have HSZ : Hid ((joinL (wordsC k a b t q len z s)).size ≤ 25 * 4001) := Nat.le_trans (joinL_size (words_le HOK.out)) (Nat.mul_le_mul_right _ hwl)
          clear hG hrd
          by_cases hx : 0 < fX k
          · have HW2 : Hid (wordsC k a b t q len z s = ([fName k] ++ NL.map decS ++ docsL q len z) ++ [s]) := by show _ = _; rw [HWS.out]; unfold textL; rw [if_pos hx]
            generalize hLL : [fName k] ++ NL.map decS ++ docsL q len z = LL at hG6 HW2 ⊢
            go_wp2_with (at_builtin; refine wpList_append_own _ rfl (.tmp 48) (.tmp 51) 44 rfl w.heap.size 9 i0 (.string ByteArray.empty) 1 16 Tryz.underlying44 hi0 hz0 hz1 hz2 rfl (by decide) _ (Q + q) _ rfl (hG6.wds.alloc _) ⟨wr.heap.size, 0, none⟩ 1 1 [.string s] rfl rfl (cell_one_newT _ _ _) (by intro u hu; simp at hu; subst hu; rfl) (by unfold maxLen; omega) (by omega) (by simp; omega) ?_)
            intro v' w7 hown7 hg7 _
            obtain ⟨A7, c7, rfl⟩ := own_formT hown7
            have hG7 := hG6.snoc _ hown7 hg7
            rw [← HW2.out] at hG7
            have HJ : Hid (Calls Tryz.prog 26 #[.slice A7 (Q + q + 1) c7, .string ⟨#[32]⟩] w7 fun e w' => e = .returned (.string (joinL (wordsC k a b t q len z s))) ∧ Below w7.heap.size w7 w') := by
              have hn7 := hG7.num
              have ho := hG7.wds
              rw [← hn7] at ho ⊢
              exact joinL_any ho (by omega) (by omega) HSZ.out (by omega)
            have HB7 := hid hG7.bel
            clear hown7 hg7 hG6 hG7 f0 f1 f2 f3 f4 f5 c0 c1 c2 c3 c4 c5
            go_wp2_with fail
            refine HJ.out.mono ?_
            rintro e w8 ⟨rfl, hb8⟩
            go_wp2_with fail
            go_ret
            exact ⟨ret_strT HT.out.symm, HB7.out.trans (hb8.mono HB7.out.size)⟩
          · have HW2 : Hid (wordsC k a b t q len z s = [fName k] ++ NL.map decS ++ docsL q len z) := by show _ = _; rw [HWS.out]; unfold textL; rw [if_neg hx, List.append_nil]
            have HJ : Hid (Calls Tryz.prog 26 #[.slice R (Q + q) d, .string ⟨#[32]⟩] wr fun e w' => e = .returned (.string (joinL (wordsC k a b t q len z s))) ∧ Below wr.heap.size wr w') := by
              have hn7 := hG6.num
              have ho := hG6.wds
              rw [← HW2.out] at hn7 ho
              rw [← hn7] at ho ⊢
              have h1 : 0 < (wordsC k a b t q len z s).length := by rw [HW2.out]; simp
              exact joinL_any ho h1 (by omega) HSZ.out (by omega)
            have HB7 := hid hG6.bel
            clear hG6
            go_wp2_with fail
            refine HJ.out.mono ?_
            rintro e w8 ⟨rfl, hb8⟩
            go_wp2_with fail
            go_ret
            exact ⟨ret_strT HT.out.symm, HB7.out.trans (hb8.mono HB7.out.size)⟩
end Go.Proofs.YtmkipdhappikhaaGreatDoor
