/- The text of a command: its words; of the program. -/
import Derived.Test.YtmkipdhappikhaaGreatDoorCmC
import Derived.Deep.DeepCutAuto
namespace Go.Proofs.YtmkipdhappikhaaGreatDoor
open Go.RowKit Go.Deep
set_option linter.unusedVariables false
set_option linter.unusedSimpArgs false

/-! ### pure -/
def numsL (k a b t : Int) : List Int := (if 0 < fA k then [a] else []) ++ ((if 0 < fB k then [b] else []) ++ (if 0 < fT k then [t] else []))
def ptrO (k : Int) : List Nat := (if 0 < fA k then [1] else []) ++ ((if 0 < fB k then [2] else []) ++ (if 0 < fT k then [3] else []))
def ptrV (cb : Nat) (k : Int) : List Value := (ptrO k).map fun o => .pointer (some ⟨cb, o, none⟩)
def textL (k : Int) (s : ByteArray) : List ByteArray := if 0 < fX k then [s] else []
def docsL (n : Nat) (len : Nat → Nat) (z : Nat → Nat → Int) : List ByteArray := (List.range n).map fun i => docS (len i) (z i)
def wordsC (k a b t : Int) (n : Nat) (len : Nat → Nat) (z : Nat → Nat → Int) (s : ByteArray) : List ByteArray := ([fName k] ++ (numsL k a b t).map decS) ++ docsL n len z ++ textL k s
def joinL (L : List ByteArray) : ByteArray := joinTo (fun i => L.getD i ByteArray.empty) (one1 32) L.length
def cmdS (k a b t : Int) (n : Nat) (len : Nat → Nat) (z : Nat → Nat → Int) (s : ByteArray) : ByteArray := if cmdB k a b t n len z s = true then joinL (wordsC k a b t n len z s) else ByteArray.empty
theorem list_range (L : List ByteArray) : (List.range L.length).map (fun i => L.getD i ByteArray.empty) = L := by
  apply List.ext_getElem?
  intro i
  rw [List.getElem?_map]
  by_cases h : i < L.length
  · rw [List.getElem?_range h]
    show some (L.getD i ByteArray.empty) = _
    rw [List.getD_eq_getElem?_getD, List.getElem?_eq_getElem h]
    rfl
  · rw [List.getElem?_eq_none (by simpa using h), List.getElem?_eq_none (by omega)]
    rfl
theorem joinL_snoc {L : List ByteArray} (x : ByteArray) (h : L ≠ []) : joinL (L ++ [x]) = joinL L ++ one1 32 ++ x := by
  have hl : 0 < L.length := List.length_pos_iff.2 h
  unfold joinL
  rw [List.length_append, List.length_singleton]
  show (if 0 < L.length then joinTo _ (one1 32) L.length ++ one1 32 else joinTo _ (one1 32) L.length) ++ (L ++ [x]).getD L.length ByteArray.empty = _
  rw [if_pos hl]
  have e1 : (L ++ [x]).getD L.length ByteArray.empty = x := by
    rw [List.getD_eq_getElem?_getD, List.getElem?_append_right (Nat.le_refl _), Nat.sub_self]; rfl
  have e2 : joinTo (fun i => (L ++ [x]).getD i ByteArray.empty) (one1 32) L.length = joinTo (fun i => L.getD i ByteArray.empty) (one1 32) L.length := joinTo_congr _ fun i hi => by
    simp only [List.getD_eq_getElem?_getD]
    rw [List.getElem?_append_left hi]
  rw [e1, e2]
theorem joinL_one (x : ByteArray) : joinL [x] = x := by
  show joinTo (fun i => [x].getD i ByteArray.empty) (one1 32) 1 = x
  show ByteArray.empty ++ x = x
  rw [ByteArray.empty_append]
theorem joinL_two (x y : ByteArray) : joinL [x, y] = x ++ one1 32 ++ y := by
  have := joinL_snoc (L := [x]) y (by simp)
  rw [joinL_one] at this
  exact this
theorem joinL_three (x y z : ByteArray) : joinL [x, y, z] = x ++ one1 32 ++ y ++ one1 32 ++ z := by
  have := joinL_snoc (L := [x, y]) z (by simp)
  rw [joinL_two] at this
  exact this
theorem joinL_size {L : List ByteArray} {M : Nat} (h : ∀ x ∈ L, x.size ≤ M) : (joinL L).size ≤ L.length * (M + 1) := by
  have := joinTo_size (f := fun i => L.getD i ByteArray.empty) (sep := one1 32) (M := M) L.length (fun i hi => by
    show (L.getD i ByteArray.empty).size ≤ M
    rw [List.getD_eq_getElem?_getD, List.getElem?_eq_getElem hi]
    exact h _ (List.getElem_mem hi))
  exact this
/-- What is known of a good command. -/
theorem cmd_in {k a b t : Int} {n : Nat} {len : Nat → Nat} {z : Nat → Nat → Int} {s : ByteArray} (h : cmdB k a b t n len z s = true) :
    (1 ≤ k ∧ k ≤ 5) ∧ ((0 ≤ a ∧ a ≤ fA k) ∧ (0 ≤ b ∧ b ≤ fB k) ∧ -fT k ≤ t ∧ t ≤ fT k) ∧ ((n : Int) ≤ fD k ∧ ∀ i, i < n → docB (len i) (z i) = true) ∧ (s.size : Int) ≤ fX k ∧ nlB s = false := by
  unfold cmdB docsF textF docsB at h
  simp only [Bool.and_eq_true, decide_eq_true_eq, Bool.not_eq_true'] at h
  obtain ⟨h1, h2, ⟨h3, h4⟩, h5, h6⟩ := h
  exact ⟨by unfold kindB at h1; simpa using h1, numF_iff.1 h2, ⟨h3, fun i hi => allP_iff.1 h4 i hi⟩, h5, h6⟩
theorem nums_I64 {k a b t : Int} (h : (0 ≤ a ∧ a ≤ fA k) ∧ (0 ≤ b ∧ b ≤ fB k) ∧ -fT k ≤ t ∧ t ≤ fT k) : ∀ x ∈ numsL k a b t, I64 x := by
  have hl := f_low k
  intro x hx
  unfold numsL at hx
  rcases List.mem_append.1 hx with hx | hx
  · split at hx
    · obtain rfl : x = a := by simpa using hx
      exact ⟨by omega, by omega⟩
    · cases hx
  · rcases List.mem_append.1 hx with hx | hx
    · split at hx
      · obtain rfl : x = b := by simpa using hx
        exact ⟨by omega, by omega⟩
      · cases hx
    · split at hx
      · obtain rfl : x = t := by simpa using hx
        exact ⟨by omega, by omega⟩
      · cases hx
theorem nums_len (k a b t : Int) : (numsL k a b t).length = (ptrO k).length := by
  unfold numsL ptrO
  simp only [List.length_append]
  repeat' split
  all_goals rfl
theorem ptrO_len (k : Int) : (ptrO k).length ≤ 3 := by
  unfold ptrO
  simp only [List.length_append]
  have h1 : (if 0 < fA k then [1] else ([] : List Nat)).length ≤ 1 := by split <;> simp
  have h2 : (if 0 < fB k then [2] else ([] : List Nat)).length ≤ 1 := by split <;> simp
  have h3 : (if 0 < fT k then [3] else ([] : List Nat)).length ≤ 1 := by split <;> simp
  omega
/-- The i-th number lies where the i-th pointer points. -/
theorem ptr_num (k a b t : Int) (D : Option Addr) (n dc : Nat) (s : ByteArray) {i : Nat} (hi : i < (ptrO k).length) :
    ∃ o x, (ptrO k)[i]? = some o ∧ (numsL k a b t)[i]? = some x ∧ (cmC k a b t D n dc s)[o]? = some (.int .i64 x) := by
  rcases kind_or k with rfl | rfl | rfl | rfl | rfl | ⟨k1, k2, k3, k4, k5⟩
  · simp [ptrO, fA, fB, fT] at hi
  · have e1 : ptrO 2 = [1, 2] := by simp [ptrO, fA, fB, fT]
    have e2 : numsL 2 a b t = [a, b] := by simp [numsL, fA, fB, fT]
    rw [e1] at hi ⊢
    rw [e2]
    have hi2 : i < 2 := hi
    obtain rfl | rfl : i = 0 ∨ i = 1 := by omega
    · exact ⟨1, a, rfl, rfl, rfl⟩
    · exact ⟨2, b, rfl, rfl, rfl⟩
  · simp [ptrO, fA, fB, fT] at hi
  · have e1 : ptrO 4 = [3] := by simp [ptrO, fA, fB, fT]
    have e2 : numsL 4 a b t = [t] := by simp [numsL, fA, fB, fT]
    rw [e1] at hi ⊢
    rw [e2]
    have hi2 : i < 1 := hi
    obtain rfl : i = 0 := by omega
    exact ⟨3, t, rfl, rfl, rfl⟩
  · have e1 : ptrO 5 = [1] := by simp [ptrO, fA, fB, fT]
    have e2 : numsL 5 a b t = [a] := by simp [numsL, fA, fB, fT]
    rw [e1] at hi ⊢
    rw [e2]
    have hi2 : i < 1 := hi
    obtain rfl : i = 0 := by omega
    exact ⟨1, a, rfl, rfl, rfl⟩
  · simp [ptrO, fA, fB, fT, k2, k4, k5] at hi
theorem ptrV_at {cb : Nat} {k : Int} {i o : Nat} (h : (ptrO k)[i]? = some o) : (ptrV cb k)[i]? = some (.pointer (some ⟨cb, o, none⟩)) := by
  unfold ptrV
  rw [List.getElem?_map, h]
  rfl
theorem ptrV_len (cb : Nat) (k : Int) : (ptrV cb k).length = (ptrO k).length := by unfold ptrV; simp
theorem words_le {k a b t : Int} {n : Nat} {len : Nat → Nat} {z : Nat → Nat → Int} {s : ByteArray} (h : cmdB k a b t n len z s = true) : ∀ x ∈ wordsC k a b t n len z s, x.size ≤ 4000 := by
  obtain ⟨_, h2, ⟨_, h4⟩, h5, _⟩ := cmd_in h
  have hl := f_low k
  intro x hx
  unfold wordsC at hx
  rcases List.mem_append.1 hx with hx | hx
  · rcases List.mem_append.1 hx with hx | hx
    · rcases List.mem_append.1 hx with hx | hx
      · obtain rfl : x = fName k := by simpa using hx
        have := fName_size k
        omega
      · obtain ⟨y, hy, rfl⟩ := List.mem_map.1 hx
        have := (nums_I64 h2 y hy).size
        omega
    · unfold docsL at hx
      obtain ⟨i, hi, rfl⟩ := List.mem_map.1 hx
      have := docS_sz (h4 i (List.mem_range.1 hi))
      omega
  · unfold textL at hx
    split at hx
    · obtain rfl : x = s := by simpa using hx
      omega
    · cases hx
theorem cwords_len {k a b t : Int} {n : Nat} {len : Nat → Nat} {z : Nat → Nat → Int} {s : ByteArray} (h : cmdB k a b t n len z s = true) : (wordsC k a b t n len z s).length ≤ 25 := by
  obtain ⟨_, _, ⟨h3, _⟩, _, _⟩ := cmd_in h
  have hl := f_low k
  have hp := ptrO_len k
  have e1 := nums_len k a b t
  have e2 : (textL k s).length ≤ 1 := by unfold textL; split <;> simp
  unfold wordsC docsL
  simp only [List.length_append, List.length_map, List.length_range, List.length_singleton]
  omega

/-! ### the numbers' places -/
theorem info_ptr : ∃ i0, Tryz.prog.info? 66 = some i0 ∧ i0.zero = some (.pointer none) ∧ i0.size = 1 ∧ i0.bytes = 8 := by
  have h : (Tryz.prog.info? 66).map (fun i => (i.zero, i.size, i.bytes)) = some (some (.pointer none), 1, 8) := by kernel_rfl
  obtain ⟨i0, hi, hx⟩ := Option.map_eq_some_iff.1 h
  simp only [Prod.mk.injEq] at hx
  exact ⟨i0, hi, hx.1, hx.2.1, hx.2.2⟩
theorem own_nil (w : World) (B : Nat) (e : TypeId) : w.ownsRow B e 1 (.slice none 0 0) 0 [] := ⟨rfl, .inl ⟨rfl, rfl⟩⟩

set_option maxRecDepth 100000 in
set_option maxHeartbeats 4000000 in
theorem numbers_any (k a b t : Int) (D : Option Addr) (n dc : Nat) (s : ByteArray) (cb : Nat) (w : World) (hC : Blk w cb 35 (cmC k a b t D n dc s)) :
    Calls Tryz.prog 41 #[.pointer (some ⟨cb, 0, none⟩)] w fun e w' => ∃ A c, e = .returned (.slice A (ptrV cb k).length c) ∧ w'.ownsRow w.heap.size 66 1 (.slice A (ptrV cb k).length c) (ptrV cb k).length (ptrV cb k) ∧ Below w.heap.size w w' := by
  obtain ⟨i0, hi0, hz0, hz1, hz2⟩ := info_ptr
  obtain ⟨c0, _, _, _, _, _⟩ := blk_cells6 hC
  have hcw := hC.lt
  go_enter Tryz.func41, Tryz.ntmps41
  go_wp2_with fail
  refine (formOf_any k _).mono ?_
  rintro e w1 ⟨rfl, hb1⟩
  have hbx := (Below.refl w1.heap.size w1).alloc (Nat.le_refl _) (.cells (fmC (fName k) (fA k) (fB k) (fT k) (fD k) (fX k)) 62)
  have hw2 := hb1.trans (hbx.mono hb1.size)
  have hF2 := Blk.new w1 62 (fmC (fName k) (fA k) (fB k) (fT k) (fD k) (fX k))
  have HP : Hid (ptrV cb k = (if 0 < fA k then [.pointer (some ⟨cb, 1, none⟩)] else []) ++ ((if 0 < fB k then [.pointer (some ⟨cb, 2, none⟩)] else []) ++ (if 0 < fT k then [.pointer (some ⟨cb, 3, none⟩)] else []))) := by
    show _ = _
    unfold ptrV ptrO
    simp only [List.map_append]
    congr 1
    · split <;> rfl
    · congr 1
      · split <;> rfl
      · split <;> rfl
  clear hb1 hbx c0
  generalize fName k = nm at hF2 hw2 ⊢
  generalize fA k = fa at hF2 hw2 HP ⊢
  generalize fB k = fb at hF2 hw2 HP ⊢
  generalize fT k = ft at hF2 hw2 HP ⊢
  generalize fD k = fd at hF2 hw2 ⊢
  generalize fX k = fx at hF2 hw2 ⊢
  obtain ⟨f0, f1, f2, f3, f4, f5⟩ := blk_cells6 hF2
  go_upto_if 12 with fail
  have HO0 : Hid ((w1.alloc (.cells (fmC nm fa fb ft fd fx) 62)).ownsRow w.heap.size 66 1 (.slice none 0 0) 0 []) := own_nil _ _ _
  have hszF : w1.heap.size < (w1.alloc (.cells (fmC nm fa fb ft fd fx) 62)).heap.size := by simp
  generalize w1.heap.size = fbk at hF2 f0 f1 f2 f3 f4 f5 hszF ⊢
  generalize hW2 : w1.alloc (.cells (fmC nm fa fb ft fd fx) 62) = W2 at hF2 hw2 f0 f1 f2 f3 f4 f5 HO0 hszF ⊢
  clear hW2
  have hwsz := hw2.size
  have hap : ∀ {W : World} {A : Option Addr} {m c : Nat} {L : List Value} {g : Nat} {cs : Array Value}, W.ownsRow w.heap.size 66 1 (.slice A m c) m L → Blk W g 62 cs → some g ≠ (Value.slice A m c).ownBlock := fun {W A m c L g cs} h hB e => by
    rcases h.2 with ⟨hv, _⟩ | ⟨gg, cap, cur, hv, _, hg, _⟩
    · rw [hv] at e; cases e
    · rw [hv] at e
      have e2 : g = gg := by simpa [Value.ownBlock] using e
      subst e2
      exact hB.ne_ hg (by decide) rfl
  go_cut [4] (fun s4 wx => ∃ (A : Option Addr) (c : Nat) (L : List Value), Hid (L = (if 0 < fa then [.pointer (some ⟨cb, 1, none⟩)] else [])) ∧ s4 = .slice A L.length c ∧ Hid (wx.ownsRow w.heap.size 66 1 (.slice A L.length c) L.length L) ∧ Hid (Blk wx fbk 62 (fmC nm fa fb ft fd fx)) ∧ Hid (Below w.heap.size w wx))
  case first =>
    by_cases hc : 0 < fa
    · go_wp2_with (at_builtin; refine wpList_append_own _ rfl (.tmp 13) (.tmp 17) 64 rfl w.heap.size 66 i0 (.pointer none) 1 8 Tryz.underlying64 hi0 hz0 hz1 hz2 rfl (by decide) _ 0 _ rfl (HO0.out.alloc _) ⟨W2.heap.size, 0, none⟩ 1 1 [.pointer (some ⟨cb, 1, none⟩)] rfl rfl (cell_one_newT _ _ _) (by intro u hu; simp at hu; subst hu; rfl) (by unfold maxLen; omega) (by omega) (by simp; omega) ?_)
      intro v' w6 hown6 hg6 _
      have hF6 := (hF2.alloc _).grown hg6 (hap HO0.out hF2)
      have hw6 := (hw2.alloc hw2.size _).grown hg6 (by simp; omega) (fun x hx => (HO0.out.lt x hx).1)
      obtain ⟨A6, c6, rfl⟩ := own_formT hown6
      go_wp2_with fail
      go_meet
      exact ⟨A6, c6, [.pointer (some ⟨cb, 1, none⟩)], (if_pos hc).symm, by simp, by simpa using hid hown6, hid hF6, hid hw6⟩
    · go_wp2_with fail
      go_meet
      exact ⟨none, 0, [], (if_neg (by omega)).symm, rfl, HO0, hid hF2, hid hw2⟩
  case rest =>
  clear HO0 hF2 hw2 f0 f1 f2 f3 f4 f5 hwsz hszF
  obtain ⟨A1, q1, L1, hL1, rfl, HO1, HF1, HW1⟩ := hcut
  have hl1 : L1.length ≤ 1 := by rw [hL1.out]; split <;> simp
  have hwsz := HW1.out.size
  have hszF := HF1.out.lt
  obtain ⟨f0, f1, f2, f3, f4, f5⟩ := blk_cells6 HF1.out
  go_upto_if 21 with fail
  go_cut [4] (fun s4 wx => ∃ (A : Option Addr) (c : Nat) (L : List Value), Hid (L = L1 ++ (if 0 < fb then [.pointer (some ⟨cb, 2, none⟩)] else [])) ∧ s4 = .slice A L.length c ∧ Hid (wx.ownsRow w.heap.size 66 1 (.slice A L.length c) L.length L) ∧ Hid (Blk wx fbk 62 (fmC nm fa fb ft fd fx)) ∧ Hid (Below w.heap.size w wx))
  case first =>
    by_cases hc : 0 < fb
    · go_wp2_with (at_builtin; refine wpList_append_own _ rfl (.tmp 22) (.tmp 26) 64 rfl w.heap.size 66 i0 (.pointer none) 1 8 Tryz.underlying64 hi0 hz0 hz1 hz2 rfl (by decide) _ L1.length _ rfl (HO1.out.alloc _) ⟨wc.heap.size, 0, none⟩ 1 1 [.pointer (some ⟨cb, 2, none⟩)] rfl rfl (cell_one_newT _ _ _) (by intro u hu; simp at hu; subst hu; rfl) (by unfold maxLen; omega) (by omega) (by simp; omega) ?_)
      intro v' w6 hown6 hg6 _
      have hF6 := (HF1.out.alloc _).grown hg6 (hap HO1.out HF1.out)
      have hw6 := (HW1.out.alloc HW1.out.size _).grown hg6 (by simp; omega) (fun x hx => (HO1.out.lt x hx).1)
      obtain ⟨A6, c6, rfl⟩ := own_formT hown6
      go_wp2_with fail
      go_meet
      exact ⟨A6, c6, L1 ++ [.pointer (some ⟨cb, 2, none⟩)], (by show _ = _; rw [if_pos hc]), by simp, by simpa using hid hown6, hid hF6, hid hw6⟩
    · go_wp2_with fail
      go_meet
      exact ⟨A1, q1, L1, (by show _ = _; rw [if_neg (by omega), List.append_nil]), rfl, HO1, hid HF1.out, hid HW1.out⟩
  case rest =>
  clear HO1 HF1 HW1 f0 f1 f2 f3 f4 f5 hwsz hszF
  obtain ⟨A2, q2, L2, hL2, rfl, HO2, HF2, HW2⟩ := hcut
  have hl2 : L2.length ≤ 2 := by rw [hL2.out]; rw [List.length_append]; split <;> simp <;> omega
  have hwsz := HW2.out.size
  have hszF := HF2.out.lt
  obtain ⟨f0, f1, f2, f3, f4, f5⟩ := blk_cells6 HF2.out
  go_upto_if 30 with fail
  go_cut [4] (fun s4 wx => ∃ (A : Option Addr) (c : Nat) (L : List Value), Hid (L = L2 ++ (if 0 < ft then [.pointer (some ⟨cb, 3, none⟩)] else [])) ∧ s4 = .slice A L.length c ∧ Hid (wx.ownsRow w.heap.size 66 1 (.slice A L.length c) L.length L) ∧ Hid (Blk wx fbk 62 (fmC nm fa fb ft fd fx)) ∧ Hid (Below w.heap.size w wx))
  case first =>
    by_cases hc : 0 < ft
    · go_wp2_with (at_builtin; refine wpList_append_own _ rfl (.tmp 31) (.tmp 35) 64 rfl w.heap.size 66 i0 (.pointer none) 1 8 Tryz.underlying64 hi0 hz0 hz1 hz2 rfl (by decide) _ L2.length _ rfl (HO2.out.alloc _) ⟨wc.heap.size, 0, none⟩ 1 1 [.pointer (some ⟨cb, 3, none⟩)] rfl rfl (cell_one_newT _ _ _) (by intro u hu; simp at hu; subst hu; rfl) (by unfold maxLen; omega) (by omega) (by simp; omega) ?_)
      intro v' w6 hown6 hg6 _
      have hF6 := (HF2.out.alloc _).grown hg6 (hap HO2.out HF2.out)
      have hw6 := (HW2.out.alloc HW2.out.size _).grown hg6 (by simp; omega) (fun x hx => (HO2.out.lt x hx).1)
      obtain ⟨A6, c6, rfl⟩ := own_formT hown6
      go_wp2_with fail
      go_meet
      exact ⟨A6, c6, L2 ++ [.pointer (some ⟨cb, 3, none⟩)], (by show _ = _; rw [if_pos hc]), by simp, by simpa using hid hown6, hid hF6, hid hw6⟩
    · go_wp2_with fail
      go_meet
      exact ⟨A2, q2, L2, (by show _ = _; rw [if_neg (by omega), List.append_nil]), rfl, HO2, hid HF2.out, hid HW2.out⟩
  case rest =>
  clear HO2 HF2 HW2 f0 f1 f2 f3 f4 f5 hwsz hszF
  obtain ⟨A3, q3, L3, hL3, rfl, HO3, HF3, HW3⟩ := hcut
  have hl3 : L3.length ≤ 3 := by rw [hL3.out]; rw [List.length_append]; split <;> simp <;> omega
  have hwsz := HW3.out.size
  have hszF := HF3.out.lt
  obtain ⟨f0, f1, f2, f3, f4, f5⟩ := blk_cells6 HF3.out
  go_wp2_with fail
  go_ret
  have hPV : L3 = ptrV cb k := by rw [HP.out, hL3.out, hL2.out, hL1.out, List.append_assoc]
  rw [← hPV]
  exact ⟨A3, q3, rfl, HO3.out, HW3.out⟩
end Go.Proofs.YtmkipdhappikhaaGreatDoor
