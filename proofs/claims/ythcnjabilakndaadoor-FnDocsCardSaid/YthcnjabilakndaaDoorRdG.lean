/- A document read, of the program. -/
import Derived.Test.YthcnjabilakndaaDoorRdF
namespace Go.Proofs.YthcnjabilakndaaDoor
open Go.RowKit Go.Deep

def NumAns (s : ByteArray) (w : World) (e : Ending) (w' : World) : Prop :=
  ((∃ x, I64 x ∧ numS x = s ∧ e = .returned (.tuple #[.int .i64 x, .bool true])) ∨ ((∀ x, I64 x → numS x ≠ s) ∧ e = .returned (.tuple #[.int .i64 0, .bool false]))) ∧ Below w.heap.size w w'
theorem i64_big : I64 9999999 := by unfold I64; omega
theorem numS_big : numS 9999999 = ⟨#[45]⟩ := by unfold numS; rw [if_pos rfl]
theorem numS_dec {x : Int} (h : x ≠ 9999999) : numS x = decS x := by unfold numS; rw [if_neg h]
set_option maxRecDepth 100000 in
set_option maxHeartbeats 2000000 in
theorem readNum_any (s : ByteArray) (w : World) (hs : s.size ≤ 4194304) (hE : ErrOk w) (hp : Hid (Pow w w.heap.size)) :
    Calls Tryd.prog 23 #[.string s] w (NumAns s w) := by
  have HE := hid hE
  clear hE
  by_cases hd : s = ⟨#[45]⟩
  · subst hd
    go_enter Tryd.func23, Tryd.ntmps23
    go_wp2_with fail
    go_ret2
    exact ⟨.inl ⟨9999999, i64_big, numS_big, rfl⟩, Below.refl _ _⟩
  · have hl : (s.toList == [45]) = false := by
      have := ba_listT hd
      rw [ByteArray.toList_eq (⟨#[45]⟩ : ByteArray)] at this
      exact this
    have HD := hid hd
    clear hd
    go_enter Tryd.func23, Tryd.ntmps23
    go_wp2_with fail
    refine (readDec_any s _ hs HE.out hp).mono ?_
    rintro e w1 ⟨⟨x, hx, hxs, rfl⟩ | ⟨hno, rfl⟩, hb1⟩
    · by_cases h9 : x = 9999999
      · subst h9
        have HNO : Hid (∀ y, I64 y → numS y ≠ s) := fun y hy e => by
          by_cases h : y = 9999999
          · subst h; rw [numS_big] at e; exact HD.out e.symm
          · rw [numS_dec h, ← hxs] at e
            exact h (decS_inj hy hx e)
        clear hxs
        go_wp2_with fail
        go_ret2
        exact ⟨.inr ⟨HNO.out, rfl⟩, hb1⟩
      · have HX := hid (numS_dec h9)
        have h9b : (x == 9999999) = false := by simpa using h9
        have HXS := hid hxs
        clear h9 hxs
        go_wp2_with fail
        go_ret2
        exact ⟨.inl ⟨x, hx, by rw [HX.out, HXS.out], rfl⟩, hb1⟩
    · have HNO : Hid (∀ y, I64 y → numS y ≠ s) := fun y hy e => by
        by_cases h : y = 9999999
        · subst h; rw [numS_big] at e; exact HD.out e.symm
        · rw [numS_dec h] at e
          exact hno y hy e
      clear hno
      go_wp2_with fail
      go_ret2
      exact ⟨.inr ⟨HNO.out, rfl⟩, hb1⟩

/-- The words of a text, at most seven. -/
def wordsD (s : ByteArray) : List ByteArray := Lib.splitB (one1 44) 0 (min 7 (s.size + 1) - 1) s
theorem words_len (s : ByteArray) : (wordsD s).length ≤ 7 := by
  have := Lib.splitB_length_le (one1 44) 0 (min 7 (s.size + 1) - 1) s
  unfold wordsD
  omega
theorem words_pos (s : ByteArray) : 0 < (wordsD s).length := by
  unfold wordsD
  generalize min 7 (s.size + 1) - 1 = k
  cases k with
  | zero => rw [Lib.splitB_zero]; simp
  | succ k =>
    unfold Lib.splitB
    split <;> simp
theorem join_size_ge (f : Nat → ByteArray) (sep : ByteArray) (hs : sep.size = 1) : ∀ n, n ≤ (joinTo f sep n).size + 1
  | 0 => by omega
  | 1 => by omega
  | n + 2 => by
    have ih := join_size_ge f sep hs (n + 1)
    show n + 2 ≤ ((if 0 < n + 1 then joinTo f sep (n + 1) ++ sep else _) ++ f (n + 1)).size + 1
    rw [if_pos (by omega), ByteArray.size_append, ByteArray.size_append, hs]
    omega
theorem words_doc {n : Nat} {z : Nat → Int} (h : docB n z = true) : wordsD (docS n z) = (List.range n).map fun i => numS (z i) := by
  obtain ⟨h1, h6, hall⟩ := docB_true h
  obtain ⟨m, rfl⟩ : ∃ m, n = m + 1 := ⟨n - 1, by omega⟩
  have hge := join_size_ge (fun i => numS (z i)) (one1 44) rfl (m + 1)
  unfold wordsD
  rw [docS_yes h]
  exact split_join m _ (fun i => numS (z i)) (fun i _ => numS_noC _ (.inl (by decide))) (by omega)
theorem words_join (s : ByteArray) : joinTo (fun i => (wordsD s).getD i ByteArray.empty) (one1 44) (wordsD s).length = s := join_split _ s
theorem joinTo_congr {f g : Nat → ByteArray} {sep : ByteArray} : ∀ n, (∀ i, i < n → f i = g i) → joinTo f sep n = joinTo g sep n
  | 0, _ => rfl
  | n + 1, h => by
    show (if 0 < n then joinTo f sep n ++ sep else joinTo f sep n) ++ f n = (if 0 < n then joinTo g sep n ++ sep else joinTo g sep n) ++ g n
    rw [joinTo_congr n (fun i hi => h i (by omega)), h n (by omega)]
theorem words_text {s : ByteArray} {z : Nat → Int} (hz : ∀ i, i < (wordsD s).length → (wordsD s)[i]? = some (numS (z i))) (hd : docB (wordsD s).length z = true) : s = docS (wordsD s).length z := by
  rw [docS_yes hd]
  conv => lhs; rw [← words_join s]
  refine joinTo_congr _ fun i hi => ?_
  rw [List.getD_eq_getElem?_getD, hz i hi]
  rfl
theorem may_i64 {x : Int} (h : may x = true) : I64 x := by have := may_bd h; unfold I64; omega
theorem docB_congrT {n : Nat} {z y : Nat → Int} (h : ∀ i, i < n → z i = y i) : docB n z = docB n y := by
  have key : ∀ (z y : Nat → Int), (∀ i, i < n → z i = y i) → docB n z = true → docB n y = true := by
    intro z y h hd
    obtain ⟨h1, h6, hall⟩ := docB_true hd
    unfold docB
    rw [decide_eq_true h1, decide_eq_true h6, allTo_of fun i hi => by rw [← h i hi]; exact hall i hi]
    rfl
  cases hz : docB n z
  · cases hy : docB n y
    · rfl
    · have := key y z (fun i hi => (h i hi).symm) hy
      rw [this] at hz; cases hz
  · exact (key z y h hz).symm

theorem split_mem {c : UInt8} : ∀ (k : Nat) (s x : ByteArray), x ∈ Lib.splitB (one1 c) 0 k s → x.size ≤ s.size
  | 0, s, x, h => by
    rw [Lib.splitB_zero] at h
    obtain rfl : x = s := by simpa using h
    exact Nat.le_refl _
  | k + 1, s, x, h => by
    rcases part_or c s with hn | ⟨t, r, rfl, hn⟩
    · rw [split_no _ hn] at h
      obtain rfl : x = s := by simpa using h
      exact Nat.le_refl _
    · rw [split_at k hn] at h
      rw [size_app3]
      rcases List.mem_cons.1 h with rfl | h
      · omega
      · have := split_mem k r x h
        omega
theorem words_size {s x : ByteArray} {k : Nat} (h : (wordsD s)[k]? = some x) : x.size ≤ s.size := split_mem _ s x (List.mem_of_getElem? h)
theorem cells_word {L : List ByteArray} {N k : Nat} {x : ByteArray} (h : L[k]? = some x) : (Lib.cellsOf L N)[k]? = some (.string x) := by
  have hk : k < L.length := (List.getElem?_eq_some_iff.1 h).1
  unfold Lib.cellsOf
  rw [List.getElem?_toArray, List.getElem?_append_left (by rw [List.length_map]; exact hk), List.getElem?_map, h]
  rfl
/-- The library's greatest length of a search holds some number. -/
def LenOk (w : World) : Prop := ∃ m, w.cell? ⟨0, 0, none⟩ = some (.int .i64 m)
theorem LenOk.below {w w' : World} (h : LenOk w) (hb : Below w.heap.size w w') : LenOk w' := by
  obtain ⟨m, hm⟩ := h
  exact ⟨m, (hb.cell (p := ⟨0, 0, none⟩) (cell_lt hm)).trans hm⟩
def ReadAns (s : ByteArray) (w : World) (e : Ending) (w' : World) : Prop :=
  ((∃ n z b c, docB n z = true ∧ s = docS n z ∧ e = .returned (.tuple #[.slice (some ⟨b, 0, none⟩) n c, .bool true]) ∧ w.heap.size ≤ b ∧ Row w' 2 b n z) ∨
   ((∀ n z, docB n z = true → s ≠ docS n z) ∧ e = .returned (.tuple #[.slice none 0 0, .bool false]))) ∧ Below w.heap.size w w'

set_option maxRecDepth 100000 in
set_option maxHeartbeats 2000000 in
theorem iRead_any (s : ByteArray) (w : World) (hs : s.size ≤ 4194304) (hE : ErrOk w) (hM : LenOk w) (hp : Hid (Pow w w.heap.size)) :
    Calls Tryd.prog 8 #[.string s] w (ReadAns s w) := by
  obtain ⟨m, hm⟩ := hM
  have hS := strings_SplitN s ⟨#[44]⟩ 7 m w (by omega) hm (by decide) (by omega) (by omega)
  obtain ⟨L, HL⟩ : ∃ L, Hid (wordsD s = L) := ⟨_, hid rfl⟩
  obtain ⟨N, HN⟩ : ∃ N, Hid (min 7 (s.size + 1) = N) := ⟨_, hid rfl⟩
  have hlen : L.length ≤ 7 := by rw [← HL.out]; exact words_len s
  have hpos : 0 < L.length := by rw [← HL.out]; exact words_pos s
  have HS : Hid (Calls Tryd.prog 22 #[.string s, .string ⟨#[44]⟩, .int .i64 7] w fun e w' => e = .returned (.slice (some ⟨w.heap.size, 0, none⟩) L.length N) ∧ w' = w.alloc (.cells (Lib.cellsOf L N) 9)) := by
    show Calls _ _ _ _ _
    rw [← HL.out, ← HN.out]
    exact hS
  obtain ⟨i0, hi0, hz0, hz1, hz2⟩ := info_parts info_int
  have hmk := run_make_row' (P := Tryd.prog) 24 2 (.int .i64 0) 8 Tryd.underlying24 info_int rfl .i64 .i64 L.length (by omega) (by omega)
  have HE := hid hE
  have HSZ := hid hs
  clear hS hm hE hi0 hz0 hz1 hz2
  go_enter Tryd.func8, Tryd.ntmps8
  go_wp2_with fail
  refine HS.out.mono ?_
  rintro e w1 ⟨rfl, hw1⟩
  have hb1 : Below w.heap.size w w1 := by rw [hw1]; exact (Below.refl _ _).alloc (Nat.le_refl _) _
  have hB1 : Blk w1 w.heap.size 9 (Lib.cellsOf L N) := by rw [hw1]; exact Blk.new _ _ _
  clear hw1
  go_wp2_with fail
  go_loopw [17] (fun i wr => ∃ (k : Nat) (cs : Array Value) (z : Nat → Int), k ≤ L.length ∧ i = .int .i64 k ∧ Blk wr w1.heap.size 2 cs ∧ cs.size = L.length ∧ Hid (∀ j, j < k → cs[j]? = some (.int .i64 (z j)) ∧ I64 (z j) ∧ L[j]? = some (numS (z j))) ∧ Blk wr w.heap.size 9 (Lib.cellsOf L N) ∧ Hid (Below w.heap.size w wr))
    (fun i _ => L.length - (intOf i).toNat)
  case atStart => exact ⟨0, _, fun _ => 0, Nat.zero_le _, rfl, Blk.new _ _ _, by simp [madeCells], fun j hj => by omega, hB1.alloc _, hb1.alloc hb1.size _⟩
  case round =>
    obtain ⟨k, cs, z, hk, rfl, hB, hsz, hcs, hW, hbl⟩ := hrel
    by_cases hlt : k < L.length
    · obtain ⟨x, hx⟩ : ∃ x, L[k]? = some x := ⟨_, List.getElem?_eq_getElem hlt⟩
      have hxs : x.size ≤ 4194304 := Nat.le_trans (words_size (s := s) (k := k) (by rw [HL.out]; exact hx)) HSZ.out
      have hc : wr.cell? ⟨w.heap.size, k, none⟩ = some (.string x) := by rw [hW.cell]; exact cells_word hx
      have i1 : (k : Int) < (L.length : Int) := by omega
      have i3 : (0 : Int) ≤ (k : Int) := by omega
      have hpw : Hid (Pow wr wr.heap.size) := fun W' hW' => hp.out W' (hbl.out.trans (hW'.mono hbl.out.size))
      have hEw : Hid (ErrOk wr) := hid (HE.out.below hbl.out)
      have HX := hid hx
      have hwl := hW.lt
      have hbl0 := hB.lt
      clear hx
      go_wp2_with fail
      refine (readNum_any x _ hxs hEw.out hpw).mono ?_
      rintro e w5 ⟨⟨y, hy, hyx, rfl⟩ | ⟨hno, rfl⟩, hb5⟩
      · have hB5 := hB.below hb5 hB.lt
        have hW5 := hW.below hb5 hW.lt
        have hbl5 := hid (hbl.out.trans (hb5.mono hbl.out.size))
        have hc2 : w5.cell? ⟨w1.heap.size, k, none⟩ = some (cs[k]'(by omega)) := by rw [hB5.cell, Array.getElem?_eq_getElem]
        have hf2 := hB5.frozen k
        have hne : w1.heap.size ≠ w.heap.size := by
          intro e
          have h1 := hB1.lt
          omega
        have HY := hid hyx
        clear hB hb5 hW hc hyx
        go_wp2_with fail
        go_roundw
        case rel =>
          refine ⟨k + 1, _, extT z k y, by omega, by go_num, hB5.set_ k _, by simpa using hsz, hid (fun j hj => ?_), hW5.far (by show w.heap.size ≠ w1.heap.size; omega) _, hid (hbl5.out.setCell (by show w.heap.size ≤ w1.heap.size; exact hb1.size) _)⟩
          unfold extT
          by_cases e : j = k
          · subst e
            rw [if_pos rfl, Array.getElem?_setIfInBounds_self_of_lt (by omega)]
            exact ⟨rfl, hy, by rw [HY.out]; exact HX.out⟩
          · rw [if_neg e, Array.getElem?_setIfInBounds_ne (by omega)]; exact hcs.out j (by omega)
        case measure => simp [intOf]; omega
      · have hbl5 := hid (hbl.out.trans (hb5.mono hbl.out.size))
        have HNO := hid hno
        clear hB hb5 hW hc hno
        go_wp2_with fail
        go_ret2
        refine ⟨.inr ⟨fun n z' hd e => ?_, rfl⟩, hbl5.out⟩
        have h1 := words_doc hd
        rw [← e, HL.out] at h1
        have hl : L.length = n := by rw [h1]; simp
        have h2 := HX.out
        rw [h1, List.getElem?_map, List.getElem?_range (by omega)] at h2
        exact HNO.out (z' k) (may_i64 ((docB_true hd).2.2 k (by omega))) (Option.some.inj h2)
    · have e : k = L.length := by omega
      have hrd : Rd wr wr.heap.size (some ⟨w1.heap.size, 0, none⟩) L.length z := fun _ => ⟨w1.heap.size, 0, rfl, hB.lt, fun i hi => by rw [Nat.zero_add, hB.cell]; exact (hcs.out i (by omega)).1⟩
      have hrow : Row wr 2 w1.heap.size L.length z := ⟨cs, hB, by omega, fun i hi => (hcs.out i (by omega)).1⟩
      have hfin : Hid (∀ n z', docB n z' = true → s = docS n z' → docB L.length z = true) := fun n z' hd e2 => by
        have h1 := words_doc hd
        rw [← e2, HL.out] at h1
        have hl : L.length = n := by rw [h1]; simp
        rw [hl]
        rw [docB_congrT (y := z') fun i hi => ?_]
        · exact hd
        · have h3 := (hcs.out i (by omega)).2.2
          rw [h1, List.getElem?_map, List.getElem?_range (by omega)] at h3
          exact numS_inj (hcs.out i (by omega)).2.1 (may_i64 ((docB_true hd).2.2 i hi)) (Option.some.inj h3).symm
      have htx : Hid (docB L.length z = true → s = docS L.length z) := fun hd => by
        rw [← HL.out] at hd ⊢
        exact words_text (fun i hi => by rw [HL.out] at hi ⊢; exact (hcs.out i (by omega)).2.2) hd
      have i1 : ¬ (k : Int) < (L.length : Int) := by omega
      clear hcs hW
      go_wp2_with fail
      refine (iDocOk_any _ L.length _ z _ hrd (by omega)).mono ?_
      rintro e' w5 ⟨rfl, hb5⟩
      have hrow5 := hrow.below hb5 hrow.lt
      have hbl5 := hid (hbl.out.trans (hb5.mono hbl.out.size))
      clear hb5 hrd hrow hB hsz
      cases hd : docB L.length z
      · have HD := hid hd
        clear hd
        go_wp2_with fail
        go_ret2
        refine ⟨.inr ⟨fun n z' hd e => ?_, rfl⟩, hbl5.out⟩
        have := hfin.out n z' hd e
        rw [HD.out] at this
        cases this
      · have HD := hid hd
        clear hd
        go_wp2_with fail
        go_ret2
        exact ⟨.inl ⟨L.length, z, _, _, HD.out, htx.out HD.out, rfl, hb1.size, hrow5⟩, hbl5.out⟩
end Go.Proofs.YthcnjabilakndaaDoor
