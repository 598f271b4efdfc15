/- A command's text, parted; names of commands read by the program. -/
import Derived.Test.YtmkipdhappikhaaGreatDoorCmQ
import Derived.Test.YtmkipdhappikhaaGreatDoorCmE
import Derived.Test.YtmkipdhappikhaaGreatDoorImX
import Derived.Deep.DeepCutAuto
namespace Go.Proofs.YtmkipdhappikhaaGreatDoor
open Go.RowKit Go.Deep
set_option linter.unusedVariables false
set_option linter.unusedSimpArgs false

/-- The library's cut at a space, in full. -/
theorem cut_sp (s : ByteArray) : ∃ t r m, t.size ≤ s.size ∧ r.size ≤ s.size ∧ ((m = true ∧ s = t ++ one1 32 ++ r ∧ NoC 32 t) ∨ (m = false ∧ t = s ∧ NoC 32 s)) ∧
    (⟨(Lib.cut s.data.toList (one1 32).data.toList).1.toArray⟩ : ByteArray) = t ∧ (⟨(Lib.cut s.data.toList (one1 32).data.toList).2.1.toArray⟩ : ByteArray) = r ∧ (Lib.cut s.data.toList (one1 32).data.toList).2.2 = m := by
  rcases part_or 32 s with h | ⟨t, r, rfl, h⟩
  · obtain ⟨e1, e2, e3⟩ := Lib.cutB_miss s (one1 32) (indexB_not h)
    exact ⟨s, ByteArray.empty, false, Nat.le_refl _, Nat.zero_le _, .inr ⟨rfl, rfl, h⟩, e1, e2, e3⟩
  · obtain ⟨e1, e2, e3⟩ := Lib.cutB_hit (t ++ one1 32 ++ r) (one1 32) t.size (indexB_at h)
    have e := size_app3 t r 32
    refine ⟨t, r, true, by rw [e]; omega, by rw [e]; omega, .inl ⟨rfl, rfl, h⟩, ?_, ?_, e3⟩
    · rw [e1, ext_head]
    · rw [e2]
      have : t.size + (one1 32).size = t.size + 1 := rfl
      rw [this, ext_tail]
def wordsK (s : ByteArray) : List ByteArray := Lib.splitB (one1 32) 0 (min 23 (s.size + 1) - 1) s
theorem wordsK_len (s : ByteArray) : (wordsK s).length ≤ 23 := by
  have := Lib.splitB_length_le (one1 32) 0 (min 23 (s.size + 1) - 1) s
  unfold wordsK
  omega
theorem wordsK_join (s : ByteArray) : joinL (wordsK s) = s := join_split _ s
theorem wordsK_of {L : List ByteArray} (h0 : 0 < L.length) (hl : L.length ≤ 23) (h : ∀ x ∈ L, NoC 32 x) : wordsK (joinL L) = L := by
  have hge := join_size_ge (fun i => L.getD i ByteArray.empty) (one1 32) rfl L.length
  obtain ⟨m, hm⟩ : ∃ m, L.length = m + 1 := ⟨L.length - 1, by omega⟩
  have hq := split_join (c := 32) m (min 23 ((joinL L).size + 1) - 1) (fun i => L.getD i ByteArray.empty) (fun i hi => by
    show NoC 32 (L.getD i ByteArray.empty)
    rw [List.getD_eq_getElem?_getD, List.getElem?_eq_getElem (by omega)]
    exact h _ (List.getElem_mem _)) (by have : L.length ≤ (joinL L).size + 1 := hge; omega)
  rw [← hm, list_range] at hq
  exact hq
theorem wordsK_head {s t r : ByteArray} {m : Bool} (h : (m = true ∧ s = t ++ one1 32 ++ r ∧ NoC 32 t) ∨ (m = false ∧ t = s ∧ NoC 32 s)) : ∃ L, wordsK s = t :: L := by
  rcases h with ⟨_, rfl, hn⟩ | ⟨_, rfl, hn⟩
  · obtain ⟨j, hj⟩ : ∃ j, min 23 ((t ++ one1 32 ++ r).size + 1) - 1 = j + 1 := ⟨min 23 ((t ++ one1 32 ++ r).size + 1) - 1 - 1, by have := size_app3 t r 32; omega⟩
    unfold wordsK
    rw [hj, split_at _ hn]
    exact ⟨_, rfl⟩
  · unfold wordsK
    rw [split_no _ hn]
    exact ⟨[], rfl⟩
theorem wordsK_any (s : ByteArray) (w : World) (hs : s.size ≤ 4194304) (hM : LenOk w) :
    Calls Tryz.prog 67 #[.string s, .string ⟨#[32]⟩, .int .i64 23] w fun e w' => ∃ N, N = min 23 (s.size + 1) ∧ e = .returned (.slice (some ⟨w.heap.size, 0, none⟩) (wordsK s).length N) ∧ Blk w' w.heap.size 9 (Lib.cellsOf (wordsK s) N) ∧ Below w.heap.size w w' := by
  obtain ⟨m, hm⟩ := hM
  refine (strings_SplitN s ⟨#[32]⟩ 23 m w (by omega) hm (by decide) (by omega) (by omega)).mono ?_
  rintro e w' ⟨rfl, rfl⟩
  exact ⟨_, by first | rfl | omega, rfl, Blk.new _ _ _, (Below.refl _ _).alloc (Nat.le_refl _) _⟩

/-! ### good commands' texts -/
def NoCmd (s : ByteArray) : Prop := ∀ (k a b t : Int) (n : Nat) (len : Nat → Nat) (z : Nat → Nat → Int) (x : ByteArray), cmdB k a b t n len z x = true → s ≠ cmdS k a b t n len z x
theorem cmdS_yes {k a b t : Int} {n : Nat} {len : Nat → Nat} {z : Nat → Nat → Int} {x : ByteArray} (h : cmdB k a b t n len z x = true) : cmdS k a b t n len z x = joinL (wordsC k a b t n len z x) := if_pos h
/-- The parts of a good command's text. -/
theorem parts_cmd {s t r : ByteArray} {m : Bool} (hc : (m = true ∧ s = t ++ one1 32 ++ r ∧ NoC 32 t) ∨ (m = false ∧ t = s ∧ NoC 32 s)) {k a b u : Int} {n : Nat} {len : Nat → Nat} {z : Nat → Nat → Int} {x : ByteArray}
    (h : cmdB k a b u n len z x = true) (e : s = cmdS k a b u n len z x) : t = fName k ∧ (k = 1 → m = true ∧ r = x) ∧ (k ≠ 1 → wordsK s = fName k :: ((numsL k a b u).map decS ++ docsL n len z)) := by
  have hf := form_of h
  rw [cmdS_yes h] at e
  obtain ⟨L, hL⟩ := words_head hf
  have h1 : t = fName k := by
    rw [← e] at hL
    rcases hc with ⟨_, rfl, hn⟩ | ⟨_, rfl, hn⟩
    · rw [allW_at hn] at hL
      exact (List.cons.inj hL).1
    · rw [allW_no hn] at hL
      exact (List.cons.inj hL).1
  refine ⟨h1, fun hk => ?_, fun hk => ?_⟩
  · subst hk
    have e2 := e.trans (words_load hf).2.2.2.2
    rcases hc with ⟨hm, hs, hn⟩ | ⟨hm, hs, hn⟩
    · rw [hs] at e2
      exact ⟨hm, (part_uniq hn (fName_noC 1) e2).2⟩
    · exfalso
      apply hn
      rw [e2, data_app, data_app]
      simp [one1]
  · have hw := (words_no hf hk).1
    rw [e, hw]
    have hl := cwords_len h
    have hl2 : (numsL k a b u).length + n ≤ 22 := by
      obtain ⟨_, _, ⟨h3, _⟩, _, _⟩ := cmd_in h
      have e1 := nums_len k a b u
      have e2 : (ptrO k).length + n ≤ 22 := by
        rcases kind_or k with rfl | rfl | rfl | rfl | rfl | hk6
        · omega
        · simp [ptrO, fA, fB, fT, fD] at h3 ⊢; omega
        · simp [ptrO, fA, fB, fT, fD] at h3 ⊢; omega
        · simp [ptrO, fA, fB, fT, fD] at h3 ⊢; omega
        · simp [ptrO, fA, fB, fT, fD] at h3 ⊢; omega
        · have := hf.1; omega
      omega
    refine wordsK_of (by simp) (by simp [docsL]; omega) fun y hy => ?_
    rcases List.mem_cons.1 hy with rfl | hy
    · exact fName_noC k
    · rcases List.mem_append.1 hy with hy | hy
      · obtain ⟨q, _, rfl⟩ := List.mem_map.1 hy
        exact decS_noC _ (.inl (by decide))
      · unfold docsL at hy
        obtain ⟨i, hi, rfl⟩ := List.mem_map.1 hy
        exact docS_noC (hf.2.2.1 i (List.mem_range.1 hi))

/-! ### the name of a kind -/
@[go_sem] theorem fieldForm0 (nm : ByteArray) (fa fb ft fd fx : Int) (w : World) : (Instr.field 62 (.agg #[.string nm, .int .i64 fa, .int .i64 fb, .int .i64 ft, .int .i64 fd, .int .i64 fx]) 0).run Tryz.prog w = .ok (.string nm) w := by kernel_rfl
@[go_sem] theorem fieldForm5 (nm : ByteArray) (fa fb ft fd fx : Int) (w : World) : (Instr.field 62 (.agg #[.string nm, .int .i64 fa, .int .i64 fb, .int .i64 ft, .int .i64 fd, .int .i64 fx]) 5).run Tryz.prog w = .ok (.int .i64 fx) w := by kernel_rfl
def KnAns (nm : ByteArray) (k : Int) : Prop := ((1 ≤ k ∧ k ≤ 5) ∧ fName k = nm) ∨ (k = 0 ∧ ∀ j : Int, 1 ≤ j → j ≤ 5 → fName j ≠ nm)
set_option maxRecDepth 100000 in
set_option maxHeartbeats 1000000 in
theorem kindNamed_any (nm : ByteArray) (w : World) : Calls Tryz.prog 84 #[.string nm] w fun e w' => ∃ k, KnAns nm k ∧ e = .returned (.int .i64 k) ∧ Below w.heap.size w w' := by
  go_enter Tryz.func84, Tryz.ntmps84
  go_wp2_with fail
  go_loopw [3] (fun i wr => ∃ k : Nat, 1 ≤ k ∧ k ≤ 6 ∧ i = .int .i64 k ∧ Hid (∀ j : Int, 1 ≤ j → j < k → fName j ≠ nm) ∧ Hid (Below w.heap.size w wr)) (fun i _ => 6 - (intOf i).toNat)
  case atStart => exact ⟨1, by omega, by omega, rfl, fun j h1 h2 => by omega, Below.refl _ _⟩
  case round =>
    obtain ⟨k, hk1, hk6, rfl, hno, hbl⟩ := hrel
    by_cases hlt : k ≤ 5
    · have j1 : (k : Int) ≤ 5 := by omega
      go_wp2_with fail
      refine (formOf_any k _).mono ?_
      rintro e w1 ⟨rfl, hb1⟩
      have hbl1 := hid (hbl.out.trans (hb1.mono hbl.out.size))
      clear hb1
      by_cases he : fName k = nm
      · have HK : Hid (KnAns nm k) := .inl ⟨⟨by omega, by omega⟩, he⟩
        rw [he]
        clear he
        go_wp2_with fail
        go_ret
        exact ⟨k, HK.out, rfl, hbl1.out⟩
      · have hl := ba_listT he
        have HNO : Hid (∀ j : Int, 1 ≤ j → j < ((k + 1 : Nat) : Int) → fName j ≠ nm) := fun j h1 h2 => by
          by_cases e : j = k
          · subst e; exact he
          · exact hno.out j h1 (by omega)
        clear he hno hbl
        go_wp2_with fail
        go_roundw
        case rel => exact ⟨k + 1, by omega, by omega, by go_num, HNO, hbl1⟩
        case measure => simp [intOf]; omega
    · obtain rfl : k = 6 := by omega
      have HK : Hid (KnAns nm 0) := .inr ⟨rfl, fun j h1 h2 => hno.out j h1 (by omega)⟩
      go_wp2_with fail
      go_ret
      exact ⟨0, HK.out, rfl, hbl.out⟩
theorem fName_0 : fName 0 = ⟨#[]⟩ := by decide
end Go.Proofs.YtmkipdhappikhaaGreatDoor
