/- Documents read; nodes as words. -/
import Derived.Test.YtmkipdhappikhaaGreatDoorRdU
import Derived.Test.YtmkipdhappikhaaGreatDoorTxC
import Derived.WalkMore
import Derived.Lib.SmallJoins
namespace Go.Proofs.YtmkipdhappikhaaGreatDoor

/-! ### RdE -/
section
set_option linter.unusedVariables false
set_option linter.unusedSimpArgs false
open Go.RowKit Go.Deep

theorem ba_listT {a b : ByteArray} (h : a ≠ b) : (a.toList == b.toList) = false := by
  rw [beq_eq_false_iff_ne]
  intro e
  rw [ByteArray.toList_eq, ByteArray.toList_eq] at e
  exact h (ByteArray.ext (Array.toList_inj.1 e))
theorem list_full {a : ByteArray} (h : a ≠ ⟨#[]⟩) : a.toList.isEmpty = false := by
  have := ba_listT h
  cases hl : a.toList with
  | nil => rw [hl] at this; simp [ByteArray.toList_eq] at this
  | cons x l => rfl
theorem dec_dash (x : Int) : ((decS x).toList == [45]) = false := by
  have := ba_listT (decS_ne_dash x)
  rw [ByteArray.toList_eq (⟨#[45]⟩ : ByteArray)] at this
  exact this
def extT (z : Nat → Int) (k : Nat) (x : Int) : Nat → Int := fun j => if j = k then x else z j
theorem numsOf_extT (k : Nat) (z : Nat → Int) (x : Int) : numsOf (k + 1) (extT z k x) = numsOf k z ++ [.int .i64 x] := by
  rw [numsOf_succ]
  have e1 : numsOf k (extT z k x) = numsOf k z := by
    unfold numsOf
    refine List.map_congr_left fun j hj => ?_
    have : j < k := List.mem_range.1 hj
    unfold extT
    rw [if_neg (by omega)]
  rw [e1]
  unfold extT
  rw [if_pos rfl]
def strLenT : Value → Nat
  | .string b => b.size
  | _ => 0
/-- What a loop over the words has before it. -/
def msrT (r : Value) : Value → Nat
  | .bool true => 1 + strLenT r
  | _ => 0
theorem msr_less {t r : ByteArray} {m : Bool} (h : m = true → r.size < t.size) : msrT (.string r) (.bool m) < msrT (.string t) (.bool true) := by
  cases m
  · show 0 < 1 + _; omega
  · have := h rfl; show 1 + r.size < 1 + t.size; omega
theorem cut_some (s : ByteArray) (hs : s.size ≤ 4194304) : ∃ t r m, (m = true → r.size < s.size) ∧ t.size ≤ s.size ∧ r.size ≤ s.size ∧
    ∀ w, Calls Tryz.prog 45 #[.string s, .int .u8 44] w fun e w' => e = .returned (.tuple #[.string t, .string r, .bool m]) ∧ ∃ j, w' = w.drewN j := by
  rcases part_or 44 s with h | ⟨t, r, rfl, h⟩
  · exact ⟨s, ⟨#[]⟩, false, by simp, Nat.le_refl _, Nat.zero_le _, fun w => cut_miss s 44 44 w rfl h hs⟩
  · have e := size_app3 t r 44
    exact ⟨t, r, true, fun _ => by rw [e]; omega, by rw [e]; omega, by rw [e]; omega, fun w => cut_hit t r 44 44 w rfl h hs⟩
theorem numS_sz {x : Int} (h : may x = true) : (numS x).size ≤ 8 := by
  have hb := may_bd h
  simp only [may, Bool.or_eq_true, Bool.and_eq_true, decide_eq_true_eq, beq_iff_eq] at h
  unfold numS
  split
  · decide
  · show (Lib.itoa x).toArray.size ≤ 8
    rw [List.size_toArray]
    by_cases hn : x < 0
    · obtain ⟨M, rfl⟩ : ∃ M : Nat, x = -(M : Int) := ⟨x.natAbs, by omega⟩
      rw [Lib.itoa_neg M (by omega), List.length_cons, Lib.decDigits_length]
      have := digits_le M 6 (by omega)
      omega
    · obtain ⟨M, rfl⟩ : ∃ M : Nat, x = (M : Int) := ⟨x.toNat, by omega⟩
      rw [Lib.itoa_nonneg, Lib.decDigits_length]
      have := digits_le M 6 (by omega)
      omega
theorem docS_yes {n : Nat} {z : Nat → Int} (h : docB n z = true) : docS n z = joinTo (fun i => numS (z i)) (one1 44) n := by unfold docS; rw [if_pos h]; rfl
theorem docS_sz {n : Nat} {z : Nat → Int} (h : docB n z = true) : (docS n z).size ≤ 54 := by
  obtain ⟨h1, h6, hall⟩ := docB_true h
  rw [docS_yes h]
  have := joinTo_size (f := fun i => numS (z i)) (sep := one1 44) (M := 8) n (fun i hi => numS_sz (hall i hi))
  have e : (one1 44).size = 1 := rfl
  rw [e] at this
  omega
theorem numS_pos (x : Int) : 0 < (numS x).size := by
  unfold numS
  split
  · decide
  · show 0 < (Lib.itoa x).toArray.size
    rw [List.size_toArray]
    unfold Lib.itoa
    have hp := fun u => Lib.nDigits_pos u
    split
    · rw [List.length_cons]; omega
    · rw [Lib.decDigits_length]; exact hp _
theorem docS_ne {n : Nat} {z : Nat → Int} (h : docB n z = true) : docS n z ≠ ⟨#[]⟩ := by
  obtain ⟨h1, h6, hall⟩ := docB_true h
  rw [docS_yes h]
  obtain ⟨m, rfl⟩ : ∃ m, n = m + 1 := ⟨n - 1, by omega⟩
  intro e
  have h2 := congrArg ByteArray.size e
  have h3 := numS_pos (z m)
  have h4 : (joinTo (fun i => numS (z i)) (one1 44) (m + 1)).size ≥ (numS (z m)).size := by
    show ((if 0 < m then _ else _) ++ numS (z m)).size ≥ _
    rw [ByteArray.size_append]; omega
  rw [h2] at h4
  have h5 : (⟨#[]⟩ : ByteArray).size = 0 := rfl
  omega
/-- What is left of a document's text behind k numbers. -/
def leftS (n : Nat) (z : Nat → Int) (k : Nat) : ByteArray := joinTo (fun i => numS (z (k + i))) (one1 44) (n - k)
theorem left_zero {n : Nat} {z : Nat → Int} (h : docB n z = true) : leftS n z 0 = docS n z := by
  rw [docS_yes h]; unfold leftS; simp only [Nat.zero_add, Nat.sub_zero]
theorem cut_left {n : Nat} {z : Nat → Int} {k : Nat} (hk : k < n) (hs : (leftS n z k).size ≤ 4194304) : ∃ r m, ((k + 1 < n ∧ m = true ∧ r = leftS n z (k + 1)) ∨ (k + 1 = n ∧ m = false)) ∧ (m = true → r.size < (leftS n z k).size) ∧ r.size ≤ (leftS n z k).size ∧
    ∀ w, Calls Tryz.prog 45 #[.string (leftS n z k), .int .u8 44] w fun e w' => e = .returned (.tuple #[.string (numS (z k)), .string r, .bool m]) ∧ ∃ j, w' = w.drewN j := by
  have hno : NoC 44 (numS (z k)) := numS_noC _ (.inl (by decide))
  by_cases h1 : k + 1 = n
  · have e : leftS n z k = numS (z k) := by
      unfold leftS
      rw [show n - k = 1 by omega, join_one]
      rfl
    rw [e] at hs ⊢
    exact ⟨⟨#[]⟩, false, .inr ⟨h1, rfl⟩, by simp, Nat.zero_le _, fun w => cut_miss _ 44 44 w rfl hno hs⟩
  · obtain ⟨j, hj⟩ : ∃ j, n - k = j + 2 := ⟨n - k - 2, by omega⟩
    have e : leftS n z k = numS (z k) ++ one1 44 ++ leftS n z (k + 1) := by
      unfold leftS
      rw [hj, join_head, show n - (k + 1) = j + 1 by omega]
      have : (fun i => numS (z (k + (i + 1)))) = fun i => numS (z (k + 1 + i)) := by funext i; congr 2; omega
      rw [this]
      rfl
    have e2 := size_app3 (numS (z k)) (leftS n z (k + 1)) 44
    rw [e] at hs ⊢
    exact ⟨leftS n z (k + 1), true, .inl ⟨by omega, rfl, rfl⟩, fun _ => by rw [e2]; omega, by rw [e2]; omega, fun w => cut_hit _ _ 44 44 w rfl hno hs⟩

set_option maxRecDepth 100000 in
set_option maxHeartbeats 2000000 in
theorem sRead_yes (n : Nat) (z : Nat → Int) (w : World) (hd : docB n z = true) :
    Calls Tryz.prog 47 #[.string (docS n z)] w fun e w' =>
      ∃ b c, e = .returned (.tuple #[.slice (some ⟨b, 0, none⟩) n c, .bool true]) ∧ w.heap.size ≤ b ∧ Row w' 2 b n z ∧ Below w.heap.size w w' := by
  obtain ⟨h1, h6, hall⟩ := docB_true hd
  obtain ⟨i0, hi0, hz0, hz1, hz2⟩ := info_parts info_int
  obtain ⟨s, HS⟩ : ∃ s, Hid (s = docS n z) := ⟨_, hid rfl⟩
  rw [← HS.out]
  have hsz : s.size ≤ 54 := by rw [HS.out]; exact docS_sz hd
  have hne : s.toList.isEmpty = false := list_full (by rw [HS.out]; exact docS_ne hd)
  have HL0 : Hid (s = leftS n z 0) := by show _ = _; rw [HS.out, left_zero hd]
  have HD := hid hd
  have HALL := hid hall
  clear hd hall
  go_enter Tryz.func47, Tryz.ntmps47
  go_wp2_with fail
  go_loopw [4, 5, 6] (fun d r m wr => ∃ (k : Nat) (A : Option Addr) (c : Nat) (t : ByteArray) (b : Bool), d = .slice A k c ∧ r = .string t ∧ m = .bool b ∧ t.size ≤ 54 ∧ Hid (wr.ownsRow w.heap.size 2 1 (.slice A k c) k (numsOf k z)) ∧ Hid (Below w.heap.size w wr) ∧ Hid ((k < n ∧ b = true ∧ t = leftS n z k) ∨ (k = n ∧ b = false)))
    (fun _ r m _ => msrT r m)
  case atStart => exact ⟨0, _, _, _, _, rfl, rfl, rfl, hsz, World.ownsRow_made w #[] 0 (Nat.le_refl _) (by unfold maxLen; omega) rfl, (Below.refl _ _).alloc (Nat.le_refl _) _, .inl ⟨by omega, rfl, HL0.out⟩⟩
  case round =>
    obtain ⟨k, A, c, t, b, rfl, rfl, rfl, hts, hown, hbl, hst⟩ := hrel
    cases b
    · obtain rfl : k = n := by
        rcases hst.out with ⟨_, hb, _⟩ | ⟨hk, _⟩
        · cases hb
        · exact hk
      obtain ⟨gb, cc, hA, hgb, hrow⟩ := own_row hown.out (by omega)
      injection hA with hA1 _ hA2
      subst hA1 hA2
      go_wp2_with (go_at_call 86; refine (sDocText_any _ k _ z _ (hrow.rd hrow.lt) (by omega)).mono ?_; rintro e w5 ⟨rfl, hb5⟩; rw [← HS.out])
      go_ret2
      exact ⟨gb, c, rfl, hgb, hrow.below hb5 hrow.lt, hbl.out.trans (hb5.mono hbl.out.size)⟩
    · have hkt : k < n ∧ t = leftS n z k := by
        rcases hst.out with ⟨hk, _, ht⟩ | ⟨_, hb⟩
        · exact ⟨hk, ht⟩
        · cases hb
      obtain ⟨hk, ht⟩ := hkt
      obtain ⟨r, m, hnx, hlt, hrt, hcut⟩ := cut_left hk (by rw [← ht]; omega)
      rw [← ht] at hcut hlt hrt
      have HNX : Hid ((k + 1 < n ∧ m = true ∧ r = leftS n z (k + 1)) ∨ (k + 1 = n ∧ m = false)) := hid hnx
      have hrs : r.size ≤ 54 := by omega
      have HCUT := hid hcut
      clear hcut hnx ht hrt
      by_cases e : z k = 9999999
      · have hnS : numS (z k) = ⟨#[45]⟩ := by unfold numS; rw [if_pos e]
        rw [hnS] at HCUT
        go_wp2_with fail
        refine (HCUT.out _).mono ?_
        rintro e' w2 ⟨rfl, j, rfl⟩
        have hbl2 := below_drewN hbl.out j
        have hown2 : (wr.drewN j).ownsRow w.heap.size 2 1 (.slice A k c) k (numsOf k z) := own_below hown.out (below_drewN (Below.refl _ _) j)
        have hsz2 : w.heap.size ≤ wr.heap.size := hbl.out.size
        clear hnS
        go_wp2_with fail
        refine (num_some ⟨#[45]⟩ _ (by decide)).mono ?_
        rintro e' w4 ⟨x, b, _, rfl, rfl⟩
        go_wp2_with (at_builtin; refine wpList_append_own _ rfl (.tmp 31) (.tmp 33) 67 rfl w.heap.size 2 i0 (.int .i64 0) 1 8 Tryz.underlying67 hi0 hz0 hz1 hz2 rfl (by decide) _ k _ rfl (hown2.alloc _) ⟨wr.heap.size, 0, none⟩ 1 1 [.int .i64 9999999] rfl rfl (cell_one_new (wr.drewN j) _ _) (by intro u hu; simp at hu; subst hu; rfl) (by unfold maxLen; omega) (by omega) (by simp; omega) ?_)
        intro v' w6 hown6 hg6 _
        have hbl6 : Below w.heap.size w w6 := (hbl2.alloc hbl2.size _).grown hg6 (by simp; omega) (fun x hx => (hown2.lt x hx).1)
        obtain ⟨A6, c6, rfl⟩ := own_form hown6
        have HO6 : Hid (w6.ownsRow w.heap.size 2 1 (.slice A6 (k + 1) c6) (k + 1) (numsOf (k + 1) z)) := by
          show World.ownsRow _ _ _ _ _ _ _
          rw [numsOf_succ]
          rw [e]
          exact hown6
        clear hg6 hown2 hown6 hbl2
        go_wp2_with fail
        go_roundw
        case rel => exact ⟨k + 1, A6, c6, r, m, rfl, rfl, rfl, hrs, HO6, hbl6, HNX.out⟩
        case measure => exact msr_less hlt

      · have hnS : numS (z k) = decS (z k) := by unfold numS; rw [if_neg e]
        have hi64 : I64 (z k) := by have := may_bd (HALL.out k hk); unfold I64; omega
        have hds := dec_dash (z k)
        rw [hnS] at HCUT
        go_wp2_with fail
        refine (HCUT.out _).mono ?_
        rintro e' w2 ⟨rfl, j, rfl⟩
        have hbl2 := below_drewN hbl.out j
        have hown2 : (wr.drewN j).ownsRow w.heap.size 2 1 (.slice A k c) k (numsOf k z) := own_below hown.out (below_drewN (Below.refl _ _) j)
        have hsz2 : w.heap.size ≤ wr.heap.size := hbl.out.size
        clear hnS e
        go_wp2_with fail
        refine (num_dec (z k) _ hi64).mono ?_
        rintro e' w4 ⟨rfl, rfl⟩
        go_wp2_with (at_builtin; refine wpList_append_own _ rfl (.tmp 31) (.tmp 33) 67 rfl w.heap.size 2 i0 (.int .i64 0) 1 8 Tryz.underlying67 hi0 hz0 hz1 hz2 rfl (by decide) _ k _ rfl (hown2.alloc _) ⟨wr.heap.size, 0, none⟩ 1 1 [.int .i64 (z k)] rfl rfl (cell_one_new (wr.drewN j) _ _) (by intro u hu; simp at hu; subst hu; rfl) (by unfold maxLen; omega) (by omega) (by simp; omega) ?_)
        intro v' w6 hown6 hg6 _
        have hbl6 : Below w.heap.size w w6 := (hbl2.alloc hbl2.size _).grown hg6 (by simp; omega) (fun x hx => (hown2.lt x hx).1)
        obtain ⟨A6, c6, rfl⟩ := own_form hown6
        have HO6 : Hid (w6.ownsRow w.heap.size 2 1 (.slice A6 (k + 1) c6) (k + 1) (numsOf (k + 1) z)) := by
          show World.ownsRow _ _ _ _ _ _ _
          rw [numsOf_succ]
          exact hown6
        clear hg6 hown2 hown6 hbl2
        go_wp2_with fail
        go_roundw
        case rel => exact ⟨k + 1, A6, c6, r, m, rfl, rfl, rfl, hrs, HO6, hbl6, HNX.out⟩
        case measure => exact msr_less hlt


set_option maxRecDepth 100000 in
set_option maxHeartbeats 2000000 in
theorem sRead_no (s : ByteArray) (w : World) (hs : s.size ≤ 4194304) (hno : ∀ n z, docB n z = true → s ≠ docS n z) :
    Calls Tryz.prog 47 #[.string s] w fun e w' => e = .returned (.tuple #[.slice none 0 0, .bool false]) ∧ Below w.heap.size w w' := by
  have HNO := hid hno
  clear hno
  by_cases h80 : 80 < s.size
  · have j : (80 : Int) < (s.size : Int) := by omega
    go_enter Tryz.func47, Tryz.ntmps47
    go_wp2_with fail
    go_ret2
    exact ⟨rfl, Below.refl _ _⟩
  obtain ⟨i0, hi0, hz0, hz1, hz2⟩ := info_parts info_int
  have hsz : ¬ (80 : Int) < (s.size : Int) := by omega
  go_enter Tryz.func47, Tryz.ntmps47
  go_wp2_with fail
  go_loopw [4, 5, 6] (fun d r m wr => ∃ (k : Nat) (z : Nat → Int) (A : Option Addr) (c : Nat) (t : ByteArray) (b : Bool), d = .slice A k c ∧ r = .string t ∧ m = .bool b ∧ k ≤ 81 ∧ (b = true → k + t.size ≤ 80) ∧ t.size ≤ 80 ∧ Hid (wr.ownsRow w.heap.size 2 1 (.slice A k c) k (numsOf k z)) ∧ Hid (Below w.heap.size w wr))
    (fun _ r m _ => msrT r m)
  case atStart => exact ⟨0, fun _ => 0, _, _, _, _, rfl, rfl, rfl, by omega, fun _ => by omega, by omega, World.ownsRow_made w #[] 0 (Nat.le_refl _) (by unfold maxLen; omega) rfl, (Below.refl _ _).alloc (Nat.le_refl _) _⟩
  case round =>
    obtain ⟨k, z, A, c, t, b, rfl, rfl, rfl, hk, hkt, hts, hown, hbl⟩ := hrel
    cases b
    · have hrd : Hid (Rd wr wr.heap.size A k z) := by
        intro hk0
        obtain ⟨gb, cc, hA, hgb, hrow⟩ := own_row hown.out hk0
        injection hA with hA1 _ hA2
        subst hA1
        exact (hrow.rd hrow.lt) hk0
      by_cases h0 : s = ⟨#[]⟩
      · have h0' : s.toList.isEmpty = true := by rw [h0]; simp [ByteArray.toList_eq]
        clear h0
        go_wp2_with fail
        go_ret2
        exact ⟨rfl, hbl.out⟩
      · have hne := list_full h0
        have hd : docS k z ≠ s := by
          intro e
          cases hd : docB k z
          · unfold docS at e
            rw [hd] at e
            exact h0 e.symm
          · exact HNO.out k z hd e.symm
        have hdl := ba_listT hd
        clear h0 hd
        go_wp2_with (go_at_call 86; refine (sDocText_any A k _ z _ hrd.out (by omega)).mono ?_; rintro e w5 ⟨rfl, hb5⟩)
        go_ret2
        exact ⟨rfl, hbl.out.trans (hb5.mono hbl.out.size)⟩
    · have hkt2 := hkt rfl
      obtain ⟨hd, r, m, hlt, hh, hrt, hcut⟩ := cut_some t (by omega)
      have HCUT := hid hcut
      have hsz2 : w.heap.size ≤ wr.heap.size := hbl.out.size
      clear hcut hkt
      by_cases e : hd = ⟨#[45]⟩
      · subst e
        go_wp2_with fail
        refine (HCUT.out _).mono ?_
        rintro e' w2 ⟨rfl, j, rfl⟩
        have hbl2 := below_drewN hbl.out j
        have hown2 : (wr.drewN j).ownsRow w.heap.size 2 1 (.slice A k c) k (numsOf k z) := own_below hown.out (below_drewN (Below.refl _ _) j)
        go_wp2_with fail
        refine (num_some ⟨#[45]⟩ _ (by decide)).mono ?_
        rintro e' w4 ⟨x, b, _, rfl, rfl⟩
        go_wp2_with (at_builtin; refine wpList_append_own _ rfl (.tmp 31) (.tmp 33) 67 rfl w.heap.size 2 i0 (.int .i64 0) 1 8 Tryz.underlying67 hi0 hz0 hz1 hz2 rfl (by decide) _ k _ rfl (hown2.alloc _) ⟨wr.heap.size, 0, none⟩ 1 1 [.int .i64 9999999] rfl rfl (cell_one_new (wr.drewN j) _ _) (by intro u hu; simp at hu; subst hu; rfl) (by unfold maxLen; omega) (by omega) (by simp; omega) ?_)
        intro v' w6 hown6 hg6 _
        have hbl6 : Below w.heap.size w w6 := (hbl2.alloc hbl2.size _).grown hg6 (by simp; omega) (fun x hx => (hown2.lt x hx).1)
        obtain ⟨A6, c6, rfl⟩ := own_form hown6
        have HO6 : Hid (w6.ownsRow w.heap.size 2 1 (.slice A6 (k + 1) c6) (k + 1) (numsOf (k + 1) (extT z k 9999999))) := by
          show World.ownsRow _ _ _ _ _ _ _
          rw [numsOf_extT]
          exact hown6
        have HMS := hid (msr_less hlt)
        have HRS : r.size ≤ 80 ∧ (m = true → k + 1 + r.size ≤ 80) := ⟨by omega, fun e => by have := hlt e; omega⟩
        obtain ⟨hr8, hrm⟩ := HRS
        have HRM := hid hrm
        clear hg6 hown2 hown6 hbl2 hrm hlt
        go_wp2_with fail
        go_roundw
        case rel => exact ⟨k + 1, _, A6, c6, r, m, rfl, rfl, rfl, by omega, HRM.out, hr8, HO6, hbl6⟩
        case measure => exact HMS.out

      · have hds : (hd.toList == [45]) = false := by
          have := ba_listT e
          rw [ByteArray.toList_eq (⟨#[45]⟩ : ByteArray)] at this
          exact this
        clear e
        go_wp2_with fail
        refine (HCUT.out _).mono ?_
        rintro e' w2 ⟨rfl, j, rfl⟩
        have hbl2 := below_drewN hbl.out j
        have hown2 : (wr.drewN j).ownsRow w.heap.size 2 1 (.slice A k c) k (numsOf k z) := own_below hown.out (below_drewN (Below.refl _ _) j)
        go_wp2_with fail
        refine (num_some hd _ (by omega)).mono ?_
        rintro e' w4 ⟨x, b, _, rfl, rfl⟩
        go_wp2_with (at_builtin; refine wpList_append_own _ rfl (.tmp 31) (.tmp 33) 67 rfl w.heap.size 2 i0 (.int .i64 0) 1 8 Tryz.underlying67 hi0 hz0 hz1 hz2 rfl (by decide) _ k _ rfl (hown2.alloc _) ⟨wr.heap.size, 0, none⟩ 1 1 [.int .i64 x] rfl rfl (cell_one_new (wr.drewN j) _ _) (by intro u hu; simp at hu; subst hu; rfl) (by unfold maxLen; omega) (by omega) (by simp; omega) ?_)
        intro v' w6 hown6 hg6 _
        have hbl6 : Below w.heap.size w w6 := (hbl2.alloc hbl2.size _).grown hg6 (by simp; omega) (fun x hx => (hown2.lt x hx).1)
        obtain ⟨A6, c6, rfl⟩ := own_form hown6
        have HO6 : Hid (w6.ownsRow w.heap.size 2 1 (.slice A6 (k + 1) c6) (k + 1) (numsOf (k + 1) (extT z k x))) := by
          show World.ownsRow _ _ _ _ _ _ _
          rw [numsOf_extT]
          exact hown6
        have HMS := hid (msr_less hlt)
        have HRS : r.size ≤ 80 ∧ (m = true → k + 1 + r.size ≤ 80) := ⟨by omega, fun e => by have := hlt e; omega⟩
        obtain ⟨hr8, hrm⟩ := HRS
        have HRM := hid hrm
        clear hg6 hown2 hown6 hbl2 hrm hlt
        go_wp2_with fail
        go_roundw
        case rel => exact ⟨k + 1, _, A6, c6, r, m, rfl, rfl, rfl, by omega, HRM.out, hr8, HO6, hbl6⟩
        case measure => exact HMS.out
end

/-! ### RdF -/
section
set_option linter.unusedVariables false
set_option linter.unusedSimpArgs false
open Go.RowKit Go.Deep

theorem parse_snoc (M : Nat) (c : UInt8) : ∀ (l : List UInt8) (acc : Nat), Lib.parseUintM M acc (l ++ [c]) = (match Lib.parseUintM M acc l with | .ok a => Lib.parseUintM M a [c] | e => e)
  | [], acc => rfl
  | x :: l, acc => by
    rw [List.cons_append, Lib.parseUintM, Lib.parseUintM]
    split
    · split
      · rfl
      · split
        · rfl
        · exact parse_snoc M c l _
    · rfl
theorem parse_one {M a d : Nat} (hd : d ≤ 9) (ha : ¬ 1844674407370955162 ≤ a) (hM : ¬ M < a * 10 + d) : Lib.parseUintM M a [UInt8.ofNat (48 + d)] = .ok (a * 10 + d) := by
  have e : (UInt8.ofNat (48 + d)).toNat = 48 + d := by rw [UInt8.toNat_ofNat']; omega
  rw [Lib.parseUintM, e, if_pos (by omega), if_neg ha, Nat.add_sub_cancel_left, if_neg hM, Lib.parseUintM]
theorem parse_digits {M : Nat} (hM : M ≤ 18446744073709551615) : ∀ u, u ≤ M → Lib.parseUintM M 0 (Lib.decDigits u) = .ok u := by
  intro u
  induction u using Nat.strongRecOn with
  | ind u ih =>
    intro hu
    by_cases h : u < 10
    · rw [Lib.decDigits_one h, parse_one (by omega) (by omega) (by omega)]
      congr 1; omega
    · rw [Lib.decDigits, dif_neg h, parse_snoc, ih (u / 10) (by omega) (by omega)]
      show Lib.parseUintM M (u / 10) _ = _
      rw [parse_one (by omega) (by omega) (by omega)]
      congr 1; omega
theorem dec_cons (u : Nat) : ∃ c r, Lib.decDigits u = c :: r ∧ 48 ≤ c.toNat ∧ c.toNat ≤ 57 := by
  cases h : Lib.decDigits u with
  | nil =>
    have h2 := Lib.decDigits_length u
    rw [h] at h2
    have := Lib.nDigits_pos u
    simp at h2
    omega
  | cons c r =>
    have := dec_byte (u := u) (b := c) (by rw [h]; simp)
    exact ⟨c, r, rfl, this.1, this.2⟩
theorem parse_itoa {x : Int} (h : I64 x) : Lib.parseIntB 64 (Lib.itoa x) = .ok x := by
  have h1 := h.1
  have h2 := h.2
  by_cases hn : x < 0
  · obtain ⟨M, rfl⟩ : ∃ M : Nat, x = -(M : Int) := ⟨x.natAbs, by omega⟩
    obtain ⟨c, r, hc, hc1, hc2⟩ := dec_cons M
    rw [Lib.itoa_neg M (by omega), Lib.parseIntB]
    have e : (45 : UInt8).toNat = 45 := rfl
    have hp := parse_digits (M := 18446744073709551615) (Nat.le_refl _) M (by omega)
    have hb : Lib.parseUintB 64 (Lib.decDigits M) = .ok M := by
      unfold Lib.parseUintB
      rw [if_neg (by rw [hc]; simp)]
      exact hp
    simp only [e, or_true, if_true, hb, not_true, false_and, if_false, true_and]
    rw [if_neg (by omega)]
  · obtain ⟨M, rfl⟩ : ∃ M : Nat, x = (M : Int) := ⟨x.toNat, by omega⟩
    obtain ⟨c, r, hc, hc1, hc2⟩ := dec_cons M
    have hp := parse_digits (M := 18446744073709551615) (Nat.le_refl _) M (by omega)
    rw [Lib.itoa_nonneg, hc, Lib.parseIntB]
    have n2 : ¬ c.toNat = 45 := by omega
    rw [hc] at hp
    have hb : Lib.parseUintB 64 (c :: r) = .ok M := by
      unfold Lib.parseUintB
      rw [if_neg (by simp)]
      exact hp
    have n3 : ¬ c.toNat = 43 := by omega
    simp only [n2, n3, or_self, not_false_eq_true, true_and, false_and, if_false]
    rw [hb]
    exact if_neg (by omega)
theorem parse_i64 {l : List UInt8} {x : Int} (h : Lib.parseIntB 64 l = .ok x) : I64 x := by
  unfold Lib.parseIntB at h
  split at h
  · cases h
  · rename_i c r
    simp only at h
    split at h
    · cases h
    · cases h
    · rename_i u hu
      split at h
      · cases h
      · split at h
        · cases h
        · rename_i h1 h2
          unfold I64
          by_cases hn : c.toNat = 45
          · rw [if_pos hn] at h
            injection h with h
            subst h
            simp only [hn, true_and] at h2
            omega
          · rw [if_neg hn] at h
            injection h with h
            subst h
            simp only [hn, not_false_eq_true, true_and] at h1
            omega
theorem decS_inj {x y : Int} (hx : I64 x) (hy : I64 y) (h : decS x = decS y) : x = y := by
  have h1 := parse_itoa hx
  have h2 := parse_itoa hy
  have e : Lib.itoa x = Lib.itoa y := by
    have := congrArg (fun b : ByteArray => b.data.toList) h
    simpa [decS] using this
  rw [e] at h1
  exact Lib.NumEnd.ok.inj (h1.symm.trans h2)
theorem numS_inj {x y : Int} (hx : I64 x) (hy : I64 y) (h : numS x = numS y) : x = y := by
  unfold numS at h
  by_cases e1 : x = 9999999
  · by_cases e2 : y = 9999999
    · omega
    · rw [if_pos e1, if_neg e2] at h
      exact absurd h.symm (decS_ne_dash y)
  · by_cases e2 : y = 9999999
    · rw [if_neg e1, if_pos e2] at h
      exact absurd h (decS_ne_dash x)
    · rw [if_neg e1, if_neg e2] at h
      exact decS_inj hx hy h

/-- The library's two errors of numbers are there. -/
def ErrOk (w : World) : Prop := (∃ tp p, w.var? Tryz.prog "strconv.ErrSyntax" = some #[.iface tp p]) ∧ (∃ tp p, w.var? Tryz.prog "strconv.ErrRange" = some #[.iface tp p])
theorem var_below {w w' : World} {n : String} {cs : Array Value} (h : w.var? Tryz.prog n = some cs) (hb : Below w.heap.size w w') : w'.var? Tryz.prog n = some cs := by
  unfold World.var? at h ⊢
  cases hg : Tryz.prog.globalNamed n with
  | none => rw [hg] at h; cases h
  | some g =>
    rw [hg] at h
    simp only [Option.bind_some] at h ⊢
    have hlt : g < w.heap.size := by
      rcases Nat.lt_or_ge g w.heap.size with h' | h'
      · exact h'
      · rw [Array.getElem?_eq_none h'] at h
        cases h
    rw [hb.block g hlt]
    exact h
theorem ErrOk.below {w w' : World} (h : ErrOk w) (hb : Below w.heap.size w w') : ErrOk w' := by
  obtain ⟨⟨t1, p1, h1⟩, ⟨t2, p2, h2⟩⟩ := h
  exact ⟨⟨t1, p1, var_below h1 hb⟩, ⟨t2, p2, var_below h2 hb⟩⟩

def DecAns (s : ByteArray) (w : World) (e : Ending) (w' : World) : Prop :=
  ((∃ x, I64 x ∧ decS x = s ∧ e = .returned (.tuple #[.int .i64 x, .bool true])) ∨ ((∀ x, I64 x → decS x ≠ s) ∧ e = .returned (.tuple #[.int .i64 0, .bool false]))) ∧ Below w.heap.size w w'
set_option maxRecDepth 100000 in
set_option maxHeartbeats 2000000 in
theorem readDec_any (s : ByteArray) (w : World) (hs : s.size ≤ 4194304) (hE : ErrOk w) (hp : Hid (Pow w w.heap.size)) :
    Calls Tryz.prog 70 #[.string s] w (DecAns s w) := by
  have HE := hid hE
  clear hE
  have hitoa : ∀ x, decS x = s → s.data.toList = Lib.itoa x := fun x e => by rw [← e]; simp [decS]
  rcases hr : Lib.parseIntB 64 s.data.toList with v | _ | _
  case ok =>
    have hv := parse_i64 hr
    have HR := hid hr
    have HI := hid hitoa
    clear hr hitoa
    by_cases he : decS v = s
    · have HEQ := hid he
      clear he
      go_enter Tryz.func70, Tryz.ntmps70
      go_wp2_with fail
      refine (strconv_ParseInt_10_at64_ok s (by omega) v HR.out _).mono ?_
      rintro e w1 ⟨rfl, hw⟩
      have hb1 : Below w.heap.size w w1 := by
        rcases hw with rfl | ⟨t, rfl⟩
        · exact Below.refl _ _
        · exact Joins.below_bytesWorld _ _ _ _ (Nat.le_refl _)
      clear hw
      have hp1 := hid (hp.out w1 hb1)
      go_wp2_with (go_at_call 24; refine (decimal_any v _ hv.1 hv.2 hp1).mono ?_; rintro e w2 ⟨rfl, hb2⟩; rw [HEQ.out])
      go_ret2
      exact ⟨.inl ⟨v, hv, HEQ.out, rfl⟩, hb1.trans (hb2.mono hb1.size)⟩
    · have hl := ba_listT he
      have HNE := hid he
      clear he
      go_enter Tryz.func70, Tryz.ntmps70
      go_wp2_with fail
      refine (strconv_ParseInt_10_at64_ok s (by omega) v HR.out _).mono ?_
      rintro e w1 ⟨rfl, hw⟩
      have hb1 : Below w.heap.size w w1 := by
        rcases hw with rfl | ⟨t, rfl⟩
        · exact Below.refl _ _
        · exact Joins.below_bytesWorld _ _ _ _ (Nat.le_refl _)
      clear hw
      have hp1 := hid (hp.out w1 hb1)
      go_wp2_with (go_at_call 24; refine (decimal_any v _ hv.1 hv.2 hp1).mono ?_; rintro e w2 ⟨rfl, hb2⟩)
      go_ret2
      refine ⟨.inr ⟨fun x hx e => HNE.out ?_, rfl⟩, hb1.trans (hb2.mono hb1.size)⟩
      have h1 := HR.out
      rw [HI.out x e, parse_itoa hx] at h1
      rw [← Lib.NumEnd.ok.inj h1]
      exact e
  case range =>
    have hno : ∀ x, I64 x → decS x ≠ s := fun x hx e => by rw [hitoa x e, parse_itoa hx] at hr; cases hr
    have HNO := hid hno
    have HR := hid hr
    obtain ⟨tp, p, hvar⟩ := HE.out.2
    have HV := hid hvar
    clear hr hitoa hno hvar
    go_enter Tryz.func70, Tryz.ntmps70
    go_wp2_with fail
    refine (strconv_ParseInt_10_at64_range_var s (by omega) HR.out tp p _ HV.out).mono ?_
    rintro e w1 ⟨N, rfl, _, _, hb1⟩
    go_wp2_with fail
    go_ret2
    exact ⟨.inr ⟨HNO.out, rfl⟩, hb1⟩
  all_goals
    have hno : ∀ x, I64 x → decS x ≠ s := fun x hx e => by rw [hitoa x e, parse_itoa hx] at hr; cases hr
    have HNO := hid hno
    have HR := hid hr
    obtain ⟨tp, p, hvar⟩ := HE.out.1
    have HV := hid hvar
    clear hr hitoa hno hvar
    go_enter Tryz.func70, Tryz.ntmps70
    go_wp2_with fail
    refine (Any.strconv_ParseInt_10_at64_syntax_var laysC174 s (by omega) HR.out tp p _ HV.out).mono ?_
    rintro e w1 ⟨N, rfl, _, _, hb1⟩
    go_wp2_with fail
    go_ret2
    exact ⟨.inr ⟨HNO.out, rfl⟩, hb1⟩
end

/-! ### RdG -/
section
set_option linter.unusedVariables false
set_option linter.unusedSimpArgs false
open Go.RowKit Go.Deep

def NumAns (s : ByteArray) (w : World) (e : Ending) (w' : World) : Prop :=
  ((∃ x, I64 x ∧ numS x = s ∧ e = .returned (.tuple #[.int .i64 x, .bool true])) ∨ ((∀ x, I64 x → numS x ≠ s) ∧ e = .returned (.tuple #[.int .i64 0, .bool false]))) ∧ Below w.heap.size w w'
theorem i64_big : I64 9999999 := by unfold I64; omega
theorem numS_big : numS 9999999 = ⟨#[45]⟩ := by unfold numS; rw [if_pos rfl]
theorem numS_dec {x : Int} (h : x ≠ 9999999) : numS x = decS x := by unfold numS; rw [if_neg h]
set_option maxRecDepth 100000 in
set_option maxHeartbeats 2000000 in
theorem readNum_any (s : ByteArray) (w : World) (hs : s.size ≤ 4194304) (hE : ErrOk w) (hp : Hid (Pow w w.heap.size)) :
    Calls Tryz.prog 109 #[.string s] w (NumAns s w) := by
  have HE := hid hE
  clear hE
  by_cases hd : s = ⟨#[45]⟩
  · subst hd
    go_enter Tryz.func109, Tryz.ntmps109
    go_wp2_with fail
    go_ret2
    exact ⟨.inl ⟨9999999, i64_big, numS_big, rfl⟩, Below.refl _ _⟩
  · have hl : (s.toList == [45]) = false := by
      have := ba_listT hd
      rw [ByteArray.toList_eq (⟨#[45]⟩ : ByteArray)] at this
      exact this
    have HD := hid hd
    clear hd
    go_enter Tryz.func109, Tryz.ntmps109
    go_wp2_with fail
    refine (readDec_any s _ hs HE.out hp).mono ?_
    rintro e w1 ⟨⟨x, hx, hxs, rfl⟩ | ⟨hno, rfl⟩, hb1⟩
    · by_cases h9 : x = 9999999
      · subst h9
        have HNO : Hid (∀ y, I64 y → numS y ≠ s) := fun y hy e => by
          by_cases h : y = 9999999
          · subst h; rw [numS_big] at e; exact HD.out e.symm
          · rw [numS_dec h, ← hxs] at e
            exact h (decS_inj hy hx e)
        clear hxs
        go_wp2_with fail
        go_ret2
        exact ⟨.inr ⟨HNO.out, rfl⟩, hb1⟩
      · have HX := hid (numS_dec h9)
        have h9b : (x == 9999999) = false := by simpa using h9
        have HXS := hid hxs
        clear h9 hxs
        go_wp2_with fail
        go_ret2
        exact ⟨.inl ⟨x, hx, by rw [HX.out, HXS.out], rfl⟩, hb1⟩
    · have HNO : Hid (∀ y, I64 y → numS y ≠ s) := fun y hy e => by
        by_cases h : y = 9999999
        · subst h; rw [numS_big] at e; exact HD.out e.symm
        · rw [numS_dec h] at e
          exact hno y hy e
      clear hno
      go_wp2_with fail
      go_ret2
      exact ⟨.inr ⟨HNO.out, rfl⟩, hb1⟩

/-- The words of a text, at most seven. -/
def wordsD (s : ByteArray) : List ByteArray := Lib.splitB (one1 44) 0 (min 7 (s.size + 1) - 1) s
theorem words_len (s : ByteArray) : (wordsD s).length ≤ 7 := by
  have := Lib.splitB_length_le (one1 44) 0 (min 7 (s.size + 1) - 1) s
  unfold wordsD
  omega
theorem words_pos (s : ByteArray) : 0 < (wordsD s).length := by
  unfold wordsD
  generalize min 7 (s.size + 1) - 1 = k
  cases k with
  | zero => rw [Lib.splitB_zero]; simp
  | succ k =>
    unfold Lib.splitB
    split <;> simp
theorem join_size_ge (f : Nat → ByteArray) (sep : ByteArray) (hs : sep.size = 1) : ∀ n, n ≤ (joinTo f sep n).size + 1
  | 0 => by omega
  | 1 => by omega
  | n + 2 => by
    have ih := join_size_ge f sep hs (n + 1)
    show n + 2 ≤ ((if 0 < n + 1 then joinTo f sep (n + 1) ++ sep else _) ++ f (n + 1)).size + 1
    rw [if_pos (by omega), ByteArray.size_append, ByteArray.size_append, hs]
    omega
theorem words_doc {n : Nat} {z : Nat → Int} (h : docB n z = true) : wordsD (docS n z) = (List.range n).map fun i => numS (z i) := by
  obtain ⟨h1, h6, hall⟩ := docB_true h
  obtain ⟨m, rfl⟩ : ∃ m, n = m + 1 := ⟨n - 1, by omega⟩
  have hge := join_size_ge (fun i => numS (z i)) (one1 44) rfl (m + 1)
  unfold wordsD
  rw [docS_yes h]
  exact split_join m _ (fun i => numS (z i)) (fun i _ => numS_noC _ (.inl (by decide))) (by omega)
theorem words_join (s : ByteArray) : joinTo (fun i => (wordsD s).getD i ByteArray.empty) (one1 44) (wordsD s).length = s := join_split _ s
theorem joinTo_congr {f g : Nat → ByteArray} {sep : ByteArray} : ∀ n, (∀ i, i < n → f i = g i) → joinTo f sep n = joinTo g sep n
  | 0, _ => rfl
  | n + 1, h => by
    show (if 0 < n then joinTo f sep n ++ sep else joinTo f sep n) ++ f n = (if 0 < n then joinTo g sep n ++ sep else joinTo g sep n) ++ g n
    rw [joinTo_congr n (fun i hi => h i (by omega)), h n (by omega)]
theorem words_text {s : ByteArray} {z : Nat → Int} (hz : ∀ i, i < (wordsD s).length → (wordsD s)[i]? = some (numS (z i))) (hd : docB (wordsD s).length z = true) : s = docS (wordsD s).length z := by
  rw [docS_yes hd]
  conv => lhs; rw [← words_join s]
  refine joinTo_congr _ fun i hi => ?_
  rw [List.getD_eq_getElem?_getD, hz i hi]
  rfl
theorem may_i64 {x : Int} (h : may x = true) : I64 x := by have := may_bd h; unfold I64; omega
theorem docB_congrT {n : Nat} {z y : Nat → Int} (h : ∀ i, i < n → z i = y i) : docB n z = docB n y := by
  have key : ∀ (z y : Nat → Int), (∀ i, i < n → z i = y i) → docB n z = true → docB n y = true := by
    intro z y h hd
    obtain ⟨h1, h6, hall⟩ := docB_true hd
    unfold docB
    rw [decide_eq_true h1, decide_eq_true h6, allTo_of fun i hi => by rw [← h i hi]; exact hall i hi]
    rfl
  cases hz : docB n z
  · cases hy : docB n y
    · rfl
    · have := key y z (fun i hi => (h i hi).symm) hy
      rw [this] at hz; cases hz
  · exact (key z y h hz).symm

theorem split_mem {c : UInt8} : ∀ (k : Nat) (s x : ByteArray), x ∈ Lib.splitB (one1 c) 0 k s → x.size ≤ s.size
  | 0, s, x, h => by
    rw [Lib.splitB_zero] at h
    obtain rfl : x = s := by simpa using h
    exact Nat.le_refl _
  | k + 1, s, x, h => by
    rcases part_or c s with hn | ⟨t, r, rfl, hn⟩
    · rw [split_no _ hn] at h
      obtain rfl : x = s := by simpa using h
      exact Nat.le_refl _
    · rw [split_at k hn] at h
      rw [size_app3]
      rcases List.mem_cons.1 h with rfl | h
      · omega
      · have := split_mem k r x h
        omega
theorem words_size {s x : ByteArray} {k : Nat} (h : (wordsD s)[k]? = some x) : x.size ≤ s.size := split_mem _ s x (List.mem_of_getElem? h)
theorem cells_word {L : List ByteArray} {N k : Nat} {x : ByteArray} (h : L[k]? = some x) : (Lib.cellsOf L N)[k]? = some (.string x) := by
  have hk : k < L.length := (List.getElem?_eq_some_iff.1 h).1
  unfold Lib.cellsOf
  rw [List.getElem?_toArray, List.getElem?_append_left (by rw [List.length_map]; exact hk), List.getElem?_map, h]
  rfl
/-- The library's greatest length of a search holds some number. -/
def LenOk (w : World) : Prop := ∃ m, w.cell? ⟨1, 0, none⟩ = some (.int .i64 m)
theorem LenOk.below {w w' : World} (h : LenOk w) (hb : Below w.heap.size w w') : LenOk w' := by
  obtain ⟨m, hm⟩ := h
  exact ⟨m, (hb.cell (p := ⟨1, 0, none⟩) (cell_lt hm)).trans hm⟩
def ReadAns (s : ByteArray) (w : World) (e : Ending) (w' : World) : Prop :=
  ((∃ n z b c, docB n z = true ∧ s = docS n z ∧ e = .returned (.tuple #[.slice (some ⟨b, 0, none⟩) n c, .bool true]) ∧ w.heap.size ≤ b ∧ Row w' 2 b n z) ∨
   ((∀ n z, docB n z = true → s ≠ docS n z) ∧ e = .returned (.tuple #[.slice none 0 0, .bool false]))) ∧ Below w.heap.size w w'

set_option maxRecDepth 100000 in
set_option maxHeartbeats 2000000 in
theorem iRead_any (s : ByteArray) (w : World) (hs : s.size ≤ 4194304) (hE : ErrOk w) (hM : LenOk w) (hp : Hid (Pow w w.heap.size)) :
    Calls Tryz.prog 85 #[.string s] w (ReadAns s w) := by
  obtain ⟨m, hm⟩ := hM
  have hS := strings_SplitN s ⟨#[44]⟩ 7 m w (by omega) hm (by decide) (by omega) (by omega)
  obtain ⟨L, HL⟩ : ∃ L, Hid (wordsD s = L) := ⟨_, hid rfl⟩
  obtain ⟨N, HN⟩ : ∃ N, Hid (min 7 (s.size + 1) = N) := ⟨_, hid rfl⟩
  have hlen : L.length ≤ 7 := by rw [← HL.out]; exact words_len s
  have hpos : 0 < L.length := by rw [← HL.out]; exact words_pos s
  have HS : Hid (Calls Tryz.prog 67 #[.string s, .string ⟨#[44]⟩, .int .i64 7] w fun e w' => e = .returned (.slice (some ⟨w.heap.size, 0, none⟩) L.length N) ∧ w' = w.alloc (.cells (Lib.cellsOf L N) 9)) := by
    show Calls _ _ _ _ _
    rw [← HL.out, ← HN.out]
    exact hS
  obtain ⟨i0, hi0, hz0, hz1, hz2⟩ := info_parts info_int
  have hmk := run_make_row' (P := Tryz.prog) 67 2 (.int .i64 0) 8 Tryz.underlying67 info_int rfl .i64 .i64 L.length (by omega) (by omega)
  have HE := hid hE
  have HSZ := hid hs
  clear hS hm hE hi0 hz0 hz1 hz2
  go_enter Tryz.func85, Tryz.ntmps85
  go_wp2_with fail
  refine HS.out.mono ?_
  rintro e w1 ⟨rfl, hw1⟩
  have hb1 : Below w.heap.size w w1 := by rw [hw1]; exact (Below.refl _ _).alloc (Nat.le_refl _) _
  have hB1 : Blk w1 w.heap.size 9 (Lib.cellsOf L N) := by rw [hw1]; exact Blk.new _ _ _
  clear hw1
  go_wp2_with fail
  go_loopw [17] (fun i wr => ∃ (k : Nat) (cs : Array Value) (z : Nat → Int), k ≤ L.length ∧ i = .int .i64 k ∧ Blk wr w1.heap.size 2 cs ∧ cs.size = L.length ∧ Hid (∀ j, j < k → cs[j]? = some (.int .i64 (z j)) ∧ I64 (z j) ∧ L[j]? = some (numS (z j))) ∧ Blk wr w.heap.size 9 (Lib.cellsOf L N) ∧ Hid (Below w.heap.size w wr))
    (fun i _ => L.length - (intOf i).toNat)
  case atStart => exact ⟨0, _, fun _ => 0, Nat.zero_le _, rfl, Blk.new _ _ _, by simp [madeCells], fun j hj => by omega, hB1.alloc _, hb1.alloc hb1.size _⟩
  case round =>
    obtain ⟨k, cs, z, hk, rfl, hB, hsz, hcs, hW, hbl⟩ := hrel
    by_cases hlt : k < L.length
    · obtain ⟨x, hx⟩ : ∃ x, L[k]? = some x := ⟨_, List.getElem?_eq_getElem hlt⟩
      have hxs : x.size ≤ 4194304 := Nat.le_trans (words_size (s := s) (k := k) (by rw [HL.out]; exact hx)) HSZ.out
      have hc : wr.cell? ⟨w.heap.size, k, none⟩ = some (.string x) := by rw [hW.cell]; exact cells_word hx
      have i1 : (k : Int) < (L.length : Int) := by omega
      have i3 : (0 : Int) ≤ (k : Int) := by omega
      have hpw : Hid (Pow wr wr.heap.size) := fun W' hW' => hp.out W' (hbl.out.trans (hW'.mono hbl.out.size))
      have hEw : Hid (ErrOk wr) := hid (HE.out.below hbl.out)
      have HX := hid hx
      have hwl := hW.lt
      have hbl0 := hB.lt
      clear hx
      go_wp2_with fail
      refine (readNum_any x _ hxs hEw.out hpw).mono ?_
      rintro e w5 ⟨⟨y, hy, hyx, rfl⟩ | ⟨hno, rfl⟩, hb5⟩
      · have hB5 := hB.below hb5 hB.lt
        have hW5 := hW.below hb5 hW.lt
        have hbl5 := hid (hbl.out.trans (hb5.mono hbl.out.size))
        have hc2 : w5.cell? ⟨w1.heap.size, k, none⟩ = some (cs[k]'(by omega)) := by rw [hB5.cell, Array.getElem?_eq_getElem]
        have hf2 := hB5.frozen k
        have hne : w1.heap.size ≠ w.heap.size := by
          intro e
          have h1 := hB1.lt
          omega
        have HY := hid hyx
        clear hB hb5 hW hc hyx
        go_wp2_with fail
        go_roundw
        case rel =>
          refine ⟨k + 1, _, extT z k y, by omega, by go_num, hB5.set_ k _, by simpa using hsz, hid (fun j hj => ?_), hW5.far (by show w.heap.size ≠ w1.heap.size; omega) _, hid (hbl5.out.setCell (by show w.heap.size ≤ w1.heap.size; exact hb1.size) _)⟩
          unfold extT
          by_cases e : j = k
          · subst e
            rw [if_pos rfl, Array.getElem?_setIfInBounds_self_of_lt (by omega)]
            exact ⟨rfl, hy, by rw [HY.out]; exact HX.out⟩
          · rw [if_neg e, Array.getElem?_setIfInBounds_ne (by omega)]; exact hcs.out j (by omega)
        case measure => simp [intOf]; omega
      · have hbl5 := hid (hbl.out.trans (hb5.mono hbl.out.size))
        have HNO := hid hno
        clear hB hb5 hW hc hno
        go_wp2_with fail
        go_ret2
        refine ⟨.inr ⟨fun n z' hd e => ?_, rfl⟩, hbl5.out⟩
        have h1 := words_doc hd
        rw [← e, HL.out] at h1
        have hl : L.length = n := by rw [h1]; simp
        have h2 := HX.out
        rw [h1, List.getElem?_map, List.getElem?_range (by omega)] at h2
        exact HNO.out (z' k) (may_i64 ((docB_true hd).2.2 k (by omega))) (Option.some.inj h2)
    · have e : k = L.length := by omega
      have hrd : Rd wr wr.heap.size (some ⟨w1.heap.size, 0, none⟩) L.length z := fun _ => ⟨w1.heap.size, 0, rfl, hB.lt, fun i hi => by rw [Nat.zero_add, hB.cell]; exact (hcs.out i (by omega)).1⟩
      have hrow : Row wr 2 w1.heap.size L.length z := ⟨cs, hB, by omega, fun i hi => (hcs.out i (by omega)).1⟩
      have hfin : Hid (∀ n z', docB n z' = true → s = docS n z' → docB L.length z = true) := fun n z' hd e2 => by
        have h1 := words_doc hd
        rw [← e2, HL.out] at h1
        have hl : L.length = n := by rw [h1]; simp
        rw [hl]
        rw [docB_congrT (y := z') fun i hi => ?_]
        · exact hd
        · have h3 := (hcs.out i (by omega)).2.2
          rw [h1, List.getElem?_map, List.getElem?_range (by omega)] at h3
          exact numS_inj (hcs.out i (by omega)).2.1 (may_i64 ((docB_true hd).2.2 i hi)) (Option.some.inj h3).symm
      have htx : Hid (docB L.length z = true → s = docS L.length z) := fun hd => by
        rw [← HL.out] at hd ⊢
        exact words_text (fun i hi => by rw [HL.out] at hi ⊢; exact (hcs.out i (by omega)).2.2) hd
      have i1 : ¬ (k : Int) < (L.length : Int) := by omega
      clear hcs hW
      go_wp2_with fail
      refine (iDocOk_any _ L.length _ z _ hrd (by omega)).mono ?_
      rintro e' w5 ⟨rfl, hb5⟩
      have hrow5 := hrow.below hb5 hrow.lt
      have hbl5 := hid (hbl.out.trans (hb5.mono hbl.out.size))
      clear hb5 hrd hrow hB hsz
      cases hd : docB L.length z
      · have HD := hid hd
        clear hd
        go_wp2_with fail
        go_ret2
        refine ⟨.inr ⟨fun n z' hd e => ?_, rfl⟩, hbl5.out⟩
        have := hfin.out n z' hd e
        rw [HD.out] at this
        cases this
      · have HD := hid hd
        clear hd
        go_wp2_with fail
        go_ret2
        exact ⟨.inl ⟨L.length, z, _, _, HD.out, htx.out HD.out, rfl, hb1.size, hrow5⟩, hbl5.out⟩
end

/-! ### RdJ -/
section
set_option linter.unusedVariables false
set_option linter.unusedSimpArgs false
open Go.RowKit Go.Deep

/-- A node as a text can give it: a leaf has its value alone, a split has none. -/
def GoodN (d : Nd) : Prop := (d.left = 0 → d.feat = 0 ∧ d.cut = 0 ∧ d.right = 0 ∧ d.miss = false) ∧ (d.left ≠ 0 → d.value = 0)
theorem node_good {n i : Nat} {d : Nd} (h : Node 6 n i d) : GoodN d := by
  unfold Node at h
  unfold GoodN
  split at h
  · rename_i h0
    unfold lfB at h
    simp only [Bool.and_eq_true, beq_iff_eq, decide_eq_true_eq] at h
    exact ⟨fun _ => ⟨h.1.1.1.1.1, h.1.1.1.1.2, h.1.1.2, h.1.2⟩, fun e => absurd h0 e⟩
  · rename_i h0
    unfold spB at h
    simp only [Bool.and_eq_true, beq_iff_eq, decide_eq_true_eq] at h
    exact ⟨fun e => absurd e h0, fun _ => h.1.2⟩
theorem noC_app {c : UInt8} {a b : ByteArray} (ha : NoC c a) (hb : NoC c b) : NoC c (a ++ b) := by
  unfold NoC at *
  rw [data_app]
  intro h
  rcases List.mem_append.1 h with h | h
  · exact ha h
  · exact hb h
theorem noC_one {c d : UInt8} (h : c ≠ d) : NoC c (one1 d) := by
  unfold NoC one1
  simpa using h
theorem noC_join {c : UInt8} {f : Nat → ByteArray} {sep : ByteArray} (hs : NoC c sep) : ∀ n, (∀ i, i < n → NoC c (f i)) → NoC c (joinTo f sep n)
  | 0, _ => by unfold NoC; show c ∉ []; simp
  | n + 1, h => by
    have ih := noC_join hs n (fun i hi => h i (by omega))
    show NoC c ((if 0 < n then joinTo f sep n ++ sep else joinTo f sep n) ++ f n)
    refine noC_app ?_ (h n (by omega))
    split
    · exact noC_app ih hs
    · exact ih
theorem side_noC {c : UInt8} (m : Bool) (h1 : c ≠ 108) (h2 : c ≠ 114) : NoC c (sideS m) := by
  cases m
  · exact noC_one h2
  · exact noC_one h1
theorem ndP_noC {c : UInt8} {d : Nd} (hc : c.toNat < 45 ∨ 57 < c.toNat) (h1 : c ≠ 108) (h2 : c ≠ 114) : ∀ i, i < 5 → NoC c (ndP d i) := by
  intro i hi
  obtain rfl | rfl | rfl | rfl | rfl : i = 0 ∨ i = 1 ∨ i = 2 ∨ i = 3 ∨ i = 4 := by omega
  · exact decS_noC _ hc
  · exact decS_noC _ hc
  · exact decS_noC _ hc
  · exact decS_noC _ hc
  · exact side_noC _ h1 h2
theorem ndS_noC (d : Nd) : NoC 32 (ndS d) := by
  unfold ndS
  split
  · exact noC_app (noC_one (by decide)) (decS_noC _ (.inl (by decide)))
  · exact noC_app (noC_one (by decide)) (noC_join (noC_one (by decide)) 5 (ndP_noC (.inl (by decide)) (by decide) (by decide)))
/-- The parts of a split behind its mark. -/
def partsS (s : ByteArray) : List ByteArray := Lib.splitB (one1 58) 0 (min 5 (s.size + 1) - 1) s
theorem parts_split (d : Nd) : partsS (joinTo (ndP d) (one1 58) 5) = (List.range 5).map (ndP d) := by
  have hge := join_size_ge (ndP d) (one1 58) rfl 5
  unfold partsS
  exact split_join 4 _ (ndP d) (ndP_noC (.inr (by decide)) (by decide) (by decide)) (by omega)
/-- The words of a text, at most sixteen. -/
def wordsT (s : ByteArray) : List ByteArray := Lib.splitB (one1 32) 0 (min 16 (s.size + 1) - 1) s
theorem wordsT_tree {n : Nat} {g : Nat → Nd} (h : treeB g n 6 = true) : wordsT (ntS n g) = (List.range n).map fun i => ndS (g i) := by
  have hn := ((treeB_iff g n 6).1 h).2.1
  obtain ⟨m, rfl⟩ : ∃ m, n = m + 1 := ⟨n - 1, by omega⟩
  have hge := join_size_ge (fun i => ndS (g i)) (one1 32) rfl (m + 1)
  unfold wordsT
  exact split_join m _ (fun i => ndS (g i)) (fun i _ => ndS_noC _) (by have e : ntS (m + 1) g = joinTo (fun i => ndS (g i)) (one1 32) (m + 1) := rfl; rw [e]; omega)
theorem wordsT_len (s : ByteArray) : (wordsT s).length ≤ 16 := by
  have := Lib.splitB_length_le (one1 32) 0 (min 16 (s.size + 1) - 1) s
  unfold wordsT
  omega
theorem wordsT_text {s : ByteArray} {g : Nat → Nd} (hz : ∀ i, i < (wordsT s).length → (wordsT s)[i]? = some (ndS (g i))) : s = ntS (wordsT s).length g := by
  have hj : joinTo (fun i => (wordsT s).getD i ByteArray.empty) (one1 32) (wordsT s).length = s := join_split _ s
  conv => lhs; rw [← hj]
  refine joinTo_congr _ fun i hi => ?_
  rw [List.getD_eq_getElem?_getD, hz i hi]
  rfl
theorem first_byte {a b : UInt8} {s t : ByteArray} (h : one1 a ++ s = one1 b ++ t) : a = b ∧ s = t := by
  have h1 := congrArg (fun x : ByteArray => x.data.toList) h
  simp only [data_app] at h1
  have h2 : a :: s.data.toList = b :: t.data.toList := h1
  injection h2 with h3 h4
  exact ⟨h3, ba_ext h4⟩
theorem side_inj {a b : Bool} (h : sideS a = sideS b) : a = b := by
  cases a <;> cases b
  · rfl
  · exact absurd (congrArg (fun x : ByteArray => x.data.toList) h) (by decide)
  · exact absurd (congrArg (fun x : ByteArray => x.data.toList) h) (by decide)
  · rfl
/-- One text, one node. -/
theorem ndS_inj {a b : Nd} (ha : NdIn a) (hb : NdIn b) (ga : GoodN a) (gb : GoodN b) (h : ndS a = ndS b) : a = b := by
  have hl : (⟨#[108]⟩ : ByteArray) = one1 108 := rfl
  have hs : (⟨#[115]⟩ : ByteArray) = one1 115 := rfl
  unfold ndS at h
  rw [hl, hs] at h
  obtain ⟨a0, a1, a2, a3, a4⟩ := ha
  obtain ⟨b0, b1, b2, b3, b4⟩ := hb
  obtain ⟨f1, c1, l1, r1, m1, v1⟩ := a
  obtain ⟨f2, c2, l2, r2, m2, v2⟩ := b
  by_cases ea : l1 = 0
  · by_cases eb : l2 = 0
    · rw [if_pos ea, if_pos eb] at h
      have hv := decS_inj a4 b4 (first_byte h).2
      obtain ⟨p1, p2, p3, p4⟩ := ga.1 ea
      obtain ⟨q1, q2, q3, q4⟩ := gb.1 eb
      simp only at p1 p2 p3 p4 q1 q2 q3 q4 hv
      subst p1 p2 p3 p4 q1 q2 q3 q4 hv ea eb
      rfl
    · rw [if_pos ea, if_neg eb] at h
      exact absurd (first_byte h).1 (by decide)
  · by_cases eb : l2 = 0
    · rw [if_neg ea, if_pos eb] at h
      exact absurd (first_byte h).1 (by decide)
    · rw [if_neg ea, if_neg eb] at h
      have hj := (first_byte h).2
      have hp := congrArg partsS hj
      have e1 := parts_split ⟨f1, c1, l1, r1, m1, v1⟩
      have e2 := parts_split ⟨f2, c2, l2, r2, m2, v2⟩
      have e3 := (e1.symm.trans hp).trans e2
      have at_ : ∀ i, i < 5 → ndP ⟨f1, c1, l1, r1, m1, v1⟩ i = ndP ⟨f2, c2, l2, r2, m2, v2⟩ i := fun i hi => by
        have := congrArg (fun l => l[i]?) e3
        simp only [List.getElem?_map, List.getElem?_range hi] at this
        exact Option.some.inj this
      have k0 := decS_inj a0 b0 (at_ 0 (by omega))
      have k1 := decS_inj a1 b1 (at_ 1 (by omega))
      have k2 := decS_inj a2 b2 (at_ 2 (by omega))
      have k3 := decS_inj a3 b3 (at_ 3 (by omega))
      have k4 := side_inj (at_ 4 (by omega))
      have w1 := ga.2 ea
      have w2 := gb.2 eb
      simp only at k0 k1 k2 k3 k4 w1 w2
      subst k0 k1 k2 k3 k4 w1 w2
      rfl
end
end Go.Proofs.YtmkipdhappikhaaGreatDoor
