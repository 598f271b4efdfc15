/- A document read, of the other side. -/
import Derived.Test.YthcnjabilakndaaDoorRdD
import Derived.Test.YthcnjabilakndaaDoorTxC
import Derived.WalkMore
namespace Go.Proofs.YthcnjabilakndaaDoor
open Go.RowKit Go.Deep

theorem ba_listT {a b : ByteArray} (h : a ≠ b) : (a.toList == b.toList) = false := by
  rw [beq_eq_false_iff_ne]
  intro e
  rw [ByteArray.toList_eq, ByteArray.toList_eq] at e
  exact h (ByteArray.ext (Array.toList_inj.1 e))
theorem list_full {a : ByteArray} (h : a ≠ ⟨#[]⟩) : a.toList.isEmpty = false := by
  have := ba_listT h
  cases hl : a.toList with
  | nil => rw [hl] at this; simp [ByteArray.toList_eq] at this
  | cons x l => rfl
theorem dec_dash (x : Int) : ((decS x).toList == [45]) = false := by
  have := ba_listT (decS_ne_dash x)
  rw [ByteArray.toList_eq (⟨#[45]⟩ : ByteArray)] at this
  exact this
def extT (z : Nat → Int) (k : Nat) (x : Int) : Nat → Int := fun j => if j = k then x else z j
theorem numsOf_extT (k : Nat) (z : Nat → Int) (x : Int) : numsOf (k + 1) (extT z k x) = numsOf k z ++ [.int .i64 x] := by
  rw [numsOf_succ]
  have e1 : numsOf k (extT z k x) = numsOf k z := by
    unfold numsOf
    refine List.map_congr_left fun j hj => ?_
    have : j < k := List.mem_range.1 hj
    unfold extT
    rw [if_neg (by omega)]
  rw [e1]
  unfold extT
  rw [if_pos rfl]
def strLenT : Value → Nat
  | .string b => b.size
  | _ => 0
/-- What a loop over the words has before it. -/
def msrT (r : Value) : Value → Nat
  | .bool true => 1 + strLenT r
  | _ => 0
theorem msr_less {t r : ByteArray} {m : Bool} (h : m = true → r.size < t.size) : msrT (.string r) (.bool m) < msrT (.string t) (.bool true) := by
  cases m
  · show 0 < 1 + _; omega
  · have := h rfl; show 1 + r.size < 1 + t.size; omega
theorem cut_some (s : ByteArray) (hs : s.size ≤ 4194304) : ∃ t r m, (m = true → r.size < s.size) ∧ t.size ≤ s.size ∧ r.size ≤ s.size ∧
    ∀ w, Calls Tryd.prog 24 #[.string s, .int .u8 44] w fun e w' => e = .returned (.tuple #[.string t, .string r, .bool m]) ∧ ∃ j, w' = w.drewN j := by
  rcases part_or 44 s with h | ⟨t, r, rfl, h⟩
  · exact ⟨s, ⟨#[]⟩, false, by simp, Nat.le_refl _, Nat.zero_le _, fun w => cut_miss s 44 44 w rfl h hs⟩
  · have e := size_app3 t r 44
    exact ⟨t, r, true, fun _ => by rw [e]; omega, by rw [e]; omega, by rw [e]; omega, fun w => cut_hit t r 44 44 w rfl h hs⟩
theorem numS_sz {x : Int} (h : may x = true) : (numS x).size ≤ 8 := by
  have hb := may_bd h
  simp only [may, Bool.or_eq_true, Bool.and_eq_true, decide_eq_true_eq, beq_iff_eq] at h
  unfold numS
  split
  · decide
  · show (Lib.itoa x).toArray.size ≤ 8
    rw [List.size_toArray]
    by_cases hn : x < 0
    · obtain ⟨M, rfl⟩ : ∃ M : Nat, x = -(M : Int) := ⟨x.natAbs, by omega⟩
      rw [Lib.itoa_neg M (by omega), List.length_cons, Lib.decDigits_length]
      have := digits_le M 6 (by omega)
      omega
    · obtain ⟨M, rfl⟩ : ∃ M : Nat, x = (M : Int) := ⟨x.toNat, by omega⟩
      rw [Lib.itoa_nonneg, Lib.decDigits_length]
      have := digits_le M 6 (by omega)
      omega
theorem docS_yes {n : Nat} {z : Nat → Int} (h : docB n z = true) : docS n z = joinTo (fun i => numS (z i)) (one1 44) n := by unfold docS; rw [if_pos h]; rfl
theorem docS_sz {n : Nat} {z : Nat → Int} (h : docB n z = true) : (docS n z).size ≤ 54 := by
  obtain ⟨h1, h6, hall⟩ := docB_true h
  rw [docS_yes h]
  have := joinTo_size (f := fun i => numS (z i)) (sep := one1 44) (M := 8) n (fun i hi => numS_sz (hall i hi))
  have e : (one1 44).size = 1 := rfl
  rw [e] at this
  omega
theorem numS_pos (x : Int) : 0 < (numS x).size := by
  unfold numS
  split
  · decide
  · show 0 < (Lib.itoa x).toArray.size
    rw [List.size_toArray]
    unfold Lib.itoa
    have hp := fun u => Lib.nDigits_pos u
    split
    · rw [List.length_cons]; omega
    · rw [Lib.decDigits_length]; exact hp _
theorem docS_ne {n : Nat} {z : Nat → Int} (h : docB n z = true) : docS n z ≠ ⟨#[]⟩ := by
  obtain ⟨h1, h6, hall⟩ := docB_true h
  rw [docS_yes h]
  obtain ⟨m, rfl⟩ : ∃ m, n = m + 1 := ⟨n - 1, by omega⟩
  intro e
  have h2 := congrArg ByteArray.size e
  have h3 := numS_pos (z m)
  have h4 : (joinTo (fun i => numS (z i)) (one1 44) (m + 1)).size ≥ (numS (z m)).size := by
    show ((if 0 < m then _ else _) ++ numS (z m)).size ≥ _
    rw [ByteArray.size_append]; omega
  rw [h2] at h4
  have h5 : (⟨#[]⟩ : ByteArray).size = 0 := rfl
  omega
/-- What is left of a document's text behind k numbers. -/
def leftS (n : Nat) (z : Nat → Int) (k : Nat) : ByteArray := joinTo (fun i => numS (z (k + i))) (one1 44) (n - k)
theorem left_zero {n : Nat} {z : Nat → Int} (h : docB n z = true) : leftS n z 0 = docS n z := by
  rw [docS_yes h]; unfold leftS; simp only [Nat.zero_add, Nat.sub_zero]
theorem cut_left {n : Nat} {z : Nat → Int} {k : Nat} (hk : k < n) (hs : (leftS n z k).size ≤ 4194304) : ∃ r m, ((k + 1 < n ∧ m = true ∧ r = leftS n z (k + 1)) ∨ (k + 1 = n ∧ m = false)) ∧ (m = true → r.size < (leftS n z k).size) ∧ r.size ≤ (leftS n z k).size ∧
    ∀ w, Calls Tryd.prog 24 #[.string (leftS n z k), .int .u8 44] w fun e w' => e = .returned (.tuple #[.string (numS (z k)), .string r, .bool m]) ∧ ∃ j, w' = w.drewN j := by
  have hno : NoC 44 (numS (z k)) := numS_noC _ (.inl (by decide))
  by_cases h1 : k + 1 = n
  · have e : leftS n z k = numS (z k) := by
      unfold leftS
      rw [show n - k = 1 by omega, join_one]
      rfl
    rw [e] at hs ⊢
    exact ⟨⟨#[]⟩, false, .inr ⟨h1, rfl⟩, by simp, Nat.zero_le _, fun w => cut_miss _ 44 44 w rfl hno hs⟩
  · obtain ⟨j, hj⟩ : ∃ j, n - k = j + 2 := ⟨n - k - 2, by omega⟩
    have e : leftS n z k = numS (z k) ++ one1 44 ++ leftS n z (k + 1) := by
      unfold leftS
      rw [hj, join_head, show n - (k + 1) = j + 1 by omega]
      have : (fun i => numS (z (k + (i + 1)))) = fun i => numS (z (k + 1 + i)) := by funext i; congr 2; omega
      rw [this]
      rfl
    have e2 := size_app3 (numS (z k)) (leftS n z (k + 1)) 44
    rw [e] at hs ⊢
    exact ⟨leftS n z (k + 1), true, .inl ⟨by omega, rfl, rfl⟩, fun _ => by rw [e2]; omega, by rw [e2]; omega, fun w => cut_hit _ _ 44 44 w rfl hno hs⟩

set_option maxRecDepth 100000 in
set_option maxHeartbeats 2000000 in
theorem sRead_yes (n : Nat) (z : Nat → Int) (w : World) (hd : docB n z = true) :
    Calls Tryd.prog 9 #[.string (docS n z)] w fun e w' =>
      ∃ b c, e = .returned (.tuple #[.slice (some ⟨b, 0, none⟩) n c, .bool true]) ∧ w.heap.size ≤ b ∧ Row w' 2 b n z ∧ Below w.heap.size w w' := by
  obtain ⟨h1, h6, hall⟩ := docB_true hd
  obtain ⟨i0, hi0, hz0, hz1, hz2⟩ := info_parts info_int
  obtain ⟨s, HS⟩ : ∃ s, Hid (s = docS n z) := ⟨_, hid rfl⟩
  rw [← HS.out]
  have hsz : s.size ≤ 54 := by rw [HS.out]; exact docS_sz hd
  have hne : s.toList.isEmpty = false := list_full (by rw [HS.out]; exact docS_ne hd)
  have HL0 : Hid (s = leftS n z 0) := by show _ = _; rw [HS.out, left_zero hd]
  have HD := hid hd
  have HALL := hid hall
  clear hd hall
  go_enter Tryd.func9, Tryd.ntmps9
  go_wp2_with fail
  go_loopw [4, 5, 6] (fun d r m wr => ∃ (k : Nat) (A : Option Addr) (c : Nat) (t : ByteArray) (b : Bool), d = .slice A k c ∧ r = .string t ∧ m = .bool b ∧ t.size ≤ 54 ∧ Hid (wr.ownsRow w.heap.size 2 1 (.slice A k c) k (numsOf k z)) ∧ Hid (Below w.heap.size w wr) ∧ Hid ((k < n ∧ b = true ∧ t = leftS n z k) ∨ (k = n ∧ b = false)))
    (fun _ r m _ => msrT r m)
  case atStart => exact ⟨0, _, _, _, _, rfl, rfl, rfl, hsz, World.ownsRow_made w #[] 0 (Nat.le_refl _) (by unfold maxLen; omega) rfl, (Below.refl _ _).alloc (Nat.le_refl _) _, .inl ⟨by omega, rfl, HL0.out⟩⟩
  case round =>
    obtain ⟨k, A, c, t, b, rfl, rfl, rfl, hts, hown, hbl, hst⟩ := hrel
    cases b
    · obtain rfl : k = n := by
        rcases hst.out with ⟨_, hb, _⟩ | ⟨hk, _⟩
        · cases hb
        · exact hk
      obtain ⟨gb, cc, hA, hgb, hrow⟩ := own_row hown.out (by omega)
      injection hA with hA1 _ hA2
      subst hA1 hA2
      go_wp2_with (go_at_call 10; refine (sDocText_any _ k _ z _ (hrow.rd hrow.lt) (by omega)).mono ?_; rintro e w5 ⟨rfl, hb5⟩; rw [← HS.out])
      go_ret2
      exact ⟨gb, c, rfl, hgb, hrow.below hb5 hrow.lt, hbl.out.trans (hb5.mono hbl.out.size)⟩
    · have hkt : k < n ∧ t = leftS n z k := by
        rcases hst.out with ⟨hk, _, ht⟩ | ⟨_, hb⟩
        · exact ⟨hk, ht⟩
        · cases hb
      obtain ⟨hk, ht⟩ := hkt
      obtain ⟨r, m, hnx, hlt, hrt, hcut⟩ := cut_left hk (by rw [← ht]; omega)
      rw [← ht] at hcut hlt hrt
      have HNX : Hid ((k + 1 < n ∧ m = true ∧ r = leftS n z (k + 1)) ∨ (k + 1 = n ∧ m = false)) := hid hnx
      have hrs : r.size ≤ 54 := by omega
      have HCUT := hid hcut
      clear hcut hnx ht hrt
      by_cases e : z k = 9999999
      · have hnS : numS (z k) = ⟨#[45]⟩ := by unfold numS; rw [if_pos e]
        rw [hnS] at HCUT
        go_wp2_with fail
        refine (HCUT.out _).mono ?_
        rintro e' w2 ⟨rfl, j, rfl⟩
        have hbl2 := below_drewN hbl.out j
        have hown2 : (wr.drewN j).ownsRow w.heap.size 2 1 (.slice A k c) k (numsOf k z) := own_below hown.out (below_drewN (Below.refl _ _) j)
        have hsz2 : w.heap.size ≤ wr.heap.size := hbl.out.size
        clear hnS
        go_wp2_with fail
        refine (num_some ⟨#[45]⟩ _ (by decide)).mono ?_
        rintro e' w4 ⟨x, b, _, rfl, rfl⟩
        go_wp2_with (at_builtin; refine wpList_append_own _ rfl (.tmp 31) (.tmp 33) 24 rfl w.heap.size 2 i0 (.int .i64 0) 1 8 Tryd.underlying24 hi0 hz0 hz1 hz2 rfl (by decide) _ k _ rfl (hown2.alloc _) ⟨wr.heap.size, 0, none⟩ 1 1 [.int .i64 9999999] rfl rfl (cell_one_new (wr.drewN j) _ _) (by intro u hu; simp at hu; subst hu; rfl) (by unfold maxLen; omega) (by omega) (by simp; omega) ?_)
        intro v' w6 hown6 hg6 _
        have hbl6 : Below w.heap.size w w6 := (hbl2.alloc hbl2.size _).grown hg6 (by simp; omega) (fun x hx => (hown2.lt x hx).1)
        obtain ⟨A6, c6, rfl⟩ := own_form hown6
        have HO6 : Hid (w6.ownsRow w.heap.size 2 1 (.slice A6 (k + 1) c6) (k + 1) (numsOf (k + 1) z)) := by
          show World.ownsRow _ _ _ _ _ _ _
          rw [numsOf_succ]
          rw [e]
          exact hown6
        clear hg6 hown2 hown6 hbl2
        go_wp2_with fail
        go_roundw
        case rel => exact ⟨k + 1, A6, c6, r, m, rfl, rfl, rfl, hrs, HO6, hbl6, HNX.out⟩
        case measure => exact msr_less hlt

      · have hnS : numS (z k) = decS (z k) := by unfold numS; rw [if_neg e]
        have hi64 : I64 (z k) := by have := may_bd (HALL.out k hk); unfold I64; omega
        have hds := dec_dash (z k)
        rw [hnS] at HCUT
        go_wp2_with fail
        refine (HCUT.out _).mono ?_
        rintro e' w2 ⟨rfl, j, rfl⟩
        have hbl2 := below_drewN hbl.out j
        have hown2 : (wr.drewN j).ownsRow w.heap.size 2 1 (.slice A k c) k (numsOf k z) := own_below hown.out (below_drewN (Below.refl _ _) j)
        have hsz2 : w.heap.size ≤ wr.heap.size := hbl.out.size
        clear hnS e
        go_wp2_with fail
        refine (num_dec (z k) _ hi64).mono ?_
        rintro e' w4 ⟨rfl, rfl⟩
        go_wp2_with (at_builtin; refine wpList_append_own _ rfl (.tmp 31) (.tmp 33) 24 rfl w.heap.size 2 i0 (.int .i64 0) 1 8 Tryd.underlying24 hi0 hz0 hz1 hz2 rfl (by decide) _ k _ rfl (hown2.alloc _) ⟨wr.heap.size, 0, none⟩ 1 1 [.int .i64 (z k)] rfl rfl (cell_one_new (wr.drewN j) _ _) (by intro u hu; simp at hu; subst hu; rfl) (by unfold maxLen; omega) (by omega) (by simp; omega) ?_)
        intro v' w6 hown6 hg6 _
        have hbl6 : Below w.heap.size w w6 := (hbl2.alloc hbl2.size _).grown hg6 (by simp; omega) (fun x hx => (hown2.lt x hx).1)
        obtain ⟨A6, c6, rfl⟩ := own_form hown6
        have HO6 : Hid (w6.ownsRow w.heap.size 2 1 (.slice A6 (k + 1) c6) (k + 1) (numsOf (k + 1) z)) := by
          show World.ownsRow _ _ _ _ _ _ _
          rw [numsOf_succ]
          exact hown6
        clear hg6 hown2 hown6 hbl2
        go_wp2_with fail
        go_roundw
        case rel => exact ⟨k + 1, A6, c6, r, m, rfl, rfl, rfl, hrs, HO6, hbl6, HNX.out⟩
        case measure => exact msr_less hlt


set_option maxRecDepth 100000 in
set_option maxHeartbeats 2000000 in
theorem sRead_no (s : ByteArray) (w : World) (hs : s.size ≤ 4194304) (hno : ∀ n z, docB n z = true → s ≠ docS n z) :
    Calls Tryd.prog 9 #[.string s] w fun e w' => e = .returned (.tuple #[.slice none 0 0, .bool false]) ∧ Below w.heap.size w w' := by
  have HNO := hid hno
  clear hno
  by_cases h80 : 80 < s.size
  · have j : (80 : Int) < (s.size : Int) := by omega
    go_enter Tryd.func9, Tryd.ntmps9
    go_wp2_with fail
    go_ret2
    exact ⟨rfl, Below.refl _ _⟩
  obtain ⟨i0, hi0, hz0, hz1, hz2⟩ := info_parts info_int
  have hsz : ¬ (80 : Int) < (s.size : Int) := by omega
  go_enter Tryd.func9, Tryd.ntmps9
  go_wp2_with fail
  go_loopw [4, 5, 6] (fun d r m wr => ∃ (k : Nat) (z : Nat → Int) (A : Option Addr) (c : Nat) (t : ByteArray) (b : Bool), d = .slice A k c ∧ r = .string t ∧ m = .bool b ∧ k ≤ 81 ∧ (b = true → k + t.size ≤ 80) ∧ t.size ≤ 80 ∧ Hid (wr.ownsRow w.heap.size 2 1 (.slice A k c) k (numsOf k z)) ∧ Hid (Below w.heap.size w wr))
    (fun _ r m _ => msrT r m)
  case atStart => exact ⟨0, fun _ => 0, _, _, _, _, rfl, rfl, rfl, by omega, fun _ => by omega, by omega, World.ownsRow_made w #[] 0 (Nat.le_refl _) (by unfold maxLen; omega) rfl, (Below.refl _ _).alloc (Nat.le_refl _) _⟩
  case round =>
    obtain ⟨k, z, A, c, t, b, rfl, rfl, rfl, hk, hkt, hts, hown, hbl⟩ := hrel
    cases b
    · have hrd : Hid (Rd wr wr.heap.size A k z) := by
        intro hk0
        obtain ⟨gb, cc, hA, hgb, hrow⟩ := own_row hown.out hk0
        injection hA with hA1 _ hA2
        subst hA1
        exact (hrow.rd hrow.lt) hk0
      by_cases h0 : s = ⟨#[]⟩
      · have h0' : s.toList.isEmpty = true := by rw [h0]; simp [ByteArray.toList_eq]
        clear h0
        go_wp2_with fail
        go_ret2
        exact ⟨rfl, hbl.out⟩
      · have hne := list_full h0
        have hd : docS k z ≠ s := by
          intro e
          cases hd : docB k z
          · unfold docS at e
            rw [hd] at e
            exact h0 e.symm
          · exact HNO.out k z hd e.symm
        have hdl := ba_listT hd
        clear h0 hd
        go_wp2_with (go_at_call 10; refine (sDocText_any A k _ z _ hrd.out (by omega)).mono ?_; rintro e w5 ⟨rfl, hb5⟩)
        go_ret2
        exact ⟨rfl, hbl.out.trans (hb5.mono hbl.out.size)⟩
    · have hkt2 := hkt rfl
      obtain ⟨hd, r, m, hlt, hh, hrt, hcut⟩ := cut_some t (by omega)
      have HCUT := hid hcut
      have hsz2 : w.heap.size ≤ wr.heap.size := hbl.out.size
      clear hcut hkt
      by_cases e : hd = ⟨#[45]⟩
      · subst e
        go_wp2_with fail
        refine (HCUT.out _).mono ?_
        rintro e' w2 ⟨rfl, j, rfl⟩
        have hbl2 := below_drewN hbl.out j
        have hown2 : (wr.drewN j).ownsRow w.heap.size 2 1 (.slice A k c) k (numsOf k z) := own_below hown.out (below_drewN (Below.refl _ _) j)
        go_wp2_with fail
        refine (num_some ⟨#[45]⟩ _ (by decide)).mono ?_
        rintro e' w4 ⟨x, b, _, rfl, rfl⟩
        go_wp2_with (at_builtin; refine wpList_append_own _ rfl (.tmp 31) (.tmp 33) 24 rfl w.heap.size 2 i0 (.int .i64 0) 1 8 Tryd.underlying24 hi0 hz0 hz1 hz2 rfl (by decide) _ k _ rfl (hown2.alloc _) ⟨wr.heap.size, 0, none⟩ 1 1 [.int .i64 9999999] rfl rfl (cell_one_new (wr.drewN j) _ _) (by intro u hu; simp at hu; subst hu; rfl) (by unfold maxLen; omega) (by omega) (by simp; omega) ?_)
        intro v' w6 hown6 hg6 _
        have hbl6 : Below w.heap.size w w6 := (hbl2.alloc hbl2.size _).grown hg6 (by simp; omega) (fun x hx => (hown2.lt x hx).1)
        obtain ⟨A6, c6, rfl⟩ := own_form hown6
        have HO6 : Hid (w6.ownsRow w.heap.size 2 1 (.slice A6 (k + 1) c6) (k + 1) (numsOf (k + 1) (extT z k 9999999))) := by
          show World.ownsRow _ _ _ _ _ _ _
          rw [numsOf_extT]
          exact hown6
        have HMS := hid (msr_less hlt)
        have HRS : r.size ≤ 80 ∧ (m = true → k + 1 + r.size ≤ 80) := ⟨by omega, fun e => by have := hlt e; omega⟩
        obtain ⟨hr8, hrm⟩ := HRS
        have HRM := hid hrm
        clear hg6 hown2 hown6 hbl2 hrm hlt
        go_wp2_with fail
        go_roundw
        case rel => exact ⟨k + 1, _, A6, c6, r, m, rfl, rfl, rfl, by omega, HRM.out, hr8, HO6, hbl6⟩
        case measure => exact HMS.out

      · have hds : (hd.toList == [45]) = false := by
          have := ba_listT e
          rw [ByteArray.toList_eq (⟨#[45]⟩ : ByteArray)] at this
          exact this
        clear e
        go_wp2_with fail
        refine (HCUT.out _).mono ?_
        rintro e' w2 ⟨rfl, j, rfl⟩
        have hbl2 := below_drewN hbl.out j
        have hown2 : (wr.drewN j).ownsRow w.heap.size 2 1 (.slice A k c) k (numsOf k z) := own_below hown.out (below_drewN (Below.refl _ _) j)
        go_wp2_with fail
        refine (num_some hd _ (by omega)).mono ?_
        rintro e' w4 ⟨x, b, _, rfl, rfl⟩
        go_wp2_with (at_builtin; refine wpList_append_own _ rfl (.tmp 31) (.tmp 33) 24 rfl w.heap.size 2 i0 (.int .i64 0) 1 8 Tryd.underlying24 hi0 hz0 hz1 hz2 rfl (by decide) _ k _ rfl (hown2.alloc _) ⟨wr.heap.size, 0, none⟩ 1 1 [.int .i64 x] rfl rfl (cell_one_new (wr.drewN j) _ _) (by intro u hu; simp at hu; subst hu; rfl) (by unfold maxLen; omega) (by omega) (by simp; omega) ?_)
        intro v' w6 hown6 hg6 _
        have hbl6 : Below w.heap.size w w6 := (hbl2.alloc hbl2.size _).grown hg6 (by simp; omega) (fun x hx => (hown2.lt x hx).1)
        obtain ⟨A6, c6, rfl⟩ := own_form hown6
        have HO6 : Hid (w6.ownsRow w.heap.size 2 1 (.slice A6 (k + 1) c6) (k + 1) (numsOf (k + 1) (extT z k x))) := by
          show World.ownsRow _ _ _ _ _ _ _
          rw [numsOf_extT]
          exact hown6
        have HMS := hid (msr_less hlt)
        have HRS : r.size ≤ 80 ∧ (m = true → k + 1 + r.size ≤ 80) := ⟨by omega, fun e => by have := hlt e; omega⟩
        obtain ⟨hr8, hrm⟩ := HRS
        have HRM := hid hrm
        clear hg6 hown2 hown6 hbl2 hrm hlt
        go_wp2_with fail
        go_roundw
        case rel => exact ⟨k + 1, _, A6, c6, r, m, rfl, rfl, rfl, by omega, HRM.out, hr8, HO6, hbl6⟩
        case measure => exact HMS.out

end Go.Proofs.YthcnjabilakndaaDoor
