/- Nodes read, of the other side. -/
import Derived.Test.YtmkipdhappikhaaGreatDoorRdV
import Derived.Test.YtmkipdhappikhaaGreatDoorTxW
import Derived.StillTailTactics
import Derived.Deep.RegionHeld3
import Derived.Test.YtmkipdhappikhaaGreatDoorK6
namespace Go.Proofs.YtmkipdhappikhaaGreatDoor

/-! ### RdK -/
section
set_option linter.unusedVariables false
set_option linter.unusedSimpArgs false
open Go.RowKit Go.Deep

/-- All the pieces. -/
def allW (c : UInt8) (s : ByteArray) : List ByteArray := Lib.splitB (one1 c) 0 s.size s
theorem split_fuel {c : UInt8} : ∀ (k : Nat) (s : ByteArray), s.size ≤ k → Lib.splitB (one1 c) 0 k s = allW c s := by
  intro k
  induction k using Nat.strongRecOn with
  | ind k ih =>
    intro s hs
    unfold allW
    rcases part_or c s with h | ⟨t, r, rfl, h⟩
    · rw [split_no _ h, split_no _ h]
    · have e := size_app3 t r c
      obtain ⟨j, rfl⟩ : ∃ j, k = j + 1 := ⟨k - 1, by omega⟩
      obtain ⟨q, hq⟩ : ∃ q, (t ++ one1 c ++ r).size = q + 1 := ⟨t.size + r.size, by omega⟩
      rw [hq, split_at _ h, split_at _ h, ih j (by omega) r (by omega)]
      rcases Nat.lt_or_ge q (j + 1) with hlt | hge
      · rw [ih q hlt r (by omega)]
      · have : q = j := by omega
        rw [this, ih j (by omega) r (by omega)]
theorem allW_no {c : UInt8} {s : ByteArray} (h : NoC c s) : allW c s = [s] := split_no _ h
theorem allW_at {c : UInt8} {t r : ByteArray} (h : NoC c t) : allW c (t ++ one1 c ++ r) = t :: allW c r := by
  have e := size_app3 t r c
  unfold allW
  obtain ⟨q, hq⟩ : ∃ q, (t ++ one1 c ++ r).size = q + 1 := ⟨t.size + r.size, by omega⟩
  rw [hq, split_at _ h]
  exact congrArg (t :: ·) (split_fuel q r (by omega))
theorem allW_len (c : UInt8) (s : ByteArray) : (allW c s).length ≤ s.size + 1 := Lib.splitB_length_le (one1 c) 0 s.size s
theorem cut_words (s : ByteArray) (hs : s.size ≤ 4194304) : ∃ t r m, (m = true → r.size < s.size) ∧ r.size ≤ s.size ∧ ((m = true ∧ allW 32 s = t :: allW 32 r) ∨ (m = false ∧ allW 32 s = [t])) ∧
    ∀ w, Calls Tryz.prog 45 #[.string s, .int .u8 32] w fun e w' => e = .returned (.tuple #[.string t, .string r, .bool m]) ∧ ∃ j, w' = w.drewN j := by
  rcases part_or 32 s with h | ⟨t, r, rfl, h⟩
  · exact ⟨s, ⟨#[]⟩, false, by simp, Nat.zero_le _, .inr ⟨rfl, allW_no h⟩, fun w => cut_miss s 32 32 w rfl h hs⟩
  · have e := size_app3 t r 32
    exact ⟨t, r, true, fun _ => by rw [e]; omega, by rw [e]; omega, .inl ⟨rfl, allW_at h⟩, fun w => cut_hit t r 32 32 w rfl h hs⟩

set_option maxRecDepth 100000 in
set_option maxHeartbeats 2000000 in
theorem split_any (s : ByteArray) (w : World) (hs : s.size ≤ 4194304) :
    Calls Tryz.prog 33 #[.string s] w fun e w' =>
      ∃ A c, e = .returned (.slice A (allW 32 s).length c) ∧ w'.ownsRow w.heap.size 9 1 (.slice A (allW 32 s).length c) (allW 32 s).length (strT (allW 32 s)) ∧ Below w.heap.size w w' := by
  obtain ⟨i0, hi0, hz0, hz1, hz2⟩ := info_strT_parts
  obtain ⟨P, HP⟩ : ∃ P, Hid (allW 32 s = P) := ⟨_, hid rfl⟩
  have hPl : P.length ≤ 4194305 := by rw [← HP.out]; have := allW_len 32 s; omega
  rw [HP.out]
  go_enter Tryz.func33, Tryz.ntmps33
  go_wp2_with fail
  go_loopw [0, 3, 4] (fun r o m wr => ∃ (L : List ByteArray) (A : Option Addr) (c : Nat) (t : ByteArray) (b : Bool), o = .slice A L.length c ∧ r = .string t ∧ m = .bool b ∧ t.size ≤ 4194304 ∧ L.length ≤ 4194305 ∧ Hid (wr.ownsRow w.heap.size 9 1 (.slice A L.length c) L.length (strT L)) ∧ Hid (Below w.heap.size w wr) ∧ Hid ((b = true ∧ P = L ++ allW 32 t) ∨ (b = false ∧ P = L)))
    (fun r _ m _ => msrT r m)
  case atStart => exact ⟨[], _, _, _, _, rfl, rfl, rfl, hs, by simp, World.ownsRow_made w #[] 0 (Nat.le_refl _) (by unfold maxLen; omega) rfl, (Below.refl _ _).alloc (Nat.le_refl _) _, .inl ⟨rfl, HP.out.symm⟩⟩
  case round =>
    obtain ⟨L, A, c, t, b, rfl, rfl, rfl, hts, hLl, hown, hbl, hst⟩ := hrel
    cases b
    · have hPL : P = L := by
        rcases hst.out with ⟨hb, _⟩ | ⟨_, h⟩
        · cases hb
        · exact h
      subst hPL
      go_wp2_with fail
      go_ret
      exact ⟨A, c, rfl, hown.out, hbl.out⟩
    · have hPL : P = L ++ allW 32 t := by
        rcases hst.out with ⟨_, h⟩ | ⟨hb, _⟩
        · exact h
        · cases hb
      obtain ⟨hd, r, m, hlt, hrt, hcs, hcut⟩ := cut_words t hts
      have HCUT := hid hcut
      have HMS := hid (msr_less hlt)
      have hsz2 : w.heap.size ≤ wr.heap.size := hbl.out.size
      have hL1 : L.length + 1 ≤ 4194305 := by
        have h1 := congrArg List.length hPL
        rw [List.length_append] at h1
        have h2 : 0 < (allW 32 t).length := by rcases hcs with ⟨_, h⟩ | ⟨_, h⟩ <;> rw [h] <;> simp
        omega
      have HNX : Hid ((m = true ∧ P = (L ++ [hd]) ++ allW 32 r) ∨ (m = false ∧ P = L ++ [hd])) := by
        show _ ∨ _
        rcases hcs with ⟨h1, h2⟩ | ⟨h1, h2⟩
        · exact .inl ⟨h1, by rw [hPL, h2]; simp⟩
        · exact .inr ⟨h1, by rw [hPL, h2]⟩
      have hr4 : r.size ≤ 4194304 := by omega
      clear hcut hPL hcs hlt hrt hst
      go_wp2_with fail
      refine (HCUT.out _).mono ?_
      rintro e' w2 ⟨rfl, j, rfl⟩
      have hbl2 := below_drewN hbl.out j
      have hown2 : (wr.drewN j).ownsRow w.heap.size 9 1 (.slice A L.length c) L.length (strT L) := own_belowT hown.out (below_drewN (Below.refl _ _) j)
      go_wp2_with (at_builtin; refine wpList_append_own _ rfl (.tmp 14) (.tmp 16) 44 rfl w.heap.size 9 i0 (.string ByteArray.empty) 1 16 Tryz.underlying44 hi0 hz0 hz1 hz2 rfl (by decide) _ L.length _ rfl (hown2.alloc _) ⟨wr.heap.size, 0, none⟩ 1 1 [.string hd] rfl rfl (cell_one_newT (wr.drewN j) _ _) (by intro u hu; simp at hu; subst hu; rfl) (by unfold maxLen; omega) (by omega) (by simp; omega) ?_)
      intro v' w6 hown6 hg6 _
      have hbl6 : Below w.heap.size w w6 := (hbl2.alloc hbl2.size _).grown hg6 (by simp; omega) (fun x hx => (hown2.lt x hx).1)
      obtain ⟨A6, c6, rfl⟩ := own_formT hown6
      have hL : (L ++ [hd]).length = L.length + 1 := by simp
      have HO6 : Hid (w6.ownsRow w.heap.size 9 1 (.slice A6 (L ++ [hd]).length c6) (L ++ [hd]).length (strT (L ++ [hd]))) := by
        show World.ownsRow _ _ _ _ _ _ _
        rw [hL, strT_snoc]
        exact hown6
      have HL := hid hL
      clear hg6 hown2 hown6 hbl2 hL
      go_wp2_with fail
      go_roundw
      case rel => exact ⟨L ++ [hd], A6, c6, r, m, by rw [HL.out], rfl, rfl, hr4, by rw [HL.out]; exact hL1, HO6, hbl6, HNX.out⟩
      case measure => exact HMS.out
end

/-! ### RdL -/
section
set_option linter.unusedVariables false
set_option linter.unusedSimpArgs false
open Go.RowKit Go.Deep

theorem part_uniq {c : UInt8} {t r t' r' : ByteArray} (h : NoC c t) (h' : NoC c t') (e : t ++ one1 c ++ r = t' ++ one1 c ++ r') : t = t' ∧ r = r' := by
  have h1 := indexB_at (r := r) h
  rw [e, indexB_at h'] at h1
  have hs : t'.size = t.size := by omega
  have e1 := ext_head t r c
  have e2 := ext_tail t r c
  rw [e] at e1 e2
  rw [← hs] at e1 e2
  rw [ext_head] at e1
  rw [ext_tail] at e2
  exact ⟨e1.symm, e2.symm⟩
/-- A numeral or none: some number; at what decS writes, that number. -/
theorem num_gen (s : ByteArray) (w : World) (hs : s.size ≤ 4194304) :
    Calls Tryz.prog 34 #[.string s] w fun e w' => ∃ x b, I64 x ∧ (∀ y, I64 y → s = decS y → x = y) ∧ e = .returned (.tuple #[.int .i64 x, .bool b]) ∧ w' = w := by
  by_cases h : ∃ y, I64 y ∧ s = decS y
  · obtain ⟨y, hy, rfl⟩ := h
    refine (num_dec y w hy).mono ?_
    rintro e w' ⟨rfl, rfl⟩
    exact ⟨y, true, hy, fun y' hy' e => decS_inj hy hy' e, rfl, rfl⟩
  · refine (num_some s w hs).mono ?_
    rintro e w' ⟨x, b, hx, rfl, rfl⟩
    exact ⟨x, b, hx, fun y hy e => absurd ⟨y, hy, e⟩ h, rfl, rfl⟩
theorem cut_gen (c : UInt8) (v : Nat) (hv : c.toNat = v) (s : ByteArray) (hs : s.size ≤ 4194304) : ∃ t r m, t.size ≤ s.size ∧ r.size ≤ s.size ∧ (∀ t' r', NoC c t' → s = t' ++ one1 c ++ r' → t = t' ∧ r = r') ∧
    ∀ w, Calls Tryz.prog 45 #[.string s, .int .u8 (v : Int)] w fun e w' => e = .returned (.tuple #[.string t, .string r, .bool m]) ∧ ∃ j, w' = w.drewN j := by
  rcases part_or c s with h | ⟨t, r, rfl, h⟩
  · refine ⟨s, ⟨#[]⟩, false, Nat.le_refl _, Nat.zero_le _, fun t' r' _ e => ?_, fun w => cut_miss s c v w hv h hs⟩
    exfalso
    apply h
    rw [e, data_app, data_app]
    simp [one1]
  · have e := size_app3 t r c
    exact ⟨t, r, true, by rw [e]; omega, by rw [e]; omega, fun t' r' h' e => part_uniq h h' e, fun w => cut_hit t r c v w hv h hs⟩
def fldN (d : Nd) : Nat → Int
  | 0 => d.feat
  | 1 => d.cut
  | 2 => d.left
  | _ => d.right
theorem ndP_fld (d : Nd) {k : Nat} (hk : k < 4) : ndP d k = decS (fldN d k) := by
  obtain rfl | rfl | rfl | rfl : k = 0 ∨ k = 1 ∨ k = 2 ∨ k = 3 := by omega
  all_goals rfl
theorem fld_i64 {d : Nd} (h : NdIn d) {k : Nat} (hk : k < 4) : I64 (fldN d k) := by
  obtain rfl | rfl | rfl | rfl : k = 0 ∨ k = 1 ∨ k = 2 ∨ k = 3 := by omega
  · exact h.1
  · exact h.2.1
  · exact h.2.2.1
  · exact h.2.2.2.1
def leftP (d : Nd) (k : Nat) : ByteArray := joinTo (fun i => ndP d (k + i)) (one1 58) (5 - k)
theorem leftP_next (d : Nd) {k : Nat} (hk : k < 4) : leftP d k = decS (fldN d k) ++ one1 58 ++ leftP d (k + 1) := by
  unfold leftP
  obtain ⟨j, hj⟩ : ∃ j, 5 - k = j + 2 := ⟨5 - k - 2, by omega⟩
  rw [hj, join_head, show 5 - (k + 1) = j + 1 by omega, ← ndP_fld d hk]
  have : (fun i => ndP d (k + (i + 1))) = fun i => ndP d (k + 1 + i) := by funext i; congr 1; omega
  rw [this]
  rfl
theorem leftP_four (d : Nd) : leftP d 4 = sideS d.miss := by
  unfold leftP
  rw [show 5 - 4 = 1 from rfl, join_one]
  rfl
/-- The node that is meant, if the word is a node's text. -/
def Means (s : ByteArray) (d : Nd) : Prop := ∀ d0, NdIn d0 → GoodN d0 → s = ndS d0 → d = d0
theorem side_l {m : Bool} : (sideS m = ⟨#[108]⟩) ↔ m = true := by
  cases m
  · exact ⟨fun h => absurd (congrArg (fun x : ByteArray => x.data.toList) h) (by decide), fun h => by cases h⟩
  · exact ⟨fun _ => rfl, fun _ => rfl⟩
@[go_sem] theorem buildNode5 (a b c d : Int) (m : Bool) (w : World) : (Instr.build 58 #[(0, .int .i64 a), (1, .int .i64 b), (2, .int .i64 c), (3, .int .i64 d), (4, .bool m)]).run Tryz.prog w = .ok (.agg #[.int .i64 a, .int .i64 b, .int .i64 c, .int .i64 d, .bool m, .int .i64 0]) w := run_build w 58 _ _ (by kernel_rfl)
@[go_sem] theorem buildNode0 (w : World) : (Instr.build 58 #[]).run Tryz.prog w = .ok (.agg #[.int .i64 0, .int .i64 0, .int .i64 0, .int .i64 0, .bool false, .int .i64 0]) w := run_build w 58 _ _ (by kernel_rfl)
theorem size_nodeT : (Tryz.prog.info? 58).map (·.size) = some 6 := by kernel_rfl
theorem ndS_empty (d : Nd) : ndS d ≠ ⟨#[]⟩ := by
  intro h
  have h2 := congrArg ByteArray.size h
  unfold ndS at h2
  have e : (⟨#[]⟩ : ByteArray).size = 0 := rfl
  have e1 : (⟨#[108]⟩ : ByteArray).size = 1 := rfl
  have e2 : (⟨#[115]⟩ : ByteArray).size = 1 := rfl
  split at h2
  · rw [ByteArray.size_append, e, e1] at h2; omega
  · rw [ByteArray.size_append, e, e2] at h2; omega
theorem means_empty : Means ⟨#[]⟩ ⟨0, 0, 0, 0, false, 0⟩ := fun d0 _ _ e => absurd e.symm (ndS_empty d0)
theorem means_leaf {s : ByteArray} {x : Int} (hx : ∀ y, I64 y → s = decS y → x = y) : Means (one1 108 ++ s) ⟨0, 0, 0, 0, false, x⟩ := by
  intro d0 hin hg e
  obtain ⟨f, c, l, r, m, v⟩ := d0
  unfold ndS at e
  split at e
  · rename_i h0
    have h1 := (first_byte e).2
    obtain ⟨p1, p2, p3, p4⟩ := hg.1 h0
    have h2 := hx v hin.2.2.2.2 h1
    simp only at p1 p2 p3 p4 h0 h2
    subst p1 p2 p3 p4 h0 h2
    rfl
  · exact absurd (first_byte e).1 (by decide)
end

/-! ### RdM -/
section
set_option linter.unusedVariables false
set_option linter.unusedSimpArgs false
open Go.RowKit Go.Deep

def IntsN (d : Nd) : Prop := I64 d.value
set_option maxRecDepth 100000 in
set_option maxHeartbeats 4000000 in
theorem sNode_leaf (u : ByteArray) (s : ByteArray) (w : World) (hs : s.size ≤ 4194304) (hu : s = one1 108 ++ u) :
    Calls Tryz.prog 35 #[.string s] w fun e w' => ∃ d, e = .returned (ndV d) ∧ Means s d ∧ Below w.heap.size w w' := by
  have hsz : s.size = 1 + u.size := by rw [hu, ByteArray.size_append]; rfl
  have hne : s.toList.isEmpty = false := list_full (by intro e; rw [e] at hsz; have : (⟨#[]⟩ : ByteArray).size = 0 := rfl; omega)
  have hsp : 0 < s.size := by omega
  have hb0 : (s[0].toNat : Int) = 108 := by
    have h2 := byte_at s hsp
    have h3 : s.data.toList = 108 :: u.data.toList := by rw [hu, data_app]; rfl
    rw [h3] at h2
    have : (108 : UInt8) = s[0] := Option.some.inj h2
    rw [← this]; rfl
  have hcut : s.extract 1 s.size = u := by
    apply ba_ext
    rw [Lib.extract_data, ← size_len, hu, data_app]
    simp [one1]
    exact List.take_of_length_le (by rw [size_len]; exact Nat.le_refl _)
  have hu4 : u.size ≤ 4194304 := by omega
  have HU := hid hu
  have j1 : (1 : Int) ≤ (s.size : Int) := by omega
  have j0 : (0 : Int) < (s.size : Int) := by omega
  clear hu hsz
  go_enter Tryz.func35, Tryz.ntmps35
  go_wp2_with fail
  refine (num_gen u _ hu4).mono ?_
  rintro e w2 ⟨x, b, hx, hy, rfl, rfl⟩
  have HY := hid hy
  clear hy
  go_wp2_with fail
  (try simp only [Exit.inBlock, Exit.then])
  refine bodyPost_ret (results_cell_row rfl _ _ w.heap.size 58 #[.int .i64 0, .int .i64 0, .int .i64 0, .int .i64 0, .bool false, .int .i64 x] (0, 0) _ rfl (Blk.new w _ _) Tryz.underlying58 rfl size_nodeT) rfl ?_
  exact ⟨⟨0, 0, 0, 0, false, x⟩, rfl, by rw [HU.out]; exact means_leaf HY.out, (Below.refl w.heap.size w).alloc (Nat.le_refl _) _⟩
set_option maxRecDepth 100000 in
theorem sNode_empty (w : World) :
    Calls Tryz.prog 35 #[.string ⟨#[]⟩] w fun e w' => ∃ d, e = .returned (ndV d) ∧ Means ⟨#[]⟩ d ∧ Below w.heap.size w w' := by
  go_enter Tryz.func35, Tryz.ntmps35
  go_wp2_with fail
  (try simp only [Exit.inBlock, Exit.then])
  refine bodyPost_ret (results_cell_row rfl _ _ w.heap.size 58 #[.int .i64 0, .int .i64 0, .int .i64 0, .int .i64 0, .bool false, .int .i64 0] (0, 0) _ rfl (Blk.new w _ _) Tryz.underlying58 rfl size_nodeT) rfl ?_
  exact ⟨⟨0, 0, 0, 0, false, 0⟩, rfl, means_empty, (Below.refl w.heap.size w).alloc (Nat.le_refl _) _⟩
end

/-! ### RdN -/
section
set_option linter.unusedVariables false
set_option linter.unusedSimpArgs false
open Go.RowKit Go.Deep

theorem means_rest {s u : ByteArray} (hsp : 0 < s.size) (hne : (s[0].toNat : Int) ≠ 108) (hcut : s.extract 1 s.size = u) : ∀ d0, NdIn d0 → GoodN d0 → s = ndS d0 → d0.left ≠ 0 ∧ u = leftP d0 0 := by
  intro d0 hin hg e
  unfold ndS at e
  split at e
  · exfalso
    apply hne
    have h2 := byte_at s hsp
    have h3 : s.data.toList = 108 :: (decS d0.value).data.toList := by rw [e, data_app]; rfl
    rw [h3] at h2
    have : (108 : UInt8) = s[0] := Option.some.inj h2
    rw [← this]; rfl
  · rename_i h0
    refine ⟨h0, ?_⟩
    have h4 : leftP d0 0 = joinTo (ndP d0) (one1 58) 5 := by unfold leftP; simp only [Nat.zero_add, Nat.sub_zero]
    rw [← hcut, h4]
    apply ba_ext
    rw [Lib.extract_data, ← size_len, e, data_app]
    have h5 : (⟨#[115]⟩ : ByteArray).data.toList = [115] := rfl
    rw [h5]
    simp only [List.singleton_append, List.drop_succ_cons, List.drop_zero]
    exact List.take_of_length_le (by rw [List.length_cons]; omega)
def NowS (s : ByteArray) (z : Nat → Int) (t : ByteArray) (k : Nat) : Prop := ∀ d0, NdIn d0 → GoodN d0 → s = ndS d0 → d0.left ≠ 0 ∧ (∀ j, j < k → z j = fldN d0 j) ∧ t = leftP d0 k

set_option maxRecDepth 100000 in
set_option maxHeartbeats 4000000 in
theorem sNode_rest (s : ByteArray) (w : World) (hs : s.size ≤ 4194304) (hsp : 0 < s.size) (hne : (s[0].toNat : Int) ≠ 108) :
    Calls Tryz.prog 35 #[.string s] w fun e w' => ∃ d, e = .returned (ndV d) ∧ Means s d ∧ Below w.heap.size w w' := by
  obtain ⟨i0, hi0, hz0, hz1, hz2⟩ := info_parts info_int
  obtain ⟨u, hcut, hu⟩ : ∃ u, s.extract 1 s.size = u ∧ u.size ≤ 4194304 := ⟨_, rfl, by rw [ByteArray.size_extract]; omega⟩
  have HQ := hid (means_rest hsp hne hcut)
  have hem : s.toList.isEmpty = false := list_full (by intro e; rw [e] at hsp; exact absurd hsp (by decide))
  obtain ⟨b0, hb0, hb8⟩ : ∃ b0 : Int, (s[0].toNat : Int) = b0 ∧ ¬ b0 = 108 := ⟨_, rfl, hne⟩
  have hb9 : (b0 == 108) = false := by simpa using hb8
  have j1 : (1 : Int) ≤ (s.size : Int) := by omega
  have j0 : (0 : Int) < (s.size : Int) := by omega
  clear hne
  have hown0 : Hid (((w.alloc (.cells #[.int .i64 0, .int .i64 0, .int .i64 0, .int .i64 0, .bool false, .int .i64 0] 58)).alloc (.cells #[] 2)).ownsRow (w.heap.size + 1) 2 1 (.slice (some ⟨w.heap.size + 1, 0, none⟩) 0 0) 0 (numsOf 0 (fun _ => 0))) := by
    show World.ownsRow _ _ _ _ _ _ _
    have h := World.ownsRow_made (base := w.heap.size + 1) (e := 2) (size := 1) (w.alloc (.cells #[.int .i64 0, .int .i64 0, .int .i64 0, .int .i64 0, .bool false, .int .i64 0] 58)) #[] 0 (by rw [World.size_alloc]; exact Nat.le_refl _) (by unfold maxLen; omega) rfl
    rw [World.size_alloc] at h
    exact h
  go_enter Tryz.func35, Tryz.ntmps35
  go_wp2_with fail
  go_loopw [5, 6, 7] (fun o r i wr => ∃ (k : Nat) (z : Nat → Int) (R : Option Addr) (c : Nat) (t : ByteArray), k ≤ 4 ∧ o = .slice R k c ∧ r = .string t ∧ i = .int .i64 k ∧ t.size ≤ 4194304 ∧ Hid (wr.ownsRow (w.heap.size + 1) 2 1 (.slice R k c) k (numsOf k z)) ∧ Hid (Below w.heap.size w wr) ∧ Hid (NowS s z t k) ∧ Blk wr w.heap.size 58 #[.int .i64 0, .int .i64 0, .int .i64 0, .int .i64 0, .bool false, .int .i64 0])
    (fun _ _ i _ => 4 - (intOf i).toNat)
  case atStart => exact ⟨0, fun _ => 0, _, _, _, by omega, rfl, rfl, rfl, hu, hown0, ((Below.refl w.heap.size w).alloc (Nat.le_refl _) _).alloc (by simp) _, fun d0 h1 h2 h3 => ⟨(HQ.out d0 h1 h2 h3).1, fun j hj => by omega, (HQ.out d0 h1 h2 h3).2⟩, (Blk.new w _ _).alloc _⟩
  case round =>
    obtain ⟨k, z, R, c, t, hk, rfl, rfl, rfl, hts, hown, hbl, hnow, hB⟩ := hrel
    by_cases hlt : k < 4
    · have i1 : (k : Int) < 4 := by omega
      obtain ⟨hd, r, m, hhd, hrt, hcs, hct⟩ := cut_gen 58 58 rfl t hts
      have HCUT := hid hct
      have HCS := hid hcs
      have hsz2 : w.heap.size + 1 ≤ wr.heap.size := hB.lt
      clear hct hcs
      go_wp2_with fail
      refine (HCUT.out _).mono ?_
      rintro e' w2 ⟨rfl, j, rfl⟩
      have hbl2 := below_drewN hbl.out j
      have hown2 : (wr.drewN j).ownsRow (w.heap.size + 1) 2 1 (.slice R k c) k (numsOf k z) := own_below hown.out (below_drewN (Below.refl _ _) j)
      have hB2 : Blk (wr.drewN j) w.heap.size 58 #[.int .i64 0, .int .i64 0, .int .i64 0, .int .i64 0, .bool false, .int .i64 0] := hB
      go_wp2_with fail
      refine (num_gen hd _ (by omega)).mono ?_
      rintro e' w4 ⟨x, b, hx, hxy, rfl, rfl⟩
      have HN : Hid (NowS s (extT z k x) r (k + 1)) := fun d0 h1 h2 h3 => by
        obtain ⟨p1, p2, p3⟩ := hnow.out d0 h1 h2 h3
        rw [leftP_next d0 hlt] at p3
        obtain ⟨q1, q2⟩ := HCS.out _ _ (decS_noC _ (.inr (by decide))) p3
        refine ⟨p1, fun i hi => ?_, q2⟩
        unfold extT
        by_cases e : i = k
        · subst e; rw [if_pos rfl]; exact hxy _ (fld_i64 h1 hlt) q1
        · rw [if_neg e]; exact p2 i (by omega)
      clear hxy
      go_wp2_with (at_builtin; refine wpList_append_own _ rfl (.tmp 45) (.tmp 47) 67 rfl (w.heap.size + 1) 2 i0 (.int .i64 0) 1 8 Tryz.underlying67 hi0 hz0 hz1 hz2 rfl (by decide) _ k _ rfl (hown2.alloc _) ⟨wr.heap.size, 0, none⟩ 1 1 [.int .i64 x] rfl rfl (cell_one_new (wr.drewN j) _ _) (by intro u hu; simp at hu; subst hu; rfl) (by unfold maxLen; omega) (by omega) (by simp; omega) ?_)
      intro v' w6 hown6 hg6 _
      have hbl6 : Below w.heap.size w w6 := (hbl2.alloc hbl2.size _).grown hg6 (by simp; omega) (fun x hx => by have := (hown2.lt x hx).1; omega)
      have hB6 : Blk w6 w.heap.size 58 #[.int .i64 0, .int .i64 0, .int .i64 0, .int .i64 0, .bool false, .int .i64 0] := (hB2.alloc _).grown hg6 (fun h => by have := (hown2.lt _ h.symm).1; omega)
      obtain ⟨A6, c6, rfl⟩ := own_form hown6
      have HO6 : Hid (w6.ownsRow (w.heap.size + 1) 2 1 (.slice A6 (k + 1) c6) (k + 1) (numsOf (k + 1) (extT z k x))) := by
        show World.ownsRow _ _ _ _ _ _ _
        rw [numsOf_extT]
        exact hown6
      have hr4 : r.size ≤ 4194304 := by omega
      clear hg6 hown2 hown6 hbl2 hB hB2
      go_wp2_with fail
      go_roundw
      case rel => exact ⟨k + 1, _, A6, c6, r, by omega, rfl, rfl, by go_num, hr4, HO6, hbl6, HN.out, hB6⟩
      case measure => simp [intOf]; omega
    · obtain rfl : k = 4 := by omega
      obtain ⟨gb, cc, hR, hgb, hrow⟩ := own_row hown.out (by omega)
      injection hR with hR1 _ hR2
      subst hR1 hR2
      have r0 := hrow.cell (i := 0) (by omega); have r1 := hrow.cell (i := 1) (by omega); have r2 := hrow.cell (i := 2) (by omega); have r3 := hrow.cell (i := 3) (by omega)
      obtain ⟨q, hq, HQ2⟩ : ∃ q : Bool, (t.toList == [108]) = q ∧ Hid (q = true ↔ t = ⟨#[108]⟩) := by
        refine ⟨_, rfl, ?_⟩
        show _ ↔ _
        constructor
        · intro h
          by_cases e : t = ⟨#[108]⟩
          · exact e
          · have := ba_listT e
            rw [ByteArray.toList_eq (⟨#[108]⟩ : ByteArray)] at this
            exact absurd (h.symm.trans this) (by decide)
        · intro h; rw [h]; simp [ByteArray.toList_eq]
      have HM : Hid (Means s ⟨z 0, z 1, z 2, z 3, q, 0⟩) := fun d0 h1 h2 h3 => by
        obtain ⟨p1, p2, p3⟩ := hnow.out d0 h1 h2 h3
        rw [leftP_four] at p3
        have hm : q = d0.miss := by
          cases hm : d0.miss
          · cases hq2 : q
            · rfl
            · have := HQ2.out.1 hq2
              rw [p3, side_l, hm] at this
              cases this
          · exact HQ2.out.2 (by rw [p3, side_l, hm])
        have hv := h2.2 p1
        have a0 := p2 0 (by omega); have a1 := p2 1 (by omega); have a2 := p2 2 (by omega); have a3 := p2 3 (by omega)
        obtain ⟨f, c, l, r, m, v⟩ := d0
        simp only [fldN] at a0 a1 a2 a3 hv hm
        rw [a0, a1, a2, a3, hm, hv]
      clear hnow hown
      go_wp2_with fail
      go_still_tail 15, (by kernel_rfl)
      change wpList _ _ _ _ _ wr.drew
      have hBd : Blk wr.drew w.heap.size 58 #[.int .i64 0, .int .i64 0, .int .i64 0, .int .i64 0, .bool false, .int .i64 0] := hB
      have hbd := Below.drew hbl.out
      clear r0 r1 r2 r3
      generalize wr.drew = wd at hBd hbd ⊢
      have c0 := hBd.cell 0; have c1 := hBd.cell 1; have c2 := hBd.cell 2; have c3 := hBd.cell 3; have c4 := hBd.cell 4; have c5 := hBd.cell 5
      have f0 := hBd.frozen 0; have f1 := hBd.frozen 1; have f2 := hBd.frozen 2; have f3 := hBd.frozen 3; have f4 := hBd.frozen 4; have f5 := hBd.frozen 5
      go_wp2_with fail
      (try simp only [Exit.inBlock, Exit.then])
      refine bodyPost_ret (results_cell_row rfl _ _ w.heap.size 58 #[.int .i64 (z 0), .int .i64 (z 1), .int .i64 (z 2), .int .i64 (z 3), .bool q, .int .i64 0] (0, 0) _ rfl ((((((hBd.set_ 0 (.int .i64 (z 0))).set_ 1 (.int .i64 (z 1))).set_ 2 (.int .i64 (z 2))).set_ 3 (.int .i64 (z 3))).set_ 4 (.bool q)).set_ 5 (.int .i64 0)) Tryz.underlying58 rfl size_nodeT) rfl ?_
      exact ⟨⟨z 0, z 1, z 2, z 3, q, 0⟩, rfl, HM.out, (((((hbd.setCell (Nat.le_refl _) _).setCell (Nat.le_refl _) _).setCell (Nat.le_refl _) _).setCell (Nat.le_refl _) _).setCell (Nat.le_refl _) _).setCell (Nat.le_refl _) _⟩
theorem sNode_any (s : ByteArray) (w : World) (hs : s.size ≤ 4194304) :
    Calls Tryz.prog 35 #[.string s] w fun e w' => ∃ d, e = .returned (ndV d) ∧ Means s d ∧ Below w.heap.size w w' := by
  by_cases h0 : s.size = 0
  · obtain rfl : s = ⟨#[]⟩ := by
      apply ba_ext
      have : s.data.toList.length = 0 := by rw [size_len]; exact h0
      exact List.length_eq_zero_iff.1 this
    exact sNode_empty w
  · have hsp : 0 < s.size := by omega
    by_cases h1 : (s[0].toNat : Int) = 108
    · refine sNode_leaf (s.extract 1 s.size) s w hs ?_
      apply ba_ext
      rw [data_app, Lib.extract_data, ← size_len]
      have h2 := byte_at s hsp
      have h3 : s[0] = 108 := UInt8.toNat_inj.1 (by have : (108 : UInt8).toNat = 108 := rfl; omega)
      rw [h3] at h2
      cases hl : s.data.toList with
      | nil => rw [hl] at h2; cases h2
      | cons x l =>
        rw [hl] at h2
        obtain rfl : x = 108 := Option.some.inj h2
        simp only [List.drop_succ_cons, List.drop_zero]
        rw [List.take_of_length_le (by rw [List.length_cons]; omega)]
        rfl
    · exact sNode_rest s w hs hsp h1
end

/-! ### RtA -/
section
set_option linter.unusedVariables false
set_option linter.unusedSimpArgs false
open Go.RowKit Go.Deep

/-! ### pure -/
theorem decS_le {x : Int} {k : Nat} (h0 : -((10 ^ (k + 1) : Nat) : Int) < x) (h1 : x < ((10 ^ (k + 1) : Nat) : Int)) : (decS x).size ≤ k + 2 := by
  show (Lib.itoa x).toArray.size ≤ _
  rw [List.size_toArray]
  by_cases hn : x < 0
  · obtain ⟨M, rfl⟩ : ∃ M : Nat, x = -(M : Int) := ⟨x.natAbs, by omega⟩
    rw [Lib.itoa_neg M (by omega), List.length_cons, Lib.decDigits_length]
    have := digits_le M k (by omega)
    omega
  · obtain ⟨M, rfl⟩ : ∃ M : Nat, x = (M : Int) := ⟨x.toNat, by omega⟩
    rw [Lib.itoa_nonneg, Lib.decDigits_length]
    have := digits_le M k (by omega)
    omega
theorem ndS_small {n i : Nat} {d : Nd} (hn : n ≤ 15) (h : Node 6 n i d) : (ndS d).size ≤ 30 := by
  unfold Node at h
  unfold ndS
  split at h
  · rename_i h0
    rw [if_pos h0, ByteArray.size_append]
    unfold lfB at h
    simp only [Bool.and_eq_true, beq_iff_eq, decide_eq_true_eq] at h
    have := decS_le (x := d.value) (k := 9) (by simp; omega) (by simp; omega)
    show 1 + _ ≤ _
    omega
  · rename_i h0
    rw [if_neg h0, ByteArray.size_append]
    unfold spB at h
    simp only [Bool.and_eq_true, beq_iff_eq, decide_eq_true_eq] at h
    have e0 := decS_le (x := d.feat) (k := 0) (by simp; omega) (by simp; omega)
    have e1 := decS_le (x := d.cut) (k := 6) (by simp; omega) (by simp; omega)
    have e2 := decS_le (x := d.left) (k := 1) (by simp; omega) (by simp; omega)
    have e3 := decS_le (x := d.right) (k := 1) (by simp; omega) (by simp; omega)
    have e4 := sideS_size d.miss
    have ej : (joinTo (ndP d) ⟨#[58]⟩ 5).size = (decS d.feat).size + 1 + (decS d.cut).size + 1 + (decS d.left).size + 1 + (decS d.right).size + 1 + (sideS d.miss).size := by
      simp only [joinTo, ndP, Nat.lt_irrefl, if_false, show (0 : Nat) < 1 from by omega, show (0 : Nat) < 2 from by omega, show (0 : Nat) < 3 from by omega, show (0 : Nat) < 4 from by omega, if_true, ByteArray.size_append]
      have e5 : (⟨#[58]⟩ : ByteArray).size = 1 := rfl
      have e6 : ByteArray.empty.size = 0 := rfl
      rw [e5, e6]
      omega
    rw [ej]
    show 1 + _ ≤ _
    omega
theorem treS_600 {n : Nat} {g : Nat → Nd} (h : treeB g n 6 = true) : (treS n g).size ≤ 600 := by
  have hT := (treeB_iff g n 6).1 h
  have hn := hT.2.1.2
  have := joinTo_size (f := fun i => ndS (g i)) (sep := ⟨#[32]⟩) (M := 30) n (fun i hi => ndS_small hn (hT.2.2 i hi).1)
  rw [show treS n g = ntS n g by unfold treS; rw [if_pos h]]
  have e1 : (⟨#[32]⟩ : ByteArray).size = 1 := rfl
  rw [e1] at this
  have e2 : (ntS n g).size ≤ n * 31 := this
  omega
theorem allW_tree {n : Nat} {g : Nat → Nd} (h : treeB g n 6 = true) : allW 32 (treS n g) = (List.range n).map fun i => ndS (g i) := by
  have hn := ((treeB_iff g n 6).1 h).2.1
  obtain ⟨m, rfl⟩ : ∃ m, n = m + 1 := ⟨n - 1, by omega⟩
  have hge := join_size_ge (fun i => ndS (g i)) (one1 32) rfl (m + 1)
  rw [show treS (m + 1) g = joinTo (fun i => ndS (g i)) (one1 32) (m + 1) by unfold treS; rw [if_pos h]; rfl]
  exact split_join m _ (fun i => ndS (g i)) (fun i _ => ndS_noC _) (by omega)
def zNd : Nd := ⟨0, 0, 0, 0, false, 0⟩
theorem ndL_at : ∀ (L : List Nd) (i j : Nat), i < L.length → j < 6 → (L.flatMap ndC)[i * 6 + j]? = (ndC (L.getD i zNd))[j]?
  | [], i, j, h, _ => by simp at h
  | d :: L, 0, j, _, hj => by
    rw [List.flatMap_cons, List.getElem?_append_left (by simp [ndC]; omega), Nat.zero_mul, Nat.zero_add]
    rfl
  | d :: L, i + 1, j, h, hj => by
    rw [List.flatMap_cons, List.getElem?_append_right (by simp [ndC]; omega)]
    have e : (i + 1) * 6 + j - (ndC d).length = i * 6 + j := by simp [ndC]; omega
    rw [e, ndL_at L i j (by simpa using h) hj]
    rfl
theorem own_rowL {w : World} {B m c : Nat} {t : TypeId} {A' : Option Addr} {L : List Nd} (h : w.ownsRow B t 6 (.slice A' m c) m (L.flatMap ndC)) (hL : L.length = m) (hm : 0 < m) :
    ∃ b, A' = some ⟨b, 0, none⟩ ∧ B ≤ b ∧ RowN w t b m (fun i => L.getD i zNd) := by
  rcases h.2 with ⟨_, h0⟩ | ⟨b, cap, cur, hv, hb, hg, h1, _, h3, ht⟩
  · omega
  · injection hv with e1 _ e3
    refine ⟨b, e1, hb, cur, hg, by rw [h3]; exact Nat.mul_le_mul_right 6 h1, fun i hi j hj => ?_⟩
    have hlt : i * 6 + j < m * 6 := by omega
    have := ndL_at L i j (by omega) hj
    rw [← ht, List.getElem?_take, if_pos hlt, Array.getElem?_toList] at this
    exact this
theorem own_rdL {w : World} {B m c : Nat} {A' : Option Addr} {L : List Nd} (h : w.ownsRow B 58 6 (.slice A' m c) m (L.flatMap ndC)) (hL : L.length = m) : RdN w w.heap.size A' m (fun i => L.getD i zNd) := fun hm => by
  obtain ⟨b, rfl, hb, hr⟩ := own_rowL h hL hm
  exact hr.rd hr.lt hm
theorem own_weak {w : World} {B B' : Nat} {e : TypeId} {size : Nat} {v : Value} {n : Nat} {xs : List Value} (h : w.ownsRow B e size v n xs) (hB : B' ≤ B) : w.ownsRow B' e size v n xs := by
  refine ⟨h.1, ?_⟩
  rcases h.2 with h | ⟨g, cap, cur, e1, e2, e3⟩
  · exact .inl h
  · exact .inr ⟨g, cap, cur, e1, Nat.le_trans hB e2, e3⟩
/-- Rows of unlike elements lie in unlike blocks. -/
theorem own_apart {w : World} {B B' : Nat} {e e' : TypeId} {size size' : Nat} {v v' : Value} {n n' : Nat} {xs xs' : List Value} (h : w.ownsRow B e size v n xs) (h' : w.ownsRow B' e' size' v' n' xs') (he : e ≠ e') : v.ownBlock = none ∨ v.ownBlock ≠ v'.ownBlock := by
  rcases h.2 with ⟨rfl, _⟩ | ⟨g, cap, cur, rfl, _, hg, _⟩
  · exact .inl rfl
  · rcases h'.2 with ⟨rfl, _⟩ | ⟨g', cap', cur', rfl, _, hg', _⟩
    · right; simp [Value.ownBlock]
    · right
      intro e1
      have e2 : g = g' := by simpa [Value.ownBlock] using e1
      subst e2
      rw [hg] at hg'
      injection hg' with hg'
      injection hg' with _ h3 _
      exact he h3

def TrAns (s : ByteArray) (w : World) (e : Ending) (w' : World) : Prop :=
  ((∃ n g b c, treeB g n 6 = true ∧ s = treS n g ∧ e = .returned (.tuple #[.slice (some ⟨b, 0, none⟩) n c, .bool true]) ∧ w.heap.size ≤ b ∧ RowN w' 58 b n g) ∨
   ((∀ n g, treeB g n 6 = true → s ≠ treS n g) ∧ e = .returned (.tuple #[.slice none 0 0, .bool false]))) ∧ Below w.heap.size w w'
theorem info_nodeT : ∃ i0, Tryz.prog.info? 58 = some i0 ∧ i0.zero = some (ndV zNd) ∧ i0.size = 6 ∧ i0.bytes = 48 := by
  have h : (Tryz.prog.info? 58).map (fun i => (i.zero, i.size, i.bytes)) = some (some (ndV zNd), 6, 48) := by kernel_rfl
  obtain ⟨i0, hi, hx⟩ := Option.map_eq_some_iff.1 h
  simp only [Prod.mk.injEq] at hx
  exact ⟨i0, hi, hx.1, hx.2.1, hx.2.2⟩
theorem nd_src (w : World) (d : Nd) : ∀ j u, ([d].flatMap ndC)[j]? = some u → (w.alloc (.cells #[.int .i64 d.feat, .int .i64 d.cut, .int .i64 d.left, .int .i64 d.right, .bool d.miss, .int .i64 d.value] 58)).cell? ((⟨w.heap.size, 0, none⟩ : Addr).add j) = some u := fun j u hj => by
  rw [Addr.add_lit, Nat.zero_add, (Blk.new w _ _).cell]
  simpa [ndC] using hj
end
end Go.Proofs.YtmkipdhappikhaaGreatDoor
