/- Commands in plain words; rows of documents; the forms of commands, of the program. -/
import Derived.Test.YtmkipdhappikhaaGreatDoorTxC
import Derived.Test.YtmkipdhappikhaaGreatDoorTxW
import Derived.Test.YtmkipdhappikhaaGreatDoorRdH
import Derived.Lib.IndexLaws
namespace Go.Proofs.YtmkipdhappikhaaGreatDoor
open Go.RowKit Go.Deep
set_option linter.unusedVariables false
set_option linter.unusedSimpArgs false

/-- The slice at A reads as n lists of numbers, and lies with them below block B. -/
def RdQ (w : World) (B : Nat) (A : Option Addr) (n : Nat) (len : Nat → Nat) (z : Nat → Nat → Int) : Prop :=
  0 < n → ∃ b off, A = some ⟨b, off, none⟩ ∧ b < B ∧ ∀ i, i < n → ∃ Ai ci, w.cell? ⟨b, off + i, none⟩ = some (.slice Ai (len i) ci) ∧ Rd w B Ai (len i) (z i)
section
variable {w w' : World} {B B' n : Nat} {A : Option Addr} {len : Nat → Nat} {z : Nat → Nat → Int}
theorem RdQ.keep (h : RdQ w B A n len z) (hk : ∀ p : Addr, p.block < B → w'.cell? p = w.cell? p) : RdQ w' B A n len z := fun hn => by
  obtain ⟨b, off, e, hb, hc⟩ := h hn
  refine ⟨b, off, e, hb, fun i hi => ?_⟩
  obtain ⟨Ai, ci, h1, h2⟩ := hc i hi
  exact ⟨Ai, ci, (hk ⟨b, off + i, none⟩ hb).trans h1, h2.keep hk⟩
theorem RdQ.more (h : RdQ w B A n len z) (hB : B ≤ B') : RdQ w B' A n len z := fun hn => by
  obtain ⟨b, off, e, hb, hc⟩ := h hn
  refine ⟨b, off, e, by omega, fun i hi => ?_⟩
  obtain ⟨Ai, ci, h1, h2⟩ := hc i hi
  exact ⟨Ai, ci, h1, h2.more hB⟩
theorem RdQ.below (h : RdQ w B A n len z) (hb : Below B w w') : RdQ w' B A n len z := h.keep fun _ hp => hb.cell hp
theorem RdQ.to (h : RdQ w w.heap.size A n len z) (hb : Below w.heap.size w w') : RdQ w' w'.heap.size A n len z := (h.below hb).more hb.size
theorem RdQ.at_ {k : Nat} (h : RdQ w B A n len z) (hk : k < n) : ∃ b off Ai ci, A = some ⟨b, off, none⟩ ∧ b < B ∧ w.cell? ⟨b, off + k, none⟩ = some (.slice Ai (len k) ci) ∧ Rd w B Ai (len k) (z k) := by
  obtain ⟨b, off, e, hb, hc⟩ := h (by omega)
  obtain ⟨Ai, ci, h1, h2⟩ := hc k hk
  exact ⟨b, off, Ai, ci, e, hb, h1, h2⟩
end
theorem rdq_none {w : World} {B : Nat} {A : Option Addr} {len : Nat → Nat} {z : Nat → Nat → Int} : RdQ w B A 0 len z := fun h => absurd h (by omega)

/-! ### the forms -/
def fName (k : Int) : ByteArray := if k = 1 then ⟨#[108, 111, 97, 100]⟩ else if k = 2 then ⟨#[112, 108, 97, 110]⟩ else if k = 3 then ⟨#[115, 99, 111, 114, 101]⟩ else if k = 4 then ⟨#[99, 108, 97, 115, 115]⟩ else if k = 5 then ⟨#[116, 111, 112]⟩ else ⟨#[]⟩
def fA (k : Int) : Int := if k = 2 then 99 else if k = 5 then 20 else 0
def fB (k : Int) : Int := if k = 2 then 99 else 0
def fT (k : Int) : Int := if k = 4 then 100000000000 else 0
def fD (k : Int) : Int := if k = 3 ∨ k = 4 ∨ k = 5 then 20 else 0
def fX (k : Int) : Int := if k = 1 then 4000 else 0
abbrev fmC (nm : ByteArray) (fa fb ft fd fx : Int) : Array Value := #[.string nm, .int .i64 fa, .int .i64 fb, .int .i64 ft, .int .i64 fd, .int .i64 fx]
abbrev fmV (nm : ByteArray) (fa fb ft fd fx : Int) : Value := .agg #[.string nm, .int .i64 fa, .int .i64 fb, .int .i64 ft, .int .i64 fd, .int .i64 fx]
theorem kind_or (k : Int) : k = 1 ∨ k = 2 ∨ k = 3 ∨ k = 4 ∨ k = 5 ∨ (k ≠ 1 ∧ k ≠ 2 ∧ k ≠ 3 ∧ k ≠ 4 ∧ k ≠ 5) := by omega
theorem size_form : (Tryz.prog.info? 62).map (·.size) = some 6 := by kernel_rfl
theorem size_cmd : (Tryz.prog.info? 35).map (·.size) = some 6 := by kernel_rfl
theorem f_low (k : Int) : 0 ≤ fA k ∧ fA k ≤ 99 ∧ 0 ≤ fB k ∧ fB k ≤ 99 ∧ 0 ≤ fT k ∧ fT k ≤ 100000000000 ∧ 0 ≤ fD k ∧ fD k ≤ 20 ∧ 0 ≤ fX k ∧ fX k ≤ 4000 := by
  unfold fA fB fT fD fX
  refine ⟨?_, ?_, ?_, ?_, ?_, ?_, ?_, ?_, ?_, ?_⟩ <;> repeat' split <;> omega
theorem fName_some {k : Int} (h : 1 ≤ k ∧ k ≤ 5) : fName k ≠ ⟨#[]⟩ := by
  rcases kind_or k with rfl | rfl | rfl | rfl | rfl | hk
  · decide
  · decide
  · decide
  · decide
  · decide
  · omega
theorem fName_none {k : Int} (h : ¬ (1 ≤ k ∧ k ≤ 5)) : fName k = ⟨#[]⟩ := by
  unfold fName
  rw [if_neg (by omega), if_neg (by omega), if_neg (by omega), if_neg (by omega), if_neg (by omega)]
theorem fName_size (k : Int) : (fName k).size ≤ 5 := by
  rcases kind_or k with rfl | rfl | rfl | rfl | rfl | hk
  · decide
  · decide
  · decide
  · decide
  · decide
  · rw [fName_none (by omega)]; decide

set_option maxHeartbeats 1000000 in
theorem formOf_any (k : Int) (w : World) : Calls Tryz.prog 40 #[.int .i64 k] w fun e w' => e = .returned (fmV (fName k) (fA k) (fB k) (fT k) (fD k) (fX k)) ∧ Below w.heap.size w w' := by
  rcases kind_or k with rfl | rfl | rfl | rfl | rfl | ⟨k1, k2, k3, k4, k5⟩
  rotate_right
  · have e1 : (k == 1) = false := by simpa using k1
    have e2 : (k == 2) = false := by simpa using k2
    have e3 : (k == 3) = false := by simpa using k3
    have e4 : (k == 4) = false := by simpa using k4
    have e5 : (k == 5) = false := by simpa using k5
    have ev : fmV (fName k) (fA k) (fB k) (fT k) (fD k) (fX k) = fmV ⟨#[]⟩ 0 0 0 0 0 := by
      rw [fName_none (by omega)]
      unfold fA fB fT fD fX
      rw [if_neg k2, if_neg k5, if_neg k2, if_neg k4, if_neg (by omega), if_neg k1]
    rw [ev]
    clear ev k1 k2 k3 k4 k5
    go_enter Tryz.func40, Tryz.ntmps40
    go_wp2_with fail
    refine bodyPost_ret (results_cell_row rfl _ _ w.heap.size 62 (fmC ⟨#[]⟩ 0 0 0 0 0) (0, 0) _ rfl (Blk.new w _ _) Tryz.underlying62 rfl size_form) rfl ?_
    exact ⟨rfl, (Below.refl w.heap.size w).alloc (Nat.le_refl _) _⟩
  · have ev : fmV (fName 1) (fA 1) (fB 1) (fT 1) (fD 1) (fX 1) = fmV ⟨#[108, 111, 97, 100]⟩ 0 0 0 0 4000 := by simp [fName, fA, fB, fT, fD, fX]
    rw [ev]
    clear ev
    go_enter Tryz.func40, Tryz.ntmps40
    go_wp2_with fail
    refine bodyPost_ret (results_cell_row rfl _ _ w.heap.size 62 (fmC ⟨#[108, 111, 97, 100]⟩ 0 0 0 0 4000) (0, 0) _ rfl (Blk.new w _ _) Tryz.underlying62 rfl size_form) rfl ?_
    exact ⟨rfl, (Below.refl w.heap.size w).alloc (Nat.le_refl _) _⟩
  · have ev : fmV (fName 2) (fA 2) (fB 2) (fT 2) (fD 2) (fX 2) = fmV ⟨#[112, 108, 97, 110]⟩ 99 99 0 0 0 := by simp [fName, fA, fB, fT, fD, fX]
    rw [ev]
    clear ev
    go_enter Tryz.func40, Tryz.ntmps40
    go_wp2_with fail
    refine bodyPost_ret (results_cell_row rfl _ _ w.heap.size 62 (fmC ⟨#[112, 108, 97, 110]⟩ 99 99 0 0 0) (0, 0) _ rfl (Blk.new w _ _) Tryz.underlying62 rfl size_form) rfl ?_
    exact ⟨rfl, (Below.refl w.heap.size w).alloc (Nat.le_refl _) _⟩
  · have ev : fmV (fName 3) (fA 3) (fB 3) (fT 3) (fD 3) (fX 3) = fmV ⟨#[115, 99, 111, 114, 101]⟩ 0 0 0 20 0 := by simp [fName, fA, fB, fT, fD, fX]
    rw [ev]
    clear ev
    go_enter Tryz.func40, Tryz.ntmps40
    go_wp2_with fail
    refine bodyPost_ret (results_cell_row rfl _ _ w.heap.size 62 (fmC ⟨#[115, 99, 111, 114, 101]⟩ 0 0 0 20 0) (0, 0) _ rfl (Blk.new w _ _) Tryz.underlying62 rfl size_form) rfl ?_
    exact ⟨rfl, (Below.refl w.heap.size w).alloc (Nat.le_refl _) _⟩
  · have ev : fmV (fName 4) (fA 4) (fB 4) (fT 4) (fD 4) (fX 4) = fmV ⟨#[99, 108, 97, 115, 115]⟩ 0 0 100000000000 20 0 := by simp [fName, fA, fB, fT, fD, fX]
    rw [ev]
    clear ev
    go_enter Tryz.func40, Tryz.ntmps40
    go_wp2_with fail
    refine bodyPost_ret (results_cell_row rfl _ _ w.heap.size 62 (fmC ⟨#[99, 108, 97, 115, 115]⟩ 0 0 100000000000 20 0) (0, 0) _ rfl (Blk.new w _ _) Tryz.underlying62 rfl size_form) rfl ?_
    exact ⟨rfl, (Below.refl w.heap.size w).alloc (Nat.le_refl _) _⟩
  · have ev : fmV (fName 5) (fA 5) (fB 5) (fT 5) (fD 5) (fX 5) = fmV ⟨#[116, 111, 112]⟩ 20 0 0 20 0 := by simp [fName, fA, fB, fT, fD, fX]
    rw [ev]
    clear ev
    go_enter Tryz.func40, Tryz.ntmps40
    go_wp2_with fail
    refine bodyPost_ret (results_cell_row rfl _ _ w.heap.size 62 (fmC ⟨#[116, 111, 112]⟩ 20 0 0 20 0) (0, 0) _ rfl (Blk.new w _ _) Tryz.underlying62 rfl size_form) rfl ?_
    exact ⟨rfl, (Below.refl w.heap.size w).alloc (Nat.le_refl _) _⟩

/-! ### what a form takes -/
abbrev cmC (k a b t : Int) (D : Option Addr) (n dc : Nat) (s : ByteArray) : Array Value := #[.int .i64 k, .int .i64 a, .int .i64 b, .int .i64 t, .slice D n dc, .string s]
abbrev cmV (k a b t : Int) (D : Option Addr) (n dc : Nat) (s : ByteArray) : Value := .agg #[.int .i64 k, .int .i64 a, .int .i64 b, .int .i64 t, .slice D n dc, .string s]
def numF (fa fb ft a b t : Int) : Bool := (decide (0 ≤ a) && decide (a ≤ fa)) && ((decide (0 ≤ b) && decide (b ≤ fb)) && (decide (-ft ≤ t) && decide (t ≤ ft)))
theorem numF_iff {fa fb ft a b t : Int} : numF fa fb ft a b t = true ↔ (0 ≤ a ∧ a ≤ fa) ∧ (0 ≤ b ∧ b ≤ fb) ∧ -ft ≤ t ∧ t ≤ ft := by simp [numF, and_assoc]
theorem retB {x y : Bool} (h : x = y) : Ending.returned (.bool x) = .returned (.bool y) := by rw [h]
def docsB (n : Nat) (len : Nat → Nat) (z : Nat → Nat → Int) : Bool := allP (fun i => docB (len i) (z i)) n
def docsF (fd : Int) (n : Nat) (len : Nat → Nat) (z : Nat → Nat → Int) : Bool := decide ((n : Int) ≤ fd) && docsB n len z
def nlB (s : ByteArray) : Bool := decide (0 ≤ Lib.indexByte s.data.toList 10)
def textF (fx : Int) (s : ByteArray) : Bool := decide ((s.size : Int) ≤ fx) && !nlB s

set_option maxRecDepth 100000 in
set_option maxHeartbeats 2000000 in
theorem takesNum_any (nm : ByteArray) (fa fb ft fd fx k a b t : Int) (D : Option Addr) (n dc : Nat) (s : ByteArray) (w : World) (h0 : 0 ≤ ft) (h1 : ft ≤ 100000000000) :
    Calls Tryz.prog 52 #[fmV nm fa fb ft fd fx, cmV k a b t D n dc s] w fun e w' => e = .returned (.bool (numF fa fb ft a b t)) ∧ Below w.heap.size w w' := by
  have hb0 := ((Below.refl w.heap.size w).alloc (Nat.le_refl _) (.cells (fmC nm fa fb ft fd fx) 62)).alloc (by simp) (.cells (cmC k a b t D n dc s) 35)
  have hwr : IntKind.i64.wrap (-ft) = -ft := IntWalk.i64_in _ (by omega)
  have HB := hid hb0
  clear hb0
  by_cases c1 : 0 ≤ a
  by_cases c2 : a ≤ fa
  by_cases c3 : 0 ≤ b
  by_cases c4 : b ≤ fb
  by_cases c5 : -ft ≤ t
  by_cases c6 : t ≤ ft
  all_goals
    first
      | have hv : numF fa fb ft a b t = true := numF_iff.2 ⟨⟨c1, c2⟩, ⟨c3, c4⟩, c5, c6⟩
      | have hv : numF fa fb ft a b t = false := by rw [Bool.eq_false_iff]; intro h; have := numF_iff.1 h; omega
    rw [hv]
    clear hv
    go_enter Tryz.func52, Tryz.ntmps52
    go_wp2_with fail
    go_ret
    exact ⟨rfl, HB.out⟩

set_option maxRecDepth 100000 in
set_option maxHeartbeats 2000000 in
theorem takesDocs_any (nm : ByteArray) (fa fb ft fd fx : Int) (D : Option Addr) (n dc : Nat) (len : Nat → Nat) (z : Nat → Nat → Int) (w : World) (h : RdQ w w.heap.size D n len z) (hn : n ≤ 4194304) (hlen : Hid (∀ i, i < n → len i ≤ 4194304)) :
    Calls Tryz.prog 53 #[fmV nm fa fb ft fd fx, .slice D n dc] w fun e w' => e = .returned (.bool (docsF fd n len z)) ∧ Below w.heap.size w w' := by
  have hb0 := (Below.refl w.heap.size w).alloc (Nat.le_refl _) (.cells (fmC nm fa fb ft fd fx) 62)
  have hr0 := h.to hb0
  have HB := hid hb0
  clear hb0
  by_cases c1 : fd < (n : Int)
  · have hv : docsF fd n len z = false := by unfold docsF; rw [decide_eq_false (show ¬ (n : Int) ≤ fd by omega)]; rfl
    rw [hv]
    clear hv
    go_enter Tryz.func53, Tryz.ntmps53
    go_wp2_with fail
    go_ret
    exact ⟨rfl, HB.out⟩
  · have HV : Hid (docsF fd n len z = allP (fun i => docB (len i) (z i)) n) := by show _ = _; unfold docsF docsB; rw [decide_eq_true (show (n : Int) ≤ fd by omega)]; rfl
    go_enter Tryz.func53, Tryz.ntmps53
    go_wp2_with fail
    generalize w.alloc (.cells (fmC nm fa fb ft fd fx) 62) = W0 at HB hr0 ⊢
    go_loopw [14] (fun i wr => ∃ k : Nat, k ≤ n ∧ i = .int .i64 k ∧ Hid (allP (fun i => docB (len i) (z i)) k = true) ∧ Hid (RdQ wr wr.heap.size D n len z) ∧ Hid (Below w.heap.size w wr)) (fun i _ => n - (intOf i).toNat)
    case atStart => exact ⟨0, Nat.zero_le _, rfl, rfl, hr0, HB⟩
    case round =>
      clear hr0 HB
      obtain ⟨k, hk, rfl, hall, hr, hbl⟩ := hrel
      by_cases hlt : k < n
      · obtain ⟨b, off, Ai, ci, rfl, hb, hc, hrd⟩ := hr.out.at_ hlt
        have i1 : (k : Int) < (n : Int) := by omega
        have i0 : (0 : Int) ≤ (k : Int) := by omega
        have hlk := hlen.out k hlt
        go_wp2_with fail
        refine (iDocOk_any Ai (len k) ci (z k) _ hrd hlk).mono ?_
        rintro e w1 ⟨rfl, hb1⟩
        have hr1 := hid (hr.out.to hb1)
        have hbl1 := hid (hbl.out.trans (hb1.mono hbl.out.size))
        clear hb1 hc hrd
        cases hd : docB (len k) (z k)
        · have hv : allP (fun i => docB (len i) (z i)) n = false := allP_false hlt hd
          have HX := hid (HV.out.trans hv)
          clear hv hd HV
          go_wp2_with fail
          go_ret
          exact ⟨retB HX.out.symm, hbl1.out⟩
        · have ha : Hid (allP (fun i => docB (len i) (z i)) (k + 1) = true) := allP_iff.2 fun j hj => by
            rcases Nat.lt_succ_iff_lt_or_eq.1 hj with h | rfl
            · exact allP_iff.1 hall.out j h
            · exact hd
          clear hd
          go_wp2_with fail
          go_roundw
          case rel => exact ⟨k + 1, by omega, by go_num, ha, hr1, hbl1⟩
          case measure => simp [intOf]; omega
      · obtain rfl : k = n := by omega
        go_wp2_with fail
        go_ret
        exact ⟨retB (HV.out.trans hall.out).symm, hbl.out⟩

set_option maxHeartbeats 1000000 in
theorem takesText_any (nm : ByteArray) (fa fb ft fd fx : Int) (s : ByteArray) (w : World) :
    Calls Tryz.prog 54 #[fmV nm fa fb ft fd fx, .string s] w fun e w' => e = .returned (.bool (textF fx s)) ∧ Below w.heap.size w w' := by
  have hb0 := (Below.refl w.heap.size w).alloc (Nat.le_refl _) (.cells (fmC nm fa fb ft fd fx) 62)
  have HB := hid hb0
  clear hb0
  by_cases c1 : (s.size : Int) ≤ fx
  · have HV : Hid (textF fx s = !nlB s) := by show _ = _; unfold textF; rw [decide_eq_true c1]; rfl
    have HC := fun W => strings_Contains_one s 10 W
    have HCC : Hid (∀ W, Calls Tryz.prog 91 #[.string s, .string ⟨#[10]⟩] W fun e w' => e = .returned (.bool (nlB s)) ∧ W = w') := fun W => (HC W).mono fun _ _ h => ⟨h.1, h.2.symm⟩
    clear HC
    go_enter Tryz.func54, Tryz.ntmps54
    go_wp2_with fail
    refine (HCC.out _).mono ?_
    rintro e w1 ⟨rfl, rfl⟩
    cases hq : nlB s
    · have HQ : Hid (textF fx s = true) := by show _ = _; rw [HV.out, hq]; rfl
      clear hq
      go_wp2_with fail
      go_ret
      exact ⟨retB HQ.out.symm, HB.out⟩
    · have HQ : Hid (textF fx s = false) := by show _ = _; rw [HV.out, hq]; rfl
      clear hq
      go_wp2_with fail
      go_ret
      exact ⟨retB HQ.out.symm, HB.out⟩
  · have hv : textF fx s = false := by unfold textF; rw [decide_eq_false c1]; rfl
    rw [hv]
    go_enter Tryz.func54, Tryz.ntmps54
    go_wp2_with fail
    go_ret
    exact ⟨rfl, HB.out⟩
end Go.Proofs.YtmkipdhappikhaaGreatDoor
