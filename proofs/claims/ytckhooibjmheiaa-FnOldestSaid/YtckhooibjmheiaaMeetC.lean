/- Contracts of BoxMeet, on the program's side. -/
import Derived.Test.YtckhooibjmheiaaMeetB
namespace Go.Proofs.Ytckhooibjmheiaa
open Go.RowKit Go.Deep

theorem cutTo_any (l h : Int) (q : Bool) (w : World) :
    Calls Try.prog 124 #[.int .i64 l, .int .i64 h, .bool q] w fun e w' => e = .returned (.func (.func 174) #[] #[.pointer (some ⟨w.heap.size, 0, none⟩), .pointer (some ⟨w.heap.size + 1, 0, none⟩), .pointer (some ⟨w.heap.size + 1 + 1, 0, none⟩)]) ∧
      w' = ((w.alloc (.cells #[.int .i64 l] 2)).alloc (.cells #[.int .i64 h] 2)).alloc (.cells #[.bool q] 4) := by
  have hmf : ∀ (fn : Fn) (first cap : Array Value) (w : World), (Instr.makeFunc fn first cap).run Try.prog w = .ok (.func fn first cap) w := fun _ _ _ _ => rfl
  go_enter Try.func124, Try.ntmps124
  go_wp2_with fail
  go_ret
  exact ⟨rfl, rfl⟩

theorem meet_no1 {n k : Nat} {g h : Nat → Sp} (hb : boxB n g = false) : meetB n g k h = false := by unfold meetB; rw [hb]; rfl
theorem meet_no2 {n k : Nat} {g h : Nat → Sp} (hb : boxB k h = false) : meetB n g k h = false := by unfold meetB; rw [hb, Bool.and_false]; rfl
theorem meet_no3 {n k : Nat} {g h : Nat → Sp} (hb : ¬ n = k) : meetB n g k h = false := by unfold meetB; rw [decide_eq_false hb, Bool.false_and, Bool.and_false]
theorem meet_box {n : Nat} {g h : Nat → Sp} (h1 : boxB n g = true) (h2 : boxB n h = true) : meetB n g n h = boxB n (meetF g h) := by
  have a1 := (boxB_iff.1 h1).1
  have a2 := (boxB_iff.1 h1).2.1
  have e1 : decide (1 ≤ n) = true := decide_eq_true a1
  have e2 : decide (n ≤ 6) = true := decide_eq_true a2
  unfold meetB
  rw [h1, h2, decide_eq_true rfl]
  show _ = ((decide (1 ≤ n) && decide (n ≤ 6)) && _)
  rw [e1, e2]
  rfl

set_option maxRecDepth 100000 in
set_option maxHeartbeats 4000000 in
theorem iMeet_both (A A' : Option Addr) (n c c' : Nat) (g h : Nat → Sp) (w : World) (ha : RdS w w.heap.size A n g) (hb : RdS w w.heap.size A' n h) (h1 : boxB n g = true) (h2 : boxB n h = true) :
    Calls Try.prog 63 #[.slice A n c, .slice A' n c'] w fun e w' => Below w.heap.size w w' ∧
      (boxB n (meetF g h) = true → ∃ b, e = .returned (.tuple #[.slice (some ⟨b, 0, none⟩) n n, .bool true]) ∧ w.heap.size ≤ b ∧ RowS w' 74 b n (meetF g h)) ∧
      (boxB n (meetF g h) = false → e = .returned (.tuple #[.slice none 0 0, .bool false])) := by
  have hn6 := (boxB_iff.1 h1).2.1
  have hn : n ≤ 4194304 := by omega
  have H1 := hid h1
  have H2 := hid h2
  clear h1 h2
  obtain ⟨i0, hi0, hz0, hz1, hz2⟩ := info_parts info_span
  have hmk := fun wx => run_make_rowN (P := Try.prog) 35 74 i0 _ Try.underlying35 hi0 hz0 .i64 .i64 n n (Nat.le_refl _) (by rw [hz2]; omega) (by omega) wx
  rw [hz1] at hmk
  clear hz0 hz1 hz2 hi0
  go_enter Try.func63, Try.ntmps63
  go_wp2_with fail
  refine (iBoxOk_any A n c g _ ha hn).mono ?_
  rintro e w1 ⟨rfl, hb1⟩
  rw [H1.out]
  go_wp2_with fail
  refine (iBoxOk_any A' n c' h _ (hb.to hb1 hb1.size) hn).mono ?_
  rintro e w2 ⟨rfl, hb2'⟩
  rw [H2.out]
  have hb2 := hb1.trans (hb2'.mono hb1.size)
  clear hb1 hb2'
  have hs2 := hb2.size
  go_wp2_with fail
  go_loopw [30] (fun i wr => ∃ (k : Nat) (cs : Array Value), k ≤ n ∧ i = .int .i64 k ∧ Blk wr w2.heap.size 74 cs ∧ n * 3 ≤ cs.size ∧ Hid (∀ i, i < k → ∀ j, j < 3 → cs[i * 3 + j]? = (spC (meetF g h i))[j]?) ∧ Below w.heap.size w wr)
    (fun i _ => n - (intOf i).toNat)
  case atStart => exact ⟨0, _, Nat.zero_le _, rfl, Blk.new _ _ _, by simp [madeCells], fun j hj => by omega, hb2.alloc hs2 _⟩
  case round =>
    obtain ⟨k, cs, hk, rfl, hB, hsz, hcs, hbl⟩ := hrel
    by_cases hlt : k < n
    · obtain ⟨b', off', rfl, hbb', d0, d1, d2⟩ := (hb.below hbl).at_ hlt
      have hl : (k : Int) < (n : Int) := by omega
      have hl0 : (0 : Int) ≤ (k : Int) := by omega
      have hbl1 := hbl.alloc hbl.size (.cells #[.int .i64 (h k).lo, .int .i64 (h k).hi, .bool (h k).gone] 74)
      have hB1 := hB.alloc (.cells #[.int .i64 (h k).lo, .int .i64 (h k).hi, .bool (h k).gone] 74)
      go_wp2_with fail
      refine (cutTo_any (h k).lo (h k).hi (h k).gone _).mono ?_
      rintro e w3 ⟨rfl, rfl⟩
      generalize hW : wr.alloc (.cells #[.int .i64 (h k).lo, .int .i64 (h k).hi, .bool (h k).gone] 74) = W at hbl1 hB1 ⊢
      have hbl4 := ((hbl1.alloc hbl1.size (.cells #[.int .i64 (h k).lo] 2)).alloc (by have := hbl1.size; simp; omega) (.cells #[.int .i64 (h k).hi] 2)).alloc (by have := hbl1.size; simp; omega) (.cells #[.bool (h k).gone] 4)
      have hB4 := ((hB1.alloc (.cells #[.int .i64 (h k).lo] 2)).alloc (.cells #[.int .i64 (h k).hi] 2)).alloc (.cells #[.bool (h k).gone] 4)
      have p0 := ((Blk.new W 2 #[.int .i64 (h k).lo]).alloc (.cells #[.int .i64 (h k).hi] 2)).alloc (.cells #[.bool (h k).gone] 4)
      have p1 := (Blk.new2 W (.cells #[.int .i64 (h k).lo] 2) 2 #[.int .i64 (h k).hi]).alloc (.cells #[.bool (h k).gone] 4)
      have p2 := Blk.new3 W (.cells #[.int .i64 (h k).lo] 2) (.cells #[.int .i64 (h k).hi] 2) 4 #[.bool (h k).gone]
      obtain ⟨b, off, rfl, hbb, c0, c1, c2⟩ := (ha.below hbl4).at_ hlt
      clear d0 d1 d2
      go_wp2_with fail
      refine (cut_any (g k) (h k).lo (h k).hi (h k).gone W.heap.size (W.heap.size + 1) (W.heap.size + 1 + 1) _ (p0.cell 0) (p1.cell 0) (p2.cell 0) p0.lt p1.lt p2.lt).mono ?_
      rintro e w5 ⟨rfl, hb5⟩
      have hB5 := hB4.below hb5 hB4.lt
      have hbl5 := hbl4.trans (hb5.mono hbl4.size)
      clear hb5 hB4 hbl4 p0 p1 p2 c0 c1 c2 hB1 hbl1 hB hbl hW
      have HM : Hid (meetF g h k = meetS (g k) ⟨(h k).lo, (h k).hi, (h k).gone⟩) := rfl
      have s0 : w5.cell? ⟨w2.heap.size, k * 3, none⟩ = some (cs[k * 3]'(by omega)) := by rw [hB5.cell, Array.getElem?_eq_getElem]
      have s1 : w5.cell? ⟨w2.heap.size, k * 3 + 1, none⟩ = some (cs[k * 3 + 1]'(by omega)) := by rw [hB5.cell, Array.getElem?_eq_getElem]
      have s2 : w5.cell? ⟨w2.heap.size, k * 3 + 2, none⟩ = some (cs[k * 3 + 2]'(by omega)) := by rw [hB5.cell, Array.getElem?_eq_getElem]
      have f0 := hB5.frozen (k * 3); have f1 := hB5.frozen (k * 3 + 1); have f2 := hB5.frozen (k * 3 + 2)
      generalize meetS (g k) ⟨(h k).lo, (h k).hi, (h k).gone⟩ = mk at HM ⊢
      go_wp2_with fail
      go_roundw
      case rel =>
        refine ⟨k + 1, _, by omega, by go_num, blk_put3 hB5 k mk, by rw [put3_size]; exact hsz, fun i hi j hj => ?_, below_put3 hbl5 hs2 k mk⟩
        by_cases e : i = k
        · subst e; rw [HM.out]; exact put3_in mk (by omega) j hj
        · rw [put3_out mk (i * 3 + j) (by omega)]; exact hcs.out i (by omega) j hj
      case measure => simp [intOf]; omega
    · have e : k = n := by omega
      subst e
      have hrow : RowS wr 74 w2.heap.size k (meetF g h) := ⟨cs, hB, hsz, fun i hi => hcs.out i hi⟩
      clear hB hsz hcs
      go_wp2_with fail
      refine (iBoxOk_any _ k k (meetF g h) _ (rds_of hrow) hn).mono ?_
      rintro e w5 ⟨rfl, hb5⟩
      have hrow5 := hrow.below hb5 hrow.lt
      have hbl5 := hbl.trans (hb5.mono hbl.size)
      clear hb5 hbl hrow
      cases hr : boxB k (meetF g h)
      · go_wp2_with fail
        go_ret2
        exact ⟨hbl5, (fun hx => by rw [hr] at hx; cases hx), fun _ => rfl⟩
      · go_wp2_with fail
        go_ret2
        exact ⟨hbl5, (fun _ => ⟨_, rfl, hs2, hrow5⟩), fun hx => by rw [hr] at hx; cases hx⟩

def MeetYes (n : Nat) (g h : Nat → Sp) (w : World) (e : Ending) (w' : World) : Prop :=
  ∃ b c, e = .returned (.tuple #[.slice (some ⟨b, 0, none⟩) n c, .bool true]) ∧ w.heap.size ≤ b ∧ RowS w' 74 b n (meetF g h) ∧ Below w.heap.size w w'
def MeetNo (w : World) (e : Ending) (w' : World) : Prop := e = .returned (.tuple #[.slice none 0 0, .bool false]) ∧ Below w.heap.size w w'

theorem iMeet_yes (A A' : Option Addr) (n c c' : Nat) (g h : Nat → Sp) (w : World) (ha : RdS w w.heap.size A n g) (hb : RdS w w.heap.size A' n h) (hy : meetB n g n h = true) :
    Calls Try.prog 63 #[.slice A n c, .slice A' n c'] w (MeetYes n g h w) := by
  obtain ⟨h1, h2, _, _⟩ := meetB_iff.1 hy
  rw [meet_box h1 h2] at hy
  refine (iMeet_both A A' n c c' g h w ha hb h1 h2).mono ?_
  rintro e w' ⟨hbl, hyes, _⟩
  obtain ⟨b, e1, hb', hr⟩ := hyes hy
  exact ⟨b, n, e1, hb', hr, hbl⟩

set_option maxHeartbeats 1000000 in
theorem iMeet_no (A A' : Option Addr) (n k c c' : Nat) (g h : Nat → Sp) (w : World) (ha : RdS w w.heap.size A n g) (hb : RdS w w.heap.size A' k h) (hn : n ≤ 4194304) (hk : k ≤ 4194304) (hno : meetB n g k h = false) :
    Calls Try.prog 63 #[.slice A n c, .slice A' k c'] w (MeetNo w) := by
  cases h1 : boxB n g with
  | false =>
    have H1 := hid h1
    clear h1 hno
    go_enter Try.func63, Try.ntmps63
    go_wp2_with fail
    refine (iBoxOk_any A n c g _ ha hn).mono ?_
    rintro e w1 ⟨rfl, hb1⟩
    rw [H1.out]
    go_wp2_with fail
    go_ret2
    exact ⟨rfl, hb1⟩
  | true =>
    cases h2 : boxB k h with
    | false =>
      have H1 := hid h1
      have H2 := hid h2
      clear h1 h2 hno
      go_enter Try.func63, Try.ntmps63
      go_wp2_with fail
      refine (iBoxOk_any A n c g _ ha hn).mono ?_
      rintro e w1 ⟨rfl, hb1⟩
      rw [H1.out]
      go_wp2_with fail
      refine (iBoxOk_any A' k c' h _ (hb.to hb1 hb1.size) hk).mono ?_
      rintro e w2 ⟨rfl, hb2⟩
      rw [H2.out]
      go_wp2_with fail
      go_ret2
      exact ⟨rfl, hb1.trans (hb2.mono hb1.size)⟩
    | true =>
      by_cases hnk : n = k
      · subst hnk
        rw [meet_box h1 h2] at hno
        refine (iMeet_both A A' n c c' g h w ha hb h1 h2).mono ?_
        rintro e w' ⟨hbl, _, hn'⟩
        exact ⟨hn' hno, hbl⟩
      · have H1 := hid h1
        have H2 := hid h2
        have e1 : ¬ (n : Int) = (k : Int) := by omega
        clear h1 h2 hno
        go_enter Try.func63, Try.ntmps63
        go_wp2_with fail
        refine (iBoxOk_any A n c g _ ha hn).mono ?_
        rintro e w1 ⟨rfl, hb1⟩
        rw [H1.out]
        go_wp2_with fail
        refine (iBoxOk_any A' k c' h _ (hb.to hb1 hb1.size) hk).mono ?_
        rintro e w2 ⟨rfl, hb2⟩
        rw [H2.out]
        go_wp2_with fail
        go_ret2
        exact ⟨rfl, hb1.trans (hb2.mono hb1.size)⟩

/-! ### the other side -/
def spansC (n : Nat) (g : Nat → Sp) : List Value := (List.range n).flatMap fun i => spC (g i)
theorem spansC_succ (n : Nat) (g : Nat → Sp) : spansC (n + 1) g = spansC n g ++ spC (g n) := by
  unfold spansC
  rw [List.range_succ, List.flatMap_append]
  simp
theorem spansC_len (n : Nat) (g : Nat → Sp) : (spansC n g).length = n * 3 := by
  induction n with
  | zero => rfl
  | succ n ih => rw [spansC_succ, List.length_append, ih]; simp [spC]; omega
theorem spansC_at (g : Nat → Sp) : ∀ (n i j : Nat), i < n → j < 3 → (spansC n g)[i * 3 + j]? = (spC (g i))[j]? := by
  intro n
  induction n with
  | zero => intro i j hi; omega
  | succ n ih =>
    intro i j hi hj
    rw [spansC_succ]
    by_cases e : i = n
    · subst e
      rw [List.getElem?_append_right (by rw [spansC_len]; omega), spansC_len]
      congr 1; omega
    · rw [List.getElem?_append_left (by rw [spansC_len]; omega)]
      exact ih i j (by omega) hj
theorem own_rowS {w : World} {B m c : Nat} {t : TypeId} {A' : Option Addr} {g : Nat → Sp} (h : w.ownsRow B t 3 (.slice A' m c) m (spansC m g)) (hm : 0 < m) :
    ∃ b, A' = some ⟨b, 0, none⟩ ∧ B ≤ b ∧ m ≤ c ∧ RowS w t b m g := by
  rcases h.2 with ⟨_, h0⟩ | ⟨b, cap, cur, hv, hb, hg, h1, _, h3, ht⟩
  · omega
  · injection hv with e1 _ e3
    refine ⟨b, e1, hb, by omega, cur, hg, by rw [h3]; exact Nat.mul_le_mul_right 3 h1, fun i hi j hj => ?_⟩
    have hlt : i * 3 + j < m * 3 := by omega
    have := spansC_at g m i j hi hj
    rw [← ht, List.getElem?_take, if_pos hlt, Array.getElem?_toList] at this
    exact this
theorem spC_one (d : Sp) : ∀ u ∈ spC d, u.oneCell' = true := by
  intro u hu
  simp only [spC, List.mem_cons, List.not_mem_nil, or_false] at hu
  rcases hu with rfl | rfl | rfl <;> rfl
end Go.Proofs.Ytckhooibjmheiaa
