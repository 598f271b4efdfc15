/- TreeOk of the other side: the nodes in their order, the numbers of splits above each. -/
import Derived.Test.YtmpgefpaoogoiaaTreeB
namespace Go.Proofs.Ytmpgefpaoogoiaa
open Go.RowKit Go.Deep

/-- How many splits among the first k lead to j. -/
def abv (g : Nat → Nd) (k j : Nat) : Nat := cnt (fun m => par (g m) j) k
theorem par_le (d : Nd) (j : Nat) : par d j ≤ 2 := by unfold par; split <;> (try split) <;> (try split) <;> omega
theorem abv_le (g : Nat → Nd) (k j : Nat) : abv g k j ≤ 2 * k := by
  unfold abv
  induction k with
  | zero => simp [cnt]
  | succ k ih => simp only [cnt]; have := par_le (g k) j; omega
def okTo (g : Nat → Nd) (n : Nat) (f : Int) : Nat → Bool
  | 0 => true
  | i + 1 => okTo g n f i && (nodeB f n i (g i) && (i == 0 || abv g i i == 1))
theorem okTo_iff (g : Nat → Nd) (n : Nat) (f : Int) (m : Nat) : okTo g n f m = true ↔ ∀ i, i < m → Node f n i (g i) ∧ (0 < i → abv g i i = 1) := by
  induction m with
  | zero => exact ⟨fun _ i hi => by omega, fun _ => rfl⟩
  | succ m ih =>
    simp only [okTo, Bool.and_eq_true, ih, nodeB_iff, Bool.or_eq_true, beq_iff_eq]
    constructor
    · rintro ⟨h1, h2, h3⟩ i hi
      by_cases e : i = m
      · subst e; exact ⟨h2, fun h0 => by omega⟩
      · exact h1 i (by omega)
    · intro h
      refine ⟨fun i hi => h i (by omega), (h m (by omega)).1, ?_⟩
      by_cases e : m = 0
      · exact .inl e
      · exact .inr ((h m (by omega)).2 (by omega))
def treeB (g : Nat → Nd) (n : Nat) (f : Int) : Bool := (decide (1 ≤ f) && decide (f ≤ 6)) && ((decide (1 ≤ n) && decide (n ≤ 15)) && okTo g n f n)
theorem treeB_iff (g : Nat → Nd) (n : Nat) (f : Int) : treeB g n f = true ↔ Tree g n f := by
  unfold treeB Tree
  simp only [Bool.and_eq_true, decide_eq_true_eq, okTo_iff]
  exact Iff.rfl
theorem okTo_false {g : Nat → Nd} {n : Nat} {f : Int} {k m : Nat} (hk : k < m) (h : (nodeB f n k (g k) && (k == 0 || abv g k k == 1)) = false) : okTo g n f m = false := by
  induction m with
  | zero => omega
  | succ m ih =>
    by_cases e : k = m
    · subst e; simp only [okTo, h, Bool.and_false]
    · simp only [okTo, ih (by omega), Bool.false_and]

theorem abv_leaf {g : Nat → Nd} {k j : Nat} (h : (g k).left = 0) : ((abv g k j : Nat) : Int) = (abv g (k + 1) j : Nat) := by
  have : par (g k) j = 0 := by unfold par; rw [if_neg (by omega)]
  unfold abv
  simp only [cnt, this]
  omega
theorem abv_split {g : Nat → Nd} {k l r : Nat} (hl : (g k).left = l) (hr : (g k).right = r) (h0 : 0 < l) (h1 : 0 < r) (hne : l ≠ r) (j : Nat) :
    (fun j => if j = r then (abv g k r : Int) + 1 else (fun j => if j = l then (abv g k l : Int) + 1 else (abv g k j : Int)) j) j = (abv g (k + 1) j : Nat) := by
  have : abv g (k + 1) j = abv g k j + par (g k) j := rfl
  rw [this]
  unfold par
  rw [hl, hr, if_pos (by omega)]
  show (if j = r then (abv g k r : Int) + 1 else if j = l then (abv g k l : Int) + 1 else (abv g k j : Int)) = _
  by_cases e1 : j = r
  · subst e1; rw [if_pos rfl, if_neg (by omega), if_pos rfl]; omega
  · rw [if_neg e1]
    by_cases e2 : j = l
    · subst e2; rw [if_pos rfl, if_pos rfl, if_neg (by omega)]; omega
    · rw [if_neg e2, if_neg (by omega), if_neg (by omega)]; omega
theorem node_kids {f : Int} {n k : Nat} {d : Nd} (h : Node f n k d) (h0 : ¬ d.left = 0) : ∃ l r : Nat, d.left = l ∧ d.right = r ∧ k < l ∧ l < n ∧ k < r ∧ r < n ∧ l ≠ r := by
  unfold Node at h
  rw [if_neg h0] at h
  obtain ⟨_, ⟨a1, a2⟩, ⟨b1, b2⟩, hne⟩ := h
  exact ⟨d.left.toNat, d.right.toNat, by omega, by omega, by omega, by omega, by omega, by omega, by omega⟩

set_option maxHeartbeats 4000000 in
theorem sTreeOk_any (A : Option Addr) (n cap : Nat) (g : Nat → Nd) (f : Int) (w : World) (h : RdN w w.heap.size A n g) (hn : n ≤ 4194304) :
    Calls Try.prog 116 #[.slice A n cap, .int .i64 f] w fun e w' => e = .returned (.bool (treeB g n f)) ∧ Below w.heap.size w w' := by
  cases hf : (decide (1 ≤ f) && decide (f ≤ 6))
  · have hT : treeB g n f = false := by unfold treeB; rw [hf]; rfl
    have HF := hid hf
    have HT := hid hT
    clear hf hT
    go_enter Try.func116, Try.ntmps116
    go_wp2_with fail
    refine (Feats_any _ _).mono ?_
    rintro e w1 ⟨rfl, rfl⟩
    rw [HF.out]
    go_wp2_with fail
    go_ret
    exact ⟨by rw [HT.out]; rfl, Below.refl _ _⟩
  cases hm : (decide ((1 : Int) ≤ (n : Int)) && decide ((n : Int) ≤ 15))
  · have hT : treeB g n f = false := by
      have e : (decide (1 ≤ n) && decide (n ≤ 15)) = false := by
        simp only [Bool.and_eq_false_iff, decide_eq_false_iff_not] at hm ⊢
        omega
      unfold treeB; rw [e]; simp
    have HF := hid hf
    have HM := hid hm
    have HT := hid hT
    clear hf hT hm
    go_enter Try.func116, Try.ntmps116
    go_wp2_with fail
    refine (Feats_any _ _).mono ?_
    rintro e w1 ⟨rfl, rfl⟩
    rw [HF.out]
    go_wp2_with fail
    refine (In_any _ _ _ _).mono ?_
    rintro e w1 ⟨rfl, rfl⟩
    rw [HM.out]
    go_wp2_with fail
    go_ret
    exact ⟨by rw [HT.out]; rfl, Below.refl _ _⟩
  have hT : treeB g n f = okTo g n f n := by
    have e : (decide (1 ≤ n) && decide (n ≤ 15)) = true := by
      simp only [Bool.and_eq_true, decide_eq_true_eq] at hm ⊢
      omega
    unfold treeB; rw [hf, e]; rfl
  have hf1 : 1 ≤ f ∧ f ≤ 6 := by simpa using hf
  have hn15 : n ≤ 15 := by simp at hm; omega
  have HF := hid hf
  have HM := hid hm
  have HT := hid hT
  clear hf hT hm
  obtain ⟨hf1, hf6⟩ := hf1
  have hmk := run_make_row' (P := Try.prog) 25 2 (.int .i64 0) 8 Try.underlying25 info_int rfl .i64 .i64 n (by omega) (by omega)
  go_enter Try.func116, Try.ntmps116
  go_wp2_with fail
  refine (Feats_any _ _).mono ?_
  rintro e w1 ⟨rfl, rfl⟩
  rw [HF.out]
  go_wp2_with fail
  refine (In_any _ _ _ _).mono ?_
  rintro e w1 ⟨rfl, rfl⟩
  rw [HM.out]
  go_wp2_with fail
  clear hmk
  go_loopw [7] (fun i wr => ∃ k : Nat, k ≤ n ∧ i = .int .i64 k ∧ Hid (okTo g n f k = true) ∧ Row wr 2 w.heap.size n (fun j => (abv g k j : Nat)) ∧ Below w.heap.size w wr)
    (fun i _ => n - (intOf i).toNat)
  case atStart => exact ⟨0, Nat.zero_le _, rfl, rfl, ⟨_, Blk.new _ _ _, by simp [madeCells], fun j hj => by simp [madeCells, hj, abv, cnt, Nat.mod_one]⟩, (Below.refl _ _).alloc (Nat.le_refl _) _⟩
  case round =>
    obtain ⟨k, hk, rfl, hok, hrow, hbl⟩ := hrel
    by_cases hlt : k < n
    · obtain ⟨b, off, rfl, hb, hnd⟩ := (h.below hbl).at_ hlt
      obtain ⟨c0, c1, c2, c3, c4, c5⟩ := hnd
      have hl : (k : Int) < (n : Int) := by omega
      go_wp2_with fail
      refine (Node_any (g k) f n k _ (by omega) (by omega) hf1 hf6).mono ?_
      rintro e w1 ⟨rfl, hb1⟩
      have hrow1 := hrow.below hb1 hrow.lt
      have hnd1 : NdAt w1 b (off + k * 6) (g k) := NdAt.keep ⟨c0, c1, c2, c3, c4, c5⟩ fun o => hb1.cell (p := ⟨b, o, none⟩) (Nat.lt_of_lt_of_le hb hbl.size)
      have hbl1 := hbl.trans (hb1.mono hbl.size)
      clear c0 c1 c2 c3 c4 c5 hb1 hrow hbl
      cases hN : nodeB f n k (g k)
      · have HN := hid hN
        clear hN
        go_wp2_with fail
        go_ret
        exact ⟨by rw [HT.out, okTo_false hlt (by rw [HN.out]; rfl)]; rfl, hbl1⟩
      have hA := hrow1.cell hlt
      have hfin : okTo g n f (k + 1) = (k == 0 || abv g k k == 1) := by simp only [okTo, hok.out, hN, Bool.true_and]
      have hNode := (nodeB_iff f n k (g k)).1 hN
      have HFin := hid hfin
      have HNode := hid hNode
      have HN := hid hN
      clear hN hfin hNode
      by_cases hz : 0 < (k : Int) ∧ ¬ abv g k k = 1
      · obtain ⟨hz1, hz2⟩ := hz
        have hz3 : (((abv g k k : Nat) : Int) != 1) = true := by simp; omega
        go_wp2_with fail
        go_ret
        refine ⟨?_, hbl1⟩
        rw [HT.out, okTo_false hlt (by
          rw [HN.out]
          have e1 : (k == 0) = false := by simp; omega
          have e2 : (abv g k k == 1) = false := by simpa using hz2
          rw [e1, e2]; rfl)]
        rfl
      have hok1 : Hid (okTo g n f (k + 1) = true) := by
        show okTo g n f (k + 1) = true
        rw [HFin.out]
        by_cases e : k = 0
        · simp [e]
        · have : abv g k k = 1 := Classical.byContradiction fun h' => hz ⟨by omega, h'⟩
          simp [this]
      by_cases hk0 : 0 < (k : Int)
      · have ha1 : (((abv g k k : Nat) : Int) != 1) = false := by
          have : abv g k k = 1 := Classical.byContradiction fun h' => hz ⟨hk0, h'⟩
          simp [this]
        clear hz
        obtain ⟨c0, c1, c2, c3, c4, c5⟩ := hnd1
        by_cases hlf : (g k).left = 0
        · have hq : ¬ 0 < (g k).left := by omega
          have HLf := hid hlf
          clear hlf
          go_wp2_with fail
          go_roundw
          case rel => exact ⟨k + 1, by omega, by go_num, hok1, hrow1.congr fun j _ => by rw [abv_leaf HLf.out], hbl1⟩
          case measure => simp [intOf]; omega
        · obtain ⟨l, r, hl1, hr1, hkl, hln, hkr, hrn, hne⟩ := node_kids HNode.out hlf
          rw [hl1] at c2
          rw [hr1] at c3
          have HL := hid hl1
          have HR := hid hr1
          clear hl1 hr1 hlf
          have hcl := hrow1.cell hln
          have hcr := hrow1.cell hrn
          have hfl := hrow1.frozen l
          have hfr := hrow1.frozen r
          have hbdl := abv_le g k l
          have hbdr := abv_le g k r
          have i1 : (0 : Int) < (l : Int) := by omega
          have i2 : (l : Int) < (n : Int) := by omega
          have i3 : (r : Int) < (n : Int) := by omega
          have i4 : (0 : Int) ≤ (r : Int) := by omega
          go_wp2_with fail
          go_roundw
          case rel => exact ⟨k + 1, by omega, by go_num, hok1, ((hrow1.set_ (i := l) _).set_ (i := r) _).congr fun j _ => abv_split HL.out HR.out (by omega) (by omega) hne j, (hbl1.setCell (Nat.le_refl _) _).setCell (Nat.le_refl _) _⟩
          case measure => simp [intOf]; omega
      · clear hz
        obtain ⟨c0, c1, c2, c3, c4, c5⟩ := hnd1
        by_cases hlf : (g k).left = 0
        · have hq : ¬ 0 < (g k).left := by omega
          have HLf := hid hlf
          clear hlf
          go_wp2_with fail
          go_roundw
          case rel => exact ⟨k + 1, by omega, by go_num, hok1, hrow1.congr fun j _ => by rw [abv_leaf HLf.out], hbl1⟩
          case measure => simp [intOf]; omega
        · obtain ⟨l, r, hl1, hr1, hkl, hln, hkr, hrn, hne⟩ := node_kids HNode.out hlf
          rw [hl1] at c2
          rw [hr1] at c3
          have HL := hid hl1
          have HR := hid hr1
          clear hl1 hr1 hlf
          have hcl := hrow1.cell hln
          have hcr := hrow1.cell hrn
          have hfl := hrow1.frozen l
          have hfr := hrow1.frozen r
          have hbdl := abv_le g k l
          have hbdr := abv_le g k r
          have i1 : (0 : Int) < (l : Int) := by omega
          have i2 : (l : Int) < (n : Int) := by omega
          have i3 : (r : Int) < (n : Int) := by omega
          have i4 : (0 : Int) ≤ (r : Int) := by omega
          go_wp2_with fail
          go_roundw
          case rel => exact ⟨k + 1, by omega, by go_num, hok1, ((hrow1.set_ (i := l) _).set_ (i := r) _).congr fun j _ => abv_split HL.out HR.out (by omega) (by omega) hne j, (hbl1.setCell (Nat.le_refl _) _).setCell (Nat.le_refl _) _⟩
          case measure => simp [intOf]; omega
    · have e : k = n := by omega
      go_wp2_with fail
      go_ret
      subst e
      exact ⟨by rw [HT.out, hok.out]; rfl, hbl⟩
end Go.Proofs.Ytmpgefpaoogoiaa
