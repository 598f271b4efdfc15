/- Scores and spans on both sides. -/
import Derived.Test.YtlgomifpohdniaaGreatDrawX
import Derived.Test.YtlgomifpohdniaaGreatK8
namespace Go.Proofs.YtlgomifpohdniaaGreat

/-! ### FeatsLaw -/
section
set_option linter.unusedVariables false
set_option linter.unusedSimpArgs false
open Go.RowKit Go.Deep

theorem tree_more {g : Nat → Nd} {n : Nat} {f i : Int} (h : treeB g n f = true) (h1 : f ≤ i) (h6 : i ≤ 6) : treeB g n i = true := by
  rw [treeB_iff] at h ⊢
  obtain ⟨⟨hf1, _⟩, hn, ha⟩ := h
  refine ⟨⟨by omega, h6⟩, hn, fun k hk => ⟨?_, (ha k hk).2⟩⟩
  have := (ha k hk).1
  unfold Node at this ⊢
  split
  · rename_i e; rw [if_pos e] at this; exact this
  · rename_i e
    rw [if_neg e] at this
    refine ⟨?_, this.2⟩
    have hs := this.1
    simp only [spB, Bool.and_eq_true, decide_eq_true_eq] at hs ⊢
    exact ⟨⟨⟨hs.1.1.1, by omega⟩, hs.1.2⟩, hs.2⟩
theorem tree_less {g : Nat → Nd} {k : Nat} {f : Int} (h : treeB g (k + 1) f = true) : treeB g k f = false := by
  cases e : treeB g k f with
  | false => rfl
  | true =>
    rw [treeB_iff] at h e
    exfalso
    obtain ⟨_, ⟨hk1, _⟩, ha⟩ := e
    have hc := (h.2.2 k (by omega)).2 (by omega)
    have hz : cnt (fun j => par (g j) k) k = 0 := cnt_zero _ k fun j hj => by
      have hn := (ha j hj).1
      unfold Node at hn
      unfold par
      split at hn
      · rename_i e0; rw [e0]; rfl
      · obtain ⟨_, ⟨_, hl⟩, ⟨_, hr⟩, _⟩ := hn
        split
        · rw [if_neg (by omega), if_neg (by omega)]
        · rfl
    omega
theorem tree_seven {g : Nat → Nd} {n : Nat} : treeB g n 7 = false := by simp [treeB]

end

/-! ### EnsD -/
section
set_option linter.unusedVariables false
set_option linter.unusedSimpArgs false
open Go.RowKit Go.Deep

def sumT (p : Nat → Int) : Nat → Int
  | 0 => 0
  | k + 1 => sumT p k + p k
theorem sumT_bound {p : Nat → Int} {n : Nat} (h : ∀ i, i < n → -1000000000 ≤ p i ∧ p i ≤ 1000000000) : ∀ k, k ≤ n → -1000000000 * (k : Int) ≤ sumT p k ∧ sumT p k ≤ 1000000000 * (k : Int) := by
  intro k
  induction k with
  | zero => intro _; simp [sumT]
  | succ k ih =>
    intro hk
    have := ih (by omega)
    have := h k (by omega)
    simp only [sumT]
    omega
theorem lo_bound {g : Nat → Nd} {n : Nat} {f : Int} (h : treeB g n f = true) : -1000000000 ≤ loTo g n ∧ loTo g n ≤ 1000000000 := by
  have hT := (treeB_iff g n f).1 h
  rcases loTo_at g n with e | ⟨j, hj, hl, e⟩
  · omega
  · have := hT.leaf hj hl; omega
theorem hi_bound {g : Nat → Nd} {n : Nat} {f : Int} (h : treeB g n f = true) : -1000000000 ≤ hiTo g n ∧ hiTo g n ≤ 1000000000 := by
  have hT := (treeB_iff g n f).1 h
  rcases hiTo_at g n with e | ⟨j, hj, hl, e⟩
  · omega
  · have := hT.leaf hj hl; omega
def loF (len : Nat → Nat) (g : Nat → Nat → Nd) : Nat → Int := fun i => loTo (g i) (len i)
def hiF (len : Nat → Nat) (g : Nat → Nat → Nd) : Nat → Int := fun i => hiTo (g i) (len i)
def spanLo (f b : Int) (n : Nat) (len : Nat → Nat) (g : Nat → Nat → Nd) : Int := if ensB f b n len g = true then b + sumT (loF len g) n else 0
def spanHi (f b : Int) (n : Nat) (len : Nat → Nat) (g : Nat → Nat → Nd) : Int := if ensB f b n len g = true then b + sumT (hiF len g) n else 0

end

/-! ### EnsE -/
section
set_option linter.unusedVariables false
set_option linter.unusedSimpArgs false
open Go.RowKit Go.Deep

/-- The value of the leaf at which a document ends. -/
def lvv (g : Nat → Nd) (z : Nat → Int) : Int := (g (lst g z 15 0)).value
theorem lst_itr {g : Nat → Nd} {z : Nat → Int} {T : Nat} (hE : Ends g z T) : ∀ k s fu, s + k = T → k < fu → lst g z fu (itr g z s) = itr g z T := by
  intro k
  induction k with
  | zero =>
    intro s fu hs hf
    obtain ⟨fu, rfl⟩ : ∃ m, fu = m + 1 := ⟨fu - 1, by omega⟩
    obtain rfl : s = T := by omega
    simp only [lst]
    rw [if_pos hE.2]
  | succ k ih =>
    intro s fu hs hf
    obtain ⟨fu, rfl⟩ : ∃ m, fu = m + 1 := ⟨fu - 1, by omega⟩
    simp only [lst]
    rw [if_neg (hE.1 s (by omega))]
    exact ih (s + 1) fu (by omega) (by omega)
theorem ends_some {g : Nat → Nd} {n : Nat} (z : Nat → Int) (hu : Up g n) (hn : 0 < n) : ∃ T, T < n ∧ Ends g z T := by
  have key : ∀ k, (∀ s, s < k → (g (itr g z s)).left ≠ 0) ∨ ∃ T, T < k ∧ Ends g z T := by
    intro k
    induction k with
    | zero => exact .inl fun s hs => by omega
    | succ k ih =>
      rcases ih with h | ⟨T, hT, hE⟩
      · by_cases hl : (g (itr g z k)).left = 0
        · exact .inr ⟨k, by omega, h, hl⟩
        · refine .inl fun s hs => ?_
          by_cases e : s = k
          · subst e; exact hl
          · exact h s (by omega)
      · exact .inr ⟨T, by omega, hE⟩
  rcases key n with h | h
  · have := itr_up z hu hn n h
    omega
  · exact h
theorem lvv_is {g : Nat → Nd} {z : Nat → Int} {T : Nat} (hE : Ends g z T) (hT : T < 15) : lvv g z = (g (itr g z T)).value := by
  unfold lvv
  have := lst_itr hE T 0 15 (by omega) hT
  have e : itr g z 0 = 0 := rfl
  rw [e] at this
  rw [this]
theorem lvv_bound {g : Nat → Nd} {n : Nat} {f : Int} (z : Nat → Int) (h : treeB g n f = true) : -1000000000 ≤ lvv g z ∧ lvv g z ≤ 1000000000 := by
  have hT := (treeB_iff g n f).1 h
  have hn := hT.2.1
  obtain ⟨T, hlt, hE⟩ := ends_some z hT.up (by omega)
  rw [lvv_is hE (by omega)]
  exact hT.leaf (itr_up z hT.up (by omega) T hE.1).2 hE.2
def scF (g : Nat → Nat → Nd) (z : Nat → Int) : Nat → Int := fun i => lvv (g i) z

def fitB (f : Int) (p : Nat) (z : Nat → Int) : Bool := decide ((p : Int) = f) && docB p z

theorem hasDoc_any (f b : Int) (A : Option Addr) (n c : Nat) (D : Option Addr) (p dc : Nat) (z : Nat → Int) (w : World) (hd : Rd w w.heap.size D p z) (hp : p ≤ 4194304) :
    Calls Tryz.prog 35 #[enV f b A n c, .slice D p dc] w fun e w' => e = .returned (.bool (fitB f p z)) ∧ Below w.heap.size w w' := by
  have hb1 := (Below.refl w.heap.size w).alloc (Nat.le_refl _) (.cells #[.int .i64 f, .int .i64 b, .slice A n c] 26)
  have hd1 := hd.to hb1 hb1.size
  by_cases hpf : (p : Int) = f
  · have e0 : Hid (fitB f p z = docB p z) := by show _ = _; unfold fitB; rw [decide_eq_true hpf]; rfl
    have e1 : ((p : Int) == f) = true := by simpa using hpf
    clear hpf
    go_enter Tryz.func35, Tryz.ntmps35
    go_wp2_with fail
    refine (iDocOk_any D p dc z _ hd1 hp).mono ?_
    rintro e w2 ⟨rfl, hb2⟩
    have hw2 := hb1.trans (hb2.mono hb1.size)
    go_wp2_with fail
    go_ret
    refine ⟨?_, hw2⟩
    rw [e0.out]
    rfl
  · have e0 : fitB f p z = false := by unfold fitB; rw [decide_eq_false hpf]; rfl
    have e1 : ((p : Int) == f) = false := by simpa using hpf
    rw [e0]
    go_enter Tryz.func35, Tryz.ntmps35
    go_wp2_with fail
    go_ret
    exact ⟨rfl, hb1⟩
theorem l4Fits_any (f b : Int) (A : Option Addr) (n c : Nat) (D : Option Addr) (p dc : Nat) (z : Nat → Int) (w : World) (hd : Rd w w.heap.size D p z) (hp : p ≤ 4194304) :
    Calls Tryz.prog 60 #[enV f b A n c, .slice D p dc] w fun e w' => e = .returned (.bool (fitB f p z)) ∧ Below w.heap.size w w' := by
  have hb1 := (Below.refl w.heap.size w).alloc (Nat.le_refl _) (.cells #[.int .i64 f, .int .i64 b, .slice A n c] 26)
  have hd1 := hd.to hb1 hb1.size
  cases hdc : docB p z with
  | false =>
    have e0 : fitB f p z = false := by unfold fitB; rw [hdc, Bool.and_false]
    have HD := hid hdc
    rw [e0]
    clear hdc
    go_enter Tryz.func60, Tryz.ntmps60
    go_wp2_with fail
    refine (sDocOk_any D p dc z _ hd1 hp).mono ?_
    rintro e w2 ⟨rfl, rfl⟩
    rw [HD.out]
    go_wp2_with fail
    go_ret
    exact ⟨rfl, hb1⟩
  | true =>
    have e0 : Hid (fitB f p z = ((p : Int) == f)) := by
      show _ = _
      unfold fitB
      rw [hdc, Bool.and_true]
      by_cases hpf : (p : Int) = f
      · rw [decide_eq_true hpf]; exact (by simpa using hpf : ((p : Int) == f) = true).symm
      · rw [decide_eq_false hpf]; exact (by simpa using hpf : ((p : Int) == f) = false).symm
    have HD := hid hdc
    clear hdc
    go_enter Tryz.func60, Tryz.ntmps60
    go_wp2_with fail
    refine (sDocOk_any D p dc z _ hd1 hp).mono ?_
    rintro e w2 ⟨rfl, rfl⟩
    rw [HD.out]
    go_wp2_with fail
    go_ret
    exact ⟨by rw [e0.out]; rfl, hb1⟩

set_option maxRecDepth 100000 in
set_option maxHeartbeats 2000000 in
theorem iFull_yes (f b : Int) (A : Option Addr) (n c : Nat) (len : Nat → Nat) (g : Nat → Nat → Nd) (D : Option Addr) (p dc : Nat) (z : Nat → Int) (w : World) (h : RdT w w.heap.size A n len g) (hd : Rd w w.heap.size D p z) (hn : n ≤ 4194304) (hlen : Hid (∀ i, i < n → len i ≤ 4194304)) (hp : p ≤ 4194304) (hy : ensB f b n len g = true) (hf : fitB f p z = true) :
    Calls Tryz.prog 12 #[enV f b A n c, .slice D p dc] w fun e w' => e = .returned (.tuple #[.int .i64 (b + sumT (scF g z) n), .bool true]) ∧ Below w.heap.size w w' := by
  obtain ⟨qf, qb, q12, qt⟩ := ensB_iff.1 hy
  obtain ⟨hpf, hdoc⟩ : (p : Int) = f ∧ docB p z = true := by unfold fitB at hf; simpa using hf
  have HT := hid qt
  have HY := hid hy
  have HF := hid hf
  have HD := hid hdoc
  have HP := hid hpf
  have HL := hid (sumT_bound (p := scF g z) (n := n) fun i hi => lvv_bound z (qt i hi))
  clear hy qt hf hdoc hpf
  have hb1 := (Below.refl w.heap.size w).alloc (Nat.le_refl _) (.cells #[.int .i64 f, .int .i64 b, .slice A n c] 26)
  have hE1 := Blk.new w 26 #[.int .i64 f, .int .i64 b, .slice A n c]
  have h1 := h.to hb1 hb1.size
  have hd1 := hd.to hb1 hb1.size
  go_enter Tryz.func12, Tryz.ntmps12
  go_wp2_with fail
  refine (iEnsOk_any f b A n c len g _ h1 hn hlen).mono ?_
  rintro e w2 ⟨rfl, hb2⟩
  rw [HY.out]
  have hw2 := hb1.trans (hb2.mono hb1.size)
  have hE2 := hE1.below hb2 hE1.lt
  have h2 := h1.to hb2 hb2.size
  have hd2 := hd1.to hb2 hb2.size
  clear hb1 hb2 h1 hE1 hd1
  obtain ⟨c0, c1, c2, _, _, _⟩ := blk_cells3 hE2
  go_wp2_with fail
  refine (hasDoc_any f b A n c D p dc z _ hd2 hp).mono ?_
  rintro e w3 ⟨rfl, hb3⟩
  rw [HF.out]
  have hw3 := hw2.trans (hb3.mono hw2.size)
  have hE3 := hE2.below hb3 hE2.lt
  have h3 := h2.to hb3 hb3.size
  have hd3 := hd2.to hb3 hb3.size
  clear hw2 hb3 h2 hE2 hd2 c0 c1 c2
  obtain ⟨c0, c1, c2, _, _, _⟩ := blk_cells3 hE3
  go_wp2_with fail
  go_loopw [6, 23] (fun sc i wr => ∃ k : Nat, k ≤ n ∧ i = .int .i64 k ∧ sc = .int .i64 (b + sumT (scF g z) k) ∧ Below w3.heap.size w3 wr) (fun _ i _ => n - (intOf i).toNat)
  case atStart => exact ⟨0, Nat.zero_le _, rfl, by simp [sumT], Below.refl _ _⟩
  case round =>
    obtain ⟨k, hk, rfl, rfl, hbl⟩ := hrel
    have hwr := hw3.trans (hbl.mono hw3.size)
    by_cases hlt : k < n
    · obtain ⟨bb, off, Ai, ci, rfl, hbb, hc, hrd⟩ := (h3.below hbl).at_ hlt
      have hl : (k : Int) < (n : Int) := by omega
      have hl0 : (0 : Int) ≤ (k : Int) := by omega
      have B1 := HL.out k hk
      have B3 := lvv_bound z (HT.out k hlt)
      have s1 : Hid (sumT (scF g z) (k + 1) = sumT (scF g z) k + lvv (g k) z) := rfl
      have htp : Hid (treeB (g k) (len k) (p : Int) = true) := by show _ = _; rw [HP.out]; exact HT.out k hlt
      have hrd' := hrd.more hbl.size
      go_wp2_with fail
      refine (iLeaf_yes Ai D (len k) ci p dc (g k) z _ hrd' (hd3.to hbl hbl.size) (hlen.out k hlt) HD.out htp.out).mono ?_
      rintro e w5 ⟨T, hE, rfl, hb5⟩
      have hTree := (treeB_iff (g k) (len k) p).1 htp.out
      have hlk := hTree.2.1
      obtain ⟨T2, hT2, hE2'⟩ := ends_some z hTree.up (by omega)
      obtain rfl := hE.same hE2'
      have hv := lvv_is hE (by omega)
      obtain ⟨_, ha⟩ := itr_up z hTree.up (by omega) T hE.1
      have hsq : seqZ (g k) z T = ((itr (g k) z T : Nat) : Int) := rfl
      obtain ⟨b', off', rfl, hb', d0, d1, d2, d3, d4, d5⟩ := (hrd'.to hb5 hb5.size).at_ ha
      rw [← hv] at d5
      rw [hsq]
      have hbl5 := hbl.trans (hb5.mono hbl.size)
      clear hE hE2' hv hsq hTree hb5 hbl hrd hrd' hc hwr d0 d1 d2 d3 d4 hT2
      generalize itr (g k) z T = a at *
      have ha' : (a : Int) < (len k : Int) := by omega
      have ha0 : (0 : Int) ≤ (a : Int) := by omega
      generalize lvv (g k) z = v at *
      generalize sumT (scF g z) k = X at *
      have kb : (k : Int) ≤ 12 := by omega
      have z1 : -13000000000 ≤ b + X + v ∧ b + X + v ≤ 13000000000 := by omega
      obtain ⟨z1a, z1b⟩ := z1
      have w1 : IntKind.i64.wrap (b + X + v) = b + X + v := IntWalk.i64_in _ (by omega)
      go_wp2_with fail
      go_roundw
      case rel => exact ⟨k + 1, by omega, by go_num, (by rw [s1.out, Int.add_assoc]), hbl5⟩
      case measure => simp [intOf]; omega
    · have e : k = n := by omega
      go_wp2_with fail
      go_ret2
      subst e
      exact ⟨rfl, hwr⟩
end

/-! ### EnsF -/
section
set_option linter.unusedVariables false
set_option linter.unusedSimpArgs false
open Go.RowKit Go.Deep

theorem iFull_no (f b : Int) (A : Option Addr) (n c : Nat) (len : Nat → Nat) (g : Nat → Nat → Nd) (D : Option Addr) (p dc : Nat) (z : Nat → Int) (w : World) (h : RdT w w.heap.size A n len g) (hd : Rd w w.heap.size D p z) (hn : n ≤ 4194304) (hlen : Hid (∀ i, i < n → len i ≤ 4194304)) (hp : p ≤ 4194304) (hno : (ensB f b n len g && fitB f p z) = false) :
    Calls Tryz.prog 12 #[enV f b A n c, .slice D p dc] w fun e w' => e = .returned (.tuple #[.int .i64 0, .bool false]) ∧ Below w.heap.size w w' := by
  have hb1 := (Below.refl w.heap.size w).alloc (Nat.le_refl _) (.cells #[.int .i64 f, .int .i64 b, .slice A n c] 26)
  have hE1 := Blk.new w 26 #[.int .i64 f, .int .i64 b, .slice A n c]
  have h1 := h.to hb1 hb1.size
  have hd1 := hd.to hb1 hb1.size
  cases hy : ensB f b n len g with
  | false =>
    have HY := hid hy
    clear hy hno
    go_enter Tryz.func12, Tryz.ntmps12
    go_wp2_with fail
    refine (iEnsOk_any f b A n c len g _ h1 hn hlen).mono ?_
    rintro e w2 ⟨rfl, hb2⟩
    rw [HY.out]
    have hw2 := hb1.trans (hb2.mono hb1.size)
    clear hb1 hb2 h1 hE1 hd1
    go_wp2_with fail
    go_ret2
    exact ⟨rfl, hw2⟩
  | true =>
    rw [hy, Bool.true_and] at hno
    have HY := hid hy
    have HF := hid hno
    clear hy hno
    go_enter Tryz.func12, Tryz.ntmps12
    go_wp2_with fail
    refine (iEnsOk_any f b A n c len g _ h1 hn hlen).mono ?_
    rintro e w2 ⟨rfl, hb2⟩
    rw [HY.out]
    have hw2 := hb1.trans (hb2.mono hb1.size)
    have hE2 := hE1.below hb2 hE1.lt
    have hd2 := hd1.to hb2 hb2.size
    clear hb1 hb2 h1 hE1 hd1
    obtain ⟨c0, c1, c2, _, _, _⟩ := blk_cells3 hE2
    go_wp2_with fail
    refine (hasDoc_any f b A n c D p dc z _ hd2 hp).mono ?_
    rintro e w3 ⟨rfl, hb3⟩
    rw [HF.out]
    have hw3 := hw2.trans (hb3.mono hw2.size)
    clear hw2 hb3 hE2 hd2 c0 c1 c2
    go_wp2_with fail
    go_ret2
    exact ⟨rfl, hw3⟩

theorem sFull_no (f b : Int) (A : Option Addr) (n c : Nat) (len : Nat → Nat) (g : Nat → Nat → Nd) (D : Option Addr) (p dc : Nat) (z : Nat → Int) (w : World) (h : RdT w w.heap.size A n len g) (hd : Rd w w.heap.size D p z) (hn : n ≤ 4194304) (hlen : Hid (∀ i, i < n → len i ≤ 4194304)) (hp : p ≤ 4194304) (hno : (ensB f b n len g && fitB f p z) = false) :
    Calls Tryz.prog 24 #[enV f b A n c, .slice D p dc] w fun e w' => e = .returned (.tuple #[.int .i64 0, .bool false]) ∧ Below w.heap.size w w' := by
  have hb1 := (Below.refl w.heap.size w).alloc (Nat.le_refl _) (.cells #[.int .i64 f, .int .i64 b, .slice A n c] 26)
  have hE1 := Blk.new w 26 #[.int .i64 f, .int .i64 b, .slice A n c]
  have h1 := h.to hb1 hb1.size
  have hd1 := hd.to hb1 hb1.size
  cases hy : ensB f b n len g with
  | false =>
    have HY := hid hy
    clear hy hno
    go_enter Tryz.func24, Tryz.ntmps24
    go_wp2_with fail
    refine (sEnsOk_any f b A n c len g _ h1 hn hlen).mono ?_
    rintro e w2 ⟨rfl, hb2⟩
    rw [HY.out]
    have hw2 := hb1.trans (hb2.mono hb1.size)
    clear hb1 hb2 h1 hE1 hd1
    go_wp2_with fail
    go_ret2
    exact ⟨rfl, hw2⟩
  | true =>
    rw [hy, Bool.true_and] at hno
    have HY := hid hy
    have HF := hid hno
    clear hy hno
    go_enter Tryz.func24, Tryz.ntmps24
    go_wp2_with fail
    refine (sEnsOk_any f b A n c len g _ h1 hn hlen).mono ?_
    rintro e w2 ⟨rfl, hb2⟩
    rw [HY.out]
    have hw2 := hb1.trans (hb2.mono hb1.size)
    have hE2 := hE1.below hb2 hE1.lt
    have hd2 := hd1.to hb2 hb2.size
    clear hb1 hb2 h1 hE1 hd1
    obtain ⟨c0, c1, c2, _, _, _⟩ := blk_cells3 hE2
    go_wp2_with fail
    refine (l4Fits_any f b A n c D p dc z _ hd2 hp).mono ?_
    rintro e w3 ⟨rfl, hb3⟩
    rw [HF.out]
    have hw3 := hw2.trans (hb3.mono hw2.size)
    clear hw2 hb3 hE2 hd2 c0 c1 c2
    go_wp2_with fail
    go_ret2
    exact ⟨rfl, hw3⟩

set_option maxRecDepth 100000 in
set_option maxHeartbeats 4000000 in
theorem l4Score_any (f b : Int) (A : Option Addr) (n c : Nat) (len : Nat → Nat) (g : Nat → Nat → Nd) (D : Option Addr) (p dc : Nat) (z : Nat → Int) (w : World) (h : RdT w w.heap.size A n len g) (hd : Rd w w.heap.size D p z) (hlen : Hid (∀ i, i < n → len i ≤ 4194304)) (hy : ensB f b n len g = true) (hf : fitB f p z = true) :
    Calls Tryz.prog 61 #[enV f b A n c, .slice D p dc] w fun e w' => e = .returned (.int .i64 (b + sumT (scF g z) n)) ∧ Below w.heap.size w w' := by
  obtain ⟨qf, qb, q12, qt⟩ := ensB_iff.1 hy
  obtain ⟨hpf, hdoc⟩ : (p : Int) = f ∧ docB p z = true := by unfold fitB at hf; simpa using hf
  have HT := hid qt
  have HP := hid hpf
  have HL := hid (sumT_bound (p := scF g z) (n := n) fun i hi => lvv_bound z (qt i hi))
  clear hy qt hf hdoc hpf
  have hb1 := (Below.refl w.heap.size w).alloc (Nat.le_refl _) (.cells #[.int .i64 f, .int .i64 b, .slice A n c] 26)
  have hE1 := Blk.new w 26 #[.int .i64 f, .int .i64 b, .slice A n c]
  have h1 := h.to hb1 hb1.size
  have hd1 := hd.to hb1 hb1.size
  go_enter Tryz.func61, Tryz.ntmps61
  go_wp2_with fail
  generalize hW : w.alloc (.cells #[.int .i64 f, .int .i64 b, .slice A n c] 26) = W1 at hb1 hE1 h1 hd1 ⊢
  clear hW
  go_loopw [5, 6] (fun sc i wr => ∃ k : Nat, k ≤ n ∧ i = .int .i64 k ∧ sc = .int .i64 (b + sumT (scF g z) k) ∧ Below W1.heap.size W1 wr) (fun _ i _ => n - (intOf i).toNat)
  case atStart => exact ⟨0, Nat.zero_le _, rfl, by simp [sumT], Below.refl _ _⟩
  case round =>
    obtain ⟨k, hk, rfl, rfl, hbl⟩ := hrel
    have hwr := hb1.trans (hbl.mono hb1.size)
    have hEr := hE1.below hbl hE1.lt
    have hElt := hEr.lt
    obtain ⟨x0, x1, x2, _, _, _⟩ := blk_cells3 hEr
    by_cases hlt : k < n
    · obtain ⟨bb, off, Ai, ci, rfl, hbb, hc, hrd⟩ := (h1.below hbl).at_ hlt
      have hl : (k : Int) < (n : Int) := by omega
      have hl0 : (0 : Int) ≤ (k : Int) := by omega
      have hlb : bb < wr.heap.size := Nat.lt_of_lt_of_le hbb hbl.size
      have B1 := HL.out k hk
      have B3 := lvv_bound z (HT.out k hlt)
      have s1 : Hid (sumT (scF g z) (k + 1) = sumT (scF g z) k + lvv (g k) z) := rfl
      have htp : Hid (treeB (g k) (len k) (p : Int) = true) := by show _ = _; rw [HP.out]; exact HT.out k hlt
      have hTree := (treeB_iff (g k) (len k) p).1 htp.out
      have hlk := hTree.2.1
      obtain ⟨T, hT2, hE⟩ := ends_some z hTree.up (by omega)
      have hv := lvv_is hE (by omega)
      obtain ⟨_, ha⟩ := itr_up z hTree.up (by omega) T hE.1
      have hsq : seqZ (g k) z T = ((itr (g k) z T : Nat) : Int) := rfl
      obtain ⟨b', off', e1, hb', d0, d1, d2, d3, d4, d5⟩ := hrd.at_ ha
      subst e1
      rw [← hv] at d5
      have hbv : b' < wr.heap.size := Nat.lt_of_lt_of_le hb' hbl.size
      have hrw : RdN wr.drew wr.drew.heap.size (some ⟨b', off', none⟩) (len k) (g k) := hrd.more hbl.size
      have hdw0 := hd1.to hbl hbl.size
      have hdw : Rd wr.drew wr.drew.heap.size D p z := hdw0
      clear hdw0
      have HE := hid hE
      have ha' : (itr (g k) z T : Int) < (len k : Int) := by omega
      have ha0 : (0 : Int) ≤ (itr (g k) z T : Int) := by omega
      clear hE hv hTree hrd d0 d1 d2 d3 d4 hT2 x0 x1
      generalize hAt : itr (g k) z T = a at ha ha' ha0 hsq d5
      generalize hVt : lvv (g k) z = v at B3 s1 d5
      generalize hXt : sumT (scF g z) k = X at B1 s1 ⊢
      have kb : (k : Int) ≤ 12 := by omega
      have z1 : -13000000000 ≤ b + X + v ∧ b + X + v ≤ 13000000000 := by omega
      obtain ⟨z1a, z1b⟩ := z1
      have w1 : IntKind.i64.wrap (b + X + v) = b + X + v := IntWalk.i64_in _ (by omega)
      clear hAt hVt hXt
      go_wp2_with fail
      go_region_held3 (fun w' => w'.cell? ⟨w.heap.size, 2, none⟩ = some (.slice (some ⟨bb, off, none⟩) n c) ∧ w'.cell? ⟨bb, off + k, none⟩ = some (.slice (some ⟨b', off', none⟩) (len k) ci) ∧ w'.cell? ⟨b', off' + a * 6 + 5, none⟩ = some (.int .i64 v))
        (first | exact ⟨e2, ec, ev⟩ | (simp [go_sem]; done) | (simp [go_sem, *]; done))
        (first
          | (go_at_call 77; refine (l2Leaf_any (some ⟨b', off', none⟩) D (len k) ci p dc (g k) z wr.drew hrw hdw htp.out).mono ?_; rintro e w5 ⟨T', hE', rfl, hb5⟩; obtain rfl := HE.out.same hE'; rw [hsq]; obtain ⟨hc5, hf5⟩ := bcell hb5; have e2 := (hc5 w.heap.size _ hElt).trans x2; have ec := (hc5 bb _ hlb).trans hc; have ev := (hc5 b' _ hbv).trans d5))
      have hbl5 := hbl.drew.trans (hb5.mono hbl.size)
      clear hb5 hbl hc hwr x2 d5 e2 ec ev hc5 hf5 hrw hdw hE'
      go_wp2_with fail
      go_roundw
      case rel => exact ⟨k + 1, by omega, by go_num, (by rw [s1.out, Int.add_assoc]), hbl5⟩
      case measure => simp [intOf]; omega
    · have e : k = n := by omega
      go_wp2_with fail
      go_ret
      subst e
      exact ⟨rfl, hwr⟩

set_option maxHeartbeats 1000000 in
theorem sFull_yes (f b : Int) (A : Option Addr) (n c : Nat) (len : Nat → Nat) (g : Nat → Nat → Nd) (D : Option Addr) (p dc : Nat) (z : Nat → Int) (w : World) (h : RdT w w.heap.size A n len g) (hd : Rd w w.heap.size D p z) (hn : n ≤ 4194304) (hlen : Hid (∀ i, i < n → len i ≤ 4194304)) (hp : p ≤ 4194304) (hy : ensB f b n len g = true) (hf : fitB f p z = true) :
    Calls Tryz.prog 24 #[enV f b A n c, .slice D p dc] w fun e w' => e = .returned (.tuple #[.int .i64 (b + sumT (scF g z) n), .bool true]) ∧ Below w.heap.size w w' := by
  have HY := hid hy
  have HF := hid hf
  clear hy hf
  have hb1 := (Below.refl w.heap.size w).alloc (Nat.le_refl _) (.cells #[.int .i64 f, .int .i64 b, .slice A n c] 26)
  have hE1 := Blk.new w 26 #[.int .i64 f, .int .i64 b, .slice A n c]
  have h1 := h.to hb1 hb1.size
  have hd1 := hd.to hb1 hb1.size
  go_enter Tryz.func24, Tryz.ntmps24
  go_wp2_with fail
  refine (sEnsOk_any f b A n c len g _ h1 hn hlen).mono ?_
  rintro e w2 ⟨rfl, hb2⟩
  rw [HY.out]
  have hw2 := hb1.trans (hb2.mono hb1.size)
  have hE2 := hE1.below hb2 hE1.lt
  have h2 := h1.to hb2 hb2.size
  have hd2 := hd1.to hb2 hb2.size
  clear hb1 hb2 h1 hE1 hd1
  obtain ⟨c0, c1, c2, _, _, _⟩ := blk_cells3 hE2
  go_wp2_with fail
  refine (l4Fits_any f b A n c D p dc z _ hd2 hp).mono ?_
  rintro e w3 ⟨rfl, hb3⟩
  rw [HF.out]
  have hw3 := hw2.trans (hb3.mono hw2.size)
  have hE3 := hE2.below hb3 hE2.lt
  have h3 := h2.to hb3 hb3.size
  have hd3 := hd2.to hb3 hb3.size
  clear hw2 hb3 h2 hE2 hd2 c0 c1 c2
  obtain ⟨c0, c1, c2, _, _, _⟩ := blk_cells3 hE3
  go_wp2_with fail
  refine (l4Score_any f b A n c len g D p dc z _ h3 hd3 hlen HY.out HF.out).mono ?_
  rintro e w4 ⟨rfl, hb4⟩
  go_wp2_with fail
  go_ret2
  exact ⟨rfl, hw3.trans (hb4.mono hw3.size)⟩

/-- What FullScore gives. -/
def fullN (f b : Int) (n : Nat) (len : Nat → Nat) (g : Nat → Nat → Nd) (p : Nat) (z : Nat → Int) : Int := if (ensB f b n len g && fitB f p z) = true then b + sumT (scF g z) n else 0
def fullB (f b : Int) (n : Nat) (len : Nat → Nat) (g : Nat → Nat → Nd) (p : Nat) (z : Nat → Int) : Bool := ensB f b n len g && fitB f p z
theorem iFull_any (f b : Int) (A : Option Addr) (n c : Nat) (len : Nat → Nat) (g : Nat → Nat → Nd) (D : Option Addr) (p dc : Nat) (z : Nat → Int) (w : World) (h : RdT w w.heap.size A n len g) (hd : Rd w w.heap.size D p z) (hn : n ≤ 4194304) (hlen : Hid (∀ i, i < n → len i ≤ 4194304)) (hp : p ≤ 4194304) :
    Calls Tryz.prog 12 #[enV f b A n c, .slice D p dc] w fun e w' => e = .returned (.tuple #[.int .i64 (fullN f b n len g p z), .bool (fullB f b n len g p z)]) ∧ Below w.heap.size w w' := by
  unfold fullN fullB
  cases hy : (ensB f b n len g && fitB f p z) with
  | false => rw [if_neg (by simp)]; exact iFull_no f b A n c len g D p dc z w h hd hn hlen hp hy
  | true =>
    rw [if_pos rfl]
    simp only [Bool.and_eq_true] at hy
    exact iFull_yes f b A n c len g D p dc z w h hd hn hlen hp hy.1 hy.2
theorem sFull_any (f b : Int) (A : Option Addr) (n c : Nat) (len : Nat → Nat) (g : Nat → Nat → Nd) (D : Option Addr) (p dc : Nat) (z : Nat → Int) (w : World) (h : RdT w w.heap.size A n len g) (hd : Rd w w.heap.size D p z) (hn : n ≤ 4194304) (hlen : Hid (∀ i, i < n → len i ≤ 4194304)) (hp : p ≤ 4194304) :
    Calls Tryz.prog 24 #[enV f b A n c, .slice D p dc] w fun e w' => e = .returned (.tuple #[.int .i64 (fullN f b n len g p z), .bool (fullB f b n len g p z)]) ∧ Below w.heap.size w w' := by
  unfold fullN fullB
  cases hy : (ensB f b n len g && fitB f p z) with
  | false => rw [if_neg (by simp)]; exact sFull_no f b A n c len g D p dc z w h hd hn hlen hp hy
  | true =>
    rw [if_pos rfl]
    simp only [Bool.and_eq_true] at hy
    exact sFull_yes f b A n c len g D p dc z w h hd hn hlen hp hy.1 hy.2
end
end Go.Proofs.YtlgomifpohdniaaGreat
