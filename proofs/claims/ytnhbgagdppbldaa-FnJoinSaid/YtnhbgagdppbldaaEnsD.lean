/- SpanOf on both sides; the walk of its exact law. -/
import Derived.Test.YtnhbgagdppbldaaEnsC
import Derived.Test.YtnhbgagdppbldaaFeatsLaw
namespace Go.Proofs.Ytnhbgagdppbldaa
open Go.RowKit Go.Deep

def sumT (p : Nat → Int) : Nat → Int
  | 0 => 0
  | k + 1 => sumT p k + p k
theorem sumT_bound {p : Nat → Int} {n : Nat} (h : ∀ i, i < n → -1000000000 ≤ p i ∧ p i ≤ 1000000000) : ∀ k, k ≤ n → -1000000000 * (k : Int) ≤ sumT p k ∧ sumT p k ≤ 1000000000 * (k : Int) := by
  intro k
  induction k with
  | zero => intro _; simp [sumT]
  | succ k ih =>
    intro hk
    have := ih (by omega)
    have := h k (by omega)
    simp only [sumT]
    omega
theorem lo_bound {g : Nat → Nd} {n : Nat} {f : Int} (h : treeB g n f = true) : -1000000000 ≤ loTo g n ∧ loTo g n ≤ 1000000000 := by
  have hT := (treeB_iff g n f).1 h
  rcases loTo_at g n with e | ⟨j, hj, hl, e⟩
  · omega
  · have := hT.leaf hj hl; omega
theorem hi_bound {g : Nat → Nd} {n : Nat} {f : Int} (h : treeB g n f = true) : -1000000000 ≤ hiTo g n ∧ hiTo g n ≤ 1000000000 := by
  have hT := (treeB_iff g n f).1 h
  rcases hiTo_at g n with e | ⟨j, hj, hl, e⟩
  · omega
  · have := hT.leaf hj hl; omega
def loF (len : Nat → Nat) (g : Nat → Nat → Nd) : Nat → Int := fun i => loTo (g i) (len i)
def hiF (len : Nat → Nat) (g : Nat → Nat → Nd) : Nat → Int := fun i => hiTo (g i) (len i)
def spanLo (f b : Int) (n : Nat) (len : Nat → Nat) (g : Nat → Nat → Nd) : Int := if ensB f b n len g = true then b + sumT (loF len g) n else 0
def spanHi (f b : Int) (n : Nat) (len : Nat → Nat) (g : Nat → Nat → Nd) : Int := if ensB f b n len g = true then b + sumT (hiF len g) n else 0

theorem iSpan_no (f b : Int) (A : Option Addr) (n c : Nat) (len : Nat → Nat) (g : Nat → Nat → Nd) (w : World) (h : RdT w w.heap.size A n len g) (hn : n ≤ 4194304) (hlen : Hid (∀ i, i < n → len i ≤ 4194304)) (hno : ensB f b n len g = false) :
    Calls Try.prog 46 #[enV f b A n c] w fun e w' => e = .returned (.tuple #[.int .i64 0, .int .i64 0]) ∧ Below w.heap.size w w' := by
  have HN := hid hno
  clear hno
  have hb1 := (Below.refl w.heap.size w).alloc (Nat.le_refl _) (.cells #[.int .i64 f, .int .i64 b, .slice A n c] 54)
  have h1 := h.to hb1 hb1.size
  go_enter Try.func46, Try.ntmps46
  go_wp2_with fail
  refine (iEnsOk_any f b A n c len g _ h1 hn hlen).mono ?_
  rintro e w2 ⟨rfl, hb2⟩
  rw [HN.out]
  have hw2 := hb1.trans (hb2.mono hb1.size)
  clear hb1 hb2 h1
  go_wp2_with fail
  go_ret2
  exact ⟨rfl, hw2⟩
theorem sSpan_no (f b : Int) (A : Option Addr) (n c : Nat) (len : Nat → Nat) (g : Nat → Nat → Nd) (w : World) (h : RdT w w.heap.size A n len g) (hn : n ≤ 4194304) (hlen : Hid (∀ i, i < n → len i ≤ 4194304)) (hno : ensB f b n len g = false) :
    Calls Try.prog 47 #[enV f b A n c] w fun e w' => e = .returned (.tuple #[.int .i64 0, .int .i64 0]) ∧ Below w.heap.size w w' := by
  have HN := hid hno
  clear hno
  have hb1 := (Below.refl w.heap.size w).alloc (Nat.le_refl _) (.cells #[.int .i64 f, .int .i64 b, .slice A n c] 54)
  have h1 := h.to hb1 hb1.size
  go_enter Try.func47, Try.ntmps47
  go_wp2_with fail
  refine (sEnsOk_any f b A n c len g _ h1 hn hlen).mono ?_
  rintro e w2 ⟨rfl, hb2⟩
  rw [HN.out]
  have hw2 := hb1.trans (hb2.mono hb1.size)
  clear hb1 hb2 h1
  go_wp2_with fail
  go_ret2
  exact ⟨rfl, hw2⟩

set_option maxRecDepth 100000 in
set_option maxHeartbeats 2000000 in
theorem iSpan_yes (f b : Int) (A : Option Addr) (n c : Nat) (len : Nat → Nat) (g : Nat → Nat → Nd) (w : World) (h : RdT w w.heap.size A n len g) (hn : n ≤ 4194304) (hlen : Hid (∀ i, i < n → len i ≤ 4194304)) (hy : ensB f b n len g = true) :
    Calls Try.prog 46 #[enV f b A n c] w fun e w' => e = .returned (.tuple #[.int .i64 (b + sumT (loF len g) n), .int .i64 (b + sumT (hiF len g) n)]) ∧ Below w.heap.size w w' := by
  obtain ⟨qf, qb, q12, qt⟩ := ensB_iff.1 hy
  have HT := hid qt
  have HY := hid hy
  have HL := hid (sumT_bound (p := loF len g) (n := n) fun i hi => lo_bound (qt i hi))
  have HH := hid (sumT_bound (p := hiF len g) (n := n) fun i hi => hi_bound (qt i hi))
  clear hy qt
  have hb1 := (Below.refl w.heap.size w).alloc (Nat.le_refl _) (.cells #[.int .i64 f, .int .i64 b, .slice A n c] 54)
  have hE1 := Blk.new w 54 #[.int .i64 f, .int .i64 b, .slice A n c]
  have h1 := h.to hb1 hb1.size
  go_enter Try.func46, Try.ntmps46
  go_wp2_with fail
  refine (iEnsOk_any f b A n c len g _ h1 hn hlen).mono ?_
  rintro e w2 ⟨rfl, hb2⟩
  rw [HY.out]
  have hw2 := hb1.trans (hb2.mono hb1.size)
  have hE2 := hE1.below hb2 hE1.lt
  have h2 := h1.to hb2 hb2.size
  clear hb1 hb2 h1 hE1
  obtain ⟨c0, c1, c2, _, _, _⟩ := blk_cells3 hE2
  go_wp2_with fail
  go_region
  have hw3 := hw2.drew
  have hE3 : Blk w2.drew w.heap.size 54 #[.int .i64 f, .int .i64 b, .slice A n c] := hE2
  have h3 : RdT w2.drew w2.drew.heap.size A n len g := h2
  clear hw2 hE2 h2 c0 c1 c2
  generalize w2.drew = W3 at hw3 hE3 h3 ⊢
  obtain ⟨c0, c1, c2, _, _, _⟩ := blk_cells3 hE3
  go_wp2_with fail
  go_loopw [4, 5, 20] (fun lo hi i wr => ∃ k : Nat, k ≤ n ∧ i = .int .i64 k ∧ lo = .int .i64 (b + sumT (loF len g) k) ∧ hi = .int .i64 (b + sumT (hiF len g) k) ∧ Below W3.heap.size W3 wr) (fun _ _ i _ => n - (intOf i).toNat)
  case atStart => exact ⟨0, Nat.zero_le _, rfl, by simp [sumT], by simp [sumT], Below.refl _ _⟩
  case round =>
    obtain ⟨k, hk, rfl, rfl, rfl, hbl⟩ := hrel
    have hwr := hw3.trans (hbl.mono hw3.size)
    by_cases hlt : k < n
    · obtain ⟨bb, off, Ai, ci, rfl, hbb, hc, hrd⟩ := (h3.below hbl).at_ hlt
      have hl : (k : Int) < (n : Int) := by omega
      have hl0 : (0 : Int) ≤ (k : Int) := by omega
      have B1 := HL.out k hk
      have B2 := HH.out k hk
      have B3 := lo_bound (HT.out k hlt)
      have B4 := hi_bound (HT.out k hlt)
      have s1 : Hid (sumT (loF len g) (k + 1) = sumT (loF len g) k + loTo (g k) (len k)) := rfl
      have s2 : Hid (sumT (hiF len g) (k + 1) = sumT (hiF len g) k + hiTo (g k) (len k)) := rfl
      have ht6 := tree_more (HT.out k hlt) qf.2 (Int.le_refl 6)
      have HT6 := hid ht6
      clear ht6
      go_wp2_with fail
      refine (iRange_yes Ai (len k) ci (g k) _ (hrd.more hbl.size) (hlen.out k hlt) HT6.out).mono ?_
      rintro e w5 ⟨rfl, hb5⟩
      have hbl5 := hbl.trans (hb5.mono hbl.size)
      clear hb5 hbl hrd hc hwr
      generalize loTo (g k) (len k) = lo at *
      generalize hiTo (g k) (len k) = hi at *
      generalize sumT (loF len g) k = X at *
      generalize sumT (hiF len g) k = Y at *
      have kb : (k : Int) ≤ 12 := by omega
      have z1 : -13000000000 ≤ b + X + lo ∧ b + X + lo ≤ 13000000000 := by omega
      have z2 : -13000000000 ≤ b + Y + hi ∧ b + Y + hi ≤ 13000000000 := by omega
      obtain ⟨z1a, z1b⟩ := z1
      obtain ⟨z2a, z2b⟩ := z2
      have w1 : IntKind.i64.wrap (b + X + lo) = b + X + lo := IntWalk.i64_in _ (by omega)
      have w2 : IntKind.i64.wrap (b + Y + hi) = b + Y + hi := IntWalk.i64_in _ (by omega)
      go_wp2_with fail
      go_roundw
      case rel => exact ⟨k + 1, by omega, by go_num, (by rw [s1.out, Int.add_assoc]), (by rw [s2.out, Int.add_assoc]), hbl5⟩
      case measure => simp [intOf]; omega
    · have e : k = n := by omega
      go_wp2_with fail
      go_ret2
      subst e
      exact ⟨rfl, hwr⟩

set_option maxRecDepth 100000 in
set_option maxHeartbeats 2000000 in
theorem sSpan_yes (f b : Int) (A : Option Addr) (n c : Nat) (len : Nat → Nat) (g : Nat → Nat → Nd) (w : World) (h : RdT w w.heap.size A n len g) (hn : n ≤ 4194304) (hlen : Hid (∀ i, i < n → len i ≤ 4194304)) (hy : ensB f b n len g = true) :
    Calls Try.prog 47 #[enV f b A n c] w fun e w' => e = .returned (.tuple #[.int .i64 (b + sumT (loF len g) n), .int .i64 (b + sumT (hiF len g) n)]) ∧ Below w.heap.size w w' := by
  obtain ⟨qf, qb, q12, qt⟩ := ensB_iff.1 hy
  have HT := hid qt
  have HY := hid hy
  have HL := hid (sumT_bound (p := loF len g) (n := n) fun i hi => lo_bound (qt i hi))
  have HH := hid (sumT_bound (p := hiF len g) (n := n) fun i hi => hi_bound (qt i hi))
  clear hy qt
  have hb1 := (Below.refl w.heap.size w).alloc (Nat.le_refl _) (.cells #[.int .i64 f, .int .i64 b, .slice A n c] 54)
  have hE1 := Blk.new w 54 #[.int .i64 f, .int .i64 b, .slice A n c]
  have h1 := h.to hb1 hb1.size
  go_enter Try.func47, Try.ntmps47
  go_wp2_with fail
  refine (sEnsOk_any f b A n c len g _ h1 hn hlen).mono ?_
  rintro e w2 ⟨rfl, hb2⟩
  rw [HY.out]
  have hw2 := hb1.trans (hb2.mono hb1.size)
  have hE2 := hE1.below hb2 hE1.lt
  have h2 := h1.to hb2 hb2.size
  clear hb1 hb2 h1 hE1
  obtain ⟨c0, c1, c2, _, _, _⟩ := blk_cells3 hE2
  go_wp2_with fail
  go_loopw [4, 5, 6] (fun lo hi i wr => ∃ k : Nat, k ≤ n ∧ i = .int .i64 k ∧ lo = .int .i64 (b + sumT (loF len g) k) ∧ hi = .int .i64 (b + sumT (hiF len g) k) ∧ Below w2.heap.size w2 wr) (fun _ _ i _ => n - (intOf i).toNat)
  case atStart => exact ⟨0, Nat.zero_le _, rfl, by simp [sumT], by simp [sumT], Below.refl _ _⟩
  case round =>
    obtain ⟨k, hk, rfl, rfl, rfl, hbl⟩ := hrel
    have hwr := hw2.trans (hbl.mono hw2.size)
    have hEr := hE2.below hbl hE2.lt
    obtain ⟨x0, x1, x2, _, _, _⟩ := blk_cells3 hEr
    by_cases hlt : k < n
    · obtain ⟨bb, off, Ai, ci, rfl, hbb, hc, hrd⟩ := (h2.below hbl).at_ hlt
      have hl : (k : Int) < (n : Int) := by omega
      have hl0 : (0 : Int) ≤ (k : Int) := by omega
      have B1 := HL.out k hk
      have B2 := HH.out k hk
      have B3 := lo_bound (HT.out k hlt)
      have B4 := hi_bound (HT.out k hlt)
      have s1 : Hid (sumT (loF len g) (k + 1) = sumT (loF len g) k + loTo (g k) (len k)) := rfl
      have s2 : Hid (sumT (hiF len g) (k + 1) = sumT (hiF len g) k + hiTo (g k) (len k)) := rfl
      go_wp2_with fail
      refine (l2Range_any Ai (len k) ci (g k) _ (hrd.more hbl.size) (hlen.out k hlt)).mono ?_
      rintro e w5 ⟨rfl, rfl⟩
      clear hrd hc hwr
      generalize loTo (g k) (len k) = lo at *
      generalize hiTo (g k) (len k) = hi at *
      generalize sumT (loF len g) k = X at *
      generalize sumT (hiF len g) k = Y at *
      have kb : (k : Int) ≤ 12 := by omega
      have z1 : -13000000000 ≤ b + X + lo ∧ b + X + lo ≤ 13000000000 := by omega
      have z2 : -13000000000 ≤ b + Y + hi ∧ b + Y + hi ≤ 13000000000 := by omega
      obtain ⟨z1a, z1b⟩ := z1
      obtain ⟨z2a, z2b⟩ := z2
      have w1 : IntKind.i64.wrap (b + X + lo) = b + X + lo := IntWalk.i64_in _ (by omega)
      have w2 : IntKind.i64.wrap (b + Y + hi) = b + Y + hi := IntWalk.i64_in _ (by omega)
      go_wp2_with fail
      go_roundw
      case rel => exact ⟨k + 1, by omega, by go_num, (by rw [s1.out, Int.add_assoc]), (by rw [s2.out, Int.add_assoc]), hbl⟩
      case measure => simp [intOf]; omega
    · have e : k = n := by omega
      go_wp2_with fail
      go_ret2
      subst e
      exact ⟨rfl, hwr⟩

theorem iSpan_any (f b : Int) (A : Option Addr) (n c : Nat) (len : Nat → Nat) (g : Nat → Nat → Nd) (w : World) (h : RdT w w.heap.size A n len g) (hn : n ≤ 4194304) (hlen : Hid (∀ i, i < n → len i ≤ 4194304)) :
    Calls Try.prog 46 #[enV f b A n c] w fun e w' => e = .returned (.tuple #[.int .i64 (spanLo f b n len g), .int .i64 (spanHi f b n len g)]) ∧ Below w.heap.size w w' := by
  unfold spanLo spanHi
  cases hy : ensB f b n len g with
  | false => rw [if_neg (by simp), if_neg (by simp)]; exact iSpan_no f b A n c len g w h hn hlen hy
  | true => rw [if_pos rfl, if_pos rfl]; exact iSpan_yes f b A n c len g w h hn hlen hy
theorem sSpan_any (f b : Int) (A : Option Addr) (n c : Nat) (len : Nat → Nat) (g : Nat → Nat → Nd) (w : World) (h : RdT w w.heap.size A n len g) (hn : n ≤ 4194304) (hlen : Hid (∀ i, i < n → len i ≤ 4194304)) :
    Calls Try.prog 47 #[enV f b A n c] w fun e w' => e = .returned (.tuple #[.int .i64 (spanLo f b n len g), .int .i64 (spanHi f b n len g)]) ∧ Below w.heap.size w w' := by
  unfold spanLo spanHi
  cases hy : ensB f b n len g with
  | false => rw [if_neg (by simp), if_neg (by simp)]; exact sSpan_no f b A n c len g w h hn hlen hy
  | true => rw [if_pos rfl, if_pos rfl]; exact sSpan_yes f b A n c len g w h hn hlen hy
end Go.Proofs.Ytnhbgagdppbldaa
