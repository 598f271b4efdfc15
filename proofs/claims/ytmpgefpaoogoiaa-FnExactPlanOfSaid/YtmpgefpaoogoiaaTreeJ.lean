/- PathOf: one step of it, on both sides. -/
import Derived.Test.YtmpgefpaoogoiaaTreeH
import Derived.Test.YtmpgefpaoogoiaaDocF
import Derived.Deep.RegionHeld3
namespace Go.Proofs.Ytmpgefpaoogoiaa
open Go.RowKit Go.Deep

theorem goL_gone (d : Nd) (x : Int) (h : (x == 9999999) = true) : goL d x = d.miss := by simp at h; simp [goL, h]
theorem goL_here (d : Nd) (x : Int) (h : (x == 9999999) = false) : goL d x = decide (x ≤ d.cut) := by simp at h; simp [goL, h]
def nxI (d : Nd) (x : Int) : Int := if goL d x = true then d.left else d.right
def nxP (d : Nd) (x : Int) (p q : Option Addr) : Option Addr := if goL d x = true then p else q

set_option maxHeartbeats 1000000 in
/-- l2Next: where a document goes from a split. -/
theorem l2Next_any (k : Nat) (cu le ri : Int) (mi : Bool) (va : Int) (A : Option Addr) (n cap : Nat) (z : Nat → Int) (w : World) (h : Rd w w.heap.size A n z) (hk : k < n) :
    Calls Try.prog 175 #[ndV ⟨(k : Int), cu, le, ri, mi, va⟩, .slice A n cap] w fun e w' =>
      e = .returned (.int .i64 (nxI ⟨(k : Int), cu, le, ri, mi, va⟩ (z k))) ∧ Below w.heap.size w w' := by
  obtain ⟨b, off, rfl, hb, hc⟩ := h.at_ hk
  have hl : (k : Int) < (n : Int) := by omega
  obtain ⟨x, hx⟩ : ∃ x, z k = x := ⟨_, rfl⟩
  rw [hx] at hc ⊢
  clear hx
  have hW := hid ((Below.refl w.heap.size w).alloc (Nat.le_refl _) (.cells #[.int .i64 (k : Int), .int .i64 cu, .int .i64 le, .int .i64 ri, .bool mi, .int .i64 va] 135))
  cases hx1 : (x == 9999999)
  · have hg := goL_here ⟨(k : Int), cu, le, ri, mi, va⟩ x hx1
    have hx2 : (x != 9999999) = true := by simp at hx1; simp [hx1]
    by_cases hxc : x ≤ cu
    · have hr : nxI ⟨(k : Int), cu, le, ri, mi, va⟩ x = le := by unfold nxI; rw [if_pos (by rw [hg]; simpa using hxc)]
      have HR := hid hr
      clear hg hr
      go_enter Try.func175, Try.ntmps175
      go_wp2_with fail
      go_ret
      exact ⟨by rw [HR.out]; rfl, hW.out⟩
    · have hr : nxI ⟨(k : Int), cu, le, ri, mi, va⟩ x = ri := by unfold nxI; rw [if_neg (by rw [hg]; simpa using hxc)]
      have HR := hid hr
      clear hg hr
      go_enter Try.func175, Try.ntmps175
      go_wp2_with fail
      go_ret
      exact ⟨by rw [HR.out]; rfl, hW.out⟩
  · have hg := goL_gone ⟨(k : Int), cu, le, ri, mi, va⟩ x hx1
    have hx2 : (x != 9999999) = false := by simp at hx1; simp [hx1]
    cases mi
    · have hr : nxI ⟨(k : Int), cu, le, ri, false, va⟩ x = ri := by unfold nxI; rw [if_neg (by rw [hg]; simp)]
      have HR := hid hr
      clear hg hr
      go_enter Try.func175, Try.ntmps175
      go_wp2_with fail
      go_ret
      exact ⟨by rw [HR.out]; rfl, hW.out⟩
    · have hr : nxI ⟨(k : Int), cu, le, ri, true, va⟩ x = le := by unfold nxI; rw [if_pos (by rw [hg])]
      have HR := hid hr
      clear hg hr
      go_enter Try.func175, Try.ntmps175
      go_wp2_with fail
      go_ret
      exact ⟨by rw [HR.out]; rfl, hW.out⟩

set_option maxHeartbeats 2000000 in
/-- next: the twig behind a split's twig. -/
theorem next_split (k : Nat) (cu le ri : Int) (mi : Bool) (va : Int) (b i : Nat) (p q : Option Addr) (z : Nat → Int) (m : Int) (w : World) (ht : Tw w b ⟨(k : Int), cu, le, ri, mi, va⟩ i p q) (hs : (le == 0) = false) (hk : k < 6) :
    Calls Try.prog 114 #[.pointer (some ⟨b, 0, none⟩), docV z m] w fun e w' =>
      e = .returned (.pointer (nxP ⟨(k : Int), cu, le, ri, mi, va⟩ (z k) p q)) ∧ Below w.heap.size w w' := by
  have hlt := ht.lt
  have hk6 : (k : Int) < 6 := by omega
  have hk0 : (0 : Int) ≤ (k : Int) := by omega
  obtain ⟨c0, c1, c2, c3, c4, c5, c6, c7, c8⟩ := tw_cells ht
  go_enter Try.func114, Try.ntmps114
  go_wp2_with fail
  refine (isLeaf_any ⟨(k : Int), cu, le, ri, mi, va⟩ _).mono ?_
  rintro e w1 ⟨rfl, hb1⟩
  rw [hs]
  have tw1 : Tw w1 b ⟨(k : Int), cu, le, ri, mi, va⟩ i p q := Blk.below (ht.alloc _) hb1 (by simp; omega)
  have dc1 : Blk w1 w.heap.size 139 (docC z m) := Blk.below (Blk.new w _ _) hb1 (by simp)
  have hW1 : Below w.heap.size w w1 := ((Below.refl _ _).alloc (Nat.le_refl _) _).trans (hb1.mono (by simp))
  clear hb1 c0 c1 c2 c3 c4 c5 c6 c7 c8
  have hbl := tw1.lt
  have hdl := dc1.lt
  obtain ⟨c0, c1, c2, c3, c4, c5, c6, c7, c8⟩ := tw_cells tw1
  have cx : w1.cell? ⟨w.heap.size, k, none⟩ = some (.int .i64 (z k)) := by rw [dc1.cell, docC_at _ _ _ hk]
  go_wp2_with fail
  go_region_held3 (fun w' => w'.cell? ⟨b, 0, none⟩ = some (.int .i64 (k : Int)) ∧ w'.cell? ⟨b, 1, none⟩ = some (.int .i64 cu) ∧ w'.cell? ⟨b, 2, none⟩ = some (.int .i64 le) ∧ w'.cell? ⟨b, 3, none⟩ = some (.int .i64 ri) ∧ w'.cell? ⟨b, 4, none⟩ = some (.bool mi) ∧ w'.cell? ⟨b, 5, none⟩ = some (.int .i64 va) ∧ w'.cell? ⟨w.heap.size, k, none⟩ = some (.int .i64 (z k)))
    (first | (simp [go_sem]; done) | exact ⟨e0, e1, e2, e3, e4, e5, ex⟩ | (simp [go_sem, *]; done))
    (first
      | (go_at_call 146; refine (goesLeft_any ⟨(k : Int), cu, le, ri, mi, va⟩ (z k) _).mono ?_; rintro e w2 ⟨rfl, hb2⟩; obtain ⟨hc2, hf2⟩ := bcell hb2; have e0 := (hc2 b _ hbl).trans c0; have e1 := (hc2 b _ hbl).trans c1; have e2 := (hc2 b _ hbl).trans c2; have e3 := (hc2 b _ hbl).trans c3; have e4 := (hc2 b _ hbl).trans c4; have e5 := (hc2 b _ hbl).trans c5; have ex := (hc2 w.heap.size _ hdl).trans cx))
  have tw2 : Tw w2 b ⟨(k : Int), cu, le, ri, mi, va⟩ i p q := Blk.below (w := w1.drew) tw1 hb2 hbl
  have hW2 := hW1.drew.trans (hb2.mono hW1.size)
  clear hb2 hc2 hf2 hW1 tw1 dc1 c0 c1 c2 c3 c4 c5 c6 c7 c8 cx e0 e1 e2 e3 e4 e5 ex
  obtain ⟨c0, c1, c2, c3, c4, c5, c6, c7, c8⟩ := tw_cells tw2
  cases hg : goL ⟨(k : Int), cu, le, ri, mi, va⟩ (z k)
  · have hr : nxP ⟨(k : Int), cu, le, ri, mi, va⟩ (z k) p q = q := by unfold nxP; rw [if_neg (by rw [hg]; simp)]
    have HR := hid hr
    clear hg hr
    go_wp2_with fail
    go_ret
    exact ⟨by rw [HR.out]; rfl, hW2⟩
  · have hr : nxP ⟨(k : Int), cu, le, ri, mi, va⟩ (z k) p q = p := by unfold nxP; rw [if_pos hg]
    have HR := hid hr
    clear hg hr
    go_wp2_with fail
    go_ret
    exact ⟨by rw [HR.out]; rfl, hW2⟩

theorem next_leaf (d : Nd) (b i : Nat) (p q : Option Addr) (z : Nat → Int) (m : Int) (w : World) (ht : Tw w b d i p q) (hs : (d.left == 0) = true) :
    Calls Try.prog 114 #[.pointer (some ⟨b, 0, none⟩), docV z m] w fun e w' => e = .returned (.pointer none) ∧ Below w.heap.size w w' := by
  have hlt := ht.lt
  obtain ⟨c0, c1, c2, c3, c4, c5, c6, c7, c8⟩ := tw_cells ht
  go_enter Try.func114, Try.ntmps114
  go_wp2_with fail
  refine (isLeaf_any d _).mono ?_
  rintro e w1 ⟨rfl, hb1⟩
  rw [hs]
  go_wp2_with fail
  go_ret
  exact ⟨rfl, ((Below.refl _ _).alloc (Nat.le_refl _) _).trans (hb1.mono (by simp))⟩
end Go.Proofs.Ytmpgefpaoogoiaa
