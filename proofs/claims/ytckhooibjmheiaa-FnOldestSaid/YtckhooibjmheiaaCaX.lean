/- Caches: copies, comparisons and sizes of the exact laws. -/
import Derived.Test.YtckhooibjmheiaaCaG
import Derived.Deep.RegionHeld3
namespace Go.Proofs.Ytckhooibjmheiaa
open Go.RowKit Go.Deep
set_option linter.unusedVariables false
set_option linter.unusedSimpArgs false

def put3v (cs : Array Value) (k : Nat) (x y z : Value) : Array Value := ((cs.setIfInBounds (k * 3) x).setIfInBounds (k * 3 + 1) y).setIfInBounds (k * 3 + 2) z
theorem put3v_size (cs : Array Value) (k : Nat) (x y z : Value) : (put3v cs k x y z).size = cs.size := by simp [put3v]
theorem put3v_in {cs : Array Value} {k : Nat} (x y z : Value) (h : k * 3 + 3 ≤ cs.size) : (put3v cs k x y z)[k * 3]? = some x ∧ (put3v cs k x y z)[k * 3 + 1]? = some y ∧ (put3v cs k x y z)[k * 3 + 2]? = some z := by
  unfold put3v
  refine ⟨?_, ?_, ?_⟩
  all_goals (simp only [Array.getElem?_setIfInBounds, Array.size_setIfInBounds]; simp; try omega)
theorem put3v_out {cs : Array Value} {k : Nat} (x y z : Value) (p : Nat) (hp : p < k * 3 ∨ k * 3 + 3 ≤ p) : (put3v cs k x y z)[p]? = cs[p]? := by
  unfold put3v
  rw [Array.getElem?_setIfInBounds_ne (by omega), Array.getElem?_setIfInBounds_ne (by omega), Array.getElem?_setIfInBounds_ne (by omega)]
theorem blk_put3v {w : World} {b : Nat} {t : TypeId} {cs : Array Value} (h : Blk w b t cs) (k : Nat) (x y z : Value) :
    Blk (((w.setCell ⟨b, k * 3, none⟩ x).setCell ⟨b, k * 3 + 1, none⟩ y).setCell ⟨b, k * 3 + 2, none⟩ z) b t (put3v cs k x y z) :=
  ((h.set_ (k * 3) x).set_ (k * 3 + 1) y).set_ (k * 3 + 2) z
theorem below_put3v {B : Nat} {a w : World} {b : Nat} (h : Below B a w) (hb : B ≤ b) (k : Nat) (x y z : Value) :
    Below B a (((w.setCell ⟨b, k * 3, none⟩ x).setCell ⟨b, k * 3 + 1, none⟩ y).setCell ⟨b, k * 3 + 2, none⟩ z) := by
  have h0 := h.setCell (p := ⟨b, k * 3, none⟩) hb x
  have h1 := h0.setCell (p := ⟨b, k * 3 + 1, none⟩) hb y
  exact h1.setCell (p := ⟨b, k * 3 + 2, none⟩) hb z

set_option maxRecDepth 100000 in
set_option maxHeartbeats 2000000 in
theorem toSlot_any (A : Option Addr) (c : Nat) (x : Slt) (w : World) (h : RdS w w.heap.size A x.n x.g) (hn : x.n ≤ 4194304) :
    Calls Try.prog 157 #[slV A c x] w fun e w' => ∃ b, e = .returned (slV (some ⟨b, 0, none⟩) x.n x) ∧ w.heap.size ≤ b ∧ RowS w' 74 b x.n x.g ∧ Below w.heap.size w w' := by
  have hb3 := (((Below.refl w.heap.size w).alloc (Nat.le_refl _) (.cells #[.slice A x.n c, .int .i64 x.score, .int .i64 x.used] 190)).alloc (by simp) (.cells #[.slice none 0 0, .int .i64 0, .int .i64 0] 37)).alloc (by simp; omega) (.cells #[.slice none 0 0, .int .i64 0, .int .i64 0] 37)
  have h3 := h.to hb3 hb3.size
  have hE := ((Blk.new w 190 #[.slice A x.n c, .int .i64 x.score, .int .i64 x.used]).alloc (.cells #[.slice none 0 0, .int .i64 0, .int .i64 0] 37)).alloc (.cells #[.slice none 0 0, .int .i64 0, .int .i64 0] 37)
  have hR := (Blk.new2 w (.cells #[.slice A x.n c, .int .i64 x.score, .int .i64 x.used] 190) 37 #[.slice none 0 0, .int .i64 0, .int .i64 0]).alloc (.cells #[.slice none 0 0, .int .i64 0, .int .i64 0] 37)
  have hO := Blk.new3 w (.cells #[.slice A x.n c, .int .i64 x.score, .int .i64 x.used] 190) (.cells #[.slice none 0 0, .int .i64 0, .int .i64 0] 37) 37 #[.slice none 0 0, .int .i64 0, .int .i64 0]
  go_enter Try.func157, Try.ntmps157
  go_wp2_with fail
  refine (toS_any A x.n c x.g _ h3 hn).mono ?_
  rintro e w4 ⟨b4, rfl, hb4l, hrow, hb4⟩
  have hE4 := hE.below hb4 hE.lt
  have hR4 := hR.below hb4 hR.lt
  have hO4 := hO.below hb4 hO.lt
  have hw4 := hb3.trans (hb4.mono hb3.size)
  obtain ⟨e0, e1, e2, _, _, _⟩ := blk_cells3 hE4
  obtain ⟨r0, r1, r2, r3, r4, r5⟩ := blk_cells3 hR4
  obtain ⟨o0, o1, o2, o3, o4, o5⟩ := blk_cells3 hO4
  have hbl' : w.heap.size ≤ b4 := by simp at hb4l; omega
  have hnr : b4 ≠ w.heap.size + 1 := by obtain ⟨cs, hcs, _⟩ := hrow; exact hcs.ne_ hR4 (by decide)
  have hno : b4 ≠ w.heap.size + 2 := by obtain ⟨cs, hcs, _⟩ := hrow; exact hcs.ne_ hO4 (by decide)
  have HROW := hid hrow
  have HW := hid hw4
  have HR := hid hR4
  clear hE hR hO hb3 h3 hb4 hE4 hrow hw4
  go_wp2_with fail
  refine bodyPost_ret (results_cell_row rfl _ _ (w.heap.size + 1) 37 #[.slice (some ⟨b4, 0, none⟩) x.n x.n, .int .i64 x.score, .int .i64 x.used] (0, 0) _ rfl (((((((HR.out.far (p := ⟨w.heap.size + 2, 0, none⟩) (by simp) _).far (p := ⟨w.heap.size + 2, 1, none⟩) (by simp) _).far (p := ⟨w.heap.size + 2, 2, none⟩) (by simp) _).set_ 0 _).set_ 1 _).set_ 2 _)) Try.underlying37 rfl size_slot) rfl ?_
  refine ⟨b4, rfl, hbl', HROW.out.keep ?_, ?_⟩
  · exact (Below.heap_setCell _ _ _ _ (by show b4 ≠ w.heap.size + 1; exact hnr)).trans ((Below.heap_setCell _ _ _ _ (by show b4 ≠ w.heap.size + 1; exact hnr)).trans ((Below.heap_setCell _ _ _ _ (by show b4 ≠ w.heap.size + 1; exact hnr)).trans ((Below.heap_setCell _ _ _ _ (by show b4 ≠ w.heap.size + 2; exact hno)).trans ((Below.heap_setCell _ _ _ _ (by show b4 ≠ w.heap.size + 2; exact hno)).trans (Below.heap_setCell _ _ _ _ (by show b4 ≠ w.heap.size + 2; exact hno))))))
  · exact (((((HW.out.setCell (p := ⟨w.heap.size + 2, 0, none⟩) (by show w.heap.size ≤ w.heap.size + 2; omega) _).setCell (p := ⟨w.heap.size + 2, 1, none⟩) (by show w.heap.size ≤ w.heap.size + 2; omega) _).setCell (p := ⟨w.heap.size + 2, 2, none⟩) (by show w.heap.size ≤ w.heap.size + 2; omega) _).setCell (p := ⟨w.heap.size + 1, 0, none⟩) (by show w.heap.size ≤ w.heap.size + 1; omega) _).setCell (p := ⟨w.heap.size + 1, 1, none⟩) (by show w.heap.size ≤ w.heap.size + 1; omega) _).setCell (p := ⟨w.heap.size + 1, 2, none⟩) (by show w.heap.size ≤ w.heap.size + 1; omega) _

/-- Slots that were made of what came in: a row and its boxes from block L on. -/
def XoC (w : World) (L : Nat) (A : Option Addr) (k : Nat) (s : Nat → Slt) : Prop :=
  ∃ (b : Nat) (cs : Array Value) (bs : Nat → Nat), A = some ⟨b, 0, none⟩ ∧ L ≤ b ∧ Blk w b 37 cs ∧ k * 3 ≤ cs.size ∧ ∀ i, i < k → cs[i * 3]? = some (.slice (some ⟨bs i, 0, none⟩) (s i).n (s i).n) ∧ cs[i * 3 + 1]? = some (.int .i64 (s i).score) ∧ cs[i * 3 + 2]? = some (.int .i64 (s i).used) ∧ L ≤ bs i ∧ RowS w 74 (bs i) (s i).n (s i).g ∧ ∀ a, a < i → bs a ≠ bs i
theorem XoC.rdC {w : World} {L k : Nat} {A : Option Addr} {s : Nat → Slt} (h : XoC w L A k s) : RdC w w.heap.size A k s := fun _ => by
  obtain ⟨b, cs, bs, e, _, hB, _, hc⟩ := h
  refine ⟨b, 0, e, hB.lt, fun i hi => ?_⟩
  obtain ⟨h0, h1, h2, _, h4, _⟩ := hc i hi
  exact ⟨_, _, by rw [Nat.zero_add, hB.cell, h0], by rw [Nat.zero_add, hB.cell, h1], by rw [Nat.zero_add, hB.cell, h2], rds_of h4⟩
theorem XoC.below {w w' : World} {L k : Nat} {A : Option Addr} {s : Nat → Slt} (h : XoC w L A k s) (hb : Below w.heap.size w w') : XoC w' L A k s := by
  obtain ⟨b, cs, bs, e, hL, hB, hsz, hc⟩ := h
  refine ⟨b, cs, bs, e, hL, hB.below hb hB.lt, hsz, fun i hi => ?_⟩
  obtain ⟨h0, h1, h2, h3, h4, h5⟩ := hc i hi
  exact ⟨h0, h1, h2, h3, h4.below hb h4.lt, h5⟩
theorem XoC.less {w : World} {L L' k : Nat} {A : Option Addr} {s : Nat → Slt} (h : XoC w L A k s) (hl : L' ≤ L) : XoC w L' A k s := by
  obtain ⟨b, cs, bs, e, hL, hB, hsz, hc⟩ := h
  exact ⟨b, cs, bs, e, by omega, hB, hsz, fun i hi => by obtain ⟨h0, h1, h2, h3, h4⟩ := hc i hi; exact ⟨h0, h1, h2, by omega, h4⟩⟩

set_option maxRecDepth 100000 in
set_option maxHeartbeats 2000000 in
theorem toSlotS_any (A : Option Addr) (k c : Nat) (s : Nat → Slt) (w : World) (h : RdC w w.heap.size A k s) (hn : k ≤ 4194304) (hlen : Hid (∀ i, i < k → (s i).n ≤ 4194304)) :
    Calls Try.prog 100 #[.slice A k c] w fun e w' => ∃ b, e = .returned (.slice (some ⟨b, 0, none⟩) k k) ∧ XoC w' w.heap.size (some ⟨b, 0, none⟩) k s ∧ Below w.heap.size w w' := by
  obtain ⟨i0, hi0, hz0, hz1, hz2⟩ := info_parts info_slot
  have hmk := fun wx => run_make_rowN (P := Try.prog) 24 37 i0 _ Try.underlying24 hi0 hz0 .i64 .i64 k k (Nat.le_refl _) (by rw [hz2]; omega) (by omega) wx
  rw [hz1] at hmk
  clear hz0 hz1 hz2 hi0
  go_enter Try.func100, Try.ntmps100
  go_wp2_with fail
  go_loopw [4] (fun i wr => ∃ (j : Nat) (cs : Array Value) (bs : Nat → Nat), j ≤ k ∧ i = .int .i64 j ∧ Blk wr w.heap.size 37 cs ∧ k * 3 ≤ cs.size ∧ Hid (∀ i, i < j → cs[i * 3]? = some (.slice (some ⟨bs i, 0, none⟩) (s i).n (s i).n) ∧ cs[i * 3 + 1]? = some (.int .i64 (s i).score) ∧ cs[i * 3 + 2]? = some (.int .i64 (s i).used) ∧ w.heap.size ≤ bs i ∧ RowS wr 74 (bs i) (s i).n (s i).g ∧ ∀ a, a < i → bs a ≠ bs i) ∧ Below w.heap.size w wr)
    (fun i _ => k - (intOf i).toNat)
  case atStart => exact ⟨0, _, fun _ => 0, Nat.zero_le _, rfl, Blk.new _ _ _, by simp [madeCells], fun j hj => by omega, (Below.refl _ _).alloc (Nat.le_refl _) _⟩
  case round =>
    obtain ⟨j, cs, bs, hj, rfl, hB, hsz, hcs, hbl⟩ := hrel
    by_cases hlt : j < k
    · obtain ⟨bb, off, Ai, ci, rfl, hbb, c0, c1, c2, hrd⟩ := (h.below hbl).at_ hlt
      have hl : (j : Int) < (k : Int) := by omega
      have hl0 : (0 : Int) ≤ (j : Int) := by omega
      go_wp2_with fail
      refine (toSlot_any Ai ci (s j) _ (hrd.more hbl.size) (hlen.out j hlt)).mono ?_
      rintro e w1 ⟨bk, rfl, hbk, hrow, hb1⟩
      have hB1 := hB.below hb1 hB.lt
      have hcs1 : Hid (∀ i, i < j → cs[i * 3]? = some (.slice (some ⟨bs i, 0, none⟩) (s i).n (s i).n) ∧ cs[i * 3 + 1]? = some (.int .i64 (s i).score) ∧ cs[i * 3 + 2]? = some (.int .i64 (s i).used) ∧ w.heap.size ≤ bs i ∧ bs i < wr.heap.size ∧ RowS w1 74 (bs i) (s i).n (s i).g ∧ ∀ a, a < i → bs a ≠ bs i) := fun i hi => by
        obtain ⟨h1, h2, h3, h4, h5, h6⟩ := hcs.out i hi
        exact ⟨h1, h2, h3, h4, h5.lt, h5.below hb1 h5.lt, h6⟩
      have hbl1 := hbl.trans (hb1.mono hbl.size)
      have hbk' := Nat.le_trans hbl.size hbk
      clear hcs hb1 hB hbl hrd c0 c1 c2
      have s0 : w1.cell? ⟨w.heap.size, j * 3, none⟩ = some (cs[j * 3]'(by omega)) := by rw [hB1.cell, Array.getElem?_eq_getElem]
      have s1 : w1.cell? ⟨w.heap.size, j * 3 + 1, none⟩ = some (cs[j * 3 + 1]'(by omega)) := by rw [hB1.cell, Array.getElem?_eq_getElem]
      have s2 : w1.cell? ⟨w.heap.size, j * 3 + 2, none⟩ = some (cs[j * 3 + 2]'(by omega)) := by rw [hB1.cell, Array.getElem?_eq_getElem]
      have f0 := hB1.frozen (j * 3); have f1 := hB1.frozen (j * 3 + 1); have f2 := hB1.frozen (j * 3 + 2)
      have HROW := hid hrow
      clear hrow
      go_wp2_with fail
      go_roundw
      case rel =>
        have hfar : ∀ {bi m : Nat} {gi : Nat → Sp}, RowS w1 74 bi m gi → RowS (((w1.setCell ⟨w.heap.size, j * 3, none⟩ (.slice (some ⟨bk, 0, none⟩) (s j).n (s j).n)).setCell ⟨w.heap.size, j * 3 + 1, none⟩ (.int .i64 (s j).score)).setCell ⟨w.heap.size, j * 3 + 2, none⟩ (.int .i64 (s j).used)) 74 bi m gi := fun {bi m gi} hr => by
          obtain ⟨cs', hB', hs', hc'⟩ := hr
          have hne := hB'.ne_ hB1 (by decide)
          exact ⟨cs', ((hB'.far (p := ⟨w.heap.size, j * 3, none⟩) hne _).far (p := ⟨w.heap.size, j * 3 + 1, none⟩) hne _).far (p := ⟨w.heap.size, j * 3 + 2, none⟩) hne _, hs', hc'⟩
        refine ⟨j + 1, _, fun i => if i = j then bk else bs i, by omega, by go_num, blk_put3v hB1 j _ _ _, by rw [put3v_size]; exact hsz, fun i hi => ?_, below_put3v hbl1 (Nat.le_refl _) j _ _ _⟩
        show _ = some (Value.slice (some ⟨if i = j then bk else bs i, 0, none⟩) _ _) ∧ _ ∧ _ ∧ w.heap.size ≤ (if i = j then bk else bs i) ∧ RowS _ _ (if i = j then bk else bs i) _ _ ∧ ∀ a, a < i → (if a = j then bk else bs a) ≠ (if i = j then bk else bs i)
        by_cases e : i = j
        · subst e
          rw [if_pos rfl]
          obtain ⟨p0, p1, p2⟩ := put3v_in (cs := cs) (k := i) (.slice (some ⟨bk, 0, none⟩) (s i).n (s i).n) (.int .i64 (s i).score) (.int .i64 (s i).used) (by omega)
          refine ⟨p0, p1, p2, hbk', hfar HROW.out, fun a ha => ?_⟩
          rw [if_neg (by omega)]
          have := (hcs1.out a ha).2.2.2.2.1
          omega
        · rw [if_neg e]
          obtain ⟨h1, h2, h3, h4, _, h5, h6⟩ := hcs1.out i (by omega)
          exact ⟨by rw [put3v_out _ _ _ _ (by omega)]; exact h1, by rw [put3v_out _ _ _ _ (by omega)]; exact h2, by rw [put3v_out _ _ _ _ (by omega)]; exact h3, h4, hfar h5, fun a ha => by rw [if_neg (by omega)]; exact h6 a ha⟩
      case measure => simp [intOf]; omega
    · obtain rfl : j = k := by omega
      go_wp2_with fail
      go_ret
      exact ⟨_, rfl, ⟨w.heap.size, cs, bs, rfl, Nat.le_refl _, hB, hsz, hcs.out⟩, hbl⟩

set_option maxRecDepth 100000 in
set_option maxHeartbeats 2000000 in
theorem toC_any (cap clock : Int) (A : Option Addr) (k c : Nat) (s : Nat → Slt) (w : World) (h : RdC w w.heap.size A k s) (hn : k ≤ 4194304) (hlen : Hid (∀ i, i < k → (s i).n ≤ 4194304)) :
    Calls Try.prog 34 #[caV cap clock A k c] w fun e w' => ∃ b, e = .returned (caV cap clock (some ⟨b, 0, none⟩) k k) ∧ XoC w' w.heap.size (some ⟨b, 0, none⟩) k s ∧ Below w.heap.size w w' := by
  have hb3 := (((Below.refl w.heap.size w).alloc (Nat.le_refl _) (.cells #[.int .i64 cap, .int .i64 clock, .slice A k c] 46)).alloc (by simp) (.cells #[.int .i64 0, .int .i64 0, .slice none 0 0] 26)).alloc (by simp; omega) (.cells #[.int .i64 cap, .int .i64 clock, .slice none 0 0] 26)
  have h3 := h.to hb3 hb3.size
  have hs3 : (((w.alloc (.cells #[.int .i64 cap, .int .i64 clock, .slice A k c] 46)).alloc (.cells #[.int .i64 0, .int .i64 0, .slice none 0 0] 26)).alloc (.cells #[.int .i64 cap, .int .i64 clock, .slice none 0 0] 26)).heap.size = w.heap.size + 3 := by simp
  go_enter Try.func34, Try.ntmps34
  go_wp2_with fail
  refine (toSlotS_any A k c s _ h3 hn hlen).mono ?_
  rintro e w4 ⟨bt, rfl, hx, hb4⟩
  have hR := ((Blk.new2 w (.cells #[.int .i64 cap, .int .i64 clock, .slice A k c] 46) 26 #[.int .i64 0, .int .i64 0, .slice none 0 0]).alloc (.cells #[.int .i64 cap, .int .i64 clock, .slice none 0 0] 26)).below hb4 (by simp)
  have hO := (Blk.new3 w (.cells #[.int .i64 cap, .int .i64 clock, .slice A k c] 46) (.cells #[.int .i64 0, .int .i64 0, .slice none 0 0] 26) 26 #[.int .i64 cap, .int .i64 clock, .slice none 0 0]).below hb4 (by simp)
  obtain ⟨o0, o1, o2, f0, f1, f2⟩ := blk_cells3 hO
  obtain ⟨r0, r1, r2, g0, g1, g2⟩ := blk_cells3 hR
  have hw4 := hb3.trans (hb4.mono hb3.size)
  have HX := hid (hx.less (show w.heap.size ≤ _ by rw [hs3]; omega))
  have HW := hid hw4
  have HR := hid hR
  have HO := hid hO
  clear h3 hb3 hs3 hx hw4 hb4
  go_wp2_with fail
  refine bodyPost_ret (results_cell_row rfl _ _ (w.heap.size + 1) 26 #[.int .i64 cap, .int .i64 clock, .slice (some ⟨bt, 0, none⟩) k k] (0, 0) _ rfl ((((HR.out.far (p := ⟨w.heap.size + 1 + 1, 2, none⟩) (by simp) (.slice (some ⟨bt, 0, none⟩) k k)).set_ 0 (.int .i64 cap)).set_ 1 (.int .i64 clock)).set_ 2 (.slice (some ⟨bt, 0, none⟩) k k)) Try.underlying26 rfl size_cache) rfl ?_
  refine ⟨bt, rfl, ?_, (((HW.out.setCell (p := ⟨w.heap.size + 1 + 1, 2, none⟩) (by show w.heap.size ≤ w.heap.size + 1 + 1; omega) _).setCell (p := ⟨w.heap.size + 1, 0, none⟩) (by simp) _).setCell (p := ⟨w.heap.size + 1, 1, none⟩) (by simp) _).setCell (p := ⟨w.heap.size + 1, 2, none⟩) (by simp) _⟩
  obtain ⟨b, cs, bs, e, hL, hB, hsz, hc⟩ := HX.out
  have hkeep : ∀ {x : Nat} {t : TypeId} {cx : Array Value}, t ≠ 26 → Blk w4 x t cx → Blk ((((w4.setCell ⟨w.heap.size + 1 + 1, 2, none⟩ (.slice (some ⟨bt, 0, none⟩) k k)).setCell ⟨w.heap.size + 1, 0, none⟩ (.int .i64 cap)).setCell ⟨w.heap.size + 1, 1, none⟩ (.int .i64 clock)).setCell ⟨w.heap.size + 1, 2, none⟩ (.slice (some ⟨bt, 0, none⟩) k k)) x t cx := fun {x t cx} ht hb => by
    have n1 : x ≠ w.heap.size + 1 + 1 := hb.ne_ HO.out ht
    have n2 : x ≠ w.heap.size + 1 := hb.ne_ HR.out ht
    exact (((hb.far (p := ⟨w.heap.size + 1 + 1, 2, none⟩) n1 _).far (p := ⟨w.heap.size + 1, 0, none⟩) n2 _).far (p := ⟨w.heap.size + 1, 1, none⟩) n2 _).far (p := ⟨w.heap.size + 1, 2, none⟩) n2 _
  refine ⟨b, cs, bs, e, hL, hkeep (by decide) hB, hsz, fun i hi => ?_⟩
  obtain ⟨h0, h1, h2, h3, ⟨csi, hBi, hsi, hci⟩, h6⟩ := hc i hi
  exact ⟨h0, h1, h2, h3, ⟨csi, hkeep (by decide) hBi, hsi, hci⟩, h6⟩

set_option maxHeartbeats 1000000 in
theorem eqSlot_any (A A' : Option Addr) (c c' : Nat) (x : Slt) (w : World) (h : RdS w w.heap.size A x.n x.g) (h' : RdS w w.heap.size A' x.n x.g) (hn : x.n ≤ 4194304) :
    Calls Try.prog 158 #[slV A c x, slV A' c' x] w fun e w' => e = .returned (.bool true) ∧ Below w.heap.size w w' := by
  have hb2 := ((Below.refl w.heap.size w).alloc (Nat.le_refl _) (.cells #[.slice A x.n c, .int .i64 x.score, .int .i64 x.used] 37)).alloc (by simp) (.cells #[.slice A' x.n c', .int .i64 x.score, .int .i64 x.used] 37)
  have h2 := h.to hb2 hb2.size
  have h2' := h'.to hb2 hb2.size
  have hE := (Blk.new w 37 #[.slice A x.n c, .int .i64 x.score, .int .i64 x.used]).alloc (.cells #[.slice A' x.n c', .int .i64 x.score, .int .i64 x.used] 37)
  have hF := Blk.new2 w (.cells #[.slice A x.n c, .int .i64 x.score, .int .i64 x.used] 37) 37 #[.slice A' x.n c', .int .i64 x.score, .int .i64 x.used]
  go_enter Try.func158, Try.ntmps158
  go_wp2_with fail
  refine (eqS_any A A' x.n c c' x.g _ h2 h2' hn).mono ?_
  rintro e w3 ⟨rfl, hb3⟩
  obtain ⟨e0, e1, e2, _, _, _⟩ := blk_cells3 (hE.below hb3 hE.lt)
  obtain ⟨f0, f1, f2, _, _, _⟩ := blk_cells3 (hF.below hb3 hF.lt)
  have hw := hb2.trans (hb3.mono hb2.size)
  clear hb2 hb3 h2 h2' hE hF
  go_wp2_with fail
  go_ret
  exact ⟨rfl, hw⟩

set_option maxRecDepth 100000 in
set_option maxHeartbeats 4000000 in
theorem eqSlotS_any (A A' : Option Addr) (k c c' : Nat) (s : Nat → Slt) (w : World) (h : RdC w w.heap.size A k s) (h' : RdC w w.heap.size A' k s) (hn : k ≤ 4194304) (hlen : Hid (∀ i, i < k → (s i).n ≤ 4194304)) :
    Calls Try.prog 101 #[.slice A k c, .slice A' k c'] w fun e w' => e = .returned (.bool true) ∧ Below w.heap.size w w' := by
  go_enter Try.func101, Try.ntmps101
  go_wp2_with fail
  go_loopw [5] (fun i wr => ∃ j : Nat, j ≤ k ∧ i = .int .i64 j ∧ Below w.heap.size w wr) (fun i _ => k - (intOf i).toNat)
  case atStart => exact ⟨0, Nat.zero_le _, rfl, Below.refl _ _⟩
  case round =>
    obtain ⟨j, hj, rfl, hbl⟩ := hrel
    by_cases hlt : j < k
    · obtain ⟨b, off, Ai, ci, rfl, hb, c0, c1, c2, hrd⟩ := (h.below hbl).at_ hlt
      obtain ⟨b', off', Ai', ci', rfl, hb', c0', c1', c2', hrd'⟩ := (h'.below hbl).at_ hlt
      have hi : (j : Int) < (k : Int) := by omega
      have hi0 : (0 : Int) ≤ (j : Int) := by omega
      have hlk := hlen.out j hlt
      have hlb : b < wr.heap.size := Nat.lt_of_lt_of_le hb hbl.size
      have hlb' : b' < wr.heap.size := Nat.lt_of_lt_of_le hb' hbl.size
      have HR : Hid (∀ W, Below wr.heap.size wr W → RdS W W.heap.size Ai (s j).n (s j).g ∧ RdS W W.heap.size Ai' (s j).n (s j).g) := fun W hW => ⟨(hrd.more hbl.size).to hW hW.size, (hrd'.more hbl.size).to hW hW.size⟩
      have HC : Hid (∀ W, Below wr.heap.size wr W → W.cell? ⟨b, off + j * 3, none⟩ = some (.slice Ai (s j).n ci) ∧ W.cell? ⟨b, off + j * 3 + 1, none⟩ = some (.int .i64 (s j).score) ∧ W.cell? ⟨b, off + j * 3 + 2, none⟩ = some (.int .i64 (s j).used) ∧ W.cell? ⟨b', off' + j * 3, none⟩ = some (.slice Ai' (s j).n ci') ∧ W.cell? ⟨b', off' + j * 3 + 1, none⟩ = some (.int .i64 (s j).score) ∧ W.cell? ⟨b', off' + j * 3 + 2, none⟩ = some (.int .i64 (s j).used)) := fun W hW =>
        ⟨(hW.cell (p := ⟨b, _, none⟩) hlb).trans c0, (hW.cell (p := ⟨b, _, none⟩) hlb).trans c1, (hW.cell (p := ⟨b, _, none⟩) hlb).trans c2, (hW.cell (p := ⟨b', _, none⟩) hlb').trans c0', (hW.cell (p := ⟨b', _, none⟩) hlb').trans c1', (hW.cell (p := ⟨b', _, none⟩) hlb').trans c2'⟩
      have D0 := hid ((Below.refl wr.heap.size wr).drew)
      have HBL := hid hbl
      clear hrd hrd' c0 c1 c2 c0' c1' c2' hbl
      go_wp2_with fail
      refine region_classC (C := fun W => Below wr.heap.size wr W) (by kernel_rfl) (by kernel_rfl) D0.out ?_
      repeat
        with_reducible refine wpQuiet_step (fun K hK => ?_)
        first
          | (rw [if_pos (by rfl)]; apply Exists.intro; refine ⟨fun W hW => ?_, hK _ ?_⟩; (first
              | (obtain ⟨u1, u2, u3, u4, u5, u6⟩ := HC.out W hW; go_simp <;> with_reducible rfl)
              | (go_simp; go_at_call 158; with_reducible refine Calls.mono (eqSlot_any Ai Ai' ci ci' (s j) W (HR.out W hW).1 (HR.out W hW).2 hlk) ?_; rintro e w5 ⟨rfl, hb5⟩; exact ⟨rfl, hW.trans (hb5.mono hW.size)⟩)); clear hK K; (try simp only [Act.put, List.setIfInBounds_toArray, List.set_cons_zero, List.set_cons_succ]))
          | (refine Eq.mpr (if_neg ?_) (hK _ ?_); exact (fun h => Bool.false_ne_true h); clear hK K; (try simp only [Act.put, List.setIfInBounds_toArray, List.set_cons_zero, List.set_cons_succ]))
      refine wpQuiet_nil ?_
      intro WZ hZ'
      have hZ : Below wr.heap.size wr WZ := hZ'
      clear hZ'
      have hbl3 := HBL.out.trans (hZ.mono HBL.out.size)
      clear hZ
      go_wp2_with fail
      go_roundw
      case rel => exact ⟨j + 1, by omega, by go_num, hbl3⟩
      case measure => simp [intOf]; omega
    · go_wp2_with fail
      go_ret
      exact ⟨rfl, hbl⟩

set_option maxHeartbeats 1000000 in
theorem eqC_any (cap clock : Int) (A A' : Option Addr) (k c c' : Nat) (s : Nat → Slt) (w : World) (h : RdC w w.heap.size A k s) (h' : RdC w w.heap.size A' k s) (hn : k ≤ 4194304) (hlen : Hid (∀ i, i < k → (s i).n ≤ 4194304)) :
    Calls Try.prog 35 #[caV cap clock A k c, caV cap clock A' k c'] w fun e w' => e = .returned (.bool true) ∧ Below w.heap.size w w' := by
  have hb2 := ((Below.refl w.heap.size w).alloc (Nat.le_refl _) (.cells #[.int .i64 cap, .int .i64 clock, .slice A k c] 26)).alloc (by simp) (.cells #[.int .i64 cap, .int .i64 clock, .slice A' k c'] 26)
  have h2 := h.to hb2 hb2.size
  have h2' := h'.to hb2 hb2.size
  go_enter Try.func35, Try.ntmps35
  go_wp2_with fail
  refine (eqSlotS_any A A' k c c' s _ h2 h2' hn hlen).mono ?_
  rintro e w3 ⟨rfl, hb3⟩
  have hw := hb2.trans (hb3.mono hb2.size)
  clear hb2 hb3 h2 h2'
  go_wp2_with fail
  go_ret
  exact ⟨rfl, hw⟩

set_option maxHeartbeats 1000000 in
theorem szSlot_any (A : Option Addr) (c : Nat) (x : Slt) (l : Int) (w : World) (hn : x.n ≤ 9223372036854775807) (h0 : 0 ≤ l) (h1 : l ≤ 1048576) :
    Calls Try.prog 156 #[slV A c x, .int .i64 l] w fun e w' =>
      ∃ y : Int, e = .returned (.int .i64 y) ∧ (y < 0 ∨ (0 ≤ y ∧ y + x.n ≤ l)) ∧ Below w.heap.size w w' := by
  have hb2 := (Below.refl w.heap.size w).alloc (Nat.le_refl _) (.cells #[.slice A x.n c, .int .i64 x.score, .int .i64 x.used] 190)
  by_cases hb : l - (x.n : Int) < 0
  · go_enter Try.func156, Try.ntmps156
    go_wp2_with fail
    refine (szS_big A x.n c l _ hn h0 h1 (by omega)).mono ?_
    rintro e w3 ⟨rfl, rfl⟩
    go_wp2_with fail
    go_ret
    exact ⟨_, rfl, .inl (by omega), hb2⟩
  · go_enter Try.func156, Try.ntmps156
    go_wp2_with fail
    refine (szS_ok A x.n c l _ hn h0 h1 (by omega)).mono ?_
    rintro e w3 ⟨rfl, rfl⟩
    go_wp2_with fail
    go_ret
    exact ⟨_, rfl, .inr ⟨by omega, by omega⟩, hb2⟩

def cumN (s : Nat → Slt) : Nat → Nat
  | 0 => 0
  | i + 1 => cumN s i + (s i).n
theorem cumN_le (s : Nat → Slt) {i k : Nat} (h : i < k) : (s i).n ≤ cumN s k := by
  induction k with
  | zero => omega
  | succ k ih =>
    simp only [cumN]
    by_cases e : i = k
    · subst e; omega
    · have := ih (by omega); omega
set_option maxHeartbeats 2000000 in
/-- The size: either it is too much, or all is small. -/
theorem szSlotS_any (A : Option Addr) (k cap : Nat) (s : Nat → Slt) (l : Int) (w : World) (h : RdC w w.heap.size A k s) (hn : k ≤ 9223372036854775807) (hlen : Hid (∀ i, i < k → (s i).n ≤ 9223372036854775807)) (h0 : 0 ≤ l) (h1 : l ≤ 1048576) :
    Calls Try.prog 99 #[.slice A k cap, .int .i64 l] w fun e w' =>
      ∃ y : Int, e = .returned (.int .i64 y) ∧ (y < 0 ∨ (0 ≤ y ∧ y + k + cumN s k ≤ l)) ∧ Below w.heap.size w w' := by
  by_cases hbig : l - (k : Int) < 0
  · go_enter Try.func99, Try.ntmps99
    go_wp2_with fail
    go_ret
    exact ⟨_, rfl, .inl (by omega), Below.refl _ _⟩
  · go_enter Try.func99, Try.ntmps99
    go_wp2_with fail
    go_loopw [1, 5] (fun y i wr => ∃ (j : Nat) (x : Int), j ≤ k ∧ i = .int .i64 j ∧ y = .int .i64 x ∧ 0 ≤ x ∧ x + k + cumN s j ≤ l ∧ Below w.heap.size w wr) (fun _ i _ => k - (intOf i).toNat)
    case atStart => exact ⟨0, _, Nat.zero_le _, rfl, rfl, by omega, by simp only [cumN]; omega, Below.refl _ _⟩
    case round =>
      obtain ⟨j, x, hj, rfl, rfl, hx0, hx1, hbl⟩ := hrel
      by_cases hlt : j < k
      · obtain ⟨b, off, Ai, ci, rfl, hb, c0, c1, c2, hrd⟩ := (h.below hbl).at_ hlt
        have hl : (j : Int) < (k : Int) := by omega
        have hl0 : (0 : Int) ≤ (j : Int) := by omega
        have hlk := hlen.out j hlt
        go_wp2_with fail
        refine (szSlot_any Ai ci (s j) x _ hlk hx0 (by omega)).mono ?_
        rintro e w1 ⟨y, rfl, hy, hb1⟩
        have hbl1 := hbl.trans (hb1.mono hbl.size)
        by_cases hy0 : y < 0
        · go_wp2_with fail
          go_ret
          exact ⟨_, rfl, .inl (by omega), hbl1⟩
        · have HY : Hid (0 ≤ y ∧ y + (s j).n ≤ x) := by
            rcases hy with h | h
            · exact absurd h hy0
            · exact h
          clear hy
          go_wp2_with fail
          go_roundw
          case rel =>
            have HY := HY.out
            exact ⟨j + 1, _, by omega, by go_num, rfl, by omega, by simp only [cumN]; omega, hbl1⟩
          case measure => simp [intOf]; omega
      · go_wp2_with fail
        go_ret
        have e : j = k := by omega
        subst e
        exact ⟨x, rfl, .inr ⟨hx0, hx1⟩, hbl⟩
set_option maxHeartbeats 1000000 in
theorem szC_any (cp ck : Int) (A : Option Addr) (k c : Nat) (s : Nat → Slt) (l : Int) (w : World) (h : RdC w w.heap.size A k s) (hn : k ≤ 9223372036854775807) (hlen : Hid (∀ i, i < k → (s i).n ≤ 9223372036854775807)) (h0 : 0 ≤ l) (h1 : l ≤ 1048576) :
    Calls Try.prog 33 #[caV cp ck A k c, .int .i64 l] w fun e w' =>
      ∃ y : Int, e = .returned (.int .i64 y) ∧ (y < 0 ∨ (0 ≤ y ∧ y + k + cumN s k ≤ l)) ∧ Below w.heap.size w w' := by
  have hb2 := (Below.refl w.heap.size w).alloc (Nat.le_refl _) (.cells #[.int .i64 cp, .int .i64 ck, .slice A k c] 46)
  have h2 := h.to hb2 hb2.size
  go_enter Try.func33, Try.ntmps33
  go_wp2_with fail
  refine (szSlotS_any A k c s l _ h2 hn hlen h0 h1).mono ?_
  rintro e w3 ⟨y, rfl, hy, hb3⟩
  have hw3 := hb2.trans (hb3.mono hb2.size)
  by_cases hlt : y < 0
  · clear hy
    go_wp2_with fail
    go_ret
    exact ⟨_, rfl, .inl (by omega), hw3⟩
  · have HY := hid hy
    clear hy
    go_wp2_with fail
    go_ret
    exact ⟨y, rfl, HY.out, hw3⟩
end Go.Proofs.Ytckhooibjmheiaa
