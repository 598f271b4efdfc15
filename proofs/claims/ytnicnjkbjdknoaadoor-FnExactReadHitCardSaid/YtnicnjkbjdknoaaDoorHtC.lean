/- Rows of Hits: copies and comparisons of the exact laws. -/
import Derived.Test.YtnicnjkbjdknoaaDoorTxS
import Derived.Test.YtnicnjkbjdknoaaDoorK2
namespace Go.Proofs.YtnicnjkbjdknoaaDoor
open Go.RowKit Go.Deep
set_option linter.unusedVariables false
set_option linter.unusedSimpArgs false

/-- The cells of a Hit. -/
def htC (h : Ht) : List Value := [.int .i64 h.ix, .int .i64 h.sc]
/-- Block b, of element type t, bears the Hits g at its first n places. -/
def RowH (w : World) (t : TypeId) (b n : Nat) (g : Nat → Ht) : Prop :=
  ∃ cs : Array Value, Blk w b t cs ∧ n * 2 ≤ cs.size ∧ ∀ i, i < n → ∀ j, j < 2 → cs[i * 2 + j]? = (htC (g i))[j]?
section
variable {w w' : World} {t : TypeId} {b n : Nat} {g : Nat → Ht}
theorem RowH.lt (h : RowH w t b n g) : b < w.heap.size := by obtain ⟨cs, hb, _⟩ := h; exact hb.lt
theorem RowH.htAt {i : Nat} (h : RowH w t b n g) (hi : i < n) : HtAt w b (i * 2) (g i) := by
  obtain ⟨cs, hb, hn, hc⟩ := h
  have h0 := hc i hi 0 (by omega); have h1 := hc i hi 1 (by omega)
  exact ⟨(hb.cell _).trans h0, (hb.cell _).trans h1⟩
theorem RowH.rd {B : Nat} (h : RowH w t b n g) (hB : b < B) : RdH w B (some ⟨b, 0, none⟩) n g := fun _ =>
  ⟨b, 0, rfl, hB, fun i hi => by rw [Nat.zero_add]; exact h.htAt hi⟩
theorem RowH.keep (h : RowH w t b n g) (hk : w'.heap[b]? = w.heap[b]?) : RowH w' t b n g := by
  obtain ⟨cs, hb, hn, hc⟩ := h
  exact ⟨cs, hk.trans hb, hn, hc⟩
theorem RowH.below {B : Nat} (h : RowH w t b n g) (hb : Below B w w') (hB : b < B) : RowH w' t b n g := h.keep (hb.block b hB)
theorem RowH.grown {b' : Nat} (h : RowH w t b n g) (hg : w.grownBy w' (some b')) (hne : b ≠ b') : RowH w' t b n g :=
  h.keep (hg.block b h.lt (by simpa using hne))
end
theorem rdh_of {w : World} {t : TypeId} {b n : Nat} {g : Nat → Ht} (h : RowH w t b n g) : RdH w w.heap.size (some ⟨b, 0, none⟩) n g := h.rd h.lt

theorem info_hit : (Tryd.prog.info? 25).map (fun i => (i.zero, i.size, i.bytes)) = some (some (hitV 0 0), 2, 16) := by kernel_rfl

/-- Two cells written from place k * 2 on. -/
def putH (cs : Array Value) (k : Nat) (d : Ht) : Array Value := (cs.setIfInBounds (k * 2) (.int .i64 d.ix)).setIfInBounds (k * 2 + 1) (.int .i64 d.sc)
theorem putH_size (cs : Array Value) (k : Nat) (d : Ht) : (putH cs k d).size = cs.size := by simp [putH]
theorem putH_in {cs : Array Value} {k : Nat} (d : Ht) (h : k * 2 + 2 ≤ cs.size) (j : Nat) (hj : j < 2) : (putH cs k d)[k * 2 + j]? = (htC d)[j]? := by
  unfold putH htC
  obtain rfl | rfl : j = 0 ∨ j = 1 := by omega
  all_goals (simp only [Array.getElem?_setIfInBounds, Array.size_setIfInBounds]; simp; try omega)
theorem putH_out {cs : Array Value} {k : Nat} (d : Ht) (p : Nat) (hp : p < k * 2 ∨ k * 2 + 2 ≤ p) : (putH cs k d)[p]? = cs[p]? := by
  unfold putH
  rw [Array.getElem?_setIfInBounds_ne (by omega), Array.getElem?_setIfInBounds_ne (by omega)]
theorem blk_putH {w : World} {b : Nat} {t : TypeId} {cs : Array Value} (h : Blk w b t cs) (k : Nat) (d : Ht) :
    Blk ((w.setCell ⟨b, k * 2, none⟩ (.int .i64 d.ix)).setCell ⟨b, k * 2 + 1, none⟩ (.int .i64 d.sc)) b t (putH cs k d) :=
  (h.set_ (k * 2) (.int .i64 d.ix)).set_ (k * 2 + 1) (.int .i64 d.sc)
theorem below_putH {B : Nat} {a w : World} {b : Nat} (h : Below B a w) (hb : B ≤ b) (k : Nat) (d : Ht) :
    Below B a ((w.setCell ⟨b, k * 2, none⟩ (.int .i64 d.ix)).setCell ⟨b, k * 2 + 1, none⟩ (.int .i64 d.sc)) := by
  have h0 := h.setCell (p := ⟨b, k * 2, none⟩) hb (.int .i64 d.ix)
  exact h0.setCell (p := ⟨b, k * 2 + 1, none⟩) hb (.int .i64 d.sc)

set_option maxHeartbeats 1000000 in
theorem toHs_any (A : Option Addr) (n cap : Nat) (g : Nat → Ht) (w : World) (h : RdH w w.heap.size A n g) (hn : n ≤ 4194304) :
    Calls Tryd.prog 52 #[.slice A n cap] w fun e w' =>
      ∃ b, e = .returned (.slice (some ⟨b, 0, none⟩) n n) ∧ w.heap.size ≤ b ∧ RowH w' 25 b n g ∧ Below w.heap.size w w' := by
  obtain ⟨i0, hi0, hz0, hz1, hz2⟩ := info_parts info_hit
  have hmk := fun wx => run_make_rowN (P := Tryd.prog) 51 25 i0 _ Tryd.underlying51 hi0 hz0 .i64 .i64 n n (Nat.le_refl _) (by rw [hz2]; omega) (by omega) wx
  rw [hz1] at hmk
  clear hz0 hz1 hz2 hi0
  go_enter Tryd.func52, Tryd.ntmps52
  go_wp2_with fail
  go_loopw [4] (fun i wr => ∃ (k : Nat) (cs : Array Value), k ≤ n ∧ i = .int .i64 k ∧ Blk wr w.heap.size 25 cs ∧ n * 2 ≤ cs.size ∧ Hid (∀ i, i < k → ∀ j, j < 2 → cs[i * 2 + j]? = (htC (g i))[j]?) ∧ Below w.heap.size w wr)
    (fun i _ => n - (intOf i).toNat)
  case atStart => exact ⟨0, _, Nat.zero_le _, rfl, Blk.new _ _ _, by simp [madeCells], fun j hj => by omega, (Below.refl _ _).alloc (Nat.le_refl _) _⟩
  case round =>
    obtain ⟨k, cs, hk, rfl, hB, hsz, hcs, hbl⟩ := hrel
    by_cases hlt : k < n
    · obtain ⟨b, off, rfl, hb, c0, c1⟩ := (h.below hbl).at_ hlt
      have hl : (k : Int) < (n : Int) := by omega
      go_wp2_with fail
      refine (toHit_any (g k).ix (g k).sc _).mono ?_
      rintro e w1 ⟨rfl, hb1⟩
      have hB1 := hB.below hb1 hB.lt
      have hbl1 := hbl.trans (hb1.mono hbl.size)
      clear hB hb1 hbl c0 c1
      have s0 : w1.cell? ⟨w.heap.size, k * 2, none⟩ = some (cs[k * 2]'(by omega)) := by rw [hB1.cell, Array.getElem?_eq_getElem]
      have s1 : w1.cell? ⟨w.heap.size, k * 2 + 1, none⟩ = some (cs[k * 2 + 1]'(by omega)) := by rw [hB1.cell, Array.getElem?_eq_getElem]
      have f0 := hB1.frozen (k * 2); have f1 := hB1.frozen (k * 2 + 1)
      go_wp2_with fail
      go_roundw
      case rel =>
        refine ⟨k + 1, _, by omega, by go_num, blk_putH hB1 k (g k), by rw [putH_size]; exact hsz, fun i hi j hj => ?_, below_putH hbl1 (Nat.le_refl _) k (g k)⟩
        by_cases e : i = k
        · subst e; exact putH_in (g i) (by omega) j hj
        · rw [putH_out (g k) (i * 2 + j) (by omega)]; exact hcs.out i (by omega) j hj
      case measure => simp [intOf]; omega
    · have e : k = n := by omega
      go_wp2_with fail
      go_ret
      exact ⟨_, rfl, Nat.le_refl _, ⟨cs, hB, hsz, fun i hi => hcs.out i (by omega)⟩, hbl⟩

set_option maxHeartbeats 1000000 in
theorem eqHit_any (d : Ht) (w : World) : Calls Tryd.prog 14 #[htV d, htV d] w fun e w' => e = .returned (.bool true) ∧ Below w.heap.size w w' := by
  go_enter Tryd.func14, Tryd.ntmps14
  go_wp2_with fail
  go_ret
  exact ⟨rfl, ((Below.refl _ _).alloc (Nat.le_refl _) _).alloc (by simp) _⟩

set_option maxHeartbeats 1000000 in
/-- eqHitS at two slices that read alike. -/
theorem eqHs_any (A A' : Option Addr) (n c c' : Nat) (g : Nat → Ht) (w : World) (h : RdH w w.heap.size A n g) (h' : RdH w w.heap.size A' n g) (hn : n ≤ 4194304) :
    Calls Tryd.prog 58 #[.slice A n c, .slice A' n c'] w fun e w' => e = .returned (.bool true) ∧ Below w.heap.size w w' := by
  go_enter Tryd.func58, Tryd.ntmps58
  go_wp2_with fail
  go_loopw [5] (fun i wr => ∃ k : Nat, k ≤ n ∧ i = .int .i64 k ∧ Below w.heap.size w wr) (fun i _ => n - (intOf i).toNat)
  case atStart => exact ⟨0, Nat.zero_le _, rfl, Below.refl _ _⟩
  case round =>
    obtain ⟨k, hk, rfl, hbl⟩ := hrel
    by_cases hlt : k < n
    · obtain ⟨b, off, rfl, hb, c0, c1⟩ := (h.below hbl).at_ hlt
      obtain ⟨b', off', rfl, hb', c0', c1'⟩ := (h'.below hbl).at_ hlt
      have hi : (k : Int) < (n : Int) := by omega
      have hi0 : (0 : Int) ≤ (k : Int) := by omega
      have hlb : b < wr.heap.size := Nat.lt_of_lt_of_le hb hbl.size
      have hlb' : b' < wr.heap.size := Nat.lt_of_lt_of_le hb' hbl.size
      go_wp2_with fail
      go_region_held3 (fun w' => w'.cell? ⟨b, off + k * 2, none⟩ = some (.int .i64 (g k).ix) ∧ w'.cell? ⟨b, off + k * 2 + 1, none⟩ = some (.int .i64 (g k).sc) ∧ w'.cell? ⟨b', off' + k * 2, none⟩ = some (.int .i64 (g k).ix) ∧ w'.cell? ⟨b', off' + k * 2 + 1, none⟩ = some (.int .i64 (g k).sc))
        (first | (simp [go_sem]; done) | exact ⟨e0, e1, e0', e1'⟩ | (simp [go_sem, *]; done))
        (first
          | (go_at_call 14; refine (eqHit_any (g k) _).mono ?_; rintro e w1 ⟨rfl, hb1⟩; obtain ⟨hc1, hf1⟩ := bcell hb1; have e0 := (hc1 b _ hlb).trans c0; have e1 := (hc1 b _ hlb).trans c1; have e0' := (hc1 b' _ hlb').trans c0'; have e1' := (hc1 b' _ hlb').trans c1'))
      have hbl2 := hbl.drew.trans (hb1.mono hbl.size)
      clear hb1 hc1 hf1 e0 e1 e0' e1' c0 c1 c0' c1'
      go_wp2_with fail
      go_roundw
      case rel => exact ⟨k + 1, by omega, by go_num, hbl2⟩
      case measure => simp [intOf]; omega
    · go_wp2_with fail
      go_ret
      exact ⟨rfl, hbl⟩

theorem szHs_big (A : Option Addr) (n cap : Nat) (l : Int) (w : World) (hn : n ≤ 9223372036854775807) (h0 : 0 ≤ l) (h1 : l ≤ 1048576) (hl : l - (n : Int) < 0) :
    Calls Tryd.prog 50 #[.slice A n cap, .int .i64 l] w fun e w' => e = .returned (.int .i64 (-1)) ∧ w = w' := by
  go_enter Tryd.func50, Tryd.ntmps50
  go_wp2_with fail
  go_ret
  exact ⟨rfl, rfl⟩
theorem szHs_ok (A : Option Addr) (n cap : Nat) (l : Int) (w : World) (hn : n ≤ 9223372036854775807) (h0 : 0 ≤ l) (h1 : l ≤ 1048576) (hl : ¬ l - (n : Int) < 0) :
    Calls Tryd.prog 50 #[.slice A n cap, .int .i64 l] w fun e w' => e = .returned (.int .i64 (l - n)) ∧ w = w' := by
  go_enter Tryd.func50, Tryd.ntmps50
  go_wp2_with fail
  go_ret
  exact ⟨rfl, rfl⟩
end Go.Proofs.YtnicnjkbjdknoaaDoor
