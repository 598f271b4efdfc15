/- Slices of spans: what reads as a list of spans; copies and comparisons of the exact laws. -/
import Derived.Test.YthdilioflhknpaaTreeB
import Derived.Test.YthdilioflhknpaaBoxes
namespace Go.Proofs.Ythdilioflhknpaa
open Go.RowKit Go.Deep

/-- A span as the program's value. -/
abbrev spV (d : Sp) : Value := .agg #[.int .i64 d.lo, .int .i64 d.hi, .bool d.gone]
/-- Three cells at an address are the span d. -/
def SpAt (w : World) (b o : Nat) (d : Sp) : Prop :=
  w.cell? ⟨b, o, none⟩ = some (.int .i64 d.lo) ∧ w.cell? ⟨b, o + 1, none⟩ = some (.int .i64 d.hi) ∧ w.cell? ⟨b, o + 2, none⟩ = some (.bool d.gone)
/-- The slice at A reads as n spans g, and lies below block B. -/
def RdS (w : World) (B : Nat) (A : Option Addr) (n : Nat) (g : Nat → Sp) : Prop :=
  0 < n → ∃ b off, A = some ⟨b, off, none⟩ ∧ b < B ∧ ∀ i, i < n → SpAt w b (off + i * 3) (g i)
section
variable {w w' : World} {B B' n : Nat} {A : Option Addr} {g : Nat → Sp}
theorem SpAt.keep {b o : Nat} {d : Sp} (h : SpAt w b o d) (hk : ∀ o, w'.cell? ⟨b, o, none⟩ = w.cell? ⟨b, o, none⟩) : SpAt w' b o d := by
  unfold SpAt at h ⊢
  simp only [hk]
  exact h
theorem RdS.keep (h : RdS w B A n g) (hk : ∀ p : Addr, p.block < B → w'.cell? p = w.cell? p) : RdS w' B A n g := fun hn => by
  obtain ⟨b, off, e, hb, hc⟩ := h hn
  exact ⟨b, off, e, hb, fun i hi => (hc i hi).keep fun o => hk ⟨b, o, none⟩ hb⟩
theorem RdS.more (h : RdS w B A n g) (hB : B ≤ B') : RdS w B' A n g := fun hn => by
  obtain ⟨b, off, e, hb, hc⟩ := h hn
  exact ⟨b, off, e, by omega, hc⟩
theorem RdS.below (h : RdS w B A n g) (hb : Below B w w') : RdS w' B A n g := h.keep fun _ hp => hb.cell hp
theorem RdS.to (h : RdS w B A n g) (hb : Below B w w') (hB : B ≤ w'.heap.size) : RdS w' w'.heap.size A n g := (h.below hb).more hB
theorem RdS.at_ {k : Nat} (h : RdS w B A n g) (hk : k < n) : ∃ b off, A = some ⟨b, off, none⟩ ∧ b < B ∧ SpAt w b (off + k * 3) (g k) := by
  obtain ⟨b, off, e, hb, hc⟩ := h (by omega)
  exact ⟨b, off, e, hb, hc k hk⟩
end
theorem rds_none {w : World} {B : Nat} {A : Option Addr} {g : Nat → Sp} : RdS w B A 0 g := fun h => absurd h (by omega)

/-- The cells of a span. -/
def spC (d : Sp) : List Value := [.int .i64 d.lo, .int .i64 d.hi, .bool d.gone]
/-- Block b, of element type t, bears the spans g at its first n places. -/
def RowS (w : World) (t : TypeId) (b n : Nat) (g : Nat → Sp) : Prop :=
  ∃ cs : Array Value, Blk w b t cs ∧ n * 3 ≤ cs.size ∧ ∀ i, i < n → ∀ j, j < 3 → cs[i * 3 + j]? = (spC (g i))[j]?
section
variable {w w' : World} {t : TypeId} {b n : Nat} {g : Nat → Sp}
theorem RowS.lt (h : RowS w t b n g) : b < w.heap.size := by obtain ⟨cs, hb, _⟩ := h; exact hb.lt
theorem RowS.spAt {i : Nat} (h : RowS w t b n g) (hi : i < n) : SpAt w b (i * 3) (g i) := by
  obtain ⟨cs, hb, hn, hc⟩ := h
  have h0 := hc i hi 0 (by omega); have h1 := hc i hi 1 (by omega); have h2 := hc i hi 2 (by omega)
  exact ⟨(hb.cell _).trans h0, (hb.cell _).trans h1, (hb.cell _).trans h2⟩
theorem RowS.rd {B : Nat} (h : RowS w t b n g) (hB : b < B) : RdS w B (some ⟨b, 0, none⟩) n g := fun _ =>
  ⟨b, 0, rfl, hB, fun i hi => by rw [Nat.zero_add]; exact h.spAt hi⟩
theorem RowS.keep (h : RowS w t b n g) (hk : w'.heap[b]? = w.heap[b]?) : RowS w' t b n g := by
  obtain ⟨cs, hb, hn, hc⟩ := h
  exact ⟨cs, hk.trans hb, hn, hc⟩
theorem RowS.below {B : Nat} (h : RowS w t b n g) (hb : Below B w w') (hB : b < B) : RowS w' t b n g := h.keep (hb.block b hB)
theorem RowS.grown {b' : Nat} (h : RowS w t b n g) (hg : w.grownBy w' (some b')) (hne : b ≠ b') : RowS w' t b n g :=
  h.keep (hg.block b h.lt (by simpa using hne))
end
theorem rds_of {w : World} {t : TypeId} {b n : Nat} {g : Nat → Sp} (h : RowS w t b n g) : RdS w w.heap.size (some ⟨b, 0, none⟩) n g := h.rd h.lt

theorem toSpan_any (d : Sp) (w : World) : Calls Try.prog 101 #[spV d] w fun e w' => e = .returned (spV d) ∧ Below w.heap.size w w' := by
  go_enter Try.func101, Try.ntmps101
  go_wp2_with fail
  exact bodyPost_ret (v := spV d) (by simp [results, Try.results101, go_sem]) rfl ⟨rfl, (((Below.refl _ _).alloc (Nat.le_refl _) _).alloc (by simp) _).alloc (by simp; omega) _⟩

theorem info_span : (Try.prog.info? 46).map (fun i => (i.zero, i.size, i.bytes)) = some (some (spV ⟨0, 0, false⟩), 3, 24) := by kernel_rfl

/-- Three cells written from place k * 3 on. -/
def put3 (cs : Array Value) (k : Nat) (d : Sp) : Array Value :=
  ((cs.setIfInBounds (k * 3) (.int .i64 d.lo)).setIfInBounds (k * 3 + 1) (.int .i64 d.hi)).setIfInBounds (k * 3 + 2) (.bool d.gone)
theorem put3_size (cs : Array Value) (k : Nat) (d : Sp) : (put3 cs k d).size = cs.size := by simp [put3]
theorem put3_in {cs : Array Value} {k : Nat} (d : Sp) (h : k * 3 + 3 ≤ cs.size) (j : Nat) (hj : j < 3) : (put3 cs k d)[k * 3 + j]? = (spC d)[j]? := by
  unfold put3 spC
  obtain rfl | rfl | rfl : j = 0 ∨ j = 1 ∨ j = 2 := by omega
  all_goals (simp only [Array.getElem?_setIfInBounds, Array.size_setIfInBounds]; simp; try omega)
theorem put3_out {cs : Array Value} {k : Nat} (d : Sp) (p : Nat) (hp : p < k * 3 ∨ k * 3 + 3 ≤ p) : (put3 cs k d)[p]? = cs[p]? := by
  unfold put3
  rw [Array.getElem?_setIfInBounds_ne (by omega), Array.getElem?_setIfInBounds_ne (by omega), Array.getElem?_setIfInBounds_ne (by omega)]
theorem blk_put3 {w : World} {b : Nat} {t : TypeId} {cs : Array Value} (h : Blk w b t cs) (k : Nat) (d : Sp) :
    Blk (((w.setCell ⟨b, k * 3, none⟩ (.int .i64 d.lo)).setCell ⟨b, k * 3 + 1, none⟩ (.int .i64 d.hi)).setCell ⟨b, k * 3 + 2, none⟩ (.bool d.gone)) b t (put3 cs k d) :=
  ((h.set_ (k * 3) (.int .i64 d.lo)).set_ (k * 3 + 1) (.int .i64 d.hi)).set_ (k * 3 + 2) (.bool d.gone)
theorem below_put3 {B : Nat} {a w : World} {b : Nat} (h : Below B a w) (hb : B ≤ b) (k : Nat) (d : Sp) :
    Below B a (((w.setCell ⟨b, k * 3, none⟩ (.int .i64 d.lo)).setCell ⟨b, k * 3 + 1, none⟩ (.int .i64 d.hi)).setCell ⟨b, k * 3 + 2, none⟩ (.bool d.gone)) := by
  have h0 := h.setCell (p := ⟨b, k * 3, none⟩) hb (.int .i64 d.lo)
  have h1 := h0.setCell (p := ⟨b, k * 3 + 1, none⟩) hb (.int .i64 d.hi)
  exact h1.setCell (p := ⟨b, k * 3 + 2, none⟩) hb (.bool d.gone)

set_option maxHeartbeats 1000000 in
theorem toS_any (A : Option Addr) (n cap : Nat) (g : Nat → Sp) (w : World) (h : RdS w w.heap.size A n g) (hn : n ≤ 4194304) :
    Calls Try.prog 52 #[.slice A n cap] w fun e w' =>
      ∃ b, e = .returned (.slice (some ⟨b, 0, none⟩) n n) ∧ w.heap.size ≤ b ∧ RowS w' 46 b n g ∧ Below w.heap.size w w' := by
  obtain ⟨i0, hi0, hz0, hz1, hz2⟩ := info_parts info_span
  have hmk := fun wx => run_make_rowN (P := Try.prog) 39 46 i0 _ Try.underlying39 hi0 hz0 .i64 .i64 n n (Nat.le_refl _) (by rw [hz2]; omega) (by omega) wx
  rw [hz1] at hmk
  clear hz0 hz1 hz2 hi0
  go_enter Try.func52, Try.ntmps52
  go_wp2_with fail
  go_loopw [4] (fun i wr => ∃ (k : Nat) (cs : Array Value), k ≤ n ∧ i = .int .i64 k ∧ Blk wr w.heap.size 46 cs ∧ n * 3 ≤ cs.size ∧ Hid (∀ i, i < k → ∀ j, j < 3 → cs[i * 3 + j]? = (spC (g i))[j]?) ∧ Below w.heap.size w wr)
    (fun i _ => n - (intOf i).toNat)
  case atStart => exact ⟨0, _, Nat.zero_le _, rfl, Blk.new _ _ _, by simp [madeCells], fun j hj => by omega, (Below.refl _ _).alloc (Nat.le_refl _) _⟩
  case round =>
    obtain ⟨k, cs, hk, rfl, hB, hsz, hcs, hbl⟩ := hrel
    by_cases hlt : k < n
    · obtain ⟨b, off, rfl, hb, c0, c1, c2⟩ := (h.below hbl).at_ hlt
      have hl : (k : Int) < (n : Int) := by omega
      go_wp2_with fail
      refine (toSpan_any (g k) _).mono ?_
      rintro e w1 ⟨rfl, hb1⟩
      have hB1 := hB.below hb1 hB.lt
      have hbl1 := hbl.trans (hb1.mono hbl.size)
      clear hB hb1 hbl c0 c1 c2
      have s0 : w1.cell? ⟨w.heap.size, k * 3, none⟩ = some (cs[k * 3]'(by omega)) := by rw [hB1.cell, Array.getElem?_eq_getElem]
      have s1 : w1.cell? ⟨w.heap.size, k * 3 + 1, none⟩ = some (cs[k * 3 + 1]'(by omega)) := by rw [hB1.cell, Array.getElem?_eq_getElem]
      have s2 : w1.cell? ⟨w.heap.size, k * 3 + 2, none⟩ = some (cs[k * 3 + 2]'(by omega)) := by rw [hB1.cell, Array.getElem?_eq_getElem]
      have f0 := hB1.frozen (k * 3); have f1 := hB1.frozen (k * 3 + 1); have f2 := hB1.frozen (k * 3 + 2)
      go_wp2_with fail
      go_roundw
      case rel =>
        refine ⟨k + 1, _, by omega, by go_num, blk_put3 hB1 k (g k), by rw [put3_size]; exact hsz, fun i hi j hj => ?_, below_put3 hbl1 (Nat.le_refl _) k (g k)⟩
        by_cases e : i = k
        · subst e; exact put3_in (g i) (by omega) j hj
        · rw [put3_out (g k) (i * 3 + j) (by omega)]; exact hcs.out i (by omega) j hj
      case measure => simp [intOf]; omega
    · have e : k = n := by omega
      go_wp2_with fail
      go_ret
      exact ⟨_, rfl, Nat.le_refl _, ⟨cs, hB, hsz, fun i hi => hcs.out i (by omega)⟩, hbl⟩

set_option maxHeartbeats 1000000 in
theorem eqSpan_any (d : Sp) (w : World) : Calls Try.prog 102 #[spV d, spV d] w fun e w' => e = .returned (.bool true) ∧ Below w.heap.size w w' := by
  go_enter Try.func102, Try.ntmps102
  go_wp2_with fail
  go_ret
  exact ⟨rfl, ((Below.refl _ _).alloc (Nat.le_refl _) _).alloc (by simp) _⟩

set_option maxHeartbeats 1000000 in
/-- eqSpanS at two slices that read alike. -/
theorem eqS_any (A A' : Option Addr) (n c c' : Nat) (g : Nat → Sp) (w : World) (h : RdS w w.heap.size A n g) (h' : RdS w w.heap.size A' n g) (hn : n ≤ 4194304) :
    Calls Try.prog 53 #[.slice A n c, .slice A' n c'] w fun e w' => e = .returned (.bool true) ∧ Below w.heap.size w w' := by
  go_enter Try.func53, Try.ntmps53
  go_wp2_with fail
  go_loopw [5] (fun i wr => ∃ k : Nat, k ≤ n ∧ i = .int .i64 k ∧ Below w.heap.size w wr) (fun i _ => n - (intOf i).toNat)
  case atStart => exact ⟨0, Nat.zero_le _, rfl, Below.refl _ _⟩
  case round =>
    obtain ⟨k, hk, rfl, hbl⟩ := hrel
    by_cases hlt : k < n
    · obtain ⟨b, off, rfl, hb, c0, c1, c2⟩ := (h.below hbl).at_ hlt
      obtain ⟨b', off', rfl, hb', c0', c1', c2'⟩ := (h'.below hbl).at_ hlt
      have hi : (k : Int) < (n : Int) := by omega
      have hi0 : (0 : Int) ≤ (k : Int) := by omega
      have hlb : b < wr.heap.size := Nat.lt_of_lt_of_le hb hbl.size
      have hlb' : b' < wr.heap.size := Nat.lt_of_lt_of_le hb' hbl.size
      go_wp2_with fail
      go_region_held3 (fun w' => w'.cell? ⟨b, off + k * 3, none⟩ = some (.int .i64 (g k).lo) ∧ w'.cell? ⟨b, off + k * 3 + 1, none⟩ = some (.int .i64 (g k).hi) ∧ w'.cell? ⟨b, off + k * 3 + 2, none⟩ = some (.bool (g k).gone) ∧ w'.cell? ⟨b', off' + k * 3, none⟩ = some (.int .i64 (g k).lo) ∧ w'.cell? ⟨b', off' + k * 3 + 1, none⟩ = some (.int .i64 (g k).hi) ∧ w'.cell? ⟨b', off' + k * 3 + 2, none⟩ = some (.bool (g k).gone))
        (first | (simp [go_sem]; done) | exact ⟨e0, e1, e2, e0', e1', e2'⟩ | (simp [go_sem, *]; done))
        (first
          | (go_at_call 102; refine (eqSpan_any (g k) _).mono ?_; rintro e w1 ⟨rfl, hb1⟩; obtain ⟨hc1, hf1⟩ := bcell hb1; have e0 := (hc1 b _ hlb).trans c0; have e1 := (hc1 b _ hlb).trans c1; have e2 := (hc1 b _ hlb).trans c2; have e0' := (hc1 b' _ hlb').trans c0'; have e1' := (hc1 b' _ hlb').trans c1'; have e2' := (hc1 b' _ hlb').trans c2'))
      have hbl2 := hbl.drew.trans (hb1.mono hbl.size)
      clear hb1 hc1 hf1 e0 e1 e2 e0' e1' e2' c0 c1 c2 c0' c1' c2'
      go_wp2_with fail
      go_roundw
      case rel => exact ⟨k + 1, by omega, by go_num, hbl2⟩
      case measure => simp [intOf]; omega
    · go_wp2_with fail
      go_ret
      exact ⟨rfl, hbl⟩

theorem szS_big (A : Option Addr) (n cap : Nat) (l : Int) (w : World) (hn : n ≤ 9223372036854775807) (h0 : 0 ≤ l) (h1 : l ≤ 1048576) (hl : l - (n : Int) < 0) :
    Calls Try.prog 51 #[.slice A n cap, .int .i64 l] w fun e w' => e = .returned (.int .i64 (-1)) ∧ w = w' := by
  go_enter Try.func51, Try.ntmps51
  go_wp2_with fail
  go_ret
  exact ⟨rfl, rfl⟩
theorem szS_ok (A : Option Addr) (n cap : Nat) (l : Int) (w : World) (hn : n ≤ 9223372036854775807) (h0 : 0 ≤ l) (h1 : l ≤ 1048576) (hl : ¬ l - (n : Int) < 0) :
    Calls Try.prog 51 #[.slice A n cap, .int .i64 l] w fun e w' => e = .returned (.int .i64 (l - n)) ∧ w = w' := by
  go_enter Try.func51, Try.ntmps51
  go_wp2_with fail
  go_ret
  exact ⟨rfl, rfl⟩
end Go.Proofs.Ythdilioflhknpaa
