/- The texts of the elements of a list, at three types of elements; a row of strings joined. -/
import Derived.Test.YthjphnopcgdgdaaDoorSpT
import Derived.Test.YthjphnopcgdgdaaDoorHtB
namespace Go.Proofs.YthjphnopcgdgdaaDoor
open Go.RowKit Go.Deep

/-- Block b bears n strings. -/
def RowT (w : World) (b n : Nat) (f : Nat → ByteArray) : Prop := ∃ cs : Array Value, Blk w b 9 cs ∧ cs.size = n ∧ ∀ j, j < n → cs[j]? = some (.string (f j))
theorem RowT.lt {w : World} {b n : Nat} {f : Nat → ByteArray} (h : RowT w b n f) : b < w.heap.size := by obtain ⟨cs, hb, _⟩ := h; exact hb.lt
theorem RowT.below {w w' : World} {b n B : Nat} {f : Nat → ByteArray} (h : RowT w b n f) (hb : Below B w w') (hB : b < B) : RowT w' b n f := by
  obtain ⟨cs, h1, h2, h3⟩ := h
  exact ⟨cs, h1.below hb hB, h2, h3⟩
theorem RowT.cell {w : World} {b n i : Nat} {f : Nat → ByteArray} (h : RowT w b n f) (hi : i < n) : w.cell? ⟨b, i, none⟩ = some (.string (f i)) := by
  obtain ⟨cs, h1, h2, h3⟩ := h
  rw [h1.cell]
  exact h3 i hi
/-- Joining a row. -/
theorem join_row {w : World} {b n M : Nat} {f : Nat → ByteArray} {sep : ByteArray} (h : RowT w b n f) (hn : n ≤ 4194304) (hM : (joinTo f sep n).size ≤ M) (hM2 : M ≤ 140737488355328) :
    Calls Tryd.prog 51 #[.slice (some ⟨b, 0, none⟩) n n, .string sep] w fun e w' => e = .returned (.string (joinTo f sep n)) ∧ Below w.heap.size w w' := by
  have hlx : ((List.range n).map f).length = n := by simp
  have hJ := strings_Join b 0 n ((List.range n).map f) sep w (fun j x hx => by
    have hjn : j < n := by
      have := (List.getElem?_eq_some_iff.1 hx).1
      simpa using this
    rw [Nat.zero_add, h.cell hjn]
    simp [hjn] at hx
    rw [hx]) h.lt (by rw [hlx]; omega) (by rw [hlx]; exact Nat.le_refl _) (join_len (Nat.le_trans hM hM2))
  rw [hlx, join_is] at hJ
  exact hJ
/-- A Hit as it lies in memory. -/
structure Ht where
  ix : Int
  sc : Int
abbrev htV (h : Ht) : Value := hitV h.ix h.sc
def HtAt (w : World) (b o : Nat) (h : Ht) : Prop := w.cell? ⟨b, o, none⟩ = some (.int .i64 h.ix) ∧ w.cell? ⟨b, o + 1, none⟩ = some (.int .i64 h.sc)
/-- The slice at A reads as n Hits g, and lies below block B. -/
def RdH (w : World) (B : Nat) (A : Option Addr) (n : Nat) (g : Nat → Ht) : Prop :=
  0 < n → ∃ b off, A = some ⟨b, off, none⟩ ∧ b < B ∧ ∀ i, i < n → HtAt w b (off + i * 2) (g i)
section
variable {w w' : World} {B B' n : Nat} {A : Option Addr} {g : Nat → Ht}
theorem HtAt.keep {b o : Nat} {d : Ht} (h : HtAt w b o d) (hk : ∀ o, w'.cell? ⟨b, o, none⟩ = w.cell? ⟨b, o, none⟩) : HtAt w' b o d := by
  unfold HtAt at h ⊢
  simp only [hk]
  exact h
theorem RdH.keep (h : RdH w B A n g) (hk : ∀ p : Addr, p.block < B → w'.cell? p = w.cell? p) : RdH w' B A n g := fun hn => by
  obtain ⟨b, off, e, hb, hc⟩ := h hn
  exact ⟨b, off, e, hb, fun i hi => (hc i hi).keep fun o => hk ⟨b, o, none⟩ hb⟩
theorem RdH.more (h : RdH w B A n g) (hB : B ≤ B') : RdH w B' A n g := fun hn => by
  obtain ⟨b, off, e, hb, hc⟩ := h hn
  exact ⟨b, off, e, by omega, hc⟩
theorem RdH.below (h : RdH w B A n g) (hb : Below B w w') : RdH w' B A n g := h.keep fun _ hp => hb.cell hp
theorem RdH.to (h : RdH w B A n g) (hb : Below B w w') (hB : B ≤ w'.heap.size) : RdH w' w'.heap.size A n g := (h.below hb).more hB
theorem RdH.at_ {k : Nat} (h : RdH w B A n g) (hk : k < n) : ∃ b off, A = some ⟨b, off, none⟩ ∧ b < B ∧ HtAt w b (off + k * 2) (g k) := by
  obtain ⟨b, off, e, hb, hc⟩ := h (by omega)
  exact ⟨b, off, e, hb, hc k hk⟩
end

set_option maxRecDepth 100000 in
set_option maxHeartbeats 4000000 in
theorem texts_span (A : Option Addr) (n cap : Nat) (g : Nat → Sp) (w : World) (h : RdS w w.heap.size A n g) (hn : n ≤ 4194304) (hin : Hid (∀ i, i < n → SpIn (g i))) (hp : Hid (Pow w w.heap.size)) :
    Calls Tryd.prog 59 #[.slice A n cap, .func (.func 15) #[] #[]] w fun e w' =>
      ∃ b, e = .returned (.slice (some ⟨b, 0, none⟩) n n) ∧ w.heap.size ≤ b ∧ RowT w' b n (fun i => spS (g i)) ∧ Below w.heap.size w w' := by
  have hmk := run_make_row' (P := Tryd.prog) 54 9 (.string ByteArray.empty) 16 Tryd.underlying54 info_strT rfl .i64 .i64 n (by omega) (by omega)
  go_enter Tryd.func59, Tryd.ntmps59
  go_wp2_with fail
  go_loopw [13] (fun i wr => ∃ (k : Nat) (cs : Array Value), k ≤ n ∧ i = .int .i64 k ∧ Blk wr w.heap.size 9 cs ∧ cs.size = n ∧ Hid (∀ j, j < k → cs[j]? = some (.string ((fun i => spS (g i)) j))) ∧ Hid (Below w.heap.size w wr))
    (fun i _ => n - (intOf i).toNat)
  case atStart => exact ⟨0, _, Nat.zero_le _, rfl, Blk.new _ _ _, by simp [madeCells], fun j hj => by omega, (Below.refl w.heap.size w).alloc (Nat.le_refl _) _⟩
  case round =>
    obtain ⟨k, cs, hk, rfl, hB, hsz, hcs, hbl⟩ := hrel
    by_cases hlt : k < n
    · obtain ⟨b, off, rfl, hb, c0, c1, c2⟩ := (h.below hbl.out).at_ hlt
      have i1 : (k : Int) < (n : Int) := by omega
      have i3 : (0 : Int) ≤ (k : Int) := by omega
      have hBn := hB.alloc (.cells #[.int .i64 (g k).lo, .int .i64 (g k).hi, .bool (g k).gone] 32)
      have hbn := (Below.refl wr.heap.size wr).alloc (Nat.le_refl _) (.cells #[.int .i64 (g k).lo, .int .i64 (g k).hi, .bool (g k).gone] 32)
      have hpw : Hid (∀ W, Below wr.heap.size wr W → Pow W W.heap.size) := fun W hW W' hW' => hp.out W' ((hbl.out.trans (hW.mono hbl.out.size)).trans (hW'.mono (hbl.out.trans (hW.mono hbl.out.size)).size))
      have hBlt := hB.lt
      clear hB
      go_wp2_with fail
      refine (iSpanText_any (g k) _ (hin.out k hlt) (hid (hpw.out _ hbn))).mono ?_
      rintro e w5 ⟨rfl, hb5⟩
      have hB5 := hBn.below hb5 hBn.lt
      have hb15 := hbn.trans (hb5.mono hbn.size)
      have hbl5 := hid (hbl.out.trans (hb15.mono hbl.out.size))
      have hc2 : w5.cell? ⟨w.heap.size, k, none⟩ = some (cs[k]'(by omega)) := by rw [hB5.cell, Array.getElem?_eq_getElem]
      have hf2 := hB5.frozen k
      clear hBn hb5 hb15 hbn hbl c0 c1 c2
      go_wp2_with fail
      go_roundw
      case rel =>
        refine ⟨k + 1, _, by omega, by go_num, hB5.set_ k _, by simpa using hsz, hid (fun j hj => ?_), hid (hbl5.out.setCell (Nat.le_refl _) _)⟩
        by_cases e : j = k
        · subst e; rw [Array.getElem?_setIfInBounds_self_of_lt (by omega)]
        · rw [Array.getElem?_setIfInBounds_ne (by omega)]; exact hcs.out j (by omega)
      case measure => simp [intOf]; omega
    · have e : k = n := by omega
      subst e
      go_wp2_with fail
      go_ret
      exact ⟨_, rfl, Nat.le_refl _, ⟨cs, hB, hsz, hcs.out⟩, hbl.out⟩

set_option maxRecDepth 100000 in
set_option maxHeartbeats 4000000 in
theorem texts_int (A : Option Addr) (n cap : Nat) (g : Nat → Int) (w : World) (h : Rd w w.heap.size A n g) (hn : n ≤ 4194304) (hin : Hid (∀ i, i < n → I64 (g i))) (hp : Hid (Pow w w.heap.size)) :
    Calls Tryd.prog 49 #[.slice A n cap, .func (.func 40) #[] #[]] w fun e w' =>
      ∃ b, e = .returned (.slice (some ⟨b, 0, none⟩) n n) ∧ w.heap.size ≤ b ∧ RowT w' b n (fun i => decS (g i)) ∧ Below w.heap.size w w' := by
  have hmk := run_make_row' (P := Tryd.prog) 54 9 (.string ByteArray.empty) 16 Tryd.underlying54 info_strT rfl .i64 .i64 n (by omega) (by omega)
  go_enter Tryd.func49, Tryd.ntmps49
  go_wp2_with fail
  go_loopw [13] (fun i wr => ∃ (k : Nat) (cs : Array Value), k ≤ n ∧ i = .int .i64 k ∧ Blk wr w.heap.size 9 cs ∧ cs.size = n ∧ Hid (∀ j, j < k → cs[j]? = some (.string ((fun i => decS (g i)) j))) ∧ Hid (Below w.heap.size w wr))
    (fun i _ => n - (intOf i).toNat)
  case atStart => exact ⟨0, _, Nat.zero_le _, rfl, Blk.new _ _ _, by simp [madeCells], fun j hj => by omega, (Below.refl w.heap.size w).alloc (Nat.le_refl _) _⟩
  case round =>
    obtain ⟨k, cs, hk, rfl, hB, hsz, hcs, hbl⟩ := hrel
    by_cases hlt : k < n
    · obtain ⟨b, off, rfl, hb, c0⟩ := (h.below hbl.out).at_ hlt
      have i1 : (k : Int) < (n : Int) := by omega
      have i3 : (0 : Int) ≤ (k : Int) := by omega
      have hBn := hB
      have hbn := Below.refl wr.heap.size wr
      have hpw : Hid (∀ W, Below wr.heap.size wr W → Pow W W.heap.size) := fun W hW W' hW' => hp.out W' ((hbl.out.trans (hW.mono hbl.out.size)).trans (hW'.mono (hbl.out.trans (hW.mono hbl.out.size)).size))
      have hBlt := hB.lt
      clear hB
      go_wp2_with fail
      refine (decimal_any (g k) _ (hin.out k hlt).1 (hin.out k hlt).2 (hid ((hpw.out _ hbn) _ (Below.refl _ _)))).mono ?_
      rintro e w5 ⟨rfl, hb5⟩
      have hB5 := hBn.below hb5 hBn.lt
      have hb15 := hbn.trans (hb5.mono hbn.size)
      have hbl5 := hid (hbl.out.trans (hb15.mono hbl.out.size))
      have hc2 : w5.cell? ⟨w.heap.size, k, none⟩ = some (cs[k]'(by omega)) := by rw [hB5.cell, Array.getElem?_eq_getElem]
      have hf2 := hB5.frozen k
      clear hBn hb5 hb15 hbn hbl c0
      go_wp2_with fail
      go_roundw
      case rel =>
        refine ⟨k + 1, _, by omega, by go_num, hB5.set_ k _, by simpa using hsz, hid (fun j hj => ?_), hid (hbl5.out.setCell (Nat.le_refl _) _)⟩
        by_cases e : j = k
        · subst e; rw [Array.getElem?_setIfInBounds_self_of_lt (by omega)]
        · rw [Array.getElem?_setIfInBounds_ne (by omega)]; exact hcs.out j (by omega)
      case measure => simp [intOf]; omega
    · have e : k = n := by omega
      subst e
      go_wp2_with fail
      go_ret
      exact ⟨_, rfl, Nat.le_refl _, ⟨cs, hB, hsz, hcs.out⟩, hbl.out⟩

set_option maxRecDepth 100000 in
set_option maxHeartbeats 4000000 in
theorem texts_hit (A : Option Addr) (n cap : Nat) (g : Nat → Ht) (w : World) (h : RdH w w.heap.size A n g) (hn : n ≤ 4194304) (hin : Hid (∀ i, i < n → I64 (g i).ix ∧ I64 (g i).sc)) (hp : Hid (Pow w w.heap.size)) :
    Calls Tryd.prog 50 #[.slice A n cap, .func (.func 30) #[] #[]] w fun e w' =>
      ∃ b, e = .returned (.slice (some ⟨b, 0, none⟩) n n) ∧ w.heap.size ≤ b ∧ RowT w' b n (fun i => htS (g i).ix (g i).sc) ∧ Below w.heap.size w w' := by
  have hmk := run_make_row' (P := Tryd.prog) 54 9 (.string ByteArray.empty) 16 Tryd.underlying54 info_strT rfl .i64 .i64 n (by omega) (by omega)
  go_enter Tryd.func50, Tryd.ntmps50
  go_wp2_with fail
  go_loopw [13] (fun i wr => ∃ (k : Nat) (cs : Array Value), k ≤ n ∧ i = .int .i64 k ∧ Blk wr w.heap.size 9 cs ∧ cs.size = n ∧ Hid (∀ j, j < k → cs[j]? = some (.string ((fun i => htS (g i).ix (g i).sc) j))) ∧ Hid (Below w.heap.size w wr))
    (fun i _ => n - (intOf i).toNat)
  case atStart => exact ⟨0, _, Nat.zero_le _, rfl, Blk.new _ _ _, by simp [madeCells], fun j hj => by omega, (Below.refl w.heap.size w).alloc (Nat.le_refl _) _⟩
  case round =>
    obtain ⟨k, cs, hk, rfl, hB, hsz, hcs, hbl⟩ := hrel
    by_cases hlt : k < n
    · obtain ⟨b, off, rfl, hb, c0, c1⟩ := (h.below hbl.out).at_ hlt
      have i1 : (k : Int) < (n : Int) := by omega
      have i3 : (0 : Int) ≤ (k : Int) := by omega
      have hBn := hB.alloc (.cells #[.int .i64 (g k).ix, .int .i64 (g k).sc] 25)
      have hbn := (Below.refl wr.heap.size wr).alloc (Nat.le_refl _) (.cells #[.int .i64 (g k).ix, .int .i64 (g k).sc] 25)
      have hpw : Hid (∀ W, Below wr.heap.size wr W → Pow W W.heap.size) := fun W hW W' hW' => hp.out W' ((hbl.out.trans (hW.mono hbl.out.size)).trans (hW'.mono (hbl.out.trans (hW.mono hbl.out.size)).size))
      have hBlt := hB.lt
      clear hB
      go_wp2_with fail
      refine (hitWord_any (g k).ix (g k).sc _ (hin.out k hlt).1 (hin.out k hlt).2 (hid (hpw.out _ hbn))).mono ?_
      rintro e w5 ⟨rfl, hb5⟩
      have hB5 := hBn.below hb5 hBn.lt
      have hb15 := hbn.trans (hb5.mono hbn.size)
      have hbl5 := hid (hbl.out.trans (hb15.mono hbl.out.size))
      have hc2 : w5.cell? ⟨w.heap.size, k, none⟩ = some (cs[k]'(by omega)) := by rw [hB5.cell, Array.getElem?_eq_getElem]
      have hf2 := hB5.frozen k
      clear hBn hb5 hb15 hbn hbl c0 c1
      go_wp2_with fail
      go_roundw
      case rel =>
        refine ⟨k + 1, _, by omega, by go_num, hB5.set_ k _, by simpa using hsz, hid (fun j hj => ?_), hid (hbl5.out.setCell (Nat.le_refl _) _)⟩
        by_cases e : j = k
        · subst e; rw [Array.getElem?_setIfInBounds_self_of_lt (by omega)]
        · rw [Array.getElem?_setIfInBounds_ne (by omega)]; exact hcs.out j (by omega)
      case measure => simp [intOf]; omega
    · have e : k = n := by omega
      subst e
      go_wp2_with fail
      go_ret
      exact ⟨_, rfl, Nat.le_refl _, ⟨cs, hB, hsz, hcs.out⟩, hbl.out⟩
end Go.Proofs.YthjphnopcgdgdaaDoor
