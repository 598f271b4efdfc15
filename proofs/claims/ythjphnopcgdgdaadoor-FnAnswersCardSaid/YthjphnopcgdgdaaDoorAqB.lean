/- An answer's lists grow: what holds while the operations come up. -/
import Derived.Test.YthjphnopcgdgdaaDoorAqA
namespace Go.Proofs.YthjphnopcgdgdaaDoor
open Go.RowKit Go.Deep

theorem gD_in {l : Array Bool} {i : Nat} (hi : i < l.size) (h : l.getD i true = true) : l.getD i false = true := by
  rw [Array.getD_eq_getD_getElem?, Array.getElem?_eq_getElem hi] at h ⊢
  exact h
theorem gD_out {l : Array Bool} {i N : Nat} (hl : l.size = N) (hi : i < N) (h : l.getD i true = false) : l.getD i false = false := by
  rw [Array.getD_eq_getD_getElem?, Array.getElem?_eq_getElem (by omega)] at h ⊢
  exact h
theorem gD_ne {l : Array Bool} {i j : Nat} {b : Bool} (h : i ≠ j) : (l.setIfInBounds i true).getD j b = l.getD j b := by
  rw [Array.getD_eq_getD_getElem?, Array.getElem?_setIfInBounds_ne h, ← Array.getD_eq_getD_getElem?]
theorem gD_self {l : Array Bool} {i N : Nat} (hl : l.size = N) (hi : i < N) : (l.setIfInBounds i true).getD i false = true := by
  rw [Array.getD_eq_getD_getElem?, Array.getElem?_setIfInBounds_self_of_lt (by omega)]
  rfl
def NRow (q : Nat) (v : Value) (L : List Int) (w : World) : Prop := ∃ A c, v = .slice A L.length c ∧ w.ownsRow (q + 1) 2 1 v L.length (numsL L)
def HRow (q : Nat) (v : Value) (L : List Ht) (w : World) : Prop := ∃ A c, v = .slice A L.length c ∧ w.ownsRow (q + 1) 25 2 v L.length (hitsL L)
theorem NRow.alloc {q : Nat} {v : Value} {L : List Int} {w : World} (h : NRow q v L w) (o : Obj) : NRow q v L (w.alloc o) := by obtain ⟨A, c, e, h⟩ := h; exact ⟨A, c, e, h.alloc o⟩
theorem HRow.alloc {q : Nat} {v : Value} {L : List Ht} {w : World} (h : HRow q v L w) (o : Obj) : HRow q v L (w.alloc o) := by obtain ⟨A, c, e, h⟩ := h; exact ⟨A, c, e, h.alloc o⟩
theorem NRow.grown {q R : Nat} {v : Value} {L : List Int} {w w' : World} (h : NRow q v L w) (hg : w.grownBy w' (some R)) (hR : R < q + 1) : NRow q v L w' := by obtain ⟨A, c, e, h⟩ := h; exact ⟨A, c, e, own_grown h hg hR⟩
theorem HRow.grown {q R : Nat} {v : Value} {L : List Ht} {w w' : World} (h : HRow q v L w) (hg : w.grownBy w' (some R)) (hR : R < q + 1) : HRow q v L w' := by obtain ⟨A, c, e, h⟩ := h; exact ⟨A, c, e, own_grown h hg hR⟩
theorem NRow.setq {q o : Nat} {v : Value} {L : List Int} {w : World} (h : NRow q v L w) (u : Value) : NRow q v L (w.setCell ⟨q, o, none⟩ u) := by obtain ⟨A, c, e, h⟩ := h; exact ⟨A, c, e, own_setq h u⟩
theorem HRow.setq {q o : Nat} {v : Value} {L : List Ht} {w : World} (h : HRow q v L w) (u : Value) : HRow q v L (w.setCell ⟨q, o, none⟩ u) := by obtain ⟨A, c, e, h⟩ := h; exact ⟨A, c, e, own_setq h u⟩
def upQ (V : Nat → Value) (i : Nat) (v : Value) : Nat → Value := fun j => if j = i then v else V j
theorem upQ_ne {V : Nat → Value} {i j : Nat} {v : Value} (h : j ≠ i) : upQ V i v j = V j := by unfold upQ; rw [if_neg h]
theorem upQ_self {V : Nat → Value} {i : Nat} {v : Value} : upQ V i v i = v := by unfold upQ; rw [if_pos rfl]
abbrev pq (q f : Nat) : Value := .pointer (some ⟨q, f, none⟩)

/-- The values that are known, region A8. -/
def PA8 (R q : Nat) (gv : Value) (V : Nat → Value) (l : Array Bool) : Prop := (l.getD 0 false = true → V 0 = pq q 1) ∧ (l.getD 1 false = true → V 1 = gv) ∧ (l.getD 2 false = true → V 2 = pq R 0) ∧ (l.getD 3 false = true → ∃ x, V 3 = .int .i64 x ∧ 0 ≤ x ∧ x < 90) ∧ (l.getD 4 false = true → l.getD 3 false = true ∧ ∃ x, V 4 = .int .i64 x ∧ I64 x) ∧ (l.getD 7 false = true → V 7 = pq q 1)
/-- How far the region has come. -/
def SA8 (w0 : World) (R n cap : Nat) (A : Option Addr) (q : Nat) (co ct : Int) (gv ov : Value) (L : List Int) (V : Nat → Value) (l : Array Bool) (w : World) : Prop :=
  ((l.getD 5 false = false ∧ l.getD 6 false = false ∧ l.getD 8 false = false ∧ AQ w0 R n cap A q co ct gv ov w ∧ NRow q gv L w) ∨
      (l.getD 3 false = true ∧ l.getD 5 false = true ∧ l.getD 6 false = false ∧ l.getD 8 false = false ∧ AQ w0 R n cap A q co ct gv ov w ∧ NRow q gv L w ∧ ∃ (b : Nat) (x : Int), V 5 = .slice (some ⟨b, 0, none⟩) 1 1 ∧ I64 x ∧ b < w.heap.size ∧ w.cell? ⟨b, 0, none⟩ = some (.int .i64 x)) ∨
      (l.getD 1 false = true ∧ l.getD 3 false = true ∧ l.getD 5 false = true ∧ l.getD 6 false = true ∧ l.getD 8 false = false ∧ AQ w0 R n cap A q co ct gv ov w ∧ ∃ x : Int, I64 x ∧ NRow q (V 6) (L ++ [x]) w) ∨
      (l.getD 1 false = true ∧ l.getD 3 false = true ∧ l.getD 5 false = true ∧ l.getD 6 false = true ∧ l.getD 8 false = true ∧ ∃ (v : Value) (x : Int), I64 x ∧ AQ w0 R n cap A q co ct v ov w ∧ NRow q v (L ++ [x]) w))
def IA8 (w0 : World) (R n cap : Nat) (A : Option Addr) (q : Nat) (co ct : Int) (gv ov : Value) (L : List Int) (Lo : List Ht) (mk : (Nat → Value) → Act) (l : Array Bool) (a : Act) (w : World) : Prop :=
  l.size = 9 ∧ ∃ V, a = mk V ∧ PA8 R q gv V l ∧ SA8 w0 R n cap A q co ct gv ov L V l w ∧ HRow q ov Lo w
theorem IA8.pure {w0 : World} {R n cap : Nat} {A : Option Addr} {q : Nat} {co ct : Int} {gv ov : Value} {L : List Int} {Lo : List Ht} {mk : (Nat → Value) → Act} {V : Nat → Value} {l : Array Bool} {w : World} (hl : l.size = 9) (hP : PA8 R q gv V l) (hS : SA8 w0 R n cap A q co ct gv ov L V l w) (hO : HRow q ov Lo w)
    (i : Nat) (v : Value) (hi : (i = 0 ∧ v = pq q 1) ∨ (i = 1 ∧ v = gv) ∨ (i = 2 ∧ v = pq R 0) ∨ (i = 4 ∧ (l.getD 3 false = true ∧ ∃ x, v = .int .i64 x ∧ I64 x)) ∨ (i = 7 ∧ v = pq q 1)) (a' : Act) (ha : a' = mk (upQ V i v)) : IA8 w0 R n cap A q co ct gv ov L Lo mk (l.setIfInBounds i true) a' w := by
  refine ⟨by simpa using hl, _, ha, ?_, ?_, hO⟩
  · obtain ⟨p0, p1, p2, p3, p4, p5⟩ := hP
    unfold PA8
    rcases hi with ⟨rfl, hv⟩ | ⟨rfl, hv⟩ | ⟨rfl, hv⟩ | ⟨rfl, hv⟩ | ⟨rfl, hv⟩
    · exact ⟨fun _ => by rw [upQ_self]; exact hv, fun hj => by rw [gD_ne (show (0 : Nat) ≠ 1 by decide)] at hj; rw [upQ_ne (show (1 : Nat) ≠ 0 by decide)]; exact p1 hj, fun hj => by rw [gD_ne (show (0 : Nat) ≠ 2 by decide)] at hj; rw [upQ_ne (show (2 : Nat) ≠ 0 by decide)]; exact p2 hj, fun hj => by rw [gD_ne (show (0 : Nat) ≠ 3 by decide)] at hj; rw [upQ_ne (show (3 : Nat) ≠ 0 by decide)]; exact p3 hj, fun hj => by rw [gD_ne (show (0 : Nat) ≠ 4 by decide)] at hj; rw [upQ_ne (show (4 : Nat) ≠ 0 by decide)]; exact ⟨by rw [gD_ne (show (0 : Nat) ≠ 3 by decide)]; exact (p4 hj).1, (p4 hj).2⟩, fun hj => by rw [gD_ne (show (0 : Nat) ≠ 7 by decide)] at hj; rw [upQ_ne (show (7 : Nat) ≠ 0 by decide)]; exact p5 hj⟩
    · exact ⟨fun hj => by rw [gD_ne (show (1 : Nat) ≠ 0 by decide)] at hj; rw [upQ_ne (show (0 : Nat) ≠ 1 by decide)]; exact p0 hj, fun _ => by rw [upQ_self]; exact hv, fun hj => by rw [gD_ne (show (1 : Nat) ≠ 2 by decide)] at hj; rw [upQ_ne (show (2 : Nat) ≠ 1 by decide)]; exact p2 hj, fun hj => by rw [gD_ne (show (1 : Nat) ≠ 3 by decide)] at hj; rw [upQ_ne (show (3 : Nat) ≠ 1 by decide)]; exact p3 hj, fun hj => by rw [gD_ne (show (1 : Nat) ≠ 4 by decide)] at hj; rw [upQ_ne (show (4 : Nat) ≠ 1 by decide)]; exact ⟨by rw [gD_ne (show (1 : Nat) ≠ 3 by decide)]; exact (p4 hj).1, (p4 hj).2⟩, fun hj => by rw [gD_ne (show (1 : Nat) ≠ 7 by decide)] at hj; rw [upQ_ne (show (7 : Nat) ≠ 1 by decide)]; exact p5 hj⟩
    · exact ⟨fun hj => by rw [gD_ne (show (2 : Nat) ≠ 0 by decide)] at hj; rw [upQ_ne (show (0 : Nat) ≠ 2 by decide)]; exact p0 hj, fun hj => by rw [gD_ne (show (2 : Nat) ≠ 1 by decide)] at hj; rw [upQ_ne (show (1 : Nat) ≠ 2 by decide)]; exact p1 hj, fun _ => by rw [upQ_self]; exact hv, fun hj => by rw [gD_ne (show (2 : Nat) ≠ 3 by decide)] at hj; rw [upQ_ne (show (3 : Nat) ≠ 2 by decide)]; exact p3 hj, fun hj => by rw [gD_ne (show (2 : Nat) ≠ 4 by decide)] at hj; rw [upQ_ne (show (4 : Nat) ≠ 2 by decide)]; exact ⟨by rw [gD_ne (show (2 : Nat) ≠ 3 by decide)]; exact (p4 hj).1, (p4 hj).2⟩, fun hj => by rw [gD_ne (show (2 : Nat) ≠ 7 by decide)] at hj; rw [upQ_ne (show (7 : Nat) ≠ 2 by decide)]; exact p5 hj⟩
    · exact ⟨fun hj => by rw [gD_ne (show (4 : Nat) ≠ 0 by decide)] at hj; rw [upQ_ne (show (0 : Nat) ≠ 4 by decide)]; exact p0 hj, fun hj => by rw [gD_ne (show (4 : Nat) ≠ 1 by decide)] at hj; rw [upQ_ne (show (1 : Nat) ≠ 4 by decide)]; exact p1 hj, fun hj => by rw [gD_ne (show (4 : Nat) ≠ 2 by decide)] at hj; rw [upQ_ne (show (2 : Nat) ≠ 4 by decide)]; exact p2 hj, fun hj => by rw [gD_ne (show (4 : Nat) ≠ 3 by decide)] at hj; rw [upQ_ne (show (3 : Nat) ≠ 4 by decide)]; exact p3 hj, fun _ => ⟨by rw [gD_ne (show (4 : Nat) ≠ 3 by decide)]; exact hv.1, by rw [upQ_self]; exact hv.2⟩, fun hj => by rw [gD_ne (show (4 : Nat) ≠ 7 by decide)] at hj; rw [upQ_ne (show (7 : Nat) ≠ 4 by decide)]; exact p5 hj⟩
    · exact ⟨fun hj => by rw [gD_ne (show (7 : Nat) ≠ 0 by decide)] at hj; rw [upQ_ne (show (0 : Nat) ≠ 7 by decide)]; exact p0 hj, fun hj => by rw [gD_ne (show (7 : Nat) ≠ 1 by decide)] at hj; rw [upQ_ne (show (1 : Nat) ≠ 7 by decide)]; exact p1 hj, fun hj => by rw [gD_ne (show (7 : Nat) ≠ 2 by decide)] at hj; rw [upQ_ne (show (2 : Nat) ≠ 7 by decide)]; exact p2 hj, fun hj => by rw [gD_ne (show (7 : Nat) ≠ 3 by decide)] at hj; rw [upQ_ne (show (3 : Nat) ≠ 7 by decide)]; exact p3 hj, fun hj => by rw [gD_ne (show (7 : Nat) ≠ 4 by decide)] at hj; rw [upQ_ne (show (4 : Nat) ≠ 7 by decide)]; exact ⟨by rw [gD_ne (show (7 : Nat) ≠ 3 by decide)]; exact (p4 hj).1, (p4 hj).2⟩, fun _ => by rw [upQ_self]; exact hv⟩
  · have hne : i ≠ 3 ∧ i ≠ 5 ∧ i ≠ 6 ∧ i ≠ 8 := by rcases hi with ⟨rfl, _⟩ | ⟨rfl, _⟩ | ⟨rfl, _⟩ | ⟨rfl, _⟩ | ⟨rfl, _⟩ <;> omega
    unfold SA8
    rw [gD_ne (i := i) (j := 5) (by omega), gD_ne (i := i) (j := 6) (by omega), gD_ne (i := i) (j := 8) (by omega), gD_ne (i := i) (j := 3) (by omega), upQ_ne (by omega : 5 ≠ i), upQ_ne (by omega : 6 ≠ i)]
    rcases hS with h | h | ⟨h1, h⟩ | ⟨h1, h⟩
    · exact .inl h
    · exact .inr (.inl h)
    · refine .inr (.inr (.inl ⟨?_, h⟩))
      by_cases e : i = 1
      · subst e; exact gD_self hl (by omega)
      · rw [gD_ne e]; exact h1
    · refine .inr (.inr (.inr ⟨?_, h⟩))
      by_cases e : i = 1
      · subst e; exact gD_self hl (by omega)
      · rw [gD_ne e]; exact h1
theorem PA8.at3 {R q : Nat} {gv v : Value} {V : Nat → Value} {l : Array Bool} (hl : l.size = 9) (hP : PA8 R q gv V l) (hv : ∃ x, v = .int .i64 x ∧ 0 ≤ x ∧ x < 90) : PA8 R q gv (upQ V 3 v) (l.setIfInBounds 3 true) := by
  obtain ⟨p0, p1, p2, p3, p4, p5⟩ := hP
  unfold PA8
  exact ⟨fun hj => by rw [gD_ne (show (3 : Nat) ≠ 0 by decide)] at hj; rw [upQ_ne (show (0 : Nat) ≠ 3 by decide)]; exact p0 hj, fun hj => by rw [gD_ne (show (3 : Nat) ≠ 1 by decide)] at hj; rw [upQ_ne (show (1 : Nat) ≠ 3 by decide)]; exact p1 hj, fun hj => by rw [gD_ne (show (3 : Nat) ≠ 2 by decide)] at hj; rw [upQ_ne (show (2 : Nat) ≠ 3 by decide)]; exact p2 hj, fun _ => by rw [upQ_self]; exact hv, fun hj => by rw [gD_ne (show (3 : Nat) ≠ 4 by decide)] at hj; rw [upQ_ne (show (4 : Nat) ≠ 3 by decide)]; exact ⟨by exact gD_self hl (by omega), (p4 hj).2⟩, fun hj => by rw [gD_ne (show (3 : Nat) ≠ 7 by decide)] at hj; rw [upQ_ne (show (7 : Nat) ≠ 3 by decide)]; exact p5 hj⟩
theorem PA8.off {R q : Nat} {gv v : Value} {V : Nat → Value} {l : Array Bool} {i : Nat} (hi : i = 5 ∨ i = 6 ∨ i = 8) (hP : PA8 R q gv V l) : PA8 R q gv (upQ V i v) (l.setIfInBounds i true) := by
  obtain ⟨p0, p1, p2, p3, p4, p5⟩ := hP
  unfold PA8
  exact ⟨fun hj => by rw [gD_ne (show i ≠ 0 by omega)] at hj; rw [upQ_ne (show (0 : Nat) ≠ i by omega)]; exact p0 hj, fun hj => by rw [gD_ne (show i ≠ 1 by omega)] at hj; rw [upQ_ne (show (1 : Nat) ≠ i by omega)]; exact p1 hj, fun hj => by rw [gD_ne (show i ≠ 2 by omega)] at hj; rw [upQ_ne (show (2 : Nat) ≠ i by omega)]; exact p2 hj, fun hj => by rw [gD_ne (show i ≠ 3 by omega)] at hj; rw [upQ_ne (show (3 : Nat) ≠ i by omega)]; exact p3 hj, fun hj => by rw [gD_ne (show i ≠ 4 by omega)] at hj; rw [upQ_ne (show (4 : Nat) ≠ i by omega)]; exact ⟨by rw [gD_ne (show i ≠ 3 by omega)]; exact (p4 hj).1, (p4 hj).2⟩, fun hj => by rw [gD_ne (show i ≠ 7 by omega)] at hj; rw [upQ_ne (show (7 : Nat) ≠ i by omega)]; exact p5 hj⟩
theorem PA8.offV {R q : Nat} {gv : Value} {V : Nat → Value} {l : Array Bool} {i : Nat} (hi : i = 5 ∨ i = 6 ∨ i = 8) (hP : PA8 R q gv V l) : PA8 R q gv V (l.setIfInBounds i true) := by
  obtain ⟨p0, p1, p2, p3, p4, p5⟩ := hP
  unfold PA8
  exact ⟨fun hj => by rw [gD_ne (show i ≠ 0 by omega)] at hj; exact p0 hj, fun hj => by rw [gD_ne (show i ≠ 1 by omega)] at hj; exact p1 hj, fun hj => by rw [gD_ne (show i ≠ 2 by omega)] at hj; exact p2 hj, fun hj => by rw [gD_ne (show i ≠ 3 by omega)] at hj; exact p3 hj, fun hj => by rw [gD_ne (show i ≠ 4 by omega)] at hj; exact ⟨by rw [gD_ne (show i ≠ 3 by omega)]; exact (p4 hj).1, (p4 hj).2⟩, fun hj => by rw [gD_ne (show i ≠ 7 by omega)] at hj; exact p5 hj⟩

/-- The values that are known, region A9. -/
def PA9 (R q : Nat) (gv : Value) (V : Nat → Value) (l : Array Bool) : Prop := (l.getD 0 false = true → V 0 = pq q 2) ∧ (l.getD 1 false = true → V 1 = gv) ∧ (l.getD 2 false = true → V 2 = pq R 0) ∧ (l.getD 3 false = true → ∃ x : Ht, V 3 = htV x ∧ (I64 x.ix ∧ I64 x.sc)) ∧ (l.getD 6 false = true → V 6 = pq q 2)
/-- How far the region has come. -/
def SA9 (w0 : World) (R n cap : Nat) (A : Option Addr) (q : Nat) (co ct : Int) (gv ov : Value) (L : List Ht) (V : Nat → Value) (l : Array Bool) (w : World) : Prop :=
  ((l.getD 4 false = false ∧ l.getD 5 false = false ∧ l.getD 7 false = false ∧ AQ w0 R n cap A q co ct ov gv w ∧ HRow q gv L w) ∨
      (l.getD 3 false = true ∧ l.getD 4 false = true ∧ l.getD 5 false = false ∧ l.getD 7 false = false ∧ AQ w0 R n cap A q co ct ov gv w ∧ HRow q gv L w ∧ ∃ (b : Nat) (x : Ht), V 4 = .slice (some ⟨b, 0, none⟩) 1 1 ∧ (I64 x.ix ∧ I64 x.sc) ∧ b < w.heap.size ∧ (w.cell? ⟨b, 0, none⟩ = some (.int .i64 x.ix) ∧ w.cell? ⟨b, 1, none⟩ = some (.int .i64 x.sc))) ∨
      (l.getD 1 false = true ∧ l.getD 3 false = true ∧ l.getD 4 false = true ∧ l.getD 5 false = true ∧ l.getD 7 false = false ∧ AQ w0 R n cap A q co ct ov gv w ∧ ∃ x : Ht, (I64 x.ix ∧ I64 x.sc) ∧ HRow q (V 5) (L ++ [x]) w) ∨
      (l.getD 1 false = true ∧ l.getD 3 false = true ∧ l.getD 4 false = true ∧ l.getD 5 false = true ∧ l.getD 7 false = true ∧ ∃ (v : Value) (x : Ht), (I64 x.ix ∧ I64 x.sc) ∧ AQ w0 R n cap A q co ct ov v w ∧ HRow q v (L ++ [x]) w))
def IA9 (w0 : World) (R n cap : Nat) (A : Option Addr) (q : Nat) (co ct : Int) (gv ov : Value) (L : List Ht) (Lo : List Int) (mk : (Nat → Value) → Act) (l : Array Bool) (a : Act) (w : World) : Prop :=
  l.size = 8 ∧ ∃ V, a = mk V ∧ PA9 R q gv V l ∧ SA9 w0 R n cap A q co ct gv ov L V l w ∧ NRow q ov Lo w
theorem IA9.pure {w0 : World} {R n cap : Nat} {A : Option Addr} {q : Nat} {co ct : Int} {gv ov : Value} {L : List Ht} {Lo : List Int} {mk : (Nat → Value) → Act} {V : Nat → Value} {l : Array Bool} {w : World} (hl : l.size = 8) (hP : PA9 R q gv V l) (hS : SA9 w0 R n cap A q co ct gv ov L V l w) (hO : NRow q ov Lo w)
    (i : Nat) (v : Value) (hi : (i = 0 ∧ v = pq q 2) ∨ (i = 1 ∧ v = gv) ∨ (i = 2 ∧ v = pq R 0) ∨ (i = 6 ∧ v = pq q 2)) (a' : Act) (ha : a' = mk (upQ V i v)) : IA9 w0 R n cap A q co ct gv ov L Lo mk (l.setIfInBounds i true) a' w := by
  refine ⟨by simpa using hl, _, ha, ?_, ?_, hO⟩
  · obtain ⟨p0, p1, p2, p3, p4⟩ := hP
    unfold PA9
    rcases hi with ⟨rfl, hv⟩ | ⟨rfl, hv⟩ | ⟨rfl, hv⟩ | ⟨rfl, hv⟩
    · exact ⟨fun _ => by rw [upQ_self]; exact hv, fun hj => by rw [gD_ne (show (0 : Nat) ≠ 1 by decide)] at hj; rw [upQ_ne (show (1 : Nat) ≠ 0 by decide)]; exact p1 hj, fun hj => by rw [gD_ne (show (0 : Nat) ≠ 2 by decide)] at hj; rw [upQ_ne (show (2 : Nat) ≠ 0 by decide)]; exact p2 hj, fun hj => by rw [gD_ne (show (0 : Nat) ≠ 3 by decide)] at hj; rw [upQ_ne (show (3 : Nat) ≠ 0 by decide)]; exact p3 hj, fun hj => by rw [gD_ne (show (0 : Nat) ≠ 6 by decide)] at hj; rw [upQ_ne (show (6 : Nat) ≠ 0 by decide)]; exact p4 hj⟩
    · exact ⟨fun hj => by rw [gD_ne (show (1 : Nat) ≠ 0 by decide)] at hj; rw [upQ_ne (show (0 : Nat) ≠ 1 by decide)]; exact p0 hj, fun _ => by rw [upQ_self]; exact hv, fun hj => by rw [gD_ne (show (1 : Nat) ≠ 2 by decide)] at hj; rw [upQ_ne (show (2 : Nat) ≠ 1 by decide)]; exact p2 hj, fun hj => by rw [gD_ne (show (1 : Nat) ≠ 3 by decide)] at hj; rw [upQ_ne (show (3 : Nat) ≠ 1 by decide)]; exact p3 hj, fun hj => by rw [gD_ne (show (1 : Nat) ≠ 6 by decide)] at hj; rw [upQ_ne (show (6 : Nat) ≠ 1 by decide)]; exact p4 hj⟩
    · exact ⟨fun hj => by rw [gD_ne (show (2 : Nat) ≠ 0 by decide)] at hj; rw [upQ_ne (show (0 : Nat) ≠ 2 by decide)]; exact p0 hj, fun hj => by rw [gD_ne (show (2 : Nat) ≠ 1 by decide)] at hj; rw [upQ_ne (show (1 : Nat) ≠ 2 by decide)]; exact p1 hj, fun _ => by rw [upQ_self]; exact hv, fun hj => by rw [gD_ne (show (2 : Nat) ≠ 3 by decide)] at hj; rw [upQ_ne (show (3 : Nat) ≠ 2 by decide)]; exact p3 hj, fun hj => by rw [gD_ne (show (2 : Nat) ≠ 6 by decide)] at hj; rw [upQ_ne (show (6 : Nat) ≠ 2 by decide)]; exact p4 hj⟩
    · exact ⟨fun hj => by rw [gD_ne (show (6 : Nat) ≠ 0 by decide)] at hj; rw [upQ_ne (show (0 : Nat) ≠ 6 by decide)]; exact p0 hj, fun hj => by rw [gD_ne (show (6 : Nat) ≠ 1 by decide)] at hj; rw [upQ_ne (show (1 : Nat) ≠ 6 by decide)]; exact p1 hj, fun hj => by rw [gD_ne (show (6 : Nat) ≠ 2 by decide)] at hj; rw [upQ_ne (show (2 : Nat) ≠ 6 by decide)]; exact p2 hj, fun hj => by rw [gD_ne (show (6 : Nat) ≠ 3 by decide)] at hj; rw [upQ_ne (show (3 : Nat) ≠ 6 by decide)]; exact p3 hj, fun _ => by rw [upQ_self]; exact hv⟩
  · have hne : i ≠ 3 ∧ i ≠ 4 ∧ i ≠ 5 ∧ i ≠ 7 := by rcases hi with ⟨rfl, _⟩ | ⟨rfl, _⟩ | ⟨rfl, _⟩ | ⟨rfl, _⟩ <;> omega
    unfold SA9
    rw [gD_ne (i := i) (j := 4) (by omega), gD_ne (i := i) (j := 5) (by omega), gD_ne (i := i) (j := 7) (by omega), gD_ne (i := i) (j := 3) (by omega), upQ_ne (by omega : 4 ≠ i), upQ_ne (by omega : 5 ≠ i)]
    rcases hS with h | h | ⟨h1, h⟩ | ⟨h1, h⟩
    · exact .inl h
    · exact .inr (.inl h)
    · refine .inr (.inr (.inl ⟨?_, h⟩))
      by_cases e : i = 1
      · subst e; exact gD_self hl (by omega)
      · rw [gD_ne e]; exact h1
    · refine .inr (.inr (.inr ⟨?_, h⟩))
      by_cases e : i = 1
      · subst e; exact gD_self hl (by omega)
      · rw [gD_ne e]; exact h1
theorem PA9.at3 {R q : Nat} {gv v : Value} {V : Nat → Value} {l : Array Bool} (_hl : l.size = 8) (hP : PA9 R q gv V l) (hv : ∃ x : Ht, v = htV x ∧ (I64 x.ix ∧ I64 x.sc)) : PA9 R q gv (upQ V 3 v) (l.setIfInBounds 3 true) := by
  obtain ⟨p0, p1, p2, p3, p4⟩ := hP
  unfold PA9
  exact ⟨fun hj => by rw [gD_ne (show (3 : Nat) ≠ 0 by decide)] at hj; rw [upQ_ne (show (0 : Nat) ≠ 3 by decide)]; exact p0 hj, fun hj => by rw [gD_ne (show (3 : Nat) ≠ 1 by decide)] at hj; rw [upQ_ne (show (1 : Nat) ≠ 3 by decide)]; exact p1 hj, fun hj => by rw [gD_ne (show (3 : Nat) ≠ 2 by decide)] at hj; rw [upQ_ne (show (2 : Nat) ≠ 3 by decide)]; exact p2 hj, fun _ => by rw [upQ_self]; exact hv, fun hj => by rw [gD_ne (show (3 : Nat) ≠ 6 by decide)] at hj; rw [upQ_ne (show (6 : Nat) ≠ 3 by decide)]; exact p4 hj⟩
theorem PA9.off {R q : Nat} {gv v : Value} {V : Nat → Value} {l : Array Bool} {i : Nat} (hi : i = 4 ∨ i = 5 ∨ i = 7) (hP : PA9 R q gv V l) : PA9 R q gv (upQ V i v) (l.setIfInBounds i true) := by
  obtain ⟨p0, p1, p2, p3, p4⟩ := hP
  unfold PA9
  exact ⟨fun hj => by rw [gD_ne (show i ≠ 0 by omega)] at hj; rw [upQ_ne (show (0 : Nat) ≠ i by omega)]; exact p0 hj, fun hj => by rw [gD_ne (show i ≠ 1 by omega)] at hj; rw [upQ_ne (show (1 : Nat) ≠ i by omega)]; exact p1 hj, fun hj => by rw [gD_ne (show i ≠ 2 by omega)] at hj; rw [upQ_ne (show (2 : Nat) ≠ i by omega)]; exact p2 hj, fun hj => by rw [gD_ne (show i ≠ 3 by omega)] at hj; rw [upQ_ne (show (3 : Nat) ≠ i by omega)]; exact p3 hj, fun hj => by rw [gD_ne (show i ≠ 6 by omega)] at hj; rw [upQ_ne (show (6 : Nat) ≠ i by omega)]; exact p4 hj⟩
theorem PA9.offV {R q : Nat} {gv : Value} {V : Nat → Value} {l : Array Bool} {i : Nat} (hi : i = 4 ∨ i = 5 ∨ i = 7) (hP : PA9 R q gv V l) : PA9 R q gv V (l.setIfInBounds i true) := by
  obtain ⟨p0, p1, p2, p3, p4⟩ := hP
  unfold PA9
  exact ⟨fun hj => by rw [gD_ne (show i ≠ 0 by omega)] at hj; exact p0 hj, fun hj => by rw [gD_ne (show i ≠ 1 by omega)] at hj; exact p1 hj, fun hj => by rw [gD_ne (show i ≠ 2 by omega)] at hj; exact p2 hj, fun hj => by rw [gD_ne (show i ≠ 3 by omega)] at hj; exact p3 hj, fun hj => by rw [gD_ne (show i ≠ 6 by omega)] at hj; exact p4 hj⟩
end Go.Proofs.YthjphnopcgdgdaaDoor
