/- What is drawn for states: an ensemble, a plan, a list of numbers and a place. -/
import Derived.Test.YtlgomifpohdniaaGreatPlHu
namespace Go.Proofs.YtlgomifpohdniaaGreat
open Go.RowKit Go.Deep
set_option linter.unusedVariables false
set_option linter.unusedSimpArgs false

theorem results_ept {P : Program} {fn : Func} {p q u v : Tmp} {ty ty' : TypeId} (h : fn.results = #[.cell p ty, .cell q ty', .tmp u, .tmp v]) (tmps : Array Value) (w : World) (g g' : Nat) (t t' : TypeId) (cs cs' : Array Value) (fr fr' : Nat × Nat) (d d' : TypeDesc)
    (hp : tmps.getD p undef = .pointer (some ⟨g, 0, none⟩)) (hg : w.heap[g]? = some (.cells cs t fr)) (hq : tmps.getD q undef = .pointer (some ⟨g', 0, none⟩)) (hg' : w.heap[g']? = some (.cells cs' t' fr'))
    (hu : P.underlying ty = some d) (hd : (match d with | .struct _ | .array _ _ => true | _ => false) = true) (hi : (P.info? ty).map (·.size) = some cs.size)
    (hu' : P.underlying ty' = some d') (hd' : (match d' with | .struct _ | .array _ _ => true | _ => false) = true) (hi' : (P.info? ty').map (·.size) = some cs'.size) :
    (results fn tmps).run P w = .ok (.tuple #[.agg cs, .agg cs', tmps.getD u undef, tmps.getD v undef]) w := by
  have hp' : tmps[p]?.getD undef = .pointer (some ⟨g, 0, none⟩) := by simpa using hp
  have hq' : tmps[q]?.getD undef = .pointer (some ⟨g', 0, none⟩) := by simpa using hq
  simp [results, h, hp', hq', asAddr, Result.andThen, run_loadVar_row w g t ty cs fr d hg hu hd hi, run_loadVar_row w g' t' ty' cs' fr' d' hg' hu' hd' hi']

/-- The state of the draw: the boxes of e and p, all that they reach, the reader. -/
def SD (w0 : World) (R n cap : Nat) (A : Option Addr) (M eb pb : Nat) (f b : Int) (A' : Option Addr) (k c : Nat) (len : Nat → Nat) (g : Nat → Nat → Nd) (A1 : Option Addr) (N1 c1 : Nat) (A2 : Option Addr) (N2 c2 : Nat) (A3 : Option Addr) (N3 c3 : Nat) (A4 : Option Addr) (N4 c4 : Nat) (W : World) : Prop :=
  Rs W R A n cap ∧ (Blk W eb 26 #[.int .i64 f, .int .i64 b, .slice A' k c] ∧ Blk W pb 29 #[.slice A1 N1 c1, .slice A2 N2 c2, .slice A3 N3 c3, .slice A4 N4 c4]) ∧ (w0.heap.size + 1 < R ∧ R < eb ∧ R < pb ∧ eb < M ∧ pb < M ∧ M ≤ W.heap.size) ∧ Below w0.heap.size w0 W ∧ HiT W (fun x => R < x ∧ x < M) A' k len g ∧
  RdX W (fun x => R < x ∧ x < M) A1 N1 ∧ RdX W (fun x => R < x ∧ x < M) A2 N2 ∧ RdX W (fun x => R < x ∧ x < M) A3 N3 ∧ RdX W (fun x => R < x ∧ x < M) A4 N4
section
variable {w0 W W' : World} {R n cap M eb pb k c N1 c1 N2 c2 N3 c3 N4 c4 : Nat} {A A' A1 A2 A3 A4 : Option Addr} {f b : Int} {len : Nat → Nat} {g : Nat → Nat → Nd}
theorem SD.keep (h : SD w0 R n cap A M eb pb f b A' k c len g A1 N1 c1 A2 N2 c2 A3 N3 c3 A4 N4 c4 W) (hR : Rs W' R A n cap) (hb : Below w0.heap.size W W') (hk : ∀ x, R < x → x < M → W'.heap[x]? = W.heap[x]?) : SD w0 R n cap A M eb pb f b A' k c len g A1 N1 c1 A2 N2 c2 A3 N3 c3 A4 N4 c4 W' := by
  obtain ⟨h1, ⟨h2, h3⟩, ⟨q0, q1, q2, q3, q4, q5⟩, h4, h5, a1, a2, a3, a4⟩ := h
  exact ⟨hR, ⟨(hk eb q1 q3).trans h2, (hk pb q2 q4).trans h3⟩, ⟨q0, q1, q2, q3, q4, Nat.le_trans q5 hb.size⟩, h4.trans hb, h5.keep (fun x q => hk x q.1 q.2) (fun x q => q), a1.keep fun x q => hk x q.1 q.2, a2.keep fun x q => hk x q.1 q.2, a3.keep fun x q => hk x q.1 q.2, a4.keep fun x q => hk x q.1 q.2⟩
theorem SD.next (h : SD w0 R n cap A M eb pb f b A' k c len g A1 N1 c1 A2 N2 c2 A3 N3 c3 A4 N4 c4 W) (hR : Rs W' R A n cap) (hg : W.grownBy W' (some R)) : SD w0 R n cap A M eb pb f b A' k c len g A1 N1 c1 A2 N2 c2 A3 N3 c3 A4 N4 c4 W' :=
  h.keep hR ((below_grown hg h.1.lt).mono (by have := h.2.2.1.1; omega)) fun x q1 q2 => hg.block x (by have := h.2.2.1.2.2.2.2.2; omega) (by intro e; injection e with e; omega)
theorem SD.drew (h : SD w0 R n cap A M eb pb f b A' k c len g A1 N1 c1 A2 N2 c2 A3 N3 c3 A4 N4 c4 W) : SD w0 R n cap A M eb pb f b A' k c len g A1 N1 c1 A2 N2 c2 A3 N3 c3 A4 N4 c4 W.drew := h.keep (h.1.below (Below.refl _ W).drew) (Below.refl _ W).drew fun x _ _ => rfl
theorem SD.rs (h : SD w0 R n cap A M eb pb f b A' k c len g A1 N1 c1 A2 N2 c2 A3 N3 c3 A4 N4 c4 W) : Rs W R A n cap := h.1
theorem SD.cells (h : SD w0 R n cap A M eb pb f b A' k c len g A1 N1 c1 A2 N2 c2 A3 N3 c3 A4 N4 c4 W) : W.cell? ⟨eb, 0, none⟩ = some (.int .i64 f) ∧ W.cell? ⟨eb, 1, none⟩ = some (.int .i64 b) ∧ W.cell? ⟨eb, 2, none⟩ = some (.slice A' k c) ∧ W.cell? ⟨pb, 0, none⟩ = some (.slice A1 N1 c1) ∧ W.cell? ⟨pb, 1, none⟩ = some (.slice A2 N2 c2) ∧ W.cell? ⟨pb, 2, none⟩ = some (.slice A3 N3 c3) ∧ W.cell? ⟨pb, 3, none⟩ = some (.slice A4 N4 c4) := ⟨h.2.1.1.cell 0, h.2.1.1.cell 1, h.2.1.1.cell 2, h.2.1.2.cell 0, h.2.1.2.cell 1, h.2.1.2.cell 2, h.2.1.2.cell 3⟩
theorem SD.far (h : SD w0 R n cap A M eb pb f b A' k c len g A1 N1 c1 A2 N2 c2 A3 N3 c3 A4 N4 c4 W) {Y : World} (hk : ∀ x, R < x → Y.heap[x]? = W.heap[x]?) : Y.cell? ⟨eb, 0, none⟩ = some (.int .i64 f) ∧ Y.cell? ⟨eb, 1, none⟩ = some (.int .i64 b) ∧ Y.cell? ⟨eb, 2, none⟩ = some (.slice A' k c) ∧ Y.cell? ⟨pb, 0, none⟩ = some (.slice A1 N1 c1) ∧ Y.cell? ⟨pb, 1, none⟩ = some (.slice A2 N2 c2) ∧ Y.cell? ⟨pb, 2, none⟩ = some (.slice A3 N3 c3) ∧ Y.cell? ⟨pb, 3, none⟩ = some (.slice A4 N4 c4) := by
  have he : Blk Y eb 26 #[.int .i64 f, .int .i64 b, .slice A' k c] := (hk eb h.2.2.1.2.1).trans h.2.1.1
  have hp : Blk Y pb 29 #[.slice A1 N1 c1, .slice A2 N2 c2, .slice A3 N3 c3, .slice A4 N4 c4] := (hk pb h.2.2.1.2.2.1).trans h.2.1.2
  exact ⟨he.cell 0, he.cell 1, he.cell 2, hp.cell 0, hp.cell 1, hp.cell 2, hp.cell 3⟩
/-- The results are laid. -/
theorem sd_end {m : Nat} {D : Option Addr} {z : Nat → Int} (h : SD w0 R n cap A M eb pb f b A' k c len g A1 N1 c1 A2 N2 c2 A3 N3 c3 A4 N4 c4 W) (hz : Blk W w0.heap.size 26 #[.int .i64 0, .int .i64 0, .slice none 0 0] ∧ Blk W (w0.heap.size + 1) 29 #[.slice none 0 0, .slice none 0 0, .slice none 0 0, .slice none 0 0]) (hdoc : 0 < m → ∃ q, D = some ⟨q, 0, none⟩ ∧ R < q ∧ Row W 2 q m z) :
    (Blk (((((((W.setCell ⟨w0.heap.size, 0, none⟩ (.int .i64 f)).setCell ⟨w0.heap.size, 1, none⟩ (.int .i64 b)).setCell ⟨w0.heap.size, 2, none⟩ (.slice A' k c)).setCell ⟨w0.heap.size + 1, 0, none⟩ (.slice A1 N1 c1)).setCell ⟨w0.heap.size + 1, 1, none⟩ (.slice A2 N2 c2)).setCell ⟨w0.heap.size + 1, 2, none⟩ (.slice A3 N3 c3)).setCell ⟨w0.heap.size + 1, 3, none⟩ (.slice A4 N4 c4)) w0.heap.size 26 #[.int .i64 f, .int .i64 b, .slice A' k c] ∧ Blk (((((((W.setCell ⟨w0.heap.size, 0, none⟩ (.int .i64 f)).setCell ⟨w0.heap.size, 1, none⟩ (.int .i64 b)).setCell ⟨w0.heap.size, 2, none⟩ (.slice A' k c)).setCell ⟨w0.heap.size + 1, 0, none⟩ (.slice A1 N1 c1)).setCell ⟨w0.heap.size + 1, 1, none⟩ (.slice A2 N2 c2)).setCell ⟨w0.heap.size + 1, 2, none⟩ (.slice A3 N3 c3)).setCell ⟨w0.heap.size + 1, 3, none⟩ (.slice A4 N4 c4)) (w0.heap.size + 1) 29 #[.slice A1 N1 c1, .slice A2 N2 c2, .slice A3 N3 c3, .slice A4 N4 c4]) ∧ HiT (((((((W.setCell ⟨w0.heap.size, 0, none⟩ (.int .i64 f)).setCell ⟨w0.heap.size, 1, none⟩ (.int .i64 b)).setCell ⟨w0.heap.size, 2, none⟩ (.slice A' k c)).setCell ⟨w0.heap.size + 1, 0, none⟩ (.slice A1 N1 c1)).setCell ⟨w0.heap.size + 1, 1, none⟩ (.slice A2 N2 c2)).setCell ⟨w0.heap.size + 1, 2, none⟩ (.slice A3 N3 c3)).setCell ⟨w0.heap.size + 1, 3, none⟩ (.slice A4 N4 c4)) (fun x => w0.heap.size ≤ x ∧ x < (((((((W.setCell ⟨w0.heap.size, 0, none⟩ (.int .i64 f)).setCell ⟨w0.heap.size, 1, none⟩ (.int .i64 b)).setCell ⟨w0.heap.size, 2, none⟩ (.slice A' k c)).setCell ⟨w0.heap.size + 1, 0, none⟩ (.slice A1 N1 c1)).setCell ⟨w0.heap.size + 1, 1, none⟩ (.slice A2 N2 c2)).setCell ⟨w0.heap.size + 1, 2, none⟩ (.slice A3 N3 c3)).setCell ⟨w0.heap.size + 1, 3, none⟩ (.slice A4 N4 c4)).heap.size) A' k len g ∧ (RdX (((((((W.setCell ⟨w0.heap.size, 0, none⟩ (.int .i64 f)).setCell ⟨w0.heap.size, 1, none⟩ (.int .i64 b)).setCell ⟨w0.heap.size, 2, none⟩ (.slice A' k c)).setCell ⟨w0.heap.size + 1, 0, none⟩ (.slice A1 N1 c1)).setCell ⟨w0.heap.size + 1, 1, none⟩ (.slice A2 N2 c2)).setCell ⟨w0.heap.size + 1, 2, none⟩ (.slice A3 N3 c3)).setCell ⟨w0.heap.size + 1, 3, none⟩ (.slice A4 N4 c4)) (fun x => w0.heap.size ≤ x ∧ x < (((((((W.setCell ⟨w0.heap.size, 0, none⟩ (.int .i64 f)).setCell ⟨w0.heap.size, 1, none⟩ (.int .i64 b)).setCell ⟨w0.heap.size, 2, none⟩ (.slice A' k c)).setCell ⟨w0.heap.size + 1, 0, none⟩ (.slice A1 N1 c1)).setCell ⟨w0.heap.size + 1, 1, none⟩ (.slice A2 N2 c2)).setCell ⟨w0.heap.size + 1, 2, none⟩ (.slice A3 N3 c3)).setCell ⟨w0.heap.size + 1, 3, none⟩ (.slice A4 N4 c4)).heap.size) A1 N1 ∧ RdX (((((((W.setCell ⟨w0.heap.size, 0, none⟩ (.int .i64 f)).setCell ⟨w0.heap.size, 1, none⟩ (.int .i64 b)).setCell ⟨w0.heap.size, 2, none⟩ (.slice A' k c)).setCell ⟨w0.heap.size + 1, 0, none⟩ (.slice A1 N1 c1)).setCell ⟨w0.heap.size + 1, 1, none⟩ (.slice A2 N2 c2)).setCell ⟨w0.heap.size + 1, 2, none⟩ (.slice A3 N3 c3)).setCell ⟨w0.heap.size + 1, 3, none⟩ (.slice A4 N4 c4)) (fun x => w0.heap.size ≤ x ∧ x < (((((((W.setCell ⟨w0.heap.size, 0, none⟩ (.int .i64 f)).setCell ⟨w0.heap.size, 1, none⟩ (.int .i64 b)).setCell ⟨w0.heap.size, 2, none⟩ (.slice A' k c)).setCell ⟨w0.heap.size + 1, 0, none⟩ (.slice A1 N1 c1)).setCell ⟨w0.heap.size + 1, 1, none⟩ (.slice A2 N2 c2)).setCell ⟨w0.heap.size + 1, 2, none⟩ (.slice A3 N3 c3)).setCell ⟨w0.heap.size + 1, 3, none⟩ (.slice A4 N4 c4)).heap.size) A2 N2 ∧ RdX (((((((W.setCell ⟨w0.heap.size, 0, none⟩ (.int .i64 f)).setCell ⟨w0.heap.size, 1, none⟩ (.int .i64 b)).setCell ⟨w0.heap.size, 2, none⟩ (.slice A' k c)).setCell ⟨w0.heap.size + 1, 0, none⟩ (.slice A1 N1 c1)).setCell ⟨w0.heap.size + 1, 1, none⟩ (.slice A2 N2 c2)).setCell ⟨w0.heap.size + 1, 2, none⟩ (.slice A3 N3 c3)).setCell ⟨w0.heap.size + 1, 3, none⟩ (.slice A4 N4 c4)) (fun x => w0.heap.size ≤ x ∧ x < (((((((W.setCell ⟨w0.heap.size, 0, none⟩ (.int .i64 f)).setCell ⟨w0.heap.size, 1, none⟩ (.int .i64 b)).setCell ⟨w0.heap.size, 2, none⟩ (.slice A' k c)).setCell ⟨w0.heap.size + 1, 0, none⟩ (.slice A1 N1 c1)).setCell ⟨w0.heap.size + 1, 1, none⟩ (.slice A2 N2 c2)).setCell ⟨w0.heap.size + 1, 2, none⟩ (.slice A3 N3 c3)).setCell ⟨w0.heap.size + 1, 3, none⟩ (.slice A4 N4 c4)).heap.size) A3 N3 ∧ RdX (((((((W.setCell ⟨w0.heap.size, 0, none⟩ (.int .i64 f)).setCell ⟨w0.heap.size, 1, none⟩ (.int .i64 b)).setCell ⟨w0.heap.size, 2, none⟩ (.slice A' k c)).setCell ⟨w0.heap.size + 1, 0, none⟩ (.slice A1 N1 c1)).setCell ⟨w0.heap.size + 1, 1, none⟩ (.slice A2 N2 c2)).setCell ⟨w0.heap.size + 1, 2, none⟩ (.slice A3 N3 c3)).setCell ⟨w0.heap.size + 1, 3, none⟩ (.slice A4 N4 c4)) (fun x => w0.heap.size ≤ x ∧ x < (((((((W.setCell ⟨w0.heap.size, 0, none⟩ (.int .i64 f)).setCell ⟨w0.heap.size, 1, none⟩ (.int .i64 b)).setCell ⟨w0.heap.size, 2, none⟩ (.slice A' k c)).setCell ⟨w0.heap.size + 1, 0, none⟩ (.slice A1 N1 c1)).setCell ⟨w0.heap.size + 1, 1, none⟩ (.slice A2 N2 c2)).setCell ⟨w0.heap.size + 1, 2, none⟩ (.slice A3 N3 c3)).setCell ⟨w0.heap.size + 1, 3, none⟩ (.slice A4 N4 c4)).heap.size) A4 N4) ∧ (0 < m → ∃ q, D = some ⟨q, 0, none⟩ ∧ w0.heap.size ≤ q ∧ Row (((((((W.setCell ⟨w0.heap.size, 0, none⟩ (.int .i64 f)).setCell ⟨w0.heap.size, 1, none⟩ (.int .i64 b)).setCell ⟨w0.heap.size, 2, none⟩ (.slice A' k c)).setCell ⟨w0.heap.size + 1, 0, none⟩ (.slice A1 N1 c1)).setCell ⟨w0.heap.size + 1, 1, none⟩ (.slice A2 N2 c2)).setCell ⟨w0.heap.size + 1, 2, none⟩ (.slice A3 N3 c3)).setCell ⟨w0.heap.size + 1, 3, none⟩ (.slice A4 N4 c4)) 2 q m z) ∧ Below w0.heap.size w0 (((((((W.setCell ⟨w0.heap.size, 0, none⟩ (.int .i64 f)).setCell ⟨w0.heap.size, 1, none⟩ (.int .i64 b)).setCell ⟨w0.heap.size, 2, none⟩ (.slice A' k c)).setCell ⟨w0.heap.size + 1, 0, none⟩ (.slice A1 N1 c1)).setCell ⟨w0.heap.size + 1, 1, none⟩ (.slice A2 N2 c2)).setCell ⟨w0.heap.size + 1, 2, none⟩ (.slice A3 N3 c3)).setCell ⟨w0.heap.size + 1, 3, none⟩ (.slice A4 N4 c4)) := by
  obtain ⟨h1, _, ⟨q0, q1, q2, q3, q4, q5⟩, h4, h5, a1, a2, a3, a4⟩ := h
  have hs : (((((((W.setCell ⟨w0.heap.size, 0, none⟩ (.int .i64 f)).setCell ⟨w0.heap.size, 1, none⟩ (.int .i64 b)).setCell ⟨w0.heap.size, 2, none⟩ (.slice A' k c)).setCell ⟨w0.heap.size + 1, 0, none⟩ (.slice A1 N1 c1)).setCell ⟨w0.heap.size + 1, 1, none⟩ (.slice A2 N2 c2)).setCell ⟨w0.heap.size + 1, 2, none⟩ (.slice A3 N3 c3)).setCell ⟨w0.heap.size + 1, 3, none⟩ (.slice A4 N4 c4)).heap.size = W.heap.size := by rw [size4]; simp
  have hk3 : ∀ x, R < x → (((W.setCell ⟨w0.heap.size, 0, none⟩ (.int .i64 f)).setCell ⟨w0.heap.size, 1, none⟩ (.int .i64 b)).setCell ⟨w0.heap.size, 2, none⟩ (.slice A' k c)).heap[x]? = W.heap[x]? := fun x q => ((Below.heap_setCell _ ⟨w0.heap.size, 2, none⟩ _ x (by show x ≠ w0.heap.size; omega)).trans ((Below.heap_setCell _ ⟨w0.heap.size, 1, none⟩ _ x (by show x ≠ w0.heap.size; omega)).trans (Below.heap_setCell _ ⟨w0.heap.size, 0, none⟩ _ x (by show x ≠ w0.heap.size; omega))))
  have hk : ∀ x, R < x → (((((((W.setCell ⟨w0.heap.size, 0, none⟩ (.int .i64 f)).setCell ⟨w0.heap.size, 1, none⟩ (.int .i64 b)).setCell ⟨w0.heap.size, 2, none⟩ (.slice A' k c)).setCell ⟨w0.heap.size + 1, 0, none⟩ (.slice A1 N1 c1)).setCell ⟨w0.heap.size + 1, 1, none⟩ (.slice A2 N2 c2)).setCell ⟨w0.heap.size + 1, 2, none⟩ (.slice A3 N3 c3)).setCell ⟨w0.heap.size + 1, 3, none⟩ (.slice A4 N4 c4)).heap[x]? = W.heap[x]? := fun x q => (far4 (p := w0.heap.size + 1) (.slice A1 N1 c1) (.slice A2 N2 c2) (.slice A3 N3 c3) (.slice A4 N4 c4) x (by omega)).trans (hk3 x q)
  have hb3 : Below w0.heap.size w0 (((W.setCell ⟨w0.heap.size, 0, none⟩ (.int .i64 f)).setCell ⟨w0.heap.size, 1, none⟩ (.int .i64 b)).setCell ⟨w0.heap.size, 2, none⟩ (.slice A' k c)) := ((h4.setCell (p := ⟨w0.heap.size, 0, none⟩) (Nat.le_refl _) _).setCell (p := ⟨w0.heap.size, 1, none⟩) (Nat.le_refl _) _).setCell (p := ⟨w0.heap.size, 2, none⟩) (Nat.le_refl _) _
  have hb7 : Below w0.heap.size w0 (((((((W.setCell ⟨w0.heap.size, 0, none⟩ (.int .i64 f)).setCell ⟨w0.heap.size, 1, none⟩ (.int .i64 b)).setCell ⟨w0.heap.size, 2, none⟩ (.slice A' k c)).setCell ⟨w0.heap.size + 1, 0, none⟩ (.slice A1 N1 c1)).setCell ⟨w0.heap.size + 1, 1, none⟩ (.slice A2 N2 c2)).setCell ⟨w0.heap.size + 1, 2, none⟩ (.slice A3 N3 c3)).setCell ⟨w0.heap.size + 1, 3, none⟩ (.slice A4 N4 c4)) := (((hb3.setCell (p := ⟨w0.heap.size + 1, 0, none⟩) (Nat.le_succ _) _).setCell (p := ⟨w0.heap.size + 1, 1, none⟩) (Nat.le_succ _) _).setCell (p := ⟨w0.heap.size + 1, 2, none⟩) (Nat.le_succ _) _).setCell (p := ⟨w0.heap.size + 1, 3, none⟩) (Nat.le_succ _) _
  have e3 : Blk (((W.setCell ⟨w0.heap.size, 0, none⟩ (.int .i64 f)).setCell ⟨w0.heap.size, 1, none⟩ (.int .i64 b)).setCell ⟨w0.heap.size, 2, none⟩ (.slice A' k c)) w0.heap.size 26 #[.int .i64 f, .int .i64 b, .slice A' k c] := ((hz.1.set_ 0 _).set_ 1 _).set_ 2 _
  have p3 : Blk (((W.setCell ⟨w0.heap.size, 0, none⟩ (.int .i64 f)).setCell ⟨w0.heap.size, 1, none⟩ (.int .i64 b)).setCell ⟨w0.heap.size, 2, none⟩ (.slice A' k c)) (w0.heap.size + 1) 29 #[.slice none 0 0, .slice none 0 0, .slice none 0 0, .slice none 0 0] := ((hz.2.far (p := ⟨w0.heap.size, 0, none⟩) (by show w0.heap.size + 1 ≠ w0.heap.size; omega) _).far (p := ⟨w0.heap.size, 1, none⟩) (by show w0.heap.size + 1 ≠ w0.heap.size; omega) _).far (p := ⟨w0.heap.size, 2, none⟩) (by show w0.heap.size + 1 ≠ w0.heap.size; omega) _
  refine ⟨⟨(far4 (p := w0.heap.size + 1) (.slice A1 N1 c1) (.slice A2 N2 c2) (.slice A3 N3 c3) (.slice A4 N4 c4) w0.heap.size (by omega)).trans e3, (((p3.set_ 0 _).set_ 1 _).set_ 2 _).set_ 3 _⟩, ?_, ?_, ?_, hb7⟩
  · rw [hs]
    exact h5.keep (fun x q => hk x q.1) fun x q => by omega
  · rw [hs]
    have hm : ∀ x, R < x ∧ x < M → w0.heap.size ≤ x ∧ x < W.heap.size := fun x q => by omega
    exact ⟨(a1.keep fun x q => hk x q.1).more hm, (a2.keep fun x q => hk x q.1).more hm, (a3.keep fun x q => hk x q.1).more hm, (a4.keep fun x q => hk x q.1).more hm⟩
  · intro h0
    obtain ⟨q, rfl, hq, hr⟩ := hdoc h0
    exact ⟨q, rfl, by omega, hr.keep (hk q hq)⟩
end
theorem far3 (R s : Nat) (h : s < R) (w : World) (u0 u1 u2 : Value) : ∀ x, R < x → (((w.setCell ⟨s, 0, none⟩ u0).setCell ⟨s, 1, none⟩ u1).setCell ⟨s, 2, none⟩ u2).heap[x]? = w.heap[x]? := fun x q =>
  (Below.heap_setCell _ ⟨s, 2, none⟩ _ x (by show x ≠ s; omega)).trans ((Below.heap_setCell _ ⟨s, 1, none⟩ _ x (by show x ≠ s; omega)).trans (Below.heap_setCell _ ⟨s, 0, none⟩ _ x (by show x ≠ s; omega)))
theorem far7 (R s : Nat) (h : s + 1 < R) (w : World) (u0 u1 u2 v0 v1 v2 v3 : Value) : ∀ x, R < x → (((((((w.setCell ⟨s, 0, none⟩ u0).setCell ⟨s, 1, none⟩ u1).setCell ⟨s, 2, none⟩ u2).setCell ⟨s + 1, 0, none⟩ v0).setCell ⟨s + 1, 1, none⟩ v1).setCell ⟨s + 1, 2, none⟩ v2).setCell ⟨s + 1, 3, none⟩ v3).heap[x]? = w.heap[x]? := fun x q =>
  (far4 (p := s + 1) v0 v1 v2 v3 x (by omega)).trans (far3 R s (by omega) w u0 u1 u2 x q)
theorem zz_next {w w' : World} {s R : Nat} {t t' : TypeId} {cs cs' : Array Value} (h : Blk w s t cs ∧ Blk w (s + 1) t' cs') (hg : w.grownBy w' (some R)) (hR : s + 1 < R) : Blk w' s t cs ∧ Blk w' (s + 1) t' cs' := ⟨h.1.grown hg (by intro e; injection e with e; omega), h.2.grown hg (by intro e; injection e with e; omega)⟩
theorem zz_below {w w' : World} {s R : Nat} {t t' : TypeId} {cs cs' : Array Value} (h : Blk w s t cs ∧ Blk w (s + 1) t' cs') (hb : Below R w w') (hR : s + 1 < R) : Blk w' s t cs ∧ Blk w' (s + 1) t' cs' := ⟨h.1.below hb (by omega), h.2.below hb hR⟩
theorem doc_next {w w' : World} {R m : Nat} {D : Option Addr} {z : Nat → Int} (h : 0 < m → ∃ q, D = some ⟨q, 0, none⟩ ∧ R < q ∧ Row w 2 q m z) (hg : w.grownBy w' (some R)) : 0 < m → ∃ q, D = some ⟨q, 0, none⟩ ∧ R < q ∧ Row w' 2 q m z := fun h0 => by
  obtain ⟨q, e, hq, hr⟩ := h h0
  exact ⟨q, e, hq, hr.keep (hg.block q hr.lt (by intro e; injection e with e; omega))⟩
/-- A drawn ensemble, a plan, a list of numbers and a place. -/
def DrawnS (w : World) (e : Ending) (w' : World) : Prop :=
  ∃ (f b : Int) (k : Nat) (A' : Option Addr) (c : Nat) (len : Nat → Nat) (g : Nat → Nat → Nd) (A1 : Option Addr) (n1 c1 : Nat) (A2 : Option Addr) (n2 c2 : Nat) (A3 : Option Addr) (n3 c3 : Nat) (A4 : Option Addr) (n4 c4 : Nat) (m : Nat) (z : Nat → Int) (D : Option Addr) (dc : Nat) (at_ : Int),
    k ≤ 12 ∧ (∀ i, i < k → len i ≤ 16) ∧ (n1 ≤ 20 ∧ n2 ≤ 20 ∧ n3 ≤ 20 ∧ n4 ≤ 20) ∧ m ≤ 17 ∧ e = .returned (.tuple #[enV f b A' k c, plV A1 n1 c1 A2 n2 c2 A3 n3 c3 A4 n4 c4, .slice D m dc, .int .i64 at_]) ∧
    HiT w' (fun x => w.heap.size ≤ x ∧ x < w'.heap.size) A' k len g ∧ (RdX w' (fun x => w.heap.size ≤ x ∧ x < w'.heap.size) A1 n1 ∧ RdX w' (fun x => w.heap.size ≤ x ∧ x < w'.heap.size) A2 n2 ∧ RdX w' (fun x => w.heap.size ≤ x ∧ x < w'.heap.size) A3 n3 ∧ RdX w' (fun x => w.heap.size ≤ x ∧ x < w'.heap.size) A4 n4) ∧ (0 < m → ∃ q, D = some ⟨q, 0, none⟩ ∧ w.heap.size ≤ q ∧ Row w' 2 q m z) ∧ Below w.heap.size w w'

set_option maxRecDepth 100000 in
set_option maxHeartbeats 4000000 in
theorem drawStateTo (A : Option Addr) (n cap : Nat) (w : World) (h : Bs w w.heap.size A n) (hn : n ≤ 4194304) :
    Calls Tryz.prog 9 #[.slice A n cap] w (DrawnS w) := by
  have hbz := ((Below.refl w.heap.size w).alloc (Nat.le_refl _) (.cells #[.int .i64 0, .int .i64 0, .slice none 0 0] 26)).alloc (by simp) (.cells #[.slice none 0 0, .slice none 0 0, .slice none 0 0, .slice none 0 0] 29)
  have z1 : Blk ((w.alloc (.cells #[.int .i64 0, .int .i64 0, .slice none 0 0] 26)).alloc (.cells #[.slice none 0 0, .slice none 0 0, .slice none 0 0, .slice none 0 0] 29)) w.heap.size 26 #[.int .i64 0, .int .i64 0, .slice none 0 0] := (Blk.new w _ _).alloc _
  have z2 : Blk ((w.alloc (.cells #[.int .i64 0, .int .i64 0, .slice none 0 0] 26)).alloc (.cells #[.slice none 0 0, .slice none 0 0, .slice none 0 0, .slice none 0 0] 29)) (w.heap.size + 1) 29 #[.slice none 0 0, .slice none 0 0, .slice none 0 0, .slice none 0 0] := Blk.new2 w _ _ _
  have hs0 : ((w.alloc (.cells #[.int .i64 0, .int .i64 0, .slice none 0 0] 26)).alloc (.cells #[.slice none 0 0, .slice none 0 0, .slice none 0 0, .slice none 0 0] 29)).heap.size = w.heap.size + 2 := by simp
  go_enter Tryz.func9, Tryz.ntmps9
  go_wp2_with fail
  obtain ⟨W0, hW0⟩ : ∃ W, (w.alloc (.cells #[.int .i64 0, .int .i64 0, .slice none 0 0] 26)).alloc (.cells #[.slice none 0 0, .slice none 0 0, .slice none 0 0, .slice none 0 0] 29) = W := ⟨_, rfl⟩
  rw [hW0] at hbz z1 z2 hs0 ⊢
  clear hW0
  refine (open_draw A n cap W0 (Bs.more (Bs.keep h fun _ hp => hbz.cell hp) hbz.size) hn).mono ?_
  rintro e w1 ⟨rfl, hR1, hb1⟩
  have y1 := z1.below hb1 z1.lt
  have y2 := z2.below hb1 z2.lt
  have hw1 := hbz.trans (hb1.mono hbz.size)
  rw [hs0] at hR1
  rw [hs0]
  generalize hRR : w.heap.size + 2 = R at *
  clear hb1 hbz z1 z2 hs0 h
  have hRw := hR1.lt
  go_wp2_with fail
  refine (below_draw R n cap A 3 _ hR1 (by omega) (by omega)).mono ?_
  rintro e w2 ⟨x, rfl, hx0, hx1, hR2, hg2⟩
  have x1 := y1.grown hg2 (by intro e; injection e with e; omega)
  have x2 := y2.grown hg2 (by intro e; injection e with e; omega)
  have hw2 := hw1.trans ((below_grown hg2 hRw).mono (show w.heap.size ≤ R by omega))
  have hwx : IntKind.i64.wrap (1 + x) = 1 + x := IntWalk.i64_in _ (by omega)
  clear hg2 y1 y2 hw1 hR1
  go_wp2_with fail
  refine (ens_draw R n cap A (1 + x) (by omega) (by omega) _ hR2).mono ?_
  rintro e w3 ⟨f, b, k, A', c, bl, ln, cp, ds, hk, rfl, hown, hT, hR3, hg3⟩
  have v1 := x1.grown hg3 (by intro e; injection e with e; omega)
  have v2 := x2.grown hg3 (by intro e; injection e with e; omega)
  have hw3 := hw2.trans ((below_grown hg3 hR2.lt).mono (show w.heap.size ≤ R by omega))
  have hR2w := hR2.lt
  have hHi : HiT w3 (fun x => R < x ∧ x < w3.heap.size) A' k ln (nds ds) := (hit_own hown hT).keep (fun x _ => rfl) fun x q => ⟨by omega, q.2⟩
  have hln : Hid (∀ i, i < k → ln i ≤ 16) := fun i hi => by have := (hT i hi).1.2; omega
  clear hg3 x1 x2 hw2 hR2 hown hT
  obtain ⟨eb, heb⟩ : ∃ eb, w3.heap.size = eb := ⟨_, rfl⟩
  have hRe : R < eb := by have := hR3.lt; omega
  have hbx := (Below.refl w3.heap.size w3).alloc (Nat.le_refl _) (.cells #[.int .i64 f, .int .i64 b, .slice A' k c] 26)
  have e4 := Blk.new w3 26 #[.int .i64 f, .int .i64 b, .slice A' k c]
  have u1 := v1.alloc (.cells #[.int .i64 f, .int .i64 b, .slice A' k c] 26)
  have u2 := v2.alloc (.cells #[.int .i64 f, .int .i64 b, .slice A' k c] 26)
  have hw4 := hw3.alloc hw3.size (.cells #[.int .i64 f, .int .i64 b, .slice A' k c] 26)
  have hR4 := hR3.alloc (.cells #[.int .i64 f, .int .i64 b, .slice A' k c] 26)
  have hHi4 : HiT (w3.alloc (.cells #[.int .i64 f, .int .i64 b, .slice A' k c] 26)) (fun x => R < x ∧ x < (w3.alloc (.cells #[.int .i64 f, .int .i64 b, .slice A' k c] 26)).heap.size) A' k ln (nds ds) := hHi.keep (fun x q => Below.heap_alloc _ _ x q.2) fun x q => ⟨q.1, by simp; omega⟩
  clear hHi v1 v2 hw3 hR3 hbx
  go_wp2_with fail
  obtain ⟨W4, hW4⟩ : ∃ W, w3.alloc (.cells #[.int .i64 f, .int .i64 b, .slice A' k c] 26) = W := ⟨_, rfl⟩
  rw [hW4] at e4 u1 u2 hw4 hR4 hHi4 ⊢
  rw [heb] at e4
  try rw [heb]
  clear hW4 heb
  refine (plan_draw R n cap A A' f b k c ln (nds ds) W4 hR4 hHi4 (by omega) (fun i hi => by have := hln.out i hi; omega)).mono ?_
  rintro e w5 ⟨A1, N1, c1, A2, N2, c2, A3, N3, c3, A4, N4, c4, rfl, ⟨y1, y2, y3, y4, ho, hgd, h43⟩, hR5, hg5⟩
  have hne : ∀ x, x < W4.heap.size → x ≠ R → w5.heap[x]? = W4.heap[x]? := fun x q1 q2 => hg5.block x q1 (by intro e; injection e with e; omega)
  have e5 := e4.grown hg5 (by intro e; injection e with e; omega)
  have t1 := u1.grown hg5 (by intro e; injection e with e; omega)
  have t2 := u2.grown hg5 (by intro e; injection e with e; omega)
  have hw5 := hw4.trans ((below_grown hg5 hR4.lt).mono (show w.heap.size ≤ R by omega))
  have hHi5 : HiT w5 (fun x => R < x ∧ x < W4.heap.size) A' k ln (nds ds) := hHi4.keep (fun x q => hne x q.2 (by omega)) fun x q => q
  have hb45 := hg5.size
  have hRW := hR4.lt
  have heW := e4.lt
  clear e4 u1 u2 hw4 hHi4 hne hg5 hR4
  have hN : N1 ≤ 12 ∧ N2 ≤ 12 ∧ N3 ≤ 13 ∧ (0 < N1 → 0 < N2) ∧ (0 < N1 → 0 < N3) := by
    rcases hgd with ⟨q1, q2, q3⟩ | ⟨q1, q2, q3, q4, _⟩
    · exact ⟨by omega, by omega, by omega, by omega, by omega⟩
    · exact ⟨by omega, by omega, by omega, by omega, by omega⟩
  obtain ⟨n1, n2, n3, n12, n13⟩ := hN
  have h44 : N4 ≤ 19 := by omega
  clear hgd h43
  have hHD : Hid (∀ x, (Value.slice A4 N4 c4).ownBlock = some x → (∀ b off, A1 = some ⟨b, off, none⟩ → b ≠ x) ∧ (∀ b off, A2 = some ⟨b, off, none⟩ → b ≠ x) ∧ ∀ b off, A3 = some ⟨b, off, none⟩ → b ≠ x) := fun x hx =>
    ⟨fun b off e e' => ho.d14 x (by subst e; subst e'; rfl) hx, fun b off e e' => ho.d24 x (by subst e; subst e'; rfl) hx, fun b off e e' => ho.d34 x (by subst e; subst e'; rfl) hx⟩
  have hTY : Hid (∀ b off, (A1 = some ⟨b, off, none⟩ ∨ A2 = some ⟨b, off, none⟩ ∨ A3 = some ⟨b, off, none⟩) → ∃ cs, Blk w5 b 2 cs) := fun b off e => by
    rcases e with e | e | e <;> subst e
    · exact (own_block_lt ho.o1 b rfl).2.2
    · exact (own_block_lt ho.o2 b rfl).2.2
    · exact (own_block_lt ho.o3 b rfl).2.2
  go_wp2_with fail
  refine (hurtPlan_draw R n cap W4.heap.size A A1 N1 c1 A2 N2 c2 A3 N3 c3 A4 N4 c4 y4 w5 hR5 hRW hb45 ((rdX_own ho.o1).more fun x q => q.1) ((rdX_own ho.o2).more fun x q => q.1) ((rdX_own ho.o3).more fun x q => q.1) ho.o4 hHD hTY (by omega) (by omega) n12 n13).mono ?_
  rintro e w6 ⟨A4', N4', c4', hn4, rfl, ⟨a1, a2, a3, a4⟩, hR6, hG6, _⟩
  clear ho hHD hTY
  have s1 : Blk w6 w.heap.size 26 #[.int .i64 0, .int .i64 0, .slice none 0 0] := t1.below hG6.2.1 (by omega)
  have s2 : Blk w6 (w.heap.size + 1) 29 #[.slice none 0 0, .slice none 0 0, .slice none 0 0, .slice none 0 0] := t2.below hG6.2.1 (by omega)
  have hw6 := hw5.trans (hG6.2.1.mono (show w.heap.size ≤ R by omega))
  have e6 : Blk w6 eb 26 #[.int .i64 f, .int .i64 b, .slice A' k c] := (hG6.2.2 eb hRe heW).trans e5
  have hHi6 : HiT w6 (fun x => R < x ∧ x < W4.heap.size) A' k ln (nds ds) := hHi5.keep (fun x q => hG6.2.2 x q.1 q.2) fun x q => q
  have hs6 := hG6.1
  clear t1 t2 hw5 e5 hHi5 hR5 hG6
  obtain ⟨pb, hpb⟩ : ∃ pb, w6.heap.size = pb := ⟨_, rfl⟩
  have hbx := (Below.refl w6.heap.size w6).alloc (Nat.le_refl _) (.cells #[.slice A1 N1 c1, .slice A2 N2 c2, .slice A3 N3 c3, .slice A4' N4' c4'] 29)
  have p7 := Blk.new w6 29 #[.slice A1 N1 c1, .slice A2 N2 c2, .slice A3 N3 c3, .slice A4' N4' c4']
  have hq : ∀ x, R < x → x < w6.heap.size → (w6.alloc (.cells #[.slice A1 N1 c1, .slice A2 N2 c2, .slice A3 N3 c3, .slice A4' N4' c4'] 29)).heap[x]? = w6.heap[x]? := fun x _ q => Below.heap_alloc _ _ x q
  have m1 := (hw6.size)
  have hS7 : SD w R n cap A (w6.heap.size + 1) eb w6.heap.size f b A' k c ln (nds ds) A1 N1 c1 A2 N2 c2 A3 N3 c3 A4' N4' c4' (w6.alloc (.cells #[.slice A1 N1 c1, .slice A2 N2 c2, .slice A3 N3 c3, .slice A4' N4' c4'] 29)) := by
    have hx : ∀ x, W4.heap.size ≤ x ∧ x < w6.heap.size → R < x ∧ x < w6.heap.size + 1 := fun x q => by omega
    exact ⟨hR6.alloc _, ⟨e6.alloc _, p7⟩, ⟨by omega, hRe, by omega, by omega, by omega, by simp⟩, hw6.alloc hw6.size _, hHi6.keep (fun x q => Below.heap_alloc _ _ x (by omega)) (fun x q => by omega),
      (a1.keep fun x q => Below.heap_alloc _ _ x q.2).more hx, (a2.keep fun x q => Below.heap_alloc _ _ x q.2).more hx, (a3.keep fun x q => Below.heap_alloc _ _ x q.2).more hx, (a4.keep fun x q => Below.heap_alloc _ _ x q.2).more hx⟩
  have hZ7 : Blk (w6.alloc (.cells #[.slice A1 N1 c1, .slice A2 N2 c2, .slice A3 N3 c3, .slice A4' N4' c4'] 29)) w.heap.size 26 #[.int .i64 0, .int .i64 0, .slice none 0 0] ∧ Blk (w6.alloc (.cells #[.slice A1 N1 c1, .slice A2 N2 c2, .slice A3 N3 c3, .slice A4' N4' c4'] 29)) (w.heap.size + 1) 29 #[.slice none 0 0, .slice none 0 0, .slice none 0 0, .slice none 0 0] := ⟨s1.alloc _, s2.alloc _⟩
  have hM : R + 1 < w6.heap.size := by omega
  clear a1 a2 a3 a4 hR6 hbx p7 hq s1 s2 e6 hHi6 hw6 m1
  go_wp2_with fail
  obtain ⟨W7, hW7⟩ : ∃ W, w6.alloc (.cells #[.slice A1 N1 c1, .slice A2 N2 c2, .slice A3 N3 c3, .slice A4' N4' c4'] 29) = W := ⟨_, rfl⟩
  rw [hW7] at hS7 hZ7 ⊢
  rw [hpb] at hS7 hM
  try rw [hpb]
  clear hW7 hpb
  have D0 := hid hS7.drew
  have Z0 : Hid (Blk W7.drew w.heap.size 26 #[.int .i64 0, .int .i64 0, .slice none 0 0] ∧ Blk W7.drew (w.heap.size + 1) 29 #[.slice none 0 0, .slice none 0 0, .slice none 0 0, .slice none 0 0]) := hZ7
  have S0 := hid D0.out.cells
  have hL0 : pb + 1 ≤ W7.drew.heap.size := D0.out.2.2.1.2.2.2.2.2
  have b0 : -2000000000 ≤ (0 : Int) := by omega
  have b1 : (k : Int) ≤ 2000000000 := by omega
  have b2 : (0 : Int) ≤ 2000000000 := by omega
  have b3 : -2000000000 ≤ (k : Int) := by omega
  have b4 : 0 ≤ 1 + x := by omega
  have b5 : 1 + x ≤ 16 := by omega
  have hRW7 : R < W7.drew.heap.size := by omega
  have hwR : w.heap.size < R := by omega
  have hwR2 : w.heap.size + 1 < R := by omega
  clear hS7 hZ7
  go_region_held3 (fun w' => w'.cell? ⟨eb, 0, none⟩ = some (.int .i64 f) ∧ w'.cell? ⟨eb, 1, none⟩ = some (.int .i64 b) ∧ w'.cell? ⟨eb, 2, none⟩ = some (.slice A' k c) ∧ w'.cell? ⟨pb, 0, none⟩ = some (.slice A1 N1 c1) ∧ w'.cell? ⟨pb, 1, none⟩ = some (.slice A2 N2 c2) ∧ w'.cell? ⟨pb, 2, none⟩ = some (.slice A3 N3 c3) ∧ w'.cell? ⟨pb, 3, none⟩ = some (.slice A4' N4' c4'))
    ((refine Hid.out ?_; with_reducible assumption))
    (first
      | (go_at_call 32; (with_reducible refine Calls.mono (doc_drawI R n cap A (1 + x) W7.drew D0.out.rs b4 b5) ?_); rintro e w8 ⟨m, z, D, dc, hm, rfl, hown8, hR8, hg8⟩; have d8 := D0.out.next hR8 hg8; have S8 := hid d8.cells; have Z8 := hid (zz_next Z0.out hg8 hwR2); have hs8 := hg8.size; have D8 := hid d8; have HO8 := hid hown8; clear d8 hR8 hg8 hown8)
      | (go_at_call 31; (with_reducible refine Calls.mono (hurtDoc_kept R n cap W7.drew.heap.size A D m dc z w8 D8.out.rs hRW7 hs8 hm HO8.out) ?_); rintro e w9 ⟨⟨m', z', D', dc', hm', rfl, hdoc, hR9, hb9⟩, hk9⟩; have d9 := D8.out.keep hR9 (hb9.mono (Nat.le_of_lt hwR)) (fun x q1 q2 => hk9 x (Nat.lt_of_lt_of_le q2 hL0) (Nat.ne_of_gt q1)); have S9 := hid d9.cells; have Z9 := hid (zz_below Z8.out hb9 hwR2); have D9 := hid d9; have HDoc := hid hdoc; clear d9 hR9 hb9 hk9 hdoc)
      | (go_at_call 33; (with_reducible refine Calls.mono (off_draw R n cap A 0 (k : Int) w9 D9.out.rs b0 b1 b2 b3) ?_); rintro e wA ⟨at_, rfl, hRA, hgA⟩; have dA := D9.out.next hRA hgA; have SA := hid dA.cells; have zA := zz_next Z9.out hgA hwR2; have HDA := hid (doc_next HDoc.out hgA); obtain ⟨t0, t1, t2, f0, f1, f2⟩ := blk_cells3 zA.1; obtain ⟨⟨t3, t4, t5, t6⟩, f3, f4, f5, f6⟩ := blk_cells4 zA.2; have SA3 := hid (dA.far (Y := (((wA.setCell ⟨w.heap.size, 0, none⟩ (.int .i64 f)).setCell ⟨w.heap.size, 1, none⟩ (.int .i64 b)).setCell ⟨w.heap.size, 2, none⟩ (.slice A' k c))) (far3 R w.heap.size hwR wA _ _ _)); have SA7 := hid (dA.far (Y := (((((((wA.setCell ⟨w.heap.size, 0, none⟩ (.int .i64 f)).setCell ⟨w.heap.size, 1, none⟩ (.int .i64 b)).setCell ⟨w.heap.size, 2, none⟩ (.slice A' k c)).setCell ⟨w.heap.size + 1, 0, none⟩ (.slice A1 N1 c1)).setCell ⟨w.heap.size + 1, 1, none⟩ (.slice A2 N2 c2)).setCell ⟨w.heap.size + 1, 2, none⟩ (.slice A3 N3 c3)).setCell ⟨w.heap.size + 1, 3, none⟩ (.slice A4' N4' c4'))) (far7 R w.heap.size hwR2 wA _ _ _ _ _ _ _)); have ZA := hid zA; have DA := hid dA; clear dA zA hRA hgA))
  all_goals
    have hE := sd_end DA.out ZA.out HDA.out
    clear S0 S8 S9 SA SA3 SA7 D0 D8 D9 DA Z0 Z8 Z9 ZA HDoc HDA HO8 t0 t1 t2 t3 t4 t5 t6 f0 f1 f2 f3 f4 f5 f6
    obtain ⟨X, hX⟩ : ∃ X, (((((((wA.setCell ⟨w.heap.size, 0, none⟩ (.int .i64 f)).setCell ⟨w.heap.size, 1, none⟩ (.int .i64 b)).setCell ⟨w.heap.size, 2, none⟩ (.slice A' k c)).setCell ⟨w.heap.size + 1, 0, none⟩ (.slice A1 N1 c1)).setCell ⟨w.heap.size + 1, 1, none⟩ (.slice A2 N2 c2)).setCell ⟨w.heap.size + 1, 2, none⟩ (.slice A3 N3 c3)).setCell ⟨w.heap.size + 1, 3, none⟩ (.slice A4' N4' c4')) = X := ⟨_, rfl⟩
    rw [hX] at hE ⊢
    clear hX
    obtain ⟨⟨hE1, hE2⟩, hE3, hE4, hE5, hE6⟩ := hE
    go_wp2_with fail
    (try simp only [Exit.inBlock, Exit.then])
    refine bodyPost_ret (results_ept rfl _ _ w.heap.size (w.heap.size + 1) 26 29 #[.int .i64 f, .int .i64 b, .slice A' k c] #[.slice A1 N1 c1, .slice A2 N2 c2, .slice A3 N3 c3, .slice A4' N4' c4'] (0, 0) (0, 0) _ _ rfl hE1 rfl hE2 Tryz.underlying26 rfl size_ens Tryz.underlying29 rfl size_plan) rfl ?_
    exact ⟨f, b, k, A', c, ln, nds ds, A1, N1, c1, A2, N2, c2, A3, N3, c3, A4', N4', c4', m', z', D', dc', at_, hk, hln.out, ⟨by omega, by omega, by omega, by omega⟩, hm', rfl, hE3, hE4, hE5, hE6⟩
end Go.Proofs.YtlgomifpohdniaaGreat
