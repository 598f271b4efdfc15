/- What is drawn for right plans. -/
import Derived.Test.YtghjeaffnocihaaSdA
import Derived.Test.YtghjeaffnocihaaPlV
import Derived.Test.YtghjeaffnocihaaPlW
namespace Go.Proofs.Ytghjeaffnocihaa
open Go.RowKit Go.Deep
set_option linter.unusedVariables false
set_option linter.unusedSimpArgs false

theorem results_two {P : Program} {fn : Func} {p q : Tmp} {ty ty' : TypeId} (h : fn.results = #[.cell p ty, .cell q ty']) (tmps : Array Value) (w : World) (g g' : Nat) (t t' : TypeId) (cs cs' : Array Value) (fr fr' : Nat × Nat) (d d' : TypeDesc)
    (hp : tmps.getD p undef = .pointer (some ⟨g, 0, none⟩)) (hg : w.heap[g]? = some (.cells cs t fr)) (hq : tmps.getD q undef = .pointer (some ⟨g', 0, none⟩)) (hg' : w.heap[g']? = some (.cells cs' t' fr'))
    (hu : P.underlying ty = some d) (hd : (match d with | .struct _ | .array _ _ => true | _ => false) = true) (hi : (P.info? ty).map (·.size) = some cs.size)
    (hu' : P.underlying ty' = some d') (hd' : (match d' with | .struct _ | .array _ _ => true | _ => false) = true) (hi' : (P.info? ty').map (·.size) = some cs'.size) :
    (results fn tmps).run P w = .ok (.tuple #[.agg cs, .agg cs']) w := by
  have hp' : tmps[p]?.getD undef = .pointer (some ⟨g, 0, none⟩) := by simpa using hp
  have hq' : tmps[q]?.getD undef = .pointer (some ⟨g', 0, none⟩) := by simpa using hq
  simp [results, h, hp', hq', asAddr, Result.andThen, run_loadVar_row w g t ty cs fr d hg hu hd hi, run_loadVar_row w g' t' ty' cs' fr' d' hg' hu' hd' hi']

/-- The state of the draw ahead of hurtPlan: B0 <= the ensemble's memory < eb <= .. < B <= the plan's memory. -/
def PK (w0 : World) (R n cap : Nat) (A : Option Addr) (eb pb L B : Nat) (f b : Int) (k : Nat) (A' : Option Addr) (c : Nat) (bl ln cp : Nat → Nat) (ds : Nat → List Nd) (A1 : Option Addr) (N1 c1 : Nat) (A2 : Option Addr) (N2 c2 : Nat) (A3 : Option Addr) (N3 c3 : Nat) (A4 : Option Addr) (N4 c4 : Nat) (W : World) : Prop :=
  Rs W R A n cap ∧ (Blk W eb 26 #[.int .i64 f, .int .i64 b, .slice A' k c] ∧ Blk W pb 29 #[.slice A1 N1 c1, .slice A2 N2 c2, .slice A3 N3 c3, .slice A4 N4 c4] ∧ Blk W w0.heap.size 26 #[.int .i64 0, .int .i64 0, .slice none 0 0] ∧ Blk W (w0.heap.size + 1) 29 #[.slice none 0 0, .slice none 0 0, .slice none 0 0, .slice none 0 0]) ∧
  (w0.heap.size + 1 < R ∧ R < L ∧ L ≤ eb ∧ eb < B ∧ B ≤ pb) ∧ Below w0.heap.size w0 W ∧ (W.ownsRow L 35 1 (.slice A' k c) k (hdrC k bl ln cp) ∧ Trees W L k bl ln cp ds ∧ (∀ i, i < k → bl i < eb) ∧ ∀ x, A' = some ⟨x, 0, none⟩ → 0 < k → x < eb) ∧
  (RdX W (fun b => B ≤ b ∧ b < W.heap.size) A1 N1 ∧ RdX W (fun b => B ≤ b ∧ b < W.heap.size) A2 N2 ∧ RdX W (fun b => B ≤ b ∧ b < W.heap.size) A3 N3 ∧ ∃ z4, W.ownsRow B 2 1 (.slice A4 N4 c4) N4 (numsOf N4 z4)) ∧
  (∀ x, (Value.slice A4 N4 c4).ownBlock = some x → (∀ b off, A1 = some ⟨b, off, none⟩ → b ≠ x) ∧ (∀ b off, A2 = some ⟨b, off, none⟩ → b ≠ x) ∧ ∀ b off, A3 = some ⟨b, off, none⟩ → b ≠ x) ∧
  (∀ b off, (A1 = some ⟨b, off, none⟩ ∨ A2 = some ⟨b, off, none⟩ ∨ A3 = some ⟨b, off, none⟩) → ∃ cs, Blk W b 2 cs)
section
variable {w0 W W' : World} {R n cap eb pb L B k c N1 c1 N2 c2 N3 c3 N4 c4 : Nat} {A A' A1 A2 A3 A4 : Option Addr} {f b : Int} {bl ln cp : Nat → Nat} {ds : Nat → List Nd}
theorem PK.next (h : PK w0 R n cap A eb pb L B f b k A' c bl ln cp ds A1 N1 c1 A2 N2 c2 A3 N3 c3 A4 N4 c4 W) (hR : Rs W' R A n cap) (hg : W.grownBy W' (some R)) : PK w0 R n cap A eb pb L B f b k A' c bl ln cp ds A1 N1 c1 A2 N2 c2 A3 N3 c3 A4 N4 c4 W' := by
  obtain ⟨h1, ⟨e1, e2, e3, e4⟩, ⟨q0, q1, q2, q3, q4⟩, hb, ⟨o1, o2, o3, o4⟩, ⟨a1, a2, a3, z4, a4⟩, hd, ht⟩ := h
  have hne : ∀ {x t cs}, x ≠ R → Blk W x t cs → Blk W' x t cs := fun hx hB => hB.grown hg (by intro e; injection e with e; exact hx e)
  have hk : ∀ x, B ≤ x ∧ x < W.heap.size → W'.heap[x]? = W.heap[x]? := fun x q => hg.block x q.2 (by intro e; injection e with e; omega)
  have hm : ∀ x, B ≤ x ∧ x < W.heap.size → B ≤ x ∧ x < W'.heap.size := fun x q => ⟨q.1, Nat.lt_of_lt_of_le q.2 hg.size⟩
  refine ⟨hR, ⟨hne (by omega) e1, hne (by omega) e2, hne (by omega) e3, hne (by omega) e4⟩, ⟨q0, q1, q2, q3, q4⟩, hb.trans ((below_grown hg h1.lt).mono (by omega)), ⟨own_grown o1 hg q1, o2.grown hg q1, o3, o4⟩, ⟨(a1.keep hk).more hm, (a2.keep hk).more hm, (a3.keep hk).more hm, z4, own_grown a4 hg (by omega)⟩, hd, fun x off e => ?_⟩
  obtain ⟨cs, hc⟩ := ht x off e
  by_cases hx : x = R
  · subst hx
    obtain ⟨⟨p, _, hrb⟩, _⟩ := h1
    exact absurd rfl (hc.ne_ hrb (by decide))
  · exact ⟨cs, hne hx hc⟩
theorem PK.rs (h : PK w0 R n cap A eb pb L B f b k A' c bl ln cp ds A1 N1 c1 A2 N2 c2 A3 N3 c3 A4 N4 c4 W) : Rs W R A n cap := h.1
theorem PK.cells (h : PK w0 R n cap A eb pb L B f b k A' c bl ln cp ds A1 N1 c1 A2 N2 c2 A3 N3 c3 A4 N4 c4 W) : W.cell? ⟨pb, 0, none⟩ = some (.slice A1 N1 c1) ∧ W.cell? ⟨pb, 1, none⟩ = some (.slice A2 N2 c2) ∧ W.cell? ⟨pb, 2, none⟩ = some (.slice A3 N3 c3) ∧ W.cell? ⟨pb, 3, none⟩ = some (.slice A4 N4 c4) := ⟨h.2.1.2.1.cell 0, h.2.1.2.1.cell 1, h.2.1.2.1.cell 2, h.2.1.2.1.cell 3⟩
end

theorem RdX.notPlan {w : World} {Q : Nat → Prop} {A : Option Addr} {n p : Nat} {t : TypeId} {B1 B2 B3 B4 : Option Addr} {m1 d1 m2 d2 m3 d3 m4 d4 : Nat} (h : RdX w Q A n) (hp : Blk w p t #[.slice B1 m1 d1, .slice B2 m2 d2, .slice B3 m3 d3, .slice B4 m4 d4]) : RdX w (fun b => Q b ∧ b ≠ p) A n := fun hn => by
  obtain ⟨b, off, hA, h1, hc⟩ := h hn
  refine ⟨b, off, hA, ⟨h1, fun e => ?_⟩, hc⟩
  subst e
  obtain ⟨x, hx, _⟩ := hc 0 hn
  have h2 := hp.cell (off + 0)
  rw [hx] at h2
  match off, h2 with
  | 0, h2 => simp at h2
  | 1, h2 => simp at h2
  | 2, h2 => simp at h2
  | 3, h2 => simp at h2
  | m + 4, h2 => simp at h2
/-- Behind hurtPlan, its plan laid into the box. -/
def TS (w0 : World) (R n cap : Nat) (A : Option Addr) (eb pb L B : Nat) (f b : Int) (k : Nat) (A' : Option Addr) (c : Nat) (bl ln cp : Nat → Nat) (ds : Nat → List Nd) (A1 : Option Addr) (N1 : Nat) (A2 : Option Addr) (N2 : Nat) (A3 : Option Addr) (N3 : Nat) (A4 : Option Addr) (N4 : Nat) (pc : Array Value) (W : World) : Prop :=
  Rs W R A n cap ∧ Blk W pb 29 pc ∧ Blk W eb 26 #[.int .i64 f, .int .i64 b, .slice A' k c] ∧ (Blk W w0.heap.size 26 #[.int .i64 0, .int .i64 0, .slice none 0 0] ∧ Blk W (w0.heap.size + 1) 29 #[.slice none 0 0, .slice none 0 0, .slice none 0 0, .slice none 0 0]) ∧ Below w0.heap.size w0 W ∧ (W.ownsRow L 35 1 (.slice A' k c) k (hdrC k bl ln cp) ∧ Trees W L k bl ln cp ds ∧ (∀ i, i < k → bl i < eb) ∧ ∀ x, A' = some ⟨x, 0, none⟩ → 0 < k → x < eb) ∧
  (RdX W (fun b => (B ≤ b ∧ b < W.heap.size) ∧ b ≠ pb) A1 N1 ∧ RdX W (fun b => (B ≤ b ∧ b < W.heap.size) ∧ b ≠ pb) A2 N2 ∧ RdX W (fun b => (B ≤ b ∧ b < W.heap.size) ∧ b ≠ pb) A3 N3 ∧ RdX W (fun b => (B ≤ b ∧ b < W.heap.size) ∧ b ≠ pb) A4 N4) ∧ (w0.heap.size + 1 < R ∧ R < L ∧ L ≤ eb ∧ eb < B ∧ B ≤ pb ∧ k ≤ 12)
theorem tail_state {w0 W w' : World} {R n cap eb pb L B k c N1 c1 N2 c2 N3 c3 N4 c4 N4' : Nat} {A A' A1 A2 A3 A4 A4' : Option Addr} {f b : Int} {bl ln cp : Nat → Nat} {ds : Nat → List Nd} (h : PK w0 R n cap A eb pb L B f b k A' c bl ln cp ds A1 N1 c1 A2 N2 c2 A3 N3 c3 A4 N4 c4 W) (hk : k ≤ 12)
    (hR : Rs w' R A n cap) (hG : Gr R B W w') (hty : ∀ x t cs, x ≠ R → t ≠ 2 → Blk W x t cs → Blk w' x t cs)
    (ha : RdX w' (fun b => B ≤ b ∧ b < w'.heap.size) A1 N1 ∧ RdX w' (fun b => B ≤ b ∧ b < w'.heap.size) A2 N2 ∧ RdX w' (fun b => B ≤ b ∧ b < w'.heap.size) A3 N3 ∧ RdX w' (fun b => B ≤ b ∧ b < w'.heap.size) A4' N4') :
    TS w0 R n cap A eb pb L B f b k A' c bl ln cp ds A1 N1 A2 N2 A3 N3 A4' N4' #[.slice A1 N1 c1, .slice A2 N2 c2, .slice A3 N3 c3, .slice A4 N4 c4] w' := by
  obtain ⟨h1, ⟨e1, e2, e3, e4⟩, ⟨q0, q1, q2, q3, q4⟩, hb, ⟨o1, o2, o3, o4⟩, _, _, _⟩ := h
  have p2 := hty pb _ _ (by omega) (by decide) e2
  have hx : ∀ x, L ≤ x → x < eb → w'.heap[x]? = W.heap[x]? := fun x r1 r2 => hG.2.2 x (by omega) (by omega)
  refine ⟨hR, p2, hty eb _ _ (by omega) (by decide) e1, ⟨hty _ _ _ (by omega) (by decide) e3, hty _ _ _ (by omega) (by decide) e4⟩, hb.trans (hG.2.1.mono (by omega)), ⟨own_keepJ o1 fun g r1 r2 r3 => ?_, o2.keep hG.1 fun i hi => hx _ (o2 i hi).2.2.1.1 (o3 i hi), o3, o4⟩,
    ⟨ha.1.notPlan p2, ha.2.1.notPlan p2, ha.2.2.1.notPlan p2, ha.2.2.2.notPlan p2⟩, q0, q1, q2, q3, q4, hk⟩
  obtain ⟨_, _, cs, hc⟩ := own_block_lt o1 g r3
  exact (hty g _ _ (by omega) (by decide) hc).trans hc.symm
theorem TS.put {w0 W : World} {R n cap eb pb L B k c N1 N2 N3 N4 : Nat} {A A' A1 A2 A3 A4 : Option Addr} {f b : Int} {bl ln cp : Nat → Nat} {ds : Nat → List Nd} {x0 x1 x2 x3 : Value} (h : TS w0 R n cap A eb pb L B f b k A' c bl ln cp ds A1 N1 A2 N2 A3 N3 A4 N4 #[x0, x1, x2, x3] W) (u0 u1 u2 u3 : Value) : TS w0 R n cap A eb pb L B f b k A' c bl ln cp ds A1 N1 A2 N2 A3 N3 A4 N4 #[u0, u1, u2, u3] ((((W.setCell ⟨pb, 0, none⟩ u0).setCell ⟨pb, 1, none⟩ u1).setCell ⟨pb, 2, none⟩ u2).setCell ⟨pb, 3, none⟩ u3) := by
  obtain ⟨h1, h2, h3, ⟨h4, h5⟩, h6, ⟨o1, o2, o3, o4⟩, ⟨a1, a2, a3, a4⟩, q0, q1, q2, q3, q4, q5⟩ := h
  have hk : ∀ x, x ≠ pb → ((((W.setCell ⟨pb, 0, none⟩ u0).setCell ⟨pb, 1, none⟩ u1).setCell ⟨pb, 2, none⟩ u2).setCell ⟨pb, 3, none⟩ u3).heap[x]? = W.heap[x]? := fun x hx => far4 (p := pb) u0 u1 u2 u3 x hx
  have hm : ∀ x, (B ≤ x ∧ x < W.heap.size) ∧ x ≠ pb → (B ≤ x ∧ x < ((((W.setCell ⟨pb, 0, none⟩ u0).setCell ⟨pb, 1, none⟩ u1).setCell ⟨pb, 2, none⟩ u2).setCell ⟨pb, 3, none⟩ u3).heap.size) ∧ x ≠ pb := fun x q => ⟨⟨q.1.1, by rw [size4]; exact q.1.2⟩, q.2⟩
  refine ⟨h1.keep fun x hx => hk x (by omega), ?_, (hk eb (by omega)).trans h3, ⟨(hk _ (by omega)).trans h4, (hk _ (by omega)).trans h5⟩, ?_, ⟨own_keepJ o1 fun g r1 r2 r3 => hk g ?_, o2.keep (by rw [size4]; exact Nat.le_refl _) fun i hi => hk _ (by have := o3 i hi; omega), o3, o4⟩, ⟨(a1.keep fun x q => hk x q.2).more hm, (a2.keep fun x q => hk x q.2).more hm, (a3.keep fun x q => hk x q.2).more hm, (a4.keep fun x q => hk x q.2).more hm⟩, q0, q1, q2, q3, q4, q5⟩
  · have g0 := h2.set_ 0 u0
    have g1 := g0.set_ 1 u1
    have g2 := g1.set_ 2 u2
    exact g2.set_ 3 u3
  · exact (((h6.setCell (p := ⟨pb, 0, none⟩) (by show w0.heap.size ≤ pb; omega) _).setCell (p := ⟨pb, 1, none⟩) (by show w0.heap.size ≤ pb; omega) _).setCell (p := ⟨pb, 2, none⟩) (by show w0.heap.size ≤ pb; omega) _).setCell (p := ⟨pb, 3, none⟩) (by show w0.heap.size ≤ pb; omega) _
  · intro e
    obtain ⟨_, _, cs, hc⟩ := own_block_lt o1 g r3
    subst e
    exact hc.ne_ h2 (by decide) rfl
theorem TS.drew {w0 W : World} {R n cap eb pb L B k c N1 N2 N3 N4 : Nat} {A A' A1 A2 A3 A4 : Option Addr} {f b : Int} {bl ln cp : Nat → Nat} {ds : Nat → List Nd} {pc : Array Value} (h : TS w0 R n cap A eb pb L B f b k A' c bl ln cp ds A1 N1 A2 N2 A3 N3 A4 N4 pc W) : TS w0 R n cap A eb pb L B f b k A' c bl ln cp ds A1 N1 A2 N2 A3 N3 A4 N4 pc W.drew := by
  obtain ⟨h1, h2, h3, ⟨h4, h5⟩, h6, ⟨o1, o2, o3, o4⟩, ⟨a1, a2, a3, a4⟩, q⟩ := h
  exact ⟨h1.below (Below.refl _ W).drew, h2, h3, ⟨h4, h5⟩, h6.drew, ⟨own_keepJ o1 fun _ _ _ _ => rfl, o2.keep (Nat.le_refl _) fun _ _ => rfl, o3, o4⟩, ⟨a1, a2, a3, a4⟩, q⟩
theorem ts_cells {W : World} {eb pb : Nat} {x0 x1 x2 y0 y1 y2 y3 : Value} (h : Blk W eb 26 #[x0, x1, x2]) (h' : Blk W pb 29 #[y0, y1, y2, y3]) : W.cell? ⟨eb, 0, none⟩ = some x0 ∧ W.cell? ⟨eb, 1, none⟩ = some x1 ∧ W.cell? ⟨eb, 2, none⟩ = some x2 ∧ W.cell? ⟨pb, 0, none⟩ = some y0 ∧ W.cell? ⟨pb, 1, none⟩ = some y1 ∧ W.cell? ⟨pb, 2, none⟩ = some y2 ∧ W.cell? ⟨pb, 3, none⟩ = some y3 :=
  ⟨h.cell 0, h.cell 1, h.cell 2, h'.cell 0, h'.cell 1, h'.cell 2, h'.cell 3⟩
theorem tk_end {w0 W wA : World} {R n cap eb pb L B k c N1 c1 N2 c2 N3 c3 N4 c4 k2 d2 : Nat} {A A' A1 A2 A3 A4 E2 : Option Addr} {f b f2 b2 : Int} {bl ln cp len : Nat → Nat} {ds : Nat → List Nd} {g : Nat → Nat → Nd} {pc : Array Value} (h : TS w0 R n cap A eb pb L B f b k A' c bl ln cp ds A1 N1 A2 N2 A3 N3 A4 N4 pc W)
    (hov : ∀ x, eb ≤ x → x < W.heap.size → wA.heap[x]? = W.heap[x]?) (hb : Below R W wA) (hHi : HiT wA (fun x => R < x ∧ x < wA.heap.size) E2 k2 len g) :
    (Blk (((((((wA.setCell ⟨w0.heap.size, 0, none⟩ (.int .i64 f2)).setCell ⟨w0.heap.size, 1, none⟩ (.int .i64 b2)).setCell ⟨w0.heap.size, 2, none⟩ (.slice E2 k2 d2)).setCell ⟨w0.heap.size + 1, 0, none⟩ (.slice A1 N1 c1)).setCell ⟨w0.heap.size + 1, 1, none⟩ (.slice A2 N2 c2)).setCell ⟨w0.heap.size + 1, 2, none⟩ (.slice A3 N3 c3)).setCell ⟨w0.heap.size + 1, 3, none⟩ (.slice A4 N4 c4)) w0.heap.size 26 #[.int .i64 f2, .int .i64 b2, .slice E2 k2 d2] ∧ Blk (((((((wA.setCell ⟨w0.heap.size, 0, none⟩ (.int .i64 f2)).setCell ⟨w0.heap.size, 1, none⟩ (.int .i64 b2)).setCell ⟨w0.heap.size, 2, none⟩ (.slice E2 k2 d2)).setCell ⟨w0.heap.size + 1, 0, none⟩ (.slice A1 N1 c1)).setCell ⟨w0.heap.size + 1, 1, none⟩ (.slice A2 N2 c2)).setCell ⟨w0.heap.size + 1, 2, none⟩ (.slice A3 N3 c3)).setCell ⟨w0.heap.size + 1, 3, none⟩ (.slice A4 N4 c4)) (w0.heap.size + 1) 29 #[.slice A1 N1 c1, .slice A2 N2 c2, .slice A3 N3 c3, .slice A4 N4 c4]) ∧ RdT (((((((wA.setCell ⟨w0.heap.size, 0, none⟩ (.int .i64 f2)).setCell ⟨w0.heap.size, 1, none⟩ (.int .i64 b2)).setCell ⟨w0.heap.size, 2, none⟩ (.slice E2 k2 d2)).setCell ⟨w0.heap.size + 1, 0, none⟩ (.slice A1 N1 c1)).setCell ⟨w0.heap.size + 1, 1, none⟩ (.slice A2 N2 c2)).setCell ⟨w0.heap.size + 1, 2, none⟩ (.slice A3 N3 c3)).setCell ⟨w0.heap.size + 1, 3, none⟩ (.slice A4 N4 c4)) (((((((wA.setCell ⟨w0.heap.size, 0, none⟩ (.int .i64 f2)).setCell ⟨w0.heap.size, 1, none⟩ (.int .i64 b2)).setCell ⟨w0.heap.size, 2, none⟩ (.slice E2 k2 d2)).setCell ⟨w0.heap.size + 1, 0, none⟩ (.slice A1 N1 c1)).setCell ⟨w0.heap.size + 1, 1, none⟩ (.slice A2 N2 c2)).setCell ⟨w0.heap.size + 1, 2, none⟩ (.slice A3 N3 c3)).setCell ⟨w0.heap.size + 1, 3, none⟩ (.slice A4 N4 c4)).heap.size E2 k2 len g ∧ (∃ z1 z2 z3 z4, RdP (((((((wA.setCell ⟨w0.heap.size, 0, none⟩ (.int .i64 f2)).setCell ⟨w0.heap.size, 1, none⟩ (.int .i64 b2)).setCell ⟨w0.heap.size, 2, none⟩ (.slice E2 k2 d2)).setCell ⟨w0.heap.size + 1, 0, none⟩ (.slice A1 N1 c1)).setCell ⟨w0.heap.size + 1, 1, none⟩ (.slice A2 N2 c2)).setCell ⟨w0.heap.size + 1, 2, none⟩ (.slice A3 N3 c3)).setCell ⟨w0.heap.size + 1, 3, none⟩ (.slice A4 N4 c4)) (((((((wA.setCell ⟨w0.heap.size, 0, none⟩ (.int .i64 f2)).setCell ⟨w0.heap.size, 1, none⟩ (.int .i64 b2)).setCell ⟨w0.heap.size, 2, none⟩ (.slice E2 k2 d2)).setCell ⟨w0.heap.size + 1, 0, none⟩ (.slice A1 N1 c1)).setCell ⟨w0.heap.size + 1, 1, none⟩ (.slice A2 N2 c2)).setCell ⟨w0.heap.size + 1, 2, none⟩ (.slice A3 N3 c3)).setCell ⟨w0.heap.size + 1, 3, none⟩ (.slice A4 N4 c4)).heap.size A1 N1 z1 A2 N2 z2 A3 N3 z3 A4 N4 z4) ∧ Below w0.heap.size w0 (((((((wA.setCell ⟨w0.heap.size, 0, none⟩ (.int .i64 f2)).setCell ⟨w0.heap.size, 1, none⟩ (.int .i64 b2)).setCell ⟨w0.heap.size, 2, none⟩ (.slice E2 k2 d2)).setCell ⟨w0.heap.size + 1, 0, none⟩ (.slice A1 N1 c1)).setCell ⟨w0.heap.size + 1, 1, none⟩ (.slice A2 N2 c2)).setCell ⟨w0.heap.size + 1, 2, none⟩ (.slice A3 N3 c3)).setCell ⟨w0.heap.size + 1, 3, none⟩ (.slice A4 N4 c4)) := by
  obtain ⟨h1, h2, h3, ⟨h4, h5⟩, h6, _, ⟨a1, a2, a3, a4⟩, q0, q1, q2, q3, q4, q5⟩ := h
  have hs : (((((((wA.setCell ⟨w0.heap.size, 0, none⟩ (.int .i64 f2)).setCell ⟨w0.heap.size, 1, none⟩ (.int .i64 b2)).setCell ⟨w0.heap.size, 2, none⟩ (.slice E2 k2 d2)).setCell ⟨w0.heap.size + 1, 0, none⟩ (.slice A1 N1 c1)).setCell ⟨w0.heap.size + 1, 1, none⟩ (.slice A2 N2 c2)).setCell ⟨w0.heap.size + 1, 2, none⟩ (.slice A3 N3 c3)).setCell ⟨w0.heap.size + 1, 3, none⟩ (.slice A4 N4 c4)).heap.size = wA.heap.size := by rw [size4]; simp
  have hk : ∀ x, R < x → (((((((wA.setCell ⟨w0.heap.size, 0, none⟩ (.int .i64 f2)).setCell ⟨w0.heap.size, 1, none⟩ (.int .i64 b2)).setCell ⟨w0.heap.size, 2, none⟩ (.slice E2 k2 d2)).setCell ⟨w0.heap.size + 1, 0, none⟩ (.slice A1 N1 c1)).setCell ⟨w0.heap.size + 1, 1, none⟩ (.slice A2 N2 c2)).setCell ⟨w0.heap.size + 1, 2, none⟩ (.slice A3 N3 c3)).setCell ⟨w0.heap.size + 1, 3, none⟩ (.slice A4 N4 c4)).heap[x]? = wA.heap[x]? := far7 R w0.heap.size q0 wA _ _ _ _ _ _ _
  have m4 := h4.below hb (by omega)
  have m5 := h5.below hb q0
  have hbA := h6.trans (hb.mono (by omega))
  have hb3 : Below w0.heap.size w0 (((wA.setCell ⟨w0.heap.size, 0, none⟩ (.int .i64 f2)).setCell ⟨w0.heap.size, 1, none⟩ (.int .i64 b2)).setCell ⟨w0.heap.size, 2, none⟩ (.slice E2 k2 d2)) := ((hbA.setCell (p := ⟨w0.heap.size, 0, none⟩) (Nat.le_refl _) _).setCell (p := ⟨w0.heap.size, 1, none⟩) (Nat.le_refl _) _).setCell (p := ⟨w0.heap.size, 2, none⟩) (Nat.le_refl _) _
  have hb7 : Below w0.heap.size w0 (((((((wA.setCell ⟨w0.heap.size, 0, none⟩ (.int .i64 f2)).setCell ⟨w0.heap.size, 1, none⟩ (.int .i64 b2)).setCell ⟨w0.heap.size, 2, none⟩ (.slice E2 k2 d2)).setCell ⟨w0.heap.size + 1, 0, none⟩ (.slice A1 N1 c1)).setCell ⟨w0.heap.size + 1, 1, none⟩ (.slice A2 N2 c2)).setCell ⟨w0.heap.size + 1, 2, none⟩ (.slice A3 N3 c3)).setCell ⟨w0.heap.size + 1, 3, none⟩ (.slice A4 N4 c4)) := (((hb3.setCell (p := ⟨w0.heap.size + 1, 0, none⟩) (Nat.le_succ _) _).setCell (p := ⟨w0.heap.size + 1, 1, none⟩) (Nat.le_succ _) _).setCell (p := ⟨w0.heap.size + 1, 2, none⟩) (Nat.le_succ _) _).setCell (p := ⟨w0.heap.size + 1, 3, none⟩) (Nat.le_succ _) _
  have e3 : Blk (((wA.setCell ⟨w0.heap.size, 0, none⟩ (.int .i64 f2)).setCell ⟨w0.heap.size, 1, none⟩ (.int .i64 b2)).setCell ⟨w0.heap.size, 2, none⟩ (.slice E2 k2 d2)) w0.heap.size 26 #[.int .i64 f2, .int .i64 b2, .slice E2 k2 d2] := ((m4.set_ 0 _).set_ 1 _).set_ 2 _
  have p3 : Blk (((wA.setCell ⟨w0.heap.size, 0, none⟩ (.int .i64 f2)).setCell ⟨w0.heap.size, 1, none⟩ (.int .i64 b2)).setCell ⟨w0.heap.size, 2, none⟩ (.slice E2 k2 d2)) (w0.heap.size + 1) 29 #[.slice none 0 0, .slice none 0 0, .slice none 0 0, .slice none 0 0] := ((m5.far (p := ⟨w0.heap.size, 0, none⟩) (by show w0.heap.size + 1 ≠ w0.heap.size; omega) _).far (p := ⟨w0.heap.size, 1, none⟩) (by show w0.heap.size + 1 ≠ w0.heap.size; omega) _).far (p := ⟨w0.heap.size, 2, none⟩) (by show w0.heap.size + 1 ≠ w0.heap.size; omega) _
  have hkx : ∀ x, (B ≤ x ∧ x < W.heap.size) ∧ x ≠ pb → (((((((wA.setCell ⟨w0.heap.size, 0, none⟩ (.int .i64 f2)).setCell ⟨w0.heap.size, 1, none⟩ (.int .i64 b2)).setCell ⟨w0.heap.size, 2, none⟩ (.slice E2 k2 d2)).setCell ⟨w0.heap.size + 1, 0, none⟩ (.slice A1 N1 c1)).setCell ⟨w0.heap.size + 1, 1, none⟩ (.slice A2 N2 c2)).setCell ⟨w0.heap.size + 1, 2, none⟩ (.slice A3 N3 c3)).setCell ⟨w0.heap.size + 1, 3, none⟩ (.slice A4 N4 c4)).heap[x]? = W.heap[x]? := fun x q => (hk x (by omega)).trans (hov x (by omega) q.1.2)
  have hl : ∀ x, (B ≤ x ∧ x < W.heap.size) ∧ x ≠ pb → x < wA.heap.size := fun x q => Nat.lt_of_lt_of_le q.1.2 hb.size
  refine ⟨⟨(far4 (p := w0.heap.size + 1) (.slice A1 N1 c1) (.slice A2 N2 c2) (.slice A3 N3 c3) (.slice A4 N4 c4) w0.heap.size (by omega)).trans e3, (((p3.set_ 0 _).set_ 1 _).set_ 2 _).set_ 3 _⟩, ?_, ?_, hb7⟩
  · rw [hs]
    exact (hHi.keep (Q := fun x => R < x ∧ x < wA.heap.size) (fun x q => hk x q.1) (fun x q => q)).rdT fun x q => q.2
  · rw [hs]
    obtain ⟨z1, k1⟩ := (a1.keep hkx).rd (B := wA.heap.size) hl
    obtain ⟨z2, k2⟩ := (a2.keep hkx).rd (B := wA.heap.size) hl
    obtain ⟨z3, k3⟩ := (a3.keep hkx).rd (B := wA.heap.size) hl
    obtain ⟨z4, k4⟩ := (a4.keep hkx).rd (B := wA.heap.size) hl
    exact ⟨z1, z2, z3, z4, k1, k2, k3, k4⟩
/-- The order's own row, too. -/
def SW (w0 : World) (R n cap : Nat) (A : Option Addr) (eb pb L B : Nat) (f b : Int) (k : Nat) (A' : Option Addr) (c : Nat) (bl ln cp : Nat → Nat) (ds : Nat → List Nd) (A1 : Option Addr) (N1 c1 : Nat) (A2 : Option Addr) (N2 c2 : Nat) (A3 : Option Addr) (N3 c3 : Nat) (A4 : Option Addr) (N4 c4 : Nat) (len : Nat → Nat) (g : Nat → Nat → Nd) (gb : Nat) (z : Nat → Int) (W : World) : Prop :=
  PK w0 R n cap A eb pb L B f b k A' c bl ln cp ds A1 N1 c1 A2 N2 c2 A3 N3 c3 A4 N4 c4 W ∧ A1 = some ⟨gb, 0, none⟩ ∧ B ≤ gb ∧ Row W 2 gb N1 z ∧ HiT W (fun x => R < x ∧ x < B) A' k len g
section
variable {w0 W W' : World} {R n cap eb pb L B k c N1 c1 N2 c2 N3 c3 N4 c4 gb : Nat} {A A' A1 A2 A3 A4 : Option Addr} {f b : Int} {bl ln cp len : Nat → Nat} {ds : Nat → List Nd} {g : Nat → Nat → Nd} {z : Nat → Int}
theorem SW.next (h : SW w0 R n cap A eb pb L B f b k A' c bl ln cp ds A1 N1 c1 A2 N2 c2 A3 N3 c3 A4 N4 c4 len g gb z W) (hR : Rs W' R A n cap) (hg : W.grownBy W' (some R)) : SW w0 R n cap A eb pb L B f b k A' c bl ln cp ds A1 N1 c1 A2 N2 c2 A3 N3 c3 A4 N4 c4 len g gb z W' := by
  obtain ⟨h1, h2, h3, h4, h5⟩ := h
  have hq := h1.2.2.1
  have hp := h1.2.1.2.1.lt
  exact ⟨h1.next hR hg, h2, h3, h4.keep (hg.block gb h4.lt (by intro e; injection e with e; omega)), h5.keep (fun x q => hg.block x (by omega) (by intro e; injection e with e; omega)) fun x q => q⟩
theorem SW.set (h : SW w0 R n cap A eb pb L B f b k A' c bl ln cp ds A1 N1 c1 A2 N2 c2 A3 N3 c3 A4 N4 c4 len g gb z W) (i : Nat) (x : Int) : SW w0 R n cap A eb pb L B f b k A' c bl ln cp ds A1 N1 c1 A2 N2 c2 A3 N3 c3 A4 N4 c4 len g gb (fun j => if j = i then x else z j) (W.setCell ⟨gb, i, none⟩ (.int .i64 x)) := by
  obtain ⟨⟨h1, ⟨e1, e2, e3, e4⟩, ⟨q0, q1, q2, q3, q4⟩, hb, ⟨o1, o2, o3, o4⟩, ⟨a1, a2, a3, z4, a4⟩, hd, ht⟩, hA, hB, hr, hi⟩ := h
  obtain ⟨cs, hg, hr'⟩ := hr
  have hm : ∀ x', B ≤ x' ∧ x' < W.heap.size → B ≤ x' ∧ x' < (W.setCell ⟨gb, i, none⟩ (.int .i64 x)).heap.size := fun x' q => by rw [World.size_setCell]; exact q
  refine ⟨⟨rs_set h1 (by show R < gb; omega) _, ⟨e1.far (e1.ne_ hg (by decide)) _, e2.far (e2.ne_ hg (by decide)) _, e3.far (e3.ne_ hg (by decide)) _, e4.far (e4.ne_ hg (by decide)) _⟩, ⟨q0, q1, q2, q3, q4⟩, hb.setCell (by show w0.heap.size ≤ gb; omega) _,
    ⟨own_keepJ o1 fun y r1 r2 r3 => Below.heap_setCell _ _ _ y ?_, o2.keep (by rw [World.size_setCell]; exact Nat.le_refl _) fun y hy => Below.heap_setCell _ _ _ _ (by have := o3 y hy; show bl y ≠ gb; omega), o3, o4⟩, ⟨(a1.set _ _).more hm, (a2.set _ _).more hm, (a3.set _ _).more hm, z4, own_keepJ a4 fun y r1 r2 r3 => Below.heap_setCell _ _ _ y ?_⟩, hd, fun y off e => ?_⟩, hA, hB, Row.set_ ⟨cs, hg, hr'⟩ x, hi.keep (fun y q => Below.heap_setCell _ _ _ y (by show y ≠ gb; omega)) fun y q => q⟩
  · obtain ⟨_, _, cs', hc⟩ := own_block_lt o1 y r3
    exact hc.ne_ hg (by decide)
  · exact fun e => (hd y r3).1 gb 0 hA e.symm
  · obtain ⟨cs', hc⟩ := ht y off e
    by_cases hy : y = gb
    · subst hy
      exact ⟨_, hc.set_ i _⟩
    · exact ⟨cs', hc.far hy _⟩
theorem SW.drew (h : SW w0 R n cap A eb pb L B f b k A' c bl ln cp ds A1 N1 c1 A2 N2 c2 A3 N3 c3 A4 N4 c4 len g gb z W) : SW w0 R n cap A eb pb L B f b k A' c bl ln cp ds A1 N1 c1 A2 N2 c2 A3 N3 c3 A4 N4 c4 len g gb z W.drew := h.next (h.1.1.below (Below.refl _ W).drew) ⟨rfl, rfl, rfl, Nat.le_refl _, fun _ _ _ => rfl⟩
theorem SW.rs (h : SW w0 R n cap A eb pb L B f b k A' c bl ln cp ds A1 N1 c1 A2 N2 c2 A3 N3 c3 A4 N4 c4 len g gb z W) : Rs W R A n cap := h.1.1
theorem SW.cells (h : SW w0 R n cap A eb pb L B f b k A' c bl ln cp ds A1 N1 c1 A2 N2 c2 A3 N3 c3 A4 N4 c4 len g gb z W) (hn : 1 < N1) : (W.cell? ⟨pb, 0, none⟩ = some (.slice A1 N1 c1) ∧ W.cell? ⟨pb, 1, none⟩ = some (.slice A2 N2 c2) ∧ W.cell? ⟨pb, 2, none⟩ = some (.slice A3 N3 c3) ∧ W.cell? ⟨pb, 3, none⟩ = some (.slice A4 N4 c4)) ∧
    W.cell? ⟨gb, 0, none⟩ = some (.int .i64 (z 0)) ∧ W.cell? ⟨gb, 1, none⟩ = some (.int .i64 (z 1)) ∧ W.frozen? ⟨gb, 0, none⟩ = false ∧ W.frozen? ⟨gb, 1, none⟩ = false :=
  ⟨h.1.cells, h.2.2.2.1.cell (by omega), h.2.2.2.1.cell hn, h.2.2.2.1.frozen 0, h.2.2.2.1.frozen 1⟩
theorem SW.ecells (h : SW w0 R n cap A eb pb L B f b k A' c bl ln cp ds A1 N1 c1 A2 N2 c2 A3 N3 c3 A4 N4 c4 len g gb z W) : W.cell? ⟨eb, 0, none⟩ = some (.int .i64 f) ∧ W.cell? ⟨eb, 1, none⟩ = some (.int .i64 b) ∧ W.cell? ⟨eb, 2, none⟩ = some (.slice A' k c) := ⟨h.1.2.1.1.cell 0, h.1.2.1.1.cell 1, h.1.2.1.1.cell 2⟩
theorem SW.tabs {b1 b2 M : Nat} {y1 y2 : Nat → Int} (h : SW w0 R n cap A eb pb L B f b k A' c bl ln cp ds A1 N1 c1 A2 N2 c2 A3 N3 c3 A4 N4 c4 len g gb z W) (hb : Below W.heap.size W W') (t1 : Tb W' b1 M M y1) (t2 : Tb W' b2 M M y2) (h12 : b1 ≠ b2) (s1 : W.heap.size ≤ b1) (s2 : W.heap.size ≤ b2) :
    PK w0 R n cap A eb pb L B f b k A' c bl ln cp ds A1 N1 c1 A2 N2 c2 (some ⟨b1, 0, none⟩) M M (some ⟨b2, 0, none⟩) M M ((W'.setCell ⟨pb, 2, none⟩ (.slice (some ⟨b1, 0, none⟩) M M)).setCell ⟨pb, 3, none⟩ (.slice (some ⟨b2, 0, none⟩) M M)) := by
  obtain ⟨hP, hA, hB, hr, hi⟩ := h
  have hlt : ∀ x off, (A1 = some ⟨x, off, none⟩ ∨ A2 = some ⟨x, off, none⟩) → x < W.heap.size := fun x off e => by
    obtain ⟨cs, hc⟩ := hP.2.2.2.2.2.2.2 x off (e.elim Or.inl fun e => Or.inr (Or.inl e))
    exact hc.lt
  obtain ⟨h1, ⟨e1, e2, e3, e4⟩, ⟨q0, q1, q2, q3, q4⟩, hb0, ⟨o1, o2, o3, o4⟩, ⟨a1, a2, a3, z4, a4⟩, hd, ht⟩ := hP.next (hP.1.below hb) ⟨hb.os, hb.tape, hb.output, hb.size, fun i hi _ => hb.block i hi⟩
  have hpW := hP.2.1.2.1.lt
  obtain ⟨W2, hW2⟩ : ∃ X, (W'.setCell ⟨pb, 2, none⟩ (.slice (some ⟨b1, 0, none⟩) M M)).setCell ⟨pb, 3, none⟩ (.slice (some ⟨b2, 0, none⟩) M M) = X := ⟨_, rfl⟩
  have hk : ∀ x, x ≠ pb → W2.heap[x]? = W'.heap[x]? := fun x hx => by
    subst hW2
    exact (Below.heap_setCell _ ⟨pb, 3, none⟩ _ x hx).trans (Below.heap_setCell _ ⟨pb, 2, none⟩ _ x hx)
  have hsz : W2.heap.size = W'.heap.size := by subst hW2; rw [World.size_setCell, World.size_setCell]
  have hp2 : Blk W2 pb 29 #[.slice A1 N1 c1, .slice A2 N2 c2, .slice (some ⟨b1, 0, none⟩) M M, .slice (some ⟨b2, 0, none⟩) M M] := by
    subst hW2
    exact (e2.set_ 2 _).set_ 3 _
  have hb2 : Below w0.heap.size w0 W2 := by
    subst hW2
    exact (hb0.setCell (p := ⟨pb, 2, none⟩) (by show w0.heap.size ≤ pb; omega) _).setCell (p := ⟨pb, 3, none⟩) (by show w0.heap.size ≤ pb; omega) _
  rw [hW2]
  have hm : ∀ x, (B ≤ x ∧ x < W'.heap.size) ∧ x ≠ pb → B ≤ x ∧ x < W2.heap.size := fun x q => by rw [hsz]; exact q.1
  have k1 := own_tb (B := B) t1 (by omega)
  have k2 := own_tb (B := B) t2 (by omega)
  refine ⟨h1.keep fun x hx => hk x (by omega), ⟨(hk _ (by omega)).trans e1, hp2, (hk _ (by omega)).trans e3, (hk _ (by omega)).trans e4⟩, ⟨q0, q1, q2, q3, q4⟩, hb2, ⟨own_keepJ o1 fun y r1 r2 r3 => hk y ?_, o2.keep (by rw [hsz]; exact Nat.le_refl _) fun y hy => hk _ (by have := o3 y hy; omega), o3, o4⟩,
    ⟨((a1.notPlan e2).keep fun x q => hk x q.2).more hm, ((a2.notPlan e2).keep fun x q => hk x q.2).more hm, ((rdX_own k1).keep fun x q => hk x ?_).more fun x q => by rw [hsz]; exact q.1, y2, own_keepJ k2 fun y r1 r2 r3 => hk y ?_⟩, fun x hx => ?_, fun x off e => ?_⟩
  · obtain ⟨_, _, cs', hc⟩ := own_block_lt o1 y r3
    exact hc.ne_ e2 (by decide)
  · obtain ⟨cs', hc⟩ := q.2
    exact hc.ne_ e2 (by decide)
  · obtain ⟨_, _, cs', hc⟩ := own_block_lt k2 y r3
    exact hc.ne_ e2 (by decide)
  · have e : b2 = x := by
      have e1 : (Value.slice (some ⟨b2, 0, none⟩) M M).ownBlock = some b2 := rfl
      rw [e1] at hx
      injection hx
    subst e
    refine ⟨fun y off e => ?_, fun y off e => ?_, fun y off e => ?_⟩
    · have := hlt y off (.inl e); omega
    · have := hlt y off (.inr e); omega
    · injection e with e; injection e with e _ _; omega
  · have hc : ∃ cs, Blk W' x 2 cs := by
      rcases e with e | e | e
      · exact ht x off (.inl e)
      · exact ht x off (.inr (.inl e))
      · injection e with e
        injection e with e _ _
        subst e
        obtain ⟨cs, hc, _⟩ := t1
        exact ⟨cs, hc⟩
    obtain ⟨cs, hc⟩ := hc
    exact ⟨cs, (hk x (hc.ne_ e2 (by decide))).trans hc⟩
end
set_option maxRecDepth 100000 in
set_option maxHeartbeats 16000000 in
theorem drawPlanOk (A : Option Addr) (n cap : Nat) (w : World) (h : Bs w w.heap.size A n) (hn : n ≤ 4194304) :
    Calls Try.prog 18 #[.slice A n cap] w (DrawnPk w) := by
  have hbz := ((Below.refl w.heap.size w).alloc (Nat.le_refl _) (.cells #[.int .i64 0, .int .i64 0, .slice none 0 0] 26)).alloc (by simp) (.cells #[.slice none 0 0, .slice none 0 0, .slice none 0 0, .slice none 0 0] 29)
  have z1 : Blk ((w.alloc (.cells #[.int .i64 0, .int .i64 0, .slice none 0 0] 26)).alloc (.cells #[.slice none 0 0, .slice none 0 0, .slice none 0 0, .slice none 0 0] 29)) w.heap.size 26 #[.int .i64 0, .int .i64 0, .slice none 0 0] := (Blk.new w _ _).alloc _
  have z2 : Blk ((w.alloc (.cells #[.int .i64 0, .int .i64 0, .slice none 0 0] 26)).alloc (.cells #[.slice none 0 0, .slice none 0 0, .slice none 0 0, .slice none 0 0] 29)) (w.heap.size + 1) 29 #[.slice none 0 0, .slice none 0 0, .slice none 0 0, .slice none 0 0] := Blk.new2 w _ _ _
  have hs0 : ((w.alloc (.cells #[.int .i64 0, .int .i64 0, .slice none 0 0] 26)).alloc (.cells #[.slice none 0 0, .slice none 0 0, .slice none 0 0, .slice none 0 0] 29)).heap.size = w.heap.size + 2 := by simp
  go_enter Try.func18, Try.ntmps18
  go_wp2_with fail
  obtain ⟨W0, hW0⟩ : ∃ W, (w.alloc (.cells #[.int .i64 0, .int .i64 0, .slice none 0 0] 26)).alloc (.cells #[.slice none 0 0, .slice none 0 0, .slice none 0 0, .slice none 0 0] 29) = W := ⟨_, rfl⟩
  rw [hW0] at hbz z1 z2 hs0 ⊢
  clear hW0
  refine (open_draw A n cap W0 (Bs.more (Bs.keep h fun _ hp => hbz.cell hp) hbz.size) hn).mono ?_
  rintro e w1 ⟨rfl, hR1, hb1⟩
  have y1 := z1.below hb1 z1.lt
  have y2 := z2.below hb1 z2.lt
  have hw1 := hbz.trans (hb1.mono hbz.size)
  rw [hs0] at hR1
  rw [hs0]
  generalize hRR : w.heap.size + 2 = R at *
  clear hb1 hbz z1 z2 hs0 h
  have hRw := hR1.lt
  go_wp2_with fail
  refine (below_draw R n cap A 3 _ hR1 (by omega) (by omega)).mono ?_
  rintro e w2 ⟨x, rfl, hx0, hx1, hR2, hg2⟩
  have x1 := y1.grown hg2 (by intro e; injection e with e; omega)
  have x2 := y2.grown hg2 (by intro e; injection e with e; omega)
  have hw2 := hw1.trans ((below_grown hg2 hRw).mono (show w.heap.size ≤ R by omega))
  have hwx : IntKind.i64.wrap (1 + x) = 1 + x := IntWalk.i64_in _ (by omega)
  clear hg2 y1 y2 hw1 hR1
  go_wp2_with fail
  refine (ens_draw R n cap A (1 + x) (by omega) (by omega) _ hR2).mono ?_
  rintro e w3 ⟨f, b, k, A', c, bl, ln, cp, ds, hk, rfl, hown, hT, hR3, hg3⟩
  have v1 := x1.grown hg3 (by intro e; injection e with e; omega)
  have v2 := x2.grown hg3 (by intro e; injection e with e; omega)
  have hw3 := hw2.trans ((below_grown hg3 hR2.lt).mono (show w.heap.size ≤ R by omega))
  have hR2w := hR2.lt
  have hHi : HiT w3 (fun x => R < x ∧ x < w3.heap.size) A' k ln (nds ds) := (hit_own hown hT).keep (fun x _ => rfl) fun x q => ⟨by omega, q.2⟩
  have hln : Hid (∀ i, i < k → ln i ≤ 16) := fun i hi => by have := (hT i hi).1.2; omega
  have HOWN := hid hown
  have HT := hid hT
  have hLe := hg3.size
  have HBL : Hid (∀ i, i < k → bl i < w3.heap.size) := fun i hi => (hT i hi).2.2.1.2
  have HRB : Hid (∀ x, A' = some ⟨x, 0, none⟩ → 0 < k → x < w3.heap.size) := fun x e hk => by
    obtain ⟨rb, cs, e', _, hblk, _⟩ := row_block hown hk
    rw [e] at e'
    obtain rfl := eq_b e'
    exact hblk.lt
  clear hg3 x1 x2 hw2 hR2 hown hT
  obtain ⟨eb, heb⟩ : ∃ eb, w3.heap.size = eb := ⟨_, rfl⟩
  have hRe : R < eb := by have := hR3.lt; omega
  have hbx := (Below.refl w3.heap.size w3).alloc (Nat.le_refl _) (.cells #[.int .i64 f, .int .i64 b, .slice A' k c] 26)
  have e4 := Blk.new w3 26 #[.int .i64 f, .int .i64 b, .slice A' k c]
  have u1 := v1.alloc (.cells #[.int .i64 f, .int .i64 b, .slice A' k c] 26)
  have u2 := v2.alloc (.cells #[.int .i64 f, .int .i64 b, .slice A' k c] 26)
  have hw4 := hw3.alloc hw3.size (.cells #[.int .i64 f, .int .i64 b, .slice A' k c] 26)
  have hR4 := hR3.alloc (.cells #[.int .i64 f, .int .i64 b, .slice A' k c] 26)
  have hHi4 : HiT (w3.alloc (.cells #[.int .i64 f, .int .i64 b, .slice A' k c] 26)) (fun x => R < x ∧ x < (w3.alloc (.cells #[.int .i64 f, .int .i64 b, .slice A' k c] 26)).heap.size) A' k ln (nds ds) := hHi.keep (fun x q => Below.heap_alloc _ _ x q.2) fun x q => ⟨q.1, by simp; omega⟩
  have hown4 := HOWN.out.alloc (.cells #[.int .i64 f, .int .i64 b, .slice A' k c] 26)
  have hT4 : Trees (w3.alloc (.cells #[.int .i64 f, .int .i64 b, .slice A' k c] 26)) w2.heap.size k bl ln cp ds := HT.out.keep (by simp) fun i hi => Below.heap_alloc _ _ _ (HT.out i hi).2.2.1.2
  have hsz4 : w3.heap.size < (w3.alloc (.cells #[.int .i64 f, .int .i64 b, .slice A' k c] 26)).heap.size := by simp
  clear hHi v1 v2 hw3 hR3 hbx HOWN HT
  go_wp2_with fail
  obtain ⟨W4, hW4⟩ : ∃ W, w3.alloc (.cells #[.int .i64 f, .int .i64 b, .slice A' k c] 26) = W := ⟨_, rfl⟩
  rw [hW4] at e4 u1 u2 hw4 hR4 hHi4 hown4 hT4 hsz4 ⊢
  rw [heb] at e4 hLe HBL HRB hsz4
  try rw [heb]
  clear hW4 heb
  refine (plan_draw R n cap A A' f b k c ln (nds ds) W4 hR4 hHi4 (by omega) (fun i hi => by have := hln.out i hi; omega)).mono ?_
  rintro e w5 ⟨A1, N1, c1, A2, N2, c2, A3, N3, c3, A4, N4, c4, rfl, ⟨y1, y2, y3, y4, ho, hgd, h43⟩, hR5, hg5⟩
  have hne : ∀ x, x < W4.heap.size → x ≠ R → w5.heap[x]? = W4.heap[x]? := fun x q1 q2 => hg5.block x q1 (by intro e; injection e with e; omega)
  have e5 := e4.grown hg5 (by intro e; injection e with e; omega)
  have t1 := u1.grown hg5 (by intro e; injection e with e; omega)
  have t2 := u2.grown hg5 (by intro e; injection e with e; omega)
  have hw5 := hw4.trans ((below_grown hg5 hR4.lt).mono (show w.heap.size ≤ R by omega))
  have hHi5 : HiT w5 (fun x => R < x ∧ x < W4.heap.size) A' k ln (nds ds) := hHi4.keep (fun x q => hne x q.2 (by omega)) fun x q => q
  have hown5 := own_grown hown4 hg5 hR2w
  have hT5 := Trees.grown hT4 hg5 hR2w
  have hb45 := hg5.size
  have hRW := hR4.lt
  have heW := e4.lt
  clear e4 u1 u2 hw4 hHi4 hne hg5 hR4 hown4 hT4
  have hN : N1 ≤ 12 ∧ N2 ≤ 12 ∧ N3 ≤ 13 ∧ (0 < N1 → 0 < N2) ∧ (0 < N1 → 0 < N3) := by
    rcases hgd with ⟨q1, q2, q3⟩ | ⟨q1, q2, q3, q4, _⟩
    · exact ⟨by omega, by omega, by omega, by omega, by omega⟩
    · exact ⟨by omega, by omega, by omega, by omega, by omega⟩
  obtain ⟨n1, n2, n3, n12, n13⟩ := hN
  have h44 : N4 ≤ 19 := by omega
  have HGD := hid hgd
  have H43 := hid h43
  have HO := hid ho
  obtain ⟨pb, hpb⟩ : ∃ pb, w5.heap.size = pb := ⟨_, rfl⟩
  have hbx := (Below.refl w5.heap.size w5).alloc (Nat.le_refl _) (.cells #[.slice A1 N1 c1, .slice A2 N2 c2, .slice A3 N3 c3, .slice A4 N4 c4] 29)
  have hK6 : PK w R n cap A eb w5.heap.size w2.heap.size W4.heap.size f b k A' c bl ln cp ds A1 N1 c1 A2 N2 c2 A3 N3 c3 A4 N4 c4 (w5.alloc (.cells #[.slice A1 N1 c1, .slice A2 N2 c2, .slice A3 N3 c3, .slice A4 N4 c4] 29)) := by
    have hkx : ∀ x, x < w5.heap.size → (w5.alloc (.cells #[.slice A1 N1 c1, .slice A2 N2 c2, .slice A3 N3 c3, .slice A4 N4 c4] 29)).heap[x]? = w5.heap[x]? := fun x q => Below.heap_alloc _ _ x q
    have hm : ∀ x, (W4.heap.size ≤ x ∧ x < w5.heap.size) ∧ (∃ cs, Blk w5 x 2 cs) → W4.heap.size ≤ x ∧ x < (w5.alloc (.cells #[.slice A1 N1 c1, .slice A2 N2 c2, .slice A3 N3 c3, .slice A4 N4 c4] 29)).heap.size := fun x q => ⟨q.1.1, by rw [World.size_alloc]; omega⟩
    refine ⟨hR5.alloc _, ⟨e5.alloc _, Blk.new w5 _ _, t1.alloc _, t2.alloc _⟩, ⟨by omega, hR2w, hLe, by omega, by omega⟩, hw5.alloc hw5.size _, ⟨hown5.alloc _, hT5.keep (by simp) fun i hi => hkx _ (hT5 i hi).2.2.1.2, HBL.out, HRB.out⟩,
      ⟨((rdX_own ho.o1).keep fun x q => hkx x q.1.2).more hm, ((rdX_own ho.o2).keep fun x q => hkx x q.1.2).more hm, ((rdX_own ho.o3).keep fun x q => hkx x q.1.2).more hm, y4, ho.o4.alloc _⟩,
      fun x hx => ⟨fun b off e e' => ho.d14 x (by subst e; subst e'; rfl) hx, fun b off e e' => ho.d24 x (by subst e; subst e'; rfl) hx, fun b off e e' => ho.d34 x (by subst e; subst e'; rfl) hx⟩, fun x off e => ?_⟩
    have hc : ∃ cs, Blk w5 x 2 cs := by
      rcases e with e | e | e <;> subst e
      · exact (own_block_lt ho.o1 x rfl).2.2
      · exact (own_block_lt ho.o2 x rfl).2.2
      · exact (own_block_lt ho.o3 x rfl).2.2
    obtain ⟨cs, hc⟩ := hc
    exact ⟨cs, hc.alloc _⟩
  have HO6 : Hid (Owns4 (w5.alloc (.cells #[.slice A1 N1 c1, .slice A2 N2 c2, .slice A3 N3 c3, .slice A4 N4 c4] 29)) W4.heap.size A1 N1 c1 y1 A2 N2 c2 y2 A3 N3 c3 y3 A4 N4 c4 y4) := ho.keep (Nat.le_refl _) fun x _ q => Below.heap_alloc _ _ x q
  have hHi6 : Hid (HiT (w5.alloc (.cells #[.slice A1 N1 c1, .slice A2 N2 c2, .slice A3 N3 c3, .slice A4 N4 c4] 29)) (fun x => R < x ∧ x < W4.heap.size) A' k ln (nds ds)) := hHi5.keep (fun x q => Below.heap_alloc _ _ x (by omega)) fun x q => q
  clear hgd h43 ho HO hbx hown5 hT5 e5 t1 t2 hw5 hHi5 hR5
  obtain ⟨c0, c1', c2', c3'⟩ := hK6.cells
  by_cases hN1 : 1 < N1
  · have g1 : decide ((N1 : Int) > 1) = true := decide_eq_true (by omega)
    have HK6 := hid hK6
    clear hK6
    go_wp2_with fail
    obtain ⟨W6, hW6⟩ : ∃ W, w5.alloc (.cells #[.slice A1 N1 c1, .slice A2 N2 c2, .slice A3 N3 c3, .slice A4 N4 c4] 29) = W := ⟨_, rfl⟩
    rw [hW6] at HK6 HO6 hHi6 c0 c1' c2' c3' ⊢
    rw [hpb] at HK6 c0 c1' c2' c3'
    try rw [hpb]
    clear hW6 hpb
    refine (once_draw R n cap A 4 _ HK6.out.rs (by omega) (by omega)).mono ?_
    rintro e w7 ⟨q, rfl, hR7, hg7⟩
    have hK7 := HK6.out.next hR7 hg7
    have HO7 : Hid (Owns4 w7 W4.heap.size A1 N1 c1 y1 A2 N2 c2 y2 A3 N3 c3 y3 A4 N4 c4 y4) := HO6.out.keep (Nat.le_refl _) fun x q1 q2 => hg7.block x q2 (by have := hRW; intro e; injection e with e; omega)
    have hHi7 : Hid (HiT w7 (fun x => R < x ∧ x < W4.heap.size) A' k ln (nds ds)) := hHi6.out.keep (fun x q => hg7.block x (by have := HK6.out.2.1.2.1.lt; have := HK6.out.2.2.1.2.2.2.2; omega) (by intro e; injection e with e; omega)) fun x q => q
    clear HK6 HO6 hHi6 hR7 hg7 c0 c1' c2' c3'
    cases q with
    | false =>
      clear HO7 hHi7
      have HK := hid hK7
      clear hK7
      obtain ⟨c0, c1', c2', c3'⟩ := HK.out.cells
      go_wp2_with fail
      obtain ⟨kk1, ⟨ke1, ke2, ke3, ke4⟩, ⟨kq0, kq1, kq2, kq3, kq4⟩, kb, ⟨ko1, ko2, ko3, ko4⟩, ⟨ka1, ka2, ka3, z4, ka4⟩, kd, kt⟩ := HK.out
      have hBW : W4.heap.size ≤ w7.heap.size := by have := ke2.lt; omega
      have KD := hid kd
      have KT := hid kt
      clear kd kt
      with_reducible refine Calls.mono (hurtPlan_draw R n cap W4.heap.size A A1 N1 c1 A2 N2 c2 A3 N3 c3 A4 N4 c4 z4 w7 kk1 hRW hBW ka1 ka2 ka3 ka4 KD KT (Nat.le_trans n1 (by omega)) (Nat.le_trans h44 (by omega)) n12 n13) ?_
      rintro e w8 ⟨A4', N4', c4', hn4, rfl, ⟨a1, a2, a3, a4⟩, hR8, hG8, hty8⟩
      have TR := hid (tail_state HK.out hk hR8 hG8 hty8 ⟨a1, a2, a3, a4⟩)
      clear HK KD KT ka1 ka2 ka3 ka4 ke1 ke2 ke3 ke4 ko1 ko2 kk1 kb hR8 hG8 hty8 a1 a2 a3 a4 c0 c1' c2' c3'
      obtain ⟨⟨c0, c1', c2', c3'⟩, f0, f1, f2, f3⟩ := blk_cells4 TR.out.2.1
      go_wp2_with fail
      have HT9 := (TR.out.put (.slice A1 N1 c1) (.slice A2 N2 c2) (.slice A3 N3 c3) (.slice A4' N4' c4')).drew
      clear TR c0 c1' c2' c3' f0 f1 f2 f3
      obtain ⟨W9, hW9⟩ : ∃ W, ((((w8.setCell ⟨pb, 0, none⟩ (.slice A1 N1 c1)).setCell ⟨pb, 1, none⟩ (.slice A2 N2 c2)).setCell ⟨pb, 2, none⟩ (.slice A3 N3 c3)).setCell ⟨pb, 3, none⟩ (.slice A4' N4' c4')) = W := ⟨_, rfl⟩
      rw [hW9] at HT9 ⊢
      clear hW9
      have T9 := hid HT9
      obtain ⟨rr9, p9, e9, ⟨x9, y9⟩, _, ⟨ow9, tr9, _, _⟩, _, t0, t1, t2, t3, t4, _⟩ := HT9
      have S0 := hid (ts_cells e9 p9)
      have HLr : Hid (∀ x, A' = some ⟨x, 0, none⟩ → 0 < k → x < eb) := fun x e q => HRB.out x e q
      have HLb : Hid (∀ i, i < k → bl i < eb) := HBL.out
      have hReb : R < eb := Nat.lt_of_lt_of_le t1 t2
      have heS : eb < W9.drew.heap.size := e9.lt
      have hpS : pb < W9.drew.heap.size := p9.lt
      have heP : eb ≤ pb := by omega
      have hwR : w.heap.size < R := by omega
      go_region_held3 (fun w' => w'.cell? ⟨eb, 0, none⟩ = some (.int .i64 f) ∧ w'.cell? ⟨eb, 1, none⟩ = some (.int .i64 b) ∧ w'.cell? ⟨eb, 2, none⟩ = some (.slice A' k c) ∧ w'.cell? ⟨pb, 0, none⟩ = some (.slice A1 N1 c1) ∧ w'.cell? ⟨pb, 1, none⟩ = some (.slice A2 N2 c2) ∧ w'.cell? ⟨pb, 2, none⟩ = some (.slice A3 N3 c3) ∧ w'.cell? ⟨pb, 3, none⟩ = some (.slice A4' N4' c4'))
        ((refine Hid.out ?_; with_reducible assumption))
        (first | (go_at_call 75; (with_reducible refine Calls.mono (hurtEns_over R n cap w2.heap.size eb A A' f b k c bl ln cp ds W9.drew rr9 t1 hk ow9 tr9 hReb HLb HLr) ?_); rintro e wA ⟨⟨f', b', k', E2, d2, len, g, hk', hl', rfl, hHi, hRA, hbA⟩, hov⟩; have eA : Blk wA eb 26 #[.int .i64 f, .int .i64 b, .slice A' k c] := (hov eb (Nat.le_refl _) heS).trans e9; have pA : Blk wA pb 29 #[.slice A1 N1 c1, .slice A2 N2 c2, .slice A3 N3 c3, .slice A4' N4' c4'] := (hov pb heP hpS).trans p9; have SA := hid (ts_cells eA pA); obtain ⟨v0, v1, v2, f0, f1, f2⟩ := blk_cells3 (x9.below hbA hwR); obtain ⟨⟨v3, v4, v5, v6⟩, f3, f4, f5, f6⟩ := blk_cells4 (y9.below hbA t0); have SA3 := hid (ts_cells (Eq.trans (far3 R w.heap.size hwR wA (.int .i64 f') (.int .i64 b') (.slice E2 k' d2) eb hReb) eA) (Eq.trans (far3 R w.heap.size hwR wA (.int .i64 f') (.int .i64 b') (.slice E2 k' d2) pb (Nat.lt_of_lt_of_le hReb heP)) pA)); have SA7 := hid (ts_cells (Eq.trans (far7 R w.heap.size t0 wA (.int .i64 f') (.int .i64 b') (.slice E2 k' d2) (.slice A1 N1 c1) (.slice A2 N2 c2) (.slice A3 N3 c3) (.slice A4' N4' c4') eb hReb) eA) (Eq.trans (far7 R w.heap.size t0 wA (.int .i64 f') (.int .i64 b') (.slice E2 k' d2) (.slice A1 N1 c1) (.slice A2 N2 c2) (.slice A3 N3 c3) (.slice A4' N4' c4') pb (Nat.lt_of_lt_of_le hReb heP)) pA)); have HOV := hid hov; clear hov eA pA))
      all_goals
        have hE := tk_end (c1 := c1) (c2 := c2) (c3 := c3) (c4 := c4') (f2 := f') (b2 := b') (d2 := d2) T9.out HOV.out hbA hHi
        clear S0 SA SA3 SA7 T9 HOV v0 v1 v2 v3 v4 v5 v6 f0 f1 f2 f3 f4 f5 f6 hHi hbA
        obtain ⟨X, hX⟩ : ∃ X, (((((((wA.setCell ⟨w.heap.size, 0, none⟩ (.int .i64 f')).setCell ⟨w.heap.size, 1, none⟩ (.int .i64 b')).setCell ⟨w.heap.size, 2, none⟩ (.slice E2 k' d2)).setCell ⟨w.heap.size + 1, 0, none⟩ (.slice A1 N1 c1)).setCell ⟨w.heap.size + 1, 1, none⟩ (.slice A2 N2 c2)).setCell ⟨w.heap.size + 1, 2, none⟩ (.slice A3 N3 c3)).setCell ⟨w.heap.size + 1, 3, none⟩ (.slice A4' N4' c4')) = X := ⟨_, rfl⟩
        rw [hX] at hE ⊢
        clear hX
        obtain ⟨⟨hE1, hE2⟩, hE3, ⟨z1, z2, z3, z4', hE4⟩, hE5⟩ := hE
        go_wp2_with fail
        (try simp only [Exit.inBlock, Exit.then])
        refine bodyPost_ret (results_two rfl _ _ w.heap.size (w.heap.size + 1) 26 29 #[.int .i64 f', .int .i64 b', .slice E2 k' d2] #[.slice A1 N1 c1, .slice A2 N2 c2, .slice A3 N3 c3, .slice A4' N4' c4'] (0, 0) (0, 0) _ _ rfl hE1 rfl hE2 Try.underlying26 rfl size_ens Try.underlying29 rfl size_plan) rfl ?_
        exact ⟨f', b', k', E2, d2, len, g, A1, N1, c1, z1, A2, N2, c2, z2, A3, N3, c3, z3, A4', N4', c4', z4', hk', hl', ⟨by omega, by omega, by omega, by omega⟩, rfl, hE3, hE4, hE5⟩
    | true =>
      obtain ⟨gb, cg, eA, hgb, hRow⟩ := own_row HO7.out.o1 (show 0 < N1 by omega)
      injection eA with eA1 _ eA3
      subst eA1
      subst eA3
      have hg01 : (0 : Int) < (N1 : Int) := by omega
      have hg11 : (1 : Int) < (N1 : Int) := by omega
      have HS7 : Hid (SW w R n cap A eb pb w2.heap.size W4.heap.size f b k A' c bl ln cp ds (some ⟨gb, 0, none⟩) N1 c1 A2 N2 c2 A3 N3 c3 A4 N4 c4 ln (nds ds) gb y1 w7) := ⟨hK7, rfl, hgb, hRow, hHi7.out⟩
      clear hK7 HO7 hHi7 hgb hRow
      obtain ⟨⟨c0, c1', c2', c3'⟩, d0, d1, d2, d3⟩ := HS7.out.cells hN1
      go_wp2_with fail
      go_region
      have HS8 := hid (HS7.out.set 0 (y1 1)).drew
      clear HS7 c0 c1' c2' c3' d0 d1 d2 d3
      obtain ⟨X8, hX⟩ : ∃ X, (w7.setCell ⟨gb, 0, none⟩ (.int .i64 (y1 1))).drew = X := ⟨_, rfl⟩
      rw [hX] at HS8 ⊢
      clear hX
      obtain ⟨⟨c0, c1', c2', c3'⟩, d0, d1, d2, d3⟩ := HS8.out.cells hN1
      go_wp2_with fail
      have HS9 := hid (HS8.out.set 1 (y1 0))
      clear HS8 c0 c1' c2' c3' d0 d1 d2 d3
      obtain ⟨X9, hX⟩ : ∃ X, X8.setCell ⟨gb, 1, none⟩ (.int .i64 (y1 0)) = X := ⟨_, rfl⟩
      rw [hX] at HS9 ⊢
      clear hX
      refine (once_draw R n cap A 2 _ HS9.out.rs (by omega) (by omega)).mono ?_
      rintro e w7 ⟨q, rfl, hR7, hg7⟩
      have HSA := hid (HS9.out.next hR7 hg7)
      clear HS9 hR7 hg7
      cases q with
      | false =>
        have HK := hid HSA.out.1
        clear HSA
        obtain ⟨c0, c1', c2', c3'⟩ := HK.out.cells
        go_wp2_with fail
        obtain ⟨kk1, ⟨ke1, ke2, ke3, ke4⟩, ⟨kq0, kq1, kq2, kq3, kq4⟩, kb, ⟨ko1, ko2, ko3, ko4⟩, ⟨ka1, ka2, ka3, z4, ka4⟩, kd, kt⟩ := HK.out
        have hBW : W4.heap.size ≤ w7.heap.size := by have := ke2.lt; omega
        have KD := hid kd
        have KT := hid kt
        clear kd kt
        with_reducible refine Calls.mono (hurtPlan_draw R n cap W4.heap.size A (some ⟨gb, 0, none⟩) N1 c1 A2 N2 c2 A3 N3 c3 A4 N4 c4 z4 w7 kk1 hRW hBW ka1 ka2 ka3 ka4 KD KT (Nat.le_trans n1 (by omega)) (Nat.le_trans h44 (by omega)) n12 n13) ?_
        rintro e w8 ⟨A4', N4', c4', hn4, rfl, ⟨a1, a2, a3, a4⟩, hR8, hG8, hty8⟩
        have TR := hid (tail_state HK.out hk hR8 hG8 hty8 ⟨a1, a2, a3, a4⟩)
        clear HK KD KT ka1 ka2 ka3 ka4 ke1 ke2 ke3 ke4 ko1 ko2 kk1 kb hR8 hG8 hty8 a1 a2 a3 a4 c0 c1' c2' c3'
        obtain ⟨⟨c0, c1', c2', c3'⟩, f0, f1, f2, f3⟩ := blk_cells4 TR.out.2.1
        go_wp2_with fail
        have HT9 := (TR.out.put (.slice (some ⟨gb, 0, none⟩) N1 c1) (.slice A2 N2 c2) (.slice A3 N3 c3) (.slice A4' N4' c4')).drew
        clear TR c0 c1' c2' c3' f0 f1 f2 f3
        obtain ⟨W9, hW9⟩ : ∃ W, ((((w8.setCell ⟨pb, 0, none⟩ (.slice (some ⟨gb, 0, none⟩) N1 c1)).setCell ⟨pb, 1, none⟩ (.slice A2 N2 c2)).setCell ⟨pb, 2, none⟩ (.slice A3 N3 c3)).setCell ⟨pb, 3, none⟩ (.slice A4' N4' c4')) = W := ⟨_, rfl⟩
        rw [hW9] at HT9 ⊢
        clear hW9
        have T9 := hid HT9
        obtain ⟨rr9, p9, e9, ⟨x9, y9⟩, _, ⟨ow9, tr9, _, _⟩, _, t0, t1, t2, t3, t4, _⟩ := HT9
        have S0 := hid (ts_cells e9 p9)
        have HLr : Hid (∀ x, A' = some ⟨x, 0, none⟩ → 0 < k → x < eb) := fun x e q => HRB.out x e q
        have HLb : Hid (∀ i, i < k → bl i < eb) := HBL.out
        have hReb : R < eb := Nat.lt_of_lt_of_le t1 t2
        have heS : eb < W9.drew.heap.size := e9.lt
        have hpS : pb < W9.drew.heap.size := p9.lt
        have heP : eb ≤ pb := by omega
        have hwR : w.heap.size < R := by omega
        go_region_held3 (fun w' => w'.cell? ⟨eb, 0, none⟩ = some (.int .i64 f) ∧ w'.cell? ⟨eb, 1, none⟩ = some (.int .i64 b) ∧ w'.cell? ⟨eb, 2, none⟩ = some (.slice A' k c) ∧ w'.cell? ⟨pb, 0, none⟩ = some (.slice (some ⟨gb, 0, none⟩) N1 c1) ∧ w'.cell? ⟨pb, 1, none⟩ = some (.slice A2 N2 c2) ∧ w'.cell? ⟨pb, 2, none⟩ = some (.slice A3 N3 c3) ∧ w'.cell? ⟨pb, 3, none⟩ = some (.slice A4' N4' c4'))
          ((refine Hid.out ?_; with_reducible assumption))
          (first | (go_at_call 75; (with_reducible refine Calls.mono (hurtEns_over R n cap w2.heap.size eb A A' f b k c bl ln cp ds W9.drew rr9 t1 hk ow9 tr9 hReb HLb HLr) ?_); rintro e wA ⟨⟨f', b', k', E2, d2, len, g, hk', hl', rfl, hHi, hRA, hbA⟩, hov⟩; have eA : Blk wA eb 26 #[.int .i64 f, .int .i64 b, .slice A' k c] := (hov eb (Nat.le_refl _) heS).trans e9; have pA : Blk wA pb 29 #[.slice (some ⟨gb, 0, none⟩) N1 c1, .slice A2 N2 c2, .slice A3 N3 c3, .slice A4' N4' c4'] := (hov pb heP hpS).trans p9; have SA := hid (ts_cells eA pA); obtain ⟨v0, v1, v2, f0, f1, f2⟩ := blk_cells3 (x9.below hbA hwR); obtain ⟨⟨v3, v4, v5, v6⟩, f3, f4, f5, f6⟩ := blk_cells4 (y9.below hbA t0); have SA3 := hid (ts_cells (Eq.trans (far3 R w.heap.size hwR wA (.int .i64 f') (.int .i64 b') (.slice E2 k' d2) eb hReb) eA) (Eq.trans (far3 R w.heap.size hwR wA (.int .i64 f') (.int .i64 b') (.slice E2 k' d2) pb (Nat.lt_of_lt_of_le hReb heP)) pA)); have SA7 := hid (ts_cells (Eq.trans (far7 R w.heap.size t0 wA (.int .i64 f') (.int .i64 b') (.slice E2 k' d2) (.slice (some ⟨gb, 0, none⟩) N1 c1) (.slice A2 N2 c2) (.slice A3 N3 c3) (.slice A4' N4' c4') eb hReb) eA) (Eq.trans (far7 R w.heap.size t0 wA (.int .i64 f') (.int .i64 b') (.slice E2 k' d2) (.slice (some ⟨gb, 0, none⟩) N1 c1) (.slice A2 N2 c2) (.slice A3 N3 c3) (.slice A4' N4' c4') pb (Nat.lt_of_lt_of_le hReb heP)) pA)); have HOV := hid hov; clear hov eA pA))
        all_goals
          have hE := tk_end (c1 := c1) (c2 := c2) (c3 := c3) (c4 := c4') (f2 := f') (b2 := b') (d2 := d2) T9.out HOV.out hbA hHi
          clear S0 SA SA3 SA7 T9 HOV v0 v1 v2 v3 v4 v5 v6 f0 f1 f2 f3 f4 f5 f6 hHi hbA
          obtain ⟨X, hX⟩ : ∃ X, (((((((wA.setCell ⟨w.heap.size, 0, none⟩ (.int .i64 f')).setCell ⟨w.heap.size, 1, none⟩ (.int .i64 b')).setCell ⟨w.heap.size, 2, none⟩ (.slice E2 k' d2)).setCell ⟨w.heap.size + 1, 0, none⟩ (.slice (some ⟨gb, 0, none⟩) N1 c1)).setCell ⟨w.heap.size + 1, 1, none⟩ (.slice A2 N2 c2)).setCell ⟨w.heap.size + 1, 2, none⟩ (.slice A3 N3 c3)).setCell ⟨w.heap.size + 1, 3, none⟩ (.slice A4' N4' c4')) = X := ⟨_, rfl⟩
          rw [hX] at hE ⊢
          clear hX
          obtain ⟨⟨hE1, hE2⟩, hE3, ⟨z1, z2, z3, z4', hE4⟩, hE5⟩ := hE
          go_wp2_with fail
          (try simp only [Exit.inBlock, Exit.then])
          refine bodyPost_ret (results_two rfl _ _ w.heap.size (w.heap.size + 1) 26 29 #[.int .i64 f', .int .i64 b', .slice E2 k' d2] #[.slice (some ⟨gb, 0, none⟩) N1 c1, .slice A2 N2 c2, .slice A3 N3 c3, .slice A4' N4' c4'] (0, 0) (0, 0) _ _ rfl hE1 rfl hE2 Try.underlying26 rfl size_ens Try.underlying29 rfl size_plan) rfl ?_
          exact ⟨f', b', k', E2, d2, len, g, some ⟨gb, 0, none⟩, N1, c1, z1, A2, N2, c2, z2, A3, N3, c3, z3, A4', N4', c4', z4', hk', hl', ⟨by omega, by omega, by omega, by omega⟩, rfl, hE3, hE4, hE5⟩
      | true =>
        obtain ⟨q1, q2, q3, q4, hE, o, ho1, ho2⟩ : N1 = k ∧ N3 = k + 1 ∧ (0 < k → 0 < N2) ∧ N2 ≤ 12 ∧ ensB f b k ln (nds ds) = true ∧ ∃ o : Nat → Nat, (∀ p, p < k → o p < k) ∧ ∀ p, y1 p = (o p : Nat) := by
          rcases HGD.out with ⟨e1, _⟩ | q
          · exact absurd e1 (by omega)
          · exact q
        obtain ⟨_, _, hk12, HT⟩ := ensB_iff.1 hE
        have HT6 : Hid (∀ i, i < k → treeB (nds ds i) (ln i) 6 = true) := fun i hi => tree_moreO (HT i hi) (by have := (ensB_iff.1 hE).1; omega) (by omega)
        obtain ⟨o', ho'⟩ : ∃ o' : Nat → Nat, o' = fun p => if p = 1 then o 0 else if p = 0 then o 1 else o p := ⟨_, rfl⟩
        have hrd : Rd w7 w7.heap.size (some ⟨gb, 0, none⟩) N1 fun p => (o' p : Nat) := by
          refine (HSA.out.2.2.2.1.congr fun i hi => ?_).rd HSA.out.2.2.2.1.lt
          subst ho'
          by_cases i1 : i = 1
          · subst i1
            simp [ho2]
          · by_cases i0 : i = 0
            · subst i0
              simp [ho2]
            · simp [i0, i1, ho2]
        have hol : Hid (∀ p, p < N1 → o' p < k) := fun p hp => by
          subst ho'
          show (if p = 1 then o 0 else if p = 0 then o 1 else o p) < k
          split
          · exact ho1 0 (by omega)
          · split
            · exact ho1 1 (by omega)
            · exact ho1 p (by omega)
        have hrT : RdT w7 w7.heap.size A' k ln (nds ds) := HSA.out.2.2.2.2.rdT fun x q => by have := HSA.out.2.2.2.1.lt; have := HSA.out.2.2.1; omega
        have hlnT : Hid (∀ i, i < k → ln i ≤ 4194304) := fun i hi => by have := hln.out i hi; omega
        have hk7 : k ≤ 4194304 := by omega
        clear hE HT ho1 ho2 ho' q1 q2 q3 q4
        obtain ⟨⟨c0, c1', c2', c3'⟩, _⟩ := HSA.out.cells hN1
        obtain ⟨d0, d1, d2⟩ := HSA.out.ecells
        go_wp2_with fail
        with_reducible refine Calls.mono (sTables_any f b A' k c ln (nds ds) (some ⟨gb, 0, none⟩) N1 c1 o' w7 hrT hk7 n1 hlnT HT6 hrd hol) ?_
        rintro e w8 ⟨b1, b2, rfl, t1, t2, h12, s1, s2, hb8⟩
        have HKT := hid (HSA.out.tabs hb8 t1 t2 h12 s1 s2)
        obtain ⟨⟨u0, u1, u2, u3⟩, f0, f1, f2, f3⟩ := blk_cells4 (Blk.below HSA.out.1.2.1.2.1 hb8 HSA.out.1.2.1.2.1.lt)
        have uT := hid HKT.out.cells
        obtain ⟨u4, u5, u6, u7⟩ := uT.out
        clear HSA t1 t2 s1 s2 hb8 c0 c1' c2' c3' d0 d1 d2 hrT hrd hol hlnT HT6
        go_wp2_with fail
        clear u0 u1 u2 u3 u4 u5 u6 u7 uT f0 f1 f2 f3
        clear n3 n13 h44 H43 HGD
        obtain ⟨w7, hX⟩ : ∃ X, (w8.setCell ⟨pb, 2, none⟩ (.slice (some ⟨b1, 0, none⟩) (N1 + 1) (N1 + 1))).setCell ⟨pb, 3, none⟩ (.slice (some ⟨b2, 0, none⟩) (N1 + 1) (N1 + 1)) = X := ⟨_, rfl⟩
        rw [hX] at HKT ⊢
        clear hX
        have n3 : N1 + 1 ≤ 13 := by omega
        have n13 : 0 < N1 → 0 < N1 + 1 := fun _ => by omega
        have h44 : N1 + 1 ≤ 19 := by omega
        have HK := hid HKT.out
        clear HKT
        obtain ⟨kk1, ⟨ke1, ke2, ke3, ke4⟩, ⟨kq0, kq1, kq2, kq3, kq4⟩, kb, ⟨ko1, ko2, ko3, ko4⟩, ⟨ka1, ka2, ka3, z4, ka4⟩, kd, kt⟩ := HK.out
        have hBW : W4.heap.size ≤ w7.heap.size := by have := ke2.lt; omega
        have KD := hid kd
        have KT := hid kt
        clear kd kt
        with_reducible refine Calls.mono (hurtPlan_draw R n cap W4.heap.size A (some ⟨gb, 0, none⟩) N1 c1 A2 N2 c2 (some ⟨b1, 0, none⟩) (N1 + 1) (N1 + 1) (some ⟨b2, 0, none⟩) (N1 + 1) (N1 + 1) z4 w7 kk1 hRW hBW ka1 ka2 ka3 ka4 KD KT (Nat.le_trans n1 (by omega)) (Nat.le_trans h44 (by omega)) n12 n13) ?_
        rintro e w8 ⟨A4', N4', c4', hn4, rfl, ⟨a1, a2, a3, a4⟩, hR8, hG8, hty8⟩
        have TR := hid (tail_state HK.out hk hR8 hG8 hty8 ⟨a1, a2, a3, a4⟩)
        clear HK KD KT ka1 ka2 ka3 ka4 ke1 ke2 ke3 ke4 ko1 ko2 kk1 kb hR8 hG8 hty8 a1 a2 a3 a4
        obtain ⟨⟨c0, c1', c2', c3'⟩, f0, f1, f2, f3⟩ := blk_cells4 TR.out.2.1
        go_wp2_with fail
        have HT9 := (TR.out.put (.slice (some ⟨gb, 0, none⟩) N1 c1) (.slice A2 N2 c2) (.slice (some ⟨b1, 0, none⟩) (N1 + 1) (N1 + 1)) (.slice A4' N4' c4')).drew
        clear TR c0 c1' c2' c3' f0 f1 f2 f3
        obtain ⟨W9, hW9⟩ : ∃ W, ((((w8.setCell ⟨pb, 0, none⟩ (.slice (some ⟨gb, 0, none⟩) N1 c1)).setCell ⟨pb, 1, none⟩ (.slice A2 N2 c2)).setCell ⟨pb, 2, none⟩ (.slice (some ⟨b1, 0, none⟩) (N1 + 1) (N1 + 1))).setCell ⟨pb, 3, none⟩ (.slice A4' N4' c4')) = W := ⟨_, rfl⟩
        rw [hW9] at HT9 ⊢
        clear hW9
        have T9 := hid HT9
        obtain ⟨rr9, p9, e9, ⟨x9, y9⟩, _, ⟨ow9, tr9, _, _⟩, _, t0, t1, t2, t3, t4, _⟩ := HT9
        have S0 := hid (ts_cells e9 p9)
        have HLr : Hid (∀ x, A' = some ⟨x, 0, none⟩ → 0 < k → x < eb) := fun x e q => HRB.out x e q
        have HLb : Hid (∀ i, i < k → bl i < eb) := HBL.out
        have hReb : R < eb := Nat.lt_of_lt_of_le t1 t2
        have heS : eb < W9.drew.heap.size := e9.lt
        have hpS : pb < W9.drew.heap.size := p9.lt
        have heP : eb ≤ pb := by omega
        have hwR : w.heap.size < R := by omega
        go_region_held3 (fun w' => w'.cell? ⟨eb, 0, none⟩ = some (.int .i64 f) ∧ w'.cell? ⟨eb, 1, none⟩ = some (.int .i64 b) ∧ w'.cell? ⟨eb, 2, none⟩ = some (.slice A' k c) ∧ w'.cell? ⟨pb, 0, none⟩ = some (.slice (some ⟨gb, 0, none⟩) N1 c1) ∧ w'.cell? ⟨pb, 1, none⟩ = some (.slice A2 N2 c2) ∧ w'.cell? ⟨pb, 2, none⟩ = some (.slice (some ⟨b1, 0, none⟩) (N1 + 1) (N1 + 1)) ∧ w'.cell? ⟨pb, 3, none⟩ = some (.slice A4' N4' c4'))
          ((refine Hid.out ?_; with_reducible assumption))
          (first | (go_at_call 75; (with_reducible refine Calls.mono (hurtEns_over R n cap w2.heap.size eb A A' f b k c bl ln cp ds W9.drew rr9 t1 hk ow9 tr9 hReb HLb HLr) ?_); rintro e wA ⟨⟨f', b', k', E2, d2, len, g, hk', hl', rfl, hHi, hRA, hbA⟩, hov⟩; have eA : Blk wA eb 26 #[.int .i64 f, .int .i64 b, .slice A' k c] := (hov eb (Nat.le_refl _) heS).trans e9; have pA : Blk wA pb 29 #[.slice (some ⟨gb, 0, none⟩) N1 c1, .slice A2 N2 c2, .slice (some ⟨b1, 0, none⟩) (N1 + 1) (N1 + 1), .slice A4' N4' c4'] := (hov pb heP hpS).trans p9; have SA := hid (ts_cells eA pA); obtain ⟨v0, v1, v2, f0, f1, f2⟩ := blk_cells3 (x9.below hbA hwR); obtain ⟨⟨v3, v4, v5, v6⟩, f3, f4, f5, f6⟩ := blk_cells4 (y9.below hbA t0); have SA3 := hid (ts_cells (Eq.trans (far3 R w.heap.size hwR wA (.int .i64 f') (.int .i64 b') (.slice E2 k' d2) eb hReb) eA) (Eq.trans (far3 R w.heap.size hwR wA (.int .i64 f') (.int .i64 b') (.slice E2 k' d2) pb (Nat.lt_of_lt_of_le hReb heP)) pA)); have SA7 := hid (ts_cells (Eq.trans (far7 R w.heap.size t0 wA (.int .i64 f') (.int .i64 b') (.slice E2 k' d2) (.slice (some ⟨gb, 0, none⟩) N1 c1) (.slice A2 N2 c2) (.slice (some ⟨b1, 0, none⟩) (N1 + 1) (N1 + 1)) (.slice A4' N4' c4') eb hReb) eA) (Eq.trans (far7 R w.heap.size t0 wA (.int .i64 f') (.int .i64 b') (.slice E2 k' d2) (.slice (some ⟨gb, 0, none⟩) N1 c1) (.slice A2 N2 c2) (.slice (some ⟨b1, 0, none⟩) (N1 + 1) (N1 + 1)) (.slice A4' N4' c4') pb (Nat.lt_of_lt_of_le hReb heP)) pA)); have HOV := hid hov; clear hov eA pA))
        all_goals
          have hE := tk_end (c1 := c1) (c2 := c2) (c3 := N1 + 1) (c4 := c4') (f2 := f') (b2 := b') (d2 := d2) T9.out HOV.out hbA hHi
          clear S0 SA SA3 SA7 T9 HOV v0 v1 v2 v3 v4 v5 v6 f0 f1 f2 f3 f4 f5 f6 hHi hbA
          obtain ⟨X, hX⟩ : ∃ X, (((((((wA.setCell ⟨w.heap.size, 0, none⟩ (.int .i64 f')).setCell ⟨w.heap.size, 1, none⟩ (.int .i64 b')).setCell ⟨w.heap.size, 2, none⟩ (.slice E2 k' d2)).setCell ⟨w.heap.size + 1, 0, none⟩ (.slice (some ⟨gb, 0, none⟩) N1 c1)).setCell ⟨w.heap.size + 1, 1, none⟩ (.slice A2 N2 c2)).setCell ⟨w.heap.size + 1, 2, none⟩ (.slice (some ⟨b1, 0, none⟩) (N1 + 1) (N1 + 1))).setCell ⟨w.heap.size + 1, 3, none⟩ (.slice A4' N4' c4')) = X := ⟨_, rfl⟩
          rw [hX] at hE ⊢
          clear hX
          obtain ⟨⟨hE1, hE2⟩, hE3, ⟨z1, z2, z3, z4', hE4⟩, hE5⟩ := hE
          go_wp2_with fail
          (try simp only [Exit.inBlock, Exit.then])
          refine bodyPost_ret (results_two rfl _ _ w.heap.size (w.heap.size + 1) 26 29 #[.int .i64 f', .int .i64 b', .slice E2 k' d2] #[.slice (some ⟨gb, 0, none⟩) N1 c1, .slice A2 N2 c2, .slice (some ⟨b1, 0, none⟩) (N1 + 1) (N1 + 1), .slice A4' N4' c4'] (0, 0) (0, 0) _ _ rfl hE1 rfl hE2 Try.underlying26 rfl size_ens Try.underlying29 rfl size_plan) rfl ?_
          exact ⟨f', b', k', E2, d2, len, g, some ⟨gb, 0, none⟩, N1, c1, z1, A2, N2, c2, z2, some ⟨b1, 0, none⟩, N1 + 1, N1 + 1, z3, A4', N4', c4', z4', hk', hl', ⟨by omega, by omega, by omega, by omega⟩, rfl, hE3, hE4, hE5⟩
  · have g1 : decide ((N1 : Int) > 1) = false := decide_eq_false (by omega)
    have HK6 := hid hK6
    clear hK6 HO6 hHi6 c0 c1' c2' c3'
    obtain ⟨c0, c1', c2', c3'⟩ := HK6.out.cells
    go_wp2_with fail
    obtain ⟨w7, hW6⟩ : ∃ W, w5.alloc (.cells #[.slice A1 N1 c1, .slice A2 N2 c2, .slice A3 N3 c3, .slice A4 N4 c4] 29) = W := ⟨_, rfl⟩
    rw [hW6] at HK6 ⊢
    rw [hpb] at HK6
    try rw [hpb]
    clear hW6 c0 c1' c2' c3'
    have HK := hid HK6.out
    clear HK6
    obtain ⟨kk1, ⟨ke1, ke2, ke3, ke4⟩, ⟨kq0, kq1, kq2, kq3, kq4⟩, kb, ⟨ko1, ko2, ko3, ko4⟩, ⟨ka1, ka2, ka3, z4, ka4⟩, kd, kt⟩ := HK.out
    have hBW : W4.heap.size ≤ w7.heap.size := by have := ke2.lt; omega
    have KD := hid kd
    have KT := hid kt
    clear kd kt
    with_reducible refine Calls.mono (hurtPlan_draw R n cap W4.heap.size A A1 N1 c1 A2 N2 c2 A3 N3 c3 A4 N4 c4 z4 w7 kk1 hRW hBW ka1 ka2 ka3 ka4 KD KT (Nat.le_trans n1 (by omega)) (Nat.le_trans h44 (by omega)) n12 n13) ?_
    rintro e w8 ⟨A4', N4', c4', hn4, rfl, ⟨a1, a2, a3, a4⟩, hR8, hG8, hty8⟩
    have TR := hid (tail_state HK.out hk hR8 hG8 hty8 ⟨a1, a2, a3, a4⟩)
    clear HK KD KT ka1 ka2 ka3 ka4 ke1 ke2 ke3 ke4 ko1 ko2 kk1 kb hR8 hG8 hty8 a1 a2 a3 a4
    obtain ⟨⟨c0, c1', c2', c3'⟩, f0, f1, f2, f3⟩ := blk_cells4 TR.out.2.1
    go_wp2_with fail
    have HT9 := (TR.out.put (.slice A1 N1 c1) (.slice A2 N2 c2) (.slice A3 N3 c3) (.slice A4' N4' c4')).drew
    clear TR c0 c1' c2' c3' f0 f1 f2 f3
    obtain ⟨W9, hW9⟩ : ∃ W, ((((w8.setCell ⟨pb, 0, none⟩ (.slice A1 N1 c1)).setCell ⟨pb, 1, none⟩ (.slice A2 N2 c2)).setCell ⟨pb, 2, none⟩ (.slice A3 N3 c3)).setCell ⟨pb, 3, none⟩ (.slice A4' N4' c4')) = W := ⟨_, rfl⟩
    rw [hW9] at HT9 ⊢
    clear hW9
    have T9 := hid HT9
    obtain ⟨rr9, p9, e9, ⟨x9, y9⟩, _, ⟨ow9, tr9, _, _⟩, _, t0, t1, t2, t3, t4, _⟩ := HT9
    have S0 := hid (ts_cells e9 p9)
    have HLr : Hid (∀ x, A' = some ⟨x, 0, none⟩ → 0 < k → x < eb) := fun x e q => HRB.out x e q
    have HLb : Hid (∀ i, i < k → bl i < eb) := HBL.out
    have hReb : R < eb := Nat.lt_of_lt_of_le t1 t2
    have heS : eb < W9.drew.heap.size := e9.lt
    have hpS : pb < W9.drew.heap.size := p9.lt
    have heP : eb ≤ pb := by omega
    have hwR : w.heap.size < R := by omega
    go_region_held3 (fun w' => w'.cell? ⟨eb, 0, none⟩ = some (.int .i64 f) ∧ w'.cell? ⟨eb, 1, none⟩ = some (.int .i64 b) ∧ w'.cell? ⟨eb, 2, none⟩ = some (.slice A' k c) ∧ w'.cell? ⟨pb, 0, none⟩ = some (.slice A1 N1 c1) ∧ w'.cell? ⟨pb, 1, none⟩ = some (.slice A2 N2 c2) ∧ w'.cell? ⟨pb, 2, none⟩ = some (.slice A3 N3 c3) ∧ w'.cell? ⟨pb, 3, none⟩ = some (.slice A4' N4' c4'))
      ((refine Hid.out ?_; with_reducible assumption))
      (first | (go_at_call 75; (with_reducible refine Calls.mono (hurtEns_over R n cap w2.heap.size eb A A' f b k c bl ln cp ds W9.drew rr9 t1 hk ow9 tr9 hReb HLb HLr) ?_); rintro e wA ⟨⟨f', b', k', E2, d2, len, g, hk', hl', rfl, hHi, hRA, hbA⟩, hov⟩; have eA : Blk wA eb 26 #[.int .i64 f, .int .i64 b, .slice A' k c] := (hov eb (Nat.le_refl _) heS).trans e9; have pA : Blk wA pb 29 #[.slice A1 N1 c1, .slice A2 N2 c2, .slice A3 N3 c3, .slice A4' N4' c4'] := (hov pb heP hpS).trans p9; have SA := hid (ts_cells eA pA); obtain ⟨v0, v1, v2, f0, f1, f2⟩ := blk_cells3 (x9.below hbA hwR); obtain ⟨⟨v3, v4, v5, v6⟩, f3, f4, f5, f6⟩ := blk_cells4 (y9.below hbA t0); have SA3 := hid (ts_cells (Eq.trans (far3 R w.heap.size hwR wA (.int .i64 f') (.int .i64 b') (.slice E2 k' d2) eb hReb) eA) (Eq.trans (far3 R w.heap.size hwR wA (.int .i64 f') (.int .i64 b') (.slice E2 k' d2) pb (Nat.lt_of_lt_of_le hReb heP)) pA)); have SA7 := hid (ts_cells (Eq.trans (far7 R w.heap.size t0 wA (.int .i64 f') (.int .i64 b') (.slice E2 k' d2) (.slice A1 N1 c1) (.slice A2 N2 c2) (.slice A3 N3 c3) (.slice A4' N4' c4') eb hReb) eA) (Eq.trans (far7 R w.heap.size t0 wA (.int .i64 f') (.int .i64 b') (.slice E2 k' d2) (.slice A1 N1 c1) (.slice A2 N2 c2) (.slice A3 N3 c3) (.slice A4' N4' c4') pb (Nat.lt_of_lt_of_le hReb heP)) pA)); have HOV := hid hov; clear hov eA pA))
    all_goals
      have hE := tk_end (c1 := c1) (c2 := c2) (c3 := c3) (c4 := c4') (f2 := f') (b2 := b') (d2 := d2) T9.out HOV.out hbA hHi
      clear S0 SA SA3 SA7 T9 HOV v0 v1 v2 v3 v4 v5 v6 f0 f1 f2 f3 f4 f5 f6 hHi hbA
      obtain ⟨X, hX⟩ : ∃ X, (((((((wA.setCell ⟨w.heap.size, 0, none⟩ (.int .i64 f')).setCell ⟨w.heap.size, 1, none⟩ (.int .i64 b')).setCell ⟨w.heap.size, 2, none⟩ (.slice E2 k' d2)).setCell ⟨w.heap.size + 1, 0, none⟩ (.slice A1 N1 c1)).setCell ⟨w.heap.size + 1, 1, none⟩ (.slice A2 N2 c2)).setCell ⟨w.heap.size + 1, 2, none⟩ (.slice A3 N3 c3)).setCell ⟨w.heap.size + 1, 3, none⟩ (.slice A4' N4' c4')) = X := ⟨_, rfl⟩
      rw [hX] at hE ⊢
      clear hX
      obtain ⟨⟨hE1, hE2⟩, hE3, ⟨z1, z2, z3, z4', hE4⟩, hE5⟩ := hE
      go_wp2_with fail
      (try simp only [Exit.inBlock, Exit.then])
      refine bodyPost_ret (results_two rfl _ _ w.heap.size (w.heap.size + 1) 26 29 #[.int .i64 f', .int .i64 b', .slice E2 k' d2] #[.slice A1 N1 c1, .slice A2 N2 c2, .slice A3 N3 c3, .slice A4' N4' c4'] (0, 0) (0, 0) _ _ rfl hE1 rfl hE2 Try.underlying26 rfl size_ens Try.underlying29 rfl size_plan) rfl ?_
      exact ⟨f', b', k', E2, d2, len, g, A1, N1, c1, z1, A2, N2, c2, z2, A3, N3, c3, z3, A4', N4', c4', z4', hk', hl', ⟨by omega, by omega, by omega, by omega⟩, rfl, hE3, hE4, hE5⟩
end Go.Proofs.Ytghjeaffnocihaa
