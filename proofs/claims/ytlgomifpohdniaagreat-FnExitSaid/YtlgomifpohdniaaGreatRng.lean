/- A range over an iterator that keeps a state of its own in memory: what such an iterator owes, and what a caller then has. -/
import Derived.RangeFuncNested
import Derived.RangeFuncBound
import Derived.RangeFuncCalls
import Derived.RangeFuncLeaves
import Derived.RangeFuncBox
import Derived.Shelf.Abstract
import Derived.Shelf.RegionOpen
import Derived.WalkKit
import Derived.OwnWalkIn
import Derived.TacticsInMore
import Derived.LoopNIn
import Derived.LoopIn
import Derived.Test.YtlgomifpohdniaaGreatProg
import Derived.Test.YtlgomifpohdniaaGreatK1
namespace Go.Proofs.YtlgomifpohdniaaGreat
open Go.RowKit Go.Shelf
set_option linter.unusedVariables false
set_option linter.unusedSimpArgs false

/-- The blocks of P that were there lie as they lay, and none is gone. -/
def KeptP (P : Nat → Prop) (W W' : World) : Prop := W.heap.size ≤ W'.heap.size ∧ ∀ x, x < W.heap.size → P x → W'.heap[x]? = W.heap[x]?
theorem KeptP.refl (P : Nat → Prop) (W : World) : KeptP P W W := ⟨Nat.le_refl _, fun _ _ _ => rfl⟩
theorem KeptP.trans {P : Nat → Prop} {A B C : World} (h : KeptP P A B) (k : KeptP P B C) : KeptP P A C := ⟨Nat.le_trans h.1 k.1, fun x hx hp => (k.2 x (by have := h.1; omega) hp).trans (h.2 x hx hp)⟩
theorem KeptP.mono {P Q : Nat → Prop} {A B : World} (h : KeptP P A B) (hq : ∀ x, x < A.heap.size → Q x → P x) : KeptP Q A B := ⟨h.1, fun x hx hp => h.2 x hx (hq x hx hp)⟩
theorem KeptP.of_below {P : Nat → Prop} {A B : World} (h : Below A.heap.size A B) : KeptP P A B := ⟨h.size, fun x hx _ => h.block x hx⟩
theorem KeptP.put (P : Nat → Prop) (W : World) (l : Nat) (o : Obj) (h : ¬ P l) : KeptP P W (W.putObj l o) := ⟨by simp, fun x _ hp => World.putObj_heap_other (fun e => h (by rw [← e]; exact hp))⟩
theorem KeptP.set {P : Nat → Prop} (W : World) (p : Addr) (v : Value) (h : ¬ P p.block) : KeptP P W (W.setCell p v) := ⟨by simp [World.setCell], fun x _ hp => Below.heap_setCell W p v x (fun e => h (by rw [← e]; exact hp))⟩
theorem KeptP.blk {P : Nat → Prop} {A B : World} (h : KeptP P A B) {x : Nat} {t : TypeId} {cs : Array Value} (hb : Blk A x t cs) (hp : P x) : Blk B x t cs := (h.2 x hb.lt hp).trans hb

/-- J stands as long as what lies below B stands. -/
def Stands {β : Type} (B : Nat) (J : β → World → Prop) : Prop := ∀ s W W', J s W → Below B W W' → J s W'
theorem below_put {B : Nat} (W : World) (l : Nat) (o o' : Obj) (h : B ≤ l) (hl : W.heap[l]? = some o) : Below B W (W.putObj l o') :=
  (Below.refl B W).grown (grownBy_putObj' W l o') (by have := (Array.getElem?_eq_some_iff.1 hl).1; omega) (fun k e => by cases e; exact h)

theorem keepsFrom_more {B B' : Nat} {W W' : World} (h : KeepsFrom B W W') (hB : B ≤ B') : KeepsFrom B' W W' := ⟨h.size, fun k o hk => h.same k o (Nat.le_trans hB hk)⟩
theorem keepsFrom_put (W : World) (l : Nat) (o : Obj) : KeepsFrom (l + 1) W (W.putObj l o) := ⟨by simp, fun k o' hk h _ => (World.putObj_heap_other (by omega)).trans h⟩
theorem KeptP.keeps {P : Nat → Prop} {B : Nat} {W W' : World} (h : KeptP P W W') (hP : ∀ y, B ≤ y → P y) : KeepsFrom B W W' := ⟨h.1, fun k o hk ho _ => (h.2 k (Array.getElem?_eq_some_iff.1 ho).1 (hP k hk)).trans ho⟩
/-- What an iterator owes whose rounds may end it, and which may keep a state of its own: it writes nothing that lay there when it was called. -/
def SeqS {α : Type} (F : Fence) (n : Nat) (P : Program) (g : Nat) (lb : Array Value) (encs : α → Array Value) (Pk : Nat → Prop) (S Sp : List α → Prop) (N : Nat) (w : World) : Prop :=
  ∀ (l : Nat) (J Jx : List α → World → Prop) (W : World), Below w.heap.size w W → Stands W.heap.size J → Stands W.heap.size Jx →
    (∀ pre x W1, J pre W1 → pre.length < N → YieldAt F (n - 1) P l (encs x) W1 fun e W' =>
      (e = .returned (.bool true) ∧ J (pre ++ [x]) W' ∧ KeptP (fun y => Pk y ∨ W.heap.size ≤ y) W1 W') ∨ (e = .returned (.bool false) ∧ Jx (pre ++ [x]) W' ∧ KeepsFrom W.heap.size W1 W')) →
    J [] W →
    CallsIn F n P g (#[.func (.yield l) #[] #[]] ++ lb) W fun e W' => (∃ v, e = .returned v) ∧ ((∃ xs, S xs ∧ J xs W') ∨ (∃ pre, Sp pre ∧ Jx pre W'))

/-- The caller's law; what holds behind the assignment (Ib) may be less than what holds between two rounds (I). -/
theorem wpIn_rangeSb {F : Fence} {n : Nat} {P : Program} {α : Type} {g : Operand} {ps : Array Tmp} {assign body : Code} {Q : Exit → Act → World → Prop} {a : Act} {w : World}
    (hro : F.round = none) (h1 : 1 ≤ n) {gf : Nat} {lb : Array Value} (hg : a.eval g = .func (.func gf) #[] lb) (hFg : F.fn gf) (eg : ∀ args w, (callFunc gf args).run P w = .ok (.enter gf args) w)
    {encs : α → Array Value} {Pk : Nat → Prop} {S Sp : List α → Prop} {N : Nat} (hseq : SeqS F (n - 1) P gf lb encs Pk S Sp N w) (hPk : ∀ y, Pk y → y < w.heap.size) (hps : ∀ x, (encs x).size = ps.size)
    (I Ib : List α → World → Prop) (Ix : Code → List α → World → Prop) (hI : Stands w.heap.size I) (hIb : Stands w.heap.size Ib) (hIx : ∀ c, Stands w.heap.size (Ix c)) (h0 : I [] w)
    (Ax : α → Act → World → Prop) (hAx : ∀ x a', OwnFrom w.heap.size (fun (_ : Unit) W => Ax x a' W))
    (hassign : ∀ (l : Nat) (pre : List α) (x : α) (W : World) (K : Act → World → Prop), I pre W → (∀ a' W', KeepsFrom w.heap.size W W' → KeptP (fun y => Pk y ∨ w.heap.size + 2 ≤ y) W W' → Ib pre W' → Ax x a' W' → K a' W') →
      assign.wpIn (F.inRound l) (n - 1 - 1) P (Exit.then K (fun _ _ _ => False)) { tmps := (ps.zip (encs x)).foldl (fun t (p, v) => t.setIfInBounds p v) a.tmps, defers := [] } W)
    (hbody : ∀ (l : Nat) (pre : List α) (x : α) (a' : Act) (W : World), w.heap.size ≤ l → (∃ r, W.heap[l]? = some (.loop r)) → Ib pre W → Ax x a' W → pre.length < N →
      body.wpIn (F.inRound l) (n - 1 - 1) P (ownPostG w.heap.size (KeptP fun y => Pk y ∨ w.heap.size + 2 ≤ y) I Ix (pre ++ [x]) W) a' W)
    (hdone : ∀ (D : Nat) (xs : List α) (W : World), w.heap.size ≤ D → S xs → I xs W → W.heap[D]? = some (.deferred (some [])) → Q .normal { a with defers := { target := .collected D, args := #[] } :: a.defers } W)
    (hstop : ∀ (D : Nat) (c : Code) (pre : List α) (W : World), w.heap.size ≤ D → Sp pre → Ix c pre W → W.heap[D]? = some (.deferred (some [])) → c.wpIn F n P Q { a with defers := { target := .collected D, args := #[] } :: a.defers } W) :
    (Code.rangeFunc g ps assign body).wpIn F n P Q a w := by
  refine wpIn_rangeFunc fun fn hfn => ?_
  rw [hro]
  generalize hm : w.heap.size = m at *
  obtain ⟨rec, hrec⟩ : ∃ rec : LoopState → Option Code → Loop, rec = fun st pe => { state := st, pending := pe, fn, tmps := a.tmps, params := ps, assign, body, defers := m } := ⟨_, rfl⟩
  -- the two blocks that the loop lays: D = m and l = m + 1
  obtain ⟨W1, hW1⟩ : ∃ W1, (w.alloc (.deferred (some []))).alloc (.loop (rec .ready none)) = W1 := ⟨_, rfl⟩
  have hs1 : W1.heap.size = m + 2 := by rw [← hW1]; simp; omega
  have hb1 : Below m w W1 := by rw [← hW1, ← hm]; exact ((Below.refl _ w).alloc (Nat.le_refl _) _).alloc (by simp) _
  have hD1 : W1.heap[m]? = some (.deferred (some [])) := by rw [← hW1, ← hm]; exact (Below.heap_alloc _ _ _ (by simp)).trans (World.alloc_heap_new w _)
  have hL1 : W1.heap[m + 1]? = some (.loop (rec .ready none)) := by
    have := World.alloc_heap_new (w.alloc (.deferred (some []))) (.loop (rec .ready none))
    rw [hW1, World.size_alloc, hm] at this
    exact this
  have hin : ∀ {W : World} {st : LoopState} {pe : Option Code} (st' : LoopState) (pe' : Option Code), W.heap[m + 1]? = some (.loop (rec st pe)) → W.heap[m]? = some (.deferred (some [])) →
      (W.putObj (m + 1) (.loop (rec st' pe'))).heap[m + 1]? = some (.loop (rec st' pe')) ∧ (W.putObj (m + 1) (.loop (rec st' pe'))).heap[m]? = some (.deferred (some [])) ∧ Below m W (W.putObj (m + 1) (.loop (rec st' pe'))) ∧ KeptP (fun y => Pk y ∨ m + 2 ≤ y) W (W.putObj (m + 1) (.loop (rec st' pe'))) := fun st' pe' hl hd =>
    ⟨World.putObj_heap_same (Array.getElem?_eq_some_iff.1 hl).1, (World.putObj_heap_other (by omega)).trans hd, below_put _ _ _ _ (by omega) hl, KeptP.put _ _ _ _ fun h => by rcases h with h | h; have := hPk _ h; omega; omega⟩
  refine ⟨m + 1, [{ target := .collected m, args := #[] }], W1, { target := .fn (.func gf) lb, args := #[.func (.yield (m + 1)) #[] #[]] }, W1, gf, #[.func (.yield (m + 1)) #[] #[]] ++ lb, W1, ?_, ?_, ?_, ?_, fun _ => h1, ?_⟩
  · rw [← hW1, hrec, ← hm]; exact run_enterLoop_outer _ _ _ _ _
  · simp only [resolve, hg]
    simp [go_sem]
  · intro f' hf'; simp [Target.leads] at hf'; subst hf'; exact hFg
  · simp [invoke, go_sem, eg]
  · refine (hseq (m + 1)
      (fun pre W => I pre W ∧ W.heap[m + 1]? = some (.loop (rec .ready none)) ∧ W.heap[m]? = some (.deferred (some [])))
      (fun pre W => ∃ c, Ix c pre W ∧ W.heap[m + 1]? = some (.loop (rec .done (some c))) ∧ W.heap[m]? = some (.deferred (some [])))
      W1 (by rw [hm]; exact hb1)
      (fun s X Y h hb => ⟨hI s X Y h.1 (hb.mono (by omega)), (hb.block _ (by omega)).trans h.2.1, (hb.block _ (by omega)).trans h.2.2⟩)
      (fun s X Y ⟨c, h, hl, hd⟩ hb => ⟨c, hIx c s X Y h (hb.mono (by omega)), (hb.block _ (by omega)).trans hl, (hb.block _ (by omega)).trans hd⟩)
      ?_ ⟨hI _ _ _ h0 hb1, hL1, hD1⟩).mono ?_
    · rintro pre x W ⟨hi, hl, hd⟩ hlen
      have hy := run_yield (P := P) (args := encs x) hl (by rw [hrec]; exact hps x)
      rw [hrec] at hy
      refine ⟨fn, _, assign, body, hy, roundIn_of_wpIn hfn (hassign _ pre x W _ hi ?_)⟩
      clear hy
      intro a' Wa hkf hkp hia hax
      have hla := hkf.same _ _ (by omega) hl rfl
      have hda := hkf.same _ _ (Nat.le_refl _) hd rfl
      refine ⟨_, run_beginRound hla (by rw [hrec]), ?_⟩
      obtain ⟨hlb, hdb, hbb, hkb⟩ := hin .busy none hla hda
      have ebusy : ({ rec .ready none with state := .busy } : Loop) = rec .busy none := by rw [hrec]
      rw [ebusy]
      refine wpIn_mono (hbody _ pre x a' _ (by omega) ⟨_, hlb⟩ (hIb _ _ _ hia hbb) ((hAx x a').putObj (s := ()) _ hax (by omega) hla rfl) hlen) ?_
      have fin : ∀ (jump : Option Code) (W3 : World), KeepsFrom m (Wa.putObj (m + 1) (.loop (rec .busy none))) W3 →
          (Instr.endRound (m + 1) jump).run P W3 = .ok (.bool jump.isNone) (W3.putObj (m + 1) (.loop (rec (if jump.isNone then .ready else .done) jump))) ∧ W3.heap[m + 1]? = some (.loop (rec .busy none)) ∧ W3.heap[m]? = some (.deferred (some [])) := fun jump W3 hk3 => by
        have h3 := hk3.same _ _ (by omega) hlb rfl
        have := run_endRound (P := P) jump h3
        rw [hrec] at this ⊢
        exact ⟨this, by rw [hrec] at h3; exact h3, hk3.same _ _ (Nat.le_refl _) hdb rfl⟩
      have kf : ∀ (jump : Option Code) (o : Obj) (W3 : World), KeepsFrom m (Wa.putObj (m + 1) (.loop (rec .busy none))) W3 → KeepsFrom W1.heap.size W (W3.putObj (m + 1) o) := fun jump o W3 hk3 => by
        rw [hs1]
        exact (((keepsFrom_more hkf (by omega)).trans (keepsFrom_put Wa (m + 1) _)).trans (keepsFrom_more hk3 (by omega))).trans (keepsFrom_put W3 (m + 1) _)
      have stop : ∀ (c : Code) (W3 : World), KeepsFrom m (Wa.putObj (m + 1) (.loop (rec .busy none))) W3 → Ix c (pre ++ [x]) W3 →
          Ix c (pre ++ [x]) (W3.putObj (m + 1) (.loop (rec .done (some c)))) ∧ (W3.putObj (m + 1) (.loop (rec .done (some c)))).heap[m + 1]? = some (.loop (rec .done (some c))) ∧ (W3.putObj (m + 1) (.loop (rec .done (some c)))).heap[m]? = some (.deferred (some [])) := fun c W3 hk3 hx3 => by
        obtain ⟨_, h3, d3⟩ := fin (some c) W3 hk3
        obtain ⟨h4, d4, b4, _⟩ := hin .done (some c) h3 d3
        exact ⟨hIx c _ _ _ hx3 b4, h4, d4⟩
      rintro e a3 W3 hp
      cases e with
      | normal =>
        obtain ⟨hk3, hkp3, hi3⟩ := hp
        obtain ⟨hr, h3, d3⟩ := fin none W3 hk3
        obtain ⟨h4, d4, b4, k4⟩ := hin .ready none h3 d3
        refine ⟨_, _, hr, .inl ⟨rfl, ⟨hI _ _ _ hi3 b4, h4, d4⟩, ?_⟩⟩
        rw [hs1]
        exact ((hkp.trans hkb).trans hkp3).trans k4
      | ret => exact ⟨_, _, (fin (some .ret) W3 hp.1).1, .inr ⟨rfl, ⟨.ret, stop .ret W3 hp.1 hp.2⟩, kf (some .ret) _ W3 hp.1⟩⟩
      | exit id => exact ⟨_, _, (fin (some (.exit id)) W3 hp.1).1, .inr ⟨rfl, ⟨.exit id, stop (.exit id) W3 hp.1 hp.2⟩, kf (some (.exit id)) _ W3 hp.1⟩⟩
      | goto t => exact ⟨_, _, (fin (some (.goto t)) W3 hp.1).1, .inr ⟨rfl, ⟨.goto t, stop (.goto t) W3 hp.1 hp.2⟩, kf (some (.goto t)) _ W3 hp.1⟩⟩
      | panic ch => exact hp.elim
      | outgrown => exact hp.elim
    · rintro e W2 ⟨⟨v, rfl⟩, (⟨xs, hS, hi, hl, hd⟩ | ⟨pre, hSp, c, hx, hl, hd⟩)⟩
      · have he := run_endLoop (P := P) hl (by rw [hrec]; simp)
        rw [hrec] at he
        exact ⟨none, _, he, hdone _ xs _ (Nat.le_refl _) hS (hI _ _ _ hi (below_put _ _ _ _ (by omega) hl)) ((World.putObj_heap_other (by omega)).trans hd)⟩
      · have he := run_endLoop (P := P) hl (by rw [hrec]; simp)
        rw [hrec] at he
        exact ⟨some c, _, he, hstop _ c pre _ (Nat.le_refl _) hSp (hIx c _ _ _ hx (below_put _ _ _ _ (by omega) hl)) ((World.putObj_heap_other (by omega)).trans hd)⟩
/-- The caller's law. -/
theorem wpIn_rangeS {F : Fence} {n : Nat} {P : Program} {α : Type} {g : Operand} {ps : Array Tmp} {assign body : Code} {Q : Exit → Act → World → Prop} {a : Act} {w : World}
    (hro : F.round = none) (h1 : 1 ≤ n) {gf : Nat} {lb : Array Value} (hg : a.eval g = .func (.func gf) #[] lb) (hFg : F.fn gf) (eg : ∀ args w, (callFunc gf args).run P w = .ok (.enter gf args) w)
    {encs : α → Array Value} {Pk : Nat → Prop} {S Sp : List α → Prop} {N : Nat} (hseq : SeqS F (n - 1) P gf lb encs Pk S Sp N w) (hPk : ∀ y, Pk y → y < w.heap.size) (hps : ∀ x, (encs x).size = ps.size)
    (I : List α → World → Prop) (Ix : Code → List α → World → Prop) (hI : Stands w.heap.size I) (hIx : ∀ c, Stands w.heap.size (Ix c)) (h0 : I [] w)
    (Ax : α → Act → World → Prop) (hAx : ∀ x a', OwnFrom w.heap.size (fun (_ : Unit) W => Ax x a' W))
    (hassign : ∀ (l : Nat) (pre : List α) (x : α) (W : World) (K : Act → World → Prop), I pre W → (∀ a' W', KeepsFrom w.heap.size W W' → KeptP (fun y => Pk y ∨ w.heap.size + 2 ≤ y) W W' → I pre W' → Ax x a' W' → K a' W') →
      assign.wpIn (F.inRound l) (n - 1 - 1) P (Exit.then K (fun _ _ _ => False)) { tmps := (ps.zip (encs x)).foldl (fun t (p, v) => t.setIfInBounds p v) a.tmps, defers := [] } W)
    (hbody : ∀ (l : Nat) (pre : List α) (x : α) (a' : Act) (W : World), w.heap.size ≤ l → (∃ r, W.heap[l]? = some (.loop r)) → I pre W → Ax x a' W → pre.length < N →
      body.wpIn (F.inRound l) (n - 1 - 1) P (ownPostG w.heap.size (KeptP fun y => Pk y ∨ w.heap.size + 2 ≤ y) I Ix (pre ++ [x]) W) a' W)
    (hdone : ∀ (D : Nat) (xs : List α) (W : World), w.heap.size ≤ D → S xs → I xs W → W.heap[D]? = some (.deferred (some [])) → Q .normal { a with defers := { target := .collected D, args := #[] } :: a.defers } W)
    (hstop : ∀ (D : Nat) (c : Code) (pre : List α) (W : World), w.heap.size ≤ D → Sp pre → Ix c pre W → W.heap[D]? = some (.deferred (some [])) → c.wpIn F n P Q { a with defers := { target := .collected D, args := #[] } :: a.defers } W) :
    (Code.rangeFunc g ps assign body).wpIn F n P Q a w :=
  wpIn_rangeSb hro h1 hg hFg eg hseq hPk hps I I Ix hI hI hIx h0 Ax hAx hassign hbody hdone hstop
end Go.Proofs.YtlgomifpohdniaaGreat
