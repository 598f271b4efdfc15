/- Plans that are hurt: hurtPlan, walked. -/
import Derived.Test.YtlgomifpohdniaaGreatPlYb
namespace Go.Proofs.YtlgomifpohdniaaGreat
open Go.RowKit Go.Deep
set_option linter.unusedVariables false
set_option linter.unusedSimpArgs false

/-- The slice at A reads as n numbers, whatever they are, in a block of Q that may be written there. -/
def RdX (w : World) (Q : Nat → Prop) (A : Option Addr) (n : Nat) : Prop :=
  0 < n → ∃ b off, A = some ⟨b, off, none⟩ ∧ Q b ∧ ∀ i, i < n → ∃ x : Int, w.cell? ⟨b, off + i, none⟩ = some (.int .i64 x) ∧ w.frozen? ⟨b, off + i, none⟩ = false
section
variable {w w' : World} {Q Q' : Nat → Prop} {n : Nat} {A : Option Addr}
theorem RdX.keep (h : RdX w Q A n) (hk : ∀ x, Q x → w'.heap[x]? = w.heap[x]?) : RdX w' Q A n := fun hn => by
  obtain ⟨b, off, hA, h1, hc⟩ := h hn
  refine ⟨b, off, hA, h1, fun i hi => ?_⟩
  obtain ⟨x, hx, hf⟩ := hc i hi
  exact ⟨x, (World.cell?_of_block (a := ⟨b, off + i, none⟩) (hk b h1)).trans hx, (World.frozen?_of_block (a := ⟨b, off + i, none⟩) (hk b h1)).trans hf⟩
theorem RdX.more (h : RdX w Q A n) (h1 : ∀ x, Q x → Q' x) : RdX w Q' A n := fun hn => by
  obtain ⟨b, off, hA, q1, hc⟩ := h hn
  exact ⟨b, off, hA, h1 b q1, hc⟩
theorem RdX.set (h : RdX w Q A n) (p : Addr) (x : Int) : RdX (w.setCell p (.int .i64 x)) Q A n := fun hn => by
  obtain ⟨b, off, hA, h1, hc⟩ := h hn
  refine ⟨b, off, hA, h1, fun i hi => ?_⟩
  obtain ⟨y, hy, hf⟩ := hc i hi
  by_cases e : p = ⟨b, off + i, none⟩
  · subst e
    exact ⟨x, World.cell?_setCell_same' _ _ _ (by rw [hy]; rfl), by rw [World.frozen?_setCell]; exact hf⟩
  · exact ⟨y, (World.cell?_setCell_other _ _ _ _ e).trans hy, by rw [World.frozen?_setCell]; exact hf⟩
theorem RdX.rd (h : RdX w Q A n) {B : Nat} (hB : ∀ x, Q x → x < B) : ∃ z, Rd w B A n z := by
  by_cases hn : 0 < n
  · obtain ⟨b, off, hA, h1, hc⟩ := h hn
    refine ⟨fun i => match w.cell? ⟨b, off + i, none⟩ with | some (.int _ x) => x | _ => 0, fun _ => ⟨b, off, hA, hB b h1, fun i hi => ?_⟩⟩
    obtain ⟨x, hx, _⟩ := hc i hi
    simp only [hx]
  · exact ⟨fun _ => 0, fun h => absurd h hn⟩
theorem rdX_own {B c : Nat} {z : Nat → Int} (h : w.ownsRow B 2 1 (.slice A n c) n (numsOf n z)) : RdX w (fun b => (B ≤ b ∧ b < w.heap.size) ∧ ∃ cs, Blk w b 2 cs) A n := fun hn => by
  obtain ⟨g, c', e, hg, hr⟩ := own_row h hn
  injection e with e1 e2 e3
  subst e1
  exact ⟨g, 0, rfl, ⟨⟨hg, hr.lt⟩, by obtain ⟨cs, h, _⟩ := hr; exact ⟨cs, h⟩⟩, fun i hi => ⟨z i, by rw [Nat.zero_add]; exact hr.cell hi, by rw [Nat.zero_add]; exact hr.frozen i⟩⟩
theorem RdX.first (h : RdX w Q A n) (hn : 0 < n) {b off : Nat} (hA : A = some ⟨b, off, none⟩) : Q b ∧ ∃ x : Int, w.cell? ⟨b, off, none⟩ = some (.int .i64 x) ∧ w.frozen? ⟨b, off, none⟩ = false := by
  obtain ⟨b', off', hA', h1, hc⟩ := h hn
  rw [hA] at hA'
  injection hA' with hA'
  injection hA' with q1 q2
  subst q1 q2
  exact ⟨h1, hc 0 hn⟩
end
/-- The blocks below B, but for the reader's, are as they were. -/
def Gr (R B : Nat) (w w' : World) : Prop := w.heap.size ≤ w'.heap.size ∧ Below R w w' ∧ ∀ x, R < x → x < B → w'.heap[x]? = w.heap[x]?
section
variable {w w' w'' : World} {R B : Nat}
theorem Gr.refl (R B : Nat) (w : World) : Gr R B w w := ⟨Nat.le_refl _, Below.refl _ _, fun _ _ _ => rfl⟩
theorem Gr.trans (h : Gr R B w w') (k : Gr R B w' w'') : Gr R B w w'' := ⟨Nat.le_trans h.1 k.1, h.2.1.trans k.2.1, fun x h1 h2 => (k.2.2 x h1 h2).trans (h.2.2 x h1 h2)⟩
theorem Gr.less {B' : Nat} (h : Gr R B w w') (hB : B' ≤ B) : Gr R B' w w' := ⟨h.1, h.2.1, fun x h1 h2 => h.2.2 x h1 (by omega)⟩
theorem Gr.of_grown (hg : w.grownBy w' (some R)) (hR : R < w.heap.size) (hB : B ≤ w.heap.size) : Gr R B w w' := ⟨hg.size, below_grown hg hR, fun x h1 h2 => hg.block x (by omega) (by intro e; injection e with e; omega)⟩
theorem Gr.set (h : Gr R B w w') (p : Addr) (hp : B ≤ p.block) (hR : R ≤ p.block) (v : Value) : Gr R B w (w'.setCell p v) := ⟨by rw [World.size_setCell]; exact h.1, h.2.1.setCell hR v, fun x h1 h2 => (Below.heap_setCell _ _ _ x (by omega)).trans (h.2.2 x h1 h2)⟩
end

/-- hurtPlan's state. -/
def HP (w0 : World) (R n cap : Nat) (A : Option Addr) (B : Nat) (A1 : Option Addr) (N1 c1 : Nat) (A2 : Option Addr) (N2 c2 : Nat) (A3 : Option Addr) (N3 c3 : Nat) (A4 : Option Addr) (N4 c4 : Nat) (W : World) : Prop :=
  (Blk W w0.heap.size 29 #[.slice A1 N1 c1, .slice A2 N2 c2, .slice A3 N3 c3, .slice A4 N4 c4] ∧ Blk W (w0.heap.size + 1) 29 #[.slice none 0 0, .slice none 0 0, .slice none 0 0, .slice none 0 0]) ∧ Rs W R A n cap ∧
  (RdX W (fun b => B ≤ b ∧ b < w0.heap.size) A1 N1 ∧ RdX W (fun b => B ≤ b ∧ b < w0.heap.size) A2 N2 ∧ RdX W (fun b => B ≤ b ∧ b < w0.heap.size) A3 N3 ∧ RdX W (fun b => B ≤ b ∧ b < W.heap.size ∧ b ≠ w0.heap.size ∧ b ≠ w0.heap.size + 1) A4 N4) ∧ Gr R B w0 W ∧ (∀ x t cs, x ≠ R → t ≠ 2 → Blk w0 x t cs → Blk W x t cs)
/-- What hurtPlan leaves. -/
def PlanHurt (R n cap : Nat) (A : Option Addr) (B : Nat) (A1 : Option Addr) (N1 c1 : Nat) (A2 : Option Addr) (N2 c2 : Nat) (A3 : Option Addr) (N3 c3 N4 : Nat) (w : World) (e : Ending) (w' : World) : Prop :=
  ∃ (A4' : Option Addr) (N4' c4' : Nat), N4' ≤ N4 + 1 ∧ e = .returned (plV A1 N1 c1 A2 N2 c2 A3 N3 c3 A4' N4' c4') ∧
    (RdX w' (fun b => B ≤ b ∧ b < w'.heap.size) A1 N1 ∧ RdX w' (fun b => B ≤ b ∧ b < w'.heap.size) A2 N2 ∧ RdX w' (fun b => B ≤ b ∧ b < w'.heap.size) A3 N3 ∧ RdX w' (fun b => B ≤ b ∧ b < w'.heap.size) A4' N4') ∧ Rs w' R A n cap ∧ Gr R B w w' ∧ ∀ x t cs, x ≠ R → t ≠ 2 → Blk w x t cs → Blk w' x t cs
section
variable {w0 W W' : World} {R n cap B N1 c1 N2 c2 N3 c3 N4 c4 : Nat} {A A1 A2 A3 A4 : Option Addr}
theorem HP.next (h : HP w0 R n cap A B A1 N1 c1 A2 N2 c2 A3 N3 c3 A4 N4 c4 W) (hR : Rs W' R A n cap) (hg : W.grownBy W' (some R)) (hRB : R < B) (hB : B ≤ w0.heap.size) : HP w0 R n cap A B A1 N1 c1 A2 N2 c2 A3 N3 c3 A4 N4 c4 W' := by
  obtain ⟨⟨h1, h2⟩, h3, ⟨a1, a2, a3, a4⟩, h5, h6⟩ := h
  have hs := h2.lt
  have hk : ∀ x, B ≤ x → x < W.heap.size → W'.heap[x]? = W.heap[x]? := fun x q1 q2 => hg.block x q2 (by intro e; injection e with e; omega)
  exact ⟨⟨h1.grown hg (by intro e; injection e with e; omega), h2.grown hg (by intro e; injection e with e; omega)⟩, hR, ⟨a1.keep fun x q => hk x q.1 (by omega), a2.keep fun x q => hk x q.1 (by omega), a3.keep fun x q => hk x q.1 (by omega), (a4.keep fun x q => hk x q.1 q.2.1).more fun x q => ⟨q.1, Nat.lt_of_lt_of_le q.2.1 hg.size, q.2.2⟩⟩, h5.trans (Gr.of_grown hg (by omega) (by omega)), fun x t cs q1 q2 q3 => (h6 x t cs q1 q2 q3).grown hg (by intro e; injection e with e; omega)⟩
theorem HP.drew (h : HP w0 R n cap A B A1 N1 c1 A2 N2 c2 A3 N3 c3 A4 N4 c4 W) : HP w0 R n cap A B A1 N1 c1 A2 N2 c2 A3 N3 c3 A4 N4 c4 W.drew := by
  obtain ⟨⟨h1, h2⟩, h3, ⟨a1, a2, a3, a4⟩, h5, h6⟩ := h
  exact ⟨⟨h1, h2⟩, h3, ⟨a1, a2, a3, a4⟩, ⟨h5.1, h5.2.1.drew, h5.2.2⟩, h6⟩
theorem HP.store (h : HP w0 R n cap A B A1 N1 c1 A2 N2 c2 A3 N3 c3 A4 N4 c4 W) (p : Addr) (hp : B ≤ p.block) (hp2 : p.block < w0.heap.size) (hRB : R < B) (hty : ∃ cs, Blk w0 p.block 2 cs) (x : Int) : HP w0 R n cap A B A1 N1 c1 A2 N2 c2 A3 N3 c3 A4 N4 c4 (W.setCell p (.int .i64 x)) := by
  obtain ⟨⟨h1, h2⟩, h3, ⟨a1, a2, a3, a4⟩, h5, h6⟩ := h
  exact ⟨⟨h1.far (by omega) _, h2.far (by omega) _⟩, rs_set h3 (by omega) _, ⟨a1.set _ _, a2.set _ _, a3.set _ _, (a4.set _ _).more fun x q => by rw [World.size_setCell]; exact q⟩, h5.set p hp (by omega) _, fun y t cs q1 q2 q3 => (h6 y t cs q1 q2 q3).far (fun e => by obtain ⟨cs', hc⟩ := hty; subst e; exact q3.ne_ hc q2 rfl) _⟩
theorem HP.rs (h : HP w0 R n cap A B A1 N1 c1 A2 N2 c2 A3 N3 c3 A4 N4 c4 W) : Rs W R A n cap := h.2.1
theorem HP.cells (h : HP w0 R n cap A B A1 N1 c1 A2 N2 c2 A3 N3 c3 A4 N4 c4 W) : W.cell? ⟨w0.heap.size, 0, none⟩ = some (.slice A1 N1 c1) ∧ W.cell? ⟨w0.heap.size, 1, none⟩ = some (.slice A2 N2 c2) ∧ W.cell? ⟨w0.heap.size, 2, none⟩ = some (.slice A3 N3 c3) ∧ W.cell? ⟨w0.heap.size, 3, none⟩ = some (.slice A4 N4 c4) :=
  ⟨h.1.1.cell 0, h.1.1.cell 1, h.1.1.cell 2, h.1.1.cell 3⟩
theorem HP.one (h : HP w0 R n cap A B A1 N1 c1 A2 N2 c2 A3 N3 c3 A4 N4 c4 W) (hn : 0 < N1) : ∃ b off, A1 = some ⟨b, off, none⟩ ∧ (B ≤ b ∧ b < w0.heap.size) := by obtain ⟨b, off, e, q, _⟩ := h.2.2.1.1 hn; exact ⟨b, off, e, q⟩
theorem HP.two (h : HP w0 R n cap A B A1 N1 c1 A2 N2 c2 A3 N3 c3 A4 N4 c4 W) (hn : 0 < N2) : ∃ b off, A2 = some ⟨b, off, none⟩ ∧ (B ≤ b ∧ b < w0.heap.size) := by obtain ⟨b, off, e, q, _⟩ := h.2.2.1.2.1 hn; exact ⟨b, off, e, q⟩
theorem HP.three (h : HP w0 R n cap A B A1 N1 c1 A2 N2 c2 A3 N3 c3 A4 N4 c4 W) (hn : 0 < N3) : ∃ b off, A3 = some ⟨b, off, none⟩ ∧ (B ≤ b ∧ b < w0.heap.size) := by obtain ⟨b, off, e, q, _⟩ := h.2.2.1.2.2.1 hn; exact ⟨b, off, e, q⟩
theorem HP.append {w3 : World} {A4' : Option Addr} {c4' : Nat} {z z' : Nat → Int} {o : Obj} (h : HP w0 R n cap A B A1 N1 c1 A2 N2 c2 A3 N3 c3 A4 N4 c4 W) (ho : W.ownsRow B 2 1 (.slice A4 N4 c4) N4 (numsOf N4 z)) (hg : (W.alloc o).grownBy w3 (Value.slice A4 N4 c4).ownBlock)
    (ho' : w3.ownsRow B 2 1 (.slice A4' (N4 + 1) c4') (N4 + 1) (numsOf (N4 + 1) z')) (hRB : R < B) (hB : B ≤ w0.heap.size)
    (hd : ∀ x, (Value.slice A4 N4 c4).ownBlock = some x → (∀ b off, A1 = some ⟨b, off, none⟩ → b ≠ x) ∧ (∀ b off, A2 = some ⟨b, off, none⟩ → b ≠ x) ∧ ∀ b off, A3 = some ⟨b, off, none⟩ → b ≠ x) :
    (Blk w3 w0.heap.size 29 #[.slice A1 N1 c1, .slice A2 N2 c2, .slice A3 N3 c3, .slice A4 N4 c4] ∧ HP w0 R n cap A B A1 N1 c1 A2 N2 c2 A3 N3 c3 A4' (N4 + 1) c4' (w3.setCell ⟨w0.heap.size, 3, none⟩ (.slice A4' (N4 + 1) c4'))) := by
  obtain ⟨⟨h1, h2⟩, h3, ⟨a1, a2, a3, a4⟩, h5, h6⟩ := h
  have hne : (2 : TypeId) ≠ 29 := by decide
  have hs := h2.lt
  have k1 := (h1.alloc o).grown hg (own_blk_ne ho h1 hne)
  have k2 := (h2.alloc o).grown hg (own_blk_ne ho h2 hne)
  have hlt : ∀ x, (Value.slice A4 N4 c4).ownBlock = some x → B ≤ x := fun x e => (own_block_lt ho x e).1
  have hkx : ∀ x, x < W.heap.size → (Value.slice A4 N4 c4).ownBlock ≠ some x → x ≠ w0.heap.size → (w3.setCell ⟨w0.heap.size, 3, none⟩ (.slice A4' (N4 + 1) c4')).heap[x]? = W.heap[x]? := fun x q1 q2 q3 =>
    (Below.heap_setCell _ ⟨w0.heap.size, 3, none⟩ _ x q3).trans ((hg.block x (by rw [World.size_alloc]; omega) (fun e => q2 e.symm)).trans (Below.heap_alloc W o x q1))
  have kr : ∀ {A' : Option Addr} {N : Nat}, RdX W (fun b => B ≤ b ∧ b < w0.heap.size) A' N → (∀ x, (Value.slice A4 N4 c4).ownBlock = some x → ∀ b off, A' = some ⟨b, off, none⟩ → b ≠ x) → RdX (w3.setCell ⟨w0.heap.size, 3, none⟩ (.slice A4' (N4 + 1) c4')) (fun b => B ≤ b ∧ b < w0.heap.size) A' N := fun {A' N} ha hdd hn => by
    obtain ⟨b, off, e, q, hc⟩ := ha hn
    have hk := hkx b (by omega) (fun e' => hdd b e' b off e rfl) (by omega)
    refine ⟨b, off, e, q, fun i hi => ?_⟩
    obtain ⟨y, hy, hf⟩ := hc i hi
    exact ⟨y, (World.cell?_of_block (a := ⟨b, off + i, none⟩) hk).trans hy, (World.frozen?_of_block (a := ⟨b, off + i, none⟩) hk).trans hf⟩
  refine ⟨k1, ⟨⟨k1.set_ 3 _, k2.far (p := ⟨w0.heap.size, 3, none⟩) (by show w0.heap.size + 1 ≠ w0.heap.size; omega) _⟩, rs_set (h3.keep fun b hb => (hg.block b (by rw [World.size_alloc]; omega) (fun e => by have := hlt b e.symm; omega)).trans (Below.heap_alloc W o b (by omega))) (by show R < w0.heap.size; omega) _, ⟨kr a1 fun x e => (hd x e).1, kr a2 fun x e => (hd x e).2.1, kr a3 fun x e => (hd x e).2.2, ?_⟩, ?_, fun x t cs q1 q2 q3 => ?_⟩⟩
  · refine ((rdX_own ho').more fun x q => ⟨q.1.1, by rw [World.size_setCell]; exact q.1.2, fun e => ?_, fun e => ?_⟩).keep fun x q => Below.heap_setCell _ ⟨w0.heap.size, 3, none⟩ _ x q.2.2.1
    · obtain ⟨cs, hc⟩ := q.2
      subst e
      exact hc.ne_ k1 hne rfl
    · obtain ⟨cs, hc⟩ := q.2
      subst e
      exact hc.ne_ k2 hne rfl
  · refine Gr.set (Gr.trans h5 ⟨Nat.le_trans (by rw [World.size_alloc]; omega) hg.size, ?_, fun x q1 q2 => (hg.block x (by rw [World.size_alloc]; omega) (fun e => by have := hlt x e.symm; omega)).trans (Below.heap_alloc W o x (by omega))⟩) ⟨w0.heap.size, 3, none⟩ hB (by show R ≤ w0.heap.size; omega) _
    exact ((Below.refl R W).alloc (by omega) o).grown hg (by rw [World.size_alloc]; omega) (fun x e => by have := hlt x e; omega)
  · have hb := h6 x t cs q1 q2 q3
    exact ((hb.alloc o).grown hg (own_blk_ne ho hb (fun e => q2 e.symm))).far (p := ⟨w0.heap.size, 3, none⟩) (by have := q3.lt; show x ≠ w0.heap.size; omega) _
/-- What is left to say when the plan in its box is handed back. -/
theorem hp_end {N : Nat} (h : HP w0 R n cap A B A1 N1 c1 A2 N2 c2 A3 N3 c3 A4 N4 c4 W) (hRB : R < B) (hB : B ≤ w0.heap.size) (hN : N4 ≤ N + 1) :
    Blk ((((W.setCell ⟨w0.heap.size + 1, 0, none⟩ (.slice A1 N1 c1)).setCell ⟨w0.heap.size + 1, 1, none⟩ (.slice A2 N2 c2)).setCell ⟨w0.heap.size + 1, 2, none⟩ (.slice A3 N3 c3)).setCell ⟨w0.heap.size + 1, 3, none⟩ (.slice A4 N4 c4)) (w0.heap.size + 1) 29 #[.slice A1 N1 c1, .slice A2 N2 c2, .slice A3 N3 c3, .slice A4 N4 c4] ∧ PlanHurt R n cap A B A1 N1 c1 A2 N2 c2 A3 N3 c3 N w0 (.returned (plV A1 N1 c1 A2 N2 c2 A3 N3 c3 A4 N4 c4)) ((((W.setCell ⟨w0.heap.size + 1, 0, none⟩ (.slice A1 N1 c1)).setCell ⟨w0.heap.size + 1, 1, none⟩ (.slice A2 N2 c2)).setCell ⟨w0.heap.size + 1, 2, none⟩ (.slice A3 N3 c3)).setCell ⟨w0.heap.size + 1, 3, none⟩ (.slice A4 N4 c4)) := by
  obtain ⟨⟨h1, h2⟩, h3, ⟨a1, a2, a3, a4⟩, h5, h6⟩ := h
  have hk : ∀ x, x ≠ w0.heap.size + 1 → ((((W.setCell ⟨w0.heap.size + 1, 0, none⟩ (.slice A1 N1 c1)).setCell ⟨w0.heap.size + 1, 1, none⟩ (.slice A2 N2 c2)).setCell ⟨w0.heap.size + 1, 2, none⟩ (.slice A3 N3 c3)).setCell ⟨w0.heap.size + 1, 3, none⟩ (.slice A4 N4 c4)).heap[x]? = W.heap[x]? := fun x q1 => far4 _ _ _ _ x q1
  have hs : w0.heap.size ≤ ((((W.setCell ⟨w0.heap.size + 1, 0, none⟩ (.slice A1 N1 c1)).setCell ⟨w0.heap.size + 1, 1, none⟩ (.slice A2 N2 c2)).setCell ⟨w0.heap.size + 1, 2, none⟩ (.slice A3 N3 c3)).setCell ⟨w0.heap.size + 1, 3, none⟩ (.slice A4 N4 c4)).heap.size := by rw [size4]; exact h5.1
  have hm : ∀ x, B ≤ x ∧ x < w0.heap.size → B ≤ x ∧ x < ((((W.setCell ⟨w0.heap.size + 1, 0, none⟩ (.slice A1 N1 c1)).setCell ⟨w0.heap.size + 1, 1, none⟩ (.slice A2 N2 c2)).setCell ⟨w0.heap.size + 1, 2, none⟩ (.slice A3 N3 c3)).setCell ⟨w0.heap.size + 1, 3, none⟩ (.slice A4 N4 c4)).heap.size := fun x q => ⟨q.1, by omega⟩
  refine ⟨(((h2.set_ 0 _).set_ 1 _).set_ 2 _).set_ 3 _, A4, N4, c4, hN, rfl, ⟨(a1.keep fun x q => hk x (by omega)).more hm, (a2.keep fun x q => hk x (by omega)).more hm, (a3.keep fun x q => hk x (by omega)).more hm, (a4.keep fun x q => hk x q.2.2.2).more fun x q => ⟨q.1, by rw [size4]; exact q.2.1⟩⟩, h3.keep fun b hb => far4 _ _ _ _ b (by have := h2.lt; omega), ?_, fun x t cs q1 q2 q3 => (hk x (by have := q3.lt; omega)).trans (h6 x t cs q1 q2 q3)⟩
  exact (((h5.set ⟨w0.heap.size + 1, 0, none⟩ (by show B ≤ w0.heap.size + 1; omega) (by show R ≤ w0.heap.size + 1; omega) _).set ⟨w0.heap.size + 1, 1, none⟩ (by show B ≤ w0.heap.size + 1; omega) (by show R ≤ w0.heap.size + 1; omega) _).set ⟨w0.heap.size + 1, 2, none⟩ (by show B ≤ w0.heap.size + 1; omega) (by show R ≤ w0.heap.size + 1; omega) _).set ⟨w0.heap.size + 1, 3, none⟩ (by show B ≤ w0.heap.size + 1; omega) (by show R ≤ w0.heap.size + 1; omega) _
end

set_option maxRecDepth 100000 in
set_option maxHeartbeats 4000000 in
theorem hurtPlan_draw (R n cap B : Nat) (A A1 : Option Addr) (N1 c1 : Nat) (A2 : Option Addr) (N2 c2 : Nat) (A3 : Option Addr) (N3 c3 : Nat) (A4 : Option Addr) (N4 c4 : Nat) (z4 : Nat → Int) (w : World) (h : Rs w R A n cap) (hRB : R < B) (hB : B ≤ w.heap.size)
    (hx1 : RdX w (fun b => B ≤ b ∧ b < w.heap.size) A1 N1) (hx2 : RdX w (fun b => B ≤ b ∧ b < w.heap.size) A2 N2) (hx3 : RdX w (fun b => B ≤ b ∧ b < w.heap.size) A3 N3) (ho4 : w.ownsRow B 2 1 (.slice A4 N4 c4) N4 (numsOf N4 z4))
    (hd : Hid (∀ x, (Value.slice A4 N4 c4).ownBlock = some x → (∀ b off, A1 = some ⟨b, off, none⟩ → b ≠ x) ∧ (∀ b off, A2 = some ⟨b, off, none⟩ → b ≠ x) ∧ ∀ b off, A3 = some ⟨b, off, none⟩ → b ≠ x))
    (ht : Hid (∀ b off, (A1 = some ⟨b, off, none⟩ ∨ A2 = some ⟨b, off, none⟩ ∨ A3 = some ⟨b, off, none⟩) → ∃ cs, Blk w b 2 cs)) (hn1 : N1 ≤ 20) (hn4 : N4 ≤ 20) (hn2 : 0 < N1 → 0 < N2) (hn3 : 0 < N1 → 0 < N3) :
    Calls Tryz.prog 29 #[.pointer (some ⟨R, 0, none⟩), plV A1 N1 c1 A2 N2 c2 A3 N3 c3 A4 N4 c4] w (PlanHurt R n cap A B A1 N1 c1 A2 N2 c2 A3 N3 c3 N4 w) := by
  have hRw := h.lt
  by_cases hz : 0 < N1
  · have hbx : Below w.heap.size w ((w.alloc (.cells #[.slice A1 N1 c1, .slice A2 N2 c2, .slice A3 N3 c3, .slice A4 N4 c4] 29)).alloc (.cells #[.slice none 0 0, .slice none 0 0, .slice none 0 0, .slice none 0 0] 29)) := ((Below.refl _ w).alloc (Nat.le_refl _) _).alloc (by simp) _
    have hP0 : HP w R n cap A B A1 N1 c1 A2 N2 c2 A3 N3 c3 A4 N4 c4 ((w.alloc (.cells #[.slice A1 N1 c1, .slice A2 N2 c2, .slice A3 N3 c3, .slice A4 N4 c4] 29)).alloc (.cells #[.slice none 0 0, .slice none 0 0, .slice none 0 0, .slice none 0 0] 29)) :=
      ⟨⟨(Blk.new w _ _).alloc _, Blk.new2 w _ _ _⟩, (h.alloc _).alloc _, ⟨hx1.keep fun x q => hbx.block x q.2, hx2.keep fun x q => hbx.block x q.2, hx3.keep fun x q => hbx.block x q.2, ((rdX_own ho4).keep fun x q => hbx.block x q.1.2).more fun x q => ⟨q.1.1, Nat.lt_of_lt_of_le q.1.2 hbx.size, by have := q.1.2; omega, by have := q.1.2; omega⟩⟩, ⟨hbx.size, hbx.mono (by omega), fun x _ q => hbx.block x (by omega)⟩, fun x t cs _ _ q3 => (q3.alloc _).alloc _⟩
    have hO0 : World.ownsRow ((w.alloc (.cells #[.slice A1 N1 c1, .slice A2 N2 c2, .slice A3 N3 c3, .slice A4 N4 c4] 29)).alloc (.cells #[.slice none 0 0, .slice none 0 0, .slice none 0 0, .slice none 0 0] 29)) B 2 1 (.slice A4 N4 c4) N4 (numsOf N4 z4) := (ho4.alloc _).alloc _
    have i1 : decide ((N1 : Int) > 0) = true := decide_eq_true (by omega)
    have i2 : (0 : Int) < (N1 : Int) := by omega
    have j2 : (0 : Int) < (N2 : Int) := by have := hn2 hz; omega
    have j3 : (0 : Int) < (N3 : Int) := by have := hn3 hz; omega
    have hz2 := hn2 hz
    have hz3 := hn3 hz
    have HP0 := hid hP0
    have HO0 := hid hO0
    clear hbx ho4 hx1 hx2 hx3 hP0 hO0 hn2 hn3
    go_enter Tryz.func29, Tryz.ntmps29
    go_wp2_with fail
    obtain ⟨W0, hW0⟩ : ∃ W, (w.alloc (.cells #[.slice A1 N1 c1, .slice A2 N2 c2, .slice A3 N3 c3, .slice A4 N4 c4] 29)).alloc (.cells #[.slice none 0 0, .slice none 0 0, .slice none 0 0, .slice none 0 0] 29) = W := ⟨_, rfl⟩
    rw [hW0] at HP0 HO0 ⊢
    clear hW0
    refine (below_draw R n cap A 24 _ HP0.out.rs (by omega) (by omega)).mono ?_
    rintro e w1 ⟨q, rfl, hq0, hq1, hR1, hg1⟩
    have HP1 := hid (HP0.out.next hR1 hg1 hRB hB)
    have HO1 := hid (own_grown HO0.out hg1 hRB)
    clear HP0 HO0 hg1
    by_cases q0 : q = 0
    · subst q0
      obtain ⟨b, off, rfl, hb1, hb2⟩ := HP1.out.one hz
      have hty : ∃ cs, Blk w b 2 cs := ht.out b off (.inl rfl)
      clear HO1
      have hw1 : IntKind.i64.wrap ((N1 : Int) - 1) = (N1 : Int) - 1 := IntWalk.i64_in _ (by omega)
      have o1 : -2000000000 ≤ (0 : Int) := by omega
      have o2 : ((N1 : Int) - 1 : Int) ≤ 2000000000 := by omega
      have o3 : (0 : Int) ≤ 2000000000 := by omega
      have o4 : -2000000000 ≤ ((N1 : Int) - 1 : Int) := by omega
      have X1 := hid HP1.out.drew
      clear HP1
      have S1 := hid X1.out.cells
      go_wp2_with fail
      go_region_held3 (fun w' => w'.cell? ⟨w.heap.size, 0, none⟩ = some (.slice (some ⟨b, off, none⟩) N1 c1) ∧ w'.cell? ⟨w.heap.size, 1, none⟩ = some (.slice A2 N2 c2) ∧ w'.cell? ⟨w.heap.size, 2, none⟩ = some (.slice A3 N3 c3) ∧ w'.cell? ⟨w.heap.size, 3, none⟩ = some (.slice A4 N4 c4))
        ((refine Hid.out ?_; with_reducible assumption))
        (first | (go_at_call 33; (with_reducible refine Calls.mono (off_draw R n cap A 0 ((N1 : Int) - 1) w1.drew X1.out.rs o1 o2 o3 o4) ?_); rintro e w5 ⟨x, rfl, hR5, hg5⟩; have x5 := X1.out.next hR5 hg5 hRB hB; have S5 := hid x5.cells; have S5s := hid (x5.store ⟨b, off, none⟩ hb1 hb2 hRB hty x).cells; obtain ⟨_, y, hy, hf⟩ := (x5.2.2.1.1).first hz rfl; have X5 := hid x5; clear x5 hR5 hg5))
      all_goals
        have hT := X5.out.store ⟨b, off, none⟩ hb1 hb2 hRB hty x
        clear X1 X5 S1 S5 S5s hy hf
        obtain ⟨X, hX⟩ : ∃ X, w5.setCell ⟨b, off, none⟩ (.int .i64 x) = X := ⟨_, rfl⟩
        rw [hX] at hT ⊢
        clear hX
        have HF := hid (hp_end (N := N4) hT hRB hB (by omega))
        obtain ⟨⟨c0, c1', c2', c3'⟩, _⟩ := blk_cells4 hT.1.1
        obtain ⟨⟨r0, r1, r2, r3⟩, s0, s1, s2, s3⟩ := blk_cells4 hT.1.2
        clear hT
        go_wp2_with fail
        (try simp only [Exit.inBlock, Exit.then])
        refine bodyPost_ret (results_cell_row rfl _ _ (w.heap.size + 1) 29 #[.slice (some ⟨b, off, none⟩) N1 c1, .slice A2 N2 c2, .slice A3 N3 c3, .slice A4 N4 c4] (0, 0) _ rfl HF.out.1 Tryz.underlying29 rfl size_plan) rfl HF.out.2
    by_cases q1 : q = 1
    · subst q1
      obtain ⟨b, off, rfl, hb1, hb2⟩ := HP1.out.two hz2
      have hty : ∃ cs, Blk w b 2 cs := ht.out b off (.inr (.inl rfl))
      clear HO1
      have o1 : -2000000000 ≤ (1 : Int) := by omega
      have o2 : ((N1 : Int) : Int) ≤ 2000000000 := by omega
      have o3 : (1 : Int) ≤ 2000000000 := by omega
      have o4 : -2000000000 ≤ ((N1 : Int) : Int) := by omega
      have X1 := hid HP1.out.drew
      clear HP1
      have S1 := hid X1.out.cells
      go_wp2_with fail
      go_region_held3 (fun w' => w'.cell? ⟨w.heap.size, 0, none⟩ = some (.slice A1 N1 c1) ∧ w'.cell? ⟨w.heap.size, 1, none⟩ = some (.slice (some ⟨b, off, none⟩) N2 c2) ∧ w'.cell? ⟨w.heap.size, 2, none⟩ = some (.slice A3 N3 c3) ∧ w'.cell? ⟨w.heap.size, 3, none⟩ = some (.slice A4 N4 c4))
        ((refine Hid.out ?_; with_reducible assumption))
        (first | (go_at_call 33; (with_reducible refine Calls.mono (off_draw R n cap A 1 (N1 : Int) w1.drew X1.out.rs o1 o2 o3 o4) ?_); rintro e w5 ⟨x, rfl, hR5, hg5⟩; have x5 := X1.out.next hR5 hg5 hRB hB; have S5 := hid x5.cells; have S5s := hid (x5.store ⟨b, off, none⟩ hb1 hb2 hRB hty x).cells; obtain ⟨_, y, hy, hf⟩ := (x5.2.2.1.2.1).first hz2 rfl; have X5 := hid x5; clear x5 hR5 hg5))
      all_goals
        have hT := X5.out.store ⟨b, off, none⟩ hb1 hb2 hRB hty x
        clear X1 X5 S1 S5 S5s hy hf
        obtain ⟨X, hX⟩ : ∃ X, w5.setCell ⟨b, off, none⟩ (.int .i64 x) = X := ⟨_, rfl⟩
        rw [hX] at hT ⊢
        clear hX
        have HF := hid (hp_end (N := N4) hT hRB hB (by omega))
        obtain ⟨⟨c0, c1', c2', c3'⟩, _⟩ := blk_cells4 hT.1.1
        obtain ⟨⟨r0, r1, r2, r3⟩, s0, s1, s2, s3⟩ := blk_cells4 hT.1.2
        clear hT
        go_wp2_with fail
        (try simp only [Exit.inBlock, Exit.then])
        refine bodyPost_ret (results_cell_row rfl _ _ (w.heap.size + 1) 29 #[.slice A1 N1 c1, .slice (some ⟨b, off, none⟩) N2 c2, .slice A3 N3 c3, .slice A4 N4 c4] (0, 0) _ rfl HF.out.1 Tryz.underlying29 rfl size_plan) rfl HF.out.2
    by_cases q2 : q = 2
    · subst q2
      obtain ⟨b, off, rfl, hb1, hb2⟩ := HP1.out.three hz3
      have hty : ∃ cs, Blk w b 2 cs := ht.out b off (.inr (.inr rfl))
      obtain ⟨_, y, hy, hf⟩ := (HP1.out.2.2.1.2.2.1).first hz3 rfl
      obtain ⟨v, hv⟩ : ∃ v, IntKind.i64.wrap (y - 1) = v := ⟨_, rfl⟩
      obtain ⟨⟨c0, c1', c2', c3'⟩, _⟩ := blk_cells4 HP1.out.1.1
      clear HO1
      go_wp2_with fail
      go_region
      have hT : HP w R n cap A B A1 N1 c1 A2 N2 c2 (some ⟨b, off, none⟩) N3 c3 A4 N4 c4 (w1.setCell ⟨b, off, none⟩ (.int .i64 v)).drew := HP1.out.drew.store ⟨b, off, none⟩ hb1 hb2 hRB hty v
      clear HP1 c0 c1' c2' c3' hy hf hv
      obtain ⟨X, hX⟩ : ∃ X, (w1.setCell ⟨b, off, none⟩ (.int .i64 v)).drew = X := ⟨_, rfl⟩
      rw [hX] at hT ⊢
      clear hX
      have HF := hid (hp_end (N := N4) hT hRB hB (by omega))
      obtain ⟨⟨c0, c1', c2', c3'⟩, _⟩ := blk_cells4 hT.1.1
      obtain ⟨⟨r0, r1, r2, r3⟩, s0, s1, s2, s3⟩ := blk_cells4 hT.1.2
      clear hT
      go_wp2_with fail
      (try simp only [Exit.inBlock, Exit.then])
      refine bodyPost_ret (results_cell_row rfl _ _ (w.heap.size + 1) 29 #[.slice A1 N1 c1, .slice A2 N2 c2, .slice (some ⟨b, off, none⟩) N3 c3, .slice A4 N4 c4] (0, 0) _ rfl HF.out.1 Tryz.underlying29 rfl size_plan) rfl HF.out.2
    by_cases q3 : q = 3
    · subst q3
      obtain ⟨i0, hi0, hz0, hz1, hz2'⟩ := info_parts info_int
      have hsz : B ≤ w1.heap.size := Nat.le_trans hB HP1.out.2.2.2.1.1
      obtain ⟨⟨c0, c1', c2', c3'⟩, _⟩ := blk_cells4 HP1.out.1.1
      go_wp2_with (at_builtin; refine wpList_append_own _ rfl (.tmp 45) (.tmp 46) 27 rfl B 2 i0 (.int .i64 0) 1 8 Tryz.underlying27 hi0 hz0 hz1 hz2' rfl (by decide) _ N4 _ rfl (HO1.out.alloc _) ⟨w1.heap.size, 0, none⟩ 1 1 [.int .i64 0] rfl rfl (cell_one_new _ _ _) (by intro u hu; simp at hu; subst hu; rfl) (by unfold maxLen; omega) (by omega) (by simp; omega) ?_)
      intro v' w3 hown3 hg3 _
      obtain ⟨A4', c4', rfl⟩ := own_form hown3
      obtain ⟨hk, hT⟩ := HP1.out.append (z := z4) (z' := ext z4 N4 0) HO1.out hg3 (by rw [numsOf_ext]; exact hown3) hRB hB hd.out
      have HF := hid (hp_end (N := N4) hT hRB hB (by omega))
      obtain ⟨⟨t0, t1, t2, t3⟩, f0, f1, f2, f3⟩ := blk_cells4 hk
      obtain ⟨⟨u0, u1, u2, u3⟩, _⟩ := blk_cells4 hT.1.1
      obtain ⟨⟨r0, r1, r2, r3⟩, s0, s1, s2, s3⟩ := blk_cells4 hT.1.2
      clear HP1 HO1 hown3 hg3 hT hk c0 c1' c2' c3'
      go_wp2_with fail
      (try simp only [Exit.inBlock, Exit.then])
      refine bodyPost_ret (results_cell_row rfl _ _ (w.heap.size + 1) 29 #[.slice A1 N1 c1, .slice A2 N2 c2, .slice A3 N3 c3, .slice A4' (N4 + 1) c4'] (0, 0) _ rfl HF.out.1 Tryz.underlying29 rfl size_plan) rfl HF.out.2
    have d0 : (q == 0) = false := by simpa using q0
    have d1 : (q == 1) = false := by simpa using q1
    have d2 : (q == 2) = false := by simpa using q2
    have d3 : (q == 3) = false := by simpa using q3
    have HF := hid (hp_end (N := N4) HP1.out hRB hB (by omega))
    obtain ⟨⟨c0, c1', c2', c3'⟩, _⟩ := blk_cells4 HP1.out.1.1
    obtain ⟨⟨r0, r1, r2, r3⟩, s0, s1, s2, s3⟩ := blk_cells4 HP1.out.1.2
    clear HP1 HO1 q0 q1 q2 q3
    go_wp2_with fail
    (try simp only [Exit.inBlock, Exit.then])
    refine bodyPost_ret (results_cell_row rfl _ _ (w.heap.size + 1) 29 #[.slice A1 N1 c1, .slice A2 N2 c2, .slice A3 N3 c3, .slice A4 N4 c4] (0, 0) _ rfl HF.out.1 Tryz.underlying29 rfl size_plan) rfl HF.out.2
  · obtain rfl : N1 = 0 := by omega
    have hbx : Below w.heap.size w ((w.alloc (.cells #[.slice A1 0 c1, .slice A2 N2 c2, .slice A3 N3 c3, .slice A4 N4 c4] 29)).alloc (.cells #[.slice A1 0 c1, .slice A2 N2 c2, .slice A3 N3 c3, .slice A4 N4 c4] 29)) := ((Below.refl _ w).alloc (Nat.le_refl _) _).alloc (by simp) _
    have hF : Blk ((w.alloc (.cells #[.slice A1 0 c1, .slice A2 N2 c2, .slice A3 N3 c3, .slice A4 N4 c4] 29)).alloc (.cells #[.slice A1 0 c1, .slice A2 N2 c2, .slice A3 N3 c3, .slice A4 N4 c4] 29)) (w.heap.size + 1) 29 #[.slice A1 0 c1, .slice A2 N2 c2, .slice A3 N3 c3, .slice A4 N4 c4] ∧ PlanHurt R n cap A B A1 0 c1 A2 N2 c2 A3 N3 c3 N4 w (.returned (plV A1 0 c1 A2 N2 c2 A3 N3 c3 A4 N4 c4)) ((w.alloc (.cells #[.slice A1 0 c1, .slice A2 N2 c2, .slice A3 N3 c3, .slice A4 N4 c4] 29)).alloc (.cells #[.slice A1 0 c1, .slice A2 N2 c2, .slice A3 N3 c3, .slice A4 N4 c4] 29)) :=
      ⟨Blk.new2 w _ _ _, A4, N4, c4, by omega, rfl, ⟨(hx1.keep fun x q => hbx.block x q.2).more fun x q => ⟨q.1, Nat.lt_of_lt_of_le q.2 hbx.size⟩, (hx2.keep fun x q => hbx.block x q.2).more fun x q => ⟨q.1, Nat.lt_of_lt_of_le q.2 hbx.size⟩, (hx3.keep fun x q => hbx.block x q.2).more fun x q => ⟨q.1, Nat.lt_of_lt_of_le q.2 hbx.size⟩, ((rdX_own ho4).keep fun x q => hbx.block x q.1.2).more fun x q => ⟨q.1.1, Nat.lt_of_lt_of_le q.1.2 hbx.size⟩⟩, (h.alloc _).alloc _, ⟨hbx.size, hbx.mono (by omega), fun x _ q => hbx.block x (by omega)⟩, fun x t cs _ _ q3 => (q3.alloc _).alloc _⟩
    have HF := hid hF
    clear hF hbx hx1 hx2 hx3 ho4
    go_enter Tryz.func29, Tryz.ntmps29
    go_wp2_with fail
    (try simp only [Exit.inBlock, Exit.then])
    refine bodyPost_ret (results_cell_row rfl _ _ (w.heap.size + 1) 29 #[.slice A1 0 c1, .slice A2 N2 c2, .slice A3 N3 c3, .slice A4 N4 c4] (0, 0) _ rfl HF.out.1 Tryz.underlying29 rfl size_plan) rfl HF.out.2
end Go.Proofs.YtlgomifpohdniaaGreat
