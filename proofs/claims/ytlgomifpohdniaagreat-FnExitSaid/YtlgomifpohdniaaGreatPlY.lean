/- A drawn plan. -/
import Derived.Test.YtlgomifpohdniaaGreatPlW
import Derived.Test.YtlgomifpohdniaaGreatPlanX
namespace Go.Proofs.YtlgomifpohdniaaGreat
open Go.RowKit Go.Deep
set_option linter.unusedVariables false
set_option linter.unusedSimpArgs false

/-- A plan is empty, or its order names trees of a right ensemble. -/
def PlanGood (f b : Int) (k : Nat) (len : Nat → Nat) (g : Nat → Nat → Nd) (N1 N2 N3 : Nat) (z1 : Nat → Int) : Prop :=
  (N1 = 0 ∧ N2 = 0 ∧ N3 = 0) ∨ (N1 = k ∧ N3 = k + 1 ∧ (0 < k → 0 < N2) ∧ N2 ≤ 12 ∧ ensB f b k len g = true ∧ ∃ o : Nat → Nat, (∀ p, p < k → o p < k) ∧ ∀ p, z1 p = (o p : Nat))
/-- What a plan of one's own is, whatever it holds. -/
def PlanOwn (w : World) (B : Nat) (f b : Int) (k : Nat) (len : Nat → Nat) (g : Nat → Nat → Nd) (A1 : Option Addr) (N1 c1 : Nat) (A2 : Option Addr) (N2 c2 : Nat) (A3 : Option Addr) (N3 c3 : Nat) (A4 : Option Addr) (N4 c4 : Nat) : Prop :=
  ∃ z1 z2 z3 z4, Owns4 w B A1 N1 c1 z1 A2 N2 c2 z2 A3 N3 c3 z3 A4 N4 c4 z4 ∧ PlanGood f b k len g N1 N2 N3 z1 ∧ N4 = N3
theorem sPlanOf_drawn (f b pol st : Int) (A : Option Addr) (k c : Nat) (len : Nat → Nat) (g : Nat → Nat → Nd) (w : World) (h : RdT w w.heap.size A k len g) (hn : k ≤ 4194304) (hlen : Hid (∀ i, i < k → len i ≤ 4194304)) :
    Calls Tryz.prog 21 #[enV f b A k c, .int .i64 pol, .int .i64 st] w fun e w' => ∃ (Y : Bool) (A1 : Option Addr) (N1 c1 : Nat) (A2 : Option Addr) (N2 c2 : Nat) (A3 : Option Addr) (N3 c3 : Nat) (A4 : Option Addr) (N4 c4 : Nat), e = .returned (.tuple #[plV A1 N1 c1 A2 N2 c2 A3 N3 c3 A4 N4 c4, .bool Y]) ∧ PlanOwn w' w.heap.size f b k len g A1 N1 c1 A2 N2 c2 A3 N3 c3 A4 N4 c4 ∧ Below w.heap.size w w' := by
  cases hY : planY f b pol st k len g with
  | false =>
    exact (sPlanOf_no f b pol st A k c len g w h hn hlen hY).mono fun _ w' ⟨he, hb⟩ => ⟨false, none, 0, 0, none, 0, 0, none, 0, 0, none, 0, 0, he, ⟨fun _ => 0, fun _ => 0, fun _ => 0, fun _ => 0, owns4_nil w' _ _ _ _ _, .inl ⟨rfl, rfl, rfl⟩, rfl⟩, hb⟩
  | true =>
    have hy := hY
    unfold planY at hy
    rw [Bool.and_eq_true, Bool.and_eq_true, decide_eq_true_eq, decide_eq_true_eq] at hy
    obtain ⟨hpol, h1, h12⟩ := hy
    have hE := (polB_true hpol).1
    have hn12 := (ensB_iff.1 hE).2.2.1
    obtain ⟨s, rfl⟩ : ∃ s : Nat, st = (s : Int) := ⟨st.toNat, by omega⟩
    refine (sPlanOf_yes f b pol s A k c len g w h hn hlen hY).mono fun _ w' ⟨A1, c1, A2, c2, A3, c3, A4, c4, he, ho, hb⟩ => ?_
    refine ⟨true, A1, k, c1, A2, endN k s, c2, A3, k + 1, c3, A4, k + 1, c4, he, ⟨_, _, _, _, ho, .inr ⟨rfl, rfl, fun hk => ?_, endN_le2 hn12 (by omega), hE, ordF (wtF pol len g) k, ordF_lt (wtF pol len g) k, fun _ => rfl⟩, rfl⟩, hb⟩
    unfold endN
    rw [if_neg (by omega)]
    exact Nat.succ_pos _
/-- The state in r.plan: e in its box, the result's cell, the reader. -/
def PD (w0 : World) (R n cap : Nat) (A : Option Addr) (ec : Array Value) (A' : Option Addr) (k : Nat) (len : Nat → Nat) (g : Nat → Nat → Nd) (W : World) : Prop :=
  Blk W w0.heap.size 26 ec ∧ Blk W (w0.heap.size + 1) 29 #[.slice none 0 0, .slice none 0 0, .slice none 0 0, .slice none 0 0] ∧ Rs W R A n cap ∧ w0.grownBy W (some R) ∧ HiT W (fun x => R < x ∧ x < w0.heap.size) A' k len g
section
variable {w0 W W' : World} {R n cap k : Nat} {A A' : Option Addr} {ec : Array Value} {len : Nat → Nat} {g : Nat → Nat → Nd} {x0 x1 x2 : Value}
theorem PD.next (h : PD w0 R n cap A ec A' k len g W) (hR : Rs W' R A n cap) (hg : W.grownBy W' (some R)) (hRw : R < w0.heap.size) : PD w0 R n cap A ec A' k len g W' := by
  obtain ⟨h1, h2, h3, h4, h5⟩ := h
  exact ⟨h1.grown hg (by intro e; injection e with e; omega), h2.grown hg (by intro e; injection e with e; omega), hR, grown_trans h4 hg, h5.keep (fun x hx => hg.block x (by have := h1.lt; omega) (by intro e; injection e with e; omega)) (fun x hx => hx)⟩
theorem PD.drew (h : PD w0 R n cap A ec A' k len g W) : PD w0 R n cap A ec A' k len g W.drew := by
  obtain ⟨h1, h2, h3, h4, h5⟩ := h
  exact ⟨h1, h2, h3.below (Below.refl _ W).drew, ⟨h4.os, h4.tape, h4.output, h4.size, h4.block⟩, h5⟩
theorem PD.below (h : PD w0 R n cap A ec A' k len g W) (hb : Below W.heap.size W W') : PD w0 R n cap A ec A' k len g W' := by
  obtain ⟨h1, h2, h3, h4, h5⟩ := h
  exact ⟨h1.below hb h1.lt, h2.below hb h2.lt, h3.below hb, grown_below h4 hb h4.size, h5.keep (fun x hx => hb.block x (by have := h1.lt; omega)) (fun x hx => hx)⟩
theorem PD.rs (h : PD w0 R n cap A ec A' k len g W) : Rs W R A n cap := h.2.2.1
theorem PD.cells (h : PD w0 R n cap A #[x0, x1, x2] A' k len g W) : W.cell? ⟨w0.heap.size, 0, none⟩ = some x0 ∧ W.cell? ⟨w0.heap.size, 1, none⟩ = some x1 ∧ W.cell? ⟨w0.heap.size, 2, none⟩ = some x2 := ⟨h.1.cell 0, h.1.cell 1, h.1.cell 2⟩
theorem PD.rd (h : PD w0 R n cap A ec A' k len g W) : RdT W W.heap.size A' k len g := h.2.2.2.2.rdT fun x hx => by have := h.1.lt; omega
end
theorem heldQ4 {X : World} {s p : Nat} {t : TypeId} {a b c : Value} (h : Blk X s t #[a, b, c]) (hp : p ≠ s) (u0 u1 u2 u3 : Value) : ((((X.setCell ⟨p, 0, none⟩ u0).setCell ⟨p, 1, none⟩ u1).setCell ⟨p, 2, none⟩ u2).setCell ⟨p, 3, none⟩ u3).cell? ⟨s, 0, none⟩ = some a ∧ ((((X.setCell ⟨p, 0, none⟩ u0).setCell ⟨p, 1, none⟩ u1).setCell ⟨p, 2, none⟩ u2).setCell ⟨p, 3, none⟩ u3).cell? ⟨s, 1, none⟩ = some b ∧ ((((X.setCell ⟨p, 0, none⟩ u0).setCell ⟨p, 1, none⟩ u1).setCell ⟨p, 2, none⟩ u2).setCell ⟨p, 3, none⟩ u3).cell? ⟨s, 2, none⟩ = some c :=
  have h' := ((((h.far (p := ⟨p, 0, none⟩) (fun e => hp e.symm) u0).far (p := ⟨p, 1, none⟩) (fun e => hp e.symm) u1).far (p := ⟨p, 2, none⟩) (fun e => hp e.symm) u2).far (p := ⟨p, 3, none⟩) (fun e => hp e.symm) u3)
  ⟨h'.cell 0, h'.cell 1, h'.cell 2⟩
theorem PD.home {w0 W : World} {R n cap k : Nat} {A A' : Option Addr} {ec : Array Value} {len : Nat → Nat} {g : Nat → Nat → Nd} (h : PD w0 R n cap A ec A' k len g W) : Blk W w0.heap.size 26 ec := h.1
/-- What r.plan leaves. -/
def PlanDrawn (R n cap : Nat) (A : Option Addr) (f b : Int) (k : Nat) (len : Nat → Nat) (g : Nat → Nat → Nd) (w : World) (e : Ending) (w' : World) : Prop :=
  ∃ (A1 : Option Addr) (N1 c1 : Nat) (A2 : Option Addr) (N2 c2 : Nat) (A3 : Option Addr) (N3 c3 : Nat) (A4 : Option Addr) (N4 c4 : Nat), e = .returned (plV A1 N1 c1 A2 N2 c2 A3 N3 c3 A4 N4 c4) ∧ PlanOwn w' w.heap.size f b k len g A1 N1 c1 A2 N2 c2 A3 N3 c3 A4 N4 c4 ∧ Rs w' R A n cap ∧ w.grownBy w' (some R)

end Go.Proofs.YtlgomifpohdniaaGreat
