/- What is drawn beside a cache: what holds meanwhile. -/
import Derived.Test.YtckhooibjmheiaaCdA
import Derived.Test.YtckhooibjmheiaaK4
namespace Go.Proofs.Ytckhooibjmheiaa
open Go.RowKit Go.Deep
set_option linter.unusedVariables false
set_option linter.unusedSimpArgs false

/-- Slots, their rows named. -/
def OwN (L H b : Nat) (As : Nat → Option Addr) (ci : Nat → Nat) (k : Nat) (s : Nat → Slt) (w : World) : Prop :=
  ∃ (cs : Array Value) (bs : Nat → Nat), L ≤ b ∧ b < H ∧ Blk w b 37 cs ∧ k * 3 ≤ cs.size ∧
    ∀ i, i < k → (cs[i * 3]? = some (.slice (As i) (s i).n (ci i)) ∧ cs[i * 3 + 1]? = some (.int .i64 (s i).score) ∧ cs[i * 3 + 2]? = some (.int .i64 (s i).used)) ∧ (0 < (s i).n → As i = some ⟨bs i, 0, none⟩ ∧ L ≤ bs i ∧ bs i < H ∧ RowS w 74 (bs i) (s i).n (s i).g) ∧ ∀ a, a < i → 0 < (s a).n → 0 < (s i).n → bs a ≠ bs i
def SoftQ (L M : Nat) (A' : Option Addr) (k : Nat) (s : Nat → Slt) (Q : World → Prop) : Prop :=
  (∀ W W' : World, (∀ x cs, L ≤ x → x < M → (Blk W x 37 cs ∨ Blk W x 74 cs) → W'.heap[x]? = W.heap[x]?) → Q W → Q W') ∧ ∀ W : World, Q W → RdC W W.heap.size A' k s
section
variable {w w' W W' : World} {L H b k : Nat} {A : Option Addr} {As : Nat → Option Addr} {ci : Nat → Nat} {s : Nat → Slt}
theorem OwN.owM (h : OwN L H b As ci k s w) : OwM w L H (some ⟨b, 0, none⟩) k s := fun _ => by
  obtain ⟨cs, bs, h1, h2, hB, hs, hc⟩ := h
  exact ⟨b, cs, bs, As, ci, rfl, h1, h2, hB, hs, hc⟩
theorem softM (L M : Nat) (A' : Option Addr) (k : Nat) (s : Nat → Slt) : SoftQ L M A' k s (fun W => OwM W L M A' k s) :=
  ⟨fun W W' hk h h0 => by
    obtain ⟨b, cs, bs, As, ci, e, h1, h2, hB, hs, hc⟩ := h h0
    refine ⟨b, cs, bs, As, ci, e, h1, h2, (hk b cs h1 h2 (.inl hB)).trans hB, hs, fun i hi => ⟨(hc i hi).1, fun hn => ?_, (hc i hi).2.2⟩⟩
    obtain ⟨q1, q2, q3, q4⟩ := (hc i hi).2.1 hn
    obtain ⟨cs', hb', _⟩ := id q4
    exact ⟨q1, q2, q3, q4.keep (hk _ cs' q2 q3 (.inr hb'))⟩, fun W h => OwM.rdC h⟩
theorem softN (L M b : Nat) (As : Nat → Option Addr) (ci : Nat → Nat) (k : Nat) (s : Nat → Slt) : SoftQ L M (some ⟨b, 0, none⟩) k s (OwN L M b As ci k s) :=
  ⟨fun W W' hk h => by
    obtain ⟨cs, bs, h1, h2, hB, hs, hc⟩ := h
    refine ⟨cs, bs, h1, h2, (hk b cs h1 h2 (.inl hB)).trans hB, hs, fun i hi => ⟨(hc i hi).1, fun hn => ?_, (hc i hi).2.2⟩⟩
    obtain ⟨q1, q2, q3, q4⟩ := (hc i hi).2.1 hn
    obtain ⟨cs', hb', _⟩ := id q4
    exact ⟨q1, q2, q3, q4.keep (hk _ cs' q2 q3 (.inr hb'))⟩, fun W h => h.owM.rdC⟩
theorem OwN.slot {i : Nat} (h : OwN L H b As ci k s w) (hi : i < k) : w.cell? ⟨b, i * 3, none⟩ = some (.slice (As i) (s i).n (ci i)) := by
  obtain ⟨cs, bs, h1, h2, hB, hs, hc⟩ := h
  rw [hB.cell]
  exact (hc i hi).1.1
theorem OwN.box {i : Nat} (h : OwN L H b As ci k s w) (hi : i < k) : RdS w w.heap.size (As i) (s i).n (s i).g := fun hn => by
  obtain ⟨cs, bs, h1, h2, hB, hs, hc⟩ := h
  obtain ⟨q1, q2, q3, q4⟩ := (hc i hi).2.1 hn
  rw [q1]
  exact (rds_of q4) hn
/-- Behind the last block nothing of it lies. -/
theorem OwM.top (h : OwM w L H A k s) : OwM w L w.heap.size A k s := fun h0 => by
  obtain ⟨b, cs, bs, As, ci, e, h1, h2, hB, hs, hc⟩ := h h0
  exact ⟨b, cs, bs, As, ci, e, h1, hB.lt, hB, hs, fun i hi => ⟨(hc i hi).1, fun hn => by
    obtain ⟨q1, q2, q3, q4⟩ := (hc i hi).2.1 hn
    exact ⟨q1, q2, q4.lt, q4⟩, (hc i hi).2.2⟩⟩
theorem OwM.more {H' : Nat} (h : OwM w L H A k s) (hH : H ≤ H') : OwM w L H' A k s := fun h0 => by
  obtain ⟨b, cs, bs, As, ci, e, h1, h2, hB, hs, hc⟩ := h h0
  exact ⟨b, cs, bs, As, ci, e, h1, by omega, hB, hs, fun i hi => ⟨(hc i hi).1, fun hn => by
    obtain ⟨q1, q2, q3, q4⟩ := (hc i hi).2.1 hn
    exact ⟨q1, q2, by omega, q4⟩, (hc i hi).2.2⟩⟩
end
/-- A cache that was drawn into block cb, beside a reader R; the answer's block holds u0, u1, u2. -/
structure CgS (w : World) (R n cap : Nat) (A : Option Addr) (cb M : Nat) (cp ck : Int) (A' : Option Addr) (k c : Nat) (s : Nat → Slt) (Q : World → Prop) (u0 u1 u2 : Value) (W : World) : Prop where
  lt : w.heap.size < R ∧ R < cb ∧ cb < M ∧ M ≤ W.heap.size
  res : Blk W w.heap.size 26 #[u0, u1, u2]
  cach : Blk W cb 26 #[.int .i64 cp, .int .i64 ck, .slice A' k c]
  own : Q W
  soft : SoftQ (R + 1) M A' k s Q
  rs : Rs W R A n cap
  bs : Bs W w.heap.size A n
  bel : Below w.heap.size w W
section
variable {w W W' : World} {R n cap cb M k c : Nat} {A A' : Option Addr} {cp ck : Int} {s : Nat → Slt} {Q : World → Prop} {u0 u1 u2 : Value}
theorem CgS.step (h : CgS w R n cap A cb M cp ck A' k c s Q u0 u1 u2 W) (hk : ∀ x, x < M → x ≠ R → W'.heap[x]? = W.heap[x]?) (hr : Rs W' R A n cap) (hb : Below w.heap.size W W') : CgS w R n cap A cb M cp ck A' k c s Q u0 u1 u2 W' := by
  obtain ⟨l1, l2, l3, l4⟩ := h.lt
  exact ⟨⟨l1, l2, l3, Nat.le_trans l4 hb.size⟩, (hk _ (by omega) (by omega)).trans h.res, (hk _ l3 (by omega)).trans h.cach, h.soft.1 W W' (fun x cs h1 h2 _ => hk x h2 (by omega)) h.own, h.soft, hr, h.bs.keep fun p hp => hb.cell hp, h.bel.trans hb⟩
theorem CgS.grown (h : CgS w R n cap A cb M cp ck A' k c s Q u0 u1 u2 W) (hg : W.grownBy W' (some R)) (hr : Rs W' R A n cap) : CgS w R n cap A cb M cp ck A' k c s Q u0 u1 u2 W' := by
  obtain ⟨l1, l2, l3, l4⟩ := h.lt
  exact h.step (fun x hx hne => hg.block x (by omega) (by intro e; injection e with e; omega)) hr ⟨hg.os, hg.tape, hg.output, hg.size, fun x hx => hg.block x (by omega) (by intro e; injection e with e; omega)⟩
theorem CgS.below (h : CgS w R n cap A cb M cp ck A' k c s Q u0 u1 u2 W) (hb : Below W.heap.size W W') : CgS w R n cap A cb M cp ck A' k c s Q u0 u1 u2 W' :=
  h.grown ⟨hb.os, hb.tape, hb.output, hb.size, fun x hx _ => hb.block x hx⟩ (h.rs.below hb)
theorem CgS.drew (h : CgS w R n cap A cb M cp ck A' k c s Q u0 u1 u2 W) : CgS w R n cap A cb M cp ck A' k c s Q u0 u1 u2 W.drew := h.below (Below.refl _ _).drew
theorem CgS.fin (h : CgS w R n cap A cb M cp ck A' k c s Q u0 u1 u2 W) (v0 v1 v2 : Value) : CgS w R n cap A cb M cp ck A' k c s Q v0 v1 v2 (((W.setCell ⟨w.heap.size, 0, none⟩ v0).setCell ⟨w.heap.size, 1, none⟩ v1).setCell ⟨w.heap.size, 2, none⟩ v2) := by
  obtain ⟨l1, l2, l3, l4⟩ := h.lt
  have hb : Below w.heap.size W (((W.setCell ⟨w.heap.size, 0, none⟩ v0).setCell ⟨w.heap.size, 1, none⟩ v1).setCell ⟨w.heap.size, 2, none⟩ v2) := (((Below.refl _ W).setCell (p := ⟨w.heap.size, 0, none⟩) (Nat.le_refl _) _).setCell (p := ⟨w.heap.size, 1, none⟩) (Nat.le_refl _) _).setCell (p := ⟨w.heap.size, 2, none⟩) (Nat.le_refl _) _
  have hbs : Bs (((W.setCell ⟨w.heap.size, 0, none⟩ v0).setCell ⟨w.heap.size, 1, none⟩ v1).setCell ⟨w.heap.size, 2, none⟩ v2) w.heap.size A n := h.bs.keep fun p hp => hb.cell hp
  obtain ⟨⟨p, hp, hR⟩, _, hn⟩ := h.rs
  refine ⟨⟨l1, l2, l3, Nat.le_trans l4 hb.size⟩, ((h.res.set_ 0 _).set_ 1 _).set_ 2 _, (far3 _ _ _ _ (by omega)).trans h.cach, h.soft.1 W _ (fun x cs h1 h2 _ => far3 _ _ _ x (by omega)) h.own, h.soft, ⟨⟨p, hp, (far3 _ _ _ _ (by omega)).trans hR⟩, hbs.more (Nat.le_of_lt l1), hn⟩, hbs, h.bel.trans hb⟩
theorem CgS.cells (h : CgS w R n cap A cb M cp ck A' k c s Q u0 u1 u2 W) : W.cell? ⟨cb, 0, none⟩ = some (.int .i64 cp) ∧ W.cell? ⟨cb, 1, none⟩ = some (.int .i64 ck) ∧ W.cell? ⟨cb, 2, none⟩ = some (.slice A' k c) := ⟨h.cach.cell 0, h.cach.cell 1, h.cach.cell 2⟩
theorem CgS.cellsN {b : Nat} {As : Nat → Option Addr} {ci : Nat → Nat} (h : CgS w R n cap A cb M cp ck (some ⟨b, 0, none⟩) k c s (OwN (R + 1) M b As ci k s) u0 u1 u2 W) : W.cell? ⟨cb, 0, none⟩ = some (.int .i64 cp) ∧ W.cell? ⟨cb, 1, none⟩ = some (.int .i64 ck) ∧ W.cell? ⟨cb, 2, none⟩ = some (.slice (some ⟨b, 0, none⟩) k c) ∧ ∀ i, i < k → W.cell? ⟨b, i * 3, none⟩ = some (.slice (As i) (s i).n (ci i)) := ⟨h.cach.cell 0, h.cach.cell 1, h.cach.cell 2, fun i hi => OwN.slot h.own hi⟩
theorem CgS.rdC (h : CgS w R n cap A cb M cp ck A' k c s Q u0 u1 u2 W) : RdC W W.heap.size A' k s := h.soft.2 W h.own
theorem CgS.resc (h : CgS w R n cap A cb M cp ck A' k c s Q u0 u1 u2 W) : (W.cell? ⟨w.heap.size, 0, none⟩ = some u0 ∧ W.cell? ⟨w.heap.size, 1, none⟩ = some u1 ∧ W.cell? ⟨w.heap.size, 2, none⟩ = some u2) ∧ W.frozen? ⟨w.heap.size, 0, none⟩ = false ∧ W.frozen? ⟨w.heap.size, 1, none⟩ = false ∧ W.frozen? ⟨w.heap.size, 2, none⟩ = false :=
  ⟨⟨h.res.cell 0, h.res.cell 1, h.res.cell 2⟩, h.res.frozen 0, h.res.frozen 1, h.res.frozen 2⟩
end
section
variable {w W W' : World} {R n cap cb M k c : Nat} {A A' : Option Addr} {cp ck : Int} {s : Nat → Slt} {Q : World → Prop} {u0 u1 u2 : Value}
theorem CgS.rm (h : CgS w R n cap A cb M cp ck A' k c s Q u0 u1 u2 W) : R < M := by obtain ⟨l1, l2, l3, l4⟩ := h.lt; omega
theorem CgS.mle (h : CgS w R n cap A cb M cp ck A' k c s Q u0 u1 u2 W) : M ≤ W.heap.size := h.lt.2.2.2
theorem CgS.wlt (h : CgS w R n cap A cb M cp ck A' k c s Q u0 u1 u2 W) : w.heap.size < W.heap.size := by obtain ⟨l1, l2, l3, l4⟩ := h.lt; omega
theorem CgS.wm (h : CgS w R n cap A cb M cp ck A' k c s Q u0 u1 u2 W) : w.heap.size < M := by obtain ⟨l1, l2, l3, l4⟩ := h.lt; omega
theorem CgS.wr (h : CgS w R n cap A cb M cp ck A' k c s Q u0 u1 u2 W) : w.heap.size < R := h.lt.1
end
/-- The cache is in the answer's block, the numbers beside it can be read. -/
def CgF (w : World) (cp ck : Int) (A' : Option Addr) (k c : Nat) (s : Nat → Slt) (D : Option Addr) (f : Nat) (z : Nat → Int) (W : World) : Prop :=
  Blk W w.heap.size 26 #[.int .i64 cp, .int .i64 ck, .slice A' k c] ∧ RdC W W.heap.size A' k s ∧ Rd W W.heap.size D f z ∧ Below w.heap.size w W
section
variable {w W W' : World} {R n cap cb M k c f : Nat} {A A' D : Option Addr} {cp ck : Int} {s : Nat → Slt} {z : Nat → Int} {Q : World → Prop} {u0 u1 u2 : Value}
theorem CgS.done (h : CgS w R n cap A cb M cp ck A' k c s Q (.int .i64 cp) (.int .i64 ck) (.slice A' k c) W) (hd : Rd W W.heap.size D f z) : CgF w cp ck A' k c s D f z W := ⟨h.res, h.rdC, hd, h.bel⟩
/-- A row that lies beside the answer's block. -/
def Aside (w : World) (D : Option Addr) (f : Nat) (z : Nat → Int) (W : World) : Prop := 0 < f → ∃ g, D = some ⟨g, 0, none⟩ ∧ g ≠ w.heap.size ∧ Row W 2 g f z
theorem Aside.rd (h : Aside w D f z W) : Rd W W.heap.size D f z := fun h0 => by obtain ⟨g, rfl, _, hr⟩ := h h0; exact (rd_of hr) h0
theorem CgS.later (h : CgS w R n cap A cb M cp ck A' k c s Q u0 u1 u2 W) (hd : Aside w D f z W) : CgF w cp ck A' k c s D f z (((W.setCell ⟨w.heap.size, 0, none⟩ (.int .i64 cp)).setCell ⟨w.heap.size, 1, none⟩ (.int .i64 ck)).setCell ⟨w.heap.size, 2, none⟩ (.slice A' k c)) :=
  (h.fin _ _ _).done (Aside.rd (w := w) fun h0 => by
    obtain ⟨g, e, hg, hr⟩ := hd h0
    exact ⟨g, e, hg, hr.keep (far3 _ _ _ _ hg)⟩)
end
theorem sPick_beside (w0 : World) (A : Option Addr) (n cap : Nat) (g : Nat → Sp) (w : World) (h : RdS w w.heap.size A n g) (hn : n ≤ 16) (hl : w0.heap.size < w.heap.size) :
    Calls Try.prog 81 #[.slice A n cap] w fun e w' => ∃ (f : Nat) (z : Nat → Int) (D : Option Addr) (dc : Nat), f ≤ 17 ∧ e = .returned (.slice D f dc) ∧ Aside w0 D f z w' ∧ Below w.heap.size w w' := by
  cases hb : boxB n g with
  | true =>
    refine (sPick_yes A n cap g w h hb).mono fun e w' ⟨b, c, he, hlb, hr, hbl⟩ => ?_
    exact ⟨n, _, _, c, by omega, he, fun _ => ⟨b, rfl, by omega, hr⟩, hbl⟩
  | false =>
    refine (sPick_no A n cap g w h (by omega) hb).mono fun e w' ⟨A', c, he, hbl⟩ => ?_
    exact ⟨0, fun _ => 0, A', c, by omega, he, fun h0 => absurd h0 (by omega), hbl⟩
end Go.Proofs.Ytckhooibjmheiaa
