/- What is drawn of caches: what holds while one is made. -/
import Derived.Test.YtckhooibjmheiaaBoxDrawB
import Derived.Test.YtckhooibjmheiaaCaW
import Derived.Test.YtckhooibjmheiaaCaI
namespace Go.Proofs.Ytckhooibjmheiaa
open Go.RowKit Go.Deep
set_option linter.unusedVariables false
set_option linter.unusedSimpArgs false

theorem getAns_n2 (cap clock : Int) (k : Nat) (s : Nat → Slt) (f : Nat) (z : Nat → Int) (i : Nat) : (gSl cap clock k s f z i).n = (s i).n := by
  unfold gSl
  split
  · exact upS_n _ _ _ _
  · rfl
theorem sGet_draw (cap clock : Int) (A : Option Addr) (k c : Nat) (s : Nat → Slt) (D : Option Addr) (n dc : Nat) (z : Nat → Int) (w : World) (h : RdC w w.heap.size A k s) (hd : Rd w w.heap.size D n z) (hgo : k ≤ 8 ∧ ∀ i, i < k → (s i).n ≤ 16) (hf : n ≤ 16) :
    Calls Try.prog 23 #[caV cap clock A k c, .slice D n dc] w fun e w' => ∃ (C SC : Int) (A' : Option Addr) (k' c' : Nat) (s' : Nat → Slt) (B : Bool), e = .returned (.tuple #[.agg #[.int .i64 cap, .int .i64 C, .slice A' k' c'], .int .i64 SC, .bool B]) ∧ OwC w' w.heap.size A' k' c' s' ∧ (B = true → k' ≤ 8 ∧ ∀ i, i < k' → (s' i).n ≤ 16) ∧ Below w.heap.size w w' := by
  refine (sGet_any cap clock A k c s D n dc z w h hd (by omega) (fun i hi => by have := hgo.2 i hi; omega) (by omega)).mono fun e w' ⟨A', c', he, ho, hb⟩ => ?_
  exact ⟨_, _, A', k, c', _, _, he, ho, fun _ => ⟨hgo.1, fun i hi => by rw [getAns_n2]; exact hgo.2 i hi⟩, hb⟩

theorem blk_ty {w : World} {b : Nat} {t t' : TypeId} {cs cs' : Array Value} (h : Blk w b t cs) (h' : Blk w b t' cs') : t = t' := by
  have e := h.symm.trans h'
  injection e with e
  injection e
theorem OwM.soft {w w' : World} {L H k : Nat} {A : Option Addr} {s : Nat → Slt} (h : OwM w L H A k s) (hk : ∀ x cs, L ≤ x → (Blk w x 37 cs ∨ Blk w x 74 cs) → w'.heap[x]? = w.heap[x]?) : OwM w' L H A k s := fun h0 => by
  obtain ⟨b, cs, bs, As, ci, e, h1, h2, hB, hs, hc⟩ := h h0
  refine ⟨b, cs, bs, As, ci, e, h1, h2, (hk b cs h1 (.inl hB)).trans hB, hs, fun i hi => ⟨(hc i hi).1, fun hn => ?_, (hc i hi).2.2⟩⟩
  obtain ⟨q1, q2, q3, q4⟩ := (hc i hi).2.1 hn
  obtain ⟨cs', hb', _⟩ := id q4
  exact ⟨q1, q2, q3, q4.keep (hk _ cs' q2 (.inr hb'))⟩
theorem OwM.less {w : World} {L L' H k : Nat} {A : Option Addr} {s : Nat → Slt} (h : OwM w L H A k s) (hL : L' ≤ L) : OwM w L' H A k s := fun h0 => by
  obtain ⟨b, cs, bs, As, ci, e, h1, h2, hB, hs, hc⟩ := h h0
  exact ⟨b, cs, bs, As, ci, e, by omega, h2, hB, hs, fun i hi => ⟨(hc i hi).1, fun hn => by
    obtain ⟨q1, q2, q3, q4⟩ := (hc i hi).2.1 hn
    exact ⟨q1, by omega, q3, q4⟩, (hc i hi).2.2⟩⟩
theorem far3 {w : World} {p : Nat} (u0 u1 u2 : Value) (x : Nat) (hx : x ≠ p) : (((w.setCell ⟨p, 0, none⟩ u0).setCell ⟨p, 1, none⟩ u1).setCell ⟨p, 2, none⟩ u2).heap[x]? = w.heap[x]? :=
  (Below.heap_setCell _ _ _ x hx).trans ((Below.heap_setCell _ _ _ x hx).trans (Below.heap_setCell _ _ _ x hx))

/-- A cache that is being made: the block of the answer, the block of the cache, what it holds, the reader. -/
structure CaE (w0 : World) (R n cap : Nat) (A : Option Addr) (cb : Nat) (cp ck : Int) (A' : Option Addr) (k c : Nat) (s : Nat → Slt) (W : World) : Prop where
  lt : R < w0.heap.size ∧ w0.heap.size < cb
  zero : Blk W w0.heap.size 26 #[.int .i64 0, .int .i64 0, .slice none 0 0]
  cach : Blk W cb 26 #[.int .i64 cp, .int .i64 ck, .slice A' k c]
  good : k ≤ 8 ∧ ∀ i, i < k → (s i).n ≤ 16
  own : ∃ H, OwM W w0.heap.size H A' k s
  rs : Rs W R A n cap
  grown : w0.grownBy W (some R)
section
variable {w0 W W' : World} {R n cap cb k c k2 c2 x : Nat} {A A' A2 : Option Addr} {cp ck cp2 ck2 : Int} {s s2 : Nat → Slt} {q : Option Nat} {B : Bool}
theorem CaE.step (h : CaE w0 R n cap A cb cp ck A' k c s W) (hg : W.grownBy W' (some R)) (hr : Rs W' R A n cap) : CaE w0 R n cap A cb cp ck A' k c s W' := by
  have hl := h.lt
  obtain ⟨H, ho⟩ := h.own
  refine ⟨hl, (hg.block _ h.zero.lt (by intro e; injection e with e; omega)).trans h.zero, (hg.block _ h.cach.lt (by intro e; injection e with e; omega)).trans h.cach, h.good, ⟨H, ho.soft fun x cs hx hB => hg.block x (by rcases hB with h | h <;> exact h.lt) (by intro e; injection e with e; omega)⟩, hr, grown_trans h.grown hg⟩
theorem CaE.below (h : CaE w0 R n cap A cb cp ck A' k c s W) (hb : Below W.heap.size W W') : CaE w0 R n cap A cb cp ck A' k c s W' :=
  h.step ⟨hb.os, hb.tape, hb.output, hb.size, fun x hx _ => hb.block x hx⟩ (h.rs.below hb)
theorem CaE.alloc (h : CaE w0 R n cap A cb cp ck A' k c s W) (O : Obj) : CaE w0 R n cap A cb cp ck A' k c s (W.alloc O) := h.below ((Below.refl _ _).alloc (Nat.le_refl _) _)
theorem CaE.drew (h : CaE w0 R n cap A cb cp ck A' k c s W) : CaE w0 R n cap A cb cp ck A' k c s W.drew := h.below (Below.refl _ _).drew
/-- A block beside it is written. -/
theorem CaE.off (h : CaE w0 R n cap A cb cp ck A' k c s W) {cs : Array Value} (hx : Blk W x 26 cs) (h1 : x ≠ cb) (h2 : w0.heap.size < x) (u0 u1 u2 : Value) : CaE w0 R n cap A cb cp ck A' k c s (((W.setCell ⟨x, 0, none⟩ u0).setCell ⟨x, 1, none⟩ u1).setCell ⟨x, 2, none⟩ u2) := by
  have hl := h.lt
  obtain ⟨H, ho⟩ := h.own
  refine ⟨hl, (far3 u0 u1 u2 _ (by omega)).trans h.zero, (far3 u0 u1 u2 _ (by omega)).trans h.cach, h.good, ⟨H, ho.soft fun y cs' hy hB => far3 u0 u1 u2 y fun e => ?_⟩, ?_, ?_⟩
  · subst e
    rcases hB with hB | hB
    · exact absurd (blk_ty hx hB) (by decide)
    · exact absurd (blk_ty hx hB) (by decide)
  · exact rs_set (rs_set (rs_set h.rs (by show R < x; omega) _) (by show R < x; omega) _) (by show R < x; omega) _
  · exact grown_setNew (grown_setNew (grown_setNew h.grown (by show _ ≤ x; omega) _) (by show _ ≤ x; omega) _) (by show _ ≤ x; omega) _
/-- The cache itself is written. -/
theorem CaE.put3 (h : CaE w0 R n cap A cb cp ck A' k c s W) (hgo : k2 ≤ 8 ∧ ∀ i, i < k2 → (s2 i).n ≤ 16) (ho : ∃ H, OwM W w0.heap.size H A2 k2 s2) : CaE w0 R n cap A cb cp2 ck2 A2 k2 c2 s2 (((W.setCell ⟨cb, 0, none⟩ (.int .i64 cp2)).setCell ⟨cb, 1, none⟩ (.int .i64 ck2)).setCell ⟨cb, 2, none⟩ (.slice A2 k2 c2)) := by
  have hl := h.lt
  obtain ⟨H, ho⟩ := ho
  refine ⟨hl, (far3 _ _ _ _ (by omega)).trans h.zero, ((h.cach.set_ 0 _).set_ 1 _).set_ 2 _, hgo, ⟨H, ho.soft fun y cs' hy hB => far3 _ _ _ y fun e => ?_⟩, ?_, ?_⟩
  · subst e
    rcases hB with hB | hB
    · exact absurd (blk_ty h.cach hB) (by decide)
    · exact absurd (blk_ty h.cach hB) (by decide)
  · exact rs_set (rs_set (rs_set h.rs (by show R < cb; omega) _) (by show R < cb; omega) _) (by show R < cb; omega) _
  · exact grown_setNew (grown_setNew (grown_setNew h.grown (by show _ ≤ cb; omega) _) (by show _ ≤ cb; omega) _) (by show _ ≤ cb; omega) _
theorem CaE.rdC (h : CaE w0 R n cap A cb cp ck A' k c s W) : RdC W W.heap.size A' k s := by obtain ⟨H, ho⟩ := h.own; exact ho.rdC
theorem CaE.cells (h : CaE w0 R n cap A cb cp ck A' k c s W) : W.cell? ⟨cb, 0, none⟩ = some (.int .i64 cp) ∧ W.cell? ⟨cb, 1, none⟩ = some (.int .i64 ck) ∧ W.cell? ⟨cb, 2, none⟩ = some (.slice A' k c) := ⟨h.cach.cell 0, h.cach.cell 1, h.cach.cell 2⟩
/-- And a block that is not written yet, if it is there. -/
def CaP (w0 : World) (R n cap : Nat) (A : Option Addr) (cb : Nat) (cp ck : Int) (A' : Option Addr) (k c : Nat) (s : Nat → Slt) (q : Option Nat) (W : World) : Prop :=
  CaE w0 R n cap A cb cp ck A' k c s W ∧ ∀ x, q = some x → x ≠ cb ∧ w0.heap.size < x ∧ Blk W x 26 #[.int .i64 0, .int .i64 0, .slice none 0 0]
/-- And what was made of it. -/
def CaO (w0 : World) (R n cap : Nat) (A : Option Addr) (cb : Nat) (cp ck : Int) (A' : Option Addr) (k c : Nat) (s : Nat → Slt) (q : Option Nat) (B : Bool) (A2 : Option Addr) (k2 : Nat) (W : World) : Prop :=
  CaP w0 R n cap A cb cp ck A' k c s q W ∧ ∃ s2, (∃ H, OwM W w0.heap.size H A2 k2 s2) ∧ (B = true → k2 ≤ 8 ∧ ∀ i, i < k2 → (s2 i).n ≤ 16)
/-- The next cache lies in block x. -/
def CaN (w0 : World) (R n cap : Nat) (A : Option Addr) (cb : Nat) (cp ck : Int) (A' : Option Addr) (k c : Nat) (s : Nat → Slt) (x : Nat) (B : Bool) (W : World) : Prop :=
  CaE w0 R n cap A cb cp ck A' k c s W ∧ ∃ (cp2 ck2 : Int) (A2 : Option Addr) (k2 c2 : Nat) (s2 : Nat → Slt), Blk W x 26 #[.int .i64 cp2, .int .i64 ck2, .slice A2 k2 c2] ∧ (∃ H, OwM W w0.heap.size H A2 k2 s2) ∧ (B = true → k2 ≤ 8 ∧ ∀ i, i < k2 → (s2 i).n ≤ 16)
theorem CaP.e (h : CaP w0 R n cap A cb cp ck A' k c s q W) : CaE w0 R n cap A cb cp ck A' k c s W := h.1
theorem CaO.e (h : CaO w0 R n cap A cb cp ck A' k c s q B A2 k2 W) : CaE w0 R n cap A cb cp ck A' k c s W := h.1.1
theorem CaN.e (h : CaN w0 R n cap A cb cp ck A' k c s x B W) : CaE w0 R n cap A cb cp ck A' k c s W := h.1
theorem CaP.step (h : CaP w0 R n cap A cb cp ck A' k c s q W) (hg : W.grownBy W' (some R)) (hr : Rs W' R A n cap) : CaP w0 R n cap A cb cp ck A' k c s q W' :=
  ⟨h.1.step hg hr, fun x e => by
    obtain ⟨h1, h2, h3⟩ := h.2 x e
    have := h.1.lt
    exact ⟨h1, h2, (hg.block _ h3.lt (by intro e; injection e with e; omega)).trans h3⟩⟩
theorem CaP.drew (h : CaP w0 R n cap A cb cp ck A' k c s q W) : CaP w0 R n cap A cb cp ck A' k c s q W.drew := ⟨h.1.drew, h.2⟩
theorem CaP.alloc (h : CaP w0 R n cap A cb cp ck A' k c s none W) : CaP w0 R n cap A cb cp ck A' k c s (some W.heap.size) (W.alloc (.cells #[.int .i64 0, .int .i64 0, .slice none 0 0] 26)) :=
  ⟨h.1.alloc _, fun x e => by
    injection e with e
    subst e
    have h1 := h.1.cach.lt
    have h2 := h.1.zero.lt
    exact ⟨by omega, by omega, Blk.new W _ _⟩⟩
theorem CaP.made (h : CaP w0 R n cap A cb cp ck A' k c s q W) (hb : Below W.heap.size W W') (ho : OwC W' W.heap.size A2 k2 c2 s2) (hB : B = true → k2 ≤ 8 ∧ ∀ i, i < k2 → (s2 i).n ≤ 16) : CaO w0 R n cap A cb cp ck A' k c s q B A2 k2 W' :=
  ⟨⟨h.1.below hb, fun x e => by
    obtain ⟨h1, h2, h3⟩ := h.2 x e
    exact ⟨h1, h2, h3.below hb h3.lt⟩⟩, s2, ⟨_, ho.owM.less (Nat.le_of_lt h.1.zero.lt)⟩, hB⟩
theorem CaO.old (h : CaO w0 R n cap A cb cp ck A' k c s (some x) B A2 k2 W) : Blk W x 26 #[.int .i64 0, .int .i64 0, .slice none 0 0] := (h.1.2 x rfl).2.2
theorem CaO.new (h : CaO w0 R n cap A cb cp ck A' k c s none B A2 k2 W) (cp2 ck2 : Int) (c2 : Nat) : CaN w0 R n cap A cb cp ck A' k c s W.heap.size B (W.alloc (.cells #[.int .i64 cp2, .int .i64 ck2, .slice A2 k2 c2] 26)) := by
  obtain ⟨h1, s2, ⟨H, ho⟩, hB⟩ := h
  exact ⟨h1.1.alloc _, cp2, ck2, A2, k2, c2, s2, Blk.new W _ _, ⟨H, ho.below ((Below.refl _ _).alloc (Nat.le_refl _) _)⟩, hB⟩
theorem CaO.put (h : CaO w0 R n cap A cb cp ck A' k c s (some x) B A2 k2 W) (cp2 ck2 : Int) (c2 : Nat) : CaN w0 R n cap A cb cp ck A' k c s x B (((W.setCell ⟨x, 0, none⟩ (.int .i64 cp2)).setCell ⟨x, 1, none⟩ (.int .i64 ck2)).setCell ⟨x, 2, none⟩ (.slice A2 k2 c2)) := by
  obtain ⟨h1, s2, ⟨H, ho⟩, hB⟩ := h
  obtain ⟨e1, e2, e3⟩ := h1.2 x rfl
  refine ⟨h1.1.off e3 e1 e2 _ _ _, cp2, ck2, A2, k2, c2, s2, ((e3.set_ 0 _).set_ 1 _).set_ 2 _, ⟨H, ho.soft fun y cs' hy hY => far3 _ _ _ y fun e => ?_⟩, hB⟩
  subst e
  rcases hY with hY | hY
  · exact absurd (blk_ty e3 hY) (by decide)
  · exact absurd (blk_ty e3 hY) (by decide)
/-- One of its numbers is written. -/
theorem CaE.one (h : CaE w0 R n cap A cb cp ck A' k c s W) (i : Nat) (v : Value) (hv : Blk (W.setCell ⟨cb, i, none⟩ v) cb 26 #[.int .i64 cp2, .int .i64 ck2, .slice A' k c]) : CaE w0 R n cap A cb cp2 ck2 A' k c s (W.setCell ⟨cb, i, none⟩ v) := by
  have hl := h.lt
  obtain ⟨H, ho⟩ := h.own
  refine ⟨hl, (Below.heap_setCell _ _ _ _ (by show _ ≠ cb; omega)).trans h.zero, hv, h.good, ⟨H, ho.soft fun y cs' hy hB => Below.heap_setCell _ _ _ _ fun e => ?_⟩, rs_set h.rs (by show R < cb; omega) _, grown_setNew h.grown (by show _ ≤ cb; omega) _⟩
  have e : y = cb := e
  subst e
  rcases hB with hB | hB
  · exact absurd (blk_ty h.cach hB) (by decide)
  · exact absurd (blk_ty h.cach hB) (by decide)
theorem CaE.set0 (h : CaE w0 R n cap A cb cp ck A' k c s W) (y : Int) : CaE w0 R n cap A cb y ck A' k c s (W.setCell ⟨cb, 0, none⟩ (.int .i64 y)) := h.one 0 _ (h.cach.set_ 0 _)
theorem CaE.set1 (h : CaE w0 R n cap A cb cp ck A' k c s W) (y : Int) : CaE w0 R n cap A cb cp y A' k c s (W.setCell ⟨cb, 1, none⟩ (.int .i64 y)) := h.one 1 _ (h.cach.set_ 1 _)
/-- The answer is written. -/
theorem CaE.fin (h : CaE w0 R n cap A cb cp ck A' k c s W) : Blk (((W.setCell ⟨w0.heap.size, 0, none⟩ (.int .i64 cp)).setCell ⟨w0.heap.size, 1, none⟩ (.int .i64 ck)).setCell ⟨w0.heap.size, 2, none⟩ (.slice A' k c)) w0.heap.size 26 #[.int .i64 cp, .int .i64 ck, .slice A' k c] ∧
    (∃ H, OwM (((W.setCell ⟨w0.heap.size, 0, none⟩ (.int .i64 cp)).setCell ⟨w0.heap.size, 1, none⟩ (.int .i64 ck)).setCell ⟨w0.heap.size, 2, none⟩ (.slice A' k c)) w0.heap.size H A' k s) ∧
    Rs (((W.setCell ⟨w0.heap.size, 0, none⟩ (.int .i64 cp)).setCell ⟨w0.heap.size, 1, none⟩ (.int .i64 ck)).setCell ⟨w0.heap.size, 2, none⟩ (.slice A' k c)) R A n cap ∧
    w0.grownBy (((W.setCell ⟨w0.heap.size, 0, none⟩ (.int .i64 cp)).setCell ⟨w0.heap.size, 1, none⟩ (.int .i64 ck)).setCell ⟨w0.heap.size, 2, none⟩ (.slice A' k c)) (some R) := by
  have hl := h.lt
  obtain ⟨H, ho⟩ := h.own
  refine ⟨((h.zero.set_ 0 _).set_ 1 _).set_ 2 _, ⟨H, ho.soft fun y cs' hy hB => far3 _ _ _ y fun e => ?_⟩, ?_, ?_⟩
  · subst e
    rcases hB with hB | hB
    · exact absurd (blk_ty h.zero hB) (by decide)
    · exact absurd (blk_ty h.zero hB) (by decide)
  · exact rs_set (rs_set (rs_set h.rs hl.1 _) hl.1 _) hl.1 _
  · exact grown_setNew (grown_setNew (grown_setNew h.grown (Nat.le_refl _) _) (Nat.le_refl _) _) (Nat.le_refl _) _
/-- The row of a box or of numbers beside it. -/
theorem own_step {e : TypeId} {size m : Nat} {v : Value} {xs : List Value} (h : W.ownsRow w0.heap.size e size v m xs) (hR : R < w0.heap.size) (hg : W.grownBy W' (some R)) : W'.ownsRow w0.heap.size e size v m xs := own_grown h hg hR
end

set_option maxRecDepth 100000 in
set_option maxHeartbeats 1000000 in
theorem size7_draw (R n cap : Nat) (A : Option Addr) (w : World) (h : Rs w R A n cap) :
    Calls Try.prog 145 #[.pointer (some ⟨R, 0, none⟩), .int .i64 4, .int .i64 7] w fun e w' =>
      ∃ x : Nat, e = .returned (.int .i64 x) ∧ x ≤ 7 ∧ Rs w' R A n cap ∧ w.grownBy w' (some R) := by
  obtain ⟨⟨p, hp, hb⟩, hbs, hn⟩ := id h
  have c0 : w.cell? ⟨R, 0, none⟩ = some (.slice A n cap) := hb.cell 0
  have hq0 : 0 ≤ (n : Int) / 4 := by omega
  have hq1 : (n : Int) / 4 ≤ 2000000 := by omega
  clear hb hp
  go_enter Try.func145, Try.ntmps145
  by_cases h8 : (7 : Int) < 1 + (n : Int) / 4
  · go_wp2_with fail
    refine (below_any R n cap A 7 _ h (by omega) (by omega)).mono ?_
    rintro e w1 ⟨x, rfl, hx0, hx1, hR1, hg1⟩
    obtain ⟨x, rfl⟩ := Int.eq_ofNat_of_zero_le hx0
    go_wp2_with fail
    go_ret
    exact ⟨1 + x, by simp, by omega, hR1, hg1⟩
  · go_wp2_with fail
    refine (below_any R n cap A (1 + (n : Int) / 4) _ h (by omega) (by omega)).mono ?_
    rintro e w1 ⟨x, rfl, hx0, hx1, hR1, hg1⟩
    obtain ⟨x, rfl⟩ := Int.eq_ofNat_of_zero_le hx0
    go_wp2_with fail
    go_ret
    exact ⟨1 + x, by simp, by omega, hR1, hg1⟩
end Go.Proofs.Ytckhooibjmheiaa
