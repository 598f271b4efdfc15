/- The draw of an ensemble that is hurt. -/
import Derived.Test.YtmkipdhappikhaaGreatDoorDrawX
import Derived.Test.YtmkipdhappikhaaGreatDoorK8
import Derived.Deep.RegionLaw
import Derived.Deep.AppendLies
namespace Go.Proofs.YtmkipdhappikhaaGreatDoor

/-! ### EnsDrawG -/
section
set_option linter.unusedVariables false
set_option linter.unusedSimpArgs false
open Go.RowKit Go.Deep

set_option maxRecDepth 100000 in
set_option maxHeartbeats 2000000 in
theorem size_draw (R n cap : Nat) (A : Option Addr) (w : World) (h : Rs w R A n cap) :
    Calls Tryz.prog 62 #[.pointer (some ⟨R, 0, none⟩), .int .i64 4, .int .i64 8] w fun e w' =>
      ∃ x : Nat, e = .returned (.int .i64 x) ∧ x ≤ 8 ∧ Rs w' R A n cap ∧ w.grownBy w' (some R) := by
  obtain ⟨⟨p, hp, hb⟩, hbs, hn⟩ := id h
  have c0 : w.cell? ⟨R, 0, none⟩ = some (.slice A n cap) := hb.cell 0
  have hq0 : 0 ≤ (n : Int) / 4 := by omega
  have hq1 : (n : Int) / 4 ≤ 2000000 := by omega
  clear hb hp
  go_enter Tryz.func62, Tryz.ntmps62
  by_cases h8 : (8 : Int) < 1 + (n : Int) / 4
  · go_wp2_with fail
    refine (below_any R n cap A 8 _ h (by omega) (by omega)).mono ?_
    rintro e w1 ⟨x, rfl, hx0, hx1, hR1, hg1⟩
    obtain ⟨x, rfl⟩ := Int.eq_ofNat_of_zero_le hx0
    go_wp2_with fail
    go_ret
    exact ⟨1 + x, by simp, by omega, hR1, hg1⟩
  · go_wp2_with fail
    refine (below_any R n cap A (1 + (n : Int) / 4) _ h (by omega) (by omega)).mono ?_
    rintro e w1 ⟨x, rfl, hx0, hx1, hR1, hg1⟩
    obtain ⟨x, rfl⟩ := Int.eq_ofNat_of_zero_le hx0
    go_wp2_with fail
    go_ret
    exact ⟨1 + x, by simp, by omega, hR1, hg1⟩

/-- The headers of the trees. -/
def hdrC (n : Nat) (bl ln cp : Nat → Nat) : List Value := (List.range n).map fun i => .slice (some ⟨bl i, 0, none⟩) (ln i) (cp i)
def upN (f : Nat → Nat) (k x : Nat) : Nat → Nat := fun i => if i = k then x else f i
def upL (f : Nat → List Nd) (k : Nat) (x : List Nd) : Nat → List Nd := fun i => if i = k then x else f i
theorem upN_same (f : Nat → Nat) (k x : Nat) : upN f k x k = x := if_pos rfl
theorem upN_other {f : Nat → Nat} {k x i : Nat} (h : i ≠ k) : upN f k x i = f i := if_neg h
theorem upL_same (f : Nat → List Nd) (k : Nat) (x : List Nd) : upL f k x k = x := if_pos rfl
theorem upL_other {f : Nat → List Nd} {k i : Nat} {x : List Nd} (h : i ≠ k) : upL f k x i = f i := if_neg h
theorem hdrC_snoc (n : Nat) (bl ln cp : Nat → Nat) (b l c : Nat) : hdrC (n + 1) (upN bl n b) (upN ln n l) (upN cp n c) = hdrC n bl ln cp ++ [.slice (some ⟨b, 0, none⟩) l c] := by
  unfold hdrC
  rw [List.range_succ, List.map_append, List.map_cons, List.map_nil, upN_same, upN_same, upN_same]
  congr 1
  refine List.map_congr_left fun i hi => ?_
  have hi' : i ≠ n := by have := List.mem_range.1 hi; omega
  rw [upN_other hi', upN_other hi', upN_other hi']

theorem own_keep {w w' : World} {B : Nat} {e : TypeId} {size : Nat} {v : Value} {n : Nat} {xs : List Value} (h : w.ownsRow B e size v n xs) (hk : ∀ g, B ≤ g → g < w.heap.size → v.ownBlock = some g → w'.heap[g]? = w.heap[g]?) : w'.ownsRow B e size v n xs := by
  refine ⟨h.1, ?_⟩
  rcases h.2 with h0 | ⟨g, cap, cur, hv, hb, hg, rest⟩
  · exact .inl h0
  · exact .inr ⟨g, cap, cur, hv, hb, (hk g hb (Blk.lt hg) (by rw [hv]; rfl)).trans hg, rest⟩

/-- Trees in memory of their own, one block behind the other. -/
def Trees (w : World) (B n : Nat) (bl ln cp : Nat → Nat) (ds : Nat → List Nd) : Prop :=
  ∀ i, i < n → (1 ≤ ln i ∧ ln i ≤ 15) ∧ Owned w B (some ⟨bl i, 0, none⟩) (ln i) (cp i) (ds i) ∧ (B ≤ bl i ∧ bl i < w.heap.size) ∧ ∀ j, j < i → bl j < bl i
theorem Trees.keep {w w' : World} {B n : Nat} {bl ln cp : Nat → Nat} {ds : Nat → List Nd} (h : Trees w B n bl ln cp ds) (hs : w.heap.size ≤ w'.heap.size) (hk : ∀ i, i < n → w'.heap[bl i]? = w.heap[bl i]?) : Trees w' B n bl ln cp ds := fun i hi => by
  obtain ⟨a, b, ⟨c1, c2⟩, d⟩ := h i hi
  refine ⟨a, ⟨b.1, own_keep b.2 fun g _ _ hg => ?_⟩, ⟨c1, by omega⟩, d⟩
  have : bl i = g := by
    have e : (Value.slice (some ⟨bl i, 0, none⟩) (ln i) (cp i)).ownBlock = some (bl i) := rfl
    rw [e] at hg
    injection hg
  rw [← this]; exact hk i hi
theorem Trees.grown {w w' : World} {B n R : Nat} {bl ln cp : Nat → Nat} {ds : Nat → List Nd} (h : Trees w B n bl ln cp ds) (hg : w.grownBy w' (some R)) (hR : R < B) : Trees w' B n bl ln cp ds :=
  h.keep hg.size fun i hi => hg.block (bl i) (h i hi).2.2.1.2 (by have := (h i hi).2.2.1.1; intro e; injection e with e; omega)
theorem Trees.snoc {w : World} {B B2 n b l c : Nat} {bl ln cp : Nat → Nat} {ds : Nat → List Nd} {dl : List Nd} (h : Trees w B n bl ln cp ds) (hl : 1 ≤ l ∧ l ≤ 15) (ho : Owned w B2 (some ⟨b, 0, none⟩) l c dl) (hB : B ≤ B2) (hb : B2 ≤ b ∧ b < w.heap.size) (hlt : ∀ i, i < n → bl i < B2) :
    Trees w B (n + 1) (upN bl n b) (upN ln n l) (upN cp n c) (upL ds n dl) := fun i hi => by
  by_cases e : i = n
  · subst e
    rw [upN_same, upN_same, upN_same, upL_same]
    refine ⟨hl, ⟨ho.1, own_more ho.2 hB⟩, ⟨by omega, hb.2⟩, fun j hj => ?_⟩
    rw [upN_other (by omega)]
    have := hlt j hj
    omega
  · have hi' : i < n := by omega
    rw [upN_other e, upN_other e, upN_other e, upL_other e]
    obtain ⟨a, b', c', d⟩ := h i hi'
    refine ⟨a, b', c', fun j hj => ?_⟩
    rw [upN_other (by omega)]
    exact d j hj
theorem trees_nil {w : World} {B : Nat} {bl ln cp : Nat → Nat} {ds : Nat → List Nd} : Trees w B 0 bl ln cp ds := fun i hi => by omega

def EnsDrawn (R n cap : Nat) (A : Option Addr) (w : World) (e : Ending) (w' : World) : Prop :=
  ∃ (f b : Int) (k : Nat) (A' : Option Addr) (c : Nat) (bl ln cp : Nat → Nat) (ds : Nat → List Nd), k ≤ 12 ∧ e = .returned (enV f b A' k c) ∧ w'.ownsRow w.heap.size 45 1 (.slice A' k c) k (hdrC k bl ln cp) ∧ Trees w' w.heap.size k bl ln cp ds ∧ Rs w' R A n cap ∧ w.grownBy w' (some R)

/-- An ensemble that is being made: its own cell eb, its trees behind it. -/
def MakingG (w0 : World) (R n cap : Nat) (A : Option Addr) (eb : Nat) (f b : Int) (k : Nat) (A' : Option Addr) (c : Nat) (w : World) : Prop :=
  ∃ (bl ln cp : Nat → Nat) (ds : Nat → List Nd), Blk w w0.heap.size 26 #[.int .i64 0, .int .i64 0, .slice none 0 0] ∧ Blk w eb 26 #[.int .i64 f, .int .i64 b, .slice A' k c] ∧ w.ownsRow (eb + 1) 45 1 (.slice A' k c) k (hdrC k bl ln cp) ∧ Trees w (eb + 1) k bl ln cp ds ∧ Rs w R A n cap ∧ w0.grownBy w (some R)

theorem own_block_lt {w : World} {B : Nat} {e : TypeId} {size : Nat} {v : Value} {n : Nat} {xs : List Value} (h : w.ownsRow B e size v n xs) : ∀ x, v.ownBlock = some x → B ≤ x ∧ x < w.heap.size ∧ ∃ cs, Blk w x e cs := by
  intro x hx
  rcases h.2 with ⟨rfl, _⟩ | ⟨g, cap, cur, rfl, hb, hg, _⟩
  · cases hx
  · have e1 : (Value.slice (some ⟨g, 0, none⟩) n cap).ownBlock = some g := rfl
    rw [e1] at hx
    injection hx with hx
    subst hx
    exact ⟨hb, Blk.lt hg, _, hg⟩

theorem making_next {w0 wr w4 w5 : World} {R n cap eb k m4 b4 c4 gg c cp5 : Nat} {A A' : Option Addr} {f b : Int} {bl ln cp : Nat → Nat} {ds : Nat → List Nd} {ds4 : List Nd}
    (hB : Blk wr w0.heap.size 26 #[.int .i64 0, .int .i64 0, .slice none 0 0]) (hT : Trees wr (eb + 1) k bl ln cp ds) (hg : w0.grownBy wr (some R)) (hRw : R < w0.heap.size) (hweb : w0.heap.size < eb) (hebl : eb < wr.heap.size)
    (hm4 : 1 ≤ m4 ∧ m4 ≤ 15) (hown4 : Owned w4 wr.drew.heap.size (some ⟨b4, 0, none⟩) m4 c4 ds4) (hb4 : wr.heap.size ≤ b4) (hb4l : b4 < w4.heap.size) (hR4 : Rs w4 R A n cap) (hg4 : wr.drew.grownBy w4 (some R))
    (hownr : w4.ownsRow (eb + 1) 45 1 (.slice A' k c) k (hdrC k bl ln cp)) (hE5 : Blk w5 eb 26 #[.int .i64 f, .int .i64 b, .slice A' k c])
    (hown5 : w5.ownsRow (eb + 1) 45 1 (.slice (some ⟨gg, 0, none⟩) (k + 1) cp5) (k + 1) (hdrC k bl ln cp ++ [.slice (some ⟨b4, 0, none⟩) m4 c4]))
    (O : Obj) (hgrow : (w4.alloc O).grownBy w5 (Value.slice A' k c).ownBlock) :
    MakingG w0 R n cap A eb f b (k + 1) (some ⟨gg, 0, none⟩) cp5 (w5.setCell ⟨eb, 2, none⟩ (.slice (some ⟨gg, 0, none⟩) (k + 1) cp5)) := by
  have hs4 : wr.heap.size ≤ w4.heap.size := hg4.size
  have hrow := own_block_lt hownr
  have hB4 : Blk w4 w0.heap.size 26 #[.int .i64 0, .int .i64 0, .slice none 0 0] := (hg4.block w0.heap.size (by have := hB.lt; exact this) (by intro e; injection e with e; omega)).trans hB
  have hB5 : Blk w5 w0.heap.size 26 #[.int .i64 0, .int .i64 0, .slice none 0 0] := (hB4.alloc O).grown hgrow (by intro e; have := (hrow _ e.symm).1; omega)
  have hT4 : Trees w4 (eb + 1) k bl ln cp ds := Trees.grown (w := wr.drew) hT hg4 (by omega)
  have hT4' := hT4.snoc hm4 hown4 (show eb + 1 ≤ wr.drew.heap.size from hebl) ⟨hb4, hb4l⟩ (fun i hi => (hT i hi).2.2.1.2)
  refine ⟨upN bl k b4, upN ln k m4, upN cp k c4, upL ds k ds4, hB5.far (p := ⟨eb, 2, none⟩) (Nat.ne_of_lt hweb) _, hE5.set_ 2 _, ?_, ?_, ?_, ?_⟩
  · rw [hdrC_snoc]
    exact own_keep hown5 fun g hg _ _ => Below.heap_setCell _ _ _ g (by show g ≠ eb; omega)
  · refine hT4'.keep ?_ fun i hi => ?_
    · have := hgrow.size
      rw [World.size_alloc] at this
      simp [World.setCell]
      omega
    · obtain ⟨ha, ho, ⟨h1, h2⟩, _⟩ := hT4' i hi
      refine (Below.heap_setCell _ _ _ _ (by show upN bl k b4 i ≠ eb; omega)).trans ((hgrow.block _ (by rw [World.size_alloc]; omega) ?_).trans (Below.heap_alloc w4 O _ h2))
      intro e
      obtain ⟨_, _, cs, hcs⟩ := hrow _ e.symm
      obtain ⟨_, _, cs', hcs'⟩ := own_block_lt ho.2 _ rfl
      exact hcs.ne_ hcs' (by decide) rfl
  · exact rs_set (rs_own (B := eb + 1) hR4 O hgrow (fun x hx => (hrow x hx).1) (by omega)) (p := ⟨eb, 2, none⟩) (by show R < eb; omega) _
  · exact grown_setNew (grown_own (grown_trans (show w0.grownBy wr.drew (some R) from ⟨hg.os, hg.tape, hg.output, hg.size, hg.block⟩) hg4) O hgrow (fun x hx => by have := (hrow x hx).1; omega)) (p := ⟨eb, 2, none⟩) (by show w0.heap.size ≤ eb; omega) _

theorem making_grown {w0 w w' : World} {R n cap eb k c : Nat} {A A' : Option Addr} {f b : Int} (hM : MakingG w0 R n cap A eb f b k A' c w) (hRw : R < w0.heap.size) (hweb : w0.heap.size < eb) (hR : Rs w' R A n cap) (hg : w.grownBy w' (some R)) : MakingG w0 R n cap A eb f b k A' c w' := by
  obtain ⟨bl, ln, cp, ds, hB, hE, hown, hT, _, hg0⟩ := hM
  exact ⟨bl, ln, cp, ds, hB.grown hg (by intro e; injection e with e; omega), hE.grown hg (by intro e; injection e with e; omega), own_grown hown hg (by omega), hT.grown hg (by omega), hR, grown_trans hg0 hg⟩
theorem making_bias {w0 w : World} {R n cap eb k c : Nat} {A A' : Option Addr} {f b : Int} (hM : MakingG w0 R n cap A eb f b k A' c w) (hRw : R < w0.heap.size) (hweb : w0.heap.size < eb) (b' : Int) : MakingG w0 R n cap A eb f b' k A' c (w.setCell ⟨eb, 1, none⟩ (.int .i64 b')) := by
  obtain ⟨bl, ln, cp, ds, hB, hE, hown, hT, hR, hg0⟩ := hM
  refine ⟨bl, ln, cp, ds, hB.far (p := ⟨eb, 1, none⟩) (Nat.ne_of_lt hweb) _, hE.set_ 1 _, own_keep hown fun g hg _ _ => Below.heap_setCell _ _ _ g (by show g ≠ eb; omega), hT.keep (by simp [World.setCell]) fun i hi => Below.heap_setCell _ _ _ _ (by have := (hT i hi).2.2.1.1; show bl i ≠ eb; omega), rs_set hR (p := ⟨eb, 1, none⟩) (by show R < eb; omega) _, grown_setNew hg0 (p := ⟨eb, 1, none⟩) (by show w0.heap.size ≤ eb; omega) _⟩
theorem making_end {w0 w : World} {R n cap eb k c : Nat} {A A' : Option Addr} {f b : Int} (hM : MakingG w0 R n cap A eb f b k A' c w) (hRw : R < w0.heap.size) (hweb : w0.heap.size < eb) (hk : k ≤ 12) :
    Blk (((w.setCell ⟨w0.heap.size, 0, none⟩ (.int .i64 f)).setCell ⟨w0.heap.size, 1, none⟩ (.int .i64 b)).setCell ⟨w0.heap.size, 2, none⟩ (.slice A' k c)) w0.heap.size 26 #[.int .i64 f, .int .i64 b, .slice A' k c] ∧
    EnsDrawn R n cap A w0 (.returned (enV f b A' k c)) (((w.setCell ⟨w0.heap.size, 0, none⟩ (.int .i64 f)).setCell ⟨w0.heap.size, 1, none⟩ (.int .i64 b)).setCell ⟨w0.heap.size, 2, none⟩ (.slice A' k c)) := by
  obtain ⟨bl, ln, cp, ds, hB, hE, hown, hT, hR, hg0⟩ := hM
  have hs : ∀ (i : Nat), i ≠ w0.heap.size → (((w.setCell ⟨w0.heap.size, 0, none⟩ (.int .i64 f)).setCell ⟨w0.heap.size, 1, none⟩ (.int .i64 b)).setCell ⟨w0.heap.size, 2, none⟩ (.slice A' k c)).heap[i]? = w.heap[i]? := fun i hi =>
    (Below.heap_setCell _ _ _ i hi).trans ((Below.heap_setCell _ _ _ i hi).trans (Below.heap_setCell _ _ _ i hi))
  refine ⟨((hB.set_ 0 _).set_ 1 _).set_ 2 _, f, b, k, A', c, bl, ln, cp, ds, hk, rfl, own_more (own_keep hown fun g hg _ _ => hs g (by omega)) (by omega), ?_, ?_, ?_⟩
  · have hT' : Trees _ (eb + 1) k bl ln cp ds := hT.keep (w' := ((w.setCell ⟨w0.heap.size, 0, none⟩ (.int .i64 f)).setCell ⟨w0.heap.size, 1, none⟩ (.int .i64 b)).setCell ⟨w0.heap.size, 2, none⟩ (.slice A' k c)) (by simp [World.setCell]) fun i hi => hs _ (by have := (hT i hi).2.2.1.1; omega)
    exact fun i hi => ⟨(hT' i hi).1, ⟨(hT' i hi).2.1.1, own_more (hT' i hi).2.1.2 (by omega)⟩, ⟨by have := (hT' i hi).2.2.1.1; omega, (hT' i hi).2.2.1.2⟩, (hT' i hi).2.2.2⟩
  · exact rs_set (rs_set (rs_set hR hRw _) hRw _) hRw _
  · exact grown_setNew (grown_setNew (grown_setNew hg0 (Nat.le_refl _) _) (Nat.le_refl _) _) (Nat.le_refl _) _

set_option maxRecDepth 100000 in
set_option maxHeartbeats 8000000 in
theorem ens_draw (R n cap : Nat) (A : Option Addr) (f : Int) (hf1 : 1 ≤ f) (hf6 : f ≤ 6) (w : World) (h : Rs w R A n cap) :
    Calls Tryz.prog 28 #[.pointer (some ⟨R, 0, none⟩), .int .i64 f] w (EnsDrawn R n cap A w) := by
  obtain ⟨i0, hi0, hz0, hz1, hz2⟩ := info_parts info_nodes
  have hRw := h.lt
  go_enter Tryz.func28, Tryz.ntmps28
  go_wp2_with fail
  refine (below_draw R n cap A 40 _ (h.alloc _) (by omega) (by omega)).mono ?_
  rintro e w1 ⟨x, rfl, hx0, hx1, hR1, hg1⟩
  have hB1 : Blk w1 w.heap.size 26 #[.int .i64 0, .int .i64 0, .slice none 0 0] := (hg1.block w.heap.size (by simp) (by intro e; injection e with e; omega)).trans (Blk.new w _ _)
  have hw1 : w.grownBy w1 (some R) := grown_trans (World.grownBy_alloc w _ _) hg1
  clear hg1
  go_wp2_with fail
  have hE2 := Blk.new w1 26 #[.int .i64 f, .int .i64 (x - 20), .slice none 0 0]
  refine (size_draw R n cap A _ (hR1.alloc _)).mono ?_
  rintro e w3 ⟨s, rfl, hs, hR3, hg3⟩
  have hE3 : Blk w3 w1.heap.size 26 #[.int .i64 f, .int .i64 (x - 20), .slice none 0 0] := (hg3.block w1.heap.size (by simp) (by intro e; injection e with e; have := hR1.lt; omega)).trans hE2
  have hB3 : Blk w3 w.heap.size 26 #[.int .i64 0, .int .i64 0, .slice none 0 0] := (hg3.block w.heap.size (by have := hB1.lt; simp; omega) (by intro e; injection e with e; omega)).trans (hB1.alloc _)
  have hw3 : w.grownBy w3 (some R) := grown_trans (grown_trans hw1 (World.grownBy_alloc w1 _ _)) hg3
  have hweb : w.heap.size < w1.heap.size := hB1.lt
  clear hE2 hg3 hB1 hR1 hw1
  generalize w1.heap.size = eb at *
  generalize x - 20 = b at *
  clear hx0 hx1
  go_wp2_with fail
  have hM3 : Hid (MakingG w R n cap A eb f b 0 none 0 w3) := ⟨fun _ => 0, fun _ => 0, fun _ => 0, fun _ => [], hB3, hE3, ⟨rfl, .inl ⟨rfl, rfl⟩⟩, trees_nil, hR3, hw3⟩
  clear hB3 hE3 hR3 hw3
  go_loopw [6] (fun i wr => ∃ (r k : Nat) (A' : Option Addr) (c : Nat), k + r ≤ 8 ∧ i = .int .i64 r ∧ Hid (MakingG w R n cap A eb f b k A' c wr)) (fun i _ => (intOf i).toNat)
  case atStart => exact ⟨s, 0, none, 0, by omega, rfl, hM3⟩
  case round =>
    obtain ⟨r, k, A', c, hkr, rfl, hM⟩ := hrel
    obtain ⟨bl, ln, cp, ds, hB, hE, hown, hT, hR, hg⟩ := hM.out
    by_cases hr : 0 < r
    · obtain ⟨r, rfl⟩ : ∃ r', r = r' + 1 := ⟨r - 1, by omega⟩
      have i1 : (0 : Int) < ((r + 1 : Nat) : Int) := by omega
      have hEd : Blk wr.drew eb 26 #[.int .i64 f, .int .i64 b, .slice A' k c] := hE
      have hRd : Rs wr.drew R A n cap := hR
      have cE : wr.cell? ⟨eb, 2, none⟩ = some (.slice A' k c) := hE.cell 2
      have cEd : wr.drew.cell? ⟨eb, 2, none⟩ = some (.slice A' k c) := hE.cell 2
      have HB := hid hB
      have HT := hid hT
      have HG := hid hg
      have hebl : eb < wr.heap.size := hE.lt
      have hRe : R < eb := by omega
      have hownd : wr.drew.ownsRow (eb + 1) 45 1 (.slice A' k c) k (hdrC k bl ln cp) := hown
      clear hB hT hg hown hR hM
      go_wp2_with fail
      go_region_law
        (first
          | (refine step_append_lies _ (by rfl) _ _ _ (by rfl) (eb + 1) 45 i0 _ 1 24 Tryz.underlying24 hi0 hz0 hz1 hz2 rfl (by omega) (.slice A' k c) k (hdrC k bl ln cp) (by rfl) (hownr.alloc _) ⟨w4.heap.size, 0, none⟩ 1 1 [.slice (some ⟨b4, 0, none⟩) m4 c4] (by rfl) (by rfl) (World.news_of_block (cs := #[.slice (some ⟨b4, 0, none⟩) m4 c4]) (t := 45) (fr := (0, 0)) (heap_alloc_new w4 _)) (by simp [Value.oneCell']) (by omega) (by unfold maxLen; omega) (by omega) (by simp; omega) (w4.heap.size + 1) (by simp) ?_; intro gg cp5 w5 hown5 hgrow hat hlt5; have hE5 : Blk w5 eb 26 #[.int .i64 f, .int .i64 b, .slice A' k c] := (hgrow.block eb (by simp; omega) (by intro e; have := own_block_lt hownr eb e.symm; omega)).trans (hE4.alloc _); have cE5 : w5.cell? ⟨eb, 2, none⟩ = some (.slice A' k c) := hE5.cell 2; have fE5 : w5.frozen? ⟨eb, 2, none⟩ = false := hE5.frozen 2)
          | (go_simp; go_at_call 63; refine (tree_draw R n cap A f hf1 hf6 wr.drew hRd).mono ?_; rintro e w4 ⟨m4, ds4, A4, c4, hm4, hm4', rfl, hown4, hR4, hg4⟩; obtain ⟨b4, rfl, hb4, hb4l, _⟩ := ndRow_own hown4 (by omega); have hE4 : Blk w4 eb 26 #[.int .i64 f, .int .i64 b, .slice A' k c] := (hg4.block eb hebl (by intro e; injection e with e; omega)).trans hE; have cE4 : w4.cell? ⟨eb, 2, none⟩ = some (.slice A' k c) := hE4.cell 2; have cE4a : (w4.alloc (.cells #[.slice (some ⟨b4, 0, none⟩) m4 c4] 45)).cell? ⟨eb, 2, none⟩ = some (.slice A' k c) := (hE4.alloc _).cell 2; have hownr : w4.ownsRow (eb + 1) 45 1 (.slice A' k c) k (hdrC k bl ln cp) := own_grown hownd hg4 (by omega); have hs4 : wr.heap.size ≤ w4.heap.size := hg4.size; have hb4' : wr.heap.size ≤ b4 := hb4))
      all_goals
        have hMn := making_next (f := f) (b := b) HB.out HT.out HG.out hRw hweb hebl ⟨hm4, by omega⟩ hown4 hb4' hb4l hR4 hg4 hownr hE5 hown5 _ hgrow
        have HMn := hid hMn
        clear hMn
        go_wp2_with fail
        go_roundw
        case rel => exact ⟨r, k + 1, some ⟨gg, 0, none⟩, cp5, by omega, by go_num, HMn⟩
        case measure => simp [intOf]
    · have hr0 : r = 0 := by omega
      subst hr0
      go_wp2_with fail
      refine (below_draw R n cap A 30 _ hR (by omega) (by omega)).mono ?_
      rintro e w4 ⟨q, rfl, hq0, hq1, hR4, hg4⟩
      have hM4 := making_grown hM.out hRw hweb hR4 hg4
      clear hB hE hown hT hR hg hg4 hM
      have hne : w.heap.size ≠ eb := by omega
      have hne' : eb ≠ w.heap.size := by omega
      by_cases q0 : q = 0
      · subst q0
        go_wp2_with fail
        refine (off_draw R n cap A (-1000000000) 1000000000 _ hR4 (by omega) (by omega) (by omega) (by omega)).mono ?_
        rintro e w5 ⟨y, rfl, hR5, hg5⟩
        have hM5 := making_grown hM4 hRw hweb hR5 hg5
        clear hM4 hR4 hg5 hR5
        obtain ⟨bl', ln', cp', ds', hBX, hEX, _⟩ := id hM5
        have a0 : w5.cell? ⟨w.heap.size, 0, none⟩ = some (.int .i64 0) := hBX.cell 0
        have a1 : w5.cell? ⟨w.heap.size, 1, none⟩ = some (.int .i64 0) := hBX.cell 1
        have a2 : w5.cell? ⟨w.heap.size, 2, none⟩ = some (.slice none 0 0) := hBX.cell 2
        have a3 : w5.frozen? ⟨w.heap.size, 0, none⟩ = false := hBX.frozen 0
        have a4 : w5.frozen? ⟨w.heap.size, 1, none⟩ = false := hBX.frozen 1
        have a5 : w5.frozen? ⟨w.heap.size, 2, none⟩ = false := hBX.frozen 2
        have e0 : w5.cell? ⟨eb, 0, none⟩ = some (.int .i64 f) := hEX.cell 0
        have e1 : w5.cell? ⟨eb, 1, none⟩ = some (.int .i64 b) := hEX.cell 1
        have e2 : w5.cell? ⟨eb, 2, none⟩ = some (.slice A' k c) := hEX.cell 2
        have e4 : w5.frozen? ⟨eb, 1, none⟩ = false := hEX.frozen 1
        clear hBX hEX
        have HEND := hid (making_end (making_bias hM5 hRw hweb (y.tmod 1000000001)) hRw hweb (show k ≤ 12 by omega))
        clear hM5
        go_wp2_with fail
        have hend := HEND.out
        (try simp only [Exit.inBlock, Exit.then])
        refine bodyPost_ret (results_cell_row rfl _ _ w.heap.size 26 #[.int .i64 f, .int .i64 (y.tmod 1000000001), .slice A' k c] (0, 0) _ rfl hend.1 Tryz.underlying26 rfl size_ens) rfl hend.2
      · by_cases q1 : q = 1
        · subst q1
          go_wp2_with fail
          have HM4 := hid hM4
          clear hM4 hR4
          go_loopw [] (fun wr => ∃ (k : Nat) (A' : Option Addr) (c : Nat), k ≤ 12 ∧ Hid (MakingG w R n cap A eb f b k A' c wr)) (fun wr => match wr.cell? ⟨eb, 2, none⟩ with | some (.slice _ k _) => 12 - k | _ => 0)
          case atStart => exact ⟨k, A', c, by omega, HM4⟩
          case round =>
            clear HM4
            obtain ⟨k, A', c, hk, hM⟩ := hrel
            obtain ⟨bl, ln, cp, ds, hB, hE, hown, hT, hR, hg⟩ := hM.out
            by_cases hlt : k < 12
            · have i1 : (k : Int) < 12 := by omega
              have hRd : Rs wr.drew R A n cap := hR
              have cE : wr.cell? ⟨eb, 2, none⟩ = some (.slice A' k c) := hE.cell 2
              have cEd : wr.drew.cell? ⟨eb, 2, none⟩ = some (.slice A' k c) := hE.cell 2
              have HB := hid hB
              have HT := hid hT
              have HG := hid hg
              have hebl : eb < wr.heap.size := hE.lt
              have hRe : R < eb := by omega
              have hownd : wr.drew.ownsRow (eb + 1) 45 1 (.slice A' k c) k (hdrC k bl ln cp) := hown
              clear hB hT hg hown hR hM
              go_wp2_with fail
              go_region_law
                (first
                  | (refine step_append_lies _ (by rfl) _ _ _ (by rfl) (eb + 1) 45 i0 _ 1 24 Tryz.underlying24 hi0 hz0 hz1 hz2 rfl (by omega) (.slice A' k c) k (hdrC k bl ln cp) (by rfl) ((hownr.alloc _).alloc _) ⟨w4.heap.size + 1, 0, none⟩ 1 1 [.slice (some ⟨w4.heap.size, 0, none⟩) 1 1] (by rfl) (by rfl) (World.news_of_block (cs := #[.slice (some ⟨w4.heap.size, 0, none⟩) 1 1]) (t := 45) (fr := (0, 0)) (Blk.new2 w4 _ _ _)) (by simp [Value.oneCell']) (by omega) (by unfold maxLen; omega) (by omega) (by simp; omega) (w4.heap.size + 2) (by simp) ?_; intro gg cp5 w5 hown5 hgrow hat hlt5; have hE5 : Blk w5 eb 26 #[.int .i64 f, .int .i64 b, .slice A' k c] := (hgrow.block eb (by simp; omega) (by intro e; have := own_block_lt hownr eb e.symm; omega)).trans ((hE4.alloc _).alloc _); have cE5 : w5.cell? ⟨eb, 2, none⟩ = some (.slice A' k c) := hE5.cell 2; have fE5 : w5.frozen? ⟨eb, 2, none⟩ = false := hE5.frozen 2)
                  | (go_simp; go_at_call 65; refine (leaf_draw R n cap A wr.drew hRd).mono ?_; rintro e w4 ⟨d, rfl, hR4, hg4⟩; have hE4 : Blk w4 eb 26 #[.int .i64 f, .int .i64 b, .slice A' k c] := (hg4.block eb hebl (by intro e; injection e with e; omega)).trans hE; have cE4 : w4.cell? ⟨eb, 2, none⟩ = some (.slice A' k c) := hE4.cell 2; have cE4a : (w4.alloc (.cells #[.int .i64 d.feat, .int .i64 d.cut, .int .i64 d.left, .int .i64 d.right, .bool d.miss, .int .i64 d.value] 58)).cell? ⟨eb, 2, none⟩ = some (.slice A' k c) := (hE4.alloc _).cell 2; have cE4b : ((w4.alloc (.cells #[.int .i64 d.feat, .int .i64 d.cut, .int .i64 d.left, .int .i64 d.right, .bool d.miss, .int .i64 d.value] 58)).alloc (.cells #[.slice (some ⟨w4.heap.size, 0, none⟩) 1 1] 45)).cell? ⟨eb, 2, none⟩ = some (.slice A' k c) := ((hE4.alloc _).alloc _).cell 2; have hownr : w4.ownsRow (eb + 1) 45 1 (.slice A' k c) k (hdrC k bl ln cp) := own_grown hownd hg4 (by omega); have hs4 : wr.heap.size ≤ w4.heap.size := hg4.size))
              all_goals
                have hMn := making_next (f := f) (b := b) (w4 := w4.alloc (.cells #[.int .i64 d.feat, .int .i64 d.cut, .int .i64 d.left, .int .i64 d.right, .bool d.miss, .int .i64 d.value] 58)) HB.out HT.out HG.out hRw hweb hebl ⟨Nat.le_refl 1, by omega⟩ (ds4 := [d]) ⟨rfl, owned_new hs4 d⟩ hs4 (by simp) (hR4.alloc _) (grown_trans hg4 (World.grownBy_alloc w4 _ _)) (hownr.alloc _) hE5 hown5 _ hgrow
                have hms := (hE5.set_ 2 (.slice (some ⟨gg, 0, none⟩) (k + 1) cp5)).cell 2
                have HMn := hid hMn
                clear hMn
                go_wp2_with fail
                go_roundw
                case rel => exact ⟨k + 1, some ⟨gg, 0, none⟩, cp5, by omega, HMn⟩
                case measure => simp [hms, cE]; omega
            · have hk12 : k = 12 := by omega
              subst hk12
              have hM4 := hM.out
              obtain ⟨bl', ln', cp', ds', hBX, hEX, _⟩ := id hM4
              have a0 : wr.cell? ⟨w.heap.size, 0, none⟩ = some (.int .i64 0) := hBX.cell 0
              have a1 : wr.cell? ⟨w.heap.size, 1, none⟩ = some (.int .i64 0) := hBX.cell 1
              have a2 : wr.cell? ⟨w.heap.size, 2, none⟩ = some (.slice none 0 0) := hBX.cell 2
              have a3 : wr.frozen? ⟨w.heap.size, 0, none⟩ = false := hBX.frozen 0
              have a4 : wr.frozen? ⟨w.heap.size, 1, none⟩ = false := hBX.frozen 1
              have a5 : wr.frozen? ⟨w.heap.size, 2, none⟩ = false := hBX.frozen 2
              have e0 : wr.cell? ⟨eb, 0, none⟩ = some (.int .i64 f) := hEX.cell 0
              have e1 : wr.cell? ⟨eb, 1, none⟩ = some (.int .i64 b) := hEX.cell 1
              have e2 : wr.cell? ⟨eb, 2, none⟩ = some (.slice A' 12 c) := hEX.cell 2
              clear hBX hEX hM4 hB hE hown hT hR hg
              have HEND := hid (making_end hM.out hRw hweb (Nat.le_refl 12))
              clear hM
              go_wp2_with fail
              have hend := HEND.out
              (try simp only [Exit.inBlock, Exit.then])
              refine bodyPost_ret (results_cell_row rfl _ _ w.heap.size 26 #[.int .i64 f, .int .i64 b, .slice A' 12 c] (0, 0) _ rfl hend.1 Tryz.underlying26 rfl size_ens) rfl hend.2
        · have q0' : (q == 0) = false := by simpa using q0
          have q1' : (q == 1) = false := by simpa using q1
          obtain ⟨bl', ln', cp', ds', hBX, hEX, _⟩ := id hM4
          have a0 : w4.cell? ⟨w.heap.size, 0, none⟩ = some (.int .i64 0) := hBX.cell 0
          have a1 : w4.cell? ⟨w.heap.size, 1, none⟩ = some (.int .i64 0) := hBX.cell 1
          have a2 : w4.cell? ⟨w.heap.size, 2, none⟩ = some (.slice none 0 0) := hBX.cell 2
          have a3 : w4.frozen? ⟨w.heap.size, 0, none⟩ = false := hBX.frozen 0
          have a4 : w4.frozen? ⟨w.heap.size, 1, none⟩ = false := hBX.frozen 1
          have a5 : w4.frozen? ⟨w.heap.size, 2, none⟩ = false := hBX.frozen 2
          have e0 : w4.cell? ⟨eb, 0, none⟩ = some (.int .i64 f) := hEX.cell 0
          have e1 : w4.cell? ⟨eb, 1, none⟩ = some (.int .i64 b) := hEX.cell 1
          have e2 : w4.cell? ⟨eb, 2, none⟩ = some (.slice A' k c) := hEX.cell 2
          have e4 : w4.frozen? ⟨eb, 1, none⟩ = false := hEX.frozen 1
          clear hBX hEX
          have HEND := hid (making_end hM4 hRw hweb (by omega))
          clear hM4
          go_wp2_with fail
          have hend := HEND.out
          (try simp only [Exit.inBlock, Exit.then])
          refine bodyPost_ret (results_cell_row rfl _ _ w.heap.size 26 #[.int .i64 f, .int .i64 b, .slice A' k c] (0, 0) _ rfl hend.1 Tryz.underlying26 rfl size_ens) rfl hend.2
end

/-! ### EnsDrawH -/
section
set_option linter.unusedVariables false
set_option linter.unusedSimpArgs false
open Go.RowKit Go.Deep

def Kept2 (R b : Nat) (w w' : World) : Prop := ∀ i, i < w.heap.size → i ≠ R → i ≠ b → w'.heap[i]? = w.heap[i]?
theorem eq_b {b bT : Nat} (e : (some ⟨b, 0, none⟩ : Option Addr) = some ⟨bT, 0, none⟩) : b = bT := by
  injection e with e
  injection e

set_option maxRecDepth 100000 in
set_option maxHeartbeats 8000000 in
theorem hurtTree_kept (R n cap B : Nat) (A A' : Option Addr) (m c : Nat) (ds : List Nd) (w : World) (h : Rs w R A n cap) (hB : R < B) (hBw : B ≤ w.heap.size) (hm1 : 1 ≤ m) (hm : m ≤ 15) (hown : Owned w B A' m c ds) :
    Calls Tryz.prog 92 #[.pointer (some ⟨R, 0, none⟩), .slice A' m c] w (fun e w' => TreeDrawn R n cap A w e w' ∧ ∀ bT, A' = some ⟨bT, 0, none⟩ → Kept2 R bT w w') := by
  have hRw := h.lt
  obtain ⟨b, rfl, hbB, hbL, hrow⟩ := ndRow_own hown (by omega)
  have hown0 := hown.2
  obtain ⟨hmc, cur, hcur⟩ := own_blk hown0 (by omega)
  go_enter Tryz.func92, Tryz.ntmps92
  have i0 : ¬ (m : Int) < 1 := by omega
  have i1 : (0 : Int) < (m : Int) := by omega
  go_wp2_with fail
  refine (below_any R n cap A m _ h (by omega) (by omega)).mono ?_
  rintro e w1 ⟨at_, rfl, ha0, ha1, hR1, hg1⟩
  obtain ⟨k, rfl⟩ := Int.eq_ofNat_of_zero_le ha0
  have hk : k < m := by omega
  go_wp2_with fail
  refine (below_draw R n cap A 24 _ hR1 (by omega) (by omega)).mono ?_
  rintro e w2 ⟨q, rfl, hq0, hq1, hR2, hg2⟩
  have hg := grown_trans hg1 hg2
  have hrow2 : NdRow w2 b m _ := fun i hi => (hrow i hi).keep fun o => World.cell?_of_block (hg.block b hbL (by intro e; injection e with e; omega))
  have hb2 := below_grown hg hRw
  have hcur2 : Blk w2 b 58 cur := hcur.grown hg (by intro e; injection e with e; omega)
  have hown2 : w2.ownsRow B 58 6 (.slice (some ⟨b, 0, none⟩) m c) m (ds.flatMap ndC) := own_grown' hown0 hg hB
  have hL2 : b < w2.heap.size := hcur2.lt
  have hs2 := hg.size
  have hgo := hg
  clear hg1 hg2 hg hrow hR1
  by_cases e0 : q = 0
  · subst e0
    clear hown0 hown2
    go_wp2_with fail
    refine (off_draw R n cap A (0) (m) _ hR2 (by omega) (by omega) (by omega) (by omega)).mono ?_
    rintro e w3 ⟨x, rfl, hR3, hg3⟩
    have hrow3 : NdRow w3 b m _ := fun i hi => (hrow2 i hi).keep fun o => World.cell?_of_block (hg3.block b hL2 (by intro e; injection e with e; omega))
    have hb3 := hb2.trans (below_grown hg3 hR2.lt)
    have hs3 := hg3.size
    have hc3 : Blk w3 b 58 cur := hcur2.grown hg3 (by intro e; injection e with e; omega)
    obtain ⟨h0, h1, h2, h3, h4, h5⟩ := hrow3 k hk
    have f0 := hc3.frozen (k * 6 + 2)
    have ik : (k : Int) < (m : Int) := by omega
    go_wp2_with fail
    go_ret
    exact ⟨⟨m, _, b, c, hm1, by omega, rfl, by omega, by rw [World.size_setCell]; omega, hrow3.put (o := 2) hk (by omega) x, hmc, rs_set hR3 (by simp; omega) _, hb3.setCell (by simp; omega) _⟩, fun bT e => by obtain rfl := eq_b e; exact fun i hi hR hb => (Below.heap_setCell _ _ _ i (by show i ≠ b; exact hb)).trans ((hg3.block i (by omega) (by intro e; injection e with e; exact hR e)).trans (hgo.block i hi (by intro e; injection e with e; exact hR e)))⟩
  by_cases e1 : q = 1
  · subst e1
    clear hown0 hown2
    go_wp2_with fail
    refine (off_draw R n cap A (-1000000000) (1000000000) _ hR2 (by omega) (by omega) (by omega) (by omega)).mono ?_
    rintro e w3 ⟨x, rfl, hR3, hg3⟩
    have hrow3 : NdRow w3 b m _ := fun i hi => (hrow2 i hi).keep fun o => World.cell?_of_block (hg3.block b hL2 (by intro e; injection e with e; omega))
    have hb3 := hb2.trans (below_grown hg3 hR2.lt)
    have hs3 := hg3.size
    have hc3 : Blk w3 b 58 cur := hcur2.grown hg3 (by intro e; injection e with e; omega)
    obtain ⟨h0, h1, h2, h3, h4, h5⟩ := hrow3 k hk
    have f0 := hc3.frozen (k * 6 + 5)
    have ik : (k : Int) < (m : Int) := by omega
    go_wp2_with fail
    go_ret
    exact ⟨⟨m, _, b, c, hm1, by omega, rfl, by omega, by rw [World.size_setCell]; omega, hrow3.put (o := 5) hk (by omega) x, hmc, rs_set hR3 (by simp; omega) _, hb3.setCell (by simp; omega) _⟩, fun bT e => by obtain rfl := eq_b e; exact fun i hi hR hb => (Below.heap_setCell _ _ _ i (by show i ≠ b; exact hb)).trans ((hg3.block i (by omega) (by intro e; injection e with e; exact hR e)).trans (hgo.block i hi (by intro e; injection e with e; exact hR e)))⟩
  by_cases e2 : q = 2
  · subst e2
    clear hown0 hown2
    go_wp2_with fail
    refine (off_draw R n cap A (0) (5) _ hR2 (by omega) (by omega) (by omega) (by omega)).mono ?_
    rintro e w3 ⟨x, rfl, hR3, hg3⟩
    have hrow3 : NdRow w3 b m _ := fun i hi => (hrow2 i hi).keep fun o => World.cell?_of_block (hg3.block b hL2 (by intro e; injection e with e; omega))
    have hb3 := hb2.trans (below_grown hg3 hR2.lt)
    have hs3 := hg3.size
    have hc3 : Blk w3 b 58 cur := hcur2.grown hg3 (by intro e; injection e with e; omega)
    obtain ⟨h0, h1, h2, h3, h4, h5⟩ := hrow3 k hk
    have f0 := hc3.frozen (k * 6)
    have ik : (k : Int) < (m : Int) := by omega
    go_wp2_with fail
    go_ret
    exact ⟨⟨m, _, b, c, hm1, by omega, rfl, by omega, by rw [World.size_setCell]; omega, hrow3.put (o := 0) hk (by omega) x, hmc, rs_set hR3 (by simp; omega) _, hb3.setCell (by simp; omega) _⟩, fun bT e => by obtain rfl := eq_b e; exact fun i hi hR hb => (Below.heap_setCell _ _ _ i (by show i ≠ b; exact hb)).trans ((hg3.block i (by omega) (by intro e; injection e with e; exact hR e)).trans (hgo.block i hi (by intro e; injection e with e; exact hR e)))⟩
  by_cases e3 : q = 3
  · subst e3
    clear hown0 hown2
    go_wp2_with fail
    refine (off_draw R n cap A (-1000000) (1000000) _ hR2 (by omega) (by omega) (by omega) (by omega)).mono ?_
    rintro e w3 ⟨x, rfl, hR3, hg3⟩
    have hrow3 : NdRow w3 b m _ := fun i hi => (hrow2 i hi).keep fun o => World.cell?_of_block (hg3.block b hL2 (by intro e; injection e with e; omega))
    have hb3 := hb2.trans (below_grown hg3 hR2.lt)
    have hs3 := hg3.size
    have hc3 : Blk w3 b 58 cur := hcur2.grown hg3 (by intro e; injection e with e; omega)
    obtain ⟨h0, h1, h2, h3, h4, h5⟩ := hrow3 k hk
    have f0 := hc3.frozen (k * 6 + 1)
    have ik : (k : Int) < (m : Int) := by omega
    go_wp2_with fail
    go_ret
    exact ⟨⟨m, _, b, c, hm1, by omega, rfl, by omega, by rw [World.size_setCell]; omega, hrow3.put (o := 1) hk (by omega) x, hmc, rs_set hR3 (by simp; omega) _, hb3.setCell (by simp; omega) _⟩, fun bT e => by obtain rfl := eq_b e; exact fun i hi hR hb => (Below.heap_setCell _ _ _ i (by show i ≠ b; exact hb)).trans ((hg3.block i (by omega) (by intro e; injection e with e; exact hR e)).trans (hgo.block i hi (by intro e; injection e with e; exact hR e)))⟩
  by_cases e4 : q = 4
  · subst e4
    obtain ⟨i0, hi0, hz0, hz1, hz2⟩ := info_parts info_node
    have hN : Blk (w2.alloc (.cells #[.int .i64 0, .int .i64 0, .int .i64 0, .int .i64 0, .bool false, .int .i64 1] 58)) w2.heap.size 58 _ := Blk.new w2 _ _
    have hcell : ∀ j u, ([(⟨0, 0, 0, 0, false, 1⟩ : Nd)].flatMap ndC)[j]? = some u → (w2.alloc (.cells #[.int .i64 0, .int .i64 0, .int .i64 0, .int .i64 0, .bool false, .int .i64 1] 58)).cell? ⟨w2.heap.size, j, none⟩ = some u :=
      fun j u hu => (hN.cell j).trans (by rw [← hu]; simp [ndC])
    go_wp2_with (at_builtin; refine wpList_append_own _ rfl (.tmp 52) (.tmp 54) 45 rfl B 58 i0 (ndV ⟨0, 0, 0, 0, false, 0⟩) 6 48 Tryz.underlying45 hi0 hz0 hz1 hz2 rfl (by decide) _ m _ rfl (hown2.alloc _) ⟨w2.heap.size, 0, none⟩ 1 1 ([(⟨0, 0, 0, 0, false, 1⟩ : Nd)].flatMap ndC) rfl rfl (fun j u hu => by simpa [Addr.add_lit] using hcell j u hu) (ndC_one _) (by unfold maxLen; omega) (by omega) (by rw [World.size_alloc]; omega) ?_)
    intro v' w3 hown3 hg3 _
    obtain ⟨A3, c3, rfl⟩ := own_form hown3
    have hR3 := rs_own (B := B) hR2 _ hg3 (fun x hx => (hown2.lt x hx).1) hB
    have hb3 : Below R w2 w3 := ((Below.refl R w2).alloc (by omega) _).grown hg3 (by rw [World.size_alloc]; omega) (fun x hx => by have := (hown2.lt x hx).1; omega)
    have hown3' : Owned w3 B A3 (m + 1) c3 (ds ++ [⟨0, 0, 0, 0, false, 1⟩]) := ⟨by simp; exact hown.1, by rw [List.flatMap_append]; exact hown3⟩
    obtain ⟨b3, rfl, hB3, hL3, hrow3⟩ := ndRow_own hown3' (by omega)
    go_wp2_with fail
    go_ret
    exact ⟨⟨m + 1, _, b3, c3, by omega, by omega, rfl, by omega, hL3, hrow3, (own_blk hown3'.2 (by omega)).1, hR3, hb2.trans hb3⟩, fun bT e => by obtain rfl := eq_b e; exact fun i hi hR hb => (hg3.block i (by rw [World.size_alloc]; omega) (by intro e; injection e with e; exact hb e)).trans ((Below.heap_alloc w2 _ i (by omega)).trans (hgo.block i hi (by intro e; injection e with e; exact hR e)))⟩
  · go_wp2_with fail
    go_ret
    exact ⟨⟨m, _, b, c, hm1, by omega, rfl, by omega, by omega, hrow2, hmc, hR2, hb2⟩, fun bT e => by obtain rfl := eq_b e; exact fun i hi hR _ => hgo.block i hi (by intro e; injection e with e; exact hR e)⟩

/-- Trees that can be read, in blocks of which P holds. -/
def HiT (w : World) (P : Nat → Prop) (A : Option Addr) (n : Nat) (len : Nat → Nat) (g : Nat → Nat → Nd) : Prop :=
  0 < n → ∃ b, A = some ⟨b, 0, none⟩ ∧ P b ∧ ∀ i, i < n → ∃ Ai ci, w.cell? ⟨b, i, none⟩ = some (.slice Ai (len i) ci) ∧ (0 < len i → ∃ bi, Ai = some ⟨bi, 0, none⟩ ∧ P bi ∧ NdRow w bi (len i) (g i))
theorem HiT.keep {w w' : World} {P Q : Nat → Prop} {A : Option Addr} {n : Nat} {len : Nat → Nat} {g : Nat → Nat → Nd} (h : HiT w P A n len g) (hk : ∀ x, P x → w'.heap[x]? = w.heap[x]?) (hQ : ∀ x, P x → Q x) : HiT w' Q A n len g := fun hn => by
  obtain ⟨b, e, hb, hc⟩ := h hn
  refine ⟨b, e, hQ b hb, fun i hi => ?_⟩
  obtain ⟨Ai, ci, h1, h2⟩ := hc i hi
  refine ⟨Ai, ci, (World.cell?_of_block (hk b hb)).trans h1, fun hl => ?_⟩
  obtain ⟨bi, e2, h3, h4⟩ := h2 hl
  exact ⟨bi, e2, hQ bi h3, fun j hj => (h4 j hj).keep fun o => World.cell?_of_block (hk bi h3)⟩
theorem HiT.rdT {w : World} {P : Nat → Prop} {B : Nat} {A : Option Addr} {n : Nat} {len : Nat → Nat} {g : Nat → Nat → Nd} (h : HiT w P A n len g) (hP : ∀ x, P x → x < B) : RdT w B A n len g := fun hn => by
  obtain ⟨b, e, hb, hc⟩ := h hn
  refine ⟨b, 0, e, hP b hb, fun i hi => ?_⟩
  obtain ⟨Ai, ci, h1, h2⟩ := hc i hi
  refine ⟨Ai, ci, by rw [Nat.zero_add]; exact h1, fun hl => ?_⟩
  obtain ⟨bi, e2, h3, h4⟩ := h2 hl
  exact ⟨bi, 0, e2, hP bi h3, fun j hj => by rw [Nat.zero_add]; exact h4 j hj⟩

def nds (ds : Nat → List Nd) : Nat → Nat → Nd := fun i j => (ds i).getD j ⟨0, 0, 0, 0, false, 0⟩
theorem row_block {w : World} {B k c : Nat} {A' : Option Addr} {bl ln cp : Nat → Nat} (hown : w.ownsRow B 45 1 (.slice A' k c) k (hdrC k bl ln cp)) (hk : 0 < k) :
    ∃ rb cs, A' = some ⟨rb, 0, none⟩ ∧ B ≤ rb ∧ Blk w rb 45 cs ∧ ∀ i, i < k → w.cell? ⟨rb, i, none⟩ = some (.slice (some ⟨bl i, 0, none⟩) (ln i) (cp i)) := by
  rcases hown.2 with ⟨_, h0⟩ | ⟨g, cap, cur, hv, hb, hg, _⟩
  · omega
  · injection hv with e1 _ e3
    subst e1
    subst e3
    refine ⟨g, cur, rfl, hb, hg, fun i hi => ?_⟩
    rw [hown.cellAt i (by omega)]
    simp [hdrC, hi]
theorem hit_own {w : World} {B k c : Nat} {A' : Option Addr} {bl ln cp : Nat → Nat} {ds : Nat → List Nd} (hown : w.ownsRow B 45 1 (.slice A' k c) k (hdrC k bl ln cp)) (hT : Trees w B k bl ln cp ds) :
    HiT w (fun x => B ≤ x ∧ x < w.heap.size) A' k ln (nds ds) := fun hk => by
  obtain ⟨rb, cs, e, hB, hblk, hc⟩ := row_block hown hk
  refine ⟨rb, e, ⟨hB, hblk.lt⟩, fun i hi => ⟨_, _, hc i hi, fun _ => ?_⟩⟩
  obtain ⟨b', e', _, _, hr⟩ := ndRow_own (hT i hi).2.1 (by have := (hT i hi).1.1; omega)
  obtain rfl := eq_b e'
  exact ⟨bl i, rfl, (hT i hi).2.2.1, hr⟩

def EnsHurt (R n cap : Nat) (A : Option Addr) (w : World) (e : Ending) (w' : World) : Prop :=
  ∃ (f b : Int) (k : Nat) (A' : Option Addr) (c : Nat) (len : Nat → Nat) (g : Nat → Nat → Nd), k ≤ 12 ∧ (∀ i, i < k → len i ≤ 16) ∧ e = .returned (enV f b A' k c) ∧ HiT w' (fun x => R < x ∧ x < w'.heap.size) A' k len g ∧ Rs w' R A n cap ∧ Below R w w'

def Hurting (w0 : World) (R n cap : Nat) (A : Option Addr) (f b : Int) (k : Nat) (A' : Option Addr) (c : Nat) (w : World) : Prop :=
  ∃ (len : Nat → Nat) (g : Nat → Nat → Nd), (∀ i, i < k → len i ≤ 16) ∧ Blk w w0.heap.size 26 #[.int .i64 f, .int .i64 b, .slice A' k c] ∧ Blk w (w0.heap.size + 1) 26 #[.int .i64 0, .int .i64 0, .slice none 0 0] ∧
    HiT w (fun x => R < x ∧ x < w.heap.size ∧ x ≠ w0.heap.size ∧ x ≠ w0.heap.size + 1) A' k len g ∧ Rs w R A n cap ∧ Below R w0 w
theorem hurting_end {w0 w : World} {R n cap k c : Nat} {A A' : Option Addr} {f b : Int} (hM : Hurting w0 R n cap A f b k A' c w) (hRw : R < w0.heap.size) (hk : k ≤ 12) :
    Blk (((w.setCell ⟨w0.heap.size + 1, 0, none⟩ (.int .i64 f)).setCell ⟨w0.heap.size + 1, 1, none⟩ (.int .i64 b)).setCell ⟨w0.heap.size + 1, 2, none⟩ (.slice A' k c)) (w0.heap.size + 1) 26 #[.int .i64 f, .int .i64 b, .slice A' k c] ∧
    EnsHurt R n cap A w0 (.returned (enV f b A' k c)) (((w.setCell ⟨w0.heap.size + 1, 0, none⟩ (.int .i64 f)).setCell ⟨w0.heap.size + 1, 1, none⟩ (.int .i64 b)).setCell ⟨w0.heap.size + 1, 2, none⟩ (.slice A' k c)) := by
  obtain ⟨len, g, hl, hE, hZ, hT, hR, hb⟩ := hM
  have hs : ∀ (i : Nat), i ≠ w0.heap.size + 1 → (((w.setCell ⟨w0.heap.size + 1, 0, none⟩ (.int .i64 f)).setCell ⟨w0.heap.size + 1, 1, none⟩ (.int .i64 b)).setCell ⟨w0.heap.size + 1, 2, none⟩ (.slice A' k c)).heap[i]? = w.heap[i]? := fun i hi =>
    (Below.heap_setCell _ _ _ i hi).trans ((Below.heap_setCell _ _ _ i hi).trans (Below.heap_setCell _ _ _ i hi))
  refine ⟨((hZ.set_ 0 _).set_ 1 _).set_ 2 _, f, b, k, A', c, len, g, hk, hl, rfl, hT.keep (fun x hx => hs x hx.2.2.2) (fun x hx => ⟨hx.1, by simpa [World.setCell] using hx.2.1⟩), ?_, ?_⟩
  · exact rs_set (rs_set (rs_set hR (by show R < w0.heap.size + 1; omega) _) (by show R < w0.heap.size + 1; omega) _) (by show R < w0.heap.size + 1; omega) _
  · exact ((hb.setCell (by show R ≤ w0.heap.size + 1; omega) _).setCell (by show R ≤ w0.heap.size + 1; omega) _).setCell (by show R ≤ w0.heap.size + 1; omega) _
theorem hurting_grown {w0 w w' : World} {R n cap k c : Nat} {A A' : Option Addr} {f b : Int} (hM : Hurting w0 R n cap A f b k A' c w) (hRw : R < w0.heap.size) (hR : Rs w' R A n cap) (hg : w.grownBy w' (some R)) : Hurting w0 R n cap A f b k A' c w' := by
  obtain ⟨len, g, hl, hE, hZ, hT, hR0, hb⟩ := hM
  refine ⟨len, g, hl, hE.grown hg (by intro e; injection e with e; omega), hZ.grown hg (by intro e; injection e with e; omega), hT.keep (fun x hx => hg.block x hx.2.1 (by intro e; injection e with e; omega)) (fun x hx => ⟨hx.1, by have := hg.size; omega, hx.2.2⟩), hR, hb.trans (below_grown hg hR0.lt)⟩
theorem hurting_feats {w0 w : World} {R n cap k c : Nat} {A A' : Option Addr} {f b : Int} (hM : Hurting w0 R n cap A f b k A' c w) (hRw : R < w0.heap.size) (f' : Int) : Hurting w0 R n cap A f' b k A' c (w.setCell ⟨w0.heap.size, 0, none⟩ (.int .i64 f')) := by
  obtain ⟨len, g, hl, hE, hZ, hT, hR0, hb⟩ := hM
  exact ⟨len, g, hl, hE.set_ 0 _, hZ.far (p := ⟨w0.heap.size, 0, none⟩) (by show w0.heap.size + 1 ≠ w0.heap.size; omega) _, hT.keep (fun x hx => Below.heap_setCell _ _ _ x hx.2.2.1) (fun x hx => ⟨hx.1, by simpa [World.setCell] using hx.2.1, hx.2.2⟩), rs_set hR0 hRw _, hb.setCell (by show R ≤ w0.heap.size; omega) _⟩
theorem hurting_bias {w0 w : World} {R n cap k c : Nat} {A A' : Option Addr} {f b : Int} (hM : Hurting w0 R n cap A f b k A' c w) (hRw : R < w0.heap.size) (b' : Int) : Hurting w0 R n cap A f b' k A' c (w.setCell ⟨w0.heap.size, 1, none⟩ (.int .i64 b')) := by
  obtain ⟨len, g, hl, hE, hZ, hT, hR0, hb⟩ := hM
  exact ⟨len, g, hl, hE.set_ 1 _, hZ.far (p := ⟨w0.heap.size, 1, none⟩) (by show w0.heap.size + 1 ≠ w0.heap.size; omega) _, hT.keep (fun x hx => Below.heap_setCell _ _ _ x hx.2.2.1) (fun x hx => ⟨hx.1, by simpa [World.setCell] using hx.2.1, hx.2.2⟩), rs_set hR0 hRw _, hb.setCell (by show R ≤ w0.heap.size; omega) _⟩

theorem made_one : madeCells (Value.slice none 0 0).cells (1 * 1) = #[.slice none 0 0] := by
  have e : Array.range (1 * 1) = #[0] := by decide
  have e2 : (Value.slice none 0 0).cells = #[.slice none 0 0] := by simp [Value.cells]
  unfold madeCells
  rw [e, e2]
  simp

theorem hurting_made {w0 w : World} {R n cap k c : Nat} {A A' : Option Addr} {f b : Int} (hM : Hurting w0 R n cap A f b k A' c w) (hRw : R < w0.heap.size) : Hurting w0 R n cap A f b 1 (some ⟨w.heap.size, 0, none⟩) 1 ((w.alloc (.cells #[.slice none 0 0] 45)).setCell ⟨w0.heap.size, 2, none⟩ (.slice (some ⟨w.heap.size, 0, none⟩) 1 1)) := by
  obtain ⟨len, g, hl, hE, hZ, hT, hR0, hb⟩ := hM
  have hEl := hE.lt
  have hZl := hZ.lt
  refine ⟨fun _ => 0, g, fun _ _ => Nat.zero_le 16, (hE.alloc _).set_ 2 _, (hZ.alloc _).far (p := ⟨w0.heap.size, 2, none⟩) (by show w0.heap.size + 1 ≠ w0.heap.size; omega) _, fun _ => ⟨w.heap.size, rfl, ⟨by omega, by simp [World.setCell], by omega, by omega⟩, fun i hi => ⟨none, 0, ?_, fun h => absurd h (Nat.lt_irrefl 0)⟩⟩, rs_set (hR0.alloc _) hRw _, (hb.alloc (by omega) _).setCell (by show R ≤ w0.heap.size; omega) _⟩
  obtain rfl : i = 0 := by omega
  exact ((Blk.new w 45 #[.slice none 0 0]).far (p := ⟨w0.heap.size, 2, none⟩) (by show w.heap.size ≠ w0.heap.size; omega) _).cell 0

theorem hurting_tree {w0 w3 w4 : World} {R n cap B k c rb b' m' c' : Nat} {A A' : Option Addr} {f b : Int} {bl ln cp : Nat → Nat} {ds : Nat → List Nd} {g' : Nat → Nd} {cs : Array Value}
    (hM : Hurting w0 R n cap A f b k A' c w3) (hRw : R < w0.heap.size) (hRB : R < B) (hT : Trees w3 B k bl ln cp ds) (hB0 : ∀ i, i < k → bl i < w0.heap.size) (hrb0 : rb < w0.heap.size) (hBrb : B ≤ rb) (hA : A' = some ⟨rb, 0, none⟩) (hblk : Blk w3 rb 45 cs)
    (hcell : ∀ i, i < k → w3.cell? ⟨rb, i, none⟩ = some (.slice (some ⟨bl i, 0, none⟩) (ln i) (cp i))) (hk0 : 0 < k)
    (hm : 1 ≤ m' ∧ m' ≤ 16) (hRb : R < b') (hbL : b' < w4.heap.size) (hrow : NdRow w4 b' m' g') (hR4 : Rs w4 R A n cap) (hb4 : Below R w3.drew w4) (hkp : Kept2 R (bl 0) w3.drew w4) :
    Hurting w0 R n cap A f b k A' c (w4.setCell ⟨rb, 0, none⟩ (.slice (some ⟨b', 0, none⟩) m' c')) ∧ Hurting w0 R n cap A f b k A' c w3 := by
  refine ⟨?_, hM⟩
  obtain ⟨len, g, hl, hE, hZ, _, hR0, hb⟩ := hM
  have hT0 := hT 0 hk0
  have hrbl := hblk.lt
  have hs4 : w3.heap.size ≤ w4.heap.size := hb4.size
  have hk3 : ∀ i, i < w3.heap.size → i ≠ R → i ≠ bl 0 → w4.heap[i]? = w3.heap[i]? := hkp
  have hbl0 : B ≤ bl 0 ∧ bl 0 < w0.heap.size := ⟨hT0.2.2.1.1, hB0 0 hk0⟩
  have hne : ∀ i, i < k → bl i ≠ rb := fun i hi e => by
    obtain ⟨_, _, cs', hcs'⟩ := own_block_lt (hT i hi).2.1.2 _ rfl
    rw [e] at hcs'
    exact hblk.ne_ hcs' (by decide) rfl
  have hE4 : Blk w4 w0.heap.size 26 #[.int .i64 f, .int .i64 b, .slice A' k c] := (hk3 _ hE.lt (by omega) (by omega)).trans hE
  have hZ4 : Blk w4 (w0.heap.size + 1) 26 #[.int .i64 0, .int .i64 0, .slice none 0 0] := (hk3 _ hZ.lt (by omega) (by omega)).trans hZ
  have hrb4 : Blk w4 rb 45 cs := (hk3 rb hblk.lt (by omega) (fun e => hne 0 hk0 e.symm)).trans hblk
  have h5 : w4.cell? ⟨b', 0 * 6 + 5, none⟩ = some (.int .i64 (g' 0).value) := (hrow 0 (by omega)).2.2.2.2.2
  have h00 : w4.cell? ⟨b', 0 * 6, none⟩ = some (.int .i64 (g' 0).feat) := (hrow 0 (by omega)).1
  have e1 : b' ≠ w0.heap.size := fun e => by rw [e, hE4.cell 5] at h5; simp at h5
  have e2 : b' ≠ w0.heap.size + 1 := fun e => by rw [e, hZ4.cell 5] at h5; simp at h5
  have e3 : b' ≠ rb := fun e => by
    have := hcell 0 hk0
    rw [hblk.cell 0] at this
    rw [e, hrb4.cell 0, this] at h00
    simp at h00
  have hcell4 : ∀ i, i < k → w4.cell? ⟨rb, i, none⟩ = some (.slice (some ⟨bl i, 0, none⟩) (ln i) (cp i)) := fun i hi => by rw [hrb4.cell i, ← hblk.cell i]; exact hcell i hi
  refine ⟨upN ln 0 m', fun i => if i = 0 then g' else nds ds i, fun i hi => ?_, hE4.far (p := ⟨rb, 0, none⟩) (by show w0.heap.size ≠ rb; omega) _, hZ4.far (p := ⟨rb, 0, none⟩) (by show w0.heap.size + 1 ≠ rb; omega) _, fun _ => ⟨rb, hA, ⟨by omega, by simp [World.setCell]; omega, by omega, by omega⟩, fun i hi => ?_⟩, rs_set hR4 (by show R < rb; omega) _, (hb.trans (show Below R w3 w4 from ⟨hb4.os, hb4.tape, hb4.output, hb4.size, hb4.block⟩)).setCell (by show R ≤ rb; omega) _⟩
  · by_cases e : i = 0
    · subst e; rw [upN_same]; exact hm.2
    · rw [upN_other e]; have := (hT i hi).1.2; omega
  · by_cases e : i = 0
    · subst e
      rw [upN_same]
      refine ⟨_, _, World.cell?_setCell_same _ _ _ (hcell4 0 hk0), fun _ => ⟨b', rfl, ⟨hRb, by simp [World.setCell]; omega, e1, e2⟩, ?_⟩⟩
      simp only [if_true]
      exact fun j hj => (hrow j hj).keep fun o => World.cell?_of_block (Below.heap_setCell _ _ _ _ (by show b' ≠ rb; exact e3))
    · rw [upN_other e]
      simp only [if_neg e]
      refine ⟨_, _, (World.cell?_setCell_other _ _ _ _ (fun e' => by injection e' with _ e'; omega)).trans (hcell4 i hi), fun _ => ⟨bl i, rfl, ⟨by have := (hT i hi).2.2.1.1; omega, by have := hB0 i hi; have := hE.lt; simp [World.setCell]; omega, by have := hB0 i hi; omega, by have := hB0 i hi; omega⟩, ?_⟩⟩
      obtain ⟨b2, e', _, hL2, hr⟩ := ndRow_own (hT i hi).2.1 (by have := (hT i hi).1.1; omega)
      obtain rfl := eq_b e'
      have hlt := (hT i hi).2.2.2 0 (by omega)
      have h1 := (hT i hi).2.2.1.1
      have hh : (w4.setCell ⟨rb, 0, none⟩ (.slice (some ⟨b', 0, none⟩) m' c')).heap[bl i]? = w3.heap[bl i]? := (Below.heap_setCell _ _ _ _ (by show bl i ≠ rb; exact hne i hi)).trans (hk3 (bl i) hL2 (by omega) (by omega))
      exact fun j hj => (hr j hj).keep fun o => World.cell?_of_block hh

set_option maxRecDepth 100000 in
set_option maxHeartbeats 8000000 in
theorem hurtEns_draw (R n cap B : Nat) (A A' : Option Addr) (f b : Int) (k c : Nat) (bl ln cp : Nat → Nat) (ds : Nat → List Nd) (w : World) (h : Rs w R A n cap) (hB : R < B) (hk : k ≤ 12) (hown : w.ownsRow B 45 1 (.slice A' k c) k (hdrC k bl ln cp)) (hT : Trees w B k bl ln cp ds) :
    Calls Tryz.prog 55 #[.pointer (some ⟨R, 0, none⟩), enV f b A' k c] w (EnsHurt R n cap A w) := by
  have hRw := h.lt
  have hs2 : ((w.alloc (.cells #[.int .i64 f, .int .i64 b, .slice A' k c] 26)).alloc (.cells #[.int .i64 0, .int .i64 0, .slice none 0 0] 26)).heap.size = w.heap.size + 2 := by simp
  have hk2 : ∀ x, x < w.heap.size → ((w.alloc (.cells #[.int .i64 f, .int .i64 b, .slice A' k c] 26)).alloc (.cells #[.int .i64 0, .int .i64 0, .slice none 0 0] 26)).heap[x]? = w.heap[x]? := fun x hx => (Below.heap_alloc _ _ x (by simp; omega)).trans (Below.heap_alloc w _ x hx)
  have hM2 : Hurting w R n cap A f b k A' c ((w.alloc (.cells #[.int .i64 f, .int .i64 b, .slice A' k c] 26)).alloc (.cells #[.int .i64 0, .int .i64 0, .slice none 0 0] 26)) :=
    ⟨ln, nds ds, fun i hi => by have := (hT i hi).1.2; omega, (Blk.new w 26 #[.int .i64 f, .int .i64 b, .slice A' k c]).alloc _, Blk.new2 w _ _ _, (hit_own hown hT).keep (fun x hx => hk2 x hx.2) (fun x hx => ⟨by omega, by omega, by omega, by omega⟩), (h.alloc _).alloc _, ((Below.refl R w).alloc (by omega) _).alloc (by simp; omega) _⟩
  have hown2 : World.ownsRow ((w.alloc (.cells #[.int .i64 f, .int .i64 b, .slice A' k c] 26)).alloc (.cells #[.int .i64 0, .int .i64 0, .slice none 0 0] 26)) B 45 1 (.slice A' k c) k (hdrC k bl ln cp) := (hown.alloc _).alloc _
  have hT2 : Trees ((w.alloc (.cells #[.int .i64 f, .int .i64 b, .slice A' k c] 26)).alloc (.cells #[.int .i64 0, .int .i64 0, .slice none 0 0] 26)) B k bl ln cp ds := hT.keep (by omega) fun i hi => hk2 _ (hT i hi).2.2.1.2
  have hB0 : Hid (∀ i, i < k → bl i < w.heap.size) := fun i hi => (hT i hi).2.2.1.2
  have hRB0 : Hid (∀ x, A' = some ⟨x, 0, none⟩ → 0 < k → x < w.heap.size) := fun x e hk => by
    obtain ⟨rb, cs, e', _, hblk, _⟩ := row_block hown hk
    rw [e] at e'
    obtain rfl := eq_b e'
    exact hblk.lt
  have HOWN := hid hown2
  have HT := hid hT2
  have HM2 := hid hM2
  clear hown hT hown2 hT2 hM2 hk2 hs2
  go_enter Tryz.func55, Tryz.ntmps55
  go_wp2_with fail
  refine (below_draw R n cap A 24 _ ((h.alloc _).alloc _) (by omega) (by omega)).mono ?_
  rintro e w3 ⟨q, rfl, hq0, hq1, hR3, hg3⟩
  have hM3 := hurting_grown HM2.out hRw hR3 hg3
  have hownX := own_grown HOWN.out hg3 hB
  have hTX := Trees.grown HT.out hg3 hB
  clear HM2 HOWN HT hg3
  have hn1 : w.heap.size ≠ w.heap.size + 1 := by omega
  by_cases q0 : q = 0
  · subst q0
    clear hownX hTX
    go_wp2_with fail
    refine (off_draw R n cap A (1) (6) _ hR3 (by omega) (by omega) (by omega) (by omega)).mono ?_
    rintro e w4 ⟨x, rfl, hR4, hg4⟩
    have hM4 := hurting_grown hM3 hRw hR4 hg4
    clear hM3 hR3 hg4
    obtain ⟨_, _, _, hEX, hZX, _⟩ := id hM4
    have a0 : w4.cell? ⟨w.heap.size, 0, none⟩ = some (.int .i64 f) := hEX.cell 0
    have a1 : w4.cell? ⟨w.heap.size, 1, none⟩ = some (.int .i64 b) := hEX.cell 1
    have a2 : w4.cell? ⟨w.heap.size, 2, none⟩ = some (.slice A' k c) := hEX.cell 2
    have a3 : w4.frozen? ⟨w.heap.size, 0, none⟩ = false := hEX.frozen 0
    have a4 : w4.frozen? ⟨w.heap.size, 1, none⟩ = false := hEX.frozen 1
    have a5 : w4.frozen? ⟨w.heap.size, 2, none⟩ = false := hEX.frozen 2
    have z0 : w4.cell? ⟨w.heap.size + 1, 0, none⟩ = some (.int .i64 0) := hZX.cell 0
    have z1 : w4.cell? ⟨w.heap.size + 1, 1, none⟩ = some (.int .i64 0) := hZX.cell 1
    have z2 : w4.cell? ⟨w.heap.size + 1, 2, none⟩ = some (.slice none 0 0) := hZX.cell 2
    have z3 : w4.frozen? ⟨w.heap.size + 1, 0, none⟩ = false := hZX.frozen 0
    have z4 : w4.frozen? ⟨w.heap.size + 1, 1, none⟩ = false := hZX.frozen 1
    have z5 : w4.frozen? ⟨w.heap.size + 1, 2, none⟩ = false := hZX.frozen 2
    clear hEX hZX
    have HEND := hid (hurting_end (hurting_feats hM4 hRw x) hRw hk)
    clear hM4 hR4
    go_wp2_with fail
    have hend := HEND.out
    (try simp only [Exit.inBlock, Exit.then])
    refine bodyPost_ret (results_cell_row rfl _ _ (w.heap.size + 1) 26 #[.int .i64 x, .int .i64 b, .slice A' k c] (0, 0) _ rfl hend.1 Tryz.underlying26 rfl size_ens) rfl hend.2
  by_cases q1 : q = 1
  · subst q1
    clear hownX hTX
    go_wp2_with fail
    refine (off_draw R n cap A (-1000000000) (1000000000) _ hR3 (by omega) (by omega) (by omega) (by omega)).mono ?_
    rintro e w4 ⟨x, rfl, hR4, hg4⟩
    have hM4 := hurting_grown hM3 hRw hR4 hg4
    clear hM3 hR3 hg4
    obtain ⟨_, _, _, hEX, hZX, _⟩ := id hM4
    have a0 : w4.cell? ⟨w.heap.size, 0, none⟩ = some (.int .i64 f) := hEX.cell 0
    have a1 : w4.cell? ⟨w.heap.size, 1, none⟩ = some (.int .i64 b) := hEX.cell 1
    have a2 : w4.cell? ⟨w.heap.size, 2, none⟩ = some (.slice A' k c) := hEX.cell 2
    have a3 : w4.frozen? ⟨w.heap.size, 0, none⟩ = false := hEX.frozen 0
    have a4 : w4.frozen? ⟨w.heap.size, 1, none⟩ = false := hEX.frozen 1
    have a5 : w4.frozen? ⟨w.heap.size, 2, none⟩ = false := hEX.frozen 2
    have z0 : w4.cell? ⟨w.heap.size + 1, 0, none⟩ = some (.int .i64 0) := hZX.cell 0
    have z1 : w4.cell? ⟨w.heap.size + 1, 1, none⟩ = some (.int .i64 0) := hZX.cell 1
    have z2 : w4.cell? ⟨w.heap.size + 1, 2, none⟩ = some (.slice none 0 0) := hZX.cell 2
    have z3 : w4.frozen? ⟨w.heap.size + 1, 0, none⟩ = false := hZX.frozen 0
    have z4 : w4.frozen? ⟨w.heap.size + 1, 1, none⟩ = false := hZX.frozen 1
    have z5 : w4.frozen? ⟨w.heap.size + 1, 2, none⟩ = false := hZX.frozen 2
    clear hEX hZX
    have HEND := hid (hurting_end (hurting_bias hM4 hRw x) hRw hk)
    clear hM4 hR4
    go_wp2_with fail
    have hend := HEND.out
    (try simp only [Exit.inBlock, Exit.then])
    refine bodyPost_ret (results_cell_row rfl _ _ (w.heap.size + 1) 26 #[.int .i64 f, .int .i64 x, .slice A' k c] (0, 0) _ rfl hend.1 Tryz.underlying26 rfl size_ens) rfl hend.2
  by_cases q2 : q = 2
  · subst q2
    by_cases hk0 : 0 < k
    · obtain ⟨_, _, _, hEX, hZX, _⟩ := id hM3
      obtain ⟨rb, cs, hA, hBrb, hblk, hcell⟩ := row_block hownX hk0
      have hrbw := hRB0.out rb hA hk0
      subst hA
      have hT0 := hTX 0 hk0
      have hBl0 := hB0.out 0 hk0
      have hR3d : Rs w3.drew R A n cap := hR3
      have hown0 : Owned w3.drew B (some ⟨bl 0, 0, none⟩) (ln 0) (cp 0) (ds 0) := hT0.2.1
      have hsz3 : B ≤ w3.drew.heap.size := by have := hT0.2.2.1; show B ≤ w3.heap.size; omega
      have hB00 : B ≤ bl 0 := hT0.2.2.1.1
      have hln0 := hT0.1
      have hnr : bl 0 ≠ rb := fun e => by
        obtain ⟨_, _, cs', hcs'⟩ := own_block_lt hT0.2.1.2 _ rfl
        rw [e] at hcs'
        exact hblk.ne_ hcs' (by decide) rfl
      have c2 : w3.cell? ⟨w.heap.size, 2, none⟩ = some (.slice (some ⟨rb, 0, none⟩) k c) := hEX.cell 2
      have c2d : w3.drew.cell? ⟨w.heap.size, 2, none⟩ = some (.slice (some ⟨rb, 0, none⟩) k c) := hEX.cell 2
      have r0 : w3.cell? ⟨rb, 0, none⟩ = some (.slice (some ⟨bl 0, 0, none⟩) (ln 0) (cp 0)) := hcell 0 hk0
      have r0d : w3.drew.cell? ⟨rb, 0, none⟩ = some (.slice (some ⟨bl 0, 0, none⟩) (ln 0) (cp 0)) := hcell 0 hk0
      have HCELL := hid hcell
      have HTX := hid hTX
      have HM3 := hid hM3
      have hn2 : rb ≠ w.heap.size := by omega
      have hn3 : rb ≠ w.heap.size + 1 := by omega
      have i1 : (0 : Int) < (k : Int) := by omega
      clear hcell hTX hM3 hT0 hownX
      go_wp2_with fail
      go_region_law
        (first
          | (go_simp; go_at_call 92; refine (hurtTree_kept R n cap B A (some ⟨bl 0, 0, none⟩) (ln 0) (cp 0) (ds 0) w3.drew hR3d hB hsz3 hln0.1 hln0.2 hown0).mono ?_; rintro e w4 ⟨⟨m', g', b', c', hm1, hm2, rfl, hRb, hbL, hrow, hmc, hR4, hb4⟩, hkp⟩; have hkp' := hkp _ rfl; have hE4 : Blk w4 w.heap.size 26 #[.int .i64 f, .int .i64 b, .slice (some ⟨rb, 0, none⟩) k c] := (hkp' _ hEX.lt (by omega) (by omega)).trans hEX; have hZ4 : Blk w4 (w.heap.size + 1) 26 #[.int .i64 0, .int .i64 0, .slice none 0 0] := (hkp' _ hZX.lt (by omega) (by omega)).trans hZX; have hrb4 : Blk w4 rb 45 cs := (hkp' rb hblk.lt (by omega) (fun e => hnr e.symm)).trans hblk; have c24 : w4.cell? ⟨w.heap.size, 2, none⟩ = some (.slice (some ⟨rb, 0, none⟩) k c) := hE4.cell 2; have r04 : w4.cell? ⟨rb, 0, none⟩ = some (.slice (some ⟨bl 0, 0, none⟩) (ln 0) (cp 0)) := (hrb4.cell 0).trans ((hblk.cell 0).symm.trans r0); have fr04 : w4.frozen? ⟨rb, 0, none⟩ = false := hrb4.frozen 0))
      all_goals
        have hM5 := (hurting_tree (c' := c') HM3.out hRw hB HTX.out hB0.out hrbw hBrb rfl hblk HCELL.out hk0 ⟨hm1, hm2⟩ hRb hbL hrow hR4 hb4 hkp').1
        have HEND := hid (hurting_end hM5 hRw hk)
        clear hM5
        have a0 : w4.cell? ⟨w.heap.size, 0, none⟩ = some (.int .i64 f) := hE4.cell 0
        have a1 : w4.cell? ⟨w.heap.size, 1, none⟩ = some (.int .i64 b) := hE4.cell 1
        have a2 : w4.cell? ⟨w.heap.size, 2, none⟩ = some (.slice (some ⟨rb, 0, none⟩) k c) := hE4.cell 2
        have z0 : w4.cell? ⟨w.heap.size + 1, 0, none⟩ = some (.int .i64 0) := hZ4.cell 0
        have z1 : w4.cell? ⟨w.heap.size + 1, 1, none⟩ = some (.int .i64 0) := hZ4.cell 1
        have z2 : w4.cell? ⟨w.heap.size + 1, 2, none⟩ = some (.slice none 0 0) := hZ4.cell 2
        have z3 : w4.frozen? ⟨w.heap.size + 1, 0, none⟩ = false := hZ4.frozen 0
        have z4 : w4.frozen? ⟨w.heap.size + 1, 1, none⟩ = false := hZ4.frozen 1
        have z5 : w4.frozen? ⟨w.heap.size + 1, 2, none⟩ = false := hZ4.frozen 2
        go_wp2_with fail
        have hend := HEND.out
        (try simp only [Exit.inBlock, Exit.then])
        refine bodyPost_ret (results_cell_row rfl _ _ (w.heap.size + 1) 26 #[.int .i64 f, .int .i64 b, .slice (some ⟨rb, 0, none⟩) k c] (0, 0) _ rfl hend.1 Tryz.underlying26 rfl size_ens) rfl hend.2
    · have hk00 : k = 0 := by omega
      subst hk00
      obtain ⟨_, _, _, hEX, hZX, _⟩ := id hM3
      have a0 : w3.cell? ⟨w.heap.size, 0, none⟩ = some (.int .i64 f) := hEX.cell 0
      have a1 : w3.cell? ⟨w.heap.size, 1, none⟩ = some (.int .i64 b) := hEX.cell 1
      have a2 : w3.cell? ⟨w.heap.size, 2, none⟩ = some (.slice A' 0 c) := hEX.cell 2
      have a3 : w3.frozen? ⟨w.heap.size, 0, none⟩ = false := hEX.frozen 0
      have a4 : w3.frozen? ⟨w.heap.size, 1, none⟩ = false := hEX.frozen 1
      have a5 : w3.frozen? ⟨w.heap.size, 2, none⟩ = false := hEX.frozen 2
      have z0 : w3.cell? ⟨w.heap.size + 1, 0, none⟩ = some (.int .i64 0) := hZX.cell 0
      have z1 : w3.cell? ⟨w.heap.size + 1, 1, none⟩ = some (.int .i64 0) := hZX.cell 1
      have z2 : w3.cell? ⟨w.heap.size + 1, 2, none⟩ = some (.slice none 0 0) := hZX.cell 2
      have z3 : w3.frozen? ⟨w.heap.size + 1, 0, none⟩ = false := hZX.frozen 0
      have z4 : w3.frozen? ⟨w.heap.size + 1, 1, none⟩ = false := hZX.frozen 1
      have z5 : w3.frozen? ⟨w.heap.size + 1, 2, none⟩ = false := hZX.frozen 2
      clear hEX hZX hownX hTX
      have HEND := hid (hurting_end hM3 hRw (Nat.zero_le 12))
      clear hM3 hR3
      go_wp2_with fail
      have hend := HEND.out
      (try simp only [Exit.inBlock, Exit.then])
      refine bodyPost_ret (results_cell_row rfl _ _ (w.heap.size + 1) 26 #[.int .i64 f, .int .i64 b, .slice A' 0 c] (0, 0) _ rfl hend.1 Tryz.underlying26 rfl size_ens) rfl hend.2
  by_cases q3 : q = 3
  · subst q3
    obtain ⟨i0, hi0, hz0, hz1, hz2⟩ := info_parts info_nodes
    have hmk0 : (Instr.makeSlice 24 (.int .i64 1) (.int .i64 1)).run Tryz.prog w3 = .ok (.slice (some ⟨w3.heap.size, 0, none⟩) 1 1) (w3.alloc (.cells (madeCells (Value.slice none 0 0).cells (1 * i0.size)) 45)) :=
      run_make_rowN (P := Tryz.prog) 24 45 i0 _ Tryz.underlying24 hi0 hz0 .i64 .i64 1 1 (Nat.le_refl _) (by rw [hz2]; omega) (by omega) w3
    have hcl : madeCells (Value.slice none 0 0).cells (1 * i0.size) = #[.slice none 0 0] := by rw [hz1]; exact made_one
    have hmk : (Instr.makeSlice 24 (.int .i64 1) (.int .i64 1)).run Tryz.prog w3 = .ok (.slice (some ⟨w3.heap.size, 0, none⟩) 1 1) (w3.alloc (.cells #[.slice none 0 0] 45)) := by rw [hmk0, hcl]
    clear hmk0 hcl hi0 hz0 hz1 hz2
    obtain ⟨_, _, _, hEX', hZX', _⟩ := id hM3
    have hEX := hEX'.alloc (.cells #[.slice none 0 0] 45)
    have hZX := hZX'.alloc (.cells #[.slice none 0 0] 45)
    have a0 : (w3.alloc (.cells #[.slice none 0 0] 45)).cell? ⟨w.heap.size, 0, none⟩ = some (.int .i64 f) := hEX.cell 0
    have a1 : (w3.alloc (.cells #[.slice none 0 0] 45)).cell? ⟨w.heap.size, 1, none⟩ = some (.int .i64 b) := hEX.cell 1
    have a2 : (w3.alloc (.cells #[.slice none 0 0] 45)).cell? ⟨w.heap.size, 2, none⟩ = some (.slice A' k c) := hEX.cell 2
    have a3 : (w3.alloc (.cells #[.slice none 0 0] 45)).frozen? ⟨w.heap.size, 0, none⟩ = false := hEX.frozen 0
    have a4 : (w3.alloc (.cells #[.slice none 0 0] 45)).frozen? ⟨w.heap.size, 1, none⟩ = false := hEX.frozen 1
    have a5 : (w3.alloc (.cells #[.slice none 0 0] 45)).frozen? ⟨w.heap.size, 2, none⟩ = false := hEX.frozen 2
    have z0 : (w3.alloc (.cells #[.slice none 0 0] 45)).cell? ⟨w.heap.size + 1, 0, none⟩ = some (.int .i64 0) := hZX.cell 0
    have z1 : (w3.alloc (.cells #[.slice none 0 0] 45)).cell? ⟨w.heap.size + 1, 1, none⟩ = some (.int .i64 0) := hZX.cell 1
    have z2 : (w3.alloc (.cells #[.slice none 0 0] 45)).cell? ⟨w.heap.size + 1, 2, none⟩ = some (.slice none 0 0) := hZX.cell 2
    have z3 : (w3.alloc (.cells #[.slice none 0 0] 45)).frozen? ⟨w.heap.size + 1, 0, none⟩ = false := hZX.frozen 0
    have z4 : (w3.alloc (.cells #[.slice none 0 0] 45)).frozen? ⟨w.heap.size + 1, 1, none⟩ = false := hZX.frozen 1
    have z5 : (w3.alloc (.cells #[.slice none 0 0] 45)).frozen? ⟨w.heap.size + 1, 2, none⟩ = false := hZX.frozen 2
    clear hEX hZX hEX' hZX' hownX hTX
    have HEND := hid (hurting_end (hurting_made hM3 hRw) hRw (show 1 ≤ 12 by omega))
    clear hM3 hR3
    go_wp2_with fail
    have hend := HEND.out
    (try simp only [Exit.inBlock, Exit.then])
    refine bodyPost_ret (results_cell_row rfl _ _ (w.heap.size + 1) 26 #[.int .i64 f, .int .i64 b, .slice (some ⟨w3.heap.size, 0, none⟩) 1 1] (0, 0) _ rfl hend.1 Tryz.underlying26 rfl size_ens) rfl hend.2
  · have p0 : (q == 0) = false := by simpa using q0
    have p1 : (q == 1) = false := by simpa using q1
    have p2 : (q == 2) = false := by simpa using q2
    have p3 : (q == 3) = false := by simpa using q3
    obtain ⟨_, _, _, hEX, hZX, _⟩ := id hM3
    have a0 : w3.cell? ⟨w.heap.size, 0, none⟩ = some (.int .i64 f) := hEX.cell 0
    have a1 : w3.cell? ⟨w.heap.size, 1, none⟩ = some (.int .i64 b) := hEX.cell 1
    have a2 : w3.cell? ⟨w.heap.size, 2, none⟩ = some (.slice A' k c) := hEX.cell 2
    have a3 : w3.frozen? ⟨w.heap.size, 0, none⟩ = false := hEX.frozen 0
    have a4 : w3.frozen? ⟨w.heap.size, 1, none⟩ = false := hEX.frozen 1
    have a5 : w3.frozen? ⟨w.heap.size, 2, none⟩ = false := hEX.frozen 2
    have z0 : w3.cell? ⟨w.heap.size + 1, 0, none⟩ = some (.int .i64 0) := hZX.cell 0
    have z1 : w3.cell? ⟨w.heap.size + 1, 1, none⟩ = some (.int .i64 0) := hZX.cell 1
    have z2 : w3.cell? ⟨w.heap.size + 1, 2, none⟩ = some (.slice none 0 0) := hZX.cell 2
    have z3 : w3.frozen? ⟨w.heap.size + 1, 0, none⟩ = false := hZX.frozen 0
    have z4 : w3.frozen? ⟨w.heap.size + 1, 1, none⟩ = false := hZX.frozen 1
    have z5 : w3.frozen? ⟨w.heap.size + 1, 2, none⟩ = false := hZX.frozen 2
    clear hEX hZX hownX hTX
    have HEND := hid (hurting_end hM3 hRw hk)
    clear hM3 hR3
    go_wp2_with fail
    have hend := HEND.out
    (try simp only [Exit.inBlock, Exit.then])
    refine bodyPost_ret (results_cell_row rfl _ _ (w.heap.size + 1) 26 #[.int .i64 f, .int .i64 b, .slice A' k c] (0, 0) _ rfl hend.1 Tryz.underlying26 rfl size_ens) rfl hend.2

theorem results_cell_row_tmp {P : Program} {fn : Func} {p u : Tmp} {ty : TypeId} (h : fn.results = #[.cell p ty, .tmp u]) (tmps : Array Value) (w : World) (g : Nat) (t : TypeId) (cs : Array Value) (fr : Nat × Nat) (d : TypeDesc)
    (hp : tmps.getD p undef = .pointer (some ⟨g, 0, none⟩)) (hg : w.heap[g]? = some (.cells cs t fr))
    (hu : P.underlying ty = some d) (hd : (match d with | .struct _ | .array _ _ => true | _ => false) = true) (hi : (P.info? ty).map (·.size) = some cs.size) :
    (results fn tmps).run P w = .ok (.tuple #[.agg cs, tmps.getD u undef]) w := by
  have hp' : tmps[p]?.getD undef = .pointer (some ⟨g, 0, none⟩) := by simpa using hp
  simp [results, h, hp', asAddr, Result.andThen, run_loadVar_row w g t ty cs fr d hg hu hd hi]

/-- A drawn ensemble and a drawn list of numbers. -/
def DrawnFull (w : World) (e : Ending) (w' : World) : Prop :=
  ∃ (f b : Int) (k : Nat) (A' : Option Addr) (c : Nat) (len : Nat → Nat) (g : Nat → Nat → Nd) (m : Nat) (z : Nat → Int) (D : Option Addr) (dc : Nat), k ≤ 12 ∧ (∀ i, i < k → len i ≤ 16) ∧ m ≤ 17 ∧ e = .returned (.tuple #[enV f b A' k c, .slice D m dc]) ∧
    RdT w' w'.heap.size A' k len g ∧ Rd w' w'.heap.size D m z ∧ Below w.heap.size w w'

end
end Go.Proofs.YtmkipdhappikhaaGreatDoor
