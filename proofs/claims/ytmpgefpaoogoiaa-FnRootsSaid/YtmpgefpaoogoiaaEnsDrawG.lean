/- What is drawn of ensembles: whole ones. -/
import Derived.Test.YtmpgefpaoogoiaaDrawF
import Derived.Test.YtmpgefpaoogoiaaEnsA
import Derived.Test.YtmpgefpaoogoiaaEnsB
import Derived.Deep.RegionLaw
import Derived.Deep.AppendLies
namespace Go.Proofs.Ytmpgefpaoogoiaa
open Go.RowKit Go.Deep

set_option maxRecDepth 100000 in
set_option maxHeartbeats 1000000 in
theorem size_draw (R n cap : Nat) (A : Option Addr) (w : World) (h : Rs w R A n cap) :
    Calls Try.prog 148 #[.pointer (some ⟨R, 0, none⟩), .int .i64 4, .int .i64 8] w fun e w' =>
      ∃ x : Nat, e = .returned (.int .i64 x) ∧ x ≤ 8 ∧ Rs w' R A n cap ∧ w.grownBy w' (some R) := by
  obtain ⟨⟨p, hp, hb⟩, hbs, hn⟩ := id h
  have c0 : w.cell? ⟨R, 0, none⟩ = some (.slice A n cap) := hb.cell 0
  have hq0 : 0 ≤ (n : Int) / 4 := by omega
  have hq1 : (n : Int) / 4 ≤ 2000000 := by omega
  clear hb hp
  go_enter Try.func148, Try.ntmps148
  by_cases h8 : (8 : Int) < 1 + (n : Int) / 4
  · go_wp2_with fail
    refine (below_any R n cap A 8 _ h (by omega) (by omega)).mono ?_
    rintro e w1 ⟨x, rfl, hx0, hx1, hR1, hg1⟩
    obtain ⟨x, rfl⟩ := Int.eq_ofNat_of_zero_le hx0
    go_wp2_with fail
    go_ret
    exact ⟨1 + x, by simp, by omega, hR1, hg1⟩
  · go_wp2_with fail
    refine (below_any R n cap A (1 + (n : Int) / 4) _ h (by omega) (by omega)).mono ?_
    rintro e w1 ⟨x, rfl, hx0, hx1, hR1, hg1⟩
    obtain ⟨x, rfl⟩ := Int.eq_ofNat_of_zero_le hx0
    go_wp2_with fail
    go_ret
    exact ⟨1 + x, by simp, by omega, hR1, hg1⟩

/-- The headers of the trees. -/
def hdrC (n : Nat) (bl ln cp : Nat → Nat) : List Value := (List.range n).map fun i => .slice (some ⟨bl i, 0, none⟩) (ln i) (cp i)
def upN (f : Nat → Nat) (k x : Nat) : Nat → Nat := fun i => if i = k then x else f i
def upL (f : Nat → List Nd) (k : Nat) (x : List Nd) : Nat → List Nd := fun i => if i = k then x else f i
theorem upN_same (f : Nat → Nat) (k x : Nat) : upN f k x k = x := if_pos rfl
theorem upN_other {f : Nat → Nat} {k x i : Nat} (h : i ≠ k) : upN f k x i = f i := if_neg h
theorem upL_same (f : Nat → List Nd) (k : Nat) (x : List Nd) : upL f k x k = x := if_pos rfl
theorem upL_other {f : Nat → List Nd} {k i : Nat} {x : List Nd} (h : i ≠ k) : upL f k x i = f i := if_neg h
theorem hdrC_snoc (n : Nat) (bl ln cp : Nat → Nat) (b l c : Nat) : hdrC (n + 1) (upN bl n b) (upN ln n l) (upN cp n c) = hdrC n bl ln cp ++ [.slice (some ⟨b, 0, none⟩) l c] := by
  unfold hdrC
  rw [List.range_succ, List.map_append, List.map_cons, List.map_nil, upN_same, upN_same, upN_same]
  congr 1
  refine List.map_congr_left fun i hi => ?_
  have hi' : i ≠ n := by have := List.mem_range.1 hi; omega
  rw [upN_other hi', upN_other hi', upN_other hi']

theorem own_keep {w w' : World} {B : Nat} {e : TypeId} {size : Nat} {v : Value} {n : Nat} {xs : List Value} (h : w.ownsRow B e size v n xs) (hk : ∀ g, B ≤ g → g < w.heap.size → v.ownBlock = some g → w'.heap[g]? = w.heap[g]?) : w'.ownsRow B e size v n xs := by
  refine ⟨h.1, ?_⟩
  rcases h.2 with h0 | ⟨g, cap, cur, hv, hb, hg, rest⟩
  · exact .inl h0
  · exact .inr ⟨g, cap, cur, hv, hb, (hk g hb (Blk.lt hg) (by rw [hv]; rfl)).trans hg, rest⟩

/-- Trees in memory of their own, one block behind the other. -/
def Trees (w : World) (B n : Nat) (bl ln cp : Nat → Nat) (ds : Nat → List Nd) : Prop :=
  ∀ i, i < n → (1 ≤ ln i ∧ ln i ≤ 15) ∧ Owned w B (some ⟨bl i, 0, none⟩) (ln i) (cp i) (ds i) ∧ (B ≤ bl i ∧ bl i < w.heap.size) ∧ ∀ j, j < i → bl j < bl i
theorem Trees.keep {w w' : World} {B n : Nat} {bl ln cp : Nat → Nat} {ds : Nat → List Nd} (h : Trees w B n bl ln cp ds) (hs : w.heap.size ≤ w'.heap.size) (hk : ∀ i, i < n → w'.heap[bl i]? = w.heap[bl i]?) : Trees w' B n bl ln cp ds := fun i hi => by
  obtain ⟨a, b, ⟨c1, c2⟩, d⟩ := h i hi
  refine ⟨a, ⟨b.1, own_keep b.2 fun g _ _ hg => ?_⟩, ⟨c1, by omega⟩, d⟩
  have : bl i = g := by
    have e : (Value.slice (some ⟨bl i, 0, none⟩) (ln i) (cp i)).ownBlock = some (bl i) := rfl
    rw [e] at hg
    injection hg
  rw [← this]; exact hk i hi
theorem Trees.grown {w w' : World} {B n R : Nat} {bl ln cp : Nat → Nat} {ds : Nat → List Nd} (h : Trees w B n bl ln cp ds) (hg : w.grownBy w' (some R)) (hR : R < B) : Trees w' B n bl ln cp ds :=
  h.keep hg.size fun i hi => hg.block (bl i) (h i hi).2.2.1.2 (by have := (h i hi).2.2.1.1; intro e; injection e with e; omega)
theorem Trees.snoc {w : World} {B B2 n b l c : Nat} {bl ln cp : Nat → Nat} {ds : Nat → List Nd} {dl : List Nd} (h : Trees w B n bl ln cp ds) (hl : 1 ≤ l ∧ l ≤ 15) (ho : Owned w B2 (some ⟨b, 0, none⟩) l c dl) (hB : B ≤ B2) (hb : B2 ≤ b ∧ b < w.heap.size) (hlt : ∀ i, i < n → bl i < B2) :
    Trees w B (n + 1) (upN bl n b) (upN ln n l) (upN cp n c) (upL ds n dl) := fun i hi => by
  by_cases e : i = n
  · subst e
    rw [upN_same, upN_same, upN_same, upL_same]
    refine ⟨hl, ⟨ho.1, own_more ho.2 hB⟩, ⟨by omega, hb.2⟩, fun j hj => ?_⟩
    rw [upN_other (by omega)]
    have := hlt j hj
    omega
  · have hi' : i < n := by omega
    rw [upN_other e, upN_other e, upN_other e, upL_other e]
    obtain ⟨a, b', c', d⟩ := h i hi'
    refine ⟨a, b', c', fun j hj => ?_⟩
    rw [upN_other (by omega)]
    exact d j hj
theorem trees_nil {w : World} {B : Nat} {bl ln cp : Nat → Nat} {ds : Nat → List Nd} : Trees w B 0 bl ln cp ds := fun i hi => by omega

def EnsDrawn (R n cap : Nat) (A : Option Addr) (w : World) (e : Ending) (w' : World) : Prop :=
  ∃ (f b : Int) (k : Nat) (A' : Option Addr) (c : Nat) (bl ln cp : Nat → Nat) (ds : Nat → List Nd), k ≤ 12 ∧ e = .returned (enV f b A' k c) ∧ w'.ownsRow w.heap.size 74 1 (.slice A' k c) k (hdrC k bl ln cp) ∧ Trees w' w.heap.size k bl ln cp ds ∧ Rs w' R A n cap ∧ w.grownBy w' (some R)

/-- An ensemble that is being made: its own cell eb, its trees behind it. -/
def Making (w0 : World) (R n cap : Nat) (A : Option Addr) (eb : Nat) (f b : Int) (k : Nat) (A' : Option Addr) (c : Nat) (w : World) : Prop :=
  ∃ (bl ln cp : Nat → Nat) (ds : Nat → List Nd), Blk w w0.heap.size 33 #[.int .i64 0, .int .i64 0, .slice none 0 0] ∧ Blk w eb 33 #[.int .i64 f, .int .i64 b, .slice A' k c] ∧ w.ownsRow (eb + 1) 74 1 (.slice A' k c) k (hdrC k bl ln cp) ∧ Trees w (eb + 1) k bl ln cp ds ∧ Rs w R A n cap ∧ w0.grownBy w (some R)

theorem own_block_lt {w : World} {B : Nat} {e : TypeId} {size : Nat} {v : Value} {n : Nat} {xs : List Value} (h : w.ownsRow B e size v n xs) : ∀ x, v.ownBlock = some x → B ≤ x ∧ x < w.heap.size ∧ ∃ cs, Blk w x e cs := by
  intro x hx
  rcases h.2 with ⟨rfl, _⟩ | ⟨g, cap, cur, rfl, hb, hg, _⟩
  · cases hx
  · have e1 : (Value.slice (some ⟨g, 0, none⟩) n cap).ownBlock = some g := rfl
    rw [e1] at hx
    injection hx with hx
    subst hx
    exact ⟨hb, Blk.lt hg, _, hg⟩

theorem making_next {w0 wr w4 w5 : World} {R n cap eb k m4 b4 c4 gg c cp5 : Nat} {A A' : Option Addr} {f b : Int} {bl ln cp : Nat → Nat} {ds : Nat → List Nd} {ds4 : List Nd}
    (hB : Blk wr w0.heap.size 33 #[.int .i64 0, .int .i64 0, .slice none 0 0]) (hT : Trees wr (eb + 1) k bl ln cp ds) (hg : w0.grownBy wr (some R)) (hRw : R < w0.heap.size) (hweb : w0.heap.size < eb) (hebl : eb < wr.heap.size)
    (hm4 : 1 ≤ m4 ∧ m4 ≤ 15) (hown4 : Owned w4 wr.drew.heap.size (some ⟨b4, 0, none⟩) m4 c4 ds4) (hb4 : wr.heap.size ≤ b4) (hb4l : b4 < w4.heap.size) (hR4 : Rs w4 R A n cap) (hg4 : wr.drew.grownBy w4 (some R))
    (hownr : w4.ownsRow (eb + 1) 74 1 (.slice A' k c) k (hdrC k bl ln cp)) (hE5 : Blk w5 eb 33 #[.int .i64 f, .int .i64 b, .slice A' k c])
    (hown5 : w5.ownsRow (eb + 1) 74 1 (.slice (some ⟨gg, 0, none⟩) (k + 1) cp5) (k + 1) (hdrC k bl ln cp ++ [.slice (some ⟨b4, 0, none⟩) m4 c4]))
    (O : Obj) (hgrow : (w4.alloc O).grownBy w5 (Value.slice A' k c).ownBlock) :
    Making w0 R n cap A eb f b (k + 1) (some ⟨gg, 0, none⟩) cp5 (w5.setCell ⟨eb, 2, none⟩ (.slice (some ⟨gg, 0, none⟩) (k + 1) cp5)) := by
  have hs4 : wr.heap.size ≤ w4.heap.size := hg4.size
  have hrow := own_block_lt hownr
  have hB4 : Blk w4 w0.heap.size 33 #[.int .i64 0, .int .i64 0, .slice none 0 0] := (hg4.block w0.heap.size (by have := hB.lt; exact this) (by intro e; injection e with e; omega)).trans hB
  have hB5 : Blk w5 w0.heap.size 33 #[.int .i64 0, .int .i64 0, .slice none 0 0] := (hB4.alloc O).grown hgrow (by intro e; have := (hrow _ e.symm).1; omega)
  have hT4 : Trees w4 (eb + 1) k bl ln cp ds := Trees.grown (w := wr.drew) hT hg4 (by omega)
  have hT4' := hT4.snoc hm4 hown4 (show eb + 1 ≤ wr.drew.heap.size from hebl) ⟨hb4, hb4l⟩ (fun i hi => (hT i hi).2.2.1.2)
  refine ⟨upN bl k b4, upN ln k m4, upN cp k c4, upL ds k ds4, hB5.far (p := ⟨eb, 2, none⟩) (Nat.ne_of_lt hweb) _, hE5.set_ 2 _, ?_, ?_, ?_, ?_⟩
  · rw [hdrC_snoc]
    exact own_keep hown5 fun g hg _ _ => Below.heap_setCell _ _ _ g (by show g ≠ eb; omega)
  · refine hT4'.keep ?_ fun i hi => ?_
    · have := hgrow.size
      rw [World.size_alloc] at this
      simp [World.setCell]
      omega
    · obtain ⟨ha, ho, ⟨h1, h2⟩, _⟩ := hT4' i hi
      refine (Below.heap_setCell _ _ _ _ (by show upN bl k b4 i ≠ eb; omega)).trans ((hgrow.block _ (by rw [World.size_alloc]; omega) ?_).trans (Below.heap_alloc w4 O _ h2))
      intro e
      obtain ⟨_, _, cs, hcs⟩ := hrow _ e.symm
      obtain ⟨_, _, cs', hcs'⟩ := own_block_lt ho.2 _ rfl
      exact hcs.ne_ hcs' (by decide) rfl
  · exact rs_set (rs_own (B := eb + 1) hR4 O hgrow (fun x hx => (hrow x hx).1) (by omega)) (p := ⟨eb, 2, none⟩) (by show R < eb; omega) _
  · exact grown_setNew (grown_own (grown_trans (show w0.grownBy wr.drew (some R) from ⟨hg.os, hg.tape, hg.output, hg.size, hg.block⟩) hg4) O hgrow (fun x hx => by have := (hrow x hx).1; omega)) (p := ⟨eb, 2, none⟩) (by show w0.heap.size ≤ eb; omega) _

theorem making_grown {w0 w w' : World} {R n cap eb k c : Nat} {A A' : Option Addr} {f b : Int} (hM : Making w0 R n cap A eb f b k A' c w) (hRw : R < w0.heap.size) (hweb : w0.heap.size < eb) (hR : Rs w' R A n cap) (hg : w.grownBy w' (some R)) : Making w0 R n cap A eb f b k A' c w' := by
  obtain ⟨bl, ln, cp, ds, hB, hE, hown, hT, _, hg0⟩ := hM
  exact ⟨bl, ln, cp, ds, hB.grown hg (by intro e; injection e with e; omega), hE.grown hg (by intro e; injection e with e; omega), own_grown hown hg (by omega), hT.grown hg (by omega), hR, grown_trans hg0 hg⟩
theorem making_bias {w0 w : World} {R n cap eb k c : Nat} {A A' : Option Addr} {f b : Int} (hM : Making w0 R n cap A eb f b k A' c w) (hRw : R < w0.heap.size) (hweb : w0.heap.size < eb) (b' : Int) : Making w0 R n cap A eb f b' k A' c (w.setCell ⟨eb, 1, none⟩ (.int .i64 b')) := by
  obtain ⟨bl, ln, cp, ds, hB, hE, hown, hT, hR, hg0⟩ := hM
  refine ⟨bl, ln, cp, ds, hB.far (p := ⟨eb, 1, none⟩) (Nat.ne_of_lt hweb) _, hE.set_ 1 _, own_keep hown fun g hg _ _ => Below.heap_setCell _ _ _ g (by show g ≠ eb; omega), hT.keep (by simp [World.setCell]) fun i hi => Below.heap_setCell _ _ _ _ (by have := (hT i hi).2.2.1.1; show bl i ≠ eb; omega), rs_set hR (p := ⟨eb, 1, none⟩) (by show R < eb; omega) _, grown_setNew hg0 (p := ⟨eb, 1, none⟩) (by show w0.heap.size ≤ eb; omega) _⟩
theorem making_end {w0 w : World} {R n cap eb k c : Nat} {A A' : Option Addr} {f b : Int} (hM : Making w0 R n cap A eb f b k A' c w) (hRw : R < w0.heap.size) (hweb : w0.heap.size < eb) (hk : k ≤ 12) :
    Blk (((w.setCell ⟨w0.heap.size, 0, none⟩ (.int .i64 f)).setCell ⟨w0.heap.size, 1, none⟩ (.int .i64 b)).setCell ⟨w0.heap.size, 2, none⟩ (.slice A' k c)) w0.heap.size 33 #[.int .i64 f, .int .i64 b, .slice A' k c] ∧
    EnsDrawn R n cap A w0 (.returned (enV f b A' k c)) (((w.setCell ⟨w0.heap.size, 0, none⟩ (.int .i64 f)).setCell ⟨w0.heap.size, 1, none⟩ (.int .i64 b)).setCell ⟨w0.heap.size, 2, none⟩ (.slice A' k c)) := by
  obtain ⟨bl, ln, cp, ds, hB, hE, hown, hT, hR, hg0⟩ := hM
  have hs : ∀ (i : Nat), i ≠ w0.heap.size → (((w.setCell ⟨w0.heap.size, 0, none⟩ (.int .i64 f)).setCell ⟨w0.heap.size, 1, none⟩ (.int .i64 b)).setCell ⟨w0.heap.size, 2, none⟩ (.slice A' k c)).heap[i]? = w.heap[i]? := fun i hi =>
    (Below.heap_setCell _ _ _ i hi).trans ((Below.heap_setCell _ _ _ i hi).trans (Below.heap_setCell _ _ _ i hi))
  refine ⟨((hB.set_ 0 _).set_ 1 _).set_ 2 _, f, b, k, A', c, bl, ln, cp, ds, hk, rfl, own_more (own_keep hown fun g hg _ _ => hs g (by omega)) (by omega), ?_, ?_, ?_⟩
  · have hT' : Trees _ (eb + 1) k bl ln cp ds := hT.keep (w' := ((w.setCell ⟨w0.heap.size, 0, none⟩ (.int .i64 f)).setCell ⟨w0.heap.size, 1, none⟩ (.int .i64 b)).setCell ⟨w0.heap.size, 2, none⟩ (.slice A' k c)) (by simp [World.setCell]) fun i hi => hs _ (by have := (hT i hi).2.2.1.1; omega)
    exact fun i hi => ⟨(hT' i hi).1, ⟨(hT' i hi).2.1.1, own_more (hT' i hi).2.1.2 (by omega)⟩, ⟨by have := (hT' i hi).2.2.1.1; omega, (hT' i hi).2.2.1.2⟩, (hT' i hi).2.2.2⟩
  · exact rs_set (rs_set (rs_set hR hRw _) hRw _) hRw _
  · exact grown_setNew (grown_setNew (grown_setNew hg0 (Nat.le_refl _) _) (Nat.le_refl _) _) (Nat.le_refl _) _

set_option maxRecDepth 100000 in
set_option maxHeartbeats 4000000 in
theorem ens_draw (R n cap : Nat) (A : Option Addr) (f : Int) (hf1 : 1 ≤ f) (hf6 : f ≤ 6) (w : World) (h : Rs w R A n cap) :
    Calls Try.prog 97 #[.pointer (some ⟨R, 0, none⟩), .int .i64 f] w (EnsDrawn R n cap A w) := by
  obtain ⟨i0, hi0, hz0, hz1, hz2⟩ := info_parts info_nodes
  have hRw := h.lt
  go_enter Try.func97, Try.ntmps97
  go_wp2_with fail
  refine (below_draw R n cap A 40 _ (h.alloc _) (by omega) (by omega)).mono ?_
  rintro e w1 ⟨x, rfl, hx0, hx1, hR1, hg1⟩
  have hB1 : Blk w1 w.heap.size 33 #[.int .i64 0, .int .i64 0, .slice none 0 0] := (hg1.block w.heap.size (by simp) (by intro e; injection e with e; omega)).trans (Blk.new w _ _)
  have hw1 : w.grownBy w1 (some R) := grown_trans (World.grownBy_alloc w _ _) hg1
  clear hg1
  go_wp2_with fail
  have hE2 := Blk.new w1 33 #[.int .i64 f, .int .i64 (x - 20), .slice none 0 0]
  refine (size_draw R n cap A _ (hR1.alloc _)).mono ?_
  rintro e w3 ⟨s, rfl, hs, hR3, hg3⟩
  have hE3 : Blk w3 w1.heap.size 33 #[.int .i64 f, .int .i64 (x - 20), .slice none 0 0] := (hg3.block w1.heap.size (by simp) (by intro e; injection e with e; have := hR1.lt; omega)).trans hE2
  have hB3 : Blk w3 w.heap.size 33 #[.int .i64 0, .int .i64 0, .slice none 0 0] := (hg3.block w.heap.size (by have := hB1.lt; simp; omega) (by intro e; injection e with e; omega)).trans (hB1.alloc _)
  have hw3 : w.grownBy w3 (some R) := grown_trans (grown_trans hw1 (World.grownBy_alloc w1 _ _)) hg3
  have hweb : w.heap.size < w1.heap.size := hB1.lt
  clear hE2 hg3 hB1 hR1 hw1
  generalize w1.heap.size = eb at *
  generalize x - 20 = b at *
  clear hx0 hx1
  go_wp2_with fail
  have hM3 : Hid (Making w R n cap A eb f b 0 none 0 w3) := ⟨fun _ => 0, fun _ => 0, fun _ => 0, fun _ => [], hB3, hE3, ⟨rfl, .inl ⟨rfl, rfl⟩⟩, trees_nil, hR3, hw3⟩
  clear hB3 hE3 hR3 hw3
  go_loopw [6] (fun i wr => ∃ (r k : Nat) (A' : Option Addr) (c : Nat), k + r ≤ 8 ∧ i = .int .i64 r ∧ Hid (Making w R n cap A eb f b k A' c wr)) (fun i _ => (intOf i).toNat)
  case atStart => exact ⟨s, 0, none, 0, by omega, rfl, hM3⟩
  case round =>
    obtain ⟨r, k, A', c, hkr, rfl, hM⟩ := hrel
    obtain ⟨bl, ln, cp, ds, hB, hE, hown, hT, hR, hg⟩ := hM.out
    by_cases hr : 0 < r
    · obtain ⟨r, rfl⟩ : ∃ r', r = r' + 1 := ⟨r - 1, by omega⟩
      have i1 : (0 : Int) < ((r + 1 : Nat) : Int) := by omega
      have hEd : Blk wr.drew eb 33 #[.int .i64 f, .int .i64 b, .slice A' k c] := hE
      have hRd : Rs wr.drew R A n cap := hR
      have cE : wr.cell? ⟨eb, 2, none⟩ = some (.slice A' k c) := hE.cell 2
      have cEd : wr.drew.cell? ⟨eb, 2, none⟩ = some (.slice A' k c) := hE.cell 2
      have HB := hid hB
      have HT := hid hT
      have HG := hid hg
      have hebl : eb < wr.heap.size := hE.lt
      have hRe : R < eb := by omega
      have hownd : wr.drew.ownsRow (eb + 1) 74 1 (.slice A' k c) k (hdrC k bl ln cp) := hown
      clear hB hT hg hown hR hM
      go_wp2_with fail
      go_region_law
        (first
          | (refine step_append_lies _ (by rfl) _ _ _ (by rfl) (eb + 1) 74 i0 _ 1 24 Try.underlying31 hi0 hz0 hz1 hz2 rfl (by omega) (.slice A' k c) k (hdrC k bl ln cp) (by rfl) (hownr.alloc _) ⟨w4.heap.size, 0, none⟩ 1 1 [.slice (some ⟨b4, 0, none⟩) m4 c4] (by rfl) (by rfl) (World.news_of_block (cs := #[.slice (some ⟨b4, 0, none⟩) m4 c4]) (t := 74) (fr := (0, 0)) (heap_alloc_new w4 _)) (by simp [Value.oneCell']) (by omega) (by unfold maxLen; omega) (by omega) (by simp; omega) (w4.heap.size + 1) (by simp) ?_; intro gg cp5 w5 hown5 hgrow hat hlt5; have hE5 : Blk w5 eb 33 #[.int .i64 f, .int .i64 b, .slice A' k c] := (hgrow.block eb (by simp; omega) (by intro e; have := own_block_lt hownr eb e.symm; omega)).trans (hE4.alloc _); have cE5 : w5.cell? ⟨eb, 2, none⟩ = some (.slice A' k c) := hE5.cell 2; have fE5 : w5.frozen? ⟨eb, 2, none⟩ = false := hE5.frozen 2)
          | (go_simp; go_at_call 149; refine (tree_draw R n cap A f hf1 hf6 wr.drew hRd).mono ?_; rintro e w4 ⟨m4, ds4, A4, c4, hm4, hm4', rfl, hown4, hR4, hg4⟩; obtain ⟨b4, rfl, hb4, hb4l, _⟩ := ndRow_own hown4 (by omega); have hE4 : Blk w4 eb 33 #[.int .i64 f, .int .i64 b, .slice A' k c] := (hg4.block eb hebl (by intro e; injection e with e; omega)).trans hE; have cE4 : w4.cell? ⟨eb, 2, none⟩ = some (.slice A' k c) := hE4.cell 2; have cE4a : (w4.alloc (.cells #[.slice (some ⟨b4, 0, none⟩) m4 c4] 74)).cell? ⟨eb, 2, none⟩ = some (.slice A' k c) := (hE4.alloc _).cell 2; have hownr : w4.ownsRow (eb + 1) 74 1 (.slice A' k c) k (hdrC k bl ln cp) := own_grown hownd hg4 (by omega); have hs4 : wr.heap.size ≤ w4.heap.size := hg4.size; have hb4' : wr.heap.size ≤ b4 := hb4))
      all_goals
        have hMn := making_next (f := f) (b := b) HB.out HT.out HG.out hRw hweb hebl ⟨hm4, by omega⟩ hown4 hb4' hb4l hR4 hg4 hownr hE5 hown5 _ hgrow
        have HMn := hid hMn
        clear hMn
        go_wp2_with fail
        go_roundw
        case rel => exact ⟨r, k + 1, some ⟨gg, 0, none⟩, cp5, by omega, by go_num, HMn⟩
        case measure => simp [intOf]
    · have hr0 : r = 0 := by omega
      subst hr0
      go_wp2_with fail
      refine (below_draw R n cap A 30 _ hR (by omega) (by omega)).mono ?_
      rintro e w4 ⟨q, rfl, hq0, hq1, hR4, hg4⟩
      have hM4 := making_grown hM.out hRw hweb hR4 hg4
      clear hB hE hown hT hR hg hg4 hM
      have hne : w.heap.size ≠ eb := by omega
      have hne' : eb ≠ w.heap.size := by omega
      by_cases q0 : q = 0
      · subst q0
        go_wp2_with fail
        refine (off_draw R n cap A (-1000000000) 1000000000 _ hR4 (by omega) (by omega) (by omega) (by omega)).mono ?_
        rintro e w5 ⟨y, rfl, hR5, hg5⟩
        have hM5 := making_grown hM4 hRw hweb hR5 hg5
        clear hM4 hR4 hg5 hR5
        obtain ⟨bl', ln', cp', ds', hBX, hEX, _⟩ := id hM5
        have a0 : w5.cell? ⟨w.heap.size, 0, none⟩ = some (.int .i64 0) := hBX.cell 0
        have a1 : w5.cell? ⟨w.heap.size, 1, none⟩ = some (.int .i64 0) := hBX.cell 1
        have a2 : w5.cell? ⟨w.heap.size, 2, none⟩ = some (.slice none 0 0) := hBX.cell 2
        have a3 : w5.frozen? ⟨w.heap.size, 0, none⟩ = false := hBX.frozen 0
        have a4 : w5.frozen? ⟨w.heap.size, 1, none⟩ = false := hBX.frozen 1
        have a5 : w5.frozen? ⟨w.heap.size, 2, none⟩ = false := hBX.frozen 2
        have e0 : w5.cell? ⟨eb, 0, none⟩ = some (.int .i64 f) := hEX.cell 0
        have e1 : w5.cell? ⟨eb, 1, none⟩ = some (.int .i64 b) := hEX.cell 1
        have e2 : w5.cell? ⟨eb, 2, none⟩ = some (.slice A' k c) := hEX.cell 2
        have e4 : w5.frozen? ⟨eb, 1, none⟩ = false := hEX.frozen 1
        clear hBX hEX
        have HEND := hid (making_end (making_bias hM5 hRw hweb (y.tmod 1000000001)) hRw hweb (show k ≤ 12 by omega))
        clear hM5
        go_wp2_with fail
        have hend := HEND.out
        (try simp only [Exit.inBlock, Exit.then])
        refine bodyPost_ret (results_cell_row rfl _ _ w.heap.size 33 #[.int .i64 f, .int .i64 (y.tmod 1000000001), .slice A' k c] (0, 0) _ rfl hend.1 Try.underlying33 rfl size_ens) rfl hend.2
      · by_cases q1 : q = 1
        · subst q1
          go_wp2_with fail
          have HM4 := hid hM4
          clear hM4 hR4
          go_loopw [] (fun wr => ∃ (k : Nat) (A' : Option Addr) (c : Nat), k ≤ 12 ∧ Hid (Making w R n cap A eb f b k A' c wr)) (fun wr => match wr.cell? ⟨eb, 2, none⟩ with | some (.slice _ k _) => 12 - k | _ => 0)
          case atStart => exact ⟨k, A', c, by omega, HM4⟩
          case round =>
            clear HM4
            obtain ⟨k, A', c, hk, hM⟩ := hrel
            obtain ⟨bl, ln, cp, ds, hB, hE, hown, hT, hR, hg⟩ := hM.out
            by_cases hlt : k < 12
            · have i1 : (k : Int) < 12 := by omega
              have hRd : Rs wr.drew R A n cap := hR
              have cE : wr.cell? ⟨eb, 2, none⟩ = some (.slice A' k c) := hE.cell 2
              have cEd : wr.drew.cell? ⟨eb, 2, none⟩ = some (.slice A' k c) := hE.cell 2
              have HB := hid hB
              have HT := hid hT
              have HG := hid hg
              have hebl : eb < wr.heap.size := hE.lt
              have hRe : R < eb := by omega
              have hownd : wr.drew.ownsRow (eb + 1) 74 1 (.slice A' k c) k (hdrC k bl ln cp) := hown
              clear hB hT hg hown hR hM
              go_wp2_with fail
              go_region_law
                (first
                  | (refine step_append_lies _ (by rfl) _ _ _ (by rfl) (eb + 1) 74 i0 _ 1 24 Try.underlying31 hi0 hz0 hz1 hz2 rfl (by omega) (.slice A' k c) k (hdrC k bl ln cp) (by rfl) ((hownr.alloc _).alloc _) ⟨w4.heap.size + 1, 0, none⟩ 1 1 [.slice (some ⟨w4.heap.size, 0, none⟩) 1 1] (by rfl) (by rfl) (World.news_of_block (cs := #[.slice (some ⟨w4.heap.size, 0, none⟩) 1 1]) (t := 74) (fr := (0, 0)) (Blk.new2 w4 _ _ _)) (by simp [Value.oneCell']) (by omega) (by unfold maxLen; omega) (by omega) (by simp; omega) (w4.heap.size + 2) (by simp) ?_; intro gg cp5 w5 hown5 hgrow hat hlt5; have hE5 : Blk w5 eb 33 #[.int .i64 f, .int .i64 b, .slice A' k c] := (hgrow.block eb (by simp; omega) (by intro e; have := own_block_lt hownr eb e.symm; omega)).trans ((hE4.alloc _).alloc _); have cE5 : w5.cell? ⟨eb, 2, none⟩ = some (.slice A' k c) := hE5.cell 2; have fE5 : w5.frozen? ⟨eb, 2, none⟩ = false := hE5.frozen 2)
                  | (go_simp; go_at_call 150; refine (leaf_draw R n cap A wr.drew hRd).mono ?_; rintro e w4 ⟨d, rfl, hR4, hg4⟩; have hE4 : Blk w4 eb 33 #[.int .i64 f, .int .i64 b, .slice A' k c] := (hg4.block eb hebl (by intro e; injection e with e; omega)).trans hE; have cE4 : w4.cell? ⟨eb, 2, none⟩ = some (.slice A' k c) := hE4.cell 2; have cE4a : (w4.alloc (.cells #[.int .i64 d.feat, .int .i64 d.cut, .int .i64 d.left, .int .i64 d.right, .bool d.miss, .int .i64 d.value] 135)).cell? ⟨eb, 2, none⟩ = some (.slice A' k c) := (hE4.alloc _).cell 2; have cE4b : ((w4.alloc (.cells #[.int .i64 d.feat, .int .i64 d.cut, .int .i64 d.left, .int .i64 d.right, .bool d.miss, .int .i64 d.value] 135)).alloc (.cells #[.slice (some ⟨w4.heap.size, 0, none⟩) 1 1] 74)).cell? ⟨eb, 2, none⟩ = some (.slice A' k c) := ((hE4.alloc _).alloc _).cell 2; have hownr : w4.ownsRow (eb + 1) 74 1 (.slice A' k c) k (hdrC k bl ln cp) := own_grown hownd hg4 (by omega); have hs4 : wr.heap.size ≤ w4.heap.size := hg4.size))
              all_goals
                have hMn := making_next (f := f) (b := b) (w4 := w4.alloc (.cells #[.int .i64 d.feat, .int .i64 d.cut, .int .i64 d.left, .int .i64 d.right, .bool d.miss, .int .i64 d.value] 135)) HB.out HT.out HG.out hRw hweb hebl ⟨Nat.le_refl 1, by omega⟩ (ds4 := [d]) ⟨rfl, owned_new hs4 d⟩ hs4 (by simp) (hR4.alloc _) (grown_trans hg4 (World.grownBy_alloc w4 _ _)) (hownr.alloc _) hE5 hown5 _ hgrow
                have hms := (hE5.set_ 2 (.slice (some ⟨gg, 0, none⟩) (k + 1) cp5)).cell 2
                have HMn := hid hMn
                clear hMn
                go_wp2_with fail
                go_roundw
                case rel => exact ⟨k + 1, some ⟨gg, 0, none⟩, cp5, by omega, HMn⟩
                case measure => simp [hms, cE]; omega
            · have hk12 : k = 12 := by omega
              subst hk12
              have hM4 := hM.out
              obtain ⟨bl', ln', cp', ds', hBX, hEX, _⟩ := id hM4
              have a0 : wr.cell? ⟨w.heap.size, 0, none⟩ = some (.int .i64 0) := hBX.cell 0
              have a1 : wr.cell? ⟨w.heap.size, 1, none⟩ = some (.int .i64 0) := hBX.cell 1
              have a2 : wr.cell? ⟨w.heap.size, 2, none⟩ = some (.slice none 0 0) := hBX.cell 2
              have a3 : wr.frozen? ⟨w.heap.size, 0, none⟩ = false := hBX.frozen 0
              have a4 : wr.frozen? ⟨w.heap.size, 1, none⟩ = false := hBX.frozen 1
              have a5 : wr.frozen? ⟨w.heap.size, 2, none⟩ = false := hBX.frozen 2
              have e0 : wr.cell? ⟨eb, 0, none⟩ = some (.int .i64 f) := hEX.cell 0
              have e1 : wr.cell? ⟨eb, 1, none⟩ = some (.int .i64 b) := hEX.cell 1
              have e2 : wr.cell? ⟨eb, 2, none⟩ = some (.slice A' 12 c) := hEX.cell 2
              clear hBX hEX hM4 hB hE hown hT hR hg
              have HEND := hid (making_end hM.out hRw hweb (Nat.le_refl 12))
              clear hM
              go_wp2_with fail
              have hend := HEND.out
              (try simp only [Exit.inBlock, Exit.then])
              refine bodyPost_ret (results_cell_row rfl _ _ w.heap.size 33 #[.int .i64 f, .int .i64 b, .slice A' 12 c] (0, 0) _ rfl hend.1 Try.underlying33 rfl size_ens) rfl hend.2
        · have q0' : (q == 0) = false := by simpa using q0
          have q1' : (q == 1) = false := by simpa using q1
          obtain ⟨bl', ln', cp', ds', hBX, hEX, _⟩ := id hM4
          have a0 : w4.cell? ⟨w.heap.size, 0, none⟩ = some (.int .i64 0) := hBX.cell 0
          have a1 : w4.cell? ⟨w.heap.size, 1, none⟩ = some (.int .i64 0) := hBX.cell 1
          have a2 : w4.cell? ⟨w.heap.size, 2, none⟩ = some (.slice none 0 0) := hBX.cell 2
          have a3 : w4.frozen? ⟨w.heap.size, 0, none⟩ = false := hBX.frozen 0
          have a4 : w4.frozen? ⟨w.heap.size, 1, none⟩ = false := hBX.frozen 1
          have a5 : w4.frozen? ⟨w.heap.size, 2, none⟩ = false := hBX.frozen 2
          have e0 : w4.cell? ⟨eb, 0, none⟩ = some (.int .i64 f) := hEX.cell 0
          have e1 : w4.cell? ⟨eb, 1, none⟩ = some (.int .i64 b) := hEX.cell 1
          have e2 : w4.cell? ⟨eb, 2, none⟩ = some (.slice A' k c) := hEX.cell 2
          have e4 : w4.frozen? ⟨eb, 1, none⟩ = false := hEX.frozen 1
          clear hBX hEX
          have HEND := hid (making_end hM4 hRw hweb (by omega))
          clear hM4
          go_wp2_with fail
          have hend := HEND.out
          (try simp only [Exit.inBlock, Exit.then])
          refine bodyPost_ret (results_cell_row rfl _ _ w.heap.size 33 #[.int .i64 f, .int .i64 b, .slice A' k c] (0, 0) _ rfl hend.1 Try.underlying33 rfl size_ens) rfl hend.2
end Go.Proofs.Ytmpgefpaoogoiaa
