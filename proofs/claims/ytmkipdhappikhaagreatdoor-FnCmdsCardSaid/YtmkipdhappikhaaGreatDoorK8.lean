/- Ensembles on both sides; what came in. -/
import Derived.Test.YtmkipdhappikhaaGreatDoorLaw
import Derived.Test.YtmkipdhappikhaaGreatDoorK2
import Derived.Deep.Slices
import Derived.Deep.Fields
import Derived.ChangeSame
import Derived.Test.YtmkipdhappikhaaGreatDoorK3
import Derived.Test.YtmkipdhappikhaaGreatDoorK4
import Derived.Test.YtmkipdhappikhaaGreatDoorK6
import Derived.Deep.RegionHeld
namespace Go.Proofs.YtmkipdhappikhaaGreatDoor

/-! ### LawN -/
section
set_option linter.unusedVariables false
set_option linter.unusedSimpArgs false
open Go.ChangeShapes Go.WideShapes Go.Deep
section
variable {H : Type} {enc : TypeId × Value → H} {P : Program} {w : World} {base : Nat} {spare : Nat → Bool} {held : Bool}
theorem open_slice_fields {t e : TypeId} {fs : Array Field} {fuel : Nat} {cs : List Value} {x : DataW H × List MemPlace} (ht : P.underlying t = some (.slice e)) (he : P.underlying e = some (.struct fs))
    (hone : oneCellFields P fs = true) (hC : P.cellsOf e = fs.size) (h : DataW.trod enc P w base spare held fuel t cs = some x) :
    (cs = [.slice none 0 0] ∧ x = (.nil, [])) ∨
    ∃ (a : Addr) (len cap m : Nat) (D : Nat → DataW H) (Pl : Nat → List MemPlace), cs = [.slice (some a) len cap] ∧ base ≤ a.block ∧ len ≤ cap ∧ cap ≤ maxLen ∧ m = (if spare a.block then cap else len) ∧
      x = (.slice ((List.range len).map D) ((List.range (m - len)).map fun j => D (len + j)), MemPlace.row a (m * fs.size) ++ (List.range m).flatMap Pl) ∧
      ∀ i, i < m → ∃ (ys : List (DataW H × List MemPlace)) (n : Nat), D i = .agg (ys.map (·.1)) ∧ Pl i = ys.flatMap (·.2) ∧ ys.length = fs.size ∧
        ∀ (j : Nat) (f : Field), fs[j]? = some f → ∃ (v : Value) (y : DataW H × List MemPlace), w.cell? (a.add (i * fs.size + j)) = some v ∧ ys[j]? = some y ∧ DataW.trod enc P w base spare held n f.type [v] = some y := by
  rcases open_slice ht h with h0 | ⟨a, len, cap, m, n, D, Pl, hcs, hb, hl, hm, hmm, hx, hi⟩
  · exact .inl h0
  · refine .inr ⟨a, len, cap, m, D, Pl, hcs, hb, hl, hm, hmm, by rw [hC] at hx; exact hx, fun i him => ?_⟩
    obtain ⟨cs', hc, ht'⟩ := hi i him
    rw [hC] at hc
    obtain ⟨ys, n', hn', hy, hlen, hyl, hf⟩ := DataW.trod_struct he ht'
    obtain ⟨_, hcl, hat⟩ := World.cells?_some hc
    simp only [Prod.mk.injEq] at hy
    refine ⟨ys, n', hy.1, hy.2, hyl, fun j f hj => ?_⟩
    obtain ⟨ho, hk⟩ := hone_of hone j f hj
    have hjl : j < fs.size := (Array.getElem?_eq_some_iff.1 hj).1
    have hcell := hat j hjl
    have hv : cs'[j]? = some (cs'[j]'(by omega)) := List.getElem?_eq_getElem (by omega)
    have h1 := hf j f hj
    rw [ho, hk] at h1
    have hone' : (cs'.drop j).take 1 = [cs'[j]'(by omega)] := by
      rw [List.drop_eq_getElem_cons (by omega)]
      rfl
    rw [hone'] at h1
    have hys : ys[j]? = some (ys[j]'(by omega)) := List.getElem?_eq_getElem (by omega)
    refine ⟨_, _, ?_, hys, h1.trans hys⟩
    rw [← Go.Deep.add_add, hcell, hv]
end

/-- A slice of nodes that came in. -/
def IsNodes (w : World) (a : Option Addr) (len _cap : Nat) (g : Nat → Nd) : Prop := RdN w w.heap.size a len g ∧ len ≤ 9223372036854775807

end

/-! ### EnsA -/
section
set_option linter.unusedVariables false
set_option linter.unusedSimpArgs false
open Go.RowKit Go.Deep

/-- The slice at A reads as n lists of nodes, and lies with them below block B. -/
def RdT (w : World) (B : Nat) (A : Option Addr) (n : Nat) (len : Nat → Nat) (g : Nat → Nat → Nd) : Prop :=
  0 < n → ∃ b off, A = some ⟨b, off, none⟩ ∧ b < B ∧ ∀ i, i < n → ∃ Ai ci, w.cell? ⟨b, off + i, none⟩ = some (.slice Ai (len i) ci) ∧ RdN w B Ai (len i) (g i)
section
variable {w w' : World} {B B' n : Nat} {A : Option Addr} {len : Nat → Nat} {g : Nat → Nat → Nd}
theorem RdT.keep (h : RdT w B A n len g) (hk : ∀ p : Addr, p.block < B → w'.cell? p = w.cell? p) : RdT w' B A n len g := fun hn => by
  obtain ⟨b, off, e, hb, hc⟩ := h hn
  refine ⟨b, off, e, hb, fun i hi => ?_⟩
  obtain ⟨Ai, ci, h1, h2⟩ := hc i hi
  exact ⟨Ai, ci, (hk ⟨b, off + i, none⟩ hb).trans h1, h2.keep hk⟩
theorem RdT.more (h : RdT w B A n len g) (hB : B ≤ B') : RdT w B' A n len g := fun hn => by
  obtain ⟨b, off, e, hb, hc⟩ := h hn
  refine ⟨b, off, e, by omega, fun i hi => ?_⟩
  obtain ⟨Ai, ci, h1, h2⟩ := hc i hi
  exact ⟨Ai, ci, h1, h2.more hB⟩
theorem RdT.below (h : RdT w B A n len g) (hb : Below B w w') : RdT w' B A n len g := h.keep fun _ hp => hb.cell hp
theorem RdT.to (h : RdT w w.heap.size A n len g) (hb : Below w.heap.size w w') (hB : w.heap.size ≤ w'.heap.size) : RdT w' w'.heap.size A n len g := (h.below hb).more hB
theorem RdT.at_ {k : Nat} (h : RdT w B A n len g) (hk : k < n) : ∃ b off Ai ci, A = some ⟨b, off, none⟩ ∧ b < B ∧ w.cell? ⟨b, off + k, none⟩ = some (.slice Ai (len k) ci) ∧ RdN w B Ai (len k) (g k) := by
  obtain ⟨b, off, e, hb, hc⟩ := h (by omega)
  obtain ⟨Ai, ci, h1, h2⟩ := hc k hk
  exact ⟨b, off, Ai, ci, e, hb, h1, h2⟩
end
theorem rdt_none {w : World} {B : Nat} {A : Option Addr} {len : Nat → Nat} {g : Nat → Nat → Nd} : RdT w B A 0 len g := fun h => absurd h (by omega)

/-- The same in new memory: blocks from L on. -/
def LoT (w : World) (L B : Nat) (A : Option Addr) (n : Nat) (len : Nat → Nat) (g : Nat → Nat → Nd) : Prop :=
  0 < n → ∃ b, A = some ⟨b, 0, none⟩ ∧ L ≤ b ∧ b < B ∧ ∀ i, i < n → ∃ bi ci, w.cell? ⟨b, i, none⟩ = some (.slice (some ⟨bi, 0, none⟩) (len i) ci) ∧ L ≤ bi ∧ bi < B ∧ ∀ j, j < len i → NdAt w bi (j * 6) (g i j)
theorem LoT.rdT {w : World} {L B n : Nat} {A : Option Addr} {len : Nat → Nat} {g : Nat → Nat → Nd} (h : LoT w L B A n len g) : RdT w B A n len g := fun hn => by
  obtain ⟨b, e, _, hb, hc⟩ := h hn
  refine ⟨b, 0, e, hb, fun i hi => ?_⟩
  obtain ⟨bi, ci, h1, _, h2, h3⟩ := hc i hi
  exact ⟨_, ci, by rw [Nat.zero_add]; exact h1, fun _ => ⟨bi, 0, rfl, h2, fun j hj => by rw [Nat.zero_add]; exact h3 j hj⟩⟩
theorem LoT.keep {w w' : World} {L B n : Nat} {A : Option Addr} {len : Nat → Nat} {g : Nat → Nat → Nd} (h : LoT w L B A n len g) (hk : ∀ p : Addr, L ≤ p.block → p.block < B → w'.cell? p = w.cell? p) : LoT w' L B A n len g := fun hn => by
  obtain ⟨b, e, hL, hb, hc⟩ := h hn
  refine ⟨b, e, hL, hb, fun i hi => ?_⟩
  obtain ⟨bi, ci, h1, h2, h3, h4⟩ := hc i hi
  exact ⟨bi, ci, (hk ⟨b, i, none⟩ hL hb).trans h1, h2, h3, fun j hj => (h4 j hj).keep fun o => hk ⟨bi, o, none⟩ h2 h3⟩

theorem info_nodes : (Tryz.prog.info? 45).map (fun i => (i.zero, i.size, i.bytes)) = some (some (.slice none 0 0), 1, 24) := by kernel_rfl

end

/-! ### EnsB -/
section
set_option linter.unusedVariables false
set_option linter.unusedSimpArgs false
open Go.RowKit Go.Deep

abbrev enV (f b : Int) (A : Option Addr) (n c : Nat) : Value := .agg #[.int .i64 f, .int .i64 b, .slice A n c]
theorem size_ens : (Tryz.prog.info? 26).map (·.size) = some 3 := by kernel_rfl

end

/-! ### EnsC -/
section
set_option linter.unusedVariables false
set_option linter.unusedSimpArgs false
open Go.RowKit Go.Deep

def ensB (f b : Int) (n : Nat) (len : Nat → Nat) (g : Nat → Nat → Nd) : Bool :=
  ((decide (1 ≤ f) && decide (f ≤ 6)) && (decide (-1000000000 ≤ b) && decide (b ≤ 1000000000))) && (decide (n ≤ 12) && allP (fun i => treeB (g i) (len i) f) n)
theorem ensB_iff {f b : Int} {n : Nat} {len : Nat → Nat} {g : Nat → Nat → Nd} : ensB f b n len g = true ↔ (1 ≤ f ∧ f ≤ 6) ∧ (-1000000000 ≤ b ∧ b ≤ 1000000000) ∧ n ≤ 12 ∧ ∀ i, i < n → treeB (g i) (len i) f = true := by
  unfold ensB
  simp only [Bool.and_eq_true, decide_eq_true_eq, allP_iff]
  constructor
  · rintro ⟨⟨a, b⟩, c, d⟩; exact ⟨a, b, c, d⟩
  · rintro ⟨a, b, c, d⟩; exact ⟨⟨a, b⟩, c, d⟩

set_option maxHeartbeats 2000000 in
theorem iEnsOk_any (f b : Int) (A : Option Addr) (n c : Nat) (len : Nat → Nat) (g : Nat → Nat → Nd) (w : World) (h : RdT w w.heap.size A n len g) (hn : n ≤ 4194304) (hlen : Hid (∀ i, i < n → len i ≤ 4194304)) :
    Calls Tryz.prog 23 #[enV f b A n c] w fun e w' => e = .returned (.bool (ensB f b n len g)) ∧ Below w.heap.size w w' := by
  have hb1 := (Below.refl w.heap.size w).alloc (Nat.le_refl _) (.cells #[.int .i64 f, .int .i64 b, .slice A n c] 26)
  by_cases q1 : f < 1
  · have e0 : ensB f b n len g = false := by unfold ensB; rw [decide_eq_false (show ¬ 1 ≤ f by omega)]; rfl
    rw [e0]
    go_enter Tryz.func23, Tryz.ntmps23
    go_wp2_with fail
    go_ret
    exact ⟨rfl, hb1⟩
  by_cases q2 : 6 < f
  · have e0 : ensB f b n len g = false := by unfold ensB; rw [decide_eq_false (show ¬ f ≤ 6 by omega), Bool.and_false]; rfl
    rw [e0]
    go_enter Tryz.func23, Tryz.ntmps23
    go_wp2_with fail
    go_ret
    exact ⟨rfl, hb1⟩
  by_cases q3 : b < -1000000000
  · have e0 : ensB f b n len g = false := by unfold ensB; rw [decide_eq_false (show ¬ -1000000000 ≤ b by omega), Bool.false_and, Bool.and_false]; rfl
    rw [e0]
    go_enter Tryz.func23, Tryz.ntmps23
    go_wp2_with fail
    go_ret
    exact ⟨rfl, hb1⟩
  by_cases q4 : 1000000000 < b
  · have e0 : ensB f b n len g = false := by unfold ensB; rw [decide_eq_false (show ¬ b ≤ 1000000000 by omega), Bool.and_false, Bool.and_false]; rfl
    rw [e0]
    go_enter Tryz.func23, Tryz.ntmps23
    go_wp2_with fail
    go_ret
    exact ⟨rfl, hb1⟩
  by_cases q5 : (12 : Int) < (n : Int)
  · have e0 : ensB f b n len g = false := by unfold ensB; rw [decide_eq_false (show ¬ n ≤ 12 by omega), Bool.false_and, Bool.and_false]
    rw [e0]
    go_enter Tryz.func23, Tryz.ntmps23
    go_wp2_with fail
    go_ret
    exact ⟨rfl, hb1⟩
  have e0 : Hid (ensB f b n len g = allP (fun i => treeB (g i) (len i) f) n) := by
    show _ = _
    unfold ensB
    rw [decide_eq_true (show 1 ≤ f by omega), decide_eq_true (show f ≤ 6 by omega), decide_eq_true (show -1000000000 ≤ b by omega), decide_eq_true (show b ≤ 1000000000 by omega), decide_eq_true (show n ≤ 12 by omega)]
    rfl
  have hE := Blk.new w 26 #[.int .i64 f, .int .i64 b, .slice A n c]
  have h1 := h.to hb1 hb1.size
  go_enter Tryz.func23, Tryz.ntmps23
  go_wp2_with fail
  generalize hW : w.alloc (.cells #[.int .i64 f, .int .i64 b, .slice A n c] 26) = W1 at hb1 hE h1 ⊢
  clear hW
  go_loopw [32] (fun i wr => ∃ k : Nat, k ≤ n ∧ i = .int .i64 k ∧ Hid (allP (fun i => treeB (g i) (len i) f) k = true) ∧ Below W1.heap.size W1 wr) (fun i _ => n - (intOf i).toNat)
  case atStart => exact ⟨0, Nat.zero_le _, rfl, rfl, Below.refl _ _⟩
  case round =>
    obtain ⟨k, hk, rfl, hall, hbl⟩ := hrel
    have hwr := hb1.trans (hbl.mono hb1.size)
    by_cases hlt : k < n
    · obtain ⟨bb, off, Ai, ci, rfl, hbb, hc, hrd⟩ := (h1.below hbl).at_ hlt
      have hl : (k : Int) < (n : Int) := by omega
      have hl0 : (0 : Int) ≤ (k : Int) := by omega
      have x0 : wr.cell? ⟨w.heap.size, 0, none⟩ = some (.int .i64 f) := (hE.below hbl hE.lt).cell 0
      go_wp2_with fail
      refine (iTreeOk_any Ai (len k) ci (g k) f _ (hrd.more hbl.size) (hlen.out k hlt)).mono ?_
      rintro e w3 ⟨rfl, hb3⟩
      have hbl3 := hbl.trans (hb3.mono hbl.size)
      have hw3 := hwr.trans (hb3.mono hwr.size)
      clear hb3 hbl hwr hrd hc x0
      cases hq : treeB (g k) (len k) f
      · go_wp2_with fail
        go_ret
        refine ⟨?_, hw3⟩
        rw [e0.out, allP_false (p := fun i => treeB (g i) (len i) f) hlt hq]
        rfl
      · go_wp2_with fail
        go_roundw
        case rel => exact ⟨k + 1, by omega, by go_num, (by show allP _ (k + 1) = true; simp only [allP, hq, hall.out]; rfl), hbl3⟩
        case measure => simp [intOf]; omega
    · have e : k = n := by omega
      go_wp2_with fail
      go_ret
      subst e
      refine ⟨?_, hwr⟩
      rw [e0.out, hall.out]
      rfl

set_option maxHeartbeats 2000000 in
theorem sEnsOk_any (f b : Int) (A : Option Addr) (n c : Nat) (len : Nat → Nat) (g : Nat → Nat → Nd) (w : World) (h : RdT w w.heap.size A n len g) (hn : n ≤ 4194304) (hlen : Hid (∀ i, i < n → len i ≤ 4194304)) :
    Calls Tryz.prog 36 #[enV f b A n c] w fun e w' => e = .returned (.bool (ensB f b n len g)) ∧ Below w.heap.size w w' := by
  have hb1 := (Below.refl w.heap.size w).alloc (Nat.le_refl _) (.cells #[.int .i64 f, .int .i64 b, .slice A n c] 26)
  have hE := Blk.new w 26 #[.int .i64 f, .int .i64 b, .slice A n c]
  have h1 := h.to hb1 hb1.size
  go_enter Tryz.func36, Tryz.ntmps36
  go_wp2_with fail
  generalize hW : w.alloc (.cells #[.int .i64 f, .int .i64 b, .slice A n c] 26) = W1 at hb1 hE h1 ⊢
  clear hW
  go_loopw [3] (fun i wr => ∃ k : Nat, k ≤ n ∧ i = .int .i64 k ∧ Hid (allP (fun i => treeB (g i) (len i) f) k = true) ∧ Below W1.heap.size W1 wr) (fun i _ => n - (intOf i).toNat)
  case atStart => exact ⟨0, Nat.zero_le _, rfl, rfl, Below.refl _ _⟩
  case round =>
    obtain ⟨k, hk, rfl, hall, hbl⟩ := hrel
    have hwr := hb1.trans (hbl.mono hb1.size)
    have hEr := hE.below hbl hE.lt
    have hElt : w.heap.size < wr.heap.size := hEr.lt
    have x0 : wr.cell? ⟨w.heap.size, 0, none⟩ = some (.int .i64 f) := hEr.cell 0
    have x1 : wr.cell? ⟨w.heap.size, 1, none⟩ = some (.int .i64 b) := hEr.cell 1
    have x2 : wr.cell? ⟨w.heap.size, 2, none⟩ = some (.slice A n c) := hEr.cell 2
    by_cases hlt : k < n
    · obtain ⟨bb, off, Ai, ci, rfl, hbb, hc, hrd⟩ := (h1.below hbl).at_ hlt
      have hl : (k : Int) < (n : Int) := by omega
      have hl0 : (0 : Int) ≤ (k : Int) := by omega
      have hlb : bb < wr.heap.size := Nat.lt_of_lt_of_le hbb hbl.size
      have hr1 : RdN wr.drew wr.drew.heap.size Ai (len k) (g k) := hrd.more hbl.size
      have hlk := hlen.out k hlt
      clear hrd x1
      go_wp2_with fail
      go_region_held3 (fun w' => w'.cell? ⟨w.heap.size, 0, none⟩ = some (.int .i64 f) ∧ w'.cell? ⟨w.heap.size, 2, none⟩ = some (.slice (some ⟨bb, off, none⟩) n c) ∧ w'.cell? ⟨bb, off + k, none⟩ = some (.slice Ai (len k) ci))
        (first | (simp [go_sem]; done) | exact ⟨e0, e2, ec⟩ | (simp [go_sem, *]; done))
        (first
          | (go_at_call 74; refine (sTreeOk_any Ai (len k) ci (g k) f wr.drew hr1 hlk).mono ?_; rintro e w3 ⟨rfl, hb3⟩; obtain ⟨hc3, hf3⟩ := bcell hb3; have e0 := (hc3 w.heap.size _ hElt).trans x0; have e2 := (hc3 w.heap.size _ hElt).trans x2; have ec := (hc3 bb _ hlb).trans hc))
      have hbl3 := hbl.drew.trans (hb3.mono hbl.size)
      have hw3 := hwr.drew.trans (hb3.mono hwr.size)
      clear hb3 hbl hwr hr1 hc x0 x2 hc3 hf3 e0 e2 ec
      cases hq : treeB (g k) (len k) f
      · go_wp2_with fail
        go_ret
        refine ⟨?_, hw3⟩
        unfold ensB
        rw [allP_false (p := fun i => treeB (g i) (len i) f) hlt hq, Bool.and_false, Bool.and_false]
        rfl
      · go_wp2_with fail
        go_roundw
        case rel => exact ⟨k + 1, by omega, by go_num, (by show allP _ (k + 1) = true; simp only [allP, hq, hall.out]; rfl), hbl3⟩
        case measure => simp [intOf]; omega
    · have e : k = n := by omega
      subst e
      have e0 : Hid (ensB f b k len g = (((decide (1 ≤ f) && decide (f ≤ 6)) && (decide (-1000000000 ≤ b) && decide (b ≤ 1000000000))) && decide (k ≤ 12))) := by
        show _ = _
        unfold ensB
        rw [hall.out, Bool.and_true]
      have e12 : Hid (decide ((k : Int) ≤ 12) = decide (k ≤ 12)) := by show _ = _; simp only [decide_eq_decide]; omega
      go_wp2_with fail
      refine (Feats_any _ _).mono ?_
      rintro e w3 ⟨rfl, rfl⟩
      cases hq1 : (decide (1 ≤ f) && decide (f ≤ 6))
      · go_wp2_with fail
        go_ret
        refine ⟨?_, hwr⟩
        rw [e0.out, hq1]
        rfl
      · go_wp2_with fail
        refine (Value_any _ _).mono ?_
        rintro e w3 ⟨rfl, rfl⟩
        cases hq2 : (decide (-1000000000 ≤ b) && decide (b ≤ 1000000000))
        · go_wp2_with fail
          go_ret
          refine ⟨?_, hwr⟩
          rw [e0.out, hq1, hq2]
          rfl
        · go_wp2_with fail
          go_ret
          refine ⟨?_, hwr⟩
          rw [e0.out, hq1, hq2, ← e12.out]
          rfl
end

/-! ### LawE -/
section
set_option linter.unusedVariables false
set_option linter.unusedSimpArgs false
open Go.ChangeShapes Go.WideShapes Go.Deep

section
variable {H : Type} {enc : TypeId × Value → H} {P : Program} {w : World} {base : Nat} {spare : Nat → Bool} {held : Bool}
theorem open_struct_fields {t : TypeId} {fs : Array Field} {fuel : Nat} {cs : List Value} {x : DataW H × List MemPlace} (ht : P.underlying t = some (.struct fs)) (hone : oneCellFields P fs = true) (hC : P.cellsOf t = fs.size)
    (h : DataW.trod enc P w base spare held fuel t cs = some x) :
    cs.length = fs.size ∧ ∃ n, ∀ (j : Nat) (f : Field), fs[j]? = some f → ∃ (v : Value) (y : DataW H × List MemPlace), cs[j]? = some v ∧ DataW.trod enc P w base spare held n f.type [v] = some y := by
  obtain ⟨xs, n', _, _, hlen, hxl, hf⟩ := DataW.trod_struct ht h
  rw [hC] at hlen
  refine ⟨hlen, n', fun j f hj => ?_⟩
  obtain ⟨ho, hk⟩ := hone_of hone j f hj
  have hjl : j < fs.size := (Array.getElem?_eq_some_iff.1 hj).1
  have hv : cs[j]? = some (cs[j]'(by omega)) := List.getElem?_eq_getElem (by omega)
  have h1 := hf j f hj
  rw [ho, hk] at h1
  have hone' : (cs.drop j).take 1 = [cs[j]'(by omega)] := by
    rw [List.drop_eq_getElem_cons (by omega)]
    rfl
  rw [hone'] at h1
  have hys : xs[j]? = some (xs[j]'(by omega)) := List.getElem?_eq_getElem (by omega)
  exact ⟨_, _, hv, h1.trans hys⟩
end

end

/-! ### LawP -/
section
set_option linter.unusedVariables false
set_option linter.unusedSimpArgs false
open Go.ChangeShapes Go.WideShapes Go.Deep Go.RowKit

/-- A list of numbers that came in. -/
theorem isI_of {H : Type} {enc : TypeId × Value → H} {w : World} {fuel : Nat} {v : Value} {x : DataW H × List MemPlace}
    (hf : DataW.trod enc Tryz.prog w 0 (fun _ => true) true fuel 67 [v] = some x) :
    ∃ A n c z, v = .slice A n c ∧ Rd w w.heap.size A n z ∧ n ≤ 9223372036854775807 := by
  rcases open_ints Tryz.underlying67 Tryz.underlying2 (by kernel_rfl) hf with ⟨hcs, _⟩ | ⟨y, l, c, zs, hcs, _, hl, hm, hz, _, hcell, hwz⟩
  · simp at hcs
    subst hcs
    exact ⟨none, 0, 0, fun _ => 0, rfl, fun h => absurd h (by omega), by omega⟩
  · simp at hcs
    subst hcs
    have hr : IsRow .i64 w (some y) l c zs := .inr ⟨_, rfl, hl, hm, by simpa using hz, hcell, hwz⟩
    exact ⟨some y, l, c, _, rfl, hr.rd, hr.le⟩
end

/-! ### LawH -/
section
set_option linter.unusedVariables false
set_option linter.unusedSimpArgs false
open Go.ChangeShapes Go.WideShapes Go.Deep Go.RowKit

end
end Go.Proofs.YtmkipdhappikhaaGreatDoor
