/- Ensembles on both sides; what came in. -/
import Derived.Test.YtifjbljfpmkmdaaDoorLaw
import Derived.Test.YtifjbljfpmkmdaaDoorK2
import Derived.Deep.Slices
import Derived.Deep.Fields
import Derived.ChangeSame
import Derived.Test.YtifjbljfpmkmdaaDoorK3
import Derived.Test.YtifjbljfpmkmdaaDoorK4
import Derived.Test.YtifjbljfpmkmdaaDoorK6
import Derived.Deep.RegionHeld
namespace Go.Proofs.YtifjbljfpmkmdaaDoor

/-! ### LawN -/
section
set_option linter.unusedVariables false
set_option linter.unusedSimpArgs false
open Go.ChangeShapes Go.WideShapes Go.Deep
section
variable {H : Type} {enc : TypeId × Value → H} {P : Program} {w : World} {base : Nat} {spare : Nat → Bool} {held : Bool}
theorem open_slice_fields {t e : TypeId} {fs : Array Field} {fuel : Nat} {cs : List Value} {x : DataW H × List MemPlace} (ht : P.underlying t = some (.slice e)) (he : P.underlying e = some (.struct fs))
    (hone : oneCellFields P fs = true) (hC : P.cellsOf e = fs.size) (h : DataW.trod enc P w base spare held fuel t cs = some x) :
    (cs = [.slice none 0 0] ∧ x = (.nil, [])) ∨
    ∃ (a : Addr) (len cap m : Nat) (D : Nat → DataW H) (Pl : Nat → List MemPlace), cs = [.slice (some a) len cap] ∧ base ≤ a.block ∧ len ≤ cap ∧ cap ≤ maxLen ∧ m = (if spare a.block then cap else len) ∧
      x = (.slice ((List.range len).map D) ((List.range (m - len)).map fun j => D (len + j)), MemPlace.row a (m * fs.size) ++ (List.range m).flatMap Pl) ∧
      ∀ i, i < m → ∃ (ys : List (DataW H × List MemPlace)) (n : Nat), D i = .agg (ys.map (·.1)) ∧ Pl i = ys.flatMap (·.2) ∧ ys.length = fs.size ∧
        ∀ (j : Nat) (f : Field), fs[j]? = some f → ∃ (v : Value) (y : DataW H × List MemPlace), w.cell? (a.add (i * fs.size + j)) = some v ∧ ys[j]? = some y ∧ DataW.trod enc P w base spare held n f.type [v] = some y := by
  rcases open_slice ht h with h0 | ⟨a, len, cap, m, n, D, Pl, hcs, hb, hl, hm, hmm, hx, hi⟩
  · exact .inl h0
  · refine .inr ⟨a, len, cap, m, D, Pl, hcs, hb, hl, hm, hmm, by rw [hC] at hx; exact hx, fun i him => ?_⟩
    obtain ⟨cs', hc, ht'⟩ := hi i him
    rw [hC] at hc
    obtain ⟨ys, n', hn', hy, hlen, hyl, hf⟩ := DataW.trod_struct he ht'
    obtain ⟨_, hcl, hat⟩ := World.cells?_some hc
    simp only [Prod.mk.injEq] at hy
    refine ⟨ys, n', hy.1, hy.2, hyl, fun j f hj => ?_⟩
    obtain ⟨ho, hk⟩ := hone_of hone j f hj
    have hjl : j < fs.size := (Array.getElem?_eq_some_iff.1 hj).1
    have hcell := hat j hjl
    have hv : cs'[j]? = some (cs'[j]'(by omega)) := List.getElem?_eq_getElem (by omega)
    have h1 := hf j f hj
    rw [ho, hk] at h1
    have hone' : (cs'.drop j).take 1 = [cs'[j]'(by omega)] := by
      rw [List.drop_eq_getElem_cons (by omega)]
      rfl
    rw [hone'] at h1
    have hys : ys[j]? = some (ys[j]'(by omega)) := List.getElem?_eq_getElem (by omega)
    refine ⟨_, _, ?_, hys, h1.trans hys⟩
    rw [← Go.Deep.add_add, hcell, hv]
end

/-- A slice of nodes that came in. -/
def IsNodes (w : World) (a : Option Addr) (len _cap : Nat) (g : Nat → Nd) : Prop := RdN w w.heap.size a len g ∧ len ≤ 9223372036854775807

theorem isNodes_of {H : Type} {enc : TypeId × Value → H} {w : World} {fuel len cap : Nat} {a : Option Addr} {x : DataW H × List MemPlace}
    (hf : DataW.trod enc Tryd.prog w 0 (fun _ => true) true fuel 28 (Value.slice a len cap).cells.toList = some x) : ∃ g, IsNodes w a len cap g := by
  have hf' : DataW.trod enc Tryd.prog w 0 (fun _ => true) true fuel 28 [Value.slice a len cap] = some x := by simpa [Value.cells] using hf
  rcases open_slice_fields Tryd.underlying28 Tryd.underlying70 (by kernel_rfl) (by kernel_rfl) hf' with ⟨hcs, _⟩ | ⟨ad, l, c, m, D, Pl, hcs, _, hl, hm, hmm, _, hcell⟩
  · simp at hcs
    obtain ⟨rfl, rfl, rfl⟩ := hcs
    exact ⟨fun _ => ⟨0, 0, 0, 0, false, 0⟩, fun h => absurd h (by omega), by omega⟩
  · simp at hcs
    obtain ⟨rfl, rfl, rfl⟩ := hcs
    have hmc : m = cap := by simpa using hmm
    subst hmc
    have one : ∀ i, i < len → ∃ d : Nd, w.cell? (ad.add (i * 6 + 0)) = some (.int .i64 d.feat) ∧ w.cell? (ad.add (i * 6 + 1)) = some (.int .i64 d.cut) ∧ w.cell? (ad.add (i * 6 + 2)) = some (.int .i64 d.left) ∧
        w.cell? (ad.add (i * 6 + 3)) = some (.int .i64 d.right) ∧ w.cell? (ad.add (i * 6 + 4)) = some (.bool d.miss) ∧ w.cell? (ad.add (i * 6 + 5)) = some (.int .i64 d.value) := by
      intro i hi
      obtain ⟨ys, n, _, _, _, hff⟩ := hcell i (by omega)
      obtain ⟨v0, y0, e0, _, t0⟩ := hff 0 _ rfl
      obtain ⟨v1, y1, e1, _, t1⟩ := hff 1 _ rfl
      obtain ⟨v2, y2, e2, _, t2⟩ := hff 2 _ rfl
      obtain ⟨v3, y3, e3, _, t3⟩ := hff 3 _ rfl
      obtain ⟨v4, y4, e4, _, t4⟩ := hff 4 _ rfl
      obtain ⟨v5, y5, e5, _, t5⟩ := hff 5 _ rfl
      obtain ⟨x0, r0, _⟩ := DataW.trod_int Tryd.underlying2 t0
      obtain ⟨x1, r1, _⟩ := DataW.trod_int Tryd.underlying2 t1
      obtain ⟨x2, r2, _⟩ := DataW.trod_int Tryd.underlying2 t2
      obtain ⟨x3, r3, _⟩ := DataW.trod_int Tryd.underlying2 t3
      obtain ⟨x4, r4, _⟩ := DataW.trod_bool Tryd.underlying4 t4
      obtain ⟨x5, r5, _⟩ := DataW.trod_int Tryd.underlying2 t5
      injection r0 with r0; injection r1 with r1; injection r2 with r2; injection r3 with r3; injection r4 with r4; injection r5 with r5
      subst r0 r1 r2 r3 r4 r5
      exact ⟨⟨x0, x1, x2, x3, x4, x5⟩, e0, e1, e2, e3, e4, e5⟩
    obtain ⟨g, hg⟩ : ∃ g : Nat → Nd, ∀ i, i < len → w.cell? (ad.add (i * 6 + 0)) = some (.int .i64 (g i).feat) ∧ w.cell? (ad.add (i * 6 + 1)) = some (.int .i64 (g i).cut) ∧ w.cell? (ad.add (i * 6 + 2)) = some (.int .i64 (g i).left) ∧
        w.cell? (ad.add (i * 6 + 3)) = some (.int .i64 (g i).right) ∧ w.cell? (ad.add (i * 6 + 4)) = some (.bool (g i).miss) ∧ w.cell? (ad.add (i * 6 + 5)) = some (.int .i64 (g i).value) :=
      ⟨fun i => if h : i < len then Classical.choose (one i h) else ⟨0, 0, 0, 0, false, 0⟩, fun i hi => by simp only [dif_pos hi]; exact Classical.choose_spec (one i hi)⟩
    refine ⟨g, fun hn => ?_, by unfold maxLen at hm; omega⟩
    obtain ⟨b, off, spot⟩ := ad
    have h0 := (hg 0 hn).1
    have hs : spot = none := by simpa [Addr.add] using World.cell?_spot h0
    subst hs
    refine ⟨b, off, rfl, ?_, fun i hi => ?_⟩
    · have := cell_lt h0
      simpa [Addr.add_lit] using this
    · obtain ⟨e0, e1, e2, e3, e4, e5⟩ := hg i hi
      simp only [Addr.add_lit, ← Nat.add_assoc, Nat.add_zero] at e0 e1 e2 e3 e4 e5
      exact ⟨e0, e1, e2, e3, e4, e5⟩
end

/-! ### EnsA -/
section
set_option linter.unusedVariables false
set_option linter.unusedSimpArgs false
open Go.RowKit Go.Deep

/-- The slice at A reads as n lists of nodes, and lies with them below block B. -/
def RdT (w : World) (B : Nat) (A : Option Addr) (n : Nat) (len : Nat → Nat) (g : Nat → Nat → Nd) : Prop :=
  0 < n → ∃ b off, A = some ⟨b, off, none⟩ ∧ b < B ∧ ∀ i, i < n → ∃ Ai ci, w.cell? ⟨b, off + i, none⟩ = some (.slice Ai (len i) ci) ∧ RdN w B Ai (len i) (g i)
section
variable {w w' : World} {B B' n : Nat} {A : Option Addr} {len : Nat → Nat} {g : Nat → Nat → Nd}
theorem RdT.keep (h : RdT w B A n len g) (hk : ∀ p : Addr, p.block < B → w'.cell? p = w.cell? p) : RdT w' B A n len g := fun hn => by
  obtain ⟨b, off, e, hb, hc⟩ := h hn
  refine ⟨b, off, e, hb, fun i hi => ?_⟩
  obtain ⟨Ai, ci, h1, h2⟩ := hc i hi
  exact ⟨Ai, ci, (hk ⟨b, off + i, none⟩ hb).trans h1, h2.keep hk⟩
theorem RdT.more (h : RdT w B A n len g) (hB : B ≤ B') : RdT w B' A n len g := fun hn => by
  obtain ⟨b, off, e, hb, hc⟩ := h hn
  refine ⟨b, off, e, by omega, fun i hi => ?_⟩
  obtain ⟨Ai, ci, h1, h2⟩ := hc i hi
  exact ⟨Ai, ci, h1, h2.more hB⟩
theorem RdT.below (h : RdT w B A n len g) (hb : Below B w w') : RdT w' B A n len g := h.keep fun _ hp => hb.cell hp
theorem RdT.to (h : RdT w w.heap.size A n len g) (hb : Below w.heap.size w w') (hB : w.heap.size ≤ w'.heap.size) : RdT w' w'.heap.size A n len g := (h.below hb).more hB
theorem RdT.at_ {k : Nat} (h : RdT w B A n len g) (hk : k < n) : ∃ b off Ai ci, A = some ⟨b, off, none⟩ ∧ b < B ∧ w.cell? ⟨b, off + k, none⟩ = some (.slice Ai (len k) ci) ∧ RdN w B Ai (len k) (g k) := by
  obtain ⟨b, off, e, hb, hc⟩ := h (by omega)
  obtain ⟨Ai, ci, h1, h2⟩ := hc k hk
  exact ⟨b, off, Ai, ci, e, hb, h1, h2⟩
end
theorem rdt_none {w : World} {B : Nat} {A : Option Addr} {len : Nat → Nat} {g : Nat → Nat → Nd} : RdT w B A 0 len g := fun h => absurd h (by omega)

/-- The same in new memory: blocks from L on. -/
def LoT (w : World) (L B : Nat) (A : Option Addr) (n : Nat) (len : Nat → Nat) (g : Nat → Nat → Nd) : Prop :=
  0 < n → ∃ b, A = some ⟨b, 0, none⟩ ∧ L ≤ b ∧ b < B ∧ ∀ i, i < n → ∃ bi ci, w.cell? ⟨b, i, none⟩ = some (.slice (some ⟨bi, 0, none⟩) (len i) ci) ∧ L ≤ bi ∧ bi < B ∧ ∀ j, j < len i → NdAt w bi (j * 6) (g i j)
theorem LoT.rdT {w : World} {L B n : Nat} {A : Option Addr} {len : Nat → Nat} {g : Nat → Nat → Nd} (h : LoT w L B A n len g) : RdT w B A n len g := fun hn => by
  obtain ⟨b, e, _, hb, hc⟩ := h hn
  refine ⟨b, 0, e, hb, fun i hi => ?_⟩
  obtain ⟨bi, ci, h1, _, h2, h3⟩ := hc i hi
  exact ⟨_, ci, by rw [Nat.zero_add]; exact h1, fun _ => ⟨bi, 0, rfl, h2, fun j hj => by rw [Nat.zero_add]; exact h3 j hj⟩⟩
theorem LoT.keep {w w' : World} {L B n : Nat} {A : Option Addr} {len : Nat → Nat} {g : Nat → Nat → Nd} (h : LoT w L B A n len g) (hk : ∀ p : Addr, L ≤ p.block → p.block < B → w'.cell? p = w.cell? p) : LoT w' L B A n len g := fun hn => by
  obtain ⟨b, e, hL, hb, hc⟩ := h hn
  refine ⟨b, e, hL, hb, fun i hi => ?_⟩
  obtain ⟨bi, ci, h1, h2, h3, h4⟩ := hc i hi
  exact ⟨bi, ci, (hk ⟨b, i, none⟩ hL hb).trans h1, h2, h3, fun j hj => (h4 j hj).keep fun o => hk ⟨bi, o, none⟩ h2 h3⟩

theorem info_nodes : (Tryd.prog.info? 31).map (fun i => (i.zero, i.size, i.bytes)) = some (some (.slice none 0 0), 1, 24) := by kernel_rfl

set_option maxHeartbeats 2000000 in
theorem toT_any (A : Option Addr) (n cap : Nat) (len : Nat → Nat) (g : Nat → Nat → Nd) (w : World) (h : RdT w w.heap.size A n len g) (hn : n ≤ 4194304) (hlen : Hid (∀ i, i < n → len i ≤ 4194304)) :
    Calls Tryd.prog 51 #[.slice A n cap] w fun e w' =>
      ∃ b, e = .returned (.slice (some ⟨b, 0, none⟩) n n) ∧ w.heap.size ≤ b ∧ LoT w' w.heap.size w'.heap.size (some ⟨b, 0, none⟩) n len g ∧ Below w.heap.size w w' := by
  obtain ⟨i0, hi0, hz0, hz1, hz2⟩ := info_parts info_nodes
  have hmk := fun wx => run_make_rowN (P := Tryd.prog) 43 31 i0 _ Tryd.underlying43 hi0 hz0 .i64 .i64 n n (Nat.le_refl _) (by rw [hz2]; omega) (by omega) wx
  rw [hz1] at hmk
  clear hz0 hz1 hz2 hi0
  go_enter Tryd.func51, Tryd.ntmps51
  go_wp2_with fail
  go_loopw [4] (fun i wr => ∃ (k : Nat) (cs : Array Value), k ≤ n ∧ i = .int .i64 k ∧ Blk wr w.heap.size 31 cs ∧ n ≤ cs.size ∧ Hid (∀ i, i < k → ∃ b, cs[i]? = some (.slice (some ⟨b, 0, none⟩) (len i) (len i)) ∧ w.heap.size ≤ b ∧ RowN wr 68 b (len i) (g i)) ∧ Below w.heap.size w wr)
    (fun i _ => n - (intOf i).toNat)
  case atStart => exact ⟨0, _, Nat.zero_le _, rfl, Blk.new _ _ _, by simp [madeCells], fun j hj => by omega, (Below.refl _ _).alloc (Nat.le_refl _) _⟩
  case round =>
    obtain ⟨k, cs, hk, rfl, hB, hsz, hcs, hbl⟩ := hrel
    by_cases hlt : k < n
    · obtain ⟨b, off, Ai, ci, rfl, hb, hc, hrd⟩ := (h.below hbl).at_ hlt
      have hl : (k : Int) < (n : Int) := by omega
      have hl0 : (0 : Int) ≤ (k : Int) := by omega
      go_wp2_with fail
      refine (toN_any Ai (len k) ci (g k) _ (hrd.more hbl.size) (hlen.out k hlt)).mono ?_
      rintro e w1 ⟨bk, rfl, hbk, hrow, hb1⟩
      have hB1 := hB.below hb1 hB.lt
      have hcs1 : Hid (∀ i, i < k → ∃ b, cs[i]? = some (.slice (some ⟨b, 0, none⟩) (len i) (len i)) ∧ w.heap.size ≤ b ∧ RowN w1 68 b (len i) (g i)) := fun i hi => by
        obtain ⟨bi, h1, h3, h2⟩ := hcs.out i hi
        exact ⟨bi, h1, h3, h2.below hb1 h2.lt⟩
      have hbl1 := hbl.trans (hb1.mono hbl.size)
      have hbk' := Nat.le_trans hbl.size hbk
      clear hcs hb1 hB hbl hrd hc
      have s0 : w1.cell? ⟨w.heap.size, k, none⟩ = some (cs[k]'(by omega)) := by rw [hB1.cell, Array.getElem?_eq_getElem]
      have f0 := hB1.frozen k
      have HROW := hid hrow
      clear hrow
      go_wp2_with fail
      go_roundw
      case rel =>
        have hfar : ∀ {bi : Nat} {m : Nat} {gi : Nat → Nd}, RowN w1 68 bi m gi → RowN (w1.setCell ⟨w.heap.size, k, none⟩ (.slice (some ⟨bk, 0, none⟩) (len k) (len k))) 68 bi m gi := fun {bi m gi} hr => by
          obtain ⟨cs', hB', hs', hc'⟩ := hr
          exact ⟨cs', hB'.far (p := ⟨w.heap.size, k, none⟩) (Blk.ne_ hB' hB1 (by decide)) _, hs', hc'⟩
        refine ⟨k + 1, _, by omega, by go_num, hB1.set_ k _, by simpa using hsz, fun j hj => ?_, hbl1.setCell (p := ⟨w.heap.size, k, none⟩) (Nat.le_refl _) _⟩
        by_cases e : j = k
        · subst e
          exact ⟨bk, by rw [Array.getElem?_setIfInBounds_self_of_lt (by omega)], hbk', hfar HROW.out⟩
        · obtain ⟨bj, h1, h3, h2⟩ := hcs1.out j (by omega)
          exact ⟨bj, by rw [Array.getElem?_setIfInBounds_ne (by omega)]; exact h1, h3, hfar h2⟩
      case measure => simp [intOf]; omega
    · have e : k = n := by omega
      go_wp2_with fail
      go_ret
      subst e
      refine ⟨_, rfl, Nat.le_refl _, fun hn0 => ⟨w.heap.size, rfl, Nat.le_refl _, hB.lt, fun i hi => ?_⟩, hbl⟩
      obtain ⟨bi, h1, h3, h2⟩ := hcs.out i hi
      exact ⟨bi, len i, by rw [hB.cell]; exact h1, h3, h2.lt, fun j hj => h2.ndAt hj⟩

set_option maxHeartbeats 2000000 in
/-- eqNodeSS at two slices that read alike. -/
theorem eqT_any (A A' : Option Addr) (n c c' : Nat) (len : Nat → Nat) (g : Nat → Nat → Nd) (w : World) (h : RdT w w.heap.size A n len g) (h' : RdT w w.heap.size A' n len g) (hn : n ≤ 4194304) (hlen : Hid (∀ i, i < n → len i ≤ 4194304)) :
    Calls Tryd.prog 54 #[.slice A n c, .slice A' n c'] w fun e w' => e = .returned (.bool true) ∧ Below w.heap.size w w' := by
  go_enter Tryd.func54, Tryd.ntmps54
  go_wp2_with fail
  go_loopw [5] (fun i wr => ∃ k : Nat, k ≤ n ∧ i = .int .i64 k ∧ Below w.heap.size w wr) (fun i _ => n - (intOf i).toNat)
  case atStart => exact ⟨0, Nat.zero_le _, rfl, Below.refl _ _⟩
  case round =>
    obtain ⟨k, hk, rfl, hbl⟩ := hrel
    by_cases hlt : k < n
    · obtain ⟨b, off, Ai, ci, rfl, hb, hc, hrd⟩ := (h.below hbl).at_ hlt
      obtain ⟨b', off', Ai', ci', rfl, hb', hc', hrd'⟩ := (h'.below hbl).at_ hlt
      have hi : (k : Int) < (n : Int) := by omega
      have hi0 : (0 : Int) ≤ (k : Int) := by omega
      have hlb : b < wr.heap.size := Nat.lt_of_lt_of_le hb hbl.size
      have hlb' : b' < wr.heap.size := Nat.lt_of_lt_of_le hb' hbl.size
      have hr1 : RdN wr.drew wr.drew.heap.size Ai (len k) (g k) := hrd.more hbl.size
      have hr2 : RdN wr.drew wr.drew.heap.size Ai' (len k) (g k) := hrd'.more hbl.size
      have hlk := hlen.out k hlt
      clear hrd hrd'
      go_wp2_with fail
      go_region_held3 (fun w' => w'.cell? ⟨b, off + k, none⟩ = some (.slice Ai (len k) ci) ∧ w'.cell? ⟨b', off' + k, none⟩ = some (.slice Ai' (len k) ci'))
        (first | (simp [go_sem]; done) | exact ⟨e0, e0'⟩ | (simp [go_sem, *]; done))
        (first
          | (go_at_call 17; refine (eqN_any Ai Ai' (len k) ci ci' (g k) wr.drew hr1 hr2 hlk).mono ?_; rintro e w1 ⟨rfl, hb1⟩; obtain ⟨hc1, hf1⟩ := bcell hb1; have e0 := (hc1 b _ hlb).trans hc; have e0' := (hc1 b' _ hlb').trans hc'))
      have hbl2 := hbl.drew.trans (hb1.mono hbl.size)
      clear hb1 hc1 hf1 e0 e0' hc hc' hr1 hr2
      go_wp2_with fail
      go_roundw
      case rel => exact ⟨k + 1, by omega, by go_num, hbl2⟩
      case measure => simp [intOf]; omega
    · go_wp2_with fail
      go_ret
      exact ⟨rfl, hbl⟩

set_option maxHeartbeats 2000000 in
/-- The size: either it is too much, or all is small. -/
theorem szT_any (A : Option Addr) (n cap : Nat) (len : Nat → Nat) (g : Nat → Nat → Nd) (l : Int) (w : World) (h : RdT w w.heap.size A n len g) (hn : n ≤ 9223372036854775807) (hlen : Hid (∀ i, i < n → len i ≤ 9223372036854775807)) (h0 : 0 ≤ l) (h1 : l ≤ 1048576) :
    Calls Tryd.prog 48 #[.slice A n cap, .int .i64 l] w fun e w' =>
      ∃ y : Int, e = .returned (.int .i64 y) ∧ (y < 0 ∨ (0 ≤ y ∧ y ≤ l ∧ n ≤ 1048576 ∧ ∀ i, i < n → len i ≤ 1048576)) ∧ w = w' := by
  by_cases hbig : l - (n : Int) < 0
  · go_enter Tryd.func48, Tryd.ntmps48
    go_wp2_with fail
    go_ret
    exact ⟨_, rfl, .inl (by omega), rfl⟩
  · go_enter Tryd.func48, Tryd.ntmps48
    go_wp2_with fail
    go_loopw [1, 5] (fun y i wr => ∃ (k : Nat) (x : Int), k ≤ n ∧ i = .int .i64 k ∧ y = .int .i64 x ∧ 0 ≤ x ∧ x ≤ l ∧ Hid (∀ j, j < k → len j ≤ 1048576) ∧ wr = w) (fun _ i _ => n - (intOf i).toNat)
    case atStart => exact ⟨0, _, Nat.zero_le _, rfl, rfl, by omega, by omega, fun j hj => by omega, rfl⟩
    case round =>
      obtain ⟨k, x, hk, rfl, rfl, hx0, hx1, hall, rfl⟩ := hrel
      by_cases hlt : k < n
      · obtain ⟨b, off, Ai, ci, rfl, hb, hc, hrd⟩ := h.at_ hlt
        have hl : (k : Int) < (n : Int) := by omega
        have hl0 : (0 : Int) ≤ (k : Int) := by omega
        have hlk := hlen.out k hlt
        by_cases hb2 : x - (len k : Int) < 0
        · go_wp2_with fail
          refine (szN_big Ai (len k) ci x _ hlk hx0 (by omega) hb2).mono ?_
          rintro e w1 ⟨rfl, rfl⟩
          go_wp2_with fail
          go_ret
          exact ⟨_, rfl, .inl (by omega), rfl⟩
        · go_wp2_with fail
          refine (szN_ok Ai (len k) ci x _ hlk hx0 (by omega) (by omega)).mono ?_
          rintro e w1 ⟨rfl, rfl⟩
          go_wp2_with fail
          go_roundw
          case rel =>
            refine ⟨k + 1, _, by omega, by go_num, rfl, by omega, by omega, fun j hj => ?_, by first | trivial | rfl⟩
            by_cases e : j = k
            · subst e; omega
            · exact hall.out j (by omega)
          case measure => simp [intOf]; omega
      · go_wp2_with fail
        go_ret
        have e : k = n := by omega
        subst e
        exact ⟨x, rfl, .inr ⟨hx0, hx1, by omega, hall.out⟩, rfl⟩
end

/-! ### EnsB -/
section
set_option linter.unusedVariables false
set_option linter.unusedSimpArgs false
open Go.RowKit Go.Deep

abbrev enV (f b : Int) (A : Option Addr) (n c : Nat) : Value := .agg #[.int .i64 f, .int .i64 b, .slice A n c]
theorem size_ens : (Tryd.prog.info? 45).map (·.size) = some 3 := by kernel_rfl

set_option maxRecDepth 100000 in
set_option maxHeartbeats 2000000 in
theorem toE_any (f b : Int) (A : Option Addr) (n c : Nat) (len : Nat → Nat) (g : Nat → Nat → Nd) (w : World) (h : RdT w w.heap.size A n len g) (hn : n ≤ 4194304) (hlen : Hid (∀ i, i < n → len i ≤ 4194304)) :
    Calls Tryd.prog 24 #[enV f b A n c] w fun e w' =>
      ∃ bt, e = .returned (enV f b (some ⟨bt, 0, none⟩) n n) ∧ w.heap.size ≤ bt ∧ RdT w' w'.heap.size (some ⟨bt, 0, none⟩) n len g ∧ Below w.heap.size w w' := by
  have hb3 := (((Below.refl w.heap.size w).alloc (Nat.le_refl _) (.cells #[.int .i64 f, .int .i64 b, .slice A n c] 40)).alloc (by simp) (.cells #[.int .i64 0, .int .i64 0, .slice none 0 0] 45)).alloc (by simp; omega) (.cells #[.int .i64 f, .int .i64 b, .slice none 0 0] 45)
  have h3 := h.to hb3 hb3.size
  go_enter Tryd.func24, Tryd.ntmps24
  go_wp2_with fail
  refine (toT_any A n c len g _ h3 hn hlen).mono ?_
  rintro e w4 ⟨bt, rfl, hbt, hrd, hb4⟩
  have hR := ((Blk.new2 w (.cells #[.int .i64 f, .int .i64 b, .slice A n c] 40) 45 #[.int .i64 0, .int .i64 0, .slice none 0 0]).alloc (.cells #[.int .i64 f, .int .i64 b, .slice none 0 0] 45)).below hb4 (by simp)
  have hO := (Blk.new3 w (.cells #[.int .i64 f, .int .i64 b, .slice A n c] 40) (.cells #[.int .i64 0, .int .i64 0, .slice none 0 0] 45) 45 #[.int .i64 f, .int .i64 b, .slice none 0 0]).below hb4 (by simp)
  obtain ⟨o0, o1, o2, f0, f1, f2⟩ := blk_cells3 hO
  obtain ⟨r0, r1, r2, g0, g1, g2⟩ := blk_cells3 hR
  have hw4 := hb3.trans (hb4.mono hb3.size)
  clear h3 hb3
  go_wp2_with fail
  refine bodyPost_ret (results_cell_row rfl _ _ (w.heap.size + 1) 45 #[.int .i64 f, .int .i64 b, .slice (some ⟨bt, 0, none⟩) n n] (0, 0) _ rfl ((((hR.far (p := ⟨w.heap.size + 1 + 1, 2, none⟩) (by simp) (.slice (some ⟨bt, 0, none⟩) n n)).set_ 0 (.int .i64 f)).set_ 1 (.int .i64 b)).set_ 2 (.slice (some ⟨bt, 0, none⟩) n n)) Tryd.underlying45 rfl size_ens) rfl ?_
  have hbt' : w.heap.size ≤ bt := by simp at hbt; omega
  refine ⟨bt, rfl, hbt', ((hrd.keep fun p hp _ => ?_).rdT).more (by simp only [World.size_setCell]; exact Nat.le_refl _), (((hw4.setCell (p := ⟨w.heap.size + 1 + 1, 2, none⟩) (by simp; omega) _).setCell (p := ⟨w.heap.size + 1, 0, none⟩) (by simp) _).setCell (p := ⟨w.heap.size + 1, 1, none⟩) (by simp) _).setCell (p := ⟨w.heap.size + 1, 2, none⟩) (by simp) _⟩
  have hp' : w.heap.size + 3 ≤ p.block := by simpa using hp
  rw [World.cell?_setCell_far _ _ _ _ (by simp; omega), World.cell?_setCell_far _ _ _ _ (by simp; omega), World.cell?_setCell_far _ _ _ _ (by simp; omega), World.cell?_setCell_far _ _ _ _ (by simp; omega)]
end

/-! ### EnsC -/
section
set_option linter.unusedVariables false
set_option linter.unusedSimpArgs false
open Go.RowKit Go.Deep

set_option maxHeartbeats 1000000 in
theorem eqE_any (f b : Int) (A A' : Option Addr) (n c c' : Nat) (len : Nat → Nat) (g : Nat → Nat → Nd) (w : World) (h : RdT w w.heap.size A n len g) (h' : RdT w w.heap.size A' n len g) (hn : n ≤ 4194304) (hlen : Hid (∀ i, i < n → len i ≤ 4194304)) :
    Calls Tryd.prog 26 #[enV f b A n c, enV f b A' n c'] w fun e w' => e = .returned (.bool true) ∧ Below w.heap.size w w' := by
  have hb2 := ((Below.refl w.heap.size w).alloc (Nat.le_refl _) (.cells #[.int .i64 f, .int .i64 b, .slice A n c] 45)).alloc (by simp) (.cells #[.int .i64 f, .int .i64 b, .slice A' n c'] 45)
  have h2 := h.to hb2 hb2.size
  have h2' := h'.to hb2 hb2.size
  go_enter Tryd.func26, Tryd.ntmps26
  go_wp2_with fail
  refine (eqT_any A A' n c c' len g _ h2 h2' hn hlen).mono ?_
  rintro e w3 ⟨rfl, hb3⟩
  have hw := hb2.trans (hb3.mono hb2.size)
  clear hb2 hb3 h2 h2'
  go_wp2_with fail
  go_ret
  exact ⟨rfl, hw⟩

set_option maxHeartbeats 1000000 in
theorem szE_any (f b : Int) (A : Option Addr) (n c : Nat) (len : Nat → Nat) (g : Nat → Nat → Nd) (l : Int) (w : World) (h : RdT w w.heap.size A n len g) (hn : n ≤ 9223372036854775807) (hlen : Hid (∀ i, i < n → len i ≤ 9223372036854775807)) (h0 : 0 ≤ l) (h1 : l ≤ 1048576) :
    Calls Tryd.prog 22 #[enV f b A n c, .int .i64 l] w fun e w' =>
      ∃ y : Int, e = .returned (.int .i64 y) ∧ (y < 0 ∨ (0 ≤ y ∧ y ≤ l ∧ n ≤ 1048576 ∧ ∀ i, i < n → len i ≤ 1048576)) ∧ Below w.heap.size w w' := by
  have hb2 := (Below.refl w.heap.size w).alloc (Nat.le_refl _) (.cells #[.int .i64 f, .int .i64 b, .slice A n c] 40)
  have h2 := h.to hb2 hb2.size
  go_enter Tryd.func22, Tryd.ntmps22
  go_wp2_with fail
  refine (szT_any A n c len g l _ h2 hn hlen h0 h1).mono ?_
  rintro e w3 ⟨y, rfl, hy, rfl⟩
  by_cases hlt : y < 0
  · clear hy
    go_wp2_with fail
    go_ret
    exact ⟨_, rfl, .inl (by omega), hb2⟩
  · have HY := hid hy
    clear hy
    go_wp2_with fail
    go_ret
    exact ⟨y, rfl, HY.out, hb2⟩

def ensB (f b : Int) (n : Nat) (len : Nat → Nat) (g : Nat → Nat → Nd) : Bool :=
  ((decide (1 ≤ f) && decide (f ≤ 6)) && (decide (-1000000000 ≤ b) && decide (b ≤ 1000000000))) && (decide (n ≤ 12) && allP (fun i => treeB (g i) (len i) f) n)
theorem ensB_iff {f b : Int} {n : Nat} {len : Nat → Nat} {g : Nat → Nat → Nd} : ensB f b n len g = true ↔ (1 ≤ f ∧ f ≤ 6) ∧ (-1000000000 ≤ b ∧ b ≤ 1000000000) ∧ n ≤ 12 ∧ ∀ i, i < n → treeB (g i) (len i) f = true := by
  unfold ensB
  simp only [Bool.and_eq_true, decide_eq_true_eq, allP_iff]
  constructor
  · rintro ⟨⟨a, b⟩, c, d⟩; exact ⟨a, b, c, d⟩
  · rintro ⟨a, b, c, d⟩; exact ⟨⟨a, b⟩, c, d⟩

set_option maxHeartbeats 2000000 in
theorem iEnsOk_any (f b : Int) (A : Option Addr) (n c : Nat) (len : Nat → Nat) (g : Nat → Nat → Nd) (w : World) (h : RdT w w.heap.size A n len g) (hn : n ≤ 4194304) (hlen : Hid (∀ i, i < n → len i ≤ 4194304)) :
    Calls Tryd.prog 52 #[enV f b A n c] w fun e w' => e = .returned (.bool (ensB f b n len g)) ∧ Below w.heap.size w w' := by
  have hb1 := (Below.refl w.heap.size w).alloc (Nat.le_refl _) (.cells #[.int .i64 f, .int .i64 b, .slice A n c] 45)
  by_cases q1 : f < 1
  · have e0 : ensB f b n len g = false := by unfold ensB; rw [decide_eq_false (show ¬ 1 ≤ f by omega)]; rfl
    rw [e0]
    go_enter Tryd.func52, Tryd.ntmps52
    go_wp2_with fail
    go_ret
    exact ⟨rfl, hb1⟩
  by_cases q2 : 6 < f
  · have e0 : ensB f b n len g = false := by unfold ensB; rw [decide_eq_false (show ¬ f ≤ 6 by omega), Bool.and_false]; rfl
    rw [e0]
    go_enter Tryd.func52, Tryd.ntmps52
    go_wp2_with fail
    go_ret
    exact ⟨rfl, hb1⟩
  by_cases q3 : b < -1000000000
  · have e0 : ensB f b n len g = false := by unfold ensB; rw [decide_eq_false (show ¬ -1000000000 ≤ b by omega), Bool.false_and, Bool.and_false]; rfl
    rw [e0]
    go_enter Tryd.func52, Tryd.ntmps52
    go_wp2_with fail
    go_ret
    exact ⟨rfl, hb1⟩
  by_cases q4 : 1000000000 < b
  · have e0 : ensB f b n len g = false := by unfold ensB; rw [decide_eq_false (show ¬ b ≤ 1000000000 by omega), Bool.and_false, Bool.and_false]; rfl
    rw [e0]
    go_enter Tryd.func52, Tryd.ntmps52
    go_wp2_with fail
    go_ret
    exact ⟨rfl, hb1⟩
  by_cases q5 : (12 : Int) < (n : Int)
  · have e0 : ensB f b n len g = false := by unfold ensB; rw [decide_eq_false (show ¬ n ≤ 12 by omega), Bool.false_and, Bool.and_false]
    rw [e0]
    go_enter Tryd.func52, Tryd.ntmps52
    go_wp2_with fail
    go_ret
    exact ⟨rfl, hb1⟩
  have e0 : Hid (ensB f b n len g = allP (fun i => treeB (g i) (len i) f) n) := by
    show _ = _
    unfold ensB
    rw [decide_eq_true (show 1 ≤ f by omega), decide_eq_true (show f ≤ 6 by omega), decide_eq_true (show -1000000000 ≤ b by omega), decide_eq_true (show b ≤ 1000000000 by omega), decide_eq_true (show n ≤ 12 by omega)]
    rfl
  have hE := Blk.new w 45 #[.int .i64 f, .int .i64 b, .slice A n c]
  have h1 := h.to hb1 hb1.size
  go_enter Tryd.func52, Tryd.ntmps52
  go_wp2_with fail
  generalize hW : w.alloc (.cells #[.int .i64 f, .int .i64 b, .slice A n c] 45) = W1 at hb1 hE h1 ⊢
  clear hW
  go_loopw [32] (fun i wr => ∃ k : Nat, k ≤ n ∧ i = .int .i64 k ∧ Hid (allP (fun i => treeB (g i) (len i) f) k = true) ∧ Below W1.heap.size W1 wr) (fun i _ => n - (intOf i).toNat)
  case atStart => exact ⟨0, Nat.zero_le _, rfl, rfl, Below.refl _ _⟩
  case round =>
    obtain ⟨k, hk, rfl, hall, hbl⟩ := hrel
    have hwr := hb1.trans (hbl.mono hb1.size)
    by_cases hlt : k < n
    · obtain ⟨bb, off, Ai, ci, rfl, hbb, hc, hrd⟩ := (h1.below hbl).at_ hlt
      have hl : (k : Int) < (n : Int) := by omega
      have hl0 : (0 : Int) ≤ (k : Int) := by omega
      have x0 : wr.cell? ⟨w.heap.size, 0, none⟩ = some (.int .i64 f) := (hE.below hbl hE.lt).cell 0
      go_wp2_with fail
      refine (iTreeOk_any Ai (len k) ci (g k) f _ (hrd.more hbl.size) (hlen.out k hlt)).mono ?_
      rintro e w3 ⟨rfl, hb3⟩
      have hbl3 := hbl.trans (hb3.mono hbl.size)
      have hw3 := hwr.trans (hb3.mono hwr.size)
      clear hb3 hbl hwr hrd hc x0
      cases hq : treeB (g k) (len k) f
      · go_wp2_with fail
        go_ret
        refine ⟨?_, hw3⟩
        rw [e0.out, allP_false (p := fun i => treeB (g i) (len i) f) hlt hq]
        rfl
      · go_wp2_with fail
        go_roundw
        case rel => exact ⟨k + 1, by omega, by go_num, (by show allP _ (k + 1) = true; simp only [allP, hq, hall.out]; rfl), hbl3⟩
        case measure => simp [intOf]; omega
    · have e : k = n := by omega
      go_wp2_with fail
      go_ret
      subst e
      refine ⟨?_, hwr⟩
      rw [e0.out, hall.out]
      rfl

set_option maxHeartbeats 2000000 in
theorem sEnsOk_any (f b : Int) (A : Option Addr) (n c : Nat) (len : Nat → Nat) (g : Nat → Nat → Nd) (w : World) (h : RdT w w.heap.size A n len g) (hn : n ≤ 4194304) (hlen : Hid (∀ i, i < n → len i ≤ 4194304)) :
    Calls Tryd.prog 49 #[enV f b A n c] w fun e w' => e = .returned (.bool (ensB f b n len g)) ∧ Below w.heap.size w w' := by
  have hb1 := (Below.refl w.heap.size w).alloc (Nat.le_refl _) (.cells #[.int .i64 f, .int .i64 b, .slice A n c] 45)
  have hE := Blk.new w 45 #[.int .i64 f, .int .i64 b, .slice A n c]
  have h1 := h.to hb1 hb1.size
  go_enter Tryd.func49, Tryd.ntmps49
  go_wp2_with fail
  generalize hW : w.alloc (.cells #[.int .i64 f, .int .i64 b, .slice A n c] 45) = W1 at hb1 hE h1 ⊢
  clear hW
  go_loopw [3] (fun i wr => ∃ k : Nat, k ≤ n ∧ i = .int .i64 k ∧ Hid (allP (fun i => treeB (g i) (len i) f) k = true) ∧ Below W1.heap.size W1 wr) (fun i _ => n - (intOf i).toNat)
  case atStart => exact ⟨0, Nat.zero_le _, rfl, rfl, Below.refl _ _⟩
  case round =>
    obtain ⟨k, hk, rfl, hall, hbl⟩ := hrel
    have hwr := hb1.trans (hbl.mono hb1.size)
    have hEr := hE.below hbl hE.lt
    have hElt : w.heap.size < wr.heap.size := hEr.lt
    have x0 : wr.cell? ⟨w.heap.size, 0, none⟩ = some (.int .i64 f) := hEr.cell 0
    have x1 : wr.cell? ⟨w.heap.size, 1, none⟩ = some (.int .i64 b) := hEr.cell 1
    have x2 : wr.cell? ⟨w.heap.size, 2, none⟩ = some (.slice A n c) := hEr.cell 2
    by_cases hlt : k < n
    · obtain ⟨bb, off, Ai, ci, rfl, hbb, hc, hrd⟩ := (h1.below hbl).at_ hlt
      have hl : (k : Int) < (n : Int) := by omega
      have hl0 : (0 : Int) ≤ (k : Int) := by omega
      have hlb : bb < wr.heap.size := Nat.lt_of_lt_of_le hbb hbl.size
      have hr1 : RdN wr.drew wr.drew.heap.size Ai (len k) (g k) := hrd.more hbl.size
      have hlk := hlen.out k hlt
      clear hrd x1
      go_wp2_with fail
      go_region_held3 (fun w' => w'.cell? ⟨w.heap.size, 0, none⟩ = some (.int .i64 f) ∧ w'.cell? ⟨w.heap.size, 2, none⟩ = some (.slice (some ⟨bb, off, none⟩) n c) ∧ w'.cell? ⟨bb, off + k, none⟩ = some (.slice Ai (len k) ci))
        (first | (simp [go_sem]; done) | exact ⟨e0, e2, ec⟩ | (simp [go_sem, *]; done))
        (first
          | (go_at_call 38; refine (sTreeOk_any Ai (len k) ci (g k) f wr.drew hr1 hlk).mono ?_; rintro e w3 ⟨rfl, hb3⟩; obtain ⟨hc3, hf3⟩ := bcell hb3; have e0 := (hc3 w.heap.size _ hElt).trans x0; have e2 := (hc3 w.heap.size _ hElt).trans x2; have ec := (hc3 bb _ hlb).trans hc))
      have hbl3 := hbl.drew.trans (hb3.mono hbl.size)
      have hw3 := hwr.drew.trans (hb3.mono hwr.size)
      clear hb3 hbl hwr hr1 hc x0 x2 hc3 hf3 e0 e2 ec
      cases hq : treeB (g k) (len k) f
      · go_wp2_with fail
        go_ret
        refine ⟨?_, hw3⟩
        unfold ensB
        rw [allP_false (p := fun i => treeB (g i) (len i) f) hlt hq, Bool.and_false, Bool.and_false]
        rfl
      · go_wp2_with fail
        go_roundw
        case rel => exact ⟨k + 1, by omega, by go_num, (by show allP _ (k + 1) = true; simp only [allP, hq, hall.out]; rfl), hbl3⟩
        case measure => simp [intOf]; omega
    · have e : k = n := by omega
      subst e
      have e0 : Hid (ensB f b k len g = (((decide (1 ≤ f) && decide (f ≤ 6)) && (decide (-1000000000 ≤ b) && decide (b ≤ 1000000000))) && decide (k ≤ 12))) := by
        show _ = _
        unfold ensB
        rw [hall.out, Bool.and_true]
      have e12 : Hid (decide ((k : Int) ≤ 12) = decide (k ≤ 12)) := by show _ = _; simp only [decide_eq_decide]; omega
      go_wp2_with fail
      refine (Feats_any _ _).mono ?_
      rintro e w3 ⟨rfl, rfl⟩
      cases hq1 : (decide (1 ≤ f) && decide (f ≤ 6))
      · go_wp2_with fail
        go_ret
        refine ⟨?_, hwr⟩
        rw [e0.out, hq1]
        rfl
      · go_wp2_with fail
        refine (Value_any _ _).mono ?_
        rintro e w3 ⟨rfl, rfl⟩
        cases hq2 : (decide (-1000000000 ≤ b) && decide (b ≤ 1000000000))
        · go_wp2_with fail
          go_ret
          refine ⟨?_, hwr⟩
          rw [e0.out, hq1, hq2]
          rfl
        · go_wp2_with fail
          go_ret
          refine ⟨?_, hwr⟩
          rw [e0.out, hq1, hq2, ← e12.out]
          rfl
end

/-! ### LawE -/
section
set_option linter.unusedVariables false
set_option linter.unusedSimpArgs false
open Go.ChangeShapes Go.WideShapes Go.Deep

section
variable {H : Type} {enc : TypeId × Value → H} {P : Program} {w : World} {base : Nat} {spare : Nat → Bool} {held : Bool}
theorem open_struct_fields {t : TypeId} {fs : Array Field} {fuel : Nat} {cs : List Value} {x : DataW H × List MemPlace} (ht : P.underlying t = some (.struct fs)) (hone : oneCellFields P fs = true) (hC : P.cellsOf t = fs.size)
    (h : DataW.trod enc P w base spare held fuel t cs = some x) :
    cs.length = fs.size ∧ ∃ n, ∀ (j : Nat) (f : Field), fs[j]? = some f → ∃ (v : Value) (y : DataW H × List MemPlace), cs[j]? = some v ∧ DataW.trod enc P w base spare held n f.type [v] = some y := by
  obtain ⟨xs, n', _, _, hlen, hxl, hf⟩ := DataW.trod_struct ht h
  rw [hC] at hlen
  refine ⟨hlen, n', fun j f hj => ?_⟩
  obtain ⟨ho, hk⟩ := hone_of hone j f hj
  have hjl : j < fs.size := (Array.getElem?_eq_some_iff.1 hj).1
  have hv : cs[j]? = some (cs[j]'(by omega)) := List.getElem?_eq_getElem (by omega)
  have h1 := hf j f hj
  rw [ho, hk] at h1
  have hone' : (cs.drop j).take 1 = [cs[j]'(by omega)] := by
    rw [List.drop_eq_getElem_cons (by omega)]
    rfl
  rw [hone'] at h1
  have hys : xs[j]? = some (xs[j]'(by omega)) := List.getElem?_eq_getElem (by omega)
  exact ⟨_, _, hv, h1.trans hys⟩
end

/-- A list of lists of nodes that came in. -/
theorem isT_of {H : Type} {enc : TypeId × Value → H} {w : World} {fuel : Nat} {v : Value} {x : DataW H × List MemPlace}
    (hf : DataW.trod enc Tryd.prog w 0 (fun _ => true) true fuel 38 [v] = some x) :
    ∃ A n c len g, v = .slice A n c ∧ RdT w w.heap.size A n len g ∧ n ≤ 9223372036854775807 ∧ ∀ i, i < n → len i ≤ 9223372036854775807 := by
  rcases open_slice Tryd.underlying38 hf with ⟨hcs, _⟩ | ⟨ad, l, c, m, n', D, Pl, hcs, _, hl, hm, hmm, _, hcell⟩
  · simp at hcs
    subst hcs
    exact ⟨none, 0, 0, fun _ => 0, fun _ _ => ⟨0, 0, 0, 0, false, 0⟩, rfl, rdt_none, by omega, fun i hi => by omega⟩
  · simp at hcs
    subst hcs
    have hmc : m = c := by simpa using hmm
    subst hmc
    have hco : Tryd.prog.cellsOf 28 = 1 := by kernel_rfl
    have one : ∀ i, i < l → ∃ (p : Option Addr × Nat × Nat) (gi : Nat → Nd), w.cell? (ad.add i) = some (.slice p.1 p.2.1 p.2.2) ∧ RdN w w.heap.size p.1 p.2.1 gi ∧ p.2.1 ≤ 9223372036854775807 := by
      intro i hi
      obtain ⟨cs', hc, ht⟩ := hcell i (by omega)
      rw [hco] at hc
      obtain ⟨_, hcl, hat⟩ := World.cells?_some hc
      have h0 := hat 0 (by omega)
      rw [Nat.mul_one] at h0
      have e0 : (ad.add i).add 0 = ad.add i := by cases ad; rfl
      rw [e0] at h0
      have key : ∀ (A : Option Addr) (li ci : Nat), cs' = [.slice A li ci] → ∃ (p : Option Addr × Nat × Nat) (gi : Nat → Nd), w.cell? (ad.add i) = some (.slice p.1 p.2.1 p.2.2) ∧ RdN w w.heap.size p.1 p.2.1 gi ∧ p.2.1 ≤ 9223372036854775807 := by
        intro A li ci e
        subst e
        obtain ⟨gi, hg⟩ := isNodes_of (len := li) (cap := ci) (a := A) (x := (D i, Pl i)) (by simpa [Value.cells] using ht)
        exact ⟨(A, li, ci), gi, h0, hg.1, hg.2⟩
      rcases open_slice Tryd.underlying28 ht with ⟨hcs', _⟩ | ⟨ad', l', c', m', n'', D', Pl', hcs', _⟩
      · exact key _ _ _ hcs'
      · exact key _ _ _ hcs'
    have pick : ∃ (q : Nat → Option Addr × Nat × Nat) (g : Nat → Nat → Nd), ∀ i, i < l → w.cell? (ad.add i) = some (.slice (q i).1 (q i).2.1 (q i).2.2) ∧ RdN w w.heap.size (q i).1 (q i).2.1 (g i) ∧ (q i).2.1 ≤ 9223372036854775807 :=
      ⟨fun i => if h : i < l then Classical.choose (one i h) else (none, 0, 0), fun i => if h : i < l then Classical.choose (Classical.choose_spec (one i h)) else fun _ => ⟨0, 0, 0, 0, false, 0⟩,
        fun i hi => by simp only [dif_pos hi]; exact Classical.choose_spec (Classical.choose_spec (one i hi))⟩
    obtain ⟨q, g, hq⟩ := pick
    refine ⟨some ad, l, m, fun i => (q i).2.1, g, rfl, fun hn => ?_, by unfold maxLen at hm; omega, fun i hi => (hq i hi).2.2⟩
    obtain ⟨b, off, spot⟩ := ad
    have h0 := (hq 0 hn).1
    have hs : spot = none := by simpa [Addr.add] using World.cell?_spot h0
    subst hs
    refine ⟨b, off, rfl, ?_, fun i hi => ⟨(q i).1, (q i).2.2, ?_, (hq i hi).2.1⟩⟩
    · have := cell_lt h0
      simpa [Addr.add_lit] using this
    · have := (hq i hi).1
      simpa [Addr.add_lit] using this

/-- An ensemble that came in. -/
theorem isEns_of {H : Type} {enc : TypeId × Value → H} {w : World} {fuel : Nat} {cs : Array Value} {x : DataW H × List MemPlace}
    (hf : DataW.trod enc Tryd.prog w 0 (fun _ => true) true fuel 40 (Value.agg cs).cells.toList = some x) :
    ∃ f b A n c len g, Value.agg cs = enV f b A n c ∧ RdT w w.heap.size A n len g ∧ n ≤ 9223372036854775807 ∧ ∀ i, i < n → len i ≤ 9223372036854775807 := by
  have hf' : DataW.trod enc Tryd.prog w 0 (fun _ => true) true fuel 40 cs.toList = some x := hf
  obtain ⟨hl, n', hh⟩ := open_struct_fields Tryd.underlying40 (by kernel_rfl) (by kernel_rfl) hf'
  obtain ⟨v0, y0, e0, t0⟩ := hh 0 _ rfl
  obtain ⟨v1, y1, e1, t1⟩ := hh 1 _ rfl
  obtain ⟨v2, y2, e2, t2⟩ := hh 2 _ rfl
  obtain ⟨x0, r0, _⟩ := DataW.trod_int Tryd.underlying2 t0
  obtain ⟨x1, r1, _⟩ := DataW.trod_int Tryd.underlying2 t1
  obtain ⟨A, n, c, len, g, r2, hr, hn, hlen⟩ := isT_of t2
  injection r0 with r0
  injection r1 with r1
  subst r0 r1 r2
  refine ⟨x0, x1, A, n, c, len, g, ?_, hr, hn, hlen⟩
  have hl3 : cs.toList.length = 3 := hl
  have : cs = #[.int .i64 x0, .int .i64 x1, .slice A n c] := by
    apply Array.ext'
    apply List.ext_getElem?
    intro i
    match i with
    | 0 => exact e0
    | 1 => exact e1
    | 2 => exact e2
    | i + 3 => rw [List.getElem?_eq_none (by omega), List.getElem?_eq_none (by simp)]
  rw [this]
end

/-! ### LawP -/
section
set_option linter.unusedVariables false
set_option linter.unusedSimpArgs false
open Go.ChangeShapes Go.WideShapes Go.Deep Go.RowKit

/-- A list of numbers that came in. -/
theorem isI_of {H : Type} {enc : TypeId × Value → H} {w : World} {fuel : Nat} {v : Value} {x : DataW H × List MemPlace}
    (hf : DataW.trod enc Tryd.prog w 0 (fun _ => true) true fuel 22 [v] = some x) :
    ∃ A n c z, v = .slice A n c ∧ Rd w w.heap.size A n z ∧ n ≤ 9223372036854775807 := by
  rcases open_ints Tryd.underlying22 Tryd.underlying2 (by kernel_rfl) hf with ⟨hcs, _⟩ | ⟨y, l, c, zs, hcs, _, hl, hm, hz, _, hcell, hwz⟩
  · simp at hcs
    subst hcs
    exact ⟨none, 0, 0, fun _ => 0, rfl, fun h => absurd h (by omega), by omega⟩
  · simp at hcs
    subst hcs
    have hr : IsRow .i64 w (some y) l c zs := .inr ⟨_, rfl, hl, hm, by simpa using hz, hcell, hwz⟩
    exact ⟨some y, l, c, _, rfl, hr.rd, hr.le⟩
end

/-! ### LawH -/
section
set_option linter.unusedVariables false
set_option linter.unusedSimpArgs false
open Go.ChangeShapes Go.WideShapes Go.Deep Go.RowKit

end
end Go.Proofs.YtifjbljfpmkmdaaDoor
