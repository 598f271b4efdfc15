/- The draw of an ensemble, a policy and a stage; PlanOk on both sides; the walk of the law of a made plan. -/
import Derived.Test.YtmpgefpaoogoiaaPlB
import Derived.Test.YtmpgefpaoogoiaaPlT
import Derived.Test.YtmpgefpaoogoiaaCodes
import Derived.Test.YtmpgefpaoogoiaaEnsX
import Derived.Test.YtmpgefpaoogoiaaPlOfX
import Derived.Deep.RegionHeld3
import Derived.Test.YtmpgefpaoogoiaaDrawX
namespace Go.Proofs.Ytmpgefpaoogoiaa

/-! ### PlK -/
section
set_option linter.unusedVariables false
set_option linter.unusedSimpArgs false
/-! ### PlC -/
section
set_option linter.unusedVariables false
set_option linter.unusedSimpArgs false
open Go.RowKit Go.Deep

/-- Which numbers have been seen among the first k. -/
def SeenB (w : World) (sb m : Nat) (t : TypeId) (o : Nat → Int) (k : Nat) : Prop := ∃ cs : Array Value, Blk w sb t cs ∧ cs.size = m ∧ ∀ x : Nat, x < m → cs[x]? = some (.bool (hitB o (x : Int) k))
theorem SeenB.cell {w : World} {sb m k x : Nat} {t : TypeId} {o : Nat → Int} (h : SeenB w sb m t o k) (hx : x < m) : w.cell? ⟨sb, x, none⟩ = some (.bool (hitB o (x : Int) k)) := by
  obtain ⟨cs, h1, _, h3⟩ := h
  rw [h1.cell, h3 x hx]
theorem SeenB.frozen {w : World} {sb m k : Nat} {t : TypeId} {o : Nat → Int} (h : SeenB w sb m t o k) (x : Nat) : w.frozen? ⟨sb, x, none⟩ = false := by obtain ⟨cs, h1, _⟩ := h; exact h1.frozen x
theorem SeenB.lt {w : World} {sb m k : Nat} {t : TypeId} {o : Nat → Int} (h : SeenB w sb m t o k) : sb < w.heap.size := by obtain ⟨cs, h1, _⟩ := h; exact h1.lt
theorem SeenB.keep {w w' : World} {sb m k : Nat} {t : TypeId} {o : Nat → Int} (h : SeenB w sb m t o k) (hk : w'.heap[sb]? = w.heap[sb]?) : SeenB w' sb m t o k := by
  obtain ⟨cs, h1, h2, h3⟩ := h
  exact ⟨cs, hk.trans h1, h2, h3⟩
theorem SeenB.set {w : World} {sb m k x : Nat} {t : TypeId} {o : Nat → Int} (h : SeenB w sb m t o k) (hx : o k = (x : Int)) (hxm : x < m) : SeenB (w.setCell ⟨sb, x, none⟩ (.bool true)) sb m t o (k + 1) := by
  obtain ⟨cs, h1, h2, h3⟩ := h
  refine ⟨_, h1.set_ x _, by simpa using h2, fun z hz => ?_⟩
  by_cases e : z = x
  · subst e
    rw [Array.getElem?_setIfInBounds_self_of_lt (by omega)]
    simp [hitB, hx]
  · rw [Array.getElem?_setIfInBounds_ne (fun q => e q.symm), h3 z hz]
    have : (o k == (z : Int)) = false := by rw [hx]; simp; omega
    simp only [hitB, this, Bool.or_false]
theorem ordO_step {o : Nat → Int} {n k x : Nat} (h : ordO o n k = true) (hx : o k = (x : Int)) (hn : x < n) (hh : hitB o (x : Int) k = false) : ordO o n (k + 1) = true := by
  simp only [ordO, h, hx, hh]
  simp
  omega

set_option maxRecDepth 100000 in
set_option maxHeartbeats 4000000 in
theorem iOrderOk_any (A : Option Addr) (no c n : Nat) (o : Nat → Int) (w : World) (h : Rd w w.heap.size A no o) (hno : no ≤ 9223372036854775807) (hn : n ≤ 12) :
    Calls Try.prog 71 #[.slice A no c, .int .i64 (n : Int)] w fun e w' => e = .returned (.bool (decide (no = n) && ordO o n n)) ∧ Below w.heap.size w w' := by
  obtain ⟨R, hR⟩ : ∃ R, (decide (no = n) && ordO o n n) = R := ⟨_, rfl⟩
  rw [hR]
  by_cases hne : no = n
  · subst hne
    have HP : Hid (R = ordO o no no) := by show _ = _; rw [← hR, decide_eq_true rfl, Bool.true_and]
    clear hR
    go_enter Try.func71, Try.ntmps71
    go_wp2_with fail
    have hS0 : Hid (SeenB (w.alloc (.cells #[.bool false, .bool false, .bool false, .bool false, .bool false, .bool false, .bool false, .bool false, .bool false, .bool false, .bool false, .bool false] 149)) w.heap.size 12 149 o 0) := ⟨_, Blk.new w _ _, rfl, fun x hx => by
      match x, hx with
      | 0, _ | 1, _ | 2, _ | 3, _ | 4, _ | 5, _ | 6, _ | 7, _ | 8, _ | 9, _ | 10, _ | 11, _ => rfl⟩
    have hB0 := (Below.refl w.heap.size w).alloc (Nat.le_refl _) (.cells #[.bool false, .bool false, .bool false, .bool false, .bool false, .bool false, .bool false, .bool false, .bool false, .bool false, .bool false, .bool false] 149)
    go_loopw [14] (fun i wr => ∃ k : Nat, k ≤ no ∧ i = .int .i64 k ∧ Hid (ordO o no k = true) ∧ Hid (SeenB wr w.heap.size 12 149 o k) ∧ Below w.heap.size w wr) (fun i _ => no - (intOf i).toNat)
    case atStart => exact ⟨0, Nat.zero_le _, rfl, rfl, hS0, hB0⟩
    case round =>
      clear hS0 hB0
      obtain ⟨k, hk, rfl, HO, HS, hb⟩ := hrel
      by_cases hlt : k < no
      · obtain ⟨ob, oo, rfl, hob, hc⟩ := h.at_ hlt
        have hc' : wr.cell? ⟨ob, oo + k, none⟩ = some (.int .i64 (o k)) := (hb.cell (p := ⟨ob, oo + k, none⟩) hob).trans hc
        have i1 : (k : Int) < (no : Int) := by omega
        have i2 : (0 : Int) ≤ (k : Int) := by omega
        clear hc
        by_cases h0 : o k < 0
        · have hz : ordO o no no = false := ordO_false hlt (by rw [decide_eq_false (by omega), Bool.false_and, Bool.false_and])
          have HZ := hid hz
          have d1 : decide (o k < 0) = true := decide_eq_true h0
          clear hz
          go_wp2_with fail
          go_ret
          exact ⟨by rw [HP.out, HZ.out]; rfl, hb⟩
        · by_cases h1 : (no : Int) ≤ o k
          · have hz : ordO o no no = false := ordO_false hlt (by rw [decide_eq_false (by omega : ¬ o k < (no : Int)), Bool.and_false, Bool.false_and])
            have HZ := hid hz
            have d1 : decide (o k < 0) = false := decide_eq_false h0
            have d2 : decide (o k ≥ (no : Int)) = true := decide_eq_true h1
            clear hz
            go_wp2_with fail
            go_ret
            exact ⟨by rw [HP.out, HZ.out]; rfl, hb⟩
          · obtain ⟨x, hx⟩ : ∃ x : Nat, o k = (x : Int) := ⟨(o k).toNat, by omega⟩
            have hxn : x < no := by omega
            have hcs := HS.out.cell (x := x) (by omega)
            have hfs := HS.out.frozen x
            have hsl := HS.out.lt
            rw [hx] at hc' h0 h1
            have HX := hid hx
            have d1 : decide ((x : Int) < 0) = false := decide_eq_false h0
            have d2 : decide ((x : Int) ≥ (no : Int)) = false := decide_eq_false h1
            have x1 : (x : Int) < 12 := by omega
            have x2 : (0 : Int) ≤ (x : Int) := by omega
            have x3 : (x : Int) < (no : Int) := by omega
            clear hx h0 h1
            cases hh : hitB o (x : Int) k with
            | true =>
              rw [hh] at hcs
              have hz : ordO o no no = false := ordO_false hlt (by rw [HX.out, hh]; simp)
              have HZ := hid hz
              clear hz hh
              go_wp2_with fail
              go_ret
              exact ⟨by rw [HP.out, HZ.out]; rfl, hb⟩
            | false =>
              rw [hh] at hcs
              have HH := hid hh
              clear hh
              go_wp2_with fail
              go_roundw
              case rel => exact ⟨k + 1, by omega, by go_num, ordO_step HO.out HX.out hxn HH.out, HS.out.set HX.out (by omega), hb.setCell (p := ⟨w.heap.size, x, none⟩) (Nat.le_refl _) _⟩
              case measure => simp [intOf]; omega
      · have e : k = no := by omega
        go_wp2_with fail
        go_ret
        subst e
        exact ⟨by rw [HP.out, HO.out]; rfl, hb⟩
  · have HP : Hid (R = false) := by show _ = _; rw [← hR, decide_eq_false hne, Bool.false_and]
    clear hR
    have q1 : ((no : Int) == (n : Int)) = false := by simp; omega
    go_enter Try.func71, Try.ntmps71
    go_wp2_with fail
    go_ret
    exact ⟨by rw [HP.out]; rfl, Below.refl _ _⟩

set_option maxRecDepth 100000 in
set_option maxHeartbeats 4000000 in
theorem iEndsOk_any (A : Option Addr) (ne c n : Nat) (z : Nat → Int) (w : World) (h : Rd w w.heap.size A ne z) (hne : ne ≤ 9223372036854775807) :
    Calls Try.prog 72 #[.slice A ne c, .int .i64 (n : Int)] w fun e w' => e = .returned (.bool (endsB z ne n)) ∧ w = w' := by
  go_enter Try.func72, Try.ntmps72
  go_wp2_with fail
  go_loop [5, 10] (fun l i => ∃ k : Nat, k ≤ ne ∧ i = .int .i64 k ∧ l = .int .i64 (lastE z k) ∧ Hid (incE z k = true)) (fun _ i => ne - (intOf i).toNat)
  case atStart => exact ⟨0, Nat.zero_le _, rfl, rfl, rfl⟩
  case round =>
    obtain ⟨k, hk, rfl, rfl, HI⟩ := hrel
    by_cases hlt : k < ne
    · obtain ⟨ob, oo, rfl, hob, hc⟩ := h.at_ hlt
      have i1 : (k : Int) < (ne : Int) := by omega
      have i2 : (0 : Int) ≤ (k : Int) := by omega
      by_cases h0 : z k ≤ lastE z k
      · have hz : endsB z ne n = false := endsB_inc (incE_false hlt (by omega))
        have HZ := hid hz
        have d1 : decide (z k ≤ lastE z k) = true := decide_eq_true h0
        clear hz
        go_wp2_with fail
        go_ret
        exact ⟨by rw [HZ.out]; rfl, rfl⟩
      · have hs : incE z (k + 1) = true := by simp only [incE, HI.out]; simp; omega
        have HS := hid hs
        have d1 : decide (z k ≤ lastE z k) = false := decide_eq_false h0
        clear hs
        go_wp2_with fail
        go_round
        case rel => exact ⟨k + 1, by omega, by go_num, rfl, HS.out⟩
        case measure => simp [intOf]; omega
    · have e : k = ne := by omega
      go_wp2_with fail
      go_ret
      subst e
      exact ⟨by unfold endsB; rw [HI.out, Bool.true_and]; rfl, rfl⟩
end

/-! ### PlD -/
section
set_option linter.unusedVariables false
set_option linter.unusedSimpArgs false
open Go.RowKit Go.Deep

def ordN (z : Nat → Int) : Nat → Nat := fun p => (z p).toNat
/-- Is a plan right for an ensemble? -/
def planB (f b : Int) (n : Nat) (len : Nat → Nat) (g : Nat → Nat → Nd) (n1 : Nat) (z1 : Nat → Int) (n2 : Nat) (z2 : Nat → Int) (n3 : Nat) (z3 : Nat → Int) (n4 : Nat) (z4 : Nat → Int) : Bool :=
  ensB f b n len g && ((decide (n1 = n) && ordO z1 n n) && (endsB z2 n2 n && (sameB n3 (n + 1) z3 (tabLo len g (ordN z1) n) && sameB n4 (n + 1) z4 (tabHi len g (ordN z1) n))))
theorem ordN_lt {z : Nat → Int} {n : Nat} (h : ordO z n n = true) : ∀ p, p < n → ordN z p < n := fun p hp => by
  have := (ordO_iff.1 h p hp).1
  unfold ordN
  omega
theorem ordN_rd {w : World} {B n : Nat} {A : Option Addr} {z : Nat → Int} (h : Rd w B A n z) (ho : ordO z n n = true) : Rd w B A n fun p => (ordN z p : Nat) := h.congr fun p hp => by
  have := (ordO_iff.1 ho p hp).1
  unfold ordN
  omega

set_option maxRecDepth 100000 in
set_option maxHeartbeats 8000000 in
theorem iPlanOk_any (f b : Int) (A : Option Addr) (n c : Nat) (len : Nat → Nat) (g : Nat → Nat → Nd) (A1 : Option Addr) (n1 c1 : Nat) (z1 : Nat → Int) (A2 : Option Addr) (n2 c2 : Nat) (z2 : Nat → Int) (A3 : Option Addr) (n3 c3 : Nat) (z3 : Nat → Int) (A4 : Option Addr) (n4 c4 : Nat) (z4 : Nat → Int) (w : World)
    (hr : RdT w w.heap.size A n len g) (hp : RdP w w.heap.size A1 n1 z1 A2 n2 z2 A3 n3 z3 A4 n4 z4) (hn : n ≤ 4194304) (hlen : Hid (∀ i, i < n → len i ≤ 4194304)) (k1 : n1 ≤ 9223372036854775807) (k2 : n2 ≤ 9223372036854775807) (k3 : n3 ≤ 9223372036854775807) (k4 : n4 ≤ 9223372036854775807) :
    Calls Try.prog 21 #[enV f b A n c, plV A1 n1 c1 A2 n2 c2 A3 n3 c3 A4 n4 c4] w fun e w' => e = .returned (.bool (planB f b n len g n1 z1 n2 z2 n3 z3 n4 z4)) ∧ Below w.heap.size w w' := by
  obtain ⟨R, hR⟩ : ∃ R, planB f b n len g n1 z1 n2 z2 n3 z3 n4 z4 = R := ⟨_, rfl⟩
  rw [hR]
  unfold planB at hR
  have HR := hid hR
  clear hR
  obtain ⟨S, hS⟩ : ∃ S, w.heap.size = S := ⟨_, rfl⟩
  have hE0 : Blk ((w.alloc (.cells #[.int .i64 f, .int .i64 b, .slice A n c] 33)).alloc (.cells #[.slice A1 n1 c1, .slice A2 n2 c2, .slice A3 n3 c3, .slice A4 n4 c4] 35)) w.heap.size 33 #[.int .i64 f, .int .i64 b, .slice A n c] := (Blk.new w _ _).alloc _
  have hP0 : Blk ((w.alloc (.cells #[.int .i64 f, .int .i64 b, .slice A n c] 33)).alloc (.cells #[.slice A1 n1 c1, .slice A2 n2 c2, .slice A3 n3 c3, .slice A4 n4 c4] 35)) (w.heap.size + 1) 35 #[.slice A1 n1 c1, .slice A2 n2 c2, .slice A3 n3 c3, .slice A4 n4 c4] := Blk.new2 w _ _ _
  have hB0 := ((Below.refl w.heap.size w).alloc (Nat.le_refl _) (.cells #[.int .i64 f, .int .i64 b, .slice A n c] 33)).alloc (by simp) (.cells #[.slice A1 n1 c1, .slice A2 n2 c2, .slice A3 n3 c3, .slice A4 n4 c4] 35)
  go_enter Try.func21, Try.ntmps21
  go_wp2_with fail
  obtain ⟨W0, hW0⟩ : ∃ W, (w.alloc (.cells #[.int .i64 f, .int .i64 b, .slice A n c] 33)).alloc (.cells #[.slice A1 n1 c1, .slice A2 n2 c2, .slice A3 n3 c3, .slice A4 n4 c4] 35) = W := ⟨_, rfl⟩
  have hs0 : S + 2 ≤ W0.heap.size := by rw [← hW0]; simp; omega
  rw [hW0] at hE0 hP0 hB0 ⊢
  rw [hS] at hE0 hP0
  have hSw : w.heap.size ≤ S := by omega
  have hb00 := hB0
  clear hW0 hS
  have hc1 := iEnsOk_any f b A n c len g W0 ((hr.below hB0).more hB0.size) hn hlen
  cases hY : ensB f b n len g with
  | false =>
    rw [hY] at hc1
    have HR1 : Hid (R = false) := by show _ = _; rw [← HR.out, hY]; rfl
    clear hY
    refine hc1.mono ?_
    rintro e w1 ⟨rfl, hb1⟩
    go_wp2_with fail
    go_ret
    exact ⟨by rw [HR1.out]; rfl, hB0.trans (hb1.mono hB0.size)⟩
  | true =>
    rw [hY] at hc1
    have HR1 : Hid (((decide (n1 = n) && ordO z1 n n) && (endsB z2 n2 n && (sameB n3 (n + 1) z3 (tabLo len g (ordN z1) n) && sameB n4 (n + 1) z4 (tabHi len g (ordN z1) n)))) = R) := by show _ = _; rw [← HR.out, hY, Bool.true_and]
    have HY := hid hY
    obtain ⟨hf6, _, hn12, hT⟩ := ensB_iff.1 hY
    have HT6 : Hid (∀ i, i < n → treeB (g i) (len i) 6 = true) := fun i hi => tree_moreO (hT i hi) (by omega) (by omega)
    clear hY HR hT
    refine hc1.mono ?_
    rintro e w1 ⟨rfl, hb1⟩
    have hE1 := hE0.below hb1 hE0.lt
    have hP1 := hP0.below hb1 hP0.lt
    have hB1 := hB0.trans (hb1.mono hB0.size)
    obtain ⟨⟨p0, p1, p2, p3⟩, _⟩ := blk_cells4 hP1
    clear hE0 hP0 hB0 hb1 hb00 hc1
    go_wp2_with fail
    have hc2 := iOrderOk_any A1 n1 c1 n z1 w1 ((hp.o.below hB1).more hB1.size) k1 hn12
    cases hO : (decide (n1 = n) && ordO z1 n n) with
    | false =>
      rw [hO] at hc2
      have HR2 : Hid (R = false) := by show _ = _; rw [← HR1.out, hO]; rfl
      clear hO
      refine hc2.mono ?_
      rintro e w2 ⟨rfl, hb2⟩
      go_wp2_with fail
      go_ret
      exact ⟨by rw [HR2.out]; rfl, hB1.trans (hb2.mono hB1.size)⟩
    | true =>
      rw [hO] at hc2
      have HR2 : Hid ((endsB z2 n2 n && (sameB n3 (n + 1) z3 (tabLo len g (ordN z1) n) && sameB n4 (n + 1) z4 (tabHi len g (ordN z1) n))) = R) := by show _ = _; rw [← HR1.out, hO, Bool.true_and]
      have hO' := hO
      rw [Bool.and_eq_true, decide_eq_true_eq] at hO'
      obtain ⟨rfl, hord⟩ := hO'
      have HORD := hid hord
      clear hO hord HR1
      refine hc2.mono ?_
      rintro e w2 ⟨rfl, hb2⟩
      have hE2 := hE1.below hb2 hE1.lt
      have hP2 := hP1.below hb2 hP1.lt
      have hB2 := hB1.trans (hb2.mono hB1.size)
      have hs2 : S + 2 ≤ w2.heap.size := by have := hP2.lt; omega
      clear p0 p1 p2 p3
      obtain ⟨⟨p0, p1, p2, p3⟩, _⟩ := blk_cells4 hP2
      clear hE1 hP1 hB1 hb2 hc2
      go_wp2_with fail
      have hc3 := iEndsOk_any A2 n2 c2 n1 z2 w2 ((hp.e.below hB2).more hB2.size) k2
      cases hN : endsB z2 n2 n1 with
      | false =>
        rw [hN] at hc3
        have HR3 : Hid (R = false) := by show _ = _; rw [← HR2.out, hN]; rfl
        clear hN
        refine hc3.mono ?_
        rintro e w3 ⟨rfl, rfl⟩
        go_wp2_with fail
        go_ret
        exact ⟨by rw [HR3.out]; rfl, hB2⟩
      | true =>
        rw [hN] at hc3
        have HR3 : Hid ((sameB n3 (n1 + 1) z3 (tabLo len g (ordN z1) n1) && sameB n4 (n1 + 1) z4 (tabHi len g (ordN z1) n1)) = R) := by show _ = _; rw [← HR2.out, hN, Bool.true_and]
        clear hN HR2
        refine hc3.mono ?_
        rintro e w3 ⟨rfl, rfl⟩
        obtain ⟨⟨e0, e1, e2⟩, _⟩ : (w2.cell? ⟨S, 0, none⟩ = some (.int .i64 f) ∧ w2.cell? ⟨S, 1, none⟩ = some (.int .i64 b) ∧ w2.cell? ⟨S, 2, none⟩ = some (.slice A n1 c)) ∧ True := ⟨⟨hE2.cell 0, hE2.cell 1, hE2.cell 2⟩, trivial⟩
        go_wp2_with fail
        refine (iTables_any f b A n1 c len g A1 n1 c1 (ordN z1) w2 ((hr.below hB2).more hB2.size) hn hn12 hlen HT6 (ordN_rd ((hp.o.below hB2).more hB2.size) HORD.out) (ordN_lt HORD.out)).mono ?_
        rintro e w4 ⟨b1, d1, b2, d2, rfl, t1, t2, tne, tl1, tl2, hb4⟩
        have hP4 := hP2.below hb4 hP2.lt
        have hB4 := hB2.trans (hb4.mono hB2.size)
        have t1' := t1.alloc (.cells #[.slice (some ⟨b1, 0, none⟩) (n1 + 1) d1, .slice (some ⟨b2, 0, none⟩) (n1 + 1) d2] 95)
        have t2' := t2.alloc (.cells #[.slice (some ⟨b1, 0, none⟩) (n1 + 1) d1, .slice (some ⟨b2, 0, none⟩) (n1 + 1) d2] 95)
        have hP5 := hP4.alloc (.cells #[.slice (some ⟨b1, 0, none⟩) (n1 + 1) d1, .slice (some ⟨b2, 0, none⟩) (n1 + 1) d2] 95)
        have hB5 := hB4.alloc hB4.size (.cells #[.slice (some ⟨b1, 0, none⟩) (n1 + 1) d1, .slice (some ⟨b2, 0, none⟩) (n1 + 1) d2] 95)
        have hT5 := Blk.new w4 95 #[.slice (some ⟨b1, 0, none⟩) (n1 + 1) d1, .slice (some ⟨b2, 0, none⟩) (n1 + 1) d2]
        clear p0 p1 p2 p3 e0 e1 e2 hc3
        obtain ⟨⟨p0, p1, p2, p3⟩, _⟩ := blk_cells4 hP5
        obtain ⟨m0, m1, _, _⟩ := tbV_cells hT5
        have HP5 := hid hP5
        have HT5 := hid hT5
        clear hE2 hP2 hB2 hP4 hb4 t1 t2 hP5 hT5
        go_wp2_with fail
        obtain ⟨W5, hW5⟩ : ∃ W, w4.alloc (.cells #[.slice (some ⟨b1, 0, none⟩) (n1 + 1) d1, .slice (some ⟨b2, 0, none⟩) (n1 + 1) d2] 95) = W := ⟨_, rfl⟩
        rw [hW5] at t1' t2' hB5 HP5 HT5 p0 p1 p2 p3 m0 m1 ⊢
        clear hW5
        have hb51 := t1'.lt
        have hb52 := t2'.lt
        have hc4 := equalI_any A3 (some ⟨b1, 0, none⟩) n3 (n1 + 1) c3 d1 z3 (tabLo len g (ordN z1) n1) W5 ((hp.m.below hB5).more hB5.size) (t1'.rd hb51) k3
        cases hQ : sameB n3 (n1 + 1) z3 (tabLo len g (ordN z1) n1) with
        | false =>
          rw [hQ] at hc4
          have HR4 : Hid (R = false) := by show _ = _; rw [← HR3.out, hQ, Bool.false_and]
          clear hQ
          refine hc4.mono ?_
          rintro e w6 ⟨rfl, m, rfl⟩
          go_wp2_with fail
          go_ret
          exact ⟨by rw [HR4.out]; rfl, below_drewN hB5 m⟩
        | true =>
          rw [hQ] at hc4
          have HR4 : Hid (sameB n4 (n1 + 1) z4 (tabHi len g (ordN z1) n1) = R) := by show _ = _; rw [← HR3.out, hQ, Bool.true_and]
          clear hQ HR3
          refine hc4.mono ?_
          rintro e w6 ⟨rfl, m, rfl⟩
          have p3' : (W5.drewN m).cell? ⟨S + 1, 3, none⟩ = some (.slice A4 n4 c4) := p3
          have m1' : (W5.drewN m).cell? ⟨w4.heap.size, 1, none⟩ = some (.slice (some ⟨b2, 0, none⟩) (n1 + 1) d2) := m1
          have T2 := hid t2'
          clear t1' t2' hc4
          go_wp2_with fail
          refine (equalI_any A4 (some ⟨b2, 0, none⟩) n4 (n1 + 1) c4 d2 z4 (tabHi len g (ordN z1) n1) (W5.drewN m) ((hp.x.below (below_drewN hB5 m)).more (by show w.heap.size ≤ W5.heap.size; exact hB5.size)) (T2.out.rd hb52) k4).mono ?_
          rintro e w7 ⟨rfl, q, rfl⟩
          go_wp2_with fail
          go_ret
          exact ⟨by rw [← HR4.out]; rfl, below_drewN hB5 (m + q)⟩
end

/-! ### PlE -/
section
set_option linter.unusedVariables false
set_option linter.unusedSimpArgs false
open Go.RowKit Go.Deep

theorem infoB : (Try.prog.info? 4).map (fun i => (i.zero, i.size, i.bytes)) = some (some (.bool false), 1, 1) := by kernel_rfl
theorem madeB_at {n : Nat} (x : Nat) (hx : x < n) : (madeCells #[Value.bool false] n)[x]? = some (.bool false) := by
  simp [madeCells, hx, Nat.mod_one]

set_option maxRecDepth 100000 in
set_option maxHeartbeats 8000000 in
theorem sPlanOk_any (f b : Int) (A : Option Addr) (n c : Nat) (len : Nat → Nat) (g : Nat → Nat → Nd) (A1 : Option Addr) (n1 c1 : Nat) (z1 : Nat → Int) (A2 : Option Addr) (n2 c2 : Nat) (z2 : Nat → Int) (A3 : Option Addr) (n3 c3 : Nat) (z3 : Nat → Int) (A4 : Option Addr) (n4 c4 : Nat) (z4 : Nat → Int) (w : World)
    (hr : RdT w w.heap.size A n len g) (hp : RdP w w.heap.size A1 n1 z1 A2 n2 z2 A3 n3 z3 A4 n4 z4) (hn : n ≤ 4194304) (hlen : Hid (∀ i, i < n → len i ≤ 4194304)) (k1 : n1 ≤ 9223372036854775807) (k2 : n2 ≤ 9223372036854775807) (_k3 : n3 ≤ 9223372036854775807) (_k4 : n4 ≤ 9223372036854775807) :
    Calls Try.prog 18 #[enV f b A n c, plV A1 n1 c1 A2 n2 c2 A3 n3 c3 A4 n4 c4] w fun e w' => e = .returned (.bool (planB f b n len g n1 z1 n2 z2 n3 z3 n4 z4)) ∧ Below w.heap.size w w' := by
  obtain ⟨R, hR⟩ : ∃ R, planB f b n len g n1 z1 n2 z2 n3 z3 n4 z4 = R := ⟨_, rfl⟩
  rw [hR]
  unfold planB at hR
  have HR := hid hR
  clear hR
  obtain ⟨S, hS⟩ : ∃ S, w.heap.size = S := ⟨_, rfl⟩
  have hE0 : Blk ((w.alloc (.cells #[.int .i64 f, .int .i64 b, .slice A n c] 33)).alloc (.cells #[.slice A1 n1 c1, .slice A2 n2 c2, .slice A3 n3 c3, .slice A4 n4 c4] 35)) w.heap.size 33 #[.int .i64 f, .int .i64 b, .slice A n c] := (Blk.new w _ _).alloc _
  have hP0 : Blk ((w.alloc (.cells #[.int .i64 f, .int .i64 b, .slice A n c] 33)).alloc (.cells #[.slice A1 n1 c1, .slice A2 n2 c2, .slice A3 n3 c3, .slice A4 n4 c4] 35)) (w.heap.size + 1) 35 #[.slice A1 n1 c1, .slice A2 n2 c2, .slice A3 n3 c3, .slice A4 n4 c4] := Blk.new2 w _ _ _
  have hB0 := ((Below.refl w.heap.size w).alloc (Nat.le_refl _) (.cells #[.int .i64 f, .int .i64 b, .slice A n c] 33)).alloc (by simp) (.cells #[.slice A1 n1 c1, .slice A2 n2 c2, .slice A3 n3 c3, .slice A4 n4 c4] 35)
  go_enter Try.func18, Try.ntmps18
  go_wp2_with fail
  obtain ⟨W0, hW0⟩ : ∃ W, (w.alloc (.cells #[.int .i64 f, .int .i64 b, .slice A n c] 33)).alloc (.cells #[.slice A1 n1 c1, .slice A2 n2 c2, .slice A3 n3 c3, .slice A4 n4 c4] 35) = W := ⟨_, rfl⟩
  have hs0 : S + 2 ≤ W0.heap.size := by rw [← hW0]; simp; omega
  rw [hW0] at hE0 hP0 hB0 ⊢
  rw [hS] at hE0 hP0
  have hSw : w.heap.size ≤ S := by omega
  clear hW0 hS
  have hc1 := sEnsOk_any f b A n c len g W0 ((hr.below hB0).more hB0.size) hn hlen
  cases hY : ensB f b n len g with
  | false =>
    rw [hY] at hc1
    have HR1 : Hid (R = false) := by show _ = _; rw [← HR.out, hY]; rfl
    clear hY
    refine hc1.mono ?_
    rintro e w1 ⟨rfl, hb1⟩
    go_wp2_with fail
    go_ret
    exact ⟨by rw [HR1.out]; rfl, hB0.trans (hb1.mono hB0.size)⟩
  | true =>
    rw [hY] at hc1
    have HR1 : Hid (((decide (n1 = n) && ordO z1 n n) && (endsB z2 n2 n && (sameB n3 (n + 1) z3 (tabLo len g (ordN z1) n) && sameB n4 (n + 1) z4 (tabHi len g (ordN z1) n)))) = R) := by show _ = _; rw [← HR.out, hY, Bool.true_and]
    obtain ⟨hf6, _, hn12, hT⟩ := ensB_iff.1 hY
    have HT6 : Hid (∀ i, i < n → treeB (g i) (len i) 6 = true) := fun i hi => tree_moreO (hT i hi) (by omega) (by omega)
    clear hY HR hT
    refine hc1.mono ?_
    rintro e w1 ⟨rfl, hb1⟩
    have hE1 := hE0.below hb1 hE0.lt
    have hP1 := hP0.below hb1 hP0.lt
    have hB1 := hB0.trans (hb1.mono hB0.size)
    obtain ⟨⟨p0, p1, p2, p3⟩, _⟩ := blk_cells4 hP1
    clear hE0 hP0 hB0 hb1 hc1
    by_cases hne : n1 = n
    · subst hne
      have HR2 : Hid ((ordO z1 n1 n1 && (endsB z2 n2 n1 && (sameB n3 (n1 + 1) z3 (tabLo len g (ordN z1) n1) && sameB n4 (n1 + 1) z4 (tabHi len g (ordN z1) n1)))) = R) := by show _ = _; rw [← HR1.out, decide_eq_true rfl, Bool.true_and]
      clear HR1
      by_cases hge : n1 < n2
      · have HR3 : Hid (R = false) := by
          show _ = _
          rw [← HR2.out]
          cases hN : endsB z2 n2 n1 with
          | false => rw [Bool.false_and, Bool.and_false]
          | true => have := endsB_le hN; omega
        have q1 : decide ((n2 : Int) > (n1 : Int)) = true := decide_eq_true (by omega)
        have q2 : (n1 : Int) < (n2 : Int) := by omega
        go_wp2_with fail
        go_ret
        exact ⟨by rw [HR3.out]; rfl, hB1⟩
      · have q1 : decide ((n2 : Int) > (n1 : Int)) = false := decide_eq_false (by omega)
        have q2 : (n2 : Int) ≤ (n1 : Int) := by omega
        have hmk := run_make_row' (P := Try.prog) 78 4 (.bool false) 1 Try.underlying78 infoB rfl .i64 .i64 n1 (by omega) (by omega)
        have hE2 := hid (hE1.alloc (.cells (madeCells #[.bool false] n1) 4))
        have hP2 := hid (hP1.alloc (.cells (madeCells #[.bool false] n1) 4))
        have hB2 := hB1.alloc hB1.size (.cells (madeCells #[.bool false] n1) 4)
        have hS2 : Hid (SeenB (w1.alloc (.cells (madeCells #[.bool false] n1) 4)) w1.heap.size n1 4 z1 0) := ⟨_, Blk.new w1 _ _, by simp [madeCells], fun x hx => by rw [madeB_at x hx]; rfl⟩
        have hs1 : S + 2 ≤ w1.heap.size := by have := hP1.lt; omega
        go_wp2_with fail
        obtain ⟨W2, hW2⟩ : ∃ W, w1.alloc (.cells (madeCells #[.bool false] n1) 4) = W := ⟨_, rfl⟩
        rw [hW2] at hE2 hP2 hB2 hS2 ⊢
        clear hW2 hmk hE1 hP1 hB1 p0 p1 p2 p3 q1 q2
        go_loopw [7] (fun i wr => ∃ k : Nat, k ≤ n1 ∧ i = .int .i64 k ∧ Hid (ordO z1 n1 k = true) ∧ Hid (SeenB wr w1.heap.size n1 4 z1 k) ∧ Hid (Blk wr S 33 #[.int .i64 f, .int .i64 b, .slice A n1 c]) ∧ Hid (Blk wr (S + 1) 35 #[.slice A1 n1 c1, .slice A2 n2 c2, .slice A3 n3 c3, .slice A4 n4 c4]) ∧ Below w.heap.size w wr) (fun i _ => n1 - (intOf i).toNat)
        case atStart => exact ⟨0, Nat.zero_le _, rfl, rfl, hS2, hE2, hP2, hB2⟩
        case round =>
          clear hE2 hP2 hB2 hS2
          obtain ⟨k, hk, rfl, HO, HS, HE, HP, hb⟩ := hrel
          obtain ⟨⟨p0, p1, p2, p3⟩, _⟩ := blk_cells4 HP.out
          by_cases hlt : k < n1
          · obtain ⟨ob, oo, rfl, hob, hco⟩ := hp.o.at_ hlt
            have hc' : wr.cell? ⟨ob, oo + k, none⟩ = some (.int .i64 (z1 k)) := (hb.cell (p := ⟨ob, oo + k, none⟩) hob).trans hco
            have i1 : (k : Int) < (n1 : Int) := by omega
            have i2 : (0 : Int) ≤ (k : Int) := by omega
            have hIn := In_any (z1 k) 0 ((n1 : Int) - 1) wr
            clear hco
            by_cases hin : 0 ≤ z1 k ∧ z1 k < (n1 : Int)
            · obtain ⟨x, hx⟩ : ∃ x : Nat, z1 k = (x : Int) := ⟨(z1 k).toNat, by omega⟩
              have hxn : x < n1 := by omega
              have hv : (decide (0 ≤ z1 k) && decide (z1 k ≤ (n1 : Int) - 1)) = true := by rw [decide_eq_true hin.1, decide_eq_true (by omega : z1 k ≤ (n1 : Int) - 1)]; rfl
              rw [hv] at hIn
              have hcs := HS.out.cell (x := x) hxn
              have hfs := HS.out.frozen x
              have hsl := HS.out.lt
              have HX := hid hx
              rw [hx] at hc' hIn
              have HIN := hid hIn
              have x1 : (x : Int) < (n1 : Int) := by omega
              have x2 : (0 : Int) ≤ (x : Int) := by omega
              clear hv hin hx hIn
              cases hh : hitB z1 (x : Int) k with
              | true =>
                rw [hh] at hcs
                have hz : ordO z1 n1 n1 = false := ordO_false hlt (by rw [HX.out, hh]; simp)
                have HZ : Hid (R = false) := by show _ = _; rw [← HR2.out, hz]; rfl
                clear hz hh
                go_wp2_with (go_at_call 67; refine HIN.out.mono ?_; rintro e w' ⟨rfl, rfl⟩)
                go_ret
                exact ⟨by rw [HZ.out]; rfl, hb⟩
              | false =>
                rw [hh] at hcs
                have HH := hid hh
                clear hh
                go_wp2_with (go_at_call 67; refine HIN.out.mono ?_; rintro e w' ⟨rfl, rfl⟩)
                go_roundw
                case rel => exact ⟨k + 1, by omega, by go_num, ordO_step HO.out HX.out hxn HH.out, HS.out.set HX.out hxn, HE.out.far (p := ⟨w1.heap.size, x, none⟩) (by show S ≠ w1.heap.size; omega) _, HP.out.far (p := ⟨w1.heap.size, x, none⟩) (by show S + 1 ≠ w1.heap.size; omega) _, hb.setCell (p := ⟨w1.heap.size, x, none⟩) (by show w.heap.size ≤ w1.heap.size; omega) _⟩
                case measure => simp [intOf]; omega
            · have hv : (decide (0 ≤ z1 k) && decide (z1 k ≤ (n1 : Int) - 1)) = false := by rw [Bool.eq_false_iff]; intro e; rw [Bool.and_eq_true, decide_eq_true_eq, decide_eq_true_eq] at e; exact hin ⟨e.1, by omega⟩
              rw [hv] at hIn
              have hz : ordO z1 n1 n1 = false := ordO_false hlt (by
                have : (decide (0 ≤ z1 k) && decide (z1 k < (n1 : Int))) = false := by rw [Bool.eq_false_iff]; intro e; rw [Bool.and_eq_true, decide_eq_true_eq, decide_eq_true_eq] at e; exact hin e
                rw [this, Bool.false_and])
              have HZ : Hid (R = false) := by show _ = _; rw [← HR2.out, hz]; rfl
              have HIN := hid hIn
              clear hv hin hz hIn
              go_wp2_with (go_at_call 67; refine HIN.out.mono ?_; rintro e w' ⟨rfl, rfl⟩)
              go_ret
              exact ⟨by rw [HZ.out]; rfl, hb⟩
          · obtain rfl : k = n1 := by omega
            have HORD := HO
            have HR4 : Hid ((endsB z2 n2 k && (sameB n3 (k + 1) z3 (tabLo len g (ordN z1) k) && sameB n4 (k + 1) z4 (tabHi len g (ordN z1) k))) = R) := by show _ = _; rw [← HR2.out, HO.out, Bool.true_and]
            obtain ⟨e0, e1, e2⟩ : wr.cell? ⟨S, 0, none⟩ = some (.int .i64 f) ∧ wr.cell? ⟨S, 1, none⟩ = some (.int .i64 b) ∧ wr.cell? ⟨S, 2, none⟩ = some (.slice A k c) := ⟨HE.out.cell 0, HE.out.cell 1, HE.out.cell 2⟩
            clear HR2 hlt hk
            go_wp2_with fail
            go_loop [8, 9] (fun l i => ∃ j : Nat, j ≤ n2 ∧ i = .int .i64 j ∧ l = .int .i64 (lastE z2 j) ∧ Hid (incE z2 j = true)) (fun _ i => n2 - (intOf i).toNat)
            case atStart => exact ⟨0, Nat.zero_le _, rfl, rfl, rfl⟩
            case round =>
              obtain ⟨j, hj, rfl, rfl, HI⟩ := hrel
              by_cases hlt : j < n2
              · obtain ⟨ob, oo, rfl, hob, hco⟩ := hp.e.at_ hlt
                have hc' : wr.cell? ⟨ob, oo + j, none⟩ = some (.int .i64 (z2 j)) := (hb.cell (p := ⟨ob, oo + j, none⟩) hob).trans hco
                have i1 : (j : Int) < (n2 : Int) := by omega
                have i2 : (0 : Int) ≤ (j : Int) := by omega
                clear hco
                by_cases h0 : z2 j ≤ lastE z2 j
                · have hz : endsB z2 n2 k = false := endsB_inc (incE_false hlt (by omega))
                  have HZ : Hid (R = false) := by show _ = _; rw [← HR4.out, hz]; rfl
                  have d1 : decide (z2 j ≤ lastE z2 j) = true := decide_eq_true h0
                  clear hz
                  go_wp2_with fail
                  go_ret
                  exact ⟨by rw [HZ.out]; rfl, hb⟩
                · have hs : incE z2 (j + 1) = true := by simp only [incE, HI.out]; simp; omega
                  have HS2 := hid hs
                  have d1 : decide (z2 j ≤ lastE z2 j) = false := decide_eq_false h0
                  clear hs
                  go_wp2_with fail
                  go_round
                  case rel => exact ⟨j + 1, by omega, by go_num, rfl, HS2.out⟩
                  case measure => simp [intOf]; omega
              · obtain rfl : j = n2 := by omega
                have hst := sTables_any f b A k c len g A1 k c1 (ordN z1) wr ((hr.below hb).more hb.size) hn hn12 hlen HT6 (ordN_rd ((hp.o.below hb).more hb.size) HORD.out) (ordN_lt HORD.out)
                by_cases hl : lastE z2 j = (k : Int)
                · have hN : endsB z2 j k = true := by unfold endsB; rw [HI.out, decide_eq_true hl]; rfl
                  have HR5 : Hid ((sameB n3 (k + 1) z3 (tabLo len g (ordN z1) k) && sameB n4 (k + 1) z4 (tabHi len g (ordN z1) k)) = R) := by show _ = _; rw [← HR4.out, hN, Bool.true_and]
                  rw [hl]
                  clear hN hl HR4
                  go_wp2_with fail
                  refine hst.mono ?_
                  rintro e w4 ⟨b1, b2, rfl, t1, t2, tne, tl1, tl2, hb4⟩
                  have hP4 := HP.out.below hb4 HP.out.lt
                  have hB4 := hb.trans (hb4.mono hb.size)
                  clear p0 p1 p2 p3 e0 e1 e2 hst hb4
                  obtain ⟨⟨p0, p1, p2, p3⟩, _⟩ := blk_cells4 hP4
                  have hl1 := t1.lt
                  have hl2 := t2.lt
                  have hc4 := l5Same_any (some ⟨b1, 0, none⟩) A3 (k + 1) n3 (k + 1) c3 (tabLo len g (ordN z1) k) z3 w4 (t1.rd hl1) ((hp.m.below hB4).more hB4.size) (by omega)
                  rw [sameB_comm] at hc4
                  cases hQ : sameB n3 (k + 1) z3 (tabLo len g (ordN z1) k) with
                  | false =>
                    rw [hQ] at hc4
                    have HR6 : Hid (R = false) := by show _ = _; rw [← HR5.out, hQ, Bool.false_and]
                    have HC := hid hc4
                    clear hQ hc4
                    go_wp2_with fail
                    refine HC.out.mono ?_
                    rintro e w6 ⟨rfl, m, rfl⟩
                    go_wp2_with fail
                    go_ret
                    exact ⟨by rw [HR6.out]; rfl, below_drewN hB4 m⟩
                  | true =>
                    rw [hQ] at hc4
                    have HR6 : Hid (sameB n4 (k + 1) z4 (tabHi len g (ordN z1) k) = R) := by show _ = _; rw [← HR5.out, hQ, Bool.true_and]
                    have HC := hid hc4
                    have T2 := hid t2
                    clear hQ hc4 t1 t2
                    go_wp2_with fail
                    refine HC.out.mono ?_
                    rintro e w6 ⟨rfl, m, rfl⟩
                    have p3' : (w4.drewN m).cell? ⟨S + 1, 3, none⟩ = some (.slice A4 n4 c4) := p3
                    have hc5 := l5Same_any (some ⟨b2, 0, none⟩) A4 (k + 1) n4 (k + 1) c4 (tabHi len g (ordN z1) k) z4 (w4.drewN m) (T2.out.rd hl2) ((hp.x.below (below_drewN hB4 m)).more (by show w.heap.size ≤ w4.heap.size; exact hB4.size)) (by omega)
                    rw [sameB_comm] at hc5
                    have HC5 := hid hc5
                    clear hc5 HC
                    go_wp2_with fail
                    refine HC5.out.mono ?_
                    rintro e w7 ⟨rfl, q, rfl⟩
                    go_wp2_with fail
                    go_ret
                    exact ⟨by rw [← HR6.out]; rfl, below_drewN hB4 (m + q)⟩
                · have hN : endsB z2 j k = false := by unfold endsB; rw [decide_eq_false hl, Bool.and_false]
                  have HR5 : Hid (R = false) := by show _ = _; rw [← HR4.out, hN]; rfl
                  have d1 : (lastE z2 j == (k : Int)) = false := by simp; exact hl
                  clear hN hl HR4
                  go_wp2_with fail
                  refine hst.mono ?_
                  rintro e w4 ⟨b1, b2, rfl, t1, t2, tne, tl1, tl2, hb4⟩
                  clear hst
                  go_wp2_with fail
                  go_ret
                  exact ⟨by rw [HR5.out]; rfl, hb.trans (hb4.mono hb.size)⟩
    · have HR2 : Hid (R = false) := by show _ = _; rw [← HR1.out, decide_eq_false hne]; rfl
      have q1 : ((n1 : Int) == (n : Int)) = false := by simp; omega
      clear HR1
      go_wp2_with fail
      go_ret
      exact ⟨by rw [HR2.out]; rfl, hB1⟩
end
end

/-! ### Same -/
section
set_option linter.unusedVariables false
set_option linter.unusedSimpArgs false
open Go.RowKit Go.Deep

theorem same_any (A A' : Option Addr) (n c c' : Nat) (z y : Nat → Int) (w : World) (h : Rd w w.heap.size A n z) (h' : Rd w w.heap.size A' n y) (hzy : Hid (∀ k, k < n → z k = y k)) (hn : n ≤ 4194304) :
    Calls Try.prog 50 #[.slice A n c, .slice A' n c'] w fun e w' => e = .returned (.bool true) ∧ ∃ m, w' = w.drewN m := by
  go_enter Try.func50, Try.ntmps50
  go_wp2_with fail
  go_loopw [5] (fun i wr => ∃ k m : Nat, k ≤ n ∧ i = .int .i64 k ∧ wr = w.drewN m) (fun i _ => n - (intOf i).toNat)
  case atStart => exact ⟨0, 0, Nat.zero_le _, rfl, rfl⟩
  case round =>
    obtain ⟨k, m, hk, rfl, rfl⟩ := hrel
    by_cases hlt : k < n
    · obtain ⟨b, off, rfl, hb, hc⟩ := h.at_ hlt
      obtain ⟨b', off', rfl, hb', hc'⟩ := h'.at_ hlt
      rw [← hzy.out k hlt] at hc'
      have hi : (k : Int) < (n : Int) := by omega
      have hi0 : (0 : Int) ≤ (k : Int) := by omega
      go_wp2_with fail
      go_quiet (fail)
      go_wp2_with fail
      go_roundw
      case rel => exact ⟨k + 1, _, by omega, by go_num, rfl⟩
      case measure => simp [intOf]; omega
    · go_wp2_with fail
      go_ret
      exact ⟨rfl, m, rfl⟩
end

/-! ### PlQ -/
section
set_option linter.unusedVariables false
set_option linter.unusedSimpArgs false
open Go.RowKit Go.Deep
set_option linter.unusedVariables false
set_option linter.unusedSimpArgs false

def DrawnPl (w : World) (e : Ending) (w' : World) : Prop :=
  ∃ (f b : Int) (k : Nat) (A' : Option Addr) (c : Nat) (len : Nat → Nat) (g : Nat → Nat → Nd) (pol st : Int), k ≤ 12 ∧ (∀ i, i < k → len i ≤ 16) ∧ e = .returned (.tuple #[enV f b A' k c, .int .i64 pol, .int .i64 st]) ∧ RdT w' w'.heap.size A' k len g ∧ Below w.heap.size w w'
theorem results_cell_row_tmp2 {P : Program} {fn : Func} {p u v : Tmp} {ty : TypeId} (h : fn.results = #[.cell p ty, .tmp u, .tmp v]) (tmps : Array Value) (w : World) (g : Nat) (t : TypeId) (cs : Array Value) (fr : Nat × Nat) (d : TypeDesc)
    (hp : tmps.getD p undef = .pointer (some ⟨g, 0, none⟩)) (hg : w.heap[g]? = some (.cells cs t fr))
    (hu : P.underlying ty = some d) (hd : (match d with | .struct _ | .array _ _ => true | _ => false) = true) (hi : (P.info? ty).map (·.size) = some cs.size) :
    (results fn tmps).run P w = .ok (.tuple #[.agg cs, tmps.getD u undef, tmps.getD v undef]) w := by
  have hp' : tmps[p]?.getD undef = .pointer (some ⟨g, 0, none⟩) := by simpa using hp
  simp [results, h, hp', asAddr, Result.andThen, run_loadVar_row w g t ty cs fr d hg hu hd hi]
theorem heldQ {X : World} {s : Nat} {a b c : Value} (h : Blk X s 33 #[a, b, c]) : X.cell? ⟨s, 0, none⟩ = some a ∧ X.cell? ⟨s, 1, none⟩ = some b ∧ X.cell? ⟨s, 2, none⟩ = some c := ⟨h.cell 0, h.cell 1, h.cell 2⟩
theorem heldQ3 {X : World} {s p : Nat} {a b c : Value} (h : Blk X s 33 #[a, b, c]) (hp : p ≠ s) (u v x : Value) : (((X.setCell ⟨p, 0, none⟩ u).setCell ⟨p, 1, none⟩ v).setCell ⟨p, 2, none⟩ x).cell? ⟨s, 0, none⟩ = some a ∧ (((X.setCell ⟨p, 0, none⟩ u).setCell ⟨p, 1, none⟩ v).setCell ⟨p, 2, none⟩ x).cell? ⟨s, 1, none⟩ = some b ∧ (((X.setCell ⟨p, 0, none⟩ u).setCell ⟨p, 1, none⟩ v).setCell ⟨p, 2, none⟩ x).cell? ⟨s, 2, none⟩ = some c :=
  heldQ (((h.far (p := ⟨p, 0, none⟩) (fun e => hp e.symm) u).far (p := ⟨p, 1, none⟩) (fun e => hp e.symm) v).far (p := ⟨p, 2, none⟩) (fun e => hp e.symm) x)

/-- What holds between two draws behind the ensemble. -/
def DSt (w0 : World) (R n cap : Nat) (A : Option Addr) (X : Nat) (ev : Array Value) (A2 : Option Addr) (k : Nat) (len : Nat → Nat) (g : Nat → Nat → Nd) (w : World) : Prop :=
  Rs w R A n cap ∧ Blk w X 33 ev ∧ Blk w w0.heap.size 33 #[.int .i64 0, .int .i64 0, .slice none 0 0] ∧ Below w0.heap.size w0 w ∧ HiT w (fun x => R < x ∧ x < X) A2 k len g
theorem DSt.rs {w0 w : World} {R n cap X k : Nat} {A A2 : Option Addr} {ev : Array Value} {len : Nat → Nat} {g : Nat → Nat → Nd} (h : DSt w0 R n cap A X ev A2 k len g w) : Rs w R A n cap := h.1
theorem DSt.home {w0 w : World} {R n cap X k : Nat} {A A2 : Option Addr} {ev : Array Value} {len : Nat → Nat} {g : Nat → Nat → Nd} (h : DSt w0 R n cap A X ev A2 k len g w) : Blk w w0.heap.size 33 #[.int .i64 0, .int .i64 0, .slice none 0 0] := h.2.2.1
theorem DSt.below {w0 w : World} {R n cap X k : Nat} {A A2 : Option Addr} {ev : Array Value} {len : Nat → Nat} {g : Nat → Nat → Nd} (h : DSt w0 R n cap A X ev A2 k len g w) : Below w0.heap.size w0 w := h.2.2.2.1
theorem DSt.hi {w0 w : World} {R n cap X k : Nat} {A A2 : Option Addr} {ev : Array Value} {len : Nat → Nat} {g : Nat → Nat → Nd} (h : DSt w0 R n cap A X ev A2 k len g w) : HiT w (fun x => R < x ∧ x < X) A2 k len g := h.2.2.2.2
theorem DSt.lt {w0 w : World} {R n cap X k : Nat} {A A2 : Option Addr} {ev : Array Value} {len : Nat → Nat} {g : Nat → Nat → Nd} (h : DSt w0 R n cap A X ev A2 k len g w) : X < w.heap.size := h.2.1.lt
theorem DSt.next {w0 w w' : World} {R n cap X k : Nat} {A A2 : Option Addr} {ev : Array Value} {len : Nat → Nat} {g : Nat → Nat → Nd} (h : DSt w0 R n cap A X ev A2 k len g w) (hR : Rs w' R A n cap) (hg : w.grownBy w' (some R)) (h1 : w0.heap.size < R) (h2 : R < X) : DSt w0 R n cap A X ev A2 k len g w' := by
  obtain ⟨a, b, c, d, e⟩ := h
  have hX := b.lt
  exact ⟨hR, b.grown hg (fun e => by injection e with e; omega), c.grown hg (fun e => by injection e with e; omega), d.grown hg d.size (fun x hx => by injection hx with hx; omega), e.keep (fun x hx => hg.block x (by omega) (fun e => by injection e with e; omega)) (fun x hx => hx)⟩
theorem DSt.held {w0 w : World} {R n cap X k : Nat} {A A2 : Option Addr} {a b c : Value} {len : Nat → Nat} {g : Nat → Nat → Nd} (h : DSt w0 R n cap A X #[a, b, c] A2 k len g w) : w.cell? ⟨X, 0, none⟩ = some a ∧ w.cell? ⟨X, 1, none⟩ = some b ∧ w.cell? ⟨X, 2, none⟩ = some c := heldQ h.2.1
theorem DSt.held3 {w0 w : World} {R n cap X k : Nat} {A A2 : Option Addr} {a b c : Value} {len : Nat → Nat} {g : Nat → Nat → Nd} (h : DSt w0 R n cap A X #[a, b, c] A2 k len g w) (hp : w0.heap.size ≠ X) (u v x : Value) : (((w.setCell ⟨w0.heap.size, 0, none⟩ u).setCell ⟨w0.heap.size, 1, none⟩ v).setCell ⟨w0.heap.size, 2, none⟩ x).cell? ⟨X, 0, none⟩ = some a ∧ (((w.setCell ⟨w0.heap.size, 0, none⟩ u).setCell ⟨w0.heap.size, 1, none⟩ v).setCell ⟨w0.heap.size, 2, none⟩ x).cell? ⟨X, 1, none⟩ = some b ∧ (((w.setCell ⟨w0.heap.size, 0, none⟩ u).setCell ⟨w0.heap.size, 1, none⟩ v).setCell ⟨w0.heap.size, 2, none⟩ x).cell? ⟨X, 2, none⟩ = some c := heldQ3 h.2.1 hp u v x
theorem DSt.drew {w0 w : World} {R n cap X k : Nat} {A A2 : Option Addr} {ev : Array Value} {len : Nat → Nat} {g : Nat → Nat → Nd} (h : DSt w0 R n cap A X ev A2 k len g w) : DSt w0 R n cap A X ev A2 k len g w.drew := by
  obtain ⟨a, b, c, d, e⟩ := h
  exact ⟨a.below (Below.refl _ w).drew, b, c, d.drew, e⟩

set_option maxRecDepth 100000 in
set_option maxHeartbeats 16000000 in
theorem drawPl (A : Option Addr) (n cap : Nat) (w : World) (h : Bs w w.heap.size A n) (hn : n ≤ 4194304) :
    Calls Try.prog 48 #[.slice A n cap] w (DrawnPl w) := by
  go_enter Try.func48, Try.ntmps48
  go_wp2_with fail
  have hbz := (Below.refl w.heap.size w).alloc (Nat.le_refl _) (.cells #[.int .i64 0, .int .i64 0, .slice none 0 0] 33)
  have h1 : Bs (w.alloc (.cells #[.int .i64 0, .int .i64 0, .slice none 0 0] 33)) (w.alloc (.cells #[.int .i64 0, .int .i64 0, .slice none 0 0] 33)).heap.size A n := (h.keep fun _ hp => hbz.cell hp).more hbz.size
  have hsz : (w.alloc (.cells #[.int .i64 0, .int .i64 0, .slice none 0 0] 33)).heap.size = w.heap.size + 1 := by simp
  refine (open_draw A n cap _ h1 hn).mono ?_
  rintro e w1 ⟨rfl, hR1, hb1⟩
  have hZ1 : Blk w1 w.heap.size 33 #[.int .i64 0, .int .i64 0, .slice none 0 0] := (Blk.new w 33 _).below hb1 (by omega)
  have hw1 : Below w.heap.size w w1 := hbz.trans (hb1.mono hbz.size)
  rw [hsz] at hR1
  generalize hRR : w.heap.size + 1 = R at *
  clear hb1 hbz h1 hsz
  have hRw := hR1.lt
  go_wp2_with fail
  refine (below_draw R n cap A 3 _ hR1 (by omega) (by omega)).mono ?_
  rintro e w2 ⟨x, rfl, hx0, hx1, hR2, hg2⟩
  have hZ2 := hZ1.grown hg2 (by intro e; injection e with e; omega)
  have hw2 := hw1.trans ((below_grown hg2 hRw).mono (show w.heap.size ≤ R by omega))
  clear hg2 hZ1 hw1 hR1
  go_wp2_with fail
  refine (ens_draw R n cap A (1 + x) (by omega) (by omega) _ hR2).mono ?_
  rintro e w3 ⟨f, b, k, A', c, bl, ln, cp, ds, hk, rfl, hown, hT, hR3, hg3⟩
  have hZ3 := hZ2.grown hg3 (by intro e; injection e with e; omega)
  have hw3 := hw2.trans ((below_grown hg3 hR2.lt).mono (show w.heap.size ≤ R by omega))
  have hRw2 := hR2.lt
  clear hg3 hZ2 hw2 hR2
  go_wp2_with fail
  refine (hurtEns_draw R n cap w2.heap.size A A' f b k c bl ln cp ds _ hR3 hRw2 hk hown hT).mono ?_
  rintro e w4 ⟨f', b', k', A2, c', len, g, hk', hl, rfl, hHi, hR4, hb4⟩
  have hZ4 := hZ3.below hb4 (show w.heap.size < R by omega)
  have hw4 := hw3.trans (hb4.mono (show w.heap.size ≤ R by omega))
  clear hZ3 hw3 hR3 hb4 hown hT
  have hRX : R < w4.heap.size := hR4.lt
  have hwR : w.heap.size < R := by omega
  have hD5 : DSt w R n cap A w4.heap.size #[.int .i64 f', .int .i64 b', .slice A2 k' c'] A2 k' len g (w4.alloc (.cells #[.int .i64 f', .int .i64 b', .slice A2 k' c'] 33)) := ⟨hR4.alloc _, Blk.new w4 _ _, hZ4.alloc _, hw4.alloc hw4.size _, hHi.keep (fun x hx => Below.heap_alloc _ _ x hx.2) (fun x hx => hx)⟩
  clear hHi hZ4 hw4 hR4
  go_wp2_with fail
  obtain ⟨W5, hW5⟩ : ∃ W, w4.alloc (.cells #[.int .i64 f', .int .i64 b', .slice A2 k' c'] 33) = W := ⟨_, rfl⟩
  obtain ⟨X, hX⟩ : ∃ x, w4.heap.size = x := ⟨_, rfl⟩
  rw [hW5] at hD5 ⊢
  rw [hX] at hD5 hRX
  try rw [hX]
  clear hW5 hX
  refine (once_draw R n cap A 4 W5 hD5.1 (by omega) (by omega)).mono ?_
  rintro e w6 ⟨q, rfl, hR6, hg6⟩
  have D6 := hid (hD5.next hR6 hg6 hwR hRX)
  clear hD5 hR6 hg6
  have hXne : w.heap.size ≠ X := by omega
  have HD6 := hid D6.out.drew
  cases q with
  | true =>
    go_wp2_with fail
    go_region_held3 (fun w' => w'.cell? ⟨X, 0, none⟩ = some (.int .i64 f') ∧ w'.cell? ⟨X, 1, none⟩ = some (.int .i64 b') ∧ w'.cell? ⟨X, 2, none⟩ = some (.slice A2 k' c'))
      (first | with_reducible exact DSt.held HD6.out | with_reducible exact DSt.held D7.out | with_reducible exact DSt.held D8.out | with_reducible exact DSt.held3 D8.out hXne _ _ _)
      (first
        | (go_at_call 100; (with_reducible refine Calls.mono (off_draw R n cap A 1 3 w6.drew HD6.out.rs (by omega) (by omega) (by omega) (by omega)) ?_); rintro e w7 ⟨y1, rfl, hR7, hg7⟩; have D7 := hid (HD6.out.next hR7 hg7 hwR hRX); clear hR7 hg7)
        | (go_at_call 100; (with_reducible refine Calls.mono (off_draw R n cap A 1 12 w7 D7.out.rs (by omega) (by omega) (by omega) (by omega)) ?_); rintro e w8 ⟨y2, rfl, hR8, hg8⟩; have D8 := hid (D7.out.next hR8 hg8 hwR hRX); obtain ⟨t0, t1, t2⟩ := heldQ D8.out.home; have f0 := D8.out.home.frozen 0; have f1 := D8.out.home.frozen 1; have f2 := D8.out.home.frozen 2; clear hR8 hg8))
    all_goals
      go_wp2_with fail
      have hblk := ((D8.out.home.set_ 0 (.int .i64 f')).set_ 1 (.int .i64 b')).set_ 2 (.slice A2 k' c')
      have hks : ∀ (i : Nat), i ≠ w.heap.size → (((w8.setCell ⟨w.heap.size, 0, none⟩ (.int .i64 f')).setCell ⟨w.heap.size, 1, none⟩ (.int .i64 b')).setCell ⟨w.heap.size, 2, none⟩ (.slice A2 k' c')).heap[i]? = w8.heap[i]? := fun i hi =>
        (Below.heap_setCell _ _ _ i hi).trans ((Below.heap_setCell _ _ _ i hi).trans (Below.heap_setCell _ _ _ i hi))
      have hss : (((w8.setCell ⟨w.heap.size, 0, none⟩ (.int .i64 f')).setCell ⟨w.heap.size, 1, none⟩ (.int .i64 b')).setCell ⟨w.heap.size, 2, none⟩ (.slice A2 k' c')).heap.size = w8.heap.size := by simp [World.setCell]
      (try simp only [Exit.inBlock, Exit.then])
      refine bodyPost_ret (results_cell_row_tmp2 rfl _ _ w.heap.size 33 #[.int .i64 f', .int .i64 b', .slice A2 k' c'] (0, 0) _ rfl hblk Try.underlying33 rfl size_ens) rfl ?_
      refine ⟨f', b', k', A2, c', len, g, _, _, hk', hl, rfl, ?_, ((D8.out.below.setCell (Nat.le_refl _) _).setCell (Nat.le_refl _) _).setCell (Nat.le_refl _) _⟩
      rw [hss]
      exact (D8.out.hi.keep (Q := fun x => R < x ∧ x < X) (fun x hx => hks x (by omega)) (fun x hx => hx)).rdT (fun x hx => by have := D8.out.lt; omega)
  | false =>
    go_wp2_with fail
    go_region_held3 (fun w' => w'.cell? ⟨X, 0, none⟩ = some (.int .i64 f') ∧ w'.cell? ⟨X, 1, none⟩ = some (.int .i64 b') ∧ w'.cell? ⟨X, 2, none⟩ = some (.slice A2 k' c'))
      (first | with_reducible exact DSt.held HD6.out | with_reducible exact DSt.held D7.out | with_reducible exact DSt.held D8.out | with_reducible exact DSt.held3 D8.out hXne _ _ _)
      (first
        | (go_at_call 98; (with_reducible refine Calls.mono (below_draw R n cap A 3 w6.drew HD6.out.rs (by omega) (by omega)) ?_); rintro e w7 ⟨y1, rfl, hy0, hy1, hR7, hg7⟩; have D7 := hid (HD6.out.next hR7 hg7 hwR hRX); have hwy : IntKind.i64.wrap (1 + y1) = 1 + y1 := IntWalk.i64_in _ (by omega); clear hR7 hg7)
        | (go_at_call 98; (with_reducible refine Calls.mono (below_draw R n cap A 4 w7 D7.out.rs (by omega) (by omega)) ?_); rintro e w8 ⟨y2, rfl, hz0, hz1, hR8, hg8⟩; have D8 := hid (D7.out.next hR8 hg8 hwR hRX); have hwz : IntKind.i64.wrap (1 + y2) = 1 + y2 := IntWalk.i64_in _ (by omega); obtain ⟨t0, t1, t2⟩ := heldQ D8.out.home; have f0 := D8.out.home.frozen 0; have f1 := D8.out.home.frozen 1; have f2 := D8.out.home.frozen 2; clear hR8 hg8))
    all_goals
      go_wp2_with fail
      have hblk := ((D8.out.home.set_ 0 (.int .i64 f')).set_ 1 (.int .i64 b')).set_ 2 (.slice A2 k' c')
      have hks : ∀ (i : Nat), i ≠ w.heap.size → (((w8.setCell ⟨w.heap.size, 0, none⟩ (.int .i64 f')).setCell ⟨w.heap.size, 1, none⟩ (.int .i64 b')).setCell ⟨w.heap.size, 2, none⟩ (.slice A2 k' c')).heap[i]? = w8.heap[i]? := fun i hi =>
        (Below.heap_setCell _ _ _ i hi).trans ((Below.heap_setCell _ _ _ i hi).trans (Below.heap_setCell _ _ _ i hi))
      have hss : (((w8.setCell ⟨w.heap.size, 0, none⟩ (.int .i64 f')).setCell ⟨w.heap.size, 1, none⟩ (.int .i64 b')).setCell ⟨w.heap.size, 2, none⟩ (.slice A2 k' c')).heap.size = w8.heap.size := by simp [World.setCell]
      (try simp only [Exit.inBlock, Exit.then])
      refine bodyPost_ret (results_cell_row_tmp2 rfl _ _ w.heap.size 33 #[.int .i64 f', .int .i64 b', .slice A2 k' c'] (0, 0) _ rfl hblk Try.underlying33 rfl size_ens) rfl ?_
      refine ⟨f', b', k', A2, c', len, g, _, _, hk', hl, rfl, ?_, ((D8.out.below.setCell (Nat.le_refl _) _).setCell (Nat.le_refl _) _).setCell (Nat.le_refl _) _⟩
      rw [hss]
      exact (D8.out.hi.keep (Q := fun x => R < x ∧ x < X) (fun x hx => hks x (by omega)) (fun x hx => hx)).rdT (fun x hx => by have := D8.out.lt; omega)
end

/-! ### PlR -/
section
set_option linter.unusedVariables false
set_option linter.unusedSimpArgs false
open Go.RowKit Go.Deep
set_option linter.unusedVariables false
set_option linter.unusedSimpArgs false

theorem ordO_ordZ (pol : Int) (len : Nat → Nat) (g : Nat → Nat → Nd) (n : Nat) : ordO (ordZ pol len g n) n n = true := ordO_iff.2 fun i hi => by
  have h := ordF_lt (wtF pol len g) n i hi
  have e : ∀ p, ordZ pol len g n p = (ordF (wtF pol len g) n p : Nat) := fun _ => rfl
  rw [e]
  refine ⟨⟨by omega, by omega⟩, fun j hj hh => ?_⟩
  rw [e] at hh
  exact ordF_inj (wtF pol len g) n j i (by omega) hi (by omega) (by omega)
theorem ordN_ordZ (pol : Int) (len : Nat → Nat) (g : Nat → Nat → Nd) (n : Nat) : ordN (ordZ pol len g n) = ordF (wtF pol len g) n := funext fun p => by
  show ((ordF (wtF pol len g) n p : Nat) : Int).toNat = _
  omega
theorem mul_lt_endN {n st i : Nat} (hi : i < endN n st) : i * st < n := by
  unfold endN at hi
  split at hi
  · omega
  · have h := Nat.div_mul_le_self (n - 1) st
    have h2 : i * st ≤ (n - 1) / st * st := Nat.mul_le_mul_right _ (by omega)
    omega
theorem mul_ge_endN {n st i : Nat} (h1 : 1 ≤ st) (hi : ¬ i < endN n st) : n ≤ i * st := by
  unfold endN at hi
  split at hi
  · omega
  · have h := Nat.lt_mul_div_succ (n - 1) (show 0 < st by omega)
    have h2 : ((n - 1) / st + 1) * st ≤ i * st := Nat.mul_le_mul_right _ (by omega)
    rw [Nat.mul_comm] at h
    omega
theorem lastZ {n st i : Nat} (hi : i < endN n st) : lastE (endZ n st) i = ((i * st : Nat) : Int) := by
  cases i with
  | zero => simp [lastE]
  | succ i => exact endZ_lt rfl (mul_lt_endN hi)
theorem end_steps {n st i : Nat} (h1 : 1 ≤ st) (hi : i < endN n st) : lastE (endZ n st) i < endZ n st i ∧ endZ n st i ≤ lastE (endZ n st) i + st ∧ (i + 1 < endN n st → endZ n st i = lastE (endZ n st) i + st) ∧ 0 ≤ lastE (endZ n st) i ∧ endZ n st i ≤ n := by
  have hL := lastZ hi
  have hlt := mul_lt_endN hi
  have hs : (i + 1) * st = i * st + st := Nat.succ_mul i st
  rw [hL]
  by_cases hc : (i + 1) * st < n
  · rw [endZ_lt rfl hc, hs]
    rw [hs] at hc
    refine ⟨by omega, by omega, fun _ => by omega, by omega, by omega⟩
  · rw [endZ_ge rfl hc]
    rw [hs] at hc
    refine ⟨by omega, by omega, fun h => ?_, by omega, by omega⟩
    have := mul_lt_endN h
    rw [hs] at this
    omega
theorem last_all {n st : Nat} (h1 : 1 ≤ st) : lastE (endZ n st) (endN n st) = (n : Int) := by
  cases hE : endN n st with
  | zero =>
    have := mul_ge_endN (i := 0) (n := n) h1 (by omega)
    show (0 : Int) = n
    omega
  | succ q => exact endZ_ge rfl (by have := mul_ge_endN (i := q + 1) (n := n) h1 (by omega); omega)
theorem sameB_self (n : Nat) (z : Nat → Int) : sameB n n z z = true := by
  unfold sameB
  rw [Bool.and_eq_true]
  exact ⟨decide_eq_true rfl, eqTo_iff.2 fun _ _ => rfl⟩
theorem planB_made {f b pol : Int} {st n : Nat} {len : Nat → Nat} {g : Nat → Nat → Nd} (h : ensB f b n len g = true) (h1 : 1 ≤ st) : planB f b n len g n (ordZ pol len g n) (endN n st) (endZ n st) (n + 1) (tabLo len g (ordF (wtF pol len g) n) n) (n + 1) (tabHi len g (ordF (wtF pol len g) n) n) = true := by
  unfold planB endsB
  rw [h, ordO_ordZ, ordN_ordZ, sameB_self, sameB_self, incE_iff.2 fun i hi => (end_steps h1 hi).1, last_all h1]
  simp

set_option maxRecDepth 100000 in
set_option maxHeartbeats 4000000 in
theorem samePlan_any (A1 : Option Addr) (n1 c1 : Nat) (z1 : Nat → Int) (A2 : Option Addr) (n2 c2 : Nat) (z2 : Nat → Int) (A3 : Option Addr) (n3 c3 : Nat) (z3 : Nat → Int) (A4 : Option Addr) (n4 c4 : Nat) (z4 : Nat → Int) (A1' : Option Addr) (c1' : Nat) (A2' : Option Addr) (c2' : Nat) (A3' : Option Addr) (c3' : Nat) (A4' : Option Addr) (c4' : Nat) (w : World) (h : RdP w w.heap.size A1 n1 z1 A2 n2 z2 A3 n3 z3 A4 n4 z4) (h' : RdP w w.heap.size A1' n1 z1 A2' n2 z2 A3' n3 z3 A4' n4 z4) (k1 : n1 ≤ 4194304) (k2 : n2 ≤ 4194304) (k3 : n3 ≤ 4194304) (k4 : n4 ≤ 4194304) :
    Calls Try.prog 49 #[plV A1 n1 c1 A2 n2 c2 A3 n3 c3 A4 n4 c4, plV A1' n1 c1' A2' n2 c2' A3' n3 c3' A4' n4 c4'] w fun e w' => e = .returned (.bool true) ∧ Below w.heap.size w w' := by
  have hX := (Blk.new w 35 #[.slice A1 n1 c1, .slice A2 n2 c2, .slice A3 n3 c3, .slice A4 n4 c4]).alloc (.cells #[.slice A1' n1 c1', .slice A2' n2 c2', .slice A3' n3 c3', .slice A4' n4 c4'] 35)
  have hY := Blk.new2 w (.cells #[.slice A1 n1 c1, .slice A2 n2 c2, .slice A3 n3 c3, .slice A4 n4 c4] 35) 35 #[.slice A1' n1 c1', .slice A2' n2 c2', .slice A3' n3 c3', .slice A4' n4 c4']
  have hb := ((Below.refl w.heap.size w).alloc (Nat.le_refl _) (.cells #[.slice A1 n1 c1, .slice A2 n2 c2, .slice A3 n3 c3, .slice A4 n4 c4] 35)).alloc (by simp) (.cells #[.slice A1' n1 c1', .slice A2' n2 c2', .slice A3' n3 c3', .slice A4' n4 c4'] 35)
  go_enter Try.func49, Try.ntmps49
  go_wp2_with fail
  obtain ⟨W0, hW0⟩ : ∃ W, (w.alloc (.cells #[.slice A1 n1 c1, .slice A2 n2 c2, .slice A3 n3 c3, .slice A4 n4 c4] 35)).alloc (.cells #[.slice A1' n1 c1', .slice A2' n2 c2', .slice A3' n3 c3', .slice A4' n4 c4'] 35) = W := ⟨_, rfl⟩
  rw [hW0] at hX hY hb ⊢
  clear hW0
  have HX := hid hX
  have HY := hid hY
  have HB := hid hb
  clear hX hY hb
  obtain ⟨⟨x0, x1, x2, x3⟩, _⟩ := blk_cells4 HX.out
  obtain ⟨⟨y0, y1, y2, y3⟩, _⟩ := blk_cells4 HY.out
  refine (same_any A1 A1' n1 c1 c1' z1 z1 (W0) ((h.o.below HB.out).more (by show w.heap.size ≤ W0.heap.size; exact HB.out.size)) ((h'.o.below HB.out).more (by show w.heap.size ≤ W0.heap.size; exact HB.out.size)) (hid fun _ _ => rfl) k1).mono ?_
  rintro e v1 ⟨rfl, q1, rfl⟩
  clear x0 y0
  have x1 : (W0.drewN q1).cell? ⟨w.heap.size, 1, none⟩ = some (.slice A2 n2 c2) := HX.out.cell 1
  have y1 : (W0.drewN q1).cell? ⟨w.heap.size + 1, 1, none⟩ = some (.slice A2' n2 c2') := HY.out.cell 1
  have x2 : (W0.drewN q1).cell? ⟨w.heap.size, 2, none⟩ = some (.slice A3 n3 c3) := HX.out.cell 2
  have y2 : (W0.drewN q1).cell? ⟨w.heap.size + 1, 2, none⟩ = some (.slice A3' n3 c3') := HY.out.cell 2
  have x3 : (W0.drewN q1).cell? ⟨w.heap.size, 3, none⟩ = some (.slice A4 n4 c4) := HX.out.cell 3
  have y3 : (W0.drewN q1).cell? ⟨w.heap.size + 1, 3, none⟩ = some (.slice A4' n4 c4') := HY.out.cell 3
  go_wp2_with fail
  refine (same_any A2 A2' n2 c2 c2' z2 z2 (W0.drewN q1) ((h.e.below (below_drewN HB.out q1)).more (by show w.heap.size ≤ W0.heap.size; exact HB.out.size)) ((h'.e.below (below_drewN HB.out q1)).more (by show w.heap.size ≤ W0.heap.size; exact HB.out.size)) (hid fun _ _ => rfl) k2).mono ?_
  rintro e v2 ⟨rfl, p2, hv2⟩
  rw [World.drewN_drewN] at hv2
  obtain ⟨q2, hq2⟩ : ∃ q, q1 + p2 = q := ⟨_, rfl⟩
  rw [hq2] at hv2
  subst hv2
  clear hq2
  clear x1 y1
  have x2 : (W0.drewN q2).cell? ⟨w.heap.size, 2, none⟩ = some (.slice A3 n3 c3) := HX.out.cell 2
  have y2 : (W0.drewN q2).cell? ⟨w.heap.size + 1, 2, none⟩ = some (.slice A3' n3 c3') := HY.out.cell 2
  have x3 : (W0.drewN q2).cell? ⟨w.heap.size, 3, none⟩ = some (.slice A4 n4 c4) := HX.out.cell 3
  have y3 : (W0.drewN q2).cell? ⟨w.heap.size + 1, 3, none⟩ = some (.slice A4' n4 c4') := HY.out.cell 3
  go_wp2_with fail
  refine (same_any A3 A3' n3 c3 c3' z3 z3 (W0.drewN q2) ((h.m.below (below_drewN HB.out q2)).more (by show w.heap.size ≤ W0.heap.size; exact HB.out.size)) ((h'.m.below (below_drewN HB.out q2)).more (by show w.heap.size ≤ W0.heap.size; exact HB.out.size)) (hid fun _ _ => rfl) k3).mono ?_
  rintro e v3 ⟨rfl, p3, hv3⟩
  rw [World.drewN_drewN] at hv3
  obtain ⟨q3, hq3⟩ : ∃ q, q2 + p3 = q := ⟨_, rfl⟩
  rw [hq3] at hv3
  subst hv3
  clear hq3
  clear x2 y2
  have x3 : (W0.drewN q3).cell? ⟨w.heap.size, 3, none⟩ = some (.slice A4 n4 c4) := HX.out.cell 3
  have y3 : (W0.drewN q3).cell? ⟨w.heap.size + 1, 3, none⟩ = some (.slice A4' n4 c4') := HY.out.cell 3
  go_wp2_with fail
  refine (same_any A4 A4' n4 c4 c4' z4 z4 (W0.drewN q3) ((h.x.below (below_drewN HB.out q3)).more (by show w.heap.size ≤ W0.heap.size; exact HB.out.size)) ((h'.x.below (below_drewN HB.out q3)).more (by show w.heap.size ≤ W0.heap.size; exact HB.out.size)) (hid fun _ _ => rfl) k4).mono ?_
  rintro e v4 ⟨rfl, p4, hv4⟩
  rw [World.drewN_drewN] at hv4
  obtain ⟨q4, hq4⟩ : ∃ q, q3 + p4 = q := ⟨_, rfl⟩
  rw [hq4] at hv4
  subst hv4
  clear hq4
  clear x3 y3
  go_wp2_with fail
  go_ret
  exact ⟨rfl, below_drewN HB.out q4⟩
end

/-! ### PlS -/
section
set_option linter.unusedVariables false
set_option linter.unusedSimpArgs false
open Go.RowKit Go.Deep
set_option linter.unusedVariables false
set_option linter.unusedSimpArgs false

/-- What PlanOf leaves to read. -/
def PlP2 (w : World) (N1 N2 N3 : Nat) (z1 z2 z3 z4 : Nat → Int) (Y : Bool) (e : Ending) (w' : World) : Prop :=
  ∃ (A1 : Option Addr) (c1 : Nat) (A2 : Option Addr) (c2 : Nat) (A3 : Option Addr) (c3 : Nat) (A4 : Option Addr) (c4 : Nat), e = .returned (.tuple #[plV A1 N1 c1 A2 N2 c2 A3 N3 c3 A4 N3 c4, .bool Y]) ∧ RdP w' w'.heap.size A1 N1 z1 A2 N2 z2 A3 N3 z3 A4 N3 z4 ∧ Below w.heap.size w w'
theorem endN_le2 {n st : Nat} (hn : n ≤ 12) (h1 : 1 ≤ st) : endN n st ≤ 12 := by
  unfold endN
  split
  · omega
  · have := Nat.div_le_self (n - 1) st
    omega
theorem planOf_no2 (f b pol st : Int) (n : Nat) (len : Nat → Nat) (g : Nat → Nat → Nd) (hn : n ≤ 4194304) (hlen : Hid (∀ i, i < n → len i ≤ 4194304)) (hY : planY f b pol st n len g = false) (z : Nat → Int) :
    (∀ A c w, RdT w w.heap.size A n len g → Calls Try.prog 31 #[enV f b A n c, .int .i64 pol, .int .i64 st] w (PlP2 w 0 0 0 z z z z false)) ∧
      (∀ A c w, RdT w w.heap.size A n len g → Calls Try.prog 30 #[enV f b A n c, .int .i64 pol, .int .i64 st] w (PlP2 w 0 0 0 z z z z false)) := by
  refine ⟨fun A c w h => ?_, fun A c w h => ?_⟩
  · exact (iPlanOf_no f b pol st A n c len g w h hn hlen hY).mono fun _ w' ⟨he, hb⟩ => ⟨none, 0, none, 0, none, 0, none, 0, he, (owns4_nil w' 0 _ _ _ _).rdP, hb⟩
  · exact (sPlanOf_no f b pol st A n c len g w h hn hlen hY).mono fun _ w' ⟨he, hb⟩ => ⟨none, 0, none, 0, none, 0, none, 0, he, (owns4_nil w' 0 _ _ _ _).rdP, hb⟩
theorem planOf_yes2 (f b pol st : Int) (n : Nat) (len : Nat → Nat) (g : Nat → Nat → Nd) (hn : n ≤ 4194304) (hlen : Hid (∀ i, i < n → len i ≤ 4194304)) (hY : planY f b pol st n len g = true) :
    ∃ (N2 : Nat) (z1 z2 z3 z4 : Nat → Int), N2 ≤ 12 ∧ n ≤ 12 ∧ (1 ≤ st ∧ st ≤ 12) ∧ lastE z2 N2 = (n : Int) ∧
      (∀ i, i < N2 → lastE z2 i < z2 i ∧ z2 i ≤ lastE z2 i + st ∧ (i + 1 < N2 → z2 i = lastE z2 i + st) ∧ 0 ≤ lastE z2 i ∧ z2 i ≤ (n : Int)) ∧
      (∀ A c w, RdT w w.heap.size A n len g → Calls Try.prog 31 #[enV f b A n c, .int .i64 pol, .int .i64 st] w (PlP2 w n N2 (n + 1) z1 z2 z3 z4 true)) ∧
      (∀ A c w, RdT w w.heap.size A n len g → Calls Try.prog 30 #[enV f b A n c, .int .i64 pol, .int .i64 st] w (PlP2 w n N2 (n + 1) z1 z2 z3 z4 true)) ∧
      (∀ A c A1 c1 A2 c2 A3 c3 A4 c4 w, RdT w w.heap.size A n len g → RdP w w.heap.size A1 n z1 A2 N2 z2 A3 (n + 1) z3 A4 (n + 1) z4 → Calls Try.prog 21 #[enV f b A n c, plV A1 n c1 A2 N2 c2 A3 (n + 1) c3 A4 (n + 1) c4] w fun e w' => e = .returned (.bool true) ∧ Below w.heap.size w w') ∧
      (∀ A c w, RdT w w.heap.size A n len g → Calls Try.prog 25 #[enV f b A n c, .int .i64 pol] w fun e w' => ∃ (A' : Option Addr) (c' : Nat), e = .returned (.slice A' n c') ∧ Rd w' w'.heap.size A' n z1 ∧ Below w.heap.size w w') := by
  have hy := hY
  unfold planY at hy
  rw [Bool.and_eq_true, Bool.and_eq_true, decide_eq_true_eq, decide_eq_true_eq] at hy
  obtain ⟨hpol, h1, h12⟩ := hy
  have hE := (polB_true hpol).1
  have hn12 := (ensB_iff.1 hE).2.2.1
  obtain ⟨s, rfl⟩ : ∃ s : Nat, st = (s : Int) := ⟨st.toNat, by omega⟩
  have hs : 1 ≤ s := by omega
  have hN := endN_le2 hn12 hs
  refine ⟨endN n s, ordZ pol len g n, endZ n s, tabLo len g (ordF (wtF pol len g) n) n, tabHi len g (ordF (wtF pol len g) n) n, hN, hn12, ⟨h1, h12⟩, last_all hs, fun i hi => end_steps hs hi, fun A c w h => ?_, fun A c w h => ?_, fun A c A1 c1 A2 c2 A3 c3 A4 c4 w h hp => ?_, fun A c w h => ?_⟩

  · exact (iPlanOf_yes f b pol s A n c len g w h hn hlen hY).mono fun _ _ ⟨A1, c1, A2, c2, A3, c3, A4, c4, he, ho, hb⟩ => ⟨A1, c1, A2, c2, A3, c3, A4, c4, he, ho.rdP, hb⟩
  · exact (sPlanOf_yes f b pol s A n c len g w h hn hlen hY).mono fun _ _ ⟨A1, c1, A2, c2, A3, c3, A4, c4, he, ho, hb⟩ => ⟨A1, c1, A2, c2, A3, c3, A4, c4, he, ho.rdP, hb⟩
  · refine (iPlanOk_any f b A n c len g A1 n c1 _ A2 _ c2 _ A3 _ c3 _ A4 _ c4 _ w h hp hn hlen (by omega) (by omega) (by omega) (by omega)).mono fun _ _ ⟨he, hb⟩ => ⟨?_, hb⟩
    rw [he, planB_made hE hs]
  · exact (iOrder_any f b pol A n c len g w h hn hlen true hpol).mono fun _ _ ⟨A', c', he, ho, hb⟩ => ⟨A', c', he, rd_own1 ho, hb⟩
/-- The ensemble in its box; what was there stands. -/
def ES (w0 : World) (s : Nat) (ec : Array Value) (A : Option Addr) (k : Nat) (len : Nat → Nat) (g : Nat → Nat → Nd) (W : World) : Prop := Blk W s 33 ec ∧ RdT W W.heap.size A k len g ∧ Below w0.heap.size w0 W
theorem ES.below {w0 W W' : World} {s k : Nat} {ec : Array Value} {A : Option Addr} {len : Nat → Nat} {g : Nat → Nat → Nd} (h : ES w0 s ec A k len g W) (hb : Below W.heap.size W W') : ES w0 s ec A k len g W' :=
  ⟨h.1.below hb h.1.lt, h.2.1.to hb hb.size, h.2.2.trans (hb.mono h.2.2.size)⟩
theorem ES.drew {w0 W : World} {s k : Nat} {ec : Array Value} {A : Option Addr} {len : Nat → Nat} {g : Nat → Nat → Nd} (h : ES w0 s ec A k len g W) : ES w0 s ec A k len g W.drew := h.below (Below.refl _ W).drew
theorem ES.cells {w0 W : World} {s k : Nat} {x0 x1 x2 : Value} {A : Option Addr} {len : Nat → Nat} {g : Nat → Nat → Nd} (h : ES w0 s #[x0, x1, x2] A k len g W) : W.cell? ⟨s, 0, none⟩ = some x0 ∧ W.cell? ⟨s, 1, none⟩ = some x1 ∧ W.cell? ⟨s, 2, none⟩ = some x2 := ⟨h.1.cell 0, h.1.cell 1, h.1.cell 2⟩
theorem ES.rd {w0 W : World} {s k : Nat} {ec : Array Value} {A : Option Addr} {len : Nat → Nat} {g : Nat → Nat → Nd} (h : ES w0 s ec A k len g W) : RdT W W.heap.size A k len g := h.2.1
/-- A plan in its box. -/
def PS (p : Nat) (pc : Array Value) (A1 : Option Addr) (n1 : Nat) (z1 : Nat → Int) (A2 : Option Addr) (n2 : Nat) (z2 : Nat → Int) (A3 : Option Addr) (n3 : Nat) (z3 : Nat → Int) (A4 : Option Addr) (n4 : Nat) (z4 : Nat → Int) (W : World) : Prop := Blk W p 35 pc ∧ RdP W W.heap.size A1 n1 z1 A2 n2 z2 A3 n3 z3 A4 n4 z4
section
variable {W W' : World} {p n1 n2 n3 n4 : Nat} {pc : Array Value} {A1 A2 A3 A4 : Option Addr} {z1 z2 z3 z4 : Nat → Int} {y0 y1 y2 y3 : Value}
theorem PS.below (h : PS p pc A1 n1 z1 A2 n2 z2 A3 n3 z3 A4 n4 z4 W) (hb : Below W.heap.size W W') : PS p pc A1 n1 z1 A2 n2 z2 A3 n3 z3 A4 n4 z4 W' := ⟨h.1.below hb h.1.lt, h.2.to hb hb.size⟩
theorem PS.drew (h : PS p pc A1 n1 z1 A2 n2 z2 A3 n3 z3 A4 n4 z4 W) : PS p pc A1 n1 z1 A2 n2 z2 A3 n3 z3 A4 n4 z4 W.drew := h.below (Below.refl _ W).drew
theorem PS.cells (h : PS p #[y0, y1, y2, y3] A1 n1 z1 A2 n2 z2 A3 n3 z3 A4 n4 z4 W) : W.cell? ⟨p, 0, none⟩ = some y0 ∧ W.cell? ⟨p, 1, none⟩ = some y1 ∧ W.cell? ⟨p, 2, none⟩ = some y2 ∧ W.cell? ⟨p, 3, none⟩ = some y3 := ⟨h.1.cell 0, h.1.cell 1, h.1.cell 2, h.1.cell 3⟩
theorem PS.rd (h : PS p pc A1 n1 z1 A2 n2 z2 A3 n3 z3 A4 n4 z4 W) : RdP W W.heap.size A1 n1 z1 A2 n2 z2 A3 n3 z3 A4 n4 z4 := h.2
theorem PS.order (h : PS p pc A1 n1 z1 A2 n2 z2 A3 n3 z3 A4 n4 z4 W) : Rd W W.heap.size A1 n1 z1 := h.2.o
theorem heldEP {w0 : World} {s k : Nat} {x0 x1 x2 : Value} {A : Option Addr} {len : Nat → Nat} {g : Nat → Nat → Nd} (h : ES w0 s #[x0, x1, x2] A k len g W) (h' : PS p #[y0, y1, y2, y3] A1 n1 z1 A2 n2 z2 A3 n3 z3 A4 n4 z4 W) :
    W.cell? ⟨s, 0, none⟩ = some x0 ∧ W.cell? ⟨s, 1, none⟩ = some x1 ∧ W.cell? ⟨s, 2, none⟩ = some x2 ∧ W.cell? ⟨p, 0, none⟩ = some y0 ∧ W.cell? ⟨p, 1, none⟩ = some y1 ∧ W.cell? ⟨p, 2, none⟩ = some y2 ∧ W.cell? ⟨p, 3, none⟩ = some y3 :=
  ⟨h.1.cell 0, h.1.cell 1, h.1.cell 2, h'.1.cell 0, h'.1.cell 1, h'.1.cell 2, h'.1.cell 3⟩
end
theorem same_b (A A' : Option Addr) (n c c' : Nat) (z : Nat → Int) (w : World) (h : Rd w w.heap.size A n z) (h' : Rd w w.heap.size A' n z) (hn : n ≤ 4194304) :
    Calls Try.prog 50 #[.slice A n c, .slice A' n c'] w fun e w' => e = .returned (.bool true) ∧ Below w.heap.size w w' :=
  (same_any A A' n c c' z z w h h' (hid fun _ _ => rfl) hn).mono fun _ _ ⟨he, m, hm⟩ => ⟨he, hm ▸ below_drewN (Below.refl _ _) m⟩

set_option maxRecDepth 100000 in
set_option maxHeartbeats 16000000 in
theorem lawPlan (A : Option Addr) (n cap : Nat) (w : World) (h : Bs w w.heap.size A n) :
    Calls Try.prog 9 #[.slice A n cap] w fun e w' => e = .returned (.bool true) ∧ Below w.heap.size w w' := by
  by_cases hbig : (1048576 : Int) < (n : Int)
  · go_enter Try.func9, Try.ntmps9
    go_wp2_with fail
    refine (big_yes A n cap _ hbig).mono ?_
    rintro e w1 ⟨rfl, rfl⟩
    go_wp2_with fail
    go_ret
    exact ⟨rfl, Below.refl _ _⟩
  · have hn : n ≤ 4194304 := by omega
    go_enter Try.func9, Try.ntmps9
    go_wp2_with fail
    refine (big_no A n cap _ (by omega)).mono ?_
    rintro e w0 ⟨rfl, rfl⟩
    go_wp2_with fail
    refine (drawPl A n cap _ h hn).mono ?_
    rintro e w1 ⟨f, b, k, A', c, len, g, pol, st, hk, hl, rfl, hr1, hb1⟩
    have hl' : Hid (∀ i, i < k → len i ≤ 4194304) := fun i hi => by have := hl i hi; omega
    have hk' : k ≤ 4194304 := by omega
    have hbx := (Below.refl w1.heap.size w1).alloc (Nat.le_refl _) (.cells #[.int .i64 f, .int .i64 b, .slice A' k c] 33)
    have hE2 : ES w w1.heap.size #[.int .i64 f, .int .i64 b, .slice A' k c] A' k len g (w1.alloc (.cells #[.int .i64 f, .int .i64 b, .slice A' k c] 33)) := ⟨Blk.new w1 _ _, hr1.to hbx hbx.size, hb1.trans (hbx.mono hb1.size)⟩
    clear hl hbx hr1 hb1
    obtain ⟨c0, c1, c2⟩ := hE2.cells
    cases hY : planY f b pol st k len g with
    | false =>
      obtain ⟨HI, HS⟩ := planOf_no2 f b pol st k len g hk' hl' hY (fun _ => 0)
      go_wp2_with fail
      obtain ⟨sE, hsE⟩ : ∃ s, w1.heap.size = s := ⟨_, rfl⟩
      rw [hsE] at hE2 c0 c1 c2
      try rw [hsE]
      clear hsE
      refine (HI A' c _ hE2.rd).mono ?_
      rintro e w3 ⟨I1, p1, I2, p2, I3, p3, I4, p4, rfl, hp3, hb3⟩
      have E3 := hid (hE2.below hb3)
      have X3 := (Below.refl w3.heap.size w3).alloc (Nat.le_refl _) (.cells #[.slice I1 0 p1, .slice I2 0 p2, .slice I3 0 p3, .slice I4 0 p4] 35)
      have E4 := hid (E3.out.below X3)
      have P4 : Hid (PS w3.heap.size #[.slice I1 0 p1, .slice I2 0 p2, .slice I3 0 p3, .slice I4 0 p4] I1 0 (fun _ => 0) I2 0 (fun _ => 0) I3 0 (fun _ => 0) I4 0 (fun _ => 0) (w3.alloc (.cells #[.slice I1 0 p1, .slice I2 0 p2, .slice I3 0 p3, .slice I4 0 p4] 35))) := ⟨Blk.new w3 _ _, hp3.to X3 X3.size⟩
      clear c0 c1 c2 hE2 hb3 hp3 X3 HI E3
      obtain ⟨c0, c1, c2⟩ := E4.out.cells
      go_wp2_with fail
      refine (HS A' c _ E4.out.rd).mono ?_
      rintro e w5 ⟨S1, q1, S2, q2, S3, q3, S4, q4, rfl, hp5, hb5⟩
      have E5 := hid (E4.out.below hb5)
      have P5 := hid (P4.out.below hb5)
      have X5 := (Below.refl w5.heap.size w5).alloc (Nat.le_refl _) (.cells #[.slice S1 0 q1, .slice S2 0 q2, .slice S3 0 q3, .slice S4 0 q4] 35)
      have E6 := hid (E5.out.below X5)
      have P6 := hid (P5.out.below X5)
      have Q6 : Hid (PS w5.heap.size #[.slice S1 0 q1, .slice S2 0 q2, .slice S3 0 q3, .slice S4 0 q4] S1 0 (fun _ => 0) S2 0 (fun _ => 0) S3 0 (fun _ => 0) S4 0 (fun _ => 0) (w5.alloc (.cells #[.slice S1 0 q1, .slice S2 0 q2, .slice S3 0 q3, .slice S4 0 q4] 35))) := ⟨Blk.new w5 _ _, hp5.to X5 X5.size⟩
      clear c0 c1 c2 E4 P4 hb5 hp5 X5 HS E5 P5
      obtain ⟨u0, u1, u2, u3⟩ := P6.out.cells
      obtain ⟨v0, v1, v2, v3⟩ := Q6.out.cells
      go_wp2_with fail
      obtain ⟨W6, hW6⟩ : ∃ W, w5.alloc (.cells #[.slice S1 0 q1, .slice S2 0 q2, .slice S3 0 q3, .slice S4 0 q4] 35) = W := ⟨_, rfl⟩
      rw [hW6] at E6 P6 Q6 u0 u1 u2 u3 v0 v1 v2 v3 ⊢
      obtain ⟨sP, hsP⟩ : ∃ s, w3.heap.size = s := ⟨_, rfl⟩
      obtain ⟨sQ, hsQ⟩ : ∃ s, w5.heap.size = s := ⟨_, rfl⟩
      rw [hsP] at P6 u0 u1 u2 u3
      rw [hsQ] at Q6 v0 v1 v2 v3
      try rw [hsP]
      try rw [hsQ]
      clear hW6 hsP hsQ
      refine (samePlan_any I1 0 p1 (fun _ => 0) I2 0 p2 (fun _ => 0) I3 0 p3 (fun _ => 0) I4 0 p4 (fun _ => 0) S1 q1 S2 q2 S3 q3 S4 q4 W6 P6.out.rd Q6.out.rd (by omega) (by omega) (by omega) (by omega)).mono ?_
      rintro e W7 ⟨rfl, hb7⟩
      have E7 := hid (E6.out.below hb7)
      have P7 := hid (P6.out.below hb7)
      have Q7 := hid (Q6.out.below hb7)
      clear E6 P6 Q6 hb7 u0 u1 u2 u3 v0 v1 v2 v3
      obtain ⟨u0, u1, u2, u3⟩ := P7.out.cells
      obtain ⟨v0, v1, v2, v3⟩ := Q7.out.cells
      go_wp2_with fail
      refine (samePlan_any I1 0 p1 (fun _ => 0) I2 0 p2 (fun _ => 0) I3 0 p3 (fun _ => 0) I4 0 p4 (fun _ => 0) S1 q1 S2 q2 S3 q3 S4 q4 W7 P7.out.rd Q7.out.rd (by omega) (by omega) (by omega) (by omega)).mono ?_
      rintro e W8 ⟨rfl, hb8⟩
      have E8 := hid (E7.out.below hb8)
      clear hb8 E7 P7 Q7 u0 u1 u2 u3 v0 v1 v2 v3
      go_wp2_with fail
      go_ret
      exact ⟨rfl, E8.out.2.2⟩
    | true =>
      obtain ⟨N2, z1, z2, z3, z4, hN2, hk12, ⟨hst1, hst2⟩, hlast, hst, HI, HS, hOK, hOR⟩ := planOf_yes2 f b pol st k len g hk' hl' hY
      have HST := hid hst
      have HLA := hid hlast
      have HOK := hid hOK
      have HOR := hid hOR
      clear hst hlast hOK hOR
      go_wp2_with fail
      obtain ⟨sE, hsE⟩ : ∃ s, w1.heap.size = s := ⟨_, rfl⟩
      rw [hsE] at hE2 c0 c1 c2
      try rw [hsE]
      clear hsE
      refine (HI A' c _ hE2.rd).mono ?_
      rintro e w3 ⟨I1, p1, I2, p2, I3, p3, I4, p4, rfl, hp3, hb3⟩
      have E3 := hid (hE2.below hb3)
      have X3 := (Below.refl w3.heap.size w3).alloc (Nat.le_refl _) (.cells #[.slice I1 k p1, .slice I2 N2 p2, .slice I3 (k + 1) p3, .slice I4 (k + 1) p4] 35)
      have E4 := hid (E3.out.below X3)
      have P4 : Hid (PS w3.heap.size #[.slice I1 k p1, .slice I2 N2 p2, .slice I3 (k + 1) p3, .slice I4 (k + 1) p4] I1 k z1 I2 N2 z2 I3 (k + 1) z3 I4 (k + 1) z4 (w3.alloc (.cells #[.slice I1 k p1, .slice I2 N2 p2, .slice I3 (k + 1) p3, .slice I4 (k + 1) p4] 35))) := ⟨Blk.new w3 _ _, hp3.to X3 X3.size⟩
      clear c0 c1 c2 hE2 hb3 hp3 X3 HI E3
      obtain ⟨c0, c1, c2⟩ := E4.out.cells
      go_wp2_with fail
      refine (HS A' c _ E4.out.rd).mono ?_
      rintro e w5 ⟨S1, q1, S2, q2, S3, q3, S4, q4, rfl, hp5, hb5⟩
      have E5 := hid (E4.out.below hb5)
      have P5 := hid (P4.out.below hb5)
      have X5 := (Below.refl w5.heap.size w5).alloc (Nat.le_refl _) (.cells #[.slice S1 k q1, .slice S2 N2 q2, .slice S3 (k + 1) q3, .slice S4 (k + 1) q4] 35)
      have E6 := hid (E5.out.below X5)
      have P6 := hid (P5.out.below X5)
      have Q6 : Hid (PS w5.heap.size #[.slice S1 k q1, .slice S2 N2 q2, .slice S3 (k + 1) q3, .slice S4 (k + 1) q4] S1 k z1 S2 N2 z2 S3 (k + 1) z3 S4 (k + 1) z4 (w5.alloc (.cells #[.slice S1 k q1, .slice S2 N2 q2, .slice S3 (k + 1) q3, .slice S4 (k + 1) q4] 35))) := ⟨Blk.new w5 _ _, hp5.to X5 X5.size⟩
      clear c0 c1 c2 E4 P4 hb5 hp5 X5 HS E5 P5
      obtain ⟨u0, u1, u2, u3⟩ := P6.out.cells
      obtain ⟨v0, v1, v2, v3⟩ := Q6.out.cells
      go_wp2_with fail
      obtain ⟨W6, hW6⟩ : ∃ W, w5.alloc (.cells #[.slice S1 k q1, .slice S2 N2 q2, .slice S3 (k + 1) q3, .slice S4 (k + 1) q4] 35) = W := ⟨_, rfl⟩
      rw [hW6] at E6 P6 Q6 u0 u1 u2 u3 v0 v1 v2 v3 ⊢
      obtain ⟨sP, hsP⟩ : ∃ s, w3.heap.size = s := ⟨_, rfl⟩
      obtain ⟨sQ, hsQ⟩ : ∃ s, w5.heap.size = s := ⟨_, rfl⟩
      rw [hsP] at P6 u0 u1 u2 u3
      rw [hsQ] at Q6 v0 v1 v2 v3
      try rw [hsP]
      try rw [hsQ]
      clear hW6 hsP hsQ
      refine (samePlan_any I1 k p1 z1 I2 N2 p2 z2 I3 (k + 1) p3 z3 I4 (k + 1) p4 z4 S1 q1 S2 q2 S3 q3 S4 q4 W6 P6.out.rd Q6.out.rd (by omega) (by omega) (by omega) (by omega)).mono ?_
      rintro e W7 ⟨rfl, hb7⟩
      have E7 := hid (E6.out.below hb7)
      have P7 := hid (P6.out.below hb7)
      have Q7 := hid (Q6.out.below hb7)
      clear E6 P6 Q6 hb7 u0 u1 u2 u3 v0 v1 v2 v3
      clear Q7
      obtain ⟨u0, u1, u2, u3⟩ := P7.out.cells
      go_wp2_with fail
      clear u0 u1 u2 u3
      go_loopw [10, 11] (fun la i wr => ∃ j : Nat, j ≤ N2 ∧ i = .int .i64 j ∧ la = .int .i64 (lastE z2 j) ∧ Hid (ES w sE #[.int .i64 f, .int .i64 b, .slice A' k c] A' k len g wr) ∧ Hid (PS sP #[.slice I1 k p1, .slice I2 N2 p2, .slice I3 (k + 1) p3, .slice I4 (k + 1) p4] I1 k z1 I2 N2 z2 I3 (k + 1) z3 I4 (k + 1) z4 wr)) (fun _ i _ => N2 - (intOf i).toNat)
      case atStart => exact ⟨0, Nat.zero_le _, rfl, rfl, E7, P7⟩
      case round =>
        obtain ⟨j, hj, rfl, rfl, HE, HP⟩ := hrel
        clear E7 P7
        by_cases hlt : j < N2
        · obtain ⟨s1, s2, s3, s4, s5⟩ := HST.out j hlt
          obtain ⟨d, hd⟩ : ∃ d, z2 j - lastE z2 j = d := ⟨_, rfl⟩
          have hwd : IntKind.i64.wrap (z2 j - lastE z2 j) = d := (IntWalk.i64_in _ (by omega)).trans hd
          have hwj : IntKind.i64.wrap ((j : Int) + 1) = (j : Int) + 1 := IntWalk.i64_in _ (by omega)
          have i1 : (j : Int) < (N2 : Int) := by omega
          have i2 : (0 : Int) ≤ (j : Int) := by omega
          have f1 : ¬ st < d := by omega
          have f2 : ¬ d < 1 := by omega
          obtain ⟨u0, u1, u2, u3⟩ := HP.out.cells
          obtain ⟨bt, off, hA, hbt, hct⟩ := HP.out.rd.e.at_ hlt
          rw [hA] at u1
          by_cases hc : (j : Int) + 1 < (N2 : Int)
          · have f3 : (d != st) = false := by have := s3 (by omega); simp; omega
            clear s1 s2 s3 s4 s5
            go_wp2_with fail
            go_roundw
            case rel => exact ⟨j + 1, by omega, by go_num, rfl, HE, HP⟩
            case measure => simp [intOf]; omega
          · clear s1 s2 s3 s4 s5
            go_wp2_with fail
            go_roundw
            case rel => exact ⟨j + 1, by omega, by go_num, rfl, HE, HP⟩
            case measure => simp [intOf]; omega
        · have hjN : j = N2 := by omega
          subst hjN
          rw [HLA.out]
          clear HST HLA
          obtain ⟨c0, c1, c2⟩ := HE.out.cells
          obtain ⟨u0, u1, u2, u3⟩ := HP.out.cells
          have hlj : ¬ (j : Int) < (j : Int) := by omega
          go_wp2_with fail
          go_region_held3 (fun w' => w'.cell? ⟨sE, 0, none⟩ = some (.int .i64 f) ∧ w'.cell? ⟨sE, 1, none⟩ = some (.int .i64 b) ∧ w'.cell? ⟨sE, 2, none⟩ = some (.slice A' k c) ∧ w'.cell? ⟨sP, 0, none⟩ = some (.slice I1 k p1) ∧ w'.cell? ⟨sP, 1, none⟩ = some (.slice I2 j p2) ∧ w'.cell? ⟨sP, 2, none⟩ = some (.slice I3 (k + 1) p3) ∧ w'.cell? ⟨sP, 3, none⟩ = some (.slice I4 (k + 1) p4))
            (first | with_reducible exact heldEP HE.out.drew HP.out.drew | with_reducible exact heldEP E9.out P9.out | with_reducible exact heldEP E10.out P10.out | with_reducible exact heldEP E11.out P11.out)
            (first
              | (go_at_call 21; refine (HOK.out A' c I1 p1 I2 p2 I3 p3 I4 p4 wr.drew HE.out.drew.rd HP.out.drew.rd).mono ?_; rintro e w9 ⟨rfl, hb9⟩; have E9 := hid (HE.out.drew.below hb9); have P9 := hid (HP.out.drew.below hb9); clear hb9)
              | (go_at_call 25; refine (HOR.out A' c w9 E9.out.rd).mono ?_; rintro e w10 ⟨O1, o1, rfl, hO10, hb10⟩; have E10 := hid (E9.out.below hb10); have P10 := hid (P9.out.below hb10); have O10 := hid hO10; clear hb10 hO10)
              | (go_at_call 50; refine (same_b I1 O1 k p1 o1 z1 w10 P10.out.order O10.out (by omega)).mono ?_; rintro e w11 ⟨rfl, hb11⟩; have E11 := hid (E10.out.below hb11); have P11 := hid (P10.out.below hb11); clear hb11))
          go_wp2_with fail
          go_ret
          exact ⟨rfl, E11.out.2.2⟩
end
end Go.Proofs.Ytmpgefpaoogoiaa
