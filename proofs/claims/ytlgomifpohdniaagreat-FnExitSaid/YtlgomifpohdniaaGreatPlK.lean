/- Orders, ends and PlanOk, on both sides. -/
import Derived.Test.YtlgomifpohdniaaGreatK6
import Derived.Test.YtlgomifpohdniaaGreatPlT
namespace Go.Proofs.YtlgomifpohdniaaGreat

/-! ### PlC -/
section
set_option linter.unusedVariables false
set_option linter.unusedSimpArgs false
open Go.RowKit Go.Deep

/-- Which numbers have been seen among the first k. -/
def SeenB (w : World) (sb m : Nat) (t : TypeId) (o : Nat → Int) (k : Nat) : Prop := ∃ cs : Array Value, Blk w sb t cs ∧ cs.size = m ∧ ∀ x : Nat, x < m → cs[x]? = some (.bool (hitB o (x : Int) k))
theorem SeenB.cell {w : World} {sb m k x : Nat} {t : TypeId} {o : Nat → Int} (h : SeenB w sb m t o k) (hx : x < m) : w.cell? ⟨sb, x, none⟩ = some (.bool (hitB o (x : Int) k)) := by
  obtain ⟨cs, h1, _, h3⟩ := h
  rw [h1.cell, h3 x hx]
theorem SeenB.frozen {w : World} {sb m k : Nat} {t : TypeId} {o : Nat → Int} (h : SeenB w sb m t o k) (x : Nat) : w.frozen? ⟨sb, x, none⟩ = false := by obtain ⟨cs, h1, _⟩ := h; exact h1.frozen x
theorem SeenB.lt {w : World} {sb m k : Nat} {t : TypeId} {o : Nat → Int} (h : SeenB w sb m t o k) : sb < w.heap.size := by obtain ⟨cs, h1, _⟩ := h; exact h1.lt
theorem SeenB.keep {w w' : World} {sb m k : Nat} {t : TypeId} {o : Nat → Int} (h : SeenB w sb m t o k) (hk : w'.heap[sb]? = w.heap[sb]?) : SeenB w' sb m t o k := by
  obtain ⟨cs, h1, h2, h3⟩ := h
  exact ⟨cs, hk.trans h1, h2, h3⟩
theorem SeenB.set {w : World} {sb m k x : Nat} {t : TypeId} {o : Nat → Int} (h : SeenB w sb m t o k) (hx : o k = (x : Int)) (hxm : x < m) : SeenB (w.setCell ⟨sb, x, none⟩ (.bool true)) sb m t o (k + 1) := by
  obtain ⟨cs, h1, h2, h3⟩ := h
  refine ⟨_, h1.set_ x _, by simpa using h2, fun z hz => ?_⟩
  by_cases e : z = x
  · subst e
    rw [Array.getElem?_setIfInBounds_self_of_lt (by omega)]
    simp [hitB, hx]
  · rw [Array.getElem?_setIfInBounds_ne (fun q => e q.symm), h3 z hz]
    have : (o k == (z : Int)) = false := by rw [hx]; simp; omega
    simp only [hitB, this, Bool.or_false]
theorem ordO_step {o : Nat → Int} {n k x : Nat} (h : ordO o n k = true) (hx : o k = (x : Int)) (hn : x < n) (hh : hitB o (x : Int) k = false) : ordO o n (k + 1) = true := by
  simp only [ordO, h, hx, hh]
  simp
  omega

set_option maxRecDepth 100000 in
set_option maxHeartbeats 2000000 in
theorem iOrderOk_any (A : Option Addr) (no c n : Nat) (o : Nat → Int) (w : World) (h : Rd w w.heap.size A no o) (hno : no ≤ 9223372036854775807) (hn : n ≤ 12) :
    Calls Tryz.prog 107 #[.slice A no c, .int .i64 (n : Int)] w fun e w' => e = .returned (.bool (decide (no = n) && ordO o n n)) ∧ Below w.heap.size w w' := by
  obtain ⟨R, hR⟩ : ∃ R, (decide (no = n) && ordO o n n) = R := ⟨_, rfl⟩
  rw [hR]
  by_cases hne : no = n
  · subst hne
    have HP : Hid (R = ordO o no no) := by show _ = _; rw [← hR, decide_eq_true rfl, Bool.true_and]
    clear hR
    go_enter Tryz.func107, Tryz.ntmps107
    go_wp2_with fail
    have hS0 : Hid (SeenB (w.alloc (.cells #[.bool false, .bool false, .bool false, .bool false, .bool false, .bool false, .bool false, .bool false, .bool false, .bool false, .bool false, .bool false] 169)) w.heap.size 12 169 o 0) := ⟨_, Blk.new w _ _, rfl, fun x hx => by
      match x, hx with
      | 0, _ | 1, _ | 2, _ | 3, _ | 4, _ | 5, _ | 6, _ | 7, _ | 8, _ | 9, _ | 10, _ | 11, _ => rfl⟩
    have hB0 := (Below.refl w.heap.size w).alloc (Nat.le_refl _) (.cells #[.bool false, .bool false, .bool false, .bool false, .bool false, .bool false, .bool false, .bool false, .bool false, .bool false, .bool false, .bool false] 169)
    go_loopw [14] (fun i wr => ∃ k : Nat, k ≤ no ∧ i = .int .i64 k ∧ Hid (ordO o no k = true) ∧ Hid (SeenB wr w.heap.size 12 169 o k) ∧ Below w.heap.size w wr) (fun i _ => no - (intOf i).toNat)
    case atStart => exact ⟨0, Nat.zero_le _, rfl, rfl, hS0, hB0⟩
    case round =>
      clear hS0 hB0
      obtain ⟨k, hk, rfl, HO, HS, hb⟩ := hrel
      by_cases hlt : k < no
      · obtain ⟨ob, oo, rfl, hob, hc⟩ := h.at_ hlt
        have hc' : wr.cell? ⟨ob, oo + k, none⟩ = some (.int .i64 (o k)) := (hb.cell (p := ⟨ob, oo + k, none⟩) hob).trans hc
        have i1 : (k : Int) < (no : Int) := by omega
        have i2 : (0 : Int) ≤ (k : Int) := by omega
        clear hc
        by_cases h0 : o k < 0
        · have hz : ordO o no no = false := ordO_false hlt (by rw [decide_eq_false (by omega), Bool.false_and, Bool.false_and])
          have HZ := hid hz
          have d1 : decide (o k < 0) = true := decide_eq_true h0
          clear hz
          go_wp2_with fail
          go_ret
          exact ⟨by rw [HP.out, HZ.out]; rfl, hb⟩
        · by_cases h1 : (no : Int) ≤ o k
          · have hz : ordO o no no = false := ordO_false hlt (by rw [decide_eq_false (by omega : ¬ o k < (no : Int)), Bool.and_false, Bool.false_and])
            have HZ := hid hz
            have d1 : decide (o k < 0) = false := decide_eq_false h0
            have d2 : decide (o k ≥ (no : Int)) = true := decide_eq_true h1
            clear hz
            go_wp2_with fail
            go_ret
            exact ⟨by rw [HP.out, HZ.out]; rfl, hb⟩
          · obtain ⟨x, hx⟩ : ∃ x : Nat, o k = (x : Int) := ⟨(o k).toNat, by omega⟩
            have hxn : x < no := by omega
            have hcs := HS.out.cell (x := x) (by omega)
            have hfs := HS.out.frozen x
            have hsl := HS.out.lt
            rw [hx] at hc' h0 h1
            have HX := hid hx
            have d1 : decide ((x : Int) < 0) = false := decide_eq_false h0
            have d2 : decide ((x : Int) ≥ (no : Int)) = false := decide_eq_false h1
            have x1 : (x : Int) < 12 := by omega
            have x2 : (0 : Int) ≤ (x : Int) := by omega
            have x3 : (x : Int) < (no : Int) := by omega
            clear hx h0 h1
            cases hh : hitB o (x : Int) k with
            | true =>
              rw [hh] at hcs
              have hz : ordO o no no = false := ordO_false hlt (by rw [HX.out, hh]; simp)
              have HZ := hid hz
              clear hz hh
              go_wp2_with fail
              go_ret
              exact ⟨by rw [HP.out, HZ.out]; rfl, hb⟩
            | false =>
              rw [hh] at hcs
              have HH := hid hh
              clear hh
              go_wp2_with fail
              go_roundw
              case rel => exact ⟨k + 1, by omega, by go_num, ordO_step HO.out HX.out hxn HH.out, HS.out.set HX.out (by omega), hb.setCell (p := ⟨w.heap.size, x, none⟩) (Nat.le_refl _) _⟩
              case measure => simp [intOf]; omega
      · have e : k = no := by omega
        go_wp2_with fail
        go_ret
        subst e
        exact ⟨by rw [HP.out, HO.out]; rfl, hb⟩
  · have HP : Hid (R = false) := by show _ = _; rw [← hR, decide_eq_false hne, Bool.false_and]
    clear hR
    have q1 : ((no : Int) == (n : Int)) = false := by simp; omega
    go_enter Tryz.func107, Tryz.ntmps107
    go_wp2_with fail
    go_ret
    exact ⟨by rw [HP.out]; rfl, Below.refl _ _⟩

set_option maxRecDepth 100000 in
set_option maxHeartbeats 2000000 in
theorem iEndsOk_any (A : Option Addr) (ne c n : Nat) (z : Nat → Int) (w : World) (h : Rd w w.heap.size A ne z) (hne : ne ≤ 9223372036854775807) :
    Calls Tryz.prog 108 #[.slice A ne c, .int .i64 (n : Int)] w fun e w' => e = .returned (.bool (endsB z ne n)) ∧ w = w' := by
  go_enter Tryz.func108, Tryz.ntmps108
  go_wp2_with fail
  go_loop [5, 10] (fun l i => ∃ k : Nat, k ≤ ne ∧ i = .int .i64 k ∧ l = .int .i64 (lastE z k) ∧ Hid (incE z k = true)) (fun _ i => ne - (intOf i).toNat)
  case atStart => exact ⟨0, Nat.zero_le _, rfl, rfl, rfl⟩
  case round =>
    obtain ⟨k, hk, rfl, rfl, HI⟩ := hrel
    by_cases hlt : k < ne
    · obtain ⟨ob, oo, rfl, hob, hc⟩ := h.at_ hlt
      have i1 : (k : Int) < (ne : Int) := by omega
      have i2 : (0 : Int) ≤ (k : Int) := by omega
      by_cases h0 : z k ≤ lastE z k
      · have hz : endsB z ne n = false := endsB_inc (incE_false hlt (by omega))
        have HZ := hid hz
        have d1 : decide (z k ≤ lastE z k) = true := decide_eq_true h0
        clear hz
        go_wp2_with fail
        go_ret
        exact ⟨by rw [HZ.out]; rfl, rfl⟩
      · have hs : incE z (k + 1) = true := by simp only [incE, HI.out]; simp; omega
        have HS := hid hs
        have d1 : decide (z k ≤ lastE z k) = false := decide_eq_false h0
        clear hs
        go_wp2_with fail
        go_round
        case rel => exact ⟨k + 1, by omega, by go_num, rfl, HS.out⟩
        case measure => simp [intOf]; omega
    · have e : k = ne := by omega
      go_wp2_with fail
      go_ret
      subst e
      exact ⟨by unfold endsB; rw [HI.out, Bool.true_and]; rfl, rfl⟩
end

/-! ### PlD -/
section
set_option linter.unusedVariables false
set_option linter.unusedSimpArgs false
open Go.RowKit Go.Deep

def ordN (z : Nat → Int) : Nat → Nat := fun p => (z p).toNat
/-- Is a plan right for an ensemble? -/
def planB (f b : Int) (n : Nat) (len : Nat → Nat) (g : Nat → Nat → Nd) (n1 : Nat) (z1 : Nat → Int) (n2 : Nat) (z2 : Nat → Int) (n3 : Nat) (z3 : Nat → Int) (n4 : Nat) (z4 : Nat → Int) : Bool :=
  ensB f b n len g && ((decide (n1 = n) && ordO z1 n n) && (endsB z2 n2 n && (sameB n3 (n + 1) z3 (tabLo len g (ordN z1) n) && sameB n4 (n + 1) z4 (tabHi len g (ordN z1) n))))
theorem ordN_lt {z : Nat → Int} {n : Nat} (h : ordO z n n = true) : ∀ p, p < n → ordN z p < n := fun p hp => by
  have := (ordO_iff.1 h p hp).1
  unfold ordN
  omega
theorem ordN_rd {w : World} {B n : Nat} {A : Option Addr} {z : Nat → Int} (h : Rd w B A n z) (ho : ordO z n n = true) : Rd w B A n fun p => (ordN z p : Nat) := h.congr fun p hp => by
  have := (ordO_iff.1 ho p hp).1
  unfold ordN
  omega

set_option maxRecDepth 100000 in
set_option maxHeartbeats 4000000 in
theorem iPlanOk_any (f b : Int) (A : Option Addr) (n c : Nat) (len : Nat → Nat) (g : Nat → Nat → Nd) (A1 : Option Addr) (n1 c1 : Nat) (z1 : Nat → Int) (A2 : Option Addr) (n2 c2 : Nat) (z2 : Nat → Int) (A3 : Option Addr) (n3 c3 : Nat) (z3 : Nat → Int) (A4 : Option Addr) (n4 c4 : Nat) (z4 : Nat → Int) (w : World)
    (hr : RdT w w.heap.size A n len g) (hp : RdP w w.heap.size A1 n1 z1 A2 n2 z2 A3 n3 z3 A4 n4 z4) (hn : n ≤ 4194304) (hlen : Hid (∀ i, i < n → len i ≤ 4194304)) (k1 : n1 ≤ 9223372036854775807) (k2 : n2 ≤ 9223372036854775807) (k3 : n3 ≤ 9223372036854775807) (k4 : n4 ≤ 9223372036854775807) :
    Calls Tryz.prog 72 #[enV f b A n c, plV A1 n1 c1 A2 n2 c2 A3 n3 c3 A4 n4 c4] w fun e w' => e = .returned (.bool (planB f b n len g n1 z1 n2 z2 n3 z3 n4 z4)) ∧ Below w.heap.size w w' := by
  obtain ⟨R, hR⟩ : ∃ R, planB f b n len g n1 z1 n2 z2 n3 z3 n4 z4 = R := ⟨_, rfl⟩
  rw [hR]
  unfold planB at hR
  have HR := hid hR
  clear hR
  obtain ⟨S, hS⟩ : ∃ S, w.heap.size = S := ⟨_, rfl⟩
  have hE0 : Blk ((w.alloc (.cells #[.int .i64 f, .int .i64 b, .slice A n c] 26)).alloc (.cells #[.slice A1 n1 c1, .slice A2 n2 c2, .slice A3 n3 c3, .slice A4 n4 c4] 29)) w.heap.size 26 #[.int .i64 f, .int .i64 b, .slice A n c] := (Blk.new w _ _).alloc _
  have hP0 : Blk ((w.alloc (.cells #[.int .i64 f, .int .i64 b, .slice A n c] 26)).alloc (.cells #[.slice A1 n1 c1, .slice A2 n2 c2, .slice A3 n3 c3, .slice A4 n4 c4] 29)) (w.heap.size + 1) 29 #[.slice A1 n1 c1, .slice A2 n2 c2, .slice A3 n3 c3, .slice A4 n4 c4] := Blk.new2 w _ _ _
  have hB0 := ((Below.refl w.heap.size w).alloc (Nat.le_refl _) (.cells #[.int .i64 f, .int .i64 b, .slice A n c] 26)).alloc (by simp) (.cells #[.slice A1 n1 c1, .slice A2 n2 c2, .slice A3 n3 c3, .slice A4 n4 c4] 29)
  go_enter Tryz.func72, Tryz.ntmps72
  go_wp2_with fail
  obtain ⟨W0, hW0⟩ : ∃ W, (w.alloc (.cells #[.int .i64 f, .int .i64 b, .slice A n c] 26)).alloc (.cells #[.slice A1 n1 c1, .slice A2 n2 c2, .slice A3 n3 c3, .slice A4 n4 c4] 29) = W := ⟨_, rfl⟩
  have hs0 : S + 2 ≤ W0.heap.size := by rw [← hW0]; simp; omega
  rw [hW0] at hE0 hP0 hB0 ⊢
  rw [hS] at hE0 hP0
  have hSw : w.heap.size ≤ S := by omega
  have hb00 := hB0
  clear hW0 hS
  have hc1 := iEnsOk_any f b A n c len g W0 ((hr.below hB0).more hB0.size) hn hlen
  cases hY : ensB f b n len g with
  | false =>
    rw [hY] at hc1
    have HR1 : Hid (R = false) := by show _ = _; rw [← HR.out, hY]; rfl
    clear hY
    refine hc1.mono ?_
    rintro e w1 ⟨rfl, hb1⟩
    go_wp2_with fail
    go_ret
    exact ⟨by rw [HR1.out]; rfl, hB0.trans (hb1.mono hB0.size)⟩
  | true =>
    rw [hY] at hc1
    have HR1 : Hid (((decide (n1 = n) && ordO z1 n n) && (endsB z2 n2 n && (sameB n3 (n + 1) z3 (tabLo len g (ordN z1) n) && sameB n4 (n + 1) z4 (tabHi len g (ordN z1) n)))) = R) := by show _ = _; rw [← HR.out, hY, Bool.true_and]
    have HY := hid hY
    obtain ⟨hf6, _, hn12, hT⟩ := ensB_iff.1 hY
    have HT6 : Hid (∀ i, i < n → treeB (g i) (len i) 6 = true) := fun i hi => tree_moreO (hT i hi) (by omega) (by omega)
    clear hY HR hT
    refine hc1.mono ?_
    rintro e w1 ⟨rfl, hb1⟩
    have hE1 := hE0.below hb1 hE0.lt
    have hP1 := hP0.below hb1 hP0.lt
    have hB1 := hB0.trans (hb1.mono hB0.size)
    obtain ⟨⟨p0, p1, p2, p3⟩, _⟩ := blk_cells4 hP1
    clear hE0 hP0 hB0 hb1 hb00 hc1
    go_wp2_with fail
    have hc2 := iOrderOk_any A1 n1 c1 n z1 w1 ((hp.o.below hB1).more hB1.size) k1 hn12
    cases hO : (decide (n1 = n) && ordO z1 n n) with
    | false =>
      rw [hO] at hc2
      have HR2 : Hid (R = false) := by show _ = _; rw [← HR1.out, hO]; rfl
      clear hO
      refine hc2.mono ?_
      rintro e w2 ⟨rfl, hb2⟩
      go_wp2_with fail
      go_ret
      exact ⟨by rw [HR2.out]; rfl, hB1.trans (hb2.mono hB1.size)⟩
    | true =>
      rw [hO] at hc2
      have HR2 : Hid ((endsB z2 n2 n && (sameB n3 (n + 1) z3 (tabLo len g (ordN z1) n) && sameB n4 (n + 1) z4 (tabHi len g (ordN z1) n))) = R) := by show _ = _; rw [← HR1.out, hO, Bool.true_and]
      have hO' := hO
      rw [Bool.and_eq_true, decide_eq_true_eq] at hO'
      obtain ⟨rfl, hord⟩ := hO'
      have HORD := hid hord
      clear hO hord HR1
      refine hc2.mono ?_
      rintro e w2 ⟨rfl, hb2⟩
      have hE2 := hE1.below hb2 hE1.lt
      have hP2 := hP1.below hb2 hP1.lt
      have hB2 := hB1.trans (hb2.mono hB1.size)
      have hs2 : S + 2 ≤ w2.heap.size := by have := hP2.lt; omega
      clear p0 p1 p2 p3
      obtain ⟨⟨p0, p1, p2, p3⟩, _⟩ := blk_cells4 hP2
      clear hE1 hP1 hB1 hb2 hc2
      go_wp2_with fail
      have hc3 := iEndsOk_any A2 n2 c2 n1 z2 w2 ((hp.e.below hB2).more hB2.size) k2
      cases hN : endsB z2 n2 n1 with
      | false =>
        rw [hN] at hc3
        have HR3 : Hid (R = false) := by show _ = _; rw [← HR2.out, hN]; rfl
        clear hN
        refine hc3.mono ?_
        rintro e w3 ⟨rfl, rfl⟩
        go_wp2_with fail
        go_ret
        exact ⟨by rw [HR3.out]; rfl, hB2⟩
      | true =>
        rw [hN] at hc3
        have HR3 : Hid ((sameB n3 (n1 + 1) z3 (tabLo len g (ordN z1) n1) && sameB n4 (n1 + 1) z4 (tabHi len g (ordN z1) n1)) = R) := by show _ = _; rw [← HR2.out, hN, Bool.true_and]
        clear hN HR2
        refine hc3.mono ?_
        rintro e w3 ⟨rfl, rfl⟩
        obtain ⟨⟨e0, e1, e2⟩, _⟩ : (w2.cell? ⟨S, 0, none⟩ = some (.int .i64 f) ∧ w2.cell? ⟨S, 1, none⟩ = some (.int .i64 b) ∧ w2.cell? ⟨S, 2, none⟩ = some (.slice A n1 c)) ∧ True := ⟨⟨hE2.cell 0, hE2.cell 1, hE2.cell 2⟩, trivial⟩
        go_wp2_with fail
        refine (iTables_any f b A n1 c len g A1 n1 c1 (ordN z1) w2 ((hr.below hB2).more hB2.size) hn hn12 hlen HT6 (ordN_rd ((hp.o.below hB2).more hB2.size) HORD.out) (ordN_lt HORD.out)).mono ?_
        rintro e w4 ⟨b1, d1, b2, d2, rfl, t1, t2, tne, tl1, tl2, hb4⟩
        have hP4 := hP2.below hb4 hP2.lt
        have hB4 := hB2.trans (hb4.mono hB2.size)
        have t1' := t1.alloc (.cells #[.slice (some ⟨b1, 0, none⟩) (n1 + 1) d1, .slice (some ⟨b2, 0, none⟩) (n1 + 1) d2] 96)
        have t2' := t2.alloc (.cells #[.slice (some ⟨b1, 0, none⟩) (n1 + 1) d1, .slice (some ⟨b2, 0, none⟩) (n1 + 1) d2] 96)
        have hP5 := hP4.alloc (.cells #[.slice (some ⟨b1, 0, none⟩) (n1 + 1) d1, .slice (some ⟨b2, 0, none⟩) (n1 + 1) d2] 96)
        have hB5 := hB4.alloc hB4.size (.cells #[.slice (some ⟨b1, 0, none⟩) (n1 + 1) d1, .slice (some ⟨b2, 0, none⟩) (n1 + 1) d2] 96)
        have hT5 := Blk.new w4 96 #[.slice (some ⟨b1, 0, none⟩) (n1 + 1) d1, .slice (some ⟨b2, 0, none⟩) (n1 + 1) d2]
        clear p0 p1 p2 p3 e0 e1 e2 hc3
        obtain ⟨⟨p0, p1, p2, p3⟩, _⟩ := blk_cells4 hP5
        obtain ⟨m0, m1, _, _⟩ := tbV_cells hT5
        have HP5 := hid hP5
        have HT5 := hid hT5
        clear hE2 hP2 hB2 hP4 hb4 t1 t2 hP5 hT5
        go_wp2_with fail
        obtain ⟨W5, hW5⟩ : ∃ W, w4.alloc (.cells #[.slice (some ⟨b1, 0, none⟩) (n1 + 1) d1, .slice (some ⟨b2, 0, none⟩) (n1 + 1) d2] 96) = W := ⟨_, rfl⟩
        rw [hW5] at t1' t2' hB5 HP5 HT5 p0 p1 p2 p3 m0 m1 ⊢
        clear hW5
        have hb51 := t1'.lt
        have hb52 := t2'.lt
        have hc4 := equalI_any A3 (some ⟨b1, 0, none⟩) n3 (n1 + 1) c3 d1 z3 (tabLo len g (ordN z1) n1) W5 ((hp.m.below hB5).more hB5.size) (t1'.rd hb51) k3
        cases hQ : sameB n3 (n1 + 1) z3 (tabLo len g (ordN z1) n1) with
        | false =>
          rw [hQ] at hc4
          have HR4 : Hid (R = false) := by show _ = _; rw [← HR3.out, hQ, Bool.false_and]
          clear hQ
          refine hc4.mono ?_
          rintro e w6 ⟨rfl, m, rfl⟩
          go_wp2_with fail
          go_ret
          exact ⟨by rw [HR4.out]; rfl, below_drewN hB5 m⟩
        | true =>
          rw [hQ] at hc4
          have HR4 : Hid (sameB n4 (n1 + 1) z4 (tabHi len g (ordN z1) n1) = R) := by show _ = _; rw [← HR3.out, hQ, Bool.true_and]
          clear hQ HR3
          refine hc4.mono ?_
          rintro e w6 ⟨rfl, m, rfl⟩
          have p3' : (W5.drewN m).cell? ⟨S + 1, 3, none⟩ = some (.slice A4 n4 c4) := p3
          have m1' : (W5.drewN m).cell? ⟨w4.heap.size, 1, none⟩ = some (.slice (some ⟨b2, 0, none⟩) (n1 + 1) d2) := m1
          have T2 := hid t2'
          clear t1' t2' hc4
          go_wp2_with fail
          refine (equalI_any A4 (some ⟨b2, 0, none⟩) n4 (n1 + 1) c4 d2 z4 (tabHi len g (ordN z1) n1) (W5.drewN m) ((hp.x.below (below_drewN hB5 m)).more (by show w.heap.size ≤ W5.heap.size; exact hB5.size)) (T2.out.rd hb52) k4).mono ?_
          rintro e w7 ⟨rfl, q, rfl⟩
          go_wp2_with fail
          go_ret
          exact ⟨by rw [← HR4.out]; rfl, below_drewN hB5 (m + q)⟩
end

/-! ### PlE -/
section
set_option linter.unusedVariables false
set_option linter.unusedSimpArgs false
open Go.RowKit Go.Deep

theorem infoB : (Tryz.prog.info? 4).map (fun i => (i.zero, i.size, i.bytes)) = some (some (.bool false), 1, 1) := by kernel_rfl
theorem madeB_at {n : Nat} (x : Nat) (hx : x < n) : (madeCells #[Value.bool false] n)[x]? = some (.bool false) := by
  simp [madeCells, hx, Nat.mod_one]

set_option maxRecDepth 100000 in
set_option maxHeartbeats 4000000 in
theorem sPlanOk_any (f b : Int) (A : Option Addr) (n c : Nat) (len : Nat → Nat) (g : Nat → Nat → Nd) (A1 : Option Addr) (n1 c1 : Nat) (z1 : Nat → Int) (A2 : Option Addr) (n2 c2 : Nat) (z2 : Nat → Int) (A3 : Option Addr) (n3 c3 : Nat) (z3 : Nat → Int) (A4 : Option Addr) (n4 c4 : Nat) (z4 : Nat → Int) (w : World)
    (hr : RdT w w.heap.size A n len g) (hp : RdP w w.heap.size A1 n1 z1 A2 n2 z2 A3 n3 z3 A4 n4 z4) (hn : n ≤ 4194304) (hlen : Hid (∀ i, i < n → len i ≤ 4194304)) (k1 : n1 ≤ 9223372036854775807) (k2 : n2 ≤ 9223372036854775807) (_k3 : n3 ≤ 9223372036854775807) (_k4 : n4 ≤ 9223372036854775807) :
    Calls Tryz.prog 76 #[enV f b A n c, plV A1 n1 c1 A2 n2 c2 A3 n3 c3 A4 n4 c4] w fun e w' => e = .returned (.bool (planB f b n len g n1 z1 n2 z2 n3 z3 n4 z4)) ∧ Below w.heap.size w w' := by
  obtain ⟨R, hR⟩ : ∃ R, planB f b n len g n1 z1 n2 z2 n3 z3 n4 z4 = R := ⟨_, rfl⟩
  rw [hR]
  unfold planB at hR
  have HR := hid hR
  clear hR
  obtain ⟨S, hS⟩ : ∃ S, w.heap.size = S := ⟨_, rfl⟩
  have hE0 : Blk ((w.alloc (.cells #[.int .i64 f, .int .i64 b, .slice A n c] 26)).alloc (.cells #[.slice A1 n1 c1, .slice A2 n2 c2, .slice A3 n3 c3, .slice A4 n4 c4] 29)) w.heap.size 26 #[.int .i64 f, .int .i64 b, .slice A n c] := (Blk.new w _ _).alloc _
  have hP0 : Blk ((w.alloc (.cells #[.int .i64 f, .int .i64 b, .slice A n c] 26)).alloc (.cells #[.slice A1 n1 c1, .slice A2 n2 c2, .slice A3 n3 c3, .slice A4 n4 c4] 29)) (w.heap.size + 1) 29 #[.slice A1 n1 c1, .slice A2 n2 c2, .slice A3 n3 c3, .slice A4 n4 c4] := Blk.new2 w _ _ _
  have hB0 := ((Below.refl w.heap.size w).alloc (Nat.le_refl _) (.cells #[.int .i64 f, .int .i64 b, .slice A n c] 26)).alloc (by simp) (.cells #[.slice A1 n1 c1, .slice A2 n2 c2, .slice A3 n3 c3, .slice A4 n4 c4] 29)
  go_enter Tryz.func76, Tryz.ntmps76
  go_wp2_with fail
  obtain ⟨W0, hW0⟩ : ∃ W, (w.alloc (.cells #[.int .i64 f, .int .i64 b, .slice A n c] 26)).alloc (.cells #[.slice A1 n1 c1, .slice A2 n2 c2, .slice A3 n3 c3, .slice A4 n4 c4] 29) = W := ⟨_, rfl⟩
  have hs0 : S + 2 ≤ W0.heap.size := by rw [← hW0]; simp; omega
  rw [hW0] at hE0 hP0 hB0 ⊢
  rw [hS] at hE0 hP0
  have hSw : w.heap.size ≤ S := by omega
  clear hW0 hS
  have hc1 := sEnsOk_any f b A n c len g W0 ((hr.below hB0).more hB0.size) hn hlen
  cases hY : ensB f b n len g with
  | false =>
    rw [hY] at hc1
    have HR1 : Hid (R = false) := by show _ = _; rw [← HR.out, hY]; rfl
    clear hY
    refine hc1.mono ?_
    rintro e w1 ⟨rfl, hb1⟩
    go_wp2_with fail
    go_ret
    exact ⟨by rw [HR1.out]; rfl, hB0.trans (hb1.mono hB0.size)⟩
  | true =>
    rw [hY] at hc1
    have HR1 : Hid (((decide (n1 = n) && ordO z1 n n) && (endsB z2 n2 n && (sameB n3 (n + 1) z3 (tabLo len g (ordN z1) n) && sameB n4 (n + 1) z4 (tabHi len g (ordN z1) n)))) = R) := by show _ = _; rw [← HR.out, hY, Bool.true_and]
    obtain ⟨hf6, _, hn12, hT⟩ := ensB_iff.1 hY
    have HT6 : Hid (∀ i, i < n → treeB (g i) (len i) 6 = true) := fun i hi => tree_moreO (hT i hi) (by omega) (by omega)
    clear hY HR hT
    refine hc1.mono ?_
    rintro e w1 ⟨rfl, hb1⟩
    have hE1 := hE0.below hb1 hE0.lt
    have hP1 := hP0.below hb1 hP0.lt
    have hB1 := hB0.trans (hb1.mono hB0.size)
    obtain ⟨⟨p0, p1, p2, p3⟩, _⟩ := blk_cells4 hP1
    clear hE0 hP0 hB0 hb1 hc1
    by_cases hne : n1 = n
    · subst hne
      have HR2 : Hid ((ordO z1 n1 n1 && (endsB z2 n2 n1 && (sameB n3 (n1 + 1) z3 (tabLo len g (ordN z1) n1) && sameB n4 (n1 + 1) z4 (tabHi len g (ordN z1) n1)))) = R) := by show _ = _; rw [← HR1.out, decide_eq_true rfl, Bool.true_and]
      clear HR1
      by_cases hge : n1 < n2
      · have HR3 : Hid (R = false) := by
          show _ = _
          rw [← HR2.out]
          cases hN : endsB z2 n2 n1 with
          | false => rw [Bool.false_and, Bool.and_false]
          | true => have := endsB_le hN; omega
        have q1 : decide ((n2 : Int) > (n1 : Int)) = true := decide_eq_true (by omega)
        have q2 : (n1 : Int) < (n2 : Int) := by omega
        go_wp2_with fail
        go_ret
        exact ⟨by rw [HR3.out]; rfl, hB1⟩
      · have q1 : decide ((n2 : Int) > (n1 : Int)) = false := decide_eq_false (by omega)
        have q2 : (n2 : Int) ≤ (n1 : Int) := by omega
        have hmk := run_make_row' (P := Tryz.prog) 147 4 (.bool false) 1 Tryz.underlying147 infoB rfl .i64 .i64 n1 (by omega) (by omega)
        have hE2 := hid (hE1.alloc (.cells (madeCells #[.bool false] n1) 4))
        have hP2 := hid (hP1.alloc (.cells (madeCells #[.bool false] n1) 4))
        have hB2 := hB1.alloc hB1.size (.cells (madeCells #[.bool false] n1) 4)
        have hS2 : Hid (SeenB (w1.alloc (.cells (madeCells #[.bool false] n1) 4)) w1.heap.size n1 4 z1 0) := ⟨_, Blk.new w1 _ _, by simp [madeCells], fun x hx => by rw [madeB_at x hx]; rfl⟩
        have hs1 : S + 2 ≤ w1.heap.size := by have := hP1.lt; omega
        go_wp2_with fail
        obtain ⟨W2, hW2⟩ : ∃ W, w1.alloc (.cells (madeCells #[.bool false] n1) 4) = W := ⟨_, rfl⟩
        rw [hW2] at hE2 hP2 hB2 hS2 ⊢
        clear hW2 hmk hE1 hP1 hB1 p0 p1 p2 p3 q1 q2
        go_loopw [7] (fun i wr => ∃ k : Nat, k ≤ n1 ∧ i = .int .i64 k ∧ Hid (ordO z1 n1 k = true) ∧ Hid (SeenB wr w1.heap.size n1 4 z1 k) ∧ Hid (Blk wr S 26 #[.int .i64 f, .int .i64 b, .slice A n1 c]) ∧ Hid (Blk wr (S + 1) 29 #[.slice A1 n1 c1, .slice A2 n2 c2, .slice A3 n3 c3, .slice A4 n4 c4]) ∧ Below w.heap.size w wr) (fun i _ => n1 - (intOf i).toNat)
        case atStart => exact ⟨0, Nat.zero_le _, rfl, rfl, hS2, hE2, hP2, hB2⟩
        case round =>
          clear hE2 hP2 hB2 hS2
          obtain ⟨k, hk, rfl, HO, HS, HE, HP, hb⟩ := hrel
          obtain ⟨⟨p0, p1, p2, p3⟩, _⟩ := blk_cells4 HP.out
          by_cases hlt : k < n1
          · obtain ⟨ob, oo, rfl, hob, hco⟩ := hp.o.at_ hlt
            have hc' : wr.cell? ⟨ob, oo + k, none⟩ = some (.int .i64 (z1 k)) := (hb.cell (p := ⟨ob, oo + k, none⟩) hob).trans hco
            have i1 : (k : Int) < (n1 : Int) := by omega
            have i2 : (0 : Int) ≤ (k : Int) := by omega
            have hIn := In_any (z1 k) 0 ((n1 : Int) - 1) wr
            clear hco
            by_cases hin : 0 ≤ z1 k ∧ z1 k < (n1 : Int)
            · obtain ⟨x, hx⟩ : ∃ x : Nat, z1 k = (x : Int) := ⟨(z1 k).toNat, by omega⟩
              have hxn : x < n1 := by omega
              have hv : (decide (0 ≤ z1 k) && decide (z1 k ≤ (n1 : Int) - 1)) = true := by rw [decide_eq_true hin.1, decide_eq_true (by omega : z1 k ≤ (n1 : Int) - 1)]; rfl
              rw [hv] at hIn
              have hcs := HS.out.cell (x := x) hxn
              have hfs := HS.out.frozen x
              have hsl := HS.out.lt
              have HX := hid hx
              rw [hx] at hc' hIn
              have HIN := hid hIn
              have x1 : (x : Int) < (n1 : Int) := by omega
              have x2 : (0 : Int) ≤ (x : Int) := by omega
              clear hv hin hx hIn
              cases hh : hitB z1 (x : Int) k with
              | true =>
                rw [hh] at hcs
                have hz : ordO z1 n1 n1 = false := ordO_false hlt (by rw [HX.out, hh]; simp)
                have HZ : Hid (R = false) := by show _ = _; rw [← HR2.out, hz]; rfl
                clear hz hh
                go_wp2_with (go_at_call 38; refine HIN.out.mono ?_; rintro e w' ⟨rfl, rfl⟩)
                go_ret
                exact ⟨by rw [HZ.out]; rfl, hb⟩
              | false =>
                rw [hh] at hcs
                have HH := hid hh
                clear hh
                go_wp2_with (go_at_call 38; refine HIN.out.mono ?_; rintro e w' ⟨rfl, rfl⟩)
                go_roundw
                case rel => exact ⟨k + 1, by omega, by go_num, ordO_step HO.out HX.out hxn HH.out, HS.out.set HX.out hxn, HE.out.far (p := ⟨w1.heap.size, x, none⟩) (by show S ≠ w1.heap.size; omega) _, HP.out.far (p := ⟨w1.heap.size, x, none⟩) (by show S + 1 ≠ w1.heap.size; omega) _, hb.setCell (p := ⟨w1.heap.size, x, none⟩) (by show w.heap.size ≤ w1.heap.size; omega) _⟩
                case measure => simp [intOf]; omega
            · have hv : (decide (0 ≤ z1 k) && decide (z1 k ≤ (n1 : Int) - 1)) = false := by rw [Bool.eq_false_iff]; intro e; rw [Bool.and_eq_true, decide_eq_true_eq, decide_eq_true_eq] at e; exact hin ⟨e.1, by omega⟩
              rw [hv] at hIn
              have hz : ordO z1 n1 n1 = false := ordO_false hlt (by
                have : (decide (0 ≤ z1 k) && decide (z1 k < (n1 : Int))) = false := by rw [Bool.eq_false_iff]; intro e; rw [Bool.and_eq_true, decide_eq_true_eq, decide_eq_true_eq] at e; exact hin e
                rw [this, Bool.false_and])
              have HZ : Hid (R = false) := by show _ = _; rw [← HR2.out, hz]; rfl
              have HIN := hid hIn
              clear hv hin hz hIn
              go_wp2_with (go_at_call 38; refine HIN.out.mono ?_; rintro e w' ⟨rfl, rfl⟩)
              go_ret
              exact ⟨by rw [HZ.out]; rfl, hb⟩
          · obtain rfl : k = n1 := by omega
            have HORD := HO
            have HR4 : Hid ((endsB z2 n2 k && (sameB n3 (k + 1) z3 (tabLo len g (ordN z1) k) && sameB n4 (k + 1) z4 (tabHi len g (ordN z1) k))) = R) := by show _ = _; rw [← HR2.out, HO.out, Bool.true_and]
            obtain ⟨e0, e1, e2⟩ : wr.cell? ⟨S, 0, none⟩ = some (.int .i64 f) ∧ wr.cell? ⟨S, 1, none⟩ = some (.int .i64 b) ∧ wr.cell? ⟨S, 2, none⟩ = some (.slice A k c) := ⟨HE.out.cell 0, HE.out.cell 1, HE.out.cell 2⟩
            clear HR2 hlt hk
            go_wp2_with fail
            go_loop [8, 9] (fun l i => ∃ j : Nat, j ≤ n2 ∧ i = .int .i64 j ∧ l = .int .i64 (lastE z2 j) ∧ Hid (incE z2 j = true)) (fun _ i => n2 - (intOf i).toNat)
            case atStart => exact ⟨0, Nat.zero_le _, rfl, rfl, rfl⟩
            case round =>
              obtain ⟨j, hj, rfl, rfl, HI⟩ := hrel
              by_cases hlt : j < n2
              · obtain ⟨ob, oo, rfl, hob, hco⟩ := hp.e.at_ hlt
                have hc' : wr.cell? ⟨ob, oo + j, none⟩ = some (.int .i64 (z2 j)) := (hb.cell (p := ⟨ob, oo + j, none⟩) hob).trans hco
                have i1 : (j : Int) < (n2 : Int) := by omega
                have i2 : (0 : Int) ≤ (j : Int) := by omega
                clear hco
                by_cases h0 : z2 j ≤ lastE z2 j
                · have hz : endsB z2 n2 k = false := endsB_inc (incE_false hlt (by omega))
                  have HZ : Hid (R = false) := by show _ = _; rw [← HR4.out, hz]; rfl
                  have d1 : decide (z2 j ≤ lastE z2 j) = true := decide_eq_true h0
                  clear hz
                  go_wp2_with fail
                  go_ret
                  exact ⟨by rw [HZ.out]; rfl, hb⟩
                · have hs : incE z2 (j + 1) = true := by simp only [incE, HI.out]; simp; omega
                  have HS2 := hid hs
                  have d1 : decide (z2 j ≤ lastE z2 j) = false := decide_eq_false h0
                  clear hs
                  go_wp2_with fail
                  go_round
                  case rel => exact ⟨j + 1, by omega, by go_num, rfl, HS2.out⟩
                  case measure => simp [intOf]; omega
              · obtain rfl : j = n2 := by omega
                have hst := sTables_any f b A k c len g A1 k c1 (ordN z1) wr ((hr.below hb).more hb.size) hn hn12 hlen HT6 (ordN_rd ((hp.o.below hb).more hb.size) HORD.out) (ordN_lt HORD.out)
                by_cases hl : lastE z2 j = (k : Int)
                · have hN : endsB z2 j k = true := by unfold endsB; rw [HI.out, decide_eq_true hl]; rfl
                  have HR5 : Hid ((sameB n3 (k + 1) z3 (tabLo len g (ordN z1) k) && sameB n4 (k + 1) z4 (tabHi len g (ordN z1) k)) = R) := by show _ = _; rw [← HR4.out, hN, Bool.true_and]
                  rw [hl]
                  clear hN hl HR4
                  go_wp2_with fail
                  refine hst.mono ?_
                  rintro e w4 ⟨b1, b2, rfl, t1, t2, tne, tl1, tl2, hb4⟩
                  have hP4 := HP.out.below hb4 HP.out.lt
                  have hB4 := hb.trans (hb4.mono hb.size)
                  clear p0 p1 p2 p3 e0 e1 e2 hst hb4
                  obtain ⟨⟨p0, p1, p2, p3⟩, _⟩ := blk_cells4 hP4
                  have hl1 := t1.lt
                  have hl2 := t2.lt
                  have hc4 := l5Same_any (some ⟨b1, 0, none⟩) A3 (k + 1) n3 (k + 1) c3 (tabLo len g (ordN z1) k) z3 w4 (t1.rd hl1) ((hp.m.below hB4).more hB4.size) (by omega)
                  rw [sameB_comm] at hc4
                  cases hQ : sameB n3 (k + 1) z3 (tabLo len g (ordN z1) k) with
                  | false =>
                    rw [hQ] at hc4
                    have HR6 : Hid (R = false) := by show _ = _; rw [← HR5.out, hQ, Bool.false_and]
                    have HC := hid hc4
                    clear hQ hc4
                    go_wp2_with fail
                    refine HC.out.mono ?_
                    rintro e w6 ⟨rfl, m, rfl⟩
                    go_wp2_with fail
                    go_ret
                    exact ⟨by rw [HR6.out]; rfl, below_drewN hB4 m⟩
                  | true =>
                    rw [hQ] at hc4
                    have HR6 : Hid (sameB n4 (k + 1) z4 (tabHi len g (ordN z1) k) = R) := by show _ = _; rw [← HR5.out, hQ, Bool.true_and]
                    have HC := hid hc4
                    have T2 := hid t2
                    clear hQ hc4 t1 t2
                    go_wp2_with fail
                    refine HC.out.mono ?_
                    rintro e w6 ⟨rfl, m, rfl⟩
                    have p3' : (w4.drewN m).cell? ⟨S + 1, 3, none⟩ = some (.slice A4 n4 c4) := p3
                    have hc5 := l5Same_any (some ⟨b2, 0, none⟩) A4 (k + 1) n4 (k + 1) c4 (tabHi len g (ordN z1) k) z4 (w4.drewN m) (T2.out.rd hl2) ((hp.x.below (below_drewN hB4 m)).more (by show w.heap.size ≤ w4.heap.size; exact hB4.size)) (by omega)
                    rw [sameB_comm] at hc5
                    have HC5 := hid hc5
                    clear hc5 HC
                    go_wp2_with fail
                    refine HC5.out.mono ?_
                    rintro e w7 ⟨rfl, q, rfl⟩
                    go_wp2_with fail
                    go_ret
                    exact ⟨by rw [← HR6.out]; rfl, below_drewN hB4 (m + q)⟩
                · have hN : endsB z2 j k = false := by unfold endsB; rw [decide_eq_false hl, Bool.and_false]
                  have HR5 : Hid (R = false) := by show _ = _; rw [← HR4.out, hN]; rfl
                  have d1 : (lastE z2 j == (k : Int)) = false := by simp; exact hl
                  clear hN hl HR4
                  go_wp2_with fail
                  refine hst.mono ?_
                  rintro e w4 ⟨b1, b2, rfl, t1, t2, tne, tl1, tl2, hb4⟩
                  clear hst
                  go_wp2_with fail
                  go_ret
                  exact ⟨by rw [HR5.out]; rfl, hb.trans (hb4.mono hb.size)⟩
    · have HR2 : Hid (R = false) := by show _ = _; rw [← HR1.out, decide_eq_false hne]; rfl
      have q1 : ((n1 : Int) == (n : Int)) = false := by simp; omega
      clear HR1
      go_wp2_with fail
      go_ret
      exact ⟨by rw [HR2.out]; rfl, hB1⟩
end
end Go.Proofs.YtlgomifpohdniaaGreat
