/- BoundsOf of the program. -/
import Derived.Test.YtlgomifpohdniaaGreatStB
import Derived.Test.YtlgomifpohdniaaGreatPlU
namespace Go.Proofs.YtlgomifpohdniaaGreat
open Go.RowKit Go.Deep
set_option linter.unusedVariables false
set_option linter.unusedSimpArgs false

/-- A region that draws its order, walked once, its operations quiet in a class of worlds. -/
theorem region_class {P : Program} {C : World → Prop} {id : Nat} {Q : Exit → Act → World → Prop} {a : Act} {w : World} {l : List Oper} (hm : P.follows .mixedOrders = true) (hB : Region.lexB .any l.toArray = true) (hC : C w.drew)
    (h : wpQuiet P l.toArray C (fun a' => ∀ w', C w' → Q .normal a' w') l a) : (Code.region id l.toArray true).wp P Q a w :=
  wp_region_quiet (C := C) hm hB hC (by simpa using h)
theorem send_any (f b : Int) (Ar : Option Addr) (nr cr : Nat) (Aw : Option Addr) (nw cw : Nat) (A1 : Option Addr) (n1 c1 : Nat) (A2 : Option Addr) (n2 c2 : Nat) (A3 : Option Addr) (n3 c3 : Nat) (A4 : Option Addr) (n4 c4 : Nat) (w : World) :
    Calls Tryz.prog 42 #[.agg (sgC f b Ar nr cr Aw nw cw A1 n1 c1 A2 n2 c2 A3 n3 c3 A4 n4 c4)] w fun e w' => e = .returned (.int .i64 (n1 : Nat)) ∧ Below w.heap.size w w' := by
  go_enter Tryz.func42, Tryz.ntmps42
  go_wp2_with fail
  go_ret
  exact ⟨rfl, (Below.refl _ _).alloc (Nat.le_refl _) _⟩
def scB (s : Int) : Bool := decide (-100000000000 ≤ s) && decide (s ≤ 100000000000)
theorem scoreIn_any (s : Int) (w : World) : Calls Tryz.prog 43 #[.int .i64 s] w fun e w' => e = .returned (.bool (scB s)) ∧ w = w' := by
  by_cases h : -100000000000 ≤ s
  · have d1 : decide (s ≥ -100000000000) = true := decide_eq_true h
    have e1 : scB s = decide (s ≤ 100000000000) := by unfold scB; rw [decide_eq_true h, Bool.true_and]
    rw [e1]
    clear h
    go_enter Tryz.func43, Tryz.ntmps43
    go_wp2_with fail
    go_ret
    exact ⟨rfl, rfl⟩
  · have d1 : decide (s ≥ -100000000000) = false := decide_eq_false h
    have e1 : scB s = false := by unfold scB; rw [decide_eq_false h, Bool.false_and]
    rw [e1]
    clear h
    go_enter Tryz.func43, Tryz.ntmps43
    go_wp2_with fail
    go_ret
    exact ⟨rfl, rfl⟩
/-- May the bounds of this state be asked? -/
def bdB (P : Bool) (n : Nat) (a s : Int) : Bool := P && ((decide (0 ≤ a) && decide (a ≤ (n : Int))) && scB s)
def bdN (P : Bool) (n : Nat) (a s b : Int) (z : Nat → Int) : Int := if bdB P n a s = true then b + s + z a.toNat else 0
theorem bdN_no {P : Bool} {n : Nat} {a s b : Int} {z : Nat → Int} (h : bdB P n a s = false) : bdN P n a s b z = 0 := by unfold bdN; rw [h]; rfl
/-- The state's box and the staged one. -/
def BG (w0 : World) (p G : Nat) (x0 x1 x2 : Value) (gc : Array Value) (W : World) : Prop := Blk W p 33 #[x0, x1, x2] ∧ Blk W G 68 gc ∧ Below w0.heap.size w0 W
theorem BG.below {w0 w w' : World} {p G : Nat} {x0 x1 x2 : Value} {gc : Array Value} (h : BG w0 p G x0 x1 x2 gc w) (hb : Below w.heap.size w w') : BG w0 p G x0 x1 x2 gc w' := ⟨h.1.below hb h.1.lt, h.2.1.below hb h.2.1.lt, h.2.2.trans (hb.mono h.2.2.size)⟩
theorem BG.drew {w0 w : World} {p G : Nat} {x0 x1 x2 : Value} {gc : Array Value} (h : BG w0 p G x0 x1 x2 gc w) : BG w0 p G x0 x1 x2 gc w.drew := h.below (Below.refl _ w).drew
theorem BG.bel {w0 w : World} {p G : Nat} {x0 x1 x2 : Value} {gc : Array Value} (h : BG w0 p G x0 x1 x2 gc w) : Below w0.heap.size w0 w := h.2.2
theorem BG.cells {w0 w : World} {p G : Nat} {a s q f b : Int} {Ar Aw A1 A2 A3 A4 : Option Addr} {len : Nat → Nat} {n cr cw n1 c1 n2 c2 n3 c3 n4 c4 : Nat} (h : BG w0 p G (.int .i64 a) (.int .i64 s) (.int .i64 q) (sgC f b Ar n cr Aw (cumT len n) cw A1 n1 c1 A2 n2 c2 A3 n3 c3 A4 n4 c4) w) : w.cell? ⟨p, 0, none⟩ = some (.int .i64 a) ∧ w.cell? ⟨p, 1, none⟩ = some (.int .i64 s) ∧ w.cell? ⟨p, 2, none⟩ = some (.int .i64 q) ∧ w.cell? ⟨G, 0, none⟩ = some (.int .i64 f) ∧ w.cell? ⟨G, 1, none⟩ = some (.int .i64 b) ∧ w.cell? ⟨G, 2, none⟩ = some (.slice Ar n cr) ∧ w.cell? ⟨G, 3, none⟩ = some (.slice Aw (cumT len n) cw) ∧ w.cell? ⟨G, 4, none⟩ = some (.slice A1 n1 c1) ∧ w.cell? ⟨G, 5, none⟩ = some (.slice A2 n2 c2) ∧ w.cell? ⟨G, 6, none⟩ = some (.slice A3 n3 c3) ∧ w.cell? ⟨G, 7, none⟩ = some (.slice A4 n4 c4) :=
  ⟨h.1.cell 0, h.1.cell 1, h.1.cell 2, h.2.1.cell 0, h.2.1.cell 1, h.2.1.cell 2, h.2.1.cell 3, h.2.1.cell 4, h.2.1.cell 5, h.2.1.cell 6, h.2.1.cell 7⟩

set_option maxRecDepth 100000 in
set_option maxHeartbeats 4000000 in
theorem iBounds_any (a s q : Int) (f b : Int) (A : Option Addr) (n c : Nat) (len : Nat → Nat) (g : Nat → Nat → Nd) (A1 : Option Addr) (n1 c1 : Nat) (z1 : Nat → Int) (A2 : Option Addr) (n2 c2 : Nat) (z2 : Nat → Int) (A3 : Option Addr) (n3 c3 : Nat) (z3 : Nat → Int) (A4 : Option Addr) (n4 c4 : Nat) (z4 : Nat → Int) (w : World)
    (hr : RdT w w.heap.size A n len g) (hp : RdP w w.heap.size A1 n1 z1 A2 n2 z2 A3 n3 z3 A4 n4 z4) (hn : n ≤ 4194304) (hlen : Hid (∀ i, i < n → len i ≤ 4194304)) (k1 : n1 ≤ 9223372036854775807) (k2 : n2 ≤ 9223372036854775807) (k3 : n3 ≤ 9223372036854775807) (k4 : n4 ≤ 9223372036854775807) :
    Calls Tryz.prog 13 #[enV f b A n c, plV A1 n1 c1 A2 n2 c2 A3 n3 c3 A4 n4 c4, stV a s q] w fun e w' =>
      e = .returned (.tuple #[.int .i64 (bdN (planB f b n len g n1 z1 n2 z2 n3 z3 n4 z4) n a s b z3), .int .i64 (bdN (planB f b n len g n1 z1 n2 z2 n3 z3 n4 z4) n a s b z4)]) ∧ Below w.heap.size w w' := by
  have hbx := (((Below.refl w.heap.size w).alloc (Nat.le_refl _) (.cells #[.int .i64 f, .int .i64 b, .slice A n c] 26)).alloc (by simp) (.cells #[.slice A1 n1 c1, .slice A2 n2 c2, .slice A3 n3 c3, .slice A4 n4 c4] 29)).alloc (by simp; omega) (.cells #[.int .i64 a, .int .i64 s, .int .i64 q] 33)
  have b2 : Blk (((w.alloc (.cells #[.int .i64 f, .int .i64 b, .slice A n c] 26)).alloc (.cells #[.slice A1 n1 c1, .slice A2 n2 c2, .slice A3 n3 c3, .slice A4 n4 c4] 29)).alloc (.cells #[.int .i64 a, .int .i64 s, .int .i64 q] 33)) (w.heap.size + 2) 33 #[.int .i64 a, .int .i64 s, .int .i64 q] := Blk.new3 w _ _ _ _
  obtain ⟨P, hPe⟩ : ∃ P, planB f b n len g n1 z1 n2 z2 n3 z3 n4 z4 = P := ⟨_, rfl⟩
  rw [hPe]
  obtain ⟨L, hL⟩ : ∃ L, bdN P n a s b z3 = L := ⟨_, rfl⟩
  obtain ⟨H, hH⟩ : ∃ H, bdN P n a s b z4 = H := ⟨_, rfl⟩
  rw [hL, hH]
  have hP := hPe
  have HL := hid hL
  have HH := hid hH
  clear hPe hL hH
  cases P with
  | false =>
    have e1 : bdB false n a s = false := rfl
    obtain rfl : L = 0 := by rw [← HL.out]; exact bdN_no e1
    obtain rfl : H = 0 := by rw [← HH.out]; exact bdN_no e1
    clear HL HH
    have HP := hid hP
    clear hP b2
    go_enter Tryz.func13, Tryz.ntmps13
    go_wp2_with fail
    obtain ⟨W0, hW0⟩ : ∃ W, (((w.alloc (.cells #[.int .i64 f, .int .i64 b, .slice A n c] 26)).alloc (.cells #[.slice A1 n1 c1, .slice A2 n2 c2, .slice A3 n3 c3, .slice A4 n4 c4] 29)).alloc (.cells #[.int .i64 a, .int .i64 s, .int .i64 q] 33)) = W := ⟨_, rfl⟩
    rw [hW0] at hbx ⊢
    clear hW0
    have hr0 := hr.to hbx hbx.size
    have hp0 := hp.to hbx hbx.size
    with_reducible refine Calls.mono (staged_no f b A n c len g A1 n1 c1 z1 A2 n2 c2 z2 A3 n3 c3 z3 A4 n4 c4 z4 W0 hr0 hp0 hn hlen k1 k2 k3 k4 HP.out) ?_
    rintro e w1 ⟨rfl, hb1⟩
    have HB := hid ((hbx.trans (hb1.mono hbx.size)).alloc (by have := hbx.size; have := hb1.size; omega) (.cells #[.int .i64 0, .int .i64 0, .slice none 0 0, .slice none 0 0, .slice none 0 0, .slice none 0 0, .slice none 0 0, .slice none 0 0] 68))
    clear hr0 hp0 hbx hb1
    go_wp2_with fail
    go_quiet (fail)
    go_wp2_with fail
    go_ret2
    exact ⟨rfl, below_drewN HB.out _⟩
  | true =>
    obtain ⟨hEn, g1, g3, g4, _, _, _, _, _, hbd⟩ := planB_says hP
    obtain ⟨_, hbias, hn12, _⟩ := ensB_iff.1 hEn
    subst g1
    have HP := hid hP
    have HBD := hid hbd
    have HG3 := hid g3
    have HG4 := hid g4
    clear hP hEn hbd g3 g4
    go_enter Tryz.func13, Tryz.ntmps13
    go_wp2_with fail
    obtain ⟨W0, hW0⟩ : ∃ W, (((w.alloc (.cells #[.int .i64 f, .int .i64 b, .slice A n1 c] 26)).alloc (.cells #[.slice A1 n1 c1, .slice A2 n2 c2, .slice A3 n3 c3, .slice A4 n4 c4] 29)).alloc (.cells #[.int .i64 a, .int .i64 s, .int .i64 q] 33)) = W := ⟨_, rfl⟩
    rw [hW0] at hbx b2 ⊢
    clear hW0
    have hr0 := hr.to hbx hbx.size
    have hp0 := hp.to hbx hbx.size
    with_reducible refine Calls.mono (staged_yes f b A n1 c len g A1 n1 c1 z1 A2 n2 c2 z2 A3 n3 c3 z3 A4 n4 c4 z4 W0 hr0 hp0 hn hlen k1 k2 k3 k4 HP.out) ?_
    rintro e w1 ⟨Ar, cr, Aw, cw, rfl, _, _, hb1⟩
    obtain ⟨p, hpe⟩ : ∃ p, w.heap.size + 2 = p := ⟨_, rfl⟩
    obtain ⟨G, hGe⟩ : ∃ G, w1.heap.size = G := ⟨_, rfl⟩
    have hG1 : BG w (w.heap.size + 2) w1.heap.size (.int .i64 a) (.int .i64 s) (.int .i64 q) (sgC f b Ar n1 cr Aw (cumT len n1) cw A1 n1 c1 A2 n2 c2 A3 n3 c3 A4 n4 c4) (w1.alloc (.cells (sgC f b Ar n1 cr Aw (cumT len n1) cw A1 n1 c1 A2 n2 c2 A3 n3 c3 A4 n4 c4) 68)) := ⟨(b2.below hb1 b2.lt).alloc _, Blk.new w1 _ _, (hbx.trans (hb1.mono hbx.size)).alloc (by have := hbx.size; have := hb1.size; omega) _⟩
    clear hr0 hp0 hbx hb1 b2
    have es : (w.heap.size + 1 + 1 : Nat) = p := hpe
    go_wp2_with fail
    obtain ⟨W1, hW1⟩ : ∃ W, w1.alloc (.cells (sgC f b Ar n1 cr Aw (cumT len n1) cw A1 n1 c1 A2 n2 c2 A3 n3 c3 A4 n4 c4) 68) = W := ⟨_, rfl⟩
    rw [hW1] at hG1 ⊢
    rw [hpe, hGe] at hG1
    try rw [hGe]
    try rw [hpe]
    try rw [es]
    clear hW1 hGe hpe es
    have D0 := hid hG1.drew
    have S0 := hid D0.out.cells
    clear hG1
    by_cases ca : a < 0
    · have e1 : bdB true n1 a s = false := by unfold bdB; rw [decide_eq_false (by omega : ¬ 0 ≤ a)]; rfl
      have d1 : decide (a < 0) = true := decide_eq_true ca
      obtain rfl : L = 0 := by rw [← HL.out]; exact bdN_no e1
      obtain rfl : H = 0 := by rw [← HH.out]; exact bdN_no e1
      clear HL HH
      clear e1 ca
      refine region_class (C := fun W => BG w p G (.int .i64 a) (.int .i64 s) (.int .i64 q) (sgC f b Ar n1 cr Aw (cumT len n1) cw A1 n1 c1 A2 n2 c2 A3 n3 c3 A4 n4 c4) W) (by kernel_rfl) (by kernel_rfl) D0.out ?_
      repeat
        refine wpQuiet_step (fun K hK => ?_)
        first
          | (rw [if_pos (by rfl)]; apply Exists.intro; refine ⟨fun W hW => ?_, hK _ ?_⟩; (first
              | (obtain ⟨u0, u1, u2, t0, t1, t2, t3, t4, t5, t6, t7⟩ := BG.cells hW; go_simp <;> with_reducible rfl)
              | (go_simp; go_at_call 42; with_reducible refine Calls.mono (send_any f b Ar n1 cr Aw (cumT len n1) cw A1 n1 c1 A2 n2 c2 A3 n3 c3 A4 n4 c4 W) ?_; rintro e w5 ⟨rfl, hb5⟩; exact ⟨rfl, BG.below hW hb5⟩)
              | (go_simp; go_at_call 43; with_reducible refine Calls.mono (scoreIn_any s W) ?_; rintro e w5 ⟨rfl, rfl⟩; rw [HCS.out]; exact ⟨rfl, hW⟩)); clear hK K; (try simp only [Act.put, List.setIfInBounds_toArray, List.set_cons_zero, List.set_cons_succ]))
          | (refine Eq.mpr (if_neg ?_) (hK _ ?_); exact (fun h => Bool.false_ne_true h); clear hK K; (try simp only [Act.put, List.setIfInBounds_toArray, List.set_cons_zero, List.set_cons_succ]))
      refine wpQuiet_nil ?_
      intro WZ hZ
      have HZ := hid hZ
      clear hZ
      all_goals
        go_wp2_with fail
        go_ret2
        exact ⟨rfl, HZ.out.bel⟩
    have d1 : decide (a < 0) = false := decide_eq_false ca
    by_cases cb : a > (n1 : Int)
    · have e1 : bdB true n1 a s = false := by unfold bdB; rw [decide_eq_false (by omega : ¬ a ≤ (n1 : Int)), Bool.and_false]; rfl
      have d2 : decide (a > (n1 : Int)) = true := decide_eq_true cb
      obtain rfl : L = 0 := by rw [← HL.out]; exact bdN_no e1
      obtain rfl : H = 0 := by rw [← HH.out]; exact bdN_no e1
      clear HL HH
      clear e1 ca cb
      refine region_class (C := fun W => BG w p G (.int .i64 a) (.int .i64 s) (.int .i64 q) (sgC f b Ar n1 cr Aw (cumT len n1) cw A1 n1 c1 A2 n2 c2 A3 n3 c3 A4 n4 c4) W) (by kernel_rfl) (by kernel_rfl) D0.out ?_
      repeat
        refine wpQuiet_step (fun K hK => ?_)
        first
          | (rw [if_pos (by rfl)]; apply Exists.intro; refine ⟨fun W hW => ?_, hK _ ?_⟩; (first
              | (obtain ⟨u0, u1, u2, t0, t1, t2, t3, t4, t5, t6, t7⟩ := BG.cells hW; go_simp <;> with_reducible rfl)
              | (go_simp; go_at_call 42; with_reducible refine Calls.mono (send_any f b Ar n1 cr Aw (cumT len n1) cw A1 n1 c1 A2 n2 c2 A3 n3 c3 A4 n4 c4 W) ?_; rintro e w5 ⟨rfl, hb5⟩; exact ⟨rfl, BG.below hW hb5⟩)
              | (go_simp; go_at_call 43; with_reducible refine Calls.mono (scoreIn_any s W) ?_; rintro e w5 ⟨rfl, rfl⟩; rw [HCS.out]; exact ⟨rfl, hW⟩)); clear hK K; (try simp only [Act.put, List.setIfInBounds_toArray, List.set_cons_zero, List.set_cons_succ]))
          | (refine Eq.mpr (if_neg ?_) (hK _ ?_); exact (fun h => Bool.false_ne_true h); clear hK K; (try simp only [Act.put, List.setIfInBounds_toArray, List.set_cons_zero, List.set_cons_succ]))
      refine wpQuiet_nil ?_
      intro WZ hZ
      have HZ := hid hZ
      clear hZ
      all_goals
        go_wp2_with fail
        go_ret2
        exact ⟨rfl, HZ.out.bel⟩
    have d2 : decide (a > (n1 : Int)) = false := decide_eq_false cb
    cases cs : scB s with
    | false =>
      have e1 : bdB true n1 a s = false := by unfold bdB; rw [cs]; simp
      obtain rfl : L = 0 := by rw [← HL.out]; exact bdN_no e1
      obtain rfl : H = 0 := by rw [← HH.out]; exact bdN_no e1
      clear HL HH
      have HCS := hid cs
      clear e1 ca cb cs
      refine region_class (C := fun W => BG w p G (.int .i64 a) (.int .i64 s) (.int .i64 q) (sgC f b Ar n1 cr Aw (cumT len n1) cw A1 n1 c1 A2 n2 c2 A3 n3 c3 A4 n4 c4) W) (by kernel_rfl) (by kernel_rfl) D0.out ?_
      repeat
        refine wpQuiet_step (fun K hK => ?_)
        first
          | (rw [if_pos (by rfl)]; apply Exists.intro; refine ⟨fun W hW => ?_, hK _ ?_⟩; (first
              | (obtain ⟨u0, u1, u2, t0, t1, t2, t3, t4, t5, t6, t7⟩ := BG.cells hW; go_simp <;> with_reducible rfl)
              | (go_simp; go_at_call 42; with_reducible refine Calls.mono (send_any f b Ar n1 cr Aw (cumT len n1) cw A1 n1 c1 A2 n2 c2 A3 n3 c3 A4 n4 c4 W) ?_; rintro e w5 ⟨rfl, hb5⟩; exact ⟨rfl, BG.below hW hb5⟩)
              | (go_simp; go_at_call 43; with_reducible refine Calls.mono (scoreIn_any s W) ?_; rintro e w5 ⟨rfl, rfl⟩; rw [HCS.out]; exact ⟨rfl, hW⟩)); clear hK K; (try simp only [Act.put, List.setIfInBounds_toArray, List.set_cons_zero, List.set_cons_succ]))
          | (refine Eq.mpr (if_neg ?_) (hK _ ?_); exact (fun h => Bool.false_ne_true h); clear hK K; (try simp only [Act.put, List.setIfInBounds_toArray, List.set_cons_zero, List.set_cons_succ]))
      refine wpQuiet_nil ?_
      intro WZ hZ
      have HZ := hid hZ
      clear hZ
      all_goals
        go_wp2_with fail
        go_ret2
        exact ⟨rfl, HZ.out.bel⟩
    | true =>
      have e1 : bdB true n1 a s = true := by unfold bdB; rw [cs, decide_eq_true (by omega : 0 ≤ a), decide_eq_true (by omega : a ≤ (n1 : Int))]; rfl
      have e3 : bdN true n1 a s b z3 = b + s + z3 a.toNat := by unfold bdN; rw [if_pos e1]
      have e4 : bdN true n1 a s b z4 = b + s + z4 a.toNat := by unfold bdN; rw [if_pos e1]
      obtain rfl : b + s + z3 a.toNat = L := by rw [← HL.out]; exact e3.symm
      obtain rfl : b + s + z4 a.toNat = H := by rw [← HH.out]; exact e4.symm
      have HA : Hid (0 ≤ a ∧ a ≤ (n1 : Int)) := ⟨by omega, by omega⟩
      clear HL HH
      have hsr : -100000000000 ≤ s ∧ s ≤ 100000000000 := by unfold scB at cs; rw [Bool.and_eq_true, decide_eq_true_eq, decide_eq_true_eq] at cs; exact cs
      have HCS := hid cs
      clear e1 e3 e4 ca cb cs
      refine region_class (C := fun W => BG w p G (.int .i64 a) (.int .i64 s) (.int .i64 q) (sgC f b Ar n1 cr Aw (cumT len n1) cw A1 n1 c1 A2 n2 c2 A3 n3 c3 A4 n4 c4) W) (by kernel_rfl) (by kernel_rfl) D0.out ?_
      repeat
        refine wpQuiet_step (fun K hK => ?_)
        first
          | (rw [if_pos (by rfl)]; apply Exists.intro; refine ⟨fun W hW => ?_, hK _ ?_⟩; (first
              | (obtain ⟨u0, u1, u2, t0, t1, t2, t3, t4, t5, t6, t7⟩ := BG.cells hW; go_simp <;> with_reducible rfl)
              | (go_simp; go_at_call 42; with_reducible refine Calls.mono (send_any f b Ar n1 cr Aw (cumT len n1) cw A1 n1 c1 A2 n2 c2 A3 n3 c3 A4 n4 c4 W) ?_; rintro e w5 ⟨rfl, hb5⟩; exact ⟨rfl, BG.below hW hb5⟩)
              | (go_simp; go_at_call 43; with_reducible refine Calls.mono (scoreIn_any s W) ?_; rintro e w5 ⟨rfl, rfl⟩; rw [HCS.out]; exact ⟨rfl, hW⟩)); clear hK K; (try simp only [Act.put, List.setIfInBounds_toArray, List.set_cons_zero, List.set_cons_succ]))
          | (refine Eq.mpr (if_neg ?_) (hK _ ?_); exact (fun h => Bool.false_ne_true h); clear hK K; (try simp only [Act.put, List.setIfInBounds_toArray, List.set_cons_zero, List.set_cons_succ]))
      refine wpQuiet_nil ?_
      intro WZ hZ
      have HZ := hid hZ
      clear hZ
      all_goals
        have HBN := hid (HZ.out.bel)
        obtain ⟨x, rfl⟩ : ∃ x : Nat, a = (x : Int) := ⟨a.toNat, by have := HA.out; omega⟩
        have hx : x ≤ n1 := by have := HA.out; omega
        clear d1 d2 HA
        have h3 := hp.m.below HBN.out
        have h4 := hp.x.below HBN.out
        have h33 := h3.more HBN.out.size
        have h44 := h4.more HBN.out.size
        clear h3 h4
        obtain ⟨u0, u1, u2, t0, t1, t2, t3, t4, t5, t6, t7⟩ := HZ.out.cells
        go_wp2_with fail
        with_reducible refine Calls.mono (sbounds_any f b Ar n1 cr Aw (cumT len n1) cw A1 n1 c1 A2 n2 c2 A3 n3 c3 z3 A4 n4 c4 z4 x s q _ h33 h44 (by have := HG3.out; omega) (by have := HG4.out; omega) (by have := HG3.out; omega) (by have := HG4.out; omega) hbias hsr (by have := HBD.out x hx; omega)) ?_
        rintro e w9 ⟨rfl, hb9⟩
        go_wp2_with fail
        go_ret2
        exact ⟨rfl, HBN.out.trans (hb9.mono HBN.out.size)⟩
end Go.Proofs.YtlgomifpohdniaaGreat
