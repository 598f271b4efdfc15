/- The draw of an ensemble, a policy and a stage; PlanOk on both sides; the walk of the law of a made plan. -/
import Derived.Test.YtlgomifpohdniaaGreatK6
import Derived.Test.YtlgomifpohdniaaGreatEnsX
import Derived.Test.YtlgomifpohdniaaGreatPlOfX
import Derived.Deep.RegionHeld3
import Derived.Test.YtlgomifpohdniaaGreatPlK
import Derived.Test.YtlgomifpohdniaaGreatDrawX
namespace Go.Proofs.YtlgomifpohdniaaGreat

/-! ### Same -/
section
set_option linter.unusedVariables false
set_option linter.unusedSimpArgs false
open Go.RowKit Go.Deep

theorem same_any (A A' : Option Addr) (n c c' : Nat) (z y : Nat → Int) (w : World) (h : Rd w w.heap.size A n z) (h' : Rd w w.heap.size A' n y) (hzy : Hid (∀ k, k < n → z k = y k)) (hn : n ≤ 4194304) :
    Calls Tryz.prog 58 #[.slice A n c, .slice A' n c'] w fun e w' => e = .returned (.bool true) ∧ ∃ m, w' = w.drewN m := by
  go_enter Tryz.func58, Tryz.ntmps58
  go_wp2_with fail
  go_loopw [5] (fun i wr => ∃ k m : Nat, k ≤ n ∧ i = .int .i64 k ∧ wr = w.drewN m) (fun i _ => n - (intOf i).toNat)
  case atStart => exact ⟨0, 0, Nat.zero_le _, rfl, rfl⟩
  case round =>
    obtain ⟨k, m, hk, rfl, rfl⟩ := hrel
    by_cases hlt : k < n
    · obtain ⟨b, off, rfl, hb, hc⟩ := h.at_ hlt
      obtain ⟨b', off', rfl, hb', hc'⟩ := h'.at_ hlt
      rw [← hzy.out k hlt] at hc'
      have hi : (k : Int) < (n : Int) := by omega
      have hi0 : (0 : Int) ≤ (k : Int) := by omega
      go_wp2_with fail
      go_quiet (fail)
      go_wp2_with fail
      go_roundw
      case rel => exact ⟨k + 1, _, by omega, by go_num, rfl⟩
      case measure => simp [intOf]; omega
    · go_wp2_with fail
      go_ret
      exact ⟨rfl, m, rfl⟩
end

/-! ### PlQ -/
section
set_option linter.unusedVariables false
set_option linter.unusedSimpArgs false
open Go.RowKit Go.Deep
set_option linter.unusedVariables false
set_option linter.unusedSimpArgs false

def DrawnPl (w : World) (e : Ending) (w' : World) : Prop :=
  ∃ (f b : Int) (k : Nat) (A' : Option Addr) (c : Nat) (len : Nat → Nat) (g : Nat → Nat → Nd) (pol st : Int), k ≤ 12 ∧ (∀ i, i < k → len i ≤ 16) ∧ e = .returned (.tuple #[enV f b A' k c, .int .i64 pol, .int .i64 st]) ∧ RdT w' w'.heap.size A' k len g ∧ Below w.heap.size w w'
theorem results_cell_row_tmp2 {P : Program} {fn : Func} {p u v : Tmp} {ty : TypeId} (h : fn.results = #[.cell p ty, .tmp u, .tmp v]) (tmps : Array Value) (w : World) (g : Nat) (t : TypeId) (cs : Array Value) (fr : Nat × Nat) (d : TypeDesc)
    (hp : tmps.getD p undef = .pointer (some ⟨g, 0, none⟩)) (hg : w.heap[g]? = some (.cells cs t fr))
    (hu : P.underlying ty = some d) (hd : (match d with | .struct _ | .array _ _ => true | _ => false) = true) (hi : (P.info? ty).map (·.size) = some cs.size) :
    (results fn tmps).run P w = .ok (.tuple #[.agg cs, tmps.getD u undef, tmps.getD v undef]) w := by
  have hp' : tmps[p]?.getD undef = .pointer (some ⟨g, 0, none⟩) := by simpa using hp
  simp [results, h, hp', asAddr, Result.andThen, run_loadVar_row w g t ty cs fr d hg hu hd hi]
theorem heldQ {X : World} {s : Nat} {a b c : Value} (h : Blk X s 26 #[a, b, c]) : X.cell? ⟨s, 0, none⟩ = some a ∧ X.cell? ⟨s, 1, none⟩ = some b ∧ X.cell? ⟨s, 2, none⟩ = some c := ⟨h.cell 0, h.cell 1, h.cell 2⟩
theorem heldQ3 {X : World} {s p : Nat} {a b c : Value} (h : Blk X s 26 #[a, b, c]) (hp : p ≠ s) (u v x : Value) : (((X.setCell ⟨p, 0, none⟩ u).setCell ⟨p, 1, none⟩ v).setCell ⟨p, 2, none⟩ x).cell? ⟨s, 0, none⟩ = some a ∧ (((X.setCell ⟨p, 0, none⟩ u).setCell ⟨p, 1, none⟩ v).setCell ⟨p, 2, none⟩ x).cell? ⟨s, 1, none⟩ = some b ∧ (((X.setCell ⟨p, 0, none⟩ u).setCell ⟨p, 1, none⟩ v).setCell ⟨p, 2, none⟩ x).cell? ⟨s, 2, none⟩ = some c :=
  heldQ (((h.far (p := ⟨p, 0, none⟩) (fun e => hp e.symm) u).far (p := ⟨p, 1, none⟩) (fun e => hp e.symm) v).far (p := ⟨p, 2, none⟩) (fun e => hp e.symm) x)

/-- What holds between two draws behind the ensemble. -/
def DSt (w0 : World) (R n cap : Nat) (A : Option Addr) (X : Nat) (ev : Array Value) (A2 : Option Addr) (k : Nat) (len : Nat → Nat) (g : Nat → Nat → Nd) (w : World) : Prop :=
  Rs w R A n cap ∧ Blk w X 26 ev ∧ Blk w w0.heap.size 26 #[.int .i64 0, .int .i64 0, .slice none 0 0] ∧ Below w0.heap.size w0 w ∧ HiT w (fun x => R < x ∧ x < X) A2 k len g
theorem DSt.rs {w0 w : World} {R n cap X k : Nat} {A A2 : Option Addr} {ev : Array Value} {len : Nat → Nat} {g : Nat → Nat → Nd} (h : DSt w0 R n cap A X ev A2 k len g w) : Rs w R A n cap := h.1
theorem DSt.home {w0 w : World} {R n cap X k : Nat} {A A2 : Option Addr} {ev : Array Value} {len : Nat → Nat} {g : Nat → Nat → Nd} (h : DSt w0 R n cap A X ev A2 k len g w) : Blk w w0.heap.size 26 #[.int .i64 0, .int .i64 0, .slice none 0 0] := h.2.2.1
theorem DSt.below {w0 w : World} {R n cap X k : Nat} {A A2 : Option Addr} {ev : Array Value} {len : Nat → Nat} {g : Nat → Nat → Nd} (h : DSt w0 R n cap A X ev A2 k len g w) : Below w0.heap.size w0 w := h.2.2.2.1
theorem DSt.hi {w0 w : World} {R n cap X k : Nat} {A A2 : Option Addr} {ev : Array Value} {len : Nat → Nat} {g : Nat → Nat → Nd} (h : DSt w0 R n cap A X ev A2 k len g w) : HiT w (fun x => R < x ∧ x < X) A2 k len g := h.2.2.2.2
theorem DSt.lt {w0 w : World} {R n cap X k : Nat} {A A2 : Option Addr} {ev : Array Value} {len : Nat → Nat} {g : Nat → Nat → Nd} (h : DSt w0 R n cap A X ev A2 k len g w) : X < w.heap.size := h.2.1.lt
theorem DSt.next {w0 w w' : World} {R n cap X k : Nat} {A A2 : Option Addr} {ev : Array Value} {len : Nat → Nat} {g : Nat → Nat → Nd} (h : DSt w0 R n cap A X ev A2 k len g w) (hR : Rs w' R A n cap) (hg : w.grownBy w' (some R)) (h1 : w0.heap.size < R) (h2 : R < X) : DSt w0 R n cap A X ev A2 k len g w' := by
  obtain ⟨a, b, c, d, e⟩ := h
  have hX := b.lt
  exact ⟨hR, b.grown hg (fun e => by injection e with e; omega), c.grown hg (fun e => by injection e with e; omega), d.grown hg d.size (fun x hx => by injection hx with hx; omega), e.keep (fun x hx => hg.block x (by omega) (fun e => by injection e with e; omega)) (fun x hx => hx)⟩
theorem DSt.held {w0 w : World} {R n cap X k : Nat} {A A2 : Option Addr} {a b c : Value} {len : Nat → Nat} {g : Nat → Nat → Nd} (h : DSt w0 R n cap A X #[a, b, c] A2 k len g w) : w.cell? ⟨X, 0, none⟩ = some a ∧ w.cell? ⟨X, 1, none⟩ = some b ∧ w.cell? ⟨X, 2, none⟩ = some c := heldQ h.2.1
theorem DSt.held3 {w0 w : World} {R n cap X k : Nat} {A A2 : Option Addr} {a b c : Value} {len : Nat → Nat} {g : Nat → Nat → Nd} (h : DSt w0 R n cap A X #[a, b, c] A2 k len g w) (hp : w0.heap.size ≠ X) (u v x : Value) : (((w.setCell ⟨w0.heap.size, 0, none⟩ u).setCell ⟨w0.heap.size, 1, none⟩ v).setCell ⟨w0.heap.size, 2, none⟩ x).cell? ⟨X, 0, none⟩ = some a ∧ (((w.setCell ⟨w0.heap.size, 0, none⟩ u).setCell ⟨w0.heap.size, 1, none⟩ v).setCell ⟨w0.heap.size, 2, none⟩ x).cell? ⟨X, 1, none⟩ = some b ∧ (((w.setCell ⟨w0.heap.size, 0, none⟩ u).setCell ⟨w0.heap.size, 1, none⟩ v).setCell ⟨w0.heap.size, 2, none⟩ x).cell? ⟨X, 2, none⟩ = some c := heldQ3 h.2.1 hp u v x
theorem DSt.drew {w0 w : World} {R n cap X k : Nat} {A A2 : Option Addr} {ev : Array Value} {len : Nat → Nat} {g : Nat → Nat → Nd} (h : DSt w0 R n cap A X ev A2 k len g w) : DSt w0 R n cap A X ev A2 k len g w.drew := by
  obtain ⟨a, b, c, d, e⟩ := h
  exact ⟨a.below (Below.refl _ w).drew, b, c, d.drew, e⟩

end

/-! ### PlR -/
section
set_option linter.unusedVariables false
set_option linter.unusedSimpArgs false
open Go.RowKit Go.Deep
set_option linter.unusedVariables false
set_option linter.unusedSimpArgs false

theorem ordO_ordZ (pol : Int) (len : Nat → Nat) (g : Nat → Nat → Nd) (n : Nat) : ordO (ordZ pol len g n) n n = true := ordO_iff.2 fun i hi => by
  have h := ordF_lt (wtF pol len g) n i hi
  have e : ∀ p, ordZ pol len g n p = (ordF (wtF pol len g) n p : Nat) := fun _ => rfl
  rw [e]
  refine ⟨⟨by omega, by omega⟩, fun j hj hh => ?_⟩
  rw [e] at hh
  exact ordF_inj (wtF pol len g) n j i (by omega) hi (by omega) (by omega)
theorem ordN_ordZ (pol : Int) (len : Nat → Nat) (g : Nat → Nat → Nd) (n : Nat) : ordN (ordZ pol len g n) = ordF (wtF pol len g) n := funext fun p => by
  show ((ordF (wtF pol len g) n p : Nat) : Int).toNat = _
  omega
theorem mul_lt_endN {n st i : Nat} (hi : i < endN n st) : i * st < n := by
  unfold endN at hi
  split at hi
  · omega
  · have h := Nat.div_mul_le_self (n - 1) st
    have h2 : i * st ≤ (n - 1) / st * st := Nat.mul_le_mul_right _ (by omega)
    omega
theorem mul_ge_endN {n st i : Nat} (h1 : 1 ≤ st) (hi : ¬ i < endN n st) : n ≤ i * st := by
  unfold endN at hi
  split at hi
  · omega
  · have h := Nat.lt_mul_div_succ (n - 1) (show 0 < st by omega)
    have h2 : ((n - 1) / st + 1) * st ≤ i * st := Nat.mul_le_mul_right _ (by omega)
    rw [Nat.mul_comm] at h
    omega
theorem lastZ {n st i : Nat} (hi : i < endN n st) : lastE (endZ n st) i = ((i * st : Nat) : Int) := by
  cases i with
  | zero => simp [lastE]
  | succ i => exact endZ_lt rfl (mul_lt_endN hi)
theorem end_steps {n st i : Nat} (h1 : 1 ≤ st) (hi : i < endN n st) : lastE (endZ n st) i < endZ n st i ∧ endZ n st i ≤ lastE (endZ n st) i + st ∧ (i + 1 < endN n st → endZ n st i = lastE (endZ n st) i + st) ∧ 0 ≤ lastE (endZ n st) i ∧ endZ n st i ≤ n := by
  have hL := lastZ hi
  have hlt := mul_lt_endN hi
  have hs : (i + 1) * st = i * st + st := Nat.succ_mul i st
  rw [hL]
  by_cases hc : (i + 1) * st < n
  · rw [endZ_lt rfl hc, hs]
    rw [hs] at hc
    refine ⟨by omega, by omega, fun _ => by omega, by omega, by omega⟩
  · rw [endZ_ge rfl hc]
    rw [hs] at hc
    refine ⟨by omega, by omega, fun h => ?_, by omega, by omega⟩
    have := mul_lt_endN h
    rw [hs] at this
    omega
theorem last_all {n st : Nat} (h1 : 1 ≤ st) : lastE (endZ n st) (endN n st) = (n : Int) := by
  cases hE : endN n st with
  | zero =>
    have := mul_ge_endN (i := 0) (n := n) h1 (by omega)
    show (0 : Int) = n
    omega
  | succ q => exact endZ_ge rfl (by have := mul_ge_endN (i := q + 1) (n := n) h1 (by omega); omega)
theorem sameB_self (n : Nat) (z : Nat → Int) : sameB n n z z = true := by
  unfold sameB
  rw [Bool.and_eq_true]
  exact ⟨decide_eq_true rfl, eqTo_iff.2 fun _ _ => rfl⟩
theorem planB_made {f b pol : Int} {st n : Nat} {len : Nat → Nat} {g : Nat → Nat → Nd} (h : ensB f b n len g = true) (h1 : 1 ≤ st) : planB f b n len g n (ordZ pol len g n) (endN n st) (endZ n st) (n + 1) (tabLo len g (ordF (wtF pol len g) n) n) (n + 1) (tabHi len g (ordF (wtF pol len g) n) n) = true := by
  unfold planB endsB
  rw [h, ordO_ordZ, ordN_ordZ, sameB_self, sameB_self, incE_iff.2 fun i hi => (end_steps h1 hi).1, last_all h1]
  simp

set_option maxRecDepth 100000 in
set_option maxHeartbeats 4000000 in
theorem samePlan_any (A1 : Option Addr) (n1 c1 : Nat) (z1 : Nat → Int) (A2 : Option Addr) (n2 c2 : Nat) (z2 : Nat → Int) (A3 : Option Addr) (n3 c3 : Nat) (z3 : Nat → Int) (A4 : Option Addr) (n4 c4 : Nat) (z4 : Nat → Int) (A1' : Option Addr) (c1' : Nat) (A2' : Option Addr) (c2' : Nat) (A3' : Option Addr) (c3' : Nat) (A4' : Option Addr) (c4' : Nat) (w : World) (h : RdP w w.heap.size A1 n1 z1 A2 n2 z2 A3 n3 z3 A4 n4 z4) (h' : RdP w w.heap.size A1' n1 z1 A2' n2 z2 A3' n3 z3 A4' n4 z4) (k1 : n1 ≤ 4194304) (k2 : n2 ≤ 4194304) (k3 : n3 ≤ 4194304) (k4 : n4 ≤ 4194304) :
    Calls Tryz.prog 22 #[plV A1 n1 c1 A2 n2 c2 A3 n3 c3 A4 n4 c4, plV A1' n1 c1' A2' n2 c2' A3' n3 c3' A4' n4 c4'] w fun e w' => e = .returned (.bool true) ∧ Below w.heap.size w w' := by
  have hX := (Blk.new w 29 #[.slice A1 n1 c1, .slice A2 n2 c2, .slice A3 n3 c3, .slice A4 n4 c4]).alloc (.cells #[.slice A1' n1 c1', .slice A2' n2 c2', .slice A3' n3 c3', .slice A4' n4 c4'] 29)
  have hY := Blk.new2 w (.cells #[.slice A1 n1 c1, .slice A2 n2 c2, .slice A3 n3 c3, .slice A4 n4 c4] 29) 29 #[.slice A1' n1 c1', .slice A2' n2 c2', .slice A3' n3 c3', .slice A4' n4 c4']
  have hb := ((Below.refl w.heap.size w).alloc (Nat.le_refl _) (.cells #[.slice A1 n1 c1, .slice A2 n2 c2, .slice A3 n3 c3, .slice A4 n4 c4] 29)).alloc (by simp) (.cells #[.slice A1' n1 c1', .slice A2' n2 c2', .slice A3' n3 c3', .slice A4' n4 c4'] 29)
  go_enter Tryz.func22, Tryz.ntmps22
  go_wp2_with fail
  obtain ⟨W0, hW0⟩ : ∃ W, (w.alloc (.cells #[.slice A1 n1 c1, .slice A2 n2 c2, .slice A3 n3 c3, .slice A4 n4 c4] 29)).alloc (.cells #[.slice A1' n1 c1', .slice A2' n2 c2', .slice A3' n3 c3', .slice A4' n4 c4'] 29) = W := ⟨_, rfl⟩
  rw [hW0] at hX hY hb ⊢
  clear hW0
  have HX := hid hX
  have HY := hid hY
  have HB := hid hb
  clear hX hY hb
  obtain ⟨⟨x0, x1, x2, x3⟩, _⟩ := blk_cells4 HX.out
  obtain ⟨⟨y0, y1, y2, y3⟩, _⟩ := blk_cells4 HY.out
  refine (same_any A1 A1' n1 c1 c1' z1 z1 (W0) ((h.o.below HB.out).more (by show w.heap.size ≤ W0.heap.size; exact HB.out.size)) ((h'.o.below HB.out).more (by show w.heap.size ≤ W0.heap.size; exact HB.out.size)) (hid fun _ _ => rfl) k1).mono ?_
  rintro e v1 ⟨rfl, q1, rfl⟩
  clear x0 y0
  have x1 : (W0.drewN q1).cell? ⟨w.heap.size, 1, none⟩ = some (.slice A2 n2 c2) := HX.out.cell 1
  have y1 : (W0.drewN q1).cell? ⟨w.heap.size + 1, 1, none⟩ = some (.slice A2' n2 c2') := HY.out.cell 1
  have x2 : (W0.drewN q1).cell? ⟨w.heap.size, 2, none⟩ = some (.slice A3 n3 c3) := HX.out.cell 2
  have y2 : (W0.drewN q1).cell? ⟨w.heap.size + 1, 2, none⟩ = some (.slice A3' n3 c3') := HY.out.cell 2
  have x3 : (W0.drewN q1).cell? ⟨w.heap.size, 3, none⟩ = some (.slice A4 n4 c4) := HX.out.cell 3
  have y3 : (W0.drewN q1).cell? ⟨w.heap.size + 1, 3, none⟩ = some (.slice A4' n4 c4') := HY.out.cell 3
  go_wp2_with fail
  refine (same_any A2 A2' n2 c2 c2' z2 z2 (W0.drewN q1) ((h.e.below (below_drewN HB.out q1)).more (by show w.heap.size ≤ W0.heap.size; exact HB.out.size)) ((h'.e.below (below_drewN HB.out q1)).more (by show w.heap.size ≤ W0.heap.size; exact HB.out.size)) (hid fun _ _ => rfl) k2).mono ?_
  rintro e v2 ⟨rfl, p2, hv2⟩
  rw [World.drewN_drewN] at hv2
  obtain ⟨q2, hq2⟩ : ∃ q, q1 + p2 = q := ⟨_, rfl⟩
  rw [hq2] at hv2
  subst hv2
  clear hq2
  clear x1 y1
  have x2 : (W0.drewN q2).cell? ⟨w.heap.size, 2, none⟩ = some (.slice A3 n3 c3) := HX.out.cell 2
  have y2 : (W0.drewN q2).cell? ⟨w.heap.size + 1, 2, none⟩ = some (.slice A3' n3 c3') := HY.out.cell 2
  have x3 : (W0.drewN q2).cell? ⟨w.heap.size, 3, none⟩ = some (.slice A4 n4 c4) := HX.out.cell 3
  have y3 : (W0.drewN q2).cell? ⟨w.heap.size + 1, 3, none⟩ = some (.slice A4' n4 c4') := HY.out.cell 3
  go_wp2_with fail
  refine (same_any A3 A3' n3 c3 c3' z3 z3 (W0.drewN q2) ((h.m.below (below_drewN HB.out q2)).more (by show w.heap.size ≤ W0.heap.size; exact HB.out.size)) ((h'.m.below (below_drewN HB.out q2)).more (by show w.heap.size ≤ W0.heap.size; exact HB.out.size)) (hid fun _ _ => rfl) k3).mono ?_
  rintro e v3 ⟨rfl, p3, hv3⟩
  rw [World.drewN_drewN] at hv3
  obtain ⟨q3, hq3⟩ : ∃ q, q2 + p3 = q := ⟨_, rfl⟩
  rw [hq3] at hv3
  subst hv3
  clear hq3
  clear x2 y2
  have x3 : (W0.drewN q3).cell? ⟨w.heap.size, 3, none⟩ = some (.slice A4 n4 c4) := HX.out.cell 3
  have y3 : (W0.drewN q3).cell? ⟨w.heap.size + 1, 3, none⟩ = some (.slice A4' n4 c4') := HY.out.cell 3
  go_wp2_with fail
  refine (same_any A4 A4' n4 c4 c4' z4 z4 (W0.drewN q3) ((h.x.below (below_drewN HB.out q3)).more (by show w.heap.size ≤ W0.heap.size; exact HB.out.size)) ((h'.x.below (below_drewN HB.out q3)).more (by show w.heap.size ≤ W0.heap.size; exact HB.out.size)) (hid fun _ _ => rfl) k4).mono ?_
  rintro e v4 ⟨rfl, p4, hv4⟩
  rw [World.drewN_drewN] at hv4
  obtain ⟨q4, hq4⟩ : ∃ q, q3 + p4 = q := ⟨_, rfl⟩
  rw [hq4] at hv4
  subst hv4
  clear hq4
  clear x3 y3
  go_wp2_with fail
  go_ret
  exact ⟨rfl, below_drewN HB.out q4⟩
end

/-! ### PlS -/
section
set_option linter.unusedVariables false
set_option linter.unusedSimpArgs false
open Go.RowKit Go.Deep
set_option linter.unusedVariables false
set_option linter.unusedSimpArgs false

/-- What PlanOf leaves to read. -/
def PlP2 (w : World) (N1 N2 N3 : Nat) (z1 z2 z3 z4 : Nat → Int) (Y : Bool) (e : Ending) (w' : World) : Prop :=
  ∃ (A1 : Option Addr) (c1 : Nat) (A2 : Option Addr) (c2 : Nat) (A3 : Option Addr) (c3 : Nat) (A4 : Option Addr) (c4 : Nat), e = .returned (.tuple #[plV A1 N1 c1 A2 N2 c2 A3 N3 c3 A4 N3 c4, .bool Y]) ∧ RdP w' w'.heap.size A1 N1 z1 A2 N2 z2 A3 N3 z3 A4 N3 z4 ∧ Below w.heap.size w w'
theorem endN_le2 {n st : Nat} (hn : n ≤ 12) (h1 : 1 ≤ st) : endN n st ≤ 12 := by
  unfold endN
  split
  · omega
  · have := Nat.div_le_self (n - 1) st
    omega
theorem planOf_no2 (f b pol st : Int) (n : Nat) (len : Nat → Nat) (g : Nat → Nat → Nd) (hn : n ≤ 4194304) (hlen : Hid (∀ i, i < n → len i ≤ 4194304)) (hY : planY f b pol st n len g = false) (z : Nat → Int) :
    (∀ A c w, RdT w w.heap.size A n len g → Calls Tryz.prog 19 #[enV f b A n c, .int .i64 pol, .int .i64 st] w (PlP2 w 0 0 0 z z z z false)) ∧
      (∀ A c w, RdT w w.heap.size A n len g → Calls Tryz.prog 21 #[enV f b A n c, .int .i64 pol, .int .i64 st] w (PlP2 w 0 0 0 z z z z false)) := by
  refine ⟨fun A c w h => ?_, fun A c w h => ?_⟩
  · exact (iPlanOf_no f b pol st A n c len g w h hn hlen hY).mono fun _ w' ⟨he, hb⟩ => ⟨none, 0, none, 0, none, 0, none, 0, he, (owns4_nil w' 0 _ _ _ _).rdP, hb⟩
  · exact (sPlanOf_no f b pol st A n c len g w h hn hlen hY).mono fun _ w' ⟨he, hb⟩ => ⟨none, 0, none, 0, none, 0, none, 0, he, (owns4_nil w' 0 _ _ _ _).rdP, hb⟩
theorem planOf_yes2 (f b pol st : Int) (n : Nat) (len : Nat → Nat) (g : Nat → Nat → Nd) (hn : n ≤ 4194304) (hlen : Hid (∀ i, i < n → len i ≤ 4194304)) (hY : planY f b pol st n len g = true) :
    ∃ (N2 : Nat) (z1 z2 z3 z4 : Nat → Int), N2 ≤ 12 ∧ n ≤ 12 ∧ (1 ≤ st ∧ st ≤ 12) ∧ lastE z2 N2 = (n : Int) ∧
      (∀ i, i < N2 → lastE z2 i < z2 i ∧ z2 i ≤ lastE z2 i + st ∧ (i + 1 < N2 → z2 i = lastE z2 i + st) ∧ 0 ≤ lastE z2 i ∧ z2 i ≤ (n : Int)) ∧
      (∀ A c w, RdT w w.heap.size A n len g → Calls Tryz.prog 19 #[enV f b A n c, .int .i64 pol, .int .i64 st] w (PlP2 w n N2 (n + 1) z1 z2 z3 z4 true)) ∧
      (∀ A c w, RdT w w.heap.size A n len g → Calls Tryz.prog 21 #[enV f b A n c, .int .i64 pol, .int .i64 st] w (PlP2 w n N2 (n + 1) z1 z2 z3 z4 true)) ∧
      (∀ A c A1 c1 A2 c2 A3 c3 A4 c4 w, RdT w w.heap.size A n len g → RdP w w.heap.size A1 n z1 A2 N2 z2 A3 (n + 1) z3 A4 (n + 1) z4 → Calls Tryz.prog 72 #[enV f b A n c, plV A1 n c1 A2 N2 c2 A3 (n + 1) c3 A4 (n + 1) c4] w fun e w' => e = .returned (.bool true) ∧ Below w.heap.size w w') ∧
      (∀ A c w, RdT w w.heap.size A n len g → Calls Tryz.prog 53 #[enV f b A n c, .int .i64 pol] w fun e w' => ∃ (A' : Option Addr) (c' : Nat), e = .returned (.slice A' n c') ∧ Rd w' w'.heap.size A' n z1 ∧ Below w.heap.size w w') := by
  have hy := hY
  unfold planY at hy
  rw [Bool.and_eq_true, Bool.and_eq_true, decide_eq_true_eq, decide_eq_true_eq] at hy
  obtain ⟨hpol, h1, h12⟩ := hy
  have hE := (polB_true hpol).1
  have hn12 := (ensB_iff.1 hE).2.2.1
  obtain ⟨s, rfl⟩ : ∃ s : Nat, st = (s : Int) := ⟨st.toNat, by omega⟩
  have hs : 1 ≤ s := by omega
  have hN := endN_le2 hn12 hs
  refine ⟨endN n s, ordZ pol len g n, endZ n s, tabLo len g (ordF (wtF pol len g) n) n, tabHi len g (ordF (wtF pol len g) n) n, hN, hn12, ⟨h1, h12⟩, last_all hs, fun i hi => end_steps hs hi, fun A c w h => ?_, fun A c w h => ?_, fun A c A1 c1 A2 c2 A3 c3 A4 c4 w h hp => ?_, fun A c w h => ?_⟩

  · exact (iPlanOf_yes f b pol s A n c len g w h hn hlen hY).mono fun _ _ ⟨A1, c1, A2, c2, A3, c3, A4, c4, he, ho, hb⟩ => ⟨A1, c1, A2, c2, A3, c3, A4, c4, he, ho.rdP, hb⟩
  · exact (sPlanOf_yes f b pol s A n c len g w h hn hlen hY).mono fun _ _ ⟨A1, c1, A2, c2, A3, c3, A4, c4, he, ho, hb⟩ => ⟨A1, c1, A2, c2, A3, c3, A4, c4, he, ho.rdP, hb⟩
  · refine (iPlanOk_any f b A n c len g A1 n c1 _ A2 _ c2 _ A3 _ c3 _ A4 _ c4 _ w h hp hn hlen (by omega) (by omega) (by omega) (by omega)).mono fun _ _ ⟨he, hb⟩ => ⟨?_, hb⟩
    rw [he, planB_made hE hs]
  · exact (iOrder_any f b pol A n c len g w h hn hlen true hpol).mono fun _ _ ⟨A', c', he, ho, hb⟩ => ⟨A', c', he, rd_own1 ho, hb⟩
/-- The ensemble in its box; what was there stands. -/
def ES (w0 : World) (s : Nat) (ec : Array Value) (A : Option Addr) (k : Nat) (len : Nat → Nat) (g : Nat → Nat → Nd) (W : World) : Prop := Blk W s 26 ec ∧ RdT W W.heap.size A k len g ∧ Below w0.heap.size w0 W
theorem ES.below {w0 W W' : World} {s k : Nat} {ec : Array Value} {A : Option Addr} {len : Nat → Nat} {g : Nat → Nat → Nd} (h : ES w0 s ec A k len g W) (hb : Below W.heap.size W W') : ES w0 s ec A k len g W' :=
  ⟨h.1.below hb h.1.lt, h.2.1.to hb hb.size, h.2.2.trans (hb.mono h.2.2.size)⟩
theorem ES.drew {w0 W : World} {s k : Nat} {ec : Array Value} {A : Option Addr} {len : Nat → Nat} {g : Nat → Nat → Nd} (h : ES w0 s ec A k len g W) : ES w0 s ec A k len g W.drew := h.below (Below.refl _ W).drew
theorem ES.cells {w0 W : World} {s k : Nat} {x0 x1 x2 : Value} {A : Option Addr} {len : Nat → Nat} {g : Nat → Nat → Nd} (h : ES w0 s #[x0, x1, x2] A k len g W) : W.cell? ⟨s, 0, none⟩ = some x0 ∧ W.cell? ⟨s, 1, none⟩ = some x1 ∧ W.cell? ⟨s, 2, none⟩ = some x2 := ⟨h.1.cell 0, h.1.cell 1, h.1.cell 2⟩
theorem ES.rd {w0 W : World} {s k : Nat} {ec : Array Value} {A : Option Addr} {len : Nat → Nat} {g : Nat → Nat → Nd} (h : ES w0 s ec A k len g W) : RdT W W.heap.size A k len g := h.2.1
/-- A plan in its box. -/
def PS (p : Nat) (pc : Array Value) (A1 : Option Addr) (n1 : Nat) (z1 : Nat → Int) (A2 : Option Addr) (n2 : Nat) (z2 : Nat → Int) (A3 : Option Addr) (n3 : Nat) (z3 : Nat → Int) (A4 : Option Addr) (n4 : Nat) (z4 : Nat → Int) (W : World) : Prop := Blk W p 29 pc ∧ RdP W W.heap.size A1 n1 z1 A2 n2 z2 A3 n3 z3 A4 n4 z4
section
variable {W W' : World} {p n1 n2 n3 n4 : Nat} {pc : Array Value} {A1 A2 A3 A4 : Option Addr} {z1 z2 z3 z4 : Nat → Int} {y0 y1 y2 y3 : Value}
theorem PS.below (h : PS p pc A1 n1 z1 A2 n2 z2 A3 n3 z3 A4 n4 z4 W) (hb : Below W.heap.size W W') : PS p pc A1 n1 z1 A2 n2 z2 A3 n3 z3 A4 n4 z4 W' := ⟨h.1.below hb h.1.lt, h.2.to hb hb.size⟩
theorem PS.drew (h : PS p pc A1 n1 z1 A2 n2 z2 A3 n3 z3 A4 n4 z4 W) : PS p pc A1 n1 z1 A2 n2 z2 A3 n3 z3 A4 n4 z4 W.drew := h.below (Below.refl _ W).drew
theorem PS.cells (h : PS p #[y0, y1, y2, y3] A1 n1 z1 A2 n2 z2 A3 n3 z3 A4 n4 z4 W) : W.cell? ⟨p, 0, none⟩ = some y0 ∧ W.cell? ⟨p, 1, none⟩ = some y1 ∧ W.cell? ⟨p, 2, none⟩ = some y2 ∧ W.cell? ⟨p, 3, none⟩ = some y3 := ⟨h.1.cell 0, h.1.cell 1, h.1.cell 2, h.1.cell 3⟩
theorem PS.rd (h : PS p pc A1 n1 z1 A2 n2 z2 A3 n3 z3 A4 n4 z4 W) : RdP W W.heap.size A1 n1 z1 A2 n2 z2 A3 n3 z3 A4 n4 z4 := h.2
theorem PS.order (h : PS p pc A1 n1 z1 A2 n2 z2 A3 n3 z3 A4 n4 z4 W) : Rd W W.heap.size A1 n1 z1 := h.2.o
theorem heldEP {w0 : World} {s k : Nat} {x0 x1 x2 : Value} {A : Option Addr} {len : Nat → Nat} {g : Nat → Nat → Nd} (h : ES w0 s #[x0, x1, x2] A k len g W) (h' : PS p #[y0, y1, y2, y3] A1 n1 z1 A2 n2 z2 A3 n3 z3 A4 n4 z4 W) :
    W.cell? ⟨s, 0, none⟩ = some x0 ∧ W.cell? ⟨s, 1, none⟩ = some x1 ∧ W.cell? ⟨s, 2, none⟩ = some x2 ∧ W.cell? ⟨p, 0, none⟩ = some y0 ∧ W.cell? ⟨p, 1, none⟩ = some y1 ∧ W.cell? ⟨p, 2, none⟩ = some y2 ∧ W.cell? ⟨p, 3, none⟩ = some y3 :=
  ⟨h.1.cell 0, h.1.cell 1, h.1.cell 2, h'.1.cell 0, h'.1.cell 1, h'.1.cell 2, h'.1.cell 3⟩
end
theorem same_b (A A' : Option Addr) (n c c' : Nat) (z : Nat → Int) (w : World) (h : Rd w w.heap.size A n z) (h' : Rd w w.heap.size A' n z) (hn : n ≤ 4194304) :
    Calls Tryz.prog 58 #[.slice A n c, .slice A' n c'] w fun e w' => e = .returned (.bool true) ∧ Below w.heap.size w w' :=
  (same_any A A' n c c' z z w h h' (hid fun _ _ => rfl) hn).mono fun _ _ ⟨he, m, hm⟩ => ⟨he, hm ▸ below_drewN (Below.refl _ _) m⟩

end
end Go.Proofs.YtlgomifpohdniaaGreat
