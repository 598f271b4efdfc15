/- Lists of numbers compared on both sides; plans copied, compared and measured by the exact laws. -/
import Derived.Test.YtmpgefpaoogoiaaPlA
import Derived.Test.YtmpgefpaoogoiaaDocE
import Derived.Test.YtmpgefpaoogoiaaBoxDrawA
namespace Go.Proofs.Ytmpgefpaoogoiaa
open Go.RowKit Go.Deep

set_option maxHeartbeats 1000000 in
theorem l5Same_any (A A' : Option Addr) (n n' c c' : Nat) (z y : Nat → Int) (w : World) (h : Rd w w.heap.size A n z) (h' : Rd w w.heap.size A' n' y) (hn : n ≤ 9223372036854775807) :
    Calls Try.prog 69 #[.slice A n c, .slice A' n' c'] w fun e w' => e = .returned (.bool (sameB n n' z y)) ∧ ∃ m, w' = w.drewN m := by
  by_cases hne : n = n'
  · subst hne
    have e0 : Hid (sameB n n z y = eqTo z y n) := by show _ = _; unfold sameB; rw [decide_eq_true rfl]; rfl
    go_enter Try.func69, Try.ntmps69
    go_wp2_with fail
    go_loopw [5] (fun i wr => ∃ k m : Nat, k ≤ n ∧ i = .int .i64 k ∧ Hid (eqTo z y k = true) ∧ wr = w.drewN m) (fun i _ => n - (intOf i).toNat)
    case atStart => exact ⟨0, 0, Nat.zero_le _, rfl, rfl, rfl⟩
    case round =>
      obtain ⟨k, m, hk, rfl, hall, rfl⟩ := hrel
      by_cases hlt : k < n
      · obtain ⟨b, off, rfl, hb, hc⟩ := h.at_ hlt
        obtain ⟨b', off', rfl, hb', hc'⟩ := h'.at_ hlt
        have hi : (k : Int) < (n : Int) := by omega
        have hi0 : (0 : Int) ≤ (k : Int) := by omega
        by_cases hq : z k = y k
        · rw [← hq] at hc'
          have HQ := hid hq
          clear hq
          go_wp2_with fail
          go_quiet (fail)
          go_wp2_with fail
          go_roundw
          case rel => exact ⟨k + 1, _, by omega, by go_num, (by show eqTo z y (k + 1) = true; simp only [eqTo, hall.out, HQ.out]; simp), rfl⟩
          case measure => simp [intOf]; omega
        · have HQ := hid hq
          have q1 : (z k == y k) = false := by simpa using hq
          clear hq
          go_wp2_with fail
          go_quiet (fail)
          go_wp2_with fail
          go_ret
          refine ⟨?_, m + nq, World.drewN_drewN _ _ _⟩
          rw [e0.out, eqTo_false hlt HQ.out]
          rfl
      · have e : k = n := by omega
        go_wp2_with fail
        go_ret
        subst e
        refine ⟨?_, m, rfl⟩
        rw [e0.out, hall.out]
        rfl
  · have e0 : sameB n n' z y = false := by unfold sameB; rw [decide_eq_false hne]; rfl
    rw [e0]
    have q1 : ((n : Int) == (n' : Int)) = false := by simp; omega
    go_enter Try.func69, Try.ntmps69
    go_wp2_with fail
    go_ret
    exact ⟨rfl, 0, rfl⟩

set_option maxHeartbeats 1000000 in
theorem equalI_any (A A' : Option Addr) (n n' c c' : Nat) (z y : Nat → Int) (w : World) (h : Rd w w.heap.size A n z) (h' : Rd w w.heap.size A' n' y) (hn : n ≤ 9223372036854775807) :
    Calls Try.prog 74 #[.slice A n c, .slice A' n' c'] w fun e w' => e = .returned (.bool (sameB n n' z y)) ∧ ∃ m, w' = w.drewN m := by
  by_cases hne : n = n'
  · subst hne
    have e0 : Hid (sameB n n z y = eqTo z y n) := by show _ = _; unfold sameB; rw [decide_eq_true rfl]; rfl
    go_enter Try.func74, Try.ntmps74
    go_wp2_with fail
    go_loopw [13] (fun i wr => ∃ k m : Nat, k ≤ n ∧ i = .int .i64 k ∧ Hid (eqTo z y k = true) ∧ wr = w.drewN m) (fun i _ => n - (intOf i).toNat)
    case atStart => exact ⟨0, 0, Nat.zero_le _, rfl, rfl, rfl⟩
    case round =>
      obtain ⟨k, m, hk, rfl, hall, rfl⟩ := hrel
      by_cases hlt : k < n
      · obtain ⟨b, off, rfl, hb, hc⟩ := h.at_ hlt
        obtain ⟨b', off', rfl, hb', hc'⟩ := h'.at_ hlt
        have hi : (k : Int) < (n : Int) := by omega
        have hi0 : (0 : Int) ≤ (k : Int) := by omega
        by_cases hq : z k = y k
        · rw [← hq] at hc'
          have HQ := hid hq
          clear hq
          go_wp2_with fail
          go_quiet (fail)
          go_wp2_with fail
          go_roundw
          case rel => exact ⟨k + 1, _, by omega, by go_num, (by show eqTo z y (k + 1) = true; simp only [eqTo, hall.out, HQ.out]; simp), rfl⟩
          case measure => simp [intOf]; omega
        · have HQ := hid hq
          have q1 : (z k == y k) = false := by simpa using hq
          clear hq
          go_wp2_with fail
          go_quiet (fail)
          go_wp2_with fail
          go_ret
          refine ⟨?_, m + nq, World.drewN_drewN _ _ _⟩
          rw [e0.out, eqTo_false hlt HQ.out]
          rfl
      · have e : k = n := by omega
        go_wp2_with fail
        go_ret
        subst e
        refine ⟨?_, m, rfl⟩
        rw [e0.out, hall.out]
        rfl
  · have e0 : sameB n n' z y = false := by unfold sameB; rw [decide_eq_false hne]; rfl
    rw [e0]
    have q1 : ((n : Int) == (n' : Int)) = false := by simp; omega
    go_enter Try.func74, Try.ntmps74
    go_wp2_with fail
    go_ret
    exact ⟨rfl, 0, rfl⟩

abbrev plV (A1 : Option Addr) (n1 c1 : Nat) (A2 : Option Addr) (n2 c2 : Nat) (A3 : Option Addr) (n3 c3 : Nat) (A4 : Option Addr) (n4 c4 : Nat) : Value := .agg #[.slice A1 n1 c1, .slice A2 n2 c2, .slice A3 n3 c3, .slice A4 n4 c4]
theorem size_plan : (Try.prog.info? 35).map (·.size) = some 4 := by kernel_rfl
theorem blk_cells4 {w : World} {b : Nat} {t : TypeId} {x y z u : Value} (h : Blk w b t #[x, y, z, u]) :
    (w.cell? ⟨b, 0, none⟩ = some x ∧ w.cell? ⟨b, 1, none⟩ = some y ∧ w.cell? ⟨b, 2, none⟩ = some z ∧ w.cell? ⟨b, 3, none⟩ = some u) ∧ w.frozen? ⟨b, 0, none⟩ = false ∧ w.frozen? ⟨b, 1, none⟩ = false ∧ w.frozen? ⟨b, 2, none⟩ = false ∧ w.frozen? ⟨b, 3, none⟩ = false :=
  ⟨⟨h.cell 0, h.cell 1, h.cell 2, h.cell 3⟩, h.frozen 0, h.frozen 1, h.frozen 2, h.frozen 3⟩
/-- The four lists of a plan are to be read. -/
structure RdP (w : World) (B : Nat) (A1 : Option Addr) (n1 : Nat) (z1 : Nat → Int) (A2 : Option Addr) (n2 : Nat) (z2 : Nat → Int) (A3 : Option Addr) (n3 : Nat) (z3 : Nat → Int) (A4 : Option Addr) (n4 : Nat) (z4 : Nat → Int) : Prop where
  o : Rd w B A1 n1 z1
  e : Rd w B A2 n2 z2
  m : Rd w B A3 n3 z3
  x : Rd w B A4 n4 z4
section
variable {w w' : World} {B B' : Nat} {A1 A2 A3 A4 : Option Addr} {n1 n2 n3 n4 : Nat} {z1 z2 z3 z4 : Nat → Int}
theorem RdP.below (h : RdP w B A1 n1 z1 A2 n2 z2 A3 n3 z3 A4 n4 z4) (hb : Below B w w') : RdP w' B A1 n1 z1 A2 n2 z2 A3 n3 z3 A4 n4 z4 := ⟨h.o.below hb, h.e.below hb, h.m.below hb, h.x.below hb⟩
theorem RdP.more (h : RdP w B A1 n1 z1 A2 n2 z2 A3 n3 z3 A4 n4 z4) (hB : B ≤ B') : RdP w B' A1 n1 z1 A2 n2 z2 A3 n3 z3 A4 n4 z4 := ⟨h.o.more hB, h.e.more hB, h.m.more hB, h.x.more hB⟩
theorem RdP.to (h : RdP w B A1 n1 z1 A2 n2 z2 A3 n3 z3 A4 n4 z4) (hb : Below B w w') (hB : B ≤ w'.heap.size) : RdP w' w'.heap.size A1 n1 z1 A2 n2 z2 A3 n3 z3 A4 n4 z4 := (h.below hb).more hB
end
end Go.Proofs.Ytmpgefpaoogoiaa
