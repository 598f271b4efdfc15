/- The reader of a code: its bytes one by one, and what is drawn by them. Of each draw only that there is one, and its range. -/
import Derived.Test.YtmpgefpaoogoiaaTreeL
import Derived.Test.YtmpgefpaoogoiaaDocWithLaw
import Derived.Laws.EntriesVeiled
namespace Go.Proofs.Ytmpgefpaoogoiaa
open Go.RowKit Go.Deep

/-- The slice at A reads as n bytes, and lies below block B. -/
def Bs (w : World) (B : Nat) (A : Option Addr) (n : Nat) : Prop :=
  0 < n → ∃ b off, A = some ⟨b, off, none⟩ ∧ b < B ∧ ∀ i, i < n → ∃ x : Int, w.cell? ⟨b, off + i, none⟩ = some (.int .u8 x) ∧ 0 ≤ x ∧ x ≤ 255
/-- Block R is a reader of these bytes. -/
def Rs (w : World) (R : Nat) (A : Option Addr) (n cap : Nat) : Prop :=
  (∃ p : Nat, p ≤ n ∧ Blk w R 179 #[.slice A n cap, .int .i64 p]) ∧ Bs w R A n ∧ n ≤ 4194304
section
variable {w w' : World} {R n cap : Nat} {A : Option Addr}
theorem Bs.keep {B : Nat} (h : Bs w B A n) (hk : ∀ p : Addr, p.block < B → w'.cell? p = w.cell? p) : Bs w' B A n := fun hn => by
  obtain ⟨b, off, e, hb, hc⟩ := h hn
  refine ⟨b, off, e, hb, fun i hi => ?_⟩
  obtain ⟨x, hx, hr⟩ := hc i hi
  exact ⟨x, (hk _ hb).trans hx, hr⟩
theorem Bs.more {B B' : Nat} (h : Bs w B A n) (hB : B ≤ B') : Bs w B' A n := fun hn => by
  obtain ⟨b, off, e, hb, hc⟩ := h hn
  exact ⟨b, off, e, by omega, hc⟩
theorem Rs.lt (h : Rs w R A n cap) : R < w.heap.size := by obtain ⟨⟨p, _, hb⟩, _⟩ := h; exact hb.lt
theorem Rs.keep (h : Rs w R A n cap) (hk : ∀ b, b ≤ R → w'.heap[b]? = w.heap[b]?) : Rs w' R A n cap := by
  obtain ⟨⟨p, hp, hb⟩, hbs, hn⟩ := h
  exact ⟨⟨p, hp, (hk R (Nat.le_refl _)).trans hb⟩, hbs.keep fun q hq => World.cell?_of_block (hk q.block (by omega)), hn⟩
theorem Rs.below (h : Rs w R A n cap) (hb : Below w.heap.size w w') : Rs w' R A n cap := h.keep fun b hbR => hb.block b (Nat.lt_of_le_of_lt hbR h.lt)
theorem Rs.alloc (h : Rs w R A n cap) (o : Obj) : Rs (w.alloc o) R A n cap := h.below ((Below.refl _ _).alloc (Nat.le_refl _) _)
end

theorem grown_drew {w : World} (m : Nat) (r : Option Nat) : w.grownBy (w.drewN m) r := ⟨rfl, rfl, rfl, Nat.le_refl _, fun _ _ _ => rfl⟩

set_option maxHeartbeats 1000000 in
theorem next_draw (R n cap : Nat) (A : Option Addr) (w : World) (h : Rs w R A n cap) :
    Calls Try.prog 151 #[.pointer (some ⟨R, 0, none⟩)] w fun e w' =>
      ∃ x : Int, e = .returned (.int .i64 x) ∧ 0 ≤ x ∧ x ≤ 255 ∧ Rs w' R A n cap ∧ w.grownBy w' (some R) := by
  obtain ⟨⟨p, hp, hb⟩, hbs, hn⟩ := h
  have c0 : w.cell? ⟨R, 0, none⟩ = some (.slice A n cap) := hb.cell 0
  have c1 : w.cell? ⟨R, 1, none⟩ = some (.int .i64 p) := hb.cell 1
  have f1 := hb.frozen 1
  have hbnd : (n : Int) ≤ 4194304 := by omega
  by_cases hpn : p < n
  · obtain ⟨b, off, rfl, hbR, hc⟩ := hbs (by omega)
    obtain ⟨x, hx, hx0, hx1⟩ := hc p hpn
    have i1 : (p : Int) < (n : Int) := by omega
    have hne : b ≠ R := by omega
    go_enter Try.func151, Try.ntmps151
    go_wp2_with fail
    go_quiet (fail)
    go_wp2_with fail
    go_quiet (fail)
    go_wp2_with fail
    go_ret
    refine ⟨x, rfl, hx0, hx1, ⟨⟨p + 1, by omega, hb.set_ 1 (.int .i64 ((p : Int) + 1))⟩, Bs.keep (w := w) hbs fun q hq => World.cell?_setCell_other _ _ _ _ (fun e => by rw [← e] at hq; simp at hq), hn⟩, grown_trans (grown_drew _ _) (grown_trans (grown_set (.int .i64 ((p : Int) + 1))) (grown_drew _ _))⟩
  · have i1 : ¬ (p : Int) < (n : Int) := by omega
    go_enter Try.func151, Try.ntmps151
    go_wp2_with fail
    go_quiet (fail)
    go_wp2_with fail
    go_ret
    exact ⟨0, rfl, by omega, by omega, ⟨⟨p, hp, hb⟩, hbs, hn⟩, grown_drew _ _⟩

set_option maxHeartbeats 1000000 in
theorem below_draw (R n cap : Nat) (A : Option Addr) (m : Int) (w : World) (h : Rs w R A n cap) (hm1 : 1 < m) (hm : m ≤ 256) :
    Calls Try.prog 98 #[.pointer (some ⟨R, 0, none⟩), .int .i64 m] w fun e w' =>
      ∃ x : Int, e = .returned (.int .i64 x) ∧ 0 ≤ x ∧ x < m ∧ Rs w' R A n cap ∧ w.grownBy w' (some R) := by
  go_enter Try.func98, Try.ntmps98
  go_wp2_with fail
  refine (next_draw R n cap A _ h).mono ?_
  rintro e w1 ⟨x, rfl, hx0, hx1, hR, hg⟩
  go_wp2_with fail
  go_ret
  exact ⟨x % m, rfl, Int.emod_nonneg _ (by omega), Int.emod_lt_of_pos _ (by omega), hR, hg⟩

set_option maxHeartbeats 1000000 in
theorem once_draw (R n cap : Nat) (A : Option Addr) (m : Int) (w : World) (h : Rs w R A n cap) (hm1 : 1 < m) (hm : m ≤ 256) :
    Calls Try.prog 99 #[.pointer (some ⟨R, 0, none⟩), .int .i64 m] w fun e w' =>
      ∃ q : Bool, e = .returned (.bool q) ∧ Rs w' R A n cap ∧ w.grownBy w' (some R) := by
  go_enter Try.func99, Try.ntmps99
  go_wp2_with fail
  refine (below_draw R n cap A m _ h hm1 hm).mono ?_
  rintro e w1 ⟨x, rfl, hx0, hx1, hR, hg⟩
  go_wp2_with fail
  go_ret
  exact ⟨_, rfl, hR, hg⟩

theorem or_bd (a b : Int) : 0 ≤ bits .or .u64 a b ∧ bits .or .u64 a b ≤ 18446744073709551615 := by
  show 0 ≤ IntKind.u64.wrap _ ∧ IntKind.u64.wrap _ ≤ _
  rw [IntKind.wrap_u64]
  omega

set_option maxHeartbeats 1000000 in
theorem word_draw (R n cap : Nat) (A : Option Addr) (w : World) (h : Rs w R A n cap) :
    Calls Try.prog 177 #[.pointer (some ⟨R, 0, none⟩)] w fun e w' =>
      ∃ x : Int, e = .returned (.int .u64 x) ∧ 0 ≤ x ∧ x ≤ 18446744073709551615 ∧ Rs w' R A n cap ∧ w.grownBy w' (some R) := by
  go_enter Try.func177, Try.ntmps177
  go_wp2_with fail
  go_loopw [3, 4] (fun y i wr => ∃ (k : Nat) (x : Int), k ≤ 8 ∧ i = .int .i64 k ∧ y = .int .u64 x ∧ 0 ≤ x ∧ x ≤ 18446744073709551615 ∧ Rs wr R A n cap ∧ Hid (w.grownBy wr (some R))) (fun _ i _ => 8 - (intOf i).toNat)
  case atStart => exact ⟨0, 0, by omega, rfl, rfl, by omega, by omega, h, World.grownBy.refl _ _⟩
  case round =>
    obtain ⟨k, x, hk, rfl, rfl, hx0, hx1, hR, hg⟩ := hrel
    by_cases hlt : k < 8
    · have i1 : (k : Int) < 8 := by omega
      go_wp2_with fail
      refine (next_draw R n cap A _ hR).mono ?_
      rintro e w1 ⟨y, rfl, hy0, hy1, hR1, hg1⟩
      go_wp2_with fail
      go_roundw
      case rel => exact ⟨k + 1, _, by omega, by go_num, rfl, (or_bd _ _).1, (or_bd _ _).2, hR1, grown_trans hg.out hg1⟩
      case measure => simp [intOf]; omega
    · have e : k = 8 := by omega
      go_wp2_with fail
      go_ret
      exact ⟨x, rfl, hx0, hx1, hR, hg.out⟩
end Go.Proofs.Ytmpgefpaoogoiaa
