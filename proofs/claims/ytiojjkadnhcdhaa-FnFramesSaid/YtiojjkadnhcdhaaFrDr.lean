/- The reader of a code, for the frames: its bytes one by one, strings drawn of it. -/
import Derived.Test.YtiojjkadnhcdhaaFrH
import Derived.Laws.EntriesVeiled
import Derived.Test.YtiojjkadnhcdhaaLaw
namespace Go.Proofs.Ytiojjkadnhcdhaa
open Go.RowKit Go.Deep

theorem grown_trans {a b d : World} {r : Option Nat} (h : a.grownBy b r) (k : b.grownBy d r) : a.grownBy d r :=
  ⟨k.os.trans h.os, k.tape.trans h.tape, k.output.trans h.output, Nat.le_trans h.size k.size, fun i hi hne => (k.block i (Nat.lt_of_lt_of_le hi h.size) hne).trans (h.block i hi hne)⟩

theorem grown_below {a w w' : World} {B : Nat} {r : Option Nat} (h : a.grownBy w r) (hb : Below B w w') (hB : a.heap.size ≤ B) : a.grownBy w' r :=
  ⟨hb.os.trans h.os, hb.tape.trans h.tape, hb.output.trans h.output, Nat.le_trans h.size hb.size, fun i hi hne => (hb.block i (Nat.lt_of_lt_of_le hi hB)).trans (h.block i hi hne)⟩

theorem grown_set {w : World} {R o : Nat} (u : Value) : w.grownBy (w.setCell ⟨R, o, none⟩ u) (some R) :=
  ⟨rfl, rfl, rfl, by simp [World.setCell], fun i _ hne => Below.heap_setCell _ _ _ i (by rintro rfl; exact hne rfl)⟩

/-- The slice at A reads as n bytes, and lies below block B. -/
def Bs (w : World) (B : Nat) (A : Option Addr) (n : Nat) : Prop :=
  0 < n → ∃ b off, A = some ⟨b, off, none⟩ ∧ b < B ∧ ∀ i, i < n → ∃ x : Int, w.cell? ⟨b, off + i, none⟩ = some (.int .u8 x) ∧ 0 ≤ x ∧ x ≤ 255
/-- Block R is a reader of these bytes. -/
def Rs (w : World) (R : Nat) (A : Option Addr) (n cap : Nat) : Prop :=
  (∃ p : Nat, p ≤ n ∧ Blk w R 42 #[.slice A n cap, .int .i64 p]) ∧ Bs w R A n ∧ n ≤ 4194304
section
variable {w w' : World} {R n cap : Nat} {A : Option Addr}
theorem Bs.keep {B : Nat} (h : Bs w B A n) (hk : ∀ p : Addr, p.block < B → w'.cell? p = w.cell? p) : Bs w' B A n := fun hn => by
  obtain ⟨b, off, e, hb, hc⟩ := h hn
  refine ⟨b, off, e, hb, fun i hi => ?_⟩
  obtain ⟨x, hx, hr⟩ := hc i hi
  exact ⟨x, (hk _ hb).trans hx, hr⟩
theorem Bs.more {B B' : Nat} (h : Bs w B A n) (hB : B ≤ B') : Bs w B' A n := fun hn => by
  obtain ⟨b, off, e, hb, hc⟩ := h hn
  exact ⟨b, off, e, by omega, hc⟩
theorem Rs.lt (h : Rs w R A n cap) : R < w.heap.size := by obtain ⟨⟨p, _, hb⟩, _⟩ := h; exact hb.lt
theorem Rs.keep (h : Rs w R A n cap) (hk : ∀ b, b ≤ R → w'.heap[b]? = w.heap[b]?) : Rs w' R A n cap := by
  obtain ⟨⟨p, hp, hb⟩, hbs, hn⟩ := h
  exact ⟨⟨p, hp, (hk R (Nat.le_refl _)).trans hb⟩, hbs.keep fun q hq => World.cell?_of_block (hk q.block (by omega)), hn⟩
theorem Rs.below (h : Rs w R A n cap) (hb : Below w.heap.size w w') : Rs w' R A n cap := h.keep fun b hbR => hb.block b (Nat.lt_of_le_of_lt hbR h.lt)
theorem Rs.alloc (h : Rs w R A n cap) (o : Obj) : Rs (w.alloc o) R A n cap := h.below ((Below.refl _ _).alloc (Nat.le_refl _) _)
end

theorem grown_drew {w : World} (m : Nat) (r : Option Nat) : w.grownBy (w.drewN m) r := ⟨rfl, rfl, rfl, Nat.le_refl _, fun _ _ _ => rfl⟩

set_option maxHeartbeats 1000000 in
theorem next_draw (R n cap : Nat) (A : Option Addr) (w : World) (h : Rs w R A n cap) :
    Calls Try.prog 25 #[.pointer (some ⟨R, 0, none⟩)] w fun e w' =>
      ∃ x : Int, e = .returned (.int .i64 x) ∧ 0 ≤ x ∧ x ≤ 255 ∧ Rs w' R A n cap ∧ w.grownBy w' (some R) := by
  obtain ⟨⟨p, hp, hb⟩, hbs, hn⟩ := h
  have c0 : w.cell? ⟨R, 0, none⟩ = some (.slice A n cap) := hb.cell 0
  have c1 : w.cell? ⟨R, 1, none⟩ = some (.int .i64 p) := hb.cell 1
  have f1 := hb.frozen 1
  have hbnd : (n : Int) ≤ 4194304 := by omega
  by_cases hpn : p < n
  · obtain ⟨b, off, rfl, hbR, hc⟩ := hbs (by omega)
    obtain ⟨x, hx, hx0, hx1⟩ := hc p hpn
    have i1 : (p : Int) < (n : Int) := by omega
    have hne : b ≠ R := by omega
    go_enter Try.func25, Try.ntmps25
    go_wp2_with fail
    go_quiet (fail)
    go_wp2_with fail
    go_quiet (fail)
    go_wp2_with fail
    go_ret
    refine ⟨x, rfl, hx0, hx1, ⟨⟨p + 1, by omega, hb.set_ 1 (.int .i64 ((p : Int) + 1))⟩, Bs.keep (w := w) hbs fun q hq => World.cell?_setCell_other _ _ _ _ (fun e => by rw [← e] at hq; simp at hq), hn⟩, grown_trans (grown_drew _ _) (grown_trans (grown_set (.int .i64 ((p : Int) + 1))) (grown_drew _ _))⟩
  · have i1 : ¬ (p : Int) < (n : Int) := by omega
    go_enter Try.func25, Try.ntmps25
    go_wp2_with fail
    go_quiet (fail)
    go_wp2_with fail
    go_ret
    exact ⟨0, rfl, by omega, by omega, ⟨⟨p, hp, hb⟩, hbs, hn⟩, grown_drew _ _⟩

set_option maxHeartbeats 1000000 in
theorem below_draw (R n cap : Nat) (A : Option Addr) (m : Int) (w : World) (h : Rs w R A n cap) (hm1 : 1 < m) (hm : m ≤ 256) :
    Calls Try.prog 18 #[.pointer (some ⟨R, 0, none⟩), .int .i64 m] w fun e w' =>
      ∃ x : Int, e = .returned (.int .i64 x) ∧ 0 ≤ x ∧ x < m ∧ Rs w' R A n cap ∧ w.grownBy w' (some R) := by
  go_enter Try.func18, Try.ntmps18
  go_wp2_with fail
  refine (next_draw R n cap A _ h).mono ?_
  rintro e w1 ⟨x, rfl, hx0, hx1, hR, hg⟩
  go_wp2_with fail
  go_ret
  exact ⟨x % m, rfl, Int.emod_nonneg _ (by omega), Int.emod_lt_of_pos _ (by omega), hR, hg⟩

theorem own_grown {w w' : World} {base : Nat} {e : TypeId} {size : Nat} {v : Value} {m R : Nat} {xs : List Value} (h : w.ownsRow base e size v m xs) (hg : w.grownBy w' (some R)) (hR : R < base) : w'.ownsRow base e size v m xs := by
  refine h.kept hg ?_
  cases hv : v.ownBlock with
  | none => exact .inl rfl
  | some k => right; have := (h.lt k hv).1; simp; omega

theorem grown_own {w w1 w3 : World} {r row : Option Nat} (h : w.grownBy w1 r) (o : Obj) (hg : (w1.alloc o).grownBy w3 row) (hr : ∀ k, row = some k → w.heap.size ≤ k) : w.grownBy w3 r := by
  have h1 := grown_trans h (World.grownBy_alloc w1 o r)
  exact ⟨hg.os.trans h1.os, hg.tape.trans h1.tape, hg.output.trans h1.output, Nat.le_trans h1.size hg.size, fun i hi hne => (hg.block i (Nat.lt_of_lt_of_le hi h1.size) (fun e => by have := hr i e.symm; omega)).trans (h1.block i hi hne)⟩

theorem rs_own {w1 w3 : World} {B R n cap : Nat} {A : Option Addr} {row : Option Nat} (h : Rs w1 R A n cap) (o : Obj) (hg : (w1.alloc o).grownBy w3 row) (hr : ∀ k, row = some k → B ≤ k) (hB : R < B) : Rs w3 R A n cap :=
  (h.alloc o).keep fun b hb => hg.block b (by have := (h.alloc o).lt; omega) (fun e => by have := hr b e.symm; omega)

theorem below_grown {w w' : World} {R : Nat} (h : w.grownBy w' (some R)) (hR : R < w.heap.size) : Below R w w' :=
  ⟨h.os, h.tape, h.output, h.size, fun k hk => h.block k (by omega) (by intro e; injection e with e; omega)⟩

theorem open_draw (A : Option Addr) (n cap : Nat) (w : World) (h : Bs w w.heap.size A n) (hn : n ≤ 4194304) :
    Calls Try.prog 17 #[.slice A n cap] w fun e w' =>
      e = .returned (.pointer (some ⟨w.heap.size, 0, none⟩)) ∧ Rs w' w.heap.size A n cap ∧ Below w.heap.size w w' := by
  go_enter Try.func17, Try.ntmps17
  go_wp2_with fail
  go_ret
  have hb : Below w.heap.size w (w.alloc (.cells #[.slice A n cap, .int .i64 0] 42)) := (Below.refl _ _).alloc (Nat.le_refl _) _
  exact ⟨rfl, ⟨⟨0, Nat.zero_le _, Blk.new w _ _⟩, h.keep fun p hp => hb.cell hp, hn⟩, hb⟩

/-- A slice of bytes that came in reads as bytes. -/
theorem IsRow.bs {w : World} {a : Option Addr} {len cap : Nat} {zs : List Int} (h : IsRow .u8 w a len cap zs) : Bs w w.heap.size a len := fun hn => by
  rcases h with ⟨_, h0, _⟩ | ⟨x, rfl, hl, hm, hz, hc, hw⟩
  · omega
  · obtain ⟨b, off, spot⟩ := x
    have h0 := hc 0 (by omega)
    have hs : spot = none := by simpa [Addr.add] using World.cell?_spot h0
    subst hs
    refine ⟨b, off, rfl, ?_, fun i hi => ?_⟩
    · have := cell_lt h0
      simpa [Addr.add_lit] using this
    · have h1 := hc i (by omega)
      rw [Addr.add_lit] at h1
      have hb := hw (zs.getD i 0) (by rw [List.getD_eq_getElem?_getD, List.getElem?_eq_getElem (by omega)]; simp)
      simp [Lit.wf, IntKind.min, IntKind.max, IntKind.signed, IntKind.bits] at hb
      exact ⟨_, h1, by simpa using hb.1, by simpa using hb.2⟩

theorem big_no (A : Option Addr) (n cap : Nat) (w : World) (h : ¬ (1048576 : Int) < (n : Int)) :
    Calls Try.prog 6 #[.slice A n cap] w fun e w' => e = .returned (.bool false) ∧ w = w' := by
  go_enter Try.func6, Try.ntmps6
  go_wp2_with fail
  go_ret
  exact ⟨by simp, rfl⟩

theorem big_yes (A : Option Addr) (n cap : Nat) (w : World) (h : (1048576 : Int) < (n : Int)) :
    Calls Try.prog 6 #[.slice A n cap] w fun e w' => e = .returned (.bool true) ∧ w = w' := by
  go_enter Try.func6, Try.ntmps6
  go_wp2_with fail
  go_ret
  exact ⟨by simp, rfl⟩
end Go.Proofs.Ytiojjkadnhcdhaa
