/- Draws. -/
import Derived.Test.YtmkipdhappikhaaGreatDoorK4
import Derived.Test.YtmkipdhappikhaaGreatDoorK3
import Derived.Laws.EntriesVeiled
namespace Go.Proofs.YtmkipdhappikhaaGreatDoor

/-! ### DrawA -/
section
set_option linter.unusedVariables false
set_option linter.unusedSimpArgs false
open Go.RowKit Go.Deep

/-- The slice at A reads as n bytes, and lies below block B. -/
def Bs (w : World) (B : Nat) (A : Option Addr) (n : Nat) : Prop :=
  0 < n → ∃ b off, A = some ⟨b, off, none⟩ ∧ b < B ∧ ∀ i, i < n → ∃ x : Int, w.cell? ⟨b, off + i, none⟩ = some (.int .u8 x) ∧ 0 ≤ x ∧ x ≤ 255
/-- Block R is a reader of these bytes. -/
def Rs (w : World) (R : Nat) (A : Option Addr) (n cap : Nat) : Prop :=
  (∃ p : Nat, p ≤ n ∧ Blk w R 92 #[.slice A n cap, .int .i64 p]) ∧ Bs w R A n ∧ n ≤ 4194304
section
variable {w w' : World} {R n cap : Nat} {A : Option Addr}
theorem Bs.keep {B : Nat} (h : Bs w B A n) (hk : ∀ p : Addr, p.block < B → w'.cell? p = w.cell? p) : Bs w' B A n := fun hn => by
  obtain ⟨b, off, e, hb, hc⟩ := h hn
  refine ⟨b, off, e, hb, fun i hi => ?_⟩
  obtain ⟨x, hx, hr⟩ := hc i hi
  exact ⟨x, (hk _ hb).trans hx, hr⟩
theorem Bs.more {B B' : Nat} (h : Bs w B A n) (hB : B ≤ B') : Bs w B' A n := fun hn => by
  obtain ⟨b, off, e, hb, hc⟩ := h hn
  exact ⟨b, off, e, by omega, hc⟩
theorem Rs.lt (h : Rs w R A n cap) : R < w.heap.size := by obtain ⟨⟨p, _, hb⟩, _⟩ := h; exact hb.lt
theorem Rs.keep (h : Rs w R A n cap) (hk : ∀ b, b ≤ R → w'.heap[b]? = w.heap[b]?) : Rs w' R A n cap := by
  obtain ⟨⟨p, hp, hb⟩, hbs, hn⟩ := h
  exact ⟨⟨p, hp, (hk R (Nat.le_refl _)).trans hb⟩, hbs.keep fun q hq => World.cell?_of_block (hk q.block (by omega)), hn⟩
theorem Rs.below (h : Rs w R A n cap) (hb : Below w.heap.size w w') : Rs w' R A n cap := h.keep fun b hbR => hb.block b (Nat.lt_of_le_of_lt hbR h.lt)
theorem Rs.alloc (h : Rs w R A n cap) (o : Obj) : Rs (w.alloc o) R A n cap := h.below ((Below.refl _ _).alloc (Nat.le_refl _) _)
end

theorem grown_drew {w : World} (m : Nat) (r : Option Nat) : w.grownBy (w.drewN m) r := ⟨rfl, rfl, rfl, Nat.le_refl _, fun _ _ _ => rfl⟩

set_option maxHeartbeats 1000000 in
theorem next_draw (R n cap : Nat) (A : Option Addr) (w : World) (h : Rs w R A n cap) :
    Calls Tryz.prog 66 #[.pointer (some ⟨R, 0, none⟩)] w fun e w' =>
      ∃ x : Int, e = .returned (.int .i64 x) ∧ 0 ≤ x ∧ x ≤ 255 ∧ Rs w' R A n cap ∧ w.grownBy w' (some R) := by
  obtain ⟨⟨p, hp, hb⟩, hbs, hn⟩ := h
  have c0 : w.cell? ⟨R, 0, none⟩ = some (.slice A n cap) := hb.cell 0
  have c1 : w.cell? ⟨R, 1, none⟩ = some (.int .i64 p) := hb.cell 1
  have f1 := hb.frozen 1
  have hbnd : (n : Int) ≤ 4194304 := by omega
  by_cases hpn : p < n
  · obtain ⟨b, off, rfl, hbR, hc⟩ := hbs (by omega)
    obtain ⟨x, hx, hx0, hx1⟩ := hc p hpn
    have i1 : (p : Int) < (n : Int) := by omega
    have hne : b ≠ R := by omega
    go_enter Tryz.func66, Tryz.ntmps66
    go_wp2_with fail
    go_quiet (fail)
    go_wp2_with fail
    go_quiet (fail)
    go_wp2_with fail
    go_ret
    refine ⟨x, rfl, hx0, hx1, ⟨⟨p + 1, by omega, hb.set_ 1 (.int .i64 ((p : Int) + 1))⟩, Bs.keep (w := w) hbs fun q hq => World.cell?_setCell_other _ _ _ _ (fun e => by rw [← e] at hq; simp at hq), hn⟩, grown_trans (grown_drew _ _) (grown_trans (grown_set (.int .i64 ((p : Int) + 1))) (grown_drew _ _))⟩
  · have i1 : ¬ (p : Int) < (n : Int) := by omega
    go_enter Tryz.func66, Tryz.ntmps66
    go_wp2_with fail
    go_quiet (fail)
    go_wp2_with fail
    go_ret
    exact ⟨0, rfl, by omega, by omega, ⟨⟨p, hp, hb⟩, hbs, hn⟩, grown_drew _ _⟩

set_option maxHeartbeats 1000000 in
theorem below_draw (R n cap : Nat) (A : Option Addr) (m : Int) (w : World) (h : Rs w R A n cap) (hm1 : 1 < m) (hm : m ≤ 256) :
    Calls Tryz.prog 29 #[.pointer (some ⟨R, 0, none⟩), .int .i64 m] w fun e w' =>
      ∃ x : Int, e = .returned (.int .i64 x) ∧ 0 ≤ x ∧ x < m ∧ Rs w' R A n cap ∧ w.grownBy w' (some R) := by
  go_enter Tryz.func29, Tryz.ntmps29
  go_wp2_with fail
  refine (next_draw R n cap A _ h).mono ?_
  rintro e w1 ⟨x, rfl, hx0, hx1, hR, hg⟩
  go_wp2_with fail
  go_ret
  exact ⟨x % m, rfl, Int.emod_nonneg _ (by omega), Int.emod_lt_of_pos _ (by omega), hR, hg⟩

set_option maxHeartbeats 1000000 in
theorem once_draw (R n cap : Nat) (A : Option Addr) (m : Int) (w : World) (h : Rs w R A n cap) (hm1 : 1 < m) (hm : m ≤ 256) :
    Calls Tryz.prog 83 #[.pointer (some ⟨R, 0, none⟩), .int .i64 m] w fun e w' =>
      ∃ q : Bool, e = .returned (.bool q) ∧ Rs w' R A n cap ∧ w.grownBy w' (some R) := by
  go_enter Tryz.func83, Tryz.ntmps83
  go_wp2_with fail
  refine (below_draw R n cap A m _ h hm1 hm).mono ?_
  rintro e w1 ⟨x, rfl, hx0, hx1, hR, hg⟩
  go_wp2_with fail
  go_ret
  exact ⟨_, rfl, hR, hg⟩

theorem or_bd (a b : Int) : 0 ≤ bits .or .u64 a b ∧ bits .or .u64 a b ≤ 18446744073709551615 := by
  show 0 ≤ IntKind.u64.wrap _ ∧ IntKind.u64.wrap _ ≤ _
  rw [IntKind.wrap_u64]
  omega

set_option maxHeartbeats 1000000 in
theorem word_draw (R n cap : Nat) (A : Option Addr) (w : World) (h : Rs w R A n cap) :
    Calls Tryz.prog 120 #[.pointer (some ⟨R, 0, none⟩)] w fun e w' =>
      ∃ x : Int, e = .returned (.int .u64 x) ∧ 0 ≤ x ∧ x ≤ 18446744073709551615 ∧ Rs w' R A n cap ∧ w.grownBy w' (some R) := by
  go_enter Tryz.func120, Tryz.ntmps120
  go_wp2_with fail
  go_loopw [3, 4] (fun y i wr => ∃ (k : Nat) (x : Int), k ≤ 8 ∧ i = .int .i64 k ∧ y = .int .u64 x ∧ 0 ≤ x ∧ x ≤ 18446744073709551615 ∧ Rs wr R A n cap ∧ Hid (w.grownBy wr (some R))) (fun _ i _ => 8 - (intOf i).toNat)
  case atStart => exact ⟨0, 0, by omega, rfl, rfl, by omega, by omega, h, World.grownBy.refl _ _⟩
  case round =>
    obtain ⟨k, x, hk, rfl, rfl, hx0, hx1, hR, hg⟩ := hrel
    by_cases hlt : k < 8
    · have i1 : (k : Int) < 8 := by omega
      go_wp2_with fail
      refine (next_draw R n cap A _ hR).mono ?_
      rintro e w1 ⟨y, rfl, hy0, hy1, hR1, hg1⟩
      go_wp2_with fail
      go_roundw
      case rel => exact ⟨k + 1, _, by omega, by go_num, rfl, (or_bd _ _).1, (or_bd _ _).2, hR1, grown_trans hg.out hg1⟩
      case measure => simp [intOf]; omega
    · have e : k = 8 := by omega
      go_wp2_with fail
      go_ret
      exact ⟨x, rfl, hx0, hx1, hR, hg.out⟩
end

/-! ### DrawB -/
section
set_option linter.unusedVariables false
set_option linter.unusedSimpArgs false
open Go.RowKit Go.Deep

set_option maxHeartbeats 2000000 in
theorem near_draw (R n cap : Nat) (A : Option Addr) (lo hi : Int) (w : World) (h : Rs w R A n cap) (h1 : -2000000000 ≤ lo) (h2 : hi ≤ 2000000000) :
    Calls Tryz.prog 99 #[.pointer (some ⟨R, 0, none⟩), .int .i64 lo, .int .i64 hi] w fun e w' =>
      ∃ x : Int, e = .returned (.int .i64 x) ∧ Rs w' R A n cap ∧ w.grownBy w' (some R) := by
  go_enter Tryz.func99, Tryz.ntmps99
  go_wp2_with fail
  refine (below_draw R n cap A 8 _ h (by omega) (by omega)).mono ?_
  rintro e w1 ⟨k, rfl, hk0, hk1, hR1, hg1⟩
  by_cases hk : k = 0
  · subst hk
    go_wp2_with fail
    go_ret
    exact ⟨lo, rfl, hR1, hg1⟩
  by_cases hk' : k = 1
  · subst hk'
    go_wp2_with fail
    go_ret
    exact ⟨hi, rfl, hR1, hg1⟩
  by_cases hlt : hi < lo
  · go_wp2_with fail
    go_ret
    exact ⟨lo, rfl, hR1, hg1⟩
  · go_wp2_with fail
    refine (word_draw R n cap A _ hR1).mono ?_
    rintro e w2 ⟨x, rfl, hx0, hx1, hR2, hg2⟩
    have i1 : (0 : Int) < hi - lo + 1 := by omega
    go_wp2_with fail
    go_ret
    exact ⟨_, rfl, hR2, grown_trans hg1 hg2⟩

set_option maxHeartbeats 2000000 in
theorem off_draw (R n cap : Nat) (A : Option Addr) (lo hi : Int) (w : World) (h : Rs w R A n cap) (h1 : -2000000000 ≤ lo) (h2 : hi ≤ 2000000000) (h3 : lo ≤ 2000000000) (h4 : -2000000000 ≤ hi) :
    Calls Tryz.prog 64 #[.pointer (some ⟨R, 0, none⟩), .int .i64 lo, .int .i64 hi] w fun e w' =>
      ∃ x : Int, e = .returned (.int .i64 x) ∧ Rs w' R A n cap ∧ w.grownBy w' (some R) := by
  go_enter Tryz.func64, Tryz.ntmps64
  go_wp2_with fail
  refine (once_draw R n cap A 24 _ h (by omega) (by omega)).mono ?_
  rintro e w1 ⟨q, rfl, hR1, hg1⟩
  cases q
  · go_wp2_with fail
    refine (near_draw R n cap A lo hi _ hR1 h1 h2).mono ?_
    rintro e w2 ⟨x, rfl, hR2, hg2⟩
    go_wp2_with fail
    go_ret
    exact ⟨x, rfl, hR2, grown_trans hg1 hg2⟩
  · have hRlt := hR1.lt
    go_wp2_with fail
    refine (below_draw R n cap A 4 _ (hR1.alloc _) (by omega) (by omega)).mono ?_
    rintro e w2 ⟨k, rfl, hk0, hk1, hR2, hg2⟩
    have hB := Blk.grown (Blk.new w1 _ _) hg2 (by simp; omega)
    have c0 := hB.cell 0; have c1 := hB.cell 1; have c2 := hB.cell 2; have c3 := hB.cell 3
    simp at c0 c1 c2 c3
    have hgg := grown_trans hg1 (grown_trans (World.grownBy_alloc w1 _ (some R)) hg2)
    have hGG := hid hgg
    clear hB hg2 hgg
    obtain rfl | rfl | rfl | rfl : k = 0 ∨ k = 1 ∨ k = 2 ∨ k = 3 := by omega
    all_goals
      go_wp2_with fail
      go_ret
      exact ⟨_, rfl, hR2, hGG.out⟩

set_option maxHeartbeats 2000000 in
theorem feat_draw (R n cap : Nat) (A : Option Addr) (w : World) (h : Rs w R A n cap) :
    Calls Tryz.prog 129 #[.pointer (some ⟨R, 0, none⟩)] w fun e w' =>
      ∃ x : Int, e = .returned (.int .i64 x) ∧ Rs w' R A n cap ∧ w.grownBy w' (some R) := by
  go_enter Tryz.func129, Tryz.ntmps129
  go_wp2_with fail
  refine (below_draw R n cap A 20 _ h (by omega) (by omega)).mono ?_
  rintro e w1 ⟨k, rfl, hk0, hk1, hR1, hg1⟩
  have hRlt := hR1.lt
  by_cases e0 : k = 0
  · subst e0
    go_wp2_with fail
    refine (below_draw R n cap A 3 _ (hR1.alloc _) (by omega) (by omega)).mono ?_
    rintro e w2 ⟨k, rfl, hk0, hk1, hR2, hg2⟩
    have hB := Blk.grown (Blk.new w1 _ _) hg2 (by simp; omega)
    have c0 := hB.cell 0; have c1 := hB.cell 1; have c2 := hB.cell 2
    simp at c0 c1 c2
    have hgg := grown_trans hg1 (grown_trans (World.grownBy_alloc w1 _ (some R)) hg2)
    have hGG := hid hgg
    clear hB hg2 hgg
    obtain rfl | rfl | rfl : k = 0 ∨ k = 1 ∨ k = 2 := by omega
    all_goals
      go_wp2_with fail
      go_ret
      exact ⟨_, rfl, hR2, hGG.out⟩
  by_cases e1 : k = 1
  · subst e1
    go_wp2_with fail
    go_ret
    exact ⟨_, rfl, hR1, hg1⟩
  by_cases e2 : k = 2
  · subst e2
    go_wp2_with fail
    go_ret
    exact ⟨_, rfl, hR1, hg1⟩
  · go_wp2_with fail
    refine (below_draw R n cap A 24 _ hR1 (by omega) (by omega)).mono ?_
    rintro e w2 ⟨x, rfl, hx0, hx1, hR2, hg2⟩
    go_wp2_with fail
    go_ret
    exact ⟨_, rfl, hR2, grown_trans hg1 hg2⟩

theorem own_grown {w w' : World} {base : Nat} {e : TypeId} {size : Nat} {v : Value} {m R : Nat} {xs : List Value} (h : w.ownsRow base e size v m xs) (hg : w.grownBy w' (some R)) (hR : R < base) : w'.ownsRow base e size v m xs := by
  refine h.kept hg ?_
  cases hv : v.ownBlock with
  | none => exact .inl rfl
  | some k => right; have := (h.lt k hv).1; simp; omega

theorem grown_own {w w1 w3 : World} {r row : Option Nat} (h : w.grownBy w1 r) (o : Obj) (hg : (w1.alloc o).grownBy w3 row) (hr : ∀ k, row = some k → w.heap.size ≤ k) : w.grownBy w3 r := by
  have h1 := grown_trans h (World.grownBy_alloc w1 o r)
  exact ⟨hg.os.trans h1.os, hg.tape.trans h1.tape, hg.output.trans h1.output, Nat.le_trans h1.size hg.size, fun i hi hne => (hg.block i (Nat.lt_of_lt_of_le hi h1.size) (fun e => by have := hr i e.symm; omega)).trans (h1.block i hi hne)⟩
theorem rs_own {w1 w3 : World} {B R n cap : Nat} {A : Option Addr} {row : Option Nat} (h : Rs w1 R A n cap) (o : Obj) (hg : (w1.alloc o).grownBy w3 row) (hr : ∀ k, row = some k → B ≤ k) (hB : R < B) : Rs w3 R A n cap :=
  (h.alloc o).keep fun b hb => hg.block b (by have := (h.alloc o).lt; omega) (fun e => by have := hr b e.symm; omega)
def ext (z : Nat → Int) (k : Nat) (x : Int) : Nat → Int := fun j => if j = k then x else z j
theorem numsOf_ext (k : Nat) (z : Nat → Int) (x : Int) : numsOf (k + 1) (ext z k x) = numsOf k z ++ [.int .i64 x] := by
  rw [numsOf_succ]
  have e1 : numsOf k (ext z k x) = numsOf k z := by
    unfold numsOf
    refine List.map_congr_left fun j hj => ?_
    have : j ≠ k := by simp at hj; omega
    unfold ext
    rw [if_neg this]
  rw [e1]
  unfold ext
  rw [if_pos rfl]

set_option maxHeartbeats 2000000 in
theorem doc_draw (R n cap : Nat) (A : Option Addr) (m : Nat) (w : World) (h : Rs w R A n cap) (hm : m ≤ 16) :
    Calls Tryz.prog 108 #[.pointer (some ⟨R, 0, none⟩), .int .i64 m] w fun e w' =>
      ∃ (z : Nat → Int) (A' : Option Addr) (c : Nat), e = .returned (.slice A' m c) ∧ w'.ownsRow w.heap.size 2 1 (.slice A' m c) m (numsOf m z) ∧ Rs w' R A n cap ∧ w.grownBy w' (some R) := by
  obtain ⟨i0, hi0, hz0, hz1, hz2⟩ := info_parts info_int
  have hRw := h.lt
  go_enter Tryz.func108, Tryz.ntmps108
  go_wp2_with fail
  go_loopw [5, 6] (fun o i wr => ∃ (k : Nat) (z : Nat → Int) (A' : Option Addr) (c : Nat), k ≤ m ∧ i = .int .i64 k ∧ o = .slice A' k c ∧ wr.ownsRow w.heap.size 2 1 (.slice A' k c) k (numsOf k z) ∧ Rs wr R A n cap ∧ Hid (w.grownBy wr (some R)))
    (fun _ i _ => m - (intOf i).toNat)
  case atStart => exact ⟨0, nul, _, _, Nat.zero_le _, rfl, rfl, World.ownsRow_made w #[] 0 (Nat.le_refl _) (by unfold maxLen; omega) rfl, h.alloc _, World.grownBy_alloc _ _ _⟩
  case round =>
    obtain ⟨k, z, A', c, hk, rfl, rfl, hown, hR, hg⟩ := hrel
    by_cases hlt : k < m
    · have i1 : (k : Int) < (m : Int) := by omega
      have hsz := hg.out.size
      go_wp2_with fail
      refine (feat_draw R n cap A _ hR).mono ?_
      rintro e w1 ⟨x, rfl, hR1, hg1⟩
      have hown1 := own_grown hown hg1 hRw
      have hgg := grown_trans hg.out hg1
      have hs1 := hgg.size
      have HG := hid hgg
      clear hgg hg1 hown hR hg
      go_wp2_with (at_builtin; refine wpList_append_own _ rfl (.tmp 13) (.tmp 16) 67 rfl w.heap.size 2 i0 (.int .i64 0) 1 8 Tryz.underlying67 hi0 hz0 hz1 hz2 rfl (by decide) _ k _ rfl (hown1.alloc _) ⟨w1.heap.size, 0, none⟩ 1 1 [.int .i64 x] rfl rfl (cell_one_new _ _ _) (by intro u hu; simp at hu; subst hu; rfl) (by unfold maxLen; omega) (by omega) (by simp; omega) ?_)
      intro v' w3 hown3 hg3 _
      have hgW := grown_own HG.out _ hg3 (fun x hx => (hown1.lt x hx).1)
      have hR3 := rs_own (B := w.heap.size) hR1 _ hg3 (fun x hx => (hown1.lt x hx).1) hRw
      have HGW := hid hgW
      clear hg3 hgW hown1 hR1
      obtain ⟨A3, c3, rfl⟩ := own_form hown3
      go_wp2_with fail
      go_roundw
      case rel => exact ⟨k + 1, ext z k x, A3, c3, by omega, by go_num, rfl, by rw [numsOf_ext]; exact hown3, hR3, HGW⟩
      case measure => simp [intOf]; omega
    · have e : k = m := by omega
      go_wp2_with fail
      go_ret
      subst e
      exact ⟨z, A', c, rfl, hown, hR, hg.out⟩

/-- What a drawn document comes to: some numbers, eight at most, that can be read. -/
def DocDrawn (R n cap : Nat) (A : Option Addr) (w : World) (e : Ending) (w' : World) : Prop :=
  ∃ (m : Nat) (z : Nat → Int) (A' : Option Addr) (c : Nat), m ≤ 17 ∧ e = .returned (.slice A' m c) ∧ (0 < m → ∃ g, A' = some ⟨g, 0, none⟩ ∧ R < g ∧ Row w' 2 g m z) ∧ Rs w' R A n cap ∧ Below R w w'

theorem rd_own {w : World} {base R : Nat} {e : TypeId} {A' : Option Addr} {m c : Nat} {z : Nat → Int} (hR : R < base) (h : w.ownsRow base e 1 (.slice A' m c) m (numsOf m z)) : 0 < m → ∃ g, A' = some ⟨g, 0, none⟩ ∧ R < g ∧ Row w e g m z := fun hm => by
  obtain ⟨g, c', hv, hg, hr⟩ := own_row h hm
  injection hv with e1 _ _
  exact ⟨g, e1, by omega, hr⟩
theorem below_of_grown {w w' : World} {R : Nat} (h : w.grownBy w' (some R)) : Below R w w' ∨ w.heap.size < R := by
  rcases Nat.lt_or_ge w.heap.size R with hlt | hge
  · exact .inr hlt
  · exact .inl ⟨h.os, h.tape, h.output, h.size, fun k hk => h.block k (by omega) (by intro e; injection e with e; omega)⟩
theorem below_grown {w w' : World} {R : Nat} (h : w.grownBy w' (some R)) (hR : R < w.heap.size) : Below R w w' :=
  ⟨h.os, h.tape, h.output, h.size, fun k hk => h.block k (by omega) (by intro e; injection e with e; omega)⟩

set_option maxRecDepth 100000 in
set_option maxHeartbeats 4000000 in
theorem hurtDoc_draw (R n cap B : Nat) (A A' : Option Addr) (m c : Nat) (z : Nat → Int) (w : World) (h : Rs w R A n cap) (hB : R < B) (hBw : B ≤ w.heap.size) (hm : m ≤ 16) (hown : w.ownsRow B 2 1 (.slice A' m c) m (numsOf m z)) :
    Calls Tryz.prog 106 #[.pointer (some ⟨R, 0, none⟩), .slice A' m c] w (DocDrawn R n cap A w) := by
  obtain ⟨i0, hi0, hz0, hz1, hz2⟩ := info_parts info_int
  have hRw := h.lt
  go_enter Tryz.func106, Tryz.ntmps106
  go_wp2_with fail
  refine (below_draw R n cap A 30 _ h (by omega) (by omega)).mono ?_
  rintro e w1 ⟨k, rfl, hk0, hk1, hR1, hg1⟩
  have hown1 := own_grown hown hg1 hB
  have hb1 := below_grown hg1 hRw
  have hRw1 := hR1.lt
  have hs1 := hg1.size
  clear hg1 hown
  by_cases e0 : k = 0
  · subst e0
    go_wp2_with (at_builtin; refine wpList_append_own _ rfl (.tmp 9) (.tmp 10) 67 rfl B 2 i0 (.int .i64 0) 1 8 Tryz.underlying67 hi0 hz0 hz1 hz2 rfl (by decide) _ m _ rfl (hown1.alloc _) ⟨w1.heap.size, 0, none⟩ 1 1 [.int .i64 0] rfl rfl (cell_one_new _ _ _) (by intro u hu; simp at hu; subst hu; rfl) (by unfold maxLen; omega) (by omega) (by simp; omega) ?_)
    intro v' w3 hown3 hg3 _
    have hR3 := rs_own (B := B) hR1 _ hg3 (fun x hx => (hown1.lt x hx).1) hB
    have hb3 : Below R w1 w3 := ((Below.refl R w1).alloc (by omega) _).grown hg3 (by simp; omega) (fun x hx => by have := (hown1.lt x hx).1; omega)
    obtain ⟨A3, c3, rfl⟩ := own_form hown3
    clear hg3
    go_wp2_with fail
    go_ret
    exact ⟨m + 1, ext z m 0, A3, c3, by omega, rfl, rd_own hB (by rw [numsOf_ext]; exact hown3), hR3, hb1.trans hb3⟩
  by_cases e1 : k = 1
  · subst e1
    go_wp2_with fail
    go_ret
    exact ⟨0, nul, none, 0, by omega, rfl, (fun h => absurd h (by omega)), hR1, hb1⟩
  by_cases e2 : k = 2
  · subst e2
    by_cases hm0 : 0 < m
    · have i1 : (0 : Int) < (m : Int) := by omega
      go_wp2_with fail
      refine (off_draw R n cap A (-1000000) 1000000 _ hR1 (by omega) (by omega) (by omega) (by omega)).mono ?_
      rintro e w2 ⟨x, rfl, hR2, hg2⟩
      have hown2 := own_grown hown1 hg2 hB
      have hb2 := below_grown hg2 hRw1
      obtain ⟨g, c', hv, hgB, hr⟩ := own_row hown2 hm0
      injection hv with ev1 ev2 ev3
      subst ev1
      have hc := hr.cell hm0
      have hf := hr.frozen 0
      have hbb := hb1.trans hb2
      have hne : R < g := by omega
      clear hg2 hown2 hown1 hb1 hb2
      go_wp2_with fail
      go_ret
      refine ⟨m, _, _, _, by omega, rfl, (fun _ => ⟨g, rfl, by omega, hr.set_ (i := 0) x⟩), ?_, hbb.setCell (by simp; omega) _⟩
      exact hR2.keep fun b hb => Below.heap_setCell _ _ _ b (by simp; omega)
    · have i1 : ¬ (0 : Int) < (m : Int) := by omega
      have hm00 : m = 0 := by omega
      subst hm00
      go_wp2_with fail
      go_ret
      exact ⟨0, nul, _, c, by omega, rfl, (fun h => absurd h (by omega)), hR1, hb1⟩
  by_cases e3 : k = 3
  · subst e3
    have hmk6 := run_make_row' (P := Tryz.prog) 67 2 (.int .i64 0) 8 Tryz.underlying67 info_int rfl .i64 .i64 6 (by omega) (by omega)
    have hmk7 := run_make_row' (P := Tryz.prog) 67 2 (.int .i64 0) 8 Tryz.underlying67 info_int rfl .i64 .i64 7 (by omega) (by omega)
    simp only [Int.cast_ofNat_Int] at hmk6 hmk7
    go_wp2_with fail
    refine (below_draw R n cap A 2 _ hR1 (by omega) (by omega)).mono ?_
    rintro e w2 ⟨x, rfl, hx0, hx1, hR2, hg2⟩
    have hbb := hb1.trans (below_grown hg2 hRw1)
    have hRw2 := hR2.lt
    clear hg2 hb1
    obtain rfl | rfl : x = 0 ∨ x = 1 := by omega
    · clear hmk7
      go_wp2_with fail
      go_ret
      exact ⟨6, nul, _, 6, by omega, rfl, (fun _ => ⟨_, rfl, hRw2, _, Blk.new w2 _ _, by simp [madeCells], fun j hj => by simp [madeCells, hj, nul, Nat.mod_one]⟩), hR2.alloc _, hbb.alloc (by omega) _⟩
    · clear hmk6
      go_wp2_with fail
      go_ret
      exact ⟨7, nul, _, 7, by omega, rfl, (fun _ => ⟨_, rfl, hRw2, _, Blk.new w2 _ _, by simp [madeCells], fun j hj => by simp [madeCells, hj, nul, Nat.mod_one]⟩), hR2.alloc _, hbb.alloc (by omega) _⟩
  · go_wp2_with fail
    go_ret
    exact ⟨m, z, A', c, by omega, rfl, rd_own hB hown1, hR1, hb1⟩
end

/-! ### DrawC -/
section
set_option linter.unusedVariables false
set_option linter.unusedSimpArgs false
open Go.RowKit Go.Deep

theorem open_draw (A : Option Addr) (n cap : Nat) (w : World) (h : Bs w w.heap.size A n) (hn : n ≤ 4194304) :
    Calls Tryz.prog 27 #[.slice A n cap] w fun e w' =>
      e = .returned (.pointer (some ⟨w.heap.size, 0, none⟩)) ∧ Rs w' w.heap.size A n cap ∧ Below w.heap.size w w' := by
  go_enter Tryz.func27, Tryz.ntmps27
  go_wp2_with fail
  go_ret
  have hb : Below w.heap.size w (w.alloc (.cells #[.slice A n cap, .int .i64 0] 92)) := (Below.refl _ _).alloc (Nat.le_refl _) _
  exact ⟨rfl, ⟨⟨0, Nat.zero_le _, Blk.new w _ _⟩, h.keep fun p hp => hb.cell hp, hn⟩, hb⟩

theorem doc_drawI (R n cap : Nat) (A : Option Addr) (mI : Int) (w : World) (h : Rs w R A n cap) (h0 : 0 ≤ mI) (hm : mI ≤ 16) :
    Calls Tryz.prog 108 #[.pointer (some ⟨R, 0, none⟩), .int .i64 mI] w fun e w' =>
      ∃ (m : Nat) (z : Nat → Int) (A' : Option Addr) (c : Nat), m ≤ 16 ∧ e = .returned (.slice A' m c) ∧ w'.ownsRow w.heap.size 2 1 (.slice A' m c) m (numsOf m z) ∧ Rs w' R A n cap ∧ w.grownBy w' (some R) := by
  obtain ⟨m, rfl⟩ := Int.eq_ofNat_of_zero_le h0
  exact (doc_draw R n cap A m w h (by omega)).mono fun e w' ⟨z, A', c, h1, h2, h3, h4⟩ => ⟨m, z, A', c, by omega, h1, h2, h3, h4⟩

/-- A drawn list of numbers. -/
def DrawnDoc (w : World) (e : Ending) (w' : World) : Prop :=
  ∃ (m : Nat) (z : Nat → Int) (A' : Option Addr) (c : Nat), m ≤ 17 ∧ e = .returned (.slice A' m c) ∧ Rd w' w'.heap.size A' m z ∧ Below w.heap.size w w'

/-- A drawn list of numbers, a place and a number. -/
def DrawnWith (w : World) (e : Ending) (w' : World) : Prop :=
  ∃ (m : Nat) (z : Nat → Int) (A' : Option Addr) (c : Nat) (i x : Int), m ≤ 17 ∧ e = .returned (.tuple #[.slice A' m c, .int .i64 i, .int .i64 x]) ∧ Rd w' w'.heap.size A' m z ∧ Below w.heap.size w w'

theorem row_keepR {w w' : World} {R m : Nat} {A' : Option Addr} {z : Nat → Int} (h : 0 < m → ∃ g, A' = some ⟨g, 0, none⟩ ∧ R < g ∧ Row w 2 g m z) (hg : w.grownBy w' (some R)) : 0 < m → ∃ g, A' = some ⟨g, 0, none⟩ ∧ R < g ∧ Row w' 2 g m z := fun hm => by
  obtain ⟨g, e, hlt, hr⟩ := h hm
  exact ⟨g, e, hlt, row_grown hr hg (by omega)⟩

end
end Go.Proofs.YtmkipdhappikhaaGreatDoor
