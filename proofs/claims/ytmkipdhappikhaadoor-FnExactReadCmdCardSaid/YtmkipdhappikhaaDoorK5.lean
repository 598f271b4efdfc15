/- Draws. -/
import Derived.Test.YtmkipdhappikhaaDoorK4
import Derived.Test.YtmkipdhappikhaaDoorK3
import Derived.Laws.EntriesVeiled
namespace Go.Proofs.YtmkipdhappikhaaDoor

/-! ### DrawA -/
section
set_option linter.unusedVariables false
set_option linter.unusedSimpArgs false
open Go.RowKit Go.Deep

/-- The slice at A reads as n bytes, and lies below block B. -/
def Bs (w : World) (B : Nat) (A : Option Addr) (n : Nat) : Prop :=
  0 < n → ∃ b off, A = some ⟨b, off, none⟩ ∧ b < B ∧ ∀ i, i < n → ∃ x : Int, w.cell? ⟨b, off + i, none⟩ = some (.int .u8 x) ∧ 0 ≤ x ∧ x ≤ 255
section
variable {w w' : World} {R n cap : Nat} {A : Option Addr}
theorem Bs.keep {B : Nat} (h : Bs w B A n) (hk : ∀ p : Addr, p.block < B → w'.cell? p = w.cell? p) : Bs w' B A n := fun hn => by
  obtain ⟨b, off, e, hb, hc⟩ := h hn
  refine ⟨b, off, e, hb, fun i hi => ?_⟩
  obtain ⟨x, hx, hr⟩ := hc i hi
  exact ⟨x, (hk _ hb).trans hx, hr⟩
theorem Bs.more {B B' : Nat} (h : Bs w B A n) (hB : B ≤ B') : Bs w B' A n := fun hn => by
  obtain ⟨b, off, e, hb, hc⟩ := h hn
  exact ⟨b, off, e, by omega, hc⟩
end

theorem grown_drew {w : World} (m : Nat) (r : Option Nat) : w.grownBy (w.drewN m) r := ⟨rfl, rfl, rfl, Nat.le_refl _, fun _ _ _ => rfl⟩

theorem or_bd (a b : Int) : 0 ≤ bits .or .u64 a b ∧ bits .or .u64 a b ≤ 18446744073709551615 := by
  show 0 ≤ IntKind.u64.wrap _ ∧ IntKind.u64.wrap _ ≤ _
  rw [IntKind.wrap_u64]
  omega

end

/-! ### DrawB -/
section
set_option linter.unusedVariables false
set_option linter.unusedSimpArgs false
open Go.RowKit Go.Deep

theorem own_grown {w w' : World} {base : Nat} {e : TypeId} {size : Nat} {v : Value} {m R : Nat} {xs : List Value} (h : w.ownsRow base e size v m xs) (hg : w.grownBy w' (some R)) (hR : R < base) : w'.ownsRow base e size v m xs := by
  refine h.kept hg ?_
  cases hv : v.ownBlock with
  | none => exact .inl rfl
  | some k => right; have := (h.lt k hv).1; simp; omega

theorem grown_own {w w1 w3 : World} {r row : Option Nat} (h : w.grownBy w1 r) (o : Obj) (hg : (w1.alloc o).grownBy w3 row) (hr : ∀ k, row = some k → w.heap.size ≤ k) : w.grownBy w3 r := by
  have h1 := grown_trans h (World.grownBy_alloc w1 o r)
  exact ⟨hg.os.trans h1.os, hg.tape.trans h1.tape, hg.output.trans h1.output, Nat.le_trans h1.size hg.size, fun i hi hne => (hg.block i (Nat.lt_of_lt_of_le hi h1.size) (fun e => by have := hr i e.symm; omega)).trans (h1.block i hi hne)⟩
def ext (z : Nat → Int) (k : Nat) (x : Int) : Nat → Int := fun j => if j = k then x else z j
theorem numsOf_ext (k : Nat) (z : Nat → Int) (x : Int) : numsOf (k + 1) (ext z k x) = numsOf k z ++ [.int .i64 x] := by
  rw [numsOf_succ]
  have e1 : numsOf k (ext z k x) = numsOf k z := by
    unfold numsOf
    refine List.map_congr_left fun j hj => ?_
    have : j ≠ k := by simp at hj; omega
    unfold ext
    rw [if_neg this]
  rw [e1]
  unfold ext
  rw [if_pos rfl]

theorem rd_own {w : World} {base R : Nat} {e : TypeId} {A' : Option Addr} {m c : Nat} {z : Nat → Int} (hR : R < base) (h : w.ownsRow base e 1 (.slice A' m c) m (numsOf m z)) : 0 < m → ∃ g, A' = some ⟨g, 0, none⟩ ∧ R < g ∧ Row w e g m z := fun hm => by
  obtain ⟨g, c', hv, hg, hr⟩ := own_row h hm
  injection hv with e1 _ _
  exact ⟨g, e1, by omega, hr⟩
theorem below_of_grown {w w' : World} {R : Nat} (h : w.grownBy w' (some R)) : Below R w w' ∨ w.heap.size < R := by
  rcases Nat.lt_or_ge w.heap.size R with hlt | hge
  · exact .inr hlt
  · exact .inl ⟨h.os, h.tape, h.output, h.size, fun k hk => h.block k (by omega) (by intro e; injection e with e; omega)⟩
theorem below_grown {w w' : World} {R : Nat} (h : w.grownBy w' (some R)) (hR : R < w.heap.size) : Below R w w' :=
  ⟨h.os, h.tape, h.output, h.size, fun k hk => h.block k (by omega) (by intro e; injection e with e; omega)⟩

end

/-! ### DrawC -/
section
set_option linter.unusedVariables false
set_option linter.unusedSimpArgs false
open Go.RowKit Go.Deep

/-- A drawn list of numbers. -/
def DrawnDoc (w : World) (e : Ending) (w' : World) : Prop :=
  ∃ (m : Nat) (z : Nat → Int) (A' : Option Addr) (c : Nat), m ≤ 17 ∧ e = .returned (.slice A' m c) ∧ Rd w' w'.heap.size A' m z ∧ Below w.heap.size w w'

/-- A drawn list of numbers, a place and a number. -/
def DrawnWith (w : World) (e : Ending) (w' : World) : Prop :=
  ∃ (m : Nat) (z : Nat → Int) (A' : Option Addr) (c : Nat) (i x : Int), m ≤ 17 ∧ e = .returned (.tuple #[.slice A' m c, .int .i64 i, .int .i64 x]) ∧ Rd w' w'.heap.size A' m z ∧ Below w.heap.size w w'

theorem row_keepR {w w' : World} {R m : Nat} {A' : Option Addr} {z : Nat → Int} (h : 0 < m → ∃ g, A' = some ⟨g, 0, none⟩ ∧ R < g ∧ Row w 2 g m z) (hg : w.grownBy w' (some R)) : 0 < m → ∃ g, A' = some ⟨g, 0, none⟩ ∧ R < g ∧ Row w' 2 g m z := fun hm => by
  obtain ⟨g, e, hlt, hr⟩ := h hm
  exact ⟨g, e, hlt, row_grown hr hg (by omega)⟩

end
end Go.Proofs.YtmkipdhappikhaaDoor
