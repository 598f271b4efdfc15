/- Paths, boxes, leaves. -/
import Derived.Test.YtmkipdhappikhaaGreatDoorK3
import Derived.Deep.LoopGhost
import Derived.Test.YtmkipdhappikhaaGreatDoorK2
namespace Go.Proofs.YtmkipdhappikhaaGreatDoor

/-! ### TreeL -/
section
set_option linter.unusedVariables false
set_option linter.unusedSimpArgs false
open Go.RowKit Go.Deep

theorem own_blk_ne {w : World} {g : Nat} {t : TypeId} {cs : Array Value} {base : Nat} {e : TypeId} {size n : Nat} {v : Value} {xs : List Value} (h : w.ownsRow base e size v n xs) (hg : Blk w g t cs) (hne : e ≠ t) : some g ≠ v.ownBlock := by
  rcases h.2 with ⟨rfl, _⟩ | ⟨g', cap, cur, rfl, _, hh, _⟩
  · simp [Value.ownBlock]
  · intro he
    have : g' = g := by simpa [Value.ownBlock] using he.symm
    subst this
    exact Blk.ne_ (t := e) hh hg hne rfl
theorem Twigs.grown {w w' : World} {g : Nat → Nd} {n m : Nat} {P : Nat → Nat} {row : Option Nat} (h : Twigs w g n m P) (hg : w.grownBy w' row) (hne : ∀ j, m ≤ j → j < n → some (P j) ≠ row) : Twigs w' g n m P :=
  fun j h1 h2 => Blk.grown (h j h1 h2) hg (hne j h1 h2)
theorem Twigs.alloc {w : World} {g : Nat → Nd} {n m : Nat} {P : Nat → Nat} (h : Twigs w g n m P) (o : Obj) : Twigs (w.alloc o) g n m P := fun j h1 h2 => Blk.alloc (h j h1 h2) o
theorem nxP_nxt {g : Nat → Nd} {a k f : Nat} {z : Nat → Int} {P : Nat → Nat} (h0 : (g a).left ≠ 0) (hk : (g a).feat = k) (hkf : k < f) :
    nxP (g a) (pad f z k) (kidL (g a) P) (kidR (g a) P) = some ⟨P (nxt g z a), 0, none⟩ := by
  unfold nxP nxt kidL kidR pad
  rw [if_pos hkf, hk, Int.toNat_natCast, if_neg h0, if_neg h0]
  split <;> rfl

/-- The loop's relation: alive behind t steps, or at its end. -/
def Alive (g : Nat → Nd) (z : Nat → Int) (P : Nat → Nat) (t : Nat) (q : Value) : Prop :=
  (q = .pointer (some ⟨P (itr g z t), 0, none⟩) ∧ ∀ s, s < t → (g (itr g z s)).left ≠ 0) ∨ (q = .pointer none ∧ ∃ T, t = T + 1 ∧ T < 15 ∧ Ends g z T)

end

/-! ### PathLaw -/
section
set_option linter.unusedVariables false
set_option linter.unusedSimpArgs false
open Go.RowKit Go.Deep

theorem rowN_grown {w w' : World} {t : TypeId} {b b' n : Nat} {g : Nat → Nd} (h : RowN w t b n g) (hg : w.grownBy w' (some b')) (hne : b ≠ b') : RowN w' t b n g :=
  h.keep (hg.block b h.lt (by simpa using hne))

end

/-! ### BoxB -/
section
set_option linter.unusedVariables false
set_option linter.unusedSimpArgs false
open Go.RowKit Go.Deep

end

/-! ### BoxC -/
section
set_option linter.unusedVariables false
set_option linter.unusedSimpArgs false
open Go.RowKit Go.Deep

theorem boxHas_no1 {n f : Nat} {g : Nat → Sp} {z : Nat → Int} (h : boxB n g = false) : boxHasB n g f z = false := by unfold boxHasB; rw [h]; rfl
theorem boxHas_no2 {n f : Nat} {g : Nat → Sp} {z : Nat → Int} (h : docB f z = false) : boxHasB n g f z = false := by unfold boxHasB; rw [h, Bool.and_false]; rfl
theorem boxHas_no3 {n f : Nat} {g : Nat → Sp} {z : Nat → Int} (h : ¬ n = f) : boxHasB n g f z = false := by unfold boxHasB; rw [decide_eq_false h, Bool.false_and, Bool.and_false]
theorem boxHas_yes {n : Nat} {g : Nat → Sp} {z : Nat → Int} (h : boxB n g = true) (h' : docB n z = true) : boxHasB n g n z = allP (fun i => hasS (g i) (z i)) n := by unfold boxHasB; rw [h, h', decide_eq_true rfl]; rfl

end

/-! ### LeafLaw -/
section
set_option linter.unusedVariables false
set_option linter.unusedSimpArgs false
open Go.RowKit Go.Deep

/-- What LeafOf gives for a tree and a document that fit. -/
def LeafPost (g : Nat → Nd) (z : Nat → Int) (w : World) (e : Ending) (w' : World) : Prop :=
  ∃ T, Ends g z T ∧ e = .returned (.int .i64 (seqZ g z T)) ∧ Below w.heap.size w w'

end
end Go.Proofs.YtmkipdhappikhaaGreatDoor
