/- Paths, boxes, leaves. -/
import Derived.Test.YtmkipdhappikhaaDoorK3
import Derived.Deep.LoopGhost
import Derived.Test.YtmkipdhappikhaaDoorK2
namespace Go.Proofs.YtmkipdhappikhaaDoor

/-! ### TreeL -/
section
set_option linter.unusedVariables false
set_option linter.unusedSimpArgs false
open Go.RowKit Go.Deep

theorem own_blk_ne {w : World} {g : Nat} {t : TypeId} {cs : Array Value} {base : Nat} {e : TypeId} {size n : Nat} {v : Value} {xs : List Value} (h : w.ownsRow base e size v n xs) (hg : Blk w g t cs) (hne : e ≠ t) : some g ≠ v.ownBlock := by
  rcases h.2 with ⟨rfl, _⟩ | ⟨g', cap, cur, rfl, _, hh, _⟩
  · simp [Value.ownBlock]
  · intro he
    have : g' = g := by simpa [Value.ownBlock] using he.symm
    subst this
    exact Blk.ne_ (t := e) hh hg hne rfl
theorem Twigs.grown {w w' : World} {g : Nat → Nd} {n m : Nat} {P : Nat → Nat} {row : Option Nat} (h : Twigs w g n m P) (hg : w.grownBy w' row) (hne : ∀ j, m ≤ j → j < n → some (P j) ≠ row) : Twigs w' g n m P :=
  fun j h1 h2 => Blk.grown (h j h1 h2) hg (hne j h1 h2)
theorem Twigs.alloc {w : World} {g : Nat → Nd} {n m : Nat} {P : Nat → Nat} (h : Twigs w g n m P) (o : Obj) : Twigs (w.alloc o) g n m P := fun j h1 h2 => Blk.alloc (h j h1 h2) o
theorem nxP_nxt {g : Nat → Nd} {a k f : Nat} {z : Nat → Int} {P : Nat → Nat} (h0 : (g a).left ≠ 0) (hk : (g a).feat = k) (hkf : k < f) :
    nxP (g a) (pad f z k) (kidL (g a) P) (kidR (g a) P) = some ⟨P (nxt g z a), 0, none⟩ := by
  unfold nxP nxt kidL kidR pad
  rw [if_pos hkf, hk, Int.toNat_natCast, if_neg h0, if_neg h0]
  split <;> rfl

/-- The loop's relation: alive behind t steps, or at its end. -/
def Alive (g : Nat → Nd) (z : Nat → Int) (P : Nat → Nat) (t : Nat) (q : Value) : Prop :=
  (q = .pointer (some ⟨P (itr g z t), 0, none⟩) ∧ ∀ s, s < t → (g (itr g z s)).left ≠ 0) ∨ (q = .pointer none ∧ ∃ T, t = T + 1 ∧ T < 15 ∧ Ends g z T)

end

/-! ### PathLaw -/
section
set_option linter.unusedVariables false
set_option linter.unusedSimpArgs false
open Go.RowKit Go.Deep

set_option maxHeartbeats 2000000 in
theorem markN_any (n cap b : Nat) (g : Nat → Nd) (k0 : Int) (w : World) (h : RowN w 48 b n g) (hn : n ≤ 4194304) (h0 : 0 ≤ k0) (h1 : k0 ≤ 100000) :
    Calls Tryd.prog 57 #[.slice (some ⟨b, 0, none⟩) n cap, .int .i64 k0] w fun e w' =>
      ∃ k1 : Int, e = .returned (.int .i64 k1) ∧ 0 ≤ k1 ∧ k1 ≤ 100000000 ∧ w.grownBy w' (some b) := by
  obtain ⟨cs, hB, hsz, _⟩ := h
  go_enter Tryd.func57, Tryd.ntmps57
  go_wp2_with fail
  go_loopw [1, 5] (fun k i wr => ∃ (m : Nat) (cs : Array Value) (y : Int), m ≤ n ∧ i = .int .i64 m ∧ k = .int .i64 y ∧ k0 + 6 * (m : Int) ≤ y ∧ y ≤ k0 + 6 * (m : Int) ∧ Blk wr b 48 cs ∧ n * 6 ≤ cs.size ∧ Hid (w.grownBy wr (some b)))
    (fun _ i _ => n - (intOf i).toNat)
  case atStart => exact ⟨0, cs, k0, Nat.zero_le _, rfl, rfl, by omega, by omega, hB, hsz, World.grownBy.refl _ _⟩
  case round =>
    obtain ⟨m, cs, y, hm, rfl, rfl, hy1, hy2, hB, hsz, hg⟩ := hrel
    by_cases hlt : m < n
    · have hl : (m : Int) < (n : Int) := by omega
      have s0 : wr.cell? ⟨b, m * 6, none⟩ = some (cs[m * 6]'(by omega)) := by rw [hB.cell, Array.getElem?_eq_getElem]
      have s1 : wr.cell? ⟨b, m * 6 + 1, none⟩ = some (cs[m * 6 + 1]'(by omega)) := by rw [hB.cell, Array.getElem?_eq_getElem]
      have s2 : wr.cell? ⟨b, m * 6 + 2, none⟩ = some (cs[m * 6 + 2]'(by omega)) := by rw [hB.cell, Array.getElem?_eq_getElem]
      have s3 : wr.cell? ⟨b, m * 6 + 3, none⟩ = some (cs[m * 6 + 3]'(by omega)) := by rw [hB.cell, Array.getElem?_eq_getElem]
      have s4 : wr.cell? ⟨b, m * 6 + 4, none⟩ = some (cs[m * 6 + 4]'(by omega)) := by rw [hB.cell, Array.getElem?_eq_getElem]
      have s5 : wr.cell? ⟨b, m * 6 + 5, none⟩ = some (cs[m * 6 + 5]'(by omega)) := by rw [hB.cell, Array.getElem?_eq_getElem]
      have f0 := hB.frozen (m * 6); have f1 := hB.frozen (m * 6 + 1); have f2 := hB.frozen (m * 6 + 2); have f3 := hB.frozen (m * 6 + 3); have f4 := hB.frozen (m * 6 + 4); have f5 := hB.frozen (m * 6 + 5)
      go_wp2_with fail
      go_roundw
      case rel =>
        refine ⟨m + 1, _, _, by omega, by go_num, rfl, by omega, by omega, (((((hB.set_ (m * 6) _).set_ (m * 6 + 1) _).set_ (m * 6 + 2) _).set_ (m * 6 + 3) _).set_ (m * 6 + 4) _).set_ (m * 6 + 5) _, by simp only [Array.size_setIfInBounds]; exact hsz, ?_⟩
        exact grown_trans (grown_trans (grown_trans (grown_trans (grown_trans (grown_trans hg.out (grown_set _)) (grown_set _)) (grown_set _)) (grown_set _)) (grown_set _)) (grown_set _)
      case measure => simp [intOf]; omega
    · have e : m = n := by omega
      go_wp2_with fail
      go_ret
      exact ⟨y, rfl, by omega, by omega, hg.out⟩

theorem rowN_grown {w w' : World} {t : TypeId} {b b' n : Nat} {g : Nat → Nd} (h : RowN w t b n g) (hg : w.grownBy w' (some b')) (hne : b ≠ b') : RowN w' t b n g :=
  h.keep (hg.block b h.lt (by simpa using hne))

end

/-! ### BoxB -/
section
set_option linter.unusedVariables false
set_option linter.unusedSimpArgs false
open Go.RowKit Go.Deep

end

/-! ### BoxC -/
section
set_option linter.unusedVariables false
set_option linter.unusedSimpArgs false
open Go.RowKit Go.Deep

theorem boxHas_no1 {n f : Nat} {g : Nat → Sp} {z : Nat → Int} (h : boxB n g = false) : boxHasB n g f z = false := by unfold boxHasB; rw [h]; rfl
theorem boxHas_no2 {n f : Nat} {g : Nat → Sp} {z : Nat → Int} (h : docB f z = false) : boxHasB n g f z = false := by unfold boxHasB; rw [h, Bool.and_false]; rfl
theorem boxHas_no3 {n f : Nat} {g : Nat → Sp} {z : Nat → Int} (h : ¬ n = f) : boxHasB n g f z = false := by unfold boxHasB; rw [decide_eq_false h, Bool.false_and, Bool.and_false]
theorem boxHas_yes {n : Nat} {g : Nat → Sp} {z : Nat → Int} (h : boxB n g = true) (h' : docB n z = true) : boxHasB n g n z = allP (fun i => hasS (g i) (z i)) n := by unfold boxHasB; rw [h, h', decide_eq_true rfl]; rfl

end

/-! ### LeafLaw -/
section
set_option linter.unusedVariables false
set_option linter.unusedSimpArgs false
open Go.RowKit Go.Deep

/-- What LeafOf gives for a tree and a document that fit. -/
def LeafPost (g : Nat → Nd) (z : Nat → Int) (w : World) (e : Ending) (w' : World) : Prop :=
  ∃ T, Ends g z T ∧ e = .returned (.int .i64 (seqZ g z T)) ∧ Below w.heap.size w w'

end
end Go.Proofs.YtmkipdhappikhaaDoor
