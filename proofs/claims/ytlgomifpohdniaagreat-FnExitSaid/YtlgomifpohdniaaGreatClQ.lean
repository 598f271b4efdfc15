/- What is known of a score lies around it; what follows for thresholds. -/
import Derived.Test.YtlgomifpohdniaaGreatStR
namespace Go.Proofs.YtlgomifpohdniaaGreat
open Go.RowKit
set_option linter.unusedVariables false

theorem lvv_spanC {g : Nat → Nd} {n : Nat} {f : Int} (z : Nat → Int) (h : treeB g n f = true) : loTo g n ≤ lvv g z ∧ lvv g z ≤ hiTo g n := by
  have hT := (treeB_iff g n f).1 h
  have hn := hT.2.1
  obtain ⟨T, hlt, hE⟩ := ends_some z hT.up (by omega)
  rw [lvv_is hE (by omega)]
  have hi := (itr_up z hT.up (by omega) T hE.1).2
  exact ⟨loTo_le g n _ hi hE.2, hiTo_ge g n _ hi hE.2⟩
/-- Behind k trees the score lies between the bounds. -/
theorem score_within {f b : Int} {n : Nat} {len : Nat → Nat} {g : Nat → Nat → Nd} {n1 n2 n3 n4 : Nat} {z1 z2 z3 z4 : Nat → Int} (h : planB f b n len g n1 z1 n2 z2 n3 z3 n4 z4 = true) (z : Nat → Int) :
    ∀ d k, k + d = n → sumT (scO g (ordN z1) z) k + z3 k ≤ sumT (scO g (ordN z1) z) n ∧ sumT (scO g (ordN z1) z) n ≤ sumT (scO g (ordN z1) z) k + z4 k := by
  obtain ⟨hE, -, -, -, hs, e3, e4, -, -, -⟩ := planB_says h
  have hT := (ensB_iff.1 hE).2.2.2
  intro d
  induction d with
  | zero =>
    intro k hk
    have : k = n := by omega
    rw [this, e3, e4]
    omega
  | succ d ih =>
    intro k hk
    obtain ⟨x, hx, e1, h3, h4⟩ := hs k (by omega)
    have hi := ih (k + 1) (by omega)
    have hv := lvv_spanC z (hT x hx)
    have e5 : sumT (scO g (ordN z1) z) (k + 1) = sumT (scO g (ordN z1) z) k + scO g (ordN z1) z k := rfl
    have e6 : scO g (ordN z1) z k = lvv (g x) z := by
      unfold scO ordN
      rw [e1]
      rfl
    rw [e5, e6] at hi
    omega
theorem score_in {f b : Int} {n : Nat} {len : Nat → Nat} {g : Nat → Nat → Nd} {n1 n2 n3 n4 : Nat} {z1 z2 z3 z4 : Nat → Int} (h : planB f b n len g n1 z1 n2 z2 n3 z3 n4 z4 = true) (z : Nat → Int) {k : Nat} (hk : k ≤ n) :
    sumT (scO g (ordN z1) z) k + z3 k ≤ sumT (scO g (ordN z1) z) n ∧ sumT (scO g (ordN z1) z) n ≤ sumT (scO g (ordN z1) z) k + z4 k := score_within h z (n - k) k (by omega)
/-- What is answered is what the score says. -/
theorem cl_says {f b : Int} {n : Nat} {len : Nat → Nat} {g : Nat → Nat → Nd} {n1 n2 n3 n4 : Nat} {z1 z2 z3 z4 z : Nat → Int} {t : Int} {B : Bool} {a s q : Int} (h : planB f b n len g n1 z1 n2 z2 n3 z3 n4 z4 = true) (hA : ClAns b n g z1 n2 z2 z3 z4 z t true B a s q) :
    B = decide (b + sumT (scO g (ordN z1) z) n ≥ t) := by
  obtain ⟨k, hk, hB, -, -, -⟩ := hA.2 rfl
  have hs := score_in h z hk.1
  have he : enB t (b + sumT (scO g (ordN z1) z) k + z3 k) (b + sumT (scO g (ordN z1) z) k + z4 k) = true := hk.2.2.1
  unfold enB at he
  rw [Bool.or_eq_true, decide_eq_true_eq, decide_eq_true_eq] at he
  rw [hB]
  by_cases q1 : b + sumT (scO g (ordN z1) z) k + z3 k ≥ t
  · rw [decide_eq_true q1, decide_eq_true (by omega)]
  · rw [decide_eq_false q1, decide_eq_false (by omega)]
theorem thr_pure {f b : Int} {n : Nat} {len : Nat → Nat} {g : Nat → Nat → Nd} {n1 n2 n3 n4 : Nat} {z1 z2 z3 z4 z : Nat → Int} {t y : Int} {B B' : Bool} {a s q a' s' q' : Int} (h : planB f b n len g n1 z1 n2 z2 n3 z3 n4 z4 = true)
    (hA : ClAns b n g z1 n2 z2 z3 z4 z t true B a s q) (hA' : ClAns b n g z1 n2 z2 z3 z4 z (t + y) true B' a' s' q') (hy : 0 ≤ y) : B' = true → B = true := by
  rw [cl_says h hA, cl_says h hA', decide_eq_true_eq, decide_eq_true_eq]
  omega
end Go.Proofs.YtlgomifpohdniaaGreat
