/- The text of an ensemble, both sides. -/
import Derived.Test.YthdljfidcoblfaaTxU
import Derived.Test.YthdljfidcoblfaaLaw
import Derived.Test.YthdljfidcoblfaaK8
import Derived.WalkMore
import Derived.IntWalk
import Derived.Laws.OwnMore
namespace Go.Proofs.Ythdljfidcoblfaa
open Go.RowKit Go.Deep

def entP (f b : Int) (len : Nat → Nat) (g : Nat → Nat → Nd) : Nat → ByteArray
  | 0 => decS f ++ ⟨#[32]⟩ ++ decS b
  | i + 1 => ntS (len i) (g i)
abbrev sepE : ByteArray := ⟨#[32, 124, 32]⟩
def entS (f b : Int) (n : Nat) (len : Nat → Nat) (g : Nat → Nat → Nd) : ByteArray := joinTo (entP f b len g) sepE (n + 1)
def ensS (f b : Int) (n : Nat) (len : Nat → Nat) (g : Nat → Nat → Nd) : ByteArray := if ensB f b n len g = true then entS f b n len g else ByteArray.empty
def EnIn (f b : Int) (n : Nat) (len : Nat → Nat) (g : Nat → Nat → Nd) : Prop := I64 f ∧ I64 b ∧ n ≤ 12 ∧ ∀ i, i < n → treeB (g i) (len i) 6 = true
theorem ens_in {f b : Int} {n : Nat} {len : Nat → Nat} {g : Nat → Nat → Nd} (h : ensB f b n len g = true) : EnIn f b n len g := by
  obtain ⟨⟨h1, h2⟩, ⟨h3, h4⟩, h5, h6⟩ := ensB_iff.1 h
  refine ⟨⟨by omega, by omega⟩, ⟨by omega, by omega⟩, h5, fun i hi => tree_moreO (h6 i hi) h2 (Int.le_refl _)⟩
theorem tree_sz {n : Nat} {g : Nat → Nd} (h : treeB g n 6 = true) : (ntS n g).size ≤ 1680 := by
  have h1 := ntS_size (tree_in h)
  have h2 := ((treeB_iff g n 6).1 h).2.1.2
  have : n * 112 ≤ 15 * 112 := Nat.mul_le_mul_right _ h2
  omega
theorem tree_le {n : Nat} {g : Nat → Nd} (h : treeB g n 6 = true) : n ≤ 15 := ((treeB_iff g n 6).1 h).2.1.2
theorem treS_yes {n : Nat} {g : Nat → Nd} (h : treeB g n 6 = true) : treS n g = ntS n g := by unfold treS; rw [if_pos h]
theorem entP_size {f b : Int} {n : Nat} {len : Nat → Nat} {g : Nat → Nat → Nd} (h : EnIn f b n len g) : ∀ i, i < n + 1 → (entP f b len g i).size ≤ 1680 := by
  intro i hi
  cases i with
  | zero =>
    have h1 := h.1.size
    have h2 := h.2.1.size
    show (decS f ++ ⟨#[32]⟩ ++ decS b).size ≤ 1680
    rw [ByteArray.size_append, ByteArray.size_append]
    show (decS f).size + 1 + _ ≤ _
    omega
  | succ i => exact tree_sz (h.2.2.2 i (by omega))
theorem ent_size {f b : Int} {n k : Nat} {len : Nat → Nat} {g : Nat → Nat → Nd} (h : EnIn f b n len g) (hk : k ≤ n) : (joinTo (entP f b len g) sepE (k + 1)).size ≤ (k + 1) * 1683 :=
  joinTo_size (f := entP f b len g) (sep := sepE) (M := 1680) (k + 1) (fun i hi => entP_size h i (by omega))
theorem ent_next {f b : Int} {k : Nat} {len : Nat → Nat} {g : Nat → Nat → Nd} : joinTo (entP f b len g) sepE (k + 1 + 1) = joinTo (entP f b len g) sepE (k + 1) ++ sepE ++ ntS (len k) (g k) := by
  show (if 0 < k + 1 then _ else _) ++ _ = _
  rw [if_pos (by omega), entP]
theorem ent_zero {f b : Int} {len : Nat → Nat} {g : Nat → Nat → Nd} : joinTo (entP f b len g) sepE (0 + 1) = decS f ++ ⟨#[32]⟩ ++ decS b := by
  show ByteArray.empty ++ _ = _
  rw [ByteArray.empty_append, entP]

theorem ent_step {f b : Int} {n k : Nat} {len : Nat → Nat} {g : Nat → Nat → Nd} {t : ByteArray} (h : EnIn f b n len g) (hk : k < n) (HT : t = joinTo (entP f b len g) sepE (k + 1)) :
    ∃ t2 t3, t ++ ⟨#[32, 124, 32]⟩ = t2 ∧ t2 ++ ntS (len k) (g k) = t3 ∧ ¬ 9223372036854775807 < t.size + 3 ∧ ¬ 9223372036854775807 < t2.size + (ntS (len k) (g k)).size ∧ Hid (t3 = joinTo (entP f b len g) sepE (k + 1 + 1)) := by
  have h1 := ent_size h (Nat.le_of_lt hk)
  rw [← HT] at h1
  have h2 := tree_sz (h.2.2.2 k hk)
  have h12 := h.2.2.1
  have h3 : (t ++ sepE).size = t.size + 3 := ByteArray.size_append
  refine ⟨_, _, rfl, rfl, ?_, ?_, ?_⟩
  · generalize t.size = m at h1
    omega
  · show ¬ _ < (t ++ sepE).size + _
    rw [h3]
    generalize (ntS (len k) (g k)).size = m at h2
    generalize t.size = m at h1
    omega
  · show _ = _
    rw [ent_next, HT]

/-! ### the other side -/
end Go.Proofs.Ythdljfidcoblfaa
