/- Paths as sequences: where a document stands behind t steps. -/
import Derived.Test.YtmpgefpaoogoiaaPure
namespace Go.Proofs.Ytmpgefpaoogoiaa

def itr (g : Nat → Nd) (z : Nat → Int) : Nat → Nat
  | 0 => 0
  | t + 1 => nxt g z (itr g z t)
/-- The path has T splits. -/
def Ends (g : Nat → Nd) (z : Nat → Int) (T : Nat) : Prop := (∀ t, t < T → (g (itr g z t)).left ≠ 0) ∧ (g (itr g z T)).left = 0
theorem Ends.same {g : Nat → Nd} {z : Nat → Int} {T T' : Nat} (h : Ends g z T) (h' : Ends g z T') : T = T' := by
  rcases Nat.lt_trichotomy T T' with hl | he | hl
  · exact absurd h.2 (h'.1 T hl)
  · exact he
  · exact absurd h'.2 (h.1 T' hl)
theorem itr_up {g : Nat → Nd} {n : Nat} (z : Nat → Int) (hu : Up g n) (hn : 0 < n) : ∀ t, (∀ s, s < t → (g (itr g z s)).left ≠ 0) → t ≤ itr g z t ∧ itr g z t < n := by
  intro t
  induction t with
  | zero => intro _; exact ⟨Nat.zero_le _, hn⟩
  | succ t ih =>
    intro h
    obtain ⟨h1, h2⟩ := ih fun s hs => h s (by omega)
    have := nxt_up z hu h2 (h t (by omega))
    simp only [itr]
    omega
/-- A node of a tree with f features that is no leaf tests one of them. -/
theorem split_feat {f : Int} {n i : Nat} {d : Nd} (h : Node f n i d) (h0 : d.left ≠ 0) : 0 ≤ d.feat ∧ d.feat < f := by
  unfold Node at h
  rw [if_neg h0] at h
  have := h.1
  unfold spB at this
  simp only [Bool.and_eq_true, decide_eq_true_eq] at this
  exact this.1.1
end Go.Proofs.Ytmpgefpaoogoiaa
