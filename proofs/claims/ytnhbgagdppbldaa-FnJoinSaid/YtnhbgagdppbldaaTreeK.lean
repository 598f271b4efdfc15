/- PathOf and LeafOf of the other side. -/
import Derived.Test.YtnhbgagdppbldaaTreeJ
import Derived.Test.YtnhbgagdppbldaaPath
namespace Go.Proofs.Ytnhbgagdppbldaa
open Go.RowKit Go.Deep

theorem nxI_nxt {g : Nat → Nd} {n a k : Nat} {z : Nat → Int} (hu : Up g n) (ha : a < n) (h0 : (g a).left ≠ 0) (hk : (g a).feat = k) : nxI (g a) (z k) = ((nxt g z a : Nat) : Int) := by
  have := hu a ha h0
  unfold nxI nxt
  rw [hk, Int.toNat_natCast]
  split <;> omega
theorem nd_eta {d : Nd} {k : Nat} (hk : d.feat = k) : (⟨(k : Int), d.cut, d.left, d.right, d.miss, d.value⟩ : Nd) = d := by cases d; simp only at hk; rw [hk]
theorem numsOf_succ (n : Nat) (z : Nat → Int) : numsOf (n + 1) z = numsOf n z ++ [.int .i64 (z n)] := by
  unfold numsOf
  rw [List.range_succ, List.map_append]
  rfl
theorem own_below {w w' : World} {base : Nat} {e : TypeId} {size : Nat} {v : Value} {n : Nat} {xs : List Value} (h : w.ownsRow base e size v n xs) (hb : Below w.heap.size w w') : w'.ownsRow base e size v n xs :=
  h.kept (row := none) ⟨hb.os, hb.tape, hb.output, hb.size, fun i hi _ => hb.block i hi⟩ (by cases hv : v.ownBlock <;> simp)
theorem own_form {w : World} {base : Nat} {e : TypeId} {size : Nat} {v : Value} {n : Nat} {xs : List Value} (h : w.ownsRow base e size v n xs) : ∃ A c, v = .slice A n c := by
  rcases h.2 with ⟨rfl, rfl⟩ | ⟨g, cap, cur, rfl, _⟩
  · exact ⟨_, _, rfl⟩
  · exact ⟨_, _, rfl⟩
def seqZ (g : Nat → Nd) (z : Nat → Int) : Nat → Int := fun t => (itr g z t : Nat)

/-- What PathOf gives for a tree and a document that fit. -/
def PathPost (g : Nat → Nd) (z : Nat → Int) (w : World) (e : Ending) (w' : World) : Prop :=
  ∃ T b c, Ends g z T ∧ T < 15 ∧ e = .returned (.slice (some ⟨b, 0, none⟩) (T + 1) c) ∧ w.heap.size ≤ b ∧ Row w' 2 b (T + 1) (seqZ g z) ∧ Below w.heap.size w w'

theorem path_false {n f : Nat} {g : Nat → Nd} {z : Nat → Int} (h : (docB f z && treeB g n f) = false) : docB f z = false ∨ (docB f z = true ∧ treeB g n f = false) := by
  cases hd : docB f z
  · exact .inl rfl
  · rw [hd] at h; exact .inr ⟨rfl, by simpa using h⟩

end Go.Proofs.Ytnhbgagdppbldaa
