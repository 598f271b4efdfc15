/- DocWith of the program. -/
import Derived.Test.YtmpgefpaoogoiaaDocE
namespace Go.Proofs.Ytmpgefpaoogoiaa
open Go.RowKit Go.Deep

def upd (z : Nat → Int) (i : Nat) (x : Int) : Nat → Int := fun j => if j = i then x else z j
theorem upd_all_true {n i : Nat} {z : Nat → Int} {x : Int} (hd : docB n z = true) (hx : may x = true) : allTo (upd (pad n z) i x) 6 = true := by
  have h := docB_true hd
  refine allTo_of fun k _ => ?_
  unfold upd pad
  split
  · exact hx
  · split
    · rename_i hk; exact h.2.2 k hk
    · rfl
theorem upd_all_false {n i : Nat} {z : Nat → Int} {x : Int} (hi : i < 6) (hx : may x = false) : allTo (upd (pad n z) i x) 6 = false :=
  allTo_false hi (by unfold upd; rw [if_pos rfl]; exact hx)

/-- Does DocWith accept? -/
def withB (n : Nat) (z : Nat → Int) (i x : Int) : Bool := docB n z && ((decide (0 ≤ i) && decide (i < n)) && may x)

/-! ### the other side -/
theorem own_row {w : World} {base : Nat} {e : TypeId} {v : Value} {n : Nat} {z : Nat → Int} (h : w.ownsRow base e 1 v n (numsOf n z)) (hn : 0 < n) :
    ∃ g cap, v = .slice (some ⟨g, 0, none⟩) n cap ∧ base ≤ g ∧ Row w e g n z := by
  rcases h.2 with ⟨_, h0⟩ | ⟨g, cap, cur, rfl, hb, hg, hc, hm, hs, ht⟩
  · omega
  · refine ⟨g, cap, rfl, hb, cur, hg, by omega, fun i hi => ?_⟩
    have h1 : (cur.toList.take (n * 1))[i]? = (numsOf n z)[i]? := by rw [ht]
    rw [List.getElem?_take, if_pos (by omega), Array.getElem?_toList] at h1
    rw [h1]
    simp [numsOf, hi]

end Go.Proofs.Ytmpgefpaoogoiaa
