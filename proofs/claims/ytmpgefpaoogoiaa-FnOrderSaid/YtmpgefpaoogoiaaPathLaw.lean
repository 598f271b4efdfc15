/- The walk of the exact law of PathOf. -/
import Derived.Test.YtmpgefpaoogoiaaTreeL
import Derived.Test.YtmpgefpaoogoiaaDocWithLaw
namespace Go.Proofs.Ytmpgefpaoogoiaa
open Go.RowKit Go.Deep

set_option maxHeartbeats 2000000 in
theorem markN_any (n cap b : Nat) (g : Nat → Nd) (k0 : Int) (w : World) (h : RowN w 135 b n g) (hn : n ≤ 4194304) (h0 : 0 ≤ k0) (h1 : k0 ≤ 100000) :
    Calls Try.prog 130 #[.slice (some ⟨b, 0, none⟩) n cap, .int .i64 k0] w fun e w' =>
      ∃ k1 : Int, e = .returned (.int .i64 k1) ∧ 0 ≤ k1 ∧ k1 ≤ 100000000 ∧ w.grownBy w' (some b) := by
  obtain ⟨cs, hB, hsz, _⟩ := h
  go_enter Try.func130, Try.ntmps130
  go_wp2_with fail
  go_loopw [1, 5] (fun k i wr => ∃ (m : Nat) (cs : Array Value) (y : Int), m ≤ n ∧ i = .int .i64 m ∧ k = .int .i64 y ∧ k0 + 6 * (m : Int) ≤ y ∧ y ≤ k0 + 6 * (m : Int) ∧ Blk wr b 135 cs ∧ n * 6 ≤ cs.size ∧ Hid (w.grownBy wr (some b)))
    (fun _ i _ => n - (intOf i).toNat)
  case atStart => exact ⟨0, cs, k0, Nat.zero_le _, rfl, rfl, by omega, by omega, hB, hsz, World.grownBy.refl _ _⟩
  case round =>
    obtain ⟨m, cs, y, hm, rfl, rfl, hy1, hy2, hB, hsz, hg⟩ := hrel
    by_cases hlt : m < n
    · have hl : (m : Int) < (n : Int) := by omega
      have s0 : wr.cell? ⟨b, m * 6, none⟩ = some (cs[m * 6]'(by omega)) := by rw [hB.cell, Array.getElem?_eq_getElem]
      have s1 : wr.cell? ⟨b, m * 6 + 1, none⟩ = some (cs[m * 6 + 1]'(by omega)) := by rw [hB.cell, Array.getElem?_eq_getElem]
      have s2 : wr.cell? ⟨b, m * 6 + 2, none⟩ = some (cs[m * 6 + 2]'(by omega)) := by rw [hB.cell, Array.getElem?_eq_getElem]
      have s3 : wr.cell? ⟨b, m * 6 + 3, none⟩ = some (cs[m * 6 + 3]'(by omega)) := by rw [hB.cell, Array.getElem?_eq_getElem]
      have s4 : wr.cell? ⟨b, m * 6 + 4, none⟩ = some (cs[m * 6 + 4]'(by omega)) := by rw [hB.cell, Array.getElem?_eq_getElem]
      have s5 : wr.cell? ⟨b, m * 6 + 5, none⟩ = some (cs[m * 6 + 5]'(by omega)) := by rw [hB.cell, Array.getElem?_eq_getElem]
      have f0 := hB.frozen (m * 6); have f1 := hB.frozen (m * 6 + 1); have f2 := hB.frozen (m * 6 + 2); have f3 := hB.frozen (m * 6 + 3); have f4 := hB.frozen (m * 6 + 4); have f5 := hB.frozen (m * 6 + 5)
      go_wp2_with fail
      go_roundw
      case rel =>
        refine ⟨m + 1, _, _, by omega, by go_num, rfl, by omega, by omega, (((((hB.set_ (m * 6) _).set_ (m * 6 + 1) _).set_ (m * 6 + 2) _).set_ (m * 6 + 3) _).set_ (m * 6 + 4) _).set_ (m * 6 + 5) _, by simp only [Array.size_setIfInBounds]; exact hsz, ?_⟩
        exact grown_trans (grown_trans (grown_trans (grown_trans (grown_trans (grown_trans hg.out (grown_set _)) (grown_set _)) (grown_set _)) (grown_set _)) (grown_set _)) (grown_set _)
      case measure => simp [intOf]; omega
    · have e : m = n := by omega
      go_wp2_with fail
      go_ret
      exact ⟨y, rfl, by omega, by omega, hg.out⟩

theorem rowN_grown {w w' : World} {t : TypeId} {b b' n : Nat} {g : Nat → Nd} (h : RowN w t b n g) (hg : w.grownBy w' (some b')) (hne : b ≠ b') : RowN w' t b n g :=
  h.keep (hg.block b h.lt (by simpa using hne))

end Go.Proofs.Ytmpgefpaoogoiaa
