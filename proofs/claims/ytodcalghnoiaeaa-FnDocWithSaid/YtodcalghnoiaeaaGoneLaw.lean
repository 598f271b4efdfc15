/- The walk of the law of what is Missing in drawn documents. -/
import Derived.Test.YtodcalghnoiaeaaCodes
namespace Go.Proofs.Ytodcalghnoiaeaa
open Go.RowKit Go.Deep

theorem goneTo_upd_out {z : Nat → Int} {i : Nat} {x : Int} : ∀ k, k ≤ i → goneTo (upd z i x) k = goneTo z k := by
  intro k
  induction k with
  | zero => intro _; rfl
  | succ k ih =>
    intro hk
    simp only [goneTo, ih (by omega)]
    have : upd z i x k = z k := by unfold upd; rw [if_neg (by omega)]
    rw [this]
theorem goneTo_upd {z : Nat → Int} {i : Nat} : ∀ k, i < k → (goneTo (upd z i 9999999) k : Int) = goneTo z k + (if z i = 9999999 then 0 else 1) := by
  intro k
  induction k with
  | zero => intro h; omega
  | succ k ih =>
    intro hk
    by_cases e : i = k
    · subst e
      have h1 : upd z i 9999999 i = 9999999 := by unfold upd; rw [if_pos rfl]
      simp only [goneTo, goneTo_upd_out i (Nat.le_refl _), h1]
      by_cases e9 : z i = 9999999 <;> simp [e9]
    · have h1 : upd z i 9999999 k = z k := by unfold upd; rw [if_neg (by omega)]
      have := ih (by omega)
      simp only [goneTo, h1]
      push_cast
      rw [this]
      split <;> split <;> omega

theorem docB_upd {n i : Nat} {z : Nat → Int} {x : Int} (hd : docB n z = true) (hx : may x = true) : docB n (upd z i x) = true := by
  obtain ⟨h1, h2, h3⟩ := docB_true hd
  simp only [docB, Bool.and_eq_true, decide_eq_true_eq]
  refine ⟨⟨h1, h2⟩, allTo_of fun k hk => ?_⟩
  unfold upd
  split
  · exact hx
  · exact h3 k hk

set_option maxHeartbeats 2000000 in
theorem lawGone (A : Option Addr) (n cap : Nat) (w : World) (h : Bs w w.heap.size A n) :
    Calls Try.prog 12 #[.slice A n cap] w fun e w' => e = .returned (.bool true) ∧ Below w.heap.size w w' := by
  by_cases hbig : (1048576 : Int) < (n : Int)
  · go_enter Try.func12, Try.ntmps12
    go_wp2_with fail
    refine (big_yes A n cap _ hbig).mono ?_
    rintro e w1 ⟨rfl, rfl⟩
    go_wp2_with fail
    go_ret
    exact ⟨rfl, Below.refl _ _⟩
  · have hn : n ≤ 4194304 := by omega
    go_enter Try.func12, Try.ntmps12
    go_wp2_with fail
    refine (big_no A n cap _ (by omega)).mono ?_
    rintro e w0 ⟨rfl, rfl⟩
    go_wp2_with fail
    refine (drawGoneOf A n cap _ h hn).mono ?_
    rintro e w1 ⟨m, z, D, c, hm, rfl, hr1, hb1⟩
    have hm' : m ≤ 4194304 := by omega
    have h1 : Bs w1 w1.heap.size A n := (h.keep fun p hp => hb1.cell hp).more hb1.size
    go_wp2_with fail
    refine (iGone_any D m c z _ hr1 hm').mono ?_
    rintro e w2 ⟨rfl, hb2⟩
    have hr2 := hr1.to hb2 hb2.size
    have hw2 := hb1.trans (hb2.mono hb1.size)
    have h2 : Bs w2 w2.heap.size A n := (h1.keep fun p hp => hb2.cell hp).more hb2.size
    clear hb2 hr1 hb1 h1
    cases hd : docB m z with
    | false =>
      have hz : goneZ m z = -1 := by simp [goneZ, hd]
      rw [hz]
      go_wp2_with fail
      refine (sGone_any D m c z _ hr2 hm').mono ?_
      rintro e w3 ⟨rfl, rfl⟩
      rw [hz]
      go_wp2_with fail
      refine (sGone_any D m c z _ hr2 hm').mono ?_
      rintro e w3 ⟨rfl, rfl⟩
      rw [hz]
      go_wp2_with fail
      go_ret
      exact ⟨rfl, hw2⟩
    | true =>
      have hz : goneZ m z = (goneTo z m : Int) := by simp [goneZ, hd]
      have hm1 := (docB_true hd).1
      have hm6 := (docB_true hd).2.1
      have hle : (goneTo z m : Int) ≤ (m : Int) := by have := goneTo_le z m; omega
      have hge : ¬ (goneTo z m : Int) < 0 := by omega
      have hmay : may 9999999 = true := by decide
      generalize hG : (goneTo z m : Int) = G at hz hle hge
      rw [hz]
      go_wp2_with fail
      refine (sGone_any D m c z _ hr2 hm').mono ?_
      rintro e w3 ⟨rfl, rfl⟩
      rw [hz]
      go_wp2_with fail
      refine (place_at m A n cap _ h2 hn (by omega) (by omega)).mono ?_
      rintro e w3 ⟨i, rfl, hi, rfl⟩
      go_wp2_with fail
      refine (iWith_yes D m c i z 9999999 _ hr2 hd hi hmay).mono ?_
      rintro e w4 ⟨b, rfl, _, hrow, hb4⟩
      have hr4 := hr2.to hb4 hb4.size
      have hw4 := hw2.trans (hb4.mono hw2.size)
      have hu := docB_upd (i := i) hd hmay
      have hgu := goneTo_upd (z := z) (i := i) m hi
      rw [hG] at hgu
      have hzu : goneZ m (upd z i 9999999) = (goneTo (upd z i 9999999) m : Int) := by simp [goneZ, hu]
      obtain ⟨b', off, rfl, hb', hc'⟩ := hr4.at_ hi
      have hlt : (i : Int) < (m : Int) := by omega
      by_cases e9 : z i = 9999999
      · rw [if_pos e9] at hgu
        rw [e9] at hc'
        go_wp2_with fail
        refine (iGone_any _ m m (upd z i 9999999) _ (rd_of hrow) hm').mono ?_
        rintro e w5 ⟨rfl, hb5⟩
        rw [hzu, hgu]
        go_wp2_with fail
        go_ret
        exact ⟨by simp, hw4.trans (hb5.mono hw4.size)⟩
      · rw [if_neg e9] at hgu
        go_wp2_with fail
        refine (iGone_any _ m m (upd z i 9999999) _ (rd_of hrow) hm').mono ?_
        rintro e w5 ⟨rfl, hb5⟩
        rw [hzu, hgu]
        go_wp2_with fail
        go_ret
        exact ⟨by simp, hw4.trans (hb5.mono hw4.size)⟩
end Go.Proofs.Ytodcalghnoiaeaa
