/- The walk of the law of one number changed in drawn documents. -/
import Derived.Test.YtodcalghnoiaeaaGoneLaw
import Derived.Test.YtodcalghnoiaeaaSame
namespace Go.Proofs.Ytodcalghnoiaeaa
open Go.RowKit Go.Deep

set_option maxHeartbeats 4000000 in
theorem lawDrawWith (A : Option Addr) (n cap : Nat) (w : World) (h : Bs w w.heap.size A n) :
    Calls Try.prog 11 #[.slice A n cap] w fun e w' => e = .returned (.bool true) ∧ Below w.heap.size w w' := by
  by_cases hbig : (1048576 : Int) < (n : Int)
  · go_enter Try.func11, Try.ntmps11
    go_wp2_with fail
    refine (big_yes A n cap _ hbig).mono ?_
    rintro e w1 ⟨rfl, rfl⟩
    go_wp2_with fail
    go_ret
    exact ⟨rfl, Below.refl _ _⟩
  · have hn : n ≤ 4194304 := by omega
    go_enter Try.func11, Try.ntmps11
    go_wp2_with fail
    refine (big_no A n cap _ (by omega)).mono ?_
    rintro e w0 ⟨rfl, rfl⟩
    go_wp2_with fail
    refine (drawDocWith A n cap _ h hn).mono ?_
    rintro e w1 ⟨m, z, D, c, i, x, hm, rfl, hr1, hb1⟩
    have hm' : m ≤ 4194304 := by omega
    cases hno : withB m z i x with
    | false =>
      have HN := hid hno
      clear hno
      go_wp2_with fail
      refine (iWith_no D m c z i x _ hr1 hm' HN.out).mono ?_
      rintro e w2 ⟨rfl, hb2⟩
      have hr2 := hr1.to hb2 hb2.size
      have hw2 := hb1.trans (hb2.mono hb1.size)
      clear hb2 hr1 hb1
      go_wp2_with fail
      refine (sWith_no D m c z i x _ hr2 hm' HN.out).mono ?_
      rintro e w3 ⟨rfl, rfl⟩
      go_wp2_with fail
      refine (same_any none none 0 0 0 nul nul _ rd_none rd_none (fun _ _ => rfl) (by omega)).mono ?_
      rintro e w4 ⟨rfl, m4, rfl⟩
      go_wp2_with fail
      refine (same_any none none 0 0 0 nul nul _ rd_none rd_none (fun _ _ => rfl) (by omega)).mono ?_
      rintro e w5 ⟨rfl, m5, rfl⟩
      go_wp2_with fail
      go_ret
      exact ⟨rfl, below_drewN hw2 (m4 + m5)⟩
    | true =>
      simp only [withB, Bool.and_eq_true, decide_eq_true_eq] at hno
      obtain ⟨hd, ⟨h0, hi⟩, hx⟩ := hno
      obtain ⟨k, rfl⟩ := Int.eq_ofNat_of_zero_le h0
      have hk : k < m := by omega
      have hm6 := (docB_true hd).2.1
      have hzk := (docB_true hd).2.2 k hk
      have hu := docB_upd (i := k) hd hx
      have HD := hid hd
      have HX := hid hx
      have HZ := hid hzk
      have HU := hid hu
      clear hd hx hzk hu
      go_wp2_with fail
      refine (iWith_yes D m c k z x _ hr1 HD.out hk HX.out).mono ?_
      rintro e w2 ⟨b2, rfl, hl2, hrow2, hb2⟩
      have hr2 := hr1.to hb2 hb2.size
      have hw2 := hb1.trans (hb2.mono hb1.size)
      clear hb2 hr1 hb1
      go_wp2_with fail
      refine (sWith_yes D m c k z x _ hr2 HD.out hk HX.out).mono ?_
      rintro e w3 ⟨b3, c3, rfl, hl3, hrow3, hb3⟩
      have hr3 := hr2.to hb3 hb3.size
      have hrow2' := hrow2.below hb3 hrow2.lt
      have hw3 := hw2.trans (hb3.mono hw2.size)
      clear hb3 hr2 hw2 hrow2
      go_wp2_with fail
      refine (same_any _ _ m m c3 (upd z k x) (upd z k x) _ (rd_of hrow2') (rd_of hrow3) (fun _ _ => rfl) hm').mono ?_
      rintro e w4 ⟨rfl, m4, rfl⟩
      have hr4 : Rd (w3.drewN m4) (w3.drewN m4).heap.size D m z := hr3
      have hrow4 : Row (w3.drewN m4) 2 b2 m (upd z k x) := hrow2'
      have hw4 := below_drewN hw3 m4
      clear hr3 hrow2' hw3 hrow3
      generalize w3.drewN m4 = wd at hr4 hrow4 hw4
      obtain ⟨bD, off, rfl, hbD, hcD⟩ := hr4.at_ hk
      go_wp2_with fail
      refine (iWith_yes _ m m k (upd z k x) (z k) _ (rd_of hrow4) HU.out hk HZ.out).mono ?_
      rintro e w5 ⟨b5, rfl, hl5, hrow5, hb5⟩
      have hr5 := hr4.to hb5 hb5.size
      have hrow4' := hrow4.below hb5 hrow4.lt
      have hw5 := hw4.trans (hb5.mono hw4.size)
      have hback : ∀ j, j < m → upd (upd z k x) k (z k) j = z j := by
        intro j _
        unfold upd
        by_cases e : j = k
        · subst e; rw [if_pos rfl]
        · rw [if_neg e, if_neg e]
      have hB := hid hback
      have hrd5 := rd_of hrow4'
      have hat : w5.cell? ⟨b2, 0 + k, none⟩ = some (.int .i64 x) := by
        obtain ⟨b', off', e', _, hc'⟩ := hrd5.at_ hk
        injection e' with e'
        injection e' with e1 e2
        subst e1; subst e2
        rw [hc']
        unfold upd
        rw [if_pos rfl]
      rw [Nat.zero_add] at hat
      clear hr4 hb5 hrow4 hw4 hback hcD hbD
      go_wp2_with fail
      refine (same_any _ _ m m c (upd (upd z k x) k (z k)) z _ (rd_of hrow5) hr5 hB hm').mono ?_
      rintro e w6 ⟨rfl, m6, rfl⟩
      go_wp2_with fail
      refine (iDocOk_any _ m m (upd z k x) (w5.drewN m6) hrd5 hm').mono ?_
      rintro e w7 ⟨rfl, hb7⟩
      rw [HU.out]
      go_wp2_with fail
      go_ret
      exact ⟨by simp, (below_drewN hw5 m6).trans (hb7.mono (below_drewN hw5 m6).size)⟩
end Go.Proofs.Ytodcalghnoiaeaa
