/- The text of a document, of the other side; the law's walk. -/
import Derived.Test.YtmkipdhappikhaaGreatDoorTxB
import Derived.Test.YtmkipdhappikhaaGreatDoorLaw
namespace Go.Proofs.YtmkipdhappikhaaGreatDoor
open Go.RowKit Go.Deep

set_option maxRecDepth 100000 in
set_option maxHeartbeats 2000000 in
theorem sDocText_any (A : Option Addr) (n cap : Nat) (z : Nat → Int) (w : World) (h : Rd w w.heap.size A n z) (hn : n ≤ 4194304) :
    Calls Tryz.prog 86 #[.slice A n cap] w fun e w' => e = .returned (.string (docS n z)) ∧ Below w.heap.size w w' := by
  cases hd : docB n z
  · have e0 : docS n z = ⟨#[]⟩ := by unfold docS; rw [hd]; rfl
    rw [e0]
    have HD := hid hd
    clear hd e0
    go_enter Tryz.func86, Tryz.ntmps86
    go_wp2_with fail
    refine (sDocOk_any A n cap z _ h hn).mono ?_
    rintro e w1 ⟨rfl, rfl⟩
    rw [HD.out]
    go_wp2_with fail
    go_ret
    exact ⟨rfl, Below.refl _ _⟩
  · obtain ⟨h1, h6, hall⟩ := docB_true hd
    have e0 : docS n z = joinTo (fun i => numS (z i)) ⟨#[44]⟩ n := by unfold docS; rw [hd]; rfl
    have HE := hid e0
    have HD := hid hd
    have HALL := hid hall
    clear hd e0 hall
    go_enter Tryz.func86, Tryz.ntmps86
    go_wp2_with fail
    refine (sDocOk_any A n cap z _ h hn).mono ?_
    rintro e w1 ⟨rfl, rfl⟩
    rw [HD.out]
    go_wp2_with fail
    go_loopw [3, 4] (fun s i wr => ∃ (k : Nat) (t : ByteArray), k ≤ n ∧ i = .int .i64 k ∧ s = .string t ∧ t.size ≤ k * 22 ∧ Hid (t = joinTo (fun i => numS (z i)) ⟨#[44]⟩ k) ∧ Hid (Below w.heap.size w wr))
      (fun _ i _ => n - (intOf i).toNat)
    case atStart => exact ⟨0, _, Nat.zero_le _, rfl, rfl, by show 0 ≤ _; omega, rfl, Below.refl _ _⟩
    case round =>
      obtain ⟨k, t, hk, rfl, rfl, hts, HT, hbl⟩ := hrel
      by_cases hlt : k < n
      · obtain ⟨b, off, rfl, hb, hc⟩ := (h.below hbl.out).at_ hlt
        have hm := HALL.out k hlt
        have hbd := may_bd hm
        have hns := numS_size hm
        have HM := hid (And.intro hbd hns)
        have i1 : (k : Int) < (n : Int) := by omega
        clear hm hbd hns
        by_cases h0 : 0 < k
        · obtain ⟨t2, ht2, HS2, HT2⟩ : ∃ t2 : ByteArray, t ++ ⟨#[44]⟩ = t2 ∧ Hid (t2.size ≤ k * 22 + 1) ∧ Hid (joinTo (fun i => numS (z i)) ⟨#[44]⟩ (k + 1) = t2 ++ numS (z k)) := by
            refine ⟨_, rfl, hid (by rw [ByteArray.size_append]; exact Nat.add_le_add hts (Nat.le_refl 1)), ?_⟩
            show (if 0 < k then _ else _) ++ _ = _
            rw [if_pos h0, HT.out]
          have z1 : ¬ 9223372036854775807 < t.size + 1 := by omega
          have i0 : (0 : Int) < (k : Int) := by omega
          by_cases e : z k = 9999999
          · have HN := hid (show numS (z k) = ⟨#[45]⟩ by unfold numS; rw [if_pos e])
            have e2 : (z k == 9999999) = true := by simpa using e
            have z2 : ¬ 9223372036854775807 < t2.size + 1 := by have := HS2.out; omega
            clear e
            go_wp2_with fail
            go_roundw
            case rel => exact ⟨k + 1, _, by omega, by go_num, rfl, by rw [ByteArray.size_append]; show t2.size + 1 ≤ _; have := HS2.out; omega, hid (by rw [HT2.out, HN.out]), hbl⟩
            case measure => simp [intOf]; omega
          · have HN := hid (show numS (z k) = decS (z k) by unfold numS; rw [if_neg e])
            have e2 : (z k == 9999999) = false := by simpa using e
            have hds : (decS (z k)).size ≤ 21 := by rw [← HN.out]; exact HM.out.2
            have z2 : ¬ 9223372036854775807 < t2.size + (decS (z k)).size := by have := HS2.out; omega
            clear e
            go_wp2_with fail
            refine (l1Dec_any (z k) _ (by have := HM.out; omega) (by have := HM.out; omega)).mono ?_
            rintro e w5 ⟨rfl, hb5⟩
            have hbl5 := hid (hbl.out.trans (hb5.mono hbl.out.size))
            clear hb5
            go_wp2_with fail
            go_roundw
            case rel => exact ⟨k + 1, _, by omega, by go_num, rfl, by rw [ByteArray.size_append]; have := HS2.out; omega, hid (by rw [HT2.out, HN.out]), hbl5⟩
            case measure => simp [intOf]; omega
        · obtain ⟨t2, ht2, HS2, HT2⟩ : ∃ t2 : ByteArray, t = t2 ∧ Hid (t2.size ≤ k * 22 + 1) ∧ Hid (joinTo (fun i => numS (z i)) ⟨#[44]⟩ (k + 1) = t2 ++ numS (z k)) := by
            refine ⟨_, rfl, hid (by omega), ?_⟩
            show (if 0 < k then _ else _) ++ _ = _
            rw [if_neg h0, HT.out]
          subst ht2
          have i0 : ¬ (0 : Int) < (k : Int) := by omega
          by_cases e : z k = 9999999
          · have HN := hid (show numS (z k) = ⟨#[45]⟩ by unfold numS; rw [if_pos e])
            have e2 : (z k == 9999999) = true := by simpa using e
            have z2 : ¬ 9223372036854775807 < t.size + 1 := by have := HS2.out; omega
            clear e
            go_wp2_with fail
            go_roundw
            case rel => exact ⟨k + 1, _, by omega, by go_num, rfl, by rw [ByteArray.size_append]; show t.size + 1 ≤ _; have := HS2.out; omega, hid (by rw [HT2.out, HN.out]), hbl⟩
            case measure => simp [intOf]; omega
          · have HN := hid (show numS (z k) = decS (z k) by unfold numS; rw [if_neg e])
            have e2 : (z k == 9999999) = false := by simpa using e
            have hds : (decS (z k)).size ≤ 21 := by rw [← HN.out]; exact HM.out.2
            have z2 : ¬ 9223372036854775807 < t.size + (decS (z k)).size := by have := HS2.out; omega
            clear e
            go_wp2_with fail
            refine (l1Dec_any (z k) _ (by have := HM.out; omega) (by have := HM.out; omega)).mono ?_
            rintro e w5 ⟨rfl, hb5⟩
            have hbl5 := hid (hbl.out.trans (hb5.mono hbl.out.size))
            clear hb5
            go_wp2_with fail
            go_roundw
            case rel => exact ⟨k + 1, _, by omega, by go_num, rfl, by rw [ByteArray.size_append]; have := HS2.out; omega, hid (by rw [HT2.out, HN.out]), hbl5⟩
            case measure => simp [intOf]; omega
      · have e : k = n := by omega
        subst e
        go_wp2_with fail
        go_ret
        exact ⟨ret_strT (by rw [HE.out, HT.out]), hbl.out⟩

end Go.Proofs.YtmkipdhappikhaaGreatDoor
