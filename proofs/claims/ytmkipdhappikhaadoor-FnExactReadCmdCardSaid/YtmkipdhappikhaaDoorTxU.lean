/- The text of a tree, both sides, and the law's walk. -/
import Derived.Test.YtmkipdhappikhaaDoorTxT
namespace Go.Proofs.YtmkipdhappikhaaDoor
open Go.RowKit Go.Deep

theorem sText_any (d : Nd) (w : World) (hd : NdIn d) :
    Calls Tryd.prog 99 #[ndV d] w fun e w' => e = .returned (.string (ndS d)) ∧ Below w.heap.size w w' := by
  cases h0 : (d.left == 0)
  · exact sText_split d w hd h0
  · exact sText_leaf d w hd.2.2.2.2 h0

theorem ntS_size {n : Nat} {g : Nat → Nd} (h : ∀ i, i < n → NdIn (g i)) : (ntS n g).size ≤ n * 112 :=
  joinTo_size (f := fun i => ndS (g i)) (sep := ⟨#[32]⟩) (M := 111) n (fun i hi => ndS_size (h i hi))

set_option maxRecDepth 100000 in
set_option maxHeartbeats 2000000 in
theorem sTree_any (A : Option Addr) (n cap : Nat) (g : Nat → Nd) (w : World) (h : RdN w w.heap.size A n g) (hn : n ≤ 4194304) (hall : ∀ i, i < n → NdIn (g i)) :
    Calls Tryd.prog 82 #[.slice A n cap] w fun e w' => e = .returned (.string (ntS n g)) ∧ Below w.heap.size w w' := by
  have HALL := hid hall
  clear hall
  go_enter Tryd.func82, Tryd.ntmps82
  go_wp2_with fail
  go_loopw [3, 4] (fun s i wr => ∃ (k : Nat) (t : ByteArray), k ≤ n ∧ i = .int .i64 k ∧ s = .string t ∧ t.size ≤ k * 112 ∧ Hid (t = ntS k g) ∧ Hid (Below w.heap.size w wr))
    (fun _ i _ => n - (intOf i).toNat)
  case atStart => exact ⟨0, _, Nat.zero_le _, rfl, rfl, by show 0 ≤ _; omega, rfl, Below.refl _ _⟩
  case round =>
    obtain ⟨k, t, hk, rfl, rfl, hts, HT, hbl⟩ := hrel
    by_cases hlt : k < n
    · obtain ⟨b, off, rfl, hb, c0, c1, c2, c3, c4, c5⟩ := (h.below hbl.out).at_ hlt
      have hns := ndS_size (HALL.out k hlt)
      have i1 : (k : Int) < (n : Int) := by omega
      by_cases h0 : 0 < k
      · obtain ⟨t2, ht2, hs2, HT2⟩ := cat_ t ⟨#[32]⟩ hts (one_arr _)
        obtain ⟨t3, ht3, hs3, HT3⟩ := cat_ t2 (ndS (g k)) hs2 hns
        have HE : Hid (t3 = ntS (k + 1) g) := by
          show t3 = (if 0 < k then _ else _) ++ _
          rw [if_pos h0, HT3.out, HT2.out, HT.out]
          rfl
        have z1 : ¬ 9223372036854775807 < t.size + 1 := by omega
        have z2 : ¬ 9223372036854775807 < t2.size + (ndS (g k)).size := by omega
        have z3 : t3.size ≤ (k + 1) * 112 := by omega
        have i0 : (0 : Int) < (k : Int) := by omega
        clear hs2 hs3 hns HT2 HT3 hts HT
        go_wp2_with fail
        refine (sText_any (g k) _ (HALL.out k hlt)).mono ?_
        rintro e w5 ⟨rfl, hb5⟩
        have hbl5 := hid (hbl.out.trans (hb5.mono hbl.out.size))
        clear hb5 c0 c1 c2 c3 c4 c5
        go_wp2_with fail
        go_roundw
        case rel => exact ⟨k + 1, _, by omega, by go_num, rfl, z3, HE, hbl5⟩
        case measure => simp [intOf]; omega
      · obtain ⟨t3, ht3, hs3, HT3⟩ := cat_ t (ndS (g k)) hts hns
        have HE : Hid (t3 = ntS (k + 1) g) := by
          show t3 = (if 0 < k then _ else _) ++ _
          rw [if_neg h0, HT3.out, HT.out]
          rfl
        have z2 : ¬ 9223372036854775807 < t.size + (ndS (g k)).size := by omega
        have z3 : t3.size ≤ (k + 1) * 112 := by omega
        have i0 : ¬ (0 : Int) < (k : Int) := by omega
        clear hs3 hns HT3 hts HT
        go_wp2_with fail
        refine (sText_any (g k) _ (HALL.out k hlt)).mono ?_
        rintro e w5 ⟨rfl, hb5⟩
        have hbl5 := hid (hbl.out.trans (hb5.mono hbl.out.size))
        clear hb5 c0 c1 c2 c3 c4 c5
        go_wp2_with fail
        go_roundw
        case rel => exact ⟨k + 1, _, by omega, by go_num, rfl, z3, HE, hbl5⟩
        case measure => simp [intOf]; omega
    · have e : k = n := by omega
      subst e
      go_wp2_with fail
      go_ret
      exact ⟨ret_strT HT.out, hbl.out⟩

end Go.Proofs.YtmkipdhappikhaaDoor
