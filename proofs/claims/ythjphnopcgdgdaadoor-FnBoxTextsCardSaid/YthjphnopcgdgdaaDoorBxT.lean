/- The text of a box, both sides, and the law's walk. -/
import Derived.Test.YthjphnopcgdgdaaDoorTxS
import Derived.Test.YthjphnopcgdgdaaDoorRdA
namespace Go.Proofs.YthjphnopcgdgdaaDoor
open Go.RowKit Go.Deep

def boxS (n : Nat) (g : Nat → Sp) : ByteArray := joinTo (fun i => spS (g i)) ⟨#[32]⟩ n
def boxT (n : Nat) (g : Nat → Sp) : ByteArray := if boxB n g = true then boxS n g else ByteArray.empty
theorem boxT_yes {n : Nat} {g : Nat → Sp} (h : boxB n g = true) : boxT n g = boxS n g := by unfold boxT; rw [if_pos h]
theorem boxT_no {n : Nat} {g : Nat → Sp} (h : boxB n g = false) : boxT n g = ⟨#[]⟩ := by unfold boxT; rw [h]; rfl
theorem span_in {d : Sp} (h : spanB d = true) : SpIn d := by
  have := spanB_iff.1 h
  unfold SpIn I64
  omega
theorem box_in {n : Nat} {g : Nat → Sp} (h : boxB n g = true) : ∀ i, i < n → SpIn (g i) := fun i hi => span_in ((boxB_iff.1 h).2.2 i hi)
theorem boxS_size {n : Nat} {g : Nat → Sp} (h : ∀ i, i < n → SpIn (g i)) : (boxS n g).size ≤ n * 46 :=
  joinTo_size (f := fun i => spS (g i)) (sep := ⟨#[32]⟩) (M := 45) n (fun i hi => spS_size (h i hi))

theorem joined_span (A : Option Addr) (n cap : Nat) (g : Nat → Sp) (w : World) (h : RdS w w.heap.size A n g) (hn : n ≤ 6) (hin : Hid (∀ i, i < n → SpIn (g i))) (hp : Hid (Pow w w.heap.size)) :
    Calls Tryd.prog 45 #[.slice A n cap, .func (.func 15) #[] #[]] w fun e w' => e = .returned (.string (boxS n g)) ∧ Below w.heap.size w w' := by
  go_enter Tryd.func45, Tryd.ntmps45
  go_wp2_with fail
  refine (texts_span A n cap g _ h (by omega) hin hp).mono ?_
  rintro e w1 ⟨b1, rfl, hl1, hr1, hb1⟩
  have HJ := hid (join_row (sep := ⟨#[32]⟩) hr1 (by omega) (boxS_size hin.out) (by omega))
  clear hr1
  go_wp2_with fail
  refine HJ.out.mono ?_
  rintro e w2 ⟨rfl, hb2⟩
  go_wp2_with fail
  go_ret
  exact ⟨rfl, hb1.trans (hb2.mono hb1.size)⟩

theorem iBoxText_any (A : Option Addr) (n cap : Nat) (g : Nat → Sp) (w : World) (h : RdS w w.heap.size A n g) (hn : n ≤ 4194304) (hp : Hid (Pow w w.heap.size)) :
    Calls Tryd.prog 19 #[.slice A n cap] w fun e w' => e = .returned (.string (boxT n g)) ∧ Below w.heap.size w w' := by
  go_enter Tryd.func19, Tryd.ntmps19
  go_wp2_with fail
  refine (iBoxOk_any A n cap g _ h hn).mono ?_
  rintro e w1 ⟨rfl, hb1⟩
  cases ht : boxB n g
  · have HT := hid (boxT_no ht)
    clear ht
    go_wp2_with fail
    go_ret
    exact ⟨ret_strT HT.out.symm, hb1⟩
  · have HT := hid (boxT_yes ht)
    have HI := hid (box_in ht)
    have h6 := (boxB_iff.1 ht).2.1
    have h1 := h.to hb1 hb1.size
    have hp1 := hid (show Pow w1 w1.heap.size from fun W hW => hp.out W (hb1.trans (hW.mono hb1.size)))
    clear ht
    go_wp2_with fail
    refine (joined_span A n cap g _ h1 h6 HI hp1).mono ?_
    rintro e w2 ⟨rfl, hb2⟩
    go_wp2_with fail
    go_ret
    exact ⟨ret_strT HT.out.symm, hb1.trans (hb2.mono hb1.size)⟩

theorem boxS_next {n : Nat} {g : Nat → Sp} (h : 0 < n) : boxS (n + 1) g = boxS n g ++ ⟨#[32]⟩ ++ spS (g n) := by
  show (if 0 < n then _ else _) ++ _ = _
  rw [if_pos h]
  rfl
set_option maxRecDepth 100000 in
set_option maxHeartbeats 2000000 in
theorem sBoxText_any (A : Option Addr) (n cap : Nat) (g : Nat → Sp) (w : World) (h : RdS w w.heap.size A n g) (hn : n ≤ 4194304) :
    Calls Tryd.prog 20 #[.slice A n cap] w fun e w' => e = .returned (.string (boxT n g)) ∧ Below w.heap.size w w' := by
  go_enter Tryd.func20, Tryd.ntmps20
  go_wp2_with fail
  refine (sBoxOk_any A n cap g _ h hn).mono ?_
  rintro e w1 ⟨rfl, hb1⟩
  cases ht : boxB n g
  · have HT := hid (boxT_no ht)
    clear ht
    go_wp2_with fail
    go_ret
    exact ⟨ret_strT HT.out.symm, hb1⟩
  · have HT := hid (boxT_yes ht)
    have HI := hid (box_in ht)
    have h1n := (boxB_iff.1 ht).1
    have h6 := (boxB_iff.1 ht).2.1
    have h1 := h.to hb1 hb1.size
    have HW := hid hb1
    clear ht hb1
    obtain ⟨b, off, rfl, hb, c0, c1, c2⟩ := h1.at_ (show 0 < n by omega)
    rw [Nat.zero_mul, Nat.add_zero] at c0 c1 c2
    have hnn : (0 : Int) < (n : Int) := by omega
    go_wp2_with fail
    refine (sSpanText_any (g 0) _ (HI.out 0 h1n)).mono ?_
    rintro e w2 ⟨rfl, hb2⟩
    have hz0 : (spS (g 0)).size ≤ 45 := spS_size (HI.out 0 h1n)
    clear c0 c1 c2
    go_wp2_with fail
    go_loopw [3, 4] (fun s i wr => ∃ (k : Nat) (t : ByteArray), 1 ≤ k ∧ k ≤ n ∧ i = .int .i64 k ∧ s = .string t ∧ t.size ≤ k * 46 ∧ Hid (t = boxS k g) ∧ Hid (Below w1.heap.size w1 wr))
      (fun _ i _ => n - (intOf i).toNat)
    case atStart => exact ⟨1, _, Nat.le_refl _, h1n, rfl, rfl, by omega, (join_one (fun i => spS (g i)) ⟨#[32]⟩).symm, hb2⟩
    case round =>
      obtain ⟨k, t, hk1, hk, rfl, rfl, hts, HTX, hbl⟩ := hrel
      by_cases hlt : k < n
      · obtain ⟨b', off', he', hb', c0, c1, c2⟩ := (h1.below hbl.out).at_ hlt
        injection he' with he'
        injection he' with he1 he2
        subst he1 he2
        have hns := spS_size (HI.out k hlt)
        have i1 : (k : Int) < (n : Int) := by omega
        have i0 : (0 : Int) ≤ (k : Int) := by omega
        obtain ⟨t2, ht2, hs2, HT2⟩ := cat_ t ⟨#[32]⟩ hts (one_arr _)
        obtain ⟨t3, ht3, hs3, HT3⟩ := cat_ t2 (spS (g k)) hs2 hns
        have HE : Hid (t3 = boxS (k + 1) g) := by
          show t3 = _
          rw [boxS_next (by omega), HT3.out, HT2.out, HTX.out]
        have z1 : ¬ 9223372036854775807 < t.size + 1 := by omega
        have z2 : ¬ 9223372036854775807 < t2.size + (spS (g k)).size := by omega
        have z3 : t3.size ≤ (k + 1) * 46 := by omega
        clear hs2 hs3 hns HT2 HT3 hts HTX
        go_wp2_with fail
        refine (sSpanText_any (g k) _ (HI.out k hlt)).mono ?_
        rintro e w5 ⟨rfl, hb5⟩
        have hbl5 := hid (hbl.out.trans (hb5.mono hbl.out.size))
        clear hb5 c0 c1 c2
        go_wp2_with fail
        go_roundw
        case rel => exact ⟨k + 1, _, by omega, by omega, by go_num, rfl, z3, HE, hbl5⟩
        case measure => simp [intOf]; omega
      · have e : k = n := by omega
        subst e
        go_wp2_with fail
        go_ret
        exact ⟨ret_strT (by rw [HT.out, HTX.out]), HW.out.trans (hbl.out.mono HW.out.size)⟩

end Go.Proofs.YthjphnopcgdgdaaDoor
