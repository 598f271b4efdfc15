/- The text of a Hit, both sides: the walks. -/
import Derived.Test.YthjphnopcgdgdaaDoorHtA
namespace Go.Proofs.YthjphnopcgdgdaaDoor
open Go.RowKit Go.Deep

set_option maxRecDepth 100000 in
set_option maxHeartbeats 2000000 in
theorem hitWord_any (i s : Int) (w : World) (hi : I64 i) (hs : I64 s) (hp : Hid (Pow w w.heap.size)) :
    Calls Tryd.prog 30 #[hitV i s] w fun e w' => e = .returned (.string (htS i s)) ∧ Below w.heap.size w w' := by
  obtain ⟨T1, e1, s1, F1⟩ := cat_ (decS i) ⟨#[58]⟩ hi.size (one_arr _)
  have u1 := hi.size
  have u2 := hs.size
  have z1 : ¬ 9223372036854775807 < (decS i).size + 1 := by omega
  have z2 : ¬ 9223372036854775807 < T1.size + (decS s).size := by omega
  have HF : Hid (T1 ++ decS s = htS i s) := by show _ = _; rw [F1.out]; rfl
  have HI1 := hid hi
  have HI2 := hid hs
  have hw1 := (Below.refl w.heap.size w).alloc (Nat.le_refl _) (.cells #[.int .i64 i, .int .i64 s] 25)
  have hB1 := Blk.new w 25 #[.int .i64 i, .int .i64 s]
  clear hi hs u1 u2 F1 s1
  go_enter Tryd.func30, Tryd.ntmps30
  go_wp2_with fail
  generalize w.alloc (.cells #[.int .i64 i, .int .i64 s] 25) = w1 at hw1 hB1 ⊢
  have HC : Hid (∀ W, Below w1.heap.size w1 W → W.cell? ⟨w.heap.size, 0, none⟩ = some (.int .i64 i) ∧ W.cell? ⟨w.heap.size, 1, none⟩ = some (.int .i64 s)) := fun W hW =>
    ⟨(hB1.below hW hB1.lt).cell 0, (hB1.below hW hB1.lt).cell 1⟩
  have HW1 := hid hw1
  have DK : Hid (∀ (x : Int) (W : World), I64 x → Below w1.heap.size w1 W → Calls Tryd.prog 40 #[.int .i64 x] W fun e w' => e = .returned (.string (decS x)) ∧ Below w1.heap.size w1 w') := fun x W hx hW =>
    (decimal_any x W hx.1 hx.2 (hid (hp.out W (HW1.out.trans (hW.mono HW1.out.size))))).mono fun e w' ⟨he, hb⟩ => ⟨he, hW.trans (hb.mono hW.size)⟩
  have D0 := hid ((Below.refl w1.heap.size w1).drew)
  clear hB1 hw1
  refine region_classT (C := fun W => Below w1.heap.size w1 W) (by kernel_rfl) (by kernel_rfl) D0.out ?_
  repeat
    with_reducible refine wpQuiet_step (fun K hK => ?_)
    first
      | (rw [if_pos (by rfl)]; apply Exists.intro; refine ⟨fun W hW => ?_, hK _ ?_⟩; (first
          | (obtain ⟨v1, v2⟩ := HC.out W hW; go_simp <;> with_reducible rfl)
          | (go_simp; go_at_call 40; with_reducible refine Calls.mono (DK.out i W HI1.out hW) ?_; rintro e w5 ⟨rfl, hb5⟩; exact ⟨rfl, hb5⟩)
          | (go_simp; go_at_call 40; with_reducible refine Calls.mono (DK.out s W HI2.out hW) ?_; rintro e w5 ⟨rfl, hb5⟩; exact ⟨rfl, hb5⟩)); clear hK K; (try simp only [Act.put, List.setIfInBounds_toArray, List.set_cons_zero, List.set_cons_succ]))
      | (refine Eq.mpr (if_neg ?_) (hK _ ?_); exact (fun h => Bool.false_ne_true h); clear hK K; (try simp only [Act.put, List.setIfInBounds_toArray, List.set_cons_zero, List.set_cons_succ]))
  refine wpQuiet_nil ?_
  intro WZ hZ'
  have hZ : Below w1.heap.size w1 WZ := hZ'
  clear hZ'
  have hbZ := HW1.out.trans (hZ.mono HW1.out.size)
  clear hZ
  go_wp2_with fail
  go_ret
  exact ⟨ret_strT HF.out, hbZ⟩

set_option maxRecDepth 100000 in
set_option maxHeartbeats 2000000 in
theorem l13Hit_any (i s : Int) (w : World) (hi : I64 i) (hs : I64 s) :
    Calls Tryd.prog 37 #[hitV i s] w fun e w' => e = .returned (.string (htS i s)) ∧ Below w.heap.size w w' := by
  obtain ⟨T1, e1, s1, F1⟩ := cat_ (decS i) ⟨#[58]⟩ hi.size (one_arr _)
  have u1 := hi.size
  have u2 := hs.size
  have z1 : ¬ 9223372036854775807 < (decS i).size + 1 := by omega
  have z2 : ¬ 9223372036854775807 < T1.size + (decS s).size := by omega
  have HF : Hid (T1 ++ decS s = htS i s) := by show _ = _; rw [F1.out]; rfl
  have HI1 := hid hi
  have HI2 := hid hs
  have hw1 := (Below.refl w.heap.size w).alloc (Nat.le_refl _) (.cells #[.int .i64 i, .int .i64 s] 25)
  have hB1 := Blk.new w 25 #[.int .i64 i, .int .i64 s]
  clear hi hs u1 u2 F1 s1
  go_enter Tryd.func37, Tryd.ntmps37
  go_wp2_with fail
  generalize w.alloc (.cells #[.int .i64 i, .int .i64 s] 25) = w1 at hw1 hB1 ⊢
  have HC : Hid (∀ W, Below w1.heap.size w1 W → W.cell? ⟨w.heap.size, 0, none⟩ = some (.int .i64 i) ∧ W.cell? ⟨w.heap.size, 1, none⟩ = some (.int .i64 s)) := fun W hW =>
    ⟨(hB1.below hW hB1.lt).cell 0, (hB1.below hW hB1.lt).cell 1⟩
  have HW1 := hid hw1
  have DK : Hid (∀ (x : Int) (W : World), I64 x → Below w1.heap.size w1 W → Calls Tryd.prog 42 #[.int .i64 x] W fun e w' => e = .returned (.string (decS x)) ∧ Below w1.heap.size w1 w') := fun x W hx hW =>
    (l1Dec_any x W hx.1 hx.2).mono fun e w' ⟨he, hb⟩ => ⟨he, hW.trans (hb.mono hW.size)⟩
  have D0 := hid ((Below.refl w1.heap.size w1).drew)
  clear hB1 hw1
  refine region_classT (C := fun W => Below w1.heap.size w1 W) (by kernel_rfl) (by kernel_rfl) D0.out ?_
  repeat
    with_reducible refine wpQuiet_step (fun K hK => ?_)
    first
      | (rw [if_pos (by rfl)]; apply Exists.intro; refine ⟨fun W hW => ?_, hK _ ?_⟩; (first
          | (obtain ⟨v1, v2⟩ := HC.out W hW; go_simp <;> with_reducible rfl)
          | (go_simp; go_at_call 42; with_reducible refine Calls.mono (DK.out i W HI1.out hW) ?_; rintro e w5 ⟨rfl, hb5⟩; exact ⟨rfl, hb5⟩)
          | (go_simp; go_at_call 42; with_reducible refine Calls.mono (DK.out s W HI2.out hW) ?_; rintro e w5 ⟨rfl, hb5⟩; exact ⟨rfl, hb5⟩)); clear hK K; (try simp only [Act.put, List.setIfInBounds_toArray, List.set_cons_zero, List.set_cons_succ]))
      | (refine Eq.mpr (if_neg ?_) (hK _ ?_); exact (fun h => Bool.false_ne_true h); clear hK K; (try simp only [Act.put, List.setIfInBounds_toArray, List.set_cons_zero, List.set_cons_succ]))
  refine wpQuiet_nil ?_
  intro WZ hZ'
  have hZ : Below w1.heap.size w1 WZ := hZ'
  clear hZ'
  have hbZ := HW1.out.trans (hZ.mono HW1.out.size)
  clear hZ
  go_wp2_with fail
  go_ret
  exact ⟨ret_strT HF.out, hbZ⟩

set_option maxHeartbeats 2000000 in
theorem iHitText_any (i s : Int) (w : World) (hp : Hid (Pow w w.heap.size)) :
    Calls Tryd.prog 9 #[hitV i s] w fun e w' => e = .returned (.string (htT i s)) ∧ Below w.heap.size w w' := by
  have hb := (Below.refl w.heap.size w).alloc (Nat.le_refl _) (.cells #[.int .i64 i, .int .i64 s] 25)
  have hB := Blk.new w 25 #[.int .i64 i, .int .i64 s]
  go_enter Tryd.func9, Tryd.ntmps9
  go_wp2_with fail
  refine (hitOk_any i s _).mono ?_
  rintro e w1 ⟨rfl, hb1⟩
  have hB1 := hB.below hb1 hB.lt
  have hbl1 := hb.trans (hb1.mono hb.size)
  have hp1 := hid (show Pow w1 w1.heap.size from fun W hW => hp.out W (hbl1.trans (hW.mono hbl1.size)))
  have c0 : w1.cell? ⟨w.heap.size, 0, none⟩ = some (.int .i64 i) := hB1.cell 0
  have c1 : w1.cell? ⟨w.heap.size, 1, none⟩ = some (.int .i64 s) := hB1.cell 1
  clear hb hB hb1
  cases ht : htB i s
  · have HT := hid (htT_no ht)
    clear ht
    go_wp2_with fail
    go_ret
    exact ⟨ret_strT HT.out.symm, hbl1⟩
  · have HT := hid (htT_yes ht)
    have HI := hid (htB_in ht)
    clear ht
    go_wp2_with fail
    refine (hitWord_any i s _ HI.out.1 HI.out.2 hp1).mono ?_
    rintro e w2 ⟨rfl, hb2⟩
    go_wp2_with fail
    go_ret
    exact ⟨ret_strT HT.out.symm, hbl1.trans (hb2.mono hbl1.size)⟩

set_option maxHeartbeats 2000000 in
theorem sHitText_any (i s : Int) (w : World) :
    Calls Tryd.prog 13 #[hitV i s] w fun e w' => e = .returned (.string (htT i s)) ∧ Below w.heap.size w w' := by
  have hb := (Below.refl w.heap.size w).alloc (Nat.le_refl _) (.cells #[.int .i64 i, .int .i64 s] 25)
  have k0 : (decide (0 ≤ i) && decide (i ≤ 19)) = (decide (0 ≤ i) && decide (i < 20)) := by
    congr 1
    exact decide_eq_decide.2 (by omega)
  cases hq : (decide (0 ≤ i) && decide (i ≤ 19))
  · have HT : Hid (htT i s = ⟨#[]⟩) := htT_no (by unfold htB; rw [← k0, hq]; rfl)
    have HQ := hid hq
    clear hq k0
    go_enter Tryd.func13, Tryd.ntmps13
    go_wp2_with fail
    refine (l1In_any i 0 19 _).mono ?_
    rintro e w1 ⟨rfl, rfl⟩
    rw [HQ.out]
    go_wp2_with fail
    go_ret
    exact ⟨ret_strT HT.out.symm, hb⟩
  · have HQ := hid hq
    have e1 : htB i s = scB s := by unfold htB; rw [← k0, hq]; rfl
    clear hq k0
    cases hr : scB s
    · have HT : Hid (htT i s = ⟨#[]⟩) := htT_no (e1.trans hr)
      have HR : Hid ((decide (-100000000000 ≤ s) && decide (s ≤ 100000000000)) = false) := hr
      clear hr e1
      go_enter Tryd.func13, Tryd.ntmps13
      go_wp2_with fail
      refine (l1In_any i 0 19 _).mono ?_
      rintro e w1 ⟨rfl, rfl⟩
      rw [HQ.out]
      go_wp2_with fail
      refine (l1In_any s (-100000000000) 100000000000 _).mono ?_
      rintro e w1 ⟨rfl, rfl⟩
      rw [HR.out]
      go_wp2_with fail
      go_ret
      exact ⟨ret_strT HT.out.symm, hb⟩
    · have HT : Hid (htT i s = htS i s) := htT_yes (e1.trans hr)
      have HI := hid (htB_in (e1.trans hr))
      have HR : Hid ((decide (-100000000000 ≤ s) && decide (s ≤ 100000000000)) = true) := hr
      clear hr e1
      go_enter Tryd.func13, Tryd.ntmps13
      go_wp2_with fail
      refine (l1In_any i 0 19 _).mono ?_
      rintro e w1 ⟨rfl, rfl⟩
      rw [HQ.out]
      go_wp2_with fail
      refine (l1In_any s (-100000000000) 100000000000 _).mono ?_
      rintro e w1 ⟨rfl, rfl⟩
      rw [HR.out]
      go_wp2_with fail
      refine (l13Hit_any i s _ HI.out.1 HI.out.2).mono ?_
      rintro e w2 ⟨rfl, hb2⟩
      go_wp2_with fail
      go_ret
      exact ⟨ret_strT HT.out.symm, hb.trans (hb2.mono hb.size)⟩

end Go.Proofs.YthjphnopcgdgdaaDoor
