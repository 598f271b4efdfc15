/- The law FnExactPlanOk holds: for every input the call returns true, and each argument reads behind the call as it read before. No conditions. -/
import Derived.Test.YtmpgefpaoogoiaaLaw
import Derived.Test.YtmpgefpaoogoiaaFactsB
import Derived.Test.YtmpgefpaoogoiaaPlLaw
import Derived.Test.YtmpgefpaoogoiaaLawP
namespace Go.Proofs.Ytmpgefpaoogoiaa.fnExactPlanOkDone
open Go.ChangeShapes Go.WideShapes Go.ChangeAt Go.RowKit
open Go.ChangeMaps (open_string shut_string)
set_option linter.unusedVariables false

set_option maxRecDepth 100000 in
theorem lifted (os : Os) (started : os.Started) (H : Type) (enc : TypeId × Value → H) :
    ReturnsInHanded {} Try.checked os 3 .any (Rows.fnExactPlanOkSpec.pre6 enc Try.prog Try.f3 Rows.fnExactPlanOkRow.domain false) (Rows.fnExactPlanOkSpec.post enc Try.prog Try.f3 false true false false) := by
  refine returnsInHanded_of_change (C := Try.checked) own started (by kernel_rfl) Try.func3
    (ChangeSpec.witness6 (enc := enc) (C := Try.checked) false ⟨#[], #[.agg #[.int .i64 0, .int .i64 0, .slice none 0 0], .agg #[.slice none 0 0, .slice none 0 0, .slice none 0 0, .slice none 0 0]], []⟩ 8 (by kernel_rfl) (by kernel_rfl) (by kernel_rfl) (by kernel_rfl)) ?_
  intro W base args ds gs before hval0 hW hcnd _
  have hval : ∀ (j : Nat) t v, Try.f3.params[j]? = some t → args[j]? = some v → Value.okWide Try.prog W .any base t v := hval0
  have hW' := hW
  obtain ⟨p, q, hA0, hV, rfl, hfz, hnd⟩ := hW
  have hA : DataW.TrodAll enc Try.prog W 0 (fun _ => true) true Try.f3.params.toList args.toList ds p := hA0
  rw [Try.params3] at hA hval
  obtain ⟨v0, vs0, d0, ds0, p0, q0, hargs, rfl, rfl, h0, r0⟩ := trodAll_cons hA
  obtain ⟨v1, vs1, d1, ds1, p1, q1, rfl, rfl, rfl, h1, r1⟩ := trodAll_cons r0
  obtain ⟨rfl, rfl, rfl⟩ := trodAll_nil r1
  obtain rfl : args = #[v0, v1] := by cases args; simp_all
  obtain ⟨rfl, rfl⟩ := trodVars_none hV
  obtain ⟨cs0, rfl, _⟩ := okWide_struct Try.underlying24 (hval 0 24 v0 rfl rfl)
  have k0 := h0
  have lt0 : ∀ x ∈ p0, x.block < W.heap.size := by obtain ⟨m, hm⟩ := k0; exact DataW.trod_lt m _ _ _ hm
  obtain ⟨f0, b0, a0, len0, cap0, L0, z0, e0, w0, n0, l0⟩ : ∃ f b A n c len g, Value.agg cs0 = enV f b A n c ∧ RdT W W.heap.size A n len g ∧ n ≤ 9223372036854775807 ∧ ∀ i, i < n → len i ≤ 9223372036854775807 := by
    obtain ⟨fuel, hf⟩ := h0
    exact isEns_of hf
  injection e0 with e0
  subst e0
  obtain ⟨cs1, rfl, _⟩ := okWide_struct Try.underlying27 (hval 1 27 v1 rfl rfl)
  have k1 := h1
  have lt1 : ∀ x ∈ p1, x.block < W.heap.size := by obtain ⟨m, hm⟩ := k1; exact DataW.trod_lt m _ _ _ hm
  obtain ⟨A1, n1, c1, z1, A2, n2, c2, z2, A3, n3, c3, z3, A4, n4, c4, z4, e1, rp, pn1, pn2, pn3, pn4⟩ := (by obtain ⟨fuel, hf⟩ := h1; exact isPlan_of hf : ∃ A1 n1 c1 z1 A2 n2 c2 z2 A3 n3 c3 z3 A4 n4 c4 z4, Value.agg cs1 = plV A1 n1 c1 A2 n2 c2 A3 n3 c3 A4 n4 c4 ∧ RdP W W.heap.size A1 n1 z1 A2 n2 z2 A3 n3 z3 A4 n4 z4 ∧ n1 ≤ 9223372036854775807 ∧ n2 ≤ 9223372036854775807 ∧ n3 ≤ 9223372036854775807 ∧ n4 ≤ 9223372036854775807)
  injection e1 with e1
  subst e1
  clear hA0 hval0
  refine (lawPlanOk f0 b0 a0 len0 cap0 L0 z0 A1 n1 c1 z1 A2 n2 c2 z2 A3 n3 c3 z3 A4 n4 c4 z4 W w0 n0 l0 rp pn1 pn2 pn3 pn4).mono fun e W' ⟨he, bel⟩ => ?_
  subst he
  exact ⟨_, rfl, _, _, _, [], _, [], hW', trodAll_mk1 (shut_bool Try.underlying4 _), (trodAll_cons_mk (Below.trod laidOut (by kernel_rfl) (of_decide_eq_true (by kernel_rfl)) k0 bel lt0) (trodAll_cons_mk (Below.trod laidOut (by kernel_rfl) (of_decide_eq_true (by kernel_rfl)) k1 bel lt1) trodAll_mk0)), rfl, bel.frame _, fun h => by cases h⟩

theorem k1 : Rows.fnExactPlanOkRow.wf (OpenSpec.ofChange Rows.fnExactPlanOkSpec) = true := by kernel_rfl
theorem k4 : Try.f3.params.all (Try.prog.readableRec ·) = true := by kernel_rfl
theorem k5 : namedTie Try.prog Rows.fnExactPlanOkRow.named Rows.fnExactPlanOkSpec.vars = true := by kernel_rfl
theorem k6 : (Rows.fnExactPlanOkRow.stops == []) = true := by kernel_rfl
theorem k8 : (Rows.fnExactPlanOkRow.knobs == []) = true := by kernel_rfl
theorem k10 : (Rows.fnExactPlanOkRow.inPlace == Try.prog.inPlace 3) = true := by kernel_rfl
theorem k11 : (Rows.fnExactPlanOkRow.unfollowed == Try.prog.unfollowed 3) = true := by kernel_rfl
theorem k12 : (Rows.fnExactPlanOkRow.recurses == Try.prog.recurses 3) = true := by kernel_rfl
theorem k13 : (Rows.fnExactPlanOkRow.named == Try.prog.varsNamed 3) = true := by kernel_rfl
theorem k14 : (Rows.fnExactPlanOkRow.maps == (Try.f3.params.toList ++ Rows.fnExactPlanOkSpec.plain.varTypes Try.prog).any (Try.prog.mapsRec ·)) = true := by kernel_rfl
theorem k15 : (Rows.fnExactPlanOkRow.ifaces == (Try.f3.params.toList ++ Rows.fnExactPlanOkSpec.plain.varTypes Try.prog).any (Try.prog.ifacesRec ·)) = true := by kernel_rfl
theorem k16 : (Rows.fnExactPlanOkRow.mapsOut == Try.prog.mapsAmong Try.f3.resultTypes.toList) = true := by kernel_rfl
theorem k17 : (Rows.fnExactPlanOkRow.loops == (Try.f3.params.toList ++ Rows.fnExactPlanOkSpec.plain.varTypes Try.prog).any (Try.prog.loopsFrom ·)) = true := by kernel_rfl
theorem k17b : (Rows.fnExactPlanOkRow.wideKeys == (Try.f3.params.toList ++ Rows.fnExactPlanOkSpec.plain.varTypes Try.prog ++ Try.f3.resultTypes.toList).any (Try.prog.wideKeysFrom ·)) = true := by kernel_rfl
theorem k18 : Rows.fnExactPlanOkSpec.vars.all (Try.prog.varReadable ·) = true := by kernel_rfl
theorem k19 : Try.f3.resultTypes.all (fun t => Try.prog.readableRec t && decide (t < Try.prog.types.size)) = true := by kernel_rfl
theorem k20 : (Rows.fnExactPlanOkRow.ifacesOut == Try.f3.resultTypes.toList.any (Try.prog.ifacesRec ·)) = true := by kernel_rfl
theorem k21 : (Rows.fnExactPlanOkRow.loopsOut == Try.f3.resultTypes.toList.any (Try.prog.loopsFrom ·)) = true := by kernel_rfl
theorem k22 : (Rows.fnExactPlanOkRow.plainKeys == Try.prog.plainKeys) = true := (congrArg (fun m => Rows.fnExactPlanOkRow.plainKeys == m) F22).trans (by kernel_rfl)
theorem k23 : Rows.fnExactPlanOkRow.shortTexts.isNone = true := by kernel_rfl
theorem k24b : (Rows.fnExactPlanOkRow.lifted == Try.prog.liftsFinal) = true := (congrArg (fun m => Rows.fnExactPlanOkRow.lifted == m) F24b).trans (by kernel_rfl)
theorem k24c : (Try.prog.make == some Rows.fnExactPlanOkRow.make) = true := (congrArg (fun m => m == some Rows.fnExactPlanOkRow.make) F24c).trans (by kernel_rfl)
theorem k25 : kindsB Try.prog Try.f3 Rows.fnExactPlanOkRow = true := by kernel_rfl
theorem k26 : (Rows.fnExactPlanOkRow.pinned == Rows.fnExactPlanOkRow.pinnedBy) = true := by kernel_rfl
theorem k27 : (Rows.fnExactPlanOkRow.veiled == (Try.f3.params.toList ++ Rows.fnExactPlanOkSpec.plain.varTypes Try.prog ++ Try.f3.resultTypes.toList).any (Try.prog.veiledRec ·)) = true := by kernel_rfl
theorem k28 : Rows.fnExactPlanOkRow.veiledFits Try.prog Try.f3.params.toList (Try.f3.params.toList ++ Rows.fnExactPlanOkSpec.plain.varTypes Try.prog ++ Try.f3.resultTypes.toList) = true := by kernel_rfl
theorem closed : joinedFacts Try.prog 3 Try.f3 Rows.fnExactPlanOkSpec Rows.fnExactPlanOkRow = true := joined_of k1 laidOut F3 k4 k5 k6 F7 k8 F9 k10 k11 k12 k13 k14 k15 k16 k17 k17b k18 k19 k20 k21 k22 k23 F23b F24 k24b k24c k25 k26 k27 k28
theorem over : Rows.fnExactPlanOkRow.holds Try.pinned (OpenSpec.ofChange Rows.fnExactPlanOkSpec) :=
  OpenClaim.holds_of_wide 3 Try.f3 rfl rfl rfl rfl rfl rfl rfl ⟨rfl, rfl, rfl, rfl, rfl⟩ rfl rfl rfl rfl rfl (by kernel_rfl) Try.func3 closed
    (of_decide_eq_true (by kernel_rfl)) (by unfold Func.isWrapper; first | (rw [if_pos (by decide +kernel)]; kernel_rfl) | (rw [if_neg (by decide +kernel)]; exact ⟨rfl, rfl⟩))
    (fun os started H enc _ => lifted os started H enc)

theorem proved : Rows.FnExactPlanOkSaid := over
end Go.Proofs.Ytmpgefpaoogoiaa.fnExactPlanOkDone
