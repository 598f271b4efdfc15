/- The law FnExactPlanOf holds: for every input the call returns true, and each argument reads behind the call as it read before. No conditions. -/
import Derived.Test.YtmpgefpaoogoiaaLaw
import Derived.Test.YtmpgefpaoogoiaaFactsB
import Derived.Test.YtmpgefpaoogoiaaPlOfX
import Derived.Test.YtmpgefpaoogoiaaLawE
namespace Go.Proofs.Ytmpgefpaoogoiaa.fnExactPlanOfDone
open Go.ChangeShapes Go.WideShapes Go.ChangeAt Go.RowKit
open Go.ChangeMaps (open_string shut_string)
set_option linter.unusedVariables false

set_option maxRecDepth 100000 in
theorem lifted (os : Os) (started : os.Started) (H : Type) (enc : TypeId × Value → H) :
    ReturnsInHanded {} Try.checked os 5 .any (Rows.fnExactPlanOfSpec.pre6 enc Try.prog Try.f5 Rows.fnExactPlanOfRow.domain false) (Rows.fnExactPlanOfSpec.post enc Try.prog Try.f5 false true false false) := by
  refine returnsInHanded_of_change (C := Try.checked) own started (by kernel_rfl) Try.func5
    (ChangeSpec.witness6 (enc := enc) (C := Try.checked) false ⟨#[], #[.agg #[.int .i64 0, .int .i64 0, .slice none 0 0], .int .i64 0, .int .i64 0], []⟩ 8 (by kernel_rfl) (by kernel_rfl) (by kernel_rfl) (by kernel_rfl)) ?_
  intro W base args ds gs before hval0 hW hcnd _
  have hval : ∀ (j : Nat) t v, Try.f5.params[j]? = some t → args[j]? = some v → Value.okWide Try.prog W .any base t v := hval0
  have hW' := hW
  obtain ⟨p, q, hA0, hV, rfl, hfz, hnd⟩ := hW
  have hA : DataW.TrodAll enc Try.prog W 0 (fun _ => true) true Try.f5.params.toList args.toList ds p := hA0
  rw [Try.params5] at hA hval
  obtain ⟨v0, vs0, d0, ds0, p0, q0, hargs, rfl, rfl, h0, r0⟩ := trodAll_cons hA
  obtain ⟨v1, vs1, d1, ds1, p1, q1, rfl, rfl, rfl, h1, r1⟩ := trodAll_cons r0
  obtain ⟨v2, vs2, d2, ds2, p2, q2, rfl, rfl, rfl, h2, r2⟩ := trodAll_cons r1
  obtain ⟨rfl, rfl, rfl⟩ := trodAll_nil r2
  obtain rfl : args = #[v0, v1, v2] := by cases args; simp_all
  obtain ⟨rfl, rfl⟩ := trodVars_none hV
  obtain ⟨cs0, rfl, _⟩ := okWide_struct Try.underlying24 (hval 0 24 v0 rfl rfl)
  have k0 := h0
  have lt0 : ∀ x ∈ p0, x.block < W.heap.size := by obtain ⟨m, hm⟩ := k0; exact DataW.trod_lt m _ _ _ hm
  obtain ⟨f0, b0, a0, len0, cap0, L0, z0, e0, w0, n0, l0⟩ : ∃ f b A n c len g, Value.agg cs0 = enV f b A n c ∧ RdT W W.heap.size A n len g ∧ n ≤ 9223372036854775807 ∧ ∀ i, i < n → len i ≤ 9223372036854775807 := by
    obtain ⟨fuel, hf⟩ := h0
    exact isEns_of hf
  injection e0 with e0
  subst e0
  obtain ⟨a1, rfl, rfl, rfl, w1⟩ := open_int Try.underlying2 (hval 1 2 v1 rfl rfl) h1
  obtain ⟨a2, rfl, rfl, rfl, w2⟩ := open_int Try.underlying2 (hval 2 2 v2 rfl rfl) h2
  clear hA0 hval0
  refine (lawPlanOf f0 b0 a0 len0 cap0 L0 z0 a1 a2 W w0 n0 l0).mono fun e W' ⟨he, bel⟩ => ?_
  subst he
  exact ⟨_, rfl, _, _, _, [], _, [], hW', trodAll_mk1 (shut_bool Try.underlying4 _), (trodAll_cons_mk (Below.trod laidOut (by kernel_rfl) (of_decide_eq_true (by kernel_rfl)) k0 bel lt0) (trodAll_cons_mk (shut_int Try.underlying2 w1) (trodAll_cons_mk (shut_int Try.underlying2 w2) trodAll_mk0))), rfl, bel.frame _, fun h => by cases h⟩

theorem k1 : Rows.fnExactPlanOfRow.wf (OpenSpec.ofChange Rows.fnExactPlanOfSpec) = true := by kernel_rfl
theorem k4 : Try.f5.params.all (Try.prog.readableRec ·) = true := by kernel_rfl
theorem k5 : namedTie Try.prog Rows.fnExactPlanOfRow.named Rows.fnExactPlanOfSpec.vars = true := by kernel_rfl
theorem k6 : (Rows.fnExactPlanOfRow.stops == []) = true := by kernel_rfl
theorem k8 : (Rows.fnExactPlanOfRow.knobs == []) = true := by kernel_rfl
theorem k10 : (Rows.fnExactPlanOfRow.inPlace == Try.prog.inPlace 5) = true := by kernel_rfl
theorem k11 : (Rows.fnExactPlanOfRow.unfollowed == Try.prog.unfollowed 5) = true := by kernel_rfl
theorem k12 : (Rows.fnExactPlanOfRow.recurses == Try.prog.recurses 5) = true := by kernel_rfl
theorem k13 : (Rows.fnExactPlanOfRow.named == Try.prog.varsNamed 5) = true := by kernel_rfl
theorem k14 : (Rows.fnExactPlanOfRow.maps == (Try.f5.params.toList ++ Rows.fnExactPlanOfSpec.plain.varTypes Try.prog).any (Try.prog.mapsRec ·)) = true := by kernel_rfl
theorem k15 : (Rows.fnExactPlanOfRow.ifaces == (Try.f5.params.toList ++ Rows.fnExactPlanOfSpec.plain.varTypes Try.prog).any (Try.prog.ifacesRec ·)) = true := by kernel_rfl
theorem k16 : (Rows.fnExactPlanOfRow.mapsOut == Try.prog.mapsAmong Try.f5.resultTypes.toList) = true := by kernel_rfl
theorem k17 : (Rows.fnExactPlanOfRow.loops == (Try.f5.params.toList ++ Rows.fnExactPlanOfSpec.plain.varTypes Try.prog).any (Try.prog.loopsFrom ·)) = true := by kernel_rfl
theorem k17b : (Rows.fnExactPlanOfRow.wideKeys == (Try.f5.params.toList ++ Rows.fnExactPlanOfSpec.plain.varTypes Try.prog ++ Try.f5.resultTypes.toList).any (Try.prog.wideKeysFrom ·)) = true := by kernel_rfl
theorem k18 : Rows.fnExactPlanOfSpec.vars.all (Try.prog.varReadable ·) = true := by kernel_rfl
theorem k19 : Try.f5.resultTypes.all (fun t => Try.prog.readableRec t && decide (t < Try.prog.types.size)) = true := by kernel_rfl
theorem k20 : (Rows.fnExactPlanOfRow.ifacesOut == Try.f5.resultTypes.toList.any (Try.prog.ifacesRec ·)) = true := by kernel_rfl
theorem k21 : (Rows.fnExactPlanOfRow.loopsOut == Try.f5.resultTypes.toList.any (Try.prog.loopsFrom ·)) = true := by kernel_rfl
theorem k22 : (Rows.fnExactPlanOfRow.plainKeys == Try.prog.plainKeys) = true := (congrArg (fun m => Rows.fnExactPlanOfRow.plainKeys == m) F22).trans (by kernel_rfl)
theorem k23 : Rows.fnExactPlanOfRow.shortTexts.isNone = true := by kernel_rfl
theorem k24b : (Rows.fnExactPlanOfRow.lifted == Try.prog.liftsFinal) = true := (congrArg (fun m => Rows.fnExactPlanOfRow.lifted == m) F24b).trans (by kernel_rfl)
theorem k24c : (Try.prog.make == some Rows.fnExactPlanOfRow.make) = true := (congrArg (fun m => m == some Rows.fnExactPlanOfRow.make) F24c).trans (by kernel_rfl)
theorem k25 : kindsB Try.prog Try.f5 Rows.fnExactPlanOfRow = true := by kernel_rfl
theorem k26 : (Rows.fnExactPlanOfRow.pinned == Rows.fnExactPlanOfRow.pinnedBy) = true := by kernel_rfl
theorem k27 : (Rows.fnExactPlanOfRow.veiled == (Try.f5.params.toList ++ Rows.fnExactPlanOfSpec.plain.varTypes Try.prog ++ Try.f5.resultTypes.toList).any (Try.prog.veiledRec ·)) = true := by kernel_rfl
theorem k28 : Rows.fnExactPlanOfRow.veiledFits Try.prog Try.f5.params.toList (Try.f5.params.toList ++ Rows.fnExactPlanOfSpec.plain.varTypes Try.prog ++ Try.f5.resultTypes.toList) = true := by kernel_rfl
theorem closed : joinedFacts Try.prog 5 Try.f5 Rows.fnExactPlanOfSpec Rows.fnExactPlanOfRow = true := joined_of k1 laidOut F3 k4 k5 k6 F7 k8 F9 k10 k11 k12 k13 k14 k15 k16 k17 k17b k18 k19 k20 k21 k22 k23 F23b F24 k24b k24c k25 k26 k27 k28
theorem over : Rows.fnExactPlanOfRow.holds Try.pinned (OpenSpec.ofChange Rows.fnExactPlanOfSpec) :=
  OpenClaim.holds_of_wide 5 Try.f5 rfl rfl rfl rfl rfl rfl rfl ⟨rfl, rfl, rfl, rfl, rfl⟩ rfl rfl rfl rfl rfl (by kernel_rfl) Try.func5 closed
    (of_decide_eq_true (by kernel_rfl)) (by unfold Func.isWrapper; first | (rw [if_pos (by decide +kernel)]; kernel_rfl) | (rw [if_neg (by decide +kernel)]; exact ⟨rfl, rfl⟩))
    (fun os started H enc _ => lifted os started H enc)

theorem proved : Rows.FnExactPlanOfSaid := over
end Go.Proofs.Ytmpgefpaoogoiaa.fnExactPlanOfDone
