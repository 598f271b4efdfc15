/- The law FnExactHitLess holds: for every input the call returns true, and each argument reads behind the call as it read before. No conditions. -/
import Derived.Test.YtghjeaffnocihaaLaw
import Derived.Test.YtghjeaffnocihaaFactsB
import Derived.Test.YtghjeaffnocihaaHitA
import Derived.Test.YtghjeaffnocihaaK8
namespace Go.Proofs.Ytghjeaffnocihaa.fnExactHitLessDone
open Go.ChangeShapes Go.WideShapes Go.ChangeAt Go.RowKit
open Go.ChangeMaps (open_string shut_string)
set_option linter.unusedVariables false

set_option maxRecDepth 100000 in
theorem lifted (os : Os) (started : os.Started) (H : Type) (enc : TypeId × Value → H) :
    ReturnsInHanded {} Try.checked os 16 .any (Rows.fnExactHitLessSpec.pre6 enc Try.prog Try.f16 Rows.fnExactHitLessRow.domain false) (Rows.fnExactHitLessSpec.post enc Try.prog Try.f16 false true false false) := by
  refine returnsInHanded_of_change (C := Try.checked) own started (by kernel_rfl) Try.func16
    (ChangeSpec.witness6 (enc := enc) (C := Try.checked) false ⟨#[], #[.agg #[.int .i64 0, .int .i64 0], .agg #[.int .i64 0, .int .i64 0]], []⟩ 8 (by kernel_rfl) (by kernel_rfl) (by kernel_rfl) (by kernel_rfl)) ?_
  intro W base args ds gs before hval0 hW hcnd _
  have hval : ∀ (j : Nat) t v, Try.f16.params[j]? = some t → args[j]? = some v → Value.okWide Try.prog W .any base t v := hval0
  have hW' := hW
  obtain ⟨p, q, hA0, hV, rfl, hfz, hnd⟩ := hW
  have hA : DataW.TrodAll enc Try.prog W 0 (fun _ => true) true Try.f16.params.toList args.toList ds p := hA0
  rw [Try.params16] at hA hval
  obtain ⟨v0, vs0, d0, ds0, p0, q0, hargs, rfl, rfl, h0, r0⟩ := trodAll_cons hA
  obtain ⟨v1, vs1, d1, ds1, p1, q1, rfl, rfl, rfl, h1, r1⟩ := trodAll_cons r0
  obtain ⟨rfl, rfl, rfl⟩ := trodAll_nil r1
  obtain rfl : args = #[v0, v1] := by cases args; simp_all
  obtain ⟨rfl, rfl⟩ := trodVars_none hV
  obtain ⟨cs0, rfl, _⟩ := okWide_struct Try.underlying99 (hval 0 99 v0 rfl rfl)
  have k0 := h0
  have lt0 : ∀ x ∈ p0, x.block < W.heap.size := by obtain ⟨m, hm⟩ := k0; exact DataW.trod_lt m _ _ _ hm
  obtain ⟨i0, s0, e0⟩ : ∃ i0 s0, Value.agg cs0 = .agg #[.int .i64 i0, .int .i64 s0] := by
    obtain ⟨fuel, hf⟩ := h0
    exact isHit_of hf
  injection e0 with e0
  subst e0
  obtain ⟨cs1, rfl, _⟩ := okWide_struct Try.underlying99 (hval 1 99 v1 rfl rfl)
  have k1 := h1
  have lt1 : ∀ x ∈ p1, x.block < W.heap.size := by obtain ⟨m, hm⟩ := k1; exact DataW.trod_lt m _ _ _ hm
  obtain ⟨i1, s1, e1⟩ : ∃ i1 s1, Value.agg cs1 = .agg #[.int .i64 i1, .int .i64 s1] := by
    obtain ⟨fuel, hf⟩ := h1
    exact isHit_of hf
  injection e1 with e1
  subst e1
  clear hA0 hval0
  refine (lawHitLess i0 s0 i1 s1 W).mono fun e W' ⟨he, bel⟩ => ?_
  subst he
  exact ⟨_, rfl, _, _, _, [], _, [], hW', trodAll_mk1 (shut_bool Try.underlying4 _), (trodAll_cons_mk (Below.trod laidOut (by kernel_rfl) (of_decide_eq_true (by kernel_rfl)) k0 bel lt0) (trodAll_cons_mk (Below.trod laidOut (by kernel_rfl) (of_decide_eq_true (by kernel_rfl)) k1 bel lt1) trodAll_mk0)), rfl, bel.frame _, fun h => by cases h⟩

theorem k1 : Rows.fnExactHitLessRow.wf (OpenSpec.ofChange Rows.fnExactHitLessSpec) = true := by kernel_rfl
theorem k4 : Try.f16.params.all (Try.prog.readableRec ·) = true := by kernel_rfl
theorem k5 : namedTie Try.prog Rows.fnExactHitLessRow.named Rows.fnExactHitLessSpec.vars = true := by kernel_rfl
theorem k6 : (Rows.fnExactHitLessRow.stops == []) = true := by kernel_rfl
theorem k8 : (Rows.fnExactHitLessRow.knobs == []) = true := by kernel_rfl
theorem k10 : (Rows.fnExactHitLessRow.inPlace == Try.prog.inPlace 16) = true := by kernel_rfl
theorem k11 : (Rows.fnExactHitLessRow.unfollowed == Try.prog.unfollowed 16) = true := by kernel_rfl
theorem k12 : (Rows.fnExactHitLessRow.recurses == Try.prog.recurses 16) = true := by kernel_rfl
theorem k13 : (Rows.fnExactHitLessRow.named == Try.prog.varsNamed 16) = true := by kernel_rfl
theorem k14 : (Rows.fnExactHitLessRow.maps == (Try.f16.params.toList ++ Rows.fnExactHitLessSpec.plain.varTypes Try.prog).any (Try.prog.mapsRec ·)) = true := by kernel_rfl
theorem k15 : (Rows.fnExactHitLessRow.ifaces == (Try.f16.params.toList ++ Rows.fnExactHitLessSpec.plain.varTypes Try.prog).any (Try.prog.ifacesRec ·)) = true := by kernel_rfl
theorem k16 : (Rows.fnExactHitLessRow.mapsOut == Try.prog.mapsAmong Try.f16.resultTypes.toList) = true := by kernel_rfl
theorem k17 : (Rows.fnExactHitLessRow.loops == (Try.f16.params.toList ++ Rows.fnExactHitLessSpec.plain.varTypes Try.prog).any (Try.prog.loopsFrom ·)) = true := by kernel_rfl
theorem k17b : (Rows.fnExactHitLessRow.wideKeys == (Try.f16.params.toList ++ Rows.fnExactHitLessSpec.plain.varTypes Try.prog ++ Try.f16.resultTypes.toList).any (Try.prog.wideKeysFrom ·)) = true := by kernel_rfl
theorem k18 : Rows.fnExactHitLessSpec.vars.all (Try.prog.varReadable ·) = true := by kernel_rfl
theorem k19 : Try.f16.resultTypes.all (fun t => Try.prog.readableRec t && decide (t < Try.prog.types.size)) = true := by kernel_rfl
theorem k20 : (Rows.fnExactHitLessRow.ifacesOut == Try.f16.resultTypes.toList.any (Try.prog.ifacesRec ·)) = true := by kernel_rfl
theorem k21 : (Rows.fnExactHitLessRow.loopsOut == Try.f16.resultTypes.toList.any (Try.prog.loopsFrom ·)) = true := by kernel_rfl
theorem k22 : (Rows.fnExactHitLessRow.plainKeys == Try.prog.plainKeys) = true := (congrArg (fun m => Rows.fnExactHitLessRow.plainKeys == m) F22).trans (by kernel_rfl)
theorem k23 : Rows.fnExactHitLessRow.shortTexts.isNone = true := by kernel_rfl
theorem k24b : (Rows.fnExactHitLessRow.lifted == Try.prog.liftsFinal) = true := (congrArg (fun m => Rows.fnExactHitLessRow.lifted == m) F24b).trans (by kernel_rfl)
theorem k24c : (Try.prog.make == some Rows.fnExactHitLessRow.make) = true := (congrArg (fun m => m == some Rows.fnExactHitLessRow.make) F24c).trans (by kernel_rfl)
theorem k25 : kindsB Try.prog Try.f16 Rows.fnExactHitLessRow = true := by kernel_rfl
theorem k26 : (Rows.fnExactHitLessRow.pinned == Rows.fnExactHitLessRow.pinnedBy) = true := by kernel_rfl
theorem k27 : (Rows.fnExactHitLessRow.veiled == (Try.f16.params.toList ++ Rows.fnExactHitLessSpec.plain.varTypes Try.prog ++ Try.f16.resultTypes.toList).any (Try.prog.veiledRec ·)) = true := by kernel_rfl
theorem k28 : Rows.fnExactHitLessRow.veiledFits Try.prog Try.f16.params.toList (Try.f16.params.toList ++ Rows.fnExactHitLessSpec.plain.varTypes Try.prog ++ Try.f16.resultTypes.toList) = true := by kernel_rfl
theorem closed : joinedFacts Try.prog 16 Try.f16 Rows.fnExactHitLessSpec Rows.fnExactHitLessRow = true := joined_of k1 laidOut F3 k4 k5 k6 F7 k8 F9 k10 k11 k12 k13 k14 k15 k16 k17 k17b k18 k19 k20 k21 k22 k23 F23b F24 k24b k24c k25 k26 k27 k28
theorem over : Rows.fnExactHitLessRow.holds Try.pinned (OpenSpec.ofChange Rows.fnExactHitLessSpec) :=
  OpenClaim.holds_of_wide 16 Try.f16 rfl rfl rfl rfl rfl rfl rfl ⟨rfl, rfl, rfl, rfl, rfl⟩ rfl rfl rfl rfl rfl (by kernel_rfl) Try.func16 closed
    (of_decide_eq_true (by kernel_rfl)) (by unfold Func.isWrapper; first | (rw [if_pos (by decide +kernel)]; kernel_rfl) | (rw [if_neg (by decide +kernel)]; exact ⟨rfl, rfl⟩))
    (fun os started H enc _ => lifted os started H enc)

theorem proved : Rows.FnExactHitLessSaid := over
end Go.Proofs.Ytghjeaffnocihaa.fnExactHitLessDone
