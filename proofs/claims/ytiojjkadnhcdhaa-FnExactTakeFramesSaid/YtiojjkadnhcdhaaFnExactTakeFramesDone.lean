/- The law FnExactTakeFrames holds: for every input the call returns true, and each argument reads behind the call as it read before. No conditions. -/
import Derived.Test.YtiojjkadnhcdhaaLaw
import Derived.Test.YtiojjkadnhcdhaaFactsB
import Derived.Test.YtiojjkadnhcdhaaTkLaw
namespace Go.Proofs.Ytiojjkadnhcdhaa.fnExactTakeFramesDone
open Go.ChangeShapes Go.WideShapes Go.ChangeAt Go.RowKit
open Go.ChangeMaps (open_string shut_string)
set_option linter.unusedVariables false

set_option maxRecDepth 100000 in
theorem lifted (os : Os) (started : os.Started) (H : Type) (enc : TypeId × Value → H) :
    ReturnsInHanded {} Try.checked os 5 .any (Rows.fnExactTakeFramesSpec.pre6 enc Try.prog Try.f5 Rows.fnExactTakeFramesRow.domain false) (Rows.fnExactTakeFramesSpec.post enc Try.prog Try.f5 false true false false) := by
  refine returnsInHanded_of_change (C := Try.checked) own started (by kernel_rfl) Try.func5
    (ChangeSpec.witness6 (enc := enc) (C := Try.checked) false ⟨#[], #[.string ⟨#[]⟩], []⟩ 8 (by kernel_rfl) (by kernel_rfl) (by kernel_rfl) (by kernel_rfl)) ?_
  intro W base args ds gs before hval0 hW hcnd _
  have hval : ∀ (j : Nat) t v, Try.f5.params[j]? = some t → args[j]? = some v → Value.okWide Try.prog W .any base t v := hval0
  have hW' := hW
  obtain ⟨p, q, hA0, hV, rfl, hfz, hnd⟩ := hW
  have hA : DataW.TrodAll enc Try.prog W 0 (fun _ => true) true Try.f5.params.toList args.toList ds p := hA0
  rw [Try.params5] at hA hval
  obtain ⟨v0, vs0, d0, ds0, p0, q0, hargs, rfl, rfl, h0, r0⟩ := trodAll_cons hA
  obtain ⟨rfl, rfl, rfl⟩ := trodAll_nil r0
  obtain rfl : args = #[v0] := by cases args; simp_all
  obtain ⟨rfl, rfl⟩ := trodVars_none hV
  obtain ⟨a0, rfl, rfl, rfl, w0⟩ := open_string Try.underlying9 (hval 0 9 v0 rfl rfl) h0
  clear hA0 hval0
  refine (lawTakeFrames a0 W).mono fun e W' ⟨he, bel⟩ => ?_
  subst he
  exact ⟨_, rfl, _, _, _, [], _, [], hW', trodAll_mk1 (shut_bool Try.underlying4 _), (trodAll_cons_mk (shut_string Try.underlying9 w0) trodAll_mk0), rfl, bel.frame _, fun h => by cases h⟩

theorem k1 : Rows.fnExactTakeFramesRow.wf (OpenSpec.ofChange Rows.fnExactTakeFramesSpec) = true := by kernel_rfl
theorem k4 : Try.f5.params.all (Try.prog.readableRec ·) = true := by kernel_rfl
theorem k5 : namedTie Try.prog Rows.fnExactTakeFramesRow.named Rows.fnExactTakeFramesSpec.vars = true := by kernel_rfl
theorem k6 : (Rows.fnExactTakeFramesRow.stops == []) = true := by kernel_rfl
theorem k8 : (Rows.fnExactTakeFramesRow.knobs == []) = true := by kernel_rfl
theorem k10 : (Rows.fnExactTakeFramesRow.inPlace == Try.prog.inPlace 5) = true := by kernel_rfl
theorem k11 : (Rows.fnExactTakeFramesRow.unfollowed == Try.prog.unfollowed 5) = true := by kernel_rfl
theorem k12 : (Rows.fnExactTakeFramesRow.recurses == Try.prog.recurses 5) = true := by kernel_rfl
theorem k13 : (Rows.fnExactTakeFramesRow.named == Try.prog.varsNamed 5) = true := by kernel_rfl
theorem k14 : (Rows.fnExactTakeFramesRow.maps == (Try.f5.params.toList ++ Rows.fnExactTakeFramesSpec.plain.varTypes Try.prog).any (Try.prog.mapsRec ·)) = true := by kernel_rfl
theorem k15 : (Rows.fnExactTakeFramesRow.ifaces == (Try.f5.params.toList ++ Rows.fnExactTakeFramesSpec.plain.varTypes Try.prog).any (Try.prog.ifacesRec ·)) = true := by kernel_rfl
theorem k16 : (Rows.fnExactTakeFramesRow.mapsOut == Try.prog.mapsAmong Try.f5.resultTypes.toList) = true := by kernel_rfl
theorem k17 : (Rows.fnExactTakeFramesRow.loops == (Try.f5.params.toList ++ Rows.fnExactTakeFramesSpec.plain.varTypes Try.prog).any (Try.prog.loopsFrom ·)) = true := by kernel_rfl
theorem k17b : (Rows.fnExactTakeFramesRow.wideKeys == (Try.f5.params.toList ++ Rows.fnExactTakeFramesSpec.plain.varTypes Try.prog ++ Try.f5.resultTypes.toList).any (Try.prog.wideKeysFrom ·)) = true := by kernel_rfl
theorem k18 : Rows.fnExactTakeFramesSpec.vars.all (Try.prog.varReadable ·) = true := by kernel_rfl
theorem k19 : Try.f5.resultTypes.all (fun t => Try.prog.readableRec t && decide (t < Try.prog.types.size)) = true := by kernel_rfl
theorem k20 : (Rows.fnExactTakeFramesRow.ifacesOut == Try.f5.resultTypes.toList.any (Try.prog.ifacesRec ·)) = true := by kernel_rfl
theorem k21 : (Rows.fnExactTakeFramesRow.loopsOut == Try.f5.resultTypes.toList.any (Try.prog.loopsFrom ·)) = true := by kernel_rfl
theorem k22 : (Rows.fnExactTakeFramesRow.plainKeys == Try.prog.plainKeys) = true := (congrArg (fun m => Rows.fnExactTakeFramesRow.plainKeys == m) F22).trans (by kernel_rfl)
theorem k23 : Rows.fnExactTakeFramesRow.shortTexts.isNone = true := by kernel_rfl
theorem k24b : (Rows.fnExactTakeFramesRow.lifted == Try.prog.liftsFinal) = true := (congrArg (fun m => Rows.fnExactTakeFramesRow.lifted == m) F24b).trans (by kernel_rfl)
theorem k24c : (Try.prog.make == some Rows.fnExactTakeFramesRow.make) = true := (congrArg (fun m => m == some Rows.fnExactTakeFramesRow.make) F24c).trans (by kernel_rfl)
theorem k25 : kindsB Try.prog Try.f5 Rows.fnExactTakeFramesRow = true := by kernel_rfl
theorem k26 : (Rows.fnExactTakeFramesRow.pinned == Rows.fnExactTakeFramesRow.pinnedBy) = true := by kernel_rfl
theorem k27 : (Rows.fnExactTakeFramesRow.veiled == (Try.f5.params.toList ++ Rows.fnExactTakeFramesSpec.plain.varTypes Try.prog ++ Try.f5.resultTypes.toList).any (Try.prog.veiledRec ·)) = true := by kernel_rfl
theorem k28 : Rows.fnExactTakeFramesRow.veiledFits Try.prog Try.f5.params.toList (Try.f5.params.toList ++ Rows.fnExactTakeFramesSpec.plain.varTypes Try.prog ++ Try.f5.resultTypes.toList) = true := by kernel_rfl
theorem closed : joinedFacts Try.prog 5 Try.f5 Rows.fnExactTakeFramesSpec Rows.fnExactTakeFramesRow = true := joined_of k1 laidOut F3 k4 k5 k6 F7 k8 F9 k10 k11 k12 k13 k14 k15 k16 k17 k17b k18 k19 k20 k21 k22 k23 F23b F24 k24b k24c k25 k26 k27 k28
theorem over : Rows.fnExactTakeFramesRow.holds Try.pinned (OpenSpec.ofChange Rows.fnExactTakeFramesSpec) :=
  OpenClaim.holds_of_wide 5 Try.f5 rfl rfl rfl rfl rfl rfl rfl ⟨rfl, rfl, rfl, rfl, rfl⟩ rfl rfl rfl rfl rfl (by kernel_rfl) Try.func5 closed
    (of_decide_eq_true (by kernel_rfl)) (by unfold Func.isWrapper; first | (rw [if_pos (by decide +kernel)]; kernel_rfl) | (rw [if_neg (by decide +kernel)]; exact ⟨rfl, rfl⟩))
    (fun os started H enc _ => lifted os started H enc)

theorem proved : Rows.FnExactTakeFramesSaid := over
end Go.Proofs.Ytiojjkadnhcdhaa.fnExactTakeFramesDone
