/- The law FnExactBoxMeet holds: for every input the call returns true, and each argument reads behind the call as it read before. No conditions. -/
import Derived.Test.YtmlcpjcchgihfaaLaw
import Derived.Test.YtmlcpjcchgihfaaFactsB
import Derived.Test.YtmlcpjcchgihfaaMeetLaw
import Derived.Test.YtmlcpjcchgihfaaLawS
namespace Go.Proofs.Ytmlcpjcchgihfaa.fnExactBoxMeetDone
open Go.ChangeShapes Go.WideShapes Go.ChangeAt Go.RowKit
open Go.ChangeMaps (open_string shut_string)
set_option linter.unusedVariables false

set_option maxRecDepth 100000 in
theorem lifted (os : Os) (started : os.Started) (H : Type) (enc : TypeId × Value → H) :
    ReturnsInHanded {} Try.checked os 10 .any (Rows.fnExactBoxMeetSpec.pre6 enc Try.prog Try.f10 Rows.fnExactBoxMeetRow.domain false) (Rows.fnExactBoxMeetSpec.post enc Try.prog Try.f10 false true false false) := by
  refine returnsInHanded_of_change (C := Try.checked) own started (by kernel_rfl) Try.func10
    (ChangeSpec.witness6 (enc := enc) (C := Try.checked) false ⟨#[], #[.slice none 0 0, .slice none 0 0], []⟩ 8 (by kernel_rfl) (by kernel_rfl) (by kernel_rfl) (by kernel_rfl)) ?_
  intro W base args ds gs before hval0 hW hcnd _
  have hval : ∀ (j : Nat) t v, Try.f10.params[j]? = some t → args[j]? = some v → Value.okWide Try.prog W .any base t v := hval0
  have hW' := hW
  obtain ⟨p, q, hA0, hV, rfl, hfz, hnd⟩ := hW
  have hA : DataW.TrodAll enc Try.prog W 0 (fun _ => true) true Try.f10.params.toList args.toList ds p := hA0
  rw [Try.params10] at hA hval
  obtain ⟨v0, vs0, d0, ds0, p0, q0, hargs, rfl, rfl, h0, r0⟩ := trodAll_cons hA
  obtain ⟨v1, vs1, d1, ds1, p1, q1, rfl, rfl, rfl, h1, r1⟩ := trodAll_cons r0
  obtain ⟨rfl, rfl, rfl⟩ := trodAll_nil r1
  obtain rfl : args = #[v0, v1] := by cases args; simp_all
  obtain ⟨rfl, rfl⟩ := trodVars_none hV
  obtain ⟨a0, len0, cap0, rfl⟩ := okWide_slice Try.underlying40 (hval 0 40 v0 rfl rfl)
  have k0 := h0
  have lt0 : ∀ x ∈ p0, x.block < W.heap.size := by obtain ⟨m, hm⟩ := k0; exact DataW.trod_lt m _ _ _ hm
  obtain ⟨z0, w0⟩ : ∃ zs, IsSpans W a0 len0 cap0 zs := by
    obtain ⟨fuel, hf⟩ := h0
    exact isSpans_of hf
  obtain ⟨a1, len1, cap1, rfl⟩ := okWide_slice Try.underlying40 (hval 1 40 v1 rfl rfl)
  have k1 := h1
  have lt1 : ∀ x ∈ p1, x.block < W.heap.size := by obtain ⟨m, hm⟩ := k1; exact DataW.trod_lt m _ _ _ hm
  obtain ⟨z1, w1⟩ : ∃ zs, IsSpans W a1 len1 cap1 zs := by
    obtain ⟨fuel, hf⟩ := h1
    exact isSpans_of hf
  clear hA0 hval0
  refine (lawBoxMeet a0 a1 len0 len1 cap0 cap1 z0 z1 W w0.1 w1.1 w0.2 w1.2).mono fun e W' ⟨he, bel⟩ => ?_
  subst he
  exact ⟨_, rfl, _, _, _, [], _, [], hW', trodAll_mk1 (shut_bool Try.underlying4 _), (trodAll_cons_mk (Below.trod laidOut (by kernel_rfl) (of_decide_eq_true (by kernel_rfl)) k0 bel lt0) (trodAll_cons_mk (Below.trod laidOut (by kernel_rfl) (of_decide_eq_true (by kernel_rfl)) k1 bel lt1) trodAll_mk0)), rfl, bel.frame _, fun h => by cases h⟩

theorem k1 : Rows.fnExactBoxMeetRow.wf (OpenSpec.ofChange Rows.fnExactBoxMeetSpec) = true := by kernel_rfl
theorem k4 : Try.f10.params.all (Try.prog.readableRec ·) = true := by kernel_rfl
theorem k5 : namedTie Try.prog Rows.fnExactBoxMeetRow.named Rows.fnExactBoxMeetSpec.vars = true := by kernel_rfl
theorem k6 : (Rows.fnExactBoxMeetRow.stops == []) = true := by kernel_rfl
theorem k8 : (Rows.fnExactBoxMeetRow.knobs == []) = true := by kernel_rfl
theorem k10 : (Rows.fnExactBoxMeetRow.inPlace == Try.prog.inPlace 10) = true := by kernel_rfl
theorem k11 : (Rows.fnExactBoxMeetRow.unfollowed == Try.prog.unfollowed 10) = true := by kernel_rfl
theorem k12 : (Rows.fnExactBoxMeetRow.recurses == Try.prog.recurses 10) = true := by kernel_rfl
theorem k13 : (Rows.fnExactBoxMeetRow.named == Try.prog.varsNamed 10) = true := by kernel_rfl
theorem k14 : (Rows.fnExactBoxMeetRow.maps == (Try.f10.params.toList ++ Rows.fnExactBoxMeetSpec.plain.varTypes Try.prog).any (Try.prog.mapsRec ·)) = true := by kernel_rfl
theorem k15 : (Rows.fnExactBoxMeetRow.ifaces == (Try.f10.params.toList ++ Rows.fnExactBoxMeetSpec.plain.varTypes Try.prog).any (Try.prog.ifacesRec ·)) = true := by kernel_rfl
theorem k16 : (Rows.fnExactBoxMeetRow.mapsOut == Try.prog.mapsAmong Try.f10.resultTypes.toList) = true := by kernel_rfl
theorem k17 : (Rows.fnExactBoxMeetRow.loops == (Try.f10.params.toList ++ Rows.fnExactBoxMeetSpec.plain.varTypes Try.prog).any (Try.prog.loopsFrom ·)) = true := by kernel_rfl
theorem k17b : (Rows.fnExactBoxMeetRow.wideKeys == (Try.f10.params.toList ++ Rows.fnExactBoxMeetSpec.plain.varTypes Try.prog ++ Try.f10.resultTypes.toList).any (Try.prog.wideKeysFrom ·)) = true := by kernel_rfl
theorem k18 : Rows.fnExactBoxMeetSpec.vars.all (Try.prog.varReadable ·) = true := by kernel_rfl
theorem k19 : Try.f10.resultTypes.all (fun t => Try.prog.readableRec t && decide (t < Try.prog.types.size)) = true := by kernel_rfl
theorem k20 : (Rows.fnExactBoxMeetRow.ifacesOut == Try.f10.resultTypes.toList.any (Try.prog.ifacesRec ·)) = true := by kernel_rfl
theorem k21 : (Rows.fnExactBoxMeetRow.loopsOut == Try.f10.resultTypes.toList.any (Try.prog.loopsFrom ·)) = true := by kernel_rfl
theorem k22 : (Rows.fnExactBoxMeetRow.plainKeys == Try.prog.plainKeys) = true := (congrArg (fun m => Rows.fnExactBoxMeetRow.plainKeys == m) F22).trans (by kernel_rfl)
theorem k23 : Rows.fnExactBoxMeetRow.shortTexts.isNone = true := by kernel_rfl
theorem k24b : (Rows.fnExactBoxMeetRow.lifted == Try.prog.liftsFinal) = true := (congrArg (fun m => Rows.fnExactBoxMeetRow.lifted == m) F24b).trans (by kernel_rfl)
theorem k24c : (Try.prog.make == some Rows.fnExactBoxMeetRow.make) = true := (congrArg (fun m => m == some Rows.fnExactBoxMeetRow.make) F24c).trans (by kernel_rfl)
theorem k25 : kindsB Try.prog Try.f10 Rows.fnExactBoxMeetRow = true := by kernel_rfl
theorem k26 : (Rows.fnExactBoxMeetRow.pinned == Rows.fnExactBoxMeetRow.pinnedBy) = true := by kernel_rfl
theorem k27 : (Rows.fnExactBoxMeetRow.veiled == (Try.f10.params.toList ++ Rows.fnExactBoxMeetSpec.plain.varTypes Try.prog ++ Try.f10.resultTypes.toList).any (Try.prog.veiledRec ·)) = true := by kernel_rfl
theorem k28 : Rows.fnExactBoxMeetRow.veiledFits Try.prog Try.f10.params.toList (Try.f10.params.toList ++ Rows.fnExactBoxMeetSpec.plain.varTypes Try.prog ++ Try.f10.resultTypes.toList) = true := by kernel_rfl
theorem closed : joinedFacts Try.prog 10 Try.f10 Rows.fnExactBoxMeetSpec Rows.fnExactBoxMeetRow = true := joined_of k1 laidOut F3 k4 k5 k6 F7 k8 F9 k10 k11 k12 k13 k14 k15 k16 k17 k17b k18 k19 k20 k21 k22 k23 F23b F24 k24b k24c k25 k26 k27 k28
theorem over : Rows.fnExactBoxMeetRow.holds Try.pinned (OpenSpec.ofChange Rows.fnExactBoxMeetSpec) :=
  OpenClaim.holds_of_wide 10 Try.f10 rfl rfl rfl rfl rfl rfl rfl ⟨rfl, rfl, rfl, rfl, rfl⟩ rfl rfl rfl rfl rfl (by kernel_rfl) Try.func10 closed
    (of_decide_eq_true (by kernel_rfl)) (by unfold Func.isWrapper; first | (rw [if_pos (by decide +kernel)]; kernel_rfl) | (rw [if_neg (by decide +kernel)]; exact ⟨rfl, rfl⟩))
    (fun os started H enc _ => lifted os started H enc)

theorem proved : Rows.FnExactBoxMeetSaid := over
end Go.Proofs.Ytmlcpjcchgihfaa.fnExactBoxMeetDone
