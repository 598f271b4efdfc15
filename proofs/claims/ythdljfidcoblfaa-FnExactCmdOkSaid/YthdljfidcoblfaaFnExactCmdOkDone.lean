/- The law FnExactCmdOk holds: for every input the call returns true, and each argument reads behind the call as it read before. No conditions. -/
import Derived.Test.YthdljfidcoblfaaLaw
import Derived.Test.YthdljfidcoblfaaFactsB
import Derived.Test.YthdljfidcoblfaaCmO
import Derived.Test.YthdljfidcoblfaaLawCm
namespace Go.Proofs.Ythdljfidcoblfaa.fnExactCmdOkDone
open Go.ChangeShapes Go.WideShapes Go.ChangeAt Go.RowKit
open Go.ChangeMaps (open_string shut_string)
set_option linter.unusedVariables false

set_option maxRecDepth 100000 in
theorem lifted (os : Os) (started : os.Started) (H : Type) (enc : TypeId × Value → H) :
    ReturnsInHanded {} Try.checked os 3 .any (Rows.fnExactCmdOkSpec.pre6 enc Try.prog Try.f3 Rows.fnExactCmdOkRow.domain false) (Rows.fnExactCmdOkSpec.post enc Try.prog Try.f3 false true false false) := by
  refine returnsInHanded_of_change (C := Try.checked) own started (by kernel_rfl) Try.func3
    (ChangeSpec.witness6 (enc := enc) (C := Try.checked) false ⟨#[], #[.agg #[.int .i64 0, .int .i64 0, .int .i64 0, .int .i64 0, .slice none 0 0, .string ⟨#[]⟩]], []⟩ 8 (by kernel_rfl) (by kernel_rfl) (by kernel_rfl) (by kernel_rfl)) ?_
  intro W base args ds gs before hval0 hW hcnd _
  have hval : ∀ (j : Nat) t v, Try.f3.params[j]? = some t → args[j]? = some v → Value.okWide Try.prog W .any base t v := hval0
  have hW' := hW
  obtain ⟨p, q, hA0, hV, rfl, hfz, hnd⟩ := hW
  have hA : DataW.TrodAll enc Try.prog W 0 (fun _ => true) true Try.f3.params.toList args.toList ds p := hA0
  rw [Try.params3] at hA hval
  obtain ⟨v0, vs0, d0, ds0, p0, q0, hargs, rfl, rfl, h0, r0⟩ := trodAll_cons hA
  obtain ⟨rfl, rfl, rfl⟩ := trodAll_nil r0
  obtain rfl : args = #[v0] := by cases args; simp_all
  obtain ⟨rfl, rfl⟩ := trodVars_none hV
  obtain ⟨cs0, rfl, _⟩ := okWide_struct Try.underlying24 (hval 0 24 v0 rfl rfl)
  have k0 := h0
  have lt0 : ∀ x ∈ p0, x.block < W.heap.size := by obtain ⟨m, hm⟩ := k0; exact DataW.trod_lt m _ _ _ hm
  obtain ⟨ck0, ca0, cb0, ct0, cD0, cn0, cc0, cl0, cz0, cs0', e0, w0, n0, l0, s0⟩ : ∃ k a b t D n dc len z s, Value.agg cs0 = cmV k a b t D n dc s ∧ RdQ W W.heap.size D n len z ∧ n ≤ 9223372036854775807 ∧ (∀ i, i < n → len i ≤ 9223372036854775807) ∧ s.size ≤ 9223372036854775807 := by
    obtain ⟨fuel, hf⟩ := h0
    exact isCmd_of hf
  injection e0 with e0
  subst e0
  clear hA0 hval0
  refine (lawCmdOk ck0 ca0 cb0 ct0 cD0 cn0 cc0 cl0 cz0 cs0' W w0 n0 l0 s0).mono fun e W' ⟨he, bel⟩ => ?_
  subst he
  exact ⟨_, rfl, _, _, _, [], _, [], hW', trodAll_mk1 (shut_bool Try.underlying4 _), (trodAll_cons_mk (Below.trod laidOut (by kernel_rfl) (of_decide_eq_true (by kernel_rfl)) k0 bel lt0) trodAll_mk0), rfl, bel.frame _, fun h => by cases h⟩

theorem k1 : Rows.fnExactCmdOkRow.wf (OpenSpec.ofChange Rows.fnExactCmdOkSpec) = true := by kernel_rfl
theorem k4 : Try.f3.params.all (Try.prog.readableRec ·) = true := by kernel_rfl
theorem k5 : namedTie Try.prog Rows.fnExactCmdOkRow.named Rows.fnExactCmdOkSpec.vars = true := by kernel_rfl
theorem k6 : (Rows.fnExactCmdOkRow.stops == []) = true := by kernel_rfl
theorem k8 : (Rows.fnExactCmdOkRow.knobs == []) = true := by kernel_rfl
theorem k10 : (Rows.fnExactCmdOkRow.inPlace == Try.prog.inPlace 3) = true := by kernel_rfl
theorem k11 : (Rows.fnExactCmdOkRow.unfollowed == Try.prog.unfollowed 3) = true := by kernel_rfl
theorem k12 : (Rows.fnExactCmdOkRow.recurses == Try.prog.recurses 3) = true := by kernel_rfl
theorem k13 : (Rows.fnExactCmdOkRow.named == Try.prog.varsNamed 3) = true := by kernel_rfl
theorem k14 : (Rows.fnExactCmdOkRow.maps == (Try.f3.params.toList ++ Rows.fnExactCmdOkSpec.plain.varTypes Try.prog).any (Try.prog.mapsRec ·)) = true := by kernel_rfl
theorem k15 : (Rows.fnExactCmdOkRow.ifaces == (Try.f3.params.toList ++ Rows.fnExactCmdOkSpec.plain.varTypes Try.prog).any (Try.prog.ifacesRec ·)) = true := by kernel_rfl
theorem k16 : (Rows.fnExactCmdOkRow.mapsOut == Try.prog.mapsAmong Try.f3.resultTypes.toList) = true := by kernel_rfl
theorem k17 : (Rows.fnExactCmdOkRow.loops == (Try.f3.params.toList ++ Rows.fnExactCmdOkSpec.plain.varTypes Try.prog).any (Try.prog.loopsFrom ·)) = true := by kernel_rfl
theorem k17b : (Rows.fnExactCmdOkRow.wideKeys == (Try.f3.params.toList ++ Rows.fnExactCmdOkSpec.plain.varTypes Try.prog ++ Try.f3.resultTypes.toList).any (Try.prog.wideKeysFrom ·)) = true := by kernel_rfl
theorem k18 : Rows.fnExactCmdOkSpec.vars.all (Try.prog.varReadable ·) = true := by kernel_rfl
theorem k19 : Try.f3.resultTypes.all (fun t => Try.prog.readableRec t && decide (t < Try.prog.types.size)) = true := by kernel_rfl
theorem k20 : (Rows.fnExactCmdOkRow.ifacesOut == Try.f3.resultTypes.toList.any (Try.prog.ifacesRec ·)) = true := by kernel_rfl
theorem k21 : (Rows.fnExactCmdOkRow.loopsOut == Try.f3.resultTypes.toList.any (Try.prog.loopsFrom ·)) = true := by kernel_rfl
theorem k22 : (Rows.fnExactCmdOkRow.plainKeys == Try.prog.plainKeys) = true := (congrArg (fun m => Rows.fnExactCmdOkRow.plainKeys == m) F22).trans (by kernel_rfl)
theorem k23 : Rows.fnExactCmdOkRow.shortTexts.isNone = true := by kernel_rfl
theorem k24b : (Rows.fnExactCmdOkRow.lifted == Try.prog.liftsFinal) = true := (congrArg (fun m => Rows.fnExactCmdOkRow.lifted == m) F24b).trans (by kernel_rfl)
theorem k24c : (Try.prog.make == some Rows.fnExactCmdOkRow.make) = true := (congrArg (fun m => m == some Rows.fnExactCmdOkRow.make) F24c).trans (by kernel_rfl)
theorem k25 : kindsB Try.prog Try.f3 Rows.fnExactCmdOkRow = true := by kernel_rfl
theorem k26 : (Rows.fnExactCmdOkRow.pinned == Rows.fnExactCmdOkRow.pinnedBy) = true := by kernel_rfl
theorem k27 : (Rows.fnExactCmdOkRow.veiled == (Try.f3.params.toList ++ Rows.fnExactCmdOkSpec.plain.varTypes Try.prog ++ Try.f3.resultTypes.toList).any (Try.prog.veiledRec ·)) = true := by kernel_rfl
theorem k28 : Rows.fnExactCmdOkRow.veiledFits Try.prog Try.f3.params.toList (Try.f3.params.toList ++ Rows.fnExactCmdOkSpec.plain.varTypes Try.prog ++ Try.f3.resultTypes.toList) = true := by kernel_rfl
theorem closed : joinedFacts Try.prog 3 Try.f3 Rows.fnExactCmdOkSpec Rows.fnExactCmdOkRow = true := joined_of k1 laidOut F3 k4 k5 k6 F7 k8 F9 k10 k11 k12 k13 k14 k15 k16 k17 k17b k18 k19 k20 k21 k22 k23 F23b F24 k24b k24c k25 k26 k27 k28
theorem over : Rows.fnExactCmdOkRow.holds Try.pinned (OpenSpec.ofChange Rows.fnExactCmdOkSpec) :=
  OpenClaim.holds_of_wide 3 Try.f3 rfl rfl rfl rfl rfl rfl rfl ⟨rfl, rfl, rfl, rfl, rfl⟩ rfl rfl rfl rfl rfl (by kernel_rfl) Try.func3 closed
    (of_decide_eq_true (by kernel_rfl)) (by unfold Func.isWrapper; first | (rw [if_pos (by decide +kernel)]; kernel_rfl) | (rw [if_neg (by decide +kernel)]; exact ⟨rfl, rfl⟩))
    (fun os started H enc _ => lifted os started H enc)

theorem proved : Rows.FnExactCmdOkSaid := over
end Go.Proofs.Ythdljfidcoblfaa.fnExactCmdOkDone
