/- The law FnExactEnsJoin holds: for every input the call returns true, and each argument reads behind the call as it read before. No conditions. -/
import Derived.Test.YthdilioflhknpaaLaw
import Derived.Test.YthdilioflhknpaaFactsB
import Derived.Test.YthdilioflhknpaaJoinEx
import Derived.Test.YthdilioflhknpaaLawE
namespace Go.Proofs.Ythdilioflhknpaa.fnExactEnsJoinDone
open Go.ChangeShapes Go.WideShapes Go.ChangeAt Go.RowKit
open Go.ChangeMaps (open_string shut_string)
set_option linter.unusedVariables false

set_option maxRecDepth 100000 in
theorem lifted (os : Os) (started : os.Started) (H : Type) (enc : TypeId × Value → H) :
    ReturnsInHanded {} Try.checked os 20 .any (Rows.fnExactEnsJoinSpec.pre6 enc Try.prog Try.f20 Rows.fnExactEnsJoinRow.domain false) (Rows.fnExactEnsJoinSpec.post enc Try.prog Try.f20 false true false false) := by
  refine returnsInHanded_of_change (C := Try.checked) own started (by kernel_rfl) Try.func20
    (ChangeSpec.witness6 (enc := enc) (C := Try.checked) false ⟨#[], #[.agg #[.int .i64 0, .int .i64 0, .slice none 0 0], .agg #[.int .i64 0, .int .i64 0, .slice none 0 0]], []⟩ 8 (by kernel_rfl) (by kernel_rfl) (by kernel_rfl) (by kernel_rfl)) ?_
  intro W base args ds gs before hval0 hW hcnd _
  have hval : ∀ (j : Nat) t v, Try.f20.params[j]? = some t → args[j]? = some v → Value.okWide Try.prog W .any base t v := hval0
  have hW' := hW
  obtain ⟨p, q, hA0, hV, rfl, hfz, hnd⟩ := hW
  have hA : DataW.TrodAll enc Try.prog W 0 (fun _ => true) true Try.f20.params.toList args.toList ds p := hA0
  rw [Try.params20] at hA hval
  obtain ⟨v0, vs0, d0, ds0, p0, q0, hargs, rfl, rfl, h0, r0⟩ := trodAll_cons hA
  obtain ⟨v1, vs1, d1, ds1, p1, q1, rfl, rfl, rfl, h1, r1⟩ := trodAll_cons r0
  obtain ⟨rfl, rfl, rfl⟩ := trodAll_nil r1
  obtain rfl : args = #[v0, v1] := by cases args; simp_all
  obtain ⟨rfl, rfl⟩ := trodVars_none hV
  obtain ⟨cs0, rfl, _⟩ := okWide_struct Try.underlying67 (hval 0 67 v0 rfl rfl)
  have k0 := h0
  have lt0 : ∀ x ∈ p0, x.block < W.heap.size := by obtain ⟨m, hm⟩ := k0; exact DataW.trod_lt m _ _ _ hm
  obtain ⟨f0, b0, a0, len0, cap0, L0, z0, e0, w0, n0, l0⟩ : ∃ f b A n c len g, Value.agg cs0 = enV f b A n c ∧ RdT W W.heap.size A n len g ∧ n ≤ 9223372036854775807 ∧ ∀ i, i < n → len i ≤ 9223372036854775807 := by
    obtain ⟨fuel, hf⟩ := h0
    exact isEns_of hf
  injection e0 with e0
  subst e0
  obtain ⟨cs1, rfl, _⟩ := okWide_struct Try.underlying67 (hval 1 67 v1 rfl rfl)
  have k1 := h1
  have lt1 : ∀ x ∈ p1, x.block < W.heap.size := by obtain ⟨m, hm⟩ := k1; exact DataW.trod_lt m _ _ _ hm
  obtain ⟨f1, b1, a1, len1, cap1, L1, z1, e1, w1, n1, l1⟩ : ∃ f b A n c len g, Value.agg cs1 = enV f b A n c ∧ RdT W W.heap.size A n len g ∧ n ≤ 9223372036854775807 ∧ ∀ i, i < n → len i ≤ 9223372036854775807 := by
    obtain ⟨fuel, hf⟩ := h1
    exact isEns_of hf
  injection e1 with e1
  subst e1
  clear hA0 hval0
  refine (lawJoins f0 f1 b0 b1 a0 a1 len0 len1 cap0 cap1 L0 L1 z0 z1 W w0 w1 n0 n1 l0 l1).mono fun e W' ⟨he, bel⟩ => ?_
  subst he
  exact ⟨_, rfl, _, _, _, [], _, [], hW', trodAll_mk1 (shut_bool Try.underlying4 _), (trodAll_cons_mk (Below.trod laidOut (by kernel_rfl) (of_decide_eq_true (by kernel_rfl)) k0 bel lt0) (trodAll_cons_mk (Below.trod laidOut (by kernel_rfl) (of_decide_eq_true (by kernel_rfl)) k1 bel lt1) trodAll_mk0)), rfl, bel.frame _, fun h => by cases h⟩

theorem k1 : Rows.fnExactEnsJoinRow.wf (OpenSpec.ofChange Rows.fnExactEnsJoinSpec) = true := by kernel_rfl
theorem k4 : Try.f20.params.all (Try.prog.readableRec ·) = true := by kernel_rfl
theorem k5 : namedTie Try.prog Rows.fnExactEnsJoinRow.named Rows.fnExactEnsJoinSpec.vars = true := by kernel_rfl
theorem k6 : (Rows.fnExactEnsJoinRow.stops == []) = true := by kernel_rfl
theorem k8 : (Rows.fnExactEnsJoinRow.knobs == []) = true := by kernel_rfl
theorem k10 : (Rows.fnExactEnsJoinRow.inPlace == Try.prog.inPlace 20) = true := by kernel_rfl
theorem k11 : (Rows.fnExactEnsJoinRow.unfollowed == Try.prog.unfollowed 20) = true := by kernel_rfl
theorem k12 : (Rows.fnExactEnsJoinRow.recurses == Try.prog.recurses 20) = true := by kernel_rfl
theorem k13 : (Rows.fnExactEnsJoinRow.named == Try.prog.varsNamed 20) = true := by kernel_rfl
theorem k14 : (Rows.fnExactEnsJoinRow.maps == (Try.f20.params.toList ++ Rows.fnExactEnsJoinSpec.plain.varTypes Try.prog).any (Try.prog.mapsRec ·)) = true := by kernel_rfl
theorem k15 : (Rows.fnExactEnsJoinRow.ifaces == (Try.f20.params.toList ++ Rows.fnExactEnsJoinSpec.plain.varTypes Try.prog).any (Try.prog.ifacesRec ·)) = true := by kernel_rfl
theorem k16 : (Rows.fnExactEnsJoinRow.mapsOut == Try.prog.mapsAmong Try.f20.resultTypes.toList) = true := by kernel_rfl
theorem k17 : (Rows.fnExactEnsJoinRow.loops == (Try.f20.params.toList ++ Rows.fnExactEnsJoinSpec.plain.varTypes Try.prog).any (Try.prog.loopsFrom ·)) = true := by kernel_rfl
theorem k17b : (Rows.fnExactEnsJoinRow.wideKeys == (Try.f20.params.toList ++ Rows.fnExactEnsJoinSpec.plain.varTypes Try.prog ++ Try.f20.resultTypes.toList).any (Try.prog.wideKeysFrom ·)) = true := by kernel_rfl
theorem k18 : Rows.fnExactEnsJoinSpec.vars.all (Try.prog.varReadable ·) = true := by kernel_rfl
theorem k19 : Try.f20.resultTypes.all (fun t => Try.prog.readableRec t && decide (t < Try.prog.types.size)) = true := by kernel_rfl
theorem k20 : (Rows.fnExactEnsJoinRow.ifacesOut == Try.f20.resultTypes.toList.any (Try.prog.ifacesRec ·)) = true := by kernel_rfl
theorem k21 : (Rows.fnExactEnsJoinRow.loopsOut == Try.f20.resultTypes.toList.any (Try.prog.loopsFrom ·)) = true := by kernel_rfl
theorem k22 : (Rows.fnExactEnsJoinRow.plainKeys == Try.prog.plainKeys) = true := (congrArg (fun m => Rows.fnExactEnsJoinRow.plainKeys == m) F22).trans (by kernel_rfl)
theorem k23 : Rows.fnExactEnsJoinRow.shortTexts.isNone = true := by kernel_rfl
theorem k24b : (Rows.fnExactEnsJoinRow.lifted == Try.prog.liftsFinal) = true := (congrArg (fun m => Rows.fnExactEnsJoinRow.lifted == m) F24b).trans (by kernel_rfl)
theorem k24c : (Try.prog.make == some Rows.fnExactEnsJoinRow.make) = true := (congrArg (fun m => m == some Rows.fnExactEnsJoinRow.make) F24c).trans (by kernel_rfl)
theorem k25 : kindsB Try.prog Try.f20 Rows.fnExactEnsJoinRow = true := by kernel_rfl
theorem k26 : (Rows.fnExactEnsJoinRow.pinned == Rows.fnExactEnsJoinRow.pinnedBy) = true := by kernel_rfl
theorem k27 : (Rows.fnExactEnsJoinRow.veiled == (Try.f20.params.toList ++ Rows.fnExactEnsJoinSpec.plain.varTypes Try.prog ++ Try.f20.resultTypes.toList).any (Try.prog.veiledRec ·)) = true := by kernel_rfl
theorem k28 : Rows.fnExactEnsJoinRow.veiledFits Try.prog Try.f20.params.toList (Try.f20.params.toList ++ Rows.fnExactEnsJoinSpec.plain.varTypes Try.prog ++ Try.f20.resultTypes.toList) = true := by kernel_rfl
theorem closed : joinedFacts Try.prog 20 Try.f20 Rows.fnExactEnsJoinSpec Rows.fnExactEnsJoinRow = true := joined_of k1 laidOut F3 k4 k5 k6 F7 k8 F9 k10 k11 k12 k13 k14 k15 k16 k17 k17b k18 k19 k20 k21 k22 k23 F23b F24 k24b k24c k25 k26 k27 k28
theorem over : Rows.fnExactEnsJoinRow.holds Try.pinned (OpenSpec.ofChange Rows.fnExactEnsJoinSpec) :=
  OpenClaim.holds_of_wide 20 Try.f20 rfl rfl rfl rfl rfl rfl rfl ⟨rfl, rfl, rfl, rfl, rfl⟩ rfl rfl rfl rfl rfl (by kernel_rfl) Try.func20 closed
    (of_decide_eq_true (by kernel_rfl)) (by unfold Func.isWrapper; first | (rw [if_pos (by decide +kernel)]; kernel_rfl) | (rw [if_neg (by decide +kernel)]; exact ⟨rfl, rfl⟩))
    (fun os started H enc _ => lifted os started H enc)

theorem proved : Rows.FnExactEnsJoinSaid := over
end Go.Proofs.Ythdilioflhknpaa.fnExactEnsJoinDone
