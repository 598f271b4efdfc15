/- The law FnExactCacheOk holds: for every input the call returns true, and each argument reads behind the call as it read before. No conditions. -/
import Derived.Test.YtckhooibjmheiaaLaw
import Derived.Test.YtckhooibjmheiaaFactsB
import Derived.Test.YtckhooibjmheiaaCaL
import Derived.Test.YtckhooibjmheiaaLawC
namespace Go.Proofs.Ytckhooibjmheiaa.fnExactCacheOkDone
open Go.ChangeShapes Go.WideShapes Go.ChangeAt Go.RowKit
open Go.ChangeMaps (open_string shut_string)
set_option linter.unusedVariables false

set_option maxRecDepth 100000 in
theorem lifted (os : Os) (started : os.Started) (H : Type) (enc : TypeId × Value → H) :
    ReturnsInHanded {} Try.checked os 7 .any (Rows.fnExactCacheOkSpec.pre6 enc Try.prog Try.f7 Rows.fnExactCacheOkRow.domain false) (Rows.fnExactCacheOkSpec.post enc Try.prog Try.f7 false true false false) := by
  refine returnsInHanded_of_change (C := Try.checked) own started (by kernel_rfl) Try.func7
    (ChangeSpec.witness6 (enc := enc) (C := Try.checked) false ⟨#[], #[.agg #[.int .i64 0, .int .i64 0, .slice none 0 0]], []⟩ 8 (by kernel_rfl) (by kernel_rfl) (by kernel_rfl) (by kernel_rfl)) ?_
  intro W base args ds gs before hval0 hW hcnd _
  have hval : ∀ (j : Nat) t v, Try.f7.params[j]? = some t → args[j]? = some v → Value.okWide Try.prog W .any base t v := hval0
  have hW' := hW
  obtain ⟨p, q, hA0, hV, rfl, hfz, hnd⟩ := hW
  have hA : DataW.TrodAll enc Try.prog W 0 (fun _ => true) true Try.f7.params.toList args.toList ds p := hA0
  rw [Try.params7] at hA hval
  obtain ⟨v0, vs0, d0, ds0, p0, q0, hargs, rfl, rfl, h0, r0⟩ := trodAll_cons hA
  obtain ⟨rfl, rfl, rfl⟩ := trodAll_nil r0
  obtain rfl : args = #[v0] := by cases args; simp_all
  obtain ⟨rfl, rfl⟩ := trodVars_none hV
  obtain ⟨cs0, rfl, _⟩ := okWide_struct Try.underlying46 (hval 0 46 v0 rfl rfl)
  have k0 := h0
  have lt0 : ∀ x ∈ p0, x.block < W.heap.size := by obtain ⟨m, hm⟩ := k0; exact DataW.trod_lt m _ _ _ hm
  obtain ⟨f0, b0, a0, len0, cap0, z0, e0, w0, n0, l0⟩ : ∃ f b A n c s, Value.agg cs0 = caV f b A n c ∧ RdC W W.heap.size A n s ∧ n ≤ 9223372036854775807 ∧ ∀ i, i < n → (s i).n ≤ 9223372036854775807 := by
    obtain ⟨fuel, hf⟩ := h0
    exact isCache_of hf
  injection e0 with e0
  subst e0
  clear hA0 hval0
  refine (lawCacheOk f0 b0 a0 len0 cap0 z0 W w0 n0 l0).mono fun e W' ⟨he, bel⟩ => ?_
  subst he
  exact ⟨_, rfl, _, _, _, [], _, [], hW', trodAll_mk1 (shut_bool Try.underlying4 _), (trodAll_cons_mk (Below.trod laidOut (by kernel_rfl) (of_decide_eq_true (by kernel_rfl)) k0 bel lt0) trodAll_mk0), rfl, bel.frame _, fun h => by cases h⟩

theorem k1 : Rows.fnExactCacheOkRow.wf (OpenSpec.ofChange Rows.fnExactCacheOkSpec) = true := by kernel_rfl
theorem k4 : Try.f7.params.all (Try.prog.readableRec ·) = true := by kernel_rfl
theorem k5 : namedTie Try.prog Rows.fnExactCacheOkRow.named Rows.fnExactCacheOkSpec.vars = true := by kernel_rfl
theorem k6 : (Rows.fnExactCacheOkRow.stops == []) = true := by kernel_rfl
theorem k8 : (Rows.fnExactCacheOkRow.knobs == []) = true := by kernel_rfl
theorem k10 : (Rows.fnExactCacheOkRow.inPlace == Try.prog.inPlace 7) = true := by kernel_rfl
theorem k11 : (Rows.fnExactCacheOkRow.unfollowed == Try.prog.unfollowed 7) = true := by kernel_rfl
theorem k12 : (Rows.fnExactCacheOkRow.recurses == Try.prog.recurses 7) = true := by kernel_rfl
theorem k13 : (Rows.fnExactCacheOkRow.named == Try.prog.varsNamed 7) = true := by kernel_rfl
theorem k14 : (Rows.fnExactCacheOkRow.maps == (Try.f7.params.toList ++ Rows.fnExactCacheOkSpec.plain.varTypes Try.prog).any (Try.prog.mapsRec ·)) = true := by kernel_rfl
theorem k15 : (Rows.fnExactCacheOkRow.ifaces == (Try.f7.params.toList ++ Rows.fnExactCacheOkSpec.plain.varTypes Try.prog).any (Try.prog.ifacesRec ·)) = true := by kernel_rfl
theorem k16 : (Rows.fnExactCacheOkRow.mapsOut == Try.prog.mapsAmong Try.f7.resultTypes.toList) = true := by kernel_rfl
theorem k17 : (Rows.fnExactCacheOkRow.loops == (Try.f7.params.toList ++ Rows.fnExactCacheOkSpec.plain.varTypes Try.prog).any (Try.prog.loopsFrom ·)) = true := by kernel_rfl
theorem k17b : (Rows.fnExactCacheOkRow.wideKeys == (Try.f7.params.toList ++ Rows.fnExactCacheOkSpec.plain.varTypes Try.prog ++ Try.f7.resultTypes.toList).any (Try.prog.wideKeysFrom ·)) = true := by kernel_rfl
theorem k18 : Rows.fnExactCacheOkSpec.vars.all (Try.prog.varReadable ·) = true := by kernel_rfl
theorem k19 : Try.f7.resultTypes.all (fun t => Try.prog.readableRec t && decide (t < Try.prog.types.size)) = true := by kernel_rfl
theorem k20 : (Rows.fnExactCacheOkRow.ifacesOut == Try.f7.resultTypes.toList.any (Try.prog.ifacesRec ·)) = true := by kernel_rfl
theorem k21 : (Rows.fnExactCacheOkRow.loopsOut == Try.f7.resultTypes.toList.any (Try.prog.loopsFrom ·)) = true := by kernel_rfl
theorem k22 : (Rows.fnExactCacheOkRow.plainKeys == Try.prog.plainKeys) = true := (congrArg (fun m => Rows.fnExactCacheOkRow.plainKeys == m) F22).trans (by kernel_rfl)
theorem k23 : Rows.fnExactCacheOkRow.shortTexts.isNone = true := by kernel_rfl
theorem k24b : (Rows.fnExactCacheOkRow.lifted == Try.prog.liftsFinal) = true := (congrArg (fun m => Rows.fnExactCacheOkRow.lifted == m) F24b).trans (by kernel_rfl)
theorem k24c : (Try.prog.make == some Rows.fnExactCacheOkRow.make) = true := (congrArg (fun m => m == some Rows.fnExactCacheOkRow.make) F24c).trans (by kernel_rfl)
theorem k25 : kindsB Try.prog Try.f7 Rows.fnExactCacheOkRow = true := by kernel_rfl
theorem k26 : (Rows.fnExactCacheOkRow.pinned == Rows.fnExactCacheOkRow.pinnedBy) = true := by kernel_rfl
theorem k27 : (Rows.fnExactCacheOkRow.veiled == (Try.f7.params.toList ++ Rows.fnExactCacheOkSpec.plain.varTypes Try.prog ++ Try.f7.resultTypes.toList).any (Try.prog.veiledRec ·)) = true := by kernel_rfl
theorem k28 : Rows.fnExactCacheOkRow.veiledFits Try.prog Try.f7.params.toList (Try.f7.params.toList ++ Rows.fnExactCacheOkSpec.plain.varTypes Try.prog ++ Try.f7.resultTypes.toList) = true := by kernel_rfl
theorem closed : joinedFacts Try.prog 7 Try.f7 Rows.fnExactCacheOkSpec Rows.fnExactCacheOkRow = true := joined_of k1 laidOut F3 k4 k5 k6 F7 k8 F9 k10 k11 k12 k13 k14 k15 k16 k17 k17b k18 k19 k20 k21 k22 k23 F23b F24 k24b k24c k25 k26 k27 k28
theorem over : Rows.fnExactCacheOkRow.holds Try.pinned (OpenSpec.ofChange Rows.fnExactCacheOkSpec) :=
  OpenClaim.holds_of_wide 7 Try.f7 rfl rfl rfl rfl rfl rfl rfl ⟨rfl, rfl, rfl, rfl, rfl⟩ rfl rfl rfl rfl rfl (by kernel_rfl) Try.func7 closed
    (of_decide_eq_true (by kernel_rfl)) (by unfold Func.isWrapper; first | (rw [if_pos (by decide +kernel)]; kernel_rfl) | (rw [if_neg (by decide +kernel)]; exact ⟨rfl, rfl⟩))
    (fun os started H enc _ => lifted os started H enc)

theorem proved : Rows.FnExactCacheOkSaid := over
end Go.Proofs.Ytckhooibjmheiaa.fnExactCacheOkDone
