/- The law FnExactCachePut holds: for every input the call returns true, and each argument reads behind the call as it read before. No conditions. -/
import Derived.Test.YtckhooibjmheiaaLaw
import Derived.Test.YtckhooibjmheiaaFactsB
import Derived.Test.YtckhooibjmheiaaCaYp
import Derived.Test.YtckhooibjmheiaaLawC
namespace Go.Proofs.Ytckhooibjmheiaa.fnExactCachePutDone
open Go.ChangeShapes Go.WideShapes Go.ChangeAt Go.RowKit
open Go.ChangeMaps (open_string shut_string)
set_option linter.unusedVariables false

set_option maxRecDepth 100000 in
theorem lifted (os : Os) (started : os.Started) (H : Type) (enc : TypeId × Value → H) :
    ReturnsInHanded {} Try.checked os 9 .any (Rows.fnExactCachePutSpec.pre6 enc Try.prog Try.f9 Rows.fnExactCachePutRow.domain false) (Rows.fnExactCachePutSpec.post enc Try.prog Try.f9 false true false false) := by
  refine returnsInHanded_of_change (C := Try.checked) own started (by kernel_rfl) Try.func9
    (ChangeSpec.witness6 (enc := enc) (C := Try.checked) false ⟨#[], #[.agg #[.int .i64 0, .int .i64 0, .slice none 0 0], .slice none 0 0, .int .i64 0], []⟩ 8 (by kernel_rfl) (by kernel_rfl) (by kernel_rfl) (by kernel_rfl)) ?_
  intro W base args ds gs before hval0 hW hcnd _
  have hval : ∀ (j : Nat) t v, Try.f9.params[j]? = some t → args[j]? = some v → Value.okWide Try.prog W .any base t v := hval0
  have hW' := hW
  obtain ⟨p, q, hA0, hV, rfl, hfz, hnd⟩ := hW
  have hA : DataW.TrodAll enc Try.prog W 0 (fun _ => true) true Try.f9.params.toList args.toList ds p := hA0
  rw [Try.params9] at hA hval
  obtain ⟨v0, vs0, d0, ds0, p0, q0, hargs, rfl, rfl, h0, r0⟩ := trodAll_cons hA
  obtain ⟨v1, vs1, d1, ds1, p1, q1, rfl, rfl, rfl, h1, r1⟩ := trodAll_cons r0
  obtain ⟨v2, vs2, d2, ds2, p2, q2, rfl, rfl, rfl, h2, r2⟩ := trodAll_cons r1
  obtain ⟨rfl, rfl, rfl⟩ := trodAll_nil r2
  obtain rfl : args = #[v0, v1, v2] := by cases args; simp_all
  obtain ⟨rfl, rfl⟩ := trodVars_none hV
  obtain ⟨cs0, rfl, _⟩ := okWide_struct Try.underlying46 (hval 0 46 v0 rfl rfl)
  have k0 := h0
  have lt0 : ∀ x ∈ p0, x.block < W.heap.size := by obtain ⟨m, hm⟩ := k0; exact DataW.trod_lt m _ _ _ hm
  obtain ⟨f0, b0, a0, len0, cap0, z0, e0, w0, n0, l0⟩ : ∃ f b A n c s, Value.agg cs0 = caV f b A n c ∧ RdC W W.heap.size A n s ∧ n ≤ 9223372036854775807 ∧ ∀ i, i < n → (s i).n ≤ 9223372036854775807 := by
    obtain ⟨fuel, hf⟩ := h0
    exact isCache_of hf
  injection e0 with e0
  subst e0
  obtain ⟨a1, len1, cap1, rfl⟩ := okWide_slice Try.underlying55 (hval 1 55 v1 rfl rfl)
  have k1 := h1
  have lt1 : ∀ x ∈ p1, x.block < W.heap.size := by obtain ⟨m, hm⟩ := k1; exact DataW.trod_lt m _ _ _ hm
  obtain ⟨z1, w1⟩ : ∃ zs, IsSpans W a1 len1 cap1 zs := by
    obtain ⟨fuel, hf⟩ := h1
    exact isSpans_of hf
  obtain ⟨a2, rfl, rfl, rfl, w2⟩ := open_int Try.underlying2 (hval 2 2 v2 rfl rfl) h2
  clear hA0 hval0
  refine (lawCachePut f0 b0 a0 len0 cap0 z0 a1 len1 cap1 _ a2 W w0 n0 l0 w1.1 w1.2).mono fun e W' ⟨he, bel⟩ => ?_
  subst he
  exact ⟨_, rfl, _, _, _, [], _, [], hW', trodAll_mk1 (shut_bool Try.underlying4 _), (trodAll_cons_mk (Below.trod laidOut (by kernel_rfl) (of_decide_eq_true (by kernel_rfl)) k0 bel lt0) (trodAll_cons_mk (Below.trod laidOut (by kernel_rfl) (of_decide_eq_true (by kernel_rfl)) k1 bel lt1) (trodAll_cons_mk (shut_int Try.underlying2 w2) trodAll_mk0))), rfl, bel.frame _, fun h => by cases h⟩

theorem k1 : Rows.fnExactCachePutRow.wf (OpenSpec.ofChange Rows.fnExactCachePutSpec) = true := by kernel_rfl
theorem k4 : Try.f9.params.all (Try.prog.readableRec ·) = true := by kernel_rfl
theorem k5 : namedTie Try.prog Rows.fnExactCachePutRow.named Rows.fnExactCachePutSpec.vars = true := by kernel_rfl
theorem k6 : (Rows.fnExactCachePutRow.stops == []) = true := by kernel_rfl
theorem k8 : (Rows.fnExactCachePutRow.knobs == []) = true := by kernel_rfl
theorem k10 : (Rows.fnExactCachePutRow.inPlace == Try.prog.inPlace 9) = true := by kernel_rfl
theorem k11 : (Rows.fnExactCachePutRow.unfollowed == Try.prog.unfollowed 9) = true := by kernel_rfl
theorem k12 : (Rows.fnExactCachePutRow.recurses == Try.prog.recurses 9) = true := by kernel_rfl
theorem k13 : (Rows.fnExactCachePutRow.named == Try.prog.varsNamed 9) = true := by kernel_rfl
theorem k14 : (Rows.fnExactCachePutRow.maps == (Try.f9.params.toList ++ Rows.fnExactCachePutSpec.plain.varTypes Try.prog).any (Try.prog.mapsRec ·)) = true := by kernel_rfl
theorem k15 : (Rows.fnExactCachePutRow.ifaces == (Try.f9.params.toList ++ Rows.fnExactCachePutSpec.plain.varTypes Try.prog).any (Try.prog.ifacesRec ·)) = true := by kernel_rfl
theorem k16 : (Rows.fnExactCachePutRow.mapsOut == Try.prog.mapsAmong Try.f9.resultTypes.toList) = true := by kernel_rfl
theorem k17 : (Rows.fnExactCachePutRow.loops == (Try.f9.params.toList ++ Rows.fnExactCachePutSpec.plain.varTypes Try.prog).any (Try.prog.loopsFrom ·)) = true := by kernel_rfl
theorem k17b : (Rows.fnExactCachePutRow.wideKeys == (Try.f9.params.toList ++ Rows.fnExactCachePutSpec.plain.varTypes Try.prog ++ Try.f9.resultTypes.toList).any (Try.prog.wideKeysFrom ·)) = true := by kernel_rfl
theorem k18 : Rows.fnExactCachePutSpec.vars.all (Try.prog.varReadable ·) = true := by kernel_rfl
theorem k19 : Try.f9.resultTypes.all (fun t => Try.prog.readableRec t && decide (t < Try.prog.types.size)) = true := by kernel_rfl
theorem k20 : (Rows.fnExactCachePutRow.ifacesOut == Try.f9.resultTypes.toList.any (Try.prog.ifacesRec ·)) = true := by kernel_rfl
theorem k21 : (Rows.fnExactCachePutRow.loopsOut == Try.f9.resultTypes.toList.any (Try.prog.loopsFrom ·)) = true := by kernel_rfl
theorem k22 : (Rows.fnExactCachePutRow.plainKeys == Try.prog.plainKeys) = true := (congrArg (fun m => Rows.fnExactCachePutRow.plainKeys == m) F22).trans (by kernel_rfl)
theorem k23 : Rows.fnExactCachePutRow.shortTexts.isNone = true := by kernel_rfl
theorem k24b : (Rows.fnExactCachePutRow.lifted == Try.prog.liftsFinal) = true := (congrArg (fun m => Rows.fnExactCachePutRow.lifted == m) F24b).trans (by kernel_rfl)
theorem k24c : (Try.prog.make == some Rows.fnExactCachePutRow.make) = true := (congrArg (fun m => m == some Rows.fnExactCachePutRow.make) F24c).trans (by kernel_rfl)
theorem k25 : kindsB Try.prog Try.f9 Rows.fnExactCachePutRow = true := by kernel_rfl
theorem k26 : (Rows.fnExactCachePutRow.pinned == Rows.fnExactCachePutRow.pinnedBy) = true := by kernel_rfl
theorem k27 : (Rows.fnExactCachePutRow.veiled == (Try.f9.params.toList ++ Rows.fnExactCachePutSpec.plain.varTypes Try.prog ++ Try.f9.resultTypes.toList).any (Try.prog.veiledRec ·)) = true := by kernel_rfl
theorem k28 : Rows.fnExactCachePutRow.veiledFits Try.prog Try.f9.params.toList (Try.f9.params.toList ++ Rows.fnExactCachePutSpec.plain.varTypes Try.prog ++ Try.f9.resultTypes.toList) = true := by kernel_rfl
theorem closed : joinedFacts Try.prog 9 Try.f9 Rows.fnExactCachePutSpec Rows.fnExactCachePutRow = true := joined_of k1 laidOut F3 k4 k5 k6 F7 k8 F9 k10 k11 k12 k13 k14 k15 k16 k17 k17b k18 k19 k20 k21 k22 k23 F23b F24 k24b k24c k25 k26 k27 k28
theorem over : Rows.fnExactCachePutRow.holds Try.pinned (OpenSpec.ofChange Rows.fnExactCachePutSpec) :=
  OpenClaim.holds_of_wide 9 Try.f9 rfl rfl rfl rfl rfl rfl rfl ⟨rfl, rfl, rfl, rfl, rfl⟩ rfl rfl rfl rfl rfl (by kernel_rfl) Try.func9 closed
    (of_decide_eq_true (by kernel_rfl)) (by unfold Func.isWrapper; first | (rw [if_pos (by decide +kernel)]; kernel_rfl) | (rw [if_neg (by decide +kernel)]; exact ⟨rfl, rfl⟩))
    (fun os started H enc _ => lifted os started H enc)

theorem proved : Rows.FnExactCachePutSaid := over
end Go.Proofs.Ytckhooibjmheiaa.fnExactCachePutDone
