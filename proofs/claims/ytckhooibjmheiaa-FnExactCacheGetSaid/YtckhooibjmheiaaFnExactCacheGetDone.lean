/- The law FnExactCacheGet holds: for every input the call returns true, and each argument reads behind the call as it read before. No conditions. -/
import Derived.Test.YtckhooibjmheiaaLaw
import Derived.Test.YtckhooibjmheiaaFactsB
import Derived.Test.YtckhooibjmheiaaCaY
import Derived.Test.YtckhooibjmheiaaLawC
namespace Go.Proofs.Ytckhooibjmheiaa.fnExactCacheGetDone
open Go.ChangeShapes Go.WideShapes Go.ChangeAt Go.RowKit
open Go.ChangeMaps (open_string shut_string)
set_option linter.unusedVariables false

set_option maxRecDepth 100000 in
theorem lifted (os : Os) (started : os.Started) (H : Type) (enc : TypeId × Value → H) :
    ReturnsInHanded {} Try.checked os 8 .any (Rows.fnExactCacheGetSpec.pre6 enc Try.prog Try.f8 Rows.fnExactCacheGetRow.domain false) (Rows.fnExactCacheGetSpec.post enc Try.prog Try.f8 false true false false) := by
  refine returnsInHanded_of_change (C := Try.checked) own started (by kernel_rfl) Try.func8
    (ChangeSpec.witness6 (enc := enc) (C := Try.checked) false ⟨#[], #[.agg #[.int .i64 0, .int .i64 0, .slice none 0 0], .slice none 0 0], []⟩ 8 (by kernel_rfl) (by kernel_rfl) (by kernel_rfl) (by kernel_rfl)) ?_
  intro W base args ds gs before hval0 hW hcnd _
  have hval : ∀ (j : Nat) t v, Try.f8.params[j]? = some t → args[j]? = some v → Value.okWide Try.prog W .any base t v := hval0
  have hW' := hW
  obtain ⟨p, q, hA0, hV, rfl, hfz, hnd⟩ := hW
  have hA : DataW.TrodAll enc Try.prog W 0 (fun _ => true) true Try.f8.params.toList args.toList ds p := hA0
  rw [Try.params8] at hA hval
  obtain ⟨v0, vs0, d0, ds0, p0, q0, hargs, rfl, rfl, h0, r0⟩ := trodAll_cons hA
  obtain ⟨v1, vs1, d1, ds1, p1, q1, rfl, rfl, rfl, h1, r1⟩ := trodAll_cons r0
  obtain ⟨rfl, rfl, rfl⟩ := trodAll_nil r1
  obtain rfl : args = #[v0, v1] := by cases args; simp_all
  obtain ⟨rfl, rfl⟩ := trodVars_none hV
  obtain ⟨cs0, rfl, _⟩ := okWide_struct Try.underlying46 (hval 0 46 v0 rfl rfl)
  have k0 := h0
  have lt0 : ∀ x ∈ p0, x.block < W.heap.size := by obtain ⟨m, hm⟩ := k0; exact DataW.trod_lt m _ _ _ hm
  obtain ⟨f0, b0, a0, len0, cap0, z0, e0, w0, n0, l0⟩ : ∃ f b A n c s, Value.agg cs0 = caV f b A n c ∧ RdC W W.heap.size A n s ∧ n ≤ 9223372036854775807 ∧ ∀ i, i < n → (s i).n ≤ 9223372036854775807 := by
    obtain ⟨fuel, hf⟩ := h0
    exact isCache_of hf
  injection e0 with e0
  subst e0
  obtain ⟨a1, len1, cap1, rfl⟩ := okWide_slice Try.underlying27 (hval 1 27 v1 rfl rfl)
  have k1 := h1
  have lt1 : ∀ x ∈ p1, x.block < W.heap.size := by obtain ⟨m, hm⟩ := k1; exact DataW.trod_lt m _ _ _ hm
  obtain ⟨z1, w1⟩ : ∃ zs, IsRow .i64 W a1 len1 cap1 zs := by
    obtain ⟨fuel, hf⟩ := h1
    rcases open_ints Try.underlying27 Try.underlying2 (by kernel_rfl) hf with ⟨hcs, _⟩ | ⟨x, l, c, zs, hcs, _, hl, hm, hz, _, hcell, hwz⟩
    · simp [Value.cells] at hcs
      obtain ⟨rfl, rfl, rfl⟩ := hcs
      exact ⟨[], .inl ⟨rfl, rfl, rfl, rfl⟩⟩
    · simp [Value.cells] at hcs
      obtain ⟨rfl, rfl, rfl⟩ := hcs
      exact ⟨zs, .inr ⟨_, rfl, hl, hm, by simpa using hz, hcell, hwz⟩⟩
  clear hA0 hval0
  refine (lawCacheGet f0 b0 a0 len0 cap0 z0 a1 len1 cap1 _ W w0 n0 l0 w1.rd w1.short).mono fun e W' ⟨he, bel⟩ => ?_
  subst he
  exact ⟨_, rfl, _, _, _, [], _, [], hW', trodAll_mk1 (shut_bool Try.underlying4 _), (trodAll_cons_mk (Below.trod laidOut (by kernel_rfl) (of_decide_eq_true (by kernel_rfl)) k0 bel lt0) (trodAll_cons_mk (Below.trod laidOut (by kernel_rfl) (of_decide_eq_true (by kernel_rfl)) k1 bel lt1) trodAll_mk0)), rfl, bel.frame _, fun h => by cases h⟩

theorem k1 : Rows.fnExactCacheGetRow.wf (OpenSpec.ofChange Rows.fnExactCacheGetSpec) = true := by kernel_rfl
theorem k4 : Try.f8.params.all (Try.prog.readableRec ·) = true := by kernel_rfl
theorem k5 : namedTie Try.prog Rows.fnExactCacheGetRow.named Rows.fnExactCacheGetSpec.vars = true := by kernel_rfl
theorem k6 : (Rows.fnExactCacheGetRow.stops == []) = true := by kernel_rfl
theorem k8 : (Rows.fnExactCacheGetRow.knobs == []) = true := by kernel_rfl
theorem k10 : (Rows.fnExactCacheGetRow.inPlace == Try.prog.inPlace 8) = true := by kernel_rfl
theorem k11 : (Rows.fnExactCacheGetRow.unfollowed == Try.prog.unfollowed 8) = true := by kernel_rfl
theorem k12 : (Rows.fnExactCacheGetRow.recurses == Try.prog.recurses 8) = true := by kernel_rfl
theorem k13 : (Rows.fnExactCacheGetRow.named == Try.prog.varsNamed 8) = true := by kernel_rfl
theorem k14 : (Rows.fnExactCacheGetRow.maps == (Try.f8.params.toList ++ Rows.fnExactCacheGetSpec.plain.varTypes Try.prog).any (Try.prog.mapsRec ·)) = true := by kernel_rfl
theorem k15 : (Rows.fnExactCacheGetRow.ifaces == (Try.f8.params.toList ++ Rows.fnExactCacheGetSpec.plain.varTypes Try.prog).any (Try.prog.ifacesRec ·)) = true := by kernel_rfl
theorem k16 : (Rows.fnExactCacheGetRow.mapsOut == Try.prog.mapsAmong Try.f8.resultTypes.toList) = true := by kernel_rfl
theorem k17 : (Rows.fnExactCacheGetRow.loops == (Try.f8.params.toList ++ Rows.fnExactCacheGetSpec.plain.varTypes Try.prog).any (Try.prog.loopsFrom ·)) = true := by kernel_rfl
theorem k17b : (Rows.fnExactCacheGetRow.wideKeys == (Try.f8.params.toList ++ Rows.fnExactCacheGetSpec.plain.varTypes Try.prog ++ Try.f8.resultTypes.toList).any (Try.prog.wideKeysFrom ·)) = true := by kernel_rfl
theorem k18 : Rows.fnExactCacheGetSpec.vars.all (Try.prog.varReadable ·) = true := by kernel_rfl
theorem k19 : Try.f8.resultTypes.all (fun t => Try.prog.readableRec t && decide (t < Try.prog.types.size)) = true := by kernel_rfl
theorem k20 : (Rows.fnExactCacheGetRow.ifacesOut == Try.f8.resultTypes.toList.any (Try.prog.ifacesRec ·)) = true := by kernel_rfl
theorem k21 : (Rows.fnExactCacheGetRow.loopsOut == Try.f8.resultTypes.toList.any (Try.prog.loopsFrom ·)) = true := by kernel_rfl
theorem k22 : (Rows.fnExactCacheGetRow.plainKeys == Try.prog.plainKeys) = true := (congrArg (fun m => Rows.fnExactCacheGetRow.plainKeys == m) F22).trans (by kernel_rfl)
theorem k23 : Rows.fnExactCacheGetRow.shortTexts.isNone = true := by kernel_rfl
theorem k24b : (Rows.fnExactCacheGetRow.lifted == Try.prog.liftsFinal) = true := (congrArg (fun m => Rows.fnExactCacheGetRow.lifted == m) F24b).trans (by kernel_rfl)
theorem k24c : (Try.prog.make == some Rows.fnExactCacheGetRow.make) = true := (congrArg (fun m => m == some Rows.fnExactCacheGetRow.make) F24c).trans (by kernel_rfl)
theorem k25 : kindsB Try.prog Try.f8 Rows.fnExactCacheGetRow = true := by kernel_rfl
theorem k26 : (Rows.fnExactCacheGetRow.pinned == Rows.fnExactCacheGetRow.pinnedBy) = true := by kernel_rfl
theorem k27 : (Rows.fnExactCacheGetRow.veiled == (Try.f8.params.toList ++ Rows.fnExactCacheGetSpec.plain.varTypes Try.prog ++ Try.f8.resultTypes.toList).any (Try.prog.veiledRec ·)) = true := by kernel_rfl
theorem k28 : Rows.fnExactCacheGetRow.veiledFits Try.prog Try.f8.params.toList (Try.f8.params.toList ++ Rows.fnExactCacheGetSpec.plain.varTypes Try.prog ++ Try.f8.resultTypes.toList) = true := by kernel_rfl
theorem closed : joinedFacts Try.prog 8 Try.f8 Rows.fnExactCacheGetSpec Rows.fnExactCacheGetRow = true := joined_of k1 laidOut F3 k4 k5 k6 F7 k8 F9 k10 k11 k12 k13 k14 k15 k16 k17 k17b k18 k19 k20 k21 k22 k23 F23b F24 k24b k24c k25 k26 k27 k28
theorem over : Rows.fnExactCacheGetRow.holds Try.pinned (OpenSpec.ofChange Rows.fnExactCacheGetSpec) :=
  OpenClaim.holds_of_wide 8 Try.f8 rfl rfl rfl rfl rfl rfl rfl ⟨rfl, rfl, rfl, rfl, rfl⟩ rfl rfl rfl rfl rfl (by kernel_rfl) Try.func8 closed
    (of_decide_eq_true (by kernel_rfl)) (by unfold Func.isWrapper; first | (rw [if_pos (by decide +kernel)]; kernel_rfl) | (rw [if_neg (by decide +kernel)]; exact ⟨rfl, rfl⟩))
    (fun os started H enc _ => lifted os started H enc)

theorem proved : Rows.FnExactCacheGetSaid := over
end Go.Proofs.Ytckhooibjmheiaa.fnExactCacheGetDone
