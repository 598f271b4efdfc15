/- The law FnExactFullScore holds: for every input the call returns true, and each argument reads behind the call as it read before. No conditions. -/
import Derived.Test.YtmlcpjcchgihfaaLaw
import Derived.Test.YtmlcpjcchgihfaaFactsB
import Derived.Test.YtmlcpjcchgihfaaFullLaw
import Derived.Test.YtmlcpjcchgihfaaLawE
namespace Go.Proofs.Ytmlcpjcchgihfaa.fnExactFullScoreDone
open Go.ChangeShapes Go.WideShapes Go.ChangeAt Go.RowKit
open Go.ChangeMaps (open_string shut_string)
set_option linter.unusedVariables false

set_option maxRecDepth 100000 in
theorem lifted (os : Os) (started : os.Started) (H : Type) (enc : TypeId × Value → H) :
    ReturnsInHanded {} Try.checked os 13 .any (Rows.fnExactFullScoreSpec.pre6 enc Try.prog Try.f13 Rows.fnExactFullScoreRow.domain false) (Rows.fnExactFullScoreSpec.post enc Try.prog Try.f13 false true false false) := by
  refine returnsInHanded_of_change (C := Try.checked) own started (by kernel_rfl) Try.func13
    (ChangeSpec.witness6 (enc := enc) (C := Try.checked) false ⟨#[], #[.agg #[.int .i64 0, .int .i64 0, .slice none 0 0], .slice none 0 0], []⟩ 8 (by kernel_rfl) (by kernel_rfl) (by kernel_rfl) (by kernel_rfl)) ?_
  intro W base args ds gs before hval0 hW hcnd _
  have hval : ∀ (j : Nat) t v, Try.f13.params[j]? = some t → args[j]? = some v → Value.okWide Try.prog W .any base t v := hval0
  have hW' := hW
  obtain ⟨p, q, hA0, hV, rfl, hfz, hnd⟩ := hW
  have hA : DataW.TrodAll enc Try.prog W 0 (fun _ => true) true Try.f13.params.toList args.toList ds p := hA0
  rw [Try.params13] at hA hval
  obtain ⟨v0, vs0, d0, ds0, p0, q0, hargs, rfl, rfl, h0, r0⟩ := trodAll_cons hA
  obtain ⟨v1, vs1, d1, ds1, p1, q1, rfl, rfl, rfl, h1, r1⟩ := trodAll_cons r0
  obtain ⟨rfl, rfl, rfl⟩ := trodAll_nil r1
  obtain rfl : args = #[v0, v1] := by cases args; simp_all
  obtain ⟨rfl, rfl⟩ := trodVars_none hV
  obtain ⟨cs0, rfl, _⟩ := okWide_struct Try.underlying58 (hval 0 58 v0 rfl rfl)
  have k0 := h0
  have lt0 : ∀ x ∈ p0, x.block < W.heap.size := by obtain ⟨m, hm⟩ := k0; exact DataW.trod_lt m _ _ _ hm
  obtain ⟨f0, b0, a0, len0, cap0, L0, z0, e0, w0, n0, l0⟩ : ∃ f b A n c len g, Value.agg cs0 = enV f b A n c ∧ RdT W W.heap.size A n len g ∧ n ≤ 9223372036854775807 ∧ ∀ i, i < n → len i ≤ 9223372036854775807 := by
    obtain ⟨fuel, hf⟩ := h0
    exact isEns_of hf
  injection e0 with e0
  subst e0
  obtain ⟨a1, len1, cap1, rfl⟩ := okWide_slice Try.underlying25 (hval 1 25 v1 rfl rfl)
  have k1 := h1
  have lt1 : ∀ x ∈ p1, x.block < W.heap.size := by obtain ⟨m, hm⟩ := k1; exact DataW.trod_lt m _ _ _ hm
  obtain ⟨z1, w1⟩ : ∃ zs, IsRow .i64 W a1 len1 cap1 zs := by
    obtain ⟨fuel, hf⟩ := h1
    rcases open_ints Try.underlying25 Try.underlying2 (by kernel_rfl) hf with ⟨hcs, _⟩ | ⟨x, l, c, zs, hcs, _, hl, hm, hz, _, hcell, hwz⟩
    · simp [Value.cells] at hcs
      obtain ⟨rfl, rfl, rfl⟩ := hcs
      exact ⟨[], .inl ⟨rfl, rfl, rfl, rfl⟩⟩
    · simp [Value.cells] at hcs
      obtain ⟨rfl, rfl, rfl⟩ := hcs
      exact ⟨zs, .inr ⟨_, rfl, hl, hm, by simpa using hz, hcell, hwz⟩⟩
  clear hA0 hval0
  refine (lawFull f0 b0 a0 len0 cap0 L0 z0 W w0 n0 l0 a1 len1 cap1 _ w1.rd).mono fun e W' ⟨he, bel⟩ => ?_
  subst he
  exact ⟨_, rfl, _, _, _, [], _, [], hW', trodAll_mk1 (shut_bool Try.underlying4 _), (trodAll_cons_mk (Below.trod laidOut (by kernel_rfl) (of_decide_eq_true (by kernel_rfl)) k0 bel lt0) (trodAll_cons_mk (Below.trod laidOut (by kernel_rfl) (of_decide_eq_true (by kernel_rfl)) k1 bel lt1) trodAll_mk0)), rfl, bel.frame _, fun h => by cases h⟩

theorem k1 : Rows.fnExactFullScoreRow.wf (OpenSpec.ofChange Rows.fnExactFullScoreSpec) = true := by kernel_rfl
theorem k4 : Try.f13.params.all (Try.prog.readableRec ·) = true := by kernel_rfl
theorem k5 : namedTie Try.prog Rows.fnExactFullScoreRow.named Rows.fnExactFullScoreSpec.vars = true := by kernel_rfl
theorem k6 : (Rows.fnExactFullScoreRow.stops == []) = true := by kernel_rfl
theorem k8 : (Rows.fnExactFullScoreRow.knobs == []) = true := by kernel_rfl
theorem k10 : (Rows.fnExactFullScoreRow.inPlace == Try.prog.inPlace 13) = true := by kernel_rfl
theorem k11 : (Rows.fnExactFullScoreRow.unfollowed == Try.prog.unfollowed 13) = true := by kernel_rfl
theorem k12 : (Rows.fnExactFullScoreRow.recurses == Try.prog.recurses 13) = true := by kernel_rfl
theorem k13 : (Rows.fnExactFullScoreRow.named == Try.prog.varsNamed 13) = true := by kernel_rfl
theorem k14 : (Rows.fnExactFullScoreRow.maps == (Try.f13.params.toList ++ Rows.fnExactFullScoreSpec.plain.varTypes Try.prog).any (Try.prog.mapsRec ·)) = true := by kernel_rfl
theorem k15 : (Rows.fnExactFullScoreRow.ifaces == (Try.f13.params.toList ++ Rows.fnExactFullScoreSpec.plain.varTypes Try.prog).any (Try.prog.ifacesRec ·)) = true := by kernel_rfl
theorem k16 : (Rows.fnExactFullScoreRow.mapsOut == Try.prog.mapsAmong Try.f13.resultTypes.toList) = true := by kernel_rfl
theorem k17 : (Rows.fnExactFullScoreRow.loops == (Try.f13.params.toList ++ Rows.fnExactFullScoreSpec.plain.varTypes Try.prog).any (Try.prog.loopsFrom ·)) = true := by kernel_rfl
theorem k17b : (Rows.fnExactFullScoreRow.wideKeys == (Try.f13.params.toList ++ Rows.fnExactFullScoreSpec.plain.varTypes Try.prog ++ Try.f13.resultTypes.toList).any (Try.prog.wideKeysFrom ·)) = true := by kernel_rfl
theorem k18 : Rows.fnExactFullScoreSpec.vars.all (Try.prog.varReadable ·) = true := by kernel_rfl
theorem k19 : Try.f13.resultTypes.all (fun t => Try.prog.readableRec t && decide (t < Try.prog.types.size)) = true := by kernel_rfl
theorem k20 : (Rows.fnExactFullScoreRow.ifacesOut == Try.f13.resultTypes.toList.any (Try.prog.ifacesRec ·)) = true := by kernel_rfl
theorem k21 : (Rows.fnExactFullScoreRow.loopsOut == Try.f13.resultTypes.toList.any (Try.prog.loopsFrom ·)) = true := by kernel_rfl
theorem k22 : (Rows.fnExactFullScoreRow.plainKeys == Try.prog.plainKeys) = true := (congrArg (fun m => Rows.fnExactFullScoreRow.plainKeys == m) F22).trans (by kernel_rfl)
theorem k23 : Rows.fnExactFullScoreRow.shortTexts.isNone = true := by kernel_rfl
theorem k24b : (Rows.fnExactFullScoreRow.lifted == Try.prog.liftsFinal) = true := (congrArg (fun m => Rows.fnExactFullScoreRow.lifted == m) F24b).trans (by kernel_rfl)
theorem k24c : (Try.prog.make == some Rows.fnExactFullScoreRow.make) = true := (congrArg (fun m => m == some Rows.fnExactFullScoreRow.make) F24c).trans (by kernel_rfl)
theorem k25 : kindsB Try.prog Try.f13 Rows.fnExactFullScoreRow = true := by kernel_rfl
theorem k26 : (Rows.fnExactFullScoreRow.pinned == Rows.fnExactFullScoreRow.pinnedBy) = true := by kernel_rfl
theorem k27 : (Rows.fnExactFullScoreRow.veiled == (Try.f13.params.toList ++ Rows.fnExactFullScoreSpec.plain.varTypes Try.prog ++ Try.f13.resultTypes.toList).any (Try.prog.veiledRec ·)) = true := by kernel_rfl
theorem k28 : Rows.fnExactFullScoreRow.veiledFits Try.prog Try.f13.params.toList (Try.f13.params.toList ++ Rows.fnExactFullScoreSpec.plain.varTypes Try.prog ++ Try.f13.resultTypes.toList) = true := by kernel_rfl
theorem closed : joinedFacts Try.prog 13 Try.f13 Rows.fnExactFullScoreSpec Rows.fnExactFullScoreRow = true := joined_of k1 laidOut F3 k4 k5 k6 F7 k8 F9 k10 k11 k12 k13 k14 k15 k16 k17 k17b k18 k19 k20 k21 k22 k23 F23b F24 k24b k24c k25 k26 k27 k28
theorem over : Rows.fnExactFullScoreRow.holds Try.pinned (OpenSpec.ofChange Rows.fnExactFullScoreSpec) :=
  OpenClaim.holds_of_wide 13 Try.f13 rfl rfl rfl rfl rfl rfl rfl ⟨rfl, rfl, rfl, rfl, rfl⟩ rfl rfl rfl rfl rfl (by kernel_rfl) Try.func13 closed
    (of_decide_eq_true (by kernel_rfl)) (by unfold Func.isWrapper; first | (rw [if_pos (by decide +kernel)]; kernel_rfl) | (rw [if_neg (by decide +kernel)]; exact ⟨rfl, rfl⟩))
    (fun os started H enc _ => lifted os started H enc)

theorem proved : Rows.FnExactFullScoreSaid := over
end Go.Proofs.Ytmlcpjcchgihfaa.fnExactFullScoreDone
