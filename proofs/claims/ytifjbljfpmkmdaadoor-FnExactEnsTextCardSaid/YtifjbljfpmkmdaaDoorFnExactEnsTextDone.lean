/- The law FnExactEnsText holds: for every input the call returns true, and each argument reads behind the call as it read before. No conditions. -/
import Derived.Test.YtifjbljfpmkmdaaDoorLaw
import Derived.Test.YtifjbljfpmkmdaaDoorFactsB
import Derived.Test.YtifjbljfpmkmdaaDoorTie
import Derived.Test.YtifjbljfpmkmdaaDoorCards
import Derived.Lib.LaidTab
import Derived.LaidSub
import Derived.LaidMore
import Derived.Stop.Joined
import Derived.SevenTiedAt
import Derived.Test.YtifjbljfpmkmdaaDoorTxX
namespace Go.Proofs.YtifjbljfpmkmdaaDoor.fnExactEnsTextDone
open Go.ChangeShapes Go.WideShapes Go.ChangeAt Go.RowKit
open Go.ChangeMaps (open_string shut_string)
set_option linter.unusedVariables false

theorem gPow : Tryd.prog.globalNamed "internal/strconv.uint64pow10" = some 1 := by kernel_rfl
theorem tab_eq : (Rows.laid_internal_strconv_uint64pow10 : DataW Unit) = Lib.tabData .u64 Lib.pow10Tab := by kernel_rfl
/-- What the listed table gives the walk. -/
theorem pow_of {W : World} (h : laidMetH Tryd.prog Rows.fnExactEnsTextRow.laid W) : Lib.TabIs Tryd.prog W "internal/strconv.uint64pow10" .u64 Lib.pow10Tab := by
  rw [MakeChecks.laidMetH_plain _ _ _ (by kernel_rfl)] at h
  have h2 := h.filter (fun x => x.1 == "internal/strconv.uint64pow10")
  have e : Rows.fnExactEnsTextRow.laid.filter (fun x => x.1 == "internal/strconv.uint64pow10") = [("internal/strconv.uint64pow10", Lib.tabData .u64 Lib.pow10Tab)] := by
    rw [← tab_eq]; rfl
  rw [e] at h2
  exact Lib.tabIs_of_head gPow (by kernel_rfl) Tryd.underlying161 Tryd.underlying93 (by kernel_rfl) (by kernel_rfl) h2
/-- The door's own heap meets the condition. -/
theorem door_met (os : Os) (args : Array Value) : laidMetH Tryd.prog Rows.fnExactEnsTextRow.laid ((World.doorLaid Tryd.prog 400 os).forCall (fun _ _ => 0) ⟨#[], args, []⟩).memory :=
  laidMetH_of_parts3 (fuel := 8) (laidMet_of_run' 8 (by kernel_rfl) (by kernel_rfl)) (by kernel_rfl) (by kernel_rfl)

set_option maxRecDepth 100000 in
theorem lifted (os : Os) (started : os.Started) (H : Type) (enc : TypeId × Value → H) :
    ReturnsInHanded {} Tryd.checked os 6 .any (fun w args => (Rows.fnExactEnsTextSpec.pre enc Tryd.prog Tryd.f6 [] false w args ∧ laidMetH Tryd.prog Rows.fnExactEnsTextRow.laid w) ∧ sizedMet enc Tryd.prog Tryd.f6 (OpenSpec.ofChange Rows.fnExactEnsTextSpec) false w args)
      (Rows.fnExactEnsTextSpec.post enc Tryd.prog Tryd.f6 false true false false) := by
  refine returnsInHanded_of_change_and (C := Tryd.checked) (X := fun w _ => laidMetH Tryd.prog Rows.fnExactEnsTextRow.laid w) (fun _ _ _ hh h => h.of_heap hh) own started (by kernel_rfl) Tryd.func6
    (ChangeSpec.witness_shaped (enc := enc) (C := Tryd.checked) (os := os) (X := fun w _ => laidMetH Tryd.prog Rows.fnExactEnsTextRow.laid w) false (World.doorLaid Tryd.prog 400 os) #[.agg #[.int .i64 0, .int .i64 0, .slice none 0 0]] 8 rfl (World.shaped_of_RefB (by kernel_rfl) (by kernel_rfl)) (by kernel_rfl) (by kernel_rfl) (by kernel_rfl) (door_met os _)) ?_
  intro W base args ds gs before hval0 hW _ _ hL _
  have hPow : Hid (Lib.TabBelow Tryd.prog W.heap.size W "internal/strconv.uint64pow10" .u64 Lib.pow10Tab) := Lib.tabBelow_of_tabIs (pow_of hL)
  have hval : ∀ (j : Nat) t v, Tryd.f6.params[j]? = some t → args[j]? = some v → Value.okWide Tryd.prog W .any base t v := hval0
  have hW' := hW
  obtain ⟨p, q, hA0, hV, rfl, hfz, hnd⟩ := hW
  have hA : DataW.TrodAll enc Tryd.prog W 0 (fun _ => true) true Tryd.f6.params.toList args.toList ds p := hA0
  rw [Tryd.params6] at hA hval
  obtain ⟨v0, vs0, d0, ds0, p0, q0, hargs, rfl, rfl, h0, r0⟩ := trodAll_cons hA
  obtain ⟨rfl, rfl, rfl⟩ := trodAll_nil r0
  obtain rfl : args = #[v0] := by cases args; simp_all
  obtain ⟨rfl, rfl⟩ := trodVars_none hV
  obtain ⟨cs0, rfl, _⟩ := okWide_struct Tryd.underlying40 (hval 0 40 v0 rfl rfl)
  have k0 := h0
  have lt0 : ∀ x ∈ p0, x.block < W.heap.size := by obtain ⟨m, hm⟩ := k0; exact DataW.trod_lt m _ _ _ hm
  obtain ⟨f0, b0, a0, len0, cap0, L0, z0, e0, w0, n0, l0⟩ : ∃ f b A n c len g, Value.agg cs0 = enV f b A n c ∧ RdT W W.heap.size A n len g ∧ n ≤ 9223372036854775807 ∧ ∀ i, i < n → len i ≤ 9223372036854775807 := by
    obtain ⟨fuel, hf⟩ := h0
    exact isEns_of hf
  injection e0 with e0
  subst e0
  clear hA0 hval0
  refine (lawEnsText f0 b0 a0 len0 cap0 L0 z0 W w0 n0 l0 hPow).mono fun e W' ⟨he, bel⟩ => ?_
  subst he
  exact ⟨_, rfl, _, _, _, [], _, [], hW', trodAll_mk1 (shut_bool Tryd.underlying4 _), (trodAll_cons_mk (Below.trod laidOut (by kernel_rfl) (of_decide_eq_true (by kernel_rfl)) k0 bel lt0) trodAll_mk0), rfl, bel.frame _, fun h => by cases h⟩

theorem k1 : Rows.fnExactEnsTextRow.wf (OpenSpec.ofChange Rows.fnExactEnsTextSpec) = true := by kernel_rfl
theorem k4 : Tryd.f6.params.all (Tryd.prog.readableRec ·) = true := by kernel_rfl
theorem k5 : namedTie Tryd.prog Rows.fnExactEnsTextRow.named Rows.fnExactEnsTextSpec.vars = true := by kernel_rfl
theorem k6 : (Rows.fnExactEnsTextRow.stops == []) = true := by kernel_rfl
theorem k8 : (Rows.fnExactEnsTextRow.knobs == []) = true := by kernel_rfl
theorem k10 : (Rows.fnExactEnsTextRow.inPlace == Tryd.prog.inPlace 6) = true := by kernel_rfl
theorem k11 : (Rows.fnExactEnsTextRow.unfollowed == Tryd.prog.unfollowed 6) = true := by kernel_rfl
theorem k12 : (Rows.fnExactEnsTextRow.recurses == Tryd.prog.recurses 6) = true := by kernel_rfl
theorem k13 : (Rows.fnExactEnsTextRow.named == Tryd.prog.varsNamed 6) = true := by kernel_rfl
theorem k14 : (Rows.fnExactEnsTextRow.maps == (Tryd.f6.params.toList ++ Rows.fnExactEnsTextSpec.plain.varTypes Tryd.prog).any (Tryd.prog.mapsRec ·)) = true := by kernel_rfl
theorem k15 : (Rows.fnExactEnsTextRow.ifaces == (Tryd.f6.params.toList ++ Rows.fnExactEnsTextSpec.plain.varTypes Tryd.prog).any (Tryd.prog.ifacesRec ·)) = true := by kernel_rfl
theorem k16 : (Rows.fnExactEnsTextRow.mapsOut == Tryd.prog.mapsAmong Tryd.f6.resultTypes.toList) = true := by kernel_rfl
theorem k17 : (Rows.fnExactEnsTextRow.loops == (Tryd.f6.params.toList ++ Rows.fnExactEnsTextSpec.plain.varTypes Tryd.prog).any (Tryd.prog.loopsFrom ·)) = true := by kernel_rfl
theorem k17b : (Rows.fnExactEnsTextRow.wideKeys == (Tryd.f6.params.toList ++ Rows.fnExactEnsTextSpec.plain.varTypes Tryd.prog ++ Tryd.f6.resultTypes.toList).any (Tryd.prog.wideKeysFrom ·)) = true := by kernel_rfl
theorem k18 : Rows.fnExactEnsTextSpec.vars.all (Tryd.prog.varReadable ·) = true := by kernel_rfl
theorem k19 : Tryd.f6.resultTypes.all (fun t => Tryd.prog.readableRec t && decide (t < Tryd.prog.types.size)) = true := by kernel_rfl
theorem k20 : (Rows.fnExactEnsTextRow.ifacesOut == Tryd.f6.resultTypes.toList.any (Tryd.prog.ifacesRec ·)) = true := by kernel_rfl
theorem k21 : (Rows.fnExactEnsTextRow.loopsOut == Tryd.f6.resultTypes.toList.any (Tryd.prog.loopsFrom ·)) = true := by kernel_rfl
theorem k22 : (Rows.fnExactEnsTextRow.plainKeys == Tryd.prog.plainKeys) = true := (congrArg (fun m => Rows.fnExactEnsTextRow.plainKeys == m) F22).trans (by kernel_rfl)
theorem k23 : Rows.fnExactEnsTextRow.shortTexts.isNone = true := by kernel_rfl
theorem k24b : (Rows.fnExactEnsTextRow.lifted == Tryd.prog.liftsFinal) = true := (congrArg (fun m => Rows.fnExactEnsTextRow.lifted == m) F24b).trans (by kernel_rfl)
theorem k24c : (Tryd.prog.make == some Rows.fnExactEnsTextRow.make) = true := (congrArg (fun m => m == some Rows.fnExactEnsTextRow.make) F24c).trans (by kernel_rfl)
theorem k25 : kindsB Tryd.prog Tryd.f6 Rows.fnExactEnsTextRow = true := by kernel_rfl
theorem k26 : (Rows.fnExactEnsTextRow.pinned == Rows.fnExactEnsTextRow.pinnedBy) = true := by kernel_rfl
theorem k27 : (Rows.fnExactEnsTextRow.veiled == (Tryd.f6.params.toList ++ Rows.fnExactEnsTextSpec.plain.varTypes Tryd.prog ++ Tryd.f6.resultTypes.toList).any (Tryd.prog.veiledRec ·)) = true := by kernel_rfl
theorem k28 : Rows.fnExactEnsTextRow.veiledFits Tryd.prog Tryd.f6.params.toList (Tryd.f6.params.toList ++ Rows.fnExactEnsTextSpec.plain.varTypes Tryd.prog ++ Tryd.f6.resultTypes.toList) = true := by kernel_rfl
theorem closed : joinedFacts Tryd.prog 6 Tryd.f6 Rows.fnExactEnsTextSpec Rows.fnExactEnsTextRow = true := joined_of k1 laidOut F3 k4 k5 k6 F7 k8 F9 k10 k11 k12 k13 k14 k15 k16 k17 k17b k18 k19 k20 k21 k22 k23 F23b F24 k24b k24c k25 k26 k27 k28
theorem over : Rows.fnExactEnsTextRow.holds Tryd.pinned (OpenSpec.ofChange Rows.fnExactEnsTextSpec) :=
  OpenClaim.holds_of_wide 6 Tryd.f6 rfl rfl rfl rfl rfl rfl rfl ⟨rfl, rfl, rfl, rfl, rfl⟩ rfl rfl rfl rfl rfl (by kernel_rfl) Tryd.func6 closed
    (of_decide_eq_true (by kernel_rfl)) (by unfold Func.isWrapper; first | (rw [if_pos (by decide +kernel)]; kernel_rfl) | (rw [if_neg (by decide +kernel)]; exact ⟨rfl, rfl⟩))
    (fun os started H enc _ => lifted os started H enc)

theorem row_proved : Rows.FnExactEnsTextSaid := over
theorem proved : Rows.FnExactEnsTextCardSaid :=
  Claim7.holds_tied_plain_at .later [] [.data, .data, .data] true (true, "8021b8dd938a7f642691f69a7c9b24eecbed0da98de1542196fa5bd6e3c731ff") true
    row_proved (fun _ h => by cases h) (by kernel_rfl) (fun _ h => by cases h) fnExactEnsText_row_tie rfl ⟨rfl, rfl⟩ (by kernel_rfl) rfl
    (fun f fn hf hfn => by
      obtain rfl : f = 6 := Option.some.inj ((show Tryd.prog.funcNamed Rows.fnExactEnsTextRow.func = some 6 by kernel_rfl).symm.trans hf) |>.symm
      obtain rfl : fn = Tryd.f6 := (Option.some.inj (Tryd.func6.symm.trans hfn)).symm
      exact ⟨by kernel_rfl, fun j t ht => by
        have hall : (Tryd.f6.params.toList.all fun u => !Tryd.prog.wantsStandIn u) = true := by kernel_rfl
        have hm : t ∈ Tryd.f6.params.toList := by simpa using Array.mem_of_getElem? ht
        have := List.all_eq_true.1 hall t hm
        have h3 : Tryd.prog.wantsStandIn t = false := by simpa using this
        exact h3⟩)
    (by kernel_rfl)
end Go.Proofs.YtifjbljfpmkmdaaDoor.fnExactEnsTextDone
