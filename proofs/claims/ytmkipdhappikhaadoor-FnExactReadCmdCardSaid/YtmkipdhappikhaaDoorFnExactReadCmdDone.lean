/- The law FnExactReadCmd holds: for every input the call returns true, and each argument reads behind the call as it read before. No conditions. -/
import Derived.Test.YtmkipdhappikhaaDoorLaw
import Derived.Test.YtmkipdhappikhaaDoorFactsB
import Derived.Test.YtmkipdhappikhaaDoorTie
import Derived.Test.YtmkipdhappikhaaDoorCards
import Derived.Lib.LaidTab
import Derived.Lay
import Derived.LaidSub
import Derived.LaidMore
import Derived.Stop.Joined
import Derived.SevenTiedAt
import Derived.Test.YtmkipdhappikhaaDoorCmX
namespace Go.Proofs.YtmkipdhappikhaaDoor.fnExactReadCmdDone
open Go.ChangeShapes Go.WideShapes Go.ChangeAt Go.RowKit
open Go.ChangeMaps (open_string shut_string)
set_option linter.unusedVariables false

theorem gPow : Tryd.prog.globalNamed "internal/strconv.uint64pow10" = some 1 := by kernel_rfl
theorem tab_eq : (Rows.laid_internal_strconv_uint64pow10 : DataW Unit) = Lib.tabData .u64 Lib.pow10Tab := by kernel_rfl
/-- What the listed table gives the walk. -/
theorem pow_of {W : World} (h : laidMetH Tryd.prog Rows.fnExactReadCmdRow.laid W) : Lib.TabIs Tryd.prog W "internal/strconv.uint64pow10" .u64 Lib.pow10Tab := by
  rw [MakeChecks.laidMetH_plain _ _ _ (by kernel_rfl)] at h
  have h2 := h.filter (fun x => x.1 == "internal/strconv.uint64pow10")
  have e : Rows.fnExactReadCmdRow.laid.filter (fun x => x.1 == "internal/strconv.uint64pow10") = [("internal/strconv.uint64pow10", Lib.tabData .u64 Lib.pow10Tab)] := by
    rw [← tab_eq]; rfl
  rw [e] at h2
  exact Lib.tabIs_of_head gPow (by kernel_rfl) Tryd.underlying158 Tryd.underlying73 (by kernel_rfl) (by kernel_rfl) h2
/-- What the listed errors give the walk. -/
theorem errs_of {W : World} (h : laidMetH Tryd.prog Rows.fnExactReadCmdRow.laid W) : ErrOk W := by
  rw [MakeChecks.laidMetH_plain _ _ _ (by kernel_rfl)] at h
  exact ⟨err_of gSyn (by kernel_rfl) (h.filter (fun x => x.1 == "strconv.ErrSyntax")), err_of gRng (by kernel_rfl) (h.filter (fun x => x.1 == "strconv.ErrRange"))⟩
/-- A heap with the listed variables laid meets the condition. -/
theorem laid_met (os : Os) (args : Array Value) : laidMetH Tryd.prog Rows.fnExactReadCmdRow.laid ((World.laidAll Tryd.prog os Rows.fnExactReadCmdRow.laid).forCall (fun _ _ => 0) ⟨#[], args, []⟩).memory := by
  rw [MakeChecks.laidMetH_plain _ _ _ (by kernel_rfl)]
  exact laidMet_laidAll _ (by kernel_rfl) (by kernel_rfl)

set_option maxRecDepth 100000 in
theorem lifted (os : Os) (started : os.Started) (H : Type) (enc : TypeId × Value → H) :
    ReturnsInHanded {} Tryd.checked os 5 .any (fun w args => (Rows.fnExactReadCmdSpec.pre enc Tryd.prog Tryd.f5 [] false w args ∧ laidMetH Tryd.prog Rows.fnExactReadCmdRow.laid w) ∧ sizedMet enc Tryd.prog Tryd.f5 (OpenSpec.ofChange Rows.fnExactReadCmdSpec) false w args)
      (Rows.fnExactReadCmdSpec.post enc Tryd.prog Tryd.f5 false true false false) := by
  refine handed_with_shape (C := Tryd.checked) (X := fun w => laidMetH Tryd.prog Rows.fnExactReadCmdRow.laid w) (fun _ _ hh h => h.of_heap hh) own started (by kernel_rfl) Tryd.func5
    (ChangeSpec.witness_shaped (enc := enc) (C := Tryd.checked) (os := os) (X := fun w _ => laidMetH Tryd.prog Rows.fnExactReadCmdRow.laid w) false (World.laidAll Tryd.prog os Rows.fnExactReadCmdRow.laid) #[.string ⟨#[]⟩] 8 (World.laidAll_os _ _ _) (World.shaped_of_ZipB (by kernel_rfl) (by kernel_rfl)) (by kernel_rfl) (by kernel_rfl) (by kernel_rfl) (laid_met os _)) ?_
  intro W base args ds gs before hval0 hW hL hSh
  have hErr : ErrOk W := errs_of hL
  have hLen : LenOk W := len_of hSh
  have hPow : Hid (Lib.TabBelow Tryd.prog W.heap.size W "internal/strconv.uint64pow10" .u64 Lib.pow10Tab) := Lib.tabBelow_of_tabIs (pow_of hL)
  have hval : ∀ (j : Nat) t v, Tryd.f5.params[j]? = some t → args[j]? = some v → Value.okWide Tryd.prog W .any base t v := hval0
  have hW' := hW
  obtain ⟨p, q, hA0, hV, rfl, hfz, hnd⟩ := hW
  have hA : DataW.TrodAll enc Tryd.prog W 0 (fun _ => true) true Tryd.f5.params.toList args.toList ds p := hA0
  rw [Tryd.params5] at hA hval
  obtain ⟨v0, vs0, d0, ds0, p0, q0, hargs, rfl, rfl, h0, r0⟩ := trodAll_cons hA
  obtain ⟨rfl, rfl, rfl⟩ := trodAll_nil r0
  obtain rfl : args = #[v0] := by cases args; simp_all
  obtain ⟨rfl, rfl⟩ := trodVars_none hV
  obtain ⟨a0, rfl, rfl, rfl, w0⟩ := open_string Tryd.underlying9 (hval 0 9 v0 rfl rfl) h0
  clear hA0 hval0
  refine (lawReadCmd a0 W hErr hLen hPow).mono fun e W' ⟨he, bel⟩ => ?_
  subst he
  exact ⟨_, rfl, _, _, _, [], _, [], hW', trodAll_mk1 (shut_bool Tryd.underlying4 _), (trodAll_cons_mk (shut_string Tryd.underlying9 w0) trodAll_mk0), rfl, bel.frame _, fun h => by cases h⟩

theorem k1 : Rows.fnExactReadCmdRow.wf (OpenSpec.ofChange Rows.fnExactReadCmdSpec) = true := by kernel_rfl
theorem k4 : Tryd.f5.params.all (Tryd.prog.readableRec ·) = true := by kernel_rfl
theorem k5 : namedTie Tryd.prog Rows.fnExactReadCmdRow.named Rows.fnExactReadCmdSpec.vars = true := by kernel_rfl
theorem k6 : (Rows.fnExactReadCmdRow.stops == []) = true := by kernel_rfl
theorem k8 : (Rows.fnExactReadCmdRow.knobs == []) = true := by kernel_rfl
theorem k10 : (Rows.fnExactReadCmdRow.inPlace == Tryd.prog.inPlace 5) = true := by kernel_rfl
theorem k11 : (Rows.fnExactReadCmdRow.unfollowed == Tryd.prog.unfollowed 5) = true := by kernel_rfl
theorem k12 : (Rows.fnExactReadCmdRow.recurses == Tryd.prog.recurses 5) = true := by kernel_rfl
theorem k13 : (Rows.fnExactReadCmdRow.named == Tryd.prog.varsNamed 5) = true := by kernel_rfl
theorem k14 : (Rows.fnExactReadCmdRow.maps == (Tryd.f5.params.toList ++ Rows.fnExactReadCmdSpec.plain.varTypes Tryd.prog).any (Tryd.prog.mapsRec ·)) = true := by kernel_rfl
theorem k15 : (Rows.fnExactReadCmdRow.ifaces == (Tryd.f5.params.toList ++ Rows.fnExactReadCmdSpec.plain.varTypes Tryd.prog).any (Tryd.prog.ifacesRec ·)) = true := by kernel_rfl
theorem k16 : (Rows.fnExactReadCmdRow.mapsOut == Tryd.prog.mapsAmong Tryd.f5.resultTypes.toList) = true := by kernel_rfl
theorem k17 : (Rows.fnExactReadCmdRow.loops == (Tryd.f5.params.toList ++ Rows.fnExactReadCmdSpec.plain.varTypes Tryd.prog).any (Tryd.prog.loopsFrom ·)) = true := by kernel_rfl
theorem k17b : (Rows.fnExactReadCmdRow.wideKeys == (Tryd.f5.params.toList ++ Rows.fnExactReadCmdSpec.plain.varTypes Tryd.prog ++ Tryd.f5.resultTypes.toList).any (Tryd.prog.wideKeysFrom ·)) = true := by kernel_rfl
theorem k18 : Rows.fnExactReadCmdSpec.vars.all (Tryd.prog.varReadable ·) = true := by kernel_rfl
theorem k19 : Tryd.f5.resultTypes.all (fun t => Tryd.prog.readableRec t && decide (t < Tryd.prog.types.size)) = true := by kernel_rfl
theorem k20 : (Rows.fnExactReadCmdRow.ifacesOut == Tryd.f5.resultTypes.toList.any (Tryd.prog.ifacesRec ·)) = true := by kernel_rfl
theorem k21 : (Rows.fnExactReadCmdRow.loopsOut == Tryd.f5.resultTypes.toList.any (Tryd.prog.loopsFrom ·)) = true := by kernel_rfl
theorem k22 : (Rows.fnExactReadCmdRow.plainKeys == Tryd.prog.plainKeys) = true := (congrArg (fun m => Rows.fnExactReadCmdRow.plainKeys == m) F22).trans (by kernel_rfl)
theorem k23 : Rows.fnExactReadCmdRow.shortTexts.isNone = true := by kernel_rfl
theorem k24b : (Rows.fnExactReadCmdRow.lifted == Tryd.prog.liftsFinal) = true := (congrArg (fun m => Rows.fnExactReadCmdRow.lifted == m) F24b).trans (by kernel_rfl)
theorem k24c : (Tryd.prog.make == some Rows.fnExactReadCmdRow.make) = true := (congrArg (fun m => m == some Rows.fnExactReadCmdRow.make) F24c).trans (by kernel_rfl)
theorem k25 : kindsB Tryd.prog Tryd.f5 Rows.fnExactReadCmdRow = true := by kernel_rfl
theorem k26 : (Rows.fnExactReadCmdRow.pinned == Rows.fnExactReadCmdRow.pinnedBy) = true := by kernel_rfl
theorem k27 : (Rows.fnExactReadCmdRow.veiled == (Tryd.f5.params.toList ++ Rows.fnExactReadCmdSpec.plain.varTypes Tryd.prog ++ Tryd.f5.resultTypes.toList).any (Tryd.prog.veiledRec ·)) = true := by kernel_rfl
theorem k28 : Rows.fnExactReadCmdRow.veiledFits Tryd.prog Tryd.f5.params.toList (Tryd.f5.params.toList ++ Rows.fnExactReadCmdSpec.plain.varTypes Tryd.prog ++ Tryd.f5.resultTypes.toList) = true := by kernel_rfl
theorem closed : joinedFacts Tryd.prog 5 Tryd.f5 Rows.fnExactReadCmdSpec Rows.fnExactReadCmdRow = true := joined_of k1 laidOut F3 k4 k5 k6 F7 k8 F9 k10 k11 k12 k13 k14 k15 k16 k17 k17b k18 k19 k20 k21 k22 k23 F23b F24 k24b k24c k25 k26 k27 k28
theorem over : Rows.fnExactReadCmdRow.holds Tryd.pinned (OpenSpec.ofChange Rows.fnExactReadCmdSpec) :=
  OpenClaim.holds_of_wide 5 Tryd.f5 rfl rfl rfl rfl rfl rfl rfl ⟨rfl, rfl, rfl, rfl, rfl⟩ rfl rfl rfl rfl rfl (by kernel_rfl) Tryd.func5 closed
    (of_decide_eq_true (by kernel_rfl)) (by unfold Func.isWrapper; first | (rw [if_pos (by decide +kernel)]; kernel_rfl) | (rw [if_neg (by decide +kernel)]; exact ⟨rfl, rfl⟩))
    (fun os started H enc _ => lifted os started H enc)

theorem row_proved : Rows.FnExactReadCmdSaid := over
theorem proved : Rows.FnExactReadCmdCardSaid :=
  Claim7.holds_tied_plain_at .later [] [.data, .data, .data, .data, .sentinel, .sentinel, .pinned] true (true, "05ab545b596badf0427a1f9bf44eb536aa757c9f9da5248558fbf268b942188c") true
    row_proved (fun _ h => by cases h) (by kernel_rfl) (fun _ h => by cases h) fnExactReadCmd_row_tie rfl ⟨rfl, rfl⟩ (by kernel_rfl) rfl
    (fun f fn hf hfn => by
      obtain rfl : f = 5 := Option.some.inj ((show Tryd.prog.funcNamed Rows.fnExactReadCmdRow.func = some 5 by kernel_rfl).symm.trans hf) |>.symm
      obtain rfl : fn = Tryd.f5 := (Option.some.inj (Tryd.func5.symm.trans hfn)).symm
      exact ⟨by kernel_rfl, fun j t ht => by
        have hall : (Tryd.f5.params.toList.all fun u => !Tryd.prog.wantsStandIn u) = true := by kernel_rfl
        have hm : t ∈ Tryd.f5.params.toList := by simpa using Array.mem_of_getElem? ht
        have := List.all_eq_true.1 hall t hm
        have h3 : Tryd.prog.wantsStandIn t = false := by simpa using this
        exact h3⟩)
    (by kernel_rfl)
end Go.Proofs.YtmkipdhappikhaaDoor.fnExactReadCmdDone
