/- Trees read, on both sides. -/
import Derived.Test.YtmkipdhappikhaaGreatDoorRdW
import Derived.Test.YtmkipdhappikhaaGreatDoorRgI
import Derived.Test.YtmkipdhappikhaaGreatDoorTxU
namespace Go.Proofs.YtmkipdhappikhaaGreatDoor

/-! ### RtC -/
section
set_option linter.unusedVariables false
set_option linter.unusedSimpArgs false
open Go.RowKit Go.Deep

/-! ### pure -/
theorem results_nt {P : Program} {fn : Func} {p u : Tmp} {ty : TypeId} (h : fn.results = #[.cell p ty, .tmp u]) (tmps : Array Value) (w : World) (g : Nat) (t : TypeId) (cs : Array Value) (fr : Nat × Nat) (d : TypeDesc)
    (hp : tmps.getD p undef = .pointer (some ⟨g, 0, none⟩)) (hg : w.heap[g]? = some (.cells cs t fr))
    (hu : P.underlying ty = some d) (hd : (match d with | .struct _ | .array _ _ => true | _ => false) = true) (hi : (P.info? ty).map (·.size) = some cs.size) :
    (results fn tmps).run P w = .ok (.tuple #[.agg cs, tmps.getD u undef]) w := by
  have hp' : tmps[p]?.getD undef = .pointer (some ⟨g, 0, none⟩) := by simpa using hp
  simp [results, h, hp', asAddr, Result.andThen, run_loadVar_row w g t ty cs fr d hg hu hd hi]
theorem getD_inT {l : Array Bool} {i : Nat} (hi : i < l.size) (h : l.getD i true = true) : l.getD i false = true := by
  rw [Array.getD_eq_getD_getElem?, Array.getElem?_eq_getElem hi] at h ⊢
  exact h
def updW (V : Nat → Value) (i : Nat) (v : Value) : Nat → Value := fun j => if j = i then v else V j
def SplAns (s : ByteArray) (w : World) (e : Ending) (w' : World) : Prop :=
  ((∃ d, NdIn d ∧ GoodN d ∧ d.left ≠ 0 ∧ s = joinTo (ndP d) (one1 58) 5 ∧ e = .returned (.tuple #[ndV d, .bool true])) ∨ ((∀ d, NdIn d → d.left ≠ 0 → s ≠ joinTo (ndP d) (one1 58) 5) ∧ e = .returned (.tuple #[ndV zNd, .bool false]))) ∧ Below w.heap.size w w'
theorem parts_len (s : ByteArray) : (partsS s).length ≤ 5 := by
  have := Lib.splitB_length_le (one1 58) 0 (min 5 (s.size + 1) - 1) s
  unfold partsS
  omega
theorem parts_join (s : ByteArray) : joinTo (fun i => (partsS s).getD i ByteArray.empty) (one1 58) (partsS s).length = s := join_split _ s
theorem parts_of {s : ByteArray} {d : Nd} (h : s = joinTo (ndP d) (one1 58) 5) : (partsS s).length = 5 ∧ ∀ i, i < 5 → (partsS s).getD i ByteArray.empty = ndP d i := by
  rw [h, parts_split]
  refine ⟨by simp, fun i hi => ?_⟩
  rw [List.getD_eq_getElem?_getD, List.getElem?_map, List.getElem?_range hi]
  rfl
theorem parts_is {s : ByteArray} {d : Nd} (hl : (partsS s).length = 5) (h : ∀ i, i < 5 → (partsS s).getD i ByteArray.empty = ndP d i) : s = joinTo (ndP d) (one1 58) 5 := by
  have := parts_join s
  rw [hl] at this
  rw [← this]
  exact joinTo_congr 5 h
theorem side_r {m : Bool} : (sideS m = ⟨#[114]⟩) ↔ m = false := by
  cases m
  · exact ⟨fun _ => rfl, fun _ => rfl⟩
  · exact ⟨fun h => absurd (congrArg (fun x : ByteArray => x.data.toList) h) (by decide), fun h => by cases h⟩

theorem parts_any (s : ByteArray) (w : World) (hs : s.size ≤ 4194304) (hM : LenOk w) :
    Calls Tryz.prog 67 #[.string s, .string ⟨#[58]⟩, .int .i64 5] w fun e w' => ∃ N, e = .returned (.slice (some ⟨w.heap.size, 0, none⟩) (partsS s).length N) ∧ Blk w' w.heap.size 9 (Lib.cellsOf (partsS s) N) ∧ Below w.heap.size w w' := by
  obtain ⟨m, hm⟩ := hM
  refine (strings_SplitN s ⟨#[58]⟩ 5 m w (by omega) hm (by decide) (by omega) (by omega)).mono ?_
  rintro e w' ⟨rfl, rfl⟩
  exact ⟨_, rfl, Blk.new _ _ _, (Below.refl _ _).alloc (Nat.le_refl _) _⟩

theorem getD_wordC {P : List ByteArray} {k : Nat} (h : k < P.length) : P[k]? = some (P.getD k ByteArray.empty) := by
  rw [List.getD_eq_getElem?_getD, List.getElem?_eq_getElem h]
  rfl
/-- Six zeros. -/
abbrev zNC : Array Value := #[.int .i64 0, .int .i64 0, .int .i64 0, .int .i64 0, .bool false, .int .i64 0]
theorem getD_out {l : Array Bool} {i : Nat} {N : Nat} (hl : l.size = N) (hi : i < N) (h : l.getD i true = false) : l.getD i false = false := by
  rw [Array.getD_eq_getD_getElem?, Array.getElem?_eq_getElem (by omega)] at h ⊢
  exact h
theorem getD_ne {l : Array Bool} {i j : Nat} {b : Bool} (h : i ≠ j) : (l.setIfInBounds i true).getD j b = l.getD j b := by
  rw [Array.getD_eq_getD_getElem?, Array.getElem?_setIfInBounds_ne h, ← Array.getD_eq_getD_getElem?]
theorem getD_self {l : Array Bool} {i N : Nat} (hl : l.size = N) (hi : i < N) : (l.setIfInBounds i true).getD i false = true := by
  rw [Array.getD_eq_getD_getElem?, Array.getElem?_setIfInBounds_self_of_lt (by omega)]
  rfl
/-- The values of the region's operations but its last two. -/
def splV (q gs N : Nat) (z : Nat → Int) (t : ByteArray) (b : Bool) : Nat → Value
  | 0 => .pointer (some ⟨q, 0, none⟩)
  | 1 => .int .i64 (z 0)
  | 2 => .pointer (some ⟨q, 1, none⟩)
  | 3 => .int .i64 (z 1)
  | 4 => .pointer (some ⟨q, 2, none⟩)
  | 5 => .int .i64 (z 2)
  | 6 => .pointer (some ⟨q, 3, none⟩)
  | 7 => .int .i64 (z 3)
  | 8 => .slice (some ⟨gs, 0, none⟩) 5 N
  | 9 => .pointer (some ⟨gs, 4, none⟩)
  | 10 => .string t
  | 11 => .bool b
  | _ => .agg #[.int .i64 (z 0), .int .i64 (z 1), .int .i64 (z 2), .int .i64 (z 3), .bool b, .int .i64 0]
abbrev ndQ (d : Nd) : Array Value := #[.int .i64 d.feat, .int .i64 d.cut, .int .i64 d.left, .int .i64 d.right, .bool d.miss, .int .i64 d.value]
/-- What holds while the region's operations come up. -/
def SplI (val : Nat → Value) (mk : (Nat → Value) → Act) (w0 : World) (d : Nd) (l : Array Bool) (a : Act) (w : World) : Prop :=
  l.size = 15 ∧ ∃ V : Nat → Value, a = mk V ∧ Below w0.heap.size w0 w ∧ (∀ j, j < 13 → l.getD j false = true → V j = val j) ∧
    ((l.getD 13 false = false ∧ l.getD 14 false = false ∧ w.heap.size = w0.heap.size) ∨ (l.getD 13 false = true ∧ l.getD 14 false = false ∧ V 13 = .pointer (some ⟨w0.heap.size, 0, none⟩) ∧ Blk w w0.heap.size 58 zNC) ∨
     (l.getD 13 false = true ∧ l.getD 14 false = true ∧ V 13 = .pointer (some ⟨w0.heap.size, 0, none⟩) ∧ Blk w w0.heap.size 58 (ndQ d)))
theorem SplI.step {val : Nat → Value} {mk : (Nat → Value) → Act} {w0 w : World} {d : Nd} {l : Array Bool} {V : Nat → Value} (hl : l.size = 15) (hw : Below w0.heap.size w0 w) (hV : ∀ j, j < 13 → l.getD j false = true → V j = val j)
    (hS : (l.getD 13 false = false ∧ l.getD 14 false = false ∧ w.heap.size = w0.heap.size) ∨ (l.getD 13 false = true ∧ l.getD 14 false = false ∧ V 13 = .pointer (some ⟨w0.heap.size, 0, none⟩) ∧ Blk w w0.heap.size 58 zNC) ∨
     (l.getD 13 false = true ∧ l.getD 14 false = true ∧ V 13 = .pointer (some ⟨w0.heap.size, 0, none⟩) ∧ Blk w w0.heap.size 58 (ndQ d)))
    (i : Nat) (hi : i < 13) (a' : Act) (ha : a' = mk (updW V i (val i))) : SplI val mk w0 d (l.setIfInBounds i true) a' w := by
  refine ⟨by simpa using hl, updW V i (val i), ha, hw, fun j hj hlj => ?_, ?_⟩
  · unfold updW
    by_cases e : j = i
    · subst e; rw [if_pos rfl]
    · rw [if_neg e]; rw [getD_ne (fun h => e h.symm)] at hlj; exact hV j hj hlj
  · have e13 : updW V i (val i) 13 = V 13 := by unfold updW; rw [if_neg (by omega)]
    rw [getD_ne (by omega), getD_ne (by omega), e13]
    exact hS
theorem SplI.made {val : Nat → Value} {mk : (Nat → Value) → Act} {w0 w : World} {d : Nd} {l : Array Bool} {V : Nat → Value} (hl : l.size = 15) (hw : Below w0.heap.size w0 w) (hV : ∀ j, j < 13 → l.getD j false = true → V j = val j)
    (hS : (l.getD 13 false = false ∧ l.getD 14 false = false ∧ w.heap.size = w0.heap.size) ∨ (l.getD 13 false = true ∧ l.getD 14 false = false ∧ V 13 = .pointer (some ⟨w0.heap.size, 0, none⟩) ∧ Blk w w0.heap.size 58 zNC) ∨
     (l.getD 13 false = true ∧ l.getD 14 false = true ∧ V 13 = .pointer (some ⟨w0.heap.size, 0, none⟩) ∧ Blk w w0.heap.size 58 (ndQ d)))
    (hu : l.getD 13 true = false) (a' : Act) (ha : a' = mk (updW V 13 (.pointer (some ⟨w0.heap.size, 0, none⟩)))) : SplI val mk w0 d (l.setIfInBounds 13 true) a' (w.alloc (.cells zNC 58)) := by
  obtain ⟨h14, hsz⟩ : l.getD 14 false = false ∧ w.heap.size = w0.heap.size := by
    rcases hS with ⟨_, h⟩ | ⟨h, _⟩ | ⟨h, _⟩
    · exact h
    · rw [getD_out hl (by omega) hu] at h; cases h
    · rw [getD_out hl (by omega) hu] at h; cases h
  refine ⟨by simpa using hl, _, ha, hw.alloc hw.size _, fun j hj hlj => ?_, .inr (.inl ⟨getD_self hl (by omega), by rw [getD_ne (by omega)]; exact h14, rfl, by rw [← hsz]; exact Blk.new w _ _⟩)⟩
  unfold updW
  rw [if_neg (by omega)]
  rw [getD_ne (by omega)] at hlj
  exact hV j hj hlj
theorem SplI.stored {val : Nat → Value} {mk : (Nat → Value) → Act} {w0 w : World} {d : Nd} {l : Array Bool} {V : Nat → Value} (hl : l.size = 15) (hw : Below w0.heap.size w0 w) (hV : ∀ j, j < 13 → l.getD j false = true → V j = val j)
    (h13 : l.getD 13 false = true) (e13 : V 13 = .pointer (some ⟨w0.heap.size, 0, none⟩)) (hB : Blk w w0.heap.size 58 zNC) (a' : Act) (ha : a' = mk V) :
    SplI val mk w0 d (l.setIfInBounds 14 true) a' ((((((w.setCell ⟨w0.heap.size, 0, none⟩ (.int .i64 d.feat)).setCell ⟨w0.heap.size, 1, none⟩ (.int .i64 d.cut)).setCell ⟨w0.heap.size, 2, none⟩ (.int .i64 d.left)).setCell ⟨w0.heap.size, 3, none⟩ (.int .i64 d.right)).setCell ⟨w0.heap.size, 4, none⟩ (.bool d.miss)).setCell ⟨w0.heap.size, 5, none⟩ (.int .i64 d.value)) := by
  refine ⟨by simpa using hl, V, ha, (((((hw.setCell (Nat.le_refl _) _).setCell (Nat.le_refl _) _).setCell (Nat.le_refl _) _).setCell (Nat.le_refl _) _).setCell (Nat.le_refl _) _).setCell (Nat.le_refl _) _, fun j hj hlj => ?_, .inr (.inr ⟨by rw [getD_ne (by omega)]; exact h13, getD_self hl (by omega), e13, (((((hB.set_ 0 _).set_ 1 _).set_ 2 _).set_ 3 _).set_ 4 _).set_ 5 _⟩)⟩
  rw [getD_ne (by omega)] at hlj
  exact hV j hj hlj

set_option maxRecDepth 100000 in
set_option maxHeartbeats 4000000 in
theorem iSplit_any (s : ByteArray) (w : World) (hs : s.size ≤ 4194304) (hE : ErrOk w) (hM : LenOk w) (hp : Hid (Pow w w.heap.size)) :
    Calls Tryz.prog 127 #[.string s] w (SplAns s w) := by
  obtain ⟨P, HP⟩ : ∃ P, Hid (partsS s = P) := ⟨_, hid rfl⟩
  have hPl : P.length ≤ 5 := by rw [← HP.out]; exact parts_len s
  have hw0 := (Below.refl w.heap.size w).alloc (Nat.le_refl _) (.cells zNC 58)
  have hB0 := Blk.new w 58 zNC
  have HSP := hid (parts_any s _ hs (hM.below hw0))
  rw [HP.out] at HSP
  have HE : Hid (∀ W, Below w.heap.size w W → ErrOk W) := fun W hW => hE.below hW
  have HPW : Hid (∀ W, Below w.heap.size w W → Pow W W.heap.size) := fun W hW W' hW' => hp.out W' (hW.trans (hW'.mono hW.size))
  clear hE hM hp
  go_enter Tryz.func127, Tryz.ntmps127
  go_wp2_with fail
  generalize w.alloc (.cells zNC 58) = W0 at hw0 hB0 HSP ⊢
  refine HSP.out.mono ?_
  rintro e w1 ⟨N, rfl, hS1, hb1⟩
  have hw1 := hw0.trans (hb1.mono hw0.size)
  have hB1 := hB0.below hb1 hB0.lt
  have hlt := hB0.lt
  clear hw0 hB0 hb1 HSP
  generalize W0.heap.size = gs at hS1 hlt ⊢
  by_cases h5 : P.length = 5
  · have i5 : ((P.length : Int) != 5) = false := by rw [h5]; rfl
    have hw2 := hw1.alloc hw1.size (.cells #[.int .i64 0, .int .i64 0, .int .i64 0, .int .i64 0] 175)
    have hB2 := hB1.alloc (.cells #[.int .i64 0, .int .i64 0, .int .i64 0, .int .i64 0] 175)
    have hS2 := hS1.alloc (.cells #[.int .i64 0, .int .i64 0, .int .i64 0, .int .i64 0] 175)
    have hA2 : Row (w1.alloc (.cells #[.int .i64 0, .int .i64 0, .int .i64 0, .int .i64 0] 175)) 175 w1.heap.size 4 (fun _ => 0) := ⟨_, Blk.new w1 _ _, Nat.le_refl _, fun i hi => by
      obtain rfl | rfl | rfl | rfl : i = 0 ∨ i = 1 ∨ i = 2 ∨ i = 3 := by omega
      all_goals rfl⟩
    have hltq : gs < w1.heap.size := hS1.lt
    have hlt0 : w.heap.size < w1.heap.size := hB1.lt
    clear hw1 hB1 hS1
    go_wp2_with fail
    generalize w1.alloc (.cells #[.int .i64 0, .int .i64 0, .int .i64 0, .int .i64 0] 175) = W2 at hw2 hB2 hS2 hA2 ⊢
    generalize w1.heap.size = q at hA2 hltq hlt0 ⊢
    go_loopw [16] (fun i wr => ∃ (k : Nat) (z : Nat → Int), k ≤ 4 ∧ i = .int .i64 k ∧ Row wr 175 q 4 z ∧ Blk wr w.heap.size 58 zNC ∧ Blk wr gs 9 (Lib.cellsOf P N) ∧ Hid (∀ j, j < k → I64 (z j) ∧ decS (z j) = P.getD j ByteArray.empty) ∧ Hid (Below w.heap.size w wr))
      (fun i _ => 4 - (intOf i).toNat)
    case atStart => exact ⟨0, _, Nat.zero_le _, rfl, hA2, hB2, hS2, fun j hj => by omega, hw2⟩
    case round =>
      obtain ⟨k, z, hk, rfl, hA, hB, hS, hz, hbl⟩ := hrel
      by_cases hlt4 : k < 4
      · have i1 : (k : Int) < 4 := by omega
        have i2 : (k : Int) < (P.length : Int) := by omega
        have i3 : (0 : Int) ≤ (k : Int) := by omega
        obtain ⟨x, hx⟩ : ∃ x, P.getD k ByteArray.empty = x := ⟨_, rfl⟩
        have hxk := getD_wordC (P := P) (k := k) (by omega)
        rw [hx] at hxk
        have hc : wr.cell? ⟨gs, k, none⟩ = some (.string x) := by rw [hS.cell]; exact cells_word hxk
        have hxs : x.size ≤ 4194304 := Nat.le_trans (split_mem _ s x (List.mem_of_getElem? (by rw [← HP.out] at hxk; exact hxk))) hs
        have HX := hid hx
        clear hx hxk
        go_wp2_with fail
        refine (readDec_any x _ hxs (HE.out _ hbl.out) (hid (HPW.out _ hbl.out))).mono ?_
        rintro e w5 ⟨hans, hb5⟩
        have hA5 := hA.below hb5 hA.lt
        have hB5 := hB.below hb5 hB.lt
        have hS5 := hS.below hb5 hS.lt
        have hbl5 := hid (hbl.out.trans (hb5.mono hbl.out.size))
        clear hb5 hA hB hS hc hbl
        rcases hans with ⟨y, hy, hyx, rfl⟩ | ⟨hno, rfl⟩
        · have HY := hid (And.intro hy hyx)
          have hc2 : w5.cell? ⟨q, k, none⟩ = some (.int .i64 (z k)) := hA5.cell hlt4
          have hf2 := hA5.frozen k
          clear hy hyx
          go_wp2_with fail
          go_roundw
          case rel =>
            refine ⟨k + 1, _, by omega, by go_num, hA5.set_ y, hB5.far (p := ⟨q, k, none⟩) (by show w.heap.size ≠ q; omega) _, hS5.far (p := ⟨q, k, none⟩) (by show gs ≠ q; omega) _, hid (fun j hj => ?_), hid (hbl5.out.setCell (p := ⟨q, k, none⟩) (by show w.heap.size ≤ q; omega) _)⟩
            show I64 (if j = k then y else z j) ∧ decS (if j = k then y else z j) = _
            by_cases e : j = k
            · subst e; rw [if_pos rfl, HX.out]; exact HY.out
            · rw [if_neg e]; exact hz.out j (by omega)
          case measure => simp [intOf]; omega
        · have HNO := hid hno
          have c0 := hB5.cell 0; have c1 := hB5.cell 1; have c2 := hB5.cell 2; have c3 := hB5.cell 3; have c4 := hB5.cell 4; have c5 := hB5.cell 5
          have f0 := hB5.frozen 0; have f1 := hB5.frozen 1; have f2 := hB5.frozen 2; have f3 := hB5.frozen 3; have f4 := hB5.frozen 4; have f5 := hB5.frozen 5
          clear hno
          go_wp2_with fail
          refine bodyPost_ret (results_nt rfl _ _ w.heap.size 58 zNC (0, 0) _ rfl ((((((hB5.set_ 0 (.int .i64 0)).set_ 1 (.int .i64 0)).set_ 2 (.int .i64 0)).set_ 3 (.int .i64 0)).set_ 4 (.bool false)).set_ 5 (.int .i64 0)) Tryz.underlying58 rfl size_nodeT) rfl ?_
          refine ⟨.inr ⟨fun d hd hl e => ?_, rfl⟩, (((((hbl5.out.setCell (Nat.le_refl _) _).setCell (Nat.le_refl _) _).setCell (Nat.le_refl _) _).setCell (Nat.le_refl _) _).setCell (Nat.le_refl _) _).setCell (Nat.le_refl _) _⟩
          have h1 := (parts_of e).2 k (by omega)
          rw [HP.out, HX.out, ndP_fld d hlt4] at h1
          exact HNO.out _ (fld_i64 hd hlt4) h1.symm
      · obtain rfl : k = 4 := by omega
        have r0 := hA.cell (i := 0) (by omega); have r1 := hA.cell (i := 1) (by omega); have r2 := hA.cell (i := 2) (by omega); have r3 := hA.cell (i := 3) (by omega)
        have hx4 := getD_wordC (P := P) (k := 4) (by omega)
        obtain ⟨t, ht⟩ : ∃ t, P.getD 4 ByteArray.empty = t := ⟨_, rfl⟩
        rw [ht] at hx4
        have c4 : wr.cell? ⟨gs, 4, none⟩ = some (.string t) := by rw [hS.cell]; exact cells_word hx4
        have i4 : (4 : Int) < (P.length : Int) := by omega
        have HT := hid ht
        clear hx4 ht
        go_wp2_with fail
        obtain ⟨bq, hbq⟩ : ∃ bq, (t.toList == [108]) = bq := ⟨_, rfl⟩
        have hbl6 := hid (hbl.out)
        have FA : Hid (∀ W, Below wr.heap.size wr W → W.cell? ⟨q, 0, none⟩ = some (.int .i64 (z 0)) ∧ W.cell? ⟨q, 1, none⟩ = some (.int .i64 (z 1)) ∧ W.cell? ⟨q, 2, none⟩ = some (.int .i64 (z 2)) ∧ W.cell? ⟨q, 3, none⟩ = some (.int .i64 (z 3)) ∧ W.cell? ⟨gs, 4, none⟩ = some (.string t)) := fun W hW =>
          ⟨(hW.cell (show (⟨q, 0, none⟩ : Addr).block < wr.heap.size from hA.lt)).trans r0, (hW.cell (show (⟨q, 1, none⟩ : Addr).block < wr.heap.size from hA.lt)).trans r1, (hW.cell (show (⟨q, 2, none⟩ : Addr).block < wr.heap.size from hA.lt)).trans r2, (hW.cell (show (⟨q, 3, none⟩ : Addr).block < wr.heap.size from hA.lt)).trans r3, (hW.cell (show (⟨gs, 4, none⟩ : Addr).block < wr.heap.size from hS.lt)).trans c4⟩
        have hBlt := hB.lt
        clear r0 r1 r2 r3 c4
        refine region_inv (by kernel_rfl) (by kernel_rfl) (SplI (splV q gs N z t bq) (fun V => ⟨#[.string s, undef, .pointer (some ⟨w.heap.size, 0, none⟩), u3, .slice (some ⟨gs, 0, none⟩) 5 N, .pointer (some ⟨q, 0, none⟩), u6, u7, u8, V 13, .string s, .slice (some ⟨gs, 0, none⟩) 5 N, .slice (some ⟨gs, 0, none⟩) 5 N, .int .i64 5, .bool false, undef, .int .i64 ((4 : Nat) : Int), .bool false, u18, u19, u20, u21, u22, u23, u24, u25, u26, u27, u28, u29, u30, u31, u32, u33, V 0, V 1, V 2, V 3, V 4, V 5, V 6, V 7, V 8, V 9, V 10, V 11, V 12, undef, undef, undef, undef, undef, undef, undef, undef, undef, undef, undef, undef, undef, undef, undef], []⟩) wr ⟨z 0, z 1, z 2, z 3, bq, 0⟩) (fun l a W hI => hI.1) ?_ ?_ ?_
        · exact ⟨by simp, fun _ => undef, rfl, (Below.refl wr.heap.size wr).drew, fun j hj hlj => by
            rw [Array.getD_eq_getD_getElem?, Array.getElem?_replicate] at hlj
            split at hlj <;> simp at hlj, .inl ⟨by simp, by simp, rfl⟩⟩
        · intro i o ho l a W hI hu hd K hK
          obtain ⟨hl, V, rfl, hW, hV, hSt⟩ := hI
          have hi : i < 15 := (Array.getElem?_eq_some_iff.1 ho).1
          obtain ⟨r0, r1, r2, r3, c4⟩ := FA.out W hW
          obtain rfl | rfl | rfl | rfl | rfl | rfl | rfl | rfl | rfl | rfl | rfl | rfl | rfl | rfl | rfl : i = 0 ∨ i = 1 ∨ i = 2 ∨ i = 3 ∨ i = 4 ∨ i = 5 ∨ i = 6 ∨ i = 7 ∨ i = 8 ∨ i = 9 ∨ i = 10 ∨ i = 11 ∨ i = 12 ∨ i = 13 ∨ i = 14 := by omega
          all_goals
            obtain rfl := Option.some.inj ho
            rw [if_pos (by rfl)]
            refine Oper.wp_mono hK ?_
          · go_simp
            exact SplI.step hl hW hV hSt 0 (by omega) _ (by simp [updW, splV])
          · have e0 := hV 0 (by omega) (hd ⟨0, .data⟩ (by simp) rfl)
            have e0' : V 0 = _ := e0
            simp only [splV] at e0'
            simp only [e0']
            go_simp
            exact SplI.step hl hW hV hSt 1 (by omega) _ (by simp [updW, splV, e0'])
          · go_simp
            exact SplI.step hl hW hV hSt 2 (by omega) _ (by simp [updW, splV])
          · have e2 := hV 2 (by omega) (hd ⟨2, .data⟩ (by simp) rfl)
            have e2' : V 2 = _ := e2
            simp only [splV] at e2'
            simp only [e2']
            go_simp
            exact SplI.step hl hW hV hSt 3 (by omega) _ (by simp [updW, splV, e2'])
          · go_simp
            exact SplI.step hl hW hV hSt 4 (by omega) _ (by simp [updW, splV])
          · have e4 := hV 4 (by omega) (hd ⟨4, .data⟩ (by simp) rfl)
            have e4' : V 4 = _ := e4
            simp only [splV] at e4'
            simp only [e4']
            go_simp
            exact SplI.step hl hW hV hSt 5 (by omega) _ (by simp [updW, splV, e4'])
          · go_simp
            exact SplI.step hl hW hV hSt 6 (by omega) _ (by simp [updW, splV])
          · have e6 := hV 6 (by omega) (hd ⟨6, .data⟩ (by simp) rfl)
            have e6' : V 6 = _ := e6
            simp only [splV] at e6'
            simp only [e6']
            go_simp
            exact SplI.step hl hW hV hSt 7 (by omega) _ (by simp [updW, splV, e6'])
          · go_simp
            exact SplI.step hl hW hV hSt 8 (by omega) _ (by simp [updW, splV])
          · have e8 := hV 8 (by omega) (hd ⟨8, .data⟩ (by simp) rfl)
            have e8' : V 8 = _ := e8
            simp only [splV] at e8'
            simp only [e8']
            go_simp
            exact SplI.step hl hW hV hSt 9 (by omega) _ (by simp [updW, splV, e8'])
          · have e9 := hV 9 (by omega) (hd ⟨9, .data⟩ (by simp) rfl)
            have e9' : V 9 = _ := e9
            simp only [splV] at e9'
            simp only [e9']
            go_simp
            exact SplI.step hl hW hV hSt 10 (by omega) _ (by simp [updW, splV, e9'])
          · have e10 := hV 10 (by omega) (hd ⟨10, .data⟩ (by simp) rfl)
            have e10' : V 10 = _ := e10
            simp only [splV] at e10'
            simp only [e10']
            go_simp
            exact SplI.step hl hW hV hSt 11 (by omega) _ (by simp [updW, splV, e10'])
          · have e1 := hV 1 (by omega) (hd ⟨1, .data⟩ (by simp) rfl)
            have e1' : V 1 = _ := e1
            have e3 := hV 3 (by omega) (hd ⟨3, .data⟩ (by simp) rfl)
            have e3' : V 3 = _ := e3
            have e5 := hV 5 (by omega) (hd ⟨5, .data⟩ (by simp) rfl)
            have e5' : V 5 = _ := e5
            have e7 := hV 7 (by omega) (hd ⟨7, .data⟩ (by simp) rfl)
            have e7' : V 7 = _ := e7
            have e11 := hV 11 (by omega) (hd ⟨11, .data⟩ (by simp) rfl)
            have e11' : V 11 = _ := e11
            simp only [splV] at e1' e3' e5' e7' e11'
            simp only [e1', e3', e5', e7', e11']
            go_simp
            exact SplI.step hl hW hV hSt 12 (by omega) _ (by simp [updW, splV, e1', e3', e5', e7', e11'])
          · have h13 : W.heap.size = wr.heap.size := by
              rcases hSt with ⟨_, _, h⟩ | ⟨h, _⟩ | ⟨h, _⟩
              · exact h
              · rw [getD_out hl (by omega) hu] at h; cases h
              · rw [getD_out hl (by omega) hu] at h; cases h
            go_simp
            exact SplI.made hl hW hV hSt hu _ (by simp [updW])
          · have h13 := hd ⟨13, .data⟩ (by simp) rfl
            have e12 := hV 12 (by omega) (hd ⟨12, .data⟩ (by simp) rfl)
            have e12' : V 12 = _ := e12
            simp only [splV] at e12'
            obtain ⟨e13, hBQ⟩ : V 13 = .pointer (some ⟨wr.heap.size, 0, none⟩) ∧ Blk W wr.heap.size 58 zNC := by
              rcases hSt with ⟨h, _⟩ | ⟨_, _, h1, h2⟩ | ⟨_, h, _⟩
              · rw [h13] at h; cases h
              · exact ⟨h1, h2⟩
              · rw [getD_out hl (by omega) hu] at h; cases h
            have q0 := hBQ.cell 0; have q1 := hBQ.cell 1; have q2 := hBQ.cell 2; have q3 := hBQ.cell 3; have q4 := hBQ.cell 4; have q5 := hBQ.cell 5
            have f0 := hBQ.frozen 0; have f1 := hBQ.frozen 1; have f2 := hBQ.frozen 2; have f3 := hBQ.frozen 3; have f4 := hBQ.frozen 4; have f5 := hBQ.frozen 5
            simp only [e12', e13]
            go_simp
            exact SplI.stored hl hW hV h13 e13 hBQ _ (by simp [e12', e13])
        · intro l a W hI hall
          obtain ⟨hl, V, rfl, hW, hV, hSt⟩ := hI
          obtain ⟨e13, hBQ⟩ : V 13 = .pointer (some ⟨wr.heap.size, 0, none⟩) ∧ Blk W wr.heap.size 58 #[.int .i64 (z 0), .int .i64 (z 1), .int .i64 (z 2), .int .i64 (z 3), .bool bq, .int .i64 0] := by
            have k13 := getD_inT (by omega) (hall 13)
            have k14 := getD_inT (by omega) (hall 14)
            rcases hSt with ⟨h, _⟩ | ⟨_, h, _⟩ | ⟨_, _, h1, h2⟩
            · rw [k13] at h; cases h
            · rw [k14] at h; cases h
            · exact ⟨h1, h2⟩
          have hBW := hB.below hW hB.lt
          have hblW := hbl6.out.trans (hW.mono hbl6.out.size)
          obtain ⟨_, _, _, _, c4⟩ := FA.out W hW
          simp only [e13]
          have hne : w.heap.size ≠ wr.heap.size := by omega
          have hltqW : q < W.heap.size := Nat.lt_of_lt_of_le hA.lt hW.size
          clear FA hA hS hSt hV e13
          generalize wr.heap.size = Q at hBQ hne ⊢
          have q0 := hBQ.cell 0; have q1 := hBQ.cell 1; have q2 := hBQ.cell 2; have q3 := hBQ.cell 3; have q4 := hBQ.cell 4; have q5 := hBQ.cell 5
          have hltW : q < W.heap.size := hltqW
          go_wp2_with fail
          refine (isLeaf_any ⟨z 0, z 1, z 2, z 3, bq, 0⟩ _).mono ?_
          rintro e w7 ⟨rfl, hb7⟩
          have hB7 := hBW.below hb7 hBW.lt
          have hQ7 := hBQ.below hb7 hBQ.lt
          have hbl7 := hblW.trans (hb7.mono hblW.size)
          have c4 : w7.cell? ⟨gs, 4, none⟩ = some (.string t) := (hb7.cell (show (⟨gs, 4, none⟩ : Addr).block < W.heap.size from Nat.lt_trans hltq hltW)).trans c4
          have HZI : Hid (∀ b, NdIn ⟨z 0, z 1, z 2, z 3, b, 0⟩) := fun b => ⟨(hz.out 0 (by omega)).1, (hz.out 1 (by omega)).1, (hz.out 2 (by omega)).1, (hz.out 3 (by omega)).1, by show _ ∧ _; dsimp only; omega⟩
          have HZP : Hid (∀ b, t = sideS b → ∀ i, i < 5 → P.getD i ByteArray.empty = ndP ⟨z 0, z 1, z 2, z 3, b, 0⟩ i) := fun b hb i hi => by
            obtain rfl | rfl | rfl | rfl | rfl : i = 0 ∨ i = 1 ∨ i = 2 ∨ i = 3 ∨ i = 4 := by omega
            · exact (hz.out 0 (by omega)).2.symm
            · exact (hz.out 1 (by omega)).2.symm
            · exact (hz.out 2 (by omega)).2.symm
            · exact (hz.out 3 (by omega)).2.symm
            · rw [HT.out, hb]; rfl
          have HPE : Hid (∀ d, s = joinTo (ndP d) (one1 58) 5 → NdIn d → d.left = z 2 ∧ t = sideS d.miss) := fun d e hd => by
            have h1 := (parts_of e).2
            rw [HP.out] at h1
            refine ⟨decS_inj hd.2.2.1 (hz.out 2 (by omega)).1 ((h1 2 (by omega)).symm.trans (hz.out 2 (by omega)).2.symm), ?_⟩
            rw [← HT.out]
            exact h1 4 (by omega)
          have q0 := hQ7.cell 0; have q1 := hQ7.cell 1; have q2 := hQ7.cell 2; have q3 := hQ7.cell 3; have q4 := hQ7.cell 4; have q5 := hQ7.cell 5
          clear hb7 hBW hBQ hblW hz
          by_cases h0 : z 2 = 0
          · have h0' : (z 2 == 0) = true := by simpa using h0
            rw [h0']
            have H0 := hid h0
            clear h0 h0'
            have c0 := hB7.cell 0; have c1 := hB7.cell 1; have c2 := hB7.cell 2; have c3 := hB7.cell 3; have c4' := hB7.cell 4; have c5 := hB7.cell 5
            have f0 := hB7.frozen 0; have f1 := hB7.frozen 1; have f2 := hB7.frozen 2; have f3 := hB7.frozen 3; have f4 := hB7.frozen 4; have f5 := hB7.frozen 5
            go_wp2_with fail
            refine bodyPost_ret (results_nt rfl _ _ w.heap.size 58 zNC (0, 0) _ rfl ((((((hB7.set_ 0 (.int .i64 0)).set_ 1 (.int .i64 0)).set_ 2 (.int .i64 0)).set_ 3 (.int .i64 0)).set_ 4 (.bool false)).set_ 5 (.int .i64 0)) Tryz.underlying58 rfl size_nodeT) rfl ?_
            exact ⟨.inr ⟨fun d hd hl e => hl ((HPE.out d e hd).1.trans H0.out), rfl⟩, (((((hbl7.setCell (Nat.le_refl _) _).setCell (Nat.le_refl _) _).setCell (Nat.le_refl _) _).setCell (Nat.le_refl _) _).setCell (Nat.le_refl _) _).setCell (Nat.le_refl _) _⟩
          · have h0' : (z 2 == 0) = false := by simpa using h0
            rw [h0']
            have HZ2 := hid h0
            clear h0 h0'
            cases hbb : bq
            · have HBQ := hid (hbq.trans hbb)
              subst hbb
              clear hbq
              by_cases hr : t = ⟨#[114]⟩
              · have hr2 : (t.toList == [114]) = true := by rw [hr]; simp [ByteArray.toList_eq]
                have HR := hid hr
                clear hr
                have c0 := hB7.cell 0; have c1 := hB7.cell 1; have c2 := hB7.cell 2; have c3 := hB7.cell 3; have c4' := hB7.cell 4; have c5 := hB7.cell 5
                have f0 := hB7.frozen 0; have f1 := hB7.frozen 1; have f2 := hB7.frozen 2; have f3 := hB7.frozen 3; have f4 := hB7.frozen 4; have f5 := hB7.frozen 5
                go_wp2_with fail
                refine bodyPost_ret (results_nt rfl _ _ w.heap.size 58 #[.int .i64 (z 0), .int .i64 (z 1), .int .i64 (z 2), .int .i64 (z 3), .bool false, .int .i64 0] (0, 0) _ rfl ((((((hB7.set_ 0 (.int .i64 (z 0))).set_ 1 (.int .i64 (z 1))).set_ 2 (.int .i64 (z 2))).set_ 3 (.int .i64 (z 3))).set_ 4 (.bool false)).set_ 5 (.int .i64 0)) Tryz.underlying58 rfl size_nodeT) rfl ?_
                exact ⟨.inl ⟨⟨z 0, z 1, z 2, z 3, false, 0⟩, HZI.out false, ⟨fun h => absurd h HZ2.out, fun _ => rfl⟩, HZ2.out, parts_is (by rw [HP.out]; omega) (fun i hi => by rw [HP.out]; exact HZP.out false (HR.out.trans (by rfl)) i hi), rfl⟩, (((((hbl7.setCell (Nat.le_refl _) _).setCell (Nat.le_refl _) _).setCell (Nat.le_refl _) _).setCell (Nat.le_refl _) _).setCell (Nat.le_refl _) _).setCell (Nat.le_refl _) _⟩
              · have hr2 := ba_listT hr
                rw [ByteArray.toList_eq (⟨#[114]⟩ : ByteArray)] at hr2
                have HR := hid hr
                clear hr
                have c0 := hB7.cell 0; have c1 := hB7.cell 1; have c2 := hB7.cell 2; have c3 := hB7.cell 3; have c4' := hB7.cell 4; have c5 := hB7.cell 5
                have f0 := hB7.frozen 0; have f1 := hB7.frozen 1; have f2 := hB7.frozen 2; have f3 := hB7.frozen 3; have f4 := hB7.frozen 4; have f5 := hB7.frozen 5
                go_wp2_with fail
                refine bodyPost_ret (results_nt rfl _ _ w.heap.size 58 zNC (0, 0) _ rfl ((((((hB7.set_ 0 (.int .i64 0)).set_ 1 (.int .i64 0)).set_ 2 (.int .i64 0)).set_ 3 (.int .i64 0)).set_ 4 (.bool false)).set_ 5 (.int .i64 0)) Tryz.underlying58 rfl size_nodeT) rfl ?_
                refine ⟨.inr ⟨fun d hd hl e => ?_, rfl⟩, (((((hbl7.setCell (Nat.le_refl _) _).setCell (Nat.le_refl _) _).setCell (Nat.le_refl _) _).setCell (Nat.le_refl _) _).setCell (Nat.le_refl _) _).setCell (Nat.le_refl _) _⟩
                have h1 := (HPE.out d e hd).2
                cases hm : d.miss
                · rw [hm] at h1; exact HR.out h1
                · rw [hm] at h1
                  have h2 := HBQ.out
                  rw [h1] at h2
                  simp [sideS, ByteArray.toList_eq] at h2
            · have HBQ := hid (hbq.trans hbb)
              subst hbb
              clear hbq
              have hl : t = ⟨#[108]⟩ := by
                by_cases e : t = ⟨#[108]⟩
                · exact e
                · have h1 := ba_listT e
                  rw [ByteArray.toList_eq (⟨#[108]⟩ : ByteArray)] at h1
                  exact absurd (HBQ.out.symm.trans h1) (by decide)
              have HR := hid hl
              clear hl
              have c0 := hB7.cell 0; have c1 := hB7.cell 1; have c2 := hB7.cell 2; have c3 := hB7.cell 3; have c4' := hB7.cell 4; have c5 := hB7.cell 5
              have f0 := hB7.frozen 0; have f1 := hB7.frozen 1; have f2 := hB7.frozen 2; have f3 := hB7.frozen 3; have f4 := hB7.frozen 4; have f5 := hB7.frozen 5
              go_wp2_with fail
              refine bodyPost_ret (results_nt rfl _ _ w.heap.size 58 #[.int .i64 (z 0), .int .i64 (z 1), .int .i64 (z 2), .int .i64 (z 3), .bool true, .int .i64 0] (0, 0) _ rfl ((((((hB7.set_ 0 (.int .i64 (z 0))).set_ 1 (.int .i64 (z 1))).set_ 2 (.int .i64 (z 2))).set_ 3 (.int .i64 (z 3))).set_ 4 (.bool true)).set_ 5 (.int .i64 0)) Tryz.underlying58 rfl size_nodeT) rfl ?_
              exact ⟨.inl ⟨⟨z 0, z 1, z 2, z 3, true, 0⟩, HZI.out true, ⟨fun h => absurd h HZ2.out, fun _ => rfl⟩, HZ2.out, parts_is (by rw [HP.out]; omega) (fun i hi => by rw [HP.out]; exact HZP.out true (HR.out.trans (by rfl)) i hi), rfl⟩, (((((hbl7.setCell (Nat.le_refl _) _).setCell (Nat.le_refl _) _).setCell (Nat.le_refl _) _).setCell (Nat.le_refl _) _).setCell (Nat.le_refl _) _).setCell (Nat.le_refl _) _⟩
  · have i5 : ((P.length : Int) != 5) = true := by simp; omega
    have c0 := hB1.cell 0; have c1 := hB1.cell 1; have c2 := hB1.cell 2; have c3 := hB1.cell 3; have c4 := hB1.cell 4; have c5 := hB1.cell 5
    have f0 := hB1.frozen 0; have f1 := hB1.frozen 1; have f2 := hB1.frozen 2; have f3 := hB1.frozen 3; have f4 := hB1.frozen 4; have f5 := hB1.frozen 5
    go_wp2_with fail
    refine bodyPost_ret (results_nt rfl _ _ w.heap.size 58 zNC (0, 0) _ rfl ((((((hB1.set_ 0 (.int .i64 0)).set_ 1 (.int .i64 0)).set_ 2 (.int .i64 0)).set_ 3 (.int .i64 0)).set_ 4 (.bool false)).set_ 5 (.int .i64 0)) Tryz.underlying58 rfl size_nodeT) rfl ?_
    refine ⟨.inr ⟨fun d hd hl e => h5 ?_, rfl⟩, (((((hw1.setCell (Nat.le_refl _) _).setCell (Nat.le_refl _) _).setCell (Nat.le_refl _) _).setCell (Nat.le_refl _) _).setCell (Nat.le_refl _) _).setCell (Nat.le_refl _) _⟩
    rw [← HP.out]
    exact (parts_of e).1
end

/-! ### RtD -/
section
set_option linter.unusedVariables false
set_option linter.unusedSimpArgs false
open Go.RowKit Go.Deep

theorem first_or (c : UInt8) (s : ByteArray) : (∃ r, s = one1 c ++ r) ∨ ∀ r, s ≠ one1 c ++ r := by
  by_cases h : ∃ r, s = one1 c ++ r
  · exact .inl h
  · exact .inr fun r e => h ⟨r, e⟩
theorem cutp_yes (c : UInt8) (r : ByteArray) : Lib.hasPrefix (one1 c ++ r).data.toList (one1 c).data.toList = true ∧ (⟨(Lib.trimPrefix (one1 c ++ r).data.toList (one1 c).data.toList).toArray⟩ : ByteArray) = r := by
  have e : (one1 c ++ r).data.toList = c :: r.data.toList := by rw [data_app]; rfl
  have h : Lib.hasPrefix (c :: r.data.toList) [c] = true := by simp [Lib.hasPrefix]
  rw [e]
  refine ⟨h, ?_⟩
  apply ba_ext
  show Lib.trimPrefix (c :: r.data.toList) [c] = _
  unfold Lib.trimPrefix
  rw [h]
  rfl
theorem cutp_no {c : UInt8} {s : ByteArray} (h : ∀ r, s ≠ one1 c ++ r) : Lib.hasPrefix s.data.toList (one1 c).data.toList = false ∧ (⟨(Lib.trimPrefix s.data.toList (one1 c).data.toList).toArray⟩ : ByteArray) = s := by
  have hp : Lib.hasPrefix s.data.toList [c] = false := by
    cases hl : s.data.toList with
    | nil => rfl
    | cons x l =>
      cases hx : Lib.hasPrefix (x :: l) [c] with
      | false => rfl
      | true =>
        exfalso
        have : c = x := by simpa [Lib.hasPrefix] using hx
        subst this
        refine h ⟨l.toArray⟩ (ba_ext ?_)
        rw [hl, data_app]
        rfl
  refine ⟨hp, ?_⟩
  apply ba_ext
  show Lib.trimPrefix s.data.toList [c] = _
  unfold Lib.trimPrefix
  rw [hp]
  rfl
def NodeAns (s : ByteArray) (w : World) (e : Ending) (w' : World) : Prop :=
  ((∃ d, NdIn d ∧ GoodN d ∧ s = ndS d ∧ e = .returned (.tuple #[ndV d, .bool true])) ∨ ((∀ d, NdIn d → GoodN d → s ≠ ndS d) ∧ ∃ d, e = .returned (.tuple #[ndV d, .bool false]))) ∧ Below w.heap.size w w'
theorem zero64 : I64 0 := by unfold I64; omega
theorem ndS_l {d : Nd} (h : d.left = 0) : ndS d = one1 108 ++ decS d.value := by unfold ndS; rw [if_pos h]; rfl
theorem ndS_s {d : Nd} (h : d.left ≠ 0) : ndS d = one1 115 ++ joinTo (ndP d) (one1 58) 5 := by unfold ndS; rw [if_neg h]; rfl
@[go_sem] theorem buildNodeV (x : Int) (w : World) : (Instr.build 58 #[(5, .int .i64 x)]).run Tryz.prog w = .ok (.agg #[.int .i64 0, .int .i64 0, .int .i64 0, .int .i64 0, .bool false, .int .i64 x]) w := run_build w 58 _ _ (by kernel_rfl)

set_option maxRecDepth 100000 in
set_option maxHeartbeats 4000000 in
theorem iNode_any (s : ByteArray) (w : World) (hs : s.size ≤ 4194304) (hE : ErrOk w) (hM : LenOk w) (hp : Hid (Pow w w.heap.size)) :
    Calls Tryz.prog 103 #[.string s] w (NodeAns s w) := by
  have hw0 := (Below.refl w.heap.size w).alloc (Nat.le_refl _) (.cells zNC 58)
  have hB0 := Blk.new w 58 zNC
  have HE : Hid (∀ W, Below w.heap.size w W → ErrOk W) := fun W hW => hE.below hW
  have HMM : Hid (∀ W, Below w.heap.size w W → LenOk W) := fun W hW => hM.below hW
  have HPW : Hid (∀ W, Below w.heap.size w W → Pow W W.heap.size) := fun W hW W' hW' => hp.out W' (hW.trans (hW'.mono hW.size))
  clear hE hM hp
  rcases first_or 108 s with ⟨r, rfl⟩ | hnl
  · have hrs : r.size ≤ 4194304 := by rw [ByteArray.size_append] at hs; omega
    obtain ⟨k1, k2⟩ := cutp_yes 108 r
    have HC := hid fun W => strings_CutPrefix (one1 108 ++ r) ⟨#[108]⟩ W
    obtain ⟨s, hse⟩ : ∃ s, one1 108 ++ r = s := ⟨_, rfl⟩
    have HS := hid hse
    rw [hse] at k1 k2 HC ⊢
    have HCC : Hid (∀ W, Calls Tryz.prog 126 #[.string s, .string ⟨#[108]⟩] W fun e w' => e = .returned (.tuple #[.string r, .bool true]) ∧ w' = W) := fun W => by
      have := HC.out W
      rw [show ((⟨#[108]⟩ : ByteArray)) = one1 108 from rfl, k1, k2] at this
      exact this
    clear k1 k2 HC hse hs
    go_enter Tryz.func103, Tryz.ntmps103
    go_wp2_with fail
    generalize w.alloc (.cells zNC 58) = W0 at hw0 hB0 ⊢
    refine (HCC.out _).mono ?_
    rintro e w1 ⟨rfl, rfl⟩
    go_wp2_with fail
    refine (readDec_any r _ hrs (HE.out _ hw0) (hid (HPW.out _ hw0))).mono ?_
    rintro e w2 ⟨hans, hb2⟩
    have hB2 := hB0.below hb2 hB0.lt
    have hbl2 := hw0.trans (hb2.mono hw0.size)
    clear hB0 hw0 hb2
    have c0 := hB2.cell 0; have c1 := hB2.cell 1; have c2 := hB2.cell 2; have c3 := hB2.cell 3; have c4 := hB2.cell 4; have c5 := hB2.cell 5
    have f0 := hB2.frozen 0; have f1 := hB2.frozen 1; have f2 := hB2.frozen 2; have f3 := hB2.frozen 3; have f4 := hB2.frozen 4; have f5 := hB2.frozen 5
    rcases hans with ⟨x, hx, hxr, rfl⟩ | ⟨hno, rfl⟩
    · have HX := hid (And.intro hx hxr)
      clear hx hxr
      go_wp2_with fail
      refine bodyPost_ret (results_nt rfl _ _ w.heap.size 58 #[.int .i64 0, .int .i64 0, .int .i64 0, .int .i64 0, .bool false, .int .i64 x] (0, 0) _ rfl ((((((hB2.set_ 0 (.int .i64 0)).set_ 1 (.int .i64 0)).set_ 2 (.int .i64 0)).set_ 3 (.int .i64 0)).set_ 4 (.bool false)).set_ 5 (.int .i64 x)) Tryz.underlying58 rfl size_nodeT) rfl ?_
      refine ⟨.inl ⟨⟨0, 0, 0, 0, false, x⟩, ⟨zero64, zero64, zero64, zero64, HX.out.1⟩, ⟨fun _ => ⟨rfl, rfl, rfl, rfl⟩, fun h => absurd rfl h⟩, ?_, rfl⟩, (((((hbl2.setCell (Nat.le_refl _) _).setCell (Nat.le_refl _) _).setCell (Nat.le_refl _) _).setCell (Nat.le_refl _) _).setCell (Nat.le_refl _) _).setCell (Nat.le_refl _) _⟩
      rw [ndS_l rfl, ← HS.out, HX.out.2]
    · have HNO := hid hno
      clear hno
      go_wp2_with fail
      refine bodyPost_ret (results_nt rfl _ _ w.heap.size 58 zNC (0, 0) _ rfl ((((((hB2.set_ 0 (.int .i64 0)).set_ 1 (.int .i64 0)).set_ 2 (.int .i64 0)).set_ 3 (.int .i64 0)).set_ 4 (.bool false)).set_ 5 (.int .i64 0)) Tryz.underlying58 rfl size_nodeT) rfl ?_
      refine ⟨.inr ⟨fun d hd hg e => ?_, zNd, rfl⟩, (((((hbl2.setCell (Nat.le_refl _) _).setCell (Nat.le_refl _) _).setCell (Nat.le_refl _) _).setCell (Nat.le_refl _) _).setCell (Nat.le_refl _) _).setCell (Nat.le_refl _) _⟩
      rw [← HS.out] at e
      by_cases hl : d.left = 0
      · rw [ndS_l hl] at e
        exact HNO.out _ hd.2.2.2.2 (first_byte e).2.symm
      · rw [ndS_s hl] at e
        exact absurd (first_byte e).1 (by decide)
  · obtain ⟨k1, k2⟩ := cutp_no hnl
    have HCC : Hid (∀ W, Calls Tryz.prog 126 #[.string s, .string ⟨#[108]⟩] W fun e w' => e = .returned (.tuple #[.string s, .bool false]) ∧ w' = W) := fun W => by
      have := strings_CutPrefix s ⟨#[108]⟩ W
      rw [show ((⟨#[108]⟩ : ByteArray)) = one1 108 from rfl, k1, k2] at this
      exact this
    have HNL := hid hnl
    clear k1 k2 hnl
    rcases first_or 115 s with ⟨r, rfl⟩ | hns
    · have hrs : r.size ≤ 4194304 := by rw [ByteArray.size_append] at hs; omega
      obtain ⟨k1, k2⟩ := cutp_yes 115 r
      have HC := hid fun W => strings_CutPrefix (one1 115 ++ r) ⟨#[115]⟩ W
      obtain ⟨s, hse⟩ : ∃ s, one1 115 ++ r = s := ⟨_, rfl⟩
      have HS := hid hse
      rw [hse] at k1 k2 HC HCC ⊢
      have HCD : Hid (∀ W, Calls Tryz.prog 126 #[.string s, .string ⟨#[115]⟩] W fun e w' => e = .returned (.tuple #[.string r, .bool true]) ∧ w' = W) := fun W => by
        have := HC.out W
        rw [show ((⟨#[115]⟩ : ByteArray)) = one1 115 from rfl, k1, k2] at this
        exact this
      clear k1 k2 HC hse hs HNL
      go_enter Tryz.func103, Tryz.ntmps103
      go_wp2_with fail
      generalize w.alloc (.cells zNC 58) = W0 at hw0 hB0 ⊢
      refine (HCC.out _).mono ?_
      rintro e w1 ⟨rfl, rfl⟩
      go_wp2_with fail
      refine (HCD.out _).mono ?_
      rintro e w1 ⟨rfl, rfl⟩
      go_wp2_with fail
      refine (iSplit_any r _ hrs (HE.out _ hw0) (HMM.out _ hw0) (hid (HPW.out _ hw0))).mono ?_
      rintro e w2 ⟨hans, hb2⟩
      have hB2 := hB0.below hb2 hB0.lt
      have hbl2 := hw0.trans (hb2.mono hw0.size)
      clear hB0 hw0 hb2
      have c0 := hB2.cell 0; have c1 := hB2.cell 1; have c2 := hB2.cell 2; have c3 := hB2.cell 3; have c4 := hB2.cell 4; have c5 := hB2.cell 5
      have f0 := hB2.frozen 0; have f1 := hB2.frozen 1; have f2 := hB2.frozen 2; have f3 := hB2.frozen 3; have f4 := hB2.frozen 4; have f5 := hB2.frozen 5
      obtain ⟨d, b, HD, rfl⟩ : ∃ d b, Hid ((b = true ∧ NdIn d ∧ GoodN d ∧ s = ndS d) ∨ (b = false ∧ ∀ d, NdIn d → GoodN d → s ≠ ndS d)) ∧ e = .returned (.tuple #[ndV d, .bool b]) := by
        rcases hans with ⟨d, h1, h2, h3, h4, rfl⟩ | ⟨h1, rfl⟩
        · exact ⟨d, true, hid (.inl ⟨rfl, h1, h2, by rw [ndS_s h3, ← HS.out, h4]⟩), rfl⟩
        · refine ⟨zNd, false, hid (.inr ⟨rfl, fun d hd hg e => ?_⟩), rfl⟩
          rw [← HS.out] at e
          by_cases hl : d.left = 0
          · rw [ndS_l hl] at e
            exact absurd (first_byte e).1 (by decide)
          · rw [ndS_s hl] at e
            exact h1 d hd hl (first_byte e).2
      clear hans
      go_wp2_with fail
      refine bodyPost_ret (results_nt rfl _ _ w.heap.size 58 #[.int .i64 d.feat, .int .i64 d.cut, .int .i64 d.left, .int .i64 d.right, .bool d.miss, .int .i64 d.value] (0, 0) _ rfl ((((((hB2.set_ 0 (.int .i64 d.feat)).set_ 1 (.int .i64 d.cut)).set_ 2 (.int .i64 d.left)).set_ 3 (.int .i64 d.right)).set_ 4 (.bool d.miss)).set_ 5 (.int .i64 d.value)) Tryz.underlying58 rfl size_nodeT) rfl ?_
      refine ⟨?_, (((((hbl2.setCell (Nat.le_refl _) _).setCell (Nat.le_refl _) _).setCell (Nat.le_refl _) _).setCell (Nat.le_refl _) _).setCell (Nat.le_refl _) _).setCell (Nat.le_refl _) _⟩
      rcases HD.out with ⟨rfl, h1, h2, h3⟩ | ⟨rfl, h1⟩
      · exact .inl ⟨d, h1, h2, h3, rfl⟩
      · exact .inr ⟨h1, d, rfl⟩
    · obtain ⟨k1, k2⟩ := cutp_no hns
      have HCD : Hid (∀ W, Calls Tryz.prog 126 #[.string s, .string ⟨#[115]⟩] W fun e w' => e = .returned (.tuple #[.string s, .bool false]) ∧ w' = W) := fun W => by
        have := strings_CutPrefix s ⟨#[115]⟩ W
        rw [show ((⟨#[115]⟩ : ByteArray)) = one1 115 from rfl, k1, k2] at this
        exact this
      have HNS := hid hns
      clear k1 k2 hns
      go_enter Tryz.func103, Tryz.ntmps103
      go_wp2_with fail
      have f0 := hB0.frozen 0; have f1 := hB0.frozen 1; have f2 := hB0.frozen 2; have f3 := hB0.frozen 3; have f4 := hB0.frozen 4; have f5 := hB0.frozen 5
      have c0 := hB0.cell 0; have c1 := hB0.cell 1; have c2 := hB0.cell 2; have c3 := hB0.cell 3; have c4 := hB0.cell 4; have c5 := hB0.cell 5
      generalize w.alloc (.cells zNC 58) = W0 at hw0 hB0 f0 f1 f2 f3 f4 f5 c0 c1 c2 c3 c4 c5 ⊢
      refine (HCC.out _).mono ?_
      rintro e w1 ⟨rfl, rfl⟩
      go_wp2_with fail
      refine (HCD.out _).mono ?_
      rintro e w1 ⟨rfl, rfl⟩
      go_wp2_with fail
      refine bodyPost_ret (results_nt rfl _ _ w.heap.size 58 zNC (0, 0) _ rfl ((((((hB0.set_ 0 (.int .i64 0)).set_ 1 (.int .i64 0)).set_ 2 (.int .i64 0)).set_ 3 (.int .i64 0)).set_ 4 (.bool false)).set_ 5 (.int .i64 0)) Tryz.underlying58 rfl size_nodeT) rfl ?_
      refine ⟨.inr ⟨fun d hd hg e => ?_, zNd, rfl⟩, (((((hw0.setCell (Nat.le_refl _) _).setCell (Nat.le_refl _) _).setCell (Nat.le_refl _) _).setCell (Nat.le_refl _) _).setCell (Nat.le_refl _) _).setCell (Nat.le_refl _) _⟩
      by_cases hl : d.left = 0
      · exact HNL.out _ (e.trans (ndS_l hl))
      · exact HNS.out _ (e.trans (ndS_s hl))
end

/-! ### RtB -/
section
set_option linter.unusedVariables false
set_option linter.unusedSimpArgs false
open Go.RowKit Go.Deep

theorem cnt_congrT {p q : Nat → Nat} : ∀ n, (∀ i, i < n → p i = q i) → cnt p n = cnt q n
  | 0, _ => rfl
  | n + 1, h => by
    show cnt p n + p n = cnt q n + q n
    rw [cnt_congrT n (fun i hi => h i (by omega)), h n (by omega)]
theorem okTo_congrT {g y : Nat → Nd} {n : Nat} {f : Int} (h : ∀ i, i < n → g i = y i) : ∀ m, m ≤ n → okTo g n f m = okTo y n f m
  | 0, _ => rfl
  | m + 1, hm => by
    have ha : abv g m m = abv y m m := cnt_congrT m fun i hi => by rw [h i (by omega)]
    show (okTo g n f m && (nodeB f n m (g m) && (m == 0 || abv g m m == 1))) = (okTo y n f m && (nodeB f n m (y m) && (m == 0 || abv y m m == 1)))
    rw [okTo_congrT h m (by omega), h m (by omega), ha]
theorem treeB_congrT {g y : Nat → Nd} {n : Nat} {f : Int} (h : ∀ i, i < n → g i = y i) : treeB g n f = treeB y n f := by
  unfold treeB
  rw [okTo_congrT h n (Nat.le_refl _)]
theorem getD_word {P : List ByteArray} {k : Nat} (h : k < P.length) : P[k]? = some (P.getD k ByteArray.empty) := by
  rw [List.getD_eq_getElem?_getD, List.getElem?_eq_getElem h]
  rfl
end

/-! ### RtE -/
section
set_option linter.unusedVariables false
set_option linter.unusedSimpArgs false
open Go.RowKit Go.Deep

theorem wordsT_any (s : ByteArray) (w : World) (hs : s.size ≤ 4194304) (hM : LenOk w) :
    Calls Tryz.prog 67 #[.string s, .string ⟨#[32]⟩, .int .i64 16] w fun e w' => ∃ N, e = .returned (.slice (some ⟨w.heap.size, 0, none⟩) (wordsT s).length N) ∧ Blk w' w.heap.size 9 (Lib.cellsOf (wordsT s) N) ∧ Below w.heap.size w w' := by
  obtain ⟨m, hm⟩ := hM
  refine (strings_SplitN s ⟨#[32]⟩ 16 m w (by omega) hm (by decide) (by omega) (by omega)).mono ?_
  rintro e w' ⟨rfl, rfl⟩
  exact ⟨_, rfl, Blk.new _ _ _, (Below.refl _ _).alloc (Nat.le_refl _) _⟩
theorem wordsT_pos (s : ByteArray) : 0 < (wordsT s).length := by
  unfold wordsT
  generalize min 16 (s.size + 1) - 1 = k
  cases k with
  | zero => rw [Lib.splitB_zero]; simp
  | succ k =>
    unfold Lib.splitB
    split <;> simp
theorem treS_nt {n : Nat} {g : Nat → Nd} (h : treeB g n 6 = true) : treS n g = ntS n g := by unfold treS; rw [if_pos h]

set_option maxRecDepth 100000 in
set_option maxHeartbeats 4000000 in
theorem iReadTree_any (s : ByteArray) (w : World) (hs : s.size ≤ 4194304) (hE : ErrOk w) (hM : LenOk w) (hp : Hid (Pow w w.heap.size)) :
    Calls Tryz.prog 72 #[.string s] w (TrAns s w) := by
  obtain ⟨P, HP⟩ : ∃ P, Hid (wordsT s = P) := ⟨_, hid rfl⟩
  have hPl : P.length ≤ 16 := by rw [← HP.out]; exact wordsT_len s
  have hPp : 0 < P.length := by rw [← HP.out]; exact wordsT_pos s
  have HSP := hid (wordsT_any s w hs hM)
  rw [HP.out] at HSP
  obtain ⟨i0, hi0, hz0, hz1, hz2⟩ := info_nodeT
  have hmk := fun wx => run_make_rowN (P := Tryz.prog) 45 58 i0 _ Tryz.underlying45 hi0 hz0 .i64 .i64 P.length P.length (Nat.le_refl _) (by rw [hz2]; omega) (by omega) wx
  rw [hz1] at hmk
  clear hz0 hz1 hz2 hi0
  have HE : Hid (∀ W, Below w.heap.size w W → ErrOk W) := fun W hW => hE.below hW
  have HMM : Hid (∀ W, Below w.heap.size w W → LenOk W) := fun W hW => hM.below hW
  have HPW : Hid (∀ W, Below w.heap.size w W → Pow W W.heap.size) := fun W hW W' hW' => hp.out W' (hW.trans (hW'.mono hW.size))
  clear hE hM hp
  go_enter Tryz.func72, Tryz.ntmps72
  go_wp2_with fail
  refine HSP.out.mono ?_
  rintro e w1 ⟨N, rfl, hS1, hb1⟩
  have hltq : w.heap.size < w1.heap.size := hS1.lt
  clear HSP
  go_wp2_with fail
  go_loopw [17] (fun i wr => ∃ (k : Nat) (cs : Array Value) (g : Nat → Nd), k ≤ P.length ∧ i = .int .i64 k ∧ Blk wr w1.heap.size 58 cs ∧ P.length * 6 ≤ cs.size ∧ Hid (∀ j, j < k → NdIn (g j) ∧ GoodN (g j) ∧ P.getD j ByteArray.empty = ndS (g j) ∧ ∀ i, i < 6 → cs[j * 6 + i]? = (ndC (g j))[i]?) ∧ Blk wr w.heap.size 9 (Lib.cellsOf P N) ∧ Hid (Below w.heap.size w wr))
    (fun i _ => P.length - (intOf i).toNat)
  case atStart => exact ⟨0, _, fun _ => zNd, Nat.zero_le _, rfl, Blk.new _ _ _, by simp [madeCells], fun j hj => by omega, hS1.alloc _, hb1.alloc hb1.size _⟩
  case round =>
    obtain ⟨k, cs, g, hk, rfl, hB, hsz, hcs, hS, hbl⟩ := hrel
    by_cases hlt : k < P.length
    · have i1 : (k : Int) < (P.length : Int) := by omega
      have i3 : (0 : Int) ≤ (k : Int) := by omega
      obtain ⟨x, hx⟩ : ∃ x, P.getD k ByteArray.empty = x := ⟨_, rfl⟩
      have hxk := getD_word hlt
      rw [hx] at hxk
      have hc : wr.cell? ⟨w.heap.size, k, none⟩ = some (.string x) := by rw [hS.cell]; exact cells_word hxk
      have hxs : x.size ≤ 4194304 := Nat.le_trans (split_mem _ s x (List.mem_of_getElem? (by rw [← HP.out] at hxk; exact hxk))) hs
      have HX := hid hx
      clear hx hxk
      go_wp2_with fail
      refine (iNode_any x _ hxs (HE.out _ hbl.out) (HMM.out _ hbl.out) (hid (HPW.out _ hbl.out))).mono ?_
      rintro e w5 ⟨hans, hb5⟩
      have hB5 := hB.below hb5 hB.lt
      have hS5 := hS.below hb5 hS.lt
      have hbl5 := hid (hbl.out.trans (hb5.mono hbl.out.size))
      clear hb5 hB hS hc hbl
      rcases hans with ⟨d, hd1, hd2, hd3, rfl⟩ | ⟨hno, d, rfl⟩
      · have HD := hid (And.intro hd1 (And.intro hd2 hd3))
        have hB6 := hB5.alloc (.cells #[.int .i64 d.feat, .int .i64 d.cut, .int .i64 d.left, .int .i64 d.right, .bool d.miss, .int .i64 d.value] 58)
        have hS6 := hS5.alloc (.cells #[.int .i64 d.feat, .int .i64 d.cut, .int .i64 d.left, .int .i64 d.right, .bool d.miss, .int .i64 d.value] 58)
        have hD6 := Blk.new w5 58 #[.int .i64 d.feat, .int .i64 d.cut, .int .i64 d.left, .int .i64 d.right, .bool d.miss, .int .i64 d.value]
        have hbl6 := hid (hbl5.out.alloc hbl5.out.size (.cells #[.int .i64 d.feat, .int .i64 d.cut, .int .i64 d.left, .int .i64 d.right, .bool d.miss, .int .i64 d.value] 58))
        have hne : w1.heap.size ≠ w5.heap.size := by have := hB5.lt; omega
        have d0 := hD6.cell 0; have d1 := hD6.cell 1; have d2 := hD6.cell 2; have d3 := hD6.cell 3; have d4 := hD6.cell 4; have d5 := hD6.cell 5
        have s0 : (w5.alloc (.cells #[.int .i64 d.feat, .int .i64 d.cut, .int .i64 d.left, .int .i64 d.right, .bool d.miss, .int .i64 d.value] 58)).cell? ⟨w1.heap.size, k * 6, none⟩ = some (cs[k * 6]'(by omega)) := by rw [hB6.cell, Array.getElem?_eq_getElem]
        have s1 : (w5.alloc (.cells #[.int .i64 d.feat, .int .i64 d.cut, .int .i64 d.left, .int .i64 d.right, .bool d.miss, .int .i64 d.value] 58)).cell? ⟨w1.heap.size, k * 6 + 1, none⟩ = some (cs[k * 6 + 1]'(by omega)) := by rw [hB6.cell, Array.getElem?_eq_getElem]
        have s2 : (w5.alloc (.cells #[.int .i64 d.feat, .int .i64 d.cut, .int .i64 d.left, .int .i64 d.right, .bool d.miss, .int .i64 d.value] 58)).cell? ⟨w1.heap.size, k * 6 + 2, none⟩ = some (cs[k * 6 + 2]'(by omega)) := by rw [hB6.cell, Array.getElem?_eq_getElem]
        have s3 : (w5.alloc (.cells #[.int .i64 d.feat, .int .i64 d.cut, .int .i64 d.left, .int .i64 d.right, .bool d.miss, .int .i64 d.value] 58)).cell? ⟨w1.heap.size, k * 6 + 3, none⟩ = some (cs[k * 6 + 3]'(by omega)) := by rw [hB6.cell, Array.getElem?_eq_getElem]
        have s4 : (w5.alloc (.cells #[.int .i64 d.feat, .int .i64 d.cut, .int .i64 d.left, .int .i64 d.right, .bool d.miss, .int .i64 d.value] 58)).cell? ⟨w1.heap.size, k * 6 + 4, none⟩ = some (cs[k * 6 + 4]'(by omega)) := by rw [hB6.cell, Array.getElem?_eq_getElem]
        have s5 : (w5.alloc (.cells #[.int .i64 d.feat, .int .i64 d.cut, .int .i64 d.left, .int .i64 d.right, .bool d.miss, .int .i64 d.value] 58)).cell? ⟨w1.heap.size, k * 6 + 5, none⟩ = some (cs[k * 6 + 5]'(by omega)) := by rw [hB6.cell, Array.getElem?_eq_getElem]
        have f0 := hB6.frozen (k * 6); have f1 := hB6.frozen (k * 6 + 1); have f2 := hB6.frozen (k * 6 + 2); have f3 := hB6.frozen (k * 6 + 3); have f4 := hB6.frozen (k * 6 + 4); have f5 := hB6.frozen (k * 6 + 5)
        clear hd1 hd2 hd3 hB5 hS5 hbl5 hD6
        go_wp2_with fail
        go_roundw
        case rel =>
          refine ⟨k + 1, _, fun j => if j = k then d else g j, by omega, by go_num, blk_put6 hB6 k d, by rw [put6_size]; exact hsz, hid (fun j hj => ?_), (((((hS6.far (p := ⟨w1.heap.size, k * 6, none⟩) (by show w.heap.size ≠ w1.heap.size; omega) _).far (p := ⟨w1.heap.size, k * 6 + 1, none⟩) (by show w.heap.size ≠ w1.heap.size; omega) _).far (p := ⟨w1.heap.size, k * 6 + 2, none⟩) (by show w.heap.size ≠ w1.heap.size; omega) _).far (p := ⟨w1.heap.size, k * 6 + 3, none⟩) (by show w.heap.size ≠ w1.heap.size; omega) _).far (p := ⟨w1.heap.size, k * 6 + 4, none⟩) (by show w.heap.size ≠ w1.heap.size; omega) _).far (p := ⟨w1.heap.size, k * 6 + 5, none⟩) (by show w.heap.size ≠ w1.heap.size; omega) _, hid (below_put6 hbl6.out (by omega) k d)⟩
          show NdIn (if j = k then d else g j) ∧ GoodN (if j = k then d else g j) ∧ P.getD j ByteArray.empty = ndS (if j = k then d else g j) ∧ ∀ i, i < 6 → (put6 cs k d)[j * 6 + i]? = (ndC (if j = k then d else g j))[i]?
          by_cases e : j = k
          · subst e
            rw [if_pos rfl, HX.out]
            exact ⟨HD.out.1, HD.out.2.1, HD.out.2.2, fun i hi => put6_in d (by omega) i hi⟩
          · rw [if_neg e]
            obtain ⟨h1, h2, h3, h4⟩ := hcs.out j (by omega)
            exact ⟨h1, h2, h3, fun i hi => by rw [put6_out d (j * 6 + i) (by omega)]; exact h4 i hi⟩
        case measure => simp [intOf]; omega
      · have HNO := hid hno
        clear hno
        have hbl6 := hid (hbl5.out.alloc hbl5.out.size (.cells #[.int .i64 d.feat, .int .i64 d.cut, .int .i64 d.left, .int .i64 d.right, .bool d.miss, .int .i64 d.value] 58))
        go_wp2_with fail
        go_ret2
        refine ⟨.inr ⟨fun n y hy e => ?_, rfl⟩, hbl6.out⟩
        have hP : P = (List.range n).map fun i => ndS (y i) := by rw [← HP.out, e, treS_nt hy, wordsT_tree hy]
        have hPn : P.length = n := by rw [hP]; simp
        have hkn : k < n := by omega
        refine HNO.out (y k) (tree_in hy k hkn) (node_good (((treeB_iff y n 6).1 hy).2.2 k hkn).1) ?_
        rw [← HX.out, hP, List.getD_eq_getElem?_getD, List.getElem?_map, List.getElem?_range hkn]
        rfl
    · obtain rfl : k = P.length := by omega
      have i1 : ¬ (P.length : Int) < (P.length : Int) := by omega
      have hrow : RowN wr 58 w1.heap.size P.length g := ⟨cs, hB, hsz, fun i hi j hj => (hcs.out i hi).2.2.2 j hj⟩
      have hg := hid (fun j (hj : j < P.length) => And.intro (hcs.out j hj).1 (And.intro (hcs.out j hj).2.1 (hcs.out j hj).2.2.1))
      clear hB hsz hcs hS
      go_wp2_with fail
      refine (iTreeOk_any _ P.length P.length g 6 _ (hrow.rd hrow.lt) (by omega)).mono ?_
      rintro e w5 ⟨rfl, hb5⟩
      have hrow5 := hrow.below hb5 hrow.lt
      have hbl5 := hbl.out.trans (hb5.mono hbl.out.size)
      have hs1 := hb1.size
      clear hb5 hrow hbl
      cases hq : treeB g P.length 6
      · have HQ := hid hq
        clear hq
        go_wp2_with fail
        go_ret2
        refine ⟨.inr ⟨fun n y hy e => ?_, rfl⟩, hbl5⟩
        have hP : P = (List.range n).map fun i => ndS (y i) := by rw [← HP.out, e, treS_nt hy, wordsT_tree hy]
        have hPn : P.length = n := by rw [hP]; simp
        have hgy : ∀ i, i < n → g i = y i := fun i hi => by
          obtain ⟨h1, h2, h3⟩ := hg.out i (by omega)
          refine ndS_inj h1 (tree_in hy i hi) h2 (node_good (((treeB_iff y n 6).1 hy).2.2 i hi).1) ?_
          rw [← h3, hP, List.getD_eq_getElem?_getD, List.getElem?_map, List.getElem?_range hi]
          rfl
        have := HQ.out
        rw [hPn, treeB_congrT hgy, hy] at this
        cases this
      · have HQ := hid hq
        clear hq
        go_wp2_with fail
        go_ret2
        refine ⟨.inl ⟨P.length, g, w1.heap.size, P.length, HQ.out, ?_, rfl, hs1, hrow5⟩, hbl5⟩
        rw [treS_nt HQ.out]
        have := wordsT_text (s := s) (g := g) (fun i hi => by
          rw [HP.out] at hi ⊢
          rw [getD_word hi, (hg.out i hi).2.2])
        rw [HP.out] at this
        exact this
end
end Go.Proofs.YtmkipdhappikhaaGreatDoor
