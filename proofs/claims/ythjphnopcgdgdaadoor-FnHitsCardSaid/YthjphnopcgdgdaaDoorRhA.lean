/- A Hit read, both sides, and the law's walk. -/
import Derived.Test.YthjphnopcgdgdaaDoorRdL
import Derived.Test.YthjphnopcgdgdaaDoorRdI
import Derived.Test.YthjphnopcgdgdaaDoorHtC
import Derived.Test.YthjphnopcgdgdaaDoorRgI
namespace Go.Proofs.YthjphnopcgdgdaaDoor
open Go.RowKit Go.Deep

/-! ### pure -/
theorem decS_pos (x : Int) : 0 < (decS x).size := by
  show 0 < (Lib.itoa x).toArray.size
  rw [List.size_toArray]
  unfold Lib.itoa
  split
  · rw [List.length_cons]; omega
  · rw [Lib.decDigits_length]; exact Lib.nDigits_pos _
theorem decS_two {i : Int} (h0 : 0 ≤ i) (h1 : i < 20) : (decS i).size ≤ 2 := by
  obtain ⟨M, rfl⟩ : ∃ M : Nat, i = (M : Int) := ⟨i.toNat, by omega⟩
  show (Lib.itoa _).toArray.size ≤ 2
  rw [List.size_toArray, Lib.itoa_nonneg, Lib.decDigits_length]
  exact digits_le M 1 (by omega)
theorem htS_is (i s : Int) : htS i s = decS i ++ one1 58 ++ decS s := rfl
theorem htS_40 {i s : Int} (h : htB i s = true) : (htS i s).size ≤ 40 := by
  have h1 := htB_iff.1 h
  have h2 := decS_two h1.1.1 h1.1.2
  have h3 := (htB_in h).2.size
  rw [htS_is, size_app3]
  omega
theorem htS_pos (i s : Int) : 0 < (htS i s).size := by
  rw [htS_is, size_app3]
  omega
theorem htS_inj {i s j t : Int} (h : htB i s = true) (k : htB j t = true) (e : htS i s = htS j t) : i = j ∧ s = t := by
  rw [htS_is, htS_is] at e
  obtain ⟨e1, e2⟩ := part_uniq (decS_noC _ (.inr (by decide))) (decS_noC _ (.inr (by decide))) e
  exact ⟨decS_inj (htB_in h).1 (htB_in k).1 e1, decS_inj (htB_in h).2 (htB_in k).2 e2⟩
/-- The library's cut at a colon. -/
theorem cut_colon (s : ByteArray) : ∃ t r m, t.size ≤ s.size ∧ r.size ≤ s.size ∧ (∀ t' r', NoC 58 t' → s = t' ++ one1 58 ++ r' → t = t' ∧ r = r') ∧ (s = t ++ one1 58 ++ r ∨ r.size = 0) ∧
    (⟨(Lib.cut s.data.toList (one1 58).data.toList).1.toArray⟩ : ByteArray) = t ∧ (⟨(Lib.cut s.data.toList (one1 58).data.toList).2.1.toArray⟩ : ByteArray) = r ∧ (Lib.cut s.data.toList (one1 58).data.toList).2.2 = m := by
  rcases part_or 58 s with h | ⟨t, r, rfl, h⟩
  · obtain ⟨e1, e2, e3⟩ := Lib.cutB_miss s (one1 58) (indexB_not h)
    refine ⟨s, ByteArray.empty, false, Nat.le_refl _, Nat.zero_le _, fun t' r' _ e => ?_, .inr rfl, e1, e2, e3⟩
    exfalso
    apply h
    rw [e, data_app, data_app]
    simp [one1]
  · obtain ⟨e1, e2, e3⟩ := Lib.cutB_hit (t ++ one1 58 ++ r) (one1 58) t.size (indexB_at h)
    have e := size_app3 t r 58
    refine ⟨t, r, true, by rw [e]; omega, by rw [e]; omega, fun t' r' h' e' => part_uniq h h' e', .inl rfl, ?_, ?_, e3⟩
    · rw [e1, ext_head]
    · rw [e2]
      have : t.size + (one1 58).size = t.size + 1 := rfl
      rw [this, ext_tail]

/-- What a reader of Hits answers. -/
def HtAns (s : ByteArray) (w : World) (e : Ending) (w' : World) : Prop :=
  ((∃ i t, htB i t = true ∧ s = htS i t ∧ e = .returned (.tuple #[hitV i t, .bool true])) ∨ ((∀ i t, htB i t = true → s ≠ htS i t) ∧ e = .returned (.tuple #[hitV 0 0, .bool false]))) ∧ Below w.heap.size w w'

theorem results_ht {P : Program} {fn : Func} {p u : Tmp} {ty : TypeId} (h : fn.results = #[.cell p ty, .tmp u]) (tmps : Array Value) (w : World) (g : Nat) (t : TypeId) (cs : Array Value) (fr : Nat × Nat) (d : TypeDesc)
    (hp : tmps.getD p undef = .pointer (some ⟨g, 0, none⟩)) (hg : w.heap[g]? = some (.cells cs t fr))
    (hu : P.underlying ty = some d) (hd : (match d with | .struct _ | .array _ _ => true | _ => false) = true) (hi : (P.info? ty).map (·.size) = some cs.size) :
    (results fn tmps).run P w = .ok (.tuple #[.agg cs, tmps.getD u undef]) w := by
  have hp' : tmps[p]?.getD undef = .pointer (some ⟨g, 0, none⟩) := by simpa using hp
  simp [results, h, hp', asAddr, Result.andThen, run_loadVar_row w g t ty cs fr d hg hu hd hi]

set_option maxRecDepth 100000 in
set_option maxHeartbeats 4000000 in
theorem iReadHit_any (s : ByteArray) (w : World) (hs : s.size ≤ 4194304) (hE : ErrOk w) (hM : LenOk w) (hp : Hid (Pow w w.heap.size)) :
    Calls Tryd.prog 11 #[.string s] w (HtAns s w) := by
  obtain ⟨t, r, m, ht, hr, huq, hsp, e1, e2, e3⟩ := cut_colon s
  have HUQ := hid huq
  have HSP := hid hsp
  have hw0 := (Below.refl w.heap.size w).alloc (Nat.le_refl _) (.cells #[.int .i64 0, .int .i64 0] 25)
  have hB0 := Blk.new w 25 #[.int .i64 0, .int .i64 0]
  obtain ⟨M, hMM⟩ := hM.below hw0
  have HE := hid (hE.below hw0)
  have HC := hid (strings_Cut s (one1 58) M _ (by omega) hMM)
  rw [e1, e2, e3] at HC
  have HP0 := hid (show ∀ W, Below w.heap.size w W → Pow W W.heap.size from fun W hW W' hW' => hp.out W' (hW.trans (hW'.mono hW.size)))
  clear huq hsp e1 e2 e3 hMM hE hM
  go_enter Tryd.func11, Tryd.ntmps11
  go_wp2_with fail
  generalize w.alloc (.cells #[.int .i64 0, .int .i64 0] 25) = W0 at hw0 hB0 HE HC ⊢
  refine HC.out.mono ?_
  rintro e w1 ⟨rfl, j, rfl⟩
  have hw1 := below_drewN hw0 j
  have hB1 : Blk (W0.drewN j) w.heap.size 25 #[.int .i64 0, .int .i64 0] := hB0
  have HE1 := hid (HE.out.below (below_drewN (Below.refl W0.heap.size W0) j))
  clear HC HE hw0 hB0
  generalize W0.drewN j = W1 at hw1 hB1 HE1 ⊢
  go_wp2_with fail
  refine (readDec_any t _ (by omega) HE1.out (hid (HP0.out _ hw1 |> fun h => h))).mono ?_
  rintro e w2 ⟨hans, hb2⟩
  have hw2 := hw1.trans (hb2.mono hw1.size)
  have hB2 := hB1.below hb2 hB1.lt
  have HE2 := hid (HE1.out.below hb2)
  clear hb2 hw1 hB1 HE1
  rcases hans with ⟨x, hx, hxt, rfl⟩ | ⟨hno, rfl⟩
  · have HX := hid (And.intro hx hxt)
    clear hx hxt
    go_wp2_with fail
    refine (readDec_any r _ (by omega) HE2.out (hid (HP0.out _ hw2))).mono ?_
    rintro e w3 ⟨hans, hb3⟩
    have hw3 := hw2.trans (hb3.mono hw2.size)
    have hB3 := hB2.below hb3 hB2.lt
    clear hb3 hw2 hB2 HE2
    rcases hans with ⟨y, hy, hyr, rfl⟩ | ⟨hno, rfl⟩
    · have HY := hid (And.intro hy hyr)
      clear hy hyr
      have hw4 := hw3.alloc hw3.size (.cells #[.int .i64 x, .int .i64 y] 25)
      have hB4 := hB3.alloc (.cells #[.int .i64 x, .int .i64 y] 25)
      have hD4 := Blk.new w3 25 #[.int .i64 x, .int .i64 y]
      have hne : w.heap.size ≠ w3.heap.size := by have := hB3.lt; omega
      have HIS : Hid (r.size = 0 → False) := fun h => by have := decS_pos y; rw [HY.out.2] at this; omega
      clear hw3 hB3
      go_wp2_with fail
      generalize w3.alloc (.cells #[.int .i64 x, .int .i64 y] 25) = W4 at hw4 hB4 hD4 ⊢
      generalize w3.heap.size = Q at hD4 hne ⊢
      refine (hitOk_any x y _).mono ?_
      rintro e w5 ⟨rfl, hb5⟩
      have hw5 := hw4.trans (hb5.mono hw4.size)
      have hB5 := hB4.below hb5 hB4.lt
      have hD5 := hD4.below hb5 hD4.lt
      clear hb5 hw4 hB4 hD4
      have c0 : w5.cell? ⟨Q, 0, none⟩ = some (.int .i64 x) := hD5.cell 0
      have c1 : w5.cell? ⟨Q, 1, none⟩ = some (.int .i64 y) := hD5.cell 1
      have d0 : w5.cell? ⟨w.heap.size, 0, none⟩ = some (.int .i64 0) := hB5.cell 0
      have d1 : w5.cell? ⟨w.heap.size, 1, none⟩ = some (.int .i64 0) := hB5.cell 1
      have f0 := hB5.frozen 0; have f1 := hB5.frozen 1
      cases hok : htB x y
      · have HO := hid hok
        clear hok
        go_wp2_with fail
        refine bodyPost_ret (results_ht rfl _ _ w.heap.size 25 #[.int .i64 0, .int .i64 0] (0, 0) _ rfl ((hB5.set_ 0 (.int .i64 0)).set_ 1 (.int .i64 0)) Tryd.underlying25 rfl size_hit) rfl ?_
        refine ⟨.inr ⟨fun i u hiu e => ?_, rfl⟩, (hw5.setCell (Nat.le_refl _) _).setCell (Nat.le_refl _) _⟩
        obtain ⟨p1, p2⟩ := HUQ.out (decS i) (decS u) (decS_noC _ (.inr (by decide))) e
        have q1 := decS_inj HX.out.1 (htB_in hiu).1 (HX.out.2.trans p1)
        have q2 := decS_inj HY.out.1 (htB_in hiu).2 (HY.out.2.trans p2)
        have := HO.out
        rw [q1, q2, hiu] at this
        cases this
      · have HO := hid hok
        clear hok
        go_wp2_with fail
        refine bodyPost_ret (results_ht rfl _ _ w.heap.size 25 #[.int .i64 x, .int .i64 y] (0, 0) _ rfl ((hB5.set_ 0 (.int .i64 x)).set_ 1 (.int .i64 y)) Tryd.underlying25 rfl size_hit) rfl ?_
        refine ⟨.inl ⟨x, y, HO.out, ?_, rfl⟩, (hw5.setCell (Nat.le_refl _) _).setCell (Nat.le_refl _) _⟩
        rcases HSP.out with h | h
        · rw [htS_is, HX.out.2, HY.out.2]; exact h
        · exact (HIS.out h).elim
    · have HNO := hid hno
      clear hno
      have hw4 := hw3.alloc hw3.size (.cells #[.int .i64 x, .int .i64 0] 25)
      have hB4 := hB3.alloc (.cells #[.int .i64 x, .int .i64 0] 25)
      have d0 : (w3.alloc (.cells #[.int .i64 x, .int .i64 0] 25)).cell? ⟨w.heap.size, 0, none⟩ = some (.int .i64 0) := hB4.cell 0
      have d1 : (w3.alloc (.cells #[.int .i64 x, .int .i64 0] 25)).cell? ⟨w.heap.size, 1, none⟩ = some (.int .i64 0) := hB4.cell 1
      have f0 := hB4.frozen 0; have f1 := hB4.frozen 1
      go_wp2_with fail
      refine bodyPost_ret (results_ht rfl _ _ w.heap.size 25 #[.int .i64 0, .int .i64 0] (0, 0) _ rfl ((hB4.set_ 0 (.int .i64 0)).set_ 1 (.int .i64 0)) Tryd.underlying25 rfl size_hit) rfl ?_
      refine ⟨.inr ⟨fun i u hiu e => ?_, rfl⟩, (hw4.setCell (Nat.le_refl _) _).setCell (Nat.le_refl _) _⟩
      obtain ⟨p1, p2⟩ := HUQ.out (decS i) (decS u) (decS_noC _ (.inr (by decide))) e
      exact HNO.out u (htB_in hiu).2 p2.symm
  · have HNO := hid hno
    clear hno
    go_wp2_with fail
    refine (readDec_any r _ (by omega) HE2.out (hid (HP0.out _ hw2))).mono ?_
    rintro e w3 ⟨hans, hb3⟩
    have hw3 := hw2.trans (hb3.mono hw2.size)
    have hB3 := hB2.below hb3 hB2.lt
    clear hb3 hw2 hB2 HE2
    obtain ⟨y, by_, rfl⟩ : ∃ y b, e = .returned (.tuple #[.int .i64 y, .bool b]) := by
      rcases hans with ⟨y, hy, hyr, rfl⟩ | ⟨hno, rfl⟩
      · exact ⟨y, true, rfl⟩
      · exact ⟨0, false, rfl⟩
    clear hans
    have hw4 := hw3.alloc hw3.size (.cells #[.int .i64 0, .int .i64 y] 25)
    have hB4 := hB3.alloc (.cells #[.int .i64 0, .int .i64 y] 25)
    have d0 : (w3.alloc (.cells #[.int .i64 0, .int .i64 y] 25)).cell? ⟨w.heap.size, 0, none⟩ = some (.int .i64 0) := hB4.cell 0
    have d1 : (w3.alloc (.cells #[.int .i64 0, .int .i64 y] 25)).cell? ⟨w.heap.size, 1, none⟩ = some (.int .i64 0) := hB4.cell 1
    have f0 := hB4.frozen 0; have f1 := hB4.frozen 1
    go_wp2_with fail
    refine bodyPost_ret (results_ht rfl _ _ w.heap.size 25 #[.int .i64 0, .int .i64 0] (0, 0) _ rfl ((hB4.set_ 0 (.int .i64 0)).set_ 1 (.int .i64 0)) Tryd.underlying25 rfl size_hit) rfl ?_
    refine ⟨.inr ⟨fun i u hiu e => ?_, rfl⟩, (hw4.setCell (Nat.le_refl _) _).setCell (Nat.le_refl _) _⟩
    obtain ⟨p1, p2⟩ := HUQ.out (decS i) (decS u) (decS_noC _ (.inr (by decide))) e
    exact HNO.out i (htB_in hiu).1 p1.symm
end Go.Proofs.YthjphnopcgdgdaaDoor
