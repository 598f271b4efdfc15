/- A node read, of the program. -/
import Derived.Test.YtkkkpijdbfijfaaGreatDoorRtC
namespace Go.Proofs.YtkkkpijdbfijfaaGreatDoor
open Go.RowKit Go.Deep

theorem first_or (c : UInt8) (s : ByteArray) : (∃ r, s = one1 c ++ r) ∨ ∀ r, s ≠ one1 c ++ r := by
  by_cases h : ∃ r, s = one1 c ++ r
  · exact .inl h
  · exact .inr fun r e => h ⟨r, e⟩
theorem cutp_yes (c : UInt8) (r : ByteArray) : Lib.hasPrefix (one1 c ++ r).data.toList (one1 c).data.toList = true ∧ (⟨(Lib.trimPrefix (one1 c ++ r).data.toList (one1 c).data.toList).toArray⟩ : ByteArray) = r := by
  have e : (one1 c ++ r).data.toList = c :: r.data.toList := by rw [data_app]; rfl
  have h : Lib.hasPrefix (c :: r.data.toList) [c] = true := by simp [Lib.hasPrefix]
  rw [e]
  refine ⟨h, ?_⟩
  apply ba_ext
  show Lib.trimPrefix (c :: r.data.toList) [c] = _
  unfold Lib.trimPrefix
  rw [h]
  rfl
theorem cutp_no {c : UInt8} {s : ByteArray} (h : ∀ r, s ≠ one1 c ++ r) : Lib.hasPrefix s.data.toList (one1 c).data.toList = false ∧ (⟨(Lib.trimPrefix s.data.toList (one1 c).data.toList).toArray⟩ : ByteArray) = s := by
  have hp : Lib.hasPrefix s.data.toList [c] = false := by
    cases hl : s.data.toList with
    | nil => rfl
    | cons x l =>
      cases hx : Lib.hasPrefix (x :: l) [c] with
      | false => rfl
      | true =>
        exfalso
        have : c = x := by simpa [Lib.hasPrefix] using hx
        subst this
        refine h ⟨l.toArray⟩ (ba_ext ?_)
        rw [hl, data_app]
        rfl
  refine ⟨hp, ?_⟩
  apply ba_ext
  show Lib.trimPrefix s.data.toList [c] = _
  unfold Lib.trimPrefix
  rw [hp]
  rfl
def NodeAns (s : ByteArray) (w : World) (e : Ending) (w' : World) : Prop :=
  ((∃ d, NdIn d ∧ GoodN d ∧ s = ndS d ∧ e = .returned (.tuple #[ndV d, .bool true])) ∨ ((∀ d, NdIn d → GoodN d → s ≠ ndS d) ∧ ∃ d, e = .returned (.tuple #[ndV d, .bool false]))) ∧ Below w.heap.size w w'
theorem zero64 : I64 0 := by unfold I64; omega
theorem ndS_l {d : Nd} (h : d.left = 0) : ndS d = one1 108 ++ decS d.value := by unfold ndS; rw [if_pos h]; rfl
theorem ndS_s {d : Nd} (h : d.left ≠ 0) : ndS d = one1 115 ++ joinTo (ndP d) (one1 58) 5 := by unfold ndS; rw [if_neg h]; rfl
@[go_sem] theorem buildNodeV (x : Int) (w : World) : (Instr.build 42 #[(5, .int .i64 x)]).run Tryz.prog w = .ok (.agg #[.int .i64 0, .int .i64 0, .int .i64 0, .int .i64 0, .bool false, .int .i64 x]) w := run_build w 42 _ _ (by kernel_rfl)

set_option maxRecDepth 100000 in
set_option maxHeartbeats 4000000 in
theorem iNode_any (s : ByteArray) (w : World) (hs : s.size ≤ 4194304) (hE : ErrOk w) (hM : LenOk w) (hp : Hid (Pow w w.heap.size)) :
    Calls Tryz.prog 29 #[.string s] w (NodeAns s w) := by
  have hw0 := (Below.refl w.heap.size w).alloc (Nat.le_refl _) (.cells zNC 42)
  have hB0 := Blk.new w 42 zNC
  have HE : Hid (∀ W, Below w.heap.size w W → ErrOk W) := fun W hW => hE.below hW
  have HMM : Hid (∀ W, Below w.heap.size w W → LenOk W) := fun W hW => hM.below hW
  have HPW : Hid (∀ W, Below w.heap.size w W → Pow W W.heap.size) := fun W hW W' hW' => hp.out W' (hW.trans (hW'.mono hW.size))
  clear hE hM hp
  rcases first_or 108 s with ⟨r, rfl⟩ | hnl
  · have hrs : r.size ≤ 4194304 := by rw [ByteArray.size_append] at hs; omega
    obtain ⟨k1, k2⟩ := cutp_yes 108 r
    have HC := hid fun W => strings_CutPrefix (one1 108 ++ r) ⟨#[108]⟩ W
    obtain ⟨s, hse⟩ : ∃ s, one1 108 ++ r = s := ⟨_, rfl⟩
    have HS := hid hse
    rw [hse] at k1 k2 HC ⊢
    have HCC : Hid (∀ W, Calls Tryz.prog 52 #[.string s, .string ⟨#[108]⟩] W fun e w' => e = .returned (.tuple #[.string r, .bool true]) ∧ w' = W) := fun W => by
      have := HC.out W
      rw [show ((⟨#[108]⟩ : ByteArray)) = one1 108 from rfl, k1, k2] at this
      exact this
    clear k1 k2 HC hse hs
    go_enter Tryz.func29, Tryz.ntmps29
    go_wp2_with fail
    generalize w.alloc (.cells zNC 42) = W0 at hw0 hB0 ⊢
    refine (HCC.out _).mono ?_
    rintro e w1 ⟨rfl, rfl⟩
    go_wp2_with fail
    refine (readDec_any r _ hrs (HE.out _ hw0) (hid (HPW.out _ hw0))).mono ?_
    rintro e w2 ⟨hans, hb2⟩
    have hB2 := hB0.below hb2 hB0.lt
    have hbl2 := hw0.trans (hb2.mono hw0.size)
    clear hB0 hw0 hb2
    have c0 := hB2.cell 0; have c1 := hB2.cell 1; have c2 := hB2.cell 2; have c3 := hB2.cell 3; have c4 := hB2.cell 4; have c5 := hB2.cell 5
    have f0 := hB2.frozen 0; have f1 := hB2.frozen 1; have f2 := hB2.frozen 2; have f3 := hB2.frozen 3; have f4 := hB2.frozen 4; have f5 := hB2.frozen 5
    rcases hans with ⟨x, hx, hxr, rfl⟩ | ⟨hno, rfl⟩
    · have HX := hid (And.intro hx hxr)
      clear hx hxr
      go_wp2_with fail
      refine bodyPost_ret (results_nt rfl _ _ w.heap.size 42 #[.int .i64 0, .int .i64 0, .int .i64 0, .int .i64 0, .bool false, .int .i64 x] (0, 0) _ rfl ((((((hB2.set_ 0 (.int .i64 0)).set_ 1 (.int .i64 0)).set_ 2 (.int .i64 0)).set_ 3 (.int .i64 0)).set_ 4 (.bool false)).set_ 5 (.int .i64 x)) Tryz.underlying42 rfl size_nodeT) rfl ?_
      refine ⟨.inl ⟨⟨0, 0, 0, 0, false, x⟩, ⟨zero64, zero64, zero64, zero64, HX.out.1⟩, ⟨fun _ => ⟨rfl, rfl, rfl, rfl⟩, fun h => absurd rfl h⟩, ?_, rfl⟩, (((((hbl2.setCell (Nat.le_refl _) _).setCell (Nat.le_refl _) _).setCell (Nat.le_refl _) _).setCell (Nat.le_refl _) _).setCell (Nat.le_refl _) _).setCell (Nat.le_refl _) _⟩
      rw [ndS_l rfl, ← HS.out, HX.out.2]
    · have HNO := hid hno
      clear hno
      go_wp2_with fail
      refine bodyPost_ret (results_nt rfl _ _ w.heap.size 42 zNC (0, 0) _ rfl ((((((hB2.set_ 0 (.int .i64 0)).set_ 1 (.int .i64 0)).set_ 2 (.int .i64 0)).set_ 3 (.int .i64 0)).set_ 4 (.bool false)).set_ 5 (.int .i64 0)) Tryz.underlying42 rfl size_nodeT) rfl ?_
      refine ⟨.inr ⟨fun d hd hg e => ?_, zNd, rfl⟩, (((((hbl2.setCell (Nat.le_refl _) _).setCell (Nat.le_refl _) _).setCell (Nat.le_refl _) _).setCell (Nat.le_refl _) _).setCell (Nat.le_refl _) _).setCell (Nat.le_refl _) _⟩
      rw [← HS.out] at e
      by_cases hl : d.left = 0
      · rw [ndS_l hl] at e
        exact HNO.out _ hd.2.2.2.2 (first_byte e).2.symm
      · rw [ndS_s hl] at e
        exact absurd (first_byte e).1 (by decide)
  · obtain ⟨k1, k2⟩ := cutp_no hnl
    have HCC : Hid (∀ W, Calls Tryz.prog 52 #[.string s, .string ⟨#[108]⟩] W fun e w' => e = .returned (.tuple #[.string s, .bool false]) ∧ w' = W) := fun W => by
      have := strings_CutPrefix s ⟨#[108]⟩ W
      rw [show ((⟨#[108]⟩ : ByteArray)) = one1 108 from rfl, k1, k2] at this
      exact this
    have HNL := hid hnl
    clear k1 k2 hnl
    rcases first_or 115 s with ⟨r, rfl⟩ | hns
    · have hrs : r.size ≤ 4194304 := by rw [ByteArray.size_append] at hs; omega
      obtain ⟨k1, k2⟩ := cutp_yes 115 r
      have HC := hid fun W => strings_CutPrefix (one1 115 ++ r) ⟨#[115]⟩ W
      obtain ⟨s, hse⟩ : ∃ s, one1 115 ++ r = s := ⟨_, rfl⟩
      have HS := hid hse
      rw [hse] at k1 k2 HC HCC ⊢
      have HCD : Hid (∀ W, Calls Tryz.prog 52 #[.string s, .string ⟨#[115]⟩] W fun e w' => e = .returned (.tuple #[.string r, .bool true]) ∧ w' = W) := fun W => by
        have := HC.out W
        rw [show ((⟨#[115]⟩ : ByteArray)) = one1 115 from rfl, k1, k2] at this
        exact this
      clear k1 k2 HC hse hs HNL
      go_enter Tryz.func29, Tryz.ntmps29
      go_wp2_with fail
      generalize w.alloc (.cells zNC 42) = W0 at hw0 hB0 ⊢
      refine (HCC.out _).mono ?_
      rintro e w1 ⟨rfl, rfl⟩
      go_wp2_with fail
      refine (HCD.out _).mono ?_
      rintro e w1 ⟨rfl, rfl⟩
      go_wp2_with fail
      refine (iSplit_any r _ hrs (HE.out _ hw0) (HMM.out _ hw0) (hid (HPW.out _ hw0))).mono ?_
      rintro e w2 ⟨hans, hb2⟩
      have hB2 := hB0.below hb2 hB0.lt
      have hbl2 := hw0.trans (hb2.mono hw0.size)
      clear hB0 hw0 hb2
      have c0 := hB2.cell 0; have c1 := hB2.cell 1; have c2 := hB2.cell 2; have c3 := hB2.cell 3; have c4 := hB2.cell 4; have c5 := hB2.cell 5
      have f0 := hB2.frozen 0; have f1 := hB2.frozen 1; have f2 := hB2.frozen 2; have f3 := hB2.frozen 3; have f4 := hB2.frozen 4; have f5 := hB2.frozen 5
      obtain ⟨d, b, HD, rfl⟩ : ∃ d b, Hid ((b = true ∧ NdIn d ∧ GoodN d ∧ s = ndS d) ∨ (b = false ∧ ∀ d, NdIn d → GoodN d → s ≠ ndS d)) ∧ e = .returned (.tuple #[ndV d, .bool b]) := by
        rcases hans with ⟨d, h1, h2, h3, h4, rfl⟩ | ⟨h1, rfl⟩
        · exact ⟨d, true, hid (.inl ⟨rfl, h1, h2, by rw [ndS_s h3, ← HS.out, h4]⟩), rfl⟩
        · refine ⟨zNd, false, hid (.inr ⟨rfl, fun d hd hg e => ?_⟩), rfl⟩
          rw [← HS.out] at e
          by_cases hl : d.left = 0
          · rw [ndS_l hl] at e
            exact absurd (first_byte e).1 (by decide)
          · rw [ndS_s hl] at e
            exact h1 d hd hl (first_byte e).2
      clear hans
      go_wp2_with fail
      refine bodyPost_ret (results_nt rfl _ _ w.heap.size 42 #[.int .i64 d.feat, .int .i64 d.cut, .int .i64 d.left, .int .i64 d.right, .bool d.miss, .int .i64 d.value] (0, 0) _ rfl ((((((hB2.set_ 0 (.int .i64 d.feat)).set_ 1 (.int .i64 d.cut)).set_ 2 (.int .i64 d.left)).set_ 3 (.int .i64 d.right)).set_ 4 (.bool d.miss)).set_ 5 (.int .i64 d.value)) Tryz.underlying42 rfl size_nodeT) rfl ?_
      refine ⟨?_, (((((hbl2.setCell (Nat.le_refl _) _).setCell (Nat.le_refl _) _).setCell (Nat.le_refl _) _).setCell (Nat.le_refl _) _).setCell (Nat.le_refl _) _).setCell (Nat.le_refl _) _⟩
      rcases HD.out with ⟨rfl, h1, h2, h3⟩ | ⟨rfl, h1⟩
      · exact .inl ⟨d, h1, h2, h3, rfl⟩
      · exact .inr ⟨h1, d, rfl⟩
    · obtain ⟨k1, k2⟩ := cutp_no hns
      have HCD : Hid (∀ W, Calls Tryz.prog 52 #[.string s, .string ⟨#[115]⟩] W fun e w' => e = .returned (.tuple #[.string s, .bool false]) ∧ w' = W) := fun W => by
        have := strings_CutPrefix s ⟨#[115]⟩ W
        rw [show ((⟨#[115]⟩ : ByteArray)) = one1 115 from rfl, k1, k2] at this
        exact this
      have HNS := hid hns
      clear k1 k2 hns
      go_enter Tryz.func29, Tryz.ntmps29
      go_wp2_with fail
      have f0 := hB0.frozen 0; have f1 := hB0.frozen 1; have f2 := hB0.frozen 2; have f3 := hB0.frozen 3; have f4 := hB0.frozen 4; have f5 := hB0.frozen 5
      have c0 := hB0.cell 0; have c1 := hB0.cell 1; have c2 := hB0.cell 2; have c3 := hB0.cell 3; have c4 := hB0.cell 4; have c5 := hB0.cell 5
      generalize w.alloc (.cells zNC 42) = W0 at hw0 hB0 f0 f1 f2 f3 f4 f5 c0 c1 c2 c3 c4 c5 ⊢
      refine (HCC.out _).mono ?_
      rintro e w1 ⟨rfl, rfl⟩
      go_wp2_with fail
      refine (HCD.out _).mono ?_
      rintro e w1 ⟨rfl, rfl⟩
      go_wp2_with fail
      refine bodyPost_ret (results_nt rfl _ _ w.heap.size 42 zNC (0, 0) _ rfl ((((((hB0.set_ 0 (.int .i64 0)).set_ 1 (.int .i64 0)).set_ 2 (.int .i64 0)).set_ 3 (.int .i64 0)).set_ 4 (.bool false)).set_ 5 (.int .i64 0)) Tryz.underlying42 rfl size_nodeT) rfl ?_
      refine ⟨.inr ⟨fun d hd hg e => ?_, zNd, rfl⟩, (((((hw0.setCell (Nat.le_refl _) _).setCell (Nat.le_refl _) _).setCell (Nat.le_refl _) _).setCell (Nat.le_refl _) _).setCell (Nat.le_refl _) _).setCell (Nat.le_refl _) _⟩
      by_cases hl : d.left = 0
      · exact HNL.out _ (e.trans (ndS_l hl))
      · exact HNS.out _ (e.trans (ndS_s hl))
end Go.Proofs.YtkkkpijdbfijfaaGreatDoor
