/- A tree is recovered from its text; what is read, written again, is that text: the law's walk. -/
import Derived.Test.YtkkkpijdbfijfaaGreatDoorTrD
import Derived.Test.YtkkkpijdbfijfaaGreatDoorRtE
import Derived.Test.YtkkkpijdbfijfaaGreatDoorRdI
import Derived.BigQuiet
namespace Go.Proofs.YtkkkpijdbfijfaaGreatDoor
open Go.RowKit Go.Deep

set_option maxHeartbeats 1000000 in
theorem sameTr_any (A A' : Option Addr) (n c c' : Nat) (g : Nat → Nd) (w : World) (h : RdN w w.heap.size A n g) (h' : RdN w w.heap.size A' n g) (hn : n ≤ 4194304) :
    Calls Tryz.prog 12 #[.slice A n c, .slice A' n c'] w fun e w' => e = .returned (.bool true) ∧ ∃ m, w' = w.drewN m := by
  go_enter Tryz.func12, Tryz.ntmps12
  go_wp2_with fail
  go_loopw [5] (fun i wr => ∃ k m : Nat, k ≤ n ∧ i = .int .i64 k ∧ wr = w.drewN m) (fun i _ => n - (intOf i).toNat)
  case atStart => exact ⟨0, 0, Nat.zero_le _, rfl, rfl⟩
  case round =>
    obtain ⟨k, m, hk, rfl, rfl⟩ := hrel
    by_cases hlt : k < n
    · obtain ⟨b, off, rfl, hb, c0, c1, c2, c3, c4, c5⟩ := h.at_ hlt
      obtain ⟨b', off', rfl, hb', d0, d1, d2, d3, d4, d5⟩ := h'.at_ hlt
      have he := fun wx => eqNd (g k) (g k) wx
      simp only [beq_self_eq_true, Bool.and_self] at he
      have hi : (k : Int) < (n : Int) := by omega
      have hi0 : (0 : Int) ≤ (k : Int) := by omega
      go_wp2_with fail
      go_quiet (fail)
      go_wp2_with fail
      go_roundw
      case rel => exact ⟨k + 1, _, by omega, by go_num, rfl⟩
      case measure => simp [intOf]; omega
    · go_wp2_with fail
      go_ret
      exact ⟨rfl, m, rfl⟩

/-- What is read of a text, whatever the text. -/
def TrIs (s : ByteArray) (n : Nat) (g : Nat → Nd) (b : Bool) : Prop := (b = true ∧ treeB g n 6 = true ∧ s = treS n g) ∨ (b = false ∧ n = 0 ∧ ∀ m y, treeB y m 6 = true → s ≠ treS m y)
theorem rdn_nil {w : World} {B : Nat} {A : Option Addr} {g : Nat → Nd} : RdN w B A 0 g := fun h => absurd h (by omega)
theorem trs_inj {n m : Nat} {g y : Nat → Nd} (hg : treeB g n 6 = true) (hy : treeB y m 6 = true) (e : treS n g = treS m y) : m = n ∧ ∀ i, i < n → y i = g i := by
  have h1 := allW_tree hg
  rw [e, allW_tree hy] at h1
  have hl : m = n := by have := congrArg List.length h1; simpa using this
  subst hl
  refine ⟨rfl, fun i hi => ?_⟩
  have h2 := congrArg (fun l => l[i]?) h1
  simp only [List.getElem?_map, List.getElem?_range hi] at h2
  exact ndS_inj (tree_in hy i hi) (tree_in hg i hi) (node_good (((treeB_iff y m 6).1 hy).2.2 i hi).1) (node_good (((treeB_iff g m 6).1 hg).2.2 i hi).1) (Option.some.inj h2)
theorem rdn_congr {w : World} {B n : Nat} {A : Option Addr} {g y : Nat → Nd} (h : RdN w B A n g) (he : ∀ i, i < n → g i = y i) : RdN w B A n y := fun hn => by
  obtain ⟨b, off, e, hb, hc⟩ := h hn
  exact ⟨b, off, e, hb, fun i hi => by rw [← he i hi]; exact hc i hi⟩
theorem tr_form {s : ByteArray} {w : World} {e : Ending} {w' : World} (h : TrAns s w e w') : ∃ A n c g b, TrIs s n g b ∧ n ≤ 15 ∧ e = .returned (.tuple #[.slice A n c, .bool b]) ∧ RdN w' w'.heap.size A n g ∧ Below w.heap.size w w' := by
  rcases h with ⟨⟨n, g, b, c, h1, h2, rfl, h3, h4⟩ | ⟨h1, rfl⟩, hb⟩
  · exact ⟨_, n, c, g, true, .inl ⟨rfl, h1, h2⟩, ((treeB_iff g n 6).1 h1).2.1.2, rfl, h4.rd h4.lt, hb⟩
  · exact ⟨none, 0, 0, fun _ => zNd, false, .inr ⟨rfl, rfl, h1⟩, by omega, rfl, rdn_nil, hb⟩
theorem tr_same {s : ByteArray} {n : Nat} {g : Nat → Nd} {b : Bool} (HA : TrIs s n g b) {w : World} {e : Ending} {w' : World} (h : TrAns s w e w') : ∃ A c, e = .returned (.tuple #[.slice A n c, .bool b]) ∧ RdN w' w'.heap.size A n g ∧ Below w.heap.size w w' := by
  rcases h with ⟨⟨n', g', b', c, h1, h2, rfl, h3, h4⟩ | ⟨h1, rfl⟩, hb⟩
  · rcases HA with ⟨rfl, k1, k2⟩ | ⟨rfl, rfl, k⟩
    · obtain ⟨rfl, he⟩ := trs_inj h1 k1 (h2.symm.trans k2)
      exact ⟨_, c, rfl, rdn_congr (h4.rd h4.lt) fun i hi => (he i hi).symm, hb⟩
    · exact absurd h2 (k n' g' h1)
  · rcases HA with ⟨rfl, k1, k2⟩ | ⟨rfl, rfl, k⟩
    · exact absurd k2 (h1 n g k1)
    · exact ⟨none, 0, rfl, rdn_nil, hb⟩
theorem treS_some {n : Nat} {g : Nat → Nd} (h : treeB g n 6 = true) : treS n g ≠ ⟨#[]⟩ := by
  intro e
  have h1 := allW_tree h
  rw [e] at h1
  have hn := ((treeB_iff g n 6).1 h).2.1
  have h0 : (allW 32 ⟨#[]⟩)[0]? = some ⟨#[]⟩ := rfl
  rw [h1, List.getElem?_map, List.getElem?_range (by omega)] at h0
  exact ndS_empty _ (Option.some.inj h0)
theorem tr_of {m : Nat} {g : Nat → Nd} {w : World} {e : Ending} {w' : World} (ha : TrAns (treS m g) w e w') :
    (treeB g m 6 = true → ∃ A c, e = .returned (.tuple #[.slice A m c, .bool true]) ∧ RdN w' w'.heap.size A m g ∧ Below w.heap.size w w') ∧ (treeB g m 6 = false → ∃ A c, e = .returned (.tuple #[.slice A 0 c, .bool false]) ∧ Below w.heap.size w w') := by
  constructor
  · intro h
    exact tr_same (.inl ⟨rfl, h, rfl⟩) ha
  · intro h
    obtain ⟨A, c, h1, _, h2⟩ := tr_same (n := 0) (g := fun _ => zNd) (b := false) (.inr ⟨rfl, rfl, fun k y hy e => by
      have hu : treS m g = ⟨#[]⟩ := by unfold treS; rw [h]; rfl
      exact treS_some hy (by rw [← e, hu])⟩) ha
    exact ⟨A, c, h1, h2⟩
/-- Lists of nodes that are read. -/
def D3 (w0 : World) (A : Option Addr) (n : Nat) (g : Nat → Nd) (B : Option Addr) (m : Nat) (y : Nat → Nd) (C : Option Addr) (w : World) : Prop :=
  RdN w w.heap.size A n g ∧ RdN w w.heap.size B m y ∧ RdN w w.heap.size C m y ∧ Below w0.heap.size w0 w
theorem D3.below {w0 w w' : World} {A : Option Addr} {n : Nat} {g : Nat → Nd} {B : Option Addr} {m : Nat} {y : Nat → Nd} {C : Option Addr} (h : D3 w0 A n g B m y C w) (hb : Below w.heap.size w w') : D3 w0 A n g B m y C w' :=
  ⟨h.1.to hb hb.size, h.2.1.to hb hb.size, h.2.2.1.to hb hb.size, h.2.2.2.trans (hb.mono h.2.2.2.size)⟩

set_option maxRecDepth 100000 in
set_option maxHeartbeats 4000000 in
theorem lawTrees (A : Option Addr) (n cap : Nat) (w : World) (h : Bs w w.heap.size A n) (hE : ErrOk w) (hM : LenOk w) (hp : Hid (Pow w w.heap.size)) :
    Calls Tryz.prog 3 #[.slice A n cap] w fun e w' => e = .returned (.bool true) ∧ Below w.heap.size w w' := by
  by_cases hbig : (1048576 : Int) < (n : Int)
  · go_enter Tryz.func3, Tryz.ntmps3
    go_wp2_with fail
    refine (big_yes A n cap _ hbig).mono ?_
    rintro e w1 ⟨rfl, rfl⟩
    go_wp2_with fail
    go_ret
    exact ⟨rfl, Below.refl _ _⟩
  have HE : Hid (∀ W, Below w.heap.size w W → ErrOk W) := fun W hW => hE.below hW
  have HM : Hid (∀ W, Below w.heap.size w W → LenOk W) := fun W hW => hM.below hW
  have HP : Hid (∀ W, Below w.heap.size w W → Pow W W.heap.size) := fun W hW W' hW' => hp.out W' (hW.trans (hW'.mono hW.size))
  clear hE hM hp
  go_enter Tryz.func3, Tryz.ntmps3
  go_wp2_with fail
  refine (big_no A n cap _ (by omega)).mono ?_
  rintro e w1 ⟨rfl, rfl⟩
  go_wp2_with fail
  refine (drawTreeText A n cap _ h (by omega)).mono ?_
  rintro e w1 ⟨m, g, T, c, hm1, hm2, rfl, hr1, hb1⟩
  go_wp2_with fail
  refine (iTreeText_any T m c g _ hr1 (by omega) (hid (HP.out _ hb1))).mono ?_
  rintro e w2 ⟨rfl, hb2⟩
  have hw2 := hb1.trans (hb2.mono hb1.size)
  have hr2 := hr1.to hb2 hb2.size
  clear hb1 hb2 hr1
  go_wp2_with fail
  refine (drawReadTree A n cap _ (Bs.more (Bs.keep h fun _ hp => hw2.cell hp) hw2.size) (by omega)).mono ?_
  rintro e w3 ⟨u, rfl, hu, hb3⟩
  have hw3 := hw2.trans (hb3.mono hw2.size)
  have hr3 := hr2.to hb3 hb3.size
  clear hw2 hr2 hb3
  go_wp2_with fail
  refine (iReadTree_any u _ (by omega) (HE.out _ hw3) (HM.out _ hw3) (hid (HP.out _ hw3))).mono ?_
  rintro e w4 ha
  obtain ⟨X, k, cx, y, b, hA, hk, rfl, hrx, hb4⟩ := tr_form ha
  have HA := hid hA
  have hw4 := hw3.trans (hb4.mono hw3.size)
  have hr4 := hr3.to hb4 hb4.size
  clear ha hA hw3 hr3 hb4
  go_wp2_with fail
  refine (sReadTree_any u _ (by omega)).mono ?_
  rintro e w5 ha
  obtain ⟨Y, cy, rfl, hry, hb5⟩ := tr_same HA.out ha
  have D5 : D3 w T m g X k y Y w5 := ⟨hr4.to hb5 hb5.size, hrx.to hb5 hb5.size, hry, hw4.trans (hb5.mono hw4.size)⟩
  clear ha hw4 hr4 hrx hry hb5
  go_wp2_with fail
  refine (sTreeText_any T m c g _ D5.1 (by omega)).mono ?_
  rintro e w6 ⟨rfl, hb6⟩
  have D6 := D5.below hb6
  clear D5 hb6
  have q1 : ((treS m g).toList != (treS m g).toList) = false := by simp
  have q3 : (b != b) = false := by simp
  go_wp2_with fail
  refine (sameTr_any X Y k cx cy y _ D6.2.1 D6.2.2.1 (by omega)).mono ?_
  rintro e w7 ⟨rfl, m7, rfl⟩
  have D7 := D6.below (below_drewN (Below.refl w6.heap.size w6) m7)
  clear D6
  generalize w6.drewN m7 = W7 at D7 ⊢
  have hne : (treS m g).size ≤ 4194304 := by have := @treS_any m g; omega
  cases b
  · clear HA
    go_wp2_with fail
    refine (iReadTree_any (treS m g) _ hne (HE.out _ D7.2.2.2) (HM.out _ D7.2.2.2) (hid (HP.out _ D7.2.2.2))).mono ?_
    rintro e wA ha
    cases hq : treeB g m 6
    · obtain ⟨Z, cz, rfl, hbA⟩ := (tr_of ha).2 hq
      have DA := D7.below hbA
      have hu : treS m g = ⟨#[]⟩ := by unfold treS; rw [hq]; rfl
      rw [hu]
      clear ha hbA hq hu D7 hne q1
      go_wp2_with fail
      go_ret
      exact ⟨rfl, DA.2.2.2⟩
    · obtain ⟨Z, cz, rfl, hrz, hbA⟩ := (tr_of ha).1 hq
      have DA := D7.below hbA
      have hl := ba_listT (treS_some hq)
      rw [ByteArray.toList_eq (⟨#[]⟩ : ByteArray)] at hl
      clear ha hbA hq D7 hne q1
      go_wp2_with fail
      refine (sameTr_any Z T m cz c g _ hrz DA.1 (by omega)).mono ?_
      rintro e wB ⟨rfl, mB, rfl⟩
      go_wp2_with fail
      go_ret
      exact ⟨rfl, below_drewN DA.2.2.2 mB⟩
  · have HXY : Hid (treS k y = u) := by
      rcases HA.out with ⟨_, _, k2⟩ | ⟨h, _⟩
      · exact k2.symm
      · cases h
    clear HA
    go_wp2_with fail
    refine (iTreeText_any X k cx y _ D7.2.1 (by omega) (hid (HP.out _ D7.2.2.2))).mono ?_
    rintro e w8 ⟨rfl, hb8⟩
    have D8 := D7.below hb8
    clear D7 hb8
    rw [HXY.out]
    have q5 : (u.toList != u.toList) = false := by simp
    go_wp2_with fail
    refine (iReadTree_any (treS m g) _ hne (HE.out _ D8.2.2.2) (HM.out _ D8.2.2.2) (hid (HP.out _ D8.2.2.2))).mono ?_
    rintro e wA ha
    cases hq : treeB g m 6
    · obtain ⟨Z, cz, rfl, hbA⟩ := (tr_of ha).2 hq
      have DA := D8.below hbA
      have hu : treS m g = ⟨#[]⟩ := by unfold treS; rw [hq]; rfl
      rw [hu]
      clear ha hbA hq hu D8 hne q1
      go_wp2_with fail
      go_ret
      exact ⟨rfl, DA.2.2.2⟩
    · obtain ⟨Z, cz, rfl, hrz, hbA⟩ := (tr_of ha).1 hq
      have DA := D8.below hbA
      have hl := ba_listT (treS_some hq)
      rw [ByteArray.toList_eq (⟨#[]⟩ : ByteArray)] at hl
      clear ha hbA hq D8 hne q1
      go_wp2_with fail
      refine (sameTr_any Z T m cz c g _ hrz DA.1 (by omega)).mono ?_
      rintro e wB ⟨rfl, mB, rfl⟩
      go_wp2_with fail
      go_ret
      exact ⟨rfl, below_drewN DA.2.2.2 mB⟩
end Go.Proofs.YtkkkpijdbfijfaaGreatDoor
