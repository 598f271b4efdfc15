/- A Hit is recovered from its text; what is read, written again, is that text: the law's walk. -/
import Derived.Test.YthjphnopcgdgdaaDoorHqA
namespace Go.Proofs.YthjphnopcgdgdaaDoor
open Go.RowKit Go.Deep

theorem ans_form {s : ByteArray} {w : World} {e : Ending} {w' : World} (h : HtAns s w e w') : ∃ x y b, Hid ((b = true ∧ htB x y = true ∧ s = htS x y) ∨ (b = false ∧ x = 0 ∧ y = 0 ∧ ∀ i t, htB i t = true → s ≠ htS i t)) ∧ e = .returned (.tuple #[hitV x y, .bool b]) := by
  rcases h.1 with ⟨i, t, h1, h2, rfl⟩ | ⟨h1, rfl⟩
  · exact ⟨i, t, true, hid (.inl ⟨rfl, h1, h2⟩), rfl⟩
  · exact ⟨0, 0, false, hid (.inr ⟨rfl, rfl, rfl, h1⟩), rfl⟩
theorem ans_same {s : ByteArray} {x y : Int} {b : Bool} (HA : Hid ((b = true ∧ htB x y = true ∧ s = htS x y) ∨ (b = false ∧ x = 0 ∧ y = 0 ∧ ∀ i t, htB i t = true → s ≠ htS i t))) {w : World} {e : Ending} {w' : World} (ha : HtAns s w e w') : e = .returned (.tuple #[hitV x y, .bool b]) := by
  rcases ha.1 with ⟨i, t, h1, h2, rfl⟩ | ⟨h1, rfl⟩
  · rcases HA.out with ⟨rfl, k1, k2⟩ | ⟨rfl, rfl, rfl, k⟩
    · obtain ⟨rfl, rfl⟩ := htS_inj h1 k1 (h2.symm.trans k2)
      rfl
    · exact absurd h2 (k i t h1)
  · rcases HA.out with ⟨rfl, k1, k2⟩ | ⟨rfl, rfl, rfl, k⟩
    · exact absurd k2 (h1 x y k1)
    · rfl
theorem ans_hit {i s : Int} {w : World} {e : Ending} {w' : World} (ha : HtAns (htT i s) w e w') : (htB i s = true → e = .returned (.tuple #[hitV i s, .bool true])) ∧ (htB i s = false → e = .returned (.tuple #[hitV 0 0, .bool false])) := by
  constructor
  · intro h
    exact ans_same (hid (.inl ⟨rfl, h, htT_yes h⟩)) ha
  · intro h
    refine ans_same (hid (.inr ⟨rfl, rfl, rfl, fun j t hj e => ?_⟩)) ha
    have h1 := htS_pos j t
    rw [← e, htT_no h] at h1
    exact absurd h1 (by decide)
/-- Three Hits in their boxes. -/
def S3 (w0 : World) (p q r : Nat) (i s x y x' y' : Int) (w : World) : Prop :=
  Blk w p 25 #[.int .i64 i, .int .i64 s] ∧ Blk w q 25 #[.int .i64 x, .int .i64 y] ∧ Blk w r 25 #[.int .i64 x', .int .i64 y'] ∧ Below w0.heap.size w0 w
theorem S3.below {w0 w w' : World} {p q r : Nat} {i s x y x' y' : Int} (h : S3 w0 p q r i s x y x' y' w) (hb : Below w.heap.size w w') : S3 w0 p q r i s x y x' y' w' :=
  ⟨h.1.below hb h.1.lt, h.2.1.below hb h.2.1.lt, h.2.2.1.below hb h.2.2.1.lt, h.2.2.2.trans (hb.mono h.2.2.2.size)⟩
theorem S3.cells {w0 w : World} {p q r : Nat} {i s x y x' y' : Int} (h : S3 w0 p q r i s x y x' y' w) :
    w.cell? ⟨p, 0, none⟩ = some (.int .i64 i) ∧ w.cell? ⟨p, 1, none⟩ = some (.int .i64 s) ∧ w.cell? ⟨q, 0, none⟩ = some (.int .i64 x) ∧ w.cell? ⟨q, 1, none⟩ = some (.int .i64 y) ∧ w.cell? ⟨r, 0, none⟩ = some (.int .i64 x') ∧ w.cell? ⟨r, 1, none⟩ = some (.int .i64 y') :=
  ⟨h.1.cell 0, h.1.cell 1, h.2.1.cell 0, h.2.1.cell 1, h.2.2.1.cell 0, h.2.2.1.cell 1⟩

set_option maxRecDepth 100000 in
set_option maxHeartbeats 4000000 in
theorem lawHits (A : Option Addr) (n cap : Nat) (w : World) (h : Bs w w.heap.size A n) (hE : ErrOk w) (hM : LenOk w) (hp : Hid (Pow w w.heap.size)) :
    Calls Tryd.prog 3 #[.slice A n cap] w fun e w' => e = .returned (.bool true) ∧ Below w.heap.size w w' := by
  by_cases hbig : (1048576 : Int) < (n : Int)
  · go_enter Tryd.func3, Tryd.ntmps3
    go_wp2_with fail
    refine (big_yes A n cap _ hbig).mono ?_
    rintro e w1 ⟨rfl, rfl⟩
    go_wp2_with fail
    go_ret
    exact ⟨rfl, Below.refl _ _⟩
  have HE : Hid (∀ W, Below w.heap.size w W → ErrOk W) := fun W hW => hE.below hW
  have HM : Hid (∀ W, Below w.heap.size w W → LenOk W) := fun W hW => hM.below hW
  have HP : Hid (∀ W, Below w.heap.size w W → Pow W W.heap.size) := fun W hW W' hW' => hp.out W' (hW.trans (hW'.mono hW.size))
  clear hE hM hp
  go_enter Tryd.func3, Tryd.ntmps3
  go_wp2_with fail
  refine (big_no A n cap _ (by omega)).mono ?_
  rintro e w1 ⟨rfl, rfl⟩
  go_wp2_with fail
  refine (drawHit A n cap _ h (by omega)).mono ?_
  rintro e w1 ⟨i, s, rfl, his, hb1⟩
  have HIS := hid his
  have hb2 := hb1.alloc hb1.size (.cells #[.int .i64 i, .int .i64 s] 25)
  have hB2 := Blk.new w1 25 #[.int .i64 i, .int .i64 s]
  have c0 := hB2.cell 0; have c1 := hB2.cell 1
  clear hb1 his
  go_wp2_with fail
  clear c0 c1
  generalize w1.alloc (.cells #[.int .i64 i, .int .i64 s] 25) = W2 at hb2 hB2 ⊢
  generalize w1.heap.size = p at hB2 ⊢
  refine (iHitText_any i s _ (hid (HP.out _ hb2))).mono ?_
  rintro e w3 ⟨rfl, hb3⟩
  have hw3 := hb2.trans (hb3.mono hb2.size)
  have hB3 := hB2.below hb3 hB2.lt
  clear hb2 hB2 hb3
  go_wp2_with fail
  refine (drawReadHit A n cap _ (Bs.more (Bs.keep h fun _ hp => hw3.cell hp) hw3.size) (by omega)).mono ?_
  rintro e w4 ⟨t, rfl, ht, hb4⟩
  have hw4 := hw3.trans (hb4.mono hw3.size)
  have hB4 := hB3.below hb4 hB3.lt
  clear hw3 hB3 hb4
  go_wp2_with fail
  refine (iReadHit_any t _ (by omega) (HE.out _ hw4) (HM.out _ hw4) (hid (HP.out _ hw4))).mono ?_
  rintro e w5 ⟨ha, hb5⟩
  obtain ⟨x, y, b, HA, rfl⟩ := ans_form ⟨ha, hb5⟩
  have hw5 := hw4.trans (hb5.mono hw4.size)
  have hB5 := hB4.below hb5 hB4.lt
  have hw6 := hw5.alloc hw5.size (.cells #[.int .i64 x, .int .i64 y] 25)
  have hB6 := hB5.alloc (.cells #[.int .i64 x, .int .i64 y] 25)
  have hC6 := Blk.new w5 25 #[.int .i64 x, .int .i64 y]
  clear ha hb5 hw4 hB4 hw5 hB5
  go_wp2_with fail
  generalize w5.alloc (.cells #[.int .i64 x, .int .i64 y] 25) = W6 at hw6 hB6 hC6 ⊢
  generalize w5.heap.size = q at hC6 ⊢
  refine (sReadHit_any t _ (by omega)).mono ?_
  rintro e w7 ⟨ha, hb7⟩
  obtain rfl := ans_same HA ⟨ha, hb7⟩
  have hw7 := hw6.trans (hb7.mono hw6.size)
  have hB7 := hB6.below hb7 hB6.lt
  have hC7 := hC6.below hb7 hC6.lt
  have D8 : S3 w p q w7.heap.size i s x y x y (w7.alloc (.cells #[.int .i64 x, .int .i64 y] 25)) := ⟨hB7.alloc _, hC7.alloc _, Blk.new w7 _ _, hw7.alloc hw7.size _⟩
  clear ha hb7 hw6 hB6 hC6 hw7 hB7 hC7
  obtain ⟨c0, c1, d0, d1, e0, e1⟩ := D8.cells
  go_wp2_with fail
  clear c0 c1 d0 d1 e0 e1
  generalize w7.alloc (.cells #[.int .i64 x, .int .i64 y] 25) = W8 at D8 ⊢
  generalize w7.heap.size = r at D8 ⊢
  refine (sHitText_any i s _).mono ?_
  rintro e w9 ⟨rfl, hb9⟩
  have D9 := D8.below hb9
  clear D8 hb9
  obtain ⟨c0, c1, d0, d1, e0, e1⟩ := D9.cells
  have q1 : ((htT i s).toList != (htT i s).toList) = false := by simp
  have q2 : ∀ wx, (Op.equalIn 10000 25 (.agg #[.int .i64 x, .int .i64 y]) (.agg #[.int .i64 x, .int .i64 y])).run Tryd.prog wx = .ok true wx := fun wx => by rw [eqHit]; simp
  have q3 : (b != b) = false := by simp
  cases b
  · clear HA
    go_wp2_with fail
    clear c0 c1 d0 d1 e0 e1 q2
    have hne : (htT i s).size ≤ 4194304 := by
      cases hq : htB i s
      · rw [htT_no hq]; decide
      · rw [htT_yes hq]; have := htS_40 hq; omega
    refine (iReadHit_any (htT i s) _ hne (HE.out _ D9.2.2.2) (HM.out _ D9.2.2.2) (hid (HP.out _ D9.2.2.2))).mono ?_
    rintro e wA ⟨ha, hbA⟩
    have DA := D9.below hbA
    cases hq : htB i s
    · obtain rfl := (ans_hit ⟨ha, hbA⟩).2 hq
      have hu := htT_no hq
      rw [hu]
      have DB := DA.below ((Below.refl wA.heap.size wA).alloc (Nat.le_refl _) (.cells #[.int .i64 0, .int .i64 0] 25))
      clear ha hbA hq hu DA D9 hne
      go_wp2_with fail
      go_ret
      exact ⟨rfl, DB.2.2.2⟩
    · obtain rfl := (ans_hit ⟨ha, hbA⟩).1 hq
      have hu := htT_yes hq
      have hl := ba_listT (show htT i s ≠ ⟨#[]⟩ from fun e => by have h1 := htS_pos i s; rw [← hu, e] at h1; exact absurd h1 (by decide))
      rw [ByteArray.toList_eq (⟨#[]⟩ : ByteArray)] at hl
      have DB := DA.below ((Below.refl wA.heap.size wA).alloc (Nat.le_refl _) (.cells #[.int .i64 i, .int .i64 s] 25))
      have hBz := Blk.new wA 25 #[.int .i64 i, .int .i64 s]
      have z0 := hBz.cell 0; have z1 := hBz.cell 1
      obtain ⟨a0, a1, _, _, _, _⟩ := DB.cells
      have q4 : ∀ wx, (Op.equalIn 10000 25 (.agg #[.int .i64 i, .int .i64 s]) (.agg #[.int .i64 i, .int .i64 s])).run Tryd.prog wx = .ok true wx := fun wx => by rw [eqHit]; simp
      clear ha hbA hq hu DA D9 hne
      go_wp2_with fail
      go_ret
      exact ⟨rfl, DB.2.2.2⟩
  · have hxy : htB x y = true ∧ t = htS x y := by
      rcases HA.out with ⟨_, k1, k2⟩ | ⟨h, _⟩
      · exact ⟨k1, k2⟩
      · cases h
    have HXY : Hid (htT x y = t) := by show _ = _; rw [htT_yes hxy.1, hxy.2]
    clear hxy HA
    go_wp2_with fail
    clear c0 c1 d0 d1 e0 e1 q2
    refine (iHitText_any x y _ (hid (HP.out _ D9.2.2.2))).mono ?_
    rintro e wC ⟨rfl, hbC⟩
    have DC := D9.below hbC
    clear D9 hbC
    rw [HXY.out]
    have q5 : (t.toList != t.toList) = false := by simp
    go_wp2_with fail
    have hne : (htT i s).size ≤ 4194304 := by
      cases hq : htB i s
      · rw [htT_no hq]; decide
      · rw [htT_yes hq]; have := htS_40 hq; omega
    refine (iReadHit_any (htT i s) _ hne (HE.out _ DC.2.2.2) (HM.out _ DC.2.2.2) (hid (HP.out _ DC.2.2.2))).mono ?_
    rintro e wA ⟨ha, hbA⟩
    have DA := DC.below hbA
    cases hq : htB i s
    · obtain rfl := (ans_hit ⟨ha, hbA⟩).2 hq
      have hu := htT_no hq
      rw [hu]
      have DB := DA.below ((Below.refl wA.heap.size wA).alloc (Nat.le_refl _) (.cells #[.int .i64 0, .int .i64 0] 25))
      clear ha hbA hq hu DA DC hne
      go_wp2_with fail
      go_ret
      exact ⟨rfl, DB.2.2.2⟩
    · obtain rfl := (ans_hit ⟨ha, hbA⟩).1 hq
      have hu := htT_yes hq
      have hl := ba_listT (show htT i s ≠ ⟨#[]⟩ from fun e => by have h1 := htS_pos i s; rw [← hu, e] at h1; exact absurd h1 (by decide))
      rw [ByteArray.toList_eq (⟨#[]⟩ : ByteArray)] at hl
      have DB := DA.below ((Below.refl wA.heap.size wA).alloc (Nat.le_refl _) (.cells #[.int .i64 i, .int .i64 s] 25))
      have hBz := Blk.new wA 25 #[.int .i64 i, .int .i64 s]
      have z0 := hBz.cell 0; have z1 := hBz.cell 1
      obtain ⟨a0, a1, _, _, _, _⟩ := DB.cells
      have q4 : ∀ wx, (Op.equalIn 10000 25 (.agg #[.int .i64 i, .int .i64 s]) (.agg #[.int .i64 i, .int .i64 s])).run Tryd.prog wx = .ok true wx := fun wx => by rw [eqHit]; simp
      clear ha hbA hq hu DA DC hne
      go_wp2_with fail
      go_ret
      exact ⟨rfl, DB.2.2.2⟩
end Go.Proofs.YthjphnopcgdgdaaDoor
