/- The text of a node and of a tree, both sides. -/
import Derived.Test.YtmkipdhappikhaaGreatDoorTxB
import Derived.Test.YtmkipdhappikhaaGreatDoorRgI
import Derived.Test.YtmkipdhappikhaaGreatDoorK3
import Derived.Test.YtmkipdhappikhaaGreatDoorLaw
namespace Go.Proofs.YtmkipdhappikhaaGreatDoor
open Go.RowKit Go.Deep

def sideS (m : Bool) : ByteArray := if m = true then ⟨#[108]⟩ else ⟨#[114]⟩
def ndP (d : Nd) : Nat → ByteArray
  | 0 => decS d.feat
  | 1 => decS d.cut
  | 2 => decS d.left
  | 3 => decS d.right
  | _ => sideS d.miss
def ndS (d : Nd) : ByteArray := if d.left = 0 then ⟨#[108]⟩ ++ decS d.value else ⟨#[115]⟩ ++ joinTo (ndP d) ⟨#[58]⟩ 5
def ntS (n : Nat) (g : Nat → Nd) : ByteArray := joinTo (fun i => ndS (g i)) ⟨#[32]⟩ n
def treS (n : Nat) (g : Nat → Nd) : ByteArray := if treeB g n 6 = true then ntS n g else ByteArray.empty
def I64 (x : Int) : Prop := -9223372036854775808 ≤ x ∧ x ≤ 9223372036854775807
def NdIn (d : Nd) : Prop := I64 d.feat ∧ I64 d.cut ∧ I64 d.left ∧ I64 d.right ∧ I64 d.value
theorem I64.size {x : Int} (h : I64 x) : (decS x).size ≤ 21 := decS_size h.1 h.2
theorem sideS_size (m : Bool) : (sideS m).size = 1 := by cases m <;> rfl
theorem nodeIn {n i : Nat} {d : Nd} (hn : n ≤ 1048576) (h : Node 6 n i d) : NdIn d := by
  unfold Node at h
  unfold NdIn I64
  split at h
  · unfold lfB at h
    simp only [Bool.and_eq_true, beq_iff_eq, decide_eq_true_eq] at h
    obtain ⟨⟨⟨⟨⟨h1, h2⟩, h3⟩, h4⟩, h5⟩, h6, h7⟩ := h
    omega
  · unfold spB at h
    simp only [Bool.and_eq_true, beq_iff_eq, decide_eq_true_eq] at h
    omega
theorem tree_in {n : Nat} {g : Nat → Nd} (h : treeB g n 6 = true) : ∀ i, i < n → NdIn (g i) := by
  have hT := (treeB_iff g n 6).1 h
  intro i hi
  exact nodeIn (by have := hT.2.1.2; omega) (hT.2.2 i hi).1
theorem ndP_size {d : Nd} (h : NdIn d) : ∀ i, i < 5 → (ndP d i).size ≤ 21 := by
  intro i hi
  obtain rfl | rfl | rfl | rfl | rfl : i = 0 ∨ i = 1 ∨ i = 2 ∨ i = 3 ∨ i = 4 := by omega
  · exact h.1.size
  · exact h.2.1.size
  · exact h.2.2.1.size
  · exact h.2.2.2.1.size
  · show (sideS d.miss).size ≤ 21; rw [sideS_size]; omega
theorem parts_size {d : Nd} (h : NdIn d) : (joinTo (ndP d) ⟨#[58]⟩ 5).size ≤ 110 := by
  have := joinTo_size (f := ndP d) (sep := ⟨#[58]⟩) (M := 21) 5 (ndP_size h)
  exact this
theorem ndS_size {d : Nd} (h : NdIn d) : (ndS d).size ≤ 111 := by
  unfold ndS
  split
  · rw [ByteArray.size_append]; have := h.2.2.2.2.size; show 1 + _ ≤ _; omega
  · rw [ByteArray.size_append]; have := parts_size h; show 1 + _ ≤ _; omega
theorem cat_ (a b : ByteArray) {p q : Nat} (ha : a.size ≤ p) (hb : b.size ≤ q) : ∃ t, a ++ b = t ∧ t.size ≤ p + q ∧ Hid (t = a ++ b) :=
  ⟨_, rfl, by rw [ByteArray.size_append]; omega, hid rfl⟩
theorem one_arr (a : UInt8) : (⟨#[a]⟩ : ByteArray).size ≤ 1 := Nat.le_refl 1

/-! ### this side -/
set_option maxRecDepth 100000 in
set_option maxHeartbeats 2000000 in
theorem text_leaf (d : Nd) (w : World) (hv : I64 d.value) (h0 : (d.left == 0) = true) (hp : Hid (Pow w w.heap.size)) :
    Calls Tryz.prog 58 #[ndV d] w fun e w' => e = .returned (.string (ndS d)) ∧ Below w.heap.size w w' := by
  have he : ⟨#[108]⟩ ++ decS d.value = ndS d := by unfold ndS; rw [if_pos (by simpa using h0)]
  have hs := hv.size
  have z1 : ¬ 9223372036854775807 < 1 + (decS d.value).size := by omega
  go_enter Tryz.func58, Tryz.ntmps58
  go_wp2_with fail
  refine (isLeaf_any d _).mono ?_
  rintro e w1 ⟨rfl, hb1⟩
  rw [h0]
  have hw1 := ((Below.refl w.heap.size w).alloc (Nat.le_refl _) (.cells #[.int .i64 d.feat, .int .i64 d.cut, .int .i64 d.left, .int .i64 d.right, .bool d.miss, .int .i64 d.value] 58)).trans (hb1.mono (by simp))
  have hB1 := (Blk.new w 58 #[.int .i64 d.feat, .int .i64 d.cut, .int .i64 d.left, .int .i64 d.right, .bool d.miss, .int .i64 d.value]).below hb1 (by simp)
  have c5 : w1.cell? ⟨w.heap.size, 5, none⟩ = some (.int .i64 d.value) := hB1.cell 5
  have hpw := hid (hp.out w1 hw1)
  clear hb1 hB1
  go_wp2_with fail
  refine (decimal_any d.value _ hv.1 hv.2 hpw).mono ?_
  rintro e w2 ⟨rfl, hb2⟩
  go_wp2_with fail
  go_ret
  exact ⟨rfl, hw1.trans (hb2.mono hw1.size)⟩

theorem sideS_is (m : Bool) : (if m = true then Value.string ⟨#[108]⟩ else .string ⟨#[114]⟩) = .string (sideS m) := by cases m <;> rfl
set_option maxRecDepth 100000 in
set_option maxHeartbeats 2000000 in
theorem text_split (d : Nd) (w : World) (hd : NdIn d) (h0 : (d.left == 0) = false) (hp : Hid (Pow w w.heap.size)) :
    Calls Tryz.prog 58 #[ndV d] w fun e w' => e = .returned (.string (ndS d)) ∧ Below w.heap.size w w' := by
  have he : ⟨#[115]⟩ ++ joinTo (ndP d) ⟨#[58]⟩ 5 = ndS d := by unfold ndS; rw [if_neg (by simpa using h0)]
  have hs := parts_size hd
  have HIN := hid hd
  have HE := hid he
  have HS := hid hs
  clear hd he hs
  go_enter Tryz.func58, Tryz.ntmps58
  go_wp2_with fail
  refine (isLeaf_any d _).mono ?_
  rintro e w1 ⟨rfl, hb1⟩
  rw [h0]
  have hw1 := ((Below.refl w.heap.size w).alloc (Nat.le_refl _) (.cells #[.int .i64 d.feat, .int .i64 d.cut, .int .i64 d.left, .int .i64 d.right, .bool d.miss, .int .i64 d.value] 58)).trans (hb1.mono (by simp))
  have hB1 := (Blk.new w 58 #[.int .i64 d.feat, .int .i64 d.cut, .int .i64 d.left, .int .i64 d.right, .bool d.miss, .int .i64 d.value]).below hb1 (by simp)
  have c4 : w1.cell? ⟨w.heap.size, 4, none⟩ = some (.bool d.miss) := hB1.cell 4
  have HC : Hid (∀ W, Below w1.heap.size w1 W → W.cell? ⟨w.heap.size, 0, none⟩ = some (.int .i64 d.feat) ∧ W.cell? ⟨w.heap.size, 1, none⟩ = some (.int .i64 d.cut) ∧ W.cell? ⟨w.heap.size, 2, none⟩ = some (.int .i64 d.left) ∧ W.cell? ⟨w.heap.size, 3, none⟩ = some (.int .i64 d.right)) := fun W hW =>
    ⟨(hB1.below hW hB1.lt).cell 0, (hB1.below hW hB1.lt).cell 1, (hB1.below hW hB1.lt).cell 2, (hB1.below hW hB1.lt).cell 3⟩
  have DK : Hid (∀ (x : Int) (W : World), I64 x → Below w1.heap.size w1 W → Calls Tryz.prog 24 #[.int .i64 x] W fun e w' => e = .returned (.string (decS x)) ∧ Below w1.heap.size w1 w') := fun x W hx hW =>
    (decimal_any x W hx.1 hx.2 (hid (hp.out W (hw1.trans (hW.mono hw1.size))))).mono fun e w' ⟨he, hb⟩ => ⟨he, hW.trans (hb.mono hW.size)⟩
  have D0 := hid ((Below.refl w1.heap.size w1).drew)
  have HW1 := hid hw1
  clear hb1 hB1 hw1
  cases hm : d.miss
  all_goals
    have hsd : ndP d 4 = sideS d.miss := rfl
    rw [hm] at c4 hsd
    have HSD := hid hsd
    clear hsd
    go_wp2_with fail
    go_region_held3 (fun w' => w'.cell? ⟨w.heap.size, 0, none⟩ = some (.int .i64 d.feat) ∧ w'.cell? ⟨w.heap.size, 1, none⟩ = some (.int .i64 d.cut) ∧ w'.cell? ⟨w.heap.size, 2, none⟩ = some (.int .i64 d.left) ∧ w'.cell? ⟨w.heap.size, 3, none⟩ = some (.int .i64 d.right))
      (first | (with_reducible exact HC.out _ hk5) | exact HC.out _ (hk5.alloc hk5.size _) | (with_reducible exact HC.out _ hk4) | (with_reducible exact HC.out _ hk3) | (with_reducible exact HC.out _ hk2) | exact HC.out _ D0.out)
      (first
        | (go_at_call 24; refine (DK.out d.feat w1.drew HIN.out.1 D0.out).mono ?_; rintro e w2 ⟨rfl, hk2⟩)
        | (go_at_call 24; refine (DK.out d.cut w2 HIN.out.2.1 hk2).mono ?_; rintro e w3 ⟨rfl, hk3⟩)
        | (go_at_call 24; refine (DK.out d.left w3 HIN.out.2.2.1 hk3).mono ?_; rintro e w4 ⟨rfl, hk4⟩)
        | (go_at_call 24; refine (DK.out d.right w4 HIN.out.2.2.2.1 hk4).mono ?_; rintro e w5 ⟨rfl, hk5⟩))
    have hbZ := HW1.out.trans ((hk5.alloc hk5.size (.cells #[.string (decS d.feat), .string (decS d.cut), .string (decS d.left), .string (decS d.right), .string (ndP d 4)] 9)).mono HW1.out.size)
    have hBZ := Blk.new w5 9 #[.string (decS d.feat), .string (decS d.cut), .string (decS d.left), .string (decS d.right), .string (ndP d 4)]
    rw [HSD.out] at hbZ hBZ
    have hJ := strings_Join w5.heap.size 0 5 ((List.range 5).map (ndP d)) ⟨#[58]⟩ (w5.alloc (.cells #[.string (decS d.feat), .string (decS d.cut), .string (decS d.left), .string (decS d.right), .string (ndP d 4)] 9)) (fun j x hx => by
      rw [Nat.zero_add, (Blk.new w5 9 _).cell]
      have hj5 : j < 5 := by have := (List.getElem?_eq_some_iff.1 hx).1; simpa using this
      obtain rfl | rfl | rfl | rfl | rfl : j = 0 ∨ j = 1 ∨ j = 2 ∨ j = 3 ∨ j = 4 := by omega
      all_goals
        obtain rfl := Option.some.inj hx
        rfl) (by simp) (by simp) (by simp) (join_len (Nat.le_trans HS.out (by omega)))
    rw [join_is, HSD.out] at hJ
    have z1 : ¬ 9223372036854775807 < 1 + (joinTo (ndP d) ⟨#[58]⟩ 5).size := by have := HS.out; omega
    have HJ := hid hJ
    clear hJ hk2 hk3 hk4 hk5 hBZ c4
    have hlen : ((List.range 5).map (ndP d)).length = 5 := rfl
    rw [hlen] at HJ
    go_wp2_with fail
    refine HJ.out.mono ?_
    rintro e w6 ⟨rfl, hb6⟩
    go_wp2_with fail
    go_ret
    exact ⟨ret_strT HE.out, hbZ.trans (hb6.mono hbZ.size)⟩

theorem text_any (d : Nd) (w : World) (hd : NdIn d) (hp : Hid (Pow w w.heap.size)) :
    Calls Tryz.prog 58 #[ndV d] w fun e w' => e = .returned (.string (ndS d)) ∧ Below w.heap.size w w' := by
  cases h0 : (d.left == 0)
  · exact text_split d w hd h0 hp
  · exact text_leaf d w hd.2.2.2.2 h0 hp

/-! ### the other side -/
/-- A region that draws its order, walked once, its operations quiet in a class of worlds. -/
theorem region_classT {P : Program} {C : World → Prop} {id : Nat} {Q : Exit → Act → World → Prop} {a : Act} {w : World} {l : List Oper} (hm : P.follows .mixedOrders = true) (hB : Region.lexB .any l.toArray = true) (hC : C w.drew)
    (h : wpQuiet P l.toArray C (fun a' => ∀ w', C w' → Q .normal a' w') l a) : (Code.region id l.toArray true).wp P Q a w :=
  wp_region_quiet (C := C) hm hB hC (by simpa using h)
theorem split_cat (d : Nd) : ((⟨#[115]⟩ : ByteArray) ++ decS d.feat ++ ⟨#[58]⟩ ++ decS d.cut ++ ⟨#[58]⟩ ++ decS d.left ++ ⟨#[58]⟩ ++ decS d.right ++ ⟨#[58]⟩) ++ sideS d.miss = ⟨#[115]⟩ ++ joinTo (ndP d) ⟨#[58]⟩ 5 := by
  simp only [joinTo, ndP, Nat.lt_irrefl, if_false, show (0 : Nat) < 1 from by omega, show (0 : Nat) < 2 from by omega, show (0 : Nat) < 3 from by omega, show (0 : Nat) < 4 from by omega, if_true]
  apply ByteArray.ext
  simp only [ByteArray.data_append, Array.append_assoc]
  simp

set_option maxRecDepth 100000 in
set_option maxHeartbeats 2000000 in
theorem sText_leaf (d : Nd) (w : World) (hv : I64 d.value) (h0 : (d.left == 0) = true) :
    Calls Tryz.prog 105 #[ndV d] w fun e w' => e = .returned (.string (ndS d)) ∧ Below w.heap.size w w' := by
  have hl : d.left = 0 := by simpa using h0
  have he : ⟨#[108]⟩ ++ decS d.value = ndS d := by unfold ndS; rw [if_pos hl]
  have hs := hv.size
  have z1 : ¬ 9223372036854775807 < 1 + (decS d.value).size := by omega
  have hw1 := ((Below.refl w.heap.size w).alloc (Nat.le_refl _) (.cells #[.int .i64 d.feat, .int .i64 d.cut, .int .i64 d.left, .int .i64 d.right, .bool d.miss, .int .i64 d.value] 58))
  clear hl
  go_enter Tryz.func105, Tryz.ntmps105
  go_wp2_with fail
  refine (l1Dec_any d.value _ hv.1 hv.2).mono ?_
  rintro e w2 ⟨rfl, hb2⟩
  go_wp2_with fail
  go_ret
  exact ⟨rfl, hw1.trans (hb2.mono hw1.size)⟩

set_option maxRecDepth 100000 in
set_option maxHeartbeats 2000000 in
theorem sText_split (d : Nd) (w : World) (hd : NdIn d) (h0 : (d.left == 0) = false) :
    Calls Tryz.prog 105 #[ndV d] w fun e w' => e = .returned (.string (ndS d)) ∧ Below w.heap.size w w' := by
  have he : ⟨#[115]⟩ ++ joinTo (ndP d) ⟨#[58]⟩ 5 = ndS d := by unfold ndS; rw [if_neg (by simpa using h0)]
  rw [← split_cat d] at he
  have HE := hid he
  have hl : ¬ d.left = 0 := by simpa using h0
  obtain ⟨T1, e1, s1, F1⟩ := cat_ ⟨#[115]⟩ (decS d.feat) (one_arr _) hd.1.size
  obtain ⟨T2, e2, s2, F2⟩ := cat_ T1 ⟨#[58]⟩ s1 (one_arr _)
  obtain ⟨T3, e3, s3, F3⟩ := cat_ T2 (decS d.cut) s2 hd.2.1.size
  obtain ⟨T4, e4, s4, F4⟩ := cat_ T3 ⟨#[58]⟩ s3 (one_arr _)
  obtain ⟨T5, e5, s5, F5⟩ := cat_ T4 (decS d.left) s4 hd.2.2.1.size
  obtain ⟨T6, e6, s6, F6⟩ := cat_ T5 ⟨#[58]⟩ s5 (one_arr _)
  obtain ⟨T7, e7, s7, F7⟩ := cat_ T6 (decS d.right) s6 hd.2.2.2.1.size
  obtain ⟨T8, e8, s8, F8⟩ := cat_ T7 ⟨#[58]⟩ s7 (one_arr _)
  have u1 := hd.1.size
  have u2 := hd.2.1.size
  have u3 := hd.2.2.1.size
  have u4 := hd.2.2.2.1.size
  have z1 : ¬ 9223372036854775807 < 1 + (decS d.feat).size := by omega
  have z2 : ¬ 9223372036854775807 < T1.size + 1 := by omega
  have z3 : ¬ 9223372036854775807 < T2.size + (decS d.cut).size := by omega
  have z4 : ¬ 9223372036854775807 < T3.size + 1 := by omega
  have z5 : ¬ 9223372036854775807 < T4.size + (decS d.left).size := by omega
  have z6 : ¬ 9223372036854775807 < T5.size + 1 := by omega
  have z7 : ¬ 9223372036854775807 < T6.size + (decS d.right).size := by omega
  have z8 : ¬ 9223372036854775807 < T7.size + 1 := by omega
  have z9 : ¬ 9223372036854775807 < T8.size + 1 := by omega
  have HF : Hid (T8 ++ sideS d.miss = ndS d) := by show _ = _; rw [← HE.out, F8.out, F7.out, F6.out, F5.out, F4.out, F3.out, F2.out, F1.out]
  have HI1 := hid hd.1
  have HI2 := hid hd.2.1
  have HI3 := hid hd.2.2.1
  have HI4 := hid hd.2.2.2.1
  have hw1 := ((Below.refl w.heap.size w).alloc (Nat.le_refl _) (.cells #[.int .i64 d.feat, .int .i64 d.cut, .int .i64 d.left, .int .i64 d.right, .bool d.miss, .int .i64 d.value] 58))
  have hB1 := (Blk.new w 58 #[.int .i64 d.feat, .int .i64 d.cut, .int .i64 d.left, .int .i64 d.right, .bool d.miss, .int .i64 d.value])
  clear he hd u1 u2 u3 u4 F1 F2 F3 F4 F5 F6 F7 F8 s1 s2 s3 s4 s5 s6 s7 s8 HE
  cases hm : d.miss
  all_goals
    rw [hm] at HF hw1 hB1
    go_enter Tryz.func105, Tryz.ntmps105
    rw [show ndV d = .agg #[.int .i64 d.feat, .int .i64 d.cut, .int .i64 d.left, .int .i64 d.right, .bool d.miss, .int .i64 d.value] from rfl, hm]
    go_wp2_with fail
    generalize w.alloc (.cells #[.int .i64 d.feat, .int .i64 d.cut, .int .i64 d.left, .int .i64 d.right, .bool _, .int .i64 d.value] 58) = w1 at hw1 hB1 ⊢
    have HC : Hid (∀ W, Below w1.heap.size w1 W → W.cell? ⟨w.heap.size, 0, none⟩ = some (.int .i64 d.feat) ∧ W.cell? ⟨w.heap.size, 1, none⟩ = some (.int .i64 d.cut) ∧ W.cell? ⟨w.heap.size, 2, none⟩ = some (.int .i64 d.left) ∧ W.cell? ⟨w.heap.size, 3, none⟩ = some (.int .i64 d.right)) := fun W hW =>
      ⟨(hB1.below hW hB1.lt).cell 0, (hB1.below hW hB1.lt).cell 1, (hB1.below hW hB1.lt).cell 2, (hB1.below hW hB1.lt).cell 3⟩
    have DK : Hid (∀ (x : Int) (W : World), I64 x → Below w1.heap.size w1 W → Calls Tryz.prog 77 #[.int .i64 x] W fun e w' => e = .returned (.string (decS x)) ∧ Below w1.heap.size w1 w') := fun x W hx hW =>
      (l1Dec_any x W hx.1 hx.2).mono fun e w' ⟨he, hb⟩ => ⟨he, hW.trans (hb.mono hW.size)⟩
    have D0 := hid ((Below.refl w1.heap.size w1).drew)
    have HW1 := hid hw1
    have HBL := hid hB1
    clear hB1 hw1
    refine region_classT (C := fun W => Below w1.heap.size w1 W) (by kernel_rfl) (by kernel_rfl) D0.out ?_
    repeat
      with_reducible refine wpQuiet_step (fun K hK => ?_)
      first
        | (rw [if_pos (by rfl)]; apply Exists.intro; refine ⟨fun W hW => ?_, hK _ ?_⟩; (first
            | (obtain ⟨v1, v2, v3, v4⟩ := HC.out W hW; go_simp <;> with_reducible rfl)
            | (go_simp; go_at_call 77; with_reducible refine Calls.mono (DK.out d.feat W HI1.out hW) ?_; rintro e w5 ⟨rfl, hb5⟩; exact ⟨rfl, hb5⟩)
            | (go_simp; go_at_call 77; with_reducible refine Calls.mono (DK.out d.cut W HI2.out hW) ?_; rintro e w5 ⟨rfl, hb5⟩; exact ⟨rfl, hb5⟩)
            | (go_simp; go_at_call 77; with_reducible refine Calls.mono (DK.out d.left W HI3.out hW) ?_; rintro e w5 ⟨rfl, hb5⟩; exact ⟨rfl, hb5⟩)
            | (go_simp; go_at_call 77; with_reducible refine Calls.mono (DK.out d.right W HI4.out hW) ?_; rintro e w5 ⟨rfl, hb5⟩; exact ⟨rfl, hb5⟩)); clear hK K; (try simp only [Act.put, List.setIfInBounds_toArray, List.set_cons_zero, List.set_cons_succ]))
        | (refine Eq.mpr (if_neg ?_) (hK _ ?_); exact (fun h => Bool.false_ne_true h); clear hK K; (try simp only [Act.put, List.setIfInBounds_toArray, List.set_cons_zero, List.set_cons_succ]))
    refine wpQuiet_nil ?_
    intro WZ hZ'
    have hZ : Below w1.heap.size w1 WZ := hZ'
    clear hZ'
    have c4 : WZ.cell? ⟨w.heap.size, 4, none⟩ = some (.bool _) := (HBL.out.below hZ HBL.out.lt).cell 4
    have hbZ := HW1.out.trans (hZ.mono HW1.out.size)
    clear hZ
    go_wp2_with fail
    go_ret
    exact ⟨ret_strT HF.out, hbZ⟩
end Go.Proofs.YtmkipdhappikhaaGreatDoor
