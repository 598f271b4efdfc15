/- Flatten on both sides: words of nodes, the walks of both, equal flats. -/
import Derived.Laws.BitsAllLaws
import Derived.Test.YtlgomifpohdniaaGreatK0
import Derived.Test.YtlgomifpohdniaaGreatK2
import Derived.Test.YtlgomifpohdniaaGreatDrawX
import Derived.Deep.RegionLaw
import Derived.Deep.AppendLies
import Derived.Deep.DeepCutAuto
import Derived.Deep.RegionHeld3
import Derived.Lib.SliceRun
import Derived.Test.YtlgomifpohdniaaGreatK8
namespace Go.Proofs.YtlgomifpohdniaaGreat
open Go.RowKit Go.Deep

/-! ### FlA -/
theorem ofInt_u64F (n : Nat) (h : n < 2 ^ 64) : (BitVec.ofInt 64 (n : Int)).toNat = n := by
  simp
  omega
theorem or_natF {a b s : Nat} (ha : a < 2 ^ s) (hb : b * 2 ^ s + a < 2 ^ 64) : bits .or .u64 ((a : Nat) : Int) ((b * 2 ^ s : Nat) : Int) = ((a + b * 2 ^ s : Nat) : Int) := by
  show IntKind.u64.wrap ((BitVec.ofInt 64 (a : Int) ||| BitVec.ofInt 64 ((b * 2 ^ s : Nat) : Int)).toNat : Int) = _
  have e1 : a ||| b * 2 ^ s = a + b * 2 ^ s := by
    have := Nat.shiftLeft_add_eq_or_of_lt ha b
    rw [Nat.shiftLeft_eq, Nat.or_comm] at this
    omega
  rw [BitVec.toNat_or, ofInt_u64F a (by omega), ofInt_u64F (b * 2 ^ s) (by omega), e1]
  have hx : ((a + b * 2 ^ s : Nat) : Int) < 2 ^ 64 := by exact_mod_cast (by omega : a + b * 2 ^ s < 2 ^ 64)
  show ((a + b * 2 ^ s : Nat) : Int) % 2 ^ 64 = _
  omega
theorem or_intF {a b : Int} (s : Nat) (ha0 : 0 ≤ a) (ha : a < 2 ^ s) (hb0 : 0 ≤ b) (hb : b * 2 ^ s + a < 2 ^ 64) : bits .or .u64 a (b * 2 ^ s) = a + b * 2 ^ s := by
  obtain ⟨a, rfl⟩ := Int.eq_ofNat_of_zero_le ha0
  obtain ⟨b, rfl⟩ := Int.eq_ofNat_of_zero_le hb0
  have h1 : a < 2 ^ s := by exact_mod_cast ha
  have h2 : b * 2 ^ s + a < 2 ^ 64 := by exact_mod_cast hb
  have := or_natF h1 h2
  simpa using this

/-- The number that the upper half of a word holds. -/
def numN (d : Nd) : Int := if d.left = 0 then d.value else d.cut
def b2i (b : Bool) : Int := if b = true then 1 else 0
theorem b2i_bd (b : Bool) : 0 ≤ b2i b ∧ b2i b ≤ 1 := by cases b <;> decide
/-- The word of a node. -/
def wdN (d : Nd) : Int := d.left % 256 + d.right % 256 * 256 + d.feat % 256 * 65536 + b2i d.miss * 16777216 + numN d % 4294967296 * 4294967296
theorem wdN_bd (d : Nd) : 0 ≤ wdN d ∧ wdN d < 18446744073709551616 := by
  have := b2i_bd d.miss
  unfold wdN
  omega
/-- A number of 32 bits with its sign. -/
def sg (x : Int) : Int := if x < 2147483648 then x else x - 4294967296
/-- The node of a word. -/
def ndW (w : Int) : Nd := ⟨w / 65536 % 256, if w % 256 = 0 then 0 else sg (w / 4294967296 % 4294967296), w % 256, w / 256 % 256, w / 16777216 % 256 == 1, if w % 256 = 0 then sg (w / 4294967296 % 4294967296) else 0⟩
/-- A node whose parts fit into a word. -/
def FitW (d : Nd) : Prop := (0 ≤ d.left ∧ d.left ≤ 255) ∧ (0 ≤ d.right ∧ d.right ≤ 255) ∧ (0 ≤ d.feat ∧ d.feat ≤ 255) ∧ (-2147483648 ≤ numN d ∧ numN d ≤ 2147483647) ∧ if d.left = 0 then d.cut = 0 else d.value = 0
theorem sg_mod {x : Int} (h1 : -2147483648 ≤ x) (h2 : x ≤ 2147483647) : sg (x % 4294967296) = x := by unfold sg; split <;> omega
theorem wd_miss (d : Nd) : wdN d / 16777216 % 256 = b2i d.miss := by
  have := b2i_bd d.miss
  unfold wdN
  omega
theorem wd_left (d : Nd) : wdN d % 256 = d.left % 256 := by unfold wdN; omega
theorem wd_right (d : Nd) : wdN d / 256 % 256 = d.right % 256 := by have := b2i_bd d.miss; unfold wdN; omega
theorem wd_feat (d : Nd) : wdN d / 65536 % 256 = d.feat % 256 := by have := b2i_bd d.miss; unfold wdN; omega
theorem wd_num (d : Nd) : wdN d / 4294967296 % 4294967296 = numN d % 4294967296 := by have := b2i_bd d.miss; unfold wdN; omega
theorem b2i_eq (b : Bool) : (b2i b == 1) = b := by cases b <;> rfl
theorem ndW_wd (d : Nd) (h : FitW d) : ndW (wdN d) = d := by
  obtain ⟨hl, hr, hf, hn, hz⟩ := h
  obtain ⟨f, c, l, r, m, v⟩ := d
  unfold ndW
  rw [wd_miss, wd_left, wd_right, wd_feat, wd_num, sg_mod hn.1 hn.2, b2i_eq]
  simp only [Nd.mk.injEq, true_and] at hl hr hf hz ⊢
  have e1 : l % 256 = l := by omega
  have e2 : r % 256 = r := by omega
  have e3 : f % 256 = f := by omega
  rw [e1, e2, e3]
  unfold numN
  by_cases h0 : l = 0
  · rw [if_pos h0] at hz ⊢
    rw [if_pos h0, if_pos h0]
    exact ⟨rfl, hz.symm, rfl, rfl, rfl⟩
  · rw [if_neg h0] at hz ⊢
    rw [if_neg h0, if_neg h0]
    exact ⟨rfl, rfl, rfl, rfl, hz.symm⟩
theorem fitW_nd (w : Int) : FitW (ndW w) := by
  unfold FitW ndW numN
  simp only
  refine ⟨by omega, by omega, by omega, ?_, ?_⟩
  · have : -2147483648 ≤ sg (w / 4294967296 % 4294967296) ∧ sg (w / 4294967296 % 4294967296) ≤ 2147483647 := by unfold sg; split <;> omega
    split <;> exact this
  · split <;> rfl

/-- A node as it is where its tree begins that much later. -/
def mvN (d : Nd) (by_ : Int) : Nd := if d.left = 0 then d else ⟨d.feat, d.cut, d.left + by_, d.right + by_, d.miss, d.value⟩
/-- How many nodes the first k trees have. -/
def cumT (len : Nat → Nat) : Nat → Nat
  | 0 => 0
  | k + 1 => cumT len k + len k
theorem cumT_le {len : Nat → Nat} {n M : Nat} (h : ∀ i, i < n → len i ≤ M) : ∀ k, k ≤ n → cumT len k ≤ k * M := by
  intro k
  induction k with
  | zero => intro _; simp [cumT]
  | succ k ih =>
    intro hk
    have := ih (by omega)
    have := h k (by omega)
    rw [Nat.succ_mul]
    simp only [cumT]
    omega
/-- The nodes of the first k trees in one row, with their indexes there. -/
def allN (len : Nat → Nat) (g : Nat → Nat → Nd) : Nat → Nat → Nd
  | 0, _ => ⟨0, 0, 0, 0, false, 0⟩
  | k + 1, p => if p < cumT len k then allN len g k p else mvN (g k (p - cumT len k)) (cumT len k)
theorem allN_old {len : Nat → Nat} {g : Nat → Nat → Nd} {k p : Nat} (h : p < cumT len k) : allN len g (k + 1) p = allN len g k p := by simp only [allN, if_pos h]
theorem allN_new {len : Nat → Nat} {g : Nat → Nat → Nd} {k j : Nat} : allN len g (k + 1) (cumT len k + j) = mvN (g k j) (cumT len k) := by
  simp only [allN]
  rw [if_neg (by omega), Nat.add_sub_cancel_left]
/-- The nodes of k whole trees and of the first m of the next one. -/
def rowN (len : Nat → Nat) (g : Nat → Nat → Nd) (k : Nat) : Nat → Nd := allN len g (k + 1)
/-- The parts of a node, by number. -/
def part (j : Nat) (d : Nd) : Int :=
  match j with
  | 1 => d.feat
  | 2 => d.cut
  | 3 => d.left
  | 4 => d.right
  | 5 => b2i d.miss
  | _ => d.value
theorem treeB_node {g : Nat → Nd} {n : Nat} {f : Int} (h : treeB g n f = true) {i : Nat} (hi : i < n) : n ≤ 15 ∧ Node f n i (g i) := by
  have ht := (treeB_iff g n f).1 h
  exact ⟨ht.2.1.2, (ht.2.2 i hi).1⟩
theorem fit_mv {f : Int} {n i : Nat} {d : Nd} (by_ : Nat) (hn : n ≤ 15) (hf : f ≤ 6) (hb : by_ ≤ 180) (h : Node f n i d) : FitW (mvN d by_) := by
  unfold Node at h
  by_cases h0 : d.left = 0
  · rw [if_pos h0] at h
    simp only [lfB, Bool.and_eq_true, decide_eq_true_eq, beq_iff_eq] at h
    obtain ⟨⟨⟨⟨⟨h1, h2⟩, h3⟩, h4⟩, h5⟩, h6, h7⟩ := h
    unfold FitW mvN numN
    rw [if_pos h0, if_pos h0, if_pos h0]
    omega
  · rw [if_neg h0] at h
    obtain ⟨hs, ⟨a1, a2⟩, ⟨b1, b2⟩, _⟩ := h
    simp only [spB, Bool.and_eq_true, decide_eq_true_eq, beq_iff_eq] at hs
    have e : ¬ d.left + (by_ : Int) = 0 := by omega
    unfold FitW mvN numN
    rw [if_neg h0]
    simp only [if_neg e]
    omega

/-! ### FlB -/
theorem ret_u {a b : Int} (h : a = b) : Ending.returned (.int .u64 a) = .returned (.int .u64 b) := by rw [h]
theorem wd_of (d : Nd) (q b : Bool) (hq : (d.left == 0) = q) (hm : d.miss = b) :
    bits .or .u64 (cond b (bits .or .u64 (bits .or .u64 (bits .or .u64 (d.left % 256) (d.right % 256 * 256)) (d.feat % 256 * 65536)) 16777216) (bits .or .u64 (bits .or .u64 (d.left % 256) (d.right % 256 * 256)) (d.feat % 256 * 65536))) ((cond q d.value d.cut) % 4294967296 * 4294967296) = wdN d := by
  have hn : cond q d.value d.cut = numN d := by
    unfold numN
    cases q
    · have : ¬ d.left = 0 := by simpa using hq
      rw [if_neg this]; rfl
    · have : d.left = 0 := by simpa using hq
      rw [if_pos this]; rfl
  have hb := b2i_bd d.miss
  have e1 := or_intF (a := d.left % 256) (b := d.right % 256) 8 (by omega) (by omega) (by omega) (by omega)
  have e2 := or_intF (a := d.left % 256 + d.right % 256 * 2 ^ 8) (b := d.feat % 256) 16 (by omega) (by omega) (by omega) (by omega)
  have e3 := or_intF (a := d.left % 256 + d.right % 256 * 2 ^ 8 + d.feat % 256 * 2 ^ 16) (b := 1) 24 (by omega) (by omega) (by omega) (by omega)
  have e4 := or_intF (a := d.left % 256 + d.right % 256 * 2 ^ 8 + d.feat % 256 * 2 ^ 16 + b2i d.miss * 2 ^ 24) (b := numN d % 4294967296) 32 (by omega) (by omega) (by omega) (by omega)
  have p8 : (2 : Int) ^ 8 = 256 := rfl
  have p16 : (2 : Int) ^ 16 = 65536 := rfl
  have p24 : (2 : Int) ^ 24 = 16777216 := rfl
  have p32 : (2 : Int) ^ 32 = 4294967296 := rfl
  rw [p8] at e1 e2 e3 e4
  rw [p16] at e2 e3 e4
  rw [p24] at e3 e4
  rw [p32] at e4
  rw [Int.one_mul] at e3
  rw [hn, e1, e2]
  have hc : cond b (bits .or .u64 (d.left % 256 + d.right % 256 * 256 + d.feat % 256 * 65536) 16777216) (d.left % 256 + d.right % 256 * 256 + d.feat % 256 * 65536) = d.left % 256 + d.right % 256 * 256 + d.feat % 256 * 65536 + b2i d.miss * 16777216 := by
    rw [hm]
    cases b
    · show d.left % 256 + d.right % 256 * 256 + d.feat % 256 * 65536 = d.left % 256 + d.right % 256 * 256 + d.feat % 256 * 65536 + 0 * 16777216
      omega
    · show bits .or .u64 _ _ = _
      rw [e3]
      rfl
  rw [hc, e4]
  rfl
theorem miss_any (x : Int) (w : World) : Calls Tryz.prog 85 #[.int .u64 x] w fun e w' => e = .returned (.int .i64 (x / 16777216 % 256)) ∧ w' = w := by
  go_enter Tryz.func85, Tryz.ntmps85
  go_wp2_with fail
  go_ret
  exact ⟨rfl, rfl⟩
theorem nd_ar (d : Nd) {w w1 : World} (hb1 : Below (w.alloc (.cells #[.int .i64 d.feat, .int .i64 d.cut, .int .i64 d.left, .int .i64 d.right, .bool d.miss, .int .i64 d.value] 80)).heap.size (w.alloc (.cells #[.int .i64 d.feat, .int .i64 d.cut, .int .i64 d.left, .int .i64 d.right, .bool d.miss, .int .i64 d.value] 80)) w1) :
    Blk w1 w.heap.size 80 #[.int .i64 d.feat, .int .i64 d.cut, .int .i64 d.left, .int .i64 d.right, .bool d.miss, .int .i64 d.value] :=
  (Blk.new w 80 #[.int .i64 d.feat, .int .i64 d.cut, .int .i64 d.left, .int .i64 d.right, .bool d.miss, .int .i64 d.value]).below hb1 (by simp)
set_option maxRecDepth 10000 in
theorem wordOf_any (d : Nd) (w : World) : Calls Tryz.prog 81 #[ndV d] w fun e w' => e = .returned (.int .u64 (wdN d)) ∧ Below w.heap.size w w' := by
  cases h0 : (d.left == 0) <;> cases hm : d.miss
  all_goals
    have H0 := hid h0
    have HM := hid hm
    clear h0 hm
    go_enter Tryz.func81, Tryz.ntmps81
    go_wp2_with fail
    refine (isLeaf_any d _).mono ?_
    rintro e w1 ⟨rfl, hb1⟩
    rw [H0.out]
    have k := nd_ar d hb1
    have hbw := ((Below.refl w.heap.size w).alloc (Nat.le_refl _) (.cells #[.int .i64 d.feat, .int .i64 d.cut, .int .i64 d.left, .int .i64 d.right, .bool d.miss, .int .i64 d.value] 80)).trans (hb1.mono (by simp))
    clear hb1
    have c0 : w1.cell? ⟨w.heap.size, 0, none⟩ = some (.int .i64 d.feat) := k.cell 0
    have c1 : w1.cell? ⟨w.heap.size, 1, none⟩ = some (.int .i64 d.cut) := k.cell 1
    have c2 : w1.cell? ⟨w.heap.size, 2, none⟩ = some (.int .i64 d.left) := k.cell 2
    have c3 : w1.cell? ⟨w.heap.size, 3, none⟩ = some (.int .i64 d.right) := k.cell 3
    have c4 : w1.cell? ⟨w.heap.size, 4, none⟩ = some (.bool d.miss) := k.cell 4
    have c5 : w1.cell? ⟨w.heap.size, 5, none⟩ = some (.int .i64 d.value) := k.cell 5
    clear k
    rw [HM.out] at c4
    go_wp2_with fail
    go_ret
    have e := wd_of d _ _ H0.out HM.out
    simp only [cond_true, cond_false] at e
    exact ⟨ret_u e, hbw⟩

abbrev ndR (d : Nd) : Array Value := #[.int .i64 d.feat, .int .i64 d.cut, .int .i64 d.left, .int .i64 d.right, .bool d.miss, .int .i64 d.value]
theorem ndR_one (d : Nd) : (ndR d).all (·.oneCell') = true := by simp [Value.oneCell']
theorem size_nodeF : (Tryz.prog.info? 80).map (·.size) = some 6 := by kernel_rfl
theorem sg_wrap (y : Int) : wrap64 (wrap32 y) = sg (y % 4294967296) := by unfold wrap64 wrap32 sg; split <;> omega
theorem ndW_leaf {x : Int} (h : (x % 256 == 0) = true) : ndW x = ⟨x / 65536 % 256, 0, x % 256, x / 256 % 256, x / 16777216 % 256 == 1, sg (x / 4294967296 % 4294967296)⟩ := by
  have h : x % 256 = 0 := by simpa using h
  unfold ndW
  rw [if_pos h, if_pos h]
theorem ndW_split {x : Int} (h : (x % 256 == 0) = false) : ndW x = ⟨x / 65536 % 256, sg (x / 4294967296 % 4294967296), x % 256, x / 256 % 256, x / 16777216 % 256 == 1, 0⟩ := by
  have h : ¬ x % 256 = 0 := by simpa using h
  unfold ndW
  rw [if_neg h, if_neg h]
set_option maxRecDepth 10000 in
set_option maxHeartbeats 1000000 in
theorem wnode_any (x : Int) (w : World) : Calls Tryz.prog 84 #[.int .u64 x] w fun e w' => e = .returned (ndV (ndW x)) ∧ Below w.heap.size w w' := by
  cases h0 : (x % 256 == 0)
  all_goals
    have H0 := hid h0
    clear h0
    go_enter Tryz.func84, Tryz.ntmps84
    go_wp2_with fail
    refine (miss_any x _).mono ?_
    rintro e w1 ⟨rfl, rfl⟩
    go_wp2_with fail
    refine (isLeaf_any ⟨x / 65536 % 256, 0, x % 256, x / 256 % 256, x / 16777216 % 256 == 1, 0⟩ _).mono ?_
    rintro e w2 ⟨rfl, hb2⟩
    rw [sg_wrap]
    obtain ⟨fe, hfe⟩ : ∃ v, x / 65536 % 256 = v := ⟨_, rfl⟩
    obtain ⟨le, hle⟩ : ∃ v, x % 256 = v := ⟨_, rfl⟩
    obtain ⟨ri, hri⟩ : ∃ v, x / 256 % 256 = v := ⟨_, rfl⟩
    obtain ⟨mi, hmi⟩ : ∃ v, (x / 16777216 % 256 == 1) = v := ⟨_, rfl⟩
    obtain ⟨nu, hnu⟩ : ∃ v, sg (x / 4294967296 % 4294967296) = v := ⟨_, rfl⟩
    rw [hfe, hle, hri, hmi] at hb2
    have hz := hid hle
    rw [hle] at H0
    have e0 : (le == 0) = _ := H0.out
    rw [hfe, hle, hri, hmi, hnu]
    have kA := ((Blk.new w 80 (ndR ⟨0, 0, 0, 0, false, 0⟩)).alloc (.cells (ndR ⟨fe, 0, le, ri, mi, 0⟩) 80)).below hb2 (by rw [World.size_alloc, World.size_alloc]; omega)
    have kB := (Blk.new2 w (.cells (ndR ⟨0, 0, 0, 0, false, 0⟩) 80) 80 (ndR ⟨fe, 0, le, ri, mi, 0⟩)).below hb2 (by rw [World.size_alloc, World.size_alloc]; omega)
    have hbw := (((Below.refl w.heap.size w).alloc (Nat.le_refl _) (.cells (ndR ⟨0, 0, 0, 0, false, 0⟩) 80)).alloc (by simp) (.cells (ndR ⟨fe, 0, le, ri, mi, 0⟩) 80)).trans (hb2.mono (by rw [World.size_alloc, World.size_alloc]; omega))
    clear hb2
    have f1 := kB.frozen 1
    have f5 := kB.frozen 5
    have c1 : w2.cell? ⟨w.heap.size + 1, 1, none⟩ = some (.int .i64 0) := kB.cell 1
    have c5 : w2.cell? ⟨w.heap.size + 1, 5, none⟩ = some (.int .i64 0) := kB.cell 5
    have s1 : Blk (w2.setCell ⟨w.heap.size + 1, 1, none⟩ (.int .i64 nu)) (w.heap.size + 1) 80 (ndR ⟨fe, nu, le, ri, mi, 0⟩) := kB.set_ 1 (.int .i64 nu)
    have s5 : Blk (w2.setCell ⟨w.heap.size + 1, 5, none⟩ (.int .i64 nu)) (w.heap.size + 1) 80 (ndR ⟨fe, 0, le, ri, mi, nu⟩) := kB.set_ 5 (.int .i64 nu)
    have a1 := kA.far (p := ⟨w.heap.size + 1, 1, none⟩) (by show w.heap.size ≠ w.heap.size + 1; omega) (.int .i64 nu)
    have a5 := kA.far (p := ⟨w.heap.size + 1, 5, none⟩) (by show w.heap.size ≠ w.heap.size + 1; omega) (.int .i64 nu)
    have b1 := hbw.setCell (p := ⟨w.heap.size + 1, 1, none⟩) (by show w.heap.size ≤ w.heap.size + 1; omega) (.int .i64 nu)
    have b5 := hbw.setCell (p := ⟨w.heap.size + 1, 5, none⟩) (by show w.heap.size ≤ w.heap.size + 1; omega) (.int .i64 nu)
    clear kA kB hbw
  · go_wp2_with (first
      | (refine wpList_load_row rfl 80 _ rfl (w.heap.size + 1) rfl 80 (ndR ⟨fe, nu, le, ri, mi, 0⟩) _ _ s1 Tryz.underlying80 rfl size_nodeF ?_)
      | (refine wpList_store_row rfl 80 _ _ rfl w.heap.size (ndR ⟨fe, nu, le, ri, mi, 0⟩) rfl rfl 80 _ a1 size_nodeF rfl (ndR_one _) ?_))
    (try simp only [Exit.inBlock, Exit.then])
    refine bodyPost_ret (results_cell_row rfl _ _ w.heap.size 80 (ndR ⟨fe, nu, le, ri, mi, 0⟩) (0, 0) _ rfl (setRow_heap _ _ _ _ _ _ a1) Tryz.underlying80 rfl size_nodeF) rfl ?_
    refine ⟨?_, below_setRow b1 (Nat.le_refl _) _⟩
    rw [ndW_split (by rw [hz.out]; exact H0.out), hfe, hle, hri, hmi, hnu]
  · go_wp2_with (first
      | (refine wpList_load_row rfl 80 _ rfl (w.heap.size + 1) rfl 80 (ndR ⟨fe, 0, le, ri, mi, nu⟩) _ _ s5 Tryz.underlying80 rfl size_nodeF ?_)
      | (refine wpList_store_row rfl 80 _ _ rfl w.heap.size (ndR ⟨fe, 0, le, ri, mi, nu⟩) rfl rfl 80 _ a5 size_nodeF rfl (ndR_one _) ?_))
    (try simp only [Exit.inBlock, Exit.then])
    refine bodyPost_ret (results_cell_row rfl _ _ w.heap.size 80 (ndR ⟨fe, 0, le, ri, mi, nu⟩) (0, 0) _ rfl (setRow_heap _ _ _ _ _ _ a5) Tryz.underlying80 rfl size_nodeF) rfl ?_
    refine ⟨?_, below_setRow b5 (Nat.le_refl _) _⟩
    rw [ndW_leaf (by rw [hz.out]; exact H0.out), hfe, hle, hri, hmi, hnu]

set_option maxRecDepth 10000 in
set_option maxHeartbeats 1000000 in
theorem moved_any (d : Nd) (x : Int) (w : World) (h1 : -1000 ≤ x) (h2 : x ≤ 1000) (h3 : -1000 ≤ d.left ∧ d.left ≤ 1000) (h4 : -1000 ≤ d.right ∧ d.right ≤ 1000) :
    Calls Tryz.prog 82 #[ndV d, .int .i64 x] w fun e w' => e = .returned (ndV (mvN d x)) ∧ Below w.heap.size w w' := by
  obtain ⟨fe, cu, le, ri, mi, va⟩ := d
  simp only at h3 h4
  cases h0 : (le == 0)
  all_goals
    have H0 := hid h0
    clear h0
    go_enter Tryz.func82, Tryz.ntmps82
    go_wp2_with fail
    refine (isLeaf_any ⟨fe, cu, le, ri, mi, va⟩ _).mono ?_
    rintro e w2 ⟨rfl, hb2⟩
    have e0 : (le == 0) = _ := H0.out
    have kA := ((Blk.new w 80 (ndR ⟨fe, cu, le, ri, mi, va⟩)).alloc (.cells (ndR ⟨0, 0, 0, 0, false, 0⟩) 80)).below hb2 (by rw [World.size_alloc, World.size_alloc]; omega)
    have kB := (Blk.new2 w (.cells (ndR ⟨fe, cu, le, ri, mi, va⟩) 80) 80 (ndR ⟨0, 0, 0, 0, false, 0⟩)).below hb2 (by rw [World.size_alloc, World.size_alloc]; omega)
    have hbw := (((Below.refl w.heap.size w).alloc (Nat.le_refl _) (.cells (ndR ⟨fe, cu, le, ri, mi, va⟩) 80)).alloc (by simp) (.cells (ndR ⟨0, 0, 0, 0, false, 0⟩) 80)).trans (hb2.mono (by rw [World.size_alloc, World.size_alloc]; omega))
    clear hb2
  · have f2 := kA.frozen 2
    have f3 := kA.frozen 3
    have c2 : w2.cell? ⟨w.heap.size, 2, none⟩ = some (.int .i64 le) := kA.cell 2
    have c3 : w2.cell? ⟨w.heap.size, 3, none⟩ = some (.int .i64 ri) := kA.cell 3
    have s2 : Blk (w2.setCell ⟨w.heap.size, 2, none⟩ (.int .i64 (le + x))) w.heap.size 80 (ndR ⟨fe, cu, le + x, ri, mi, va⟩) := kA.set_ 2 (.int .i64 (le + x))
    have s3 : Blk ((w2.setCell ⟨w.heap.size, 2, none⟩ (.int .i64 (le + x))).setCell ⟨w.heap.size, 3, none⟩ (.int .i64 (ri + x))) w.heap.size 80 (ndR ⟨fe, cu, le + x, ri + x, mi, va⟩) := s2.set_ 3 (.int .i64 (ri + x))
    have b3 := (kB.far (p := ⟨w.heap.size, 2, none⟩) (by show w.heap.size + 1 ≠ w.heap.size; omega) (.int .i64 (le + x))).far (p := ⟨w.heap.size, 3, none⟩) (by show w.heap.size + 1 ≠ w.heap.size; omega) (.int .i64 (ri + x))
    have b := (hbw.setCell (p := ⟨w.heap.size, 2, none⟩) (Nat.le_refl _) (.int .i64 (le + x))).setCell (p := ⟨w.heap.size, 3, none⟩) (Nat.le_refl _) (.int .i64 (ri + x))
    clear kA kB hbw s2
    go_wp2_with (first
      | (refine wpList_load_row rfl 80 _ rfl w.heap.size rfl 80 (ndR ⟨fe, cu, le + x, ri + x, mi, va⟩) _ _ s3 Tryz.underlying80 rfl size_nodeF ?_)
      | (refine wpList_store_row rfl 80 _ _ rfl (w.heap.size + 1) (ndR ⟨fe, cu, le + x, ri + x, mi, va⟩) rfl rfl 80 _ b3 size_nodeF rfl (ndR_one _) ?_))
    (try simp only [Exit.inBlock, Exit.then])
    refine bodyPost_ret (results_cell_row rfl _ _ (w.heap.size + 1) 80 (ndR ⟨fe, cu, le + x, ri + x, mi, va⟩) (0, 0) _ rfl (setRow_heap _ _ _ _ _ _ b3) Tryz.underlying80 rfl size_nodeF) rfl ?_
    refine ⟨?_, below_setRow b (by omega) _⟩
    have hne : ¬ le = 0 := by simpa using H0.out
    unfold mvN
    rw [if_neg hne]
  · go_wp2_with (first
      | (refine wpList_load_row rfl 80 _ rfl w.heap.size rfl 80 (ndR ⟨fe, cu, le, ri, mi, va⟩) _ _ kA Tryz.underlying80 rfl size_nodeF ?_)
      | (refine wpList_store_row rfl 80 _ _ rfl (w.heap.size + 1) (ndR ⟨fe, cu, le, ri, mi, va⟩) rfl rfl 80 _ kB size_nodeF rfl (ndR_one _) ?_))
    (try simp only [Exit.inBlock, Exit.then])
    refine bodyPost_ret (results_cell_row rfl _ _ (w.heap.size + 1) 80 (ndR ⟨fe, cu, le, ri, mi, va⟩) (0, 0) _ rfl (setRow_heap _ _ _ _ _ _ kB) Tryz.underlying80 rfl size_nodeF) rfl ?_
    refine ⟨?_, below_setRow hbw (by omega) _⟩
    have heq : le = 0 := by simpa using H0.out
    unfold mvN
    rw [if_pos heq]

/-! ### FlC -/
theorem results_cell_row_tmpF {P : Program} {fn : Func} {p u : Tmp} {ty : TypeId} (h : fn.results = #[.cell p ty, .tmp u]) (tmps : Array Value) (w : World) (g : Nat) (t : TypeId) (cs : Array Value) (fr : Nat × Nat) (d : TypeDesc)
    (hp : tmps.getD p undef = .pointer (some ⟨g, 0, none⟩)) (hg : w.heap[g]? = some (.cells cs t fr))
    (hu : P.underlying ty = some d) (hd : (match d with | .struct _ | .array _ _ => true | _ => false) = true) (hi : (P.info? ty).map (·.size) = some cs.size) :
    (results fn tmps).run P w = .ok (.tuple #[.agg cs, tmps.getD u undef]) w := by
  have hp' : tmps[p]?.getD undef = .pointer (some ⟨g, 0, none⟩) := by simpa using hp
  simp [results, h, hp', asAddr, Result.andThen, run_loadVar_row w g t ty cs fr d hg hu hd hi]
theorem allN_stable {len : Nat → Nat} {g : Nat → Nat → Nd} {k p : Nat} : ∀ {m : Nat}, p < cumT len k → k ≤ m → allN len g m p = allN len g k p := by
  intro m hp hm
  induction m with
  | zero =>
    obtain rfl : k = 0 := by omega
    rfl
  | succ m ih =>
    by_cases e : k = m + 1
    · rw [e]
    · have hm' : k ≤ m := by omega
      have hlt : p < cumT len m := Nat.lt_of_lt_of_le hp (by
        clear ih e hm hp
        induction m with
        | zero => obtain rfl : k = 0 := by omega
                  exact Nat.le_refl _
        | succ m ih2 =>
          by_cases e : k = m + 1
          · rw [e]; exact Nat.le_refl _
          · have := ih2 (by omega)
            simp only [cumT]
            omega)
      rw [allN_old hlt]
      exact ih hm'
theorem allN_at {len : Nat → Nat} {g : Nat → Nat → Nd} {k j n : Nat} (hk : k < n) (hj : j < len k) : allN len g n (cumT len k + j) = mvN (g k j) (cumT len k) := by
  rw [allN_stable (k := k + 1) (by simp only [cumT]; omega) (by omega)]
  exact allN_new
theorem cumT_mono {len : Nat → Nat} {k n : Nat} (h : k ≤ n) : cumT len k ≤ cumT len n := by
  induction n with
  | zero => obtain rfl : k = 0 := by omega
            exact Nat.le_refl _
  | succ n ih =>
    by_cases e : k = n + 1
    · rw [e]; exact Nat.le_refl _
    · have := ih (by omega)
      simp only [cumT]
      omega

def wdsOf (n : Nat) (z : Nat → Int) : List Value := (List.range n).map fun j => .int .u64 (z j)
theorem wdsOf_len (n : Nat) (z : Nat → Int) : (wdsOf n z).length = n := by simp [wdsOf]
theorem wdsOf_succ (n : Nat) (z : Nat → Int) : wdsOf (n + 1) z = wdsOf n z ++ [.int .u64 (z n)] := by
  unfold wdsOf
  rw [List.range_succ, List.map_append, List.map_cons, List.map_nil]
theorem numsOf_succF (n : Nat) (z : Nat → Int) : numsOf (n + 1) z = numsOf n z ++ [.int .i64 (z n)] := by
  unfold numsOf
  rw [List.range_succ, List.map_append, List.map_cons, List.map_nil]

/-- What is being packed: its cell pb, its lists behind it. -/
def Packing (w0 : World) (pb : Nat) (f b : Int) (Ar : Option Addr) (n cr : Nat) (zr : Nat → Int) (Aw : Option Addr) (m cw : Nat) (zw : Nat → Int) (w : World) : Prop :=
  Blk w pb 66 #[.int .i64 f, .int .i64 b, .slice Ar n cr, .slice Aw m cw] ∧ w.ownsRow (pb + 1) 2 1 (.slice Ar n cr) n (numsOf n zr) ∧ w.ownsRow (pb + 1) 118 1 (.slice Aw m cw) m (wdsOf m zw) ∧
  Blk w (w0.heap.size + 1) 66 #[.int .i64 0, .int .i64 0, .slice none 0 0, .slice none 0 0] ∧ Below w0.heap.size w0 w
section
variable {w0 w : World} {pb n cr m cw : Nat} {f b : Int} {Ar Aw : Option Addr} {zr zw : Nat → Int}
theorem Packing.below {w' : World} (h : Packing w0 pb f b Ar n cr zr Aw m cw zw w) (hb : Below w.heap.size w w') : Packing w0 pb f b Ar n cr zr Aw m cw zw w' := by
  obtain ⟨h1, h2, h3, h4, h5⟩ := h
  exact ⟨h1.below hb h1.lt, own_below h2 hb, own_below h3 hb, h4.below hb h4.lt, h5.trans (hb.mono h5.size)⟩
theorem Packing.drew (h : Packing w0 pb f b Ar n cr zr Aw m cw zw w) : Packing w0 pb f b Ar n cr zr Aw m cw zw w.drew := by
  obtain ⟨h1, h2, h3, h4, h5⟩ := h
  exact ⟨h1, h2, h3, h4, ⟨h5.os, h5.tape, h5.output, h5.size, h5.block⟩⟩
theorem Packing.root {w5 : World} {gg c5 : Nat} {O : Obj} (h : Packing w0 pb f b Ar n cr zr Aw m cw zw w) (hp : w0.heap.size + 1 < pb) (hown : w5.ownsRow (pb + 1) 2 1 (.slice (some ⟨gg, 0, none⟩) (n + 1) c5) (n + 1) (numsOf (n + 1) zr)) (hg : (w.alloc O).grownBy w5 (Value.slice Ar n cr).ownBlock) :
    Packing w0 pb f b (some ⟨gg, 0, none⟩) (n + 1) c5 zr Aw m cw zw (w5.setCell ⟨pb, 2, none⟩ (.slice (some ⟨gg, 0, none⟩) (n + 1) c5)) := by
  obtain ⟨h1, h2, h3, h4, h5⟩ := h
  have hl := own_ltJ h2
  have e1 : Blk w5 pb 66 #[.int .i64 f, .int .i64 b, .slice Ar n cr, .slice Aw m cw] := (h1.alloc O).grown hg (by intro e; have := (hl _ e.symm).1; omega)
  have e4 : Blk w5 (w0.heap.size + 1) 66 _ := (h4.alloc O).grown hg (by intro e; have := (hl _ e.symm).1; omega)
  refine ⟨e1.set_ 2 _, own_keepJ hown fun g hg' _ _ => Below.heap_setCell _ _ _ g (by show g ≠ pb; omega), ?_, e4.far (p := ⟨pb, 2, none⟩) (by show w0.heap.size + 1 ≠ pb; omega) _, ?_⟩
  · refine own_keepJ (own_keepJ h3 (w' := w5) fun g _ hg2 hgo => ?_) fun g hg' _ _ => Below.heap_setCell _ _ _ g (by show g ≠ pb; omega)
    refine (hg.block g (by rw [World.size_alloc]; omega) ?_).trans (Below.heap_alloc w O g hg2)
    intro e
    obtain ⟨_, _, cs, hcs⟩ := hl _ e.symm
    obtain ⟨_, _, cs', hcs'⟩ := own_ltJ h3 _ hgo
    exact hcs.ne_ hcs' (by decide) rfl
  · exact ((h5.alloc (by have := h1.lt; have := h5.size; omega) O).grown hg (by rw [World.size_alloc]; have := h5.size; omega) (fun x hx => by have := (hl x hx).1; omega)).setCell (p := ⟨pb, 2, none⟩) (by show w0.heap.size ≤ pb; omega) _
theorem Packing.word {w5 : World} {gg c5 : Nat} {O : Obj} (h : Packing w0 pb f b Ar n cr zr Aw m cw zw w) (hp : w0.heap.size + 1 < pb) (hown : w5.ownsRow (pb + 1) 118 1 (.slice (some ⟨gg, 0, none⟩) (m + 1) c5) (m + 1) (wdsOf (m + 1) zw)) (hg : (w.alloc O).grownBy w5 (Value.slice Aw m cw).ownBlock) :
    Packing w0 pb f b Ar n cr zr (some ⟨gg, 0, none⟩) (m + 1) c5 zw (w5.setCell ⟨pb, 3, none⟩ (.slice (some ⟨gg, 0, none⟩) (m + 1) c5)) := by
  obtain ⟨h1, h2, h3, h4, h5⟩ := h
  have hl := own_ltJ h3
  have e1 : Blk w5 pb 66 #[.int .i64 f, .int .i64 b, .slice Ar n cr, .slice Aw m cw] := (h1.alloc O).grown hg (by intro e; have := (hl _ e.symm).1; omega)
  have e4 : Blk w5 (w0.heap.size + 1) 66 _ := (h4.alloc O).grown hg (by intro e; have := (hl _ e.symm).1; omega)
  refine ⟨e1.set_ 3 _, ?_, own_keepJ hown fun g hg' _ _ => Below.heap_setCell _ _ _ g (by show g ≠ pb; omega), e4.far (p := ⟨pb, 3, none⟩) (by show w0.heap.size + 1 ≠ pb; omega) _, ?_⟩
  · refine own_keepJ (own_keepJ h2 (w' := w5) fun g _ hg2 hgo => ?_) fun g hg' _ _ => Below.heap_setCell _ _ _ g (by show g ≠ pb; omega)
    refine (hg.block g (by rw [World.size_alloc]; omega) ?_).trans (Below.heap_alloc w O g hg2)
    intro e
    obtain ⟨_, _, cs, hcs⟩ := hl _ e.symm
    obtain ⟨_, _, cs', hcs'⟩ := own_ltJ h2 _ hgo
    exact hcs.ne_ hcs' (by decide) rfl
  · exact ((h5.alloc (by have := h1.lt; have := h5.size; omega) O).grown hg (by rw [World.size_alloc]; have := h5.size; omega) (fun x hx => by have := (hl x hx).1; omega)).setCell (p := ⟨pb, 3, none⟩) (by show w0.heap.size ≤ pb; omega) _
end

/-! ### FlD -/
def rootZ (len : Nat → Nat) : Nat → Int := fun i => (cumT len i : Nat)
def wordZ (len : Nat → Nat) (g : Nat → Nat → Nd) (n : Nat) : Nat → Int := fun p => wdN (allN len g n p)
theorem info_word : (Tryz.prog.info? 118).map (fun i => (i.zero, i.size, i.bytes)) = some (some (.int .u64 0), 1, 8) := by kernel_rfl
theorem size_packed : (Tryz.prog.info? 66).map (·.size) = some 4 := by kernel_rfl
theorem cell_one_newF (w : World) (t : TypeId) (u : Value) : ∀ j v, [u][j]? = some v → (w.alloc (.cells #[u] t)).cell? (Addr.add ⟨w.heap.size, 0, none⟩ j) = some v := World.news_of_block (cs := #[u]) (t := t) (fr := (0, 0)) (heap_alloc_new w _)

set_option maxRecDepth 100000 in
set_option maxHeartbeats 4000000 in
theorem pack_any (f b : Int) (A : Option Addr) (n c : Nat) (len : Nat → Nat) (g : Nat → Nat → Nd) (w : World) (h : RdT w w.heap.size A n len g) (hn : n ≤ 12) (hlen : Hid (∀ i, i < n → 1 ≤ len i ∧ len i ≤ 15))
    (hnd : Hid (∀ i, i < n → ∀ j, j < len i → (-1000 ≤ (g i j).left ∧ (g i j).left ≤ 1000) ∧ -1000 ≤ (g i j).right ∧ (g i j).right ≤ 1000)) :
    Calls Tryz.prog 45 #[enV f b A n c] w fun e w' => ∃ (Ar : Option Addr) (cr : Nat) (Aw : Option Addr) (cw : Nat), e = .returned (.agg #[.int .i64 f, .int .i64 b, .slice Ar n cr, .slice Aw (cumT len n) cw]) ∧
      (n = 0 → Ar = none ∧ cr = 0) ∧ w'.ownsRow w.heap.size 2 1 (.slice Ar n cr) n (numsOf n (rootZ len)) ∧ w'.ownsRow w.heap.size 118 1 (.slice Aw (cumT len n) cw) (cumT len n) (wdsOf (cumT len n) (wordZ len g n)) ∧ Below w.heap.size w w' := by
  obtain ⟨i0, hi0, hz0, hz1, hz2⟩ := info_parts info_int
  obtain ⟨j0, hj0, jz0, jz1, jz2⟩ := info_parts info_word
  go_enter Tryz.func45, Tryz.ntmps45
  go_wp2_with fail
  obtain ⟨pb, hpb⟩ : ∃ pb, w.heap.size + 2 = pb := ⟨_, rfl⟩
  have hp0 : w.heap.size + 1 < pb := by omega
  have hM0 : Hid (Packing w pb f b none 0 0 (rootZ len) none 0 0 (wordZ len g n) (((w.alloc (.cells #[.int .i64 f, .int .i64 b, .slice A n c] 26)).alloc (.cells #[.int .i64 0, .int .i64 0, .slice none 0 0, .slice none 0 0] 66)).alloc (.cells #[.int .i64 f, .int .i64 b, .slice none 0 0, .slice none 0 0] 66))) := by
    subst hpb
    exact ⟨Blk.new3 w _ _ _ _, ⟨rfl, .inl ⟨rfl, rfl⟩⟩, ⟨rfl, .inl ⟨rfl, rfl⟩⟩, (Blk.new2 w _ _ _).alloc _, (((Below.refl _ _).alloc (Nat.le_refl _) _).alloc (by simp) _).alloc (by simp; omega) _⟩
  rw [hpb]
  clear hpb
  go_loopw [17] (fun i wr => ∃ (k : Nat) (Ar : Option Addr) (cr : Nat) (Aw : Option Addr) (cw : Nat), k ≤ n ∧ i = .int .i64 k ∧ Hid (k = 0 → Ar = none ∧ cr = 0) ∧ Hid (Packing w pb f b Ar k cr (rootZ len) Aw (cumT len k) cw (wordZ len g n) wr)) (fun i _ => n - (intOf i).toNat)
  case atStart => exact ⟨0, none, 0, none, 0, Nat.zero_le _, rfl, fun _ => ⟨rfl, rfl⟩, hM0⟩
  case round =>
    clear hM0
    obtain ⟨k, Ar, cr, Aw, cw, hk, rfl, hr0, hM⟩ := hrel
    obtain ⟨h1, h2, h3, h4, h5⟩ := id hM.out
    by_cases hlt : k < n
    · obtain ⟨tb, off, Ai, ci, rfl, hb, hcell0, hrd⟩ := h.at_ hlt
      have hcell : wr.cell? ⟨tb, off + k, none⟩ = some (.slice Ai (len k) ci) := (h5.cell (p := ⟨tb, off + k, none⟩) hb).trans hcell0
      obtain ⟨hl1, hl2⟩ := hlen.out k hlt
      obtain ⟨bi, oi, rfl, hbi, hC⟩ := hrd (by omega)
      have HC : Hid (∀ i, i < len k → NdAt w bi (oi + i * 6) (g k i)) := hC
      have HN : Hid (∀ j, j < len k → (-1000 ≤ (g k j).left ∧ (g k j).left ≤ 1000) ∧ -1000 ≤ (g k j).right ∧ (g k j).right ≤ 1000) := hnd.out k hlt
      clear hC hrd hcell0
      have i1 : (k : Int) < (n : Int) := by omega
      have i2 : (0 : Int) ≤ (k : Int) := by omega
      have c2 : wr.cell? ⟨pb, 2, none⟩ = some (.slice Ar k cr) := h1.cell 2
      have c3 : wr.cell? ⟨pb, 3, none⟩ = some (.slice Aw (cumT len k) cw) := h1.cell 3
      have hpw := h1.lt
      have hl := own_ltJ h2
      have HL := hid hl
      have H1 := hid h1
      have hcum : cumT len k ≤ 12 * 15 := Nat.le_trans (cumT_le (fun i hi => (hlen.out i hi).2) k hk) (Nat.mul_le_mul (by omega) (Nat.le_refl _))
      have H5 := hid h5
      have hsz5 := h5.size
      clear hl h1 h3 h4 h5 hr0
      go_wp2_with (at_builtin; refine wpList_append_lies _ rfl (.tmp 25) (.tmp 27) 27 rfl (pb + 1) 2 i0 (.int .i64 0) 1 8 Tryz.underlying27 hi0 hz0 hz1 hz2 rfl (by decide) (.slice Ar k cr) k _ rfl (h2.alloc _) ⟨wr.heap.size, 0, none⟩ 1 1 [.int .i64 (cumT len k)] rfl rfl (cell_one_newF _ _ _) (by intro u hu; simp at hu; subst hu; rfl) (by omega) (by unfold maxLen; omega) (by omega) (by simp; omega) (wr.heap.size + 1) (by simp) ?_)
      intro gg c5 w5 hown5 hgrow _ _
      have hown5' : w5.ownsRow (pb + 1) 2 1 (.slice (some ⟨gg, 0, none⟩) (k + 1) c5) (k + 1) (numsOf (k + 1) (rootZ len)) := by rw [numsOf_succF]; exact hown5
      have hE5 : Blk w5 pb 66 #[.int .i64 f, .int .i64 b, .slice Ar k cr, .slice Aw (cumT len k) cw] := (H1.out.alloc _).grown hgrow (by intro e; have := (HL.out _ e.symm).1; omega)
      have d2 : w5.cell? ⟨pb, 2, none⟩ = some (.slice Ar k cr) := hE5.cell 2
      have f2 := hE5.frozen 2
      have hM5 := hid (hM.out.root hp0 hown5' hgrow)
      clear hown5 hown5' hE5 hgrow H1 HL H5 hM h2 c2 c3
      go_wp2_with fail
      clear d2 f2 hcell hpw hsz5
      generalize w5.setCell ⟨pb, 2, none⟩ (.slice (some ⟨gg, 0, none⟩) (k + 1) c5) = wS at *
      go_loopw [32] (fun q wq => ∃ (j : Nat) (Aq : Option Addr) (cq : Nat), j ≤ len k ∧ q = .int .i64 j ∧ Hid (Packing w pb f b (some ⟨gg, 0, none⟩) (k + 1) c5 (rootZ len) Aq (cumT len k + j) cq (wordZ len g n) wq)) (fun q _ => len k - (intOf q).toNat)
      case atStart => exact ⟨0, Aw, cw, Nat.zero_le _, rfl, hM5⟩
      case round =>
        clear hM5
        obtain ⟨j, Aq, cq, hj, rfl, hQ⟩ := hrel
        obtain ⟨q1, q2, q3, q4, q5⟩ := id hQ.out
        by_cases hjl : j < len k
        · have j1 : (j : Int) < (len k : Int) := by omega
          have j2 : (0 : Int) ≤ (j : Int) := by omega
          obtain ⟨⟨e1, e2⟩, e3, e4⟩ := HN.out j hjl
          have hW : Hid (wordZ len g n (cumT len k + j) = wdN (mvN (g k j) (cumT len k))) := by
            show wdN (allN len g n (cumT len k + j)) = _
            rw [allN_at hlt hjl]
          obtain ⟨n0, n1, n2, n3, n4, n5⟩ := (HC.out j hjl).keep (w' := wr) fun o => q5.cell (p := ⟨bi, o, none⟩) hbi
          have hpq := q1.lt
          have hPA := hid (hQ.out.below ((Below.refl wr.heap.size wr).alloc (Nat.le_refl _) (.cells (ndR (g k j)) 80)))
          have hBA : Blk (wr.alloc (.cells (ndR (g k j)) 80)) wr.heap.size 80 (ndR (g k j)) := Blk.new _ _ _
          have hszA : (wr.alloc (.cells (ndR (g k j)) 80)).heap.size = wr.heap.size + 1 := by simp
          obtain ⟨nb, hnb⟩ : ∃ nb, wr.heap.size = nb := ⟨_, rfl⟩
          clear q1 q2 q3 q4 q5 hQ
          go_wp2_with fail
          rw [hnb] at hBA hszA
          clear hnb n0 n1 n2 n3 n4 n5
          generalize wr.alloc (.cells (ndR (g k j)) 80) = wA at *
          obtain ⟨p1, p2, p3, p4, p5⟩ := id hPA.out
          have hPd := hid hPA.out.drew
          have b0 : wA.drew.cell? ⟨nb, 0, none⟩ = some (.int .i64 (g k j).feat) := hBA.cell 0
          have b1 : wA.drew.cell? ⟨nb, 1, none⟩ = some (.int .i64 (g k j).cut) := hBA.cell 1
          have b2 : wA.drew.cell? ⟨nb, 2, none⟩ = some (.int .i64 (g k j).left) := hBA.cell 2
          have b3 : wA.drew.cell? ⟨nb, 3, none⟩ = some (.int .i64 (g k j).right) := hBA.cell 3
          have b4 : wA.drew.cell? ⟨nb, 4, none⟩ = some (.bool (g k j).miss) := hBA.cell 4
          have b5 : wA.drew.cell? ⟨nb, 5, none⟩ = some (.int .i64 (g k j).value) := hBA.cell 5
          have xA : wA.drew.cell? ⟨pb, 3, none⟩ = some (.slice Aq (cumT len k + j) cq) := p1.cell 3
          have hpA := p1.lt
          clear p1 p2 p3 p4 p5 hPA hBA hszA
          go_region_law
            (first
              | (refine step_append_lies _ (by rfl) _ _ _ (by rfl) (pb + 1) 118 j0 _ 1 8 Tryz.underlying64 hj0 jz0 jz1 jz2 rfl (by omega) (.slice Aq (cumT len k + j) cq) (cumT len k + j) _ (by rfl) (hP5.out.2.2.1.alloc _) ⟨w5.heap.size, 0, none⟩ 1 1 [.int .u64 (wdN (mvN (g k j) (cumT len k)))] (by rfl) (by rfl) (cell_one_newF _ _ _) (by simp [Value.oneCell']) (by omega) (by unfold maxLen; omega) (by omega) (by simp; omega) (w5.heap.size + 1) (by simp) ?_; intro g6 c6 w6 hown6 hgrow6 _ _; have hl6 := own_ltJ hP5.out.2.2.1; have hE6 : Blk w6 pb 66 #[.int .i64 f, .int .i64 b, .slice (some ⟨gg, 0, none⟩) (k + 1) c5, .slice Aq (cumT len k + j) cq] := (hP5.out.1.alloc _).grown hgrow6 (by intro e; have := (hl6 _ e.symm).1; omega); have x6 : w6.cell? ⟨pb, 3, none⟩ = some (.slice Aq (cumT len k + j) cq) := hE6.cell 3; have f6 := hE6.frozen 3)
              | (go_simp; go_at_call 82; refine (moved_any (g k j) (cumT len k) wA.drew (by omega) (by omega) ⟨e1, e2⟩ ⟨e3, e4⟩).mono ?_; rintro e w4 ⟨rfl, hb4⟩; have hP4 := hid (hPd.out.below hb4); have x4 : w4.cell? ⟨pb, 3, none⟩ = some (.slice Aq (cumT len k + j) cq) := hP4.out.1.cell 3)
              | (go_simp; go_at_call 81; refine (wordOf_any (mvN (g k j) (cumT len k)) w4).mono ?_; rintro e w5 ⟨rfl, hb5⟩; have hP5 := hid (hP4.out.below hb5); have x5 : w5.cell? ⟨pb, 3, none⟩ = some (.slice Aq (cumT len k + j) cq) := hP5.out.1.cell 3; have x5a : (w5.alloc (.cells #[.int .u64 (wdN (mvN (g k j) (cumT len k)))] 118)).cell? ⟨pb, 3, none⟩ = some (.slice Aq (cumT len k + j) cq) := (hP5.out.1.alloc _).cell 3; have hp5 : pb < w5.heap.size := hP5.out.1.lt))
          all_goals
            have hown6' : w6.ownsRow (pb + 1) 118 1 (.slice (some ⟨g6, 0, none⟩) (cumT len k + j + 1) c6) (cumT len k + j + 1) (wdsOf (cumT len k + j + 1) (wordZ len g n)) := by rw [wdsOf_succ, hW.out]; exact hown6
            have HQ' := hid (hP5.out.word hp0 hown6' hgrow6)
            clear hown6 hown6' hgrow6 hl6 hE6 hP5 hP4 hPd hb4 hb5 x4 x5 x5a x6 f6 xA b0 b1 b2 b3 b4 b5
            go_wp2_with fail
            go_roundw
            case rel => exact ⟨j + 1, _, _, by omega, by go_num, HQ'⟩
            case measure => simp [intOf]; omega
        · obtain rfl : j = len k := by omega
          clear q1 q2 q3 q4 q5
          go_wp2_with fail
          go_roundw
          case rel => exact ⟨k + 1, some ⟨gg, 0, none⟩, c5, Aq, cq, by omega, by go_num, fun h => absurd h (by omega), hQ⟩
          case measure => simp [intOf]; omega
    · obtain rfl : k = n := by omega
      have hpw := h1.lt
      clear hM
      go_wp2_with (first
        | (refine wpList_load_row rfl 66 _ rfl pb rfl 66 #[.int .i64 f, .int .i64 b, .slice Ar k cr, .slice Aw (cumT len k) cw] _ _ h1 Tryz.underlying66 rfl size_packed ?_)
        | (refine wpList_store_row rfl 66 _ _ rfl (w.heap.size + 1) #[.int .i64 f, .int .i64 b, .slice Ar k cr, .slice Aw (cumT len k) cw] rfl rfl 66 _ h4 size_packed rfl (by simp [Value.oneCell']) ?_))
      refine bodyPost_ret (results_cell_row rfl _ _ (w.heap.size + 1) 66 #[.int .i64 f, .int .i64 b, .slice Ar k cr, .slice Aw (cumT len k) cw] (0, 0) _ rfl (setRow_heap _ _ _ _ _ _ h4) Tryz.underlying66 rfl size_packed) rfl ?_
      exact ⟨Ar, cr, Aw, cw, rfl, hr0.out, own_moreF (own_keepJ h2 fun g hg _ _ => setRow_other _ _ _ _ (by omega)) (by omega), own_moreF (own_keepJ h3 fun g hg _ _ => setRow_other _ _ _ _ (by omega)) (by omega), below_setRow h5 (by omega) _⟩

/-! ### FlE -/
section
variable {w : World} {B n p q : Nat} {As : Nat → Option Addr} {cs : Nat → Nat} {zs : Nat → Nat → Int}
end

set_option maxRecDepth 100000 in
set_option maxHeartbeats 1000000 in
theorem cloneI_any (A : Option Addr) (n c : Nat) (z : Nat → Int) (w : World) (h : Rd w w.heap.size A n z) (h0 : n = 0 → A = none ∧ c = 0) (hn : n ≤ 100) :
    Calls Tryz.prog 83 #[.slice A n c] w fun e w' => ∃ A' c', e = .returned (.slice A' n c') ∧ w'.ownsRow w.heap.size 2 1 (.slice A' n c') n (numsOf n z) ∧ Below w.heap.size w w' := by
  obtain ⟨i0, hi0, hz0, hz1, hz2⟩ := info_parts info_int
  by_cases hp : 0 < n
  · obtain ⟨b, off, rfl, hb, hC⟩ := h hp
    have HC := hid hC
    clear hC h0
    have q : ∀ (w : World) (a : Option Addr) (n c n' c' : Nat), (binOp .eql 27 (.slice a n c) (.slice none n' c')).run Tryz.prog w = .ok (.bool a.isNone) w := fun w a n c n' c' => Lib.run_eql_slice_nil w _ _ a n c n' c' Tryz.underlying27
    go_enter Tryz.func83, Tryz.ntmps83
    go_wp2_with (at_builtin; refine wpList_append_own _ rfl (.tmp 5) (.tmp 6) 27 rfl w.heap.size 2 i0 (.int .i64 0) 1 8 Tryz.underlying27 hi0 hz0 hz1 hz2 rfl (by decide) (.slice (some ⟨w.heap.size, 0, none⟩) 0 0) 0 [] rfl (World.ownsRow_made w #[] 0 (Nat.le_refl _) (by unfold maxLen; omega) rfl) ⟨b, off, none⟩ n c (numsOf n z) rfl (by rw [numsOf_len]; omega) (nums_src HC.out ((Below.refl _ _).alloc (Nat.le_refl _) _) hb) (numsOf_one _ _) (by unfold maxLen; omega) (by omega) (by simp) ?_)
    intro v5 w5 hown5 hg5 _
    obtain ⟨A5, c5, rfl⟩ := own_form hown5
    have hb5 : Below w.heap.size w w5 := ((Below.refl _ _).alloc (Nat.le_refl _) _).grown hg5 (by simp) (fun x hx => by simp [Value.ownBlock] at hx; omega)
    have HO : Hid (w5.ownsRow w.heap.size 2 1 (.slice A5 n c5) n (numsOf n z)) := hown5
    clear hown5 hg5 HC
    go_wp2_with fail
    go_ret
    exact ⟨A5, c5, rfl, HO.out, hb5⟩
  · obtain rfl : n = 0 := by omega
    obtain ⟨rfl, rfl⟩ := h0 rfl
    have q : ∀ (w : World) (a : Option Addr) (n c n' c' : Nat), (binOp .eql 27 (.slice a n c) (.slice none n' c')).run Tryz.prog w = .ok (.bool a.isNone) w := fun w a n c n' c' => Lib.run_eql_slice_nil w _ _ a n c n' c' Tryz.underlying27
    go_enter Tryz.func83, Tryz.ntmps83
    go_wp2_with fail
    go_ret
    exact ⟨none, 0, rfl, ⟨rfl, .inl ⟨rfl, rfl⟩⟩, Below.refl _ _⟩

/-! ### FlF -/
/-- Words to be read. -/
def RdW (w : World) (B : Nat) (A : Option Addr) (n : Nat) (z : Nat → Int) : Prop :=
  0 < n → ∃ b off, A = some ⟨b, off, none⟩ ∧ b < B ∧ ∀ i, i < n → w.cell? ⟨b, off + i, none⟩ = some (.int .u64 (z i))
theorem RdW.at_ {w : World} {B n k : Nat} {A : Option Addr} {z : Nat → Int} (h : RdW w B A n z) (hk : k < n) : ∃ b off, A = some ⟨b, off, none⟩ ∧ b < B ∧ w.cell? ⟨b, off + k, none⟩ = some (.int .u64 (z k)) := by
  obtain ⟨b, off, hA, hb, hC⟩ := h (by omega)
  exact ⟨b, off, hA, hb, hC k hk⟩
def flZ (zr zw : Nat → Int) : Nat → Nat → Int
  | 0 => zr
  | 1 => fun p => (ndW (zw p)).feat
  | 2 => fun p => (ndW (zw p)).cut
  | 3 => fun p => (ndW (zw p)).left
  | 4 => fun p => (ndW (zw p)).right
  | 5 => fun p => zw p / 16777216 % 256
  | _ => fun p => (ndW (zw p)).value
/-- A flat that is being made: its cell fb, its lists. -/
def Flatting (w0 : World) (fb : Nat) (f b : Int) (As : Nat → Option Addr) (cs : Nat → Nat) (n p q : Nat) (zs : Nat → Nat → Int) (w : World) : Prop :=
  Blk w fb 41 (flC f b As cs n p q) ∧ Lists w w0.heap.size As cs n p q zs ∧ Blk w (w0.heap.size + 1) 41 nilF ∧ w0.heap.size + 1 < fb ∧ Below w0.heap.size w0 w
section
variable {w0 w : World} {fb n p q : Nat} {f b : Int} {As : Nat → Option Addr} {cs : Nat → Nat} {zs : Nat → Nat → Int}
theorem Flatting.below {w' : World} (h : Flatting w0 fb f b As cs n p q zs w) (hb : Below w.heap.size w w') : Flatting w0 fb f b As cs n p q zs w' := by
  obtain ⟨h1, h2, h3, h4, h5⟩ := h
  exact ⟨h1.below hb h1.lt, h2.below hb, h3.below hb h3.lt, h4, h5.trans (hb.mono h5.size)⟩
theorem Flatting.drew (h : Flatting w0 fb f b As cs n p q zs w) : Flatting w0 fb f b As cs n p q zs w.drew := by
  obtain ⟨h1, h2, h3, h4, h5⟩ := h
  exact ⟨h1, h2, h3, h4, ⟨h5.os, h5.tape, h5.output, h5.size, h5.block⟩⟩
theorem Flatting.full (h : Flatting w0 fb f b As cs n p 6 zs w) : Flatting w0 fb f b As cs n (p + 1) 0 zs w := ⟨h.1, h.2.1.full, h.2.2⟩
theorem nums_ne_flat : (2 : TypeId) ≠ 41 := by decide
theorem Flatting.ownNe (h : Flatting w0 fb f b As cs n p q zs w) {j : Nat} (hj : j < 7) {x : Nat} {t : TypeId} {c : Array Value} (hb : Blk w x t c) (hne : 2 ≠ t) : some x ≠ (slF As cs n p q j).ownBlock := own_blk_ne (h.2.1 j hj).1 hb hne
/-- A block of another kind is as it was behind an append and the store of its list. -/
theorem Flatting.other (h : Flatting w0 fb f b As cs n p q zs w) {j o : Nat} (hj : j < 7) {x : Nat} {t : TypeId} {c : Array Value} {O : Obj} {w5 : World} {u : Value} (hb : Blk w x t c) (hne : 2 ≠ t) (hx : x ≠ fb) (hg : (w.alloc O).grownBy w5 (slF As cs n p q j).ownBlock) : Blk (w5.setCell ⟨fb, o, none⟩ u) x t c :=
  ((hb.alloc O).grown hg (h.ownNe hj hb hne)).far (p := ⟨fb, o, none⟩) hx u
theorem Flatting.cellOf (h : Flatting w0 fb f b As cs n p q zs w) {j : Nat} (hj : j < 7) {O : Obj} {w5 : World} (hg : (w.alloc O).grownBy w5 (slF As cs n p q j).ownBlock) : Blk w5 fb 41 (flC f b As cs n p q) :=
  (h.1.alloc O).grown hg (h.ownNe hj h.1 nums_ne_flat)
theorem Flatting.step {w5 : World} {j gg c5 m n' p' q' : Nat} {O : Obj} (h : Flatting w0 fb f b As cs n p q zs w) (hj : j < 7) (hm : nsF n p q j = m) (hm' : nsF n' p' q' j = m + 1) (ho : ∀ i, i ≠ j → nsF n' p' q' i = nsF n p q i)
    (hown : w5.ownsRow w0.heap.size 2 1 (.slice (some ⟨gg, 0, none⟩) (m + 1) c5) (m + 1) (numsOf (m + 1) (zs j))) (hg : (w.alloc O).grownBy w5 (Value.slice (As j) m (cs j)).ownBlock) (hat : (Value.slice (As j) m (cs j)).ownBlock = some gg ∨ gg = w.heap.size + 1)
    (hrow : (flC f b As cs n p q).setIfInBounds (j + 2) (.slice (some ⟨gg, 0, none⟩) (m + 1) c5) = flC f b (upF As j (some ⟨gg, 0, none⟩)) (upF cs j c5) n' p' q') :
    Flatting w0 fb f b (upF As j (some ⟨gg, 0, none⟩)) (upF cs j c5) n' p' q' zs (w5.setCell ⟨fb, j + 2, none⟩ (.slice (some ⟨gg, 0, none⟩) (m + 1) c5)) := by
  have hg' : (w.alloc O).grownBy w5 (slF As cs n p q j).ownBlock := by subst hm; exact hg
  obtain ⟨h1, h2, h3, h4, h5⟩ := id h
  refine ⟨?_, ?_, h.other hj h3 nums_ne_flat (by omega) hg', h4, ?_⟩
  · have := (h.cellOf hj hg').set_ (j + 2) (.slice (some ⟨gg, 0, none⟩) (m + 1) c5)
    rw [hrow] at this
    exact this
  · exact (h2.step hj hm hm' ho hown hg hat).keep fun x c _ hc => Below.heap_setCell _ _ _ x (by
      intro e
      have e : x = fb := e
      subst e
      exact (hc.ne_ (h.cellOf hj hg') nums_ne_flat) rfl)
  · have hl := own_ltJ (h2 j hj).1
    exact ((h5.alloc (by have := h1.lt; have := h5.size; omega) O).grown hg' (by rw [World.size_alloc]; have := h5.size; omega) (fun x hx => (hl x hx).1)).setCell (p := ⟨fb, j + 2, none⟩) (by show w0.heap.size ≤ fb; omega) _
end
theorem flC_root {f b : Int} {As : Nat → Option Addr} {cs : Nat → Nat} {n p gg c5 : Nat} : (flC f b As cs n p 0).setIfInBounds (0 + 2) (.slice (some ⟨gg, 0, none⟩) (n + 1) c5) = flC f b (upF As 0 (some ⟨gg, 0, none⟩)) (upF cs 0 c5) (n + 1) p 0 := rfl
theorem flC_1 {f b : Int} {As : Nat → Option Addr} {cs : Nat → Nat} {n p gg c5 : Nat} : (flC f b As cs n p 0).setIfInBounds (1 + 2) (.slice (some ⟨gg, 0, none⟩) (p + 1) c5) = flC f b (upF As 1 (some ⟨gg, 0, none⟩)) (upF cs 1 c5) n p 1 := rfl
theorem flC_2 {f b : Int} {As : Nat → Option Addr} {cs : Nat → Nat} {n p gg c5 : Nat} : (flC f b As cs n p 1).setIfInBounds (2 + 2) (.slice (some ⟨gg, 0, none⟩) (p + 1) c5) = flC f b (upF As 2 (some ⟨gg, 0, none⟩)) (upF cs 2 c5) n p 2 := rfl
theorem flC_3 {f b : Int} {As : Nat → Option Addr} {cs : Nat → Nat} {n p gg c5 : Nat} : (flC f b As cs n p 2).setIfInBounds (3 + 2) (.slice (some ⟨gg, 0, none⟩) (p + 1) c5) = flC f b (upF As 3 (some ⟨gg, 0, none⟩)) (upF cs 3 c5) n p 3 := rfl
theorem flC_4 {f b : Int} {As : Nat → Option Addr} {cs : Nat → Nat} {n p gg c5 : Nat} : (flC f b As cs n p 3).setIfInBounds (4 + 2) (.slice (some ⟨gg, 0, none⟩) (p + 1) c5) = flC f b (upF As 4 (some ⟨gg, 0, none⟩)) (upF cs 4 c5) n p 4 := rfl
theorem flC_5 {f b : Int} {As : Nat → Option Addr} {cs : Nat → Nat} {n p gg c5 : Nat} : (flC f b As cs n p 4).setIfInBounds (5 + 2) (.slice (some ⟨gg, 0, none⟩) (p + 1) c5) = flC f b (upF As 5 (some ⟨gg, 0, none⟩)) (upF cs 5 c5) n p 5 := rfl
theorem flC_6 {f b : Int} {As : Nat → Option Addr} {cs : Nat → Nat} {n p gg c5 : Nat} : (flC f b As cs n p 5).setIfInBounds (6 + 2) (.slice (some ⟨gg, 0, none⟩) (p + 1) c5) = flC f b (upF As 6 (some ⟨gg, 0, none⟩)) (upF cs 6 c5) n p 6 := rfl

theorem size_flat : (Tryz.prog.info? 41).map (·.size) = some 9 := by kernel_rfl
theorem flC_one (f b : Int) (As : Nat → Option Addr) (cs : Nat → Nat) (n p q : Nat) : (flC f b As cs n p q).all (·.oneCell') = true := by simp [Value.oneCell']
/-- What a flat's maker leaves: the value, its lists, and nothing else touched. -/
def FlPost (w : World) (f b : Int) (n p : Nat) (zs : Nat → Nat → Int) (e : Ending) (w' : World) : Prop :=
  ∃ (As : Nat → Option Addr) (cs : Nat → Nat), e = .returned (.agg (flC f b As cs n p 0)) ∧ Lists w' w.heap.size As cs n p 0 zs ∧ Below w.heap.size w w'

/-! ### FlG -/
theorem heldP {w : World} {a n cr m cw : Nat} {f b : Int} {Ar Aw : Option Addr} (h : Blk w a 66 #[.int .i64 f, .int .i64 b, .slice Ar n cr, .slice Aw m cw]) :
    w.cell? ⟨a, 0, none⟩ = some (.int .i64 f) ∧ w.cell? ⟨a, 1, none⟩ = some (.int .i64 b) ∧ w.cell? ⟨a, 2, none⟩ = some (.slice Ar n cr) := ⟨h.cell 0, h.cell 1, h.cell 2⟩

theorem cells9 {w : World} {p : Nat} (h : Blk w p 41 nilF) :
    w.cell? ⟨p, 0, none⟩ = some (.int .i64 0) ∧ w.cell? ⟨p, 1, none⟩ = some (.int .i64 0) ∧ w.cell? ⟨p, 2, none⟩ = some (.slice none 0 0) ∧ w.cell? ⟨p, 3, none⟩ = some (.slice none 0 0) ∧ w.cell? ⟨p, 4, none⟩ = some (.slice none 0 0) ∧ w.cell? ⟨p, 5, none⟩ = some (.slice none 0 0) ∧ w.cell? ⟨p, 6, none⟩ = some (.slice none 0 0) ∧ w.cell? ⟨p, 7, none⟩ = some (.slice none 0 0) ∧ w.cell? ⟨p, 8, none⟩ = some (.slice none 0 0) ∧ w.frozen? ⟨p, 0, none⟩ = false ∧ w.frozen? ⟨p, 1, none⟩ = false ∧ w.frozen? ⟨p, 2, none⟩ = false ∧ w.frozen? ⟨p, 3, none⟩ = false ∧ w.frozen? ⟨p, 4, none⟩ = false ∧ w.frozen? ⟨p, 5, none⟩ = false ∧ w.frozen? ⟨p, 6, none⟩ = false ∧ w.frozen? ⟨p, 7, none⟩ = false ∧ w.frozen? ⟨p, 8, none⟩ = false :=
  ⟨h.cell 0, h.cell 1, h.cell 2, h.cell 3, h.cell 4, h.cell 5, h.cell 6, h.cell 7, h.cell 8, h.frozen 0, h.frozen 1, h.frozen 2, h.frozen 3, h.frozen 4, h.frozen 5, h.frozen 6, h.frozen 7, h.frozen 8⟩
theorem set9 {w : World} {p : Nat} (h : Blk w p 41 nilF) (u0 u1 u2 u3 u4 u5 u6 u7 u8 : Value) :
    Blk (World.setCell (World.setCell (World.setCell (World.setCell (World.setCell (World.setCell (World.setCell (World.setCell (World.setCell w ⟨p, 0, none⟩ u0) ⟨p, 1, none⟩ u1) ⟨p, 2, none⟩ u2) ⟨p, 3, none⟩ u3) ⟨p, 4, none⟩ u4) ⟨p, 5, none⟩ u5) ⟨p, 6, none⟩ u6) ⟨p, 7, none⟩ u7) ⟨p, 8, none⟩ u8) p 41 #[u0, u1, u2, u3, u4, u5, u6, u7, u8] := by
  have h0 : Blk (World.setCell w ⟨p, 0, none⟩ u0) p 41 #[u0, .int .i64 0, .slice none 0 0, .slice none 0 0, .slice none 0 0, .slice none 0 0, .slice none 0 0, .slice none 0 0, .slice none 0 0] := Blk.set_ h 0 u0
  have h1 : Blk (World.setCell (World.setCell w ⟨p, 0, none⟩ u0) ⟨p, 1, none⟩ u1) p 41 #[u0, u1, .slice none 0 0, .slice none 0 0, .slice none 0 0, .slice none 0 0, .slice none 0 0, .slice none 0 0, .slice none 0 0] := Blk.set_ h0 1 u1
  have h2 : Blk (World.setCell (World.setCell (World.setCell w ⟨p, 0, none⟩ u0) ⟨p, 1, none⟩ u1) ⟨p, 2, none⟩ u2) p 41 #[u0, u1, u2, .slice none 0 0, .slice none 0 0, .slice none 0 0, .slice none 0 0, .slice none 0 0, .slice none 0 0] := Blk.set_ h1 2 u2
  have h3 : Blk (World.setCell (World.setCell (World.setCell (World.setCell w ⟨p, 0, none⟩ u0) ⟨p, 1, none⟩ u1) ⟨p, 2, none⟩ u2) ⟨p, 3, none⟩ u3) p 41 #[u0, u1, u2, u3, .slice none 0 0, .slice none 0 0, .slice none 0 0, .slice none 0 0, .slice none 0 0] := Blk.set_ h2 3 u3
  have h4 : Blk (World.setCell (World.setCell (World.setCell (World.setCell (World.setCell w ⟨p, 0, none⟩ u0) ⟨p, 1, none⟩ u1) ⟨p, 2, none⟩ u2) ⟨p, 3, none⟩ u3) ⟨p, 4, none⟩ u4) p 41 #[u0, u1, u2, u3, u4, .slice none 0 0, .slice none 0 0, .slice none 0 0, .slice none 0 0] := Blk.set_ h3 4 u4
  have h5 : Blk (World.setCell (World.setCell (World.setCell (World.setCell (World.setCell (World.setCell w ⟨p, 0, none⟩ u0) ⟨p, 1, none⟩ u1) ⟨p, 2, none⟩ u2) ⟨p, 3, none⟩ u3) ⟨p, 4, none⟩ u4) ⟨p, 5, none⟩ u5) p 41 #[u0, u1, u2, u3, u4, u5, .slice none 0 0, .slice none 0 0, .slice none 0 0] := Blk.set_ h4 5 u5
  have h6 : Blk (World.setCell (World.setCell (World.setCell (World.setCell (World.setCell (World.setCell (World.setCell w ⟨p, 0, none⟩ u0) ⟨p, 1, none⟩ u1) ⟨p, 2, none⟩ u2) ⟨p, 3, none⟩ u3) ⟨p, 4, none⟩ u4) ⟨p, 5, none⟩ u5) ⟨p, 6, none⟩ u6) p 41 #[u0, u1, u2, u3, u4, u5, u6, .slice none 0 0, .slice none 0 0] := Blk.set_ h5 6 u6
  have h7 : Blk (World.setCell (World.setCell (World.setCell (World.setCell (World.setCell (World.setCell (World.setCell (World.setCell w ⟨p, 0, none⟩ u0) ⟨p, 1, none⟩ u1) ⟨p, 2, none⟩ u2) ⟨p, 3, none⟩ u3) ⟨p, 4, none⟩ u4) ⟨p, 5, none⟩ u5) ⟨p, 6, none⟩ u6) ⟨p, 7, none⟩ u7) p 41 #[u0, u1, u2, u3, u4, u5, u6, u7, .slice none 0 0] := Blk.set_ h6 7 u7
  have h8 : Blk (World.setCell (World.setCell (World.setCell (World.setCell (World.setCell (World.setCell (World.setCell (World.setCell (World.setCell w ⟨p, 0, none⟩ u0) ⟨p, 1, none⟩ u1) ⟨p, 2, none⟩ u2) ⟨p, 3, none⟩ u3) ⟨p, 4, none⟩ u4) ⟨p, 5, none⟩ u5) ⟨p, 6, none⟩ u6) ⟨p, 7, none⟩ u7) ⟨p, 8, none⟩ u8) p 41 #[u0, u1, u2, u3, u4, u5, u6, u7, u8] := Blk.set_ h7 8 u8
  exact h8
theorem heap9 {w : World} {p x : Nat} (hx : x ≠ p) (u0 u1 u2 u3 u4 u5 u6 u7 u8 : Value) : ((World.setCell (World.setCell (World.setCell (World.setCell (World.setCell (World.setCell (World.setCell (World.setCell (World.setCell w ⟨p, 0, none⟩ u0) ⟨p, 1, none⟩ u1) ⟨p, 2, none⟩ u2) ⟨p, 3, none⟩ u3) ⟨p, 4, none⟩ u4) ⟨p, 5, none⟩ u5) ⟨p, 6, none⟩ u6) ⟨p, 7, none⟩ u7) ⟨p, 8, none⟩ u8)).heap[x]? = w.heap[x]? :=
  (Below.heap_setCell _ _ _ x hx).trans ((Below.heap_setCell _ _ _ x hx).trans ((Below.heap_setCell _ _ _ x hx).trans ((Below.heap_setCell _ _ _ x hx).trans ((Below.heap_setCell _ _ _ x hx).trans ((Below.heap_setCell _ _ _ x hx).trans ((Below.heap_setCell _ _ _ x hx).trans ((Below.heap_setCell _ _ _ x hx).trans (Below.heap_setCell _ _ _ x hx))))))))
theorem below9 {a w : World} {B p : Nat} (h : Below B a w) (hB : B ≤ p) (u0 u1 u2 u3 u4 u5 u6 u7 u8 : Value) : Below B a (World.setCell (World.setCell (World.setCell (World.setCell (World.setCell (World.setCell (World.setCell (World.setCell (World.setCell w ⟨p, 0, none⟩ u0) ⟨p, 1, none⟩ u1) ⟨p, 2, none⟩ u2) ⟨p, 3, none⟩ u3) ⟨p, 4, none⟩ u4) ⟨p, 5, none⟩ u5) ⟨p, 6, none⟩ u6) ⟨p, 7, none⟩ u7) ⟨p, 8, none⟩ u8) :=
  (Below.setCell (Below.setCell (Below.setCell (Below.setCell (Below.setCell (Below.setCell (Below.setCell (Below.setCell (Below.setCell h (p := ⟨p, 0, none⟩) hB u0) (p := ⟨p, 1, none⟩) hB u1) (p := ⟨p, 2, none⟩) hB u2) (p := ⟨p, 3, none⟩) hB u3) (p := ⟨p, 4, none⟩) hB u4) (p := ⟨p, 5, none⟩) hB u5) (p := ⟨p, 6, none⟩) hB u6) (p := ⟨p, 7, none⟩) hB u7) (p := ⟨p, 8, none⟩) hB u8)
theorem blk9 {w : World} {p a : Nat} {t : TypeId} {c : Array Value} (h : Blk w a t c) (hp : a ≠ p) (u0 u1 u2 u3 u4 u5 u6 u7 u8 : Value) : Blk (World.setCell (World.setCell (World.setCell (World.setCell (World.setCell (World.setCell (World.setCell (World.setCell (World.setCell w ⟨p, 0, none⟩ u0) ⟨p, 1, none⟩ u1) ⟨p, 2, none⟩ u2) ⟨p, 3, none⟩ u3) ⟨p, 4, none⟩ u4) ⟨p, 5, none⟩ u5) ⟨p, 6, none⟩ u6) ⟨p, 7, none⟩ u7) ⟨p, 8, none⟩ u8) a t c := (heap9 hp u0 u1 u2 u3 u4 u5 u6 u7 u8).trans h
theorem heldP9 {w : World} {a n cr m cw p : Nat} {f b : Int} {Ar Aw : Option Addr} (h : Blk w a 66 #[.int .i64 f, .int .i64 b, .slice Ar n cr, .slice Aw m cw]) (hp : a ≠ p) (u0 u1 u2 u3 u4 u5 u6 u7 u8 : Value) :
    World.cell? (World.setCell (World.setCell (World.setCell (World.setCell (World.setCell (World.setCell (World.setCell (World.setCell (World.setCell w ⟨p, 0, none⟩ u0) ⟨p, 1, none⟩ u1) ⟨p, 2, none⟩ u2) ⟨p, 3, none⟩ u3) ⟨p, 4, none⟩ u4) ⟨p, 5, none⟩ u5) ⟨p, 6, none⟩ u6) ⟨p, 7, none⟩ u7) ⟨p, 8, none⟩ u8) ⟨a, 0, none⟩ = some (.int .i64 f) ∧ World.cell? (World.setCell (World.setCell (World.setCell (World.setCell (World.setCell (World.setCell (World.setCell (World.setCell (World.setCell w ⟨p, 0, none⟩ u0) ⟨p, 1, none⟩ u1) ⟨p, 2, none⟩ u2) ⟨p, 3, none⟩ u3) ⟨p, 4, none⟩ u4) ⟨p, 5, none⟩ u5) ⟨p, 6, none⟩ u6) ⟨p, 7, none⟩ u7) ⟨p, 8, none⟩ u8) ⟨a, 1, none⟩ = some (.int .i64 b) ∧ World.cell? (World.setCell (World.setCell (World.setCell (World.setCell (World.setCell (World.setCell (World.setCell (World.setCell (World.setCell w ⟨p, 0, none⟩ u0) ⟨p, 1, none⟩ u1) ⟨p, 2, none⟩ u2) ⟨p, 3, none⟩ u3) ⟨p, 4, none⟩ u4) ⟨p, 5, none⟩ u5) ⟨p, 6, none⟩ u6) ⟨p, 7, none⟩ u7) ⟨p, 8, none⟩ u8) ⟨a, 2, none⟩ = some (.slice Ar n cr) := heldP (blk9 h hp u0 u1 u2 u3 u4 u5 u6 u7 u8)
theorem flatting_first {w w1 : World} {fb n c' : Nat} {f b : Int} {A' : Option Addr} {zr zw : Nat → Int} (hF : Blk w1 fb 41 (flC f b (oneF A') (oneC c') n 0 0)) (hR : Blk w1 (w.heap.size + 1) 41 nilF) (hfb : w.heap.size + 1 < fb)
    (ho : w1.ownsRow w.heap.size 2 1 (.slice A' n c') n (numsOf n zr)) (hb : Below w.heap.size w w1) : Flatting w fb f b (oneF A') (oneC c') n 0 0 (flZ zr zw) w1 := by
  refine ⟨hF, fun j hj => ?_, hR, hfb, hb⟩
  cases j with
  | zero => exact ⟨ho, fun i hi => absurd hi (by omega)⟩
  | succ j =>
    have e : nsF n 0 0 (j + 1) = 0 := by simp only [nsF]; rw [if_neg (by omega)]
    have e2 : slF (oneF A') (oneC c') n 0 0 (j + 1) = .slice none 0 0 := by show Value.slice none _ 0 = _; rw [e]
    rw [e2, e]
    exact ⟨⟨rfl, .inl ⟨rfl, rfl⟩⟩, fun i _ x hx => by cases hx⟩
theorem flatting_late {w W0 wC : World} {p n c' : Nat} {f b : Int} {A' : Option Addr} {zr zw : Nat → Int} (hF : Blk wC p 41 nilF) (hR : Blk W0 (w.heap.size + 1) 41 nilF) (hW : Below W0.heap.size W0 wC) (hp : w.heap.size + 1 < p)
    (ho : wC.ownsRow W0.heap.size 2 1 (.slice A' n c') n (numsOf n zr)) (hb0 : Below w.heap.size w W0) : Flatting w p f b (oneF A') (oneC c') n 0 0 (flZ zr zw) (World.setCell (World.setCell (World.setCell (World.setCell (World.setCell (World.setCell (World.setCell (World.setCell (World.setCell wC ⟨p, 0, none⟩ (.int .i64 f)) ⟨p, 1, none⟩ (.int .i64 b)) ⟨p, 2, none⟩ (.slice A' n c')) ⟨p, 3, none⟩ (.slice none 0 0)) ⟨p, 4, none⟩ (.slice none 0 0)) ⟨p, 5, none⟩ (.slice none 0 0)) ⟨p, 6, none⟩ (.slice none 0 0)) ⟨p, 7, none⟩ (.slice none 0 0)) ⟨p, 8, none⟩ (.slice none 0 0)) := by
  have hRC := hR.below hW hR.lt
  refine flatting_first (set9 hF (.int .i64 f) (.int .i64 b) (.slice A' n c') (.slice none 0 0) (.slice none 0 0) (.slice none 0 0) (.slice none 0 0) (.slice none 0 0) (.slice none 0 0)) (blk9 hRC (by omega) (.int .i64 f) (.int .i64 b) (.slice A' n c') (.slice none 0 0) (.slice none 0 0) (.slice none 0 0) (.slice none 0 0) (.slice none 0 0) (.slice none 0 0)) hp ?_ (below9 (hb0.trans (hW.mono hb0.size)) (by omega) (.int .i64 f) (.int .i64 b) (.slice A' n c') (.slice none 0 0) (.slice none 0 0) (.slice none 0 0) (.slice none 0 0) (.slice none 0 0) (.slice none 0 0))
  refine own_moreF (own_keepJ ho fun g _ _ hgo => heap9 ?_ (.int .i64 f) (.int .i64 b) (.slice A' n c') (.slice none 0 0) (.slice none 0 0) (.slice none 0 0) (.slice none 0 0) (.slice none 0 0) (.slice none 0 0)) hb0.size
  intro e
  subst e
  obtain ⟨_, _, c, hc⟩ := own_ltJ ho _ hgo
  exact (hc.ne_ hF nums_ne_flat) rfl
theorem cell_one_at (w : World) (t : TypeId) (u : Value) {b : Nat} (hb : w.heap.size = b) : ∀ j v, [u][j]? = some v → (w.alloc (.cells #[u] t)).cell? (Addr.add ⟨b, 0, none⟩ j) = some v := by
  subst hb
  exact cell_one_newF w t u
theorem nums_ne_node : (2 : TypeId) ≠ 80 := by decide
theorem namedC {P : Program} {f : FuncId} {args : Array Value} {w : World} {Q : Ending → World → Prop} (h : ∀ X : World, X = w → Calls P f args X Q) : Calls P f args w Q := h w rfl
set_option maxRecDepth 100000 in
set_option maxHeartbeats 4000000 in
theorem flat_any (f b : Int) (Ar : Option Addr) (n cr : Nat) (zr : Nat → Int) (Aw : Option Addr) (m cw : Nat) (zw : Nat → Int) (w : World) (hr : Rd w w.heap.size Ar n zr) (hr0 : n = 0 → Ar = none ∧ cr = 0) (hw : RdW w w.heap.size Aw m zw) (hn : n ≤ 12) (hm : m ≤ 180) :
    Calls Tryz.prog 46 #[.agg #[.int .i64 f, .int .i64 b, .slice Ar n cr, .slice Aw m cw]] w (FlPost w f b n m (flZ zr zw)) := by
  obtain ⟨i0, hi0, hz0, hz1, hz2⟩ := info_parts info_int
  go_enter Tryz.func46, Tryz.ntmps46
  go_wp2_with fail
  have hP := (Blk.new w 66 #[.int .i64 f, .int .i64 b, .slice Ar n cr, .slice Aw m cw]).alloc (.cells nilF 41)
  have hR := Blk.new2 w (.cells #[.int .i64 f, .int .i64 b, .slice Ar n cr, .slice Aw m cw] 66) 41 nilF
  have hb0 := ((Below.refl w.heap.size w).alloc (Nat.le_refl _) (.cells #[.int .i64 f, .int .i64 b, .slice Ar n cr, .slice Aw m cw] 66)).alloc (by simp) (.cells nilF 41)
  have hs0 : ((w.alloc (.cells #[.int .i64 f, .int .i64 b, .slice Ar n cr, .slice Aw m cw] 66)).alloc (.cells nilF 41)).heap.size = w.heap.size + 2 := by simp
  generalize (w.alloc (.cells #[.int .i64 f, .int .i64 b, .slice Ar n cr, .slice Aw m cw] 66)).alloc (.cells nilF 41) = W0 at *
  have hHs : Hid (W0.heap.size = w.heap.size + 2) := hs0
  have hWs : w.heap.size + 1 < W0.heap.size := by omega
  clear hs0
  go_cut [3] (fun s3 wx => ∃ (fb : Nat) (As : Nat → Option Addr) (cs : Nat → Nat), s3 = .pointer (some ⟨fb, 0, none⟩) ∧ Flatting w fb f b As cs n 0 0 (flZ zr zw) wx ∧ Blk wx w.heap.size 66 #[.int .i64 f, .int .i64 b, .slice Ar n cr, .slice Aw m cw])
  case first =>
    have hPd : Blk W0.drew w.heap.size 66 #[.int .i64 f, .int .i64 b, .slice Ar n cr, .slice Aw m cw] := hP
    have hPe : Blk (W0.alloc (.cells nilF 41)).drew w.heap.size 66 #[.int .i64 f, .int .i64 b, .slice Ar n cr, .slice Aw m cw] := hP.alloc _
    have hbd : Below W0.heap.size W0 W0.drew := (Below.refl W0.heap.size W0).drew
    have hbe : Below W0.heap.size W0 (W0.alloc (.cells nilF 41)).drew := ((Below.refl W0.heap.size W0).alloc (Nat.le_refl _) _).drew
    have hFe : Blk (W0.alloc (.cells nilF 41)).drew W0.heap.size 41 nilF := Blk.new W0 _ _
    go_region_held3 (fun w' => w'.cell? ⟨w.heap.size, 0, none⟩ = some (.int .i64 f) ∧ w'.cell? ⟨w.heap.size, 1, none⟩ = some (.int .i64 b) ∧ w'.cell? ⟨w.heap.size, 2, none⟩ = some (.slice Ar n cr))
      (first | with_reducible exact heldP hPd | with_reducible exact heldP hPe | with_reducible exact heldP hPC | with_reducible exact heldP (hPC.alloc _) | with_reducible exact heldP9 hPC (by omega) _ _ _ _ _ _ _ _ _ | with_reducible exact heldP9 (hPC.alloc _) (by omega) _ _ _ _ _ _ _ _ _)
      (first | (go_at_call 83; refine namedC ?_; intro X hX; have hPx : Blk X w.heap.size 66 #[.int .i64 f, .int .i64 b, .slice Ar n cr, .slice Aw m cw] := (by first | (rw [hX]; first | with_reducible exact hPd | with_reducible exact hPe) | (first | with_reducible exact hPd | with_reducible exact hPe)); have hbx : Below W0.heap.size W0 X := (by first | (rw [hX]; first | with_reducible exact hbd | with_reducible exact hbe) | (first | with_reducible exact hbd | with_reducible exact hbe)); (first | (have hFx : Blk X W0.heap.size 41 nilF := (by rw [hX]; with_reducible exact hFe)) | skip); refine (cloneI_any Ar n cr zr X ((hr.below (hb0.trans (hbx.mono hb0.size))).more (Nat.le_trans hb0.size hbx.size)) hr0 (by omega)).mono ?_; rintro e wC ⟨A', c', rfl, hoC, hbC⟩; have hPC := hPx.below hbC hPx.lt; have hwC := hbx.trans (hbC.mono hbx.size); (first | (have hFC : Blk wC W0.heap.size 41 nilF := (by with_reducible exact hFx.below hbC hFx.lt); obtain ⟨y0, y1, y2, y3, y4, y5, y6, y7, y8, g0, g1, g2, g3, g4, g5, g6, g7, g8⟩ := cells9 hFC) | skip); have hoC' := own_moreF hoC hbx.size; (try clear hFx); clear hPx hbx hoC hbC))
    all_goals
      go_wp2_with fail
      go_meet
      first
        | (have R2 := flatting_late (f := f) (b := b) (zw := zw) hFC hR hwC hWs hoC' hb0
           exact ⟨W0.heap.size, oneF A', oneC c', rfl, R2, blk9 hPC (by omega) _ _ _ _ _ _ _ _ _⟩)
        | (have R1 : Flatting w wC.heap.size f b (oneF A') (oneC c') n 0 0 (flZ zr zw) (wC.alloc (.cells #[.int .i64 f, .int .i64 b, .slice A' n c', .slice none 0 0, .slice none 0 0, .slice none 0 0, .slice none 0 0, .slice none 0 0, .slice none 0 0] 41)) := flatting_first (Blk.new wC _ _) ((hR.below hwC hR.lt).alloc _) (by have := hPC.lt; have := hwC.size; omega) (own_moreF (hoC'.alloc _) hb0.size) ((hb0.trans (hwC.mono hb0.size)).alloc (by have := hwC.size; have := hb0.size; omega) _)
           exact ⟨wC.heap.size, oneF A', oneC c', rfl, R1, hPC.alloc _⟩)
  case rest =>
    obtain ⟨fb, As, cs, rfl, hF, hPc⟩ := hcut
    clear hP hR hHs hWs hb0
    generalize hWCe : wc = WC at *
    clear hWCe
    have q3 : WC.cell? ⟨w.heap.size, 3, none⟩ = some (.slice Aw m cw) := hPc.cell 3
    have HF := hid hF
    clear hF hPc
    go_wp2_with fail
    clear q3
    go_loopw [18] (fun i wr => ∃ (p : Nat) (As : Nat → Option Addr) (cs : Nat → Nat), p ≤ m ∧ i = .int .i64 p ∧ Hid (Flatting w fb f b As cs n p 0 (flZ zr zw) wr)) (fun i _ => m - (intOf i).toNat)
    case atStart => exact ⟨0, As, cs, Nat.zero_le _, rfl, HF⟩
    case round =>
      clear HF
      obtain ⟨p, As0, cs0, hp, rfl, HF⟩ := hrel
      by_cases hlt : p < m
      · obtain ⟨wb, wo, rfl, hwb, hwc0⟩ := hw.at_ hlt
        have hwc : wr.cell? ⟨wb, wo + p, none⟩ = some (.int .u64 (zw p)) := (HF.out.2.2.2.2.cell (p := ⟨wb, wo + p, none⟩) hwb).trans hwc0
        clear hwc0
        have i1 : (p : Int) < (m : Int) := by omega
        have i2 : (0 : Int) ≤ (p : Int) := by omega
        go_wp2_with fail
        refine (wnode_any (zw p) _).mono ?_
        rintro e wN ⟨rfl, hbN⟩
        have HF0 := hid ((HF.out.below hbN).below ((Below.refl wN.heap.size wN).alloc (Nat.le_refl _) (.cells (ndR (ndW (zw p))) 80)))
        have hN0 := Blk.new wN 80 (ndR (ndW (zw p)))
        have hnf : wN.heap.size ≠ fb := by have := (HF.out.below hbN).1.lt; omega
        clear hbN HF hwc
        have sz1 := HF0.out.1.lt
        have bs1 := HF0.out.2.2.2.2.size
        have o1 : (wN.alloc (.cells (ndR (ndW (zw p))) 80)).ownsRow w.heap.size 2 1 (.slice (As0 1) p (cs0 1)) p (numsOf p (flZ zr zw 1)) := (HF0.out.2.1 1 (by decide)).1
        have x1 : (wN.alloc (.cells (ndR (ndW (zw p))) 80)).cell? ⟨fb, 3, none⟩ = some (.slice (As0 1) p (cs0 1)) := HF0.out.1.cell 3
        have v1 : (wN.alloc (.cells (ndR (ndW (zw p))) 80)).cell? ⟨wN.heap.size, 0, none⟩ = some (.int .i64 (ndW (zw p)).feat) := hN0.cell 0
        have O1 := hid o1
        clear o1
        go_wp2_with (at_builtin; refine wpList_append_lies _ rfl (.tmp 25) (.tmp 28) 27 rfl w.heap.size 2 i0 (.int .i64 0) 1 8 Tryz.underlying27 hi0 hz0 hz1 hz2 rfl (by decide) (.slice (As0 1) p (cs0 1)) p (numsOf p (flZ zr zw 1)) rfl (O1.out.alloc _) ⟨wN.heap.size + 1, 0, none⟩ 1 1 [.int .i64 (ndW (zw p)).feat] rfl rfl (cell_one_at _ _ _ (by simp)) (by intro u hu; simp at hu; subst hu; rfl) (by omega) (by unfold maxLen; omega) (by omega) (by rw [World.size_alloc]; exact Nat.le_succ_of_le bs1) ((wN.alloc (.cells (ndR (ndW (zw p))) 80)).heap.size + 1) (by simp) ?_)
        intro gg1 cc1 w1 hown1 hgr1 hat1 _
        have hE1 := HF0.out.cellOf (j := 1) (by decide) hgr1
        have y1 : w1.cell? ⟨fb, 3, none⟩ = some (.slice (As0 1) p (cs0 1)) := hE1.cell 3
        have g1 := hE1.frozen 3
        have hN1 : Blk (w1.setCell ⟨fb, 3, none⟩ (.slice (some ⟨gg1, 0, none⟩) (p + 1) cc1)) wN.heap.size 80 (ndR (ndW (zw p))) := HF0.out.other (j := 1) (by decide) hN0 nums_ne_node hnf hgr1
        obtain ⟨As1, cs1, HF1⟩ : ∃ (As : Nat → Option Addr) (cs : Nat → Nat), Hid (Flatting w fb f b As cs n p 1 (flZ zr zw) (w1.setCell ⟨fb, 3, none⟩ (.slice (some ⟨gg1, 0, none⟩) (p + 1) cc1))) := ⟨_, _, HF0.out.step (j := 1) (by decide) rfl rfl (fun i hi => nsF_old hi) (by rw [numsOf_succF]; exact hown1) hgr1 (hat1.imp_right fun e => by rw [e]; simp) flC_1⟩
        clear hown1 hgr1 hat1 hE1 O1 HF0 hN0 x1 v1 sz1 bs1
        have sz2 := HF1.out.1.lt
        have bs2 := HF1.out.2.2.2.2.size
        have o2 : (w1.setCell ⟨fb, 3, none⟩ (.slice (some ⟨gg1, 0, none⟩) (p + 1) cc1)).ownsRow w.heap.size 2 1 (.slice (As1 2) p (cs1 2)) p (numsOf p (flZ zr zw 2)) := (HF1.out.2.1 2 (by decide)).1
        have x2 : (w1.setCell ⟨fb, 3, none⟩ (.slice (some ⟨gg1, 0, none⟩) (p + 1) cc1)).cell? ⟨fb, 4, none⟩ = some (.slice (As1 2) p (cs1 2)) := HF1.out.1.cell 4
        have v2 : (w1.setCell ⟨fb, 3, none⟩ (.slice (some ⟨gg1, 0, none⟩) (p + 1) cc1)).cell? ⟨wN.heap.size, 1, none⟩ = some (.int .i64 (ndW (zw p)).cut) := hN1.cell 1
        have O2 := hid o2
        clear o2
        go_wp2_with (at_builtin; refine wpList_append_lies _ rfl (.tmp 32) (.tmp 35) 27 rfl w.heap.size 2 i0 (.int .i64 0) 1 8 Tryz.underlying27 hi0 hz0 hz1 hz2 rfl (by decide) (.slice (As1 2) p (cs1 2)) p (numsOf p (flZ zr zw 2)) rfl (O2.out.alloc _) ⟨w1.heap.size, 0, none⟩ 1 1 [.int .i64 (ndW (zw p)).cut] rfl rfl (cell_one_at _ _ _ (by simp)) (by intro u hu; simp at hu; subst hu; rfl) (by omega) (by unfold maxLen; omega) (by omega) (by rw [World.size_alloc]; exact Nat.le_succ_of_le bs2) ((w1.setCell ⟨fb, 3, none⟩ (.slice (some ⟨gg1, 0, none⟩) (p + 1) cc1)).heap.size + 1) (by simp) ?_)
        intro gg2 cc2 w2 hown2 hgr2 hat2 _
        have hE2 := HF1.out.cellOf (j := 2) (by decide) hgr2
        have y2 : w2.cell? ⟨fb, 4, none⟩ = some (.slice (As1 2) p (cs1 2)) := hE2.cell 4
        have g2 := hE2.frozen 4
        have hN2 : Blk (w2.setCell ⟨fb, 4, none⟩ (.slice (some ⟨gg2, 0, none⟩) (p + 1) cc2)) wN.heap.size 80 (ndR (ndW (zw p))) := HF1.out.other (j := 2) (by decide) hN1 nums_ne_node hnf hgr2
        obtain ⟨As2, cs2, HF2⟩ : ∃ (As : Nat → Option Addr) (cs : Nat → Nat), Hid (Flatting w fb f b As cs n p 2 (flZ zr zw) (w2.setCell ⟨fb, 4, none⟩ (.slice (some ⟨gg2, 0, none⟩) (p + 1) cc2))) := ⟨_, _, HF1.out.step (j := 2) (by decide) rfl rfl (fun i hi => nsF_old hi) (by rw [numsOf_succF]; exact hown2) hgr2 (hat2.imp_right fun e => by rw [e]; simp) flC_2⟩
        clear hown2 hgr2 hat2 hE2 O2 HF1 hN1 x2 v2 sz2 bs2
        have sz3 := HF2.out.1.lt
        have bs3 := HF2.out.2.2.2.2.size
        have o3 : (w2.setCell ⟨fb, 4, none⟩ (.slice (some ⟨gg2, 0, none⟩) (p + 1) cc2)).ownsRow w.heap.size 2 1 (.slice (As2 3) p (cs2 3)) p (numsOf p (flZ zr zw 3)) := (HF2.out.2.1 3 (by decide)).1
        have x3 : (w2.setCell ⟨fb, 4, none⟩ (.slice (some ⟨gg2, 0, none⟩) (p + 1) cc2)).cell? ⟨fb, 5, none⟩ = some (.slice (As2 3) p (cs2 3)) := HF2.out.1.cell 5
        have v3 : (w2.setCell ⟨fb, 4, none⟩ (.slice (some ⟨gg2, 0, none⟩) (p + 1) cc2)).cell? ⟨wN.heap.size, 2, none⟩ = some (.int .i64 (ndW (zw p)).left) := hN2.cell 2
        have O3 := hid o3
        clear o3
        go_wp2_with (at_builtin; refine wpList_append_lies _ rfl (.tmp 39) (.tmp 42) 27 rfl w.heap.size 2 i0 (.int .i64 0) 1 8 Tryz.underlying27 hi0 hz0 hz1 hz2 rfl (by decide) (.slice (As2 3) p (cs2 3)) p (numsOf p (flZ zr zw 3)) rfl (O3.out.alloc _) ⟨w2.heap.size, 0, none⟩ 1 1 [.int .i64 (ndW (zw p)).left] rfl rfl (cell_one_at _ _ _ (by simp)) (by intro u hu; simp at hu; subst hu; rfl) (by omega) (by unfold maxLen; omega) (by omega) (by rw [World.size_alloc]; exact Nat.le_succ_of_le bs3) ((w2.setCell ⟨fb, 4, none⟩ (.slice (some ⟨gg2, 0, none⟩) (p + 1) cc2)).heap.size + 1) (by simp) ?_)
        intro gg3 cc3 w3 hown3 hgr3 hat3 _
        have hE3 := HF2.out.cellOf (j := 3) (by decide) hgr3
        have y3 : w3.cell? ⟨fb, 5, none⟩ = some (.slice (As2 3) p (cs2 3)) := hE3.cell 5
        have g3 := hE3.frozen 5
        have hN3 : Blk (w3.setCell ⟨fb, 5, none⟩ (.slice (some ⟨gg3, 0, none⟩) (p + 1) cc3)) wN.heap.size 80 (ndR (ndW (zw p))) := HF2.out.other (j := 3) (by decide) hN2 nums_ne_node hnf hgr3
        obtain ⟨As3, cs3, HF3⟩ : ∃ (As : Nat → Option Addr) (cs : Nat → Nat), Hid (Flatting w fb f b As cs n p 3 (flZ zr zw) (w3.setCell ⟨fb, 5, none⟩ (.slice (some ⟨gg3, 0, none⟩) (p + 1) cc3))) := ⟨_, _, HF2.out.step (j := 3) (by decide) rfl rfl (fun i hi => nsF_old hi) (by rw [numsOf_succF]; exact hown3) hgr3 (hat3.imp_right fun e => by rw [e]; simp) flC_3⟩
        clear hown3 hgr3 hat3 hE3 O3 HF2 hN2 x3 v3 sz3 bs3
        have sz4 := HF3.out.1.lt
        have bs4 := HF3.out.2.2.2.2.size
        have o4 : (w3.setCell ⟨fb, 5, none⟩ (.slice (some ⟨gg3, 0, none⟩) (p + 1) cc3)).ownsRow w.heap.size 2 1 (.slice (As3 4) p (cs3 4)) p (numsOf p (flZ zr zw 4)) := (HF3.out.2.1 4 (by decide)).1
        have x4 : (w3.setCell ⟨fb, 5, none⟩ (.slice (some ⟨gg3, 0, none⟩) (p + 1) cc3)).cell? ⟨fb, 6, none⟩ = some (.slice (As3 4) p (cs3 4)) := HF3.out.1.cell 6
        have v4 : (w3.setCell ⟨fb, 5, none⟩ (.slice (some ⟨gg3, 0, none⟩) (p + 1) cc3)).cell? ⟨wN.heap.size, 3, none⟩ = some (.int .i64 (ndW (zw p)).right) := hN3.cell 3
        have O4 := hid o4
        clear o4
        go_wp2_with (at_builtin; refine wpList_append_lies _ rfl (.tmp 46) (.tmp 49) 27 rfl w.heap.size 2 i0 (.int .i64 0) 1 8 Tryz.underlying27 hi0 hz0 hz1 hz2 rfl (by decide) (.slice (As3 4) p (cs3 4)) p (numsOf p (flZ zr zw 4)) rfl (O4.out.alloc _) ⟨w3.heap.size, 0, none⟩ 1 1 [.int .i64 (ndW (zw p)).right] rfl rfl (cell_one_at _ _ _ (by simp)) (by intro u hu; simp at hu; subst hu; rfl) (by omega) (by unfold maxLen; omega) (by omega) (by rw [World.size_alloc]; exact Nat.le_succ_of_le bs4) ((w3.setCell ⟨fb, 5, none⟩ (.slice (some ⟨gg3, 0, none⟩) (p + 1) cc3)).heap.size + 1) (by simp) ?_)
        intro gg4 cc4 w4 hown4 hgr4 hat4 _
        have hE4 := HF3.out.cellOf (j := 4) (by decide) hgr4
        have y4 : w4.cell? ⟨fb, 6, none⟩ = some (.slice (As3 4) p (cs3 4)) := hE4.cell 6
        have g4 := hE4.frozen 6
        have hN4 : Blk (w4.setCell ⟨fb, 6, none⟩ (.slice (some ⟨gg4, 0, none⟩) (p + 1) cc4)) wN.heap.size 80 (ndR (ndW (zw p))) := HF3.out.other (j := 4) (by decide) hN3 nums_ne_node hnf hgr4
        obtain ⟨As4, cs4, HF4⟩ : ∃ (As : Nat → Option Addr) (cs : Nat → Nat), Hid (Flatting w fb f b As cs n p 4 (flZ zr zw) (w4.setCell ⟨fb, 6, none⟩ (.slice (some ⟨gg4, 0, none⟩) (p + 1) cc4))) := ⟨_, _, HF3.out.step (j := 4) (by decide) rfl rfl (fun i hi => nsF_old hi) (by rw [numsOf_succF]; exact hown4) hgr4 (hat4.imp_right fun e => by rw [e]; simp) flC_4⟩
        clear hown4 hgr4 hat4 hE4 O4 HF3 hN3 x4 v4 sz4 bs4
        have sz5 := HF4.out.1.lt
        have bs5 := HF4.out.2.2.2.2.size
        have o5 : (w4.setCell ⟨fb, 6, none⟩ (.slice (some ⟨gg4, 0, none⟩) (p + 1) cc4)).ownsRow w.heap.size 2 1 (.slice (As4 5) p (cs4 5)) p (numsOf p (flZ zr zw 5)) := (HF4.out.2.1 5 (by decide)).1
        go_wp2_with fail
        have o5d : (w4.setCell ⟨fb, 6, none⟩ (.slice (some ⟨gg4, 0, none⟩) (p + 1) cc4)).drew.ownsRow w.heap.size 2 1 (.slice (As4 5) p (cs4 5)) p (numsOf p (flZ zr zw 5)) := o5
        have x5 : (w4.setCell ⟨fb, 6, none⟩ (.slice (some ⟨gg4, 0, none⟩) (p + 1) cc4)).drew.cell? ⟨fb, 7, none⟩ = some (.slice (As4 5) p (cs4 5)) := HF4.out.1.cell 7
        have x5a : ((w4.setCell ⟨fb, 6, none⟩ (.slice (some ⟨gg4, 0, none⟩) (p + 1) cc4)).alloc (.cells #[.int .i64 (zw p / 16777216 % 256)] 2)).drew.cell? ⟨fb, 7, none⟩ = some (.slice (As4 5) p (cs4 5)) := (HF4.out.1.alloc _).cell 7
        have O5 : Hid (((w4.setCell ⟨fb, 6, none⟩ (.slice (some ⟨gg4, 0, none⟩) (p + 1) cc4)).alloc (.cells #[.int .i64 (zw p / 16777216 % 256)] 2)).drew.ownsRow w.heap.size 2 1 (.slice (As4 5) p (cs4 5)) p (numsOf p (flZ zr zw 5))) := o5.alloc _
        have n5 : ∀ j v, [Value.int .i64 (zw p / 16777216 % 256)][j]? = some v → ((w4.setCell ⟨fb, 6, none⟩ (.slice (some ⟨gg4, 0, none⟩) (p + 1) cc4)).alloc (.cells #[.int .i64 (zw p / 16777216 % 256)] 2)).drew.cell? (Addr.add ⟨w4.heap.size, 0, none⟩ j) = some v := cell_one_at (w4.setCell ⟨fb, 6, none⟩ (.slice (some ⟨gg4, 0, none⟩) (p + 1) cc4)) 2 (.int .i64 (zw p / 16777216 % 256)) (by simp)
        have bs5d : w.heap.size ≤ ((w4.setCell ⟨fb, 6, none⟩ (.slice (some ⟨gg4, 0, none⟩) (p + 1) cc4)).alloc (.cells #[.int .i64 (zw p / 16777216 % 256)] 2)).drew.heap.size := Nat.le_trans bs5 (by show _ ≤ (World.alloc _ _).heap.size; rw [World.size_alloc]; exact Nat.le_succ _)
        have sz5d : (w4.setCell ⟨fb, 6, none⟩ (.slice (some ⟨gg4, 0, none⟩) (p + 1) cc4)).drew.heap.size = (w4.setCell ⟨fb, 6, none⟩ (.slice (some ⟨gg4, 0, none⟩) (p + 1) cc4)).heap.size := rfl
        clear o5 o5d
        go_region_law
          (first
            | (refine step_append_lies _ (by rfl) (.tmp 53) (.tmp 56) 27 (by rfl) w.heap.size 2 i0 (.int .i64 0) 1 8 Tryz.underlying27 hi0 hz0 hz1 hz2 rfl (by omega) (.slice (As4 5) p (cs4 5)) p (numsOf p (flZ zr zw 5)) (by rfl) O5.out ⟨w4.heap.size, 0, none⟩ 1 1 [.int .i64 (zw p / 16777216 % 256)] (by rfl) (by rfl) n5 (by simp [Value.oneCell']) (by omega) (by unfold maxLen; omega) (by omega) bs5d (w4.heap.size + 1) (by simp) ?_; intro gg5 cc5 w5 hown5 hgr5' hat5 _; have hgr5 : (World.alloc (w4.setCell ⟨fb, 6, none⟩ (.slice (some ⟨gg4, 0, none⟩) (p + 1) cc4)).drew (.cells #[.int .i64 (zw p / 16777216 % 256)] 2)).grownBy w5 (Value.slice (As4 5) p (cs4 5)).ownBlock := hgr5'; have hE5 := HF4.out.drew.cellOf (j := 5) (by decide) hgr5; have x6a : w5.cell? ⟨fb, 7, none⟩ = some (.slice (As4 5) p (cs4 5)) := hE5.cell 7; have f6a := hE5.frozen 7)
            | (go_simp; go_at_call 85; refine (miss_any (zw p) _).mono ?_; rintro e wM ⟨rfl, rfl⟩))
        all_goals
          have hN5 : Blk (w5.setCell ⟨fb, 7, none⟩ (.slice (some ⟨gg5, 0, none⟩) (p + 1) cc5)) wN.heap.size 80 (ndR (ndW (zw p))) := HF4.out.drew.other (j := 5) (by decide) hN4.drew nums_ne_node hnf hgr5
          obtain ⟨As5, cs5, HF5⟩ : ∃ (As : Nat → Option Addr) (cs : Nat → Nat), Hid (Flatting w fb f b As cs n p 5 (flZ zr zw) (w5.setCell ⟨fb, 7, none⟩ (.slice (some ⟨gg5, 0, none⟩) (p + 1) cc5))) := ⟨_, _, HF4.out.drew.step (j := 5) (by decide) rfl rfl (fun i hi => nsF_old hi) (by rw [numsOf_succF]; exact hown5) hgr5 (hat5.imp_right fun e => by rw [e]; simp) flC_5⟩
          clear hown5 hgr5 hgr5' hat5 hE5 O5 n5 HF4 hN4 x5 x5a sz5 bs5 bs5d sz5d y4 g4
          have sz6 := HF5.out.1.lt
          have bs6 := HF5.out.2.2.2.2.size
          have o6 : (w5.setCell ⟨fb, 7, none⟩ (.slice (some ⟨gg5, 0, none⟩) (p + 1) cc5)).ownsRow w.heap.size 2 1 (.slice (As5 6) p (cs5 6)) p (numsOf p (flZ zr zw 6)) := (HF5.out.2.1 6 (by decide)).1
          have x6 : (w5.setCell ⟨fb, 7, none⟩ (.slice (some ⟨gg5, 0, none⟩) (p + 1) cc5)).cell? ⟨fb, 8, none⟩ = some (.slice (As5 6) p (cs5 6)) := HF5.out.1.cell 8
          have v6 : (w5.setCell ⟨fb, 7, none⟩ (.slice (some ⟨gg5, 0, none⟩) (p + 1) cc5)).cell? ⟨wN.heap.size, 5, none⟩ = some (.int .i64 (ndW (zw p)).value) := hN5.cell 5
          have O6 := hid o6
          clear o6
          go_wp2_with (at_builtin; refine wpList_append_lies _ rfl (.tmp 60) (.tmp 63) 27 rfl w.heap.size 2 i0 (.int .i64 0) 1 8 Tryz.underlying27 hi0 hz0 hz1 hz2 rfl (by decide) (.slice (As5 6) p (cs5 6)) p (numsOf p (flZ zr zw 6)) rfl (O6.out.alloc _) ⟨w5.heap.size, 0, none⟩ 1 1 [.int .i64 (ndW (zw p)).value] rfl rfl (cell_one_at _ _ _ (by simp)) (by intro u hu; simp at hu; subst hu; rfl) (by omega) (by unfold maxLen; omega) (by omega) (by rw [World.size_alloc]; exact Nat.le_succ_of_le bs6) ((w5.setCell ⟨fb, 7, none⟩ (.slice (some ⟨gg5, 0, none⟩) (p + 1) cc5)).heap.size + 1) (by simp) ?_)
          intro gg6 cc6 w6 hown6 hgr6 hat6 _
          have hE6 := HF5.out.cellOf (j := 6) (by decide) hgr6
          have y6 : w6.cell? ⟨fb, 8, none⟩ = some (.slice (As5 6) p (cs5 6)) := hE6.cell 8
          have g6 := hE6.frozen 8
          have hN6 : Blk (w6.setCell ⟨fb, 8, none⟩ (.slice (some ⟨gg6, 0, none⟩) (p + 1) cc6)) wN.heap.size 80 (ndR (ndW (zw p))) := HF5.out.other (j := 6) (by decide) hN5 nums_ne_node hnf hgr6
          obtain ⟨As6, cs6, HF6⟩ : ∃ (As : Nat → Option Addr) (cs : Nat → Nat), Hid (Flatting w fb f b As cs n p 6 (flZ zr zw) (w6.setCell ⟨fb, 8, none⟩ (.slice (some ⟨gg6, 0, none⟩) (p + 1) cc6))) := ⟨_, _, HF5.out.step (j := 6) (by decide) rfl rfl (fun i hi => nsF_old hi) (by rw [numsOf_succF]; exact hown6) hgr6 (hat6.imp_right fun e => by rw [e]; simp) flC_6⟩
          clear hown6 hgr6 hat6 hE6 O6 HF5 hN5 x6 v6 sz6 bs6
          go_wp2_with fail
          have HFF := hid HF6.out.full
          clear HF6 hN6 y6 g6
          go_roundw
          case rel => exact ⟨p + 1, As6, cs6, by omega, by go_num, HFF⟩
          case measure => simp [intOf]; omega
      · obtain rfl : p = m := by omega
        obtain ⟨h1, h2, h3, h4, h5⟩ := HF.out
        clear HF
        go_wp2_with (first
          | (refine wpList_load_row rfl 41 _ rfl fb rfl 41 (flC f b As0 cs0 n p 0) _ _ h1 Tryz.underlying41 rfl size_flat ?_)
          | (refine wpList_store_row rfl 41 _ _ rfl (w.heap.size + 1) (flC f b As0 cs0 n p 0) rfl rfl 41 _ h3 size_flat rfl (flC_one _ _ _ _ _ _ _) ?_))
        refine bodyPost_ret (results_cell_row rfl _ _ (w.heap.size + 1) 41 (flC f b As0 cs0 n p 0) (0, 0) _ rfl (setRow_heap _ _ _ _ _ _ h3) Tryz.underlying41 rfl size_flat) rfl ?_
        exact ⟨As0, cs0, rfl, h2.keep fun x c _ hc => setRow_other _ _ _ _ (by
          intro e
          subst e
          exact (hc.ne_ h3 nums_ne_flat) rfl), below_setRow h5 (by omega) _⟩

/-! ### FlH -/
def zE (len : Nat → Nat) (g : Nat → Nat → Nd) (n : Nat) : Nat → Nat → Int
  | 0 => rootZ len
  | j + 1 => fun p => part (j + 1) (allN len g n p)
theorem Lists.congr {w : World} {B n p q : Nat} {As : Nat → Option Addr} {cs : Nat → Nat} {zs zs' : Nat → Nat → Int} (h : Lists w B As cs n p q zs) (he : ∀ j, j < 7 → ∀ i, i < nsF n p q j → zs j i = zs' j i) : Lists w B As cs n p q zs' := fun j hj => by
  obtain ⟨h1, h2⟩ := h j hj
  have e : numsOf (nsF n p q j) (zs j) = numsOf (nsF n p q j) (zs' j) := by
    unfold numsOf
    apply List.map_congr_left
    intro i hi
    rw [he j hj i (List.mem_range.1 hi)]
  rw [e] at h1
  exact ⟨h1, h2⟩
theorem allN_split {len : Nat → Nat} {n p : Nat} (h : p < cumT len n) : ∃ k j, k < n ∧ j < len k ∧ p = cumT len k + j := by
  induction n with
  | zero => exact absurd h (by simp [cumT])
  | succ n ih =>
    by_cases hp : p < cumT len n
    · obtain ⟨k, j, hk, hj, e⟩ := ih hp
      exact ⟨k, j, by omega, hj, e⟩
    · simp only [cumT] at h
      exact ⟨n, p - cumT len n, by omega, by omega, by omega⟩
theorem allN_fit {f b : Int} {n : Nat} {len : Nat → Nat} {g : Nat → Nat → Nd} (hy : ensB f b n len g = true) {p : Nat} (hp : p < cumT len n) : FitW (allN len g n p) := by
  obtain ⟨⟨_, hf⟩, _, hn, ht⟩ := ensB_iff.1 hy
  obtain ⟨k, j, hk, hj, rfl⟩ := allN_split hp
  rw [allN_at hk hj]
  obtain ⟨hl, hN⟩ := treeB_node (ht k hk) hj
  have hc : cumT len k ≤ k * 15 := cumT_le (n := n) (fun i hi => by have := (treeB_node (ht i hi) (i := 0) (by have := (treeB_iff _ _ _).1 (ht i hi); exact this.2.1.1)).1; exact this) k (by omega)
  exact fit_mv (cumT len k) hl hf (by omega) hN
theorem ens_len {f b : Int} {n : Nat} {len : Nat → Nat} {g : Nat → Nat → Nd} (hy : ensB f b n len g = true) : ∀ i, i < n → 1 ≤ len i ∧ len i ≤ 15 := fun i hi => ((treeB_iff _ _ _).1 ((ensB_iff.1 hy).2.2.2 i hi)).2.1
theorem ens_cum {f b : Int} {n : Nat} {len : Nat → Nat} {g : Nat → Nat → Nd} (hy : ensB f b n len g = true) : n ≤ 12 ∧ cumT len n ≤ 180 := by
  have hn := (ensB_iff.1 hy).2.2.1
  have := cumT_le (n := n) (fun i hi => (ens_len hy i hi).2) n (Nat.le_refl _)
  exact ⟨hn, by omega⟩
theorem ens_nodes {f b : Int} {n : Nat} {len : Nat → Nat} {g : Nat → Nat → Nd} (hy : ensB f b n len g = true) : ∀ i, i < n → ∀ j, j < len i → (0 ≤ (g i j).left ∧ (g i j).left ≤ 14) ∧ 0 ≤ (g i j).right ∧ (g i j).right ≤ 14 := by
  intro i hi j hj
  obtain ⟨hl, hN⟩ := treeB_node ((ensB_iff.1 hy).2.2.2 i hi) hj
  unfold Node at hN
  by_cases h0 : (g i j).left = 0
  · rw [if_pos h0] at hN
    simp only [lfB, Bool.and_eq_true, decide_eq_true_eq, beq_iff_eq] at hN
    omega
  · rw [if_neg h0] at hN
    omega
theorem flZ_zE {f b : Int} {n : Nat} {len : Nat → Nat} {g : Nat → Nat → Nd} (hy : ensB f b n len g = true) : ∀ j, j < 7 → ∀ i, i < nsF n (cumT len n) 0 j → flZ (rootZ len) (wordZ len g n) j i = zE len g n j i := by
  intro j hj i hi
  match j, hj with
  | 0, _ => rfl
  | j + 1, hj =>
    have hi' : i < cumT len n := by simpa [nsF] using hi
    have hF := ndW_wd _ (allN_fit hy hi')
    have hw : wordZ len g n i = wdN (allN len g n i) := rfl
    match j, hj with
    | 0, _ => show (ndW (wordZ len g n i)).feat = _; rw [hw, hF]; rfl
    | 1, _ => show (ndW (wordZ len g n i)).cut = _; rw [hw, hF]; rfl
    | 2, _ => show (ndW (wordZ len g n i)).left = _; rw [hw, hF]; rfl
    | 3, _ => show (ndW (wordZ len g n i)).right = _; rw [hw, hF]; rfl
    | 4, _ => show wordZ len g n i / 16777216 % 256 = _; rw [hw, wd_miss]; rfl
    | 5, _ => show (ndW (wordZ len g n i)).value = _; rw [hw, hF]; rfl

def yI (Y : Bool) (x : Int) : Int := if Y = true then x else 0
def yN (Y : Bool) (n : Nat) : Nat := if Y = true then n else 0
/-- What Flatten leaves. -/
def FltPost (Y : Bool) (w : World) (f b : Int) (n : Nat) (len : Nat → Nat) (g : Nat → Nat → Nd) (e : Ending) (w' : World) : Prop :=
  ∃ (As : Nat → Option Addr) (cs : Nat → Nat), e = .returned (.tuple #[.agg (flC (yI Y f) (yI Y b) As cs (yN Y n) (yN Y (cumT len n)) 0), .bool Y]) ∧ Lists w' w.heap.size As cs (yN Y n) (yN Y (cumT len n)) 0 (zE len g n) ∧ Below w.heap.size w w'
theorem lists_nil (w : World) (B : Nat) (zs : Nat → Nat → Int) : Lists w B (fun _ => none) (fun _ => 0) 0 0 0 zs := by
  intro j hj
  have e : nsF 0 0 0 j = 0 := by cases j <;> simp [nsF]
  have e2 : slF (fun _ => none) (fun _ => 0) 0 0 0 j = .slice none 0 0 := by show Value.slice none _ 0 = _; rw [e]
  rw [e2, e]
  exact ⟨⟨rfl, .inl ⟨rfl, rfl⟩⟩, fun i _ x hx => by cases hx⟩
theorem flt_no {w w' : World} (hb : Below w.heap.size w w') (f b : Int) (n : Nat) (len : Nat → Nat) (g : Nat → Nat → Nd) : FltPost false w f b n len g (.returned (.tuple #[.agg nilF, .bool false])) w' :=
  ⟨fun _ => none, fun _ => 0, rfl, lists_nil _ _ _, hb⟩

theorem own_rdWF {w : World} {B n c : Nat} {A : Option Addr} {z : Nat → Int} (h : w.ownsRow B 118 1 (.slice A n c) n (wdsOf n z)) : RdW w w.heap.size A n z := fun hn => by
  rcases h.2 with ⟨_, h0⟩ | ⟨g, cap, cur, e, hb, hg, hc, hm, hs, ht⟩
  · omega
  · injection e with e1 e2 e3
    subst e1
    refine ⟨g, 0, rfl, Blk.lt hg, fun i hi => ?_⟩
    have h1 : (cur.toList.take (n * 1))[i]? = (wdsOf n z)[i]? := by rw [ht]
    rw [List.getElem?_take, if_pos (by omega), Array.getElem?_toList] at h1
    rw [Nat.zero_add]
    show w.cell? ⟨g, i, none⟩ = _
    rw [Blk.cell hg, h1]
    simp [wdsOf, hi]

set_option maxRecDepth 100000 in
set_option maxHeartbeats 4000000 in
theorem iFlat_yes (f b : Int) (A : Option Addr) (n c : Nat) (len : Nat → Nat) (g : Nat → Nat → Nd) (w : World) (h : RdT w w.heap.size A n len g) (hn : n ≤ 4194304) (hlen : Hid (∀ i, i < n → len i ≤ 4194304)) (hy : ensB f b n len g = true) :
    Calls Tryz.prog 14 #[enV f b A n c] w (FltPost true w f b n len g) := by
  have HY := hid hy
  clear hy
  go_enter Tryz.func14, Tryz.ntmps14
  have hP := (Blk.new w 26 #[.int .i64 f, .int .i64 b, .slice A n c]).alloc (.cells nilF 41)
  have hR := Blk.new2 w (.cells #[.int .i64 f, .int .i64 b, .slice A n c] 26) 41 nilF
  have hb0 := ((Below.refl w.heap.size w).alloc (Nat.le_refl _) (.cells #[.int .i64 f, .int .i64 b, .slice A n c] 26)).alloc (by simp) (.cells nilF 41)
  go_wp2_with fail
  refine (iEnsOk_any f b A n c len g _ (h.to hb0 hb0.size) hn hlen).mono ?_
  rintro e w1 ⟨rfl, hb1⟩
  rw [HY.out]
  have hP1 := hP.below hb1 hP.lt
  have hR1 := hR.below hb1 hR.lt
  have hw1 := hb0.trans (hb1.mono hb0.size)
  clear hP hR hb0 hb1
  have e0 : w1.cell? ⟨w.heap.size, 0, none⟩ = some (.int .i64 f) := hP1.cell 0
  have e1 : w1.cell? ⟨w.heap.size, 1, none⟩ = some (.int .i64 b) := hP1.cell 1
  have e2 : w1.cell? ⟨w.heap.size, 2, none⟩ = some (.slice A n c) := hP1.cell 2
  obtain ⟨hn12, hcum⟩ := ens_cum HY.out
  go_wp2_with fail
  refine (pack_any f b A n c len g _ (h.to hw1 hw1.size) hn12 (ens_len HY.out) (fun i hi j hj => by have := ens_nodes HY.out i hi j hj; omega)).mono ?_
  rintro e w2 ⟨Ar, cr, Aw, cw, rfl, hr0, ho1, ho2, hb2⟩
  have hR2 := hR1.below hb2 hR1.lt
  have hw2 := hw1.trans (hb2.mono hw1.size)
  have HO1 := hid ho1
  have HO2 := hid ho2
  have HR0 := hid hr0
  clear hP1 hR1 hw1 hb2 ho1 ho2 hr0 e0 e1 e2
  go_wp2_with fail
  refine (flat_any f b Ar n cr (rootZ len) Aw (cumT len n) cw (wordZ len g n) _ (own_rdF HO1.out) HR0.out (own_rdWF HO2.out) hn12 hcum).mono ?_
  rintro e w3 ⟨As, cs, rfl, hL, hb3⟩
  have hR3 := hR2.below hb3 hR2.lt
  have hw3 := hw2.trans (hb3.mono hw2.size)
  have HL : Hid (Lists w3 w.heap.size As cs n (cumT len n) 0 (zE len g n)) := (hL.congr (flZ_zE HY.out)).less hw2.size
  clear hR2 hw2 hb3 hL HO1 HO2 HR0
  go_wp2_with (first
    | (refine wpList_store_row rfl 41 _ _ rfl (w.heap.size + 1) (flC f b As cs n (cumT len n) 0) rfl rfl 41 _ hR3 size_flat rfl (flC_one _ _ _ _ _ _ _) ?_))
  refine bodyPost_ret (results_cell_row_tmpF rfl _ _ (w.heap.size + 1) 41 (flC f b As cs n (cumT len n) 0) (0, 0) _ rfl (setRow_heap _ _ _ _ _ _ hR3) Tryz.underlying41 rfl size_flat) rfl ?_
  exact ⟨As, cs, rfl, HL.out.keep fun x c _ hc => setRow_other _ _ _ _ (by
    intro e
    subst e
    exact (hc.ne_ hR3 nums_ne_flat) rfl), below_setRow hw3 (by omega) _⟩

set_option maxRecDepth 100000 in
set_option maxHeartbeats 4000000 in
theorem iFlat_no (f b : Int) (A : Option Addr) (n c : Nat) (len : Nat → Nat) (g : Nat → Nat → Nd) (w : World) (h : RdT w w.heap.size A n len g) (hn : n ≤ 4194304) (hlen : Hid (∀ i, i < n → len i ≤ 4194304)) (hy : ensB f b n len g = false) :
    Calls Tryz.prog 14 #[enV f b A n c] w (FltPost false w f b n len g) := by
  have HY := hid hy
  clear hy
  go_enter Tryz.func14, Tryz.ntmps14
  have hR := Blk.new2 w (.cells #[.int .i64 f, .int .i64 b, .slice A n c] 26) 41 nilF
  have hb0 := ((Below.refl w.heap.size w).alloc (Nat.le_refl _) (.cells #[.int .i64 f, .int .i64 b, .slice A n c] 26)).alloc (by simp) (.cells nilF 41)
  go_wp2_with fail
  refine (iEnsOk_any f b A n c len g _ (h.to hb0 hb0.size) hn hlen).mono ?_
  rintro e w1 ⟨rfl, hb1⟩
  rw [HY.out]
  have hR1 := hR.below hb1 hR.lt
  have hw1 := hb0.trans (hb1.mono hb0.size)
  clear hR hb0 hb1
  go_wp2_with (first
    | (refine wpList_store_row rfl 41 _ _ rfl (w.heap.size + 1) nilF rfl rfl 41 _ hR1 size_flat rfl (by simp [Value.oneCell']) ?_))
  refine bodyPost_ret (results_cell_row_tmpF rfl _ _ (w.heap.size + 1) 41 nilF (0, 0) _ rfl (setRow_heap _ _ _ _ _ _ hR1) Tryz.underlying41 rfl size_flat) rfl ?_
  exact flt_no (below_setRow hw1 (by omega) _) f b n len g
theorem iFlat_any (f b : Int) (A : Option Addr) (n c : Nat) (len : Nat → Nat) (g : Nat → Nat → Nd) (w : World) (h : RdT w w.heap.size A n len g) (hn : n ≤ 4194304) (hlen : Hid (∀ i, i < n → len i ≤ 4194304)) (Y : Bool) (hY : ensB f b n len g = Y) :
    Calls Tryz.prog 14 #[enV f b A n c] w (FltPost Y w f b n len g) := by
  cases Y with
  | true => exact iFlat_yes f b A n c len g w h hn hlen hY
  | false => exact iFlat_no f b A n c len g w h hn hlen hY

/-! ### FlI -/
theorem nums_ne_ens : (2 : TypeId) ≠ 26 := by decide
theorem nsF_rootF {k p i : Nat} (h : i ≠ 0) : nsF (k + 1) p 0 i = nsF k p 0 i := by
  cases i with
  | zero => exact absurd rfl h
  | succ i => rfl

theorem Flatting.set {w0 w : World} {fb n p q nb : Nat} {f b : Int} {As : Nat → Option Addr} {cs : Nat → Nat} {zs : Nat → Nat → Int} {t : TypeId} {c : Array Value} (h : Flatting w0 fb f b As cs n p q zs w) (hN : Blk w nb t c) (hne : 2 ≠ t) (hnf : nb ≠ fb) (hfl : 41 ≠ t) (hB : w0.heap.size ≤ nb) (o : Nat) (u : Value) : Flatting w0 fb f b As cs n p q zs (w.setCell ⟨nb, o, none⟩ u) := by
  obtain ⟨h1, h2, h3, h4, h5⟩ := h
  exact ⟨h1.far (p := ⟨nb, o, none⟩) (fun e => hnf e.symm) u, h2.keep fun x cx _ hc => Below.heap_setCell _ _ _ x (fun e => (hc.ne_ hN hne) e), h3.far (p := ⟨nb, o, none⟩) (fun e => (h3.ne_ hN hfl) e) u, h4, h5.setCell (p := ⟨nb, o, none⟩) hB u⟩

/-! ### FlJ -/
end Go.Proofs.YtlgomifpohdniaaGreat
