/- Marks of caches. -/
import Derived.Test.YtckhooibjmheiaaCaX
import Derived.Test.YtckhooibjmheiaaMeetE
namespace Go.Proofs.Ytckhooibjmheiaa
open Go.RowKit Go.Deep
set_option linter.unusedVariables false
set_option linter.unusedSimpArgs false

/-- Slots whose memory lies from block L on and below block H, each box in a block of its own. -/
def OwM (w : World) (L H : Nat) (A : Option Addr) (k : Nat) (s : Nat → Slt) : Prop :=
  0 < k → ∃ (b : Nat) (cs : Array Value) (bs : Nat → Nat) (As : Nat → Option Addr) (ci : Nat → Nat), A = some ⟨b, 0, none⟩ ∧ L ≤ b ∧ b < H ∧ Blk w b 37 cs ∧ k * 3 ≤ cs.size ∧
    ∀ i, i < k → (cs[i * 3]? = some (.slice (As i) (s i).n (ci i)) ∧ cs[i * 3 + 1]? = some (.int .i64 (s i).score) ∧ cs[i * 3 + 2]? = some (.int .i64 (s i).used)) ∧ (0 < (s i).n → As i = some ⟨bs i, 0, none⟩ ∧ L ≤ bs i ∧ bs i < H ∧ RowS w 74 (bs i) (s i).n (s i).g) ∧ ∀ a, a < i → 0 < (s a).n → 0 < (s i).n → bs a ≠ bs i
/-- Nothing is written but blocks from L on and below H. -/
structure KepC (L H : Nat) (w w' : World) : Prop where
  os : w'.os = w.os
  tape : w'.tape = w.tape
  output : w'.output = w.output
  size : w.heap.size ≤ w'.heap.size
  block : ∀ x, x < w.heap.size → (x < L ∨ H ≤ x) → w'.heap[x]? = w.heap[x]?
section
variable {w w' w'' : World} {L H k : Nat} {A : Option Addr} {s : Nat → Slt}
theorem KepC.refl (L H : Nat) (w : World) : KepC L H w w := ⟨rfl, rfl, rfl, Nat.le_refl _, fun _ _ _ => rfl⟩
theorem KepC.trans (h : KepC L H w w') (h' : KepC L H w' w'') : KepC L H w w'' :=
  ⟨h'.os.trans h.os, h'.tape.trans h.tape, h'.output.trans h.output, Nat.le_trans h.size h'.size, fun x hx hq => (h'.block x (Nat.lt_of_lt_of_le hx h.size) hq).trans (h.block x hx hq)⟩
theorem kepC_grown {b : Nat} (h : w.grownBy w' (some b)) (hL : L ≤ b) (hH : b < H) : KepC L H w w' :=
  ⟨h.os, h.tape, h.output, h.size, fun x hx hq => h.block x hx fun e => by injection e with e; omega⟩
theorem KepC.below (h : KepC L H w w') {B : Nat} (hB : B ≤ L) (hw : B ≤ w.heap.size) : Below B w w' := ⟨h.os, h.tape, h.output, h.size, fun x hx => h.block x (by omega) (.inl (by omega))⟩
theorem OwM.below (h : OwM w L H A k s) (hb : Below w.heap.size w w') : OwM w' L H A k s := fun h0 => by
  obtain ⟨b, cs, bs, As, ci, e, h1, h2, hB, hs, hc⟩ := h h0
  exact ⟨b, cs, bs, As, ci, e, h1, h2, hB.below hb hB.lt, hs, fun i hi => ⟨(hc i hi).1, fun hn => by
    obtain ⟨q1, q2, q3, q4⟩ := (hc i hi).2.1 hn
    exact ⟨q1, q2, q3, q4.below hb q4.lt⟩, (hc i hi).2.2⟩⟩
/-- What lies apart from what was written stays. -/
theorem OwM.kept {L' H' : Nat} (h : OwM w L H A k s) (hk : KepC L' H' w w') (hd : H ≤ L' ∨ H' ≤ L) : OwM w' L H A k s := fun h0 => by
  obtain ⟨b, cs, bs, As, ci, e, h1, h2, hB, hs, hc⟩ := h h0
  refine ⟨b, cs, bs, As, ci, e, h1, h2, (hk.block b hB.lt (by omega)).trans hB, hs, fun i hi => ⟨(hc i hi).1, fun hn => ?_, (hc i hi).2.2⟩⟩
  obtain ⟨q1, q2, q3, q4⟩ := (hc i hi).2.1 hn
  exact ⟨q1, q2, q3, q4.keep (hk.block _ q4.lt (by omega))⟩
theorem OwM.rdC (h : OwM w L H A k s) : RdC w w.heap.size A k s := fun h0 => by
  obtain ⟨b, cs, bs, As, ci, e, h1, h2, hB, hs, hc⟩ := h h0
  refine ⟨b, 0, e, hB.lt, fun i hi => ?_⟩
  obtain ⟨⟨c0, c1, c2⟩, hr, _⟩ := hc i hi
  refine ⟨As i, ci i, by rw [Nat.zero_add, hB.cell]; exact c0, by rw [Nat.zero_add, hB.cell]; exact c1, by rw [Nat.zero_add, hB.cell]; exact c2, fun hn => ?_⟩
  obtain ⟨q1, _, _, q4⟩ := hr hn
  rw [q1]
  exact (rds_of q4) hn
theorem XoC.owM (h : XoC w L A k s) : OwM w L w.heap.size A k s := fun h0 => by
  obtain ⟨b, cs, bs, e, hL, hB, hsz, hc⟩ := h
  refine ⟨b, cs, bs, fun i => some ⟨bs i, 0, none⟩, fun i => (s i).n, e, hL, hB.lt, hB, hsz, fun i hi => ?_⟩
  obtain ⟨h0, h1, h2, h3, h4, h5⟩ := hc i hi
  exact ⟨⟨h0, h1, h2⟩, fun _ => ⟨rfl, h3, h4.lt, h4⟩, fun a ha _ _ => h5 a ha⟩
theorem OwC.owM {c : Nat} (h : OwC w L A k c s) : OwM w L w.heap.size A k s := fun h0 => by
  obtain ⟨hv, hrow, hbx⟩ := h
  rcases id hrow.2 with ⟨_, e0⟩ | ⟨b, cap, cur, hvv, hb, hg, h1, _, h3, ht⟩
  · omega
  · injection hvv with e1 _ e3
    subst e1 e3
    have hcur : ∀ i j, i < k → j < 3 → cur[i * 3 + j]? = (slC (hv i) (s i))[j]? := fun i j hi hj => by
      have := slotsC_at hv s k i j hi hj
      rw [← ht, List.getElem?_take, if_pos (by omega), Array.getElem?_toList] at this
      exact this
    have key : ∀ i, i < k → ∃ (A' : Option Addr) (c' b' : Nat), hv i = .slice A' (s i).n c' ∧ (0 < (s i).n → A' = some ⟨b', 0, none⟩ ∧ L ≤ b' ∧ RowS w 74 b' (s i).n (s i).g ∧ (hv i).ownBlock = some b') := fun i hi => by
      obtain ⟨A', c', e⟩ := own_form (hbx i hi).1
      rcases Nat.eq_zero_or_pos (s i).n with hn | hn
      · exact ⟨A', c', 0, e, fun h => by omega⟩
      · have ho := (hbx i hi).1
        rw [e] at ho
        obtain ⟨b', e', hl, _, hr⟩ := own_rowS ho hn
        refine ⟨A', c', b', e, fun _ => ⟨e', hl, hr, ?_⟩⟩
        rw [e, e']; rfl
    refine ⟨b, cur, fun i => if h : i < k then Classical.choose (Classical.choose_spec (Classical.choose_spec (key i h))) else 0, fun i => if h : i < k then Classical.choose (key i h) else none, fun i => if h : i < k then Classical.choose (Classical.choose_spec (key i h)) else 0, rfl, hb, Blk.lt hg, hg, by rw [h3]; exact Nat.mul_le_mul_right 3 h1, fun i hi => ?_⟩
    obtain ⟨e, hr⟩ := Classical.choose_spec (Classical.choose_spec (Classical.choose_spec (key i hi)))
    refine ⟨⟨?_, hcur i 1 hi (by omega), hcur i 2 hi (by omega)⟩, fun hn => ?_, fun a ha hna hni => ?_⟩
    · have := hcur i 0 hi (by omega)
      rw [Nat.add_zero] at this
      rw [this]
      simp only [slC, dif_pos hi]
      simpa using e
    · obtain ⟨q1, q2, q3, _⟩ := hr hn
      simp only [dif_pos hi]
      exact ⟨q1, q2, q3.lt, q3⟩
    · simp only [dif_pos hi, dif_pos (show a < k by omega)]
      obtain ⟨_, hra⟩ := Classical.choose_spec (Classical.choose_spec (Classical.choose_spec (key a (by omega))))
      intro e2
      have e3 := (hra hna).2.2.2
      rw [e2] at e3
      exact (hbx i hi).2 a ha _ (hr hni).2.2.2 e3
end

def mkKC (s : Nat → Slt) (k0 : Int) : Nat → Int
  | 0 => k0
  | i + 1 => mkKC s k0 i + 3 * (s i).n + 1 + 1
theorem mkKC_eq (s : Nat → Slt) (k0 : Int) : ∀ k, mkKC s k0 k = k0 + 3 * (cumN s k : Int) + 2 * (k : Int) := by
  intro k
  induction k with
  | zero => simp [mkKC, cumN]
  | succ k ih => simp only [mkKC, cumN]; rw [ih]; omega
theorem cumN_mono (s : Nat → Slt) {i k : Nat} (h : i ≤ k) : cumN s i ≤ cumN s k := by
  induction k with
  | zero => obtain rfl : i = 0 := by omega
            exact Nat.le_refl _
  | succ k ih =>
    by_cases e : i = k + 1
    · subst e; exact Nat.le_refl _
    · simp only [cumN]; have := ih (by omega); omega
def mkC (s : Nat → Slt) (k0 : Int) : Nat → Slt := fun i => ⟨(s i).n, markF (mkKC s k0 i), mkKC s k0 i + 3 * (s i).n, mkKC s k0 i + 3 * (s i).n + 1⟩
def mixC (s : Nat → Slt) (k0 : Int) (j : Nat) : Nat → Slt := fun i => if i < j then mkC s k0 i else s i
theorem mixC_n (s : Nat → Slt) (k0 : Int) (j i : Nat) : (mixC s k0 j i).n = (s i).n := by unfold mixC mkC; split <;> rfl

theorem markBox_any (A : Option Addr) (n c b L H : Nat) (g : Nat → Sp) (K : Int) (w : World) (h : 0 < n → A = some ⟨b, 0, none⟩ ∧ L ≤ b ∧ b < H ∧ RowS w 74 b n g) (hn : n ≤ 4194304) (h0 : 0 ≤ K) (h1 : K ≤ 100000000) :
    Calls Try.prog 44 #[.slice A n c, .int .i64 K] w fun e w' => e = .returned (.int .i64 (K + 3 * n)) ∧ KepC L H w w' ∧ (0 < n → RowS w' 74 b n (markF K)) ∧ ∀ x, x < w.heap.size → (0 < n → x ≠ b) → w'.heap[x]? = w.heap[x]? := by
  by_cases hn0 : 0 < n
  · obtain ⟨hA, hL, hH, hr⟩ := h hn0
    refine (markS_all A n c b g K w (fun _ => ⟨hA, hr⟩) hn h0 h1).mono ?_
    rintro e w' ⟨rfl, hg, hr'⟩
    exact ⟨rfl, kepC_grown hg hL hH, hr', fun x hx hne => hg.block x hx fun e => by injection e with e; exact hne hn0 e⟩
  · refine (markS_all A n c w.heap.size g K w (fun h => absurd h hn0) hn h0 h1).mono ?_
    rintro e w' ⟨rfl, hg, hr'⟩
    have hk : ∀ x, x < w.heap.size → w'.heap[x]? = w.heap[x]? := fun x hx => hg.block x hx fun e => by injection e with e; omega
    exact ⟨rfl, ⟨hg.os, hg.tape, hg.output, hg.size, fun x hx _ => hk x hx⟩, fun h => absurd h hn0, fun x hx _ => hk x hx⟩
theorem owM_marked {wr w2 : World} {L H k j b : Nat} {s : Nat → Slt} {k0 : Int} {cs : Array Value} {bs : Nat → Nat} {As : Nat → Option Addr} {ci : Nat → Nat} (hj : j < k) (hL : L ≤ b) (hH : b < H) (hB : Blk wr b 37 cs) (hsz : k * 3 ≤ cs.size)
    (hc : ∀ i, i < k → (cs[i * 3]? = some (.slice (As i) (mixC s k0 j i).n (ci i)) ∧ cs[i * 3 + 1]? = some (.int .i64 (mixC s k0 j i).score) ∧ cs[i * 3 + 2]? = some (.int .i64 (mixC s k0 j i).used)) ∧ (0 < (mixC s k0 j i).n → As i = some ⟨bs i, 0, none⟩ ∧ L ≤ bs i ∧ bs i < H ∧ RowS wr 74 (bs i) (mixC s k0 j i).n (mixC s k0 j i).g) ∧ ∀ a, a < i → 0 < (mixC s k0 j a).n → 0 < (mixC s k0 j i).n → bs a ≠ bs i)
    (hr : 0 < (s j).n → RowS w2 74 (bs j) (s j).n (markF (mkKC s k0 j))) (hk : ∀ x, x < wr.heap.size → (0 < (s j).n → x ≠ bs j) → w2.heap[x]? = wr.heap[x]?) (hK : KepC L H wr w2) :
    Blk w2 b 37 cs ∧ OwM ((w2.setCell ⟨b, j * 3 + 1, none⟩ (.int .i64 (mkKC s k0 j + 3 * (s j).n))).setCell ⟨b, j * 3 + 2, none⟩ (.int .i64 (mkKC s k0 j + 3 * (s j).n + 1))) L H (some ⟨b, 0, none⟩) k (mixC s k0 (j + 1)) ∧
      KepC L H wr ((w2.setCell ⟨b, j * 3 + 1, none⟩ (.int .i64 (mkKC s k0 j + 3 * (s j).n))).setCell ⟨b, j * 3 + 2, none⟩ (.int .i64 (mkKC s k0 j + 3 * (s j).n + 1))) := by
  have hB2 : Blk w2 b 37 cs := (hk b hB.lt fun hn e => by
    obtain ⟨_, _, _, cs', hB', _⟩ := (hc j hj).2.1 (by rw [mixC_n]; exact hn)
    rw [← e] at hB'
    exact hB.ne_ hB' (by decide) rfl).trans hB
  have hfar : ∀ x, x ≠ b → ((w2.setCell ⟨b, j * 3 + 1, none⟩ (.int .i64 (mkKC s k0 j + 3 * (s j).n))).setCell ⟨b, j * 3 + 2, none⟩ (.int .i64 (mkKC s k0 j + 3 * (s j).n + 1))).heap[x]? = w2.heap[x]? := fun x hx => (Below.heap_setCell _ _ _ x hx).trans (Below.heap_setCell _ _ _ x hx)
  refine ⟨hB2, fun _ => ⟨b, _, bs, As, ci, rfl, hL, hH, (hB2.set_ _ _).set_ _ _, by simpa using hsz, fun i hi => ?_⟩, ?_⟩
  · obtain ⟨⟨c0, c1, c2⟩, hri, hd⟩ := hc i hi
    simp only [mixC_n] at c0 hri hd ⊢
    refine ⟨?_, fun hn => ?_, hd⟩
    · by_cases e : i = j
      · subst e
        refine ⟨?_, ?_, ?_⟩
        · rw [Array.getElem?_setIfInBounds_ne (by omega), Array.getElem?_setIfInBounds_ne (by omega)]; exact c0
        · rw [Array.getElem?_setIfInBounds_ne (by omega), Array.getElem?_setIfInBounds_self_of_lt (by omega)]
          unfold mixC mkC; rw [if_pos (by omega)]
        · rw [Array.getElem?_setIfInBounds_self_of_lt (by simp; omega)]
          unfold mixC mkC; rw [if_pos (by omega)]
      · have em : mixC s k0 (j + 1) i = mixC s k0 j i := by
          unfold mixC
          by_cases q : i < j
          · rw [if_pos q, if_pos (by omega)]
          · rw [if_neg q, if_neg (by omega)]
        rw [em]
        refine ⟨?_, ?_, ?_⟩
        · rw [Array.getElem?_setIfInBounds_ne (by omega), Array.getElem?_setIfInBounds_ne (by omega)]; exact c0
        · rw [Array.getElem?_setIfInBounds_ne (by omega), Array.getElem?_setIfInBounds_ne (by omega)]; exact c1
        · rw [Array.getElem?_setIfInBounds_ne (by omega), Array.getElem?_setIfInBounds_ne (by omega)]; exact c2
    · obtain ⟨q1, q2, q3, q4⟩ := hri hn
      have hnb : bs i ≠ b := fun e => by
        obtain ⟨cs', hB', _⟩ := q4
        rw [e] at hB'
        exact hB.ne_ hB' (by decide) rfl
      refine ⟨q1, q2, q3, ?_⟩
      by_cases e : i = j
      · subst e
        have : (mixC s k0 (i + 1) i).g = markF (mkKC s k0 i) := by unfold mixC mkC; rw [if_pos (by omega)]
        rw [this]
        exact (hr hn).keep (hfar _ hnb)
      · have em : mixC s k0 (j + 1) i = mixC s k0 j i := by
          unfold mixC
          by_cases q : i < j
          · rw [if_pos q, if_pos (by omega)]
          · rw [if_neg q, if_neg (by omega)]
        rw [em]
        refine q4.keep ((hfar _ hnb).trans (hk _ q4.lt fun hnj e2 => ?_))
        obtain ⟨_, _, hdj⟩ := hc j hj
        simp only [mixC_n] at hdj
        rcases Nat.lt_or_gt_of_ne e with hlt | hgt
        · exact hdj i hlt hn hnj e2
        · exact hd j hgt hnj hn e2.symm
  · refine hK.trans ⟨rfl, rfl, rfl, by simp, fun x hx hq => hfar x (by omega)⟩

set_option maxRecDepth 100000 in
set_option maxHeartbeats 4000000 in
theorem markSlotS_any (A : Option Addr) (k c L H : Nat) (s : Nat → Slt) (k0 : Int) (w : World) (h : OwM w L H A k s) (h0 : 0 ≤ k0) (h1 : k0 ≤ 20000000) (hm : cumN s k + k ≤ 4194304) :
    Calls Try.prog 102 #[.slice A k c, .int .i64 k0] w fun e w' => e = .returned (.int .i64 (mkKC s k0 k)) ∧ OwM w' L H A k (mkC s k0) ∧ KepC L H w w' := by
  have HM := hid h
  clear h
  go_enter Try.func102, Try.ntmps102
  go_wp2_with fail
  go_loopw [1, 5] (fun y i wr => ∃ j : Nat, j ≤ k ∧ i = .int .i64 j ∧ y = .int .i64 (mkKC s k0 j) ∧ Hid (OwM wr L H A k (mixC s k0 j)) ∧ Hid (KepC L H w wr)) (fun _ i _ => k - (intOf i).toNat)
  case atStart =>
    refine ⟨0, Nat.zero_le _, rfl, rfl, ?_, KepC.refl _ _ _⟩
    have e : mixC s k0 0 = s := by funext i; unfold mixC; rw [if_neg (by omega)]
    rw [e]; exact HM
  case round =>
    clear HM
    obtain ⟨j, hj, rfl, rfl, hO, hK⟩ := hrel
    by_cases hlt : j < k
    · obtain ⟨b, cs, bs, As, ci, rfl, hL, hHb, hB, hsz, hc⟩ := hO.out (by omega)
      obtain ⟨⟨c0, c1, c2⟩, hr, hd⟩ := hc j hlt
      have en : (mixC s k0 j j).n = (s j).n := mixC_n _ _ _ _
      rw [en] at c0 hr
      have hmono := cumN_mono s (show j + 1 ≤ k by omega)
      simp only [cumN] at hmono
      have hkk := mkKC_eq s k0 j
      obtain ⟨K, hKe⟩ : ∃ K, mkKC s k0 j = K := ⟨_, rfl⟩
      rw [hKe] at hkk
      have hK0 : 0 ≤ K := by omega
      have hK1 : K ≤ 50000000 := by omega
      have hn1 : (s j).n ≤ 4194304 := by omega
      have x0 : wr.cell? ⟨b, j * 3, none⟩ = some (.slice (As j) (s j).n (ci j)) := by rw [hB.cell]; exact c0
      have hi : (j : Int) < (k : Int) := by omega
      have hi0 : (0 : Int) ≤ (j : Int) := by omega
      have hrow : 0 < (s j).n → As j = some ⟨bs j, 0, none⟩ ∧ L ≤ bs j ∧ bs j < H ∧ RowS wr 74 (bs j) (s j).n (mixC s k0 j j).g := fun h => hr h
      have HC := hid hc
      have HKE := hid hKe
      rw [hKe]
      clear hc hr hkk hmono hKe en
      go_wp2_with fail
      refine (markBox_any (As j) (s j).n (ci j) (bs j) L H (mixC s k0 j j).g K _ hrow hn1 hK0 (by omega)).mono ?_
      rintro e w2 ⟨rfl, hk2, hr2, hx2⟩
      have hm2 := owM_marked hlt hL hHb hB hsz HC.out (by rw [HKE.out]; exact hr2) hx2 hk2
      rw [HKE.out] at hm2
      have f1 := hm2.1.frozen (j * 3 + 1)
      have f2 := hm2.1.frozen (j * 3 + 2)
      have y1 : w2.cell? ⟨b, j * 3 + 1, none⟩ = some (.int .i64 (mixC s k0 j j).score) := by rw [hm2.1.cell]; exact c1
      have y2 : w2.cell? ⟨b, j * 3 + 2, none⟩ = some (.int .i64 (mixC s k0 j j).used) := by rw [hm2.1.cell]; exact c2
      have HO2 := hid hm2.2.1
      have HK2 := hid (hK.out.trans hm2.2.2)
      have hKn : Hid (mkKC s k0 (j + 1) = K + 3 * (s j).n + 1 + 1) := by show _ = _; simp only [mkKC, HKE.out]
      clear hm2 hk2 hr2 hx2 hrow x0 hB c0 c1 c2 hd
      go_wp2_with fail
      go_roundw
      case rel => exact ⟨j + 1, by omega, by go_num, by rw [hKn.out], HO2, HK2⟩
      case measure => simp [intOf]; omega
    · obtain rfl : j = k := by omega
      have e : Hid (∀ w, OwM w L H A j (mixC s k0 j) → OwM w L H A j (mkC s k0)) := fun w h h0 => by
        obtain ⟨b, cs, bs, As, ci, e, h1, h2, hB, hs, hc⟩ := h h0
        refine ⟨b, cs, bs, As, ci, e, h1, h2, hB, hs, fun i hi => ?_⟩
        have em : mixC s k0 j i = mkC s k0 i := by unfold mixC; rw [if_pos hi]
        obtain ⟨a1, a2, a3⟩ := hc i hi
        rw [em] at a1 a2
        refine ⟨a1, a2, fun a ha p1 p2 => a3 a ha ?_ ?_⟩
        · rw [mixC_n]; exact p1
        · rw [mixC_n]; exact p2
      go_wp2_with fail
      go_ret
      exact ⟨rfl, e.out _ hO.out, hK.out⟩

set_option maxRecDepth 100000 in
set_option maxHeartbeats 4000000 in
theorem heldSlotS_any (A : Option Addr) (k c L H : Nat) (s : Nat → Slt) (k0 : Int) (w : World) (h : OwM w L H A k (mkC s k0)) (h0 : 0 ≤ k0) (h1 : k0 ≤ 20000000) (hm : cumN s k + k ≤ 4194304) :
    Calls Try.prog 103 #[.slice A k c, .int .i64 k0] w fun e w' => e = .returned (.int .i64 (mkKC s k0 k)) ∧ w = w' := by
  have HM := hid h
  clear h
  go_enter Try.func103, Try.ntmps103
  go_wp2_with fail
  go_loop [1, 5] (fun y i => ∃ j : Nat, j ≤ k ∧ i = .int .i64 j ∧ y = .int .i64 (mkKC s k0 j)) (fun _ i => k - (intOf i).toNat)
  case atStart => exact ⟨0, Nat.zero_le _, rfl, rfl⟩
  case round =>
    obtain ⟨j, hj, rfl, rfl⟩ := hrel
    by_cases hlt : j < k
    · obtain ⟨b, cs, bs, As, ci, rfl, hL, hHb, hB, hsz, hc⟩ := HM.out (by omega)
      obtain ⟨⟨c0, c1, c2⟩, hr, hd⟩ := hc j hlt
      have hmono := cumN_mono s (show j + 1 ≤ k by omega)
      simp only [cumN] at hmono
      have hkk := mkKC_eq s k0 j
      obtain ⟨K, hKe⟩ : ∃ K, mkKC s k0 j = K := ⟨_, rfl⟩
      rw [hKe] at hkk
      have hK0 : 0 ≤ K := by omega
      have hK1 : K ≤ 50000000 := by omega
      have hn1 : (s j).n ≤ 4194304 := by omega
      have en : (mkC s k0 j).n = (s j).n := rfl
      have es : (mkC s k0 j).score = K + 3 * (s j).n := by unfold mkC; rw [← hKe]
      have eu : (mkC s k0 j).used = K + 3 * (s j).n + 1 := by unfold mkC; rw [← hKe]
      have eg : (mkC s k0 j).g = markF K := by unfold mkC; rw [← hKe]
      rw [en] at c0 hr
      rw [es] at c1
      rw [eu] at c2
      rw [eg] at hr
      have x0 : w.cell? ⟨b, j * 3, none⟩ = some (.slice (As j) (s j).n (ci j)) := by rw [hB.cell]; exact c0
      have x1 : w.cell? ⟨b, j * 3 + 1, none⟩ = some (.int .i64 (K + 3 * (s j).n)) := by rw [hB.cell]; exact c1
      have x2 : w.cell? ⟨b, j * 3 + 2, none⟩ = some (.int .i64 (K + 3 * (s j).n + 1)) := by rw [hB.cell]; exact c2
      have hi : (j : Int) < (k : Int) := by omega
      have hi0 : (0 : Int) ≤ (j : Int) := by omega
      have hrow : 0 < (s j).n → As j = some ⟨bs j, 0, none⟩ ∧ RowS w 74 (bs j) (s j).n (markF K) := fun h => ⟨(hr h).1, (hr h).2.2.2⟩
      have hKn : Hid (mkKC s k0 (j + 1) = K + 3 * (s j).n + 1 + 1) := by show _ = _; simp only [mkKC, hKe]
      have q1 : ((K + 3 * ((s j).n : Int)) != (K + 3 * ((s j).n : Int))) = false := by simp
      have q2 : ((K + 3 * ((s j).n : Int) + 1) != (K + 3 * ((s j).n : Int) + 1)) = false := by simp
      rw [hKe]
      clear hc hr hkk hmono hKe en es eu eg c0 c1 c2 hd hB
      go_wp2_with fail
      refine (heldS_all (As j) (s j).n (ci j) (bs j) K _ hrow hn1 hK0 (by omega)).mono ?_
      rintro e w2 ⟨rfl, rfl⟩
      clear hrow
      go_wp2_with fail
      go_round
      case rel => exact ⟨j + 1, by omega, by go_num, by rw [hKn.out]⟩
      case measure => simp [intOf]; omega
    · obtain rfl : j = k := by omega
      go_wp2_with fail
      go_ret
      exact ⟨rfl, rfl⟩

set_option maxHeartbeats 1000000 in
theorem markC_any (cap clock : Int) (A : Option Addr) (k c L H : Nat) (s : Nat → Slt) (k0 : Int) (w : World) (h : OwM w L H A k s) (hH : H ≤ w.heap.size) (h0 : 0 ≤ k0) (h1 : k0 ≤ 20000000) (hm : cumN s k + k ≤ 4194304) :
    Calls Try.prog 38 #[caV cap clock A k c, .int .i64 k0] w fun e w' => e = .returned (.int .i64 (mkKC s k0 k)) ∧ OwM w' L H A k (mkC s k0) ∧ KepC L H w w' := by
  have hb2 := (Below.refl w.heap.size w).alloc (Nat.le_refl _) (.cells #[.int .i64 cap, .int .i64 clock, .slice A k c] 26)
  have h2 := h.below hb2
  go_enter Try.func38, Try.ntmps38
  go_wp2_with fail
  refine (markSlotS_any A k c L H s k0 _ h2 h0 h1 hm).mono ?_
  rintro e w3 ⟨rfl, h3, hk3⟩
  have hK : KepC L H w w3 := ⟨hk3.os.trans hb2.os, hk3.tape.trans hb2.tape, hk3.output.trans hb2.output, Nat.le_trans hb2.size hk3.size, fun x hx hq => (hk3.block x (Nat.lt_of_lt_of_le hx hb2.size) hq).trans (hb2.block x hx)⟩
  clear hk3 hb2 h2 h
  go_wp2_with fail
  go_ret
  exact ⟨rfl, h3, hK⟩
set_option maxHeartbeats 1000000 in
theorem heldC_any (cap clock : Int) (A : Option Addr) (k c L H : Nat) (s : Nat → Slt) (k0 : Int) (w : World) (h : OwM w L H A k (mkC s k0)) (h0 : 0 ≤ k0) (h1 : k0 ≤ 20000000) (hm : cumN s k + k ≤ 4194304) :
    Calls Try.prog 40 #[caV cap clock A k c, .int .i64 k0] w fun e w' => e = .returned (.int .i64 (mkKC s k0 k)) ∧ Below w.heap.size w w' := by
  have hb2 := (Below.refl w.heap.size w).alloc (Nat.le_refl _) (.cells #[.int .i64 cap, .int .i64 clock, .slice A k c] 26)
  have h2 := h.below hb2
  have hkk := mkKC_eq s k0 k
  have hK0 : 0 ≤ mkKC s k0 k := by omega
  clear hkk
  go_enter Try.func40, Try.ntmps40
  go_wp2_with fail
  refine (heldSlotS_any A k c L H s k0 _ h2 h0 h1 hm).mono ?_
  rintro e w3 ⟨rfl, rfl⟩
  go_wp2_with fail
  go_ret
  exact ⟨rfl, hb2⟩
end Go.Proofs.Ytckhooibjmheiaa
