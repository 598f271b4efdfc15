/- Marks and holds of trees and flats; the walk of the exact law of Flatten. -/
import Derived.Test.YtmpgefpaoogoiaaJoinA
import Derived.Test.YtmpgefpaoogoiaaPathLaw
import Derived.Test.YtmpgefpaoogoiaaFlatI
namespace Go.Proofs.Ytmpgefpaoogoiaa
open Go.RowKit Go.Deep

/-! ### Marks -/
/-- What a mark writes into nodes, from number k on. -/
def mkN (k : Int) : Nat → Nd := fun i => ⟨k + 6 * i, k + 6 * i + 1, k + 6 * i + 2, k + 6 * i + 3, (k + 6 * i + 4) % 3 == 0, k + 6 * i + 5⟩
theorem mkN_at {k0 q : Int} {m : Nat} (hq : q = k0 + 6 * m) : mkN k0 m = ⟨q, q + 1, q + 1 + 1, q + 1 + 1 + 1, (q + 1 + 1 + 1 + 1) % 3 == 0, q + 1 + 1 + 1 + 1 + 1⟩ := by
  have e4 : k0 + 6 * (m : Int) + 4 = q + 1 + 1 + 1 + 1 := by omega
  unfold mkN
  rw [e4]
  simp only [Nd.mk.injEq]
  refine ⟨by omega, by omega, by omega, by omega, trivial, by omega⟩

set_option maxRecDepth 100000 in
set_option maxHeartbeats 2000000 in
theorem markK_any (n cap b : Nat) (g : Nat → Nd) (k0 : Int) (w : World) (h : RowN w 135 b n g) (hn : n ≤ 4194304) (h0 : 0 ≤ k0) (h1 : k0 ≤ 100000000000000) :
    Calls Try.prog 130 #[.slice (some ⟨b, 0, none⟩) n cap, .int .i64 k0] w fun e w' =>
      e = .returned (.int .i64 (k0 + 6 * n)) ∧ RowN w' 135 b n (mkN k0) ∧ w.grownBy w' (some b) := by
  obtain ⟨cs, hB, hsz, _⟩ := h
  go_enter Try.func130, Try.ntmps130
  go_wp2_with fail
  go_loopw [1, 5] (fun k i wr => ∃ (m : Nat) (cs : Array Value) (q : Int), m ≤ n ∧ i = .int .i64 m ∧ k = .int .i64 q ∧ Hid (q = k0 + 6 * m) ∧ Blk wr b 135 cs ∧ n * 6 ≤ cs.size ∧ Hid (∀ i, i < m → ∀ j, j < 6 → cs[i * 6 + j]? = (ndC (mkN k0 i))[j]?) ∧ Hid (w.grownBy wr (some b)))
    (fun _ i _ => n - (intOf i).toNat)
  case atStart => exact ⟨0, cs, k0, Nat.zero_le _, rfl, rfl, by show k0 = k0 + 6 * ((0 : Nat) : Int); omega, hB, hsz, fun i hi => by omega, World.grownBy.refl _ _⟩
  case round =>
    obtain ⟨m, cs, q, hm, rfl, rfl, hq, hB, hsz, hf, hg⟩ := hrel
    by_cases hlt : m < n
    · have hl : (m : Int) < (n : Int) := by omega
      have hqo := hq.out
      have q0 : 0 ≤ q := by omega
      have q1 : q ≤ 200000000000000 := by omega
      clear hqo
      have s0 : wr.cell? ⟨b, m * 6, none⟩ = some (cs[m * 6]'(by omega)) := by rw [hB.cell, Array.getElem?_eq_getElem]
      have s1 : wr.cell? ⟨b, m * 6 + 1, none⟩ = some (cs[m * 6 + 1]'(by omega)) := by rw [hB.cell, Array.getElem?_eq_getElem]
      have s2 : wr.cell? ⟨b, m * 6 + 2, none⟩ = some (cs[m * 6 + 2]'(by omega)) := by rw [hB.cell, Array.getElem?_eq_getElem]
      have s3 : wr.cell? ⟨b, m * 6 + 3, none⟩ = some (cs[m * 6 + 3]'(by omega)) := by rw [hB.cell, Array.getElem?_eq_getElem]
      have s4 : wr.cell? ⟨b, m * 6 + 4, none⟩ = some (cs[m * 6 + 4]'(by omega)) := by rw [hB.cell, Array.getElem?_eq_getElem]
      have s5 : wr.cell? ⟨b, m * 6 + 5, none⟩ = some (cs[m * 6 + 5]'(by omega)) := by rw [hB.cell, Array.getElem?_eq_getElem]
      have f0 := hB.frozen (m * 6); have f1 := hB.frozen (m * 6 + 1); have f2 := hB.frozen (m * 6 + 2); have f3 := hB.frozen (m * 6 + 3); have f4 := hB.frozen (m * 6 + 4); have f5 := hB.frozen (m * 6 + 5)
      go_wp2_with fail
      go_roundw
      case rel =>
        have e := mkN_at hq.out
        refine ⟨m + 1, put6 cs m ⟨q, q + 1, q + 1 + 1, q + 1 + 1 + 1, (q + 1 + 1 + 1 + 1) % 3 == 0, q + 1 + 1 + 1 + 1 + 1⟩, _, by omega, by go_num, rfl, ?_, blk_put6 hB m ⟨q, q + 1, q + 1 + 1, q + 1 + 1 + 1, (q + 1 + 1 + 1 + 1) % 3 == 0, q + 1 + 1 + 1 + 1 + 1⟩, by rw [put6_size]; exact hsz, fun i hi j hj => ?_, ?_⟩
        · show _ = k0 + 6 * ((m + 1 : Nat) : Int)
          have := hq.out
          omega
        · by_cases ei : i = m
          · subst ei
            rw [put6_in _ (by omega) j hj, e]
          · rw [put6_out _ _ (by omega)]
            exact hf.out i (by omega) j hj
        · exact grown_trans (grown_trans (grown_trans (grown_trans (grown_trans (grown_trans hg.out (grown_set _)) (grown_set _)) (grown_set _)) (grown_set _)) (grown_set _)) (grown_set _)
      case measure => simp [intOf]; omega
    · obtain rfl : m = n := by omega
      go_wp2_with fail
      go_ret
      exact ⟨congrArg (fun x => Ending.returned (.int .i64 x)) hq.out, ⟨cs, hB, hsz, hf.out⟩, hg.out⟩

set_option maxRecDepth 100000 in
set_option maxHeartbeats 2000000 in
theorem heldK_any (n cap b : Nat) (k0 : Int) (w : World) (h : RowN w 135 b n (mkN k0)) (hn : n ≤ 4194304) (h0 : 0 ≤ k0) (h1 : k0 ≤ 100000000000000) :
    Calls Try.prog 140 #[.slice (some ⟨b, 0, none⟩) n cap, .int .i64 k0] w fun e w' => e = .returned (.int .i64 (k0 + 6 * n)) ∧ w = w' := by
  go_enter Try.func140, Try.ntmps140
  go_wp2_with fail
  go_loopw [1, 5] (fun k i wr => ∃ (m : Nat) (q : Int), m ≤ n ∧ i = .int .i64 m ∧ k = .int .i64 q ∧ Hid (q = k0 + 6 * m) ∧ w = wr)
    (fun _ i _ => n - (intOf i).toNat)
  case atStart => exact ⟨0, k0, Nat.zero_le _, rfl, rfl, by show k0 = k0 + 6 * ((0 : Nat) : Int); omega, rfl⟩
  case round =>
    obtain ⟨m, q, hm, rfl, rfl, hq, rfl⟩ := hrel
    by_cases hlt : m < n
    · have hl : (m : Int) < (n : Int) := by omega
      have hl0 : (0 : Int) ≤ (m : Int) := by omega
      have hqo := hq.out
      have q0 : 0 ≤ q := by omega
      have q1 : q ≤ 200000000000000 := by omega
      obtain ⟨c0, c1, c2, c3, c4, c5⟩ := h.ndAt hlt
      rw [mkN_at hqo] at c0 c1 c2 c3 c4 c5
      clear hqo
      go_wp2_with fail
      go_roundw
      case rel => exact ⟨m + 1, _, by omega, by go_num, rfl, (by show _ = k0 + 6 * ((m + 1 : Nat) : Int); have := hq.out; omega), trivial⟩
      case measure => simp [intOf]; omega
    · obtain rfl : m = n := by omega
      go_wp2_with fail
      go_ret
      exact ⟨congrArg (fun x => Ending.returned (.int .i64 x)) hq.out, rfl⟩

/-- How many nodes the first k trees have. -/
def cumL (len : Nat → Nat) : Nat → Nat
  | 0 => 0
  | k + 1 => cumL len k + len k
theorem cumL_le {len : Nat → Nat} {n M : Nat} (h : ∀ i, i < n → len i ≤ M) : ∀ k, k ≤ n → cumL len k ≤ k * M := by
  intro k
  induction k with
  | zero => intro _; simp [cumL]
  | succ k ih =>
    intro hk
    have := ih (by omega)
    have := h k (by omega)
    rw [Nat.succ_mul]
    simp only [cumL]
    omega
theorem cumL_mono {len : Nat → Nat} {n : Nat} : ∀ k, k ≤ n → cumL len k ≤ cumL len n := by
  intro k hk
  induction n with
  | zero => have : k = 0 := by omega
            subst this; exact Nat.le_refl _
  | succ n ih =>
    by_cases e : k = n + 1
    · subst e; exact Nat.le_refl _
    · have := ih (by omega)
      simp only [cumL]
      omega

/-- Trees whose blocks lie from L to H, each of its own. -/
def Laid (w : World) (L H : Nat) (A : Option Addr) (n : Nat) (len : Nat → Nat) (g : Nat → Nat → Nd) : Prop :=
  ∃ (gg : Nat) (bl cp : Nat → Nat), (0 < n → A = some ⟨gg, 0, none⟩ ∧ L ≤ gg ∧ gg < H ∧ (∃ cs, Blk w gg 74 cs) ∧ ∀ i, i < n → w.cell? ⟨gg, i, none⟩ = some (.slice (some ⟨bl i, 0, none⟩) (len i) (cp i))) ∧
    ∀ i, i < n → L ≤ bl i ∧ bl i < H ∧ RowN w 135 (bl i) (len i) (g i) ∧ ∀ j, j < i → bl j ≠ bl i
theorem Laid.keep {w w' : World} {L H n : Nat} {A : Option Addr} {len : Nat → Nat} {g : Nat → Nat → Nd} (h : Laid w L H A n len g) (hk : ∀ x, L ≤ x → x < H → w'.heap[x]? = w.heap[x]?) : Laid w' L H A n len g := by
  obtain ⟨gg, bl, cp, h1, h2⟩ := h
  refine ⟨gg, bl, cp, fun h0 => ?_, fun i hi => ?_⟩
  · obtain ⟨a, b, c, ⟨cs, d⟩, e⟩ := h1 h0
    exact ⟨a, b, c, ⟨cs, (hk gg b c).trans d⟩, fun i hi => (World.cell?_of_block (hk gg b c)).trans (e i hi)⟩
  · obtain ⟨a, b, c, d⟩ := h2 i hi
    exact ⟨a, b, c.keep (hk _ a b), d⟩
theorem Laid.less {w : World} {L L' H H' n : Nat} {A : Option Addr} {len : Nat → Nat} {g : Nat → Nat → Nd} (h : Laid w L H A n len g) (hL : L' ≤ L) (hH : H ≤ H') : Laid w L' H' A n len g := by
  obtain ⟨gg, bl, cp, h1, h2⟩ := h
  refine ⟨gg, bl, cp, fun h0 => ?_, fun i hi => ?_⟩
  · obtain ⟨a, b, c, d⟩ := h1 h0
    exact ⟨a, by omega, by omega, d⟩
  · obtain ⟨a, b, c⟩ := h2 i hi
    exact ⟨by omega, by omega, c⟩
theorem Laid.below {w w' : World} {L H n : Nat} {A : Option Addr} {len : Nat → Nat} {g : Nat → Nat → Nd} (h : Laid w L H A n len g) (hb : Below w.heap.size w w') (hH : H ≤ w.heap.size) : Laid w' L H A n len g :=
  h.keep fun x _ hx => hb.block x (by omega)
theorem Laid.rdT {w : World} {L H n : Nat} {A : Option Addr} {len : Nat → Nat} {g : Nat → Nat → Nd} (h : Laid w L H A n len g) : RdT w w.heap.size A n len g := fun hn => by
  obtain ⟨gg, bl, cp, h1, h2⟩ := h
  obtain ⟨hA, _, _, ⟨cs, hB⟩, hc⟩ := h1 hn
  exact ⟨gg, 0, hA, Blk.lt hB, fun i hi => ⟨some ⟨bl i, 0, none⟩, cp i, by rw [Nat.zero_add]; exact hc i hi, rdN_of (h2 i hi).2.2.1⟩⟩
theorem laid_none {w : World} {L H : Nat} {A : Option Addr} {len : Nat → Nat} {g : Nat → Nat → Nd} : Laid w L H A 0 len g := ⟨0, fun _ => 0, fun _ => 0, fun h => absurd h (by omega), fun i hi => by omega⟩

/-- Only what lies from L to H was written. -/
def KeptR (L H : Nat) (w w' : World) : Prop := w'.os = w.os ∧ w'.tape = w.tape ∧ w'.output = w.output ∧ w.heap.size ≤ w'.heap.size ∧ ∀ x, x < w.heap.size → (x < L ∨ H ≤ x) → w'.heap[x]? = w.heap[x]?
theorem KeptR.refl (L H : Nat) (w : World) : KeptR L H w w := ⟨rfl, rfl, rfl, Nat.le_refl _, fun _ _ _ => rfl⟩
theorem KeptR.grown {L H b : Nat} {w w1 w2 : World} (h : KeptR L H w w1) (hg : w1.grownBy w2 (some b)) (hb : L ≤ b ∧ b < H) : KeptR L H w w2 :=
  ⟨hg.os.trans h.1, hg.tape.trans h.2.1, hg.output.trans h.2.2.1, Nat.le_trans h.2.2.2.1 hg.size, fun x hx hr => (hg.block x (Nat.lt_of_lt_of_le hx h.2.2.2.1) (by intro e; injection e with e; omega)).trans (h.2.2.2.2 x hx hr)⟩
theorem KeptR.after {L H : Nat} {w w1 w2 : World} (hb : Below w.heap.size w w1) (h : KeptR L H w1 w2) : KeptR L H w w2 :=
  ⟨h.1.trans hb.os, h.2.1.trans hb.tape, h.2.2.1.trans hb.output, Nat.le_trans hb.size h.2.2.2.1, fun x hx hr => (h.2.2.2.2 x (Nat.lt_of_lt_of_le hx hb.size) hr).trans (hb.block x hx)⟩
theorem KeptR.below {L H B : Nat} {a w w' : World} (h : KeptR L H w w') (hb : Below B a w) (hBL : B ≤ L) (hs : B ≤ w.heap.size) : Below B a w' :=
  ⟨h.1.trans hb.os, h.2.1.trans hb.tape, h.2.2.1.trans hb.output, Nat.le_trans hb.size h.2.2.2.1, fun x hx => (h.2.2.2.2 x (by omega) (.inl (by omega))).trans (hb.block x hx)⟩

/-- The content that a mark writes. -/
def mkT (k0 : Int) (len : Nat → Nat) : Nat → Nat → Nd := fun i => mkN (k0 + 6 * (cumL len i : Nat))

set_option maxRecDepth 100000 in
set_option maxHeartbeats 2000000 in
theorem markT_any (L H n c : Nat) (A : Option Addr) (len : Nat → Nat) (g : Nat → Nat → Nd) (k0 : Int) (w : World) (h : Laid w L H A n len g) (hn : n ≤ 4194304) (hlen : Hid (∀ i, i < n → len i ≤ 1048576)) (h0 : 0 ≤ k0) (h1 : k0 ≤ 50000000000000) (hcum : cumL len n ≤ 5000000000000) :
    Calls Try.prog 80 #[.slice A n c, .int .i64 k0] w fun e w' =>
      e = .returned (.int .i64 (k0 + 6 * (cumL len n : Nat))) ∧ Laid w' L H A n len (mkT k0 len) ∧ KeptR L H w w' := by
  obtain ⟨gg, bl, cp, hh, ht⟩ := h
  have HH := hid hh
  have HT := hid ht
  clear hh ht
  go_enter Try.func80, Try.ntmps80
  go_wp2_with fail
  go_loopw [1, 5] (fun k i wr => ∃ (m : Nat) (q : Int), m ≤ n ∧ i = .int .i64 m ∧ k = .int .i64 q ∧ Hid (q = k0 + 6 * (cumL len m : Nat)) ∧ Hid (∀ i, i < n → RowN wr 135 (bl i) (len i) (if i < m then mkT k0 len i else g i)) ∧ Hid (∀ x, (∀ i, i < n → x ≠ bl i) → x < w.heap.size → wr.heap[x]? = w.heap[x]?) ∧ Hid (KeptR L H w wr))
    (fun _ i _ => n - (intOf i).toNat)
  case atStart => exact ⟨0, k0, Nat.zero_le _, rfl, rfl, by show k0 = k0 + 6 * ((0 : Nat) : Int); omega, fun i hi => by rw [if_neg (by omega)]; exact (HT.out i hi).2.2.1, fun _ _ _ => rfl, KeptR.refl L H w⟩
  case round =>
    obtain ⟨m, q, hm, rfl, rfl, hq, hrow, hkp, hkr⟩ := hrel
    by_cases hlt : m < n
    · obtain ⟨hA, hg1, hg2, ⟨cs, hgB⟩, hc⟩ := HH.out (by omega)
      subst hA
      have hl : (m : Int) < (n : Int) := by omega
      have hl0 : (0 : Int) ≤ (m : Int) := by omega
      have hgne : ∀ i, i < n → gg ≠ bl i := fun i hi => by
        obtain ⟨cs', hB', _⟩ := (HT.out i hi).2.2.1
        exact hgB.ne_ hB' (by decide)
      have hcell : wr.cell? ⟨gg, m, none⟩ = some (.slice (some ⟨bl m, 0, none⟩) (len m) (cp m)) := (World.cell?_of_block (hkp.out gg hgne (Blk.lt hgB))).trans (hc m hlt)
      have hR := hrow.out m hlt
      rw [if_neg (Nat.lt_irrefl m)] at hR
      have hqo := hq.out
      have hcm := cumL_mono (len := len) (n := n) m (by omega)
      have q0 : 0 ≤ q := by omega
      have q1 : q ≤ 100000000000000 := by omega
      have hlm := hlen.out m hlt
      have hbL := (HT.out m hlt).1
      have hbH := (HT.out m hlt).2.1
      clear hqo hcm hc
      go_wp2_with fail
      refine (markK_any (len m) (cp m) (bl m) (g m) q _ hR (by omega) q0 q1).mono ?_
      rintro e w1 ⟨rfl, hR1, hg1'⟩
      have hrow1 : Hid (∀ i, i < n → RowN w1 135 (bl i) (len i) (if i < m + 1 then mkT k0 len i else g i)) := fun i hi => by
        by_cases e : i = m
        · subst e
          rw [if_pos (by omega)]
          have e2 : mkT k0 len i = mkN q := by unfold mkT; rw [← hq.out]
          rw [e2]
          exact hR1
        · have h5 := hrow.out i hi
          have hne : bl i ≠ bl m := by
            by_cases hi2 : i < m
            · exact (HT.out m hlt).2.2.2 i hi2
            · exact fun e' => (HT.out i hi).2.2.2 m (by omega) e'.symm
          have h6 := rowN_grown h5 hg1' hne
          by_cases e3 : i < m
          · rw [if_pos e3] at h6; rw [if_pos (by omega)]; exact h6
          · rw [if_neg e3] at h6; rw [if_neg (by omega)]; exact h6
      have hkp1 : Hid (∀ x, (∀ i, i < n → x ≠ bl i) → x < w.heap.size → w1.heap[x]? = w.heap[x]?) := fun x hx hs => (hg1'.block x (Nat.lt_of_lt_of_le hs hkr.out.2.2.2.1) (by intro e; injection e with e; exact hx m hlt e)).trans (hkp.out x hx hs)
      have hkr1 := hid (hkr.out.grown hg1' ⟨hbL, hbH⟩)
      clear hrow hkp hkr hR hR1 hg1'
      go_wp2_with fail
      go_roundw
      case rel => exact ⟨m + 1, _, by omega, by go_num, rfl, (by show _ = k0 + 6 * ((cumL len (m + 1) : Nat) : Int); have := hq.out; simp only [cumL]; omega), hrow1, hkp1, hkr1⟩
      case measure => simp [intOf]; omega
    · obtain rfl : m = n := by omega
      go_wp2_with fail
      go_ret
      refine ⟨congrArg (fun x => Ending.returned (.int .i64 x)) hq.out, ⟨gg, bl, cp, fun h0 => ?_, fun i hi => ?_⟩, hkr.out⟩
      · obtain ⟨a1, a2, a3, ⟨cs, hgB⟩, a5⟩ := HH.out h0
        have hgne : ∀ i, i < m → gg ≠ bl i := fun i hi => by
          obtain ⟨cs', hB', _⟩ := (HT.out i hi).2.2.1
          exact hgB.ne_ hB' (by decide)
        have hk := hkp.out gg hgne (Blk.lt hgB)
        exact ⟨a1, a2, a3, ⟨cs, hk.trans hgB⟩, fun i hi => (World.cell?_of_block hk).trans (a5 i hi)⟩
      · obtain ⟨b1, b2, _, b4⟩ := HT.out i hi
        have := hrow.out i hi
        rw [if_pos hi] at this
        exact ⟨b1, b2, this, b4⟩

set_option maxRecDepth 100000 in
set_option maxHeartbeats 2000000 in
theorem heldT_any (L H n c : Nat) (A : Option Addr) (len : Nat → Nat) (k0 : Int) (w : World) (h : Laid w L H A n len (mkT k0 len)) (hn : n ≤ 4194304) (hlen : Hid (∀ i, i < n → len i ≤ 1048576)) (h0 : 0 ≤ k0) (h1 : k0 ≤ 50000000000000) (hcum : cumL len n ≤ 5000000000000) :
    Calls Try.prog 89 #[.slice A n c, .int .i64 k0] w fun e w' => e = .returned (.int .i64 (k0 + 6 * (cumL len n : Nat))) ∧ w = w' := by
  obtain ⟨gg, bl, cp, hh, ht⟩ := h
  have HH := hid hh
  have HT := hid ht
  clear hh ht
  go_enter Try.func89, Try.ntmps89
  go_wp2_with fail
  go_loopw [1, 5] (fun k i wr => ∃ (m : Nat) (q : Int), m ≤ n ∧ i = .int .i64 m ∧ k = .int .i64 q ∧ Hid (q = k0 + 6 * (cumL len m : Nat)) ∧ w = wr)
    (fun _ i _ => n - (intOf i).toNat)
  case atStart => exact ⟨0, k0, Nat.zero_le _, rfl, rfl, by show k0 = k0 + 6 * ((0 : Nat) : Int); omega, rfl⟩
  case round =>
    obtain ⟨m, q, hm, rfl, rfl, hq, rfl⟩ := hrel
    by_cases hlt : m < n
    · obtain ⟨hA, hg1, hg2, ⟨cs, hgB⟩, hc⟩ := HH.out (by omega)
      subst hA
      have hl : (m : Int) < (n : Int) := by omega
      have hl0 : (0 : Int) ≤ (m : Int) := by omega
      have hcell := hc m hlt
      have hR := (HT.out m hlt).2.2.1
      have e2 : mkT k0 len m = mkN q := by unfold mkT; rw [← hq.out]
      rw [e2] at hR
      have hqo := hq.out
      have hcm := cumL_mono (len := len) (n := n) m (by omega)
      have q0 : 0 ≤ q := by omega
      have q1 : q ≤ 100000000000000 := by omega
      have hlm := hlen.out m hlt
      clear hqo hcm hc e2
      go_wp2_with fail
      refine (heldK_any (len m) (cp m) (bl m) q _ hR (by omega) q0 q1).mono ?_
      rintro e w1 ⟨rfl, rfl⟩
      have q2 : ¬ q + 6 * (len m : Int) < 0 := by omega
      go_wp2_with fail
      go_roundw
      case rel => exact ⟨m + 1, _, by omega, by go_num, rfl, (by show _ = k0 + 6 * ((cumL len (m + 1) : Nat) : Int); have := hq.out; simp only [cumL]; omega), trivial⟩
      case measure => simp [intOf]; omega
    · obtain rfl : m = n := by omega
      go_wp2_with fail
      go_ret
      exact ⟨congrArg (fun x => Ending.returned (.int .i64 x)) hq.out, rfl⟩

theorem markE_any (f b : Int) (L H n c : Nat) (A : Option Addr) (len : Nat → Nat) (g : Nat → Nat → Nd) (k0 : Int) (w : World) (h : Laid w L H A n len g) (hH : H ≤ w.heap.size) (hn : n ≤ 4194304) (hlen : Hid (∀ i, i < n → len i ≤ 1048576)) (h0 : 0 ≤ k0) (h1 : k0 ≤ 50000000000000) (hcum : cumL len n ≤ 5000000000000) :
    Calls Try.prog 27 #[enV f b A n c, .int .i64 k0] w fun e w' =>
      e = .returned (.int .i64 (k0 + 6 * (cumL len n : Nat))) ∧ Laid w' L H A n len (mkT k0 len) ∧ KeptR L H w w' := by
  have hb1 := (Below.refl w.heap.size w).alloc (Nat.le_refl _) (.cells #[.int .i64 f, .int .i64 b, .slice A n c] 33)
  have h2 := h.below hb1 hH
  go_enter Try.func27, Try.ntmps27
  go_wp2_with fail
  refine (markT_any L H n c A len g k0 _ h2 hn hlen h0 h1 hcum).mono ?_
  rintro e w2 ⟨rfl, hl, hk⟩
  have hk2 := hk.after hb1
  obtain ⟨q, hq⟩ : ∃ q, k0 + 6 * ((cumL len n : Nat) : Int) = q := ⟨_, rfl⟩
  rw [hq]
  have HQ := hid hq
  clear hq
  go_wp2_with fail
  go_ret
  exact ⟨congrArg (fun x => Ending.returned (.int .i64 x)) HQ.out.symm, hl, hk2⟩
theorem heldE_any (f b : Int) (L H n c : Nat) (A : Option Addr) (len : Nat → Nat) (k0 : Int) (w : World) (h : Laid w L H A n len (mkT k0 len)) (hH : H ≤ w.heap.size) (hn : n ≤ 4194304) (hlen : Hid (∀ i, i < n → len i ≤ 1048576)) (h0 : 0 ≤ k0) (h1 : k0 ≤ 50000000000000) (hcum : cumL len n ≤ 5000000000000) :
    Calls Try.prog 43 #[enV f b A n c, .int .i64 k0] w fun e w' => e = .returned (.int .i64 (k0 + 6 * (cumL len n : Nat))) ∧ Below w.heap.size w w' := by
  have hb1 := (Below.refl w.heap.size w).alloc (Nat.le_refl _) (.cells #[.int .i64 f, .int .i64 b, .slice A n c] 33)
  have h2 := h.below hb1 hH
  have hq0 : ¬ k0 + 6 * ((cumL len n : Nat) : Int) < 0 := by omega
  go_enter Try.func43, Try.ntmps43
  go_wp2_with fail
  refine (heldT_any L H n c A len k0 _ h2 hn hlen h0 h1 hcum).mono ?_
  rintro e w2 ⟨rfl, rfl⟩
  obtain ⟨q, hq⟩ : ∃ q, k0 + 6 * ((cumL len n : Nat) : Int) = q := ⟨_, rfl⟩
  rw [hq] at hq0 ⊢
  have HQ := hid hq
  clear hq
  go_wp2_with fail
  go_ret
  exact ⟨congrArg (fun x => Ending.returned (.int .i64 x)) HQ.out.symm, hb1⟩

set_option maxHeartbeats 2000000 in
theorem toTJ_any (A : Option Addr) (n cap : Nat) (len : Nat → Nat) (g : Nat → Nat → Nd) (w : World) (h : RdT w w.heap.size A n len g) (hn : n ≤ 4194304) (hlen : Hid (∀ i, i < n → len i ≤ 4194304)) :
    Calls Try.prog 70 #[.slice A n cap] w fun e w' =>
      ∃ b, e = .returned (.slice (some ⟨b, 0, none⟩) n n) ∧ w.heap.size ≤ b ∧ Laid w' w.heap.size w'.heap.size (some ⟨b, 0, none⟩) n len g ∧ Below w.heap.size w w' := by
  obtain ⟨i0, hi0, hz0, hz1, hz2⟩ := info_parts info_nodes
  have hmk := fun wx => run_make_rowN (P := Try.prog) 31 74 i0 _ Try.underlying31 hi0 hz0 .i64 .i64 n n (Nat.le_refl _) (by rw [hz2]; omega) (by omega) wx
  rw [hz1] at hmk
  clear hz0 hz1 hz2 hi0
  go_enter Try.func70, Try.ntmps70
  go_wp2_with fail
  go_loopw [4] (fun i wr => ∃ (k : Nat) (cs : Array Value), k ≤ n ∧ i = .int .i64 k ∧ Blk wr w.heap.size 74 cs ∧ n ≤ cs.size ∧ Hid (∃ bl : Nat → Nat, ∀ i, i < k → cs[i]? = some (.slice (some ⟨bl i, 0, none⟩) (len i) (len i)) ∧ w.heap.size ≤ bl i ∧ RowN wr 135 (bl i) (len i) (g i) ∧ ∀ j, j < i → bl j ≠ bl i) ∧ Below w.heap.size w wr)
    (fun i _ => n - (intOf i).toNat)
  case atStart => exact ⟨0, _, Nat.zero_le _, rfl, Blk.new _ _ _, by simp [madeCells], ⟨fun _ => 0, fun j hj => by omega⟩, (Below.refl _ _).alloc (Nat.le_refl _) _⟩
  case round =>
    obtain ⟨k, cs, hk, rfl, hB, hsz, hcs, hbl⟩ := hrel
    by_cases hlt : k < n
    · obtain ⟨b, off, Ai, ci, rfl, hb, hc, hrd⟩ := (h.below hbl).at_ hlt
      have hl : (k : Int) < (n : Int) := by omega
      have hl0 : (0 : Int) ≤ (k : Int) := by omega
      go_wp2_with fail
      refine (toN_any Ai (len k) ci (g k) _ (hrd.more hbl.size) (hlen.out k hlt)).mono ?_
      rintro e w1 ⟨bk, rfl, hbk, hrow, hb1⟩
      have hB1 := hB.below hb1 hB.lt
      have hcs1 : Hid (∃ bl : Nat → Nat, ∀ i, i < k → cs[i]? = some (.slice (some ⟨bl i, 0, none⟩) (len i) (len i)) ∧ w.heap.size ≤ bl i ∧ RowN w1 135 (bl i) (len i) (g i) ∧ bl i < bk ∧ ∀ j, j < i → bl j ≠ bl i) := by
        obtain ⟨bl, hq⟩ := hcs.out
        refine ⟨bl, fun i hi => ?_⟩
        obtain ⟨h1, h3, h2, h4⟩ := hq i hi
        exact ⟨h1, h3, h2.below hb1 h2.lt, Nat.lt_of_lt_of_le h2.lt hbk, h4⟩
      have hbl1 := hbl.trans (hb1.mono hbl.size)
      have hbk' := Nat.le_trans hbl.size hbk
      clear hcs hb1 hB hbl hrd hc
      have s0 : w1.cell? ⟨w.heap.size, k, none⟩ = some (cs[k]'(by omega)) := by rw [hB1.cell, Array.getElem?_eq_getElem]
      have f0 := hB1.frozen k
      have HROW := hid hrow
      clear hrow
      go_wp2_with fail
      go_roundw
      case rel =>
        have hfar : ∀ {bi : Nat} {m : Nat} {gi : Nat → Nd}, RowN w1 135 bi m gi → RowN (w1.setCell ⟨w.heap.size, k, none⟩ (.slice (some ⟨bk, 0, none⟩) (len k) (len k))) 135 bi m gi := fun {bi m gi} hr => by
          obtain ⟨cs', hB', hs', hc'⟩ := hr
          exact ⟨cs', hB'.far (p := ⟨w.heap.size, k, none⟩) (Blk.ne_ hB' hB1 (by decide)) _, hs', hc'⟩
        obtain ⟨bl, hq⟩ := hcs1.out
        refine ⟨k + 1, _, by omega, by go_num, hB1.set_ k _, by simpa using hsz, ⟨setN bl k bk, fun j hj => ?_⟩, hbl1.setCell (p := ⟨w.heap.size, k, none⟩) (Nat.le_refl _) _⟩
        by_cases e : j = k
        · subst e
          rw [setN_same]
          refine ⟨by rw [Array.getElem?_setIfInBounds_self_of_lt (by omega)], hbk', hfar HROW.out, fun i hi => ?_⟩
          rw [setN_other (by omega)]
          exact Nat.ne_of_lt (hq i hi).2.2.2.1
        · rw [setN_other e]
          obtain ⟨h1, h3, h2, _, h4⟩ := hq j (by omega)
          refine ⟨by rw [Array.getElem?_setIfInBounds_ne (by omega)]; exact h1, h3, hfar h2, fun i hi => ?_⟩
          rw [setN_other (by omega)]
          exact h4 i hi
      case measure => simp [intOf]; omega
    · have e : k = n := by omega
      go_wp2_with fail
      go_ret
      subst e
      obtain ⟨bl, hq⟩ := hcs.out
      refine ⟨_, rfl, Nat.le_refl _, ⟨w.heap.size, bl, len, fun hn0 => ⟨rfl, Nat.le_refl _, hB.lt, ⟨_, hB⟩, fun i hi => by rw [hB.cell]; exact (hq i hi).1⟩, fun i hi => ⟨(hq i hi).2.1, (hq i hi).2.2.1.lt, (hq i hi).2.2.1, (hq i hi).2.2.2⟩⟩, hbl⟩

set_option maxRecDepth 100000 in
set_option maxHeartbeats 2000000 in
theorem toEJ_any (f b : Int) (A : Option Addr) (n c : Nat) (len : Nat → Nat) (g : Nat → Nat → Nd) (w : World) (h : RdT w w.heap.size A n len g) (hn : n ≤ 4194304) (hlen : Hid (∀ i, i < n → len i ≤ 4194304)) :
    Calls Try.prog 19 #[enV f b A n c] w fun e w' =>
      ∃ bt, e = .returned (enV f b (some ⟨bt, 0, none⟩) n n) ∧ w.heap.size ≤ bt ∧ Laid w' w.heap.size w'.heap.size (some ⟨bt, 0, none⟩) n len g ∧ Below w.heap.size w w' := by
  have hb3 := (((Below.refl w.heap.size w).alloc (Nat.le_refl _) (.cells #[.int .i64 f, .int .i64 b, .slice A n c] 24)).alloc (by simp) (.cells #[.int .i64 0, .int .i64 0, .slice none 0 0] 33)).alloc (by simp; omega) (.cells #[.int .i64 f, .int .i64 b, .slice none 0 0] 33)
  have h3 := h.to hb3 hb3.size
  go_enter Try.func19, Try.ntmps19
  go_wp2_with fail
  refine (toTJ_any A n c len g _ h3 hn hlen).mono ?_
  rintro e w4 ⟨bt, rfl, hbt, hrd, hb4⟩
  have hR := ((Blk.new2 w (.cells #[.int .i64 f, .int .i64 b, .slice A n c] 24) 33 #[.int .i64 0, .int .i64 0, .slice none 0 0]).alloc (.cells #[.int .i64 f, .int .i64 b, .slice none 0 0] 33)).below hb4 (by simp)
  have hO := (Blk.new3 w (.cells #[.int .i64 f, .int .i64 b, .slice A n c] 24) (.cells #[.int .i64 0, .int .i64 0, .slice none 0 0] 33) 33 #[.int .i64 f, .int .i64 b, .slice none 0 0]).below hb4 (by simp)
  obtain ⟨o0, o1, o2, f0, f1, f2⟩ := blk_cells3 hO
  obtain ⟨r0, r1, r2, g0, g1, g2⟩ := blk_cells3 hR
  have hw4 := hb3.trans (hb4.mono hb3.size)
  clear h3 hb3
  go_wp2_with fail
  refine bodyPost_ret (results_cell_row rfl _ _ (w.heap.size + 1) 33 #[.int .i64 f, .int .i64 b, .slice (some ⟨bt, 0, none⟩) n n] (0, 0) _ rfl ((((hR.far (p := ⟨w.heap.size + 1 + 1, 2, none⟩) (by simp) (.slice (some ⟨bt, 0, none⟩) n n)).set_ 0 (.int .i64 f)).set_ 1 (.int .i64 b)).set_ 2 (.slice (some ⟨bt, 0, none⟩) n n)) Try.underlying33 rfl size_ens) rfl ?_
  have hbt' : w.heap.size ≤ bt := by simp at hbt; omega
  have hs3 : w.heap.size + 3 ≤ w4.heap.size := by simpa using hb4.size
  refine ⟨bt, rfl, hbt', ((hrd.keep fun x hx _ => ?_).less (by simp; omega) (by simp only [World.size_setCell]; exact Nat.le_refl _)), (((hw4.setCell (p := ⟨w.heap.size + 1 + 1, 2, none⟩) (by simp; omega) _).setCell (p := ⟨w.heap.size + 1, 0, none⟩) (by simp) _).setCell (p := ⟨w.heap.size + 1, 1, none⟩) (by simp) _).setCell (p := ⟨w.heap.size + 1, 2, none⟩) (by simp) _⟩
  have hx' : w.heap.size + 3 ≤ x := by simpa using hx
  exact (Below.heap_setCell _ _ _ x (by show x ≠ w.heap.size + 1; omega)).trans ((Below.heap_setCell _ _ _ x (by show x ≠ w.heap.size + 1; omega)).trans ((Below.heap_setCell _ _ _ x (by show x ≠ w.heap.size + 1; omega)).trans (Below.heap_setCell _ _ _ x (by show x ≠ w.heap.size + 1 + 1; omega))))

/-! ### FlM -/
/-- Seven lists, each from the start of its block, the blocks from L to H and different. -/
def RowsF (w : World) (L H : Nat) (As : Nat → Option Addr) (n p : Nat) (bl : Nat → Nat) (zs : Nat → Nat → Int) : Prop :=
  ∀ j, j < 7 → 0 < nsF n p 0 j → (As j = some ⟨bl j, 0, none⟩ ∧ L ≤ bl j ∧ bl j < H ∧ Row w 2 (bl j) (nsF n p 0 j) (zs j)) ∧ ∀ i, i < 7 → i ≠ j → 0 < nsF n p 0 i → bl i ≠ bl j
theorem RowsF.keep {w w' : World} {L H n p : Nat} {As : Nat → Option Addr} {bl : Nat → Nat} {zs : Nat → Nat → Int} (h : RowsF w L H As n p bl zs) (hk : ∀ x, L ≤ x → x < H → w'.heap[x]? = w.heap[x]?) : RowsF w' L H As n p bl zs := fun j hj hp => by
  obtain ⟨⟨h1, h2, h3, h4⟩, h5⟩ := h j hj hp
  exact ⟨⟨h1, h2, h3, h4.keep (hk _ h2 h3)⟩, h5⟩
theorem RowsF.congr {w : World} {L H n p : Nat} {As : Nat → Option Addr} {bl : Nat → Nat} {zs ys : Nat → Nat → Int} (h : RowsF w L H As n p bl zs) (he : ∀ j, j < 7 → ∀ i, i < nsF n p 0 j → zs j i = ys j i) : RowsF w L H As n p bl ys := fun j hj hp => by
  obtain ⟨⟨h1, h2, h3, h4⟩, h5⟩ := h j hj hp
  exact ⟨⟨h1, h2, h3, h4.congr (he j hj)⟩, h5⟩
theorem Lists.rows {w : World} {B n p : Nat} {As : Nat → Option Addr} {cs : Nat → Nat} {zs : Nat → Nat → Int} (h : Lists w B As cs n p 0 zs) : ∃ bl, RowsF w B w.heap.size As n p bl zs := by
  refine ⟨fun j => match As j with | some a => a.block | none => 0, fun j hj hp => ?_⟩
  obtain ⟨g, c, e, hb, hr⟩ := own_row (h j hj).1 hp
  injection e with e1 e2 e3
  have hbl : (match As j with | some a => a.block | none => 0) = g := by rw [e1]
  simp only [hbl]
  refine ⟨⟨e1, hb, hr.lt, hr⟩, fun i hi hne hpi => ?_⟩
  obtain ⟨g2, c2, f, hb2, hr2⟩ := own_row (h i hi).1 hpi
  injection f with f1 f2 f3
  rw [f1]
  intro eg
  have eg : g2 = g := eg
  subst eg
  rcases Nat.lt_or_gt_of_ne hne with hlt | hgt
  · exact (h j hj).2 i hlt g2 (by show Value.ownBlock (Value.slice (As j) _ _) = _; rw [e1]; rfl) (by show Value.ownBlock (Value.slice (As i) _ _) = _; rw [f1]; rfl)
  · exact (h i hi).2 j hgt g2 (by show Value.ownBlock (Value.slice (As i) _ _) = _; rw [f1]; rfl) (by show Value.ownBlock (Value.slice (As j) _ _) = _; rw [e1]; rfl)
theorem RowsF.rdL {w : World} {L H n p : Nat} {As : Nat → Option Addr} {bl : Nat → Nat} {zs : Nat → Nat → Int} (h : RowsF w L H As n p bl zs) : RdL w H As n p zs := fun j hj hp => by
  obtain ⟨⟨h1, h2, h3, h4⟩, _⟩ := h j hj hp
  rw [h1]
  exact h4.rd h3 hp
def MarkK (L H : Nat) (w w' : World) : Prop := KeptR L H w w' ∧ ∀ (x : Nat) (t : TypeId) (c : Array Value), 2 ≠ t → Blk w x t c → Blk w' x t c
theorem MarkK.trans {L H : Nat} {a b d : World} (h : MarkK L H a b) (k : MarkK L H b d) : MarkK L H a d := by
  obtain ⟨⟨h1, h2, h3, h4, h5⟩, h6⟩ := h
  obtain ⟨⟨k1, k2, k3, k4, k5⟩, k6⟩ := k
  exact ⟨⟨k1.trans h1, k2.trans h2, k3.trans h3, Nat.le_trans h4 k4, fun x hx hr => (k5 x (by omega) hr).trans (h5 x hx hr)⟩, fun x t c hne hb => k6 x t c hne (h6 x t c hne hb)⟩
theorem MarkK.alloc {L H : Nat} {w : World} (_hH : H ≤ w.heap.size) (o : Obj) : MarkK L H w (w.alloc o) :=
  ⟨⟨rfl, rfl, rfl, by rw [World.size_alloc]; omega, fun x hx _ => Below.heap_alloc w o x hx⟩, fun _ _ _ _ hb => hb.alloc o⟩
/-- The numbers that a mark writes. -/
def mkS (k0 : Int) (n p : Nat) : Nat → Int
  | 0 => k0
  | 1 => k0 + n
  | 2 => k0 + n + p
  | 3 => k0 + n + p + p
  | 4 => k0 + n + p + p + p
  | 5 => k0 + n + p + p + p + p
  | _ => k0 + n + p + p + p + p + p
def mkZ (k0 : Int) (n p : Nat) (j i : Nat) : Int := mkS k0 n p j + i

theorem mark1_any (j : Nat) (hj : j < 7) (L H : Nat) (As : Nat → Option Addr) (cs bl : Nat → Nat) (n p : Nat) (zs : Nat → Nat → Int) (k : Int) (w : World) (h : RowsF w L H As n p bl zs) (hH : H ≤ w.heap.size) (hn : n ≤ 12) (hp : p ≤ 180) (h0 : 0 ≤ k) (h1 : k ≤ 2000000) :
    Calls Try.prog 28 #[.slice (As j) (nsF n p 0 j) (cs j), .int .i64 k] w fun e w' => e = .returned (.int .i64 (k + nsF n p 0 j)) ∧ RowsF w' L H As n p bl (upF zs j (fun i => k + i)) ∧ MarkK L H w w' := by
  have hns : nsF n p 0 j ≤ 180 := by cases j <;> simp only [nsF] <;> (try split) <;> omega
  by_cases hpos : 0 < nsF n p 0 j
  · obtain ⟨⟨e1, e2, e3, e4⟩, e5⟩ := h j hj hpos
    refine (mark_any (As j) (nsF n p 0 j) (cs j) (bl j) (zs j) k w (fun _ => ⟨e1, e4⟩) (by omega) h0 (by omega)).mono ?_
    rintro e w' ⟨rfl, hg, hr⟩
    refine ⟨rfl, fun i hi hpi => ?_, (KeptR.refl L H w).grown hg ⟨e2, e3⟩, fun x t c hne hb => ?_⟩
    · by_cases eij : i = j
      · subst eij
        rw [upF_same]
        exact ⟨⟨e1, e2, e3, hr hpos⟩, e5⟩
      · rw [upF_other eij]
        obtain ⟨⟨i1, i2, i3, i4⟩, i5⟩ := h i hi hpi
        exact ⟨⟨i1, i2, i3, i4.keep (hg.block _ (by omega) (by intro q; injection q with q; exact e5 i hi eij hpi q))⟩, i5⟩
    · obtain ⟨c', hc', _⟩ := e4
      exact hb.grown hg (by intro q; injection q with q; subst q; exact (hc'.ne_ hb hne) rfl)
  · refine (mark_any (As j) (nsF n p 0 j) (cs j) w.heap.size (zs j) k w (fun q => absurd q hpos) (by omega) h0 (by omega)).mono ?_
    rintro e w' ⟨rfl, hg, _⟩
    have hk : ∀ x, x < w.heap.size → w'.heap[x]? = w.heap[x]? := fun x hx => hg.block x hx (by intro q; injection q with q; omega)
    refine ⟨rfl, fun i hi hpi => ?_, ⟨hg.os, hg.tape, hg.output, hg.size, fun x hx _ => hk x hx⟩, fun x t c _ hb => (hk x hb.lt).trans hb⟩
    have eij : i ≠ j := by intro q; subst q; exact hpos hpi
    rw [upF_other eij]
    exact h.keep (fun x _ hx => hk x (by omega)) i hi hpi
theorem held1_any (j : Nat) (hj : j < 7) (L H : Nat) (As : Nat → Option Addr) (cs bl : Nat → Nat) (n p : Nat) (zs : Nat → Nat → Int) (k : Int) (w : World) (h : RowsF w L H As n p bl zs) (hz : ∀ i, zs j i = k + i) (hn : n ≤ 12) (hp : p ≤ 180) (h0 : 0 ≤ k) (h1 : k ≤ 2000000) :
    Calls Try.prog 29 #[.slice (As j) (nsF n p 0 j) (cs j), .int .i64 k] w fun e w' => e = .returned (.int .i64 (k + nsF n p 0 j)) ∧ w = w' := by
  have hns : nsF n p 0 j ≤ 180 := by cases j <;> simp only [nsF] <;> (try split) <;> omega
  refine held_any (As j) (nsF n p 0 j) (cs j) (bl j) k w (fun hpos => ?_) (by omega) h0 (by omega)
  obtain ⟨⟨e1, _, _, e4⟩, _⟩ := h j hj hpos
  exact ⟨e1, e4.congr fun i _ => hz i⟩

set_option maxRecDepth 100000 in
set_option maxHeartbeats 4000000 in
theorem markF_any (f b : Int) (L H : Nat) (As : Nat → Option Addr) (cs bl : Nat → Nat) (n p : Nat) (zs : Nat → Nat → Int) (k0 : Int) (w : World) (h : RowsF w L H As n p bl zs) (hH : H ≤ w.heap.size) (hn : n ≤ 12) (hp : p ≤ 180) (h0 : 0 ≤ k0) (h1 : k0 ≤ 1000000) :
    Calls Try.prog 37 #[.agg (flC f b As cs n p 0), .int .i64 k0] w fun e w' => e = .returned (.int .i64 (k0 + n + p + p + p + p + p + p)) ∧ RowsF w' L H As n p bl (mkZ k0 n p) ∧ MarkK L H w w' := by
  have P0 := Blk.new w 50 (flC f b As cs n p 0)
  have HR0 : Hid (RowsF (w.alloc (.cells (flC f b As cs n p 0) 50)) L H As n p bl zs) := h.keep fun x _ hx => Below.heap_alloc w _ x (by omega)
  have s0 : H ≤ (w.alloc (.cells (flC f b As cs n p 0) 50)).heap.size := by rw [World.size_alloc]; omega
  have K0 : MarkK L H w (w.alloc (.cells (flC f b As cs n p 0) 50)) := MarkK.alloc hH _
  clear h
  go_enter Try.func37, Try.ntmps37
  have c0 : (w.alloc (.cells (flC f b As cs n p 0) 50)).cell? ⟨w.heap.size, 2, none⟩ = some (.slice (As 0) n (cs 0)) := P0.cell 2
  go_wp2_with fail
  refine (mark1_any 0 (by decide) L H As cs bl n p zs (k0) _ HR0.out s0 (by omega) (by omega) (by omega) (by omega)).mono ?_
  rintro e w1 ⟨rfl, R1, J1⟩
  obtain ⟨z1, hz1⟩ : ∃ z, upF zs 0 (fun i => (k0) + i) = z := ⟨_, rfl⟩
  rw [hz1] at R1
  have HZ1 := hid hz1
  clear hz1
  have HR1 := hid R1
  have P1 := J1.2 _ _ _ nums_ne_flat P0
  have K1 := K0.trans J1
  have s1 := Nat.le_trans s0 J1.1.2.2.2.1
  clear R1 J1 P0 K0 s0 HR0 c0
  have c1 : w1.cell? ⟨w.heap.size, 3, none⟩ = some (.slice (As 1) p (cs 1)) := P1.cell 3
  go_wp2_with fail
  refine (mark1_any 1 (by decide) L H As cs bl n p z1 (k0 + n) _ HR1.out s1 (by omega) (by omega) (by omega) (by omega)).mono ?_
  rintro e w2 ⟨rfl, R2, J2⟩
  obtain ⟨z2, hz2⟩ : ∃ z, upF z1 1 (fun i => (k0 + n) + i) = z := ⟨_, rfl⟩
  rw [hz2] at R2
  have HZ2 := hid hz2
  clear hz2
  have HR2 := hid R2
  have P2 := J2.2 _ _ _ nums_ne_flat P1
  have K2 := K1.trans J2
  have s2 := Nat.le_trans s1 J2.1.2.2.2.1
  clear R2 J2 P1 K1 s1 HR1 c1
  have c2 : w2.cell? ⟨w.heap.size, 4, none⟩ = some (.slice (As 2) p (cs 2)) := P2.cell 4
  go_wp2_with fail
  refine (mark1_any 2 (by decide) L H As cs bl n p z2 (k0 + n + p) _ HR2.out s2 (by omega) (by omega) (by omega) (by omega)).mono ?_
  rintro e w3 ⟨rfl, R3, J3⟩
  obtain ⟨z3, hz3⟩ : ∃ z, upF z2 2 (fun i => (k0 + n + p) + i) = z := ⟨_, rfl⟩
  rw [hz3] at R3
  have HZ3 := hid hz3
  clear hz3
  have HR3 := hid R3
  have P3 := J3.2 _ _ _ nums_ne_flat P2
  have K3 := K2.trans J3
  have s3 := Nat.le_trans s2 J3.1.2.2.2.1
  clear R3 J3 P2 K2 s2 HR2 c2
  have c3 : w3.cell? ⟨w.heap.size, 5, none⟩ = some (.slice (As 3) p (cs 3)) := P3.cell 5
  go_wp2_with fail
  refine (mark1_any 3 (by decide) L H As cs bl n p z3 (k0 + n + p + p) _ HR3.out s3 (by omega) (by omega) (by omega) (by omega)).mono ?_
  rintro e w4 ⟨rfl, R4, J4⟩
  obtain ⟨z4, hz4⟩ : ∃ z, upF z3 3 (fun i => (k0 + n + p + p) + i) = z := ⟨_, rfl⟩
  rw [hz4] at R4
  have HZ4 := hid hz4
  clear hz4
  have HR4 := hid R4
  have P4 := J4.2 _ _ _ nums_ne_flat P3
  have K4 := K3.trans J4
  have s4 := Nat.le_trans s3 J4.1.2.2.2.1
  clear R4 J4 P3 K3 s3 HR3 c3
  have c4 : w4.cell? ⟨w.heap.size, 6, none⟩ = some (.slice (As 4) p (cs 4)) := P4.cell 6
  go_wp2_with fail
  refine (mark1_any 4 (by decide) L H As cs bl n p z4 (k0 + n + p + p + p) _ HR4.out s4 (by omega) (by omega) (by omega) (by omega)).mono ?_
  rintro e w5 ⟨rfl, R5, J5⟩
  obtain ⟨z5, hz5⟩ : ∃ z, upF z4 4 (fun i => (k0 + n + p + p + p) + i) = z := ⟨_, rfl⟩
  rw [hz5] at R5
  have HZ5 := hid hz5
  clear hz5
  have HR5 := hid R5
  have P5 := J5.2 _ _ _ nums_ne_flat P4
  have K5 := K4.trans J5
  have s5 := Nat.le_trans s4 J5.1.2.2.2.1
  clear R5 J5 P4 K4 s4 HR4 c4
  have c5 : w5.cell? ⟨w.heap.size, 7, none⟩ = some (.slice (As 5) p (cs 5)) := P5.cell 7
  go_wp2_with fail
  refine (mark1_any 5 (by decide) L H As cs bl n p z5 (k0 + n + p + p + p + p) _ HR5.out s5 (by omega) (by omega) (by omega) (by omega)).mono ?_
  rintro e w6 ⟨rfl, R6, J6⟩
  obtain ⟨z6, hz6⟩ : ∃ z, upF z5 5 (fun i => (k0 + n + p + p + p + p) + i) = z := ⟨_, rfl⟩
  rw [hz6] at R6
  have HZ6 := hid hz6
  clear hz6
  have HR6 := hid R6
  have P6 := J6.2 _ _ _ nums_ne_flat P5
  have K6 := K5.trans J6
  have s6 := Nat.le_trans s5 J6.1.2.2.2.1
  clear R6 J6 P5 K5 s5 HR5 c5
  have c6 : w6.cell? ⟨w.heap.size, 8, none⟩ = some (.slice (As 6) p (cs 6)) := P6.cell 8
  go_wp2_with fail
  refine (mark1_any 6 (by decide) L H As cs bl n p z6 (k0 + n + p + p + p + p + p) _ HR6.out s6 (by omega) (by omega) (by omega) (by omega)).mono ?_
  rintro e w7 ⟨rfl, R7, J7⟩
  obtain ⟨z7, hz7⟩ : ∃ z, upF z6 6 (fun i => (k0 + n + p + p + p + p + p) + i) = z := ⟨_, rfl⟩
  rw [hz7] at R7
  have HZ7 := hid hz7
  clear hz7
  have HR7 := hid R7
  have P7 := J7.2 _ _ _ nums_ne_flat P6
  have K7 := K6.trans J7
  have s7 := Nat.le_trans s6 J7.1.2.2.2.1
  clear R7 J7 P6 K6 s6 HR6 c6
  go_wp2_with fail
  go_ret
  refine ⟨rfl, HR7.out.congr fun j hj i _ => ?_, K7⟩
  rw [← HZ7.out, ← HZ6.out, ← HZ5.out, ← HZ4.out, ← HZ3.out, ← HZ2.out, ← HZ1.out]
  match j, hj with
  | 0, _ => rfl
  | 1, _ => rfl
  | 2, _ => rfl
  | 3, _ => rfl
  | 4, _ => rfl
  | 5, _ => rfl
  | 6, _ => rfl
set_option maxRecDepth 100000 in
set_option maxHeartbeats 4000000 in
theorem heldF_any (f b : Int) (L H : Nat) (As : Nat → Option Addr) (cs bl : Nat → Nat) (n p : Nat) (k0 : Int) (w : World) (h : RowsF w L H As n p bl (mkZ k0 n p)) (hH : H ≤ w.heap.size) (hn : n ≤ 12) (hp : p ≤ 180) (h0 : 0 ≤ k0) (h1 : k0 ≤ 1000000) :
    Calls Try.prog 38 #[.agg (flC f b As cs n p 0), .int .i64 k0] w fun e w' => e = .returned (.int .i64 (k0 + n + p + p + p + p + p + p)) ∧ Below w.heap.size w w' := by
  have P0 := Blk.new w 50 (flC f b As cs n p 0)
  have HR0 : Hid (RowsF (w.alloc (.cells (flC f b As cs n p 0) 50)) L H As n p bl (mkZ k0 n p)) := h.keep fun x _ hx => Below.heap_alloc w _ x (by omega)
  have s0 : H ≤ (w.alloc (.cells (flC f b As cs n p 0) 50)).heap.size := by rw [World.size_alloc]; omega
  have hb := (Below.refl w.heap.size w).alloc (Nat.le_refl _) (.cells (flC f b As cs n p 0) 50)
  clear h
  go_enter Try.func38, Try.ntmps38
  have c0 : (w.alloc (.cells (flC f b As cs n p 0) 50)).cell? ⟨w.heap.size, 2, none⟩ = some (.slice (As 0) n (cs 0)) := P0.cell 2
  go_wp2_with fail
  refine (held1_any 0 (by decide) L H As cs bl n p (mkZ k0 n p) (k0) _ HR0.out (fun _ => rfl) (by omega) (by omega) (by omega) (by omega)).mono ?_
  rintro e w1 ⟨rfl, rfl⟩
  clear c0
  have c1 : (w.alloc (.cells (flC f b As cs n p 0) 50)).cell? ⟨w.heap.size, 3, none⟩ = some (.slice (As 1) p (cs 1)) := P0.cell 3
  go_wp2_with fail
  refine (held1_any 1 (by decide) L H As cs bl n p (mkZ k0 n p) (k0 + n) _ HR0.out (fun _ => rfl) (by omega) (by omega) (by omega) (by omega)).mono ?_
  rintro e w2 ⟨rfl, rfl⟩
  clear c1
  have c2 : (w.alloc (.cells (flC f b As cs n p 0) 50)).cell? ⟨w.heap.size, 4, none⟩ = some (.slice (As 2) p (cs 2)) := P0.cell 4
  go_wp2_with fail
  refine (held1_any 2 (by decide) L H As cs bl n p (mkZ k0 n p) (k0 + n + p) _ HR0.out (fun _ => rfl) (by omega) (by omega) (by omega) (by omega)).mono ?_
  rintro e w3 ⟨rfl, rfl⟩
  clear c2
  have c3 : (w.alloc (.cells (flC f b As cs n p 0) 50)).cell? ⟨w.heap.size, 5, none⟩ = some (.slice (As 3) p (cs 3)) := P0.cell 5
  go_wp2_with fail
  refine (held1_any 3 (by decide) L H As cs bl n p (mkZ k0 n p) (k0 + n + p + p) _ HR0.out (fun _ => rfl) (by omega) (by omega) (by omega) (by omega)).mono ?_
  rintro e w4 ⟨rfl, rfl⟩
  clear c3
  have c4 : (w.alloc (.cells (flC f b As cs n p 0) 50)).cell? ⟨w.heap.size, 6, none⟩ = some (.slice (As 4) p (cs 4)) := P0.cell 6
  go_wp2_with fail
  refine (held1_any 4 (by decide) L H As cs bl n p (mkZ k0 n p) (k0 + n + p + p + p) _ HR0.out (fun _ => rfl) (by omega) (by omega) (by omega) (by omega)).mono ?_
  rintro e w5 ⟨rfl, rfl⟩
  clear c4
  have c5 : (w.alloc (.cells (flC f b As cs n p 0) 50)).cell? ⟨w.heap.size, 7, none⟩ = some (.slice (As 5) p (cs 5)) := P0.cell 7
  go_wp2_with fail
  refine (held1_any 5 (by decide) L H As cs bl n p (mkZ k0 n p) (k0 + n + p + p + p + p) _ HR0.out (fun _ => rfl) (by omega) (by omega) (by omega) (by omega)).mono ?_
  rintro e w6 ⟨rfl, rfl⟩
  clear c5
  have c6 : (w.alloc (.cells (flC f b As cs n p 0) 50)).cell? ⟨w.heap.size, 8, none⟩ = some (.slice (As 6) p (cs 6)) := P0.cell 8
  go_wp2_with fail
  refine (held1_any 6 (by decide) L H As cs bl n p (mkZ k0 n p) (k0 + n + p + p + p + p + p) _ HR0.out (fun _ => rfl) (by omega) (by omega) (by omega) (by omega)).mono ?_
  rintro e w7 ⟨rfl, rfl⟩
  clear c6
  have hk : ¬ (k0 + n + p + p + p + p + p + p) < 0 := by omega
  go_wp2_with fail
  go_ret
  exact ⟨rfl, hb⟩

/-! ### FlX -/
theorem RdL.keepH {w w' : World} {B n p : Nat} {As : Nat → Option Addr} {zs : Nat → Nat → Int} (h : RdL w B As n p zs) (hk : ∀ x, x < B → w'.heap[x]? = w.heap[x]?) : RdL w' B As n p zs := fun j hj => (h j hj).keep fun p hp => World.cell?_of_block (hk p.block hp)
theorem cellsG {w : World} {p n m : Nat} {f b : Int} {As : Nat → Option Addr} {cs : Nat → Nat} (h : Blk w p 50 (flC f b As cs n m 0)) :
    w.cell? ⟨p, 0, none⟩ = some (.int .i64 f) ∧ w.cell? ⟨p, 1, none⟩ = some (.int .i64 b) ∧ w.cell? ⟨p, 2, none⟩ = some (.slice (As 0) n (cs 0)) ∧ w.cell? ⟨p, 3, none⟩ = some (.slice (As 1) m (cs 1)) ∧ w.cell? ⟨p, 4, none⟩ = some (.slice (As 2) m (cs 2)) ∧ w.cell? ⟨p, 5, none⟩ = some (.slice (As 3) m (cs 3)) ∧ w.cell? ⟨p, 6, none⟩ = some (.slice (As 4) m (cs 4)) ∧ w.cell? ⟨p, 7, none⟩ = some (.slice (As 5) m (cs 5)) ∧ w.cell? ⟨p, 8, none⟩ = some (.slice (As 6) m (cs 6)) :=
  ⟨h.cell 0, h.cell 1, h.cell 2, h.cell 3, h.cell 4, h.cell 5, h.cell 6, h.cell 7, h.cell 8⟩

set_option maxRecDepth 100000 in
set_option maxHeartbeats 8000000 in
theorem lawFlatten (f b : Int) (A : Option Addr) (n c : Nat) (len : Nat → Nat) (g : Nat → Nat → Nd) (w : World) (h : RdT w w.heap.size A n len g) (hn : n ≤ 9223372036854775807) (hlen : ∀ i, i < n → len i ≤ 9223372036854775807) :
    Calls Try.prog 6 #[enV f b A n c] w fun e w' => e = .returned (.bool true) ∧ Below w.heap.size w w' := by
  have HL := hid hlen
  clear hlen
  have hb1 := (Below.refl w.heap.size w).alloc (Nat.le_refl _) (.cells #[.int .i64 f, .int .i64 b, .slice A n c] 24)
  have BE_0 := Blk.new w 24 #[.int .i64 f, .int .i64 b, .slice A n c]
  go_enter Try.func6, Try.ntmps6
  go_wp2_with fail
  refine (szE_any f b A n c len g 1048576 _ (h.to hb1 hb1.size) hn HL (by omega) (by omega)).mono ?_
  rintro e w2 ⟨y, rfl, hy, hb2⟩
  have hw_0 := hb1
  have BE_1 := BE_0.below hb2 BE_0.lt
  have hw_1 := hw_0.trans (hb2.mono hw_0.size)
  clear BE_0 hw_0
  clear hb1 hb2
  by_cases hneg : y < 0
  · clear hy
    go_wp2_with fail
    go_ret
    exact ⟨rfl, hw_1⟩
  have hsm : n ≤ 1048576 ∧ ∀ i, i < n → len i ≤ 1048576 := by
    rcases hy with h | h
    · exact absurd h hneg
    · exact h.2.2
  obtain ⟨hn1, hlm⟩ := hsm
  have hn2 : n ≤ 4194304 := by omega
  have hcm := cumL_le hlm n (Nat.le_refl n)
  have hcu : cumL len n ≤ 5000000000000 := Nat.le_trans hcm (Nat.le_trans (Nat.mul_le_mul hn1 (Nat.le_refl _)) (by omega))
  have S1 := hid hlm
  have hl2 : Hid (∀ i, i < n → len i ≤ 4194304) := fun i hi => by have := S1.out i hi; omega
  clear hy hlm hn HL hcm
  obtain ⟨Y, hYe⟩ : ∃ Y, ensB f b n len g = Y := ⟨_, rfl⟩
  have HY := hid hYe
  clear hYe
  obtain ⟨F, hF⟩ : ∃ x, yI Y f = x := ⟨_, rfl⟩
  obtain ⟨B, hB⟩ : ∃ x, yI Y b = x := ⟨_, rfl⟩
  obtain ⟨N, hN⟩ : ∃ x, yN Y n = x := ⟨_, rfl⟩
  obtain ⟨P, hP⟩ : ∃ x, yN Y (cumT len n) = x := ⟨_, rfl⟩
  have hNP : N ≤ 12 ∧ P ≤ 180 := by
    cases Y with
    | false => subst hN; subst hP; exact ⟨Nat.zero_le _, Nat.zero_le _⟩
    | true => subst hN; subst hP; exact ens_cum HY.out
  obtain ⟨hN12, hP180⟩ := hNP
  have HF := hid hF
  have HB := hid hB
  have HN := hid hN
  have HP := hid hP
  clear hF hB hN hP
  obtain ⟨zs, hzs⟩ : ∃ z, zE len g n = z := ⟨_, rfl⟩
  have HZ := hid hzs
  clear hzs
  obtain ⟨a0, a1, a2, _, _, _⟩ := blk_cells3 BE_1
  go_wp2_with fail
  refine (toE_any f b A n c len g _ ((h.below hw_1).more hw_1.size) hn2 hl2).mono ?_
  rintro e w3 ⟨b3, rfl, _, hr3, hb3⟩
  clear a0 a1 a2
  have BE_2 := BE_1.below hb3 BE_1.lt
  have hw_2 := hw_1.trans (hb3.mono hw_1.size)
  clear BE_1 hw_1
  clear hb3
  go_wp2_with fail
  refine (sFlat_any f b (some ⟨b3, 0, none⟩) n n len g _ hr3 hn2 hl2 Y HY.out).mono ?_
  rintro e w4 ⟨As, cs, rfl, hLs, hb4⟩
  rw [HF.out, HB.out, HN.out, HP.out]
  rw [HN.out, HP.out, HZ.out] at hLs
  clear hr3
  have BE_3 := BE_2.below hb4 BE_2.lt
  have hw_3 := hw_2.trans (hb4.mono hw_2.size)
  clear BE_2 hw_2
  clear hb4
  have RA_3 := hLs.rdL
  have zA_3 := Nat.le_refl w4.heap.size
  clear hLs
  have hw4s := hw_3.size
  have BE_4 := BE_3.alloc (.cells (flC F B As cs N P 0) 50)
  have hw_4 := hw_3.alloc hw_3.size (.cells (flC F B As cs N P 0) 50)
  have RA_4 := RA_3.keepH fun x hx => Below.heap_alloc w4 (.cells (flC F B As cs N P 0) 50) x (by omega)
  have zA_4 := Nat.le_trans zA_3 (show w4.heap.size ≤ (World.alloc w4 (.cells (flC F B As cs N P 0) 50)).heap.size by rw [World.size_alloc]; exact Nat.le_succ _)
  clear BE_3 hw_3 RA_3 zA_3
  have BW_4 := Blk.new w4 50 (flC F B As cs N P 0)
  obtain ⟨a0, a1, a2, _, _, _⟩ := blk_cells3 BE_4
  go_wp2_with fail
  refine (toEJ_any f b A n c len g _ ((h.below hw_4).more hw_4.size) hn2 hl2).mono ?_
  rintro e w6 ⟨bt, rfl, _, ld, hb6⟩
  clear a0 a1 a2
  have BE_5 := BE_4.below hb6 BE_4.lt
  have hw_5 := hw_4.trans (hb6.mono hw_4.size)
  have RA_5 := RA_4.keepH fun x hx => hb6.block x (by omega)
  have zA_5 := Nat.le_trans zA_4 hb6.size
  have BW_5 := BW_4.below hb6 BW_4.lt
  clear BE_4 hw_4 RA_4 zA_4 BW_4
  have hs6 : w4.heap.size + 1 ≤ w6.heap.size := by have := hb6.size; rw [World.size_alloc] at this; exact this
  clear hb6
  have LX_5 := ld.less (L' := w4.heap.size + 1) (H' := w6.heap.size) (by rw [World.size_alloc]; exact Nat.le_refl _) (Nat.le_refl _)
  clear ld
  have zX_5 := Nat.le_refl w6.heap.size
  have BE_6 := BE_5.alloc (.cells #[.int .i64 f, .int .i64 b, .slice (some ⟨bt, 0, none⟩) n n] 33)
  have hw_6 := hw_5.alloc hw_5.size (.cells #[.int .i64 f, .int .i64 b, .slice (some ⟨bt, 0, none⟩) n n] 33)
  have RA_6 := RA_5.keepH fun x hx => Below.heap_alloc w6 (.cells #[.int .i64 f, .int .i64 b, .slice (some ⟨bt, 0, none⟩) n n] 33) x (by omega)
  have zA_6 := Nat.le_trans zA_5 (show w6.heap.size ≤ (World.alloc w6 (.cells #[.int .i64 f, .int .i64 b, .slice (some ⟨bt, 0, none⟩) n n] 33)).heap.size by rw [World.size_alloc]; exact Nat.le_succ _)
  have BW_6 := BW_5.alloc (.cells #[.int .i64 f, .int .i64 b, .slice (some ⟨bt, 0, none⟩) n n] 33)
  have LX_6 := LX_5.keep fun x _ hx => Below.heap_alloc w6 (.cells #[.int .i64 f, .int .i64 b, .slice (some ⟨bt, 0, none⟩) n n] 33) x (by omega)
  have zX_6 := Nat.le_trans zX_5 (show w6.heap.size ≤ (World.alloc w6 (.cells #[.int .i64 f, .int .i64 b, .slice (some ⟨bt, 0, none⟩) n n] 33)).heap.size by rw [World.size_alloc]; exact Nat.le_succ _)
  clear BE_5 hw_5 RA_5 zA_5 BW_5 LX_5 zX_5
  have BX_6 := Blk.new w6 33 #[.int .i64 f, .int .i64 b, .slice (some ⟨bt, 0, none⟩) n n]
  obtain ⟨a0, a1, a2, _, _, _⟩ := blk_cells3 BX_6
  go_wp2_with fail
  refine (iFlat_any f b (some ⟨bt, 0, none⟩) n n len g _ (LX_6.rdT) hn2 hl2 Y HY.out).mono ?_
  rintro e w8 ⟨Gs, gs, rfl, hLg, hb8⟩
  rw [HF.out, HB.out, HN.out, HP.out]
  rw [HN.out, HP.out, HZ.out] at hLg
  clear a0 a1 a2
  have BE_7 := BE_6.below hb8 BE_6.lt
  have hw_7 := hw_6.trans (hb8.mono hw_6.size)
  have RA_7 := RA_6.keepH fun x hx => hb8.block x (by omega)
  have zA_7 := Nat.le_trans zA_6 hb8.size
  have BW_7 := BW_6.below hb8 BW_6.lt
  have LX_7 := LX_6.keep fun x _ hx => hb8.block x (by omega)
  have zX_7 := Nat.le_trans zX_6 hb8.size
  have BX_7 := BX_6.below hb8 BX_6.lt
  clear BE_6 hw_6 RA_6 zA_6 BW_6 LX_6 zX_6 BX_6
  have hs8 : w6.heap.size + 1 ≤ w8.heap.size := by have := hb8.size; rw [World.size_alloc] at this; exact this
  clear hb8
  obtain ⟨bl, QG_7⟩ := (hLg.less (B' := w6.heap.size + 1) (by rw [World.size_alloc]; exact Nat.le_refl _)).rows
  clear hLg
  have zG_7 := Nat.le_refl w8.heap.size
  have BE_8 := BE_7.alloc (.cells (flC F B Gs gs N P 0) 50)
  have hw_8 := hw_7.alloc hw_7.size (.cells (flC F B Gs gs N P 0) 50)
  have RA_8 := RA_7.keepH fun x hx => Below.heap_alloc w8 (.cells (flC F B Gs gs N P 0) 50) x (by omega)
  have zA_8 := Nat.le_trans zA_7 (show w8.heap.size ≤ (World.alloc w8 (.cells (flC F B Gs gs N P 0) 50)).heap.size by rw [World.size_alloc]; exact Nat.le_succ _)
  have BW_8 := BW_7.alloc (.cells (flC F B Gs gs N P 0) 50)
  have LX_8 := LX_7.keep fun x _ hx => Below.heap_alloc w8 (.cells (flC F B Gs gs N P 0) 50) x (by omega)
  have zX_8 := Nat.le_trans zX_7 (show w8.heap.size ≤ (World.alloc w8 (.cells (flC F B Gs gs N P 0) 50)).heap.size by rw [World.size_alloc]; exact Nat.le_succ _)
  have BX_8 := BX_7.alloc (.cells (flC F B Gs gs N P 0) 50)
  have QG_8 := QG_7.keep fun x _ hx => Below.heap_alloc w8 (.cells (flC F B Gs gs N P 0) 50) x (by omega)
  have zG_8 := Nat.le_trans zG_7 (show w8.heap.size ≤ (World.alloc w8 (.cells (flC F B Gs gs N P 0) 50)).heap.size by rw [World.size_alloc]; exact Nat.le_succ _)
  clear BE_7 hw_7 RA_7 zA_7 BW_7 LX_7 zX_7 BX_7 QG_7 zG_7
  have BG_8 := Blk.new w8 50 (flC F B Gs gs N P 0)
  obtain ⟨a0, a1, a2, a3, a4, a5, a6, a7, a8⟩ := cellsG BG_8
  obtain ⟨b0, b1, b2, b3, b4, b5, b6, b7, b8⟩ := cellsG BW_8
  go_wp2_with fail
  refine (eqFlat_any F B Gs As gs cs N P zs _ (QG_8.rdL.more zG_8) (RA_8.more zA_8) hN12 hP180).mono ?_
  rintro e w10 ⟨rfl, hbq⟩
  clear a0 a1 a2 a3 a4 a5 a6 a7 a8 b0 b1 b2 b3 b4 b5 b6 b7 b8
  have BE_9 := BE_8.below hbq BE_8.lt
  have hw_9 := hw_8.trans (hbq.mono hw_8.size)
  have RA_9 := RA_8.keepH fun x hx => hbq.block x (by omega)
  have zA_9 := Nat.le_trans zA_8 hbq.size
  have BW_9 := BW_8.below hbq BW_8.lt
  have LX_9 := LX_8.keep fun x _ hx => hbq.block x (by omega)
  have zX_9 := Nat.le_trans zX_8 hbq.size
  have BX_9 := BX_8.below hbq BX_8.lt
  have QG_9 := QG_8.keep fun x _ hx => hbq.block x (by omega)
  have zG_9 := Nat.le_trans zG_8 hbq.size
  have BG_9 := BG_8.below hbq BG_8.lt
  clear BE_8 hw_8 RA_8 zA_8 BW_8 LX_8 zX_8 BX_8 QG_8 zG_8 BG_8
  clear hbq
  obtain ⟨c0, c1, c2, _, _, _⟩ := blk_cells3 BE_9
  obtain ⟨x0, x1, x2, _, _, _⟩ := blk_cells3 BX_9
  have hEl : w.heap.size < w10.heap.size := BE_9.lt
  have hXl : w6.heap.size < w10.heap.size := BX_9.lt
  have h7d : RdT w10.drew w10.drew.heap.size A n len g := ((h.below hw_9).more hw_9.size)
  have hr7 : RdT w10.drew w10.drew.heap.size (some ⟨bt, 0, none⟩) n len g := LX_9.rdT
  go_wp2_with fail
  go_region_held3 (fun w' => w'.cell? ⟨w.heap.size, 0, none⟩ = some (.int .i64 f) ∧ w'.cell? ⟨w.heap.size, 1, none⟩ = some (.int .i64 b) ∧ w'.cell? ⟨w.heap.size, 2, none⟩ = some (.slice A n c) ∧ w'.cell? ⟨w6.heap.size, 0, none⟩ = some (.int .i64 f) ∧ w'.cell? ⟨w6.heap.size, 1, none⟩ = some (.int .i64 b) ∧ w'.cell? ⟨w6.heap.size, 2, none⟩ = some (.slice (some ⟨bt, 0, none⟩) n n))
    (first | exact ⟨e0, e1, e2, y0, y1, y2⟩ | exact ⟨i0, i1, i2, z0, z1, z2⟩ | (simp [go_sem]; done) | (simp [go_sem, *]; done))
    (first
      | (go_at_call 19; refine (toE_any f b A n c len g w10.drew h7d hn2 hl2).mono ?_; rintro e w11 ⟨b8, rfl, _, hr8, hb11⟩; obtain ⟨hc8, hf8⟩ := bcell hb11; have e0 := (hc8 w.heap.size _ hEl).trans c0; have e1 := (hc8 w.heap.size _ hEl).trans c1; have e2 := (hc8 w.heap.size _ hEl).trans c2; have y0 := (hc8 w6.heap.size _ hXl).trans x0; have y1 := (hc8 w6.heap.size _ hXl).trans x1; have y2 := (hc8 w6.heap.size _ hXl).trans x2; have hr78 := RdT.to (w := w10.drew) hr7 hb11 hb11.size)
      | (go_at_call 22; refine (eqE_any f b _ _ n n n len g _ hr78 hr8 hn2 hl2).mono ?_; rintro e w12 ⟨rfl, hb12⟩; obtain ⟨hc9, hf9⟩ := bcell hb12; have hlE : w.heap.size < w11.heap.size := Nat.lt_of_lt_of_le hEl hb11.size; have hlX : w6.heap.size < w11.heap.size := Nat.lt_of_lt_of_le hXl hb11.size; have i0 := (hc9 w.heap.size _ hlE).trans e0; have i1 := (hc9 w.heap.size _ hlE).trans e1; have i2 := (hc9 w.heap.size _ hlE).trans e2; have z0 := (hc9 w6.heap.size _ hlX).trans y0; have z1 := (hc9 w6.heap.size _ hlX).trans y1; have z2 := (hc9 w6.heap.size _ hlX).trans y2))
  have hb1012 : Below w10.heap.size w10 w12 := ((Below.refl w10.heap.size w10).drew.trans hb11).trans (hb12.mono hb11.size)
  clear hb11 hb12 e0 e1 e2 y0 y1 y2 i0 i1 i2 z0 z1 z2 c0 c1 c2 x0 x1 x2 hc8 hf8 hc9 hf9 hr78 hr8 hr7 h7d hEl hXl hlE hlX
  have BE_10 := BE_9.below hb1012 BE_9.lt
  have hw_10 := hw_9.trans (hb1012.mono hw_9.size)
  have RA_10 := RA_9.keepH fun x hx => hb1012.block x (by omega)
  have zA_10 := Nat.le_trans zA_9 hb1012.size
  have BW_10 := BW_9.below hb1012 BW_9.lt
  have LX_10 := LX_9.keep fun x _ hx => hb1012.block x (by omega)
  have zX_10 := Nat.le_trans zX_9 hb1012.size
  have BX_10 := BX_9.below hb1012 BX_9.lt
  have QG_10 := QG_9.keep fun x _ hx => hb1012.block x (by omega)
  have zG_10 := Nat.le_trans zG_9 hb1012.size
  have BG_10 := BG_9.below hb1012 BG_9.lt
  clear BE_9 hw_9 RA_9 zA_9 BW_9 LX_9 zX_9 BX_9 QG_9 zG_9 BG_9
  clear hb1012
  obtain ⟨a0, a1, a2, _, _, _⟩ := blk_cells3 BX_10
  go_wp2_with fail
  refine (markE_any f b (w4.heap.size + 1) w6.heap.size n n (some ⟨bt, 0, none⟩) len g 1 _ LX_10 zX_10 hn2 S1 (by omega) (by omega) hcu).mono ?_
  rintro e w13 ⟨rfl, _, hk⟩
  clear a0 a1 a2
  obtain ⟨q, hq⟩ : ∃ q : Int, 1 + 6 * ((cumL len n : Nat) : Int) = q := ⟨_, rfl⟩
  rw [hq]
  have q1 : ¬ q < 0 := by omega
  clear hq
  have bEl := BE_10.lt
  have bXl := BX_10.lt
  have bWl := BW_10.lt
  have bGl := BG_10.lt
  have BE_11 : Blk _ _ _ _ := (hk.2.2.2.2 _ BE_10.lt (by omega)).trans BE_10
  have hw_11 := hk.below hw_10 (by omega) hw_10.size
  have RA_11 := RA_10.keepH fun x hx => hk.2.2.2.2 x (by omega) (by omega)
  have zA_11 := Nat.le_trans zA_10 hk.2.2.2.1
  have BW_11 : Blk _ _ _ _ := (hk.2.2.2.2 _ BW_10.lt (by omega)).trans BW_10
  have QG_11 := QG_10.keep fun x _ hx => hk.2.2.2.2 x (by omega) (by omega)
  have zG_11 := Nat.le_trans zG_10 hk.2.2.2.1
  have BG_11 : Blk _ _ _ _ := (hk.2.2.2.2 _ BG_10.lt (by omega)).trans BG_10
  clear BE_10 hw_10 RA_10 zA_10 BW_10 LX_10 zX_10 BX_10 QG_10 zG_10 BG_10
  clear hk bEl bXl bWl bGl
  obtain ⟨a0, a1, a2, a3, a4, a5, a6, a7, a8⟩ := cellsG BG_11
  obtain ⟨b0, b1, b2, b3, b4, b5, b6, b7, b8⟩ := cellsG BW_11
  go_wp2_with fail
  refine (eqFlat_any F B Gs As gs cs N P zs _ (QG_11.rdL.more zG_11) (RA_11.more zA_11) hN12 hP180).mono ?_
  rintro e w14 ⟨rfl, hbq⟩
  clear a0 a1 a2 a3 a4 a5 a6 a7 a8 b0 b1 b2 b3 b4 b5 b6 b7 b8
  have BE_12 := BE_11.below hbq BE_11.lt
  have hw_12 := hw_11.trans (hbq.mono hw_11.size)
  have RA_12 := RA_11.keepH fun x hx => hbq.block x (by omega)
  have zA_12 := Nat.le_trans zA_11 hbq.size
  have BW_12 := BW_11.below hbq BW_11.lt
  have QG_12 := QG_11.keep fun x _ hx => hbq.block x (by omega)
  have zG_12 := Nat.le_trans zG_11 hbq.size
  have BG_12 := BG_11.below hbq BG_11.lt
  clear BE_11 hw_11 RA_11 zA_11 BW_11 QG_11 zG_11 BG_11
  clear hbq
  obtain ⟨a0, a1, a2, a3, a4, a5, a6, a7, a8⟩ := cellsG BG_12
  go_wp2_with fail
  refine (markF_any F B (w6.heap.size + 1) w8.heap.size Gs gs bl N P zs 1 _ QG_12 zG_12 hN12 hP180 (by omega) (by omega)).mono ?_
  rintro e w15 ⟨rfl, QN, hk⟩
  clear a0 a1 a2 a3 a4 a5 a6 a7 a8
  have BE_13 := hk.2 _ _ _ (by decide) BE_12
  have hw_13 := hk.1.below hw_12 (by omega) hw_12.size
  have RA_13 := RA_12.keepH fun x hx => hk.1.2.2.2.2 x (by omega) (by omega)
  have zA_13 := Nat.le_trans zA_12 hk.1.2.2.2.1
  have BW_13 := hk.2 _ _ _ (by decide) BW_12
  have zG_13 := Nat.le_trans zG_12 hk.1.2.2.2.1
  have BG_13 := hk.2 _ _ _ (by decide) BG_12
  clear BE_12 hw_12 RA_12 zA_12 BW_12 QG_12 zG_12 BG_12
  have QG_13 := QN
  clear hk QN
  obtain ⟨a0, a1, a2, a3, a4, a5, a6, a7, a8⟩ := cellsG BG_13
  go_wp2_with fail
  refine (heldF_any F B (w6.heap.size + 1) w8.heap.size Gs gs bl N P 1 _ QG_13 zG_13 hN12 hP180 (by omega) (by omega)).mono ?_
  rintro e w16 ⟨rfl, hbq⟩
  clear a0 a1 a2 a3 a4 a5 a6 a7 a8
  have BE_14 := BE_13.below hbq BE_13.lt
  have hw_14 := hw_13.trans (hbq.mono hw_13.size)
  have RA_14 := RA_13.keepH fun x hx => hbq.block x (by omega)
  have zA_14 := Nat.le_trans zA_13 hbq.size
  have BW_14 := BW_13.below hbq BW_13.lt
  have zG_14 := Nat.le_trans zG_13 hbq.size
  have BG_14 := BG_13.below hbq BG_13.lt
  have QG_14 := QG_13.keep fun x _ hx => hbq.block x (by omega)
  clear BE_13 hw_13 RA_13 zA_13 BW_13 zG_13 BG_13 QG_13
  clear hbq
  obtain ⟨m, hm⟩ : ∃ m : Int, (1 : Int) + N + P + P + P + P + P + P = m := ⟨_, rfl⟩
  rw [hm]
  have HM := hid hm
  have m1 : ¬ m < 0 := by omega
  have m2 : (m != m) = false := by simp
  clear hm
  obtain ⟨a0, a1, a2, _, _, _⟩ := blk_cells3 BE_14
  go_wp2_with fail
  refine (toE_any f b A n c len g _ ((h.below hw_14).more hw_14.size) hn2 hl2).mono ?_
  rintro e w17 ⟨b17, rfl, _, hr17, hb17⟩
  clear a0 a1 a2
  have BE_15 := BE_14.below hb17 BE_14.lt
  have hw_15 := hw_14.trans (hb17.mono hw_14.size)
  have RA_15 := RA_14.keepH fun x hx => hb17.block x (by omega)
  have zA_15 := Nat.le_trans zA_14 hb17.size
  have BW_15 := BW_14.below hb17 BW_14.lt
  have zG_15 := Nat.le_trans zG_14 hb17.size
  have BG_15 := BG_14.below hb17 BG_14.lt
  have QG_15 := QG_14.keep fun x _ hx => hb17.block x (by omega)
  clear BE_14 hw_14 RA_14 zA_14 BW_14 zG_14 BG_14 QG_14
  clear hb17
  go_wp2_with fail
  refine (iFlat_any f b (some ⟨b17, 0, none⟩) n n len g _ hr17 hn2 hl2 Y HY.out).mono ?_
  rintro e w18 ⟨Hs, hs, rfl, hLh, hb18⟩
  rw [HF.out, HB.out, HN.out, HP.out]
  rw [HN.out, HP.out, HZ.out] at hLh
  clear hr17
  have BE_16 := BE_15.below hb18 BE_15.lt
  have hw_16 := hw_15.trans (hb18.mono hw_15.size)
  have RA_16 := RA_15.keepH fun x hx => hb18.block x (by omega)
  have zA_16 := Nat.le_trans zA_15 hb18.size
  have BW_16 := BW_15.below hb18 BW_15.lt
  have zG_16 := Nat.le_trans zG_15 hb18.size
  have BG_16 := BG_15.below hb18 BG_15.lt
  have QG_16 := QG_15.keep fun x _ hx => hb18.block x (by omega)
  clear BE_15 hw_15 RA_15 zA_15 BW_15 zG_15 BG_15 QG_15
  clear hb18
  have RH_16 := hLh.rdL
  have zH_16 := Nat.le_refl w18.heap.size
  clear hLh
  have BE_17 := BE_16.alloc (.cells (flC F B Hs hs N P 0) 50)
  have hw_17 := hw_16.alloc hw_16.size (.cells (flC F B Hs hs N P 0) 50)
  have RA_17 := RA_16.keepH fun x hx => Below.heap_alloc w18 (.cells (flC F B Hs hs N P 0) 50) x (by omega)
  have zA_17 := Nat.le_trans zA_16 (show w18.heap.size ≤ (World.alloc w18 (.cells (flC F B Hs hs N P 0) 50)).heap.size by rw [World.size_alloc]; exact Nat.le_succ _)
  have BW_17 := BW_16.alloc (.cells (flC F B Hs hs N P 0) 50)
  have zG_17 := Nat.le_trans zG_16 (show w18.heap.size ≤ (World.alloc w18 (.cells (flC F B Hs hs N P 0) 50)).heap.size by rw [World.size_alloc]; exact Nat.le_succ _)
  have BG_17 := BG_16.alloc (.cells (flC F B Hs hs N P 0) 50)
  have QG_17 := QG_16.keep fun x _ hx => Below.heap_alloc w18 (.cells (flC F B Hs hs N P 0) 50) x (by omega)
  have RH_17 := RH_16.keepH fun x hx => Below.heap_alloc w18 (.cells (flC F B Hs hs N P 0) 50) x (by omega)
  have zH_17 := Nat.le_trans zH_16 (show w18.heap.size ≤ (World.alloc w18 (.cells (flC F B Hs hs N P 0) 50)).heap.size by rw [World.size_alloc]; exact Nat.le_succ _)
  clear BE_16 hw_16 RA_16 zA_16 BW_16 zG_16 BG_16 QG_16 RH_16 zH_16
  have BH_17 := Blk.new w18 50 (flC F B Hs hs N P 0)
  obtain ⟨a0, a1, a2, a3, a4, a5, a6, a7, a8⟩ := cellsG BH_17
  obtain ⟨b0, b1, b2, b3, b4, b5, b6, b7, b8⟩ := cellsG BW_17
  go_wp2_with fail
  refine (eqFlat_any F B Hs As hs cs N P zs _ (RH_17.more zH_17) (RA_17.more zA_17) hN12 hP180).mono ?_
  rintro e w20 ⟨rfl, hbq⟩
  clear a0 a1 a2 a3 a4 a5 a6 a7 a8 b0 b1 b2 b3 b4 b5 b6 b7 b8
  have BE_18 := BE_17.below hbq BE_17.lt
  have hw_18 := hw_17.trans (hbq.mono hw_17.size)
  have RA_18 := RA_17.keepH fun x hx => hbq.block x (by omega)
  have zA_18 := Nat.le_trans zA_17 hbq.size
  have BW_18 := BW_17.below hbq BW_17.lt
  have zG_18 := Nat.le_trans zG_17 hbq.size
  have BG_18 := BG_17.below hbq BG_17.lt
  have QG_18 := QG_17.keep fun x _ hx => hbq.block x (by omega)
  have RH_18 := RH_17.keepH fun x hx => hbq.block x (by omega)
  have zH_18 := Nat.le_trans zH_17 hbq.size
  have BH_18 := BH_17.below hbq BH_17.lt
  clear BE_17 hw_17 RA_17 zA_17 BW_17 zG_17 BG_17 QG_17 RH_17 zH_17 BH_17
  clear hbq
  obtain ⟨a0, a1, a2, a3, a4, a5, a6, a7, a8⟩ := cellsG BG_18
  go_wp2_with fail
  refine (heldF_any F B (w6.heap.size + 1) w8.heap.size Gs gs bl N P 1 _ QG_18 zG_18 hN12 hP180 (by omega) (by omega)).mono ?_
  rintro e w21 ⟨rfl, hbq⟩
  clear a0 a1 a2 a3 a4 a5 a6 a7 a8
  have BE_19 := BE_18.below hbq BE_18.lt
  have hw_19 := hw_18.trans (hbq.mono hw_18.size)
  have RA_19 := RA_18.keepH fun x hx => hbq.block x (by omega)
  have zA_19 := Nat.le_trans zA_18 hbq.size
  have BW_19 := BW_18.below hbq BW_18.lt
  have zG_19 := Nat.le_trans zG_18 hbq.size
  have BG_19 := BG_18.below hbq BG_18.lt
  have QG_19 := QG_18.keep fun x _ hx => hbq.block x (by omega)
  have RH_19 := RH_18.keepH fun x hx => hbq.block x (by omega)
  have zH_19 := Nat.le_trans zH_18 hbq.size
  have BH_19 := BH_18.below hbq BH_18.lt
  clear BE_18 hw_18 RA_18 zA_18 BW_18 zG_18 BG_18 QG_18 RH_18 zH_18 BH_18
  clear hbq
  rw [HM.out]
  go_wp2_with fail
  go_ret
  exact ⟨rfl, hw_19⟩
end Go.Proofs.Ytmpgefpaoogoiaa
