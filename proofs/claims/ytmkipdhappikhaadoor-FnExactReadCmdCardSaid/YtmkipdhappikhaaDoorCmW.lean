/- Commands marked and held; what both sides answer of a command's text; the law of ReadCmd. -/
import Derived.Test.YtmkipdhappikhaaDoorCmV
import Derived.Test.YtmkipdhappikhaaDoorCmG
import Derived.Test.YtmkipdhappikhaaDoorRdI
namespace Go.Proofs.YtmkipdhappikhaaDoor
open Go.RowKit Go.Deep
set_option linter.unusedVariables false
set_option linter.unusedSimpArgs false

/-- The content that a mark writes. -/
def mkQ (k0 : Int) (len : Nat → Nat) : Nat → Nat → Int := fun i j => k0 + (cumL len i : Nat) + j
theorem row_grownQ {w w' : World} {t : TypeId} {b b' n : Nat} {z : Nat → Int} (h : Row w t b n z) (hg : w.grownBy w' (some b')) (hne : b ≠ b') : Row w' t b n z := by
  obtain ⟨cs, hB, hx⟩ := h
  exact ⟨cs, (hg.block _ hB.lt (by intro e; injection e with e; exact hne e)).trans hB, hx⟩
set_option maxRecDepth 100000 in
set_option maxHeartbeats 8000000 in
theorem markQ_any (L H n c : Nat) (A : Option Addr) (len : Nat → Nat) (g : Nat → Nat → Int) (k0 : Int) (w : World) (h : LaidQ w L H A n len g) (hpos : Hid (∀ i, i < n → 0 < len i)) (hn : n ≤ 4194304) (hlen : Hid (∀ i, i < n → len i ≤ 1048576)) (h0 : 0 ≤ k0) (h1 : k0 ≤ 10000000) (hcum : cumL len n ≤ 10000000) :
    Calls Tryd.prog 44 #[.slice A n c, .int .i64 k0] w fun e w' =>
      e = .returned (.int .i64 (k0 + (cumL len n : Nat))) ∧ LaidQ w' L H A n len (mkQ k0 len) ∧ KeptR L H w w' := by
  obtain ⟨gg, bl, cp, hh, ht⟩ := h
  have HH := hid hh
  have HT := hid ht
  clear hh ht
  go_enter Tryd.func44, Tryd.ntmps44
  go_wp2_with fail
  go_loopw [1, 5] (fun k i wr => ∃ (m : Nat) (q : Int), m ≤ n ∧ i = .int .i64 m ∧ k = .int .i64 q ∧ Hid (q = k0 + (cumL len m : Nat)) ∧ Hid (∀ i, i < n → Row wr 2 (bl i) (len i) (if i < m then mkQ k0 len i else g i)) ∧ Hid (∀ x, (∀ i, i < n → x ≠ bl i) → x < w.heap.size → wr.heap[x]? = w.heap[x]?) ∧ Hid (KeptR L H w wr))
    (fun _ i _ => n - (intOf i).toNat)
  case atStart => exact ⟨0, k0, Nat.zero_le _, rfl, rfl, by show k0 = k0 + ((0 : Nat) : Int); omega, fun i hi => by rw [if_neg (by omega)]; exact (HT.out i hi).2.2.1, fun _ _ _ => rfl, KeptR.refl L H w⟩
  case round =>
    obtain ⟨m, q, hm, rfl, rfl, hq, hrow, hkp, hkr⟩ := hrel
    by_cases hlt : m < n
    · obtain ⟨hA, hg1, hg2, ⟨cs, hgB⟩, hc⟩ := HH.out (by omega)
      subst hA
      have hl : (m : Int) < (n : Int) := by omega
      have hl0 : (0 : Int) ≤ (m : Int) := by omega
      have hgne : ∀ i, i < n → gg ≠ bl i := fun i hi => by
        obtain ⟨cs', hB', _⟩ := (HT.out i hi).2.2.1
        exact hgB.ne_ hB' (by decide)
      have hcell : wr.cell? ⟨gg, m, none⟩ = some (.slice (some ⟨bl m, 0, none⟩) (len m) (cp m)) := (World.cell?_of_block (hkp.out gg hgne (Blk.lt hgB))).trans (hc m hlt)
      have hR := hrow.out m hlt
      rw [if_neg (Nat.lt_irrefl m)] at hR
      have hqo := hq.out
      have hcm := cumL_mono (len := len) (n := n) m (by omega)
      have q0 : 0 ≤ q := by omega
      have q1 : q ≤ 100000000 := by omega
      have hlm := hlen.out m hlt
      have hbL := (HT.out m hlt).1
      have hbH := (HT.out m hlt).2.1
      clear hqo hcm hc
      go_wp2_with fail
      refine (mark_any (some ⟨bl m, 0, none⟩) (len m) (cp m) (bl m) (g m) q _ (fun _ => ⟨rfl, hR⟩) (by omega) q0 q1).mono ?_
      rintro e w1 ⟨rfl, hg1', hR1⟩
      have hrow1 : Hid (∀ i, i < n → Row w1 2 (bl i) (len i) (if i < m + 1 then mkQ k0 len i else g i)) := fun i hi => by
        by_cases e : i = m
        · subst e
          rw [if_pos (by omega)]
          have e2 : mkQ k0 len i = (fun j : Nat => q + (j : Int)) := by funext j; unfold mkQ; rw [← hq.out]
          rw [e2]
          exact hR1 (hpos.out i hi)
        · have h5 := hrow.out i hi
          have hne : bl i ≠ bl m := by
            by_cases hi2 : i < m
            · exact (HT.out m hlt).2.2.2 i hi2
            · exact fun e' => (HT.out i hi).2.2.2 m (by omega) e'.symm
          have h6 := row_grownQ h5 hg1' hne
          by_cases e3 : i < m
          · rw [if_pos e3] at h6; rw [if_pos (by omega)]; exact h6
          · rw [if_neg e3] at h6; rw [if_neg (by omega)]; exact h6
      have hkp1 : Hid (∀ x, (∀ i, i < n → x ≠ bl i) → x < w.heap.size → w1.heap[x]? = w.heap[x]?) := fun x hx hs => (hg1'.block x (Nat.lt_of_lt_of_le hs hkr.out.2.2.2.1) (by intro e; injection e with e; exact hx m hlt e)).trans (hkp.out x hx hs)
      have hkr1 := hid (hkr.out.grown hg1' ⟨hbL, hbH⟩)
      clear hrow hkp hkr hR hR1 hg1'
      go_wp2_with fail
      go_roundw
      case rel => exact ⟨m + 1, _, by omega, by go_num, rfl, (by show _ = k0 + ((cumL len (m + 1) : Nat) : Int); have := hq.out; simp only [cumL]; omega), hrow1, hkp1, hkr1⟩
      case measure => simp [intOf]; omega
    · obtain rfl : m = n := by omega
      go_wp2_with fail
      go_ret
      refine ⟨congrArg (fun x => Ending.returned (.int .i64 x)) hq.out, ⟨gg, bl, cp, fun h0 => ?_, fun i hi => ?_⟩, hkr.out⟩
      · obtain ⟨a1, a2, a3, ⟨cs, hgB⟩, a5⟩ := HH.out h0
        have hgne : ∀ i, i < m → gg ≠ bl i := fun i hi => by
          obtain ⟨cs', hB', _⟩ := (HT.out i hi).2.2.1
          exact hgB.ne_ hB' (by decide)
        have hk := hkp.out gg hgne (Blk.lt hgB)
        exact ⟨a1, a2, a3, ⟨cs, hk.trans hgB⟩, fun i hi => (World.cell?_of_block hk).trans (a5 i hi)⟩
      · obtain ⟨b1, b2, _, b4⟩ := HT.out i hi
        have := hrow.out i hi
        rw [if_pos hi] at this
        exact ⟨b1, b2, this, b4⟩
set_option maxRecDepth 100000 in
set_option maxHeartbeats 8000000 in
theorem heldQ_any (L H n c : Nat) (A : Option Addr) (len : Nat → Nat) (k0 : Int) (w : World) (h : LaidQ w L H A n len (mkQ k0 len)) (hn : n ≤ 4194304) (hlen : Hid (∀ i, i < n → len i ≤ 1048576)) (h0 : 0 ≤ k0) (h1 : k0 ≤ 10000000) (hcum : cumL len n ≤ 10000000) :
    Calls Tryd.prog 45 #[.slice A n c, .int .i64 k0] w fun e w' => e = .returned (.int .i64 (k0 + (cumL len n : Nat))) ∧ w = w' := by
  obtain ⟨gg, bl, cp, hh, ht⟩ := h
  have HH := hid hh
  have HT := hid ht
  clear hh ht
  go_enter Tryd.func45, Tryd.ntmps45
  go_wp2_with fail
  go_loopw [1, 5] (fun k i wr => ∃ (m : Nat) (q : Int), m ≤ n ∧ i = .int .i64 m ∧ k = .int .i64 q ∧ Hid (q = k0 + (cumL len m : Nat)) ∧ w = wr)
    (fun _ i _ => n - (intOf i).toNat)
  case atStart => exact ⟨0, k0, Nat.zero_le _, rfl, rfl, by show k0 = k0 + ((0 : Nat) : Int); omega, rfl⟩
  case round =>
    obtain ⟨m, q, hm, rfl, rfl, hq, rfl⟩ := hrel
    by_cases hlt : m < n
    · obtain ⟨hA, hg1, hg2, ⟨cs, hgB⟩, hc⟩ := HH.out (by omega)
      subst hA
      have hl : (m : Int) < (n : Int) := by omega
      have hl0 : (0 : Int) ≤ (m : Int) := by omega
      have hcell := hc m hlt
      have hR := (HT.out m hlt).2.2.1
      have e2 : mkQ k0 len m = (fun j : Nat => q + (j : Int)) := by funext j; unfold mkQ; rw [← hq.out]
      rw [e2] at hR
      have hqo := hq.out
      have hcm := cumL_mono (len := len) (n := n) m (by omega)
      have q0 : 0 ≤ q := by omega
      have q1 : q ≤ 100000000 := by omega
      have hlm := hlen.out m hlt
      clear hqo hcm hc e2
      go_wp2_with fail
      refine (held_any (some ⟨bl m, 0, none⟩) (len m) (cp m) (bl m) q _ (fun _ => ⟨rfl, hR⟩) (by omega) q0 q1).mono ?_
      rintro e w1 ⟨rfl, rfl⟩
      have q2 : ¬ q + (len m : Int) < 0 := by omega
      go_wp2_with fail
      go_roundw
      case rel => exact ⟨m + 1, _, by omega, by go_num, rfl, (by show _ = k0 + ((cumL len (m + 1) : Nat) : Int); have := hq.out; simp only [cumL]; omega), trivial⟩
      case measure => simp [intOf]; omega
    · obtain rfl : m = n := by omega
      go_wp2_with fail
      go_ret
      exact ⟨congrArg (fun x => Ending.returned (.int .i64 x)) hq.out, rfl⟩

theorem markC_any (k a b t : Int) (s : ByteArray) (L H n c : Nat) (A : Option Addr) (len : Nat → Nat) (g : Nat → Nat → Int) (k0 : Int) (w : World) (h : LaidQ w L H A n len g) (hpos : Hid (∀ i, i < n → 0 < len i)) (hH : H ≤ w.heap.size) (hn : n ≤ 4194304) (hlen : Hid (∀ i, i < n → len i ≤ 1048576)) (h0 : 0 ≤ k0) (h1 : k0 ≤ 10000000) (hcum : cumL len n ≤ 10000000) :
    Calls Tryd.prog 18 #[cmV k a b t A n c s, .int .i64 k0] w fun e w' =>
      e = .returned (.int .i64 (k0 + (cumL len n : Nat))) ∧ LaidQ w' L H A n len (mkQ k0 len) ∧ KeptR L H w w' := by
  have hb1 := (Below.refl w.heap.size w).alloc (Nat.le_refl _) (.cells (cmC k a b t A n c s) 35)
  have h2 := h.below hb1 hH
  go_enter Tryd.func18, Tryd.ntmps18
  go_wp2_with fail
  refine (markQ_any L H n c A len g k0 _ h2 hpos hn hlen h0 h1 hcum).mono ?_
  rintro e w2 ⟨rfl, hl, hk⟩
  have hk2 := hk.after hb1
  obtain ⟨q, hq⟩ : ∃ q, k0 + ((cumL len n : Nat) : Int) = q := ⟨_, rfl⟩
  rw [hq]
  have HQ := hid hq
  clear hq
  go_wp2_with fail
  go_ret
  exact ⟨congrArg (fun x => Ending.returned (.int .i64 x)) HQ.out.symm, hl, hk2⟩
theorem heldC_any (k a b t : Int) (s : ByteArray) (L H n c : Nat) (A : Option Addr) (len : Nat → Nat) (k0 : Int) (w : World) (h : LaidQ w L H A n len (mkQ k0 len)) (hH : H ≤ w.heap.size) (hn : n ≤ 4194304) (hlen : Hid (∀ i, i < n → len i ≤ 1048576)) (h0 : 0 ≤ k0) (h1 : k0 ≤ 10000000) (hcum : cumL len n ≤ 10000000) :
    Calls Tryd.prog 19 #[cmV k a b t A n c s, .int .i64 k0] w fun e w' => e = .returned (.int .i64 (k0 + (cumL len n : Nat))) ∧ Below w.heap.size w w' := by
  have hb1 := (Below.refl w.heap.size w).alloc (Nat.le_refl _) (.cells (cmC k a b t A n c s) 35)
  have h2 := h.below hb1 hH
  have hq0 : ¬ k0 + ((cumL len n : Nat) : Int) < 0 := by omega
  go_enter Tryd.func19, Tryd.ntmps19
  go_wp2_with fail
  refine (heldQ_any L H n c A len k0 _ h2 hn hlen h0 h1 hcum).mono ?_
  rintro e w2 ⟨rfl, rfl⟩
  obtain ⟨q, hq⟩ : ∃ q, k0 + ((cumL len n : Nat) : Int) = q := ⟨_, rfl⟩
  rw [hq] at hq0 ⊢
  have HQ := hid hq
  clear hq
  go_wp2_with fail
  go_ret
  exact ⟨congrArg (fun x => Ending.returned (.int .i64 x)) HQ.out.symm, hb1⟩
end Go.Proofs.YtmkipdhappikhaaDoor
