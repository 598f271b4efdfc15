/- The program's own tree: treeOf, the loop. -/
import Derived.Test.YtmpgefpaoogoiaaTreeF
namespace Go.Proofs.Ytmpgefpaoogoiaa
open Go.RowKit Go.Deep

theorem Rest.ne {w : World} {R b i : Nat} {c : Nat → Option Addr} {d : Nd} {p q : Option Addr} (h : Rest w R c) (t : Tw w b d i p q) : R ≠ b := by
  obtain ⟨cs, hb, _⟩ := h
  exact hb.ne_ t (by decide)
theorem kid_leaf {d : Nd} {P : Nat → Nat} (h : d.left = 0) : kidL d P = none ∧ kidR d P = none := ⟨if_pos h, if_pos h⟩

/-- What a round leaves, where node k is good. -/
theorem round_good {w wr w1 : World} {R b k n : Nat} {g : Nat → Nd} {f : Int} {P : Nat → Nat} {c1 : Nat → Option Addr} (hkn : k < n) (hk15 : k < 15) (hstep : Step g n f k)
    (hR : Rest wr R (restC g n (k + 1) P)) (hst : Hid (∀ j, k + 1 ≤ j → j < n → Step g n f j)) (htw : Twigs wr g n (k + 1) P)
    (hR1 : Rest w1 R c1) (hc1 : ∀ j, (fun j => if j = k then some ⟨b, 0, none⟩ else c1 j) j = restC g n k (setP P k b) j) (hg : wr.grownBy w1 (some R))
    (hT : Tw w1 b (g k) k (kidL (g k) P) (kidR (g k) P)) (hbl : Below w.heap.size w w1) (hRw : w.heap.size ≤ R) :
    Rest (w1.setCell ⟨R, k, none⟩ (.pointer (some ⟨b, 0, none⟩))) R (restC g n k (setP P k b)) ∧ (∀ j, k ≤ j → j < n → Step g n f j) ∧
    Twigs (w1.setCell ⟨R, k, none⟩ (.pointer (some ⟨b, 0, none⟩))) g n k (setP P k b) ∧ Below w.heap.size w (w1.setCell ⟨R, k, none⟩ (.pointer (some ⟨b, 0, none⟩))) := by
  refine ⟨(hR1.set_ hk15 _).congr fun j _ => hc1 j, fun j h1 h2 => ?_, twigs_step htw hst.out hstep (fun j h1 h2 => ?_) (hT.far (hR1.ne hT).symm _), hbl.setCell hRw _⟩
  · by_cases e : j = k
    · subst e; exact hstep
    · exact hst.out j (by omega) h2
  · have hne := hR.ne (htw j h1 h2)
    exact (Below.heap_setCell _ _ _ (P j) (fun e => hne e.symm)).trans (hg.block (P j) (Blk.lt (htw j h1 h2)) (fun e => hne (by injection e with e; exact e.symm)))

set_option maxHeartbeats 4000000 in
theorem treeOf_in (A : Option Addr) (n cap : Nat) (g : Nat → Nd) (f : Int) (w : World) (h : RdN w w.heap.size A n g) (hf1 : 1 ≤ f) (hf6 : f ≤ 6) (hn1 : 1 ≤ n) (hn15 : n ≤ 15) :
    Calls Try.prog 103 #[.slice A n cap, .int .i64 f] w (OfPost g n f w) := by
  have i1 : ¬ f < 1 := by omega
  have i2 : ¬ 6 < f := by omega
  have i3 : ¬ (n : Int) < 1 := by omega
  have i4 : ¬ (15 : Int) < (n : Int) := by omega
  go_enter Try.func103, Try.ntmps103
  go_wp2_with fail
  go_loopw [6] (fun i wr => ∃ (m : Nat) (P : Nat → Nat) (y : Int), m ≤ n ∧ i = .int .i64 y ∧ y ≤ (m : Int) - 1 ∧ (m : Int) - 1 ≤ y ∧ Rest wr w.heap.size (restC g n m P) ∧ Hid (∀ j, m ≤ j → j < n → Step g n f j) ∧ Twigs wr g n m P ∧ Below w.heap.size w wr)
    (fun i _ => (intOf i + 1).toNat)
  case atStart => exact ⟨n, fun _ => 0, _, Nat.le_refl _, rfl, Int.le_refl _, Int.le_refl _, rest_new _ _ _ _, fun j h1 h2 => by omega, fun j h1 h2 => by omega, (Below.refl _ _).alloc (Nat.le_refl _) _⟩
  case round =>
    obtain ⟨m, P, y, hm, rfl, hy1, hy2, hR, hst, htw, hbl⟩ := hrel
    by_cases hm0 : m = 0
    · obtain rfl : y = -1 := by omega
      subst hm0
      have hd0 : Hd g n 0 0 := ⟨Nat.le_refl _, by omega, fun x _ hx => by omega⟩
      have hv : takeV (restC g n 0 P) 0 = some ⟨P 0, 0, none⟩ := (takeV_nat _ 0 (by omega)).trans (restC_yes hd0)
      have HV := hid hv
      clear hv hd0
      go_wp2_with fail
      refine (take_any w.heap.size (restC g n 0 P) 0 _ hR).mono ?_
      rintro e w1 ⟨rfl, hR2, hg1⟩
      have htw1 : Twigs w1 g n 0 P := fun j h1 h2 => (hg1.block (P j) (Blk.lt (htw j h1 h2)) (fun e => hR.ne (htw j h1 h2) (by injection e with e; exact e.symm))).trans (htw j h1 h2)
      have hbl1 : Below w.heap.size w w1 := hbl.grown hg1 hbl.size (fun x hx => by injection hx with hx; omega)
      clear hR hg1 htw hbl
      rw [HV.out]
      generalize hcc : takeC (restC g n 0 P) 0 = c' at hR2
      have q0 := hR2.cell (j := 0) (by omega)
      have q1 := hR2.cell (j := 1) (by omega)
      have q2 := hR2.cell (j := 2) (by omega)
      have q3 := hR2.cell (j := 3) (by omega)
      have q4 := hR2.cell (j := 4) (by omega)
      have q5 := hR2.cell (j := 5) (by omega)
      have q6 := hR2.cell (j := 6) (by omega)
      have q7 := hR2.cell (j := 7) (by omega)
      have q8 := hR2.cell (j := 8) (by omega)
      have q9 := hR2.cell (j := 9) (by omega)
      have q10 := hR2.cell (j := 10) (by omega)
      have q11 := hR2.cell (j := 11) (by omega)
      have q12 := hR2.cell (j := 12) (by omega)
      have q13 := hR2.cell (j := 13) (by omega)
      have q14 := hR2.cell (j := 14) (by omega)
      have he := fun wx => eq15 c' wx
      cases hnb : noneB c'
      · have hns : treeB g n f = false := by
          cases ht : treeB g n f with
          | false => rfl
          | true =>
            have hB := tree_built ((treeB_iff g n f).1 ht)
            have : noneB c' = true := (noneB_iff c').2 fun j hj => by
              rw [← hcc]
              unfold takeC
              by_cases e : j = 0
              · subst e; rfl
              · rw [if_neg (by omega)]
                exact restC_no fun hH => hB.2.2.2 j (by omega) hH.2.1 hH
            rw [hnb] at this
            cases this
        have HT := hid hns
        clear hns hcc
        rw [hnb] at he
        go_wp2_with fail
        go_ret
        exact OfPost.bad hbl1 HT.out
      · have hB : Built g n f := ⟨⟨hf1, hf6⟩, ⟨hn1, hn15⟩, fun j hj => hst.out j (by omega) hj, fun j h0 hj hH => by
          have h1 := (noneB_iff c').1 hnb j (by omega)
          rw [← hcc] at h1
          unfold takeC at h1
          rw [if_neg (by omega), restC_yes hH] at h1
          cases h1⟩
        have hyes : treeB g n f = true := (treeB_iff g n f).2 (built_tree hB)
        have HT := hid hyes
        clear hyes hB hcc
        rw [hnb] at he
        go_wp2_with fail
        go_ret
        exact ⟨_, rfl, hbl1, (fun _ => ⟨P, rfl, htw1⟩), fun h => by rw [HT.out] at h; cases h⟩
    · obtain ⟨k, rfl⟩ : ∃ k, m = k + 1 := ⟨m - 1, by omega⟩
      obtain rfl : y = (k : Int) := by omega
      have hkn : k < n := by omega
      have hk15 : k < 15 := by omega
      obtain ⟨b, off, rfl, hb, c0, c1, c2, c3, c4, c5⟩ := (h.below hbl).at_ hkn
      have j1 : (k : Int) < (n : Int) := by omega
      have j2 : (k : Int) < 15 := by omega
      have j3 : (0 : Int) ≤ (k : Int) := by omega
      go_wp2_with fail
      cases h0 : ((g k).left == 0)
      · refine (twigOf_split (g k) k f w.heap.size _ _ hR h0).mono ?_
        rintro e w1 ⟨rfl, hT, hR1, hg1⟩
        have h0' : ¬ (g k).left = 0 := by simpa using h0
        have hbl1 : Below w.heap.size w w1 := hbl.grown hg1 hbl.size (fun x hx => by injection hx with hx; omega)
        have hcR := hR1.cell hk15
        have hfR := hR1.frozen k
        clear c0 c1 c2 c3 c4 c5
        by_cases hstep : Step g n f k
        · have hkids := split_kids (P := P) hn15 h0' hstep
          have hq : twP (wr.heap.size + 1) f (g k) (takeV (restC g n (k + 1) P) (g k).left) (takeV (takeC (restC g n (k + 1) P) (g k).left) (g k).right) = some ⟨wr.heap.size + 1, 0, none⟩ := by
            unfold twP
            rw [if_pos ((split_step (P := P) hn15 h0').2 hstep)]
          rw [hq]
          rw [hkids.1, hkids.2.1] at hT
          have hG := round_good (b := wr.heap.size + 1) (P := P) (w := w) hkn hk15 hstep hR hst htw hR1 (rest_split hkn h0' hstep) hg1 hT hbl1 (Nat.le_refl _)
          have HG := hid hG
          clear hG hq hkids h0' h0
          go_wp2_with fail
          go_roundw
          case rel => exact ⟨k, _, _, by omega, rfl, Int.le_refl _, Int.le_refl _, HG.out.1, HG.out.2.1, HG.out.2.2.1, HG.out.2.2.2⟩
          case measure => simp [intOf]
        · have hq : twP (wr.heap.size + 1) f (g k) (takeV (restC g n (k + 1) P) (g k).left) (takeV (takeC (restC g n (k + 1) P) (g k).left) (g k).right) = none := by
            unfold twP
            rw [if_neg (fun h' => hstep ((split_step (P := P) hn15 h0').1 h'))]
          rw [hq]
          have hns : treeB g n f = false := not_tree hkn hstep
          have HT := hid hns
          clear hns hq hstep
          go_wp2_with fail
          go_ret
          exact OfPost.bad (hbl1.setCell (Nat.le_refl _) _) HT.out
      · refine (twigOf_leaf (g k) k f w.heap.size _ h0).mono ?_
        rintro e w1 ⟨rfl, hT, hb1⟩
        have hR1 := hR.below hb1 hR.lt
        have hbl1 := hbl.trans (hb1.mono hbl.size)
        have hcR := hR1.cell hk15
        have hfR := hR1.frozen k
        clear c0 c1 c2 c3 c4 c5
        cases hl : lfB (g k)
        · have hns : treeB g n f = false := not_tree hkn (by unfold Step; rw [if_pos (by simpa using h0), hl]; simp)
          have HT := hid hns
          clear hns
          go_wp2_with fail
          go_ret
          exact OfPost.bad (hbl1.setCell (Nat.le_refl _) _) HT.out
        · have h0' : (g k).left = 0 := by simpa using h0
          have hstep : Step g n f k := by unfold Step; rw [if_pos h0']; exact hl
          have hG := round_good (b := wr.heap.size + 1) (P := P) (w := w) hkn hk15 hstep hR hst htw hR1 (rest_leaf hkn h0') ⟨hb1.os, hb1.tape, hb1.output, hb1.size, fun j hj _ => hb1.block j hj⟩ (by rw [(kid_leaf h0').1, (kid_leaf h0').2]; exact hT) hbl1 (Nat.le_refl _)
          have HG := hid hG
          clear hG hstep h0' hl h0
          go_wp2_with fail
          go_roundw
          case rel => exact ⟨k, _, _, by omega, rfl, Int.le_refl _, Int.le_refl _, HG.out.1, HG.out.2.1, HG.out.2.2.1, HG.out.2.2.2⟩
          case measure => simp [intOf]

theorem treeOf_any (A : Option Addr) (n cap : Nat) (g : Nat → Nd) (f : Int) (w : World) (h : RdN w w.heap.size A n g) (hn : n ≤ 4194304) :
    Calls Try.prog 103 #[.slice A n cap, .int .i64 f] w (OfPost g n f w) := by
  by_cases ho : f < 1 ∨ 6 < f ∨ n < 1 ∨ 15 < n
  · exact treeOf_out A n cap g f w hn ho
  · exact treeOf_in A n cap g f w h (by omega) (by omega) (by omega) (by omega)

theorem iTreeOk_any (A : Option Addr) (n cap : Nat) (g : Nat → Nd) (f : Int) (w : World) (h : RdN w w.heap.size A n g) (hn : n ≤ 4194304) :
    Calls Try.prog 109 #[.slice A n cap, .int .i64 f] w fun e w' => e = .returned (.bool (treeB g n f)) ∧ Below w.heap.size w w' := by
  go_enter Try.func109, Try.ntmps109
  go_wp2_with fail
  refine (treeOf_any A n cap g f _ h hn).mono ?_
  rintro e w1 ⟨q, rfl, hb, hy, hno⟩
  cases ht : treeB g n f
  · obtain rfl := hno ht
    clear hy hno
    go_wp2_with fail
    go_ret
    exact ⟨by rw [ht]; rfl, hb⟩
  · obtain ⟨P, rfl, _⟩ := hy ht
    clear hno
    go_wp2_with fail
    go_ret
    exact ⟨by rw [ht]; rfl, hb⟩
end Go.Proofs.Ytmpgefpaoogoiaa
