/- The walk of the law of trees for more features. -/
import Derived.Test.YtodcalghnoiaeaaDrawG
namespace Go.Proofs.Ytodcalghnoiaeaa
open Go.RowKit Go.Deep

theorem tree_more {g : Nat → Nd} {n : Nat} {f i : Int} (h : treeB g n f = true) (h1 : f ≤ i) (h6 : i ≤ 6) : treeB g n i = true := by
  rw [treeB_iff] at h ⊢
  obtain ⟨⟨hf1, _⟩, hn, ha⟩ := h
  refine ⟨⟨by omega, h6⟩, hn, fun k hk => ⟨?_, (ha k hk).2⟩⟩
  have := (ha k hk).1
  unfold Node at this ⊢
  split
  · rename_i e; rw [if_pos e] at this; exact this
  · rename_i e
    rw [if_neg e] at this
    refine ⟨?_, this.2⟩
    have hs := this.1
    simp only [spB, Bool.and_eq_true, decide_eq_true_eq] at hs ⊢
    exact ⟨⟨⟨hs.1.1.1, by omega⟩, hs.1.2⟩, hs.2⟩
theorem tree_less {g : Nat → Nd} {k : Nat} {f : Int} (h : treeB g (k + 1) f = true) : treeB g k f = false := by
  cases e : treeB g k f with
  | false => rfl
  | true =>
    rw [treeB_iff] at h e
    exfalso
    obtain ⟨_, ⟨hk1, _⟩, ha⟩ := e
    have hc := (h.2.2 k (by omega)).2 (by omega)
    have hz : cnt (fun j => par (g j) k) k = 0 := cnt_zero _ k fun j hj => by
      have hn := (ha j hj).1
      unfold Node at hn
      unfold par
      split at hn
      · rename_i e0; rw [e0]; rfl
      · obtain ⟨_, ⟨_, hl⟩, ⟨_, hr⟩, _⟩ := hn
        split
        · rw [if_neg (by omega), if_neg (by omega)]
        · rfl
    omega
theorem tree_seven {g : Nat → Nd} {n : Nat} : treeB g n 7 = false := by simp [treeB]

set_option maxHeartbeats 2000000 in
theorem lawTreeFeats (A : Option Addr) (n cap : Nat) (w : World) (h : Bs w w.heap.size A n) :
    Calls Try.prog 18 #[.slice A n cap] w fun e w' => e = .returned (.bool true) ∧ Below w.heap.size w w' := by
  by_cases hbig : (1048576 : Int) < (n : Int)
  · go_enter Try.func18, Try.ntmps18
    go_wp2_with fail
    refine (big_yes A n cap _ hbig).mono ?_
    rintro e w1 ⟨rfl, rfl⟩
    go_wp2_with fail
    go_ret
    exact ⟨rfl, Below.refl _ _⟩
  · have hn : n ≤ 4194304 := by omega
    go_enter Try.func18, Try.ntmps18
    go_wp2_with fail
    refine (big_no A n cap _ (by omega)).mono ?_
    rintro e w0 ⟨rfl, rfl⟩
    go_wp2_with fail
    refine (drawTreeOk A n cap _ h hn).mono ?_
    rintro e w1 ⟨m, g, b, c, f, hm1, hm2, rfl, hwb, hbL, hrow, hmc, hb1⟩
    have ht1 := hrow.rdN hbL
    have hm' : m ≤ 4194304 := by omega
    go_wp2_with fail
    refine (iTreeOk_any _ m c g f _ ht1 hm').mono ?_
    rintro e w2 ⟨rfl, hb2⟩
    have ht2 := ht1.to hb2 hb2.size
    have hw2 := hb1.trans (hb2.mono hb1.size)
    clear hb2 hb1 ht1
    cases htr : treeB g m f with
    | false =>
      go_wp2_with fail
      refine (sTreeOk_any _ m c g f _ ht2 hm').mono ?_
      rintro e w3 ⟨rfl, hb3⟩
      have ht3 := ht2.to hb3 hb3.size
      have hw3 := hw2.trans (hb3.mono hw2.size)
      rw [htr]
      go_wp2_with fail
      refine (sTreeOk_any _ m c g f _ ht3 hm').mono ?_
      rintro e w4 ⟨rfl, hb4⟩
      rw [htr]
      go_wp2_with fail
      go_ret
      exact ⟨rfl, hw3.trans (hb4.mono hw3.size)⟩
    | true =>
      have HT := hid htr
      have hf : 1 ≤ f ∧ f ≤ 6 := ((treeB_iff g m f).1 htr).1
      have hf1 := hf.1
      have hf2 := hf.2
      clear hf
      go_wp2_with fail
      refine (sTreeOk_any _ m c g f _ ht2 hm').mono ?_
      rintro e w3 ⟨rfl, hb3⟩
      have ht3 := ht2.to hb3 hb3.size
      have hw3 := hw2.trans (hb3.mono hw2.size)
      clear hb3 ht2 hw2
      rw [htr]
      clear htr
      go_wp2_with fail
      go_loopw [6] (fun i wr => ∃ j : Int, f ≤ j ∧ j ≤ 7 ∧ i = .int .i64 j ∧ RdN wr wr.heap.size (some ⟨b, 0, none⟩) m g ∧ Below w.heap.size w wr) (fun i _ => (7 - intOf i).toNat)
      case atStart => exact ⟨f, by omega, by omega, rfl, ht3, hw3⟩
      case round =>
        obtain ⟨j, hj1, hj2, rfl, ht4, hw4⟩ := hrel
        by_cases hlt : j ≤ 6
        · go_wp2_with fail
          refine (iTreeOk_any _ m c g j _ ht4 hm').mono ?_
          rintro e w5 ⟨rfl, hb5⟩
          rw [tree_more HT.out hj1 hlt]
          go_wp2_with fail
          go_roundw
          case rel => exact ⟨j + 1, by omega, by omega, by go_num, ht4.to hb5 hb5.size, hw4.trans (hb5.mono hw4.size)⟩
          case measure => simp [intOf]; omega
        · obtain ⟨k, rfl⟩ : ∃ k, m = k + 1 := ⟨m - 1, by omega⟩
          have s1 : k ≤ c := by omega
          have s0 : ¬ ((k + 1 : Nat) : Int) - 1 < 0 := by omega
          have htk : RdN wr wr.heap.size (some ⟨b, 0, none⟩) k g := fun _ => by
            obtain ⟨b', o', e, hb, hc⟩ := ht4 (by omega)
            exact ⟨b', o', e, hb, fun i hi => hc i (by omega)⟩
          go_wp2_with fail
          refine (iTreeOk_any _ k c g f _ htk (by omega)).mono ?_
          rintro e w5 ⟨rfl, hb5⟩
          have ht5 := ht4.to hb5 hb5.size
          have hw5 := hw4.trans (hb5.mono hw4.size)
          rw [tree_less HT.out]
          go_wp2_with fail
          refine (iTreeOk_any _ (k + 1) c g 7 _ ht5 (by omega)).mono ?_
          rintro e w6 ⟨rfl, hb6⟩
          rw [tree_seven]
          go_wp2_with fail
          go_ret
          exact ⟨rfl, hw5.trans (hb6.mono hw5.size)⟩
end Go.Proofs.Ytodcalghnoiaeaa
