/- The contracts of DocOk and GoneOf, on both sides. -/
import Derived.Test.YtmpgefpaoogoiaaDocC
namespace Go.Proofs.Ytmpgefpaoogoiaa
open Go.RowKit Go.Deep

set_option maxHeartbeats 800000 in
theorem docOf_bad (A : Option Addr) (n cap : Nat) (z : Nat → Int) (w : World) (h : Rd w w.heap.size A n z) (h1 : 1 ≤ n) (h6 : n ≤ 6) (hall : allTo z n = false) :
    Calls Try.prog 113 #[.slice A n cap] w fun e w' => e = .returned (.tuple #[docV nul 0, .bool false]) ∧ Below w.heap.size w w' := by
  obtain ⟨b, off, rfl, hb, hc⟩ := h (by omega)
  have hC := hid hc
  clear hc
  have hp : Hid (allTo (pad n z) 6 = false) := (pad_all n z h6).trans hall
  clear hall
  have g1 : ¬ (n : Int) < 1 := by omega
  have g2 : ¬ (6 : Int) < (n : Int) := by omega
  go_enter Try.func113, Try.ntmps113
  go_wp2_with (with_reducible refine wpList_copy_splice rfl (.tmp 18) (.tmp 19) 25 25 rfl 2 Try.underlying25 size_int _ _ _ _ _ _ rfl rfl (w.heap.size + 1) 0 [.int .i64 0, .int .i64 0, .int .i64 0, .int .i64 0, .int .i64 0, .int .i64 0, .int .i64 n] 139 (heap_new2 _ _ _ _) (numsOf n z) (by rw [numsOf_len]; exact (Nat.min_eq_left h6).symm) (fun _ => ⟨rfl, _, rfl, nums_src hC (((Below.refl _ _).alloc (Nat.le_refl _) _).alloc (by simp) _) hb⟩) (by rw [numsOf_len]; simp; omega) (numsOf_one n z) (w.heap.size + 1) _ (Below.refl _ _) (Nat.le_refl _) ?_)
  intro w1 hd hb1
  have hD : Blk w1 (w.heap.size + 1) 139 (docC (pad n z) n) := by
    rw [← splice_doc n z h6]
    exact hd.out
  have hR : Blk w1 w.heap.size 139 (docC nul 0) := Blk.below ((Blk.new w _ _).alloc _) hb1 (by simp)
  have hb2 : Below w.heap.size w w1 := (((Below.refl _ _).alloc (Nat.le_refl _) _).alloc (by simp) _).trans (hb1.mono (by simp))
  clear hb1 hd
  have hlt : w.heap.size + 1 < w1.heap.size := hD.lt
  obtain ⟨d0, d1, d2, d3, d4, d5, d6⟩ := doc_cells hD
  go_wp2_with (go_at_call 156; refine (inRange_is (pad n z) n false hp.out _).mono ?_; rintro e w2 ⟨rfl, hb3⟩; have hR2 := hR.below hb3 hR.lt; have hb4 := hb2.trans (hb3.mono hb2.size); clear hb3 hb2 d0 d1 d2 d3 d4 d5 d6; obtain ⟨r0, r1, r2, r3, r4, r5, r6⟩ := doc_cells hR2; obtain ⟨f0, f1, f2, f3, f4, f5, f6⟩ := doc_frozen hR2)
  have hF := put7_blk hR2 nul 0
  have hG := put7_below hb4 (Nat.le_refl _) nul 0
  exact bodyPost_ret (docOf_res hF rfl rfl) rfl ⟨rfl, hG⟩

theorem docOf_yes (A : Option Addr) (n cap : Nat) (z : Nat → Int) (w : World) (h : Rd w w.heap.size A n z) (hd : docB n z = true) :
    Calls Try.prog 113 #[.slice A n cap] w fun e w' => e = .returned (.tuple #[docV (pad n z) n, .bool true]) ∧ Below w.heap.size w w' := by
  simp only [docB, Bool.and_eq_true, decide_eq_true_eq] at hd
  exact docOf_in A n cap z w h hd.1.1 hd.1.2 hd.2
theorem docOf_nope (A : Option Addr) (n cap : Nat) (z : Nat → Int) (w : World) (h : Rd w w.heap.size A n z) (hm : n ≤ 4194304) (hd : docB n z = false) :
    Calls Try.prog 113 #[.slice A n cap] w fun e w' => e = .returned (.tuple #[docV nul 0, .bool false]) ∧ Below w.heap.size w w' := by
  by_cases h1 : n < 1
  · exact docOf_out A n cap w (.inl h1) hm
  · by_cases h6 : 6 < n
    · exact docOf_out A n cap w (.inr h6) hm
    · refine docOf_bad A n cap z w h (by omega) (by omega) ?_
      have e1 : decide (1 ≤ n) = true := by simp; omega
      have e2 : decide (n ≤ 6) = true := by simp; omega
      simpa [docB, e1, e2] using hd

theorem iDocOk_any (A : Option Addr) (n cap : Nat) (z : Nat → Int) (w : World) (h : Rd w w.heap.size A n z) (hm : n ≤ 4194304) :
    Calls Try.prog 144 #[.slice A n cap] w fun e w' => e = .returned (.bool (docB n z)) ∧ Below w.heap.size w w' := by
  cases hd : docB n z
  · have H := hid hd
    clear hd
    go_enter Try.func144, Try.ntmps144
    go_wp2_with (go_at_call 113; refine (docOf_nope _ _ _ z _ h hm H.out).mono ?_; rintro e w1 ⟨rfl, hb⟩)
    go_ret
    exact ⟨rfl, hb.alloc hb.size _⟩
  · have H := hid hd
    clear hd
    go_enter Try.func144, Try.ntmps144
    go_wp2_with (go_at_call 113; refine (docOf_yes _ _ _ z _ h H.out).mono ?_; rintro e w1 ⟨rfl, hb⟩)
    go_ret
    exact ⟨rfl, hb.alloc hb.size _⟩

theorem goneTo_pad (n : Nat) (z : Nat → Int) (hn : n ≤ 6) : goneTo (pad n z) 6 = goneTo z n := by
  have h1 : ∀ m, m ≤ n → goneTo (pad n z) m = goneTo z m := by
    intro m
    induction m with
    | zero => intro _; rfl
    | succ m ih => intro hm; simp only [goneTo, ih (by omega)]; unfold pad; rw [if_pos (show m < n by omega)]
  have h2 : ∀ d, goneTo (pad n z) (n + d) = goneTo z n := by
    intro d
    induction d with
    | zero => exact h1 n (Nat.le_refl _)
    | succ d ih =>
      rw [show n + (d + 1) = (n + d) + 1 from rfl]
      simp only [goneTo, ih]
      unfold pad
      rw [if_neg (show ¬ n + d < n by omega)]
      rfl
  have := h2 (6 - n)
  rwa [show n + (6 - n) = 6 by omega] at this

end Go.Proofs.Ytmpgefpaoogoiaa
