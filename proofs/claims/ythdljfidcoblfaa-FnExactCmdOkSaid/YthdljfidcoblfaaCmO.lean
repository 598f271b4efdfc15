/- The law of CmdOk. -/
import Derived.Test.YthdljfidcoblfaaCmG
namespace Go.Proofs.Ythdljfidcoblfaa
open Go.RowKit Go.Deep
set_option linter.unusedVariables false
set_option linter.unusedSimpArgs false

set_option maxRecDepth 100000 in
set_option maxHeartbeats 4000000 in
theorem lawCmdOk (k a b t : Int) (D : Option Addr) (n dc : Nat) (len : Nat → Nat) (z : Nat → Nat → Int) (s : ByteArray) (w : World) (h : RdQ w w.heap.size D n len z) (hn : n ≤ 9223372036854775807) (hlen : ∀ i, i < n → len i ≤ 9223372036854775807) (hs : s.size ≤ 9223372036854775807) :
    Calls Try.prog 3 #[cmV k a b t D n dc s] w fun e w' => e = .returned (.bool true) ∧ Below w.heap.size w w' := by
  have HLEN := hid hlen
  clear hlen
  have hw1 := (Below.refl w.heap.size w).alloc (Nat.le_refl _) (.cells (cmC k a b t D n dc s) 24)
  have hE1 := Blk.new w 24 (cmC k a b t D n dc s)
  have h1 := h.to hw1
  go_enter Try.func3, Try.ntmps3
  go_wp2_with fail
  refine (szC_any k a b t D n dc len z s 1048576 _ h1 hn HLEN hs (by omega) (by omega)).mono ?_
  rintro e w2 ⟨y, rfl, hy, hb2⟩
  have hE2 := hE1.below hb2 hE1.lt
  have h2 := h1.to hb2
  have hw2 := hw1.trans (hb2.mono hw1.size)
  clear hE1 h1 hw1 hb2
  obtain ⟨c0, c1, c2, c3, c4, c5⟩ := blk_cells6 hE2
  by_cases hl : y < 0
  · clear hy HLEN
    go_wp2_with fail
    go_ret
    exact ⟨rfl, hw2⟩
  · obtain ⟨hn2, hl2, hs2⟩ : n ≤ 4194304 ∧ Hid (∀ i, i < n → len i ≤ 4194304) ∧ s.size ≤ 4194304 := by
      rcases hy with h | h
      · exact absurd h hl
      · exact ⟨by omega, fun i hi => by have := h.2.2.1 i hi; omega, by omega⟩
    clear hy hn HLEN hs
    go_wp2_with fail
    refine (toC_any k a b t D n dc len z s _ h2 hn2 hl2).mono ?_
    rintro e w3 ⟨b3, rfl, _, hr3, hb3⟩
    have hE3 := hE2.below hb3 hE2.lt
    have h3 := h2.to hb3
    have hw3 := hw2.trans (hb3.mono hw2.size)
    clear hE2 h2 hw2 hb3 c0 c1 c2 c3 c4 c5
    go_wp2_with fail
    refine (sCmdOk_any k a b t (some ⟨b3, 0, none⟩) n n len z s _ hr3 hn2 hl2 hs2).mono ?_
    rintro e w4 ⟨rfl, hb4⟩
    have hE4 := hE3.below hb4 hE3.lt
    have h4 := h3.to hb4
    have hw4 := hw3.trans (hb4.mono hw3.size)
    clear hE3 h3 hw3 hb4 hr3
    obtain ⟨c0, c1, c2, c3, c4, c5⟩ := blk_cells6 hE4
    generalize hS : cmdB k a b t n len z s = S at *
    have HS := hid hS
    clear hS
    go_wp2_with fail
    refine (toC_any k a b t D n dc len z s _ h4 hn2 hl2).mono ?_
    rintro e w5 ⟨b5, rfl, _, hr5, hb5⟩
    have hE5 := hE4.below hb5 hE4.lt
    have h5 := h4.to hb5
    have hw5 := hw4.trans (hb5.mono hw4.size)
    clear hE4 h4 hw4 hb5 c0 c1 c2 c3 c4 c5
    have hbx := (Below.refl w5.heap.size w5).alloc (Nat.le_refl _) (.cells (cmC k a b t (some ⟨b5, 0, none⟩) n n s) 27)
    have hX6 := Blk.new w5 27 (cmC k a b t (some ⟨b5, 0, none⟩) n n s)
    have hE6 := hE5.alloc (.cells (cmC k a b t (some ⟨b5, 0, none⟩) n n s) 27)
    have h6 := h5.to hbx
    have hr6 := hr5.to hbx
    have hw6 := hw5.trans (hbx.mono hw5.size)
    clear hE5 h5 hw5 hr5 hbx
    obtain ⟨x0, x1, x2, x3, x4, x5⟩ := blk_cells6 hX6
    go_wp2_with fail
    generalize w5.alloc (.cells (cmC k a b t (some ⟨b5, 0, none⟩) n n s) 27) = W6 at hX6 hE6 h6 hr6 hw6 x0 x1 x2 x3 x4 x5 ⊢
    generalize w5.heap.size = xb at hX6 x0 x1 x2 x3 x4 x5 ⊢
    clear x0 x1 x2 x3 x4 x5
    refine (iCmdOk_any k a b t (some ⟨b5, 0, none⟩) n n len z s _ hr6 hn2 hl2).mono ?_
    rintro e w7 ⟨rfl, hb7⟩
    rw [HS.out]
    have hX7 := hX6.below hb7 hX6.lt
    have hE7 := hE6.below hb7 hE6.lt
    have h7 := h6.to hb7
    have hr7 := hr6.to hb7
    have hw7 := hw6.trans (hb7.mono hw6.size)
    clear hX6 hE6 h6 hw6 hr6 hb7
    have HX7 : Hid (Blk w7.drew xb 27 (cmC k a b t (some ⟨b5, 0, none⟩) n n s)) := hX7
    have HE7 : Hid (Blk w7.drew w.heap.size 24 (cmC k a b t D n dc s)) := hE7
    have q1 : (S != S) = false := by simp
    obtain ⟨x0, x1, x2, x3, x4, x5⟩ := blk_cells6 hX7
    obtain ⟨c0, c1, c2, c3, c4, c5⟩ := blk_cells6 hE7
    have hEl : w.heap.size < w7.heap.size := hE7.lt
    have hXl : xb < w7.heap.size := hX7.lt
    have h7d : RdQ w7.drew w7.drew.heap.size D n len z := h7
    go_wp2_with fail
    go_region_held3 (fun w' => w'.cell? ⟨xb, 0, none⟩ = some (.int .i64 k) ∧ w'.cell? ⟨xb, 1, none⟩ = some (.int .i64 a) ∧ w'.cell? ⟨xb, 2, none⟩ = some (.int .i64 b) ∧ w'.cell? ⟨xb, 3, none⟩ = some (.int .i64 t) ∧ w'.cell? ⟨xb, 4, none⟩ = some (.slice (some ⟨b5, 0, none⟩) n n) ∧ w'.cell? ⟨xb, 5, none⟩ = some (.string s) ∧ w'.cell? ⟨w.heap.size, 0, none⟩ = some (.int .i64 k) ∧ w'.cell? ⟨w.heap.size, 1, none⟩ = some (.int .i64 a) ∧ w'.cell? ⟨w.heap.size, 2, none⟩ = some (.int .i64 b) ∧ w'.cell? ⟨w.heap.size, 3, none⟩ = some (.int .i64 t) ∧ w'.cell? ⟨w.heap.size, 4, none⟩ = some (.slice D n dc) ∧ w'.cell? ⟨w.heap.size, 5, none⟩ = some (.string s))
      (first | with_reducible exact ⟨d0, d1, d2, d3, d4, d5, e0, e1, e2, e3, e4, e5⟩ | with_reducible exact ⟨i0, i1, i2, i3, i4, i5, j0, j1, j2, j3, j4, j5⟩ | (simp [go_sem]; done) | (simp [go_sem, *]; done))
      (first
        | (go_at_call 6; refine (toC_any k a b t D n dc len z s w7.drew h7d hn2 hl2).mono ?_; rintro e w8 ⟨b8, rfl, _, hr8, hb8⟩; obtain ⟨d0, d1, d2, d3, d4, d5⟩ := blk_cells6 (HX7.out.below hb8 hXl); obtain ⟨e0, e1, e2, e3, e4, e5⟩ := blk_cells6 (HE7.out.below hb8 hEl); have hr78 := RdQ.to (w := w7.drew) hr7 hb8)
        | (go_at_call 8; refine (eqC_any k a b t _ _ n n n len z s _ hr78 hr8 hn2 hl2).mono ?_; rintro e w9 ⟨rfl, hb9⟩; have hlE : w.heap.size < w8.heap.size := Nat.lt_of_lt_of_le hEl hb8.size; have hlX : xb < w8.heap.size := Nat.lt_of_lt_of_le hXl hb8.size; obtain ⟨i0, i1, i2, i3, i4, i5⟩ := blk_cells6 ((HX7.out.below hb8 hXl).below hb9 hlX); obtain ⟨j0, j1, j2, j3, j4, j5⟩ := blk_cells6 ((HE7.out.below hb8 hEl).below hb9 hlE)))
    have hW := (hw7.drew.trans (hb8.mono hw7.size)).trans (hb9.mono (Nat.le_trans hw7.size hb8.size))
    clear hb8 hb9 hw7 d0 d1 d2 d3 d4 d5 e0 e1 e2 e3 e4 e5 i0 i1 i2 i3 i4 i5 j0 j1 j2 j3 j4 j5 x0 x1 x2 x3 x4 x5 c0 c1 c2 c3 c4 c5
    go_wp2_with fail
    go_ret
    exact ⟨rfl, hW⟩
end Go.Proofs.Ythdljfidcoblfaa
