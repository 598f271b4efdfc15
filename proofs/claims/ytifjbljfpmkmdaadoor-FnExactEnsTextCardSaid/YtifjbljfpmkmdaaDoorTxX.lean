/- The walk of the exact law of EnsText. -/
import Derived.Test.YtifjbljfpmkmdaaDoorTxW
namespace Go.Proofs.YtifjbljfpmkmdaaDoor
open Go.RowKit Go.Deep

set_option maxRecDepth 100000 in
set_option maxHeartbeats 4000000 in
theorem lawEnsText (f b : Int) (A : Option Addr) (n c : Nat) (len : Nat → Nat) (g : Nat → Nat → Nd) (w : World) (h : RdT w w.heap.size A n len g) (hn : n ≤ 9223372036854775807) (hlen : ∀ i, i < n → len i ≤ 9223372036854775807) (hp : Hid (Pow w w.heap.size)) :
    Calls Tryd.prog 6 #[enV f b A n c] w fun e w' => e = .returned (.bool true) ∧ Below w.heap.size w w' := by
  have HLEN := hid hlen
  clear hlen
  have hb1 := (Below.refl w.heap.size w).alloc (Nat.le_refl _) (.cells #[.int .i64 f, .int .i64 b, .slice A n c] 40)
  have hE1 := Blk.new w 40 #[.int .i64 f, .int .i64 b, .slice A n c]
  have h1 := h.to hb1 hb1.size
  go_enter Tryd.func6, Tryd.ntmps6
  go_wp2_with fail
  refine (szE_any f b A n c len g 1048576 _ h1 hn HLEN (by omega) (by omega)).mono ?_
  rintro e w2 ⟨y, rfl, hy, hb2⟩
  have hE2 := hE1.below hb2 hE1.lt
  have h2 := h1.to hb2 hb2.size
  have hw2 := hb1.trans (hb2.mono hb1.size)
  obtain ⟨c0, c1, c2, _, _, _⟩ := blk_cells3 hE2
  clear hE1 h1 hb1 hb2
  by_cases hneg : y < 0
  · clear hy
    go_wp2_with fail
    go_ret
    exact ⟨rfl, hw2⟩
  · have hsm : n ≤ 1048576 ∧ ∀ i, i < n → len i ≤ 1048576 := by
      rcases hy with h | h
      · exact absurd h hneg
      · exact h.2.2
    have hn2 : n ≤ 4194304 := by have := hsm.1; omega
    have hl2 : Hid (∀ i, i < n → len i ≤ 4194304) := fun i hi => by have := hsm.2 i hi; omega
    clear hy hsm hn HLEN
    go_wp2_with fail
    refine (toE_any f b A n c len g _ h2 hn2 hl2).mono ?_
    rintro e w3 ⟨b3, rfl, _, hr3, hb3⟩
    have hE3 := hE2.below hb3 hE2.lt
    have h3 := h2.to hb3 hb3.size
    have hw3 := hw2.trans (hb3.mono hw2.size)
    clear hE2 h2 hw2 hb3 c0 c1 c2
    go_wp2_with fail
    refine (sEnsText_any f b (some ⟨b3, 0, none⟩) n n len g _ hr3 hn2 hl2).mono ?_
    rintro e w4 ⟨rfl, hb4⟩
    have hE4 := hE3.below hb4 hE3.lt
    have h4 := h3.to hb4 hb4.size
    have hw4 := hw3.trans (hb4.mono hw3.size)
    clear hE3 h3 hw3 hb4 hr3
    obtain ⟨c0, c1, c2, _, _, _⟩ := blk_cells3 hE4
    go_wp2_with fail
    refine (toE_any f b A n c len g _ h4 hn2 hl2).mono ?_
    rintro e w5 ⟨b5, rfl, _, hr5, hb5⟩
    have hE5 := hE4.below hb5 hE4.lt
    have h5 := h4.to hb5 hb5.size
    have hw5 := hw4.trans (hb5.mono hw4.size)
    clear hE4 h4 hw4 hb5 c0 c1 c2
    have hbx := (Below.refl w5.heap.size w5).alloc (Nat.le_refl _) (.cells #[.int .i64 f, .int .i64 b, .slice (some ⟨b5, 0, none⟩) n n] 45)
    have hX6 := Blk.new w5 45 #[.int .i64 f, .int .i64 b, .slice (some ⟨b5, 0, none⟩) n n]
    have hE6 := hE5.alloc (.cells #[.int .i64 f, .int .i64 b, .slice (some ⟨b5, 0, none⟩) n n] 45)
    have h6 := h5.to hbx hbx.size
    have hr6 := hr5.to hbx hbx.size
    have hw6 := hw5.trans (hbx.mono hw5.size)
    clear hE5 h5 hw5 hr5 hbx
    go_wp2_with fail
    have hp6 : Hid (Pow _ _) := hid (show Pow (w5.alloc (.cells #[.int .i64 f, .int .i64 b, .slice (some ⟨b5, 0, none⟩) n n] 45)) _ from fun w' hb => (hp.out w' (hw6.trans (hb.mono hw6.size))))
    refine (iEnsText_any f b (some ⟨b5, 0, none⟩) n n len g _ hr6 hn2 hl2 hp6).mono ?_
    rintro e w7 ⟨rfl, hb7⟩
    have hX7 := hX6.below hb7 hX6.lt
    have hE7 := hE6.below hb7 hE6.lt
    have h7 := h6.to hb7 hb7.size
    have hr7 := hr6.to hb7 hb7.size
    have hw7 := hw6.trans (hb7.mono hw6.size)
    clear hX6 hE6 h6 hw6 hr6 hb7
    obtain ⟨x0, x1, x2, _, _, _⟩ := blk_cells3 hX7
    obtain ⟨c0, c1, c2, _, _, _⟩ := blk_cells3 hE7
    have hEl : w.heap.size < w7.heap.size := hE7.lt
    have hXl : w5.heap.size < w7.heap.size := hX7.lt
    have h7d : RdT w7.drew w7.drew.heap.size A n len g := h7
    go_wp2_with fail
    go_region_held3 (fun w' => w'.cell? ⟨w.heap.size, 0, none⟩ = some (.int .i64 f) ∧ w'.cell? ⟨w.heap.size, 1, none⟩ = some (.int .i64 b) ∧ w'.cell? ⟨w.heap.size, 2, none⟩ = some (.slice A n c) ∧ w'.cell? ⟨w5.heap.size, 0, none⟩ = some (.int .i64 f) ∧ w'.cell? ⟨w5.heap.size, 1, none⟩ = some (.int .i64 b) ∧ w'.cell? ⟨w5.heap.size, 2, none⟩ = some (.slice (some ⟨b5, 0, none⟩) n n))
      (first | exact ⟨e0, e1, e2, y0, y1, y2⟩ | exact ⟨i0, i1, i2, z0, z1, z2⟩ | (simp [go_sem]; done) | (simp [go_sem, *]; done))
      (first
        | (go_at_call 24; refine (toE_any f b A n c len g w7.drew h7d hn2 hl2).mono ?_; rintro e w8 ⟨b8, rfl, _, hr8, hb8⟩; obtain ⟨hc8, hf8⟩ := bcell hb8; have e0 := (hc8 w.heap.size _ hEl).trans c0; have e1 := (hc8 w.heap.size _ hEl).trans c1; have e2 := (hc8 w.heap.size _ hEl).trans c2; have y0 := (hc8 w5.heap.size _ hXl).trans x0; have y1 := (hc8 w5.heap.size _ hXl).trans x1; have y2 := (hc8 w5.heap.size _ hXl).trans x2; have hr78 := RdT.to (w := w7.drew) hr7 hb8 hb8.size)
        | (go_at_call 26; refine (eqE_any f b _ _ n n n len g _ hr78 hr8 hn2 hl2).mono ?_; rintro e w9 ⟨rfl, hb9⟩; obtain ⟨hc9, hf9⟩ := bcell hb9; have hlE : w.heap.size < w8.heap.size := Nat.lt_of_lt_of_le hEl hb8.size; have hlX : w5.heap.size < w8.heap.size := Nat.lt_of_lt_of_le hXl hb8.size; have i0 := (hc9 w.heap.size _ hlE).trans e0; have i1 := (hc9 w.heap.size _ hlE).trans e1; have i2 := (hc9 w.heap.size _ hlE).trans e2; have z0 := (hc9 w5.heap.size _ hlX).trans y0; have z1 := (hc9 w5.heap.size _ hlX).trans y1; have z2 := (hc9 w5.heap.size _ hlX).trans y2))
    have hW := (hw7.drew.trans (hb8.mono hw7.size)).trans (hb9.mono (Nat.le_trans hw7.size hb8.size))
    clear hb8 hb9 hw7 e0 e1 e2 y0 y1 y2 i0 i1 i2 z0 z1 z2 c0 c1 c2 x0 x1 x2 hc8 hf8 hc9 hf9
    go_wp2_with fail
    go_ret
    exact ⟨rfl, hW⟩
end Go.Proofs.YtifjbljfpmkmdaaDoor
