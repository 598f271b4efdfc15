/- Contracts of BoxMeet, on the other side. -/
import Derived.Test.YtckhooibjmheiaaMeetC
namespace Go.Proofs.Ytckhooibjmheiaa
open Go.RowKit Go.Deep

theorem cell_alloc {w : World} {o : Obj} {b k : Nat} {v : Value} (h : w.cell? ⟨b, k, none⟩ = some v) : (w.alloc o).cell? ⟨b, k, none⟩ = some v := by
  have hb : b < w.heap.size := cell_lt h
  exact (World.cell?_of_block (((Below.refl w.heap.size w).alloc (Nat.le_refl _) o).block b hb)).trans h

theorem own_set {w : World} {base : Nat} {e : TypeId} {size : Nat} {v : Value} {n : Nat} {xs : List Value} (h : w.ownsRow base e size v n xs) {p : Addr} (hp : ∀ k, v.ownBlock = some k → k ≠ p.block) (u : Value) : (w.setCell p u).ownsRow base e size v n xs := by
  refine ⟨h.1, ?_⟩
  rcases h.2 with h0 | ⟨g, cap, cur, hv, hb, hg, rest⟩
  · exact .inl h0
  · refine .inr ⟨g, cap, cur, hv, hb, ?_, rest⟩
    subst hv
    exact (Below.heap_setCell w p u g (hp g rfl)).trans hg

set_option maxRecDepth 100000 in
set_option maxHeartbeats 4000000 in
theorem both_any (A A' : Option Addr) (n c c' : Nat) (g h : Nat → Sp) (w : World) (ha : RdS w w.heap.size A n g) (hb : RdS w w.heap.size A' n h) (hn0 : 0 < n) (hn : n ≤ 4194304) :
    Calls Try.prog 131 #[.slice A n c, .slice A' n c'] w fun e w' => Below w.heap.size w w' ∧
      (allP (fun i => spanB (meetF g h i)) n = true → ∃ b c, e = .returned (.tuple #[.slice (some ⟨b, 0, none⟩) n c, .bool true]) ∧ w.heap.size ≤ b ∧ RowS w' 74 b n (meetF g h)) ∧
      (allP (fun i => spanB (meetF g h i)) n = false → e = .returned (.tuple #[.slice none 0 0, .bool false])) := by
  obtain ⟨i0, hi0, hz0, hz1, hz2⟩ := info_parts info_span
  go_enter Try.func131, Try.ntmps131
  go_wp2_with fail
  go_loopw [6, 7] (fun o i wr => ∃ (k : Nat) (A2 : Option Addr) (c2 : Nat), k ≤ n ∧ i = .int .i64 k ∧ o = .slice A2 k c2 ∧ wr.ownsRow w.heap.size 74 3 (.slice A2 k c2) k (spansC k (meetF g h)) ∧ Hid (allP (fun i => spanB (meetF g h i)) k = true) ∧ Below w.heap.size w wr)
    (fun _ i _ => n - (intOf i).toNat)
  case atStart => exact ⟨0, _, _, Nat.zero_le _, rfl, rfl, World.ownsRow_made w #[] 0 (Nat.le_refl _) (by unfold maxLen; omega) rfl, rfl, (Below.refl _ _).alloc (Nat.le_refl _) _⟩
  case round =>
    obtain ⟨k, A2, c2, hk, rfl, rfl, hown, hall, hbl⟩ := hrel
    by_cases hlt : k < n
    · have hl : (k : Int) < (n : Int) := by omega
      have hl0 : (0 : Int) ≤ (k : Int) := by omega
      obtain ⟨b, off, rfl, hbb, c0, c1, c2'⟩ := (ha.below hbl).at_ hlt
      obtain ⟨b', off', rfl, hbb', d0, d1, d2⟩ := (hb.below hbl).at_ hlt
      have hlb : b < wr.heap.size := Nat.lt_of_lt_of_le hbb hbl.size
      have hlb' : b' < wr.heap.size := Nat.lt_of_lt_of_le hbb' hbl.size
      have hla : b < (wr.alloc (.cells #[.int .i64 0, .int .i64 0, .bool false] 74)).heap.size := by rw [World.size_alloc]; omega
      have hla' : b' < (wr.alloc (.cells #[.int .i64 0, .int .i64 0, .bool false] 74)).heap.size := by rw [World.size_alloc]; omega
      go_wp2_with fail
      go_region_held3 (fun w' => w'.cell? ⟨b, off + k * 3, none⟩ = some (.int .i64 (g k).lo) ∧ w'.cell? ⟨b, off + k * 3 + 1, none⟩ = some (.int .i64 (g k).hi) ∧ w'.cell? ⟨b, off + k * 3 + 2, none⟩ = some (.bool (g k).gone) ∧ w'.cell? ⟨b', off' + k * 3, none⟩ = some (.int .i64 (h k).lo) ∧ w'.cell? ⟨b', off' + k * 3 + 1, none⟩ = some (.int .i64 (h k).hi) ∧ w'.cell? ⟨b', off' + k * 3 + 2, none⟩ = some (.bool (h k).gone))
        (first | exact ⟨e0, e1, e2, e0', e1', e2'⟩ | exact ⟨cell_alloc e0, cell_alloc e1, cell_alloc e2, cell_alloc e0', cell_alloc e1', cell_alloc e2'⟩ | exact ⟨c0, c1, c2', d0, d1, d2⟩ | exact ⟨cell_alloc c0, cell_alloc c1, cell_alloc c2', cell_alloc d0, cell_alloc d1, cell_alloc d2⟩ | (simp [go_sem]; done) | (simp [go_sem, *]; done))
        (first
          | (go_at_call 160; refine (l3Meet_any (g k) (h k) _).mono ?_; rintro e w3 ⟨rfl, hb3⟩; obtain ⟨hc3, hf3⟩ := bcell hb3; have e0 := (hc3 b _ hlb).trans c0; have e1 := (hc3 b _ hlb).trans c1; have e2 := (hc3 b _ hlb).trans c2'; have e0' := (hc3 b' _ hlb').trans d0; have e1' := (hc3 b' _ hlb').trans d1; have e2' := (hc3 b' _ hlb').trans d2)
          | (go_at_call 160; refine (l3Meet_any (g k) (h k) _).mono ?_; rintro e w3 ⟨rfl, hb3⟩; obtain ⟨hc3, hf3⟩ := bcell hb3; have e0 := (hc3 b _ hla).trans (cell_alloc c0); have e1 := (hc3 b _ hla).trans (cell_alloc c1); have e2 := (hc3 b _ hla).trans (cell_alloc c2'); have e0' := (hc3 b' _ hla').trans (cell_alloc d0); have e1' := (hc3 b' _ hla').trans (cell_alloc d1); have e2' := (hc3 b' _ hla').trans (cell_alloc d2)))
      · have hS5 := Blk.new w3 74 #[.int .i64 (meetS (g k) (h k)).lo, .int .i64 (meetS (g k) (h k)).hi, .bool (meetS (g k) (h k)).gone]
        have hblA := hbl.drew.trans (hb3.mono hbl.size)
        have hbl5 := hblA.alloc hblA.size (.cells #[.int .i64 (meetS (g k) (h k)).lo, .int .i64 (meetS (g k) (h k)).hi, .bool (meetS (g k) (h k)).gone] 74)
        have hown5 := (own_below (w := wr.drew) hown hb3).alloc (.cells #[.int .i64 (meetS (g k) (h k)).lo, .int .i64 (meetS (g k) (h k)).hi, .bool (meetS (g k) (h k)).gone] 74)
        clear hblA
        clear hown hbl hb3 hc3 hf3 e0 e1 e2 e0' e1' e2' c0 c1 c2' d0 d1 d2 hla hla'
        generalize hW : w3.alloc (.cells #[.int .i64 (meetS (g k) (h k)).lo, .int .i64 (meetS (g k) (h k)).hi, .bool (meetS (g k) (h k)).gone] 74) = W5 at hS5 hbl5 hown5 ⊢
        generalize w3.heap.size = ps at hS5 ⊢
        clear hW
        have HM : Hid (meetF g h k = meetS (g k) (h k)) := rfl
        generalize meetS (g k) (h k) = mk at HM hS5 ⊢
        have s0 : W5.cell? ⟨ps, 0, none⟩ = some (.int .i64 mk.lo) := hS5.cell 0
        have s1 : W5.cell? ⟨ps, 1, none⟩ = some (.int .i64 mk.hi) := hS5.cell 1
        have s2 : W5.cell? ⟨ps, 2, none⟩ = some (.bool mk.gone) := hS5.cell 2
        go_wp2_with fail
        refine (l3Span_any mk _).mono ?_
        rintro e w6 ⟨rfl, hb6⟩
        have hS6 := hS5.below hb6 hS5.lt
        have hown6 := own_below hown5 hb6
        have hbl6 := hbl5.trans (hb6.mono hbl5.size)
        have hs6 := hbl6.size
        clear hS5 hown5 hbl5 hb6 s0 s1 s2
        have s0 : w6.cell? ⟨ps, 0, none⟩ = some (.int .i64 mk.lo) := hS6.cell 0
        have s1 : w6.cell? ⟨ps, 1, none⟩ = some (.int .i64 mk.hi) := hS6.cell 1
        have s2 : w6.cell? ⟨ps, 2, none⟩ = some (.bool mk.gone) := hS6.cell 2
        cases hq : spanB mk
        · go_wp2_with fail
          go_ret2
          refine ⟨hbl6, (fun hx => ?_), fun _ => rfl⟩
          rw [allP_false (p := fun i => spanB (meetF g h i)) hlt (by show spanB (meetF g h k) = false; rw [HM.out]; exact hq)] at hx
          cases hx
        · have hN := Blk.new w6 74 #[.int .i64 mk.lo, .int .i64 mk.hi, .bool mk.gone]
          have hcell : ∀ j u, (spC mk)[j]? = some u → (w6.alloc (.cells #[.int .i64 mk.lo, .int .i64 mk.hi, .bool mk.gone] 74)).cell? ⟨w6.heap.size, j, none⟩ = some u := fun j u hu => (hN.cell j).trans (by rw [← hu]; simp [spC])
          have HC := hid hcell
          clear hN hcell
          go_wp2_with (at_builtin; refine wpList_append_own _ rfl (.tmp 28) (.tmp 30) 35 rfl w.heap.size 74 i0 (spV ⟨0, 0, false⟩) 3 24 Try.underlying35 hi0 hz0 hz1 hz2 rfl (by decide) _ k _ rfl (hown6.alloc _) ⟨w6.heap.size, 0, none⟩ 1 1 (spC mk) rfl rfl (fun j u hu => by simpa [Addr.add_lit] using HC.out j u hu) (spC_one _) (by unfold maxLen; omega) (by omega) (by simp; omega) ?_)
          intro v' w7 hown7 hg7 _
          have hbl7 : Below w.heap.size w w7 := (hbl6.alloc hs6 _).grown hg7 (by simp; omega) (fun x hx => (hown6.lt x hx).1)
          obtain ⟨A7, c7, rfl⟩ := own_form hown7
          clear hg7 hown6 hbl6 hS6 s0 s1 s2
          go_wp2_with fail
          go_roundw
          case rel => exact ⟨k + 1, A7, c7, by omega, by go_num, rfl, by rw [spansC_succ k, HM.out]; exact hown7, (by show allP _ (k + 1) = true; simp only [allP, hall.out, Bool.true_and]; rw [HM.out]; exact hq), hbl7⟩
          case measure => simp [intOf]; omega
      · have hS5 : Blk (((w3.setCell ⟨wr.heap.size, 0, none⟩ (.int .i64 (meetS (g k) (h k)).lo)).setCell ⟨wr.heap.size, 1, none⟩ (.int .i64 (meetS (g k) (h k)).hi)).setCell ⟨wr.heap.size, 2, none⟩ (.bool (meetS (g k) (h k)).gone)) wr.heap.size 74 #[.int .i64 (meetS (g k) (h k)).lo, .int .i64 (meetS (g k) (h k)).hi, .bool (meetS (g k) (h k)).gone] := ((((Blk.new wr 74 #[.int .i64 0, .int .i64 0, .bool false]).below (w := (wr.alloc (.cells #[.int .i64 0, .int .i64 0, .bool false] 74)).drew) hb3 (by simp)).set_ 0 _).set_ 1 _).set_ 2 _
        have hblA := (hbl.alloc hbl.size (.cells #[.int .i64 0, .int .i64 0, .bool false] 74)).drew.trans (hb3.mono (hbl.alloc hbl.size (.cells #[.int .i64 0, .int .i64 0, .bool false] 74)).size)
        have hbl5 := ((hblA.setCell (p := ⟨wr.heap.size, 0, none⟩) hbl.size (.int .i64 (meetS (g k) (h k)).lo)).setCell (p := ⟨wr.heap.size, 1, none⟩) hbl.size (.int .i64 (meetS (g k) (h k)).hi)).setCell (p := ⟨wr.heap.size, 2, none⟩) hbl.size (.bool (meetS (g k) (h k)).gone)
        have hne : ∀ x, Value.ownBlock (.slice A2 k c2) = some x → x ≠ wr.heap.size := fun x hx => Nat.ne_of_lt (hown.lt x hx).2
        have hown5 := own_set (own_set (own_set (own_below (w := (wr.alloc (.cells #[.int .i64 0, .int .i64 0, .bool false] 74)).drew) (hown.alloc (.cells #[.int .i64 0, .int .i64 0, .bool false] 74)) hb3) (p := ⟨wr.heap.size, 0, none⟩) hne (.int .i64 (meetS (g k) (h k)).lo)) (p := ⟨wr.heap.size, 1, none⟩) hne (.int .i64 (meetS (g k) (h k)).hi)) (p := ⟨wr.heap.size, 2, none⟩) hne (.bool (meetS (g k) (h k)).gone)
        clear hblA hne
        clear hown hbl hb3 hc3 hf3 e0 e1 e2 e0' e1' e2' c0 c1 c2' d0 d1 d2 hla hla'
        generalize hW : ((w3.setCell ⟨wr.heap.size, 0, none⟩ (.int .i64 (meetS (g k) (h k)).lo)).setCell ⟨wr.heap.size, 1, none⟩ (.int .i64 (meetS (g k) (h k)).hi)).setCell ⟨wr.heap.size, 2, none⟩ (.bool (meetS (g k) (h k)).gone) = W5 at hS5 hbl5 hown5 ⊢
        generalize wr.heap.size = ps at hS5 ⊢
        clear hW
        have HM : Hid (meetF g h k = meetS (g k) (h k)) := rfl
        generalize meetS (g k) (h k) = mk at HM hS5 ⊢
        have s0 : W5.cell? ⟨ps, 0, none⟩ = some (.int .i64 mk.lo) := hS5.cell 0
        have s1 : W5.cell? ⟨ps, 1, none⟩ = some (.int .i64 mk.hi) := hS5.cell 1
        have s2 : W5.cell? ⟨ps, 2, none⟩ = some (.bool mk.gone) := hS5.cell 2
        go_wp2_with fail
        refine (l3Span_any mk _).mono ?_
        rintro e w6 ⟨rfl, hb6⟩
        have hS6 := hS5.below hb6 hS5.lt
        have hown6 := own_below hown5 hb6
        have hbl6 := hbl5.trans (hb6.mono hbl5.size)
        have hs6 := hbl6.size
        clear hS5 hown5 hbl5 hb6 s0 s1 s2
        have s0 : w6.cell? ⟨ps, 0, none⟩ = some (.int .i64 mk.lo) := hS6.cell 0
        have s1 : w6.cell? ⟨ps, 1, none⟩ = some (.int .i64 mk.hi) := hS6.cell 1
        have s2 : w6.cell? ⟨ps, 2, none⟩ = some (.bool mk.gone) := hS6.cell 2
        cases hq : spanB mk
        · go_wp2_with fail
          go_ret2
          refine ⟨hbl6, (fun hx => ?_), fun _ => rfl⟩
          rw [allP_false (p := fun i => spanB (meetF g h i)) hlt (by show spanB (meetF g h k) = false; rw [HM.out]; exact hq)] at hx
          cases hx
        · have hN := Blk.new w6 74 #[.int .i64 mk.lo, .int .i64 mk.hi, .bool mk.gone]
          have hcell : ∀ j u, (spC mk)[j]? = some u → (w6.alloc (.cells #[.int .i64 mk.lo, .int .i64 mk.hi, .bool mk.gone] 74)).cell? ⟨w6.heap.size, j, none⟩ = some u := fun j u hu => (hN.cell j).trans (by rw [← hu]; simp [spC])
          have HC := hid hcell
          clear hN hcell
          go_wp2_with (at_builtin; refine wpList_append_own _ rfl (.tmp 28) (.tmp 30) 35 rfl w.heap.size 74 i0 (spV ⟨0, 0, false⟩) 3 24 Try.underlying35 hi0 hz0 hz1 hz2 rfl (by decide) _ k _ rfl (hown6.alloc _) ⟨w6.heap.size, 0, none⟩ 1 1 (spC mk) rfl rfl (fun j u hu => by simpa [Addr.add_lit] using HC.out j u hu) (spC_one _) (by unfold maxLen; omega) (by omega) (by simp; omega) ?_)
          intro v' w7 hown7 hg7 _
          have hbl7 : Below w.heap.size w w7 := (hbl6.alloc hs6 _).grown hg7 (by simp; omega) (fun x hx => (hown6.lt x hx).1)
          obtain ⟨A7, c7, rfl⟩ := own_form hown7
          clear hg7 hown6 hbl6 hS6 s0 s1 s2
          go_wp2_with fail
          go_roundw
          case rel => exact ⟨k + 1, A7, c7, by omega, by go_num, rfl, by rw [spansC_succ k, HM.out]; exact hown7, (by show allP _ (k + 1) = true; simp only [allP, hall.out, Bool.true_and]; rw [HM.out]; exact hq), hbl7⟩
          case measure => simp [intOf]; omega
    · have e : k = n := by omega
      subst e
      go_wp2_with fail
      go_ret2
      obtain ⟨gb, e1, hgb, _, hrow⟩ := own_rowS hown (by omega)
      subst e1
      refine ⟨hbl, (fun _ => ⟨gb, c2, rfl, hgb, hrow⟩), fun hx => ?_⟩
      rw [hall.out] at hx
      cases hx
end Go.Proofs.Ytckhooibjmheiaa
