/- The library's sort of at most twelve numbers. -/
import Derived.Test.YtnhbgagdppbldaaLvA
import Derived.Test.YtnhbgagdppbldaaTreeH
import Derived.Deep.RegionHeld3
namespace Go.Proofs.Ytnhbgagdppbldaa
open Go.RowKit Go.Deep

theorem isNaN_any (x : Int) (w : World) : Calls Try.prog 155 #[.int .i64 x] w fun e w' => e = .returned (.bool false) ∧ w = w' := by
  go_enter Try.func155, Try.ntmps155
  go_wp2_with fail
  go_ret
  exact ⟨rfl, rfl⟩
theorem less_any (x y : Int) (w : World) : Calls Try.prog 142 #[.int .i64 x, .int .i64 y] w fun e w' => e = .returned (.bool (decide (x < y))) ∧ w = w' := by
  go_enter Try.func142, Try.ntmps142
  go_wp2_with fail
  refine (isNaN_any x _).mono ?_
  rintro e w1 ⟨rfl, rfl⟩
  go_wp2_with fail
  go_ret
  exact ⟨rfl, rfl⟩

/-- Two neighbours exchanged. -/
def swp (y : Nat → Int) (t : Nat) : Nat → Int := fun i => if i = t then y (t + 1) else if i = t + 1 then y t else y i
theorem swp_perm (y : Nat → Int) (t : Nat) : ∀ n, t + 1 < n → ((List.range n).map (swp y t)).Perm ((List.range n).map y) := by
  intro n
  induction n with
  | zero => intro h; omega
  | succ n ih =>
    intro h
    rw [List.range_succ, List.map_append, List.map_append]
    by_cases e : t + 1 = n
    · subst e
      rw [List.range_succ, List.map_append, List.map_append]
      have e1 : (List.range t).map (swp y t) = (List.range t).map y := List.map_congr_left fun i hi => by
        have := List.mem_range.1 hi
        unfold swp
        rw [if_neg (by omega), if_neg (by omega)]
      have e2 : swp y t t = y (t + 1) := by unfold swp; rw [if_pos rfl]
      have e3 : swp y t (t + 1) = y t := by unfold swp; rw [if_neg (by omega), if_pos rfl]
      simp only [List.map_cons, List.map_nil, e1, e2, e3, List.append_assoc, List.cons_append, List.nil_append]
      exact List.Perm.append_left _ (List.Perm.swap _ _ _)
    · have e1 : swp y t n = y n := by unfold swp; rw [if_neg (by omega), if_neg (by omega)]
      simp only [List.map_cons, List.map_nil, e1]
      exact (ih (by omega)).append_right _
/-- In order but for the number at t. -/
def Ins (y : Nat → Int) (k t : Nat) : Prop := (∀ p q, p < q → q ≤ k → p ≠ t → q ≠ t → y p ≤ y q) ∧ ∀ q, t < q → q ≤ k → y t ≤ y q
theorem Ins.next {y : Nat → Int} {k t : Nat} (h : Ins y k (t + 1)) (hk : t + 1 ≤ k) (hlt : y (t + 1) < y t) : Ins (swp y t) k t := by
  refine ⟨fun p q hpq hqk hp hq => ?_, fun q hq hqk => ?_⟩
  · unfold swp
    rw [if_neg hp, if_neg hq]
    by_cases e1 : p = t + 1
    · subst e1
      rw [if_pos rfl, if_neg (by omega)]
      exact h.1 t q (by omega) hqk (by omega) (by omega)
    · rw [if_neg e1]
      by_cases e2 : q = t + 1
      · subst e2
        rw [if_pos rfl]
        exact h.1 p t (by omega) (by omega) e1 (by omega)
      · rw [if_neg e2]
        exact h.1 p q hpq hqk e1 e2
  · unfold swp
    rw [if_pos rfl, if_neg (by omega)]
    by_cases e2 : q = t + 1
    · subst e2; rw [if_pos rfl]; omega
    · rw [if_neg e2]
      have := h.2 q (by omega) hqk
      omega
theorem Ins.done {y : Nat → Int} {k t : Nat} (h : Ins y k t) (hs : t = 0 ∨ y (t - 1) ≤ y t) : ∀ p q, p < q → q ≤ k → y p ≤ y q := by
  intro p q hpq hqk
  by_cases e1 : p = t
  · subst e1; exact h.2 q hpq hqk
  · by_cases e2 : q = t
    · subst e2
      rcases hs with h0 | hs
      · omega
      · by_cases e3 : p = q - 1
        · subst e3; exact hs
        · exact Int.le_trans (h.1 p (q - 1) (by omega) (by omega) e1 (by omega)) hs
    · exact h.1 p q hpq hqk e1 e2
theorem Ins.start {y : Nat → Int} {k : Nat} (h : ∀ p q, p < q → q < k → y p ≤ y q) : Ins y k k := ⟨fun p q h1 h2 _ h4 => h p q h1 (by omega), fun q h1 h2 => by omega⟩

set_option maxHeartbeats 2000000 in
theorem insort_any (B b n c : Nat) (z : Nat → Int) (w : World) (hr : Row w 2 b n z) (hB : B ≤ b) (hn1 : 1 ≤ n) (hn : n ≤ 12) :
    Calls Try.prog 136 #[.slice (some ⟨b, 0, none⟩) n c, .int .i64 0, .int .i64 n] w fun e w' =>
      e = .returned (.tuple #[]) ∧ ∃ y : Nat → Int, Row w' 2 b n y ∧ ((List.range n).map y).Perm ((List.range n).map z) ∧ (∀ p q, p < q → q < n → y p ≤ y q) ∧ Below B w w' := by
  go_enter Try.func136, Try.ntmps136
  go_wp2_with fail
  go_loopw [6, 7] (fun i _ wr => ∃ (k : Nat) (y : Nat → Int), 1 ≤ k ∧ k ≤ n ∧ i = .int .i64 k ∧ Row wr 2 b n y ∧ Hid (((List.range n).map y).Perm ((List.range n).map z)) ∧ Hid (∀ p q, p < q → q < k → y p ≤ y q) ∧ Below B w wr) (fun i _ _ => n - (intOf i).toNat)
  case atStart => exact ⟨1, z, Nat.le_refl _, hn1, rfl, hr, List.Perm.refl _, fun p q h1 h2 => by omega, Below.refl _ _⟩
  case round =>
    obtain ⟨k, y, hk1, hk, rfl, hrow, hp, hs, hbl⟩ := hrel
    by_cases hlt : k < n
    · have i1 : (k : Int) < (n : Int) := by omega
      go_wp2_with fail
      go_loopw [7] (fun j wr => ∃ (t : Nat) (y : Nat → Int), t ≤ k ∧ j = .int .i64 t ∧ Row wr 2 b n y ∧ Hid (((List.range n).map y).Perm ((List.range n).map z)) ∧ Hid (Ins y k t) ∧ Below B w wr) (fun j _ => (intOf j).toNat)
      case atStart => exact ⟨k, y, Nat.le_refl _, rfl, hrow, hp, Ins.start hs.out, hbl⟩
      case round =>
        obtain ⟨t, y, ht, rfl, hrow, hp, hs, hbl⟩ := hrel
        by_cases h0 : t = 0
        · subst h0
          go_wp2_with fail
          go_quiet (fail)
          go_wp2_with fail
          refine ⟨⟨k + 1, y, by omega, by omega, rfl, hrow.keep (w' := wr.drewN nq) rfl, hp, fun p q h1 h2 => hs.out.done (.inl rfl) p q h1 (by omega), below_drewN hbl _⟩, ?_⟩
          simp [intOf]
          omega
        · obtain ⟨s, hst⟩ : ∃ s, t = s + 1 := ⟨t - 1, by omega⟩
          have e1 : (t : Int) - 1 = s := by omega
          have e2 : (0 : Int) < (t : Int) := by omega
          have e3 : (t : Int) < (n : Int) := by omega
          have e4 : (0 : Int) ≤ (t : Int) := by omega
          have e5 : (s : Int) < (n : Int) := by omega
          have e6 : (0 : Int) ≤ (s : Int) := by omega
          have e7 : s ≠ t := by omega
          have ew : IntKind.i64.wrap (s : Int) = (s : Int) := IntWalk.i64_in _ (by omega)
          have eg : decide (0 < t) = true := by simp; omega
          have c0 : wr.cell? ⟨b, s, none⟩ = some (.int .i64 (y s)) := hrow.cell (by omega)
          have c1 : wr.cell? ⟨b, t, none⟩ = some (.int .i64 (y t)) := hrow.cell (by omega)
          have f0 := hrow.frozen s
          have f1 := hrow.frozen t
          have hnx : Row ((wr.setCell ⟨b, t, none⟩ (.int .i64 (y s))).setCell ⟨b, s, none⟩ (.int .i64 (y t))) 2 b n (swp y s) := ((hrow.set_ (i := t) (y s)).set_ (i := s) (y t)).congr fun i _ => by
            unfold swp
            rw [← hst]
          have hbn : Below B w ((wr.setCell ⟨b, t, none⟩ (.int .i64 (y s))).setCell ⟨b, s, none⟩ (.int .i64 (y t))) := (hbl.setCell (p := ⟨b, t, none⟩) hB _).setCell (p := ⟨b, s, none⟩) hB _
          have hpn : Hid (((List.range n).map (swp y s)).Perm ((List.range n).map z)) := (swp_perm y s n (by omega)).trans hp.out
          have HST := hid hst
          by_cases hc : y t < y s
          · have hd : decide (y t < y s) = true := by simpa using hc
            have hsn : Hid (Ins (swp y s) k s) := by
              have hs' : Ins y k (s + 1) := by rw [← hst]; exact hs.out
              exact hs'.next (by omega) (by rw [← hst]; exact hc)
            have HC := hid hc
            clear hc hst
            go_wp2_with fail
            go_region_held3 (fun w' => w'.cell? ⟨b, s, none⟩ = some (.int .i64 (y s)) ∧ w'.cell? ⟨b, t, none⟩ = some (.int .i64 (y t)))
              (first | exact ⟨c0, c1⟩ | (simp [go_sem, *]; done))
              (first
                | (go_at_call 142; refine (less_any (y t) (y s) _).mono ?_; rintro e w1 ⟨rfl, rfl⟩; rw [hd]))
            go_wp2_with fail
            go_region
            all_goals go_wp2_with fail
            refine ⟨⟨s, swp y s, by omega, rfl, hnx.keep rfl, hpn, hsn, hbn.drew.drew⟩, ?_⟩
            simp [intOf]
            have := HST.out
            omega
          · have hd : decide (y t < y s) = false := by simpa using hc
            have hts : t - 1 = s := by omega
            have hle : y (t - 1) ≤ y t := by rw [hts]; omega
            have hdn : Hid (∀ p q, p < q → q < k + 1 → y p ≤ y q) := fun p q h1 h2 => hs.out.done (.inr hle) p q h1 (by omega)
            clear hts hle
            clear hc hst
            go_wp2_with fail
            go_region_held3 (fun w' => w'.cell? ⟨b, s, none⟩ = some (.int .i64 (y s)) ∧ w'.cell? ⟨b, t, none⟩ = some (.int .i64 (y t)))
              (first | exact ⟨c0, c1⟩ | (simp [go_sem, *]; done))
              (first
                | (go_at_call 142; refine (less_any (y t) (y s) _).mono ?_; rintro e w1 ⟨rfl, rfl⟩; rw [hd]))
            go_wp2_with fail
            refine ⟨⟨k + 1, y, by omega, by omega, rfl, hrow.keep rfl, hp, hdn, below_drewN hbl 1⟩, ?_⟩
            simp [intOf]
            omega
    · obtain rfl : k = n := by omega
      go_wp2_with fail
      go_end0
      exact ⟨rfl, y, hrow, hp.out, hs.out, hbl⟩

set_option maxRecDepth 100000 in
theorem len64_any (n : Nat) (hn : n ≤ 12) (w : World) : Calls Try.prog 146 #[.int .u64 n] w fun e w' => (∃ x : Int, e = .returned (.int .i64 x)) ∧ w = w' := by
  have hq : n = 0 ∨ n = 1 ∨ n = 2 ∨ n = 3 ∨ n = 4 ∨ n = 5 ∨ n = 6 ∨ n = 7 ∨ n = 8 ∨ n = 9 ∨ n = 10 ∨ n = 11 ∨ n = 12 := by omega
  clear hn
  rcases hq with rfl | rfl | rfl | rfl | rfl | rfl | rfl | rfl | rfl | rfl | rfl | rfl | rfl
  all_goals
    go_enter Try.func146, Try.ntmps146
    go_wp2_with fail
    go_ret
    exact ⟨⟨_, rfl⟩, rfl⟩
theorem len_any (n : Nat) (hn : n ≤ 12) (w : World) : Calls Try.prog 116 #[.int .u64 n] w fun e w' => (∃ x : Int, e = .returned (.int .i64 x)) ∧ w = w' := by
  go_enter Try.func116, Try.ntmps116
  go_wp2_with fail
  refine (len64_any n hn _).mono ?_
  rintro e w1 ⟨⟨x, rfl⟩, rfl⟩
  go_wp2_with fail
  go_ret
  exact ⟨⟨_, rfl⟩, rfl⟩
theorem pdq_any (B b n c : Nat) (z : Nat → Int) (x : Int) (w : World) (hr : Row w 2 b n z) (hB : B ≤ b) (hn1 : 1 ≤ n) (hn : n ≤ 12) :
    Calls Try.prog 115 #[.slice (some ⟨b, 0, none⟩) n c, .int .i64 0, .int .i64 n, .int .i64 x] w fun e w' =>
      e = .returned (.tuple #[]) ∧ ∃ y : Nat → Int, Row w' 2 b n y ∧ ((List.range n).map y).Perm ((List.range n).map z) ∧ (∀ p q, p < q → q < n → y p ≤ y q) ∧ Below B w w' := by
  go_enter Try.func115, Try.ntmps115
  go_wp2_with fail
  go_loopw [1, 2] (fun a d wr => a = .int .i64 0 ∧ d = .int .i64 n ∧ wr = w) (fun _ _ _ => 0)
  case atStart => exact ⟨rfl, rfl, rfl⟩
  case round =>
    obtain ⟨rfl, rfl, rfl⟩ := hrel
    have i1 : (n : Int) - 0 ≤ 12 := by omega
    go_wp2_with fail
    refine (insort_any B b n c z _ hr hB hn1 hn).mono ?_
    rintro e w1 ⟨rfl, y, hy⟩
    go_wp2_with fail
    (try simp only [Exit.inBlock, Exit.then])
    refine bodyPost_ret (results_none rfl _ _ _) rfl ?_
    exact ⟨rfl, y, hy⟩
theorem sort_any (B b n c : Nat) (z : Nat → Int) (w : World) (hr : Row w 2 b n z) (hB : B ≤ b) (hn1 : 1 ≤ n) (hn : n ≤ 12) :
    Calls Try.prog 75 #[.slice (some ⟨b, 0, none⟩) n c] w fun e w' =>
      e = .returned (.tuple #[]) ∧ ∃ y : Nat → Int, Row w' 2 b n y ∧ ((List.range n).map y).Perm ((List.range n).map z) ∧ (∀ p q, p < q → q < n → y p ≤ y q) ∧ Below B w w' := by
  go_enter Try.func75, Try.ntmps75
  go_wp2_with fail
  refine (len_any n hn _).mono ?_
  rintro e w1 ⟨⟨x, rfl⟩, rfl⟩
  go_wp2_with fail
  refine (pdq_any B b n c z x _ hr hB hn1 hn).mono ?_
  rintro e w1 ⟨rfl, y, hy⟩
  go_wp2_with fail
  go_end0
  exact ⟨rfl, y, hy⟩
end Go.Proofs.Ytnhbgagdppbldaa
