/- Contracts of the program's own functions on documents: a document held as a value of seven cells. -/
import Derived.Test.YtmpgefpaoogoiaaDocA
import Derived.WalkLawsBesides
import Derived.Laws.CopyOwn
import Derived.Handy
import Derived.Deep.RegionHeld3
import Derived.Deep.RegionWith
namespace Go.Proofs.Ytmpgefpaoogoiaa
open Go.RowKit Go.Deep

/-- The numbers z and a size, as the program's value. -/
abbrev docV (z : Nat → Int) (n : Int) : Value := .agg #[.int .i64 (z 0), .int .i64 (z 1), .int .i64 (z 2), .int .i64 (z 3), .int .i64 (z 4), .int .i64 (z 5), .int .i64 n]
def docC (z : Nat → Int) (n : Int) : Array Value := #[.int .i64 (z 0), .int .i64 (z 1), .int .i64 (z 2), .int .i64 (z 3), .int .i64 (z 4), .int .i64 (z 5), .int .i64 n]
theorem docC_at (z : Nat → Int) (n : Int) (k : Nat) (hk : k < 6) : (docC z n)[k]? = some (.int .i64 (z k)) := by
  match k, hk with
  | 0, _ => rfl
  | 1, _ => rfl
  | 2, _ => rfl
  | 3, _ => rfl
  | 4, _ => rfl
  | 5, _ => rfl
theorem docC_set (z : Nat → Int) (n : Int) (k : Nat) (hk : k < 6) (x : Int) : (docC z n).setIfInBounds k (.int .i64 x) = docC (fun j => if j = k then x else z j) n := by
  match k, hk with
  | 0, _ => rfl
  | 1, _ => rfl
  | 2, _ => rfl
  | 3, _ => rfl
  | 4, _ => rfl
  | 5, _ => rfl
theorem docC_congr {z y : Nat → Int} {n : Int} (h : ∀ j, j < 6 → z j = y j) : docC z n = docC y n := by
  unfold docC
  rw [h 0 (by omega), h 1 (by omega), h 2 (by omega), h 3 (by omega), h 4 (by omega), h 5 (by omega)]
theorem docV_congr {z y : Nat → Int} {n : Int} (h : ∀ j, j < 6 → z j = y j) : docV z n = docV y n := by
  unfold docV
  rw [h 0 (by omega), h 1 (by omega), h 2 (by omega), h 3 (by omega), h 4 (by omega), h 5 (by omega)]
theorem idx6 (z : Nat → Int) (k : Nat) (hk : k < 6) (w : World) :
    (Instr.index 137 (.agg #[.int .i64 (z 0), .int .i64 (z 1), .int .i64 (z 2), .int .i64 (z 3), .int .i64 (z 4), .int .i64 (z 5)]) (.int .i64 (k : Int))).run Try.prog w = .ok (.int .i64 (z k)) w := by
  obtain rfl | rfl | rfl | rfl | rfl | rfl : k = 0 ∨ k = 1 ∨ k = 2 ∨ k = 3 ∨ k = 4 ∨ k = 5 := by omega
  all_goals kernel_rfl
theorem fld6 (z : Nat → Int) (n : Int) (w : World) :
    (Instr.field 139 (.agg #[.int .i64 (z 0), .int .i64 (z 1), .int .i64 (z 2), .int .i64 (z 3), .int .i64 (z 4), .int .i64 (z 5), .int .i64 n]) 0).run Try.prog w =
      .ok (.agg #[.int .i64 (z 0), .int .i64 (z 1), .int .i64 (z 2), .int .i64 (z 3), .int .i64 (z 4), .int .i64 (z 5)]) w := by kernel_rfl
theorem doc_cells {w : World} {b : Nat} {t : TypeId} {z : Nat → Int} {n : Int} (h : Blk w b t (docC z n)) :
    w.cell? ⟨b, 0, none⟩ = some (.int .i64 (z 0)) ∧ w.cell? ⟨b, 1, none⟩ = some (.int .i64 (z 1)) ∧ w.cell? ⟨b, 2, none⟩ = some (.int .i64 (z 2)) ∧ w.cell? ⟨b, 3, none⟩ = some (.int .i64 (z 3)) ∧
    w.cell? ⟨b, 4, none⟩ = some (.int .i64 (z 4)) ∧ w.cell? ⟨b, 5, none⟩ = some (.int .i64 (z 5)) ∧ w.cell? ⟨b, 6, none⟩ = some (.int .i64 n) :=
  ⟨h.cell 0, h.cell 1, h.cell 2, h.cell 3, h.cell 4, h.cell 5, h.cell 6⟩

/-- What is clamped of the first k. -/
def mix (z : Nat → Int) (k : Nat) : Nat → Int := fun j => if j < k then clamp (z j) else z j

theorem walk_clamp (x : Int) : (if 1000000 < (if x < -1000000 then -1000000 else x) then 1000000 else (if x < -1000000 then -1000000 else x)) = min (max x (-1000000)) 1000000 := by
  split <;> split <;> omega
theorem mix_skip {z : Nat → Int} {k : Nat} (h : (z k != 9999999) = false) : ∀ j, j < 6 → mix z k j = mix z (k + 1) j := by
  intro j _
  unfold mix clamp
  have hk : z k = 9999999 := by simpa using h
  by_cases e : j = k
  · subst e; rw [if_neg (by omega), if_pos (by omega), if_pos hk]
  · by_cases h' : j < k
    · rw [if_pos h', if_pos (show j < k + 1 by omega)]
    · rw [if_neg h', if_neg (show ¬ j < k + 1 by omega)]
theorem mix_put {z : Nat → Int} {k : Nat} (h : (z k != 9999999) = true) : ∀ j, j < 6 → (fun j => if j = k then min (max (z k) (-1000000)) 1000000 else mix z k j) j = mix z (k + 1) j := by
  intro j _
  have hk : ¬ z k = 9999999 := by simpa using h
  show (if j = k then _ else mix z k j) = _
  unfold mix clamp
  by_cases e : j = k
  · subst e; rw [if_pos rfl, if_pos (by omega), if_neg hk]
  · rw [if_neg e]
    by_cases h' : j < k
    · rw [if_pos h', if_pos (show j < k + 1 by omega)]
    · rw [if_neg h', if_neg (show ¬ j < k + 1 by omega)]

set_option maxHeartbeats 800000 in
theorem clamped_any (z : Nat → Int) (n : Int) (w : World) : Calls Try.prog 180 #[docV z n] w fun e w' =>
    e = .returned (docV (fun j => clamp (z j)) n) ∧ Below w.heap.size w w' := by
  go_enter Try.func180, Try.ntmps180
  go_wp2_with fail
  go_loopw [7] (fun i wr => ∃ k : Nat, k ≤ 6 ∧ i = .int .i64 k ∧ Blk wr w.heap.size 139 (docC (mix z k) n) ∧ Blk wr (w.heap.size + 1) 139 (docC (fun _ => 0) 0) ∧ Below w.heap.size w wr)
    (fun i _ => 6 - (intOf i).toNat)
  case atStart => exact ⟨0, by omega, rfl, (Blk.new _ _ _).alloc _, Blk.new2 _ _ _ _, ((Below.refl _ _).alloc (Nat.le_refl _) _).alloc (by simp) _⟩
  case round =>
    obtain ⟨k, hk, rfl, hB, hR, hbl⟩ := hrel
    by_cases hlt : k < 6
    · have hi := idx6 z k hlt
      have hc : wr.cell? ⟨w.heap.size, k, none⟩ = some (.int .i64 (mix z k k)) := by rw [hB.cell, docC_at _ _ _ hlt]
      have hf := hB.frozen k
      have hi1 : (k : Int) < 6 := by omega
      cases hm : (z k != 9999999)
      · go_wp2_with fail
        go_roundw
        case rel => exact ⟨k + 1, by omega, by go_num, (docC_congr (mix_skip hm)) ▸ hB, hR, hbl⟩
        case measure => simp [intOf]; omega
      · go_wp2_with fail
        go_roundw
        case rel =>
          refine ⟨k + 1, by omega, by go_num, ?_, hR.far (p := ⟨_, _, _⟩) (by simp) _, hbl.setCell (Nat.le_refl _) _⟩
          rw [walk_clamp]
          have := hB.set_ k (.int .i64 (min (max (z k) (-1000000)) 1000000))
          rw [docC_set _ _ _ hlt] at this
          exact (docC_congr (mix_put hm)) ▸ this
        case measure => simp [intOf]; omega
    · obtain ⟨c0, c1, c2, c3, c4, c5, c6⟩ := doc_cells hB
      obtain ⟨d0, d1, d2, d3, d4, d5, d6⟩ := doc_cells hR
      have f0 := hR.frozen 0; have f1 := hR.frozen 1; have f2 := hR.frozen 2; have f3 := hR.frozen 3; have f4 := hR.frozen 4; have f5 := hR.frozen 5; have f6 := hR.frozen 6
      go_wp2_with fail
      have e : k = 6 := by omega
      have hR7 := ((((((hR.set_ 0 (.int .i64 (mix z k 0))).set_ 1 (.int .i64 (mix z k 1))).set_ 2 (.int .i64 (mix z k 2))).set_ 3 (.int .i64 (mix z k 3))).set_ 4 (.int .i64 (mix z k 4))).set_ 5 (.int .i64 (mix z k 5))).set_ 6 (.int .i64 n)
      have hb7 := ((((((hbl.setCell (p := ⟨w.heap.size + 1, 0, none⟩) (by simp) (.int .i64 (mix z k 0))).setCell (p := ⟨w.heap.size + 1, 1, none⟩) (by simp) (.int .i64 (mix z k 1))).setCell (p := ⟨w.heap.size + 1, 2, none⟩) (by simp) (.int .i64 (mix z k 2))).setCell (p := ⟨w.heap.size + 1, 3, none⟩) (by simp) (.int .i64 (mix z k 3))).setCell (p := ⟨w.heap.size + 1, 4, none⟩) (by simp) (.int .i64 (mix z k 4))).setCell (p := ⟨w.heap.size + 1, 5, none⟩) (by simp) (.int .i64 (mix z k 5))).setCell (p := ⟨w.heap.size + 1, 6, none⟩) (by simp) (.int .i64 n)
      revert hR7 hb7
      generalize (((((((wr.setCell ⟨w.heap.size + 1, 0, none⟩ (.int .i64 (mix z k 0))).setCell ⟨w.heap.size + 1, 1, none⟩ (.int .i64 (mix z k 1))).setCell ⟨w.heap.size + 1, 2, none⟩ (.int .i64 (mix z k 2))).setCell ⟨w.heap.size + 1, 3, none⟩ (.int .i64 (mix z k 3))).setCell ⟨w.heap.size + 1, 4, none⟩ (.int .i64 (mix z k 4))).setCell ⟨w.heap.size + 1, 5, none⟩ (.int .i64 (mix z k 5))).setCell ⟨w.heap.size + 1, 6, none⟩ (.int .i64 n)) = W7
      intro hR7 hb7
      have hR8 : Blk W7 (w.heap.size + 1) 139 (docC (mix z k) n) := hR7
      obtain ⟨e0, e1, e2, e3, e4, e5, e6⟩ := doc_cells hR8
      refine bodyPost_ret (v := docV (mix z k) n) (by simp [results, Try.results180, go_sem, e0, e1, e2, e3, e4, e5, e6]) rfl ⟨?_, hb7⟩
      subst e
      show Ending.returned (docV (mix z 6) n) = Ending.returned (docV (fun j => clamp (z j)) n)
      rw [docV_congr (z := mix z 6) (y := fun j => clamp (z j)) fun j hj => by unfold mix; rw [if_pos hj]]

theorem eq6 (x y : Nat → Int) (w : World) :
    (Op.equalIn 10000 137 (.agg #[.int .i64 (x 0), .int .i64 (x 1), .int .i64 (x 2), .int .i64 (x 3), .int .i64 (x 4), .int .i64 (x 5)]) (.agg #[.int .i64 (y 0), .int .i64 (y 1), .int .i64 (y 2), .int .i64 (y 3), .int .i64 (y 4), .int .i64 (y 5)])).run Try.prog w =
      .ok (eqTo x y 6) w := by
  have u2 := Try.underlying2
  have a2 := Try.isAgg2
  have z2 := Try.sizeOf2
  rw [show (10000 : Nat) = 9999 + 1 from rfl, Op.equalIn]
  simp only [Sem.run_bind, run_underlying Try.underlying137, Result.andThen_ok]
  simp only [Std.Legacy.Range.forIn_eq_forIn_range', Std.Legacy.Range.size, Nat.sub_zero, Nat.add_sub_cancel, Nat.div_one, List.range'_succ, List.range'_zero, List.forIn_cons, List.forIn_nil]
  go_simp
  by_cases h0 : x 0 = y 0
  · by_cases h1 : x 1 = y 1
    · by_cases h2 : x 2 = y 2
      · by_cases h3 : x 3 = y 3
        · by_cases h4 : x 4 = y 4
          · by_cases h5 : x 5 = y 5 <;> simp [eqTo, h0, h1, h2, h3, h4, h5]
          · simp [eqTo, h0, h1, h2, h3, h4]
        · simp [eqTo, h0, h1, h2, h3]
      · simp [eqTo, h0, h1, h2]
    · simp [eqTo, h0, h1]
  · simp [eqTo, h0]

theorem eqTo_clamp (z : Nat → Int) : ∀ n, eqTo z (fun j => clamp (z j)) n = allTo z n := by
  intro n
  induction n with
  | zero => rfl
  | succ n ih => simp only [eqTo, allTo, ih, clamp_eq]

theorem bcell {W w1 : World} (hb : Below W.heap.size W w1) : (∀ b o, b < W.heap.size → w1.cell? ⟨b, o, none⟩ = W.cell? ⟨b, o, none⟩) ∧ (∀ b o, b < W.heap.size → w1.frozen? ⟨b, o, none⟩ = W.frozen? ⟨b, o, none⟩) :=
  ⟨fun b o h => hb.cell (p := ⟨b, o, none⟩) h, fun b o h => hb.frozen (p := ⟨b, o, none⟩) h⟩

set_option maxHeartbeats 800000 in
theorem inRange_any (z : Nat → Int) (n : Int) (w : World) : Calls Try.prog 156 #[docV z n] w fun e w' =>
    e = .returned (.bool (allTo z 6)) ∧ Below w.heap.size w w' := by
  have he := fun wx => (eq6 z (fun j => clamp (z j)) wx)
  have hfd := fun wx => (fld6 (fun j => clamp (z j)) n wx)
  simp only [eqTo_clamp] at he
  go_enter Try.func156, Try.ntmps156
  go_wp2_with fail
  go_region_held3 (fun w' => w'.cell? ⟨w.heap.size, 0, none⟩ = some (.int .i64 (z 0)) ∧ w'.cell? ⟨w.heap.size, 1, none⟩ = some (.int .i64 (z 1)) ∧ w'.cell? ⟨w.heap.size, 2, none⟩ = some (.int .i64 (z 2)) ∧ w'.cell? ⟨w.heap.size, 3, none⟩ = some (.int .i64 (z 3)) ∧ w'.cell? ⟨w.heap.size, 4, none⟩ = some (.int .i64 (z 4)) ∧ w'.cell? ⟨w.heap.size, 5, none⟩ = some (.int .i64 (z 5)) ∧ w'.cell? ⟨w.heap.size, 6, none⟩ = some (.int .i64 n))
    (first | (simp [go_sem]; done) | (simp [go_sem, *]; done))
    (first
      | (go_at_call 180; refine (clamped_any z n _).mono ?_; rintro e w1 ⟨rfl, hb1⟩; obtain ⟨hc1, hf1⟩ := bcell hb1))
  have hb2 := (((Below.refl _ _).alloc (Nat.le_refl _) _).drew).trans (hb1.mono (by simp))
  clear hb1 hc1 hf1 hfd he
  go_wp2_with fail
  go_ret
  exact ⟨rfl, hb2⟩
end Go.Proofs.Ytmpgefpaoogoiaa
