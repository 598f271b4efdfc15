/- Documents and single nodes, on both sides. -/
import Derived.Test.YtmkipdhappikhaaGreatDoorDocA
import Derived.WalkLawsBesides
import Derived.Laws.CopyOwn
import Derived.Handy
import Derived.Deep.RegionHeld3
import Derived.Deep.RegionWith
import Derived.Test.YtmkipdhappikhaaGreatDoorK0
namespace Go.Proofs.YtmkipdhappikhaaGreatDoor

/-! ### DocB -/
section
set_option linter.unusedVariables false
set_option linter.unusedSimpArgs false
open Go.RowKit Go.Deep

/-- The numbers z and a size, as the program's value. -/
abbrev docV (z : Nat → Int) (n : Int) : Value := .agg #[.int .i64 (z 0), .int .i64 (z 1), .int .i64 (z 2), .int .i64 (z 3), .int .i64 (z 4), .int .i64 (z 5), .int .i64 n]
def docC (z : Nat → Int) (n : Int) : Array Value := #[.int .i64 (z 0), .int .i64 (z 1), .int .i64 (z 2), .int .i64 (z 3), .int .i64 (z 4), .int .i64 (z 5), .int .i64 n]
theorem docC_at (z : Nat → Int) (n : Int) (k : Nat) (hk : k < 6) : (docC z n)[k]? = some (.int .i64 (z k)) := by
  match k, hk with
  | 0, _ => rfl
  | 1, _ => rfl
  | 2, _ => rfl
  | 3, _ => rfl
  | 4, _ => rfl
  | 5, _ => rfl
theorem docC_set (z : Nat → Int) (n : Int) (k : Nat) (hk : k < 6) (x : Int) : (docC z n).setIfInBounds k (.int .i64 x) = docC (fun j => if j = k then x else z j) n := by
  match k, hk with
  | 0, _ => rfl
  | 1, _ => rfl
  | 2, _ => rfl
  | 3, _ => rfl
  | 4, _ => rfl
  | 5, _ => rfl
theorem docC_congr {z y : Nat → Int} {n : Int} (h : ∀ j, j < 6 → z j = y j) : docC z n = docC y n := by
  unfold docC
  rw [h 0 (by omega), h 1 (by omega), h 2 (by omega), h 3 (by omega), h 4 (by omega), h 5 (by omega)]
theorem docV_congr {z y : Nat → Int} {n : Int} (h : ∀ j, j < 6 → z j = y j) : docV z n = docV y n := by
  unfold docV
  rw [h 0 (by omega), h 1 (by omega), h 2 (by omega), h 3 (by omega), h 4 (by omega), h 5 (by omega)]
theorem idx6 (z : Nat → Int) (k : Nat) (hk : k < 6) (w : World) :
    (Instr.index 109 (.agg #[.int .i64 (z 0), .int .i64 (z 1), .int .i64 (z 2), .int .i64 (z 3), .int .i64 (z 4), .int .i64 (z 5)]) (.int .i64 (k : Int))).run Tryz.prog w = .ok (.int .i64 (z k)) w := by
  obtain rfl | rfl | rfl | rfl | rfl | rfl : k = 0 ∨ k = 1 ∨ k = 2 ∨ k = 3 ∨ k = 4 ∨ k = 5 := by omega
  all_goals kernel_rfl
theorem fld6 (z : Nat → Int) (n : Int) (w : World) :
    (Instr.field 111 (.agg #[.int .i64 (z 0), .int .i64 (z 1), .int .i64 (z 2), .int .i64 (z 3), .int .i64 (z 4), .int .i64 (z 5), .int .i64 n]) 0).run Tryz.prog w =
      .ok (.agg #[.int .i64 (z 0), .int .i64 (z 1), .int .i64 (z 2), .int .i64 (z 3), .int .i64 (z 4), .int .i64 (z 5)]) w := by kernel_rfl
theorem doc_cells {w : World} {b : Nat} {t : TypeId} {z : Nat → Int} {n : Int} (h : Blk w b t (docC z n)) :
    w.cell? ⟨b, 0, none⟩ = some (.int .i64 (z 0)) ∧ w.cell? ⟨b, 1, none⟩ = some (.int .i64 (z 1)) ∧ w.cell? ⟨b, 2, none⟩ = some (.int .i64 (z 2)) ∧ w.cell? ⟨b, 3, none⟩ = some (.int .i64 (z 3)) ∧
    w.cell? ⟨b, 4, none⟩ = some (.int .i64 (z 4)) ∧ w.cell? ⟨b, 5, none⟩ = some (.int .i64 (z 5)) ∧ w.cell? ⟨b, 6, none⟩ = some (.int .i64 n) :=
  ⟨h.cell 0, h.cell 1, h.cell 2, h.cell 3, h.cell 4, h.cell 5, h.cell 6⟩

/-- What is clamped of the first k. -/
def mix (z : Nat → Int) (k : Nat) : Nat → Int := fun j => if j < k then clamp (z j) else z j

theorem walk_clamp (x : Int) : (if 1000000 < (if x < -1000000 then -1000000 else x) then 1000000 else (if x < -1000000 then -1000000 else x)) = min (max x (-1000000)) 1000000 := by
  split <;> split <;> omega
theorem mix_skip {z : Nat → Int} {k : Nat} (h : (z k != 9999999) = false) : ∀ j, j < 6 → mix z k j = mix z (k + 1) j := by
  intro j _
  unfold mix clamp
  have hk : z k = 9999999 := by simpa using h
  by_cases e : j = k
  · subst e; rw [if_neg (by omega), if_pos (by omega), if_pos hk]
  · by_cases h' : j < k
    · rw [if_pos h', if_pos (show j < k + 1 by omega)]
    · rw [if_neg h', if_neg (show ¬ j < k + 1 by omega)]
theorem mix_put {z : Nat → Int} {k : Nat} (h : (z k != 9999999) = true) : ∀ j, j < 6 → (fun j => if j = k then min (max (z k) (-1000000)) 1000000 else mix z k j) j = mix z (k + 1) j := by
  intro j _
  have hk : ¬ z k = 9999999 := by simpa using h
  show (if j = k then _ else mix z k j) = _
  unfold mix clamp
  by_cases e : j = k
  · subst e; rw [if_pos rfl, if_pos (by omega), if_neg hk]
  · rw [if_neg e]
    by_cases h' : j < k
    · rw [if_pos h', if_pos (show j < k + 1 by omega)]
    · rw [if_neg h', if_neg (show ¬ j < k + 1 by omega)]

set_option maxHeartbeats 800000 in
theorem clamped_any (z : Nat → Int) (n : Int) (w : World) : Calls Tryz.prog 128 #[docV z n] w fun e w' =>
    e = .returned (docV (fun j => clamp (z j)) n) ∧ Below w.heap.size w w' := by
  go_enter Tryz.func128, Tryz.ntmps128
  go_wp2_with fail
  go_loopw [7] (fun i wr => ∃ k : Nat, k ≤ 6 ∧ i = .int .i64 k ∧ Blk wr w.heap.size 111 (docC (mix z k) n) ∧ Blk wr (w.heap.size + 1) 111 (docC (fun _ => 0) 0) ∧ Below w.heap.size w wr)
    (fun i _ => 6 - (intOf i).toNat)
  case atStart => exact ⟨0, by omega, rfl, (Blk.new _ _ _).alloc _, Blk.new2 _ _ _ _, ((Below.refl _ _).alloc (Nat.le_refl _) _).alloc (by simp) _⟩
  case round =>
    obtain ⟨k, hk, rfl, hB, hR, hbl⟩ := hrel
    by_cases hlt : k < 6
    · have hi := idx6 z k hlt
      have hc : wr.cell? ⟨w.heap.size, k, none⟩ = some (.int .i64 (mix z k k)) := by rw [hB.cell, docC_at _ _ _ hlt]
      have hf := hB.frozen k
      have hi1 : (k : Int) < 6 := by omega
      cases hm : (z k != 9999999)
      · go_wp2_with fail
        go_roundw
        case rel => exact ⟨k + 1, by omega, by go_num, (docC_congr (mix_skip hm)) ▸ hB, hR, hbl⟩
        case measure => simp [intOf]; omega
      · go_wp2_with fail
        go_roundw
        case rel =>
          refine ⟨k + 1, by omega, by go_num, ?_, hR.far (p := ⟨_, _, _⟩) (by simp) _, hbl.setCell (Nat.le_refl _) _⟩
          rw [walk_clamp]
          have := hB.set_ k (.int .i64 (min (max (z k) (-1000000)) 1000000))
          rw [docC_set _ _ _ hlt] at this
          exact (docC_congr (mix_put hm)) ▸ this
        case measure => simp [intOf]; omega
    · obtain ⟨c0, c1, c2, c3, c4, c5, c6⟩ := doc_cells hB
      obtain ⟨d0, d1, d2, d3, d4, d5, d6⟩ := doc_cells hR
      have f0 := hR.frozen 0; have f1 := hR.frozen 1; have f2 := hR.frozen 2; have f3 := hR.frozen 3; have f4 := hR.frozen 4; have f5 := hR.frozen 5; have f6 := hR.frozen 6
      go_wp2_with fail
      have e : k = 6 := by omega
      have hR7 := ((((((hR.set_ 0 (.int .i64 (mix z k 0))).set_ 1 (.int .i64 (mix z k 1))).set_ 2 (.int .i64 (mix z k 2))).set_ 3 (.int .i64 (mix z k 3))).set_ 4 (.int .i64 (mix z k 4))).set_ 5 (.int .i64 (mix z k 5))).set_ 6 (.int .i64 n)
      have hb7 := ((((((hbl.setCell (p := ⟨w.heap.size + 1, 0, none⟩) (by simp) (.int .i64 (mix z k 0))).setCell (p := ⟨w.heap.size + 1, 1, none⟩) (by simp) (.int .i64 (mix z k 1))).setCell (p := ⟨w.heap.size + 1, 2, none⟩) (by simp) (.int .i64 (mix z k 2))).setCell (p := ⟨w.heap.size + 1, 3, none⟩) (by simp) (.int .i64 (mix z k 3))).setCell (p := ⟨w.heap.size + 1, 4, none⟩) (by simp) (.int .i64 (mix z k 4))).setCell (p := ⟨w.heap.size + 1, 5, none⟩) (by simp) (.int .i64 (mix z k 5))).setCell (p := ⟨w.heap.size + 1, 6, none⟩) (by simp) (.int .i64 n)
      revert hR7 hb7
      generalize (((((((wr.setCell ⟨w.heap.size + 1, 0, none⟩ (.int .i64 (mix z k 0))).setCell ⟨w.heap.size + 1, 1, none⟩ (.int .i64 (mix z k 1))).setCell ⟨w.heap.size + 1, 2, none⟩ (.int .i64 (mix z k 2))).setCell ⟨w.heap.size + 1, 3, none⟩ (.int .i64 (mix z k 3))).setCell ⟨w.heap.size + 1, 4, none⟩ (.int .i64 (mix z k 4))).setCell ⟨w.heap.size + 1, 5, none⟩ (.int .i64 (mix z k 5))).setCell ⟨w.heap.size + 1, 6, none⟩ (.int .i64 n)) = W7
      intro hR7 hb7
      have hR8 : Blk W7 (w.heap.size + 1) 111 (docC (mix z k) n) := hR7
      obtain ⟨e0, e1, e2, e3, e4, e5, e6⟩ := doc_cells hR8
      refine bodyPost_ret (v := docV (mix z k) n) (by simp [results, Tryz.results128, go_sem, e0, e1, e2, e3, e4, e5, e6]) rfl ⟨?_, hb7⟩
      subst e
      show Ending.returned (docV (mix z 6) n) = Ending.returned (docV (fun j => clamp (z j)) n)
      rw [docV_congr (z := mix z 6) (y := fun j => clamp (z j)) fun j hj => by unfold mix; rw [if_pos hj]]

theorem eq6 (x y : Nat → Int) (w : World) :
    (Op.equalIn 10000 109 (.agg #[.int .i64 (x 0), .int .i64 (x 1), .int .i64 (x 2), .int .i64 (x 3), .int .i64 (x 4), .int .i64 (x 5)]) (.agg #[.int .i64 (y 0), .int .i64 (y 1), .int .i64 (y 2), .int .i64 (y 3), .int .i64 (y 4), .int .i64 (y 5)])).run Tryz.prog w =
      .ok (eqTo x y 6) w := by
  have u2 := Tryz.underlying2
  have a2 := Tryz.isAgg2
  have z2 := Tryz.sizeOf2
  rw [show (10000 : Nat) = 9999 + 1 from rfl, Op.equalIn]
  simp only [Sem.run_bind, run_underlying Tryz.underlying109, Result.andThen_ok]
  simp only [Std.Legacy.Range.forIn_eq_forIn_range', Std.Legacy.Range.size, Nat.sub_zero, Nat.add_sub_cancel, Nat.div_one, List.range'_succ, List.range'_zero, List.forIn_cons, List.forIn_nil]
  go_simp
  by_cases h0 : x 0 = y 0
  · by_cases h1 : x 1 = y 1
    · by_cases h2 : x 2 = y 2
      · by_cases h3 : x 3 = y 3
        · by_cases h4 : x 4 = y 4
          · by_cases h5 : x 5 = y 5 <;> simp [eqTo, h0, h1, h2, h3, h4, h5]
          · simp [eqTo, h0, h1, h2, h3, h4]
        · simp [eqTo, h0, h1, h2, h3]
      · simp [eqTo, h0, h1, h2]
    · simp [eqTo, h0, h1]
  · simp [eqTo, h0]

theorem eqTo_clamp (z : Nat → Int) : ∀ n, eqTo z (fun j => clamp (z j)) n = allTo z n := by
  intro n
  induction n with
  | zero => rfl
  | succ n ih => simp only [eqTo, allTo, ih, clamp_eq]

theorem bcell {W w1 : World} (hb : Below W.heap.size W w1) : (∀ b o, b < W.heap.size → w1.cell? ⟨b, o, none⟩ = W.cell? ⟨b, o, none⟩) ∧ (∀ b o, b < W.heap.size → w1.frozen? ⟨b, o, none⟩ = W.frozen? ⟨b, o, none⟩) :=
  ⟨fun b o h => hb.cell (p := ⟨b, o, none⟩) h, fun b o h => hb.frozen (p := ⟨b, o, none⟩) h⟩

set_option maxHeartbeats 800000 in
theorem inRange_any (z : Nat → Int) (n : Int) (w : World) : Calls Tryz.prog 107 #[docV z n] w fun e w' =>
    e = .returned (.bool (allTo z 6)) ∧ Below w.heap.size w w' := by
  have he := fun wx => (eq6 z (fun j => clamp (z j)) wx)
  have hfd := fun wx => (fld6 (fun j => clamp (z j)) n wx)
  simp only [eqTo_clamp] at he
  go_enter Tryz.func107, Tryz.ntmps107
  go_wp2_with fail
  go_region_held3 (fun w' => w'.cell? ⟨w.heap.size, 0, none⟩ = some (.int .i64 (z 0)) ∧ w'.cell? ⟨w.heap.size, 1, none⟩ = some (.int .i64 (z 1)) ∧ w'.cell? ⟨w.heap.size, 2, none⟩ = some (.int .i64 (z 2)) ∧ w'.cell? ⟨w.heap.size, 3, none⟩ = some (.int .i64 (z 3)) ∧ w'.cell? ⟨w.heap.size, 4, none⟩ = some (.int .i64 (z 4)) ∧ w'.cell? ⟨w.heap.size, 5, none⟩ = some (.int .i64 (z 5)) ∧ w'.cell? ⟨w.heap.size, 6, none⟩ = some (.int .i64 n))
    (first | (simp [go_sem]; done) | (simp [go_sem, *]; done))
    (first
      | (go_at_call 128; refine (clamped_any z n _).mono ?_; rintro e w1 ⟨rfl, hb1⟩; obtain ⟨hc1, hf1⟩ := bcell hb1))
  have hb2 := (((Below.refl _ _).alloc (Nat.le_refl _) _).drew).trans (hb1.mono (by simp))
  clear hb1 hc1 hf1 hfd he
  go_wp2_with fail
  go_ret
  exact ⟨rfl, hb2⟩
end

/-! ### DocC -/
section
set_option linter.unusedVariables false
set_option linter.unusedSimpArgs false
open Go.RowKit Go.Deep

def pad (n : Nat) (z : Nat → Int) : Nat → Int := fun j => if j < n then z j else 0
def nul : Nat → Int := fun _ => 0
theorem pad_all (n : Nat) (z : Nat → Int) (hn : n ≤ 6) : allTo (pad n z) 6 = allTo z n := by
  cases h : allTo z n with
  | true =>
    refine allTo_of fun k _ => ?_
    unfold pad
    split
    · rename_i hk; exact allTo_true h k hk
    · rfl
  | false =>
    cases h' : allTo (pad n z) 6 with
    | false => rfl
    | true =>
      rw [allTo_of fun k hk => by have := allTo_true h' k (by omega); unfold pad at this; rwa [if_pos hk] at this] at h
      cases h
def numsOf (n : Nat) (z : Nat → Int) : List Value := (List.range n).map fun j => .int .i64 (z j)
theorem numsOf_len (n : Nat) (z : Nat → Int) : (numsOf n z).length = n := by simp [numsOf]
theorem numsOf_at {n : Nat} {z : Nat → Int} {j : Nat} {u : Value} (h : (numsOf n z)[j]? = some u) : j < n ∧ u = .int .i64 (z j) := by
  unfold numsOf at h
  rw [List.getElem?_map, Option.map_eq_some_iff] at h
  obtain ⟨a, ha, rfl⟩ := h
  obtain ⟨hlt, rfl⟩ := List.getElem?_eq_some_iff.1 ha
  simp at hlt
  simp [hlt]
theorem numsOf_one (n : Nat) (z : Nat → Int) : ∀ u ∈ numsOf n z, u.oneCell' = true := by
  intro u hu
  obtain ⟨_, _, rfl⟩ := List.mem_map.1 hu
  rfl
theorem splice_doc (n : Nat) (z : Nat → Int) (hn : n ≤ 6) (m : Int) : (splice (docC nul m).toList 0 (numsOf n z)).toArray = docC (pad n z) m := by
  obtain rfl | rfl | rfl | rfl | rfl | rfl | rfl : n = 0 ∨ n = 1 ∨ n = 2 ∨ n = 3 ∨ n = 4 ∨ n = 5 ∨ n = 6 := by omega
  all_goals rfl

theorem docOf_out (A : Option Addr) (n cap : Nat) (w : World) (hn : n < 1 ∨ 6 < n) (hm : n ≤ 4194304) :
    Calls Tryz.prog 80 #[.slice A n cap] w fun e w' => e = .returned (.tuple #[docV nul 0, .bool false]) ∧ Below w.heap.size w w' := by
  rcases hn with h | h
  · have h1 : (n : Int) < 1 := by omega
    go_enter Tryz.func80, Tryz.ntmps80
    go_wp2_with fail
    exact bodyPost_ret (v := .tuple #[docV nul 0, .bool false]) (by simp [results, Tryz.results80, go_sem, nul]) rfl ⟨rfl, (Below.refl _ _).alloc (Nat.le_refl _) _⟩
  · have h1 : ¬ (n : Int) < 1 := by omega
    have h2 : (6 : Int) < (n : Int) := by omega
    go_enter Tryz.func80, Tryz.ntmps80
    go_wp2_with fail
    exact bodyPost_ret (v := .tuple #[docV nul 0, .bool false]) (by simp [results, Tryz.results80, go_sem, nul]) rfl ⟨rfl, (Below.refl _ _).alloc (Nat.le_refl _) _⟩

theorem size_int : (Tryz.prog.info? 2).map (·.size) = some 1 := by kernel_rfl

theorem nums_src {w W : World} {B b off n : Nat} {z : Nat → Int} (hC : Hid (∀ i, i < n → w.cell? ⟨b, off + i, none⟩ = some (.int .i64 (z i)))) (hW : Below B w W) (hb : b < B) :
    ∀ j v, (numsOf n z)[j]? = some v → W.cell? (Addr.add ⟨b, off, none⟩ j) = some v := by
  intro j v hv
  obtain ⟨hj, rfl⟩ := numsOf_at hv
  rw [Addr.add_lit, hW.cell hb]
  exact hC.out j hj

theorem heap_new2 (w : World) (o : Obj) (t : TypeId) (cs : Array Value) : ((w.alloc o).alloc (.cells cs t)).heap[w.heap.size + 1]? = some (.cells cs t (0, 0)) := Blk.new2 w o t cs
/-- What stands in a block of seven cells behind seven stores. -/
def put7 (w : World) (b : Nat) (z : Nat → Int) (n : Int) : World :=
  ((((((w.setCell ⟨b, 0, none⟩ (.int .i64 (z 0))).setCell ⟨b, 1, none⟩ (.int .i64 (z 1))).setCell ⟨b, 2, none⟩ (.int .i64 (z 2))).setCell ⟨b, 3, none⟩ (.int .i64 (z 3))).setCell ⟨b, 4, none⟩ (.int .i64 (z 4))).setCell ⟨b, 5, none⟩ (.int .i64 (z 5))).setCell ⟨b, 6, none⟩ (.int .i64 n)
theorem put7_blk {w : World} {b : Nat} {t : TypeId} {y : Nat → Int} {m : Int} (h : Blk w b t (docC y m)) (z : Nat → Int) (n : Int) : Blk (put7 w b z n) b t (docC z n) := by
  have h7 := ((((((h.set_ 0 (.int .i64 (z 0))).set_ 1 (.int .i64 (z 1))).set_ 2 (.int .i64 (z 2))).set_ 3 (.int .i64 (z 3))).set_ 4 (.int .i64 (z 4))).set_ 5 (.int .i64 (z 5))).set_ 6 (.int .i64 n)
  unfold put7
  have e : (((((((docC y m).setIfInBounds 0 (.int .i64 (z 0))).setIfInBounds 1 (.int .i64 (z 1))).setIfInBounds 2 (.int .i64 (z 2))).setIfInBounds 3 (.int .i64 (z 3))).setIfInBounds 4 (.int .i64 (z 4))).setIfInBounds 5 (.int .i64 (z 5))).setIfInBounds 6 (.int .i64 n) = docC z n := by simp [docC]
  rw [e] at h7
  exact h7
theorem put7_below {B : Nat} {a w : World} {b : Nat} (h : Below B a w) (hb : B ≤ b) (z : Nat → Int) (n : Int) : Below B a (put7 w b z n) := by
  have h0 := h.setCell (p := ⟨b, 0, none⟩) hb (.int .i64 (z 0))
  have h1 := h0.setCell (p := ⟨b, 1, none⟩) hb (.int .i64 (z 1))
  have h2 := h1.setCell (p := ⟨b, 2, none⟩) hb (.int .i64 (z 2))
  have h3 := h2.setCell (p := ⟨b, 3, none⟩) hb (.int .i64 (z 3))
  have h4 := h3.setCell (p := ⟨b, 4, none⟩) hb (.int .i64 (z 4))
  have h5 := h4.setCell (p := ⟨b, 5, none⟩) hb (.int .i64 (z 5))
  exact h5.setCell (p := ⟨b, 6, none⟩) hb (.int .i64 n)

/-- The result of docOf, read out of its variable. -/
theorem docOf_res {W : World} {b : Nat} {z : Nat → Int} {n : Int} {tmps : Array Value} {ok : Bool} (hB : Blk W b 111 (docC z n)) (h2 : tmps[2]?.getD undef = .pointer (some ⟨b, 0, none⟩)) (h3 : tmps[3]?.getD undef = .bool ok) :
    (results Tryz.f80 tmps).run Tryz.prog W = .ok (.tuple #[docV z n, .bool ok]) W := by
  obtain ⟨e0, e1, e2, e3, e4, e5, e6⟩ := doc_cells hB
  simp [results, Tryz.results80, go_sem, e0, e1, e2, e3, e4, e5, e6, h2, h3]

theorem inRange_is (z : Nat → Int) (n : Int) (r : Bool) (hr : allTo z 6 = r) (w : World) : Calls Tryz.prog 107 #[docV z n] w fun e w' =>
    e = .returned (.bool r) ∧ Below w.heap.size w w' := by
  subst hr
  exact inRange_any z n w
theorem doc_frozen {w : World} {b : Nat} {t : TypeId} {cs : Array Value} (h : Blk w b t cs) :
    w.frozen? ⟨b, 0, none⟩ = false ∧ w.frozen? ⟨b, 1, none⟩ = false ∧ w.frozen? ⟨b, 2, none⟩ = false ∧ w.frozen? ⟨b, 3, none⟩ = false ∧ w.frozen? ⟨b, 4, none⟩ = false ∧ w.frozen? ⟨b, 5, none⟩ = false ∧ w.frozen? ⟨b, 6, none⟩ = false :=
  ⟨h.frozen 0, h.frozen 1, h.frozen 2, h.frozen 3, h.frozen 4, h.frozen 5, h.frozen 6⟩

set_option maxHeartbeats 800000 in
theorem docOf_in (A : Option Addr) (n cap : Nat) (z : Nat → Int) (w : World) (h : Rd w w.heap.size A n z) (h1 : 1 ≤ n) (h6 : n ≤ 6) (hall : allTo z n = true) :
    Calls Tryz.prog 80 #[.slice A n cap] w fun e w' => e = .returned (.tuple #[docV (pad n z) n, .bool true]) ∧ Below w.heap.size w w' := by
  obtain ⟨b, off, rfl, hb, hc⟩ := h (by omega)
  have hC := hid hc
  clear hc
  have hp : Hid (allTo (pad n z) 6 = true) := (pad_all n z h6).trans hall
  clear hall
  have g1 : ¬ (n : Int) < 1 := by omega
  have g2 : ¬ (6 : Int) < (n : Int) := by omega
  go_enter Tryz.func80, Tryz.ntmps80
  go_wp2_with (with_reducible refine wpList_copy_splice rfl (.tmp 18) (.tmp 19) 67 67 rfl 2 Tryz.underlying67 size_int _ _ _ _ _ _ rfl rfl (w.heap.size + 1) 0 [.int .i64 0, .int .i64 0, .int .i64 0, .int .i64 0, .int .i64 0, .int .i64 0, .int .i64 n] 111 (heap_new2 _ _ _ _) (numsOf n z) (by rw [numsOf_len]; exact (Nat.min_eq_left h6).symm) (fun _ => ⟨rfl, _, rfl, nums_src hC (((Below.refl _ _).alloc (Nat.le_refl _) _).alloc (by simp) _) hb⟩) (by rw [numsOf_len]; simp; omega) (numsOf_one n z) (w.heap.size + 1) _ (Below.refl _ _) (Nat.le_refl _) ?_)
  intro w1 hd hb1
  have hD : Blk w1 (w.heap.size + 1) 111 (docC (pad n z) n) := by
    rw [← splice_doc n z h6]
    exact hd.out
  have hR : Blk w1 w.heap.size 111 (docC nul 0) := Blk.below ((Blk.new w _ _).alloc _) hb1 (by simp)
  have hb2 : Below w.heap.size w w1 := (((Below.refl _ _).alloc (Nat.le_refl _) _).alloc (by simp) _).trans (hb1.mono (by simp))
  clear hb1 hd
  have hlt : w.heap.size + 1 < w1.heap.size := hD.lt
  obtain ⟨d0, d1, d2, d3, d4, d5, d6⟩ := doc_cells hD
  go_wp2_with (go_at_call 107; refine (inRange_is (pad n z) n true hp.out _).mono ?_; rintro e w2 ⟨rfl, hb3⟩; have hD2 := hD.below hb3 hD.lt; have hR2 := hR.below hb3 hR.lt; have hb4 := hb2.trans (hb3.mono hb2.size); clear hb3 hb2 d0 d1 d2 d3 d4 d5 d6; obtain ⟨d0, d1, d2, d3, d4, d5, d6⟩ := doc_cells hD2; obtain ⟨r0, r1, r2, r3, r4, r5, r6⟩ := doc_cells hR2; obtain ⟨f0, f1, f2, f3, f4, f5, f6⟩ := doc_frozen hR2)
  have hF := put7_blk hR2 (pad n z) n
  have hG := put7_below hb4 (Nat.le_refl _) (pad n z) n
  exact bodyPost_ret (docOf_res hF rfl rfl) rfl ⟨rfl, hG⟩
end

/-! ### DocD -/
section
set_option linter.unusedVariables false
set_option linter.unusedSimpArgs false
open Go.RowKit Go.Deep

set_option maxHeartbeats 800000 in
theorem docOf_bad (A : Option Addr) (n cap : Nat) (z : Nat → Int) (w : World) (h : Rd w w.heap.size A n z) (h1 : 1 ≤ n) (h6 : n ≤ 6) (hall : allTo z n = false) :
    Calls Tryz.prog 80 #[.slice A n cap] w fun e w' => e = .returned (.tuple #[docV nul 0, .bool false]) ∧ Below w.heap.size w w' := by
  obtain ⟨b, off, rfl, hb, hc⟩ := h (by omega)
  have hC := hid hc
  clear hc
  have hp : Hid (allTo (pad n z) 6 = false) := (pad_all n z h6).trans hall
  clear hall
  have g1 : ¬ (n : Int) < 1 := by omega
  have g2 : ¬ (6 : Int) < (n : Int) := by omega
  go_enter Tryz.func80, Tryz.ntmps80
  go_wp2_with (with_reducible refine wpList_copy_splice rfl (.tmp 18) (.tmp 19) 67 67 rfl 2 Tryz.underlying67 size_int _ _ _ _ _ _ rfl rfl (w.heap.size + 1) 0 [.int .i64 0, .int .i64 0, .int .i64 0, .int .i64 0, .int .i64 0, .int .i64 0, .int .i64 n] 111 (heap_new2 _ _ _ _) (numsOf n z) (by rw [numsOf_len]; exact (Nat.min_eq_left h6).symm) (fun _ => ⟨rfl, _, rfl, nums_src hC (((Below.refl _ _).alloc (Nat.le_refl _) _).alloc (by simp) _) hb⟩) (by rw [numsOf_len]; simp; omega) (numsOf_one n z) (w.heap.size + 1) _ (Below.refl _ _) (Nat.le_refl _) ?_)
  intro w1 hd hb1
  have hD : Blk w1 (w.heap.size + 1) 111 (docC (pad n z) n) := by
    rw [← splice_doc n z h6]
    exact hd.out
  have hR : Blk w1 w.heap.size 111 (docC nul 0) := Blk.below ((Blk.new w _ _).alloc _) hb1 (by simp)
  have hb2 : Below w.heap.size w w1 := (((Below.refl _ _).alloc (Nat.le_refl _) _).alloc (by simp) _).trans (hb1.mono (by simp))
  clear hb1 hd
  have hlt : w.heap.size + 1 < w1.heap.size := hD.lt
  obtain ⟨d0, d1, d2, d3, d4, d5, d6⟩ := doc_cells hD
  go_wp2_with (go_at_call 107; refine (inRange_is (pad n z) n false hp.out _).mono ?_; rintro e w2 ⟨rfl, hb3⟩; have hR2 := hR.below hb3 hR.lt; have hb4 := hb2.trans (hb3.mono hb2.size); clear hb3 hb2 d0 d1 d2 d3 d4 d5 d6; obtain ⟨r0, r1, r2, r3, r4, r5, r6⟩ := doc_cells hR2; obtain ⟨f0, f1, f2, f3, f4, f5, f6⟩ := doc_frozen hR2)
  have hF := put7_blk hR2 nul 0
  have hG := put7_below hb4 (Nat.le_refl _) nul 0
  exact bodyPost_ret (docOf_res hF rfl rfl) rfl ⟨rfl, hG⟩

theorem docOf_yes (A : Option Addr) (n cap : Nat) (z : Nat → Int) (w : World) (h : Rd w w.heap.size A n z) (hd : docB n z = true) :
    Calls Tryz.prog 80 #[.slice A n cap] w fun e w' => e = .returned (.tuple #[docV (pad n z) n, .bool true]) ∧ Below w.heap.size w w' := by
  simp only [docB, Bool.and_eq_true, decide_eq_true_eq] at hd
  exact docOf_in A n cap z w h hd.1.1 hd.1.2 hd.2
theorem docOf_nope (A : Option Addr) (n cap : Nat) (z : Nat → Int) (w : World) (h : Rd w w.heap.size A n z) (hm : n ≤ 4194304) (hd : docB n z = false) :
    Calls Tryz.prog 80 #[.slice A n cap] w fun e w' => e = .returned (.tuple #[docV nul 0, .bool false]) ∧ Below w.heap.size w w' := by
  by_cases h1 : n < 1
  · exact docOf_out A n cap w (.inl h1) hm
  · by_cases h6 : 6 < n
    · exact docOf_out A n cap w (.inr h6) hm
    · refine docOf_bad A n cap z w h (by omega) (by omega) ?_
      have e1 : decide (1 ≤ n) = true := by simp; omega
      have e2 : decide (n ≤ 6) = true := by simp; omega
      simpa [docB, e1, e2] using hd

theorem iDocOk_any (A : Option Addr) (n cap : Nat) (z : Nat → Int) (w : World) (h : Rd w w.heap.size A n z) (hm : n ≤ 4194304) :
    Calls Tryz.prog 90 #[.slice A n cap] w fun e w' => e = .returned (.bool (docB n z)) ∧ Below w.heap.size w w' := by
  cases hd : docB n z
  · have H := hid hd
    clear hd
    go_enter Tryz.func90, Tryz.ntmps90
    go_wp2_with (go_at_call 80; refine (docOf_nope _ _ _ z _ h hm H.out).mono ?_; rintro e w1 ⟨rfl, hb⟩)
    go_ret
    exact ⟨rfl, hb.alloc hb.size _⟩
  · have H := hid hd
    clear hd
    go_enter Tryz.func90, Tryz.ntmps90
    go_wp2_with (go_at_call 80; refine (docOf_yes _ _ _ z _ h H.out).mono ?_; rintro e w1 ⟨rfl, hb⟩)
    go_ret
    exact ⟨rfl, hb.alloc hb.size _⟩

theorem goneTo_pad (n : Nat) (z : Nat → Int) (hn : n ≤ 6) : goneTo (pad n z) 6 = goneTo z n := by
  have h1 : ∀ m, m ≤ n → goneTo (pad n z) m = goneTo z m := by
    intro m
    induction m with
    | zero => intro _; rfl
    | succ m ih => intro hm; simp only [goneTo, ih (by omega)]; unfold pad; rw [if_pos (show m < n by omega)]
  have h2 : ∀ d, goneTo (pad n z) (n + d) = goneTo z n := by
    intro d
    induction d with
    | zero => exact h1 n (Nat.le_refl _)
    | succ d ih =>
      rw [show n + (d + 1) = (n + d) + 1 from rfl]
      simp only [goneTo, ih]
      unfold pad
      rw [if_neg (show ¬ n + d < n by omega)]
      rfl
  have := h2 (6 - n)
  rwa [show n + (6 - n) = 6 by omega] at this

end

/-! ### DocE -/
section
set_option linter.unusedVariables false
set_option linter.unusedSimpArgs false
open Go.RowKit Go.Deep

/-! ### the marks -/
/-! ### list -/
theorem splice_nums (n : Nat) (z : Nat → Int) (cur : List Value) (hc : cur.length = n) : (splice cur 0 (numsOf n z)).toArray = (numsOf n z).toArray := by
  unfold splice
  rw [List.drop_of_length_le (by rw [numsOf_len]; omega)]
  simp
theorem row_nums {w : World} {t : TypeId} {b n : Nat} {z : Nat → Int} (h : Blk w b t (numsOf n z).toArray) : Row w t b n z :=
  ⟨_, h, by simp [numsOf_len], fun i hi => by simp [numsOf, hi]⟩

theorem heap_new2L (w : World) (o : Obj) (t : TypeId) (cs : Array Value) : ((w.alloc o).alloc (.cells cs t)).heap[w.heap.size + 1]? = some (.cells cs.toList.toArray t (0, 0)) := Blk.new2 w o t cs
theorem doc_src {W : World} {B n : Nat} {t : TypeId} {z : Nat → Int} {m : Int} (hn : n ≤ 6) (hW : Blk W B t (docC z m)) :
    ∀ j v, (numsOf n z)[j]? = some v → W.cell? (Addr.add ⟨B, 0, none⟩ j) = some v := by
  intro j v hv
  obtain ⟨hj, rfl⟩ := numsOf_at hv
  rw [Addr.add_lit, Nat.zero_add, hW.cell, docC_at _ _ _ (by omega)]
theorem made_len (v : Value) (n : Nat) : (madeCells #[v] n).toList.length = n := by simp [madeCells]

end

/-! ### DocF -/
section
set_option linter.unusedVariables false
set_option linter.unusedSimpArgs false
open Go.RowKit Go.Deep

def upd (z : Nat → Int) (i : Nat) (x : Int) : Nat → Int := fun j => if j = i then x else z j
theorem upd_all_true {n i : Nat} {z : Nat → Int} {x : Int} (hd : docB n z = true) (hx : may x = true) : allTo (upd (pad n z) i x) 6 = true := by
  have h := docB_true hd
  refine allTo_of fun k _ => ?_
  unfold upd pad
  split
  · exact hx
  · split
    · rename_i hk; exact h.2.2 k hk
    · rfl
theorem upd_all_false {n i : Nat} {z : Nat → Int} {x : Int} (hi : i < 6) (hx : may x = false) : allTo (upd (pad n z) i x) 6 = false :=
  allTo_false hi (by unfold upd; rw [if_pos rfl]; exact hx)

/-- Does DocWith accept? -/
def withB (n : Nat) (z : Nat → Int) (i x : Int) : Bool := docB n z && ((decide (0 ≤ i) && decide (i < n)) && may x)

/-! ### the other side -/
theorem own_row {w : World} {base : Nat} {e : TypeId} {v : Value} {n : Nat} {z : Nat → Int} (h : w.ownsRow base e 1 v n (numsOf n z)) (hn : 0 < n) :
    ∃ g cap, v = .slice (some ⟨g, 0, none⟩) n cap ∧ base ≤ g ∧ Row w e g n z := by
  rcases h.2 with ⟨_, h0⟩ | ⟨g, cap, cur, rfl, hb, hg, hc, hm, hs, ht⟩
  · omega
  · refine ⟨g, cap, rfl, hb, cur, hg, by omega, fun i hi => ?_⟩
    have h1 : (cur.toList.take (n * 1))[i]? = (numsOf n z)[i]? := by rw [ht]
    rw [List.getElem?_take, if_pos (by omega), Array.getElem?_toList] at h1
    rw [h1]
    simp [numsOf, hi]

end

/-! ### TreeA -/
section
set_option linter.unusedVariables false
set_option linter.unusedSimpArgs false
open Go.RowKit Go.Deep

/-- A node as the program's value. -/
abbrev ndV (d : Nd) : Value := .agg #[.int .i64 d.feat, .int .i64 d.cut, .int .i64 d.left, .int .i64 d.right, .bool d.miss, .int .i64 d.value]

@[go_sem] theorem buildNode (x : Int) (w : World) : (Instr.build 58 #[(5, .int .i64 x)]).run Tryz.prog w = .ok (.agg #[.int .i64 0, .int .i64 0, .int .i64 0, .int .i64 0, .bool false, .int .i64 x]) w := run_build w 58 _ _ (by kernel_rfl)
theorem eqNd (a b : Nd) (w : World) : (Op.equalIn 10000 58 (.agg #[.int .i64 a.feat, .int .i64 a.cut, .int .i64 a.left, .int .i64 a.right, .bool a.miss, .int .i64 a.value]) (.agg #[.int .i64 b.feat, .int .i64 b.cut, .int .i64 b.left, .int .i64 b.right, .bool b.miss, .int .i64 b.value])).run Tryz.prog w =
    .ok (a.feat == b.feat && (a.cut == b.cut && (a.left == b.left && (a.right == b.right && (a.miss == b.miss && a.value == b.value))))) w := by
  obtain ⟨a0, a1, a2, a3, a4, a5⟩ := a
  obtain ⟨b0, b1, b2, b3, b4, b5⟩ := b
  have u2 := Tryz.underlying2
  have p2 := Tryz.isAgg2
  have z2 := Tryz.sizeOf2
  have u4 := Tryz.underlying4
  have p4 := Tryz.isAgg4
  have z4 := Tryz.sizeOf4
  have hS : Tryz.prog.underlying 58 = some (.struct (Tryz.prog.fieldsOf 58)) := by kernel_rfl
  have hp : Tryz.prog.stoodInHeld 58 = false := by kernel_rfl
  rw [show (10000 : Nat) = 9999 + 1 from rfl, run_equalIn_agg w 9999 58 _ _ hS hp]
  simp only [Program.fieldsOf, Tryz.underlying58]
  go_simp
  by_cases h1 : a0 = b0
  · by_cases h2 : a1 = b1
    · by_cases h3 : a2 = b2
      · by_cases h4 : a3 = b3
        · by_cases h5 : a4 = b4
          · by_cases h6 : a5 = b5 <;> simp [h1, h2, h3, h4, h5, h6]
          · simp [h1, h2, h3, h4, h5]
        · simp [h1, h2, h3, h4]
      · simp [h1, h2, h3]
    · simp [h1, h2]
  · simp [h1]

theorem isLeaf_any (d : Nd) (w : World) : Calls Tryz.prog 95 #[ndV d] w fun e w' => e = .returned (.bool (d.left == 0)) ∧ Below w.heap.size w w' := by
  go_enter Tryz.func95, Tryz.ntmps95
  go_wp2_with fail
  go_ret
  exact ⟨rfl, (Below.refl _ _).alloc (Nat.le_refl _) _⟩

theorem leafOk_any (d : Nd) (w : World) : Calls Tryz.prog 130 #[ndV d] w fun e w' => e = .returned (.bool (lfB d)) ∧ Below w.heap.size w w' := by
  have he := fun wx => eqNd d ⟨0, 0, 0, 0, false, d.value⟩ wx
  simp only at he
  cases hq : (d.feat == 0 && (d.cut == 0 && (d.left == 0 && (d.right == 0 && (d.miss == false && d.value == d.value)))))
  · rw [hq] at he
    go_enter Tryz.func130, Tryz.ntmps130
    go_wp2_with fail
    go_ret
    refine ⟨?_, (Below.refl _ _).alloc (Nat.le_refl _) _⟩
    have : lfB d = false := by
      unfold lfB
      simp at hq
      simp
      intro a1 a2 a3 a4 a5
      exact absurd a5 (by simpa using hq a1 a2 a3 a4)
    rw [this]
    rfl
  · rw [hq] at he
    by_cases h1 : -1000000000 ≤ d.value
    · by_cases h2 : d.value ≤ 1000000000
      all_goals
        go_enter Tryz.func130, Tryz.ntmps130
        go_wp2_with fail
        go_ret
        refine ⟨?_, (Below.refl _ _).alloc (Nat.le_refl _) _⟩
        simp at hq
        first | (simp [lfB, *]; done) | (simp [lfB, *]; intros; omega)
    · go_enter Tryz.func130, Tryz.ntmps130
      go_wp2_with fail
      go_ret
      refine ⟨?_, (Below.refl _ _).alloc (Nat.le_refl _) _⟩
      simp at hq
      first | (simp [lfB, *]; done) | (simp [lfB, *]; intros; omega)

theorem splitOk_any (d : Nd) (f : Int) (w : World) : Calls Tryz.prog 131 #[ndV d, .int .i64 f] w fun e w' => e = .returned (.bool (spB f d)) ∧ Below w.heap.size w w' := by
  obtain ⟨fe, cu, le, ri, mi, va⟩ := d
  by_cases h1 : 0 ≤ fe
  · by_cases h2 : fe < f
    · by_cases h3 : -1000000 ≤ cu
      · by_cases h4 : cu ≤ 1000000
        all_goals
          go_enter Tryz.func131, Tryz.ntmps131
          go_wp2_with fail
          go_ret
          exact ⟨by first | (simp [spB, *]; done) | (simp [spB, *]; intros; omega), (Below.refl _ _).alloc (Nat.le_refl _) _⟩
      · go_enter Tryz.func131, Tryz.ntmps131
        go_wp2_with fail
        go_ret
        exact ⟨by first | (simp [spB, *]; done) | (simp [spB, *]; intros; omega), (Below.refl _ _).alloc (Nat.le_refl _) _⟩
    · go_enter Tryz.func131, Tryz.ntmps131
      go_wp2_with fail
      go_ret
      exact ⟨by first | (simp [spB, *]; done) | (simp [spB, *]; intros; omega), (Below.refl _ _).alloc (Nat.le_refl _) _⟩
  · go_enter Tryz.func131, Tryz.ntmps131
    go_wp2_with fail
    go_ret
    exact ⟨by first | (simp [spB, *]; done) | (simp [spB, *]; intros; omega), (Below.refl _ _).alloc (Nat.le_refl _) _⟩

/-! ### the other side's look at a node -/
theorem Value_any (x : Int) (w : World) : Calls Tryz.prog 76 #[.int .i64 x] w fun e w' =>
    e = .returned (.bool (decide (-1000000000 ≤ x) && decide (x ≤ 1000000000))) ∧ w = w' := by
  go_enter Tryz.func76, Tryz.ntmps76
  go_wp2_with (go_at_call 89; refine (In_any _ _ _ _).mono ?_; rintro e w' ⟨rfl, rfl⟩)
  go_ret
  exact ⟨rfl, rfl⟩

/-- The node at place i of n, as a Bool. -/
def nodeB (f : Int) (n i : Nat) (d : Nd) : Bool :=
  if d.left = 0 then lfB d
  else d.value == 0 && ((decide (0 ≤ d.feat) && decide (d.feat ≤ f - 1)) && ((decide (-1000000 ≤ d.cut) && decide (d.cut ≤ 1000000)) && ((decide ((i : Int) + 1 ≤ d.left) && decide (d.left ≤ (n : Int) - 1)) && ((decide ((i : Int) + 1 ≤ d.right) && decide (d.right ≤ (n : Int) - 1)) && d.left != d.right))))
theorem nodeB_iff (f : Int) (n i : Nat) (d : Nd) : nodeB f n i d = true ↔ Node f n i d := by
  unfold nodeB Node spB
  split
  · exact Iff.rfl
  · simp only [Bool.and_eq_true, decide_eq_true_eq, beq_iff_eq, bne_iff_ne]
    constructor
    · rintro ⟨h1, ⟨h2, h3⟩, ⟨h4, h5⟩, ⟨h6, h7⟩, ⟨h8, h9⟩, h10⟩
      exact ⟨⟨⟨⟨h2, by omega⟩, h4, h5⟩, h1⟩, ⟨h6, h7⟩, ⟨h8, h9⟩, h10⟩
    · rintro ⟨⟨⟨⟨h2, h3⟩, h4, h5⟩, h1⟩, ⟨h6, h7⟩, ⟨h8, h9⟩, h10⟩
      exact ⟨h1, ⟨h2, by omega⟩, ⟨h4, h5⟩, ⟨h6, h7⟩, ⟨h8, h9⟩, h10⟩

set_option maxHeartbeats 1600000 in
theorem Node_leaf (d : Nd) (f : Int) (n i : Nat) (w : World) (h0 : (d.left == 0) = true) :
    Calls Tryz.prog 104 #[ndV d, .int .i64 i, .int .i64 n, .int .i64 f] w fun e w' => e = .returned (.bool (nodeB f n i d)) ∧ Below w.heap.size w w' := by
  have hN : nodeB f n i d = lfB d := by unfold nodeB; rw [if_pos (by simpa using h0)]
  have HN := hid hN
  clear hN
  have he := fun wx => eqNd d ⟨0, 0, 0, 0, false, d.value⟩ wx
  simp only at he
  cases hq : (d.feat == 0 && (d.cut == 0 && (d.left == 0 && (d.right == 0 && (d.miss == false && d.value == d.value)))))
  · rw [hq] at he
    have hl : lfB d = false := by
      unfold lfB
      simp at hq
      simp
      intro a1 a2 a3 a4 a5
      exact absurd a5 (by simpa using hq a1 a2 a3 a4)
    have HL := hid hl
    clear hl hq
    go_enter Tryz.func104, Tryz.ntmps104
    go_wp2_with fail
    go_ret
    exact ⟨by rw [HN.out, HL.out]; rfl, (Below.refl _ _).alloc (Nat.le_refl _) _⟩
  · rw [hq] at he
    have hl : lfB d = (decide (-1000000000 ≤ d.value) && decide (d.value ≤ 1000000000)) := by
      simp only [Bool.and_eq_true] at hq
      obtain ⟨q1, q2, q3, q4, q5, _⟩ := hq
      unfold lfB
      rw [q1, q2, q3, q4, q5]
      rfl
    have HL := hid hl
    clear hl hq
    go_enter Tryz.func104, Tryz.ntmps104
    go_wp2_with (go_at_call 76; refine (Value_any _ _).mono ?_; rintro e w' ⟨rfl, rfl⟩)
    go_ret
    exact ⟨by rw [HN.out, HL.out]; rfl, (Below.refl _ _).alloc (Nat.le_refl _) _⟩

set_option maxHeartbeats 1600000 in
theorem Node_split (d : Nd) (f : Int) (n i : Nat) (w : World) (h0 : (d.left == 0) = false) (hn : n ≤ 1000000) (hi : i ≤ 1000000) (hf : 1 ≤ f) (hf6 : f ≤ 6) :
    Calls Tryz.prog 104 #[ndV d, .int .i64 i, .int .i64 n, .int .i64 f] w fun e w' => e = .returned (.bool (nodeB f n i d)) ∧ Below w.heap.size w w' := by
  have hN : nodeB f n i d = (d.value == 0 && ((decide (0 ≤ d.feat) && decide (d.feat ≤ f - 1)) && ((decide (-1000000 ≤ d.cut) && decide (d.cut ≤ 1000000)) && ((decide ((i : Int) + 1 ≤ d.left) && decide (d.left ≤ (n : Int) - 1)) && ((decide ((i : Int) + 1 ≤ d.right) && decide (d.right ≤ (n : Int) - 1)) && d.left != d.right))))) := by
    unfold nodeB; rw [if_neg (by simpa using h0)]
  have HN := hid hN
  clear hN
  cases hv : (d.value == 0)
  · go_enter Tryz.func104, Tryz.ntmps104
    go_wp2_with fail
    go_ret
    exact ⟨by rw [HN.out, hv]; rfl, (Below.refl _ _).alloc (Nat.le_refl _) _⟩
  go_enter Tryz.func104, Tryz.ntmps104
  go_wp2_with fail
  refine (In_any _ _ _ _).mono ?_
  rintro e w1 ⟨rfl, rfl⟩
  generalize hq1 : (decide (0 ≤ d.feat) && decide (d.feat ≤ f - 1)) = q1 at HN
  clear hq1
  cases q1
  · go_wp2_with fail
    go_ret
    exact ⟨by rw [HN.out, hv]; rfl, (Below.refl _ _).alloc (Nat.le_refl _) _⟩
  go_wp2_with fail
  refine (Feat_any _ _).mono ?_
  rintro e w1 ⟨rfl, rfl⟩
  generalize hq2 : (decide (-1000000 ≤ d.cut) && decide (d.cut ≤ 1000000)) = q2 at HN
  clear hq2
  cases q2
  · go_wp2_with fail
    go_ret
    exact ⟨by rw [HN.out, hv]; rfl, (Below.refl _ _).alloc (Nat.le_refl _) _⟩
  go_wp2_with fail
  refine (In_any _ _ _ _).mono ?_
  rintro e w1 ⟨rfl, rfl⟩
  generalize hq3 : (decide ((i : Int) + 1 ≤ d.left) && decide (d.left ≤ (n : Int) - 1)) = q3 at HN
  clear hq3
  cases q3
  · go_wp2_with fail
    go_ret
    exact ⟨by rw [HN.out, hv]; rfl, (Below.refl _ _).alloc (Nat.le_refl _) _⟩
  go_wp2_with fail
  refine (In_any _ _ _ _).mono ?_
  rintro e w1 ⟨rfl, rfl⟩
  generalize hq4 : (decide ((i : Int) + 1 ≤ d.right) && decide (d.right ≤ (n : Int) - 1)) = q4 at HN
  clear hq4
  cases q4
  · go_wp2_with fail
    go_ret
    exact ⟨by rw [HN.out, hv]; rfl, (Below.refl _ _).alloc (Nat.le_refl _) _⟩
  go_wp2_with fail
  go_ret
  exact ⟨by rw [HN.out, hv]; rfl, (Below.refl _ _).alloc (Nat.le_refl _) _⟩

theorem Node_any (d : Nd) (f : Int) (n i : Nat) (w : World) (hn : n ≤ 1000000) (hi : i ≤ 1000000) (hf : 1 ≤ f) (hf6 : f ≤ 6) :
    Calls Tryz.prog 104 #[ndV d, .int .i64 i, .int .i64 n, .int .i64 f] w fun e w' => e = .returned (.bool (nodeB f n i d)) ∧ Below w.heap.size w w' := by
  cases h0 : (d.left == 0)
  · exact Node_split d f n i w h0 hn hi hf hf6
  · exact Node_leaf d f n i w h0
end

/-! ### TreeB -/
section
set_option linter.unusedVariables false
set_option linter.unusedSimpArgs false
open Go.RowKit Go.Deep

/-- Six cells at an address are the node d. -/
def NdAt (w : World) (b o : Nat) (d : Nd) : Prop :=
  w.cell? ⟨b, o, none⟩ = some (.int .i64 d.feat) ∧ w.cell? ⟨b, o + 1, none⟩ = some (.int .i64 d.cut) ∧ w.cell? ⟨b, o + 2, none⟩ = some (.int .i64 d.left) ∧
  w.cell? ⟨b, o + 3, none⟩ = some (.int .i64 d.right) ∧ w.cell? ⟨b, o + 4, none⟩ = some (.bool d.miss) ∧ w.cell? ⟨b, o + 5, none⟩ = some (.int .i64 d.value)
/-- The slice at A reads as n nodes g, and lies below block B. -/
def RdN (w : World) (B : Nat) (A : Option Addr) (n : Nat) (g : Nat → Nd) : Prop :=
  0 < n → ∃ b off, A = some ⟨b, off, none⟩ ∧ b < B ∧ ∀ i, i < n → NdAt w b (off + i * 6) (g i)
section
variable {w w' : World} {B B' n : Nat} {A : Option Addr} {g : Nat → Nd}
theorem NdAt.keep {b o : Nat} {d : Nd} (h : NdAt w b o d) (hk : ∀ o, w'.cell? ⟨b, o, none⟩ = w.cell? ⟨b, o, none⟩) : NdAt w' b o d := by
  unfold NdAt at h ⊢
  simp only [hk]
  exact h
theorem RdN.keep (h : RdN w B A n g) (hk : ∀ p : Addr, p.block < B → w'.cell? p = w.cell? p) : RdN w' B A n g := fun hn => by
  obtain ⟨b, off, e, hb, hc⟩ := h hn
  exact ⟨b, off, e, hb, fun i hi => (hc i hi).keep fun o => hk ⟨b, o, none⟩ hb⟩
theorem RdN.more (h : RdN w B A n g) (hB : B ≤ B') : RdN w B' A n g := fun hn => by
  obtain ⟨b, off, e, hb, hc⟩ := h hn
  exact ⟨b, off, e, by omega, hc⟩
theorem RdN.below (h : RdN w B A n g) (hb : Below B w w') : RdN w' B A n g := h.keep fun _ hp => hb.cell hp
theorem RdN.to (h : RdN w B A n g) (hb : Below B w w') (hB : B ≤ w'.heap.size) : RdN w' w'.heap.size A n g := (h.below hb).more hB
theorem RdN.at_ {k : Nat} (h : RdN w B A n g) (hk : k < n) : ∃ b off, A = some ⟨b, off, none⟩ ∧ b < B ∧ NdAt w b (off + k * 6) (g k) := by
  obtain ⟨b, off, e, hb, hc⟩ := h (by omega)
  exact ⟨b, off, e, hb, hc k hk⟩
end

/-- The cells of a node. -/
def ndC (d : Nd) : List Value := [.int .i64 d.feat, .int .i64 d.cut, .int .i64 d.left, .int .i64 d.right, .bool d.miss, .int .i64 d.value]
/-- Block b, of element type t, bears the nodes g at its first n places. -/
def RowN (w : World) (t : TypeId) (b n : Nat) (g : Nat → Nd) : Prop :=
  ∃ cs : Array Value, Blk w b t cs ∧ n * 6 ≤ cs.size ∧ ∀ i, i < n → ∀ j, j < 6 → cs[i * 6 + j]? = (ndC (g i))[j]?
section
variable {w w' : World} {t : TypeId} {b n : Nat} {g : Nat → Nd}
theorem RowN.lt (h : RowN w t b n g) : b < w.heap.size := by obtain ⟨cs, hb, _⟩ := h; exact hb.lt
theorem RowN.ndAt {i : Nat} (h : RowN w t b n g) (hi : i < n) : NdAt w b (i * 6) (g i) := by
  obtain ⟨cs, hb, hn, hc⟩ := h
  have h0 := hc i hi 0 (by omega); have h1 := hc i hi 1 (by omega); have h2 := hc i hi 2 (by omega); have h3 := hc i hi 3 (by omega); have h4 := hc i hi 4 (by omega); have h5 := hc i hi 5 (by omega)
  exact ⟨(hb.cell _).trans h0, (hb.cell _).trans h1, (hb.cell _).trans h2, (hb.cell _).trans h3, (hb.cell _).trans h4, (hb.cell _).trans h5⟩
theorem RowN.rd {B : Nat} (h : RowN w t b n g) (hB : b < B) : RdN w B (some ⟨b, 0, none⟩) n g := fun _ =>
  ⟨b, 0, rfl, hB, fun i hi => by rw [Nat.zero_add]; exact h.ndAt hi⟩
theorem RowN.keep (h : RowN w t b n g) (hk : w'.heap[b]? = w.heap[b]?) : RowN w' t b n g := by
  obtain ⟨cs, hb, hn, hc⟩ := h
  exact ⟨cs, hk.trans hb, hn, hc⟩
theorem RowN.below {B : Nat} (h : RowN w t b n g) (hb : Below B w w') (hB : b < B) : RowN w' t b n g := h.keep (hb.block b hB)
end
theorem rdN_of {w : World} {t : TypeId} {b n : Nat} {g : Nat → Nd} (h : RowN w t b n g) : RdN w w.heap.size (some ⟨b, 0, none⟩) n g := h.rd h.lt

theorem info_node : (Tryz.prog.info? 58).map (fun i => (i.zero, i.size, i.bytes)) = some (some (ndV ⟨0, 0, 0, 0, false, 0⟩), 6, 48) := by kernel_rfl

theorem run_make_rowN {P : Program} (t e : TypeId) (i : TypeInfo) (z : Value) (ht : P.underlying t = some (.slice e)) (hi : P.info? e = some i) (hz : i.zero = some z)
    (kl kc : IntKind) (n c : Nat) (hnc : n ≤ c) (hbytes : i.bytes * c ≤ 281474976710656) (h63 : c ≤ 9223372036854775807) (w : World) :
    (Instr.makeSlice t (.int kl (n : Int)) (.int kc (c : Int))).run P w = .ok (.slice (some ⟨w.heap.size, 0, none⟩) n c) (w.alloc (.cells (madeCells z.cells (c * i.size)) e)) := by
  have hb : (i.bytes : Int) * (c : Int) ≤ 281474976710656 := by
    have h : ((i.bytes * c : Nat) : Int) ≤ 281474976710656 := by omega
    rwa [Int.natCast_mul] at h
  have hr := run_make (P := P) w t e i z ht hi hz kl kc n c (by omega) (by omega) hb (by omega)
  simp only [Int.toNat_natCast] at hr
  exact hr

/-- Six cells written from place k * 6 on. -/
def put6 (cs : Array Value) (k : Nat) (d : Nd) : Array Value :=
  (((((cs.setIfInBounds (k * 6) (.int .i64 d.feat)).setIfInBounds (k * 6 + 1) (.int .i64 d.cut)).setIfInBounds (k * 6 + 2) (.int .i64 d.left)).setIfInBounds (k * 6 + 3) (.int .i64 d.right)).setIfInBounds (k * 6 + 4) (.bool d.miss)).setIfInBounds (k * 6 + 5) (.int .i64 d.value)
theorem put6_size (cs : Array Value) (k : Nat) (d : Nd) : (put6 cs k d).size = cs.size := by simp [put6]
theorem put6_in {cs : Array Value} {k : Nat} (d : Nd) (h : k * 6 + 6 ≤ cs.size) (j : Nat) (hj : j < 6) : (put6 cs k d)[k * 6 + j]? = (ndC d)[j]? := by
  unfold put6 ndC
  obtain rfl | rfl | rfl | rfl | rfl | rfl : j = 0 ∨ j = 1 ∨ j = 2 ∨ j = 3 ∨ j = 4 ∨ j = 5 := by omega
  all_goals (simp only [Array.getElem?_setIfInBounds, Array.size_setIfInBounds]; simp; try omega)
theorem put6_out {cs : Array Value} {k : Nat} (d : Nd) (p : Nat) (hp : p < k * 6 ∨ k * 6 + 6 ≤ p) : (put6 cs k d)[p]? = cs[p]? := by
  unfold put6
  rw [Array.getElem?_setIfInBounds_ne (by omega), Array.getElem?_setIfInBounds_ne (by omega), Array.getElem?_setIfInBounds_ne (by omega), Array.getElem?_setIfInBounds_ne (by omega), Array.getElem?_setIfInBounds_ne (by omega), Array.getElem?_setIfInBounds_ne (by omega)]
theorem blk_put6 {w : World} {b : Nat} {t : TypeId} {cs : Array Value} (h : Blk w b t cs) (k : Nat) (d : Nd) :
    Blk ((((((w.setCell ⟨b, k * 6, none⟩ (.int .i64 d.feat)).setCell ⟨b, k * 6 + 1, none⟩ (.int .i64 d.cut)).setCell ⟨b, k * 6 + 2, none⟩ (.int .i64 d.left)).setCell ⟨b, k * 6 + 3, none⟩ (.int .i64 d.right)).setCell ⟨b, k * 6 + 4, none⟩ (.bool d.miss)).setCell ⟨b, k * 6 + 5, none⟩ (.int .i64 d.value)) b t (put6 cs k d) :=
  (((((h.set_ (k * 6) (.int .i64 d.feat)).set_ (k * 6 + 1) (.int .i64 d.cut)).set_ (k * 6 + 2) (.int .i64 d.left)).set_ (k * 6 + 3) (.int .i64 d.right)).set_ (k * 6 + 4) (.bool d.miss)).set_ (k * 6 + 5) (.int .i64 d.value)
theorem below_put6 {B : Nat} {a w : World} {b : Nat} (h : Below B a w) (hb : B ≤ b) (k : Nat) (d : Nd) :
    Below B a ((((((w.setCell ⟨b, k * 6, none⟩ (.int .i64 d.feat)).setCell ⟨b, k * 6 + 1, none⟩ (.int .i64 d.cut)).setCell ⟨b, k * 6 + 2, none⟩ (.int .i64 d.left)).setCell ⟨b, k * 6 + 3, none⟩ (.int .i64 d.right)).setCell ⟨b, k * 6 + 4, none⟩ (.bool d.miss)).setCell ⟨b, k * 6 + 5, none⟩ (.int .i64 d.value)) := by
  have h0 := h.setCell (p := ⟨b, k * 6, none⟩) hb (.int .i64 d.feat)
  have h1 := h0.setCell (p := ⟨b, k * 6 + 1, none⟩) hb (.int .i64 d.cut)
  have h2 := h1.setCell (p := ⟨b, k * 6 + 2, none⟩) hb (.int .i64 d.left)
  have h3 := h2.setCell (p := ⟨b, k * 6 + 3, none⟩) hb (.int .i64 d.right)
  have h4 := h3.setCell (p := ⟨b, k * 6 + 4, none⟩) hb (.bool d.miss)
  exact h4.setCell (p := ⟨b, k * 6 + 5, none⟩) hb (.int .i64 d.value)

end

/-! ### TreeC -/
section
set_option linter.unusedVariables false
set_option linter.unusedSimpArgs false
open Go.RowKit Go.Deep

/-- How many splits among the first k lead to j. -/
def abv (g : Nat → Nd) (k j : Nat) : Nat := cnt (fun m => par (g m) j) k
theorem par_le (d : Nd) (j : Nat) : par d j ≤ 2 := by unfold par; split <;> (try split) <;> (try split) <;> omega
theorem abv_le (g : Nat → Nd) (k j : Nat) : abv g k j ≤ 2 * k := by
  unfold abv
  induction k with
  | zero => simp [cnt]
  | succ k ih => simp only [cnt]; have := par_le (g k) j; omega
def okTo (g : Nat → Nd) (n : Nat) (f : Int) : Nat → Bool
  | 0 => true
  | i + 1 => okTo g n f i && (nodeB f n i (g i) && (i == 0 || abv g i i == 1))
theorem okTo_iff (g : Nat → Nd) (n : Nat) (f : Int) (m : Nat) : okTo g n f m = true ↔ ∀ i, i < m → Node f n i (g i) ∧ (0 < i → abv g i i = 1) := by
  induction m with
  | zero => exact ⟨fun _ i hi => by omega, fun _ => rfl⟩
  | succ m ih =>
    simp only [okTo, Bool.and_eq_true, ih, nodeB_iff, Bool.or_eq_true, beq_iff_eq]
    constructor
    · rintro ⟨h1, h2, h3⟩ i hi
      by_cases e : i = m
      · subst e; exact ⟨h2, fun h0 => by omega⟩
      · exact h1 i (by omega)
    · intro h
      refine ⟨fun i hi => h i (by omega), (h m (by omega)).1, ?_⟩
      by_cases e : m = 0
      · exact .inl e
      · exact .inr ((h m (by omega)).2 (by omega))
def treeB (g : Nat → Nd) (n : Nat) (f : Int) : Bool := (decide (1 ≤ f) && decide (f ≤ 6)) && ((decide (1 ≤ n) && decide (n ≤ 15)) && okTo g n f n)
theorem treeB_iff (g : Nat → Nd) (n : Nat) (f : Int) : treeB g n f = true ↔ Tree g n f := by
  unfold treeB Tree
  simp only [Bool.and_eq_true, decide_eq_true_eq, okTo_iff]
  exact Iff.rfl
theorem okTo_false {g : Nat → Nd} {n : Nat} {f : Int} {k m : Nat} (hk : k < m) (h : (nodeB f n k (g k) && (k == 0 || abv g k k == 1)) = false) : okTo g n f m = false := by
  induction m with
  | zero => omega
  | succ m ih =>
    by_cases e : k = m
    · subst e; simp only [okTo, h, Bool.and_false]
    · simp only [okTo, ih (by omega), Bool.false_and]

theorem abv_leaf {g : Nat → Nd} {k j : Nat} (h : (g k).left = 0) : ((abv g k j : Nat) : Int) = (abv g (k + 1) j : Nat) := by
  have : par (g k) j = 0 := by unfold par; rw [if_neg (by omega)]
  unfold abv
  simp only [cnt, this]
  omega
theorem abv_split {g : Nat → Nd} {k l r : Nat} (hl : (g k).left = l) (hr : (g k).right = r) (h0 : 0 < l) (h1 : 0 < r) (hne : l ≠ r) (j : Nat) :
    (fun j => if j = r then (abv g k r : Int) + 1 else (fun j => if j = l then (abv g k l : Int) + 1 else (abv g k j : Int)) j) j = (abv g (k + 1) j : Nat) := by
  have : abv g (k + 1) j = abv g k j + par (g k) j := rfl
  rw [this]
  unfold par
  rw [hl, hr, if_pos (by omega)]
  show (if j = r then (abv g k r : Int) + 1 else if j = l then (abv g k l : Int) + 1 else (abv g k j : Int)) = _
  by_cases e1 : j = r
  · subst e1; rw [if_pos rfl, if_neg (by omega), if_pos rfl]; omega
  · rw [if_neg e1]
    by_cases e2 : j = l
    · subst e2; rw [if_pos rfl, if_pos rfl, if_neg (by omega)]; omega
    · rw [if_neg e2, if_neg (by omega), if_neg (by omega)]; omega
theorem node_kids {f : Int} {n k : Nat} {d : Nd} (h : Node f n k d) (h0 : ¬ d.left = 0) : ∃ l r : Nat, d.left = l ∧ d.right = r ∧ k < l ∧ l < n ∧ k < r ∧ r < n ∧ l ≠ r := by
  unfold Node at h
  rw [if_neg h0] at h
  obtain ⟨_, ⟨a1, a2⟩, ⟨b1, b2⟩, hne⟩ := h
  exact ⟨d.left.toNat, d.right.toNat, by omega, by omega, by omega, by omega, by omega, by omega, by omega⟩

set_option maxHeartbeats 4000000 in
theorem sTreeOk_any (A : Option Addr) (n cap : Nat) (g : Nat → Nd) (f : Int) (w : World) (h : RdN w w.heap.size A n g) (hn : n ≤ 4194304) :
    Calls Tryz.prog 74 #[.slice A n cap, .int .i64 f] w fun e w' => e = .returned (.bool (treeB g n f)) ∧ Below w.heap.size w w' := by
  cases hf : (decide (1 ≤ f) && decide (f ≤ 6))
  · have hT : treeB g n f = false := by unfold treeB; rw [hf]; rfl
    have HF := hid hf
    have HT := hid hT
    clear hf hT
    go_enter Tryz.func74, Tryz.ntmps74
    go_wp2_with fail
    refine (Feats_any _ _).mono ?_
    rintro e w1 ⟨rfl, rfl⟩
    rw [HF.out]
    go_wp2_with fail
    go_ret
    exact ⟨by rw [HT.out]; rfl, Below.refl _ _⟩
  cases hm : (decide ((1 : Int) ≤ (n : Int)) && decide ((n : Int) ≤ 15))
  · have hT : treeB g n f = false := by
      have e : (decide (1 ≤ n) && decide (n ≤ 15)) = false := by
        simp only [Bool.and_eq_false_iff, decide_eq_false_iff_not] at hm ⊢
        omega
      unfold treeB; rw [e]; simp
    have HF := hid hf
    have HM := hid hm
    have HT := hid hT
    clear hf hT hm
    go_enter Tryz.func74, Tryz.ntmps74
    go_wp2_with fail
    refine (Feats_any _ _).mono ?_
    rintro e w1 ⟨rfl, rfl⟩
    rw [HF.out]
    go_wp2_with fail
    refine (In_any _ _ _ _).mono ?_
    rintro e w1 ⟨rfl, rfl⟩
    rw [HM.out]
    go_wp2_with fail
    go_ret
    exact ⟨by rw [HT.out]; rfl, Below.refl _ _⟩
  have hT : treeB g n f = okTo g n f n := by
    have e : (decide (1 ≤ n) && decide (n ≤ 15)) = true := by
      simp only [Bool.and_eq_true, decide_eq_true_eq] at hm ⊢
      omega
    unfold treeB; rw [hf, e]; rfl
  have hf1 : 1 ≤ f ∧ f ≤ 6 := by simpa using hf
  have hn15 : n ≤ 15 := by simp at hm; omega
  have HF := hid hf
  have HM := hid hm
  have HT := hid hT
  clear hf hT hm
  obtain ⟨hf1, hf6⟩ := hf1
  have hmk := run_make_row' (P := Tryz.prog) 67 2 (.int .i64 0) 8 Tryz.underlying67 info_int rfl .i64 .i64 n (by omega) (by omega)
  go_enter Tryz.func74, Tryz.ntmps74
  go_wp2_with fail
  refine (Feats_any _ _).mono ?_
  rintro e w1 ⟨rfl, rfl⟩
  rw [HF.out]
  go_wp2_with fail
  refine (In_any _ _ _ _).mono ?_
  rintro e w1 ⟨rfl, rfl⟩
  rw [HM.out]
  go_wp2_with fail
  clear hmk
  go_loopw [7] (fun i wr => ∃ k : Nat, k ≤ n ∧ i = .int .i64 k ∧ Hid (okTo g n f k = true) ∧ Row wr 2 w.heap.size n (fun j => (abv g k j : Nat)) ∧ Below w.heap.size w wr)
    (fun i _ => n - (intOf i).toNat)
  case atStart => exact ⟨0, Nat.zero_le _, rfl, rfl, ⟨_, Blk.new _ _ _, by simp [madeCells], fun j hj => by simp [madeCells, hj, abv, cnt, Nat.mod_one]⟩, (Below.refl _ _).alloc (Nat.le_refl _) _⟩
  case round =>
    obtain ⟨k, hk, rfl, hok, hrow, hbl⟩ := hrel
    by_cases hlt : k < n
    · obtain ⟨b, off, rfl, hb, hnd⟩ := (h.below hbl).at_ hlt
      obtain ⟨c0, c1, c2, c3, c4, c5⟩ := hnd
      have hl : (k : Int) < (n : Int) := by omega
      go_wp2_with fail
      refine (Node_any (g k) f n k _ (by omega) (by omega) hf1 hf6).mono ?_
      rintro e w1 ⟨rfl, hb1⟩
      have hrow1 := hrow.below hb1 hrow.lt
      have hnd1 : NdAt w1 b (off + k * 6) (g k) := NdAt.keep ⟨c0, c1, c2, c3, c4, c5⟩ fun o => hb1.cell (p := ⟨b, o, none⟩) (Nat.lt_of_lt_of_le hb hbl.size)
      have hbl1 := hbl.trans (hb1.mono hbl.size)
      clear c0 c1 c2 c3 c4 c5 hb1 hrow hbl
      cases hN : nodeB f n k (g k)
      · have HN := hid hN
        clear hN
        go_wp2_with fail
        go_ret
        exact ⟨by rw [HT.out, okTo_false hlt (by rw [HN.out]; rfl)]; rfl, hbl1⟩
      have hA := hrow1.cell hlt
      have hfin : okTo g n f (k + 1) = (k == 0 || abv g k k == 1) := by simp only [okTo, hok.out, hN, Bool.true_and]
      have hNode := (nodeB_iff f n k (g k)).1 hN
      have HFin := hid hfin
      have HNode := hid hNode
      have HN := hid hN
      clear hN hfin hNode
      by_cases hz : 0 < (k : Int) ∧ ¬ abv g k k = 1
      · obtain ⟨hz1, hz2⟩ := hz
        have hz3 : (((abv g k k : Nat) : Int) != 1) = true := by simp; omega
        go_wp2_with fail
        go_ret
        refine ⟨?_, hbl1⟩
        rw [HT.out, okTo_false hlt (by
          rw [HN.out]
          have e1 : (k == 0) = false := by simp; omega
          have e2 : (abv g k k == 1) = false := by simpa using hz2
          rw [e1, e2]; rfl)]
        rfl
      have hok1 : Hid (okTo g n f (k + 1) = true) := by
        show okTo g n f (k + 1) = true
        rw [HFin.out]
        by_cases e : k = 0
        · simp [e]
        · have : abv g k k = 1 := Classical.byContradiction fun h' => hz ⟨by omega, h'⟩
          simp [this]
      by_cases hk0 : 0 < (k : Int)
      · have ha1 : (((abv g k k : Nat) : Int) != 1) = false := by
          have : abv g k k = 1 := Classical.byContradiction fun h' => hz ⟨hk0, h'⟩
          simp [this]
        clear hz
        obtain ⟨c0, c1, c2, c3, c4, c5⟩ := hnd1
        by_cases hlf : (g k).left = 0
        · have hq : ¬ 0 < (g k).left := by omega
          have HLf := hid hlf
          clear hlf
          go_wp2_with fail
          go_roundw
          case rel => exact ⟨k + 1, by omega, by go_num, hok1, hrow1.congr fun j _ => by rw [abv_leaf HLf.out], hbl1⟩
          case measure => simp [intOf]; omega
        · obtain ⟨l, r, hl1, hr1, hkl, hln, hkr, hrn, hne⟩ := node_kids HNode.out hlf
          rw [hl1] at c2
          rw [hr1] at c3
          have HL := hid hl1
          have HR := hid hr1
          clear hl1 hr1 hlf
          have hcl := hrow1.cell hln
          have hcr := hrow1.cell hrn
          have hfl := hrow1.frozen l
          have hfr := hrow1.frozen r
          have hbdl := abv_le g k l
          have hbdr := abv_le g k r
          have i1 : (0 : Int) < (l : Int) := by omega
          have i2 : (l : Int) < (n : Int) := by omega
          have i3 : (r : Int) < (n : Int) := by omega
          have i4 : (0 : Int) ≤ (r : Int) := by omega
          go_wp2_with fail
          go_roundw
          case rel => exact ⟨k + 1, by omega, by go_num, hok1, ((hrow1.set_ (i := l) _).set_ (i := r) _).congr fun j _ => abv_split HL.out HR.out (by omega) (by omega) hne j, (hbl1.setCell (Nat.le_refl _) _).setCell (Nat.le_refl _) _⟩
          case measure => simp [intOf]; omega
      · clear hz
        obtain ⟨c0, c1, c2, c3, c4, c5⟩ := hnd1
        by_cases hlf : (g k).left = 0
        · have hq : ¬ 0 < (g k).left := by omega
          have HLf := hid hlf
          clear hlf
          go_wp2_with fail
          go_roundw
          case rel => exact ⟨k + 1, by omega, by go_num, hok1, hrow1.congr fun j _ => by rw [abv_leaf HLf.out], hbl1⟩
          case measure => simp [intOf]; omega
        · obtain ⟨l, r, hl1, hr1, hkl, hln, hkr, hrn, hne⟩ := node_kids HNode.out hlf
          rw [hl1] at c2
          rw [hr1] at c3
          have HL := hid hl1
          have HR := hid hr1
          clear hl1 hr1 hlf
          have hcl := hrow1.cell hln
          have hcr := hrow1.cell hrn
          have hfl := hrow1.frozen l
          have hfr := hrow1.frozen r
          have hbdl := abv_le g k l
          have hbdr := abv_le g k r
          have i1 : (0 : Int) < (l : Int) := by omega
          have i2 : (l : Int) < (n : Int) := by omega
          have i3 : (r : Int) < (n : Int) := by omega
          have i4 : (0 : Int) ≤ (r : Int) := by omega
          go_wp2_with fail
          go_roundw
          case rel => exact ⟨k + 1, by omega, by go_num, hok1, ((hrow1.set_ (i := l) _).set_ (i := r) _).congr fun j _ => abv_split HL.out HR.out (by omega) (by omega) hne j, (hbl1.setCell (Nat.le_refl _) _).setCell (Nat.le_refl _) _⟩
          case measure => simp [intOf]; omega
    · have e : k = n := by omega
      go_wp2_with fail
      go_ret
      subst e
      exact ⟨by rw [HT.out, hok.out]; rfl, hbl⟩
end

/-! ### TreeD -/
section
set_option linter.unusedVariables false
set_option linter.unusedSimpArgs false
open Go.RowKit Go.Deep

/-- Block R holds fifteen pointers c. -/
def Rest (w : World) (R : Nat) (c : Nat → Option Addr) : Prop :=
  ∃ cs : Array Value, Blk w R 137 cs ∧ cs.size = 15 ∧ ∀ j, j < 15 → cs[j]? = some (.pointer (c j))
section
variable {w w' : World} {R : Nat} {c : Nat → Option Addr}
theorem Rest.lt (h : Rest w R c) : R < w.heap.size := by obtain ⟨cs, hb, _⟩ := h; exact hb.lt
theorem Rest.cell {j : Nat} (h : Rest w R c) (hj : j < 15) : w.cell? ⟨R, j, none⟩ = some (.pointer (c j)) := by
  obtain ⟨cs, hb, _, hc⟩ := h; rw [hb.cell, hc j hj]
theorem Rest.frozen (h : Rest w R c) (j : Nat) : w.frozen? ⟨R, j, none⟩ = false := by obtain ⟨cs, hb, _⟩ := h; exact hb.frozen j
theorem Rest.keep (h : Rest w R c) (hk : w'.heap[R]? = w.heap[R]?) : Rest w' R c := by
  obtain ⟨cs, hb, hn, hc⟩ := h
  exact ⟨cs, hk.trans hb, hn, hc⟩
theorem Rest.below {B : Nat} (h : Rest w R c) (hb : Below B w w') (hB : R < B) : Rest w' R c := h.keep (hb.block R hB)
theorem Rest.set_ (h : Rest w R c) {i : Nat} (hi : i < 15) (p : Option Addr) : Rest (w.setCell ⟨R, i, none⟩ (.pointer p)) R (fun j => if j = i then p else c j) := by
  obtain ⟨cs, hb, hn, hc⟩ := h
  refine ⟨_, hb.set_ i _, by simpa using hn, fun j hj => ?_⟩
  show _ = some (Value.pointer (if j = i then p else c j))
  by_cases e : j = i
  · subst e; rw [if_pos rfl, Array.getElem?_setIfInBounds_self_of_lt (by omega)]
  · rw [if_neg e, Array.getElem?_setIfInBounds_ne (by omega)]; exact hc j hj
theorem Rest.congr {c' : Nat → Option Addr} (h : Rest w R c) (he : ∀ j, j < 15 → c j = c' j) : Rest w R c' := by
  obtain ⟨cs, hb, hn, hc⟩ := h
  exact ⟨cs, hb, hn, fun j hj => by rw [← he j hj]; exact hc j hj⟩
end
theorem grown_set {w : World} {R o : Nat} (u : Value) : w.grownBy (w.setCell ⟨R, o, none⟩ u) (some R) :=
  ⟨rfl, rfl, rfl, by simp [World.setCell], fun i _ hne => Below.heap_setCell _ _ _ i (by rintro rfl; exact hne rfl)⟩
theorem grown_trans {a b d : World} {r : Option Nat} (h : a.grownBy b r) (k : b.grownBy d r) : a.grownBy d r :=
  ⟨k.os.trans h.os, k.tape.trans h.tape, k.output.trans h.output, Nat.le_trans h.size k.size, fun i hi hne => (k.block i (Nat.lt_of_lt_of_le hi h.size) hne).trans (h.block i hi hne)⟩
theorem grown_below {a w w' : World} {B : Nat} {r : Option Nat} (h : a.grownBy w r) (hb : Below B w w') (hB : a.heap.size ≤ B) : a.grownBy w' r :=
  ⟨hb.os.trans h.os, hb.tape.trans h.tape, hb.output.trans h.output, Nat.le_trans h.size hb.size, fun i hi hne => (hb.block i (Nat.lt_of_lt_of_le hi hB)).trans (h.block i hi hne)⟩
theorem grown_setNew {a w : World} {r : Option Nat} (h : a.grownBy w r) {p : Addr} (hp : a.heap.size ≤ p.block) (u : Value) : a.grownBy (w.setCell p u) r :=
  ⟨h.os, h.tape, h.output, by simpa [World.setCell] using h.size, fun i hi hne => (Below.heap_setCell w p u i (by omega)).trans (h.block i hi hne)⟩

/-- What take gives, and what it leaves. -/
def takeV (c : Nat → Option Addr) (z : Int) : Option Addr := if 0 ≤ z ∧ z < 15 then c z.toNat else none
def takeC (c : Nat → Option Addr) (z : Int) : Nat → Option Addr := fun j => if (j : Int) = z then none else c j

theorem takeC_nat (c : Nat → Option Addr) (k j : Nat) : (fun j => if j = k then none else c j) j = takeC c k j := by
  show (if j = k then none else c j) = _
  unfold takeC
  by_cases e : j = k
  · subst e; simp
  · rw [if_neg e, if_neg (by omega)]
theorem take_any (R : Nat) (c : Nat → Option Addr) (z : Int) (w : World) (h : Rest w R c) :
    Calls Tryz.prog 113 #[.pointer (some ⟨R, 0, none⟩), .int .i64 z] w fun e w' =>
      e = .returned (.pointer (takeV c z)) ∧ Rest w' R (takeC c z) ∧ w.grownBy w' (some R) := by
  by_cases h0 : z < 0
  · have hv : takeV c z = none := by unfold takeV; rw [if_neg (by omega)]
    have HV := hid hv
    clear hv
    go_enter Tryz.func113, Tryz.ntmps113
    go_wp2_with fail
    go_ret
    exact ⟨by rw [HV.out]; rfl, h.congr fun j hj => by unfold takeC; rw [if_neg (by omega)], World.grownBy.refl _ _⟩
  · by_cases h1 : 15 ≤ z
    · have hv : takeV c z = none := by unfold takeV; rw [if_neg (by omega)]
      have HV := hid hv
      clear hv
      go_enter Tryz.func113, Tryz.ntmps113
      go_wp2_with fail
      go_ret
      exact ⟨by rw [HV.out]; rfl, h.congr fun j hj => by unfold takeC; rw [if_neg (by omega)], World.grownBy.refl _ _⟩
    · obtain ⟨k, rfl⟩ := Int.eq_ofNat_of_zero_le (show 0 ≤ z by omega)
      have hk : k < 15 := by omega
      have hv : takeV c k = c k := by unfold takeV; rw [if_pos (by omega)]; rfl
      have HV := hid hv
      clear hv
      have hc := h.cell hk
      have hf := h.frozen k
      have i1 : (k : Int) < 15 := by omega
      go_enter Tryz.func113, Tryz.ntmps113
      go_wp2_with fail
      go_ret
      exact ⟨by rw [HV.out]; rfl, (h.set_ hk none).congr fun j _ => takeC_nat c k j, grown_set _⟩

/-- Block b is the twig of node d with number i, pointers p and q behind it. -/
def twC (d : Nd) (i : Nat) (p q : Option Addr) : Array Value := #[.int .i64 d.feat, .int .i64 d.cut, .int .i64 d.left, .int .i64 d.right, .bool d.miss, .int .i64 d.value, .int .i64 i, .pointer p, .pointer q]
abbrev Tw (w : World) (b : Nat) (d : Nd) (i : Nat) (p q : Option Addr) : Prop := Blk w b 159 (twC d i p q)

def ndA (d : Nd) : Array Value := #[.int .i64 d.feat, .int .i64 d.cut, .int .i64 d.left, .int .i64 d.right, .bool d.miss, .int .i64 d.value]
theorem ndA_cells {w : World} {b : Nat} {t : TypeId} {d : Nd} (h : Blk w b t (ndA d)) :
    w.cell? ⟨b, 0, none⟩ = some (.int .i64 d.feat) ∧ w.cell? ⟨b, 1, none⟩ = some (.int .i64 d.cut) ∧ w.cell? ⟨b, 2, none⟩ = some (.int .i64 d.left) ∧ w.cell? ⟨b, 3, none⟩ = some (.int .i64 d.right) ∧
    w.cell? ⟨b, 4, none⟩ = some (.bool d.miss) ∧ w.cell? ⟨b, 5, none⟩ = some (.int .i64 d.value) :=
  ⟨h.cell 0, h.cell 1, h.cell 2, h.cell 3, h.cell 4, h.cell 5⟩
theorem tw_new (w : World) (d : Nd) (i : Nat) : Tw ((w.alloc (.cells (ndA d) 58)).alloc (.cells (twC d i none none) 159)) (w.heap.size + 1) d i none none := Blk.new2 _ _ _ _
theorem nd_new (w : World) (d : Nd) (i : Nat) : Blk ((w.alloc (.cells (ndA d) 58)).alloc (.cells (twC d i none none) 159)) w.heap.size 58 (ndA d) := (Blk.new w _ _).alloc _
theorem be_new (w : World) (d : Nd) (i : Nat) : Below w.heap.size w ((w.alloc (.cells (ndA d) 58)).alloc (.cells (twC d i none none) 159)) := ((Below.refl _ _).alloc (Nat.le_refl _) _).alloc (by simp) _

set_option maxHeartbeats 1000000 in
theorem twigOf_leaf (d : Nd) (i : Nat) (f : Int) (R : Nat) (w : World) (h0 : (d.left == 0) = true) :
    Calls Tryz.prog 112 #[ndV d, .int .i64 i, .int .i64 f, .pointer (some ⟨R, 0, none⟩)] w fun e w' =>
      e = .returned (.pointer (if lfB d = true then some ⟨w.heap.size + 1, 0, none⟩ else none)) ∧ Tw w' (w.heap.size + 1) d i none none ∧ Below w.heap.size w w' := by
  cases hl : lfB d
  all_goals
    have HL := hid hl
    have H0 := hid h0
    clear hl
    go_enter Tryz.func112, Tryz.ntmps112
    go_wp2_with fail
    refine (isLeaf_any d _).mono ?_
    rintro e w1 ⟨rfl, hb1⟩
    rw [H0.out]
    have hT := (tw_new w d i).below hb1 (tw_new w d i).lt
    have hN := (nd_new w d i).below hb1 (nd_new w d i).lt
    have hW := (be_new w d i).trans (hb1.mono (be_new w d i).size)
    clear hb1
    obtain ⟨c0, c1, c2, c3, c4, c5⟩ := ndA_cells hN
    go_wp2_with fail
    refine (leafOk_any d _).mono ?_
    rintro e w2 ⟨rfl, hb2⟩
    rw [HL.out]
    have hT2 := hT.below hb2 hT.lt
    have hW2 := hW.trans (hb2.mono hW.size)
    clear hT hb2 hW c0 c1 c2 c3 c4 c5 hN
    go_wp2_with fail
    go_ret
    exact ⟨rfl, hT2, hW2⟩

/-- What becomes of a split. -/
def splitP (f : Int) (d : Nd) (p q : Option Addr) : Bool := spB f d && (p.isSome && q.isSome)
def twP (b : Nat) (f : Int) (d : Nd) (p q : Option Addr) : Option Addr := if splitP f d p q = true then some ⟨b, 0, none⟩ else none

theorem tw_set7 {w : World} {b i : Nat} {d : Nd} {p q : Option Addr} (h : Tw w b d i p q) (p' : Option Addr) : Tw (w.setCell ⟨b, 7, none⟩ (.pointer p')) b d i p' q := h.set_ 7 _
theorem tw_set8 {w : World} {b i : Nat} {d : Nd} {p q : Option Addr} (h : Tw w b d i p q) (q' : Option Addr) : Tw (w.setCell ⟨b, 8, none⟩ (.pointer q')) b d i p q' := h.set_ 8 _

set_option maxHeartbeats 2000000 in
theorem twigOf_split (d : Nd) (i : Nat) (f : Int) (R : Nat) (c : Nat → Option Addr) (w : World) (h : Rest w R c) (h0 : (d.left == 0) = false) :
    Calls Tryz.prog 112 #[ndV d, .int .i64 i, .int .i64 f, .pointer (some ⟨R, 0, none⟩)] w fun e w' =>
      e = .returned (.pointer (twP (w.heap.size + 1) f d (takeV c d.left) (takeV (takeC c d.left) d.right))) ∧
      Tw w' (w.heap.size + 1) d i (takeV c d.left) (takeV (takeC c d.left) d.right) ∧ Rest w' R (takeC (takeC c d.left) d.right) ∧ w.grownBy w' (some R) := by
  have H0 := hid h0
  have hRw := h.lt
  go_enter Tryz.func112, Tryz.ntmps112
  go_wp2_with fail
  refine (isLeaf_any d _).mono ?_
  rintro e w1 ⟨rfl, hb1⟩
  rw [H0.out]
  have hT := (tw_new w d i).below hb1 (tw_new w d i).lt
  have hN := (nd_new w d i).below hb1 (nd_new w d i).lt
  have hW := (be_new w d i).trans (hb1.mono (be_new w d i).size)
  have hR := h.below hW h.lt
  clear hb1 h h0
  obtain ⟨c0, c1, c2, c3, c4, c5⟩ := ndA_cells hN
  go_wp2_with fail
  refine (take_any R c d.left _ hR).mono ?_
  rintro e w2 ⟨rfl, hR2, hg2⟩
  have hT2 := hT.grown hg2 (by simp; omega)
  have hN2 := hN.grown hg2 (by simp; omega)
  have hs2 := hg2.size
  have hW2 : w.grownBy w2 (some R) := ⟨hg2.os.trans hW.os, hg2.tape.trans hW.tape, hg2.output.trans hW.output, Nat.le_trans hW.size hg2.size, fun k hk hne => (hg2.block k (Nat.lt_of_lt_of_le hk hW.size) hne).trans (hW.block k hk)⟩
  clear hT hN hR hg2 c0 c1 c2 c3 c4 c5 hs2 hW
  have t7 : w2.cell? ⟨w.heap.size + 1, 7, none⟩ = some (.pointer none) := hT2.cell 7
  have f7 := hT2.frozen 7
  have hlt2 := hT2.lt
  obtain ⟨c0, c1, c2, c3, c4, c5⟩ := ndA_cells hN2
  go_wp2_with fail
  have hR3 : Rest (w2.setCell ⟨w.heap.size + 1, 7, none⟩ (.pointer (takeV c d.left))) R (takeC c d.left) := hR2.keep (Below.heap_setCell _ _ _ _ (by simp; omega))
  have hN3 : Blk (w2.setCell ⟨w.heap.size + 1, 7, none⟩ (.pointer (takeV c d.left))) w.heap.size 58 (ndA d) := hN2.far (by simp) _
  have hT3 := tw_set7 hT2 (takeV c d.left)
  have hW3 := grown_setNew (p := ⟨w.heap.size + 1, 7, none⟩) hW2 (by simp) (.pointer (takeV c d.left))
  clear hT2 hN2 hR2 hW2 c0 c1 c2 c3 c4 c5 t7 f7 hlt2
  refine (take_any R (takeC c d.left) d.right _ hR3).mono ?_
  rintro e w3 ⟨rfl, hR4, hg3⟩
  have hT4 := hT3.grown hg3 (by simp; omega)
  have hN4 := hN3.grown hg3 (by simp; omega)
  have hW4 := grown_trans hW3 hg3
  clear hT3 hN3 hR3 hg3 hW3
  have t8 : w3.cell? ⟨w.heap.size + 1, 8, none⟩ = some (.pointer none) := hT4.cell 8
  have f8 := hT4.frozen 8
  have hlt4 := hT4.lt
  obtain ⟨c0, c1, c2, c3, c4, c5⟩ := ndA_cells hN4
  go_wp2_with fail
  have hR5 : Rest (w3.setCell ⟨w.heap.size + 1, 8, none⟩ (.pointer (takeV (takeC c d.left) d.right))) R (takeC (takeC c d.left) d.right) := hR4.keep (Below.heap_setCell _ _ _ _ (by simp; omega))
  have hT5 := tw_set8 hT4 (takeV (takeC c d.left) d.right)
  have hW5 := grown_setNew (p := ⟨w.heap.size + 1, 8, none⟩) hW4 (by simp) (.pointer (takeV (takeC c d.left) d.right))
  clear hT4 hN4 hR4 hW4 c0 c1 c2 c3 c4 c5 t8 f8 hlt4
  refine (splitOk_any d f _).mono ?_
  rintro e w4 ⟨rfl, hb4⟩
  have hR6 := hR5.below hb4 hR5.lt
  have hT6 := hT5.below hb4 hT5.lt
  have hW6 := grown_below hW5 hb4 hW5.size
  clear hR5 hT5 hW5 hb4
  have t7 : w4.cell? ⟨w.heap.size + 1, 7, none⟩ = some (.pointer (takeV c d.left)) := hT6.cell 7
  have t8 : w4.cell? ⟨w.heap.size + 1, 8, none⟩ = some (.pointer (takeV (takeC c d.left) d.right)) := hT6.cell 8
  cases hsp : spB f d
  · have HS : Hid (twP (w.heap.size + 1) f d (takeV c d.left) (takeV (takeC c d.left) d.right) = none) := by show twP _ f d _ _ = _; unfold twP splitP; rw [hsp]; rfl
    clear hsp
    go_wp2_with fail
    go_ret
    exact ⟨by rw [HS.out]; rfl, hT6, hR6, hW6⟩
  cases hp : (takeV c d.left).isNone
  · cases hq : (takeV (takeC c d.left) d.right).isNone
    · have HS : Hid (twP (w.heap.size + 1) f d (takeV c d.left) (takeV (takeC c d.left) d.right) = some ⟨w.heap.size + 1, 0, none⟩) := by
        show twP _ f d _ _ = _
        unfold twP splitP
        rw [hsp, ← Option.not_isNone, hp, ← Option.not_isNone, hq]
        rfl
      clear hsp
      go_wp2_with fail
      go_ret
      exact ⟨by rw [HS.out]; rfl, hT6, hR6, hW6⟩
    · have HS : Hid (twP (w.heap.size + 1) f d (takeV c d.left) (takeV (takeC c d.left) d.right) = none) := by
        show twP _ f d _ _ = _
        unfold twP splitP
        rw [hsp, ← Option.not_isNone, hp, ← Option.not_isNone, hq]
        rfl
      clear hsp
      go_wp2_with fail
      go_ret
      exact ⟨by rw [HS.out]; rfl, hT6, hR6, hW6⟩
  · have HS : Hid (twP (w.heap.size + 1) f d (takeV c d.left) (takeV (takeC c d.left) d.right) = none) := by
      show twP _ f d _ _ = _
      unfold twP splitP
      rw [hsp, ← Option.not_isNone, hp]
      rfl
    clear hsp
    go_wp2_with fail
    go_ret
    exact ⟨by rw [HS.out]; rfl, hT6, hR6, hW6⟩
end

/-! ### SpanB -/
section
set_option linter.unusedVariables false
set_option linter.unusedSimpArgs false
open Go.RowKit Go.Deep

/-- A span as the program's value. -/
abbrev spV (d : Sp) : Value := .agg #[.int .i64 d.lo, .int .i64 d.hi, .bool d.gone]
/-- Three cells at an address are the span d. -/
def SpAt (w : World) (b o : Nat) (d : Sp) : Prop :=
  w.cell? ⟨b, o, none⟩ = some (.int .i64 d.lo) ∧ w.cell? ⟨b, o + 1, none⟩ = some (.int .i64 d.hi) ∧ w.cell? ⟨b, o + 2, none⟩ = some (.bool d.gone)
/-- The slice at A reads as n spans g, and lies below block B. -/
def RdS (w : World) (B : Nat) (A : Option Addr) (n : Nat) (g : Nat → Sp) : Prop :=
  0 < n → ∃ b off, A = some ⟨b, off, none⟩ ∧ b < B ∧ ∀ i, i < n → SpAt w b (off + i * 3) (g i)
section
variable {w w' : World} {B B' n : Nat} {A : Option Addr} {g : Nat → Sp}
theorem SpAt.keep {b o : Nat} {d : Sp} (h : SpAt w b o d) (hk : ∀ o, w'.cell? ⟨b, o, none⟩ = w.cell? ⟨b, o, none⟩) : SpAt w' b o d := by
  unfold SpAt at h ⊢
  simp only [hk]
  exact h
theorem RdS.keep (h : RdS w B A n g) (hk : ∀ p : Addr, p.block < B → w'.cell? p = w.cell? p) : RdS w' B A n g := fun hn => by
  obtain ⟨b, off, e, hb, hc⟩ := h hn
  exact ⟨b, off, e, hb, fun i hi => (hc i hi).keep fun o => hk ⟨b, o, none⟩ hb⟩
theorem RdS.more (h : RdS w B A n g) (hB : B ≤ B') : RdS w B' A n g := fun hn => by
  obtain ⟨b, off, e, hb, hc⟩ := h hn
  exact ⟨b, off, e, by omega, hc⟩
theorem RdS.below (h : RdS w B A n g) (hb : Below B w w') : RdS w' B A n g := h.keep fun _ hp => hb.cell hp
theorem RdS.to (h : RdS w B A n g) (hb : Below B w w') (hB : B ≤ w'.heap.size) : RdS w' w'.heap.size A n g := (h.below hb).more hB
theorem RdS.at_ {k : Nat} (h : RdS w B A n g) (hk : k < n) : ∃ b off, A = some ⟨b, off, none⟩ ∧ b < B ∧ SpAt w b (off + k * 3) (g k) := by
  obtain ⟨b, off, e, hb, hc⟩ := h (by omega)
  exact ⟨b, off, e, hb, hc k hk⟩
end
theorem rds_none {w : World} {B : Nat} {A : Option Addr} {g : Nat → Sp} : RdS w B A 0 g := fun h => absurd h (by omega)

/-- The cells of a span. -/
def spC (d : Sp) : List Value := [.int .i64 d.lo, .int .i64 d.hi, .bool d.gone]
/-- Block b, of element type t, bears the spans g at its first n places. -/
def RowS (w : World) (t : TypeId) (b n : Nat) (g : Nat → Sp) : Prop :=
  ∃ cs : Array Value, Blk w b t cs ∧ n * 3 ≤ cs.size ∧ ∀ i, i < n → ∀ j, j < 3 → cs[i * 3 + j]? = (spC (g i))[j]?
section
variable {w w' : World} {t : TypeId} {b n : Nat} {g : Nat → Sp}
theorem RowS.lt (h : RowS w t b n g) : b < w.heap.size := by obtain ⟨cs, hb, _⟩ := h; exact hb.lt
theorem RowS.spAt {i : Nat} (h : RowS w t b n g) (hi : i < n) : SpAt w b (i * 3) (g i) := by
  obtain ⟨cs, hb, hn, hc⟩ := h
  have h0 := hc i hi 0 (by omega); have h1 := hc i hi 1 (by omega); have h2 := hc i hi 2 (by omega)
  exact ⟨(hb.cell _).trans h0, (hb.cell _).trans h1, (hb.cell _).trans h2⟩
theorem RowS.rd {B : Nat} (h : RowS w t b n g) (hB : b < B) : RdS w B (some ⟨b, 0, none⟩) n g := fun _ =>
  ⟨b, 0, rfl, hB, fun i hi => by rw [Nat.zero_add]; exact h.spAt hi⟩
theorem RowS.keep (h : RowS w t b n g) (hk : w'.heap[b]? = w.heap[b]?) : RowS w' t b n g := by
  obtain ⟨cs, hb, hn, hc⟩ := h
  exact ⟨cs, hk.trans hb, hn, hc⟩
theorem RowS.below {B : Nat} (h : RowS w t b n g) (hb : Below B w w') (hB : b < B) : RowS w' t b n g := h.keep (hb.block b hB)
theorem RowS.grown {b' : Nat} (h : RowS w t b n g) (hg : w.grownBy w' (some b')) (hne : b ≠ b') : RowS w' t b n g :=
  h.keep (hg.block b h.lt (by simpa using hne))
end
theorem rds_of {w : World} {t : TypeId} {b n : Nat} {g : Nat → Sp} (h : RowS w t b n g) : RdS w w.heap.size (some ⟨b, 0, none⟩) n g := h.rd h.lt

/-- Three cells written from place k * 3 on. -/
def put3 (cs : Array Value) (k : Nat) (d : Sp) : Array Value :=
  ((cs.setIfInBounds (k * 3) (.int .i64 d.lo)).setIfInBounds (k * 3 + 1) (.int .i64 d.hi)).setIfInBounds (k * 3 + 2) (.bool d.gone)
theorem put3_size (cs : Array Value) (k : Nat) (d : Sp) : (put3 cs k d).size = cs.size := by simp [put3]
theorem put3_in {cs : Array Value} {k : Nat} (d : Sp) (h : k * 3 + 3 ≤ cs.size) (j : Nat) (hj : j < 3) : (put3 cs k d)[k * 3 + j]? = (spC d)[j]? := by
  unfold put3 spC
  obtain rfl | rfl | rfl : j = 0 ∨ j = 1 ∨ j = 2 := by omega
  all_goals (simp only [Array.getElem?_setIfInBounds, Array.size_setIfInBounds]; simp; try omega)
theorem put3_out {cs : Array Value} {k : Nat} (d : Sp) (p : Nat) (hp : p < k * 3 ∨ k * 3 + 3 ≤ p) : (put3 cs k d)[p]? = cs[p]? := by
  unfold put3
  rw [Array.getElem?_setIfInBounds_ne (by omega), Array.getElem?_setIfInBounds_ne (by omega), Array.getElem?_setIfInBounds_ne (by omega)]
theorem blk_put3 {w : World} {b : Nat} {t : TypeId} {cs : Array Value} (h : Blk w b t cs) (k : Nat) (d : Sp) :
    Blk (((w.setCell ⟨b, k * 3, none⟩ (.int .i64 d.lo)).setCell ⟨b, k * 3 + 1, none⟩ (.int .i64 d.hi)).setCell ⟨b, k * 3 + 2, none⟩ (.bool d.gone)) b t (put3 cs k d) :=
  ((h.set_ (k * 3) (.int .i64 d.lo)).set_ (k * 3 + 1) (.int .i64 d.hi)).set_ (k * 3 + 2) (.bool d.gone)
theorem below_put3 {B : Nat} {a w : World} {b : Nat} (h : Below B a w) (hb : B ≤ b) (k : Nat) (d : Sp) :
    Below B a (((w.setCell ⟨b, k * 3, none⟩ (.int .i64 d.lo)).setCell ⟨b, k * 3 + 1, none⟩ (.int .i64 d.hi)).setCell ⟨b, k * 3 + 2, none⟩ (.bool d.gone)) := by
  have h0 := h.setCell (p := ⟨b, k * 3, none⟩) hb (.int .i64 d.lo)
  have h1 := h0.setCell (p := ⟨b, k * 3 + 1, none⟩) hb (.int .i64 d.hi)
  exact h1.setCell (p := ⟨b, k * 3 + 2, none⟩) hb (.bool d.gone)

end

/-! ### BoxA -/
section
set_option linter.unusedVariables false
set_option linter.unusedSimpArgs false
open Go.RowKit Go.Deep

theorem spanB_yes {d : Sp} (h : d.lo ≤ d.hi) : spanB d = (decide (-1000000 ≤ d.lo) && decide (d.hi ≤ 1000000)) := by unfold spanB; rw [if_pos h]
theorem spanB_no {d : Sp} (h : ¬ d.lo ≤ d.hi) : spanB d = ((d.lo == 1 && d.hi == 0) && d.gone) := by unfold spanB; rw [if_neg h]

end
end Go.Proofs.YtmkipdhappikhaaGreatDoor
