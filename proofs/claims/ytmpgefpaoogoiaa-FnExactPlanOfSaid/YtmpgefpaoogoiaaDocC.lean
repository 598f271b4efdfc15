/- impl.docOf: a list of numbers made a document value, or refused. -/
import Derived.Test.YtmpgefpaoogoiaaDocB
namespace Go.Proofs.Ytmpgefpaoogoiaa
open Go.RowKit Go.Deep

def pad (n : Nat) (z : Nat → Int) : Nat → Int := fun j => if j < n then z j else 0
def nul : Nat → Int := fun _ => 0
theorem pad_all (n : Nat) (z : Nat → Int) (hn : n ≤ 6) : allTo (pad n z) 6 = allTo z n := by
  cases h : allTo z n with
  | true =>
    refine allTo_of fun k _ => ?_
    unfold pad
    split
    · rename_i hk; exact allTo_true h k hk
    · rfl
  | false =>
    cases h' : allTo (pad n z) 6 with
    | false => rfl
    | true =>
      rw [allTo_of fun k hk => by have := allTo_true h' k (by omega); unfold pad at this; rwa [if_pos hk] at this] at h
      cases h
def numsOf (n : Nat) (z : Nat → Int) : List Value := (List.range n).map fun j => .int .i64 (z j)
theorem numsOf_len (n : Nat) (z : Nat → Int) : (numsOf n z).length = n := by simp [numsOf]
theorem numsOf_at {n : Nat} {z : Nat → Int} {j : Nat} {u : Value} (h : (numsOf n z)[j]? = some u) : j < n ∧ u = .int .i64 (z j) := by
  unfold numsOf at h
  rw [List.getElem?_map, Option.map_eq_some_iff] at h
  obtain ⟨a, ha, rfl⟩ := h
  obtain ⟨hlt, rfl⟩ := List.getElem?_eq_some_iff.1 ha
  simp at hlt
  simp [hlt]
theorem numsOf_one (n : Nat) (z : Nat → Int) : ∀ u ∈ numsOf n z, u.oneCell' = true := by
  intro u hu
  obtain ⟨_, _, rfl⟩ := List.mem_map.1 hu
  rfl
theorem splice_doc (n : Nat) (z : Nat → Int) (hn : n ≤ 6) (m : Int) : (splice (docC nul m).toList 0 (numsOf n z)).toArray = docC (pad n z) m := by
  obtain rfl | rfl | rfl | rfl | rfl | rfl | rfl : n = 0 ∨ n = 1 ∨ n = 2 ∨ n = 3 ∨ n = 4 ∨ n = 5 ∨ n = 6 := by omega
  all_goals rfl

theorem docOf_out (A : Option Addr) (n cap : Nat) (w : World) (hn : n < 1 ∨ 6 < n) (hm : n ≤ 4194304) :
    Calls Try.prog 113 #[.slice A n cap] w fun e w' => e = .returned (.tuple #[docV nul 0, .bool false]) ∧ Below w.heap.size w w' := by
  rcases hn with h | h
  · have h1 : (n : Int) < 1 := by omega
    go_enter Try.func113, Try.ntmps113
    go_wp2_with fail
    exact bodyPost_ret (v := .tuple #[docV nul 0, .bool false]) (by simp [results, Try.results113, go_sem, nul]) rfl ⟨rfl, (Below.refl _ _).alloc (Nat.le_refl _) _⟩
  · have h1 : ¬ (n : Int) < 1 := by omega
    have h2 : (6 : Int) < (n : Int) := by omega
    go_enter Try.func113, Try.ntmps113
    go_wp2_with fail
    exact bodyPost_ret (v := .tuple #[docV nul 0, .bool false]) (by simp [results, Try.results113, go_sem, nul]) rfl ⟨rfl, (Below.refl _ _).alloc (Nat.le_refl _) _⟩

theorem size_int : (Try.prog.info? 2).map (·.size) = some 1 := by kernel_rfl

theorem nums_src {w W : World} {B b off n : Nat} {z : Nat → Int} (hC : Hid (∀ i, i < n → w.cell? ⟨b, off + i, none⟩ = some (.int .i64 (z i)))) (hW : Below B w W) (hb : b < B) :
    ∀ j v, (numsOf n z)[j]? = some v → W.cell? (Addr.add ⟨b, off, none⟩ j) = some v := by
  intro j v hv
  obtain ⟨hj, rfl⟩ := numsOf_at hv
  rw [Addr.add_lit, hW.cell hb]
  exact hC.out j hj

theorem heap_new2 (w : World) (o : Obj) (t : TypeId) (cs : Array Value) : ((w.alloc o).alloc (.cells cs t)).heap[w.heap.size + 1]? = some (.cells cs t (0, 0)) := Blk.new2 w o t cs
/-- What stands in a block of seven cells behind seven stores. -/
def put7 (w : World) (b : Nat) (z : Nat → Int) (n : Int) : World :=
  ((((((w.setCell ⟨b, 0, none⟩ (.int .i64 (z 0))).setCell ⟨b, 1, none⟩ (.int .i64 (z 1))).setCell ⟨b, 2, none⟩ (.int .i64 (z 2))).setCell ⟨b, 3, none⟩ (.int .i64 (z 3))).setCell ⟨b, 4, none⟩ (.int .i64 (z 4))).setCell ⟨b, 5, none⟩ (.int .i64 (z 5))).setCell ⟨b, 6, none⟩ (.int .i64 n)
theorem put7_blk {w : World} {b : Nat} {t : TypeId} {y : Nat → Int} {m : Int} (h : Blk w b t (docC y m)) (z : Nat → Int) (n : Int) : Blk (put7 w b z n) b t (docC z n) := by
  have h7 := ((((((h.set_ 0 (.int .i64 (z 0))).set_ 1 (.int .i64 (z 1))).set_ 2 (.int .i64 (z 2))).set_ 3 (.int .i64 (z 3))).set_ 4 (.int .i64 (z 4))).set_ 5 (.int .i64 (z 5))).set_ 6 (.int .i64 n)
  unfold put7
  have e : (((((((docC y m).setIfInBounds 0 (.int .i64 (z 0))).setIfInBounds 1 (.int .i64 (z 1))).setIfInBounds 2 (.int .i64 (z 2))).setIfInBounds 3 (.int .i64 (z 3))).setIfInBounds 4 (.int .i64 (z 4))).setIfInBounds 5 (.int .i64 (z 5))).setIfInBounds 6 (.int .i64 n) = docC z n := by simp [docC]
  rw [e] at h7
  exact h7
theorem put7_below {B : Nat} {a w : World} {b : Nat} (h : Below B a w) (hb : B ≤ b) (z : Nat → Int) (n : Int) : Below B a (put7 w b z n) := by
  have h0 := h.setCell (p := ⟨b, 0, none⟩) hb (.int .i64 (z 0))
  have h1 := h0.setCell (p := ⟨b, 1, none⟩) hb (.int .i64 (z 1))
  have h2 := h1.setCell (p := ⟨b, 2, none⟩) hb (.int .i64 (z 2))
  have h3 := h2.setCell (p := ⟨b, 3, none⟩) hb (.int .i64 (z 3))
  have h4 := h3.setCell (p := ⟨b, 4, none⟩) hb (.int .i64 (z 4))
  have h5 := h4.setCell (p := ⟨b, 5, none⟩) hb (.int .i64 (z 5))
  exact h5.setCell (p := ⟨b, 6, none⟩) hb (.int .i64 n)

/-- The result of docOf, read out of its variable. -/
theorem docOf_res {W : World} {b : Nat} {z : Nat → Int} {n : Int} {tmps : Array Value} {ok : Bool} (hB : Blk W b 139 (docC z n)) (h2 : tmps[2]?.getD undef = .pointer (some ⟨b, 0, none⟩)) (h3 : tmps[3]?.getD undef = .bool ok) :
    (results Try.f113 tmps).run Try.prog W = .ok (.tuple #[docV z n, .bool ok]) W := by
  obtain ⟨e0, e1, e2, e3, e4, e5, e6⟩ := doc_cells hB
  simp [results, Try.results113, go_sem, e0, e1, e2, e3, e4, e5, e6, h2, h3]

theorem inRange_is (z : Nat → Int) (n : Int) (r : Bool) (hr : allTo z 6 = r) (w : World) : Calls Try.prog 156 #[docV z n] w fun e w' =>
    e = .returned (.bool r) ∧ Below w.heap.size w w' := by
  subst hr
  exact inRange_any z n w
theorem doc_frozen {w : World} {b : Nat} {t : TypeId} {cs : Array Value} (h : Blk w b t cs) :
    w.frozen? ⟨b, 0, none⟩ = false ∧ w.frozen? ⟨b, 1, none⟩ = false ∧ w.frozen? ⟨b, 2, none⟩ = false ∧ w.frozen? ⟨b, 3, none⟩ = false ∧ w.frozen? ⟨b, 4, none⟩ = false ∧ w.frozen? ⟨b, 5, none⟩ = false ∧ w.frozen? ⟨b, 6, none⟩ = false :=
  ⟨h.frozen 0, h.frozen 1, h.frozen 2, h.frozen 3, h.frozen 4, h.frozen 5, h.frozen 6⟩

set_option maxHeartbeats 800000 in
theorem docOf_in (A : Option Addr) (n cap : Nat) (z : Nat → Int) (w : World) (h : Rd w w.heap.size A n z) (h1 : 1 ≤ n) (h6 : n ≤ 6) (hall : allTo z n = true) :
    Calls Try.prog 113 #[.slice A n cap] w fun e w' => e = .returned (.tuple #[docV (pad n z) n, .bool true]) ∧ Below w.heap.size w w' := by
  obtain ⟨b, off, rfl, hb, hc⟩ := h (by omega)
  have hC := hid hc
  clear hc
  have hp : Hid (allTo (pad n z) 6 = true) := (pad_all n z h6).trans hall
  clear hall
  have g1 : ¬ (n : Int) < 1 := by omega
  have g2 : ¬ (6 : Int) < (n : Int) := by omega
  go_enter Try.func113, Try.ntmps113
  go_wp2_with (with_reducible refine wpList_copy_splice rfl (.tmp 18) (.tmp 19) 25 25 rfl 2 Try.underlying25 size_int _ _ _ _ _ _ rfl rfl (w.heap.size + 1) 0 [.int .i64 0, .int .i64 0, .int .i64 0, .int .i64 0, .int .i64 0, .int .i64 0, .int .i64 n] 139 (heap_new2 _ _ _ _) (numsOf n z) (by rw [numsOf_len]; exact (Nat.min_eq_left h6).symm) (fun _ => ⟨rfl, _, rfl, nums_src hC (((Below.refl _ _).alloc (Nat.le_refl _) _).alloc (by simp) _) hb⟩) (by rw [numsOf_len]; simp; omega) (numsOf_one n z) (w.heap.size + 1) _ (Below.refl _ _) (Nat.le_refl _) ?_)
  intro w1 hd hb1
  have hD : Blk w1 (w.heap.size + 1) 139 (docC (pad n z) n) := by
    rw [← splice_doc n z h6]
    exact hd.out
  have hR : Blk w1 w.heap.size 139 (docC nul 0) := Blk.below ((Blk.new w _ _).alloc _) hb1 (by simp)
  have hb2 : Below w.heap.size w w1 := (((Below.refl _ _).alloc (Nat.le_refl _) _).alloc (by simp) _).trans (hb1.mono (by simp))
  clear hb1 hd
  have hlt : w.heap.size + 1 < w1.heap.size := hD.lt
  obtain ⟨d0, d1, d2, d3, d4, d5, d6⟩ := doc_cells hD
  go_wp2_with (go_at_call 156; refine (inRange_is (pad n z) n true hp.out _).mono ?_; rintro e w2 ⟨rfl, hb3⟩; have hD2 := hD.below hb3 hD.lt; have hR2 := hR.below hb3 hR.lt; have hb4 := hb2.trans (hb3.mono hb2.size); clear hb3 hb2 d0 d1 d2 d3 d4 d5 d6; obtain ⟨d0, d1, d2, d3, d4, d5, d6⟩ := doc_cells hD2; obtain ⟨r0, r1, r2, r3, r4, r5, r6⟩ := doc_cells hR2; obtain ⟨f0, f1, f2, f3, f4, f5, f6⟩ := doc_frozen hR2)
  have hF := put7_blk hR2 (pad n z) n
  have hG := put7_below hb4 (Nat.le_refl _) (pad n z) n
  exact bodyPost_ret (docOf_res hF rfl rfl) rfl ⟨rfl, hG⟩
end Go.Proofs.Ytmpgefpaoogoiaa
