/- A tree put below a split, as the law does it. -/
import Derived.Test.YtmlcpjcchgihfaaMissLaw
namespace Go.Proofs.Ytmlcpjcchgihfaa
open Go.RowKit Go.Deep

@[go_sem] theorem buildLeafN (x : Int) (w : World) : (Instr.build 33 #[(5, .int .i64 x)]).run Try.prog w = .ok (.agg #[.int .i64 0, .int .i64 0, .int .i64 0, .int .i64 0, .bool false, .int .i64 x]) w := run_build w 33 _ _ (by kernel_rfl)
theorem ndC_cells (d : Nd) : ∀ u ∈ ndC d, u.oneCell' = true := by
  intro u hu
  simp only [ndC, List.mem_cons, List.not_mem_nil, or_false] at hu
  rcases hu with rfl | rfl | rfl | rfl | rfl | rfl <;> rfl
theorem new_nodeC (w : World) (d : Nd) : ∀ j u, (ndC d)[j]? = some u → (w.alloc (.cells #[.int .i64 d.feat, .int .i64 d.cut, .int .i64 d.left, .int .i64 d.right, .bool d.miss, .int .i64 d.value] 33)).cell? ⟨w.heap.size, j, none⟩ = some u :=
  fun j u hu => ((Blk.new w 33 #[.int .i64 d.feat, .int .i64 d.cut, .int .i64 d.left, .int .i64 d.right, .bool d.miss, .int .i64 d.value]).cell j).trans (by rw [← hu]; simp [ndC])

theorem new_cells (w : World) (cs : Array Value) (d : Nd) (hd : cs.toList = ndC d) : ∀ j u, (ndC d)[j]? = some u → (w.alloc (.cells cs 33)).cell? ⟨w.heap.size, j, none⟩ = some u :=
  fun j u hu => ((Blk.new w 33 cs).cell j).trans (by rw [← hu, ← hd, Array.getElem?_toList])

set_option maxRecDepth 100000 in
set_option maxHeartbeats 4000000 in
theorem under_any (A : Option Addr) (m c : Nat) (g : Nat → Nd) (d : Nd) (v : Int) (w : World) (h : RdN w w.heap.size A m g) (hm : m ≤ 13) (hu : Hid (∀ i, i < m → (g i).left ≤ 15 ∧ (g i).right ≤ 15 ∧ (0 < (g i).left → -15 ≤ (g i).right))) :
    Calls Try.prog 34 #[.slice A m c, ndV d, .int .i64 v] w fun e w' =>
      ∃ b c', e = .returned (.slice (some ⟨b, 0, none⟩) (m + 2) c') ∧ w.heap.size ≤ b ∧ RowN w' 33 b (m + 2) (under g m d v) ∧ Below w.heap.size w w' := by
  obtain ⟨i0, hi0, hz0, hz1, hz2⟩ := info_parts info_node
  go_enter Try.func34, Try.ntmps34
  go_wp2_with fail
  have hb2 := ((Below.refl w.heap.size w).alloc (Nat.le_refl _) (.cells #[.int .i64 d.feat, .int .i64 d.cut, .int .i64 1, .int .i64 ((m : Int) + 1), .bool d.miss, .int .i64 d.value] 33)).alloc (by simp) (.cells #[.int .i64 d.feat, .int .i64 d.cut, .int .i64 1, .int .i64 ((m : Int) + 1), .bool d.miss, .int .i64 d.value] 33)
  go_loopw [7, 8] (fun o i wr => ∃ (k : Nat) (A' : Option Addr) (c' : Nat), k ≤ m ∧ i = .int .i64 k ∧ o = .slice A' (k + 1) c' ∧ wr.ownsRow w.heap.size 33 6 (.slice A' (k + 1) c') (k + 1) (nodesC (k + 1) (under g m d v)) ∧ Below w.heap.size w wr) (fun _ i _ => m - (intOf i).toNat)
  case atStart =>
    have hl := World.ownsRow_lit (base := w.heap.size) (e := 33) (size := 6) (w.alloc (.cells #[.int .i64 d.feat, .int .i64 d.cut, .int .i64 1, .int .i64 ((m : Int) + 1), .bool d.miss, .int .i64 d.value] 33)) #[.int .i64 d.feat, .int .i64 d.cut, .int .i64 1, .int .i64 ((m : Int) + 1), .bool d.miss, .int .i64 d.value] 1 (by simp) (by unfold maxLen; omega) rfl
    have e1 : nodesC (0 + 1) (under g m d v) = (#[.int .i64 d.feat, .int .i64 d.cut, .int .i64 1, .int .i64 ((m : Int) + 1), .bool d.miss, .int .i64 d.value] : Array Value).toList := by rw [nodesC_succ]; simp [nodesC, under, ndC]
    have e2 : (w.alloc (.cells #[.int .i64 d.feat, .int .i64 d.cut, .int .i64 1, .int .i64 ((m : Int) + 1), .bool d.miss, .int .i64 d.value] 33)).heap.size = w.heap.size + 1 := by simp
    rw [e2] at hl
    exact ⟨0, _, _, Nat.zero_le _, rfl, rfl, by rw [e1]; exact hl, hb2⟩
  case round =>
    obtain ⟨k, A', c', hk, rfl, rfl, hown, hbl⟩ := hrel
    by_cases hlt : k < m
    · obtain ⟨b, off, rfl, hb, c0, c1, c2, c3, c4, c5⟩ := (h.below hbl).at_ hlt
      have hl : (k : Int) < (m : Int) := by omega
      have hl0 : (0 : Int) ≤ (k : Int) := by omega
      obtain ⟨u1, u2, u3⟩ := hu.out k hlt
      by_cases q0 : 0 < (g k).left
      · have u3' := u3 q0
        have hun : Hid (under g m d v (k + 1) = ⟨(g k).feat, (g k).cut, (g k).left + 1, (g k).right + 1, (g k).miss, (g k).value⟩) := (under_in d v hlt).trans (shift_yes q0)
        obtain ⟨ND, hND⟩ : ∃ ND : Nd, ND = ⟨(g k).feat, (g k).cut, (g k).left + 1, (g k).right + 1, (g k).miss, (g k).value⟩ := ⟨_, rfl⟩
        rw [← hND] at hun
        clear u3
        have hownA := (hown.alloc (.cells #[.int .i64 (g k).feat, .int .i64 (g k).cut, .int .i64 ((g k).left + 1), .int .i64 ((g k).right + 1), .bool (g k).miss, .int .i64 (g k).value] 33)).alloc (.cells #[.int .i64 (g k).feat, .int .i64 (g k).cut, .int .i64 ((g k).left + 1), .int .i64 ((g k).right + 1), .bool (g k).miss, .int .i64 (g k).value] 33)
        have hblA := (hbl.alloc hbl.size (.cells #[.int .i64 (g k).feat, .int .i64 (g k).cut, .int .i64 ((g k).left + 1), .int .i64 ((g k).right + 1), .bool (g k).miss, .int .i64 (g k).value] 33)).alloc (by have := hbl.size; simp; omega) (.cells #[.int .i64 (g k).feat, .int .i64 (g k).cut, .int .i64 ((g k).left + 1), .int .i64 ((g k).right + 1), .bool (g k).miss, .int .i64 (g k).value] 33)
        have HC := hid (new_cells (wr.alloc (.cells #[.int .i64 (g k).feat, .int .i64 (g k).cut, .int .i64 ((g k).left + 1), .int .i64 ((g k).right + 1), .bool (g k).miss, .int .i64 (g k).value] 33)) #[.int .i64 (g k).feat, .int .i64 (g k).cut, .int .i64 ((g k).left + 1), .int .i64 ((g k).right + 1), .bool (g k).miss, .int .i64 (g k).value] ND (by rw [hND]; rfl))
        clear hown
        go_wp2_with (at_builtin; refine wpList_append_own _ rfl (.tmp 38) (.tmp 40) 24 rfl w.heap.size 33 i0 (ndV ⟨0, 0, 0, 0, false, 0⟩) 6 48 Try.underlying24 hi0 hz0 hz1 hz2 rfl (by decide) _ (k + 1) _ rfl hownA ⟨wr.heap.size + 1, 0, none⟩ 1 1 (ndC ND) rfl rfl (fun j u hu => by simpa [Addr.add_lit] using HC.out j u hu) (ndC_cells _) (by unfold maxLen; omega) (by omega) hblA.size ?_)
        intro v' w3 hown3 hg3 _
        have hbl3 : Below w.heap.size w w3 := hblA.grown hg3 hblA.size (fun x hx => (hownA.lt x hx).1)
        obtain ⟨A3, c3, rfl⟩ := own_form hown3
        clear hg3 hownA hblA
        go_wp2_with fail
        go_roundw
        case rel => exact ⟨k + 1, A3, c3, by omega, by go_num, rfl, by rw [nodesC_succ (k + 1), hun.out, hND]; exact hown3, hbl3⟩
        case measure => simp [intOf]; omega
      · have hun : Hid (under g m d v (k + 1) = ⟨(g k).feat, (g k).cut, (g k).left, (g k).right, (g k).miss, (g k).value⟩) := (under_in d v hlt).trans (shift_no q0)
        obtain ⟨ND, hND⟩ : ∃ ND : Nd, ND = ⟨(g k).feat, (g k).cut, (g k).left, (g k).right, (g k).miss, (g k).value⟩ := ⟨_, rfl⟩
        rw [← hND] at hun
        clear u3
        have hownA := (hown.alloc (.cells #[.int .i64 (g k).feat, .int .i64 (g k).cut, .int .i64 (g k).left, .int .i64 (g k).right, .bool (g k).miss, .int .i64 (g k).value] 33)).alloc (.cells #[.int .i64 (g k).feat, .int .i64 (g k).cut, .int .i64 (g k).left, .int .i64 (g k).right, .bool (g k).miss, .int .i64 (g k).value] 33)
        have hblA := (hbl.alloc hbl.size (.cells #[.int .i64 (g k).feat, .int .i64 (g k).cut, .int .i64 (g k).left, .int .i64 (g k).right, .bool (g k).miss, .int .i64 (g k).value] 33)).alloc (by have := hbl.size; simp; omega) (.cells #[.int .i64 (g k).feat, .int .i64 (g k).cut, .int .i64 (g k).left, .int .i64 (g k).right, .bool (g k).miss, .int .i64 (g k).value] 33)
        have HC := hid (new_cells (wr.alloc (.cells #[.int .i64 (g k).feat, .int .i64 (g k).cut, .int .i64 (g k).left, .int .i64 (g k).right, .bool (g k).miss, .int .i64 (g k).value] 33)) #[.int .i64 (g k).feat, .int .i64 (g k).cut, .int .i64 (g k).left, .int .i64 (g k).right, .bool (g k).miss, .int .i64 (g k).value] ND (by rw [hND]; rfl))
        clear hown
        go_wp2_with (at_builtin; refine wpList_append_own _ rfl (.tmp 38) (.tmp 40) 24 rfl w.heap.size 33 i0 (ndV ⟨0, 0, 0, 0, false, 0⟩) 6 48 Try.underlying24 hi0 hz0 hz1 hz2 rfl (by decide) _ (k + 1) _ rfl hownA ⟨wr.heap.size + 1, 0, none⟩ 1 1 (ndC ND) rfl rfl (fun j u hu => by simpa [Addr.add_lit] using HC.out j u hu) (ndC_cells _) (by unfold maxLen; omega) (by omega) hblA.size ?_)
        intro v' w3 hown3 hg3 _
        have hbl3 : Below w.heap.size w w3 := hblA.grown hg3 hblA.size (fun x hx => (hownA.lt x hx).1)
        obtain ⟨A3, c3, rfl⟩ := own_form hown3
        clear hg3 hownA hblA
        go_wp2_with fail
        go_roundw
        case rel => exact ⟨k + 1, A3, c3, by omega, by go_num, rfl, by rw [nodesC_succ (k + 1), hun.out, hND]; exact hown3, hbl3⟩
        case measure => simp [intOf]; omega
    · have e : k = m := by omega
      subst e
      have hun : Hid (under g k d v (k + 1) = ⟨0, 0, 0, 0, false, v⟩) := under_last g k d v
      have hownA := hown.alloc (.cells #[.int .i64 0, .int .i64 0, .int .i64 0, .int .i64 0, .bool false, .int .i64 v] 33)
      have hblA := hbl.alloc hbl.size (.cells #[.int .i64 0, .int .i64 0, .int .i64 0, .int .i64 0, .bool false, .int .i64 v] 33)
      have HC := hid (new_nodeC wr ⟨0, 0, 0, 0, false, v⟩)
      clear hown
      go_wp2_with (at_builtin; refine wpList_append_own _ rfl (.tmp 42) (.tmp 45) 24 rfl w.heap.size 33 i0 (ndV ⟨0, 0, 0, 0, false, 0⟩) 6 48 Try.underlying24 hi0 hz0 hz1 hz2 rfl (by decide) _ (k + 1) _ rfl hownA ⟨wr.heap.size, 0, none⟩ 1 1 (ndC ⟨0, 0, 0, 0, false, v⟩) rfl rfl (fun j u hu => by simpa [Addr.add_lit] using HC.out j u hu) (ndC_cells _) (by unfold maxLen; omega) (by omega) hblA.size ?_)
      intro v' w3 hown3 hg3 _
      have hbl3 : Below w.heap.size w w3 := hblA.grown hg3 hblA.size (fun x hx => (hownA.lt x hx).1)
      obtain ⟨A3, c3, rfl⟩ := own_form hown3
      clear hg3 hownA hblA
      go_wp2_with fail
      go_ret
      have hown4 : w3.ownsRow w.heap.size 33 6 (.slice A3 (k + 2) c3) (k + 2) (nodesC (k + 2) (under g k d v)) := by rw [nodesC_succ (k + 1), hun.out]; exact hown3
      obtain ⟨b3, rfl, hb3, _, hrow⟩ := own_rowN hown4 (by omega)
      exact ⟨b3, c3, rfl, hb3, hrow, hbl3⟩
end Go.Proofs.Ytmlcpjcchgihfaa
