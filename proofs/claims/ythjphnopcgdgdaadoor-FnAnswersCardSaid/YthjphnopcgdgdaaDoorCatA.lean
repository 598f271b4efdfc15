/- slices.Grow and slices.Concat, at rows of strings. -/
import Derived.Test.YthjphnopcgdgdaaDoorTxS
import Derived.Test.YthjphnopcgdgdaaDoorTxW
import Derived.Lib.AppendZeros
namespace Go.Proofs.YthjphnopcgdgdaaDoor
open Go.RowKit Go.Deep

set_option maxRecDepth 100000 in
theorem growS_any (N : Nat) (w : World) (h0 : 0 < N) (hN : N ≤ 8388608) :
    Calls Tryd.prog 62 #[.slice none 0 0, .int .i64 N] w fun e w' => ∃ v, e = .returned v ∧ w'.ownsRow w.heap.size 9 1 v 0 (strT []) ∧ Below w.heap.size w w' := by
  obtain ⟨i0, hi0, hz0, hz1, hz2⟩ := info_strT_parts
  have hr := Lib.run_append_nil_zeros (P := Tryd.prog) w 54 3 54 9 i0 (.string ByteArray.empty) .i64 .i64 Tryd.underlying54 Tryd.underlying3 hi0 hz0 N h0 (by rw [hz1]; omega) (by omega) (by rw [hz2]; omega)
  have hg1 := grownCap_ge w N 0 9
  have hg2 := grownCap_le_maxLen w N 0 9 (by unfold maxLen; omega)
  obtain ⟨C, hC⟩ : ∃ C, grownCap w N 0 9 = C := ⟨_, rfl⟩
  rw [hC] at hr hg1 hg2
  have HR := hid hr
  have i0' : (0 : Int) < (N : Int) := by omega
  clear hr hC
  go_enter Tryd.func62, Tryd.ntmps62
  go_wp2_with (at_builtin; refine Lib.wpList_append_run _ rfl (.tmp 20) (.tmp 21) 54 3 rfl _ _ rfl rfl _ _ HR.out ?_)
  go_ret
  refine ⟨_, rfl, ?_, ((Below.refl w.heap.size w).drew).alloc (Nat.le_refl _) _⟩
  refine ⟨by simp [strT], .inr ⟨w.heap.size, C, _, rfl, Nat.le_refl _, Blk.new w.drew _ _, Nat.zero_le _, hg2, ?_, by simp [strT]⟩⟩
  rw [Array.size_append, size_zeroCells, size_zeroCells]
  have e1 : (#[Value.string ByteArray.empty] : Array Value).size = 1 := rfl
  rw [e1]
  omega

/-- The lists one behind the other. -/
def catP (P : Nat → List ByteArray) : Nat → List ByteArray
  | 0 => []
  | k + 1 => catP P k ++ P k
theorem catP_mono {P : Nat → List ByteArray} {k n : Nat} (h : k ≤ n) : (catP P k).length ≤ (catP P n).length := by
  induction n with
  | zero => obtain rfl : k = 0 := by omega
            exact Nat.le_refl _
  | succ n ih =>
    by_cases e : k = n + 1
    · subst e; exact Nat.le_refl _
    · have := ih (by omega)
      show _ ≤ (catP P n ++ P n).length
      rw [List.length_append]
      omega
theorem strT_app (L M : List ByteArray) : strT (L ++ M) = strT L ++ strT M := by simp [strT]
theorem strT_one {L : List ByteArray} : ∀ u ∈ strT L, u.oneCell' = true := by
  intro u hu
  obtain ⟨x, _, rfl⟩ := List.mem_map.1 hu
  rfl
set_option maxRecDepth 100000 in
set_option maxHeartbeats 2000000 in
theorem concat_any (q N : Nat) (P : Nat → List ByteArray) (bk : Nat → Nat) (cs : Array Value) (w : World) (hB : Blk w q 54 cs)
    (hcs : Hid (∀ k, k < N → cs[k]? = some (.slice (some ⟨bk k, 0, none⟩) (P k).length (P k).length)))
    (hrow : Hid (∀ k, k < N → bk k < w.heap.size ∧ ∀ (j : Nat) x, (P k)[j]? = some x → w.cell? ⟨bk k, j, none⟩ = some (.string x)))
    (hN : N ≤ 8) (hpos : 0 < (catP P N).length) (hlen : (catP P N).length ≤ 8388608) :
    Calls Tryd.prog 48 #[.slice (some ⟨q, 0, none⟩) N N] w fun e w' =>
      ∃ A c, e = .returned (.slice A (catP P N).length c) ∧ w'.ownsRow w.heap.size 9 1 (.slice A (catP P N).length c) (catP P N).length (strT (catP P N)) ∧ Below w.heap.size w w' := by
  obtain ⟨i0, hi0, hz0, hz1, hz2⟩ := info_strT_parts
  obtain ⟨T, HT⟩ : ∃ T, Hid ((catP P N).length = T) := ⟨_, hid rfl⟩
  rw [HT.out] at hpos hlen ⊢
  go_enter Tryd.func48, Tryd.ntmps48
  go_wp2_with fail
  go_loopw [3, 11] (fun s i wr => ∃ (k S : Nat), k ≤ N ∧ i = .int .i64 k ∧ s = .int .i64 S ∧ S ≤ T ∧ Hid (S = (catP P k).length) ∧ Hid (Below w.heap.size w wr)) (fun _ i _ => N - (intOf i).toNat)
  case atStart => exact ⟨0, 0, Nat.zero_le _, rfl, rfl, Nat.zero_le _, rfl, Below.refl _ _⟩
  case round =>
    obtain ⟨k, S, hk, rfl, rfl, hST, hS, hbl⟩ := hrel
    by_cases hlt : k < N
    · have i1 : (k : Int) < (N : Int) := by omega
      have i0' : (0 : Int) ≤ (k : Int) := by omega
      have hc := (((hB.below hbl.out hB.lt).cell k).trans (hcs.out k hlt))
      have hm := catP_mono (P := P) (show k + 1 ≤ N by omega)
      have hm2 : (catP P (k + 1)).length = (catP P k).length + (P k).length := by show (catP P k ++ P k).length = _; rw [List.length_append]
      have hS2 := hS.out
      have hTT := HT.out
      obtain ⟨m, hmm⟩ : ∃ m, (P k).length = m := ⟨_, rfl⟩
      rw [hmm] at hc hm2
      have hle : S + m ≤ T := by omega
      have HN : Hid (S + m = (catP P (k + 1)).length) := by show _ = _; omega
      clear hm hm2 hS2 hTT hmm
      go_wp2_with fail
      go_roundw
      case rel => exact ⟨k + 1, S + m, by omega, by go_num, by go_num, hle, HN, hbl⟩
      case measure => simp [intOf]; omega
    · obtain rfl : N = k := by omega
      obtain rfl : S = T := by rw [hS.out, HT.out]
      go_wp2_with fail
      refine (growS_any S _ hpos hlen).mono ?_
      rintro e w1 ⟨v1, rfl, hown1, hb1⟩
      obtain ⟨A1, c1, rfl⟩ := own_formT hown1
      have hbl1 := hbl.out.trans (hb1.mono hbl.out.size)
      have hown1' : w1.ownsRow w.heap.size 9 1 (.slice A1 0 c1) 0 (strT []) := by
        refine ⟨hown1.1, ?_⟩
        rcases hown1.2 with h | ⟨g, cap, cur, e1, e2, e3⟩
        · exact .inl h
        · exact .inr ⟨g, cap, cur, e1, Nat.le_trans hbl.out.size e2, e3⟩
      clear hown1 hb1 hbl hST hS
      go_wp2_with fail
      go_loopw [6, 27] (fun v i wr => ∃ (k : Nat) (L : List ByteArray) (A : Option Addr) (c : Nat), k ≤ N ∧ i = .int .i64 k ∧ v = .slice A L.length c ∧ L.length ≤ S ∧ Hid (L = catP P k) ∧ Hid (wr.ownsRow w.heap.size 9 1 (.slice A L.length c) L.length (strT L)) ∧ Hid (Below w.heap.size w wr)) (fun _ i _ => N - (intOf i).toNat)
      case atStart => exact ⟨0, [], A1, c1, Nat.zero_le _, rfl, rfl, Nat.zero_le _, rfl, hown1', hbl1⟩
      case round =>
        obtain ⟨k', L, A, c, hk', rfl, rfl, hLS, hL, hown, hbl⟩ := hrel
        by_cases hlt : k' < N
        · have i1 : (k' : Int) < (N : Int) := by omega
          have i0' : (0 : Int) ≤ (k' : Int) := by omega
          have hc := (((hB.below hbl.out hB.lt).cell k').trans (hcs.out k' hlt))
          have hm := catP_mono (P := P) (show k' + 1 ≤ N by omega)
          have hm2 : catP P (k' + 1) = L ++ P k' := by show catP P k' ++ P k' = _; rw [hL.out]
          have hTT := HT.out
          have hrw : ∀ (j : Nat) u, (strT (P k'))[j]? = some u → wr.cell? ((⟨bk k', 0, none⟩ : Addr).add j) = some u := fun j u hj => by
            unfold strT at hj
            rw [List.getElem?_map] at hj
            obtain ⟨x, hx, rfl⟩ := Option.map_eq_some_iff.1 hj
            rw [Addr.add_lit, Nat.zero_add, hbl.out.cell (show (⟨bk k', j, none⟩ : Addr).block < w.heap.size from (hrow.out k' hlt).1)]
            exact (hrow.out k' hlt).2 j x hx
          obtain ⟨M, HM⟩ : ∃ M, Hid (M = P k') := ⟨_, hid rfl⟩
          rw [← HM.out] at hc hrw hm2
          have hle : L.length + M.length ≤ S := by rw [hm2, List.length_append] at hm; omega
          have HRW := hid hrw
          have HN : Hid (L ++ M = catP P (k' + 1)) := hid hm2.symm
          have hsz := hbl.out.size
          clear hm hm2 hTT hrw hk'
          go_wp2_with (at_builtin; refine wpList_append_own _ rfl (.tmp 31) (.tmp 32) 54 rfl w.heap.size 9 i0 (.string ByteArray.empty) 1 16 Tryd.underlying54 hi0 hz0 hz1 hz2 rfl (by decide) _ L.length _ rfl hown.out ⟨bk k', 0, none⟩ M.length M.length (strT M) rfl (by rw [strT_len]) HRW.out strT_one (by unfold maxLen; omega) (by omega) hsz ?_)
          intro v' w6 hown6 hg6 _
          have hbl6 : Below w.heap.size w w6 := hbl.out.grown hg6 hsz (fun x hx => (hown.out.lt x hx).1)
          obtain ⟨A6, c6, rfl⟩ := own_formT hown6
          have HO6 : Hid (w6.ownsRow w.heap.size 9 1 (.slice A6 (L ++ M).length c6) (L ++ M).length (strT (L ++ M))) := by
            show World.ownsRow _ _ _ _ _ _ _
            rw [List.length_append, strT_app]
            exact hown6
          have HL := hid (show (L ++ M).length = L.length + M.length from List.length_append)
          clear hg6 hown6 hown
          go_wp2_with fail
          go_roundw
          case rel => exact ⟨k' + 1, L ++ M, A6, c6, by omega, by go_num, by rw [HL.out], by rw [HL.out]; exact hle, HN, HO6, hbl6⟩
          case measure => simp [intOf]; omega
        · obtain rfl : N = k' := by omega
          obtain rfl : L = catP P N := hL.out
          have HTT : Hid ((catP P N).length = S) := HT
          go_wp2_with fail
          go_ret
          exact ⟨A, c, by rw [HTT.out]; rfl, by have h := hown.out; rw [HTT.out] at h; exact h, hbl.out⟩
end Go.Proofs.YthjphnopcgdgdaaDoor
