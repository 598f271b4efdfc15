/- sameBox and sameCache of the laws. -/
import Derived.Test.YtckhooibjmheiaaCaG
namespace Go.Proofs.Ytckhooibjmheiaa
open Go.RowKit Go.Deep
set_option linter.unusedVariables false
set_option linter.unusedSimpArgs false

def spEq (a b : Sp) : Bool := a.lo == b.lo && (a.hi == b.hi && a.gone == b.gone)
theorem spEq_iff {a b : Sp} : spEq a b = true ↔ a = b := by
  obtain ⟨a0, a1, a2⟩ := a
  obtain ⟨b0, b1, b2⟩ := b
  unfold spEq
  simp only [Bool.and_eq_true, beq_iff_eq, Sp.mk.injEq]
def eqBoxB (n : Nat) (g : Nat → Sp) (n' : Nat) (g' : Nat → Sp) : Bool := decide (n = n') && allP (fun i => spEq (g i) (g' i)) n
theorem eqBoxB_self (n : Nat) (g : Nat → Sp) : eqBoxB n g n g = true := by
  unfold eqBoxB
  rw [decide_eq_true rfl, Bool.true_and]
  exact allP_iff.2 fun i _ => spEq_iff.2 rfl
theorem eqBoxB_iff {n n' : Nat} {g g' : Nat → Sp} : eqBoxB n g n' g' = true ↔ n = n' ∧ ∀ i, i < n → g i = g' i := by
  unfold eqBoxB
  rw [Bool.and_eq_true, decide_eq_true_eq, allP_iff]
  constructor
  · rintro ⟨h1, h2⟩; exact ⟨h1, fun i hi => spEq_iff.1 (h2 i hi)⟩
  · rintro ⟨h1, h2⟩; exact ⟨h1, fun i hi => spEq_iff.2 (h2 i hi)⟩

set_option maxHeartbeats 2000000 in
theorem sameBox_any (A A' : Option Addr) (n n' c c' : Nat) (g g' : Nat → Sp) (w : World) (h : RdS w w.heap.size A n g) (h' : RdS w w.heap.size A' n' g') (hn : n ≤ 4194304) (hn' : n' ≤ 4194304) :
    Calls Try.prog 32 #[.slice A n c, .slice A' n' c'] w fun e w' => e = .returned (.bool (eqBoxB n g n' g')) ∧ Below w.heap.size w w' := by
  by_cases hnn : n = n'
  · subst hnn
    have e0 : Hid (eqBoxB n g n g' = allP (fun i => spEq (g i) (g' i)) n) := by show _ = _; unfold eqBoxB; rw [decide_eq_true rfl, Bool.true_and]
    go_enter Try.func32, Try.ntmps32
    go_wp2_with fail
    go_loopw [5] (fun i wr => ∃ k : Nat, k ≤ n ∧ i = .int .i64 k ∧ Hid (allP (fun i => spEq (g i) (g' i)) k = true) ∧ Below w.heap.size w wr) (fun i _ => n - (intOf i).toNat)
    case atStart => exact ⟨0, Nat.zero_le _, rfl, rfl, Below.refl _ _⟩
    case round =>
      obtain ⟨k, hk, rfl, hall, hbl⟩ := hrel
      by_cases hlt : k < n
      · obtain ⟨b, off, rfl, hb, c0, c1, c2⟩ := (h.below hbl).at_ hlt
        obtain ⟨b', off', rfl, hb', c0', c1', c2'⟩ := (h'.below hbl).at_ hlt
        have he : ∀ wx, (Op.equalIn 10000 74 (.agg #[.int .i64 (g k).lo, .int .i64 (g k).hi, .bool (g k).gone]) (.agg #[.int .i64 (g' k).lo, .int .i64 (g' k).hi, .bool (g' k).gone])).run Try.prog wx = .ok (spEq (g k) (g' k)) wx := fun wx => eqSp (g k) (g' k) wx
        have hi : (k : Int) < (n : Int) := by omega
        have hi0 : (0 : Int) ≤ (k : Int) := by omega
        cases hq : spEq (g k) (g' k)
        · rw [hq] at he
          have HQ := hid hq
          clear hq
          go_wp2_with fail
          go_region
          all_goals
            go_wp2_with fail
            go_ret
            refine ⟨?_, hbl.drew⟩
            rw [e0.out, allP_false (p := fun i => spEq (g i) (g' i)) hlt HQ.out]
            rfl
        · rw [hq] at he
          have HQ := hid hq
          clear hq
          go_wp2_with fail
          go_region
          all_goals
            go_wp2_with fail
            go_roundw
            case rel => exact ⟨k + 1, by omega, by go_num, (by show allP _ (k + 1) = true; simp only [allP, HQ.out, hall.out]; rfl), hbl.drew⟩
            case measure => simp [intOf]; omega
      · obtain rfl : k = n := by omega
        go_wp2_with fail
        go_ret
        refine ⟨?_, hbl⟩
        rw [e0.out, hall.out]
        rfl
  · have e0 : eqBoxB n g n' g' = false := by unfold eqBoxB; rw [decide_eq_false hnn]; rfl
    rw [e0]
    have e1 : ((n : Int) == (n' : Int)) = false := by simp; omega
    have e2 : ((n : Int) != (n' : Int)) = true := by simp; omega
    have e3 : ¬ (n : Int) = (n' : Int) := by omega
    go_enter Try.func32, Try.ntmps32
    go_wp2_with fail
    go_ret
    exact ⟨rfl, Below.refl _ _⟩

set_option maxRecDepth 100000 in
set_option maxHeartbeats 8000000 in
/-- sameCache at two caches that read alike. -/
theorem sameC_any (cap clock : Int) (A A' : Option Addr) (k c c' : Nat) (s : Nat → Slt) (w : World) (h : RdC w w.heap.size A k s) (h' : RdC w w.heap.size A' k s) (hn : k ≤ 4194304) (hlen : Hid (∀ i, i < k → (s i).n ≤ 4194304)) :
    Calls Try.prog 24 #[caV cap clock A k c, caV cap clock A' k c'] w fun e w' => e = .returned (.bool true) ∧ Below w.heap.size w w' := by
  have hb2 := ((Below.refl w.heap.size w).alloc (Nat.le_refl _) (.cells #[.int .i64 cap, .int .i64 clock, .slice A k c] 26)).alloc (by simp) (.cells #[.int .i64 cap, .int .i64 clock, .slice A' k c'] 26)
  have h2 := h.to hb2 hb2.size
  have h2' := h'.to hb2 hb2.size
  have hE := (Blk.new w 26 #[.int .i64 cap, .int .i64 clock, .slice A k c]).alloc (.cells #[.int .i64 cap, .int .i64 clock, .slice A' k c'] 26)
  have hF := Blk.new2 w (.cells #[.int .i64 cap, .int .i64 clock, .slice A k c] 26) 26 #[.int .i64 cap, .int .i64 clock, .slice A' k c']
  have q1 : (cap != cap) = false := by simp
  have q2 : (clock != clock) = false := by simp
  go_enter Try.func24, Try.ntmps24
  go_wp2_with fail
  generalize hW : (w.alloc (.cells #[.int .i64 cap, .int .i64 clock, .slice A k c] 26)).alloc (.cells #[.int .i64 cap, .int .i64 clock, .slice A' k c'] 26) = W1 at hb2 h2 h2' hE hF ⊢
  clear hW h h'
  go_loopw [5] (fun i wr => ∃ j : Nat, j ≤ k ∧ i = .int .i64 j ∧ Below W1.heap.size W1 wr) (fun i _ => k - (intOf i).toNat)
  case atStart => exact ⟨0, Nat.zero_le _, rfl, Below.refl _ _⟩
  case round =>
    obtain ⟨j, hj, rfl, hbl⟩ := hrel
    obtain ⟨u0, u1, u2, _, _, _⟩ := blk_cells3 (hE.below hbl hE.lt)
    obtain ⟨v0, v1, v2, _, _, _⟩ := blk_cells3 (hF.below hbl hF.lt)
    have hEl := (hE.below hbl hE.lt).lt
    have hFl := (hF.below hbl hF.lt).lt
    by_cases hlt : j < k
    · obtain ⟨b, off, Ai, ci, rfl, hb, c0, c1, c2, hrd⟩ := (h2.below hbl).at_ hlt
      obtain ⟨b', off', Ai', ci', rfl, hb', c0', c1', c2', hrd'⟩ := (h2'.below hbl).at_ hlt
      have hi : (j : Int) < (k : Int) := by omega
      have hi0 : (0 : Int) ≤ (j : Int) := by omega
      have hlk := hlen.out j hlt
      have hlb : b < wr.heap.size := Nat.lt_of_lt_of_le hb hbl.size
      have hlb' : b' < wr.heap.size := Nat.lt_of_lt_of_le hb' hbl.size
      have HR : Hid (∀ W, Below wr.heap.size wr W → RdS W W.heap.size Ai (s j).n (s j).g ∧ RdS W W.heap.size Ai' (s j).n (s j).g) := fun W hW => ⟨(hrd.more hbl.size).to hW hW.size, (hrd'.more hbl.size).to hW hW.size⟩
      have HC : Hid (∀ W, Below wr.heap.size wr W → W.cell? ⟨w.heap.size, 2, none⟩ = some (.slice (some ⟨b, off, none⟩) k c) ∧ W.cell? ⟨w.heap.size + 1, 2, none⟩ = some (.slice (some ⟨b', off', none⟩) k c') ∧ W.cell? ⟨b, off + j * 3, none⟩ = some (.slice Ai (s j).n ci) ∧ W.cell? ⟨b, off + j * 3 + 1, none⟩ = some (.int .i64 (s j).score) ∧ W.cell? ⟨b, off + j * 3 + 2, none⟩ = some (.int .i64 (s j).used) ∧ W.cell? ⟨b', off' + j * 3, none⟩ = some (.slice Ai' (s j).n ci') ∧ W.cell? ⟨b', off' + j * 3 + 1, none⟩ = some (.int .i64 (s j).score) ∧ W.cell? ⟨b', off' + j * 3 + 2, none⟩ = some (.int .i64 (s j).used)) := fun W hW =>
        ⟨(hW.cell (p := ⟨w.heap.size, 2, none⟩) hEl).trans u2, (hW.cell (p := ⟨w.heap.size + 1, 2, none⟩) hFl).trans v2, (hW.cell (p := ⟨b, _, none⟩) hlb).trans c0, (hW.cell (p := ⟨b, _, none⟩) hlb).trans c1, (hW.cell (p := ⟨b, _, none⟩) hlb).trans c2, (hW.cell (p := ⟨b', _, none⟩) hlb').trans c0', (hW.cell (p := ⟨b', _, none⟩) hlb').trans c1', (hW.cell (p := ⟨b', _, none⟩) hlb').trans c2'⟩
      have D0 := hid ((Below.refl wr.heap.size wr).drew)
      have HBL := hid hbl
      have HQ := hid (eqBoxB_self (s j).n (s j).g)
      have q3 : ((s j).score != (s j).score) = false := by simp
      have q4 : ((s j).used != (s j).used) = false := by simp
      clear hrd hrd' c0 c1 c2 c0' c1' c2' hbl u0 u1 v0 v1
      go_wp2_with fail
      clear u2 v2
      refine region_classC (C := fun W => Below wr.heap.size wr W) (by kernel_rfl) (by kernel_rfl) D0.out ?_
      repeat
        with_reducible refine wpQuiet_step (fun K hK => ?_)
        first
          | (rw [if_pos (by rfl)]; apply Exists.intro; refine ⟨fun W hW => ?_, hK _ ?_⟩; (first
              | (obtain ⟨t1, t2, t3, t4, t5, t6, t7, t8⟩ := HC.out W hW; go_simp <;> with_reducible rfl)
              | (go_simp; go_at_call 32; with_reducible refine Calls.mono (sameBox_any Ai Ai' (s j).n (s j).n ci ci' (s j).g (s j).g W (HR.out W hW).1 (HR.out W hW).2 hlk hlk) ?_; rintro e w5 ⟨rfl, hb5⟩; rw [HQ.out]; exact ⟨rfl, hW.trans (hb5.mono hW.size)⟩)); clear hK K; (try simp only [Act.put, List.setIfInBounds_toArray, List.set_cons_zero, List.set_cons_succ]))
          | (refine Eq.mpr (if_neg ?_) (hK _ ?_); exact (fun h => Bool.false_ne_true h); clear hK K; (try simp only [Act.put, List.setIfInBounds_toArray, List.set_cons_zero, List.set_cons_succ]))
      refine wpQuiet_nil ?_
      intro WZ hZ'
      have hZ : Below wr.heap.size wr WZ := hZ'
      clear hZ'
      have hbl3 := HBL.out.trans (hZ.mono HBL.out.size)
      clear hZ
      go_wp2_with fail
      go_roundw
      case rel => exact ⟨j + 1, by omega, by go_num, hbl3⟩
      case measure => simp [intOf]; omega
    · go_wp2_with fail
      go_ret
      exact ⟨rfl, hb2.trans (hbl.mono hb2.size)⟩
end Go.Proofs.Ytckhooibjmheiaa
