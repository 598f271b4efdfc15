/- slices.Delete at slots. -/
import Derived.Test.YtckhooibjmheiaaCaG
import Derived.Deep.RegionLaw
import Derived.Lib.SliceRun
namespace Go.Proofs.Ytckhooibjmheiaa
open Go.RowKit Go.Deep
set_option linter.unusedVariables false
set_option linter.unusedSimpArgs false

def setL : List Value → Nat → List Value → List Value
  | xs, _, [] => xs
  | xs, o, v :: r => setL (xs.set o v) (o + 1) r
theorem setL_length : ∀ (vs xs : List Value) (o : Nat), (setL xs o vs).length = xs.length := by
  intro vs
  induction vs with
  | nil => intro xs o; rfl
  | cons v r ih => intro xs o; simp only [setL]; rw [ih]; simp
theorem setL_out : ∀ (vs xs : List Value) (o p : Nat), p < o ∨ o + vs.length ≤ p → (setL xs o vs)[p]? = xs[p]? := by
  intro vs
  induction vs with
  | nil => intro xs o p _; rfl
  | cons v r ih =>
    intro xs o p hp
    simp only [List.length_cons] at hp
    simp only [setL]
    rw [ih _ _ _ (by omega), List.getElem?_set_ne (by omega)]
theorem setL_in : ∀ (vs xs : List Value) (o p : Nat), o ≤ p → p < o + vs.length → o + vs.length ≤ xs.length → (setL xs o vs)[p]? = vs[p - o]? := by
  intro vs
  induction vs with
  | nil => intro xs o p h1 h2 _; simp only [List.length_nil] at h2; omega
  | cons v r ih =>
    intro xs o p h1 h2 h3
    simp only [List.length_cons] at h2 h3
    simp only [setL]
    by_cases e : p = o
    · subst e
      rw [setL_out _ _ _ _ (by omega), List.getElem?_set_self (by omega)]
      simp
    · rw [ih _ _ _ (by omega) (by omega) (by simp; omega)]
      obtain ⟨d, rfl⟩ : ∃ d, p = o + 1 + d := ⟨p - (o + 1), by omega⟩
      rw [show o + 1 + d - (o + 1) = d by omega, show o + 1 + d - o = d + 1 by omega]
      simp
theorem stored_cells {base : Nat} {e : TypeId} {size g n cap : Nat} : ∀ (vs : List Value) (o : Nat) (w : World) (xs : List Value), w.ownsRow base e size (.slice (some ⟨g, 0, none⟩) n cap) n xs →
    (w.setCells g o vs).ownsRow base e size (.slice (some ⟨g, 0, none⟩) n cap) n (setL xs o vs) ∧ w.grownBy (w.setCells g o vs) (some g) := by
  intro vs
  induction vs with
  | nil => intro o w xs h; exact ⟨h, World.grownBy.refl _ _⟩
  | cons v r ih =>
    intro o w xs h
    have h1 := h.stored o v
    have h2 := ih (o + 1) _ _ h1.1
    exact ⟨h2.1, grown_trans h1.2 h2.2⟩
theorem own_cut {w : World} {base : Nat} {e : TypeId} {size g n m cap : Nat} {xs : List Value} (h : w.ownsRow base e size (.slice (some ⟨g, 0, none⟩) n cap) n xs) (hm : m ≤ n) : w.ownsRow base e size (.slice (some ⟨g, 0, none⟩) m cap) m (xs.take (m * size)) := by
  have hms : m * size ≤ n * size := Nat.mul_le_mul_right _ hm
  refine ⟨by rw [List.length_take, h.1]; omega, ?_⟩
  rcases h.2 with ⟨h0, _⟩ | ⟨g', cap', cur, hv, hb, hg, h1, h2, h3, ht⟩
  · cases h0
  · injection hv with e1 _ e3
    injection e1 with e1
    injection e1 with e1
    subst e1 e3
    refine .inr ⟨g, cap, cur, rfl, hb, hg, by omega, h2, h3, ?_⟩
    rw [← ht, List.take_take, Nat.min_eq_left hms]
def cutV (hv : Nat → Value) (a : Nat) : Nat → Value := fun j => if j < a then hv j else hv (j + 1)
theorem slots_cut {k at_ : Nat} {hv : Nat → Value} {s : Nat → Slt} (hat : at_ < k) (zs : List Value) (hz : zs.length = 3) :
    (setL (setL (slotsC k hv s) (0 + at_ * 3) ((slotsC k hv s).drop ((at_ + 1) * 3))) (0 + (k - 1) * 3) zs).take ((k - 1) * 3) = slotsC (k - 1) (cutV hv at_) (cutS s at_) := by
  have hl : (slotsC k hv s).length = k * 3 := slotsC_len _ _ _
  have hd : ((slotsC k hv s).drop ((at_ + 1) * 3)).length = k * 3 - (at_ + 1) * 3 := by rw [List.length_drop, hl]
  refine three_ext (k := k - 1) (by rw [List.length_take, setL_length, setL_length, hl]; omega) (slotsC_len _ _ _) fun i j hi hj => ?_
  rw [slotsC_at _ _ (k - 1) i j hi hj, List.getElem?_take, if_pos (by omega), setL_out _ _ _ _ (by omega)]
  unfold cutV cutS
  by_cases c : i < at_
  · rw [if_pos c, if_pos c, setL_out _ _ _ _ (by omega), slotsC_at _ _ k i j (by omega) hj]
  · rw [if_neg c, if_neg c, setL_in _ _ _ _ (by omega) (by rw [hd]; omega) (by rw [hd, hl]; omega), List.getElem?_drop, ← slotsC_at hv s k (i + 1) j (by omega) hj]
    congr 1
    omega

theorem run_clear_slot (w : World) (ty b o c : Nat) (hc : ∀ j, j < 3 → (w.cell? ⟨b, o + j, none⟩).isSome = true) (hf : ∀ j, j < 3 → w.frozen? ⟨b, o + j, none⟩ = false) :
    (Builtin.clear_ #[24] ty #[.slice (some ⟨b, o, none⟩) 1 c]).run Try.prog w = .ok (.tuple #[]) (w.setCells b o [.slice none 0 0, .int .i64 0, .int .i64 0]) := by
  have hv : ∀ w, (zeroValue 37).run Try.prog w = .ok (.agg #[.slice none 0 0, .int .i64 0, .int .i64 0]) w := fun w => by simp [go_sem]
  have hzc : (Builtin.zeroCells (Value.agg #[.slice none 0 0, .int .i64 0, .int .i64 0]).cells 1).toList = [.slice none 0 0, .int .i64 0, .int .i64 0] := by
    simp [Builtin.zeroCells, Value.cells]
    rfl
  have hst := run_storeCells_cells (P := Try.prog) b o [.slice none 0 0, .int .i64 0, .int .i64 0] 0 w (by simpa using hc) (by simpa using hf) (by intro u hu; simp only [List.mem_cons, List.not_mem_nil, or_false] at hu; rcases hu with rfl | rfl | rfl <;> rfl)
  simp only [Nat.add_zero] at hst
  simp [Builtin.clear_, run_underlying Try.underlying24, hv, hzc, hst]

set_option maxRecDepth 1000000 in
set_option maxHeartbeats 4000000 in
theorem delete_any (L gb k c at_ : Nat) (hv : Nat → Value) (s : Nat → Slt) (w : World) (h : w.ownsRow L 37 3 (.slice (some ⟨gb, 0, none⟩) k c) k (slotsC k hv s)) (hone : ∀ i, i < k → (hv i).oneCell' = true) (hat : at_ < k) (hk : k ≤ 100) :
    Calls Try.prog 96 #[.slice (some ⟨gb, 0, none⟩) k c, .int .i64 at_, .int .i64 ((at_ : Int) + 1)] w fun e w' =>
      e = .returned (.slice (some ⟨gb, 0, none⟩) (k - 1 : Nat) c) ∧ w'.ownsRow L 37 3 (.slice (some ⟨gb, 0, none⟩) (k - 1) c) (k - 1) (slotsC (k - 1) (cutV hv at_) (cutS s at_)) ∧ w.grownBy w' (some gb) := by
  obtain ⟨i0, hi0, hz0, hz1, hz2⟩ := info_parts info_slot
  obtain ⟨b', cs, e, hL, hB, hkc, hcl⟩ := own_slots h (by omega)
  injection e with e
  injection e with e
  subst e
  have hcm : c ≤ maxLen := by
    rcases h.2 with ⟨h0, _⟩ | ⟨g', cap', cur, hvv, hb, hg, h1, h2, h3, ht⟩
    · cases h0
    · injection hvv with _ _ e3
      subst e3
      exact h2
  obtain ⟨news, hnews⟩ : ∃ news, news = (slotsC k hv s).drop ((at_ + 1) * 3) := ⟨_, rfl⟩
  have hlen : news.length = (k - (at_ + 1)) * 3 := by rw [hnews, List.length_drop, slotsC_len]; omega
  obtain ⟨Ad, hA, hsrc⟩ : ∃ Ad : Addr, (if c = at_ + 1 then some (⟨gb, 0, none⟩ : Addr) else some ⟨gb, (at_ + 1) * 3, none⟩) = some Ad ∧ Hid (∀ t u, news[t]? = some u → w.drew.cell? (Ad.add t) = some u) := by
    by_cases hc : c = at_ + 1
    · refine ⟨⟨gb, 0, none⟩, by simp [hc], fun t u hu => ?_⟩
      have h0 : news.length = 0 := by rw [hlen]; omega
      rw [List.length_eq_zero_iff.1 h0] at hu
      simp at hu
    · refine ⟨⟨gb, (at_ + 1) * 3, none⟩, by simp [hc], fun t u hu => ?_⟩
      have ht : t < (k - (at_ + 1)) * 3 := by
        have := (List.getElem?_eq_some_iff.1 hu).1
        rwa [hlen] at this
      rw [hnews, List.getElem?_drop] at hu
      rw [Addr.add_lit]
      exact (h.cellAt _ (by omega)).trans hu
  have s1 : Hid (news.length = (k - (at_ + 1)) * 3) := hlen
  have s2 : Hid (∀ u ∈ news, u.oneCell' = true) := by
    intro u hu
    rw [hnews] at hu
    have hu := List.mem_of_mem_drop hu
    unfold slotsC at hu
    obtain ⟨i, hi, hu⟩ := List.mem_flatMap.1 hu
    simp only [slC, List.mem_cons, List.not_mem_nil, or_false] at hu
    rcases hu with rfl | rfl | rfl
    · exact hone i (by simpa using hi)
    · rfl
    · rfl
  have s3 : Hid (∀ t, t < news.length → (w.drew.cell? ⟨gb, 0 + at_ * 3 + t, none⟩).isSome = true ∧ w.drew.frozen? ⟨gb, 0 + at_ * 3 + t, none⟩ = false) := by
    intro t ht
    rw [hlen] at ht
    refine ⟨?_, h.frozenAt _⟩
    have : w.drew.cell? ⟨gb, 0 + at_ * 3 + t, none⟩ = (slotsC k hv s)[0 + at_ * 3 + t]? := h.cellAt _ (by omega)
    rw [this, List.getElem?_eq_getElem (by rw [slotsC_len]; omega)]
    rfl
  have hd : w.drew.ownsRow L 37 3 (.slice (some ⟨gb, 0, none⟩) k c) k (slotsC k hv s) := own_below h (Below.refl _ w).drew
  obtain ⟨W1, hW1⟩ : ∃ W1, W1 = w.drew.setCells gb (0 + at_ * 3) news := ⟨_, rfl⟩
  have hst := stored_cells news (0 + at_ * 3) _ _ hd
  rw [← hW1] at hst
  have hfin := stored_cells [.slice none 0 0, .int .i64 0, .int .i64 0] (0 + (k - 1) * 3) _ _ hst.1
  have hcut := own_cut (m := k - 1) hfin.1 (by omega)
  rw [hnews, slots_cut hat _ rfl] at hcut
  have hcl : ∀ ty, (Builtin.clear_ #[24] ty #[.slice (some ⟨gb, 0 + (k - 1) * 3, none⟩) 1 (c - (k - 1))]).run Try.prog W1 = .ok (.tuple #[]) (W1.setCells gb (0 + (k - 1) * 3) [.slice none 0 0, .int .i64 0, .int .i64 0]) := fun ty =>
    run_clear_slot W1 ty gb (0 + (k - 1) * 3) _ (fun j hj => by
      have : W1.cell? ⟨gb, 0 + (k - 1) * 3 + j, none⟩ = _ := hst.1.cellAt (0 + (k - 1) * 3 + j) (by omega)
      rw [this, List.getElem?_eq_getElem (by rw [setL_length, slotsC_len]; omega)]
      rfl) (fun j hj => hst.1.frozenAt _)
  have HG := hid (grown_trans hst.2 hfin.2)
  have HC := hid hcut
  have HW := hid hW1
  have hne : ((at_ : Int) == (at_ : Int) + 1) = false := by simp; omega
  have q1 : (at_ : Int) ≤ (at_ : Int) + 1 := by omega
  have q2 : (at_ : Int) + 1 ≤ (k : Int) := by omega
  have q3 : (k : Int) ≤ (c : Int) := by omega
  have q4 : ((at_ : Int) + 1).toNat = at_ + 1 := by omega
  have q5 : at_ ≤ c := by omega
  have q6 : at_ + 1 ≤ c := by omega
  have q7 : at_ + 1 ≤ k := by omega
  have q8 : (0 : Int) ≤ (at_ : Int) + 1 := by omega
  have q9 : IntKind.i64.wrap ((at_ : Int) + 1) = (at_ : Int) + 1 := by rw [IntKind.wrap_i64]; omega
  clear hst hfin hcut hnews hlen hd hL hB hW1 hcm
  go_enter Try.func96, Try.ntmps96
  go_wp2_with fail
  go_region_law
    (refine step_append_room rfl (.tmp 22) (.tmp 25) 24 rfl 37 i0 3 Try.underlying24 hi0 hz1 gb 0 at_ c (by simp [Act.eval, Act.put]) Ad (k - (at_ + 1)) (c - (at_ + 1)) news (by simp [Act.eval, Act.put]) s1.out hsrc.out s2.out (by omega) s3.out ?_; rw [← HW.out])
  obtain ⟨K, hK⟩ : ∃ K, k - 1 = K := ⟨_, rfl⟩
  have e1 : at_ + (k - (at_ + 1)) = K := by omega
  have e2 : k - K = 1 := by omega
  have e3 : ¬ c = K := by omega
  have e4 : (K : Int) ≤ (k : Int) := by omega
  have e5 : K ≤ k := by omega
  have e6 : k ≤ c := by omega
  rw [hK, Nat.zero_add] at hcl
  have HK := hid hK
  have HCL := hid hcl
  rw [e1]
  clear e1 hK hcl
  go_wp2_with fail
  rw [HCL.out]
  go_wp2_with fail
  go_ret
  rw [HK.out] at HC ⊢
  refine ⟨rfl, ?_, ?_⟩
  · have := HC.out
    rwa [Nat.zero_add] at this
  · have hh : (W1.setCells gb (K * 3) [.slice none 0 0, .int .i64 0, .int .i64 0]) = W1.setCells gb (0 + (k - 1) * 3) [.slice none 0 0, .int .i64 0, .int .i64 0] := by rw [HK.out, Nat.zero_add]
    rw [hh]
    have := HG.out
    exact ⟨this.os, this.tape, this.output, this.size, this.block⟩
end Go.Proofs.Ytckhooibjmheiaa
