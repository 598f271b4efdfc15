/- Commands out of their texts: in plain words. -/
import Derived.Test.YtmkipdhappikhaaGreatDoorCmE
namespace Go.Proofs.YtmkipdhappikhaaGreatDoor
open Go.RowKit Go.Deep
set_option linter.unusedVariables false
set_option linter.unusedSimpArgs false

theorem docS_noC {n : Nat} {z : Nat → Int} (h : docB n z = true) : NoC 32 (docS n z) := by
  rw [docS_yes h]
  exact noC_join (noC_one (by decide)) n fun i _ => numS_noC _ (.inl (by decide))
theorem fName_noC (k : Int) : NoC 32 (fName k) := by
  unfold NoC
  rcases kind_or k with rfl | rfl | rfl | rfl | rfl | hk
  · decide
  · decide
  · decide
  · decide
  · decide
  · rw [fName_none (by omega)]; decide
theorem fName_inj {k k' : Int} (h : 1 ≤ k ∧ k ≤ 5) (h' : 1 ≤ k' ∧ k' ≤ 5) (e : fName k = fName k') : k = k' := by
  have e2 := congrArg (fun s : ByteArray => s.data.toList) e
  obtain rfl | rfl | rfl | rfl | rfl : k = 1 ∨ k = 2 ∨ k = 3 ∨ k = 4 ∨ k = 5 := by omega
  all_goals
    obtain rfl | rfl | rfl | rfl | rfl : k' = 1 ∨ k' = 2 ∨ k' = 3 ∨ k' = 4 ∨ k' = 5 := by omega
    all_goals
      first
        | rfl
        | exact absurd e2 (by decide)
/-- A command as a text can give it. -/
def FormC (k a b t : Int) (n : Nat) (len : Nat → Nat) (z : Nat → Nat → Int) (s : ByteArray) : Prop :=
  (1 ≤ k ∧ k ≤ 5) ∧ (I64 a ∧ I64 b ∧ I64 t) ∧ (∀ i, i < n → docB (len i) (z i) = true) ∧ (¬ 0 < fA k → a = 0) ∧ (¬ 0 < fB k → b = 0) ∧ (¬ 0 < fT k → t = 0) ∧ (k = 1 → n = 0) ∧ (k ≠ 1 → s = ⟨#[]⟩)
theorem form_of {k a b t : Int} {n : Nat} {len : Nat → Nat} {z : Nat → Nat → Int} {s : ByteArray} (h : cmdB k a b t n len z s = true) : FormC k a b t n len z s := by
  obtain ⟨h1, ⟨ha, hb, ht⟩, ⟨h3, h4⟩, h5, _⟩ := cmd_in h
  have hl := f_low k
  refine ⟨h1, ⟨⟨by omega, by omega⟩, ⟨by omega, by omega⟩, by omega, by omega⟩, h4, fun e => by omega, fun e => by omega, fun e => by omega, fun e => ?_, fun e => ?_⟩
  · subst e
    simp [fD] at h3
    omega
  · have e0 : fX k = 0 := if_neg e
    rw [e0] at h5
    apply ba_ext
    have : s.data.toList.length = 0 := by rw [size_len]; omega
    exact List.length_eq_zero_iff.1 this
theorem docsL_at {n : Nat} {len : Nat → Nat} {z : Nat → Nat → Int} {i : Nat} (hi : i < n) : (docsL n len z)[i]? = some (docS (len i) (z i)) := by
  unfold docsL
  rw [List.getElem?_map, List.getElem?_range hi]
  rfl
theorem docsL_len (n : Nat) (len : Nat → Nat) (z : Nat → Nat → Int) : (docsL n len z).length = n := by unfold docsL; simp
theorem docsL_inj {n n' : Nat} {len len' : Nat → Nat} {z z' : Nat → Nat → Int} (h : ∀ i, i < n → docB (len i) (z i) = true) (h' : ∀ i, i < n' → docB (len' i) (z' i) = true) (e : docsL n len z = docsL n' len' z') :
    n' = n ∧ ∀ i, i < n → len' i = len i ∧ ∀ j, j < len i → z' i j = z i j := by
  have hn : n' = n := by have := congrArg List.length e; rw [docsL_len, docsL_len] at this; exact this.symm
  subst hn
  refine ⟨rfl, fun i hi => ?_⟩
  have e2 := congrArg (fun l => l[i]?) e
  simp only [docsL_at hi] at e2
  obtain ⟨q1, q2⟩ := docS_inj (h i hi) (h' i hi) (Option.some.inj e2)
  exact ⟨q1.symm, q2⟩
theorem joinL_cons (x y : ByteArray) (L : List ByteArray) : joinL (x :: y :: L) = x ++ one1 32 ++ joinL (y :: L) := by
  unfold joinL
  show joinTo (fun i => (x :: y :: L).getD i ByteArray.empty) (one1 32) (L.length + 2) = _
  rw [join_head]
  rfl
theorem allW_joinL : ∀ (L : List ByteArray) (x : ByteArray), (∀ y ∈ x :: L, NoC 32 y) → allW 32 (joinL (x :: L)) = x :: L
  | [], x, h => by rw [joinL_one, allW_no (h x List.mem_cons_self)]
  | y :: L, x, h => by
    rw [joinL_cons, allW_at (h x List.mem_cons_self), allW_joinL L y fun q hq => h q (List.mem_cons_of_mem _ hq)]
theorem words_cons (k a b t : Int) (n : Nat) (len : Nat → Nat) (z : Nat → Nat → Int) (s : ByteArray) : wordsC k a b t n len z s = fName k :: ((numsL k a b t).map decS ++ docsL n len z ++ textL k s) := by
  unfold wordsC
  simp
/-- The words of a command that loads nothing. -/
theorem words_no {k a b t : Int} {n : Nat} {len : Nat → Nat} {z : Nat → Nat → Int} {s : ByteArray} (h : FormC k a b t n len z s) (hk : k ≠ 1) :
    wordsC k a b t n len z s = fName k :: ((numsL k a b t).map decS ++ docsL n len z) ∧ allW 32 (joinL (wordsC k a b t n len z s)) = fName k :: ((numsL k a b t).map decS ++ docsL n len z) := by
  have e1 : wordsC k a b t n len z s = fName k :: ((numsL k a b t).map decS ++ docsL n len z) := by
    rw [words_cons]
    have : textL k s = [] := by unfold textL fX; rw [if_neg hk]; rfl
    rw [this, List.append_nil]
  refine ⟨e1, ?_⟩
  rw [e1]
  refine allW_joinL _ _ fun y hy => ?_
  rcases List.mem_cons.1 hy with rfl | hy
  · exact fName_noC k
  · rcases List.mem_append.1 hy with hy | hy
    · obtain ⟨x, _, rfl⟩ := List.mem_map.1 hy
      exact decS_noC _ (.inl (by decide))
    · unfold docsL at hy
      obtain ⟨i, hi, rfl⟩ := List.mem_map.1 hy
      exact docS_noC (h.2.2.1 i (List.mem_range.1 hi))
theorem words_load {a b t : Int} {n : Nat} {len : Nat → Nat} {z : Nat → Nat → Int} {s : ByteArray} (h : FormC 1 a b t n len z s) : n = 0 ∧ a = 0 ∧ b = 0 ∧ t = 0 ∧ joinL (wordsC 1 a b t n len z s) = fName 1 ++ one1 32 ++ s := by
  obtain ⟨_, _, _, h4, h5, h6, h7, _⟩ := h
  have hn := h7 rfl
  subst hn
  refine ⟨rfl, h4 (by simp [fA]), h5 (by simp [fB]), h6 (by simp [fT]), joinL_two _ s⟩
theorem words_head {k a b t : Int} {n : Nat} {len : Nat → Nat} {z : Nat → Nat → Int} {s : ByteArray} (h : FormC k a b t n len z s) : ∃ L, allW 32 (joinL (wordsC k a b t n len z s)) = fName k :: L := by
  by_cases hk : k = 1
  · subst hk
    rw [(words_load h).2.2.2.2, allW_at (fName_noC 1)]
    exact ⟨_, rfl⟩
  · exact ⟨_, (words_no h hk).2⟩
/-- One text, one command. -/
theorem cmd_uniq {k a b t : Int} {n : Nat} {len : Nat → Nat} {z : Nat → Nat → Int} {s : ByteArray} {k' a' b' t' : Int} {n' : Nat} {len' : Nat → Nat} {z' : Nat → Nat → Int} {s' : ByteArray}
    (h : FormC k a b t n len z s) (h' : FormC k' a' b' t' n' len' z' s') (e : joinL (wordsC k a b t n len z s) = joinL (wordsC k' a' b' t' n' len' z' s')) :
    k' = k ∧ a' = a ∧ b' = b ∧ t' = t ∧ n' = n ∧ s' = s ∧ ∀ i, i < n → len' i = len i ∧ ∀ j, j < len i → z' i j = z i j := by
  obtain ⟨L, hL⟩ := words_head h
  obtain ⟨L', hL'⟩ := words_head h'
  rw [e, hL'] at hL
  have hk : k' = k := fName_inj h'.1 h.1 (List.cons.inj hL).1
  subst hk
  by_cases hk1 : k' = 1
  · subst hk1
    obtain ⟨rfl, rfl, rfl, rfl, q⟩ := words_load h
    obtain ⟨rfl, rfl, rfl, rfl, q'⟩ := words_load h'
    rw [q, q'] at e
    exact ⟨rfl, rfl, rfl, rfl, rfl, (part_uniq (fName_noC 1) (fName_noC 1) e).2.symm, fun i hi => absurd hi (Nat.not_lt_zero i)⟩
  · have q := (words_no h hk1).2
    rw [e, (words_no h' hk1).2] at q
    have q2 := (List.cons.inj q).2
    have hlen : ((numsL k' a' b' t').map decS).length = ((numsL k' a b t).map decS).length := by rw [List.length_map, List.length_map, nums_len, nums_len]
    obtain ⟨qn, qd⟩ := List.append_inj q2 hlen
    obtain ⟨hn, hd⟩ := docsL_inj h.2.2.1 h'.2.2.1 qd.symm
    have hs : s' = s := by rw [h'.2.2.2.2.2.2.2 hk1, h.2.2.2.2.2.2.2 hk1]
    obtain ⟨_, ⟨ia, ib, it⟩, _, za, zb, zt, _⟩ := h
    obtain ⟨hk5, ⟨ia', ib', it'⟩, _, za', zb', zt', _⟩ := h'
    have hab : a' = a ∧ b' = b ∧ t' = t := by
      obtain rfl | rfl | rfl | rfl : k' = 2 ∨ k' = 3 ∨ k' = 4 ∨ k' = 5 := by omega
      · simp [numsL, fA, fB, fT] at qn
        refine ⟨decS_inj ia' ia qn.1, decS_inj ib' ib qn.2, ?_⟩
        rw [zt' (by simp [fT]), zt (by simp [fT])]
      · refine ⟨?_, ?_, ?_⟩
        · rw [za' (by simp [fA]), za (by simp [fA])]
        · rw [zb' (by simp [fB]), zb (by simp [fB])]
        · rw [zt' (by simp [fT]), zt (by simp [fT])]
      · simp [numsL, fA, fB, fT] at qn
        refine ⟨?_, ?_, decS_inj it' it qn⟩
        · rw [za' (by simp [fA]), za (by simp [fA])]
        · rw [zb' (by simp [fB]), zb (by simp [fB])]
      · simp [numsL, fA, fB, fT] at qn
        refine ⟨decS_inj ia' ia qn, ?_, ?_⟩
        · rw [zb' (by simp [fB]), zb (by simp [fB])]
        · rw [zt' (by simp [fT]), zt (by simp [fT])]
    exact ⟨rfl, hab.1, hab.2.1, hab.2.2, hn, hs, hd⟩
theorem docsB_congr {n : Nat} {len len' : Nat → Nat} {z z' : Nat → Nat → Int} (h : ∀ i, i < n → docB (len i) (z i) = true) (h' : ∀ i, i < n → docB (len' i) (z' i) = true) : docsB n len' z' = docsB n len z := by
  have e1 : docsB n len z = true := allP_iff.2 h
  have e2 : docsB n len' z' = true := allP_iff.2 h'
  rw [e1, e2]
/-- A command in form whose text is a good command's is good. -/
theorem cmd_good {k a b t : Int} {n : Nat} {len : Nat → Nat} {z : Nat → Nat → Int} {s : ByteArray} {k' a' b' t' : Int} {n' : Nat} {len' : Nat → Nat} {z' : Nat → Nat → Int} {s' : ByteArray}
    (h : FormC k a b t n len z s) (h' : cmdB k' a' b' t' n' len' z' s' = true) (e : joinL (wordsC k a b t n len z s) = cmdS k' a' b' t' n' len' z' s') : cmdB k a b t n len z s = true := by
  have e2 : cmdS k' a' b' t' n' len' z' s' = joinL (wordsC k' a' b' t' n' len' z' s') := if_pos h'
  have hf := form_of h'
  obtain ⟨rfl, rfl, rfl, rfl, rfl, rfl, _⟩ := cmd_uniq h hf (e.trans e2)
  unfold cmdB docsF at h' ⊢
  rw [← docsB_congr h.2.2.1 hf.2.2.1]
  exact h'
end Go.Proofs.YtmkipdhappikhaaGreatDoor
