/- A tree's text read, in plain words: nodes as words. -/
import Derived.Test.YthjphnopcgdgdaaDoorRdG
namespace Go.Proofs.YthjphnopcgdgdaaDoor
open Go.RowKit Go.Deep

/-- A node as a text can give it: a leaf has its value alone, a split has none. -/
def GoodN (d : Nd) : Prop := (d.left = 0 → d.feat = 0 ∧ d.cut = 0 ∧ d.right = 0 ∧ d.miss = false) ∧ (d.left ≠ 0 → d.value = 0)
theorem node_good {n i : Nat} {d : Nd} (h : Node 6 n i d) : GoodN d := by
  unfold Node at h
  unfold GoodN
  split at h
  · rename_i h0
    unfold lfB at h
    simp only [Bool.and_eq_true, beq_iff_eq, decide_eq_true_eq] at h
    exact ⟨fun _ => ⟨h.1.1.1.1.1, h.1.1.1.1.2, h.1.1.2, h.1.2⟩, fun e => absurd h0 e⟩
  · rename_i h0
    unfold spB at h
    simp only [Bool.and_eq_true, beq_iff_eq, decide_eq_true_eq] at h
    exact ⟨fun e => absurd e h0, fun _ => h.1.2⟩
theorem noC_app {c : UInt8} {a b : ByteArray} (ha : NoC c a) (hb : NoC c b) : NoC c (a ++ b) := by
  unfold NoC at *
  rw [data_app]
  intro h
  rcases List.mem_append.1 h with h | h
  · exact ha h
  · exact hb h
theorem noC_one {c d : UInt8} (h : c ≠ d) : NoC c (one1 d) := by
  unfold NoC one1
  simpa using h
theorem noC_join {c : UInt8} {f : Nat → ByteArray} {sep : ByteArray} (hs : NoC c sep) : ∀ n, (∀ i, i < n → NoC c (f i)) → NoC c (joinTo f sep n)
  | 0, _ => by unfold NoC; show c ∉ []; simp
  | n + 1, h => by
    have ih := noC_join hs n (fun i hi => h i (by omega))
    show NoC c ((if 0 < n then joinTo f sep n ++ sep else joinTo f sep n) ++ f n)
    refine noC_app ?_ (h n (by omega))
    split
    · exact noC_app ih hs
    · exact ih
theorem side_noC {c : UInt8} (m : Bool) (h1 : c ≠ 108) (h2 : c ≠ 114) : NoC c (sideS m) := by
  cases m
  · exact noC_one h2
  · exact noC_one h1
theorem ndP_noC {c : UInt8} {d : Nd} (hc : c.toNat < 45 ∨ 57 < c.toNat) (h1 : c ≠ 108) (h2 : c ≠ 114) : ∀ i, i < 5 → NoC c (ndP d i) := by
  intro i hi
  obtain rfl | rfl | rfl | rfl | rfl : i = 0 ∨ i = 1 ∨ i = 2 ∨ i = 3 ∨ i = 4 := by omega
  · exact decS_noC _ hc
  · exact decS_noC _ hc
  · exact decS_noC _ hc
  · exact decS_noC _ hc
  · exact side_noC _ h1 h2
theorem ndS_noC (d : Nd) : NoC 32 (ndS d) := by
  unfold ndS
  split
  · exact noC_app (noC_one (by decide)) (decS_noC _ (.inl (by decide)))
  · exact noC_app (noC_one (by decide)) (noC_join (noC_one (by decide)) 5 (ndP_noC (.inl (by decide)) (by decide) (by decide)))
/-- The parts of a split behind its mark. -/
def partsS (s : ByteArray) : List ByteArray := Lib.splitB (one1 58) 0 (min 5 (s.size + 1) - 1) s
theorem parts_split (d : Nd) : partsS (joinTo (ndP d) (one1 58) 5) = (List.range 5).map (ndP d) := by
  have hge := join_size_ge (ndP d) (one1 58) rfl 5
  unfold partsS
  exact split_join 4 _ (ndP d) (ndP_noC (.inr (by decide)) (by decide) (by decide)) (by omega)
/-- The words of a text, at most sixteen. -/
def wordsT (s : ByteArray) : List ByteArray := Lib.splitB (one1 32) 0 (min 16 (s.size + 1) - 1) s
theorem wordsT_tree {n : Nat} {g : Nat → Nd} (h : treeB g n 6 = true) : wordsT (ntS n g) = (List.range n).map fun i => ndS (g i) := by
  have hn := ((treeB_iff g n 6).1 h).2.1
  obtain ⟨m, rfl⟩ : ∃ m, n = m + 1 := ⟨n - 1, by omega⟩
  have hge := join_size_ge (fun i => ndS (g i)) (one1 32) rfl (m + 1)
  unfold wordsT
  exact split_join m _ (fun i => ndS (g i)) (fun i _ => ndS_noC _) (by have e : ntS (m + 1) g = joinTo (fun i => ndS (g i)) (one1 32) (m + 1) := rfl; rw [e]; omega)
theorem wordsT_len (s : ByteArray) : (wordsT s).length ≤ 16 := by
  have := Lib.splitB_length_le (one1 32) 0 (min 16 (s.size + 1) - 1) s
  unfold wordsT
  omega
theorem wordsT_text {s : ByteArray} {g : Nat → Nd} (hz : ∀ i, i < (wordsT s).length → (wordsT s)[i]? = some (ndS (g i))) : s = ntS (wordsT s).length g := by
  have hj : joinTo (fun i => (wordsT s).getD i ByteArray.empty) (one1 32) (wordsT s).length = s := join_split _ s
  conv => lhs; rw [← hj]
  refine joinTo_congr _ fun i hi => ?_
  rw [List.getD_eq_getElem?_getD, hz i hi]
  rfl
theorem first_byte {a b : UInt8} {s t : ByteArray} (h : one1 a ++ s = one1 b ++ t) : a = b ∧ s = t := by
  have h1 := congrArg (fun x : ByteArray => x.data.toList) h
  simp only [data_app] at h1
  have h2 : a :: s.data.toList = b :: t.data.toList := h1
  injection h2 with h3 h4
  exact ⟨h3, ba_ext h4⟩
theorem side_inj {a b : Bool} (h : sideS a = sideS b) : a = b := by
  cases a <;> cases b
  · rfl
  · exact absurd (congrArg (fun x : ByteArray => x.data.toList) h) (by decide)
  · exact absurd (congrArg (fun x : ByteArray => x.data.toList) h) (by decide)
  · rfl
/-- One text, one node. -/
theorem ndS_inj {a b : Nd} (ha : NdIn a) (hb : NdIn b) (ga : GoodN a) (gb : GoodN b) (h : ndS a = ndS b) : a = b := by
  have hl : (⟨#[108]⟩ : ByteArray) = one1 108 := rfl
  have hs : (⟨#[115]⟩ : ByteArray) = one1 115 := rfl
  unfold ndS at h
  rw [hl, hs] at h
  obtain ⟨a0, a1, a2, a3, a4⟩ := ha
  obtain ⟨b0, b1, b2, b3, b4⟩ := hb
  obtain ⟨f1, c1, l1, r1, m1, v1⟩ := a
  obtain ⟨f2, c2, l2, r2, m2, v2⟩ := b
  by_cases ea : l1 = 0
  · by_cases eb : l2 = 0
    · rw [if_pos ea, if_pos eb] at h
      have hv := decS_inj a4 b4 (first_byte h).2
      obtain ⟨p1, p2, p3, p4⟩ := ga.1 ea
      obtain ⟨q1, q2, q3, q4⟩ := gb.1 eb
      simp only at p1 p2 p3 p4 q1 q2 q3 q4 hv
      subst p1 p2 p3 p4 q1 q2 q3 q4 hv ea eb
      rfl
    · rw [if_pos ea, if_neg eb] at h
      exact absurd (first_byte h).1 (by decide)
  · by_cases eb : l2 = 0
    · rw [if_neg ea, if_pos eb] at h
      exact absurd (first_byte h).1 (by decide)
    · rw [if_neg ea, if_neg eb] at h
      have hj := (first_byte h).2
      have hp := congrArg partsS hj
      have e1 := parts_split ⟨f1, c1, l1, r1, m1, v1⟩
      have e2 := parts_split ⟨f2, c2, l2, r2, m2, v2⟩
      have e3 := (e1.symm.trans hp).trans e2
      have at_ : ∀ i, i < 5 → ndP ⟨f1, c1, l1, r1, m1, v1⟩ i = ndP ⟨f2, c2, l2, r2, m2, v2⟩ i := fun i hi => by
        have := congrArg (fun l => l[i]?) e3
        simp only [List.getElem?_map, List.getElem?_range hi] at this
        exact Option.some.inj this
      have k0 := decS_inj a0 b0 (at_ 0 (by omega))
      have k1 := decS_inj a1 b1 (at_ 1 (by omega))
      have k2 := decS_inj a2 b2 (at_ 2 (by omega))
      have k3 := decS_inj a3 b3 (at_ 3 (by omega))
      have k4 := side_inj (at_ 4 (by omega))
      have w1 := ga.2 ea
      have w2 := gb.2 eb
      simp only at k0 k1 k2 k3 k4 w1 w2
      subst k0 k1 k2 k3 k4 w1 w2
      rfl
end Go.Proofs.YthjphnopcgdgdaaDoor
