/- Nodes read, of the other side. -/
import Derived.Test.YthdljfidcoblfaaRdV
import Derived.Test.YthdljfidcoblfaaTxW
import Derived.StillTailTactics
import Derived.Deep.RegionHeld3
import Derived.Test.YthdljfidcoblfaaK6
namespace Go.Proofs.Ythdljfidcoblfaa

/-! ### RdK -/
section
set_option linter.unusedVariables false
set_option linter.unusedSimpArgs false
open Go.RowKit Go.Deep

/-- All the pieces. -/
def allW (c : UInt8) (s : ByteArray) : List ByteArray := Lib.splitB (one1 c) 0 s.size s
theorem split_fuel {c : UInt8} : ∀ (k : Nat) (s : ByteArray), s.size ≤ k → Lib.splitB (one1 c) 0 k s = allW c s := by
  intro k
  induction k using Nat.strongRecOn with
  | ind k ih =>
    intro s hs
    unfold allW
    rcases part_or c s with h | ⟨t, r, rfl, h⟩
    · rw [split_no _ h, split_no _ h]
    · have e := size_app3 t r c
      obtain ⟨j, rfl⟩ : ∃ j, k = j + 1 := ⟨k - 1, by omega⟩
      obtain ⟨q, hq⟩ : ∃ q, (t ++ one1 c ++ r).size = q + 1 := ⟨t.size + r.size, by omega⟩
      rw [hq, split_at _ h, split_at _ h, ih j (by omega) r (by omega)]
      rcases Nat.lt_or_ge q (j + 1) with hlt | hge
      · rw [ih q hlt r (by omega)]
      · have : q = j := by omega
        rw [this, ih j (by omega) r (by omega)]
theorem allW_no {c : UInt8} {s : ByteArray} (h : NoC c s) : allW c s = [s] := split_no _ h
theorem allW_at {c : UInt8} {t r : ByteArray} (h : NoC c t) : allW c (t ++ one1 c ++ r) = t :: allW c r := by
  have e := size_app3 t r c
  unfold allW
  obtain ⟨q, hq⟩ : ∃ q, (t ++ one1 c ++ r).size = q + 1 := ⟨t.size + r.size, by omega⟩
  rw [hq, split_at _ h]
  exact congrArg (t :: ·) (split_fuel q r (by omega))
theorem allW_len (c : UInt8) (s : ByteArray) : (allW c s).length ≤ s.size + 1 := Lib.splitB_length_le (one1 c) 0 s.size s
end

/-! ### RdL -/
section
set_option linter.unusedVariables false
set_option linter.unusedSimpArgs false
open Go.RowKit Go.Deep

theorem part_uniq {c : UInt8} {t r t' r' : ByteArray} (h : NoC c t) (h' : NoC c t') (e : t ++ one1 c ++ r = t' ++ one1 c ++ r') : t = t' ∧ r = r' := by
  have h1 := indexB_at (r := r) h
  rw [e, indexB_at h'] at h1
  have hs : t'.size = t.size := by omega
  have e1 := ext_head t r c
  have e2 := ext_tail t r c
  rw [e] at e1 e2
  rw [← hs] at e1 e2
  rw [ext_head] at e1
  rw [ext_tail] at e2
  exact ⟨e1.symm, e2.symm⟩
def fldN (d : Nd) : Nat → Int
  | 0 => d.feat
  | 1 => d.cut
  | 2 => d.left
  | _ => d.right
theorem ndP_fld (d : Nd) {k : Nat} (hk : k < 4) : ndP d k = decS (fldN d k) := by
  obtain rfl | rfl | rfl | rfl : k = 0 ∨ k = 1 ∨ k = 2 ∨ k = 3 := by omega
  all_goals rfl
theorem fld_i64 {d : Nd} (h : NdIn d) {k : Nat} (hk : k < 4) : I64 (fldN d k) := by
  obtain rfl | rfl | rfl | rfl : k = 0 ∨ k = 1 ∨ k = 2 ∨ k = 3 := by omega
  · exact h.1
  · exact h.2.1
  · exact h.2.2.1
  · exact h.2.2.2.1
def leftP (d : Nd) (k : Nat) : ByteArray := joinTo (fun i => ndP d (k + i)) (one1 58) (5 - k)
theorem leftP_next (d : Nd) {k : Nat} (hk : k < 4) : leftP d k = decS (fldN d k) ++ one1 58 ++ leftP d (k + 1) := by
  unfold leftP
  obtain ⟨j, hj⟩ : ∃ j, 5 - k = j + 2 := ⟨5 - k - 2, by omega⟩
  rw [hj, join_head, show 5 - (k + 1) = j + 1 by omega, ← ndP_fld d hk]
  have : (fun i => ndP d (k + (i + 1))) = fun i => ndP d (k + 1 + i) := by funext i; congr 1; omega
  rw [this]
  rfl
theorem leftP_four (d : Nd) : leftP d 4 = sideS d.miss := by
  unfold leftP
  rw [show 5 - 4 = 1 from rfl, join_one]
  rfl
/-- The node that is meant, if the word is a node's text. -/
def Means (s : ByteArray) (d : Nd) : Prop := ∀ d0, NdIn d0 → GoodN d0 → s = ndS d0 → d = d0
theorem side_l {m : Bool} : (sideS m = ⟨#[108]⟩) ↔ m = true := by
  cases m
  · exact ⟨fun h => absurd (congrArg (fun x : ByteArray => x.data.toList) h) (by decide), fun h => by cases h⟩
  · exact ⟨fun _ => rfl, fun _ => rfl⟩
theorem ndS_empty (d : Nd) : ndS d ≠ ⟨#[]⟩ := by
  intro h
  have h2 := congrArg ByteArray.size h
  unfold ndS at h2
  have e : (⟨#[]⟩ : ByteArray).size = 0 := rfl
  have e1 : (⟨#[108]⟩ : ByteArray).size = 1 := rfl
  have e2 : (⟨#[115]⟩ : ByteArray).size = 1 := rfl
  split at h2
  · rw [ByteArray.size_append, e, e1] at h2; omega
  · rw [ByteArray.size_append, e, e2] at h2; omega
theorem means_empty : Means ⟨#[]⟩ ⟨0, 0, 0, 0, false, 0⟩ := fun d0 _ _ e => absurd e.symm (ndS_empty d0)
theorem means_leaf {s : ByteArray} {x : Int} (hx : ∀ y, I64 y → s = decS y → x = y) : Means (one1 108 ++ s) ⟨0, 0, 0, 0, false, x⟩ := by
  intro d0 hin hg e
  obtain ⟨f, c, l, r, m, v⟩ := d0
  unfold ndS at e
  split at e
  · rename_i h0
    have h1 := (first_byte e).2
    obtain ⟨p1, p2, p3, p4⟩ := hg.1 h0
    have h2 := hx v hin.2.2.2.2 h1
    simp only at p1 p2 p3 p4 h0 h2
    subst p1 p2 p3 p4 h0 h2
    rfl
  · exact absurd (first_byte e).1 (by decide)
end

/-! ### RdM -/
section
set_option linter.unusedVariables false
set_option linter.unusedSimpArgs false
open Go.RowKit Go.Deep

def IntsN (d : Nd) : Prop := I64 d.value
end

/-! ### RdN -/
section
set_option linter.unusedVariables false
set_option linter.unusedSimpArgs false
open Go.RowKit Go.Deep

theorem means_rest {s u : ByteArray} (hsp : 0 < s.size) (hne : (s[0].toNat : Int) ≠ 108) (hcut : s.extract 1 s.size = u) : ∀ d0, NdIn d0 → GoodN d0 → s = ndS d0 → d0.left ≠ 0 ∧ u = leftP d0 0 := by
  intro d0 hin hg e
  unfold ndS at e
  split at e
  · exfalso
    apply hne
    have h2 := byte_at s hsp
    have h3 : s.data.toList = 108 :: (decS d0.value).data.toList := by rw [e, data_app]; rfl
    rw [h3] at h2
    have : (108 : UInt8) = s[0] := Option.some.inj h2
    rw [← this]; rfl
  · rename_i h0
    refine ⟨h0, ?_⟩
    have h4 : leftP d0 0 = joinTo (ndP d0) (one1 58) 5 := by unfold leftP; simp only [Nat.zero_add, Nat.sub_zero]
    rw [← hcut, h4]
    apply ba_ext
    rw [Lib.extract_data, ← size_len, e, data_app]
    have h5 : (⟨#[115]⟩ : ByteArray).data.toList = [115] := rfl
    rw [h5]
    simp only [List.singleton_append, List.drop_succ_cons, List.drop_zero]
    exact List.take_of_length_le (by rw [List.length_cons]; omega)
def NowS (s : ByteArray) (z : Nat → Int) (t : ByteArray) (k : Nat) : Prop := ∀ d0, NdIn d0 → GoodN d0 → s = ndS d0 → d0.left ≠ 0 ∧ (∀ j, j < k → z j = fldN d0 j) ∧ t = leftP d0 k

end

/-! ### RtA -/
section
set_option linter.unusedVariables false
set_option linter.unusedSimpArgs false
open Go.RowKit Go.Deep

/-! ### pure -/
theorem decS_le {x : Int} {k : Nat} (h0 : -((10 ^ (k + 1) : Nat) : Int) < x) (h1 : x < ((10 ^ (k + 1) : Nat) : Int)) : (decS x).size ≤ k + 2 := by
  show (Lib.itoa x).toArray.size ≤ _
  rw [List.size_toArray]
  by_cases hn : x < 0
  · obtain ⟨M, rfl⟩ : ∃ M : Nat, x = -(M : Int) := ⟨x.natAbs, by omega⟩
    rw [Lib.itoa_neg M (by omega), List.length_cons, Lib.decDigits_length]
    have := digits_le M k (by omega)
    omega
  · obtain ⟨M, rfl⟩ : ∃ M : Nat, x = (M : Int) := ⟨x.toNat, by omega⟩
    rw [Lib.itoa_nonneg, Lib.decDigits_length]
    have := digits_le M k (by omega)
    omega
theorem ndS_small {n i : Nat} {d : Nd} (hn : n ≤ 15) (h : Node 6 n i d) : (ndS d).size ≤ 30 := by
  unfold Node at h
  unfold ndS
  split at h
  · rename_i h0
    rw [if_pos h0, ByteArray.size_append]
    unfold lfB at h
    simp only [Bool.and_eq_true, beq_iff_eq, decide_eq_true_eq] at h
    have := decS_le (x := d.value) (k := 9) (by simp; omega) (by simp; omega)
    show 1 + _ ≤ _
    omega
  · rename_i h0
    rw [if_neg h0, ByteArray.size_append]
    unfold spB at h
    simp only [Bool.and_eq_true, beq_iff_eq, decide_eq_true_eq] at h
    have e0 := decS_le (x := d.feat) (k := 0) (by simp; omega) (by simp; omega)
    have e1 := decS_le (x := d.cut) (k := 6) (by simp; omega) (by simp; omega)
    have e2 := decS_le (x := d.left) (k := 1) (by simp; omega) (by simp; omega)
    have e3 := decS_le (x := d.right) (k := 1) (by simp; omega) (by simp; omega)
    have e4 := sideS_size d.miss
    have ej : (joinTo (ndP d) ⟨#[58]⟩ 5).size = (decS d.feat).size + 1 + (decS d.cut).size + 1 + (decS d.left).size + 1 + (decS d.right).size + 1 + (sideS d.miss).size := by
      simp only [joinTo, ndP, Nat.lt_irrefl, if_false, show (0 : Nat) < 1 from by omega, show (0 : Nat) < 2 from by omega, show (0 : Nat) < 3 from by omega, show (0 : Nat) < 4 from by omega, if_true, ByteArray.size_append]
      have e5 : (⟨#[58]⟩ : ByteArray).size = 1 := rfl
      have e6 : ByteArray.empty.size = 0 := rfl
      rw [e5, e6]
      omega
    rw [ej]
    show 1 + _ ≤ _
    omega
theorem treS_600 {n : Nat} {g : Nat → Nd} (h : treeB g n 6 = true) : (treS n g).size ≤ 600 := by
  have hT := (treeB_iff g n 6).1 h
  have hn := hT.2.1.2
  have := joinTo_size (f := fun i => ndS (g i)) (sep := ⟨#[32]⟩) (M := 30) n (fun i hi => ndS_small hn (hT.2.2 i hi).1)
  rw [show treS n g = ntS n g by unfold treS; rw [if_pos h]]
  have e1 : (⟨#[32]⟩ : ByteArray).size = 1 := rfl
  rw [e1] at this
  have e2 : (ntS n g).size ≤ n * 31 := this
  omega
theorem allW_tree {n : Nat} {g : Nat → Nd} (h : treeB g n 6 = true) : allW 32 (treS n g) = (List.range n).map fun i => ndS (g i) := by
  have hn := ((treeB_iff g n 6).1 h).2.1
  obtain ⟨m, rfl⟩ : ∃ m, n = m + 1 := ⟨n - 1, by omega⟩
  have hge := join_size_ge (fun i => ndS (g i)) (one1 32) rfl (m + 1)
  rw [show treS (m + 1) g = joinTo (fun i => ndS (g i)) (one1 32) (m + 1) by unfold treS; rw [if_pos h]; rfl]
  exact split_join m _ (fun i => ndS (g i)) (fun i _ => ndS_noC _) (by omega)
def zNd : Nd := ⟨0, 0, 0, 0, false, 0⟩
theorem ndL_at : ∀ (L : List Nd) (i j : Nat), i < L.length → j < 6 → (L.flatMap ndC)[i * 6 + j]? = (ndC (L.getD i zNd))[j]?
  | [], i, j, h, _ => by simp at h
  | d :: L, 0, j, _, hj => by
    rw [List.flatMap_cons, List.getElem?_append_left (by simp [ndC]; omega), Nat.zero_mul, Nat.zero_add]
    rfl
  | d :: L, i + 1, j, h, hj => by
    rw [List.flatMap_cons, List.getElem?_append_right (by simp [ndC]; omega)]
    have e : (i + 1) * 6 + j - (ndC d).length = i * 6 + j := by simp [ndC]; omega
    rw [e, ndL_at L i j (by simpa using h) hj]
    rfl
theorem own_rowL {w : World} {B m c : Nat} {t : TypeId} {A' : Option Addr} {L : List Nd} (h : w.ownsRow B t 6 (.slice A' m c) m (L.flatMap ndC)) (hL : L.length = m) (hm : 0 < m) :
    ∃ b, A' = some ⟨b, 0, none⟩ ∧ B ≤ b ∧ RowN w t b m (fun i => L.getD i zNd) := by
  rcases h.2 with ⟨_, h0⟩ | ⟨b, cap, cur, hv, hb, hg, h1, _, h3, ht⟩
  · omega
  · injection hv with e1 _ e3
    refine ⟨b, e1, hb, cur, hg, by rw [h3]; exact Nat.mul_le_mul_right 6 h1, fun i hi j hj => ?_⟩
    have hlt : i * 6 + j < m * 6 := by omega
    have := ndL_at L i j (by omega) hj
    rw [← ht, List.getElem?_take, if_pos hlt, Array.getElem?_toList] at this
    exact this
theorem own_weak {w : World} {B B' : Nat} {e : TypeId} {size : Nat} {v : Value} {n : Nat} {xs : List Value} (h : w.ownsRow B e size v n xs) (hB : B' ≤ B) : w.ownsRow B' e size v n xs := by
  refine ⟨h.1, ?_⟩
  rcases h.2 with h | ⟨g, cap, cur, e1, e2, e3⟩
  · exact .inl h
  · exact .inr ⟨g, cap, cur, e1, Nat.le_trans hB e2, e3⟩
/-- Rows of unlike elements lie in unlike blocks. -/
theorem own_apart {w : World} {B B' : Nat} {e e' : TypeId} {size size' : Nat} {v v' : Value} {n n' : Nat} {xs xs' : List Value} (h : w.ownsRow B e size v n xs) (h' : w.ownsRow B' e' size' v' n' xs') (he : e ≠ e') : v.ownBlock = none ∨ v.ownBlock ≠ v'.ownBlock := by
  rcases h.2 with ⟨rfl, _⟩ | ⟨g, cap, cur, rfl, _, hg, _⟩
  · exact .inl rfl
  · rcases h'.2 with ⟨rfl, _⟩ | ⟨g', cap', cur', rfl, _, hg', _⟩
    · right; simp [Value.ownBlock]
    · right
      intro e1
      have e2 : g = g' := by simpa [Value.ownBlock] using e1
      subst e2
      rw [hg] at hg'
      injection hg' with hg'
      injection hg' with _ h3 _
      exact he h3

end
end Go.Proofs.Ythdljfidcoblfaa
