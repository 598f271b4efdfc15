/- A tree's text read: in plain words, and of the other side. -/
import Derived.Test.YtkkkpijdbfijfaaGreatDoorRdN
import Derived.Test.YtkkkpijdbfijfaaGreatDoorK6
namespace Go.Proofs.YtkkkpijdbfijfaaGreatDoor
open Go.RowKit Go.Deep

/-! ### pure -/
theorem decS_le {x : Int} {k : Nat} (h0 : -((10 ^ (k + 1) : Nat) : Int) < x) (h1 : x < ((10 ^ (k + 1) : Nat) : Int)) : (decS x).size ≤ k + 2 := by
  show (Lib.itoa x).toArray.size ≤ _
  rw [List.size_toArray]
  by_cases hn : x < 0
  · obtain ⟨M, rfl⟩ : ∃ M : Nat, x = -(M : Int) := ⟨x.natAbs, by omega⟩
    rw [Lib.itoa_neg M (by omega), List.length_cons, Lib.decDigits_length]
    have := digits_le M k (by omega)
    omega
  · obtain ⟨M, rfl⟩ : ∃ M : Nat, x = (M : Int) := ⟨x.toNat, by omega⟩
    rw [Lib.itoa_nonneg, Lib.decDigits_length]
    have := digits_le M k (by omega)
    omega
theorem ndS_small {n i : Nat} {d : Nd} (hn : n ≤ 15) (h : Node 6 n i d) : (ndS d).size ≤ 30 := by
  unfold Node at h
  unfold ndS
  split at h
  · rename_i h0
    rw [if_pos h0, ByteArray.size_append]
    unfold lfB at h
    simp only [Bool.and_eq_true, beq_iff_eq, decide_eq_true_eq] at h
    have := decS_le (x := d.value) (k := 9) (by simp; omega) (by simp; omega)
    show 1 + _ ≤ _
    omega
  · rename_i h0
    rw [if_neg h0, ByteArray.size_append]
    unfold spB at h
    simp only [Bool.and_eq_true, beq_iff_eq, decide_eq_true_eq] at h
    have e0 := decS_le (x := d.feat) (k := 0) (by simp; omega) (by simp; omega)
    have e1 := decS_le (x := d.cut) (k := 6) (by simp; omega) (by simp; omega)
    have e2 := decS_le (x := d.left) (k := 1) (by simp; omega) (by simp; omega)
    have e3 := decS_le (x := d.right) (k := 1) (by simp; omega) (by simp; omega)
    have e4 := sideS_size d.miss
    have ej : (joinTo (ndP d) ⟨#[58]⟩ 5).size = (decS d.feat).size + 1 + (decS d.cut).size + 1 + (decS d.left).size + 1 + (decS d.right).size + 1 + (sideS d.miss).size := by
      simp only [joinTo, ndP, Nat.lt_irrefl, if_false, show (0 : Nat) < 1 from by omega, show (0 : Nat) < 2 from by omega, show (0 : Nat) < 3 from by omega, show (0 : Nat) < 4 from by omega, if_true, ByteArray.size_append]
      have e5 : (⟨#[58]⟩ : ByteArray).size = 1 := rfl
      have e6 : ByteArray.empty.size = 0 := rfl
      rw [e5, e6]
      omega
    rw [ej]
    show 1 + _ ≤ _
    omega
theorem treS_600 {n : Nat} {g : Nat → Nd} (h : treeB g n 6 = true) : (treS n g).size ≤ 600 := by
  have hT := (treeB_iff g n 6).1 h
  have hn := hT.2.1.2
  have := joinTo_size (f := fun i => ndS (g i)) (sep := ⟨#[32]⟩) (M := 30) n (fun i hi => ndS_small hn (hT.2.2 i hi).1)
  rw [show treS n g = ntS n g by unfold treS; rw [if_pos h]]
  have e1 : (⟨#[32]⟩ : ByteArray).size = 1 := rfl
  rw [e1] at this
  have e2 : (ntS n g).size ≤ n * 31 := this
  omega
theorem allW_tree {n : Nat} {g : Nat → Nd} (h : treeB g n 6 = true) : allW 32 (treS n g) = (List.range n).map fun i => ndS (g i) := by
  have hn := ((treeB_iff g n 6).1 h).2.1
  obtain ⟨m, rfl⟩ : ∃ m, n = m + 1 := ⟨n - 1, by omega⟩
  have hge := join_size_ge (fun i => ndS (g i)) (one1 32) rfl (m + 1)
  rw [show treS (m + 1) g = joinTo (fun i => ndS (g i)) (one1 32) (m + 1) by unfold treS; rw [if_pos h]; rfl]
  exact split_join m _ (fun i => ndS (g i)) (fun i _ => ndS_noC _) (by omega)
def zNd : Nd := ⟨0, 0, 0, 0, false, 0⟩
theorem ndL_at : ∀ (L : List Nd) (i j : Nat), i < L.length → j < 6 → (L.flatMap ndC)[i * 6 + j]? = (ndC (L.getD i zNd))[j]?
  | [], i, j, h, _ => by simp at h
  | d :: L, 0, j, _, hj => by
    rw [List.flatMap_cons, List.getElem?_append_left (by simp [ndC]; omega), Nat.zero_mul, Nat.zero_add]
    rfl
  | d :: L, i + 1, j, h, hj => by
    rw [List.flatMap_cons, List.getElem?_append_right (by simp [ndC]; omega)]
    have e : (i + 1) * 6 + j - (ndC d).length = i * 6 + j := by simp [ndC]; omega
    rw [e, ndL_at L i j (by simpa using h) hj]
    rfl
theorem own_rowL {w : World} {B m c : Nat} {t : TypeId} {A' : Option Addr} {L : List Nd} (h : w.ownsRow B t 6 (.slice A' m c) m (L.flatMap ndC)) (hL : L.length = m) (hm : 0 < m) :
    ∃ b, A' = some ⟨b, 0, none⟩ ∧ B ≤ b ∧ RowN w t b m (fun i => L.getD i zNd) := by
  rcases h.2 with ⟨_, h0⟩ | ⟨b, cap, cur, hv, hb, hg, h1, _, h3, ht⟩
  · omega
  · injection hv with e1 _ e3
    refine ⟨b, e1, hb, cur, hg, by rw [h3]; exact Nat.mul_le_mul_right 6 h1, fun i hi j hj => ?_⟩
    have hlt : i * 6 + j < m * 6 := by omega
    have := ndL_at L i j (by omega) hj
    rw [← ht, List.getElem?_take, if_pos hlt, Array.getElem?_toList] at this
    exact this
theorem own_rdL {w : World} {B m c : Nat} {A' : Option Addr} {L : List Nd} (h : w.ownsRow B 42 6 (.slice A' m c) m (L.flatMap ndC)) (hL : L.length = m) : RdN w w.heap.size A' m (fun i => L.getD i zNd) := fun hm => by
  obtain ⟨b, rfl, hb, hr⟩ := own_rowL h hL hm
  exact hr.rd hr.lt hm
theorem own_weak {w : World} {B B' : Nat} {e : TypeId} {size : Nat} {v : Value} {n : Nat} {xs : List Value} (h : w.ownsRow B e size v n xs) (hB : B' ≤ B) : w.ownsRow B' e size v n xs := by
  refine ⟨h.1, ?_⟩
  rcases h.2 with h | ⟨g, cap, cur, e1, e2, e3⟩
  · exact .inl h
  · exact .inr ⟨g, cap, cur, e1, Nat.le_trans hB e2, e3⟩
/-- Rows of unlike elements lie in unlike blocks. -/
theorem own_apart {w : World} {B B' : Nat} {e e' : TypeId} {size size' : Nat} {v v' : Value} {n n' : Nat} {xs xs' : List Value} (h : w.ownsRow B e size v n xs) (h' : w.ownsRow B' e' size' v' n' xs') (he : e ≠ e') : v.ownBlock = none ∨ v.ownBlock ≠ v'.ownBlock := by
  rcases h.2 with ⟨rfl, _⟩ | ⟨g, cap, cur, rfl, _, hg, _⟩
  · exact .inl rfl
  · rcases h'.2 with ⟨rfl, _⟩ | ⟨g', cap', cur', rfl, _, hg', _⟩
    · right; simp [Value.ownBlock]
    · right
      intro e1
      have e2 : g = g' := by simpa [Value.ownBlock] using e1
      subst e2
      rw [hg] at hg'
      injection hg' with hg'
      injection hg' with _ h3 _
      exact he h3

def TrAns (s : ByteArray) (w : World) (e : Ending) (w' : World) : Prop :=
  ((∃ n g b c, treeB g n 6 = true ∧ s = treS n g ∧ e = .returned (.tuple #[.slice (some ⟨b, 0, none⟩) n c, .bool true]) ∧ w.heap.size ≤ b ∧ RowN w' 42 b n g) ∨
   ((∀ n g, treeB g n 6 = true → s ≠ treS n g) ∧ e = .returned (.tuple #[.slice none 0 0, .bool false]))) ∧ Below w.heap.size w w'
theorem info_nodeT : ∃ i0, Tryz.prog.info? 42 = some i0 ∧ i0.zero = some (ndV zNd) ∧ i0.size = 6 ∧ i0.bytes = 48 := by
  have h : (Tryz.prog.info? 42).map (fun i => (i.zero, i.size, i.bytes)) = some (some (ndV zNd), 6, 48) := by kernel_rfl
  obtain ⟨i0, hi, hx⟩ := Option.map_eq_some_iff.1 h
  simp only [Prod.mk.injEq] at hx
  exact ⟨i0, hi, hx.1, hx.2.1, hx.2.2⟩
theorem nd_src (w : World) (d : Nd) : ∀ j u, ([d].flatMap ndC)[j]? = some u → (w.alloc (.cells #[.int .i64 d.feat, .int .i64 d.cut, .int .i64 d.left, .int .i64 d.right, .bool d.miss, .int .i64 d.value] 42)).cell? ((⟨w.heap.size, 0, none⟩ : Addr).add j) = some u := fun j u hj => by
  rw [Addr.add_lit, Nat.zero_add, (Blk.new w _ _).cell]
  simpa [ndC] using hj
end Go.Proofs.YtkkkpijdbfijfaaGreatDoor
