/- The text of an ensemble, this side, and the law's walk. -/
import Derived.Test.YtmkipdhappikhaaDoorTxV
namespace Go.Proofs.YtmkipdhappikhaaDoor
open Go.RowKit Go.Deep

def strT (L : List ByteArray) : List Value := L.map Value.string
theorem strT_len (L : List ByteArray) : (strT L).length = L.length * 1 := by simp [strT]
theorem strT_snoc (L : List ByteArray) (x : ByteArray) : strT (L ++ [x]) = strT L ++ [.string x] := by simp [strT]
theorem own_belowT {w w' : World} {base : Nat} {e : TypeId} {size : Nat} {v : Value} {n : Nat} {xs : List Value} (h : w.ownsRow base e size v n xs) (hb : Below w.heap.size w w') : w'.ownsRow base e size v n xs :=
  h.kept (row := none) ⟨hb.os, hb.tape, hb.output, hb.size, fun i hi _ => hb.block i hi⟩ (by cases hv : v.ownBlock <;> simp)
theorem info_strT_parts : ∃ i0, Tryd.prog.info? 9 = some i0 ∧ i0.zero = some (.string ByteArray.empty) ∧ i0.size = 1 ∧ i0.bytes = 16 := by
  obtain ⟨i0, hi, hx⟩ := Option.map_eq_some_iff.1 info_strT
  simp only [Prod.mk.injEq] at hx
  exact ⟨i0, hi, hx.1, hx.2.1, hx.2.2⟩
theorem own_formT {w : World} {base : Nat} {e : TypeId} {size : Nat} {v : Value} {n : Nat} {xs : List Value} (h : w.ownsRow base e size v n xs) : ∃ A c, v = .slice A n c := by
  rcases h.2 with ⟨rfl, rfl⟩ | ⟨g, cap, cur, rfl, _⟩
  · exact ⟨_, _, rfl⟩
  · exact ⟨_, _, rfl⟩
theorem cell_one_newT (w : World) (x : Value) (t : TypeId) : ∀ j u, [x][j]? = some u → (w.alloc (.cells #[x] t)).cell? ((⟨w.heap.size, 0, none⟩ : Addr).add j) = some u := fun j u hj => by
  obtain rfl : j = 0 := by rcases j with _ | j <;> simp_all
  simp at hj
  subst hj
  rw [Addr.add_lit]
  exact (Blk.new w t #[x]).cell 0
/-- A row of one's own, of strings: where it lies. -/
theorem own_strT {w : World} {base n c : Nat} {A : Option Addr} {L : List ByteArray} (h : w.ownsRow base 9 1 (.slice A n c) n (strT L)) (hn : 0 < n) :
    ∃ gb, A = some ⟨gb, 0, none⟩ ∧ gb < w.heap.size ∧ n ≤ c ∧ ∀ (j : Nat) x, L[j]? = some x → w.cell? ⟨gb, 0 + j, none⟩ = some (.string x) := by
  have hl := h.1
  rw [strT_len] at hl
  rcases h.2 with ⟨_, h0⟩ | ⟨gb, cap, cur, hv, hb, hh, hnc, _⟩
  · omega
  · injection hv with hA _ hC
    subst hA hC
    refine ⟨gb, rfl, Blk.lt (w := w) (g := gb) (t := 9) (cs := cur) hh, hnc, fun j x hx => ?_⟩
    have hj : j < L.length := (List.getElem?_eq_some_iff.1 hx).1
    rw [Nat.zero_add, h.cellAt j (by omega)]
    unfold strT
    rw [List.getElem?_map, hx]
    rfl
/-- The list of the parts up to k. -/
def entL (f b : Int) (len : Nat → Nat) (g : Nat → Nat → Nd) (k : Nat) : List ByteArray := (List.range k).map (entP f b len g)
theorem entL_succ {f b : Int} {len : Nat → Nat} {g : Nat → Nat → Nd} {k : Nat} : entL f b len g (k + 1) = entL f b len g k ++ [entP f b len g k] := by
  unfold entL
  rw [List.range_succ, List.map_append]
  rfl
theorem entL_len {f b : Int} {len : Nat → Nat} {g : Nat → Nat → Nd} {k : Nat} : (entL f b len g k).length = k := by simp [entL]

end Go.Proofs.YtmkipdhappikhaaDoor
