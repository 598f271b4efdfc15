/- The text of a command, of the program. -/
import Derived.Test.YthdljfidcoblfaaCmD
import Derived.Test.YthdljfidcoblfaaRdW
namespace Go.Proofs.Ythdljfidcoblfaa
open Go.RowKit Go.Deep
set_option linter.unusedVariables false
set_option linter.unusedSimpArgs false

/-- What lies in memory while the words are gathered. -/
structure GW (w0 : World) (cb fbk : Nat) (C F : Array Value) (L : List ByteArray) (R : Option Addr) (m d : Nat) (W : World) : Prop where
  num : L.length = m
  cmd : Blk W cb 27 C
  frm : Blk W fbk 36 F
  wds : W.ownsRow w0.heap.size 9 1 (.slice R m d) m (strT L)
  bel : Below w0.heap.size w0 W
section
variable {w0 W W' : World} {cb fbk : Nat} {C F : Array Value} {L : List ByteArray} {R : Option Addr} {m d : Nat}
theorem GW.below (h : GW w0 cb fbk C F L R m d W) (hb : Below W.heap.size W W') : GW w0 cb fbk C F L R m d W' :=
  ⟨h.num, h.cmd.below hb h.cmd.lt, h.frm.below hb h.frm.lt, own_belowT h.wds hb, h.bel.trans (hb.mono h.bel.size)⟩
theorem own_ne_blk {w : World} {B : Nat} {e t : TypeId} {size n : Nat} {v : Value} {xs : List Value} {g : Nat} {cs : Array Value} (h : w.ownsRow B e size v n xs) (hB : Blk w g t cs) (hne : t ≠ e) : some g ≠ v.ownBlock := fun e' => by
  rcases h.2 with ⟨hv, _⟩ | ⟨gg, cap, cur, hv, _, hg, _⟩
  · rw [hv] at e'; cases e'
  · rw [hv] at e'
    have e2 : g = gg := by simpa [Value.ownBlock] using e'
    subst e2
    exact hB.ne_ hg hne rfl
theorem GW.snoc (h : GW w0 cb fbk C F L R m d W) {x : ByteArray} {A6 : Option Addr} {c6 : Nat} (O : Obj) (hown : W'.ownsRow w0.heap.size 9 1 (.slice A6 (m + 1) c6) (m + 1) (strT L ++ [.string x])) (hg : (W.alloc O).grownBy W' (Value.slice R m d).ownBlock) :
    GW w0 cb fbk C F (L ++ [x]) A6 (m + 1) c6 W' := by
  have hA := h.below ((Below.refl _ W).alloc (Nat.le_refl _) O)
  refine ⟨by rw [List.length_append, h.num]; rfl, hA.cmd.grown hg (own_ne_blk hA.wds hA.cmd (by decide)), hA.frm.grown hg (own_ne_blk hA.wds hA.frm (by decide)), ?_, hA.bel.grown hg hA.bel.size (fun x hx => (hA.wds.lt x hx).1)⟩
  rw [strT_snoc]
  exact hown
end
theorem own_at1 {w : World} {B n c : Nat} {e : TypeId} {A : Option Addr} {xs : List Value} (h : w.ownsRow B e 1 (.slice A n c) n xs) (hn : 0 < n) :
    ∃ gb, A = some ⟨gb, 0, none⟩ ∧ B ≤ gb ∧ gb < w.heap.size ∧ ∀ (j : Nat) x, xs[j]? = some x → w.cell? ⟨gb, j, none⟩ = some x := by
  have hl := h.1
  rcases h.2 with ⟨_, h0⟩ | ⟨gb, cap, cur, hv, hb, hh, hnc, _, _, ht⟩
  · omega
  · injection hv with hA _ hC
    subst hA hC
    refine ⟨gb, rfl, hb, Blk.lt (w := w) (g := gb) (t := e) (cs := cur) hh, fun j x hx => ?_⟩
    have hj : j < xs.length := (List.getElem?_eq_some_iff.1 hx).1
    rw [cell_of_row w gb j cur _ (0, 0) hh]
    rw [← ht] at hx
    rw [List.getElem?_take] at hx
    split at hx
    · rw [Array.getElem?_toList] at hx
      exact hx
    · cases hx
theorem take_succ_get {α : Type} {L : List α} {k : Nat} {x : α} (h : L[k]? = some x) : L.take (k + 1) = L.take k ++ [x] := by
  rw [List.take_add_one, h]
  rfl

end Go.Proofs.Ythdljfidcoblfaa
