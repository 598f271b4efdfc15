/- What stands as long as nothing that lay there is written: kept through calls. -/
import Derived.Test.YtlgomifpohdniaaGreatStC
namespace Go.Proofs.YtlgomifpohdniaaGreat
open Go.RowKit Go.Deep
set_option linter.unusedVariables false

/-- P stands when only new memory comes. -/
def Stb (P : World → Prop) : Prop := ∀ W W', P W → Below W.heap.size W W' → P W'
theorem stb_blk {x : Nat} {t : TypeId} {cs : Array Value} : Stb fun W => Blk W x t cs := fun _ _ h hb => h.below hb h.lt
theorem stb_bel {w0 : World} : Stb fun W => Below w0.heap.size w0 W := fun _ _ h hb => h.trans (hb.mono h.size)
theorem stb_rd {A : Option Addr} {n : Nat} {z : Nat → Int} : Stb fun W => Rd W W.heap.size A n z := fun _ _ h hb => h.to hb hb.size
theorem stb_rdT {A : Option Addr} {n : Nat} {len : Nat → Nat} {g : Nat → Nat → Nd} : Stb fun W => RdT W W.heap.size A n len g := fun _ _ h hb => h.to hb hb.size
theorem stb_rdP {A1 A2 A3 A4 : Option Addr} {n1 n2 n3 n4 : Nat} {z1 z2 z3 z4 : Nat → Int} : Stb fun W => RdP W W.heap.size A1 n1 z1 A2 n2 z2 A3 n3 z3 A4 n4 z4 := fun _ _ h hb => h.to hb hb.size
theorem stb_opt {q : Option Nat} {t : TypeId} {cs : Array Value} {lo : Nat} : Stb fun W => ∀ x, q = some x → lo ≤ x ∧ Blk W x t cs := fun _ _ h hb x e => ⟨(h x e).1, (h x e).2.below hb (h x e).2.lt⟩
theorem Stb.and {P Q : World → Prop} (h : Stb P) (k : Stb Q) : Stb fun W => P W ∧ Q W := fun W W' hp hb => ⟨h W W' hp.1 hb, k W W' hp.2 hb⟩
theorem Stb.drew {P : World → Prop} {W : World} (h : Stb P) (hp : P W) : P W.drew := h _ _ hp (Below.refl _ W).drew
theorem Stb.alloc {P : World → Prop} {W : World} (h : Stb P) (hp : P W) (o : Obj) : P (W.alloc o) := h _ _ hp ((Below.refl _ W).alloc (Nat.le_refl _) o)
/-- A call that only makes memory keeps P. -/
theorem calls_with {Pr : Program} {f : FuncId} {args : Array Value} {W : World} {P : World → Prop} {R : Ending → World → Prop} (hst : Stb P) (hp : P W)
    (h : Calls Pr f args W R) (hR : ∀ e W', R e W' → Below W.heap.size W W') : Calls Pr f args W fun e W' => R e W' ∧ P W' :=
  h.mono fun e W' hr => ⟨hr, hst _ _ hp (hR e W' hr)⟩
end Go.Proofs.YtlgomifpohdniaaGreat
