/- The walk of the exact law of Classify. -/
import Derived.Test.YtlgomifpohdniaaGreatStQ
import Derived.Test.YtlgomifpohdniaaGreatStL
import Derived.Test.YtlgomifpohdniaaGreatK8
import Derived.Deep.RegionHeld3
namespace Go.Proofs.YtlgomifpohdniaaGreat
open Go.RowKit Go.Deep
set_option linter.unusedVariables false
set_option linter.unusedSimpArgs false

/-- What is answered, in plain words; it is one. -/
def ClAns (b : Int) (n : Nat) (g : Nat → Nat → Nd) (z1 : Nat → Int) (n2 : Nat) (z2 z3 z4 z : Nat → Int) (t : Int) (V B : Bool) (a s q : Int) : Prop :=
  (V = false → B = false ∧ a = 0 ∧ s = 0 ∧ q = 0) ∧ (V = true → ∃ k : Nat, ClAt z2 n2 n (fun k => enB t (b + sumT (scO g (ordN z1) z) k + z3 k) (b + sumT (scO g (ordN z1) z) k + z4 k)) k ∧ B = decide (b + sumT (scO g (ordN z1) z) k + z3 k ≥ t) ∧ a = (k : Int) ∧ s = sumT (scO g (ordN z1) z) k ∧ q = sumT (csF g (ordN z1) z) k)
theorem ClAns.same {b : Int} {n : Nat} {g : Nat → Nat → Nd} {z1 : Nat → Int} {n2 : Nat} {z2 z3 z4 z : Nat → Int} {t : Int} {V B B' : Bool} {a s q a' s' q' : Int} (h : ClAns b n g z1 n2 z2 z3 z4 z t V B a s q) (h' : ClAns b n g z1 n2 z2 z3 z4 z t V B' a' s' q') : B = B' ∧ a = a' ∧ s = s' ∧ q = q' := by
  cases V with
  | false =>
    obtain ⟨h1, h2, h3, h4⟩ := h.1 rfl
    obtain ⟨h5, h6, h7, h8⟩ := h'.1 rfl
    exact ⟨h1.trans h5.symm, h2.trans h6.symm, h3.trans h7.symm, h4.trans h8.symm⟩
  | true =>
    obtain ⟨k, hk, h1, h2, h3, h4⟩ := h.2 rfl
    obtain ⟨k', hk', h5, h6, h7, h8⟩ := h'.2 rfl
    obtain rfl := hk.same hk'
    exact ⟨h1.trans h5.symm, h2.trans h6.symm, h3.trans h7.symm, h4.trans h8.symm⟩
theorem sClassify_any (f b : Int) (A : Option Addr) (n c : Nat) (len : Nat → Nat) (g : Nat → Nat → Nd) (A1 : Option Addr) (n1 c1 : Nat) (z1 : Nat → Int) (A2 : Option Addr) (n2 c2 : Nat) (z2 : Nat → Int) (A3 : Option Addr) (n3 c3 : Nat) (z3 : Nat → Int) (A4 : Option Addr) (n4 c4 : Nat) (z4 : Nat → Int) (D : Option Addr) (p dc : Nat) (z : Nat → Int) (t : Int) (V : Bool) (w : World)
    (hr : RdT w w.heap.size A n len g) (hp : RdP w w.heap.size A1 n1 z1 A2 n2 z2 A3 n3 z3 A4 n4 z4) (hd : Rd w w.heap.size D p z) (hn : n ≤ 4194304) (hlen : Hid (∀ i, i < n → len i ≤ 4194304)) (k1 : n1 ≤ 9223372036854775807) (k2 : n2 ≤ 9223372036854775807) (k3 : n3 ≤ 9223372036854775807) (k4 : n4 ≤ 9223372036854775807) (hpp : p ≤ 4194304) (hV : Hid (clOk f b n len g n1 z1 n2 z2 n3 z3 n4 z4 p z t = V)) :
    Calls Tryz.prog 18 #[enV f b A n c, plV A1 n1 c1 A2 n2 c2 A3 n3 c3 A4 n4 c4, .slice D p dc, .int .i64 t] w (ClPost b n g z1 n2 z2 z3 z4 z t V w) := by
  cases V with
  | false => exact sClassify_no f b A n c len g A1 n1 c1 z1 A2 n2 c2 z2 A3 n3 c3 z3 A4 n4 c4 z4 D p dc z t w hr hp hd hn hlen k1 k2 k3 k4 hpp hV.out
  | true => exact sClassify_yes f b A n c len g A1 n1 c1 z1 A2 n2 c2 z2 A3 n3 c3 z3 A4 n4 c4 z4 D p dc z t w hr hp hd hn hlen k1 k2 k3 k4 hpp hV.out

end Go.Proofs.YtlgomifpohdniaaGreat
