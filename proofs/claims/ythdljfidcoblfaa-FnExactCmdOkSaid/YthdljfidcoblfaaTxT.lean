/- The text of a node and of a tree, both sides. -/
import Derived.Test.YthdljfidcoblfaaTxB
import Derived.Test.YthdljfidcoblfaaRgI
import Derived.Test.YthdljfidcoblfaaK3
import Derived.Test.YthdljfidcoblfaaLaw
namespace Go.Proofs.Ythdljfidcoblfaa
open Go.RowKit Go.Deep

def sideS (m : Bool) : ByteArray := if m = true then ⟨#[108]⟩ else ⟨#[114]⟩
def ndP (d : Nd) : Nat → ByteArray
  | 0 => decS d.feat
  | 1 => decS d.cut
  | 2 => decS d.left
  | 3 => decS d.right
  | _ => sideS d.miss
def ndS (d : Nd) : ByteArray := if d.left = 0 then ⟨#[108]⟩ ++ decS d.value else ⟨#[115]⟩ ++ joinTo (ndP d) ⟨#[58]⟩ 5
def ntS (n : Nat) (g : Nat → Nd) : ByteArray := joinTo (fun i => ndS (g i)) ⟨#[32]⟩ n
def treS (n : Nat) (g : Nat → Nd) : ByteArray := if treeB g n 6 = true then ntS n g else ByteArray.empty
def I64 (x : Int) : Prop := -9223372036854775808 ≤ x ∧ x ≤ 9223372036854775807
def NdIn (d : Nd) : Prop := I64 d.feat ∧ I64 d.cut ∧ I64 d.left ∧ I64 d.right ∧ I64 d.value
theorem I64.size {x : Int} (h : I64 x) : (decS x).size ≤ 21 := decS_size h.1 h.2
theorem sideS_size (m : Bool) : (sideS m).size = 1 := by cases m <;> rfl
theorem nodeIn {n i : Nat} {d : Nd} (hn : n ≤ 1048576) (h : Node 6 n i d) : NdIn d := by
  unfold Node at h
  unfold NdIn I64
  split at h
  · unfold lfB at h
    simp only [Bool.and_eq_true, beq_iff_eq, decide_eq_true_eq] at h
    obtain ⟨⟨⟨⟨⟨h1, h2⟩, h3⟩, h4⟩, h5⟩, h6, h7⟩ := h
    omega
  · unfold spB at h
    simp only [Bool.and_eq_true, beq_iff_eq, decide_eq_true_eq] at h
    omega
theorem tree_in {n : Nat} {g : Nat → Nd} (h : treeB g n 6 = true) : ∀ i, i < n → NdIn (g i) := by
  have hT := (treeB_iff g n 6).1 h
  intro i hi
  exact nodeIn (by have := hT.2.1.2; omega) (hT.2.2 i hi).1
theorem ndP_size {d : Nd} (h : NdIn d) : ∀ i, i < 5 → (ndP d i).size ≤ 21 := by
  intro i hi
  obtain rfl | rfl | rfl | rfl | rfl : i = 0 ∨ i = 1 ∨ i = 2 ∨ i = 3 ∨ i = 4 := by omega
  · exact h.1.size
  · exact h.2.1.size
  · exact h.2.2.1.size
  · exact h.2.2.2.1.size
  · show (sideS d.miss).size ≤ 21; rw [sideS_size]; omega
theorem parts_size {d : Nd} (h : NdIn d) : (joinTo (ndP d) ⟨#[58]⟩ 5).size ≤ 110 := by
  have := joinTo_size (f := ndP d) (sep := ⟨#[58]⟩) (M := 21) 5 (ndP_size h)
  exact this
theorem ndS_size {d : Nd} (h : NdIn d) : (ndS d).size ≤ 111 := by
  unfold ndS
  split
  · rw [ByteArray.size_append]; have := h.2.2.2.2.size; show 1 + _ ≤ _; omega
  · rw [ByteArray.size_append]; have := parts_size h; show 1 + _ ≤ _; omega
theorem cat_ (a b : ByteArray) {p q : Nat} (ha : a.size ≤ p) (hb : b.size ≤ q) : ∃ t, a ++ b = t ∧ t.size ≤ p + q ∧ Hid (t = a ++ b) :=
  ⟨_, rfl, by rw [ByteArray.size_append]; omega, hid rfl⟩
theorem one_arr (a : UInt8) : (⟨#[a]⟩ : ByteArray).size ≤ 1 := Nat.le_refl 1

/-! ### this side -/
theorem sideS_is (m : Bool) : (if m = true then Value.string ⟨#[108]⟩ else .string ⟨#[114]⟩) = .string (sideS m) := by cases m <;> rfl
/-! ### the other side -/
/-- A region that draws its order, walked once, its operations quiet in a class of worlds. -/
theorem region_classT {P : Program} {C : World → Prop} {id : Nat} {Q : Exit → Act → World → Prop} {a : Act} {w : World} {l : List Oper} (hm : P.follows .mixedOrders = true) (hB : Region.lexB .any l.toArray = true) (hC : C w.drew)
    (h : wpQuiet P l.toArray C (fun a' => ∀ w', C w' → Q .normal a' w') l a) : (Code.region id l.toArray true).wp P Q a w :=
  wp_region_quiet (C := C) hm hB hC (by simpa using h)
theorem split_cat (d : Nd) : ((⟨#[115]⟩ : ByteArray) ++ decS d.feat ++ ⟨#[58]⟩ ++ decS d.cut ++ ⟨#[58]⟩ ++ decS d.left ++ ⟨#[58]⟩ ++ decS d.right ++ ⟨#[58]⟩) ++ sideS d.miss = ⟨#[115]⟩ ++ joinTo (ndP d) ⟨#[58]⟩ 5 := by
  simp only [joinTo, ndP, Nat.lt_irrefl, if_false, show (0 : Nat) < 1 from by omega, show (0 : Nat) < 2 from by omega, show (0 : Nat) < 3 from by omega, show (0 : Nat) < 4 from by omega, if_true]
  apply ByteArray.ext
  simp only [ByteArray.data_append, Array.append_assoc]
  simp

end Go.Proofs.Ythdljfidcoblfaa
