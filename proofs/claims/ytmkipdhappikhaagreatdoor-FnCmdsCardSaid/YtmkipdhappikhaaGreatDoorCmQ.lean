/- Rows of documents, each of its own block, while they are read. -/
import Derived.Test.YtmkipdhappikhaaGreatDoorCmP
import Derived.Test.YtmkipdhappikhaaGreatDoorDrawX
import Derived.Deep.AppendLies
namespace Go.Proofs.YtmkipdhappikhaaGreatDoor
open Go.RowKit Go.Deep
set_option linter.unusedVariables false
set_option linter.unusedSimpArgs false

theorem info_intsQ : ∃ i0, Tryz.prog.info? 67 = some i0 ∧ i0.zero = some (.slice none 0 0) ∧ i0.size = 1 ∧ i0.bytes = 24 := by
  have h : (Tryz.prog.info? 67).map (fun i => (i.zero, i.size, i.bytes)) = some (some (.slice none 0 0), 1, 24) := by kernel_rfl
  obtain ⟨i0, hi, hx⟩ := Option.map_eq_some_iff.1 h
  simp only [Prod.mk.injEq] at hx
  exact ⟨i0, hi, hx.1, hx.2.1, hx.2.2⟩
/-- The headers of documents. -/
def hdQ (n : Nat) (Ad : Nat → Option Addr) (len cp : Nat → Nat) : List Value := (List.range n).map fun i => .slice (Ad i) (len i) (cp i)
def updQ {α : Type} (f : Nat → α) (k : Nat) (x : α) : Nat → α := fun i => if i = k then x else f i
theorem updQ_same {α : Type} (f : Nat → α) (k : Nat) (x : α) : updQ f k x k = x := if_pos rfl
theorem updQ_other {α : Type} {f : Nat → α} {k i : Nat} {x : α} (h : i ≠ k) : updQ f k x i = f i := if_neg h
theorem hdQ_push (k : Nat) (Ad : Nat → Option Addr) (len cp : Nat → Nat) (A : Option Addr) (n c : Nat) : hdQ (k + 1) (updQ Ad k A) (updQ len k n) (updQ cp k c) = hdQ k Ad len cp ++ [.slice A n c] := by
  unfold hdQ
  rw [List.range_succ, List.map_append]
  congr 1
  · exact List.map_congr_left fun i hi => by
      have := List.mem_range.1 hi
      rw [updQ_other (by omega), updQ_other (by omega), updQ_other (by omega)]
  · simp [updQ]
theorem hdQ_at {n : Nat} {Ad : Nat → Option Addr} {len cp : Nat → Nat} {i : Nat} (hi : i < n) : (hdQ n Ad len cp)[i]? = some (.slice (Ad i) (len i) (cp i)) := by
  unfold hdQ
  rw [List.getElem?_map, List.getElem?_range hi]
  rfl
/-- Each document that has numbers lies in a block of its own from B on. -/
def RowsQ (w : World) (B n : Nat) (Ad : Nat → Option Addr) (bl len : Nat → Nat) (z : Nat → Nat → Int) : Prop :=
  ∀ i, i < n → 0 < len i → Ad i = some ⟨bl i, 0, none⟩ ∧ B ≤ bl i ∧ Row w 2 (bl i) (len i) (z i) ∧ ∀ j, j < i → 0 < len j → bl j ≠ bl i
section
variable {w w' : World} {B n : Nat} {Ad : Nat → Option Addr} {bl len cp : Nat → Nat} {z : Nat → Nat → Int}
theorem rowsQ_nil : RowsQ w B 0 Ad bl len z := fun i hi => absurd hi (Nat.not_lt_zero i)
theorem RowsQ.keep (h : RowsQ w B n Ad bl len z) (hk : ∀ i, i < n → 0 < len i → w'.heap[bl i]? = w.heap[bl i]?) : RowsQ w' B n Ad bl len z := fun i hi h0 => by
  obtain ⟨a, b, c, d⟩ := h i hi h0
  exact ⟨a, b, c.keep (hk i hi h0), d⟩
theorem RowsQ.below (h : RowsQ w B n Ad bl len z) (hb : Below w.heap.size w w') : RowsQ w' B n Ad bl len z := h.keep fun i hi h0 => hb.block _ (h i hi h0).2.2.1.lt
theorem RowsQ.grown {B2 m : Nat} {v : Value} {xs : List Value} (h : RowsQ w B n Ad bl len z) (hown : w.ownsRow B2 67 1 v m xs) (hg : w.grownBy w' v.ownBlock) : RowsQ w' B n Ad bl len z := h.keep fun i hi h0 => by
  obtain ⟨cs, hB, _⟩ := (h i hi h0).2.2.1
  exact hg.block _ hB.lt (own_ne_blk hown hB (by decide))
theorem RowsQ.push {A : Option Addr} {b m : Nat} {y : Nat → Int} (h : RowsQ w B n Ad bl len z) (hA : 0 < m → A = some ⟨b, 0, none⟩ ∧ B ≤ b ∧ Row w 2 b m y) (hlt : 0 < m → ∀ i, i < n → 0 < len i → bl i ≠ b) : RowsQ w B (n + 1) (updQ Ad n A) (updQ bl n b) (updQ len n m) (updQ z n y) := fun i hi h0 => by
  by_cases e : i = n
  · subst e
    rw [updQ_same] at h0
    obtain ⟨q1, q2, q3⟩ := hA h0
    rw [updQ_same, updQ_same, updQ_same, updQ_same]
    refine ⟨q1, q2, q3, fun j hj hj0 => ?_⟩
    rw [updQ_other (by omega)] at hj0 ⊢
    exact hlt h0 j hj hj0
  · rw [updQ_other e] at h0
    obtain ⟨q1, q2, q3, q4⟩ := h i (by omega) h0
    rw [updQ_other e, updQ_other e, updQ_other e, updQ_other e]
    refine ⟨q1, q2, q3, fun j hj hj0 => ?_⟩
    rw [updQ_other (by omega)] at hj0 ⊢
    exact q4 j hj hj0
theorem RowsQ.rdq {c : Nat} {A : Option Addr} {B2 : Nat} (h : RowsQ w B n Ad bl len z) (ho : w.ownsRow B2 67 1 (.slice A n c) n (hdQ n Ad len cp)) : RdQ w w.heap.size A n len z := fun hn => by
  obtain ⟨gb, e, _, hlt, hc⟩ := own_at1 ho hn
  refine ⟨gb, 0, e, hlt, fun i hi => ⟨Ad i, cp i, by rw [Nat.zero_add]; exact hc i _ (hdQ_at hi), fun h0 => ?_⟩⟩
  obtain ⟨q1, _, q3, _⟩ := h i hi h0
  exact ⟨bl i, 0, q1, q3.lt, fun j hj => by rw [Nat.zero_add]; exact q3.cell hj⟩
end

/-- Documents whose blocks lie from L to H, each of its own. -/
def LaidQ (w : World) (L H : Nat) (A : Option Addr) (n : Nat) (len : Nat → Nat) (z : Nat → Nat → Int) : Prop :=
  ∃ (gg : Nat) (bl cp : Nat → Nat), (0 < n → A = some ⟨gg, 0, none⟩ ∧ L ≤ gg ∧ gg < H ∧ (∃ cs, Blk w gg 67 cs) ∧ ∀ i, i < n → w.cell? ⟨gg, i, none⟩ = some (.slice (some ⟨bl i, 0, none⟩) (len i) (cp i))) ∧
    ∀ i, i < n → L ≤ bl i ∧ bl i < H ∧ Row w 2 (bl i) (len i) (z i) ∧ ∀ j, j < i → bl j ≠ bl i
theorem LaidQ.keep {w w' : World} {L H n : Nat} {A : Option Addr} {len : Nat → Nat} {z : Nat → Nat → Int} (h : LaidQ w L H A n len z) (hk : ∀ x, L ≤ x → x < H → w'.heap[x]? = w.heap[x]?) : LaidQ w' L H A n len z := by
  obtain ⟨gg, bl, cp, h1, h2⟩ := h
  refine ⟨gg, bl, cp, fun h0 => ?_, fun i hi => ?_⟩
  · obtain ⟨a, b, c, ⟨cs, d⟩, e⟩ := h1 h0
    exact ⟨a, b, c, ⟨cs, (hk gg b c).trans d⟩, fun i hi => (World.cell?_of_block (hk gg b c)).trans (e i hi)⟩
  · obtain ⟨a, b, c, d⟩ := h2 i hi
    exact ⟨a, b, c.keep (hk _ a b), d⟩
theorem LaidQ.less {w : World} {L L' H H' n : Nat} {A : Option Addr} {len : Nat → Nat} {z : Nat → Nat → Int} (h : LaidQ w L H A n len z) (hL : L' ≤ L) (hH : H ≤ H') : LaidQ w L' H' A n len z := by
  obtain ⟨gg, bl, cp, h1, h2⟩ := h
  refine ⟨gg, bl, cp, fun h0 => ?_, fun i hi => ?_⟩
  · obtain ⟨a, b, c, d⟩ := h1 h0
    exact ⟨a, by omega, by omega, d⟩
  · obtain ⟨a, b, c⟩ := h2 i hi
    exact ⟨by omega, by omega, c⟩
theorem LaidQ.below {w w' : World} {L H n : Nat} {A : Option Addr} {len : Nat → Nat} {z : Nat → Nat → Int} (h : LaidQ w L H A n len z) (hb : Below w.heap.size w w') (hH : H ≤ w.heap.size) : LaidQ w' L H A n len z :=
  h.keep fun x _ hx => hb.block x (by omega)
theorem LaidQ.rdq {w : World} {L H n : Nat} {A : Option Addr} {len : Nat → Nat} {z : Nat → Nat → Int} (h : LaidQ w L H A n len z) : RdQ w w.heap.size A n len z := fun hn => by
  obtain ⟨gg, bl, cp, h1, h2⟩ := h
  obtain ⟨hA, _, _, ⟨cs, hB⟩, hc⟩ := h1 hn
  exact ⟨gg, 0, hA, Blk.lt hB, fun i hi => ⟨some ⟨bl i, 0, none⟩, cp i, by rw [Nat.zero_add]; exact hc i hi, (h2 i hi).2.2.1.rd (h2 i hi).2.2.1.lt⟩⟩
theorem laidQ_none {w : World} {L H : Nat} {A : Option Addr} {len : Nat → Nat} {z : Nat → Nat → Int} : LaidQ w L H A 0 len z := ⟨0, fun _ => 0, fun _ => 0, fun h => absurd h (by omega), fun i hi => by omega⟩
theorem LaidQ.congr {w : World} {L H n : Nat} {A : Option Addr} {len len' : Nat → Nat} {z z' : Nat → Nat → Int} (h : LaidQ w L H A n len z) (he : ∀ i, i < n → len' i = len i ∧ ∀ j, j < len i → z' i j = z i j) : LaidQ w L H A n len' z' := by
  obtain ⟨gg, bl, cp, h1, h2⟩ := h
  refine ⟨gg, bl, cp, fun h0 => ?_, fun i hi => ?_⟩
  · obtain ⟨a, b, c, d, e⟩ := h1 h0
    exact ⟨a, b, c, d, fun i hi => by rw [(he i hi).1]; exact e i hi⟩
  · obtain ⟨a, b, c, d⟩ := h2 i hi
    refine ⟨a, b, ?_, d⟩
    rw [(he i hi).1]
    exact Row.congr c (fun j hj => ((he i hi).2 j hj).symm)
theorem LaidQ.kept {w w' : World} {L H L' H' n : Nat} {A : Option Addr} {len : Nat → Nat} {z : Nat → Nat → Int} (h : LaidQ w L' H' A n len z) (hk : KeptR L H w w') (hd : H' ≤ L ∨ H ≤ L') (hH : H' ≤ w.heap.size) : LaidQ w' L' H' A n len z :=
  h.keep fun x h1 h2 => hk.2.2.2.2 x (by omega) (by omega)
theorem laidQ_own {w : World} {B n c : Nat} {A : Option Addr} {Ad : Nat → Option Addr} {bl len cp : Nat → Nat} {z : Nat → Nat → Int} (ho : w.ownsRow B 67 1 (.slice A n c) n (hdQ n Ad len cp)) (hT : RowsQ w B n Ad bl len z) (hl : ∀ i, i < n → 0 < len i) : LaidQ w B w.heap.size A n len z := by
  by_cases h0 : 0 < n
  · obtain ⟨gb, e, hb, hlt, hc⟩ := own_at1 ho h0
    refine ⟨gb, bl, cp, fun _ => ⟨e, hb, hlt, ?_, fun i hi => ?_⟩, fun i hi => ?_⟩
    · rcases ho.2 with ⟨_, hz⟩ | ⟨gb', cap, cur, hv, _, hh, _⟩
      · omega
      · injection hv with hA _ _
        have : gb = gb' := by rw [e] at hA; injection hA with hA; injection hA
        subst this
        exact ⟨cur, hh⟩
    · rw [hc i _ (hdQ_at hi), (hT i hi (hl i hi)).1]
    · obtain ⟨_, q2, q3, q4⟩ := hT i hi (hl i hi)
      exact ⟨q2, q3.lt, q3, fun j hj => q4 j hj (hl j (by omega))⟩
  · exact ⟨0, bl, cp, fun h => absurd h h0, fun i hi => by omega⟩
end Go.Proofs.YtmkipdhappikhaaGreatDoor
