/- Slices of slices of nodes: what reads as a list of lists of nodes; copies, comparisons and sizes of the exact laws. -/
import Derived.Test.YtmpgefpaoogoiaaRangeLaw
import Derived.Test.YtmpgefpaoogoiaaLeafLaw
import Derived.Test.YtmpgefpaoogoiaaLawN
namespace Go.Proofs.Ytmpgefpaoogoiaa
open Go.RowKit Go.Deep

/-- The slice at A reads as n lists of nodes, and lies with them below block B. -/
def RdT (w : World) (B : Nat) (A : Option Addr) (n : Nat) (len : Nat → Nat) (g : Nat → Nat → Nd) : Prop :=
  0 < n → ∃ b off, A = some ⟨b, off, none⟩ ∧ b < B ∧ ∀ i, i < n → ∃ Ai ci, w.cell? ⟨b, off + i, none⟩ = some (.slice Ai (len i) ci) ∧ RdN w B Ai (len i) (g i)
section
variable {w w' : World} {B B' n : Nat} {A : Option Addr} {len : Nat → Nat} {g : Nat → Nat → Nd}
theorem RdT.keep (h : RdT w B A n len g) (hk : ∀ p : Addr, p.block < B → w'.cell? p = w.cell? p) : RdT w' B A n len g := fun hn => by
  obtain ⟨b, off, e, hb, hc⟩ := h hn
  refine ⟨b, off, e, hb, fun i hi => ?_⟩
  obtain ⟨Ai, ci, h1, h2⟩ := hc i hi
  exact ⟨Ai, ci, (hk ⟨b, off + i, none⟩ hb).trans h1, h2.keep hk⟩
theorem RdT.more (h : RdT w B A n len g) (hB : B ≤ B') : RdT w B' A n len g := fun hn => by
  obtain ⟨b, off, e, hb, hc⟩ := h hn
  refine ⟨b, off, e, by omega, fun i hi => ?_⟩
  obtain ⟨Ai, ci, h1, h2⟩ := hc i hi
  exact ⟨Ai, ci, h1, h2.more hB⟩
theorem RdT.below (h : RdT w B A n len g) (hb : Below B w w') : RdT w' B A n len g := h.keep fun _ hp => hb.cell hp
theorem RdT.to (h : RdT w w.heap.size A n len g) (hb : Below w.heap.size w w') (hB : w.heap.size ≤ w'.heap.size) : RdT w' w'.heap.size A n len g := (h.below hb).more hB
theorem RdT.at_ {k : Nat} (h : RdT w B A n len g) (hk : k < n) : ∃ b off Ai ci, A = some ⟨b, off, none⟩ ∧ b < B ∧ w.cell? ⟨b, off + k, none⟩ = some (.slice Ai (len k) ci) ∧ RdN w B Ai (len k) (g k) := by
  obtain ⟨b, off, e, hb, hc⟩ := h (by omega)
  obtain ⟨Ai, ci, h1, h2⟩ := hc k hk
  exact ⟨b, off, Ai, ci, e, hb, h1, h2⟩
end
theorem rdt_none {w : World} {B : Nat} {A : Option Addr} {len : Nat → Nat} {g : Nat → Nat → Nd} : RdT w B A 0 len g := fun h => absurd h (by omega)

/-- The same in new memory: blocks from L on. -/
def LoT (w : World) (L B : Nat) (A : Option Addr) (n : Nat) (len : Nat → Nat) (g : Nat → Nat → Nd) : Prop :=
  0 < n → ∃ b, A = some ⟨b, 0, none⟩ ∧ L ≤ b ∧ b < B ∧ ∀ i, i < n → ∃ bi ci, w.cell? ⟨b, i, none⟩ = some (.slice (some ⟨bi, 0, none⟩) (len i) ci) ∧ L ≤ bi ∧ bi < B ∧ ∀ j, j < len i → NdAt w bi (j * 6) (g i j)
theorem LoT.rdT {w : World} {L B n : Nat} {A : Option Addr} {len : Nat → Nat} {g : Nat → Nat → Nd} (h : LoT w L B A n len g) : RdT w B A n len g := fun hn => by
  obtain ⟨b, e, _, hb, hc⟩ := h hn
  refine ⟨b, 0, e, hb, fun i hi => ?_⟩
  obtain ⟨bi, ci, h1, _, h2, h3⟩ := hc i hi
  exact ⟨_, ci, by rw [Nat.zero_add]; exact h1, fun _ => ⟨bi, 0, rfl, h2, fun j hj => by rw [Nat.zero_add]; exact h3 j hj⟩⟩
theorem LoT.keep {w w' : World} {L B n : Nat} {A : Option Addr} {len : Nat → Nat} {g : Nat → Nat → Nd} (h : LoT w L B A n len g) (hk : ∀ p : Addr, L ≤ p.block → p.block < B → w'.cell? p = w.cell? p) : LoT w' L B A n len g := fun hn => by
  obtain ⟨b, e, hL, hb, hc⟩ := h hn
  refine ⟨b, e, hL, hb, fun i hi => ?_⟩
  obtain ⟨bi, ci, h1, h2, h3, h4⟩ := hc i hi
  exact ⟨bi, ci, (hk ⟨b, i, none⟩ hL hb).trans h1, h2, h3, fun j hj => (h4 j hj).keep fun o => hk ⟨bi, o, none⟩ h2 h3⟩

theorem info_nodes : (Try.prog.info? 74).map (fun i => (i.zero, i.size, i.bytes)) = some (some (.slice none 0 0), 1, 24) := by kernel_rfl

set_option maxHeartbeats 2000000 in
theorem toT_any (A : Option Addr) (n cap : Nat) (len : Nat → Nat) (g : Nat → Nat → Nd) (w : World) (h : RdT w w.heap.size A n len g) (hn : n ≤ 4194304) (hlen : Hid (∀ i, i < n → len i ≤ 4194304)) :
    Calls Try.prog 70 #[.slice A n cap] w fun e w' =>
      ∃ b, e = .returned (.slice (some ⟨b, 0, none⟩) n n) ∧ w.heap.size ≤ b ∧ LoT w' w.heap.size w'.heap.size (some ⟨b, 0, none⟩) n len g ∧ Below w.heap.size w w' := by
  obtain ⟨i0, hi0, hz0, hz1, hz2⟩ := info_parts info_nodes
  have hmk := fun wx => run_make_rowN (P := Try.prog) 31 74 i0 _ Try.underlying31 hi0 hz0 .i64 .i64 n n (Nat.le_refl _) (by rw [hz2]; omega) (by omega) wx
  rw [hz1] at hmk
  clear hz0 hz1 hz2 hi0
  go_enter Try.func70, Try.ntmps70
  go_wp2_with fail
  go_loopw [4] (fun i wr => ∃ (k : Nat) (cs : Array Value), k ≤ n ∧ i = .int .i64 k ∧ Blk wr w.heap.size 74 cs ∧ n ≤ cs.size ∧ Hid (∀ i, i < k → ∃ b, cs[i]? = some (.slice (some ⟨b, 0, none⟩) (len i) (len i)) ∧ w.heap.size ≤ b ∧ RowN wr 135 b (len i) (g i)) ∧ Below w.heap.size w wr)
    (fun i _ => n - (intOf i).toNat)
  case atStart => exact ⟨0, _, Nat.zero_le _, rfl, Blk.new _ _ _, by simp [madeCells], fun j hj => by omega, (Below.refl _ _).alloc (Nat.le_refl _) _⟩
  case round =>
    obtain ⟨k, cs, hk, rfl, hB, hsz, hcs, hbl⟩ := hrel
    by_cases hlt : k < n
    · obtain ⟨b, off, Ai, ci, rfl, hb, hc, hrd⟩ := (h.below hbl).at_ hlt
      have hl : (k : Int) < (n : Int) := by omega
      have hl0 : (0 : Int) ≤ (k : Int) := by omega
      go_wp2_with fail
      refine (toN_any Ai (len k) ci (g k) _ (hrd.more hbl.size) (hlen.out k hlt)).mono ?_
      rintro e w1 ⟨bk, rfl, hbk, hrow, hb1⟩
      have hB1 := hB.below hb1 hB.lt
      have hcs1 : Hid (∀ i, i < k → ∃ b, cs[i]? = some (.slice (some ⟨b, 0, none⟩) (len i) (len i)) ∧ w.heap.size ≤ b ∧ RowN w1 135 b (len i) (g i)) := fun i hi => by
        obtain ⟨bi, h1, h3, h2⟩ := hcs.out i hi
        exact ⟨bi, h1, h3, h2.below hb1 h2.lt⟩
      have hbl1 := hbl.trans (hb1.mono hbl.size)
      have hbk' := Nat.le_trans hbl.size hbk
      clear hcs hb1 hB hbl hrd hc
      have s0 : w1.cell? ⟨w.heap.size, k, none⟩ = some (cs[k]'(by omega)) := by rw [hB1.cell, Array.getElem?_eq_getElem]
      have f0 := hB1.frozen k
      have HROW := hid hrow
      clear hrow
      go_wp2_with fail
      go_roundw
      case rel =>
        have hfar : ∀ {bi : Nat} {m : Nat} {gi : Nat → Nd}, RowN w1 135 bi m gi → RowN (w1.setCell ⟨w.heap.size, k, none⟩ (.slice (some ⟨bk, 0, none⟩) (len k) (len k))) 135 bi m gi := fun {bi m gi} hr => by
          obtain ⟨cs', hB', hs', hc'⟩ := hr
          exact ⟨cs', hB'.far (p := ⟨w.heap.size, k, none⟩) (Blk.ne_ hB' hB1 (by decide)) _, hs', hc'⟩
        refine ⟨k + 1, _, by omega, by go_num, hB1.set_ k _, by simpa using hsz, fun j hj => ?_, hbl1.setCell (p := ⟨w.heap.size, k, none⟩) (Nat.le_refl _) _⟩
        by_cases e : j = k
        · subst e
          exact ⟨bk, by rw [Array.getElem?_setIfInBounds_self_of_lt (by omega)], hbk', hfar HROW.out⟩
        · obtain ⟨bj, h1, h3, h2⟩ := hcs1.out j (by omega)
          exact ⟨bj, by rw [Array.getElem?_setIfInBounds_ne (by omega)]; exact h1, h3, hfar h2⟩
      case measure => simp [intOf]; omega
    · have e : k = n := by omega
      go_wp2_with fail
      go_ret
      subst e
      refine ⟨_, rfl, Nat.le_refl _, fun hn0 => ⟨w.heap.size, rfl, Nat.le_refl _, hB.lt, fun i hi => ?_⟩, hbl⟩
      obtain ⟨bi, h1, h3, h2⟩ := hcs.out i hi
      exact ⟨bi, len i, by rw [hB.cell]; exact h1, h3, h2.lt, fun j hj => h2.ndAt hj⟩

set_option maxHeartbeats 2000000 in
/-- eqNodeSS at two slices that read alike. -/
theorem eqT_any (A A' : Option Addr) (n c c' : Nat) (len : Nat → Nat) (g : Nat → Nat → Nd) (w : World) (h : RdT w w.heap.size A n len g) (h' : RdT w w.heap.size A' n len g) (hn : n ≤ 4194304) (hlen : Hid (∀ i, i < n → len i ≤ 4194304)) :
    Calls Try.prog 75 #[.slice A n c, .slice A' n c'] w fun e w' => e = .returned (.bool true) ∧ Below w.heap.size w w' := by
  go_enter Try.func75, Try.ntmps75
  go_wp2_with fail
  go_loopw [5] (fun i wr => ∃ k : Nat, k ≤ n ∧ i = .int .i64 k ∧ Below w.heap.size w wr) (fun i _ => n - (intOf i).toNat)
  case atStart => exact ⟨0, Nat.zero_le _, rfl, Below.refl _ _⟩
  case round =>
    obtain ⟨k, hk, rfl, hbl⟩ := hrel
    by_cases hlt : k < n
    · obtain ⟨b, off, Ai, ci, rfl, hb, hc, hrd⟩ := (h.below hbl).at_ hlt
      obtain ⟨b', off', Ai', ci', rfl, hb', hc', hrd'⟩ := (h'.below hbl).at_ hlt
      have hi : (k : Int) < (n : Int) := by omega
      have hi0 : (0 : Int) ≤ (k : Int) := by omega
      have hlb : b < wr.heap.size := Nat.lt_of_lt_of_le hb hbl.size
      have hlb' : b' < wr.heap.size := Nat.lt_of_lt_of_le hb' hbl.size
      have hr1 : RdN wr.drew wr.drew.heap.size Ai (len k) (g k) := hrd.more hbl.size
      have hr2 : RdN wr.drew wr.drew.heap.size Ai' (len k) (g k) := hrd'.more hbl.size
      have hlk := hlen.out k hlt
      clear hrd hrd'
      go_wp2_with fail
      go_region_held3 (fun w' => w'.cell? ⟨b, off + k, none⟩ = some (.slice Ai (len k) ci) ∧ w'.cell? ⟨b', off' + k, none⟩ = some (.slice Ai' (len k) ci'))
        (first | (simp [go_sem]; done) | exact ⟨e0, e0'⟩ | (simp [go_sem, *]; done))
        (first
          | (go_at_call 124; refine (eqN_any Ai Ai' (len k) ci ci' (g k) wr.drew hr1 hr2 hlk).mono ?_; rintro e w1 ⟨rfl, hb1⟩; obtain ⟨hc1, hf1⟩ := bcell hb1; have e0 := (hc1 b _ hlb).trans hc; have e0' := (hc1 b' _ hlb').trans hc'))
      have hbl2 := hbl.drew.trans (hb1.mono hbl.size)
      clear hb1 hc1 hf1 e0 e0' hc hc' hr1 hr2
      go_wp2_with fail
      go_roundw
      case rel => exact ⟨k + 1, by omega, by go_num, hbl2⟩
      case measure => simp [intOf]; omega
    · go_wp2_with fail
      go_ret
      exact ⟨rfl, hbl⟩

set_option maxHeartbeats 2000000 in
/-- The size: either it is too much, or all is small. -/
theorem szT_any (A : Option Addr) (n cap : Nat) (len : Nat → Nat) (g : Nat → Nat → Nd) (l : Int) (w : World) (h : RdT w w.heap.size A n len g) (hn : n ≤ 9223372036854775807) (hlen : Hid (∀ i, i < n → len i ≤ 9223372036854775807)) (h0 : 0 ≤ l) (h1 : l ≤ 1048576) :
    Calls Try.prog 64 #[.slice A n cap, .int .i64 l] w fun e w' =>
      ∃ y : Int, e = .returned (.int .i64 y) ∧ (y < 0 ∨ (0 ≤ y ∧ y ≤ l ∧ n ≤ 1048576 ∧ ∀ i, i < n → len i ≤ 1048576)) ∧ w = w' := by
  by_cases hbig : l - (n : Int) < 0
  · go_enter Try.func64, Try.ntmps64
    go_wp2_with fail
    go_ret
    exact ⟨_, rfl, .inl (by omega), rfl⟩
  · go_enter Try.func64, Try.ntmps64
    go_wp2_with fail
    go_loopw [1, 5] (fun y i wr => ∃ (k : Nat) (x : Int), k ≤ n ∧ i = .int .i64 k ∧ y = .int .i64 x ∧ 0 ≤ x ∧ x ≤ l ∧ Hid (∀ j, j < k → len j ≤ 1048576) ∧ wr = w) (fun _ i _ => n - (intOf i).toNat)
    case atStart => exact ⟨0, _, Nat.zero_le _, rfl, rfl, by omega, by omega, fun j hj => by omega, rfl⟩
    case round =>
      obtain ⟨k, x, hk, rfl, rfl, hx0, hx1, hall, rfl⟩ := hrel
      by_cases hlt : k < n
      · obtain ⟨b, off, Ai, ci, rfl, hb, hc, hrd⟩ := h.at_ hlt
        have hl : (k : Int) < (n : Int) := by omega
        have hl0 : (0 : Int) ≤ (k : Int) := by omega
        have hlk := hlen.out k hlt
        by_cases hb2 : x - (len k : Int) < 0
        · go_wp2_with fail
          refine (szN_big Ai (len k) ci x _ hlk hx0 (by omega) hb2).mono ?_
          rintro e w1 ⟨rfl, rfl⟩
          go_wp2_with fail
          go_ret
          exact ⟨_, rfl, .inl (by omega), rfl⟩
        · go_wp2_with fail
          refine (szN_ok Ai (len k) ci x _ hlk hx0 (by omega) (by omega)).mono ?_
          rintro e w1 ⟨rfl, rfl⟩
          go_wp2_with fail
          go_roundw
          case rel =>
            refine ⟨k + 1, _, by omega, by go_num, rfl, by omega, by omega, fun j hj => ?_, by first | trivial | rfl⟩
            by_cases e : j = k
            · subst e; omega
            · exact hall.out j (by omega)
          case measure => simp [intOf]; omega
      · go_wp2_with fail
        go_ret
        have e : k = n := by omega
        subst e
        exact ⟨x, rfl, .inr ⟨hx0, hx1, by omega, hall.out⟩, rfl⟩
end Go.Proofs.Ytmpgefpaoogoiaa
