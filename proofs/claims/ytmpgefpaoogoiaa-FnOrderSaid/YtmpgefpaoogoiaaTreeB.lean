/- Slices of nodes: what reads as a list of nodes; copies and comparisons of the exact laws. -/
import Derived.Test.YtmpgefpaoogoiaaTreeA
namespace Go.Proofs.Ytmpgefpaoogoiaa
open Go.RowKit Go.Deep

/-- Six cells at an address are the node d. -/
def NdAt (w : World) (b o : Nat) (d : Nd) : Prop :=
  w.cell? ⟨b, o, none⟩ = some (.int .i64 d.feat) ∧ w.cell? ⟨b, o + 1, none⟩ = some (.int .i64 d.cut) ∧ w.cell? ⟨b, o + 2, none⟩ = some (.int .i64 d.left) ∧
  w.cell? ⟨b, o + 3, none⟩ = some (.int .i64 d.right) ∧ w.cell? ⟨b, o + 4, none⟩ = some (.bool d.miss) ∧ w.cell? ⟨b, o + 5, none⟩ = some (.int .i64 d.value)
/-- The slice at A reads as n nodes g, and lies below block B. -/
def RdN (w : World) (B : Nat) (A : Option Addr) (n : Nat) (g : Nat → Nd) : Prop :=
  0 < n → ∃ b off, A = some ⟨b, off, none⟩ ∧ b < B ∧ ∀ i, i < n → NdAt w b (off + i * 6) (g i)
section
variable {w w' : World} {B B' n : Nat} {A : Option Addr} {g : Nat → Nd}
theorem NdAt.keep {b o : Nat} {d : Nd} (h : NdAt w b o d) (hk : ∀ o, w'.cell? ⟨b, o, none⟩ = w.cell? ⟨b, o, none⟩) : NdAt w' b o d := by
  unfold NdAt at h ⊢
  simp only [hk]
  exact h
theorem RdN.keep (h : RdN w B A n g) (hk : ∀ p : Addr, p.block < B → w'.cell? p = w.cell? p) : RdN w' B A n g := fun hn => by
  obtain ⟨b, off, e, hb, hc⟩ := h hn
  exact ⟨b, off, e, hb, fun i hi => (hc i hi).keep fun o => hk ⟨b, o, none⟩ hb⟩
theorem RdN.more (h : RdN w B A n g) (hB : B ≤ B') : RdN w B' A n g := fun hn => by
  obtain ⟨b, off, e, hb, hc⟩ := h hn
  exact ⟨b, off, e, by omega, hc⟩
theorem RdN.below (h : RdN w B A n g) (hb : Below B w w') : RdN w' B A n g := h.keep fun _ hp => hb.cell hp
theorem RdN.to (h : RdN w B A n g) (hb : Below B w w') (hB : B ≤ w'.heap.size) : RdN w' w'.heap.size A n g := (h.below hb).more hB
theorem RdN.at_ {k : Nat} (h : RdN w B A n g) (hk : k < n) : ∃ b off, A = some ⟨b, off, none⟩ ∧ b < B ∧ NdAt w b (off + k * 6) (g k) := by
  obtain ⟨b, off, e, hb, hc⟩ := h (by omega)
  exact ⟨b, off, e, hb, hc k hk⟩
end

/-- The cells of a node. -/
def ndC (d : Nd) : List Value := [.int .i64 d.feat, .int .i64 d.cut, .int .i64 d.left, .int .i64 d.right, .bool d.miss, .int .i64 d.value]
/-- Block b, of element type t, bears the nodes g at its first n places. -/
def RowN (w : World) (t : TypeId) (b n : Nat) (g : Nat → Nd) : Prop :=
  ∃ cs : Array Value, Blk w b t cs ∧ n * 6 ≤ cs.size ∧ ∀ i, i < n → ∀ j, j < 6 → cs[i * 6 + j]? = (ndC (g i))[j]?
section
variable {w w' : World} {t : TypeId} {b n : Nat} {g : Nat → Nd}
theorem RowN.lt (h : RowN w t b n g) : b < w.heap.size := by obtain ⟨cs, hb, _⟩ := h; exact hb.lt
theorem RowN.ndAt {i : Nat} (h : RowN w t b n g) (hi : i < n) : NdAt w b (i * 6) (g i) := by
  obtain ⟨cs, hb, hn, hc⟩ := h
  have h0 := hc i hi 0 (by omega); have h1 := hc i hi 1 (by omega); have h2 := hc i hi 2 (by omega); have h3 := hc i hi 3 (by omega); have h4 := hc i hi 4 (by omega); have h5 := hc i hi 5 (by omega)
  exact ⟨(hb.cell _).trans h0, (hb.cell _).trans h1, (hb.cell _).trans h2, (hb.cell _).trans h3, (hb.cell _).trans h4, (hb.cell _).trans h5⟩
theorem RowN.rd {B : Nat} (h : RowN w t b n g) (hB : b < B) : RdN w B (some ⟨b, 0, none⟩) n g := fun _ =>
  ⟨b, 0, rfl, hB, fun i hi => by rw [Nat.zero_add]; exact h.ndAt hi⟩
theorem RowN.keep (h : RowN w t b n g) (hk : w'.heap[b]? = w.heap[b]?) : RowN w' t b n g := by
  obtain ⟨cs, hb, hn, hc⟩ := h
  exact ⟨cs, hk.trans hb, hn, hc⟩
theorem RowN.below {B : Nat} (h : RowN w t b n g) (hb : Below B w w') (hB : b < B) : RowN w' t b n g := h.keep (hb.block b hB)
end
theorem rdN_of {w : World} {t : TypeId} {b n : Nat} {g : Nat → Nd} (h : RowN w t b n g) : RdN w w.heap.size (some ⟨b, 0, none⟩) n g := h.rd h.lt

theorem toNode_any (d : Nd) (w : World) : Calls Try.prog 158 #[ndV d] w fun e w' => e = .returned (ndV d) ∧ Below w.heap.size w w' := by
  go_enter Try.func158, Try.ntmps158
  go_wp2_with fail
  exact bodyPost_ret (v := ndV d) (by simp [results, Try.results158, go_sem]) rfl ⟨rfl, (((Below.refl _ _).alloc (Nat.le_refl _) _).alloc (by simp) _).alloc (by simp; omega) _⟩

theorem info_node : (Try.prog.info? 135).map (fun i => (i.zero, i.size, i.bytes)) = some (some (ndV ⟨0, 0, 0, 0, false, 0⟩), 6, 48) := by kernel_rfl

theorem run_make_rowN {P : Program} (t e : TypeId) (i : TypeInfo) (z : Value) (ht : P.underlying t = some (.slice e)) (hi : P.info? e = some i) (hz : i.zero = some z)
    (kl kc : IntKind) (n c : Nat) (hnc : n ≤ c) (hbytes : i.bytes * c ≤ 281474976710656) (h63 : c ≤ 9223372036854775807) (w : World) :
    (Instr.makeSlice t (.int kl (n : Int)) (.int kc (c : Int))).run P w = .ok (.slice (some ⟨w.heap.size, 0, none⟩) n c) (w.alloc (.cells (madeCells z.cells (c * i.size)) e)) := by
  have hb : (i.bytes : Int) * (c : Int) ≤ 281474976710656 := by
    have h : ((i.bytes * c : Nat) : Int) ≤ 281474976710656 := by omega
    rwa [Int.natCast_mul] at h
  have hr := run_make (P := P) w t e i z ht hi hz kl kc n c (by omega) (by omega) hb (by omega)
  simp only [Int.toNat_natCast] at hr
  exact hr

/-- Six cells written from place k * 6 on. -/
def put6 (cs : Array Value) (k : Nat) (d : Nd) : Array Value :=
  (((((cs.setIfInBounds (k * 6) (.int .i64 d.feat)).setIfInBounds (k * 6 + 1) (.int .i64 d.cut)).setIfInBounds (k * 6 + 2) (.int .i64 d.left)).setIfInBounds (k * 6 + 3) (.int .i64 d.right)).setIfInBounds (k * 6 + 4) (.bool d.miss)).setIfInBounds (k * 6 + 5) (.int .i64 d.value)
theorem put6_size (cs : Array Value) (k : Nat) (d : Nd) : (put6 cs k d).size = cs.size := by simp [put6]
theorem put6_in {cs : Array Value} {k : Nat} (d : Nd) (h : k * 6 + 6 ≤ cs.size) (j : Nat) (hj : j < 6) : (put6 cs k d)[k * 6 + j]? = (ndC d)[j]? := by
  unfold put6 ndC
  obtain rfl | rfl | rfl | rfl | rfl | rfl : j = 0 ∨ j = 1 ∨ j = 2 ∨ j = 3 ∨ j = 4 ∨ j = 5 := by omega
  all_goals (simp only [Array.getElem?_setIfInBounds, Array.size_setIfInBounds]; simp; try omega)
theorem put6_out {cs : Array Value} {k : Nat} (d : Nd) (p : Nat) (hp : p < k * 6 ∨ k * 6 + 6 ≤ p) : (put6 cs k d)[p]? = cs[p]? := by
  unfold put6
  rw [Array.getElem?_setIfInBounds_ne (by omega), Array.getElem?_setIfInBounds_ne (by omega), Array.getElem?_setIfInBounds_ne (by omega), Array.getElem?_setIfInBounds_ne (by omega), Array.getElem?_setIfInBounds_ne (by omega), Array.getElem?_setIfInBounds_ne (by omega)]
theorem blk_put6 {w : World} {b : Nat} {t : TypeId} {cs : Array Value} (h : Blk w b t cs) (k : Nat) (d : Nd) :
    Blk ((((((w.setCell ⟨b, k * 6, none⟩ (.int .i64 d.feat)).setCell ⟨b, k * 6 + 1, none⟩ (.int .i64 d.cut)).setCell ⟨b, k * 6 + 2, none⟩ (.int .i64 d.left)).setCell ⟨b, k * 6 + 3, none⟩ (.int .i64 d.right)).setCell ⟨b, k * 6 + 4, none⟩ (.bool d.miss)).setCell ⟨b, k * 6 + 5, none⟩ (.int .i64 d.value)) b t (put6 cs k d) :=
  (((((h.set_ (k * 6) (.int .i64 d.feat)).set_ (k * 6 + 1) (.int .i64 d.cut)).set_ (k * 6 + 2) (.int .i64 d.left)).set_ (k * 6 + 3) (.int .i64 d.right)).set_ (k * 6 + 4) (.bool d.miss)).set_ (k * 6 + 5) (.int .i64 d.value)
theorem below_put6 {B : Nat} {a w : World} {b : Nat} (h : Below B a w) (hb : B ≤ b) (k : Nat) (d : Nd) :
    Below B a ((((((w.setCell ⟨b, k * 6, none⟩ (.int .i64 d.feat)).setCell ⟨b, k * 6 + 1, none⟩ (.int .i64 d.cut)).setCell ⟨b, k * 6 + 2, none⟩ (.int .i64 d.left)).setCell ⟨b, k * 6 + 3, none⟩ (.int .i64 d.right)).setCell ⟨b, k * 6 + 4, none⟩ (.bool d.miss)).setCell ⟨b, k * 6 + 5, none⟩ (.int .i64 d.value)) := by
  have h0 := h.setCell (p := ⟨b, k * 6, none⟩) hb (.int .i64 d.feat)
  have h1 := h0.setCell (p := ⟨b, k * 6 + 1, none⟩) hb (.int .i64 d.cut)
  have h2 := h1.setCell (p := ⟨b, k * 6 + 2, none⟩) hb (.int .i64 d.left)
  have h3 := h2.setCell (p := ⟨b, k * 6 + 3, none⟩) hb (.int .i64 d.right)
  have h4 := h3.setCell (p := ⟨b, k * 6 + 4, none⟩) hb (.bool d.miss)
  exact h4.setCell (p := ⟨b, k * 6 + 5, none⟩) hb (.int .i64 d.value)

set_option maxHeartbeats 1000000 in
theorem toN_any (A : Option Addr) (n cap : Nat) (g : Nat → Nd) (w : World) (h : RdN w w.heap.size A n g) (hn : n ≤ 4194304) :
    Calls Try.prog 120 #[.slice A n cap] w fun e w' =>
      ∃ b, e = .returned (.slice (some ⟨b, 0, none⟩) n n) ∧ w.heap.size ≤ b ∧ RowN w' 135 b n g ∧ Below w.heap.size w w' := by
  obtain ⟨i0, hi0, hz0, hz1, hz2⟩ := info_parts info_node
  have hmk := fun wx => run_make_rowN (P := Try.prog) 74 135 i0 _ Try.underlying74 hi0 hz0 .i64 .i64 n n (Nat.le_refl _) (by rw [hz2]; omega) (by omega) wx
  rw [hz1] at hmk
  clear hz0 hz1 hz2 hi0
  go_enter Try.func120, Try.ntmps120
  go_wp2_with fail
  go_loopw [4] (fun i wr => ∃ (k : Nat) (cs : Array Value), k ≤ n ∧ i = .int .i64 k ∧ Blk wr w.heap.size 135 cs ∧ n * 6 ≤ cs.size ∧ Hid (∀ i, i < k → ∀ j, j < 6 → cs[i * 6 + j]? = (ndC (g i))[j]?) ∧ Below w.heap.size w wr)
    (fun i _ => n - (intOf i).toNat)
  case atStart => exact ⟨0, _, Nat.zero_le _, rfl, Blk.new _ _ _, by simp [madeCells], fun j hj => by omega, (Below.refl _ _).alloc (Nat.le_refl _) _⟩
  case round =>
    obtain ⟨k, cs, hk, rfl, hB, hsz, hcs, hbl⟩ := hrel
    by_cases hlt : k < n
    · obtain ⟨b, off, rfl, hb, c0, c1, c2, c3, c4, c5⟩ := (h.below hbl).at_ hlt
      have hl : (k : Int) < (n : Int) := by omega
      go_wp2_with fail
      refine (toNode_any (g k) _).mono ?_
      rintro e w1 ⟨rfl, hb1⟩
      have hB1 := hB.below hb1 hB.lt
      have hbl1 := hbl.trans (hb1.mono hbl.size)
      clear hB hb1 hbl c0 c1 c2 c3 c4 c5
      have s0 : w1.cell? ⟨w.heap.size, k * 6, none⟩ = some (cs[k * 6]'(by omega)) := by rw [hB1.cell, Array.getElem?_eq_getElem]
      have s1 : w1.cell? ⟨w.heap.size, k * 6 + 1, none⟩ = some (cs[k * 6 + 1]'(by omega)) := by rw [hB1.cell, Array.getElem?_eq_getElem]
      have s2 : w1.cell? ⟨w.heap.size, k * 6 + 2, none⟩ = some (cs[k * 6 + 2]'(by omega)) := by rw [hB1.cell, Array.getElem?_eq_getElem]
      have s3 : w1.cell? ⟨w.heap.size, k * 6 + 3, none⟩ = some (cs[k * 6 + 3]'(by omega)) := by rw [hB1.cell, Array.getElem?_eq_getElem]
      have s4 : w1.cell? ⟨w.heap.size, k * 6 + 4, none⟩ = some (cs[k * 6 + 4]'(by omega)) := by rw [hB1.cell, Array.getElem?_eq_getElem]
      have s5 : w1.cell? ⟨w.heap.size, k * 6 + 5, none⟩ = some (cs[k * 6 + 5]'(by omega)) := by rw [hB1.cell, Array.getElem?_eq_getElem]
      have f0 := hB1.frozen (k * 6); have f1 := hB1.frozen (k * 6 + 1); have f2 := hB1.frozen (k * 6 + 2); have f3 := hB1.frozen (k * 6 + 3); have f4 := hB1.frozen (k * 6 + 4); have f5 := hB1.frozen (k * 6 + 5)
      go_wp2_with fail
      go_roundw
      case rel =>
        refine ⟨k + 1, _, by omega, by go_num, blk_put6 hB1 k (g k), by rw [put6_size]; exact hsz, fun i hi j hj => ?_, below_put6 hbl1 (Nat.le_refl _) k (g k)⟩
        by_cases e : i = k
        · subst e; exact put6_in (g i) (by omega) j hj
        · rw [put6_out (g k) (i * 6 + j) (by omega)]; exact hcs.out i (by omega) j hj
      case measure => simp [intOf]; omega
    · have e : k = n := by omega
      go_wp2_with fail
      go_ret
      exact ⟨_, rfl, Nat.le_refl _, ⟨cs, hB, hsz, fun i hi => hcs.out i (by omega)⟩, hbl⟩

set_option maxHeartbeats 1000000 in
theorem eqNode_any (d : Nd) (w : World) : Calls Try.prog 161 #[ndV d, ndV d] w fun e w' => e = .returned (.bool true) ∧ Below w.heap.size w w' := by
  go_enter Try.func161, Try.ntmps161
  go_wp2_with fail
  go_ret
  exact ⟨rfl, ((Below.refl _ _).alloc (Nat.le_refl _) _).alloc (by simp) _⟩

set_option maxHeartbeats 1000000 in
/-- eqNodeS at two slices that read alike. -/
theorem eqN_any (A A' : Option Addr) (n c c' : Nat) (g : Nat → Nd) (w : World) (h : RdN w w.heap.size A n g) (h' : RdN w w.heap.size A' n g) (hn : n ≤ 4194304) :
    Calls Try.prog 124 #[.slice A n c, .slice A' n c'] w fun e w' => e = .returned (.bool true) ∧ Below w.heap.size w w' := by
  go_enter Try.func124, Try.ntmps124
  go_wp2_with fail
  go_loopw [5] (fun i wr => ∃ k : Nat, k ≤ n ∧ i = .int .i64 k ∧ Below w.heap.size w wr) (fun i _ => n - (intOf i).toNat)
  case atStart => exact ⟨0, Nat.zero_le _, rfl, Below.refl _ _⟩
  case round =>
    obtain ⟨k, hk, rfl, hbl⟩ := hrel
    by_cases hlt : k < n
    · obtain ⟨b, off, rfl, hb, c0, c1, c2, c3, c4, c5⟩ := (h.below hbl).at_ hlt
      obtain ⟨b', off', rfl, hb', c0', c1', c2', c3', c4', c5'⟩ := (h'.below hbl).at_ hlt
      have hi : (k : Int) < (n : Int) := by omega
      have hi0 : (0 : Int) ≤ (k : Int) := by omega
      have hlb : b < wr.heap.size := Nat.lt_of_lt_of_le hb hbl.size
      have hlb' : b' < wr.heap.size := Nat.lt_of_lt_of_le hb' hbl.size
      go_wp2_with fail
      go_region_held3 (fun w' => w'.cell? ⟨b, off + k * 6, none⟩ = some (.int .i64 (g k).feat) ∧ w'.cell? ⟨b, off + k * 6 + 1, none⟩ = some (.int .i64 (g k).cut) ∧ w'.cell? ⟨b, off + k * 6 + 2, none⟩ = some (.int .i64 (g k).left) ∧ w'.cell? ⟨b, off + k * 6 + 3, none⟩ = some (.int .i64 (g k).right) ∧ w'.cell? ⟨b, off + k * 6 + 4, none⟩ = some (.bool (g k).miss) ∧ w'.cell? ⟨b, off + k * 6 + 5, none⟩ = some (.int .i64 (g k).value) ∧ w'.cell? ⟨b', off' + k * 6, none⟩ = some (.int .i64 (g k).feat) ∧ w'.cell? ⟨b', off' + k * 6 + 1, none⟩ = some (.int .i64 (g k).cut) ∧ w'.cell? ⟨b', off' + k * 6 + 2, none⟩ = some (.int .i64 (g k).left) ∧ w'.cell? ⟨b', off' + k * 6 + 3, none⟩ = some (.int .i64 (g k).right) ∧ w'.cell? ⟨b', off' + k * 6 + 4, none⟩ = some (.bool (g k).miss) ∧ w'.cell? ⟨b', off' + k * 6 + 5, none⟩ = some (.int .i64 (g k).value))
        (first | (simp [go_sem]; done) | exact ⟨e0, e1, e2, e3, e4, e5, e0', e1', e2', e3', e4', e5'⟩ | (simp [go_sem, *]; done))
        (first
          | (go_at_call 161; refine (eqNode_any (g k) _).mono ?_; rintro e w1 ⟨rfl, hb1⟩; obtain ⟨hc1, hf1⟩ := bcell hb1; have e0 := (hc1 b _ hlb).trans c0; have e1 := (hc1 b _ hlb).trans c1; have e2 := (hc1 b _ hlb).trans c2; have e3 := (hc1 b _ hlb).trans c3; have e4 := (hc1 b _ hlb).trans c4; have e5 := (hc1 b _ hlb).trans c5; have e0' := (hc1 b' _ hlb').trans c0'; have e1' := (hc1 b' _ hlb').trans c1'; have e2' := (hc1 b' _ hlb').trans c2'; have e3' := (hc1 b' _ hlb').trans c3'; have e4' := (hc1 b' _ hlb').trans c4'; have e5' := (hc1 b' _ hlb').trans c5'))
      have hbl2 := hbl.drew.trans (hb1.mono hbl.size)
      clear hb1 hc1 hf1 e0 e1 e2 e3 e4 e5 e0' e1' e2' e3' e4' e5' c0 c1 c2 c3 c4 c5 c0' c1' c2' c3' c4' c5'
      go_wp2_with fail
      go_roundw
      case rel => exact ⟨k + 1, by omega, by go_num, hbl2⟩
      case measure => simp [intOf]; omega
    · go_wp2_with fail
      go_ret
      exact ⟨rfl, hbl⟩

theorem szN_big (A : Option Addr) (n cap : Nat) (l : Int) (w : World) (hn : n ≤ 9223372036854775807) (h0 : 0 ≤ l) (h1 : l ≤ 1048576) (hl : l - (n : Int) < 0) :
    Calls Try.prog 115 #[.slice A n cap, .int .i64 l] w fun e w' => e = .returned (.int .i64 (-1)) ∧ w = w' := by
  go_enter Try.func115, Try.ntmps115
  go_wp2_with fail
  go_ret
  exact ⟨rfl, rfl⟩
theorem szN_ok (A : Option Addr) (n cap : Nat) (l : Int) (w : World) (hn : n ≤ 9223372036854775807) (h0 : 0 ≤ l) (h1 : l ≤ 1048576) (hl : ¬ l - (n : Int) < 0) :
    Calls Try.prog 115 #[.slice A n cap, .int .i64 l] w fun e w' => e = .returned (.int .i64 (l - n)) ∧ w = w' := by
  go_enter Try.func115, Try.ntmps115
  go_wp2_with fail
  go_ret
  exact ⟨rfl, rfl⟩
end Go.Proofs.Ytmpgefpaoogoiaa
