/- Rows of rows of numbers copied, compared, measured; commands as the laws hold them; the law of CmdText. -/
import Derived.Test.YthdljfidcoblfaaCmF
import Derived.Test.YthdljfidcoblfaaK8
import Derived.Deep.RegionHeld3
namespace Go.Proofs.Ythdljfidcoblfaa
open Go.RowKit Go.Deep
set_option linter.unusedVariables false
set_option linter.unusedSimpArgs false

theorem info_ints : (Try.prog.info? 33).map (fun i => (i.zero, i.size, i.bytes)) = some (some (.slice none 0 0), 1, 24) := by kernel_rfl
theorem szI_big (A : Option Addr) (n c : Nat) (l : Int) (w : World) (hn : n ≤ 9223372036854775807) (h0 : 0 ≤ l) (h1 : l ≤ 1048576) (hlt : l - (n : Int) < 0) :
    Calls Try.prog 18 #[.slice A n c, .int .i64 l] w fun e w' => e = .returned (.int .i64 (-1)) ∧ w = w' := by
  go_enter Try.func18, Try.ntmps18
  go_wp2_with fail
  go_ret
  exact ⟨rfl, rfl⟩
theorem szI_ok (A : Option Addr) (n c : Nat) (l : Int) (w : World) (hn : n ≤ 9223372036854775807) (h0 : 0 ≤ l) (h1 : l ≤ 1048576) (hlt : ¬ l - (n : Int) < 0) :
    Calls Try.prog 18 #[.slice A n c, .int .i64 l] w fun e w' => e = .returned (.int .i64 (l - n)) ∧ w = w' := by
  go_enter Try.func18, Try.ntmps18
  go_wp2_with fail
  go_ret
  exact ⟨rfl, rfl⟩
set_option maxHeartbeats 2000000 in
theorem toQ_any (A : Option Addr) (n cap : Nat) (len : Nat → Nat) (z : Nat → Nat → Int) (w : World) (h : RdQ w w.heap.size A n len z) (hn : n ≤ 4194304) (hlen : Hid (∀ i, i < n → len i ≤ 4194304)) :
    Calls Try.prog 12 #[.slice A n cap] w fun e w' =>
      ∃ b, e = .returned (.slice (some ⟨b, 0, none⟩) n n) ∧ w.heap.size ≤ b ∧ RdQ w' w'.heap.size (some ⟨b, 0, none⟩) n len z ∧ (∀ i, i < n → ∃ bi ci, w'.cell? ⟨b, i, none⟩ = some (.slice (some ⟨bi, 0, none⟩) (len i) ci) ∧ w.heap.size ≤ bi ∧ Row w' 2 bi (len i) (z i)) ∧ Below w.heap.size w w' := by
  obtain ⟨i0, hi0, hz0, hz1, hz2⟩ := info_parts info_ints
  have hmk := fun wx => run_make_rowN (P := Try.prog) 22 33 i0 _ Try.underlying22 hi0 hz0 .i64 .i64 n n (Nat.le_refl _) (by rw [hz2]; omega) (by omega) wx
  rw [hz1] at hmk
  clear hz0 hz1 hz2 hi0
  go_enter Try.func12, Try.ntmps12
  go_wp2_with fail
  go_loopw [4] (fun i wr => ∃ (k : Nat) (cs : Array Value), k ≤ n ∧ i = .int .i64 k ∧ Blk wr w.heap.size 33 cs ∧ n ≤ cs.size ∧ Hid (∀ i, i < k → ∃ b, cs[i]? = some (.slice (some ⟨b, 0, none⟩) (len i) (len i)) ∧ w.heap.size ≤ b ∧ Row wr 2 b (len i) (z i)) ∧ Below w.heap.size w wr)
    (fun i _ => n - (intOf i).toNat)
  case atStart => exact ⟨0, _, Nat.zero_le _, rfl, Blk.new _ _ _, by simp [madeCells], fun j hj => by omega, (Below.refl _ _).alloc (Nat.le_refl _) _⟩
  case round =>
    obtain ⟨k, cs, hk, rfl, hB, hsz, hcs, hbl⟩ := hrel
    by_cases hlt : k < n
    · obtain ⟨b, off, Ai, ci, rfl, hb, hc, hrd⟩ := (h.below hbl).at_ hlt
      have hl : (k : Int) < (n : Int) := by omega
      have hl0 : (0 : Int) ≤ (k : Int) := by omega
      go_wp2_with fail
      refine (toI_any Ai (len k) ci (z k) _ (hrd.more hbl.size) (hlen.out k hlt)).mono ?_
      rintro e w1 ⟨bk, rfl, hbk, hrow, hb1⟩
      have hB1 := hB.below hb1 hB.lt
      have hcs1 : Hid (∀ i, i < k → ∃ b, cs[i]? = some (.slice (some ⟨b, 0, none⟩) (len i) (len i)) ∧ w.heap.size ≤ b ∧ Row w1 2 b (len i) (z i)) := fun i hi => by
        obtain ⟨bi, h1, h3, h2⟩ := hcs.out i hi
        exact ⟨bi, h1, h3, h2.below hb1 h2.lt⟩
      have hbl1 := hbl.trans (hb1.mono hbl.size)
      have hbk' := Nat.le_trans hbl.size hbk
      clear hcs hb1 hB hbl hrd hc
      have s0 : w1.cell? ⟨w.heap.size, k, none⟩ = some (cs[k]'(by omega)) := by rw [hB1.cell, Array.getElem?_eq_getElem]
      have f0 := hB1.frozen k
      have HROW := hid hrow
      clear hrow
      go_wp2_with fail
      go_roundw
      case rel =>
        have hfar : ∀ {bi : Nat} {m : Nat} {gi : Nat → Int}, Row w1 2 bi m gi → Row (w1.setCell ⟨w.heap.size, k, none⟩ (.slice (some ⟨bk, 0, none⟩) (len k) (len k))) 2 bi m gi := fun {bi m gi} hr => by
          obtain ⟨cs', hB', hs', hc'⟩ := hr
          exact ⟨cs', hB'.far (p := ⟨w.heap.size, k, none⟩) (Blk.ne_ hB' hB1 (by decide)) _, hs', hc'⟩
        refine ⟨k + 1, _, by omega, by go_num, hB1.set_ k _, by simpa using hsz, fun j hj => ?_, hbl1.setCell (p := ⟨w.heap.size, k, none⟩) (Nat.le_refl _) _⟩
        by_cases e : j = k
        · subst e
          exact ⟨bk, by rw [Array.getElem?_setIfInBounds_self_of_lt (by omega)], hbk', hfar HROW.out⟩
        · obtain ⟨bj, h1, h3, h2⟩ := hcs1.out j (by omega)
          exact ⟨bj, by rw [Array.getElem?_setIfInBounds_ne (by omega)]; exact h1, h3, hfar h2⟩
      case measure => simp [intOf]; omega
    · have e : k = n := by omega
      go_wp2_with fail
      go_ret
      subst e
      refine ⟨_, rfl, Nat.le_refl _, fun hn0 => ⟨w.heap.size, 0, rfl, hB.lt, fun i hi => ?_⟩, ?_, hbl⟩
      · obtain ⟨bi, h1, h3, h2⟩ := hcs.out i hi
        exact ⟨_, len i, by rw [Nat.zero_add, hB.cell]; exact h1, h2.rd h2.lt⟩
      · intro i hi
        obtain ⟨bi, h1, h3, h2⟩ := hcs.out i hi
        exact ⟨bi, len i, by rw [hB.cell]; exact h1, h3, h2⟩

set_option maxHeartbeats 2000000 in
theorem eqQ_any (A A' : Option Addr) (n c c' : Nat) (len : Nat → Nat) (z : Nat → Nat → Int) (w : World) (h : RdQ w w.heap.size A n len z) (h' : RdQ w w.heap.size A' n len z) (hn : n ≤ 4194304) (hlen : Hid (∀ i, i < n → len i ≤ 4194304)) :
    Calls Try.prog 17 #[.slice A n c, .slice A' n c'] w fun e w' => e = .returned (.bool true) ∧ Below w.heap.size w w' := by
  go_enter Try.func17, Try.ntmps17
  go_wp2_with fail
  go_loopw [5] (fun i wr => ∃ k : Nat, k ≤ n ∧ i = .int .i64 k ∧ Below w.heap.size w wr) (fun i _ => n - (intOf i).toNat)
  case atStart => exact ⟨0, Nat.zero_le _, rfl, Below.refl _ _⟩
  case round =>
    obtain ⟨k, hk, rfl, hbl⟩ := hrel
    by_cases hlt : k < n
    · obtain ⟨b, off, Ai, ci, rfl, hb, hc, hrd⟩ := (h.below hbl).at_ hlt
      obtain ⟨b', off', Ai', ci', rfl, hb', hc', hrd'⟩ := (h'.below hbl).at_ hlt
      have hi : (k : Int) < (n : Int) := by omega
      have hi0 : (0 : Int) ≤ (k : Int) := by omega
      have hlb : b < wr.heap.size := Nat.lt_of_lt_of_le hb hbl.size
      have hlb' : b' < wr.heap.size := Nat.lt_of_lt_of_le hb' hbl.size
      have hr1 : Rd wr.drew wr.drew.heap.size Ai (len k) (z k) := hrd.more hbl.size
      have hr2 : Rd wr.drew wr.drew.heap.size Ai' (len k) (z k) := hrd'.more hbl.size
      have hlk := hlen.out k hlt
      clear hrd hrd'
      go_wp2_with fail
      go_region_held3 (fun w' => w'.cell? ⟨b, off + k, none⟩ = some (.slice Ai (len k) ci) ∧ w'.cell? ⟨b', off' + k, none⟩ = some (.slice Ai' (len k) ci'))
        (first | (simp [go_sem]; done) | exact ⟨e0, e0'⟩ | (simp [go_sem, *]; done))
        (first
          | (go_at_call 25; refine (eqI_any Ai Ai' (len k) ci ci' (z k) (z k) wr.drew hr1 hr2 (hid fun _ _ => rfl) hlk).mono ?_; rintro e w1 ⟨rfl, m1, rfl⟩; have hb1 := below_drewN (Below.refl wr.drew.heap.size wr.drew) m1; obtain ⟨hc1, hf1⟩ := bcell hb1; have e0 := (hc1 b _ hlb).trans hc; have e0' := (hc1 b' _ hlb').trans hc'))
      clear hb1 hc1 hf1 e0 e0' hc hc' hr1 hr2
      go_wp2_with fail
      go_roundw
      case rel => exact ⟨k + 1, by omega, by go_num, below_drewN hbl _⟩
      case measure => simp [intOf]; omega
    · go_wp2_with fail
      go_ret
      exact ⟨rfl, hbl⟩

set_option maxHeartbeats 2000000 in
theorem szQ_any (A : Option Addr) (n cap : Nat) (len : Nat → Nat) (z : Nat → Nat → Int) (l : Int) (w : World) (h : RdQ w w.heap.size A n len z) (hn : n ≤ 9223372036854775807) (hlen : Hid (∀ i, i < n → len i ≤ 9223372036854775807)) (h0 : 0 ≤ l) (h1 : l ≤ 1048576) :
    Calls Try.prog 9 #[.slice A n cap, .int .i64 l] w fun e w' =>
      ∃ y : Int, e = .returned (.int .i64 y) ∧ (y < 0 ∨ (0 ≤ y ∧ y ≤ l ∧ n ≤ 1048576 ∧ ∀ i, i < n → len i ≤ 1048576)) ∧ w = w' := by
  by_cases hbig : l - (n : Int) < 0
  · go_enter Try.func9, Try.ntmps9
    go_wp2_with fail
    go_ret
    exact ⟨_, rfl, .inl (by omega), rfl⟩
  · go_enter Try.func9, Try.ntmps9
    go_wp2_with fail
    go_loopw [1, 5] (fun y i wr => ∃ (k : Nat) (x : Int), k ≤ n ∧ i = .int .i64 k ∧ y = .int .i64 x ∧ 0 ≤ x ∧ x ≤ l ∧ Hid (∀ j, j < k → len j ≤ 1048576) ∧ wr = w) (fun _ i _ => n - (intOf i).toNat)
    case atStart => exact ⟨0, _, Nat.zero_le _, rfl, rfl, by omega, by omega, fun j hj => by omega, rfl⟩
    case round =>
      obtain ⟨k, x, hk, rfl, rfl, hx0, hx1, hall, rfl⟩ := hrel
      by_cases hlt : k < n
      · obtain ⟨b, off, Ai, ci, rfl, hb, hc, hrd⟩ := h.at_ hlt
        have hl : (k : Int) < (n : Int) := by omega
        have hl0 : (0 : Int) ≤ (k : Int) := by omega
        have hlk := hlen.out k hlt
        by_cases hb2 : x - (len k : Int) < 0
        · go_wp2_with fail
          refine (szI_big Ai (len k) ci x _ hlk hx0 (by omega) hb2).mono ?_
          rintro e w1 ⟨rfl, rfl⟩
          go_wp2_with fail
          go_ret
          exact ⟨_, rfl, .inl (by omega), rfl⟩
        · go_wp2_with fail
          refine (szI_ok Ai (len k) ci x _ hlk hx0 (by omega) (by omega)).mono ?_
          rintro e w1 ⟨rfl, rfl⟩
          go_wp2_with fail
          go_roundw
          case rel =>
            refine ⟨k + 1, _, by omega, by go_num, rfl, by omega, by omega, fun j hj => ?_, by first | trivial | rfl⟩
            by_cases e : j = k
            · subst e; omega
            · exact hall.out j (by omega)
          case measure => simp [intOf]; omega
      · go_wp2_with fail
        go_ret
        have e : k = n := by omega
        subst e
        exact ⟨x, rfl, .inr ⟨hx0, hx1, by omega, hall.out⟩, rfl⟩

set_option maxRecDepth 100000 in
set_option maxHeartbeats 4000000 in
theorem toC_any (k a b t : Int) (D : Option Addr) (n dc : Nat) (len : Nat → Nat) (z : Nat → Nat → Int) (s : ByteArray) (w : World) (h : RdQ w w.heap.size D n len z) (hn : n ≤ 4194304) (hlen : Hid (∀ i, i < n → len i ≤ 4194304)) :
    Calls Try.prog 6 #[cmV k a b t D n dc s] w fun e w' => ∃ bt, e = .returned (cmV k a b t (some ⟨bt, 0, none⟩) n n s) ∧ w.heap.size ≤ bt ∧ RdQ w' w'.heap.size (some ⟨bt, 0, none⟩) n len z ∧ Below w.heap.size w w' := by
  have hb3 := (((Below.refl w.heap.size w).alloc (Nat.le_refl _) (.cells (cmC k a b t D n dc s) 24)).alloc (by simp) (.cells (cmC 0 0 0 0 none 0 0 ⟨#[]⟩) 27)).alloc (by simp; omega) (.cells (cmC k a b t none 0 0 ⟨#[]⟩) 27)
  have h3 := h.to hb3
  go_enter Try.func6, Try.ntmps6
  go_wp2_with fail
  refine (toQ_any D n dc len z _ h3 hn hlen).mono ?_
  rintro e w4 ⟨bt, rfl, hbt, hrd, hlow, hb4⟩
  have hL := (((Blk.new w 24 (cmC k a b t D n dc s)).alloc (.cells (cmC 0 0 0 0 none 0 0 ⟨#[]⟩) 27)).alloc (.cells (cmC k a b t none 0 0 ⟨#[]⟩) 27)).below hb4 (by simp; omega)
  have hR := ((Blk.new2 w (.cells (cmC k a b t D n dc s) 24) 27 (cmC 0 0 0 0 none 0 0 ⟨#[]⟩)).alloc (.cells (cmC k a b t none 0 0 ⟨#[]⟩) 27)).below hb4 (by simp)
  have hO := (Blk.new3 w (.cells (cmC k a b t D n dc s) 24) (.cells (cmC 0 0 0 0 none 0 0 ⟨#[]⟩) 27) 27 (cmC k a b t none 0 0 ⟨#[]⟩)).below hb4 (by simp)
  obtain ⟨l0, l1, l2, l3, l4, l5⟩ := blk_cells6 hL
  obtain ⟨o0, o1, o2, o3, o4, o5⟩ := blk_cells6 hO
  obtain ⟨r0, r1, r2, r3, r4, r5⟩ := blk_cells6 hR
  have f4 := hO.frozen 4; have f5 := hO.frozen 5
  have g0 := hR.frozen 0; have g1 := hR.frozen 1; have g2 := hR.frozen 2; have g3 := hR.frozen 3; have g4 := hR.frozen 4; have g5 := hR.frozen 5
  have hw4 := hb3.trans (hb4.mono hb3.size)
  have hbt3 : w.heap.size + 3 ≤ bt := by simpa using hbt
  clear h3 hb3 hb4
  go_wp2_with fail
  have hRz := ((((((((hR.far (p := ⟨w.heap.size + 1 + 1, 4, none⟩) (by simp) (.slice (some ⟨bt, 0, none⟩) n n)).far (p := ⟨w.heap.size + 1 + 1, 5, none⟩) (by simp) (.string s)).set_ 0 (.int .i64 k)).set_ 1 (.int .i64 a)).set_ 2 (.int .i64 b)).set_ 3 (.int .i64 t)).set_ 4 (.slice (some ⟨bt, 0, none⟩) n n)).set_ 5 (.string s))
  refine bodyPost_ret (results_cell_row rfl _ _ (w.heap.size + 1) 27 (cmC k a b t (some ⟨bt, 0, none⟩) n n s) (0, 0) _ rfl hRz Try.underlying27 rfl size_cmd) rfl ?_
  refine ⟨bt, rfl, by omega, ?_, ?_⟩
  · refine RdQ.more (B := w4.heap.size) (fun hn0 => ?_) (by simp only [World.size_setCell]; exact Nat.le_refl _)
    obtain ⟨bb, off, e, hbb, hcc⟩ := hrd hn0
    have e' : bb = bt ∧ off = 0 := by injection e with e; injection e with e1 e2; exact ⟨e1.symm, e2.symm⟩
    obtain ⟨rfl, rfl⟩ := e'
    refine ⟨bb, 0, rfl, hbb, fun i hi => ?_⟩
    obtain ⟨bi, ci, q1, q2, q3⟩ := hlow i hi
    have q2' : w.heap.size + 3 ≤ bi := by simpa using q2
    have q4 := q3.lt
    refine ⟨_, ci, ?_, fun hj => ⟨bi, 0, rfl, q3.lt, fun j hj => ?_⟩⟩
    · rw [Nat.zero_add]
      repeat rw [World.cell?_setCell_far _ _ _ _ (by simp; omega)]
      with_reducible exact q1
    · rw [Nat.zero_add]
      repeat rw [World.cell?_setCell_far _ _ _ _ (by simp; omega)]
      with_reducible exact q3.cell hj
  · exact (((((((hw4.setCell (p := ⟨w.heap.size + 1 + 1, 4, none⟩) (by simp; omega) _).setCell (p := ⟨w.heap.size + 1 + 1, 5, none⟩) (by simp; omega) _).setCell (p := ⟨w.heap.size + 1, 0, none⟩) (by simp) _).setCell (p := ⟨w.heap.size + 1, 1, none⟩) (by simp) _).setCell (p := ⟨w.heap.size + 1, 2, none⟩) (by simp) _).setCell (p := ⟨w.heap.size + 1, 3, none⟩) (by simp) _).setCell (p := ⟨w.heap.size + 1, 4, none⟩) (by simp) _).setCell (p := ⟨w.heap.size + 1, 5, none⟩) (by simp) _
set_option maxHeartbeats 1000000 in
theorem eqC_any (k a b t : Int) (D D' : Option Addr) (n dc dc' : Nat) (len : Nat → Nat) (z : Nat → Nat → Int) (s : ByteArray) (w : World) (h : RdQ w w.heap.size D n len z) (h' : RdQ w w.heap.size D' n len z) (hn : n ≤ 4194304) (hlen : Hid (∀ i, i < n → len i ≤ 4194304)) :
    Calls Try.prog 8 #[cmV k a b t D n dc s, cmV k a b t D' n dc' s] w fun e w' => e = .returned (.bool true) ∧ Below w.heap.size w w' := by
  have hb2 := ((Below.refl w.heap.size w).alloc (Nat.le_refl _) (.cells (cmC k a b t D n dc s) 27)).alloc (by simp) (.cells (cmC k a b t D' n dc' s) 27)
  have h2 := h.to hb2
  have h2' := h'.to hb2
  have hA := (Blk.new w 27 (cmC k a b t D n dc s)).alloc (.cells (cmC k a b t D' n dc' s) 27)
  have hB := Blk.new2 w (.cells (cmC k a b t D n dc s) 27) 27 (cmC k a b t D' n dc' s)
  have q1 : (s.toList != s.toList) = false := by simp
  go_enter Try.func8, Try.ntmps8
  go_wp2_with fail
  refine (eqQ_any D D' n dc dc' len z _ h2 h2' hn hlen).mono ?_
  rintro e w3 ⟨rfl, hb3⟩
  have hw := hb2.trans (hb3.mono hb2.size)
  obtain ⟨a0, a1, a2, a3, a4, a5⟩ := blk_cells6 (hA.below hb3 hA.lt)
  obtain ⟨b0, b1, b2, b3, b4, b5⟩ := blk_cells6 (hB.below hb3 hB.lt)
  clear hb2 hb3 h2 h2' hA hB
  go_wp2_with fail
  go_ret
  exact ⟨rfl, hw⟩
set_option maxHeartbeats 1000000 in
theorem szC_any (k a b t : Int) (D : Option Addr) (n dc : Nat) (len : Nat → Nat) (z : Nat → Nat → Int) (s : ByteArray) (l : Int) (w : World) (h : RdQ w w.heap.size D n len z) (hn : n ≤ 9223372036854775807) (hlen : Hid (∀ i, i < n → len i ≤ 9223372036854775807)) (hs : s.size ≤ 9223372036854775807) (h0 : 0 ≤ l) (h1 : l ≤ 1048576) :
    Calls Try.prog 4 #[cmV k a b t D n dc s, .int .i64 l] w fun e w' => ∃ y : Int, e = .returned (.int .i64 y) ∧ (y < 0 ∨ (0 ≤ y ∧ n ≤ 1048576 ∧ (∀ i, i < n → len i ≤ 1048576) ∧ s.size ≤ 1048576)) ∧ Below w.heap.size w w' := by
  have hb2 := (Below.refl w.heap.size w).alloc (Nat.le_refl _) (.cells (cmC k a b t D n dc s) 24)
  have hC := Blk.new w 24 (cmC k a b t D n dc s)
  have h2 := h.to hb2
  obtain ⟨c0, c1, c2, c3, c4, c5⟩ := blk_cells6 hC
  go_enter Try.func4, Try.ntmps4
  go_wp2_with fail
  refine (szQ_any D n dc len z l _ h2 hn hlen h0 h1).mono ?_
  rintro e w3 ⟨y, rfl, hy, rfl⟩
  by_cases hl : y < 0
  · clear hy
    go_wp2_with fail
    go_ret
    exact ⟨_, rfl, .inl (by omega), hb2⟩
  · obtain ⟨y0, y1, hn1, hl1⟩ : 0 ≤ y ∧ y ≤ l ∧ n ≤ 1048576 ∧ ∀ i, i < n → len i ≤ 1048576 := by rcases hy with h | h; exact absurd h hl; exact h
    have HL := hid hl1
    clear hy hl1
    by_cases hs2 : y - (s.size : Int) < 0
    · go_wp2_with fail
      go_ret
      exact ⟨_, rfl, .inl (by omega), hb2⟩
    · go_wp2_with fail
      go_ret
      exact ⟨_, rfl, .inr ⟨by omega, hn1, HL.out, by omega⟩, hb2⟩

end Go.Proofs.Ythdljfidcoblfaa
