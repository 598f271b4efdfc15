/- Rows of rows of numbers copied, compared, measured; commands as the laws hold them; the law of CmdText. -/
import Derived.Test.YtmkipdhappikhaaDoorCmF
import Derived.Test.YtmkipdhappikhaaDoorK8
import Derived.Deep.RegionHeld3
namespace Go.Proofs.YtmkipdhappikhaaDoor
open Go.RowKit Go.Deep
set_option linter.unusedVariables false
set_option linter.unusedSimpArgs false

theorem info_ints : (Tryd.prog.info? 64).map (fun i => (i.zero, i.size, i.bytes)) = some (some (.slice none 0 0), 1, 24) := by kernel_rfl
theorem szI_big (A : Option Addr) (n c : Nat) (l : Int) (w : World) (hn : n ≤ 9223372036854775807) (h0 : 0 ≤ l) (h1 : l ≤ 1048576) (hlt : l - (n : Int) < 0) :
    Calls Tryd.prog 59 #[.slice A n c, .int .i64 l] w fun e w' => e = .returned (.int .i64 (-1)) ∧ w = w' := by
  go_enter Tryd.func59, Tryd.ntmps59
  go_wp2_with fail
  go_ret
  exact ⟨rfl, rfl⟩
theorem szI_ok (A : Option Addr) (n c : Nat) (l : Int) (w : World) (hn : n ≤ 9223372036854775807) (h0 : 0 ≤ l) (h1 : l ≤ 1048576) (hlt : ¬ l - (n : Int) < 0) :
    Calls Tryd.prog 59 #[.slice A n c, .int .i64 l] w fun e w' => e = .returned (.int .i64 (l - n)) ∧ w = w' := by
  go_enter Tryd.func59, Tryd.ntmps59
  go_wp2_with fail
  go_ret
  exact ⟨rfl, rfl⟩
set_option maxHeartbeats 2000000 in
theorem toQ_any (A : Option Addr) (n cap : Nat) (len : Nat → Nat) (z : Nat → Nat → Int) (w : World) (h : RdQ w w.heap.size A n len z) (hn : n ≤ 4194304) (hlen : Hid (∀ i, i < n → len i ≤ 4194304)) :
    Calls Tryd.prog 32 #[.slice A n cap] w fun e w' =>
      ∃ b, e = .returned (.slice (some ⟨b, 0, none⟩) n n) ∧ w.heap.size ≤ b ∧ RdQ w' w'.heap.size (some ⟨b, 0, none⟩) n len z ∧ (∀ i, i < n → ∃ bi ci, w'.cell? ⟨b, i, none⟩ = some (.slice (some ⟨bi, 0, none⟩) (len i) ci) ∧ w.heap.size ≤ bi ∧ Row w' 2 bi (len i) (z i)) ∧ Below w.heap.size w w' := by
  obtain ⟨i0, hi0, hz0, hz1, hz2⟩ := info_parts info_ints
  have hmk := fun wx => run_make_rowN (P := Tryd.prog) 30 64 i0 _ Tryd.underlying30 hi0 hz0 .i64 .i64 n n (Nat.le_refl _) (by rw [hz2]; omega) (by omega) wx
  rw [hz1] at hmk
  clear hz0 hz1 hz2 hi0
  go_enter Tryd.func32, Tryd.ntmps32
  go_wp2_with fail
  go_loopw [4] (fun i wr => ∃ (k : Nat) (cs : Array Value), k ≤ n ∧ i = .int .i64 k ∧ Blk wr w.heap.size 64 cs ∧ n ≤ cs.size ∧ Hid (∀ i, i < k → ∃ b, cs[i]? = some (.slice (some ⟨b, 0, none⟩) (len i) (len i)) ∧ w.heap.size ≤ b ∧ Row wr 2 b (len i) (z i)) ∧ Below w.heap.size w wr)
    (fun i _ => n - (intOf i).toNat)
  case atStart => exact ⟨0, _, Nat.zero_le _, rfl, Blk.new _ _ _, by simp [madeCells], fun j hj => by omega, (Below.refl _ _).alloc (Nat.le_refl _) _⟩
  case round =>
    obtain ⟨k, cs, hk, rfl, hB, hsz, hcs, hbl⟩ := hrel
    by_cases hlt : k < n
    · obtain ⟨b, off, Ai, ci, rfl, hb, hc, hrd⟩ := (h.below hbl).at_ hlt
      have hl : (k : Int) < (n : Int) := by omega
      have hl0 : (0 : Int) ≤ (k : Int) := by omega
      go_wp2_with fail
      refine (toI_any Ai (len k) ci (z k) _ (hrd.more hbl.size) (hlen.out k hlt)).mono ?_
      rintro e w1 ⟨bk, rfl, hbk, hrow, hb1⟩
      have hB1 := hB.below hb1 hB.lt
      have hcs1 : Hid (∀ i, i < k → ∃ b, cs[i]? = some (.slice (some ⟨b, 0, none⟩) (len i) (len i)) ∧ w.heap.size ≤ b ∧ Row w1 2 b (len i) (z i)) := fun i hi => by
        obtain ⟨bi, h1, h3, h2⟩ := hcs.out i hi
        exact ⟨bi, h1, h3, h2.below hb1 h2.lt⟩
      have hbl1 := hbl.trans (hb1.mono hbl.size)
      have hbk' := Nat.le_trans hbl.size hbk
      clear hcs hb1 hB hbl hrd hc
      have s0 : w1.cell? ⟨w.heap.size, k, none⟩ = some (cs[k]'(by omega)) := by rw [hB1.cell, Array.getElem?_eq_getElem]
      have f0 := hB1.frozen k
      have HROW := hid hrow
      clear hrow
      go_wp2_with fail
      go_roundw
      case rel =>
        have hfar : ∀ {bi : Nat} {m : Nat} {gi : Nat → Int}, Row w1 2 bi m gi → Row (w1.setCell ⟨w.heap.size, k, none⟩ (.slice (some ⟨bk, 0, none⟩) (len k) (len k))) 2 bi m gi := fun {bi m gi} hr => by
          obtain ⟨cs', hB', hs', hc'⟩ := hr
          exact ⟨cs', hB'.far (p := ⟨w.heap.size, k, none⟩) (Blk.ne_ hB' hB1 (by decide)) _, hs', hc'⟩
        refine ⟨k + 1, _, by omega, by go_num, hB1.set_ k _, by simpa using hsz, fun j hj => ?_, hbl1.setCell (p := ⟨w.heap.size, k, none⟩) (Nat.le_refl _) _⟩
        by_cases e : j = k
        · subst e
          exact ⟨bk, by rw [Array.getElem?_setIfInBounds_self_of_lt (by omega)], hbk', hfar HROW.out⟩
        · obtain ⟨bj, h1, h3, h2⟩ := hcs1.out j (by omega)
          exact ⟨bj, by rw [Array.getElem?_setIfInBounds_ne (by omega)]; exact h1, h3, hfar h2⟩
      case measure => simp [intOf]; omega
    · have e : k = n := by omega
      go_wp2_with fail
      go_ret
      subst e
      refine ⟨_, rfl, Nat.le_refl _, fun hn0 => ⟨w.heap.size, 0, rfl, hB.lt, fun i hi => ?_⟩, ?_, hbl⟩
      · obtain ⟨bi, h1, h3, h2⟩ := hcs.out i hi
        exact ⟨_, len i, by rw [Nat.zero_add, hB.cell]; exact h1, h2.rd h2.lt⟩
      · intro i hi
        obtain ⟨bi, h1, h3, h2⟩ := hcs.out i hi
        exact ⟨bi, len i, by rw [hB.cell]; exact h1, h3, h2⟩

set_option maxHeartbeats 2000000 in
theorem eqQ_any (A A' : Option Addr) (n c c' : Nat) (len : Nat → Nat) (z : Nat → Nat → Int) (w : World) (h : RdQ w w.heap.size A n len z) (h' : RdQ w w.heap.size A' n len z) (hn : n ≤ 4194304) (hlen : Hid (∀ i, i < n → len i ≤ 4194304)) :
    Calls Tryd.prog 39 #[.slice A n c, .slice A' n c'] w fun e w' => e = .returned (.bool true) ∧ Below w.heap.size w w' := by
  go_enter Tryd.func39, Tryd.ntmps39
  go_wp2_with fail
  go_loopw [5] (fun i wr => ∃ k : Nat, k ≤ n ∧ i = .int .i64 k ∧ Below w.heap.size w wr) (fun i _ => n - (intOf i).toNat)
  case atStart => exact ⟨0, Nat.zero_le _, rfl, Below.refl _ _⟩
  case round =>
    obtain ⟨k, hk, rfl, hbl⟩ := hrel
    by_cases hlt : k < n
    · obtain ⟨b, off, Ai, ci, rfl, hb, hc, hrd⟩ := (h.below hbl).at_ hlt
      obtain ⟨b', off', Ai', ci', rfl, hb', hc', hrd'⟩ := (h'.below hbl).at_ hlt
      have hi : (k : Int) < (n : Int) := by omega
      have hi0 : (0 : Int) ≤ (k : Int) := by omega
      have hlb : b < wr.heap.size := Nat.lt_of_lt_of_le hb hbl.size
      have hlb' : b' < wr.heap.size := Nat.lt_of_lt_of_le hb' hbl.size
      have hr1 : Rd wr.drew wr.drew.heap.size Ai (len k) (z k) := hrd.more hbl.size
      have hr2 : Rd wr.drew wr.drew.heap.size Ai' (len k) (z k) := hrd'.more hbl.size
      have hlk := hlen.out k hlt
      clear hrd hrd'
      go_wp2_with fail
      go_region_held3 (fun w' => w'.cell? ⟨b, off + k, none⟩ = some (.slice Ai (len k) ci) ∧ w'.cell? ⟨b', off' + k, none⟩ = some (.slice Ai' (len k) ci'))
        (first | (simp [go_sem]; done) | exact ⟨e0, e0'⟩ | (simp [go_sem, *]; done))
        (first
          | (go_at_call 74; refine (eqI_any Ai Ai' (len k) ci ci' (z k) (z k) wr.drew hr1 hr2 (hid fun _ _ => rfl) hlk).mono ?_; rintro e w1 ⟨rfl, m1, rfl⟩; have hb1 := below_drewN (Below.refl wr.drew.heap.size wr.drew) m1; obtain ⟨hc1, hf1⟩ := bcell hb1; have e0 := (hc1 b _ hlb).trans hc; have e0' := (hc1 b' _ hlb').trans hc'))
      clear hb1 hc1 hf1 e0 e0' hc hc' hr1 hr2
      go_wp2_with fail
      go_roundw
      case rel => exact ⟨k + 1, by omega, by go_num, below_drewN hbl _⟩
      case measure => simp [intOf]; omega
    · go_wp2_with fail
      go_ret
      exact ⟨rfl, hbl⟩

set_option maxHeartbeats 2000000 in
theorem szQ_any (A : Option Addr) (n cap : Nat) (len : Nat → Nat) (z : Nat → Nat → Int) (l : Int) (w : World) (h : RdQ w w.heap.size A n len z) (hn : n ≤ 9223372036854775807) (hlen : Hid (∀ i, i < n → len i ≤ 9223372036854775807)) (h0 : 0 ≤ l) (h1 : l ≤ 1048576) :
    Calls Tryd.prog 29 #[.slice A n cap, .int .i64 l] w fun e w' =>
      ∃ y : Int, e = .returned (.int .i64 y) ∧ (y < 0 ∨ (0 ≤ y ∧ y ≤ l ∧ n ≤ 1048576 ∧ ∀ i, i < n → len i ≤ 1048576)) ∧ w = w' := by
  by_cases hbig : l - (n : Int) < 0
  · go_enter Tryd.func29, Tryd.ntmps29
    go_wp2_with fail
    go_ret
    exact ⟨_, rfl, .inl (by omega), rfl⟩
  · go_enter Tryd.func29, Tryd.ntmps29
    go_wp2_with fail
    go_loopw [1, 5] (fun y i wr => ∃ (k : Nat) (x : Int), k ≤ n ∧ i = .int .i64 k ∧ y = .int .i64 x ∧ 0 ≤ x ∧ x ≤ l ∧ Hid (∀ j, j < k → len j ≤ 1048576) ∧ wr = w) (fun _ i _ => n - (intOf i).toNat)
    case atStart => exact ⟨0, _, Nat.zero_le _, rfl, rfl, by omega, by omega, fun j hj => by omega, rfl⟩
    case round =>
      obtain ⟨k, x, hk, rfl, rfl, hx0, hx1, hall, rfl⟩ := hrel
      by_cases hlt : k < n
      · obtain ⟨b, off, Ai, ci, rfl, hb, hc, hrd⟩ := h.at_ hlt
        have hl : (k : Int) < (n : Int) := by omega
        have hl0 : (0 : Int) ≤ (k : Int) := by omega
        have hlk := hlen.out k hlt
        by_cases hb2 : x - (len k : Int) < 0
        · go_wp2_with fail
          refine (szI_big Ai (len k) ci x _ hlk hx0 (by omega) hb2).mono ?_
          rintro e w1 ⟨rfl, rfl⟩
          go_wp2_with fail
          go_ret
          exact ⟨_, rfl, .inl (by omega), rfl⟩
        · go_wp2_with fail
          refine (szI_ok Ai (len k) ci x _ hlk hx0 (by omega) (by omega)).mono ?_
          rintro e w1 ⟨rfl, rfl⟩
          go_wp2_with fail
          go_roundw
          case rel =>
            refine ⟨k + 1, _, by omega, by go_num, rfl, by omega, by omega, fun j hj => ?_, by first | trivial | rfl⟩
            by_cases e : j = k
            · subst e; omega
            · exact hall.out j (by omega)
          case measure => simp [intOf]; omega
      · go_wp2_with fail
        go_ret
        have e : k = n := by omega
        subst e
        exact ⟨x, rfl, .inr ⟨hx0, hx1, by omega, hall.out⟩, rfl⟩

set_option maxRecDepth 100000 in
set_option maxHeartbeats 4000000 in
theorem toC_any (k a b t : Int) (D : Option Addr) (n dc : Nat) (len : Nat → Nat) (z : Nat → Nat → Int) (s : ByteArray) (w : World) (h : RdQ w w.heap.size D n len z) (hn : n ≤ 4194304) (hlen : Hid (∀ i, i < n → len i ≤ 4194304)) :
    Calls Tryd.prog 13 #[cmV k a b t D n dc s] w fun e w' => ∃ bt, e = .returned (cmV k a b t (some ⟨bt, 0, none⟩) n n s) ∧ w.heap.size ≤ bt ∧ RdQ w' w'.heap.size (some ⟨bt, 0, none⟩) n len z ∧ Below w.heap.size w w' := by
  have hb3 := (((Below.refl w.heap.size w).alloc (Nat.le_refl _) (.cells (cmC k a b t D n dc s) 32)).alloc (by simp) (.cells (cmC 0 0 0 0 none 0 0 ⟨#[]⟩) 35)).alloc (by simp; omega) (.cells (cmC k a b t none 0 0 ⟨#[]⟩) 35)
  have h3 := h.to hb3
  go_enter Tryd.func13, Tryd.ntmps13
  go_wp2_with fail
  refine (toQ_any D n dc len z _ h3 hn hlen).mono ?_
  rintro e w4 ⟨bt, rfl, hbt, hrd, hlow, hb4⟩
  have hL := (((Blk.new w 32 (cmC k a b t D n dc s)).alloc (.cells (cmC 0 0 0 0 none 0 0 ⟨#[]⟩) 35)).alloc (.cells (cmC k a b t none 0 0 ⟨#[]⟩) 35)).below hb4 (by simp; omega)
  have hR := ((Blk.new2 w (.cells (cmC k a b t D n dc s) 32) 35 (cmC 0 0 0 0 none 0 0 ⟨#[]⟩)).alloc (.cells (cmC k a b t none 0 0 ⟨#[]⟩) 35)).below hb4 (by simp)
  have hO := (Blk.new3 w (.cells (cmC k a b t D n dc s) 32) (.cells (cmC 0 0 0 0 none 0 0 ⟨#[]⟩) 35) 35 (cmC k a b t none 0 0 ⟨#[]⟩)).below hb4 (by simp)
  obtain ⟨l0, l1, l2, l3, l4, l5⟩ := blk_cells6 hL
  obtain ⟨o0, o1, o2, o3, o4, o5⟩ := blk_cells6 hO
  obtain ⟨r0, r1, r2, r3, r4, r5⟩ := blk_cells6 hR
  have f4 := hO.frozen 4; have f5 := hO.frozen 5
  have g0 := hR.frozen 0; have g1 := hR.frozen 1; have g2 := hR.frozen 2; have g3 := hR.frozen 3; have g4 := hR.frozen 4; have g5 := hR.frozen 5
  have hw4 := hb3.trans (hb4.mono hb3.size)
  have hbt3 : w.heap.size + 3 ≤ bt := by simpa using hbt
  clear h3 hb3 hb4
  go_wp2_with fail
  have hRz := ((((((((hR.far (p := ⟨w.heap.size + 1 + 1, 4, none⟩) (by simp) (.slice (some ⟨bt, 0, none⟩) n n)).far (p := ⟨w.heap.size + 1 + 1, 5, none⟩) (by simp) (.string s)).set_ 0 (.int .i64 k)).set_ 1 (.int .i64 a)).set_ 2 (.int .i64 b)).set_ 3 (.int .i64 t)).set_ 4 (.slice (some ⟨bt, 0, none⟩) n n)).set_ 5 (.string s))
  refine bodyPost_ret (results_cell_row rfl _ _ (w.heap.size + 1) 35 (cmC k a b t (some ⟨bt, 0, none⟩) n n s) (0, 0) _ rfl hRz Tryd.underlying35 rfl size_cmd) rfl ?_
  refine ⟨bt, rfl, by omega, ?_, ?_⟩
  · refine RdQ.more (B := w4.heap.size) (fun hn0 => ?_) (by simp only [World.size_setCell]; exact Nat.le_refl _)
    obtain ⟨bb, off, e, hbb, hcc⟩ := hrd hn0
    have e' : bb = bt ∧ off = 0 := by injection e with e; injection e with e1 e2; exact ⟨e1.symm, e2.symm⟩
    obtain ⟨rfl, rfl⟩ := e'
    refine ⟨bb, 0, rfl, hbb, fun i hi => ?_⟩
    obtain ⟨bi, ci, q1, q2, q3⟩ := hlow i hi
    have q2' : w.heap.size + 3 ≤ bi := by simpa using q2
    have q4 := q3.lt
    refine ⟨_, ci, ?_, fun hj => ⟨bi, 0, rfl, q3.lt, fun j hj => ?_⟩⟩
    · rw [Nat.zero_add]
      repeat rw [World.cell?_setCell_far _ _ _ _ (by simp; omega)]
      with_reducible exact q1
    · rw [Nat.zero_add]
      repeat rw [World.cell?_setCell_far _ _ _ _ (by simp; omega)]
      with_reducible exact q3.cell hj
  · exact (((((((hw4.setCell (p := ⟨w.heap.size + 1 + 1, 4, none⟩) (by simp; omega) _).setCell (p := ⟨w.heap.size + 1 + 1, 5, none⟩) (by simp; omega) _).setCell (p := ⟨w.heap.size + 1, 0, none⟩) (by simp) _).setCell (p := ⟨w.heap.size + 1, 1, none⟩) (by simp) _).setCell (p := ⟨w.heap.size + 1, 2, none⟩) (by simp) _).setCell (p := ⟨w.heap.size + 1, 3, none⟩) (by simp) _).setCell (p := ⟨w.heap.size + 1, 4, none⟩) (by simp) _).setCell (p := ⟨w.heap.size + 1, 5, none⟩) (by simp) _
set_option maxHeartbeats 1000000 in
theorem eqC_any (k a b t : Int) (D D' : Option Addr) (n dc dc' : Nat) (len : Nat → Nat) (z : Nat → Nat → Int) (s : ByteArray) (w : World) (h : RdQ w w.heap.size D n len z) (h' : RdQ w w.heap.size D' n len z) (hn : n ≤ 4194304) (hlen : Hid (∀ i, i < n → len i ≤ 4194304)) :
    Calls Tryd.prog 15 #[cmV k a b t D n dc s, cmV k a b t D' n dc' s] w fun e w' => e = .returned (.bool true) ∧ Below w.heap.size w w' := by
  have hb2 := ((Below.refl w.heap.size w).alloc (Nat.le_refl _) (.cells (cmC k a b t D n dc s) 35)).alloc (by simp) (.cells (cmC k a b t D' n dc' s) 35)
  have h2 := h.to hb2
  have h2' := h'.to hb2
  have hA := (Blk.new w 35 (cmC k a b t D n dc s)).alloc (.cells (cmC k a b t D' n dc' s) 35)
  have hB := Blk.new2 w (.cells (cmC k a b t D n dc s) 35) 35 (cmC k a b t D' n dc' s)
  have q1 : (s.toList != s.toList) = false := by simp
  go_enter Tryd.func15, Tryd.ntmps15
  go_wp2_with fail
  refine (eqQ_any D D' n dc dc' len z _ h2 h2' hn hlen).mono ?_
  rintro e w3 ⟨rfl, hb3⟩
  have hw := hb2.trans (hb3.mono hb2.size)
  obtain ⟨a0, a1, a2, a3, a4, a5⟩ := blk_cells6 (hA.below hb3 hA.lt)
  obtain ⟨b0, b1, b2, b3, b4, b5⟩ := blk_cells6 (hB.below hb3 hB.lt)
  clear hb2 hb3 h2 h2' hA hB
  go_wp2_with fail
  go_ret
  exact ⟨rfl, hw⟩
set_option maxHeartbeats 1000000 in
theorem szC_any (k a b t : Int) (D : Option Addr) (n dc : Nat) (len : Nat → Nat) (z : Nat → Nat → Int) (s : ByteArray) (l : Int) (w : World) (h : RdQ w w.heap.size D n len z) (hn : n ≤ 9223372036854775807) (hlen : Hid (∀ i, i < n → len i ≤ 9223372036854775807)) (hs : s.size ≤ 9223372036854775807) (h0 : 0 ≤ l) (h1 : l ≤ 1048576) :
    Calls Tryd.prog 11 #[cmV k a b t D n dc s, .int .i64 l] w fun e w' => ∃ y : Int, e = .returned (.int .i64 y) ∧ (y < 0 ∨ (0 ≤ y ∧ n ≤ 1048576 ∧ (∀ i, i < n → len i ≤ 1048576) ∧ s.size ≤ 1048576)) ∧ Below w.heap.size w w' := by
  have hb2 := (Below.refl w.heap.size w).alloc (Nat.le_refl _) (.cells (cmC k a b t D n dc s) 32)
  have hC := Blk.new w 32 (cmC k a b t D n dc s)
  have h2 := h.to hb2
  obtain ⟨c0, c1, c2, c3, c4, c5⟩ := blk_cells6 hC
  go_enter Tryd.func11, Tryd.ntmps11
  go_wp2_with fail
  refine (szQ_any D n dc len z l _ h2 hn hlen h0 h1).mono ?_
  rintro e w3 ⟨y, rfl, hy, rfl⟩
  by_cases hl : y < 0
  · clear hy
    go_wp2_with fail
    go_ret
    exact ⟨_, rfl, .inl (by omega), hb2⟩
  · obtain ⟨y0, y1, hn1, hl1⟩ : 0 ≤ y ∧ y ≤ l ∧ n ≤ 1048576 ∧ ∀ i, i < n → len i ≤ 1048576 := by rcases hy with h | h; exact absurd h hl; exact h
    have HL := hid hl1
    clear hy hl1
    by_cases hs2 : y - (s.size : Int) < 0
    · go_wp2_with fail
      go_ret
      exact ⟨_, rfl, .inl (by omega), hb2⟩
    · go_wp2_with fail
      go_ret
      exact ⟨_, rfl, .inr ⟨by omega, hn1, HL.out, by omega⟩, hb2⟩

set_option maxRecDepth 100000 in
set_option maxHeartbeats 4000000 in
theorem lawCmdText (k a b t : Int) (D : Option Addr) (n dc : Nat) (len : Nat → Nat) (z : Nat → Nat → Int) (s : ByteArray) (w : World) (h : RdQ w w.heap.size D n len z) (hn : n ≤ 9223372036854775807) (hlen : ∀ i, i < n → len i ≤ 9223372036854775807) (hs : s.size ≤ 9223372036854775807) (hp : Hid (Pow w w.heap.size)) :
    Calls Tryd.prog 4 #[cmV k a b t D n dc s] w fun e w' => e = .returned (.bool true) ∧ Below w.heap.size w w' := by
  have HLEN := hid hlen
  clear hlen
  have hw1 := (Below.refl w.heap.size w).alloc (Nat.le_refl _) (.cells (cmC k a b t D n dc s) 32)
  have hE1 := Blk.new w 32 (cmC k a b t D n dc s)
  have h1 := h.to hw1
  go_enter Tryd.func4, Tryd.ntmps4
  go_wp2_with fail
  refine (szC_any k a b t D n dc len z s 1048576 _ h1 hn HLEN hs (by omega) (by omega)).mono ?_
  rintro e w2 ⟨y, rfl, hy, hb2⟩
  have hE2 := hE1.below hb2 hE1.lt
  have h2 := h1.to hb2
  have hw2 := hw1.trans (hb2.mono hw1.size)
  clear hE1 h1 hw1 hb2
  obtain ⟨c0, c1, c2, c3, c4, c5⟩ := blk_cells6 hE2
  by_cases hl : y < 0
  · clear hy HLEN
    go_wp2_with fail
    go_ret
    exact ⟨rfl, hw2⟩
  · obtain ⟨hn2, hl2, hs2⟩ : n ≤ 4194304 ∧ Hid (∀ i, i < n → len i ≤ 4194304) ∧ s.size ≤ 4194304 := by
      rcases hy with h | h
      · exact absurd h hl
      · exact ⟨by omega, fun i hi => by have := h.2.2.1 i hi; omega, by omega⟩
    clear hy hn HLEN hs
    go_wp2_with fail
    refine (toC_any k a b t D n dc len z s _ h2 hn2 hl2).mono ?_
    rintro e w3 ⟨b3, rfl, _, hr3, hb3⟩
    have hE3 := hE2.below hb3 hE2.lt
    have h3 := h2.to hb3
    have hw3 := hw2.trans (hb3.mono hw2.size)
    clear hE2 h2 hw2 hb3 c0 c1 c2 c3 c4 c5
    go_wp2_with fail
    refine (sCmdText_any k a b t (some ⟨b3, 0, none⟩) n n len z s _ hr3 hn2 hl2 hs2).mono ?_
    rintro e w4 ⟨rfl, hb4⟩
    have hE4 := hE3.below hb4 hE3.lt
    have h4 := h3.to hb4
    have hw4 := hw3.trans (hb4.mono hw3.size)
    clear hE3 h3 hw3 hb4 hr3
    obtain ⟨c0, c1, c2, c3, c4, c5⟩ := blk_cells6 hE4
    generalize hS : cmdS k a b t n len z s = S at *
    have HS := hid hS
    clear hS
    go_wp2_with fail
    refine (toC_any k a b t D n dc len z s _ h4 hn2 hl2).mono ?_
    rintro e w5 ⟨b5, rfl, _, hr5, hb5⟩
    have hE5 := hE4.below hb5 hE4.lt
    have h5 := h4.to hb5
    have hw5 := hw4.trans (hb5.mono hw4.size)
    clear hE4 h4 hw4 hb5 c0 c1 c2 c3 c4 c5
    have hbx := (Below.refl w5.heap.size w5).alloc (Nat.le_refl _) (.cells (cmC k a b t (some ⟨b5, 0, none⟩) n n s) 35)
    have hX6 := Blk.new w5 35 (cmC k a b t (some ⟨b5, 0, none⟩) n n s)
    have hE6 := hE5.alloc (.cells (cmC k a b t (some ⟨b5, 0, none⟩) n n s) 35)
    have h6 := h5.to hbx
    have hr6 := hr5.to hbx
    have hw6 := hw5.trans (hbx.mono hw5.size)
    clear hE5 h5 hw5 hr5 hbx
    obtain ⟨x0, x1, x2, x3, x4, x5⟩ := blk_cells6 hX6
    go_wp2_with fail
    generalize w5.alloc (.cells (cmC k a b t (some ⟨b5, 0, none⟩) n n s) 35) = W6 at hX6 hE6 h6 hr6 hw6 x0 x1 x2 x3 x4 x5 ⊢
    generalize w5.heap.size = xb at hX6 x0 x1 x2 x3 x4 x5 ⊢
    clear x0 x1 x2 x3 x4 x5
    refine (iCmdText_any k a b t (some ⟨b5, 0, none⟩) n n len z s _ hr6 hn2 hl2 (hid (fun w' hb => hp.out w' (hw6.trans (hb.mono hw6.size))))).mono ?_
    rintro e w7 ⟨rfl, hb7⟩
    rw [HS.out]
    have hX7 := hX6.below hb7 hX6.lt
    have hE7 := hE6.below hb7 hE6.lt
    have h7 := h6.to hb7
    have hr7 := hr6.to hb7
    have hw7 := hw6.trans (hb7.mono hw6.size)
    clear hX6 hE6 h6 hw6 hr6 hb7
    have HX7 : Hid (Blk w7.drew xb 35 (cmC k a b t (some ⟨b5, 0, none⟩) n n s)) := hX7
    have HE7 : Hid (Blk w7.drew w.heap.size 32 (cmC k a b t D n dc s)) := hE7
    have q1 : (S.toList != S.toList) = false := by simp
    obtain ⟨x0, x1, x2, x3, x4, x5⟩ := blk_cells6 hX7
    obtain ⟨c0, c1, c2, c3, c4, c5⟩ := blk_cells6 hE7
    have hEl : w.heap.size < w7.heap.size := hE7.lt
    have hXl : xb < w7.heap.size := hX7.lt
    have h7d : RdQ w7.drew w7.drew.heap.size D n len z := h7
    go_wp2_with fail
    go_region_held3 (fun w' => w'.cell? ⟨xb, 0, none⟩ = some (.int .i64 k) ∧ w'.cell? ⟨xb, 1, none⟩ = some (.int .i64 a) ∧ w'.cell? ⟨xb, 2, none⟩ = some (.int .i64 b) ∧ w'.cell? ⟨xb, 3, none⟩ = some (.int .i64 t) ∧ w'.cell? ⟨xb, 4, none⟩ = some (.slice (some ⟨b5, 0, none⟩) n n) ∧ w'.cell? ⟨xb, 5, none⟩ = some (.string s) ∧ w'.cell? ⟨w.heap.size, 0, none⟩ = some (.int .i64 k) ∧ w'.cell? ⟨w.heap.size, 1, none⟩ = some (.int .i64 a) ∧ w'.cell? ⟨w.heap.size, 2, none⟩ = some (.int .i64 b) ∧ w'.cell? ⟨w.heap.size, 3, none⟩ = some (.int .i64 t) ∧ w'.cell? ⟨w.heap.size, 4, none⟩ = some (.slice D n dc) ∧ w'.cell? ⟨w.heap.size, 5, none⟩ = some (.string s))
      (first | with_reducible exact ⟨d0, d1, d2, d3, d4, d5, e0, e1, e2, e3, e4, e5⟩ | with_reducible exact ⟨i0, i1, i2, i3, i4, i5, j0, j1, j2, j3, j4, j5⟩ | (simp [go_sem]; done) | (simp [go_sem, *]; done))
      (first
        | (go_at_call 13; refine (toC_any k a b t D n dc len z s w7.drew h7d hn2 hl2).mono ?_; rintro e w8 ⟨b8, rfl, _, hr8, hb8⟩; obtain ⟨d0, d1, d2, d3, d4, d5⟩ := blk_cells6 (HX7.out.below hb8 hXl); obtain ⟨e0, e1, e2, e3, e4, e5⟩ := blk_cells6 (HE7.out.below hb8 hEl); have hr78 := RdQ.to (w := w7.drew) hr7 hb8)
        | (go_at_call 15; refine (eqC_any k a b t _ _ n n n len z s _ hr78 hr8 hn2 hl2).mono ?_; rintro e w9 ⟨rfl, hb9⟩; have hlE : w.heap.size < w8.heap.size := Nat.lt_of_lt_of_le hEl hb8.size; have hlX : xb < w8.heap.size := Nat.lt_of_lt_of_le hXl hb8.size; obtain ⟨i0, i1, i2, i3, i4, i5⟩ := blk_cells6 ((HX7.out.below hb8 hXl).below hb9 hlX); obtain ⟨j0, j1, j2, j3, j4, j5⟩ := blk_cells6 ((HE7.out.below hb8 hEl).below hb9 hlE)))
    have hW := (hw7.drew.trans (hb8.mono hw7.size)).trans (hb9.mono (Nat.le_trans hw7.size hb8.size))
    clear hb8 hb9 hw7 d0 d1 d2 d3 d4 d5 e0 e1 e2 e3 e4 e5 i0 i1 i2 i3 i4 i5 j0 j1 j2 j3 j4 j5 x0 x1 x2 x3 x4 x5 c0 c1 c2 c3 c4 c5
    go_wp2_with fail
    go_ret
    exact ⟨rfl, hW⟩
end Go.Proofs.YtmkipdhappikhaaDoor
