/- The text of an answer: the law's walk. -/
import Derived.Test.YtnicnjkbjdknoaaDoorAnI
import Derived.Test.YtnicnjkbjdknoaaDoorLaw
namespace Go.Proofs.YtnicnjkbjdknoaaDoor
open Go.RowKit Go.Deep

set_option maxHeartbeats 1000000 in
theorem szJ_any (A : Option Addr) (n c : Nat) (l : Int) (w : World) (hn : n ≤ 9223372036854775807) (h0 : 0 ≤ l) (h1 : l ≤ 1048576) :
    Calls Tryd.prog 49 #[.slice A n c, .int .i64 l] w fun e w' =>
      ∃ y : Int, e = .returned (.int .i64 y) ∧ (y < 0 ∨ (0 ≤ y ∧ y ≤ l ∧ n ≤ 1048576)) ∧ w = w' := by
  have HN := hid hn
  by_cases hlt : l - (n : Int) < 0
  · go_enter Tryd.func49, Tryd.ntmps49
    go_wp2_with fail
    go_ret
    exact ⟨_, rfl, .inl (by omega), rfl⟩
  · go_enter Tryd.func49, Tryd.ntmps49
    go_wp2_with fail
    go_ret
    exact ⟨_, rfl, .inr ⟨by omega, by omega, by omega⟩, rfl⟩

set_option maxRecDepth 100000 in
set_option maxHeartbeats 2000000 in
theorem iAns_any (co : Int) (A : Option Addr) (n c : Nat) (z : Nat → Int) (B : Option Addr) (m ch : Nat) (g : Nat → Ht) (ct : Int) (w : World) (h : Rd w w.heap.size A n z) (h' : RdH w w.heap.size B m g) (hin : AnIn co n z m g) (hn : n ≤ 2097152) (hm : m ≤ 2097152) (hp : Hid (Pow w w.heap.size)) :
    Calls Tryd.prog 26 #[anV co A n c B m ch ct] w fun e w' => e = .returned (.string (ansS co n z m g)) ∧ Below w.heap.size w w' := by
  by_cases h0 : co = 0
  · subst h0
    exact iAns_ok A n c z B m ch g ct w h h' hin hn hm hp
  · have HI := hid hin
    have hw0 := (Below.refl w.heap.size w).alloc (Nat.le_refl _) (.cells (anC co A n c B m ch ct) 53)
    have HA : Hid (ansS co n z m g = ⟨#[110, 111, 32]⟩ ++ decS co) := if_neg h0
    have e0 : (co != 0) = true := by simpa using h0
    have hs := hin.1.size
    have z1 : ¬ 9223372036854775807 < 3 + (decS co).size := by omega
    have hpw := hid (hp.out _ hw0)
    clear hin h0
    go_enter Tryd.func26, Tryd.ntmps26
    go_wp2_with fail
    refine (decimal_any co _ HI.out.1.1 HI.out.1.2 hpw).mono ?_
    rintro e w5 ⟨rfl, hb5⟩
    go_wp2_with fail
    go_ret
    exact ⟨ret_strT HA.out.symm, hw0.trans (hb5.mono hw0.size)⟩

theorem szA_any (co : Int) (A : Option Addr) (n c : Nat) (B : Option Addr) (m ch : Nat) (ct : Int) (w : World) (hn : n ≤ 9223372036854775807) (hm : m ≤ 9223372036854775807) :
    Calls Tryd.prog 23 #[anV co A n c B m ch ct, .int .i64 1048576] w fun e w' => ∃ y : Int, e = .returned (.int .i64 y) ∧ (y < 0 ∨ (0 ≤ y ∧ n ≤ 1048576 ∧ m ≤ 1048576)) ∧ Below w.heap.size w w' := by
  have hw0 := (Below.refl w.heap.size w).alloc (Nat.le_refl _) (.cells (anC co A n c B m ch ct) 48)
  go_enter Tryd.func23, Tryd.ntmps23
  go_wp2_with fail
  refine (szJ_any A n c 1048576 _ hn (by omega) (by omega)).mono ?_
  rintro e w1 ⟨y, rfl, hy, rfl⟩
  rcases hy with hy | ⟨hy0, hy1, hn1⟩
  · go_wp2_with fail
    go_ret
    exact ⟨_, rfl, .inl (by omega), hw0⟩
  · have q : ¬ y < 0 := by omega
    by_cases hbig : y - (m : Int) < 0
    · go_wp2_with fail
      refine (szHs_big B m ch y _ hm hy0 hy1 hbig).mono ?_
      rintro e w1 ⟨rfl, rfl⟩
      go_wp2_with fail
      go_ret
      exact ⟨_, rfl, .inl (by omega), hw0⟩
    · go_wp2_with fail
      refine (szHs_ok B m ch y _ hm hy0 hy1 (by omega)).mono ?_
      rintro e w1 ⟨rfl, rfl⟩
      go_wp2_with fail
      go_ret
      exact ⟨_, rfl, .inr ⟨by omega, by omega, by omega⟩, hw0⟩

theorem size_ans : (Tryd.prog.info? 53).map (·.size) = some 4 := by kernel_rfl
set_option maxRecDepth 100000 in
set_option maxHeartbeats 2000000 in
theorem toA_any (co : Int) (A : Option Addr) (n c : Nat) (z : Nat → Int) (B : Option Addr) (m ch : Nat) (g : Nat → Ht) (ct : Int) (w : World) (h : Rd w w.heap.size A n z) (h' : RdH w w.heap.size B m g) (hn : n ≤ 4194304) (hm : m ≤ 4194304) :
    Calls Tryd.prog 25 #[anV co A n c B m ch ct] w fun e w' =>
      ∃ b1 b2, e = .returned (anV co (some ⟨b1, 0, none⟩) n n (some ⟨b2, 0, none⟩) m m ct) ∧ Row w' 2 b1 n z ∧ RowH w' 25 b2 m g ∧ Below w.heap.size w w' := by
  have hb3 := (((Below.refl w.heap.size w).alloc (Nat.le_refl _) (.cells (anC co A n c B m ch ct) 48)).alloc (by simp) (.cells #[.int .i64 0, .slice none 0 0, .slice none 0 0, .int .i64 0] 53)).alloc (by simp; omega) (.cells #[.int .i64 co, .slice none 0 0, .slice none 0 0, .int .i64 0] 53)
  have hB0 := ((Blk.new w 48 (anC co A n c B m ch ct)).alloc (.cells #[.int .i64 0, .slice none 0 0, .slice none 0 0, .int .i64 0] 53)).alloc (.cells #[.int .i64 co, .slice none 0 0, .slice none 0 0, .int .i64 0] 53)
  have hB1 := (Blk.new2 w (.cells (anC co A n c B m ch ct) 48) 53 #[.int .i64 0, .slice none 0 0, .slice none 0 0, .int .i64 0]).alloc (.cells #[.int .i64 co, .slice none 0 0, .slice none 0 0, .int .i64 0] 53)
  have hB2 := Blk.new3 w (.cells (anC co A n c B m ch ct) 48) (.cells #[.int .i64 0, .slice none 0 0, .slice none 0 0, .int .i64 0] 53) 53 #[.int .i64 co, .slice none 0 0, .slice none 0 0, .int .i64 0]
  have hsz : (((w.alloc (.cells (anC co A n c B m ch ct) 48)).alloc (.cells #[.int .i64 0, .slice none 0 0, .slice none 0 0, .int .i64 0] 53)).alloc (.cells #[.int .i64 co, .slice none 0 0, .slice none 0 0, .int .i64 0] 53)).heap.size = w.heap.size + 1 + 1 + 1 := by simp
  go_enter Tryd.func25, Tryd.ntmps25
  go_wp2_with fail
  generalize ((w.alloc (.cells (anC co A n c B m ch ct) 48)).alloc (.cells #[.int .i64 0, .slice none 0 0, .slice none 0 0, .int .i64 0] 53)).alloc (.cells #[.int .i64 co, .slice none 0 0, .slice none 0 0, .int .i64 0] 53) = W3 at hb3 hB0 hB1 hB2 hsz ⊢
  refine (toI_any A n c z _ (h.to hb3 hb3.size) hn).mono ?_
  rintro e w4 ⟨b1, rfl, hl1, hr1, hb4⟩
  have hw4 := hb3.trans (hb4.mono hb3.size)
  have hsz4 := hb4.size
  have hA0 := hB0.below hb4 hB0.lt
  have hA1 := hB1.below hb4 hB1.lt
  have hA2 := hB2.below hb4 hB2.lt
  clear hB0 hB1 hB2 hb3 hb4
  have c21 : w4.cell? ⟨w.heap.size + 1 + 1, 1, none⟩ = some (.slice none 0 0) := hA2.cell 1
  have f21 := hA2.frozen 1
  have c02 : w4.cell? ⟨w.heap.size, 2, none⟩ = some (.slice B m ch) := hA0.cell 2
  go_wp2_with fail
  have hD0 := hA0.far (p := ⟨w.heap.size + 1 + 1, 1, none⟩) (by simp; omega) (.slice (some ⟨b1, 0, none⟩) n n)
  have hD1 := hA1.far (p := ⟨w.heap.size + 1 + 1, 1, none⟩) (by simp) (.slice (some ⟨b1, 0, none⟩) n n)
  have hD2 := hA2.set_ 1 (.slice (some ⟨b1, 0, none⟩) n n)
  have hw5 := hw4.setCell (p := ⟨w.heap.size + 1 + 1, 1, none⟩) (by simp; omega) (.slice (some ⟨b1, 0, none⟩) n n)
  have hr5 : Row (w4.setCell ⟨w.heap.size + 1 + 1, 1, none⟩ (.slice (some ⟨b1, 0, none⟩) n n)) 2 b1 n z := hr1.keep (Below.heap_setCell _ _ _ _ (by simp; omega))
  have hsz5 : (w4.setCell ⟨w.heap.size + 1 + 1, 1, none⟩ (.slice (some ⟨b1, 0, none⟩) n n)).heap.size = w4.heap.size := by simp
  clear hA0 hA1 hA2 c21 f21 c02 hw4 hr1
  generalize w4.setCell ⟨w.heap.size + 1 + 1, 1, none⟩ (.slice (some ⟨b1, 0, none⟩) n n) = W5 at hD0 hD1 hD2 hw5 hr5 hsz5 ⊢
  refine (toHs_any B m ch g _ (h'.to hw5 hw5.size) hm).mono ?_
  rintro e w6 ⟨b2, rfl, hl2, hr6, hb6⟩
  have hw6 := hw5.trans (hb6.mono hw5.size)
  have hq6 := hr5.below hb6 hr5.lt
  have hlt5 := hr5.lt
  have hE0 := hD0.below hb6 hD0.lt
  have hE1 := hD1.below hb6 hD1.lt
  have hE2 := hD2.below hb6 hD2.lt
  clear hD0 hD1 hD2 hw5 hb6 hr5
  have c03 : w6.cell? ⟨w.heap.size, 3, none⟩ = some (.int .i64 ct) := hE0.cell 3
  have c20 : w6.cell? ⟨w.heap.size + 1 + 1, 0, none⟩ = some (.int .i64 co) := hE2.cell 0
  have c21 : w6.cell? ⟨w.heap.size + 1 + 1, 1, none⟩ = some (.slice (some ⟨b1, 0, none⟩) n n) := hE2.cell 1
  have c22 : w6.cell? ⟨w.heap.size + 1 + 1, 2, none⟩ = some (.slice none 0 0) := hE2.cell 2
  have c23 : w6.cell? ⟨w.heap.size + 1 + 1, 3, none⟩ = some (.int .i64 0) := hE2.cell 3
  have c10 : w6.cell? ⟨w.heap.size + 1, 0, none⟩ = some (.int .i64 0) := hE1.cell 0
  have c11 : w6.cell? ⟨w.heap.size + 1, 1, none⟩ = some (.slice none 0 0) := hE1.cell 1
  have c12 : w6.cell? ⟨w.heap.size + 1, 2, none⟩ = some (.slice none 0 0) := hE1.cell 2
  have c13 : w6.cell? ⟨w.heap.size + 1, 3, none⟩ = some (.int .i64 0) := hE1.cell 3
  have f22 := hE2.frozen 2; have f23 := hE2.frozen 3
  have f10 := hE1.frozen 0; have f11 := hE1.frozen 1; have f12 := hE1.frozen 2; have f13 := hE1.frozen 3
  go_wp2_with fail
  have hk : ∀ b, w.heap.size + 1 + 1 < b → ((((((w6.setCell ⟨w.heap.size + 1 + 1, 2, none⟩ (.slice (some ⟨b2, 0, none⟩) m m)).setCell ⟨w.heap.size + 1 + 1, 3, none⟩ (.int .i64 ct)).setCell ⟨w.heap.size + 1, 0, none⟩ (.int .i64 co)).setCell ⟨w.heap.size + 1, 1, none⟩ (.slice (some ⟨b1, 0, none⟩) n n)).setCell ⟨w.heap.size + 1, 2, none⟩ (.slice (some ⟨b2, 0, none⟩) m m)).setCell ⟨w.heap.size + 1, 3, none⟩ (.int .i64 ct)).heap[b]? = w6.heap[b]? := fun b hb => by
    rw [Below.heap_setCell _ _ _ _ (by simp; omega), Below.heap_setCell _ _ _ _ (by simp; omega), Below.heap_setCell _ _ _ _ (by simp; omega), Below.heap_setCell _ _ _ _ (by simp; omega), Below.heap_setCell _ _ _ _ (by simp; omega), Below.heap_setCell _ _ _ _ (by simp; omega)]
  refine bodyPost_ret (results_cell_row rfl _ _ (w.heap.size + 1) 53 (anC co (some ⟨b1, 0, none⟩) n n (some ⟨b2, 0, none⟩) m m ct) (0, 0) _ rfl ((((((hE1.far (p := ⟨w.heap.size + 1 + 1, 2, none⟩) (by simp) (.slice (some ⟨b2, 0, none⟩) m m)).far (p := ⟨w.heap.size + 1 + 1, 3, none⟩) (by simp) (.int .i64 ct)).set_ 0 (.int .i64 co)).set_ 1 (.slice (some ⟨b1, 0, none⟩) n n)).set_ 2 (.slice (some ⟨b2, 0, none⟩) m m)).set_ 3 (.int .i64 ct)) Tryd.underlying53 rfl size_ans) rfl ?_
  exact ⟨b1, b2, rfl, hq6.keep (hk b1 (by omega)), hr6.keep (hk b2 (by omega)), (((((hw6.setCell (p := ⟨w.heap.size + 1 + 1, 2, none⟩) (by simp; omega) _).setCell (p := ⟨w.heap.size + 1 + 1, 3, none⟩) (by simp; omega) _).setCell (p := ⟨w.heap.size + 1, 0, none⟩) (by simp) _).setCell (p := ⟨w.heap.size + 1, 1, none⟩) (by simp) _).setCell (p := ⟨w.heap.size + 1, 2, none⟩) (by simp) _).setCell (p := ⟨w.heap.size + 1, 3, none⟩) (by simp) _⟩

set_option maxRecDepth 100000 in
set_option maxHeartbeats 2000000 in
theorem eqA_any (co : Int) (A : Option Addr) (n c : Nat) (z : Nat → Int) (B : Option Addr) (m ch : Nat) (g : Nat → Ht) (ct : Int) (A' : Option Addr) (c' : Nat) (B' : Option Addr) (ch' : Nat) (w : World) (h : Rd w w.heap.size A n z) (h' : RdH w w.heap.size B m g) (k : Rd w w.heap.size A' n z) (k' : RdH w w.heap.size B' m g) (hn : n ≤ 4194304) (hm : m ≤ 4194304) :
    Calls Tryd.prog 27 #[anV co A n c B m ch ct, anV co A' n c' B' m ch' ct] w fun e w' => e = .returned (.bool true) ∧ Below w.heap.size w w' := by
  have hb2 := ((Below.refl w.heap.size w).alloc (Nat.le_refl _) (.cells (anC co A n c B m ch ct) 53)).alloc (by simp) (.cells (anC co A' n c' B' m ch' ct) 53)
  have hB0 := (Blk.new w 53 (anC co A n c B m ch ct)).alloc (.cells (anC co A' n c' B' m ch' ct) 53)
  have hB1 := Blk.new2 w (.cells (anC co A n c B m ch ct) 53) 53 (anC co A' n c' B' m ch' ct)
  go_enter Tryd.func27, Tryd.ntmps27
  go_wp2_with fail
  generalize (w.alloc (.cells (anC co A n c B m ch ct) 53)).alloc (.cells (anC co A' n c' B' m ch' ct) 53) = W2 at hb2 hB0 hB1 ⊢
  refine (eqI_any A A' n c c' z z _ (h.to hb2 hb2.size) (k.to hb2 hb2.size) (hid fun _ _ => rfl) hn).mono ?_
  rintro e w3 ⟨rfl, j, rfl⟩
  have hb3 := below_drewN hb2 j
  have hC0 : Blk (W2.drewN j) w.heap.size 53 (anC co A n c B m ch ct) := hB0
  have hC1 : Blk (W2.drewN j) (w.heap.size + 1) 53 (anC co A' n c' B' m ch' ct) := hB1
  clear hB0 hB1 hb2
  generalize W2.drewN j = W3 at hb3 hC0 hC1 ⊢
  have c02 : W3.cell? ⟨w.heap.size, 2, none⟩ = some (.slice B m ch) := hC0.cell 2
  have c12 : W3.cell? ⟨w.heap.size + 1, 2, none⟩ = some (.slice B' m ch') := hC1.cell 2
  go_wp2_with fail
  refine (eqHs_any B B' m ch ch' g _ (h'.to hb3 hb3.size) (k'.to hb3 hb3.size) hm).mono ?_
  rintro e w4 ⟨rfl, hb4⟩
  have hD0 := hC0.below hb4 hC0.lt
  have hD1 := hC1.below hb4 hC1.lt
  have hw4 := hb3.trans (hb4.mono hb3.size)
  have c03 : w4.cell? ⟨w.heap.size, 3, none⟩ = some (.int .i64 ct) := hD0.cell 3
  have c13 : w4.cell? ⟨w.heap.size + 1, 3, none⟩ = some (.int .i64 ct) := hD1.cell 3
  clear c02 c12 hb3 hb4 hC0 hC1
  go_wp2_with fail
  go_ret
  exact ⟨rfl, hw4⟩
end Go.Proofs.YtnicnjkbjdknoaaDoor
