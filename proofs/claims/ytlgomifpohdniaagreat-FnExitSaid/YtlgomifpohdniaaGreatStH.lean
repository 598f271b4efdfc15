/- One more tree asked of a state. -/
import Derived.Test.YtlgomifpohdniaaGreatStG
namespace Go.Proofs.YtlgomifpohdniaaGreat
open Go.RowKit Go.Deep
set_option linter.unusedVariables false
set_option linter.unusedSimpArgs false

theorem RdW.toH {w w' : World} {B n : Nat} {A : Option Addr} {z : Nat → Int} (h : RdW w B A n z) (hb : Below B w w') (hB : B ≤ w'.heap.size) : RdW w' w'.heap.size A n z := fun hn => by
  obtain ⟨b, off, e, hlt, hc⟩ := h hn
  exact ⟨b, off, e, by omega, fun i hi => (hb.cell (p := ⟨b, off + i, none⟩) hlt).trans (hc i hi)⟩
theorem end_any (f b : Int) (Ar : Option Addr) (nr cr : Nat) (Aw : Option Addr) (nw cw : Nat) (A1 : Option Addr) (n1 c1 : Nat) (A2 : Option Addr) (n2 c2 : Nat) (A3 : Option Addr) (n3 c3 : Nat) (A4 : Option Addr) (n4 c4 : Nat) (w : World) :
    Calls Tryz.prog 42 #[.agg (sgC f b Ar nr cr Aw nw cw A1 n1 c1 A2 n2 c2 A3 n3 c3 A4 n4 c4)] w fun e w' => e = .returned (.int .i64 (n1 : Nat)) ∧ Below w.heap.size w w' := by
  have hbx := (Below.refl w.heap.size w).alloc (Nat.le_refl _) (.cells (sgC f b Ar nr cr Aw nw cw A1 n1 c1 A2 n2 c2 A3 n3 c3 A4 n4 c4) 68)
  have HB := hid hbx
  clear hbx
  go_enter Tryz.func42, Tryz.ntmps42
  go_wp2_with fail
  go_ret
  exact ⟨rfl, HB.out⟩

set_option maxRecDepth 100000 in
set_option maxHeartbeats 4000000 in
theorem after_any (f b : Int) (Ar : Option Addr) (cr : Nat) (Aw : Option Addr) (cw n : Nat) (len : Nat → Nat) (g : Nat → Nat → Nd) (A1 : Option Addr) (n1 c1 : Nat) (o : Nat → Nat) (A2 : Option Addr) (n2 c2 : Nat) (A3 : Option Addr) (n3 c3 : Nat) (A4 : Option Addr) (n4 c4 : Nat) (D : Option Addr) (p dc : Nat) (z : Nat → Int) (x : Nat) (S q : Int) (w : World)
    (hR : Rd w w.heap.size Ar n (rootZ len)) (hw : RdW w w.heap.size Aw (cumT len n) (wordZ len g n)) (h1 : Rd w w.heap.size A1 n1 fun i => (o i : Nat)) (hd : Rd w w.heap.size D p z) (hn : n ≤ 12) (hp : p ≤ 6) (ho : Hid (∀ i, i < n1 → o i < n)) (ht : Hid (∀ i, i < n → treeB (g i) (len i) p = true)) (hlen : Hid (∀ i, i < n → 1 ≤ len i ∧ len i ≤ 15)) (hx : x < n1) (hn1 : n1 ≤ 12)
    (hS : -12000000000 ≤ S ∧ S ≤ 12000000000) (hq : 0 ≤ q ∧ q ≤ 200) :
    Calls Tryz.prog 75 #[.agg (sgC f b Ar n cr Aw (cumT len n) cw A1 n1 c1 A2 n2 c2 A3 n3 c3 A4 n4 c4), stV (x : Nat) S q, .slice D p dc] w fun e w' =>
      e = .returned (stV ((x + 1 : Nat) : Int) (S + lvv (g (o x)) z) (q + ((spl (g (o x)) z : Nat) : Int))) ∧ Below w.heap.size w w' := by
  have ho1 := ho.out x hx
  have hbd := lvv_bound z (ht.out (o x) ho1)
  have hsp : spl (g (o x)) z < 15 := by have := (spl_tree z (ht.out (o x) ho1)).2; have := (hlen.out (o x) ho1).2; omega
  have hC := cumT_le (M := 15) (fun j hj => (hlen.out j hj).2) (o x) (by omega)
  have hB := B3.new w (sgC f b Ar n cr Aw (cumT len n) cw A1 n1 c1 A2 n2 c2 A3 n3 c3 A4 n4 c4) #[.int .i64 (x : Nat), .int .i64 S, .int .i64 q] #[.int .i64 0, .int .i64 0, .int .i64 0] 68 33 33
  obtain ⟨V, hV⟩ : ∃ V, lvv (g (o x)) z = V := ⟨_, rfl⟩
  obtain ⟨T, hT⟩ : ∃ T, spl (g (o x)) z = T := ⟨_, rfl⟩
  rw [hV] at hbd
  rw [hT] at hsp
  rw [hV, hT]
  have HV := hid hV
  have HT := hid hT
  clear hV hT
  obtain ⟨ob, oo, rfl, hob, hoc⟩ := h1.at_ hx
  obtain ⟨rb, ro, rfl, hrb, hrc⟩ := hR.at_ ho1
  obtain ⟨m, hm⟩ : ∃ m, o x = m := ⟨_, rfl⟩
  rw [hm] at ho1 hoc hrc HV HT hC
  obtain ⟨C, hCe⟩ : ∃ C, cumT len m = C := ⟨_, rfl⟩
  have hrc' : w.cell? ⟨rb, ro + m, none⟩ = some (.int .i64 (C : Nat)) := by rw [← hCe]; exact hrc
  have HC := hid hCe
  clear hm hrc hCe hC
  have i1 : (x : Int) < (n1 : Int) := by omega
  have i2 : (0 : Int) ≤ (x : Int) := by omega
  have i3 : (m : Int) < (n : Int) := by omega
  have i4 : (0 : Int) ≤ (m : Int) := by omega
  obtain ⟨s1, s2⟩ := hS
  obtain ⟨q1, q2⟩ := hq
  obtain ⟨v1, v2⟩ := hbd
  have w1 : IntKind.i64.wrap ((x : Int) + 1) = ((x + 1 : Nat) : Int) := IntWalk.i64_in _ (by omega)
  have w2 : IntKind.i64.wrap (S + V) = S + V := IntWalk.i64_in _ (by omega)
  have w3 : IntKind.i64.wrap (q + (T : Int)) = q + (T : Int) := IntWalk.i64_in _ (by omega)
  go_enter Tryz.func75, Tryz.ntmps75
  go_wp2_with fail
  obtain ⟨W0, hW0⟩ : ∃ W, ((w.alloc (.cells (sgC f b (some ⟨rb, ro, none⟩) n cr Aw (cumT len n) cw (some ⟨ob, oo, none⟩) n1 c1 A2 n2 c2 A3 n3 c3 A4 n4 c4) 68)).alloc (.cells #[.int .i64 (x : Nat), .int .i64 S, .int .i64 q] 33)).alloc (.cells #[.int .i64 0, .int .i64 0, .int .i64 0] 33) = W := ⟨_, rfl⟩
  rw [hW0] at hB ⊢
  clear hW0
  have HB := hid hB
  clear hB
  have c2 := HB.out.1.cell 2
  have c4 := HB.out.1.cell 4
  have d0 := HB.out.2.1.cell 0
  have hcO : W0.cell? ⟨ob, oo + x, none⟩ = some (.int .i64 (m : Nat)) := (HB.out.bel.cell (p := ⟨ob, oo + x, none⟩) hob).trans hoc
  have hcR : W0.cell? ⟨rb, ro + m, none⟩ = some (.int .i64 (C : Nat)) := (HB.out.bel.cell (p := ⟨rb, ro + m, none⟩) hrb).trans hrc'
  try go_wp2_with fail
  go_region
  have H1 := hid HB.out.drew
  clear HB c2 c4 d0 hcO hcR
  obtain ⟨W1, hW1⟩ : ∃ W, W0.drew = W := ⟨_, rfl⟩
  rw [hW1] at H1 ⊢
  clear hW1
  obtain ⟨⟨c0, c1', c2, c3, _, _, _, _⟩, _⟩ := blk_cells8 H1.out.1
  go_wp2_with fail
  have hdrop := drop_any f b (some ⟨rb, ro, none⟩) n cr Aw cw n len g m D p dc z W1 (RdW.toH hw H1.out.bel H1.out.bel.size) (hd.to H1.out.bel H1.out.bel.size) ho1 hn hp (hid (ht.out m ho1)) hlen
  rw [HC.out, HV.out, HT.out] at hdrop
  with_reducible refine Calls.mono hdrop ?_
  clear hdrop
  rintro e w2 ⟨rfl, hb2⟩
  have H2 := hid (H1.out.below hb2)
  clear H1 hb2 c0 c1' c2 c3
  have d0 := H2.out.2.1.cell 0
  have d1 := H2.out.2.1.cell 1
  have d2 := H2.out.2.1.cell 2
  obtain ⟨_, _, _, f0, f1, f2⟩ := blk_cells3 H2.out.2.2.1
  have HF := hid (st_put H2.out (.int .i64 ((x + 1 : Nat) : Int)) (.int .i64 (S + V)) (.int .i64 (q + (T : Int))))
  clear H2
  go_wp2_with fail
  (try simp only [Exit.inBlock, Exit.then])
  refine bodyPost_ret (results_cell_row rfl _ _ (w.heap.size + 1 + 1) 33 #[.int .i64 ((x + 1 : Nat) : Int), .int .i64 (S + V), .int .i64 (q + (T : Int))] (0, 0) _ rfl HF.out.1 Tryz.underlying33 rfl size_state) rfl ?_
  exact ⟨rfl, HF.out.2⟩
end Go.Proofs.YtlgomifpohdniaaGreat
