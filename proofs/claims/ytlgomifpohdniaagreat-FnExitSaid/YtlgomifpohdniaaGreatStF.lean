/- A state asked up to a place: the other side's StateTo. -/
import Derived.Test.YtlgomifpohdniaaGreatStD
namespace Go.Proofs.YtlgomifpohdniaaGreat
open Go.RowKit Go.Deep
set_option linter.unusedVariables false
set_option linter.unusedSimpArgs false

/-- What a state has paid when it has asked k trees in the order o. -/
def csF (g : Nat → Nat → Nd) (o : Nat → Nat) (z : Nat → Int) : Nat → Int := fun j => (spl (g (o j)) z : Nat)
def scO (g : Nat → Nat → Nd) (o : Nat → Nat) (z : Nat → Int) : Nat → Int := fun j => lvv (g (o j)) z
theorem csF_bound {g : Nat → Nat → Nd} {o : Nat → Nat} {z : Nat → Int} {n : Nat} (h : ∀ i, i < n → spl (g (o i)) z < 15) : ∀ k, k ≤ n → 0 ≤ sumT (csF g o z) k ∧ sumT (csF g o z) k ≤ 15 * (k : Int) := by
  intro k
  induction k with
  | zero => intro _; simp [sumT]
  | succ k ih =>
    intro hk
    have h1 := ih (by omega)
    have h2 := h k (by omega)
    have e : sumT (csF g o z) (k + 1) = sumT (csF g o z) k + ((spl (g (o k)) z : Nat) : Int) := rfl
    rw [e]
    omega
/-- The four boxes of l7To. -/
def TO (w0 : World) (ec pc sc : Array Value) (W : World) : Prop := B3 w0 ec pc #[.int .i64 0, .int .i64 0, .int .i64 0] 26 29 33 W ∧ Blk W (w0.heap.size + 3) 33 sc
section
variable {w0 W W' : World} {ec pc sc : Array Value} {x0 x1 x2 : Value}
theorem TO.below (h : TO w0 ec pc sc W) (hb : Below W.heap.size W W') : TO w0 ec pc sc W' := ⟨h.1.below hb, h.2.below hb h.2.lt⟩
theorem TO.drew (h : TO w0 ec pc sc W) : TO w0 ec pc sc W.drew := h.below (Below.refl _ W).drew
theorem TO.bel (h : TO w0 ec pc sc W) : Below w0.heap.size w0 W := h.1.bel
theorem TO.set (h : TO w0 ec pc sc W) (i : Nat) (u : Value) : B3 w0 ec pc #[.int .i64 0, .int .i64 0, .int .i64 0] 26 29 33 (W.setCell ⟨w0.heap.size + 3, i, none⟩ u) :=
  ⟨h.1.1.far (by show w0.heap.size ≠ w0.heap.size + 3; omega) _, h.1.2.1.far (by show w0.heap.size + 1 ≠ w0.heap.size + 3; omega) _, h.1.2.2.1.far (by show w0.heap.size + 2 ≠ w0.heap.size + 3; omega) _, h.1.2.2.2.setCell (by show w0.heap.size ≤ w0.heap.size + 3; omega) _⟩
theorem TO.set1 (h : TO w0 ec pc #[x0, x1, x2] W) (u : Value) : TO w0 ec pc #[x0, u, x2] (W.setCell ⟨w0.heap.size + 3, 1, none⟩ u) := ⟨h.set 1 u, h.2.set_ 1 u⟩
theorem TO.set2 (h : TO w0 ec pc #[x0, x1, x2] W) (u : Value) : TO w0 ec pc #[x0, x1, u] (W.setCell ⟨w0.heap.size + 3, 2, none⟩ u) := ⟨h.set 2 u, h.2.set_ 2 u⟩
theorem TO.cells {e0 e1 e2 p0 p1 p2 p3 : Value} (h : TO w0 #[e0, e1, e2] #[p0, p1, p2, p3] #[x0, x1, x2] W) : W.cell? ⟨w0.heap.size, 2, none⟩ = some e2 ∧ W.cell? ⟨w0.heap.size + 1, 0, none⟩ = some p0 ∧ W.cell? ⟨w0.heap.size + 3, 0, none⟩ = some x0 ∧ W.cell? ⟨w0.heap.size + 3, 1, none⟩ = some x1 ∧ W.cell? ⟨w0.heap.size + 3, 2, none⟩ = some x2 ∧
    W.frozen? ⟨w0.heap.size + 3, 1, none⟩ = false ∧ W.frozen? ⟨w0.heap.size + 3, 2, none⟩ = false :=
  ⟨h.1.1.cell 2, h.1.2.1.cell 0, h.2.cell 0, h.2.cell 1, h.2.cell 2, h.2.frozen 1, h.2.frozen 2⟩
end

set_option maxRecDepth 100000 in
set_option maxHeartbeats 4000000 in
theorem l7To_any (f b : Int) (A : Option Addr) (n c : Nat) (len : Nat → Nat) (g : Nat → Nat → Nd) (A1 : Option Addr) (n1 c1 : Nat) (o : Nat → Nat) (A2 : Option Addr) (n2 c2 : Nat) (A3 : Option Addr) (n3 c3 : Nat) (A4 : Option Addr) (n4 c4 : Nat) (D : Option Addr) (p dc : Nat) (z : Nat → Int) (at_ : Nat) (w : World)
    (h : RdT w w.heap.size A n len g) (h1 : Rd w w.heap.size A1 n1 fun p => (o p : Nat)) (hd : Rd w w.heap.size D p z) (hn : n ≤ 12) (hp : p ≤ 6) (ho : Hid (∀ i, i < n1 → o i < n)) (ht : Hid (∀ i, i < n → treeB (g i) (len i) p = true)) (hdoc : docB p z = true) (ha : at_ ≤ n1) (hn1 : n1 ≤ 12) :
    Calls Tryz.prog 39 #[enV f b A n c, plV A1 n1 c1 A2 n2 c2 A3 n3 c3 A4 n4 c4, .slice D p dc, .int .i64 (at_ : Nat)] w fun e w' =>
      e = .returned (stV at_ (sumT (scO g o z) at_) (sumT (csF g o z) at_)) ∧ Below w.heap.size w w' := by
  have HS := hid (sumT_bound (p := scO g o z) (n := n1) fun i hi => lvv_bound z (ht.out (o i) (ho.out i hi)))
  have HC := hid (csF_bound (g := g) (o := o) (z := z) (n := n1) fun i hi => by have := (spl_tree z (ht.out (o i) (ho.out i hi))).2; have := ((treeB_iff _ _ _).1 (ht.out (o i) (ho.out i hi))).2.1; omega)
  have HDOC := hid hdoc
  clear hdoc
  have hT0 : TO w #[.int .i64 f, .int .i64 b, .slice A n c] #[.slice A1 n1 c1, .slice A2 n2 c2, .slice A3 n3 c3, .slice A4 n4 c4] #[.int .i64 (at_ : Nat), .int .i64 0, .int .i64 0] ((((w.alloc (.cells #[.int .i64 f, .int .i64 b, .slice A n c] 26)).alloc (.cells #[.slice A1 n1 c1, .slice A2 n2 c2, .slice A3 n3 c3, .slice A4 n4 c4] 29)).alloc (.cells #[.int .i64 0, .int .i64 0, .int .i64 0] 33)).alloc (.cells #[.int .i64 (at_ : Nat), .int .i64 0, .int .i64 0] 33)) :=
    ⟨(B3.new w _ _ _ _ _ _).alloc _, by
      have h0 := Blk.new (((w.alloc (.cells #[.int .i64 f, .int .i64 b, .slice A n c] 26)).alloc (.cells #[.slice A1 n1 c1, .slice A2 n2 c2, .slice A3 n3 c3, .slice A4 n4 c4] 29)).alloc (.cells #[.int .i64 0, .int .i64 0, .int .i64 0] 33)) 33 #[.int .i64 (at_ : Nat), .int .i64 0, .int .i64 0]
      rw [World.size_alloc, World.size_alloc, World.size_alloc] at h0
      exact h0⟩
  have HT0 := hid hT0
  clear hT0
  go_enter Tryz.func39, Tryz.ntmps39
  go_wp2_with fail
  obtain ⟨W0, hW0⟩ : ∃ W, (((w.alloc (.cells #[.int .i64 f, .int .i64 b, .slice A n c] 26)).alloc (.cells #[.slice A1 n1 c1, .slice A2 n2 c2, .slice A3 n3 c3, .slice A4 n4 c4] 29)).alloc (.cells #[.int .i64 0, .int .i64 0, .int .i64 0] 33)).alloc (.cells #[.int .i64 (at_ : Nat), .int .i64 0, .int .i64 0] 33) = W := ⟨_, rfl⟩
  rw [hW0] at HT0 ⊢
  clear hW0
  go_loopw [10, 11] (fun i t wr => ∃ k : Nat, k ≤ at_ ∧ i = .int .i64 (k : Nat) ∧ Hid (TO w #[.int .i64 f, .int .i64 b, .slice A n c] #[.slice A1 n1 c1, .slice A2 n2 c2, .slice A3 n3 c3, .slice A4 n4 c4] #[.int .i64 (at_ : Nat), .int .i64 (sumT (scO g o z) k), .int .i64 (sumT (csF g o z) k)] wr)) (fun i _ _ => at_ - (intOf i).toNat)
  case atStart => exact ⟨0, Nat.zero_le _, rfl, HT0⟩
  case round =>
    clear HT0
    obtain ⟨k, hk, rfl, HT⟩ := hrel
    by_cases hlt : k < at_
    · have ho1 := ho.out k (by omega)
      have hbl := HT.out.bel
      have hTr := ht.out (o k) ho1
      have hTree := (treeB_iff (g (o k)) (len (o k)) p).1 hTr
      have hlk := hTree.2.1
      obtain ⟨hE, hSl⟩ := spl_tree z hTr
      have hv := lvv_is hE (by omega)
      obtain ⟨_, hia⟩ := itr_up z hTree.up (by omega) _ hE.1
      have hsq : seqZ (g (o k)) z (spl (g (o k)) z) = ((itr (g (o k)) z (spl (g (o k)) z) : Nat) : Int) := rfl
      obtain ⟨tb, to_, Ai, ci, rfl, htb, hc, hrd⟩ := h.at_ ho1
      obtain ⟨ob, oo, rfl, hob, hoc⟩ := h1.at_ (show k < n1 by omega)
      obtain ⟨b', off', e1, hb', d0, d1, d2, d3, d4, d5⟩ := hrd.at_ hia
      subst e1
      rw [← hv] at d5
      have s1 : Hid (sumT (scO g o z) (k + 1) = sumT (scO g o z) k + lvv (g (o k)) z) := rfl
      have s2 : Hid (sumT (csF g o z) (k + 1) = sumT (csF g o z) k + ((spl (g (o k)) z : Nat) : Int)) := rfl
      have B1 := HS.out k (by omega)
      have B2 := HC.out k (by omega)
      have B3' := lvv_bound z hTr
      have HE := hid hE
      have HTR := hid hTr
      obtain ⟨m, hm⟩ : ∃ m, o k = m := ⟨_, rfl⟩
      rw [hm] at ho1 hlk hSl hia hsq hc hrd hoc d5 s1 s2 B3' HE HTR
      have i1 : (k : Int) < (n1 : Int) := by omega
      have i2 : (0 : Int) ≤ (k : Int) := by omega
      have i3 : (m : Int) < (n : Int) := by omega
      have i4 : (0 : Int) ≤ (m : Int) := by omega
      have kl : decide ((k : Int) < (at_ : Nat)) = true := decide_eq_true (by omega)
      obtain ⟨T, hTe⟩ : ∃ T, spl (g m) z = T := ⟨_, rfl⟩
      rw [hTe] at hSl hia hsq d5 s2 HE
      generalize hAt : itr (g m) z T = a at hia hsq d5
      have ha' : (a : Int) < (len m : Int) := by omega
      have ha0 : (0 : Int) ≤ (a : Int) := by omega
      generalize hVt : lvv (g m) z = v at B3' s1 d5
      generalize hXt : sumT (scO g o z) k = X at B1 s1 HT
      generalize hYt : sumT (csF g o z) k = Y at B2 s2 HT
      have kb : (k : Int) ≤ 12 := by omega
      have z1 : -13000000000 ≤ X + v ∧ X + v ≤ 13000000000 := by omega
      obtain ⟨z1a, z1b⟩ := z1
      have w1 : IntKind.i64.wrap (X + v) = X + v := IntWalk.i64_in _ (by omega)
      obtain ⟨M, hM⟩ : ∃ M, T + 1 = M := ⟨_, rfl⟩
      have hM15 : M ≤ 16 := by omega
      have w2 : IntKind.i64.wrap (Y + (M : Int)) = Y + (M : Int) := IntWalk.i64_in _ (by omega)
      have w3 : IntKind.i64.wrap (Y + (M : Int) - 1) = Y + (M : Int) - 1 := IntWalk.i64_in _ (by omega)
      have hYM : Y + (M : Int) - 1 = Y + (T : Int) := by omega
      have HYM := hid hYM
      have HM := hid hM
      clear hYM hM
      have w4 : IntKind.i64.wrap ((k : Int) + 1) = ((k + 1 : Nat) : Int) := IntWalk.i64_in _ (by omega)
      clear hE hv hTree hTr d0 d1 d2 d3 d4 hm hAt hVt hXt hYt hTe
      obtain ⟨x2, y0, u0, u1, u2, v1, v2⟩ := HT.out.cells
      have hcT : wr.cell? ⟨tb, to_ + m, none⟩ = some (.slice (some ⟨b', off', none⟩) (len m) ci) := (hbl.cell (p := ⟨tb, to_ + m, none⟩) htb).trans hc
      have hcO : wr.cell? ⟨ob, oo + k, none⟩ = some (.int .i64 (m : Nat)) := (hbl.cell (p := ⟨ob, oo + k, none⟩) hob).trans hoc
      go_wp2_with fail
      go_region
      have HTX := hid HT.out.drew
      clear HT x2 y0 u0 u1 u2 v1 v2 hcT hcO hbl hc hoc
      obtain ⟨X1, hX1⟩ : ∃ X, wr.drew = X := ⟨_, rfl⟩
      rw [hX1] at HTX ⊢
      clear hX1
      have hbl := HTX.out.bel
      have hrX : RdN X1.drew X1.drew.heap.size (some ⟨b', off', none⟩) (len m) (g m) := hrd.to (w' := X1.drew) HTX.out.drew.bel HTX.out.drew.bel.size
      have hdX : Rd X1.drew X1.drew.heap.size D p z := hd.to (w' := X1.drew) HTX.out.drew.bel HTX.out.drew.bel.size
      obtain ⟨x2, y0, u0, u1, u2, v1, v2⟩ := HTX.out.cells
      have hv5 : X1.cell? ⟨b', off' + a * 6 + 5, none⟩ = some (.int .i64 v) := (hbl.cell (p := ⟨b', off' + a * 6 + 5, none⟩) hb').trans d5
      have S1 : Hid (X1.drew.cell? ⟨w.heap.size + 1 + 1 + 1, 1, none⟩ = some (.int .i64 X) ∧ X1.drew.cell? ⟨b', off' + a * 6 + 5, none⟩ = some (.int .i64 v)) := ⟨u1, hv5⟩
      have hbX : b' < X1.heap.size := Nat.lt_of_lt_of_le hb' hbl.size
      go_wp2_with fail
      obtain ⟨u1D, hv5D⟩ := S1.out
      go_region_with
        ((first
          | (go_at_call 77; (with_reducible refine Calls.mono (l2Leaf_any (some ⟨b', off', none⟩) D (len m) ci p dc (g m) z X1.drew hrX hdX HTR.out) ?_); rintro e w5 ⟨T', hE', rfl, hb5⟩; obtain rfl := HE.out.same hE'; rw [hsq]; have HT5 := hid (HTX.out.drew.below hb5); have u15 := HT5.out.cells.2.2.2.1; have hv55 : w5.cell? ⟨b', off' + a * 6 + 5, none⟩ = some (.int .i64 v) := (hb5.cell (p := ⟨b', off' + a * 6 + 5, none⟩) hbX).trans hv5; have v5 := HT5.out.cells.2.2.2.2.2.1)))
      all_goals
        have HT6 : Hid (TO w #[.int .i64 f, .int .i64 b, .slice (some ⟨tb, to_, none⟩) n c] #[.slice (some ⟨ob, oo, none⟩) n1 c1, .slice A2 n2 c2, .slice A3 n3 c3, .slice A4 n4 c4] #[.int .i64 (at_ : Nat), .int .i64 (X + v), .int .i64 Y] (w5.setCell ⟨w.heap.size + 1 + 1 + 1, 1, none⟩ (.int .i64 (X + v)))) := HT5.out.set1 _
        clear HT5 HTX x2 y0 u0 u1 u2 v1 v2 u15 hv55 v5 u1D hv5D hv5 hrX hdX hbl hb5 S1 hbX hE'
        obtain ⟨X2, hX2⟩ : ∃ X', w5.setCell ⟨w.heap.size + 1 + 1 + 1, 1, none⟩ (.int .i64 (X + v)) = X' := ⟨_, rfl⟩
        rw [hX2] at HT6 ⊢
        clear hX2
        have hrY : RdN X2.drew X2.drew.heap.size (some ⟨b', off', none⟩) (len m) (g m) := hrd.to (w' := X2.drew) HT6.out.drew.bel HT6.out.drew.bel.size
        have hdY : Rd X2.drew X2.drew.heap.size D p z := hd.to (w' := X2.drew) HT6.out.drew.bel HT6.out.drew.bel.size
        obtain ⟨x2, y0, u0, u1, u2, v1, v2⟩ := HT6.out.cells
        have u2D : X2.drew.cell? ⟨w.heap.size + 1 + 1 + 1, 2, none⟩ = some (.int .i64 Y) := u2
        go_wp2_with fail
        go_region_with
          ((first
            | (go_at_call 78; (with_reducible refine Calls.mono (sPath_yes (some ⟨b', off', none⟩) D (len m) ci p dc (g m) z X2.drew hrY hdY (Nat.le_trans hlk.2 (by omega)) (Nat.le_trans hp (by omega)) HDOC.out HTR.out) ?_); rintro e w6 ⟨T', pb, pc, hE', _, rfl, _, _, hb6⟩; obtain rfl := HE.out.same hE'; rw [HM.out]; have HT7 := hid (HT6.out.drew.below hb6); have u27 := HT7.out.cells.2.2.2.2.1; have v7 := HT7.out.cells.2.2.2.2.2.2)))
        all_goals
          have HT8 : Hid (TO w #[.int .i64 f, .int .i64 b, .slice (some ⟨tb, to_, none⟩) n c] #[.slice (some ⟨ob, oo, none⟩) n1 c1, .slice A2 n2 c2, .slice A3 n3 c3, .slice A4 n4 c4] #[.int .i64 (at_ : Nat), .int .i64 (X + v), .int .i64 (Y + (M : Int) - 1)] (w6.setCell ⟨w.heap.size + 1 + 1 + 1, 2, none⟩ (.int .i64 (Y + (M : Int) - 1)))) := HT7.out.set2 _
          clear HT7 HT6 x2 y0 u0 u1 u2 v1 v2 u27 v7 u2D hrY hdY hb6 hE'
          obtain ⟨X3, hX3⟩ : ∃ X', w6.setCell ⟨w.heap.size + 1 + 1 + 1, 2, none⟩ (.int .i64 (Y + (M : Int) - 1)) = X' := ⟨_, rfl⟩
          rw [hX3] at HT8 ⊢
          rw [HYM.out] at HT8
          clear hX3
          go_wp2_with fail
          go_roundw
          case rel => exact ⟨k + 1, by omega, (by first | rfl | go_num), hid (by rw [s1.out, s2.out]; exact HT8.out)⟩
          case measure => simp [intOf]; omega
    · have e : k = at_ := by omega
      subst e
      have kl : decide ((k : Int) < (k : Nat)) = false := decide_eq_false (by omega)
      obtain ⟨x2, y0, u0, u1, u2, v1, v2⟩ := HT.out.cells
      obtain ⟨r0, r1, r2, f0, f1, f2⟩ := blk_cells3 HT.out.1.2.2.1
      have HF : Hid (Blk (((wr.setCell ⟨w.heap.size + 1 + 1, 0, none⟩ (.int .i64 (k : Nat))).setCell ⟨w.heap.size + 1 + 1, 1, none⟩ (.int .i64 (sumT (scO g o z) k))).setCell ⟨w.heap.size + 1 + 1, 2, none⟩ (.int .i64 (sumT (csF g o z) k))) (w.heap.size + 1 + 1) 33 #[.int .i64 (k : Nat), .int .i64 (sumT (scO g o z) k), .int .i64 (sumT (csF g o z) k)]) := by
        have g0 := HT.out.1.2.2.1.set_ 0 (.int .i64 (k : Nat))
        have g1 := g0.set_ 1 (.int .i64 (sumT (scO g o z) k))
        exact g1.set_ 2 _
      have HB := hid ((((HT.out.bel.setCell (p := ⟨w.heap.size + 1 + 1, 0, none⟩) (by show w.heap.size ≤ w.heap.size + 1 + 1; omega) (.int .i64 (k : Nat))).setCell (p := ⟨w.heap.size + 1 + 1, 1, none⟩) (by show w.heap.size ≤ w.heap.size + 1 + 1; omega) (.int .i64 (sumT (scO g o z) k))).setCell (p := ⟨w.heap.size + 1 + 1, 2, none⟩) (by show w.heap.size ≤ w.heap.size + 1 + 1; omega) (.int .i64 (sumT (csF g o z) k))))
      clear HT HS HC
      go_wp2_with fail
      (try simp only [Exit.inBlock, Exit.then])
      refine bodyPost_ret (results_cell_row rfl _ _ (w.heap.size + 1 + 1) 33 #[.int .i64 (k : Nat), .int .i64 (sumT (scO g o z) k), .int .i64 (sumT (csF g o z) k)] (0, 0) _ rfl HF.out Tryz.underlying33 rfl size_state) rfl ?_
      exact ⟨rfl, HB.out⟩
end Go.Proofs.YtlgomifpohdniaaGreat
