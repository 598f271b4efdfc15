/- The iterator over the states: what it hands to a round. -/
import Derived.Test.YtlgomifpohdniaaGreatStI
import Derived.Test.YtlgomifpohdniaaGreatStE0
import Derived.Test.YtlgomifpohdniaaGreatRng
import Derived.Sort.LoopGhostIn
namespace Go.Proofs.YtlgomifpohdniaaGreat
open Go.RowKit Go.Shelf Go.Deep
set_option linter.unusedVariables false
set_option linter.unusedSimpArgs false

attribute [local go_sem] Oper.semAt_some

/-- The first k of 0, 1, .., N - 1. -/
def ups (N : Nat) : Nat → List (Ix N)
  | 0 => []
  | k + 1 => if h : k < N then ups N k ++ [⟨k, h⟩] else ups N k
theorem ups_succ {N k : Nat} (h : k < N) : ups N (k + 1) = ups N k ++ [⟨k, h⟩] := by
  show (if h : k < N then ups N k ++ [⟨k, h⟩] else ups N k) = _
  rw [dif_pos h]
theorem ups_len {N : Nat} : ∀ {k : Nat}, k ≤ N → (ups N k).length = k := by
  intro k
  induction k with
  | zero => intro _; rfl
  | succ k ih => intro h; rw [ups_succ (by omega), List.length_append, ih (by omega)]; rfl

theorem KeptP.rd {P : Nat → Prop} {w W : World} {B n : Nat} {A : Option Addr} {z : Nat → Int} (h : KeptP P w W) (hr : Rd w B A n z) (hB : ∀ b, b < B → P b) (hBw : B ≤ w.heap.size) : Rd W W.heap.size A n z :=
  (hr.keep fun p hp => World.cell?_of_block (h.2 _ (by omega) (hB _ hp))).more (Nat.le_trans hBw h.1)
theorem KeptP.rdW {P : Nat → Prop} {w W : World} {B n : Nat} {A : Option Addr} {z : Nat → Int} (h : KeptP P w W) (hr : RdW w B A n z) (hB : ∀ b, b < B → P b) (hBw : B ≤ w.heap.size) : RdW W W.heap.size A n z := fun hn => by
  obtain ⟨b, off, e, hb, hc⟩ := hr hn
  exact ⟨b, off, e, by have := h.1; omega, fun i hi => (World.cell?_of_block (a := ⟨b, off + i, none⟩) (h.2 _ (by show b < _; omega) (hB _ hb))).trans (hc i hi)⟩

/-- What stands between two rounds of the iterator: k states have come. -/
def Stt (W : World) (Pk : Nat → Prop) (N k : Nat) (S Q : Nat → Int) (J : List (Ix N) → World → Prop) (X : World) : Prop :=
  Blk X W.heap.size 33 #[.int .i64 (k : Nat), .int .i64 (S k), .int .i64 (Q k)] ∧ J (ups N k) X ∧ KeptP Pk W X

/-- Behind a round of the caller: what the iterator reads. -/
def SJ (W : World) (Pk : Nat → Prop) (N k : Nat) (Sk Qk : Int) (x y : Nat) (gc : Array Value) (D : Option Addr) (p dc : Nat) (J : List (Ix N) → World → Prop) (X : World) : Prop :=
  Blk X W.heap.size 33 #[.int .i64 (k : Nat), .int .i64 Sk, .int .i64 Qk] ∧ Blk X x 68 gc ∧ Blk X y 27 #[.slice D p dc] ∧ (J (ups N (k + 1)) X ∧ KeptP Pk W X) ∧ Stands W.heap.size J ∧ W.heap.size < X.heap.size
section
variable {W X X' : World} {Pk : Nat → Prop} {N k : Nat} {Sk Qk : Int} {x y : Nat} {gc : Array Value} {D : Option Addr} {p dc : Nat} {J : List (Ix N) → World → Prop} {x0 x1 x2 x3 x4 x5 x6 x7 : Value}
theorem SJ.below (h : SJ W Pk N k Sk Qk x y gc D p dc J X) (hb : Below X.heap.size X X') : SJ W Pk N k Sk Qk x y gc D p dc J X' :=
  ⟨h.1.below hb h.1.lt, h.2.1.below hb h.2.1.lt, h.2.2.1.below hb h.2.2.1.lt, ⟨h.2.2.2.2.1 _ _ _ h.2.2.2.1.1 (hb.mono (Nat.le_of_lt h.2.2.2.2.2)), h.2.2.2.1.2.trans (KeptP.of_below hb)⟩, h.2.2.2.2.1, Nat.lt_of_lt_of_le h.2.2.2.2.2 hb.size⟩
theorem sj_next (h : SJ W Pk N k Sk Qk x y gc D p dc J X) (u0 u1 u2 : Value) :
    Blk (((X.setCell ⟨W.heap.size, 0, none⟩ u0).setCell ⟨W.heap.size, 1, none⟩ u1).setCell ⟨W.heap.size, 2, none⟩ u2) W.heap.size 33 #[u0, u1, u2] ∧ J (ups N (k + 1)) (((X.setCell ⟨W.heap.size, 0, none⟩ u0).setCell ⟨W.heap.size, 1, none⟩ u1).setCell ⟨W.heap.size, 2, none⟩ u2) ∧ KeptP Pk W (((X.setCell ⟨W.heap.size, 0, none⟩ u0).setCell ⟨W.heap.size, 1, none⟩ u1).setCell ⟨W.heap.size, 2, none⟩ u2) := by
  have hb : Below W.heap.size X (((X.setCell ⟨W.heap.size, 0, none⟩ u0).setCell ⟨W.heap.size, 1, none⟩ u1).setCell ⟨W.heap.size, 2, none⟩ u2) := (((Below.refl _ X).setCell (p := ⟨W.heap.size, 0, none⟩) (Nat.le_refl _) _).setCell (p := ⟨W.heap.size, 1, none⟩) (Nat.le_refl _) _).setCell (p := ⟨W.heap.size, 2, none⟩) (Nat.le_refl _) _
  exact ⟨((h.1.set_ 0 u0).set_ 1 u1).set_ 2 u2, h.2.2.2.2.1 _ _ _ h.2.2.2.1.1 hb, Nat.le_trans h.2.2.2.1.2.1 hb.size, fun x hx hp => (hb.block x hx).trans (h.2.2.2.1.2.2 x hx hp)⟩
theorem SJ.cells (h : SJ W Pk N k Sk Qk x y #[x0, x1, x2, x3, x4, x5, x6, x7] D p dc J X) : X.cell? ⟨W.heap.size, 0, none⟩ = some (.int .i64 (k : Nat)) ∧ X.cell? ⟨W.heap.size, 1, none⟩ = some (.int .i64 Sk) ∧ X.cell? ⟨W.heap.size, 2, none⟩ = some (.int .i64 Qk) ∧
    X.cell? ⟨x, 0, none⟩ = some x0 ∧ X.cell? ⟨x, 1, none⟩ = some x1 ∧ X.cell? ⟨x, 2, none⟩ = some x2 ∧ X.cell? ⟨x, 3, none⟩ = some x3 ∧ X.cell? ⟨x, 4, none⟩ = some x4 ∧ X.cell? ⟨x, 5, none⟩ = some x5 ∧ X.cell? ⟨x, 6, none⟩ = some x6 ∧ X.cell? ⟨x, 7, none⟩ = some x7 ∧ X.cell? ⟨y, 0, none⟩ = some (.slice D p dc) :=
  ⟨h.1.cell 0, h.1.cell 1, h.1.cell 2, h.2.1.cell 0, h.2.1.cell 1, h.2.1.cell 2, h.2.1.cell 3, h.2.1.cell 4, h.2.1.cell 5, h.2.1.cell 6, h.2.1.cell 7, h.2.2.1.cell 0⟩
end
set_option maxRecDepth 100000 in
set_option maxHeartbeats 4000000 in
theorem states1_seq (m : Nat) (hm : 1 ≤ m) (f b : Int) (Ar : Option Addr) (cr : Nat) (Aw : Option Addr) (cw n : Nat) (len : Nat → Nat) (g : Nat → Nat → Nd) (A1 : Option Addr) (n1 c1 : Nat) (o : Nat → Nat) (A2 : Option Addr) (n2 c2 : Nat) (A3 : Option Addr) (n3 c3 : Nat) (A4 : Option Addr) (n4 c4 : Nat) (D : Option Addr) (p dc : Nat) (z : Nat → Int) (x y B : Nat) (Pk : Nat → Prop) (w : World)
    (hx : Blk w x 68 (sgC f b Ar n cr Aw (cumT len n) cw A1 n1 c1 A2 n2 c2 A3 n3 c3 A4 n4 c4)) (hy : Blk w y 27 #[.slice D p dc]) (px : Pk x) (py : Pk y) (hB : ∀ b, b < B → Pk b) (hBw : B ≤ w.heap.size)
    (hR : Rd w B Ar n (rootZ len)) (hw : RdW w B Aw (cumT len n) (wordZ len g n)) (h1 : Rd w B A1 n1 fun i => (o i : Nat)) (hd : Rd w B D p z) (hn : n ≤ 12) (hp : p ≤ 6) (ho : Hid (∀ i, i < n1 → o i < n)) (ht : Hid (∀ i, i < n → treeB (g i) (len i) p = true)) (hlen : Hid (∀ i, i < n → 1 ≤ len i ∧ len i ≤ 15)) (hn1 : n1 ≤ 12) :
    SeqS Fence.wide m Tryz.prog 74 #[.pointer (some ⟨x, 0, none⟩), .pointer (some ⟨y, 0, none⟩)] (fun i : Ix (n1 + 1) => #[stV (i.1 : Nat) (sumT (scO g o z) i.1) (sumT (csF g o z) i.1)]) Pk (fun xs => xs = ups (n1 + 1) (n1 + 1)) (fun pre => ∃ k, k ≤ n1 + 1 ∧ pre = ups (n1 + 1) k) (n1 + 1) w := by
  intro l J Jx W hW hJ hJx hY h0
  have HJ := hid hJ
  have HY := hid hY
  have HPB := hid hB
  have HS := hid (sumT_bound (p := scO g o z) (n := n1) fun i hi => lvv_bound z (ht.out (o i) (ho.out i hi)))
  have HC := hid (csF_bound (g := g) (o := o) (z := z) (n := n1) fun i hi => by have := (spl_tree z (ht.out (o i) (ho.out i hi))).2; have := ((treeB_iff _ _ _).1 (ht.out (o i) (ho.out i hi))).2.1; omega)
  have hxW := hx.below hW hx.lt
  have hyW := hy.below hW hy.lt
  have hws := hW.size
  have hRW := hR.below (hW.mono hBw)
  have hwW : RdW W B Aw (cumT len n) (wordZ len g n) := fun h0 => by
    obtain ⟨b, off, e, hb, hc⟩ := hw h0
    exact ⟨b, off, e, hb, fun i hi => (hW.cell (p := ⟨b, off + i, none⟩) (by show b < _; omega)).trans (hc i hi)⟩
  have h1W := h1.below (hW.mono hBw)
  have hdW := hd.below (hW.mono hBw)
  have h00 : Hid (Stt W Pk (n1 + 1) 0 (sumT (scO g o z)) (sumT (csF g o z)) J (W.alloc (.cells #[.int .i64 0, .int .i64 0, .int .i64 0] 33))) :=
    ⟨Blk.new W _ _, hJ _ _ _ h0 ((Below.refl _ W).alloc (Nat.le_refl _) _), KeptP.of_below ((Below.refl _ W).alloc (Nat.le_refl _) _)⟩
  clear h0 hx hy hR hw h1 hd hJ hJx hY hB
  refine callsIn_of_wp Tryz.func74 rfl trivial ?_ rfl
  simp only [Tryz.ntmps74, List.size_toArray, List.length_cons, List.length_nil, Nat.reduceAdd, Nat.reduceSub, Array.replicate_succ, Array.replicate_zero, List.push_toArray, List.append_toArray, List.nil_append, List.cons_append]
  gi_wp2_with fail
  gi_loopg [] (n1 + 1) (fun gk wr => ∃ k : Nat, k ≤ n1 ∧ gk + k = n1 + 1 ∧ Hid (Stt W Pk (n1 + 1) k (sumT (scO g o z)) (sumT (csF g o z)) J wr))
  case atStart => exact ⟨0, by omega, by omega, h00⟩
  case round =>
    obtain ⟨k, hk, hgk, H⟩ := hrel
    obtain ⟨Sk, hSk⟩ : ∃ s, sumT (scO g o z) k = s := ⟨_, rfl⟩
    obtain ⟨Qk, hQk⟩ : ∃ s, sumT (csF g o z) k = s := ⟨_, rfl⟩
    have hs := HS.out k hk
    have hq := HC.out k hk
    rw [hSk] at hs
    rw [hQk] at hq
    have hbk : Blk wr W.heap.size 33 #[.int .i64 (k : Nat), .int .i64 Sk, .int .i64 Qk] := by rw [← hSk, ← hQk]; exact H.out.1
    have hj := H.out.2.1
    have hkp := H.out.2.2
    have HSk := hid hSk
    have HQk := hid hQk
    clear hSk hQk H
    have hjd : J (ups (n1 + 1) k) wr.drew := HJ.out _ _ _ hj (Below.refl _ wr).drew
    have hY1 := HY.out _ ⟨k, by omega⟩ wr.drew hjd (by rw [ups_len (by omega)]; omega)
    have hsz := hbk.lt
    have hkpd : KeptP Pk W wr.drew := hkp.trans (KeptP.of_below (Below.refl _ wr).drew)
    have hY2 : YieldAt Fence.wide (m - 1) Tryz.prog l #[stV (k : Nat) Sk Qk] wr.drew fun e W' =>
        (e = .returned (.bool true) ∧ Hid (SJ W Pk (n1 + 1) k Sk Qk x y (sgC f b Ar n cr Aw (cumT len n) cw A1 n1 c1 A2 n2 c2 A3 n3 c3 A4 n4 c4) D p dc J W')) ∨
        (e = .returned (.bool false) ∧ Hid (Jx (ups (n1 + 1) (k + 1)) W')) := by
      have e1 := HSk.out
      have e2 := HQk.out
      subst e1 e2
      refine YieldAt.mono hY1 fun e W' h => ?_
      rw [← ups_succ (by omega)] at h
      rcases h with ⟨he, hj', hk'⟩ | ⟨he, hjx, _⟩
      · have hkk : KeptP Pk W W' := hkpd.trans (hk'.mono fun _ _ h => .inl h)
        exact .inl ⟨he, hk'.blk hbk.drew (.inr (Nat.le_refl _)), hkk.blk hxW px, hkk.blk hyW py, ⟨hj', hkk⟩, HJ.out, Nat.lt_of_lt_of_le hsz hk'.1⟩
      · exact .inr ⟨he, hjx⟩
    clear hY1 hjd hkp hkpd hj
    obtain ⟨fn, tmps, assign, body, hy, hRd⟩ := hY2
    obtain ⟨hc0, hc1, hc2⟩ := blk_three hbk
    gi_wp2_with fail
    refine wpIn_region_any (by kernel_rfl) ?_
    change wpAnyIn _ _ _ _ _ _ _ _ _ (World.drew _)
    refine wpAnyIn_take (i := 0) (v := .func (.yield l) #[] #[]) rfl rfl (by kernel_rfl) (by kernel_rfl) (by kernel_rfl) (fun _ _ _ h => h) ⟨Or.inl ⟨by rfl, ?_⟩, fun _ => rfl⟩ ?_
    · (intro w; go_simp)
    refine wpAnyIn_ready (rs := [1]) (by kernel_rfl) (by simp) ?_
    refine AllReadyIn.cons rfl (fun K hK => ?_) AllReadyIn.nil
    go_simp
    refine hK _ _ ?_
    clear hK K
    refine wpAnyIn_ready (rs := [2]) (by kernel_rfl) (by simp) ?_
    refine AllReadyIn.cons rfl (fun K hK => ?_) AllReadyIn.nil
    go_simp
    refine hRd.mono ?_
    clear hRd
    rintro e W3 (⟨rfl, HX3⟩ | ⟨rfl, HX⟩)
    rotate_left
    · refine hK _ _ ?_
      clear hK K
      refine wpAnyIn_take (i := 3) (v := .bool false) rfl rfl (by kernel_rfl) (by kernel_rfl) (by kernel_rfl) (fun _ _ _ h => h) ⟨Or.inl ⟨by rfl, ?_⟩, fun _ => rfl⟩ ?_
      · (intro w; go_simp)
      refine wpAnyIn_take (i := 4) (v := undef) rfl rfl (by kernel_rfl) (by kernel_rfl) (by kernel_rfl) (fun _ _ _ h => h) ⟨Or.inr ⟨by rfl, rfl⟩, fun _ => rfl⟩ ?_
      refine wpAnyIn_take (i := 5) (v := undef) rfl rfl (by kernel_rfl) (by kernel_rfl) (by kernel_rfl) (fun _ _ _ h => h) ⟨Or.inr ⟨by rfl, rfl⟩, fun _ => rfl⟩ ?_
      refine wpAnyIn_take (i := 6) (v := undef) rfl rfl (by kernel_rfl) (by kernel_rfl) (by kernel_rfl) (fun _ _ _ h => h) ⟨Or.inr ⟨by rfl, rfl⟩, fun _ => rfl⟩ ?_
      refine wpAnyIn_ready (rs := [7]) (by kernel_rfl) (by simp) ?_
      refine AllReadyIn.cons rfl (fun K hK => ?_) AllReadyIn.nil
      go_simp
      refine ⟨trivial, ?_⟩
      refine hK _ _ ?_
      clear hK K
      refine wpAnyIn_take (i := 8) (v := undef) rfl rfl (by kernel_rfl) (by kernel_rfl) (by kernel_rfl) (fun _ _ _ h => h) ⟨Or.inr ⟨by rfl, rfl⟩, fun _ => rfl⟩ ?_
      refine wpAnyIn_take (i := 9) (v := .bool false) rfl rfl (by kernel_rfl) (by kernel_rfl) (by kernel_rfl) (fun _ _ _ h => h) ⟨Or.inl ⟨by rfl, ?_⟩, fun _ => rfl⟩ ?_
      · (intro w; go_simp)
      refine wpAnyIn_done (by kernel_rfl) ?_ _
      clear hc0 hc1 hc2 hy hbk
      gi_wp2_with fail
      go_end0
      exact ⟨⟨_, rfl⟩, .inr ⟨_, ⟨k + 1, by omega, rfl⟩, HX.out⟩⟩
    obtain ⟨s0, s1, s2, g0, g1, g2, g3, g4, g5, g6, g7, y0⟩ := HX3.out.cells
    refine hK _ _ ?_
    clear hK K
    refine wpAnyIn_take (i := 3) (v := .bool true) rfl rfl (by kernel_rfl) (by kernel_rfl) (by kernel_rfl) (fun _ _ _ h => h) ⟨Or.inl ⟨by rfl, ?_⟩, fun _ => rfl⟩ ?_
    · (intro w; go_simp)
    refine wpAnyIn_take (i := 4) (v := .pointer (some ⟨W.heap.size, 0, none⟩)) rfl rfl (by kernel_rfl) (by kernel_rfl) (by kernel_rfl) (fun _ _ _ h => h) ⟨Or.inl ⟨by rfl, ?_⟩, fun _ => rfl⟩ ?_
    · (intro w; go_simp)
    by_cases hlt : (k : Int) < (n1 : Int)
    · have d1 : decide ((k : Int) < (n1 : Int)) = true := decide_eq_true hlt
      refine wpAnyIn_ready (rs := [5, 6]) (by kernel_rfl) (by simp) ?_
      refine AllReadyIn.cons rfl (fun K hK => ?_) (AllReadyIn.cons rfl (fun K hK => ?_) AllReadyIn.nil)
      · go_simp
        refine hK _ _ ?_
        clear hK K
        refine wpAnyIn_ready (rs := [6]) (by kernel_rfl) (by simp) ?_
        refine AllReadyIn.cons rfl (fun K hK => ?_) AllReadyIn.nil
        go_simp
        refine hK _ _ ?_
        clear hK K
        refine wpAnyIn_ready (rs := [7]) (by kernel_rfl) (by simp) ?_
        refine AllReadyIn.cons rfl (fun K hK => ?_) AllReadyIn.nil
        go_simp
        (try refine ⟨trivial, ?_⟩); gi_at_call 42; refine (callsIn_wide.2 (end_any f b Ar n cr Aw (cumT len n) cw A1 n1 c1 A2 n2 c2 A3 n3 c3 A4 n4 c4 _)).mono ?_; rintro e W4 ⟨rfl, hb4⟩
        have HX4 := hid (SJ.below HX3.out hb4)
        refine hK _ _ ?_
        clear hK K
        refine wpAnyIn_ready (rs := [8]) (by kernel_rfl) (by simp) ?_
        refine AllReadyIn.cons rfl (fun K hK => ?_) AllReadyIn.nil
        go_simp
        refine hK _ _ ?_
        clear hK K
        refine wpAnyIn_ready (rs := [9]) (by kernel_rfl) (by simp) ?_
        refine AllReadyIn.cons rfl (fun K hK => ?_) AllReadyIn.nil
        go_simp
        refine hK _ _ ?_
        clear hK K
        refine wpAnyIn_done (by kernel_rfl) ?_ _
        clear s0 s1 s2 g0 g1 g2 g3 g4 g5 g6 g7 y0 hc0 hc1 hc2 hy hbk HX3 hb4
        (try clear t0 t1 t2 h0 h1 h2 h3 h4 h5 h6 h7 u0)
        obtain ⟨t0, t1, t2, h0, h1, h2, h3, h4, h5, h6, h7, u0⟩ := HX4.out.cells
        have hk4 := HX4.out.2.2.2.1.2
        have hBW : B ≤ W.heap.size := by omega
        have hkn : k < n1 := by omega
        have haf := after_any f b Ar cr Aw cw n len g A1 n1 c1 o A2 n2 c2 A3 n3 c3 A4 n4 c4 D p dc z k Sk Qk W4 (hk4.rd hRW HPB.out hBW) (hk4.rdW hwW HPB.out hBW) (hk4.rd h1W HPB.out hBW) (hk4.rd hdW HPB.out hBW) hn hp ho ht hlen hkn hn1 (by omega) (by omega)
        have HAF := hid haf
        clear hk4 haf hlt d1
        gi_wp2_with fail
        refine ⟨trivial, ?_⟩
        refine (callsIn_wide.2 HAF.out).mono ?_
        rintro e W5 ⟨rfl, hb5⟩
        have HX5 := hid (HX4.out.below hb5)
        clear HX4 hb5 HAF t0 t1 t2 h0 h1 h2 h3 h4 h5 h6 h7 u0
        obtain ⟨t0, t1, t2, q0, q1, q2⟩ := blk_cells3 HX5.out.1
        have HF := hid (sj_next HX5.out (.int .i64 ((k + 1 : Nat) : Int)) (.int .i64 (Sk + lvv (g (o k)) z)) (.int .i64 (Qk + ((spl (g (o k)) z : Nat) : Int))))
        clear HX5
        gi_wp2_with fail
        gi_roundg (gk - 1)
        case measure => omega
        case rel =>
          refine ⟨k + 1, by omega, by omega, hid ?_⟩
          have e1 := HSk.out
          have e2 := HQk.out
          subst e1 e2
          exact HF.out
      · go_simp
        refine hK _ _ ?_
        clear hK K
        refine wpAnyIn_ready (rs := [5, 7]) (by kernel_rfl) (by simp) ?_
        refine AllReadyIn.cons rfl (fun K hK => ?_) (AllReadyIn.cons rfl (fun K hK => ?_) AllReadyIn.nil)
        · go_simp
          refine hK _ _ ?_
          clear hK K
          refine wpAnyIn_ready (rs := [7]) (by kernel_rfl) (by simp) ?_
          refine AllReadyIn.cons rfl (fun K hK => ?_) AllReadyIn.nil
          go_simp
          (try refine ⟨trivial, ?_⟩); gi_at_call 42; refine (callsIn_wide.2 (end_any f b Ar n cr Aw (cumT len n) cw A1 n1 c1 A2 n2 c2 A3 n3 c3 A4 n4 c4 _)).mono ?_; rintro e W4 ⟨rfl, hb4⟩
          have HX4 := hid (SJ.below HX3.out hb4)
          refine hK _ _ ?_
          clear hK K
          refine wpAnyIn_ready (rs := [8]) (by kernel_rfl) (by simp) ?_
          refine AllReadyIn.cons rfl (fun K hK => ?_) AllReadyIn.nil
          go_simp
          refine hK _ _ ?_
          clear hK K
          refine wpAnyIn_ready (rs := [9]) (by kernel_rfl) (by simp) ?_
          refine AllReadyIn.cons rfl (fun K hK => ?_) AllReadyIn.nil
          go_simp
          refine hK _ _ ?_
          clear hK K
          refine wpAnyIn_done (by kernel_rfl) ?_ _
          clear s0 s1 s2 g0 g1 g2 g3 g4 g5 g6 g7 y0 hc0 hc1 hc2 hy hbk HX3 hb4
          (try clear t0 t1 t2 h0 h1 h2 h3 h4 h5 h6 h7 u0)
          obtain ⟨t0, t1, t2, h0, h1, h2, h3, h4, h5, h6, h7, u0⟩ := HX4.out.cells
          have hk4 := HX4.out.2.2.2.1.2
          have hBW : B ≤ W.heap.size := by omega
          have hkn : k < n1 := by omega
          have haf := after_any f b Ar cr Aw cw n len g A1 n1 c1 o A2 n2 c2 A3 n3 c3 A4 n4 c4 D p dc z k Sk Qk W4 (hk4.rd hRW HPB.out hBW) (hk4.rdW hwW HPB.out hBW) (hk4.rd h1W HPB.out hBW) (hk4.rd hdW HPB.out hBW) hn hp ho ht hlen hkn hn1 (by omega) (by omega)
          have HAF := hid haf
          clear hk4 haf hlt d1
          gi_wp2_with fail
          refine ⟨trivial, ?_⟩
          refine (callsIn_wide.2 HAF.out).mono ?_
          rintro e W5 ⟨rfl, hb5⟩
          have HX5 := hid (HX4.out.below hb5)
          clear HX4 hb5 HAF t0 t1 t2 h0 h1 h2 h3 h4 h5 h6 h7 u0
          obtain ⟨t0, t1, t2, q0, q1, q2⟩ := blk_cells3 HX5.out.1
          have HF := hid (sj_next HX5.out (.int .i64 ((k + 1 : Nat) : Int)) (.int .i64 (Sk + lvv (g (o k)) z)) (.int .i64 (Qk + ((spl (g (o k)) z : Nat) : Int))))
          clear HX5
          gi_wp2_with fail
          gi_roundg (gk - 1)
          case measure => omega
          case rel =>
            refine ⟨k + 1, by omega, by omega, hid ?_⟩
            have e1 := HSk.out
            have e2 := HQk.out
            subst e1 e2
            exact HF.out
        · go_simp
          (try refine ⟨trivial, ?_⟩); gi_at_call 42; refine (callsIn_wide.2 (end_any f b Ar n cr Aw (cumT len n) cw A1 n1 c1 A2 n2 c2 A3 n3 c3 A4 n4 c4 _)).mono ?_; rintro e W4 ⟨rfl, hb4⟩
          have HX4 := hid (SJ.below HX3.out hb4)
          obtain ⟨t0, t1, t2, h0, h1, h2, h3, h4, h5, h6, h7, u0⟩ := HX4.out.cells
          refine hK _ _ ?_
          clear hK K
          refine wpAnyIn_ready (rs := [5]) (by kernel_rfl) (by simp) ?_
          refine AllReadyIn.cons rfl (fun K hK => ?_) AllReadyIn.nil
          go_simp
          refine hK _ _ ?_
          clear hK K
          refine wpAnyIn_ready (rs := [8]) (by kernel_rfl) (by simp) ?_
          refine AllReadyIn.cons rfl (fun K hK => ?_) AllReadyIn.nil
          go_simp
          refine hK _ _ ?_
          clear hK K
          refine wpAnyIn_ready (rs := [9]) (by kernel_rfl) (by simp) ?_
          refine AllReadyIn.cons rfl (fun K hK => ?_) AllReadyIn.nil
          go_simp
          refine hK _ _ ?_
          clear hK K
          refine wpAnyIn_done (by kernel_rfl) ?_ _
          clear s0 s1 s2 g0 g1 g2 g3 g4 g5 g6 g7 y0 hc0 hc1 hc2 hy hbk HX3 hb4
          (try clear t0 t1 t2 h0 h1 h2 h3 h4 h5 h6 h7 u0)
          obtain ⟨t0, t1, t2, h0, h1, h2, h3, h4, h5, h6, h7, u0⟩ := HX4.out.cells
          have hk4 := HX4.out.2.2.2.1.2
          have hBW : B ≤ W.heap.size := by omega
          have hkn : k < n1 := by omega
          have haf := after_any f b Ar cr Aw cw n len g A1 n1 c1 o A2 n2 c2 A3 n3 c3 A4 n4 c4 D p dc z k Sk Qk W4 (hk4.rd hRW HPB.out hBW) (hk4.rdW hwW HPB.out hBW) (hk4.rd h1W HPB.out hBW) (hk4.rd hdW HPB.out hBW) hn hp ho ht hlen hkn hn1 (by omega) (by omega)
          have HAF := hid haf
          clear hk4 haf hlt d1
          gi_wp2_with fail
          refine ⟨trivial, ?_⟩
          refine (callsIn_wide.2 HAF.out).mono ?_
          rintro e W5 ⟨rfl, hb5⟩
          have HX5 := hid (HX4.out.below hb5)
          clear HX4 hb5 HAF t0 t1 t2 h0 h1 h2 h3 h4 h5 h6 h7 u0
          obtain ⟨t0, t1, t2, q0, q1, q2⟩ := blk_cells3 HX5.out.1
          have HF := hid (sj_next HX5.out (.int .i64 ((k + 1 : Nat) : Int)) (.int .i64 (Sk + lvv (g (o k)) z)) (.int .i64 (Qk + ((spl (g (o k)) z : Nat) : Int))))
          clear HX5
          gi_wp2_with fail
          gi_roundg (gk - 1)
          case measure => omega
          case rel =>
            refine ⟨k + 1, by omega, by omega, hid ?_⟩
            have e1 := HSk.out
            have e2 := HQk.out
            subst e1 e2
            exact HF.out
    · have d1 : decide ((k : Int) < (n1 : Int)) = false := decide_eq_false hlt
      refine wpAnyIn_ready (rs := [5, 6]) (by kernel_rfl) (by simp) ?_
      refine AllReadyIn.cons rfl (fun K hK => ?_) (AllReadyIn.cons rfl (fun K hK => ?_) AllReadyIn.nil)
      · go_simp
        refine hK _ _ ?_
        clear hK K
        refine wpAnyIn_ready (rs := [6]) (by kernel_rfl) (by simp) ?_
        refine AllReadyIn.cons rfl (fun K hK => ?_) AllReadyIn.nil
        go_simp
        refine hK _ _ ?_
        clear hK K
        refine wpAnyIn_ready (rs := [7]) (by kernel_rfl) (by simp) ?_
        refine AllReadyIn.cons rfl (fun K hK => ?_) AllReadyIn.nil
        go_simp
        (try refine ⟨trivial, ?_⟩); gi_at_call 42; refine (callsIn_wide.2 (end_any f b Ar n cr Aw (cumT len n) cw A1 n1 c1 A2 n2 c2 A3 n3 c3 A4 n4 c4 _)).mono ?_; rintro e W4 ⟨rfl, hb4⟩
        have HX4 := hid (SJ.below HX3.out hb4)
        refine hK _ _ ?_
        clear hK K
        refine wpAnyIn_ready (rs := [8]) (by kernel_rfl) (by simp) ?_
        refine AllReadyIn.cons rfl (fun K hK => ?_) AllReadyIn.nil
        go_simp
        refine hK _ _ ?_
        clear hK K
        refine wpAnyIn_ready (rs := [9]) (by kernel_rfl) (by simp) ?_
        refine AllReadyIn.cons rfl (fun K hK => ?_) AllReadyIn.nil
        go_simp
        refine hK _ _ ?_
        clear hK K
        refine wpAnyIn_done (by kernel_rfl) ?_ _
        clear s0 s1 s2 g0 g1 g2 g3 g4 g5 g6 g7 y0 hc0 hc1 hc2 hy hbk HX3 hb4
        (try clear t0 t1 t2 h0 h1 h2 h3 h4 h5 h6 h7 u0)
        have hke : k = n1 := by omega
        gi_wp2_with fail
        go_end0
        have hj4 := HX4.out.2.2.2.1.1
        rw [hke] at hj4
        exact ⟨⟨_, rfl⟩, .inl (by first | exact hj4 | exact ⟨_, rfl, hj4⟩)⟩
      · go_simp
        refine hK _ _ ?_
        clear hK K
        refine wpAnyIn_ready (rs := [5, 7]) (by kernel_rfl) (by simp) ?_
        refine AllReadyIn.cons rfl (fun K hK => ?_) (AllReadyIn.cons rfl (fun K hK => ?_) AllReadyIn.nil)
        · go_simp
          refine hK _ _ ?_
          clear hK K
          refine wpAnyIn_ready (rs := [7]) (by kernel_rfl) (by simp) ?_
          refine AllReadyIn.cons rfl (fun K hK => ?_) AllReadyIn.nil
          go_simp
          (try refine ⟨trivial, ?_⟩); gi_at_call 42; refine (callsIn_wide.2 (end_any f b Ar n cr Aw (cumT len n) cw A1 n1 c1 A2 n2 c2 A3 n3 c3 A4 n4 c4 _)).mono ?_; rintro e W4 ⟨rfl, hb4⟩
          have HX4 := hid (SJ.below HX3.out hb4)
          refine hK _ _ ?_
          clear hK K
          refine wpAnyIn_ready (rs := [8]) (by kernel_rfl) (by simp) ?_
          refine AllReadyIn.cons rfl (fun K hK => ?_) AllReadyIn.nil
          go_simp
          refine hK _ _ ?_
          clear hK K
          refine wpAnyIn_ready (rs := [9]) (by kernel_rfl) (by simp) ?_
          refine AllReadyIn.cons rfl (fun K hK => ?_) AllReadyIn.nil
          go_simp
          refine hK _ _ ?_
          clear hK K
          refine wpAnyIn_done (by kernel_rfl) ?_ _
          clear s0 s1 s2 g0 g1 g2 g3 g4 g5 g6 g7 y0 hc0 hc1 hc2 hy hbk HX3 hb4
          (try clear t0 t1 t2 h0 h1 h2 h3 h4 h5 h6 h7 u0)
          have hke : k = n1 := by omega
          gi_wp2_with fail
          go_end0
          have hj4 := HX4.out.2.2.2.1.1
          rw [hke] at hj4
          exact ⟨⟨_, rfl⟩, .inl (by first | exact hj4 | exact ⟨_, rfl, hj4⟩)⟩
        · go_simp
          (try refine ⟨trivial, ?_⟩); gi_at_call 42; refine (callsIn_wide.2 (end_any f b Ar n cr Aw (cumT len n) cw A1 n1 c1 A2 n2 c2 A3 n3 c3 A4 n4 c4 _)).mono ?_; rintro e W4 ⟨rfl, hb4⟩
          have HX4 := hid (SJ.below HX3.out hb4)
          obtain ⟨t0, t1, t2, h0, h1, h2, h3, h4, h5, h6, h7, u0⟩ := HX4.out.cells
          refine hK _ _ ?_
          clear hK K
          refine wpAnyIn_ready (rs := [5]) (by kernel_rfl) (by simp) ?_
          refine AllReadyIn.cons rfl (fun K hK => ?_) AllReadyIn.nil
          go_simp
          refine hK _ _ ?_
          clear hK K
          refine wpAnyIn_ready (rs := [8]) (by kernel_rfl) (by simp) ?_
          refine AllReadyIn.cons rfl (fun K hK => ?_) AllReadyIn.nil
          go_simp
          refine hK _ _ ?_
          clear hK K
          refine wpAnyIn_ready (rs := [9]) (by kernel_rfl) (by simp) ?_
          refine AllReadyIn.cons rfl (fun K hK => ?_) AllReadyIn.nil
          go_simp
          refine hK _ _ ?_
          clear hK K
          refine wpAnyIn_done (by kernel_rfl) ?_ _
          clear s0 s1 s2 g0 g1 g2 g3 g4 g5 g6 g7 y0 hc0 hc1 hc2 hy hbk HX3 hb4
          (try clear t0 t1 t2 h0 h1 h2 h3 h4 h5 h6 h7 u0)
          have hke : k = n1 := by omega
          gi_wp2_with fail
          go_end0
          have hj4 := HX4.out.2.2.2.1.1
          rw [hke] at hj4
          exact ⟨⟨_, rfl⟩, .inl (by first | exact hj4 | exact ⟨_, rfl, hj4⟩)⟩
end Go.Proofs.YtlgomifpohdniaaGreat
