/- A drawn command hurt. -/
import Derived.Test.YtmkipdhappikhaaGreatDoorSdC
import Derived.Deep.RegionWith
import Derived.Deep.CutBlock
namespace Go.Proofs.YtmkipdhappikhaaGreatDoor

/-! ### HcA -/
section
set_option linter.unusedVariables false
set_option linter.unusedSimpArgs false
open Go.RowKit Go.Deep
set_option linter.unusedVariables false
set_option linter.unusedSimpArgs false

/-- A slice of documents that reads; its rows may be hurt. -/
def DH (W : World) (D : Option Addr) (m : Nat) : Prop :=
  ∃ (Ad : Nat → Option Addr) (len cp : Nat → Nat) (z : Nat → Nat → Int), m ≤ 21 ∧ (∀ i, i < m → len i ≤ 17) ∧ (∀ i, i < m → 0 < len i → ∃ g, Ad i = some ⟨g, 0, none⟩ ∧ Row W 2 g (len i) (z i)) ∧
    (0 < m → ∃ gg off cs, D = some ⟨gg, off, none⟩ ∧ Blk W gg 67 cs ∧ ∀ i, i < m → W.cell? ⟨gg, off + i, none⟩ = some (.slice (Ad i) (len i) (cp i)))
section
variable {W W' : World} {R m c g : Nat} {D : Option Addr} {cs : Array Value}
theorem DQ.dh (h : DQ W R D m c) : DH W D m := by
  obtain ⟨B, Ad, len, cp, z, h1, hB, h2, h3, h4, h5, h6⟩ := h
  refine ⟨Ad, len, cp, z, h2, fun i hi => by have := h4 i hi; omega, fun i hi hl => ?_, fun h0 => ?_⟩
  · obtain ⟨g', c', hv, hg, hr⟩ := own_row (h5 i hi).1 hl
    injection hv with e1 _ _
    exact ⟨g', e1, hr⟩
  · obtain ⟨gg, off, cs, e, _, hb, hc⟩ := h6 h0
    exact ⟨gg, off, cs, e, hb, hc⟩
theorem DH.far (h : DH W D m) (hg : Blk W g 35 cs) (hk : ∀ x, x ≠ g → W'.heap[x]? = W.heap[x]?) : DH W' D m := by
  obtain ⟨Ad, len, cp, z, h1, h2, h3, h4⟩ := h
  refine ⟨Ad, len, cp, z, h1, h2, fun i hi hl => ?_, fun h0 => ?_⟩
  · obtain ⟨g', e, cs', hB, hx⟩ := h3 i hi hl
    exact ⟨g', e, cs', (hk g' (hB.ne_ hg (by decide))).trans hB, hx⟩
  · obtain ⟨gg, off, cs', e, hb, hc⟩ := h4 h0
    have hq := hk gg (hb.ne_ hg (by decide))
    exact ⟨gg, off, cs', e, hq.trans hb, fun i hi => (World.cell?_of_block hq).trans (hc i hi)⟩
theorem DH.below (h : DH W D m) (hb : Below W.heap.size W W') : DH W' D m := by
  obtain ⟨Ad, len, cp, z, h1, h2, h3, h4⟩ := h
  refine ⟨Ad, len, cp, z, h1, h2, fun i hi hl => ?_, fun h0 => ?_⟩
  · obtain ⟨g', e, hr⟩ := h3 i hi hl
    exact ⟨g', e, hr.below hb hr.lt⟩
  · obtain ⟨gg, off, cs', e, hB, hc⟩ := h4 h0
    have hq := hb.block gg hB.lt
    exact ⟨gg, off, cs', e, hq.trans hB, fun i hi => (World.cell?_of_block hq).trans (hc i hi)⟩
theorem DH.rdq (h : DH W D m) : ∃ len z, RdQ W W.heap.size D m len z ∧ m ≤ 21 ∧ ∀ i, i < m → len i ≤ 17 := by
  obtain ⟨Ad, len, cp, z, h1, h2, h3, h4⟩ := h
  refine ⟨len, z, fun h0 => ?_, h1, h2⟩
  obtain ⟨gg, off, cs, e, hb, hc⟩ := h4 h0
  refine ⟨gg, off, e, hb.lt, fun i hi => ⟨Ad i, cp i, hc i hi, fun hl => ?_⟩⟩
  obtain ⟨g', e1, hr⟩ := h3 i hi hl
  rw [e1]
  exact (rd_of hr) hl
end
/-- What is known while a command is hurt. -/
structure GZ (w0 : World) (R n cap : Nat) (A : Option Addr) (q : Nat) (k a b t : Int) (D : Option Addr) (m c : Nat) (x : ByteArray) (W : World) : Prop where
  res : Blk W (q + 1) 35 zC
  cmd : Blk W q 35 (cmC k a b t D m c x)
  lt0 : w0.heap.size ≤ q
  rs : Rs W R A n cap
  dh : DH W D m
  bel : Below R w0 W
structure GY (w0 : World) (R n cap : Nat) (A : Option Addr) (q : Nat) (k a b t : Int) (D : Option Addr) (m c : Nat) (x : ByteArray) (W : World) : Prop where
  res : Blk W (q + 1) 35 zC
  cmd : Blk W q 35 (cmC k a b t D m c x)
  lt0 : w0.heap.size ≤ q
  rs : Rs W R A n cap
  dq : DQ W R D m c
  bel : Below R w0 W
section
variable {w0 W W1 : World} {R n cap q m c : Nat} {A D : Option Addr} {k a b t : Int} {x : ByteArray}
theorem GY.gz (h : GY w0 R n cap A q k a b t D m c x W) : GZ w0 R n cap A q k a b t D m c x W := ⟨h.res, h.cmd, h.lt0, h.rs, h.dq.dh, h.bel⟩
theorem GY.drew (h : GY w0 R n cap A q k a b t D m c x W) : GY w0 R n cap A q k a b t D m c x W.drew := ⟨h.res, h.cmd, h.lt0, h.rs, h.dq, h.bel.drew⟩
theorem GY.grown (h : GY w0 R n cap A q k a b t D m c x W) (hR1 : Rs W1 R A n cap) (hg : W.grownBy W1 (some R)) (hRw : R < w0.heap.size) : GY w0 R n cap A q k a b t D m c x W1 :=
  have h0 := h.lt0
  ⟨h.res.grown hg (by intro e; injection e with e; omega), h.cmd.grown hg (by intro e; injection e with e; omega), h0, hR1, h.dq.grown hg, h.bel.trans (below_grown hg h.rs.lt)⟩
theorem GZ.set (h : GZ w0 R n cap A q k a b t D m c x W) (hRw : R < w0.heap.size) (o : Nat) (v : Value) {k' a' b' t' : Int} {x' : ByteArray} (hv : (cmC k a b t D m c x).setIfInBounds o v = cmC k' a' b' t' D m c x') : GZ w0 R n cap A q k' a' b' t' D m c x' (W.setCell ⟨q, o, none⟩ v) := by
  have h0 := h.lt0
  refine ⟨h.res.far (p := ⟨q, o, none⟩) (by show q + 1 ≠ q; omega) _, ?_, h0, rs_set h.rs (p := ⟨q, o, none⟩) (by show R < q; omega) _, h.dh.far h.cmd (fun y hy => Below.heap_setCell _ _ _ y hy), h.bel.setCell (p := ⟨q, o, none⟩) (by show R ≤ q; omega) _⟩
  rw [← hv]
  exact h.cmd.set_ o v
end
def CmdHurt (R n cap : Nat) (A : Option Addr) (w : World) (e : Ending) (w' : World) : Prop :=
  ∃ (k a b t : Int) (D : Option Addr) (m c : Nat) (x : ByteArray), e = .returned (cmV k a b t D m c x) ∧ x.size ≤ 7841 ∧ DH w' D m ∧ Rs w' R A n cap ∧ Below R w w'
theorem GZ.fin {w0 W : World} {R n cap q m c : Nat} {A D : Option Addr} {k a b t : Int} {x : ByteArray} (h : GZ w0 R n cap A q k a b t D m c x W) (hRw : R < w0.heap.size) (hx : x.size ≤ 7841) (v0 v1 v2 v3 v4 v5 : Value) :
    CmdHurt R n cap A w0 (.returned (cmV k a b t D m c x)) (set6 W (q + 1) v0 v1 v2 v3 v4 v5) := by
  have h0 := h.lt0
  refine ⟨k, a, b, t, D, m, c, x, rfl, hx, h.dh.far h.res fun y hy => set6_far hy, h.rs.keep fun b hb => set6_far (by omega), ?_⟩
  exact (((((h.bel.setCell (p := ⟨q + 1, 0, none⟩) (by show R ≤ q + 1; omega) _).setCell (p := ⟨q + 1, 1, none⟩) (by show R ≤ q + 1; omega) _).setCell (p := ⟨q + 1, 2, none⟩) (by show R ≤ q + 1; omega) _).setCell (p := ⟨q + 1, 3, none⟩) (by show R ≤ q + 1; omega) _).setCell (p := ⟨q + 1, 4, none⟩) (by show R ≤ q + 1; omega) _).setCell (p := ⟨q + 1, 5, none⟩) (by show R ≤ q + 1; omega) _

/-- The first document hurt. -/
theorem GY.hurt {w0 W W3 : World} {R n cap q m c gg off B m3 c3 : Nat} {A A3 : Option Addr} {k a b t : Int} {x : ByteArray} {Ad : Nat → Option Addr} {len cp : Nat → Nat} {z : Nat → Nat → Int} {z3 : Nat → Int} {cs : Array Value}
    (h : GY w0 R n cap A q k a b t (some ⟨gg, off, none⟩) m c x W) (hRw : R < w0.heap.size) (hRB : R < B) (hm21 : m ≤ 21) (hl16 : ∀ i, i < m → len i ≤ 16) (hown : OwnQ W B m Ad len cp z) (hm0 : 0 < m) (hRgg : R < gg) (hgB : Blk W gg 67 cs)
    (hcell : ∀ i, i < m → W.cell? ⟨gg, off + i, none⟩ = some (.slice (Ad i) (len i) (cp i))) (hm3 : m3 ≤ 17) (hrow3 : 0 < m3 → ∃ g, A3 = some ⟨g, 0, none⟩ ∧ R < g ∧ Row W3 2 g m3 z3) (hR3 : Rs W3 R A n cap) (hb3 : Below R W W3) (hk3 : KeptO (Value.slice (Ad 0) (len 0) (cp 0)).ownBlock R W W3) :
    GZ w0 R n cap A q k a b t (some ⟨gg, off, none⟩) m c x (W3.setCell ⟨gg, off, none⟩ (.slice A3 m3 c3)) := by
  have h0 := h.lt0
  have hq := own_ne_blk (hown 0 hm0).1 h.cmd (by decide)
  have hq1 := own_ne_blk (hown 0 hm0).1 h.res (by decide)
  have hgne := own_ne_blk (hown 0 hm0).1 hgB (by decide)
  have res3 := (hk3 (q + 1) h.res.lt (by omega) hq1).trans h.res
  have cmd3 := (hk3 q h.cmd.lt (by omega) hq).trans h.cmd
  have gB3 : Blk W3 gg 67 cs := (hk3 gg hgB.lt (by omega) hgne).trans hgB
  have hcs : ∀ i, i < m → cs[off + i]? = some (.slice (Ad i) (len i) (cp i)) := fun i hi => by rw [← hgB.cell]; exact hcell i hi
  have hoff : off < cs.size := by
    have := hcs 0 hm0
    rw [Nat.add_zero] at this
    exact (Array.getElem?_eq_some_iff.1 this).1
  have n1 : q + 1 ≠ gg := h.res.ne_ hgB (by decide)
  have n2 : q ≠ gg := h.cmd.ne_ hgB (by decide)
  refine ⟨Blk.far (p := ⟨gg, off, none⟩) res3 (by show q + 1 ≠ gg; exact n1) _, Blk.far (p := ⟨gg, off, none⟩) cmd3 (by show q ≠ gg; exact n2) _, h0, rs_set hR3 (p := ⟨gg, off, none⟩) (by show R < gg; omega) _, ?_, (h.bel.trans hb3).setCell (p := ⟨gg, off, none⟩) (by show R ≤ gg; omega) _⟩
  refine ⟨updQ Ad 0 A3, updQ len 0 m3, updQ cp 0 c3, updQ z 0 z3, hm21, fun i hi => ?_, fun i hi hl => ?_, fun _ => ⟨gg, off, cs.setIfInBounds off (.slice A3 m3 c3), rfl, gB3.set_ off _, fun i hi => ?_⟩⟩
  · by_cases e : i = 0
    · subst e; rw [updQ_same]; exact hm3
    · rw [updQ_other e]; have := hl16 i hi; omega
  · by_cases e : i = 0
    · subst e
      rw [updQ_same] at hl ⊢
      rw [updQ_same, updQ_same]
      obtain ⟨g, e1, _, cs', hB', hx'⟩ := hrow3 hl
      exact ⟨g, e1, cs', hB'.far (p := ⟨gg, off, none⟩) (by show g ≠ gg; exact hB'.ne_ gB3 (by decide)) _, hx'⟩
    · rw [updQ_other e] at hl ⊢
      rw [updQ_other e, updQ_other e]
      obtain ⟨g', c', hv, hg, cs', hB', hx'⟩ := own_row (hown i hi).1 hl
      injection hv with e1 _ _
      have hne : some g' ≠ (Value.slice (Ad 0) (len 0) (cp 0)).ownBlock := by
        rcases (hown i hi).2 0 (by omega) with h5 | h5
        · rw [h5]; simp
        · intro e2; apply h5; rw [← e2, e1]; rfl
      have hB3 : Blk W3 g' 2 cs' := (hk3 g' hB'.lt (by omega) hne).trans hB'
      exact ⟨g', e1, cs', hB3.far (p := ⟨gg, off, none⟩) (by show g' ≠ gg; exact hB3.ne_ gB3 (by decide)) _, hx'⟩
  · rw [(gB3.set_ off _).cell]
    by_cases e : i = 0
    · subst e
      rw [updQ_same, updQ_same, updQ_same, Nat.add_zero, Array.getElem?_setIfInBounds_self_of_lt hoff]
    · rw [updQ_other e, updQ_other e, updQ_other e, Array.getElem?_setIfInBounds_ne (by omega)]
      exact hcs i hi
end

/-! ### HcB -/
section
set_option linter.unusedVariables false
set_option linter.unusedSimpArgs false
open Go.RowKit Go.Deep
set_option linter.unusedVariables false
set_option linter.unusedSimpArgs false

theorem GY.alloc {w0 W : World} {R n cap q m c : Nat} {A D : Option Addr} {k a b t : Int} {x : ByteArray} (h : GY w0 R n cap A q k a b t D m c x W) (O : Obj) : GY w0 R n cap A q k a b t D m c x (W.alloc O) :=
  ⟨h.res.alloc O, h.cmd.alloc O, h.lt0, h.rs.alloc O, h.dq.alloc O, h.bel.alloc (by have := h.rs.lt; omega) O⟩
abbrev bO (N : Nat) : Obj := .cells (madeCells #[.int .u8 0] N) 5
def zS (N : Nat) : ByteArray := bytesOf (List.replicate N 0)
theorem zS_size (N : Nat) : (zS N).size = N := by unfold zS; rw [bytesOf_size, List.length_replicate]
abbrev sO (u : ByteArray) : Obj := .cells #[.string ⟨#[120]⟩, .string ⟨#[97, 10, 98]⟩, .string u] 9
theorem mkU (N : Nat) (hN : N ≤ 4001) (W : World) : (Instr.makeSlice 22 (.int .i64 (N : Int)) (.int .i64 (N : Int))).run Tryz.prog W = .ok (.slice (some ⟨W.heap.size, 0, none⟩) N N) (W.alloc (bO N)) :=
  run_make_row' (P := Tryz.prog) 22 5 (.int .u8 0) 1 Tryz.underlying22 info_u8 rfl .i64 .i64 N (by omega) (by omega) W
theorem cvU (N : Nat) (hN : N ≤ 4001) (W : World) (g : Nat) (h : Blk W g 5 (madeCells #[.int .u8 0] N)) : (convert 22 9 (.slice (some ⟨g, 0, none⟩) N N)).run Tryz.prog W = .ok (.string (zS N)) W := by
  have hl : (List.replicate N (0 : Nat)).length = N := List.length_replicate
  have e : byteV (List.replicate N 0) = (madeCells #[.int .u8 0] N).toList := by
    rw [toList_madeCells_one]
    unfold byteV
    rw [List.map_replicate]
    rfl
  have hown : W.ownsRow 0 5 1 (.slice (some ⟨g, 0, none⟩) (List.replicate N (0 : Nat)).length N) (List.replicate N (0 : Nat)).length (byteV (List.replicate N 0)) := by
    rw [hl]
    refine ⟨by rw [byteV_len, hl], .inr ⟨g, N, madeCells #[.int .u8 0] N, rfl, Nat.zero_le _, h, Nat.le_refl _, by unfold maxLen; omega, by simp [madeCells], ?_⟩⟩
    rw [e]
    exact List.take_of_length_le (by simp [madeCells])
  have hc := u8_conv (List.replicate N 0) (fun d hd => by rw [List.eq_of_mem_replicate hd]; decide) W 0 g N hown
  rw [hl] at hc
  exact hc
theorem pick3 (u : ByteArray) (hu : u.size ≤ 4001) (i : Nat) (hi : i < 3) : ∃ y : ByteArray, (#[Value.string ⟨#[120]⟩, .string ⟨#[97, 10, 98]⟩, .string u] : Array Value)[i]? = some (.string y) ∧ y.size ≤ 7841 := by
  obtain rfl | rfl | rfl : i = 0 ∨ i = 1 ∨ i = 2 := by omega
  · exact ⟨_, rfl, by decide⟩
  · exact ⟨_, rfl, by decide⟩
  · exact ⟨u, rfl, by omega⟩

set_option maxRecDepth 100000 in
set_option maxHeartbeats 4000000 in
theorem hurtCmd_draw (R n cap : Nat) (A : Option Addr) (k a b t : Int) (D : Option Addr) (m c : Nat) (x : ByteArray) (w : World) (h : Rs w R A n cap) (hdq : DQ w R D m c) (hx : x.size ≤ 7841) :
    Calls Tryz.prog 79 #[.pointer (some ⟨R, 0, none⟩), cmV k a b t D m c x] w (CmdHurt R n cap A w) := by
  have hRw := h.lt
  go_enter Tryz.func79, Tryz.ntmps79
  go_wp2_with fail
  have HG0 : Hid (GY w R n cap A w.heap.size k a b t D m c x ((w.alloc (.cells (cmC k a b t D m c x) 35)).alloc (.cells zC 35))) :=
    ⟨Blk.new2 w _ _ _, (Blk.new w _ _).alloc _, Nat.le_refl _, (h.alloc _).alloc _, (hdq.alloc _).alloc _, ((Below.refl R w).alloc (by omega) _).alloc (by simp; omega) _⟩
  generalize (w.alloc (.cells (cmC k a b t D m c x) 35)).alloc (.cells zC 35) = W0 at HG0 ⊢
  clear hdq h
  refine (below_draw R n cap A 40 _ HG0.out.rs (by omega) (by omega)).mono ?_
  rintro e w1 ⟨y, rfl, hy0, hy1, hR1, hg1⟩
  have HG1 := hid (HG0.out.grown hR1 hg1 hRw)
  clear hR1 hg1 HG0
  generalize w.heap.size = q at HG1 ⊢
  go_upto_block 0 with fail
  go_cut [] (fun wx => ∃ (k a b t : Int) (x : ByteArray), x.size ≤ 7841 ∧ Hid (GZ w R n cap A q k a b t D m c x wx))
  case first =>
    by_cases e0 : y = 0
    · subst e0
      go_wp2_with fail
      refine (offW_draw R n cap A 1 5 _ HG1.out.rs (by omega) (by omega) (by omega) (by omega)).mono ?_
      rintro e w2 ⟨v, rfl, hR2, hg2⟩
      have HG2 := hid (HG1.out.grown hR2 hg2 hRw)
      have c0 := HG2.out.cmd.cell 0
      have f0 := HG2.out.cmd.frozen 0
      have HG3 : Hid (GZ w R n cap A q v a b t D m c x (w2.setCell ⟨q, 0, none⟩ (.int .i64 v))) := HG2.out.gz.set hRw 0 _ rfl
      clear hR2 hg2 HG1
      go_wp2_with fail
      go_meet
      exact ⟨v, a, b, t, x, hx, HG3⟩
    by_cases e1 : y = 1
    · subst e1
      go_wp2_with fail
      refine (offW_draw R n cap A 0 20 _ HG1.out.rs (by omega) (by omega) (by omega) (by omega)).mono ?_
      rintro e w2 ⟨v, rfl, hR2, hg2⟩
      have HG2 := hid (HG1.out.grown hR2 hg2 hRw)
      have c0 := HG2.out.cmd.cell 1
      have f0 := HG2.out.cmd.frozen 1
      have HG3 : Hid (GZ w R n cap A q k v b t D m c x (w2.setCell ⟨q, 1, none⟩ (.int .i64 v))) := HG2.out.gz.set hRw 1 _ rfl
      clear hR2 hg2 HG1
      go_wp2_with fail
      go_meet
      exact ⟨k, v, b, t, x, hx, HG3⟩
    by_cases e2 : y = 2
    · subst e2
      go_wp2_with fail
      refine (offW_draw R n cap A (-100000000000) 100000000000 _ HG1.out.rs (by omega) (by omega) (by omega) (by omega)).mono ?_
      rintro e w2 ⟨v, rfl, hR2, hg2⟩
      have HG2 := hid (HG1.out.grown hR2 hg2 hRw)
      have c0 := HG2.out.cmd.cell 3
      have f0 := HG2.out.cmd.frozen 3
      have HG3 : Hid (GZ w R n cap A q k a b v D m c x (w2.setCell ⟨q, 3, none⟩ (.int .i64 v))) := HG2.out.gz.set hRw 3 _ rfl
      clear hR2 hg2 HG1
      go_wp2_with fail
      go_meet
      exact ⟨k, a, b, v, x, hx, HG3⟩
    by_cases e3 : y = 3
    · subst e3
      have c4 := HG1.out.cmd.cell 4
      by_cases hm0 : 0 < m
      · obtain ⟨B, Ad, len, cp, z, hRB, hBw, hm21, hmc, hl16, hown, hhd⟩ := HG1.out.dq
        obtain ⟨gg, off, cs, hD, hRgg, hgB, hcell⟩ := hhd hm0
        subst hD
        have i1 : (0 : Int) < (m : Int) := by omega
        have c4d : w1.drew.cell? ⟨q, 4, none⟩ = some (.slice (some ⟨gg, off, none⟩) m c) := HG1.out.cmd.cell 4
        have cd : w1.drew.cell? ⟨gg, off, none⟩ = some (.slice (Ad 0) (len 0) (cp 0)) := by have := hcell 0 hm0; rw [Nat.add_zero] at this; exact this
        have HH := hid (hurtDoc_keptO R n cap B A (Ad 0) (len 0) (cp 0) (z 0) w1.drew HG1.out.drew.rs hRB hBw (hl16 0 hm0) (hown 0 hm0).1)
        have HQ : Hid (∀ W3, KeptO (Value.slice (Ad 0) (len 0) (cp 0)).ownBlock R w1.drew W3 → W3.cell? ⟨q, 4, none⟩ = some (.slice (some ⟨gg, off, none⟩) m c) ∧ W3.cell? ⟨gg, off, none⟩ = some (.slice (Ad 0) (len 0) (cp 0)) ∧ W3.frozen? ⟨gg, off, none⟩ = false) := fun W3 hk => by
          have hlt := HG1.out.lt0
          have h1 := hk q HG1.out.cmd.lt (by omega) (own_ne_blk (hown 0 hm0).1 HG1.out.cmd (by decide))
          have h2 := hk gg hgB.lt (by omega) (own_ne_blk (hown 0 hm0).1 hgB (by decide))
          exact ⟨(World.cell?_of_block h1).trans c4d, (World.cell?_of_block h2).trans cd, Blk.frozen (h2.trans hgB) off⟩
        have HF : Hid (∀ (W3 : World) (m3 c3 : Nat) (A3 : Option Addr) (z3 : Nat → Int), m3 ≤ 17 → (0 < m3 → ∃ g, A3 = some ⟨g, 0, none⟩ ∧ R < g ∧ Row W3 2 g m3 z3) → Rs W3 R A n cap → Below R w1.drew W3 → KeptO (Value.slice (Ad 0) (len 0) (cp 0)).ownBlock R w1.drew W3 → GZ w R n cap A q k a b t (some ⟨gg, off, none⟩) m c x (W3.setCell ⟨gg, off, none⟩ (.slice A3 m3 c3))) :=
          fun W3 m3 c3 A3 z3 h1 h2 h3 h4 h5 => HG1.out.drew.hurt hRw hRB hm21 hl16 hown hm0 hRgg hgB hcell h1 h2 h3 h4 h5
        clear hown hl16 hcell hhd hgB hBw
        go_wp2_with fail
        go_region_with
          (go_at_call 106; refine HH.out.mono ?_; rintro e w3 ⟨⟨m3, z3, A3, c3, hm3, rfl, hrow3, hR3, hb3⟩, hk3⟩; obtain ⟨cq3, cg3, fg3⟩ := HQ.out w3 hk3; have HZ := hid (HF.out w3 m3 c3 A3 z3 hm3 hrow3 hR3 hb3 hk3); clear hrow3 hR3 hb3 hk3)
        all_goals
          go_wp2_with fail
          go_meet
          exact ⟨k, a, b, t, x, hx, HZ⟩
      · have i1 : ¬ (0 : Int) < (m : Int) := by omega
        have HG3 := hid HG1.out.gz
        go_wp2_with fail
        go_meet
        exact ⟨k, a, b, t, x, hx, HG3⟩
    by_cases e4 : y = 4
    · subst e4
      have HD1 := hid HG1.out.drew
      have H1 := hid (below_draw R n cap A 3 w1.drew HD1.out.rs (by omega) (by omega))
      have kc0 : ∀ (N : Nat) (W : World), N ≤ 4001 → (convert 22 9 (.slice (some ⟨W.heap.size, 0, none⟩) N N)).run Tryz.prog (W.alloc (bO N)) = .ok (.string (zS N)) (W.alloc (bO N)) := fun N W hN => cvU N hN _ _ (Blk.new W _ _)
      go_wp2_with fail
      go_region_with
        (first
          | (go_at_call 29; refine H1.out.mono ?_; rintro e w2 ⟨v, rfl, hv0, hv1, hR2, hg2⟩; have HG2 := hid (HD1.out.grown hR2 hg2 hRw); obtain ⟨N, hNv, hN⟩ : ∃ N : Nat, 3999 + v = (N : Int) ∧ N ≤ 4001 := ⟨(3999 + v).toNat, by omega, by omega⟩; have hwr : IntKind.i64.wrap (N : Int) = (N : Int) := IntWalk.i64_in _ (by omega); have hmk := mkU N hN; clear hR2 hg2)
          | (go_at_call 29; refine (below_draw R n cap A 3 w2 HG2.out.rs (by omega) (by omega)).mono ?_; rintro e w3 ⟨iI, rfl, hi0, hi1, hR3, hg3⟩; obtain ⟨i, rfl⟩ := Int.eq_ofNat_of_zero_le hi0; have HG3 := hid (HG2.out.grown hR3 hg3 hRw); have kc := cvU N hN (w3.alloc (bO N)) w3.heap.size (Blk.new w3 _ _); obtain ⟨xi, hxi, hxs⟩ := pick3 (zS N) (by rw [zS_size]; exact hN) i (by omega); have cB := ((Blk.new (w3.alloc (bO N)) 9 #[.string ⟨#[120]⟩, .string ⟨#[97, 10, 98]⟩, .string (zS N)]).cell i).trans hxi; rw [World.size_alloc] at cB; have HG4 := hid ((HG3.out.alloc (bO N)).alloc (sO (zS N))); have c5 := HG4.out.cmd.cell 5; have f5 := HG4.out.cmd.frozen 5; have HZ : Hid (GZ w R n cap A q k a b t D m c xi (((w3.alloc (bO N)).alloc (sO (zS N))).setCell ⟨q, 5, none⟩ (.string xi))) := HG4.out.gz.set hRw 5 _ rfl; clear hR3 hg3 hxi)
          | (go_at_call 29; refine (below_draw R n cap A 3 (w2.alloc (bO N)) (HG2.out.rs.alloc _) (by omega) (by omega)).mono ?_; rintro e w3 ⟨iI, rfl, hi0, hi1, hR3, hg3⟩; obtain ⟨i, rfl⟩ := Int.eq_ofNat_of_zero_le hi0; have HG3 := hid ((HG2.out.alloc (bO N)).grown hR3 hg3 hRw); have kc := cvU N hN w3 w2.heap.size ((Blk.new w2 _ _).grown hg3 (by have := HG2.out.rs.lt; intro e; injection e with e; omega)); obtain ⟨xi, hxi, hxs⟩ := pick3 (zS N) (by rw [zS_size]; exact hN) i (by omega); have cB := ((Blk.new w3 9 #[.string ⟨#[120]⟩, .string ⟨#[97, 10, 98]⟩, .string (zS N)]).cell i).trans hxi; have HG4 := hid (HG3.out.alloc (sO (zS N))); have c5 := HG4.out.cmd.cell 5; have f5 := HG4.out.cmd.frozen 5; have HZ : Hid (GZ w R n cap A q k a b t D m c xi ((w3.alloc (sO (zS N))).setCell ⟨q, 5, none⟩ (.string xi))) := HG4.out.gz.set hRw 5 _ rfl; clear hR3 hg3 hxi)
          | (go_at_call 29; refine (below_draw R n cap A 3 ((w2.alloc (bO N)).alloc (sO (zS N))) ((HG2.out.rs.alloc _).alloc _) (by omega) (by omega)).mono ?_; rintro e w3 ⟨iI, rfl, hi0, hi1, hR3, hg3⟩; obtain ⟨i, rfl⟩ := Int.eq_ofNat_of_zero_le hi0; have HG3 := hid (((HG2.out.alloc (bO N)).alloc (sO (zS N))).grown hR3 hg3 hRw); obtain ⟨xi, hxi, hxs⟩ := pick3 (zS N) (by rw [zS_size]; exact hN) i (by omega); have cB := (((Blk.new2 w2 (bO N) 9 #[.string ⟨#[120]⟩, .string ⟨#[97, 10, 98]⟩, .string (zS N)]).grown hg3 (by have := HG2.out.rs.lt; intro e; injection e with e; omega)).cell i).trans hxi; have c5 := HG3.out.cmd.cell 5; have f5 := HG3.out.cmd.frozen 5; have HZ : Hid (GZ w R n cap A q k a b t D m c xi (w3.setCell ⟨q, 5, none⟩ (.string xi))) := HG3.out.gz.set hRw 5 _ rfl; clear hR3 hg3 hxi))
      all_goals
        go_wp2_with fail
        go_meet
        exact ⟨k, a, b, t, xi, hxs, HZ⟩
    have HG3 := hid HG1.out.gz
    go_wp2_with fail
    go_meet
    exact ⟨k, a, b, t, x, hx, HG3⟩
  case rest =>
  clear HG1
  obtain ⟨k, a, b, t, x, hx, hG⟩ := hcut
  obtain ⟨g0, g1, g2, g3, g4, g5⟩ := blk_cells6 hG.out.cmd
  have d0 := hG.out.res.cell 0; have d1 := hG.out.res.cell 1; have d2 := hG.out.res.cell 2; have d3 := hG.out.res.cell 3; have d4 := hG.out.res.cell 4; have d5 := hG.out.res.cell 5
  have r0 := hG.out.res.frozen 0; have r1 := hG.out.res.frozen 1; have r2 := hG.out.res.frozen 2; have r3 := hG.out.res.frozen 3; have r4 := hG.out.res.frozen 4; have r5 := hG.out.res.frozen 5
  go_wp2_with fail
  refine bodyPost_ret (results_cell_row rfl _ _ (q + 1) 35 (cmC k a b t D m c x) (0, 0) _ rfl (set6_blk hG.out.res _ _ _ _ _ _) Tryz.underlying35 rfl size_cmd) rfl ?_
  exact hG.out.fin hRw hx _ _ _ _ _ _
end
end Go.Proofs.YtmkipdhappikhaaGreatDoor
