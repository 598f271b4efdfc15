/- Copies of caches, on both sides: the walks. -/
import Derived.Test.YtckhooibjmheiaaCaD
namespace Go.Proofs.Ytckhooibjmheiaa
open Go.RowKit Go.Deep

theorem own_lessC {w : World} {B B2 : Nat} {e : TypeId} {size : Nat} {v : Value} {n : Nat} {xs : List Value} (h : w.ownsRow B2 e size v n xs) (hB : B ≤ B2) : w.ownsRow B e size v n xs := ⟨h.1, by
  rcases h.2 with h0 | ⟨g, cap, cur, e1, e2, rest⟩
  · exact .inl h0
  · exact .inr ⟨g, cap, cur, e1, by omega, rest⟩⟩
theorem SrcC.below {w w' : World} {A : Option Addr} {k : Nat} {hv : Nat → Value} {s : Nat → Slt} (h : SrcC w A k hv s) (hb : Below w.heap.size w w') : SrcC w' A k hv s :=
  ⟨fun h0 => by
    obtain ⟨b, off, e, hlt, hc⟩ := h.1 h0
    exact ⟨b, off, e, Nat.lt_of_lt_of_le hlt hb.size, fun j u hu => (hb.cell (p := ⟨b, off + j, none⟩) hlt).trans (hc j u hu)⟩,
  fun i hi => by
    obtain ⟨Ai, ci, e, hr⟩ := h.2 i hi
    exact ⟨Ai, ci, e, hr.to hb hb.size⟩⟩
/-- What stands in the midst of copied. -/
def CopyC (w0 : World) (cap clock : Int) (A1 : Option Addr) (k c1 : Nat) (hv : Nat → Value) (s : Nat → Slt) (j : Nat) (w : World) : Prop :=
  Blk w w0.heap.size 26 #[.int .i64 cap, .int .i64 clock, .slice A1 k c1] ∧ Blk w (w0.heap.size + 1) 26 #[.int .i64 0, .int .i64 0, .slice none 0 0] ∧
  (∃ hv' : Nat → Value, w.ownsRow w0.heap.size 37 3 (.slice A1 k c1) k (slotsC k hv' s) ∧ (∀ i, j ≤ i → hv' i = hv i) ∧ Boxes w w0.heap.size j hv' s) ∧ Below w0.heap.size w0 w
section
variable {w0 w w4 : World} {cap clock : Int} {A1 : Option Addr} {k c1 j gb : Nat} {hv : Nat → Value} {s : Nat → Slt}
theorem CopyC.below {w' : World} (h : CopyC w0 cap clock A1 k c1 hv s j w) (hb : Below w.heap.size w w') : CopyC w0 cap clock A1 k c1 hv s j w' := by
  obtain ⟨h1, h2, ⟨hv', a, b, c⟩, h4⟩ := h
  exact ⟨h1.below hb h1.lt, h2.below hb h2.lt, ⟨hv', own_below a hb, b, c.below hb⟩, h4.trans (hb.mono h4.size)⟩
theorem CopyC.next (h : CopyC w0 cap clock (some ⟨gb, 0, none⟩) k c1 hv s j w) (hj : j < k) {A' : Option Addr} {c' : Nat} (hb : Below w.heap.size w w4) (hown : w4.ownsRow w.heap.size 74 3 (.slice A' (s j).n c') (s j).n (spansC (s j).n (s j).g)) :
    CopyC w0 cap clock (some ⟨gb, 0, none⟩) k c1 hv s (j + 1) (w4.setCell ⟨gb, j * 3, none⟩ (.slice A' (s j).n c')) := by
  obtain ⟨g1, g2, ⟨hv', grow, hre, gbx⟩, gbl⟩ := h
  have hsz := gbl.size
  have h1 := g1.below hb g1.lt
  have h2 := g2.below hb g2.lt
  have hrow := own_below grow hb
  have hbx := gbx.below hb
  have hbl := gbl.trans (hb.mono gbl.size)
  obtain ⟨b, cs, e, hL, hB, _, _⟩ := own_slots hrow (by omega)
  injection e with e
  injection e with e
  subst e
  have hst := hrow.stored (j * 3) (.slice A' (s j).n c')
  rw [slotsC_setH hv' s hj] at hst
  have hown' := own_lessC hown hsz
  refine ⟨h1.grown hst.2 (by intro e; injection e with e; exact h1.ne_ hB (by decide) e), h2.grown hst.2 (by intro e; injection e with e; exact h2.ne_ hB (by decide) e), ⟨upV hv' j (.slice A' (s j).n c'), hst.1, fun i hi => by unfold upV; rw [if_neg (by omega)]; exact hre i (by omega), fun i hi => ?_⟩, hbl.setCell (p := ⟨gb, j * 3, none⟩) hL _⟩
  have keep : ∀ {v : Value} {m : Nat} {xs : List Value}, w4.ownsRow w0.heap.size 74 3 v m xs → (w4.setCell ⟨gb, j * 3, none⟩ (.slice A' (s j).n c')).ownsRow w0.heap.size 74 3 v m xs := fun {v m xs} ho =>
    own_keepJ ho fun x hx _ hxo => by
      obtain ⟨_, _, cs', hcs'⟩ := own_ltJ ho x hxo
      exact hst.2.block x hcs'.lt fun e => by
        injection e with e
        exact hB.ne_ hcs' (by decide) e.symm
  unfold upV
  by_cases e : i = j
  · subst e
    rw [if_pos rfl]
    refine ⟨keep hown', fun a ha x hx => ?_⟩
    rw [if_neg (by omega)]
    intro e2
    have l1 := (own_ltJ (gbx a ha).1 x e2).2.1
    have l2 := (own_ltJ hown x hx).1
    omega
  · rw [if_neg e]
    refine ⟨keep (hbx i (by omega)).1, fun a ha x hx => ?_⟩
    rw [if_neg (by omega)]
    exact (hbx i (by omega)).2 a ha x hx
end

/-- The three cells of a cache's box are set: slots of one's own stay. -/
theorem OwC.keepE {w : World} {L k c e : Nat} {A : Option Addr} {s : Nat → Slt} {cs : Array Value} (h : OwC w L A k c s) (hE : Blk w e 26 cs) (x y z : Value) :
    OwC (((w.setCell ⟨e, 0, none⟩ x).setCell ⟨e, 1, none⟩ y).setCell ⟨e, 2, none⟩ z) L A k c s := by
  obtain ⟨hv, h1, h2⟩ := h
  have hk : ∀ b, b ≠ e → (((w.setCell ⟨e, 0, none⟩ x).setCell ⟨e, 1, none⟩ y).setCell ⟨e, 2, none⟩ z).heap[b]? = w.heap[b]? := fun b hb =>
    (Below.heap_setCell _ _ _ b hb).trans ((Below.heap_setCell _ _ _ b hb).trans (Below.heap_setCell _ _ _ b hb))
  refine ⟨hv, own_keepJ h1 fun g _ _ hg => hk g fun e => ?_, h2.keep fun b cs' _ hb => hk b fun e => ?_⟩
  · subst e
    obtain ⟨_, _, cs', hcs'⟩ := own_ltJ h1 g hg
    exact hE.ne_ hcs' (by decide) rfl
  · subst e
    exact hE.ne_ hb (by decide) rfl

set_option maxRecDepth 100000 in
set_option maxHeartbeats 4000000 in
theorem copied_any (cap clock : Int) (A : Option Addr) (k c : Nat) (s : Nat → Slt) (w : World) (h : RdC w w.heap.size A k s) (hn : k ≤ 4194304) (hlen : Hid (∀ i, i < k → (s i).n ≤ 4194304)) :
    Calls Try.prog 84 #[caV cap clock A k c] w fun e w' => ∃ A' c', e = .returned (caV cap clock A' k c') ∧ OwC w' w.heap.size A' k c' s ∧ Below w.heap.size w w' := by
  obtain ⟨hv, hs⟩ := h.src
  have hb2 := ((Below.refl w.heap.size w).alloc (Nat.le_refl _) (.cells #[.int .i64 cap, .int .i64 clock, .slice A k c] 26)).alloc (by simp) (.cells #[.int .i64 0, .int .i64 0, .slice none 0 0] 26)
  have hs2 := hs.below hb2
  have HSV := hid hs.2
  have hE2 := (Blk.new w 26 #[.int .i64 cap, .int .i64 clock, .slice A k c]).alloc (.cells #[.int .i64 0, .int .i64 0, .slice none 0 0] 26)
  have hZ2 := Blk.new2 w (.cells #[.int .i64 cap, .int .i64 clock, .slice A k c] 26) 26 #[.int .i64 0, .int .i64 0, .slice none 0 0]
  have hsz2 : ((w.alloc (.cells #[.int .i64 cap, .int .i64 clock, .slice A k c] 26)).alloc (.cells #[.int .i64 0, .int .i64 0, .slice none 0 0] 26)).heap.size = w.heap.size + 2 := by simp
  clear hs h
  go_enter Try.func84, Try.ntmps84
  go_wp2_with fail
  refine (cloneC_any A k c hv s _ hs2 hn).mono ?_
  rintro e w3 ⟨A1, c1, rfl, hown3, hb3⟩
  have hE3 := hE2.below hb3 hE2.lt
  have hZ3 := hZ2.below hb3 hZ2.lt
  have hw3 := hb2.trans (hb3.mono hb2.size)
  have hM : Hid (CopyC w cap clock A1 k c1 hv s 0 (w3.setCell ⟨w.heap.size, 2, none⟩ (.slice A1 k c1))) := by
    refine ⟨hE3.set_ 2 _, hZ3.far (p := ⟨w.heap.size, 2, none⟩) (by simp) _, ⟨hv, ?_, fun _ _ => rfl, fun i hi => by omega⟩, hw3.setCell (p := ⟨w.heap.size, 2, none⟩) (Nat.le_refl _) _⟩
    exact own_set (own_lessC hown3 (by omega)) (p := ⟨w.heap.size, 2, none⟩) (fun x hx e => by
      obtain ⟨_, _, cs', hcs'⟩ := own_ltJ hown3 x hx
      exact hE3.ne_ hcs' (by decide) e.symm) _
  have c2 : w3.cell? ⟨w.heap.size, 2, none⟩ = some (.slice A k c) := hE3.cell 2
  have f2 := hE3.frozen 2
  clear hE2 hZ2 hs2 hb2 hb3 hE3 hZ3 hw3 hown3 hsz2
  go_wp2_with fail
  clear c2 f2
  go_loopw [12] (fun i wr => ∃ j : Nat, j ≤ k ∧ i = .int .i64 j ∧ Hid (CopyC w cap clock A1 k c1 hv s j wr)) (fun i _ => k - (intOf i).toNat)
  case atStart => exact ⟨0, Nat.zero_le _, rfl, hM⟩
  case round =>
    clear hM
    obtain ⟨j, hj, rfl, hM⟩ := hrel
    obtain ⟨m1, m2, ⟨hv', mrow, mre, mbx⟩, mbl⟩ := id hM.out
    by_cases hlt : j < k
    · obtain ⟨gb, cs, rfl, hL, hB, _, hc⟩ := own_slots mrow (by omega)
      obtain ⟨c0, c1', c2'⟩ := hc j hlt
      obtain ⟨Ai, ci, e, hrd⟩ := HSV.out j hlt
      rw [mre j (Nat.le_refl _), e] at c0
      have hrd' := hrd.to mbl mbl.size
      have hl : (j : Int) < (k : Int) := by omega
      have hl0 : (0 : Int) ≤ (j : Int) := by omega
      have hlk := hlen.out j hlt
      have x2 : wr.cell? ⟨w.heap.size, 2, none⟩ = some (.slice (some ⟨gb, 0, none⟩) k c1) := m1.cell 2
      have hbx := (Below.refl wr.heap.size wr).alloc (Nat.le_refl _) (.cells #[.slice Ai (s j).n ci, .int .i64 (s j).score, .int .i64 (s j).used] 37)
      have hMA := hid (hM.out.below hbx)
      have hrdA := hrd'.to hbx hbx.size
      have hS := Blk.new wr 37 #[.slice Ai (s j).n ci, .int .i64 (s j).score, .int .i64 (s j).used]
      have hszA : (wr.alloc (.cells #[.slice Ai (s j).n ci, .int .i64 (s j).score, .int .i64 (s j).used] 37)).heap.size = wr.heap.size + 1 := by simp
      have hBA := hB.alloc (.cells #[.slice Ai (s j).n ci, .int .i64 (s j).score, .int .i64 (s j).used] 37)
      have hEA := m1.alloc (.cells #[.slice Ai (s j).n ci, .int .i64 (s j).score, .int .i64 (s j).used] 37)
      have y0 : (wr.alloc (.cells #[.slice Ai (s j).n ci, .int .i64 (s j).score, .int .i64 (s j).used] 37)).cell? ⟨gb, j * 3, none⟩ = some (.slice Ai (s j).n ci) := (hbx.cell (p := ⟨gb, j * 3, none⟩) hB.lt).trans c0
      clear hc mrow mre mbx mbl m2 hrd hrd' hM e hbx m1 hB
      go_wp2_with fail
      obtain ⟨nb, hnb⟩ : ∃ nb, wr.heap.size = nb := ⟨_, rfl⟩
      rw [hnb] at hS hszA ⊢
      clear hnb c0 c1' c2' x2
      generalize wr.alloc (.cells #[.slice Ai (s j).n ci, .int .i64 (s j).score, .int .i64 (s j).used] 37) = wA at *
      have s0 : wA.drew.cell? ⟨nb, 0, none⟩ = some (.slice Ai (s j).n ci) := hS.cell 0
      have x2 : wA.drew.cell? ⟨w.heap.size, 2, none⟩ = some (.slice (some ⟨gb, 0, none⟩) k c1) := hEA.cell 2
      have hrdD : RdS wA.drew wA.drew.heap.size Ai (s j).n (s j).g := hrdA
      have hED : Blk wA.drew w.heap.size 26 #[.int .i64 cap, .int .i64 clock, .slice (some ⟨gb, 0, none⟩) k c1] := hEA
      have hBD : Blk wA.drew gb 37 cs := hBA
      have yD : wA.drew.cell? ⟨gb, j * 3, none⟩ = some (.slice Ai (s j).n ci) := y0
      have hMD := hid (hMA.out.below (Below.refl _ wA).drew)
      clear hEA hBA hMA hrdA hS y0
      go_region_law
        (first
          | (go_simp; go_at_call 97; refine (cloneS_any Ai (s j).n ci (s j).g wA.drew hrdD hlk).mono ?_; rintro e w4 ⟨A4, c4, rfl, hown4, hb4⟩; have x4 : w4.cell? ⟨w.heap.size, 2, none⟩ = some (.slice (some ⟨gb, 0, none⟩) k c1) := (hED.below hb4 hED.lt).cell 2; have hB4 := hBD.below hb4 hBD.lt; have f4 := hB4.frozen (j * 3); have y4 := (hb4.cell (p := ⟨gb, j * 3, none⟩) hBD.lt).trans yD))
      all_goals
        have HN := hid (hMD.out.next hlt hb4 hown4)
        clear hMD hED hBD hb4 hown4 x4 hB4 f4 y4 yD x2 s0 hrdD hszA
        go_wp2_with fail
        go_roundw
        case rel => exact ⟨j + 1, by omega, by go_num, HN⟩
        case measure => simp [intOf]; omega
    · obtain rfl : j = k := by omega
      obtain ⟨o0, o1, o2, f0, f1, f2⟩ := blk_cells3 m1
      obtain ⟨r0, r1, r2, g0, g1, g2⟩ := blk_cells3 m2
      have HX := hid (show ∃ hv' : Nat → Value, wr.ownsRow w.heap.size 37 3 (.slice A1 j c1) j (slotsC j hv' s) ∧ Boxes wr w.heap.size j hv' s from ⟨hv', mrow, mbx⟩)
      have M1 := hid m1
      have M2 := hid m2
      have MB := hid mbl
      clear mrow mre mbx mbl m1 m2 hM
      go_wp2_with fail
      refine bodyPost_ret (results_cell_row rfl _ _ (w.heap.size + 1) 26 #[.int .i64 cap, .int .i64 clock, .slice A1 j c1] (0, 0) _ rfl (((M2.out.set_ 0 (.int .i64 cap)).set_ 1 (.int .i64 clock)).set_ 2 (.slice A1 j c1)) Try.underlying26 rfl size_cache) rfl ?_
      refine ⟨A1, c1, rfl, OwC.keepE HX.out M2.out (.int .i64 cap) (.int .i64 clock) (.slice A1 j c1), ?_⟩
      exact ((MB.out.setCell (p := ⟨w.heap.size + 1, 0, none⟩) (by simp) _).setCell (p := ⟨w.heap.size + 1, 1, none⟩) (by simp) _).setCell (p := ⟨w.heap.size + 1, 2, none⟩) (by simp) _
end Go.Proofs.Ytckhooibjmheiaa
