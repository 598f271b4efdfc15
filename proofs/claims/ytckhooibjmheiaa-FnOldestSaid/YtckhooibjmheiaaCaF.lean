/- The copy of a cache on the other side. -/
import Derived.Test.YtckhooibjmheiaaCaE
namespace Go.Proofs.Ytckhooibjmheiaa
open Go.RowKit Go.Deep

/-- What stands in the midst of l9Copy. -/
def CopyS (w0 : World) (cap clock : Int) (A : Option Addr) (k c : Nat) (A1 : Option Addr) (j c1 : Nat) (s : Nat → Slt) (w : World) : Prop :=
  Blk w w0.heap.size 26 #[.int .i64 cap, .int .i64 clock, .slice A k c] ∧ Blk w (w0.heap.size + 1) 26 #[.int .i64 0, .int .i64 0, .slice none 0 0] ∧ Blk w (w0.heap.size + 2) 26 #[.int .i64 cap, .int .i64 clock, .slice A1 j c1] ∧
  (∃ hv' : Nat → Value, w.ownsRow w0.heap.size 37 3 (.slice A1 j c1) j (slotsC j hv' s) ∧ Boxes w w0.heap.size j hv' s) ∧ Below w0.heap.size w0 w
theorem copyS_next {w0 wr w5 w8 : World} {cap clock : Int} {A A1 A8 : Option Addr} {k c j c1 c8 : Nat} {s : Nat → Slt} {hv' : Nat → Value} {O1 O2 O3 : Obj} {v5 : Value} {cs5 : Array Value}
    (h1 : Blk wr w0.heap.size 26 #[.int .i64 cap, .int .i64 clock, .slice A k c]) (h2 : Blk wr (w0.heap.size + 1) 26 #[.int .i64 0, .int .i64 0, .slice none 0 0]) (h3 : Blk wr (w0.heap.size + 2) 26 #[.int .i64 cap, .int .i64 clock, .slice A1 j c1])
    (hown : wr.ownsRow w0.heap.size 37 3 (.slice A1 j c1) j (slotsC j hv' s)) (hbx : Boxes wr w0.heap.size j hv' s) (hbl : Below w0.heap.size w0 wr)
    (hg5 : ((wr.alloc O1).alloc O2).grownBy w5 (some (wr.heap.size + 1))) (hown5 : w5.ownsRow wr.heap.size 74 3 v5 (s j).n (spansC (s j).n (s j).g))
    (hS5 : Blk w5 wr.heap.size 37 cs5)
    (hown7 : ((w5.setCell ⟨wr.heap.size, 0, none⟩ v5).alloc O3).ownsRow w0.heap.size 37 3 (.slice A1 j c1) j (slotsC j hv' s))
    (hown8 : w8.ownsRow w0.heap.size 37 3 (.slice A8 (j + 1) c8) (j + 1) (slotsC j hv' s ++ [v5, .int .i64 (s j).score, .int .i64 (s j).used]))
    (hg8 : ((w5.setCell ⟨wr.heap.size, 0, none⟩ v5).alloc O3).grownBy w8 (Value.slice A1 j c1).ownBlock) :
    CopyS w0 cap clock A k c A8 (j + 1) c8 s (w8.setCell ⟨w0.heap.size + 2, 2, none⟩ (.slice A8 (j + 1) c8)) := by
  have hs5 : wr.heap.size + 2 ≤ w5.heap.size := by have := hg5.size; simpa using this
  have hK : ∀ b, b < wr.heap.size → some b ≠ (Value.slice A1 j c1).ownBlock → w8.heap[b]? = wr.heap[b]? := fun b hb hne =>
    (hg8.block b (by rw [World.size_alloc, World.size_setCell]; omega) hne).trans ((Below.heap_alloc _ O3 b (by rw [World.size_setCell]; omega)).trans ((Below.heap_setCell _ _ _ b (by show b ≠ wr.heap.size; omega)).trans ((hg5.block b (by simp; omega) (by intro e; injection e with e; omega)).trans ((Below.heap_alloc _ O2 b (by simp; omega)).trans (Below.heap_alloc _ O1 b hb)))))
  have n1 := own_blk_ne hown h1 (by decide)
  have n2 := own_blk_ne hown h2 (by decide)
  have n3 := own_blk_ne hown h3 (by decide)
  have g1 : Blk w8 w0.heap.size 26 _ := (hK _ h1.lt n1).trans h1
  have g2 : Blk w8 (w0.heap.size + 1) 26 _ := (hK _ h2.lt n2).trans h2
  have g3 : Blk w8 (w0.heap.size + 2) 26 _ := (hK _ h3.lt n3).trans h3
  have hF : ∀ {e : TypeId} {v : Value} {m : Nat} {xs : List Value}, e ≠ 26 → w8.ownsRow w0.heap.size e 3 v m xs → (w8.setCell ⟨w0.heap.size + 2, 2, none⟩ (.slice A8 (j + 1) c8)).ownsRow w0.heap.size e 3 v m xs := fun {e v m xs} he ho =>
    own_set ho (p := ⟨w0.heap.size + 2, 2, none⟩) (fun x hx e2 => by
      obtain ⟨_, _, cs', hcs'⟩ := own_ltJ ho x hx
      have e3 : x = w0.heap.size + 2 := e2
      subst e3
      exact hcs'.ne_ g3 he rfl) _
  have hnew : w8.ownsRow w0.heap.size 74 3 v5 (s j).n (spansC (s j).n (s j).g) := own_lessC (own_keepJ hown5 fun g hg hg2 hgo => by
    obtain ⟨_, _, cs', hcs'⟩ := own_ltJ hown5 g hgo
    have hne : g ≠ wr.heap.size := fun e => by subst e; exact hS5.ne_ hcs' (by decide) rfl
    have hb7 : Blk ((w5.setCell ⟨wr.heap.size, 0, none⟩ v5).alloc O3) g 74 cs' := (hcs'.far (p := ⟨wr.heap.size, 0, none⟩) hne v5).alloc O3
    exact (hg8.block g hb7.lt (own_blk_ne hown7 hb7 (by decide))).trans (hb7.trans hcs'.symm)) hbl.size
  refine ⟨g1.far (p := ⟨w0.heap.size + 2, 2, none⟩) (by show w0.heap.size ≠ w0.heap.size + 2; omega) _, g2.far (p := ⟨w0.heap.size + 2, 2, none⟩) (by show w0.heap.size + 1 ≠ w0.heap.size + 2; omega) _, g3.set_ 2 _, ⟨upV hv' j v5, ?_, fun i hi => ?_⟩, ?_⟩
  · have : slotsC (j + 1) (upV hv' j v5) s = slotsC j hv' s ++ [v5, .int .i64 (s j).score, .int .i64 (s j).used] := by
      rw [slotsC_succ]
      congr 1
      · exact slotsC_congr fun i hi => ⟨by unfold upV; rw [if_neg (by omega)], rfl, rfl⟩
      · simp [slC, upV]
    rw [this]
    exact hF (by decide) hown8
  · unfold upV
    by_cases e : i = j
    · subst e
      rw [if_pos rfl]
      refine ⟨hF (by decide) hnew, fun a ha x hx => ?_⟩
      rw [if_neg (by omega)]
      intro e2
      have l1 := (own_ltJ (hbx a ha).1 x e2).2.1
      have l2 := (own_ltJ hown5 x hx).1
      omega
    · rw [if_neg e]
      refine ⟨hF (by decide) (own_keepJ (hbx i (by omega)).1 fun g _ hg2 hgo => ?_), fun a ha x hx => ?_⟩
      · obtain ⟨_, _, cs', hcs'⟩ := own_ltJ (hbx i (by omega)).1 g hgo
        exact hK g hg2 (own_blk_ne hown hcs' (by decide))
      · rw [if_neg (by omega)]
        exact (hbx i (by omega)).2 a ha x hx
  · have l := hbl.size
    have b5 : Below w0.heap.size w0 w5 := ((hbl.alloc l O1).alloc (by simp; omega) O2).grown hg5 (by simp; omega) (fun x hx => by injection hx with hx; omega)
    have b7 := ((b5.setCell (p := ⟨wr.heap.size, 0, none⟩) l v5).alloc (by rw [World.size_setCell]; omega) O3)
    exact (b7.grown hg8 (by rw [World.size_alloc, World.size_setCell]; omega) (fun x hx => (hown7.lt x hx).1)).setCell (p := ⟨w0.heap.size + 2, 2, none⟩) (by show w0.heap.size ≤ w0.heap.size + 2; omega) _

set_option maxRecDepth 100000 in
set_option maxHeartbeats 4000000 in
theorem l9Copy_any (cap clock : Int) (A : Option Addr) (k c : Nat) (s : Nat → Slt) (w : World) (h : RdC w w.heap.size A k s) (hn : k ≤ 4194304) (hlen : Hid (∀ i, i < k → (s i).n ≤ 4194304)) :
    Calls Try.prog 88 #[caV cap clock A k c] w fun e w' => ∃ A' c', e = .returned (caV cap clock A' k c') ∧ OwC w' w.heap.size A' k c' s ∧ Below w.heap.size w w' := by
  obtain ⟨i0, hi0, hz0, hz1, hz2⟩ := info_parts info_span
  obtain ⟨j0, hj0, jz0, jz1, jz2⟩ := info_parts info_slot
  have hM : Hid (CopyS w cap clock A k c none 0 0 s (((w.alloc (.cells #[.int .i64 cap, .int .i64 clock, .slice A k c] 26)).alloc (.cells #[.int .i64 0, .int .i64 0, .slice none 0 0] 26)).alloc (.cells #[.int .i64 cap, .int .i64 clock, .slice none 0 0] 26))) :=
    ⟨((Blk.new w _ _).alloc _).alloc _, (Blk.new2 w _ _ _).alloc _, Blk.new3 w _ _ _ _, ⟨fun _ => .slice none 0 0, World.ownsRow_nil _ _ _ _, fun i hi => by omega⟩, (((Below.refl _ _).alloc (Nat.le_refl _) _).alloc (by simp) _).alloc (by simp; omega) _⟩
  go_enter Try.func88, Try.ntmps88
  go_wp2_with fail
  go_loopw [4] (fun i wr => ∃ (j : Nat) (A1 : Option Addr) (c1 : Nat), j ≤ k ∧ i = .int .i64 j ∧ Hid (CopyS w cap clock A k c A1 j c1 s wr)) (fun i _ => k - (intOf i).toNat)
  case atStart => exact ⟨0, none, 0, Nat.zero_le _, rfl, hM⟩
  case round =>
    clear hM
    obtain ⟨j, A1, c1, hj, rfl, hM⟩ := hrel
    obtain ⟨m1, m2, m3, ⟨hv', mrow, mbx⟩, mbl⟩ := id hM.out
    have x2 : wr.cell? ⟨w.heap.size, 2, none⟩ = some (.slice A k c) := m1.cell 2
    by_cases hlt : j < k
    · obtain ⟨bb, off, Ai, ci, rfl, hbb, c0, c1', c2', hrd⟩ := (h.below mbl).at_ hlt
      have hl : (j : Int) < (k : Int) := by omega
      have hl0 : (0 : Int) ≤ (j : Int) := by omega
      have hlk := hlen.out j hlt
      have hbA := ((Below.refl wr.heap.size wr).alloc (Nat.le_refl _) (.cells #[.slice Ai (s j).n ci, .int .i64 (s j).score, .int .i64 (s j).used] 37)).alloc (by simp) (.cells #[] 74)
      have HSRC := hid (spans_src ((hrd.more mbl.size).below hbA))
      have hSB := (Blk.new wr 37 #[.slice Ai (s j).n ci, .int .i64 (s j).score, .int .i64 (s j).used]).alloc (.cells #[] 74)
      have M1 := hid m1
      have M2 := hid m2
      have M3 := hid m3
      have MROW := hid mrow
      have MBX := hid mbx
      have MBL := hid mbl
      have hsz := mbl.size
      clear m1 m2 m3 mrow mbx mbl hM hrd hbA
      go_wp2_with (at_builtin; refine wpList_append_mayJ rfl (.tmp 23) (.tmp 25) 35 rfl wr.heap.size 74 i0 (spV ⟨0, 0, false⟩) 3 24 Try.underlying35 hi0 hz0 hz1 hz2 rfl (by decide) (.slice (some ⟨wr.heap.size + 1, 0, none⟩) 0 0) 0 [] (by simp [Act.eval]) (by have := World.ownsRow_made (base := wr.heap.size) (e := 74) (size := 3) (wr.alloc (.cells #[.slice Ai (s j).n ci, .int .i64 (s j).score, .int .i64 (s j).used] 37)) #[] 0 (by simp) (by unfold maxLen; omega) rfl; rw [World.size_alloc] at this; exact this) Ai (s j).n ci (spansC (s j).n (s j).g) rfl (spansC_len _ _) (fun h0 => by obtain ⟨b, off, e, _, hc⟩ := HSRC.out h0; exact ⟨b, off, e, hc⟩) (spans_one _ _) (by unfold maxLen; omega) (by omega) (by simp; omega) ?_)
      intro v5 w5 hown5 hg5
      obtain ⟨A5, c5, rfl⟩ := own_form hown5
      have hg5' : ((wr.alloc (.cells #[.slice Ai (s j).n ci, .int .i64 (s j).score, .int .i64 (s j).used] 37)).alloc (.cells #[] 74)).grownBy w5 (some (wr.heap.size + 1)) := hg5
      have hS5 : Blk w5 wr.heap.size 37 #[.slice Ai (s j).n ci, .int .i64 (s j).score, .int .i64 (s j).used] := hSB.grown hg5' (by intro e; injection e with e; omega)
      have hO5 : Blk w5 (w.heap.size + 2) 26 #[.int .i64 cap, .int .i64 clock, .slice A1 j c1] := ((M3.out.alloc _).alloc _).grown hg5' (by intro e; injection e with e; have := M3.out.lt; omega)
      have hob : w.heap.size + 2 < wr.heap.size := M3.out.lt
      have hne1 : ¬ w.heap.size + 2 = wr.heap.size := by omega
      have hne2 : ¬ wr.heap.size = w.heap.size + 2 := by omega
      have s5 : wr.heap.size + 2 ≤ w5.heap.size := by have := hg5'.size; simpa using this
      have hrow5 : Hid ((w5.setCell ⟨wr.heap.size, 0, none⟩ (.slice A5 (s j).n c5)).ownsRow w.heap.size 37 3 (.slice A1 j c1) j (slotsC j hv' s)) :=
        own_set (own_keepJ MROW.out fun g _ hg2 _ => (hg5'.block g (by simp; omega) (by intro e; injection e with e; omega)).trans ((Below.heap_alloc _ _ g (by simp; omega)).trans (Below.heap_alloc _ _ g hg2))) (p := ⟨wr.heap.size, 0, none⟩) (fun x hx e => by
          have := (own_ltJ MROW.out x hx).2.1
          have e' : x = wr.heap.size := e
          omega) _
      have HS5 := hid hS5
      have HO5 := hid hO5
      have HG5 := hid hg5'
      have HOWN5 := hid hown5
      have t0 : w5.cell? ⟨wr.heap.size, 0, none⟩ = some (.slice Ai (s j).n ci) := hS5.cell 0
      have t1 : w5.frozen? ⟨wr.heap.size, 0, none⟩ = false := hS5.frozen 0
      clear hg5 hg5' hown5 hS5 hO5 hSB HSRC c0 c1' c2' x2
      have hS6 : Blk (w5.setCell ⟨wr.heap.size, 0, none⟩ (.slice A5 (s j).n c5)) wr.heap.size 37 #[.slice A5 (s j).n c5, .int .i64 (s j).score, .int .i64 (s j).used] := HS5.out.set_ 0 _
      have hO6 : Blk (w5.setCell ⟨wr.heap.size, 0, none⟩ (.slice A5 (s j).n c5)) (w.heap.size + 2) 26 #[.int .i64 cap, .int .i64 clock, .slice A1 j c1] := HO5.out.far (p := ⟨wr.heap.size, 0, none⟩) hne1 _
      have b0 : (w5.setCell ⟨wr.heap.size, 0, none⟩ (.slice A5 (s j).n c5)).cell? ⟨wr.heap.size, 0, none⟩ = some (.slice A5 (s j).n c5) := hS6.cell 0
      have b1 : (w5.setCell ⟨wr.heap.size, 0, none⟩ (.slice A5 (s j).n c5)).cell? ⟨wr.heap.size, 1, none⟩ = some (.int .i64 (s j).score) := hS6.cell 1
      have b2 : (w5.setCell ⟨wr.heap.size, 0, none⟩ (.slice A5 (s j).n c5)).cell? ⟨wr.heap.size, 2, none⟩ = some (.int .i64 (s j).used) := hS6.cell 2
      have b3 : (w5.setCell ⟨wr.heap.size, 0, none⟩ (.slice A5 (s j).n c5)).cell? ⟨w.heap.size + 2, 2, none⟩ = some (.slice A1 j c1) := hO6.cell 2
      have hs6 : (w5.setCell ⟨wr.heap.size, 0, none⟩ (.slice A5 (s j).n c5)).heap.size = w5.heap.size := World.size_setCell _ _ _
      have hN7 : ∀ p u, [.slice A5 (s j).n c5, .int .i64 (s j).score, .int .i64 (s j).used][p]? = some u → ((w5.setCell ⟨wr.heap.size, 0, none⟩ (.slice A5 (s j).n c5)).alloc (.cells #[.slice A5 (s j).n c5, .int .i64 (s j).score, .int .i64 (s j).used] 37)).cell? ⟨w5.heap.size, p, none⟩ = some u := fun p u hu => by
        have := (Blk.new (w5.setCell ⟨wr.heap.size, 0, none⟩ (.slice A5 (s j).n c5)) 37 #[.slice A5 (s j).n c5, .int .i64 (s j).score, .int .i64 (s j).used]).cell p
        rw [hs6] at this
        rw [this, ← hu]; simp
      have HN7 := hid hN7
      clear hN7 hS6 hO6
      go_wp2_with (at_builtin; refine wpList_append_own _ rfl (.tmp 29) (.tmp 31) 24 rfl w.heap.size 37 j0 (.agg #[.slice none 0 0, .int .i64 0, .int .i64 0]) 3 40 Try.underlying24 hj0 jz0 jz1 jz2 rfl (by decide) (.slice A1 j c1) j _ rfl (hrow5.out.alloc _) ⟨w5.heap.size, 0, none⟩ 1 1 [.slice A5 (s j).n c5, .int .i64 (s j).score, .int .i64 (s j).used] (by simp [Act.eval]) rfl (fun p u hu => by simpa [Addr.add_lit] using HN7.out p u hu) (by intro u hu; simp only [List.mem_cons, List.not_mem_nil, or_false] at hu; rcases hu with rfl | rfl | rfl <;> rfl) (by unfold maxLen; omega) (by omega) (by simp; omega) ?_)
      intro v8 w8 hown8 hg8 _
      obtain ⟨A8, c8, rfl⟩ := own_form hown8
      have hrow7 : World.ownsRow ((w5.setCell ⟨wr.heap.size, 0, none⟩ (.slice A5 (s j).n c5)).alloc (.cells #[.slice A5 (s j).n c5, .int .i64 (s j).score, .int .i64 (s j).used] 37)) w.heap.size 37 3 (.slice A1 j c1) j (slotsC j hv' s) := hrow5.out.alloc _
      have hO7 : Blk ((w5.setCell ⟨wr.heap.size, 0, none⟩ (.slice A5 (s j).n c5)).alloc (.cells #[.slice A5 (s j).n c5, .int .i64 (s j).score, .int .i64 (s j).used] 37)) (w.heap.size + 2) 26 #[.int .i64 cap, .int .i64 clock, .slice A1 j c1] := (HO5.out.far (p := ⟨wr.heap.size, 0, none⟩) hne1 _).alloc _
      have hO8 : Blk w8 (w.heap.size + 2) 26 #[.int .i64 cap, .int .i64 clock, .slice A1 j c1] := hO7.grown hg8 (own_blk_ne hrow7 hO7 (by decide))
      have d2 : w8.cell? ⟨w.heap.size + 2, 2, none⟩ = some (.slice A1 j c1) := hO8.cell 2
      have d3 : w8.frozen? ⟨w.heap.size + 2, 2, none⟩ = false := hO8.frozen 2
      have HN := hid (copyS_next M1.out M2.out M3.out MROW.out MBX.out MBL.out HG5.out HOWN5.out HS5.out hrow7 hown8 hg8)
      clear hO7 hO8 hrow7 hown8 hg8 hrow5 HS5 HO5 HG5 HOWN5 b0 b1 b2 b3 hs6 HN7 t0 t1 s5 M1 M2 M3 MROW MBX MBL
      go_wp2_with fail
      go_roundw
      case rel => exact ⟨j + 1, A8, c8, by omega, by go_num, HN⟩
      case measure => simp [intOf]; omega
    · obtain rfl : j = k := by omega
      obtain ⟨o0, o1, o2, f0, f1, f2⟩ := blk_cells3 m3
      obtain ⟨r0, r1, r2, g0, g1, g2⟩ := blk_cells3 m2
      have HX := hid (show OwC wr w.heap.size A1 j c1 s from ⟨hv', mrow, mbx⟩)
      have M2 := hid m2
      have MB := hid mbl
      clear mrow mbx mbl m1 m2 m3 hM
      go_wp2_with fail
      refine bodyPost_ret (results_cell_row rfl _ _ (w.heap.size + 1) 26 #[.int .i64 cap, .int .i64 clock, .slice A1 j c1] (0, 0) _ rfl (((M2.out.set_ 0 (.int .i64 cap)).set_ 1 (.int .i64 clock)).set_ 2 (.slice A1 j c1)) Try.underlying26 rfl size_cache) rfl ?_
      refine ⟨A1, c1, rfl, OwC.keepE HX.out M2.out (.int .i64 cap) (.int .i64 clock) (.slice A1 j c1), ?_⟩
      exact ((MB.out.setCell (p := ⟨w.heap.size + 1, 0, none⟩) (by simp) _).setCell (p := ⟨w.heap.size + 1, 1, none⟩) (by simp) _).setCell (p := ⟨w.heap.size + 1, 2, none⟩) (by simp) _
end Go.Proofs.Ytckhooibjmheiaa
