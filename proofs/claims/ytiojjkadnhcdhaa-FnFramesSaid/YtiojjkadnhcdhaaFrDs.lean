/- Strings drawn by a code. -/
import Derived.Test.YtiojjkadnhcdhaaFrDr
namespace Go.Proofs.Ytiojjkadnhcdhaa
open Go.RowKit Go.Deep

theorem below_any (R n cap : Nat) (A : Option Addr) (m : Int) (w : World) (h : Rs w R A n cap) (hm : m ≤ 256) :
    Calls Try.prog 18 #[.pointer (some ⟨R, 0, none⟩), .int .i64 m] w fun e w' =>
      ∃ x : Nat, e = .returned (.int .i64 (x : Int)) ∧ (0 < m → (x : Int) < m) ∧ Rs w' R A n cap ∧ w.grownBy w' (some R) := by
  by_cases hm1 : 1 < m
  · refine (below_draw R n cap A m w h hm1 hm).mono ?_
    rintro e w1 ⟨x, rfl, h0, h1, hR, hg⟩
    obtain ⟨x, rfl⟩ := Int.eq_ofNat_of_zero_le h0
    exact ⟨x, rfl, fun _ => h1, hR, hg⟩
  · go_enter Try.func18, Try.ntmps18
    go_wp2_with fail
    go_ret
    exact ⟨0, rfl, fun h => h, h, World.grownBy.refl w _⟩

/-- A string of at most m bytes is drawn. -/
def DrawnS (R n cap : Nat) (A : Option Addr) (m : Nat) (w : World) (e : Ending) (w' : World) : Prop :=
  ∃ s : ByteArray, e = .returned (.string s) ∧ s.size ≤ m ∧ Rs w' R A n cap ∧ w.grownBy w' (some R)

set_option maxHeartbeats 1000000 in
theorem text_draw (R n cap : Nat) (A : Option Addr) (w : World) (h : Rs w R A n cap) :
    Calls Try.prog 19 #[.pointer (some ⟨R, 0, none⟩)] w (DrawnS R n cap A 3 w) := by
  have hRw := h.lt
  go_enter Try.func19, Try.ntmps19
  go_wp2_with fail
  refine (below_any R n cap A 5 _ (h.alloc _) (by omega)).mono ?_
  rintro e w2 ⟨k, rfl, hk1, hR2, hg2⟩
  have hk := hk1 (by omega)
  have hB := Blk.grown (Blk.new w _ _) hg2 (by simp; omega)
  have c0 := hB.cell 0; have c1 := hB.cell 1; have c2 := hB.cell 2; have c3 := hB.cell 3; have c4 := hB.cell 4
  simp at c0 c1 c2 c3 c4
  have hgg := grown_trans (World.grownBy_alloc w _ (some R)) hg2
  have hGG := hid hgg
  clear hB hg2 hgg hk1
  obtain rfl | rfl | rfl | rfl | rfl : k = 0 ∨ k = 1 ∨ k = 2 ∨ k = 3 ∨ k = 4 := by omega
  all_goals
    go_wp2_with fail
    go_ret
    exact ⟨_, rfl, by decide, hR2, hGG.out⟩

theorem bytesOf_size (l : List Nat) : (bytesOf l).size = l.length := by
  show ((l.map UInt8.ofNat).toArray).size = _
  simp
def byteV (l : List Nat) : List Value := l.map fun (d : Nat) => Value.int .u8 (d : Int)
theorem byteV_len (l : List Nat) : (byteV l).length = l.length * 1 := by simp [byteV]
theorem byteV_snoc (l : List Nat) (x : Nat) : byteV (l ++ [x]) = byteV l ++ [.int .u8 (x : Int)] := by simp [byteV]
theorem info_u8 : (Try.prog.info? 5).map (fun i => (i.zero, i.size, i.bytes)) = some (some (.int .u8 0), 1, 1) := by kernel_rfl
theorem u8_conv (l : List Nat) (hl : ∀ d ∈ l, d < 256) (W : World) (base g c : Nat) (h : W.ownsRow base 5 1 (.slice (some ⟨g, 0, none⟩) l.length c) l.length (byteV l)) :
    (convert 22 9 (.slice (some ⟨g, 0, none⟩) l.length c)).run Try.prog W = .ok (.string (bytesOf l)) W := by
  have hr := run_convert_bytes_back W 22 9 5 ⟨g, 0, none⟩ c (l.map UInt8.ofNat) Try.underlying22 Try.underlying5 Try.underlying9 (fun j hj => by
    have hj' : j < l.length := by simpa using hj
    rw [Addr.add_lit, Nat.zero_add, h.cellAt j (by omega)]
    simp only [byteV, List.getElem?_map, List.getElem?_eq_getElem hj', Option.map_some]
    rw [List.getElem_map]
    exact congrArg some ((u8v (n := l[j]) (m := l[j]) (Nat.mod_eq_of_lt (hl _ (List.getElem_mem hj')))).symm))
  rw [List.length_map] at hr
  exact hr

theorem own_formG {w : World} {base : Nat} {e : TypeId} {size : Nat} {v : Value} {n : Nat} {xs : List Value} (h : w.ownsRow base e size v n xs) (hn : 0 < n) : ∃ g c, v = .slice (some ⟨g, 0, none⟩) n c := by
  rcases h.2 with ⟨_, h0⟩ | ⟨g, cap, cur, hv, _⟩
  · omega
  · exact ⟨g, cap, hv⟩

set_option maxRecDepth 100000 in
set_option maxHeartbeats 2000000 in
theorem bytes_draw (R n cap : Nat) (A : Option Addr) (m : Nat) (w : World) (h : Rs w R A n cap) (hm : m ≤ 100) :
    Calls Try.prog 23 #[.pointer (some ⟨R, 0, none⟩), .int .i64 m] w (DrawnS R n cap A m w) := by
  have hRw := h.lt
  obtain ⟨i0, hi, hx⟩ := Option.map_eq_some_iff.1 info_u8
  simp only [Prod.mk.injEq] at hx
  obtain ⟨hz0, hz1, hz2⟩ := hx
  go_enter Try.func23, Try.ntmps23
  go_wp2_with fail
  refine (below_any R n cap A ((m : Int) + 1) _ (h.alloc _) (by omega)).mono ?_
  rintro e w1 ⟨q, rfl, hq, hR1, hg1⟩
  have hq1 := hq (by omega)
  clear hq
  have hown1 := own_grown (World.ownsRow_made (e := 5) (size := 1) w #[] 0 (Nat.le_refl w.heap.size) (by unfold maxLen; omega) rfl) hg1 hRw
  have hgg := hid (grown_trans (World.grownBy_alloc w (.cells #[] 5) (some R)) hg1)
  clear hg1
  go_wp2_with fail
  go_loopw [5, 6] (fun o i wr => ∃ (j : Nat) (l : List Nat) (g c : Nat), l.length + j = q ∧ (∀ d ∈ l, d < 256) ∧ i = .int .i64 j ∧ o = .slice (some ⟨g, 0, none⟩) l.length c ∧ wr.ownsRow w.heap.size 5 1 (.slice (some ⟨g, 0, none⟩) l.length c) l.length (byteV l) ∧ Rs wr R A n cap ∧ Hid (w.grownBy wr (some R)))
    (fun _ i _ => (intOf i).toNat)
  case atStart => exact ⟨q, [], w.heap.size, 0, by simp, by simp, rfl, rfl, hown1, hR1, hgg⟩
  case round =>
    obtain ⟨j, l, g, c, hlj, hld, rfl, rfl, hown, hR, hg⟩ := hrel
    have HLJ := hid hlj
    have HLD := hid hld
    have hl100 : l.length ≤ 101 := by omega
    have hj101 : j ≤ 101 := by omega
    have hsz := hg.out.size
    clear hlj hld
    by_cases hlt : 0 < j
    · have i1 : (0 : Int) < (j : Int) := by omega
      go_wp2_with fail
      refine (below_any R n cap A 256 _ hR (by omega)).mono ?_
      rintro e w2 ⟨x, rfl, hx, hR2, hg2⟩
      have hx2 := hx (by omega)
      have hown2 := own_grown hown hg2 hRw
      have hgg2 := grown_trans hg.out hg2
      have hs2 := hgg2.size
      have HG := hid hgg2
      clear hgg2 hg2 hown hR hg hx
      go_wp2_with (at_builtin; refine wpList_append_own _ rfl (.tmp 16) (.tmp 20) 22 rfl w.heap.size 5 i0 (.int .u8 0) 1 1 Try.underlying22 hi hz0 hz1 hz2 rfl (by decide) _ l.length _ rfl (hown2.alloc _) ⟨w2.heap.size, 0, none⟩ 1 1 [.int .u8 (x : Int)] rfl rfl (cell_one_newS _ _ _) (by intro u hu; simp at hu; subst hu; rfl) (by unfold maxLen; omega) (by omega) (by simp; omega) ?_)
      intro v' w3 hown3 hg3 _
      have hgW := grown_own HG.out _ hg3 (fun x hx => (hown2.lt x hx).1)
      have hR3 := rs_own (B := w.heap.size) hR2 _ hg3 (fun x hx => (hown2.lt x hx).1) hRw
      have HGW := hid hgW
      clear hg3 hgW hown2 hR2
      obtain ⟨g3, c3, rfl⟩ := own_formG hown3 (by omega)
      go_wp2_with fail
      go_roundw
      have HX := hid hx2
      case rel => exact ⟨j - 1, l ++ [x], g3, c3, by simp; have := HLJ.out; omega, by intro d hd; rcases List.mem_append.1 hd with hd | hd; exact HLD.out d hd; simp at hd; subst hd; omega, by simp; omega, by simp, by rw [byteV_snoc, show (l ++ [x]).length = l.length + 1 by simp]; exact hown3, hR3, HGW⟩
      case measure => simp [intOf]; omega
    · have kc := u8_conv l HLD.out _ _ g c hown
      go_wp2_with fail
      go_ret
      exact ⟨_, rfl, by rw [bytesOf_size]; have := HLJ.out; omega, hR, hg.out⟩

theorem grown_drew1 (w : World) (r : Option Nat) : w.grownBy w.drew r := ⟨rfl, rfl, rfl, Nat.le_refl _, fun _ _ _ => rfl⟩
theorem hurt_pick (q : Nat) (hq : q < 4) : ∃ x : ByteArray, (#[Value.string ⟨#[0]⟩, .string ⟨#[55]⟩, .string ⟨#[255]⟩, .string ⟨#[32]⟩] : Array Value)[q]? = some (.string x) ∧ x.size = 1 := by
  obtain rfl | rfl | rfl | rfl : q = 0 ∨ q = 1 ∨ q = 2 ∨ q = 3 := by omega
  all_goals exact ⟨_, rfl, rfl⟩

set_option maxRecDepth 100000 in
set_option maxHeartbeats 4000000 in
theorem hurt_draw (R n cap : Nat) (A : Option Addr) (s : ByteArray) (w : World) (h : Rs w R A n cap) (hs : s.size ≤ 250) :
    Calls Try.prog 20 #[.pointer (some ⟨R, 0, none⟩), .string s] w (DrawnS R n cap A 252 w) := by
  have hRw := h.lt
  go_enter Try.func20, Try.ntmps20
  go_wp2_with fail
  refine (below_any R n cap A 6 _ h (by omega)).mono ?_
  rintro e w1 ⟨k, rfl, hk, hR1, hg1⟩
  have hk6 := hk (by omega)
  have hR1w := hR1.lt
  clear hk
  by_cases e1 : k = 1
  · subst e1
    go_wp2_with fail
    refine (below_any R n cap A ((s.size : Int) + 1) _ hR1 (by omega)).mono ?_
    rintro e w2 ⟨i, rfl, hi, hR2, hg2⟩
    have hi2 := hi (by omega)
    have i1 : (i : Int) ≤ (s.size : Int) := by omega
    have hgg := hid (grown_trans hg1 hg2)
    clear hg1 hg2 hi
    go_wp2_with fail
    go_ret
    exact ⟨_, rfl, by rw [ByteArray.size_extract]; omega, hR2, hgg.out⟩
  by_cases e2 : k = 2
  · subst e2
    by_cases hz : (0 : Int) < (s.size : Int)
    · go_wp2_with fail
      refine (below_any R n cap A (s.size : Int) _ hR1 (by omega)).mono ?_
      rintro e w2 ⟨i, rfl, hi, hR2, hg2⟩
      have hi2 := hi (by omega)
      have hgg := hid (grown_trans hg1 hg2)
      have hR2w := hR2.lt
      clear hg1 hg2 hi
      obtain ⟨p1, hp1, hp1s⟩ : ∃ p1, s.extract 0 i = p1 ∧ p1.size ≤ s.size := ⟨_, rfl, by rw [ByteArray.size_extract]; omega⟩
      obtain ⟨p2, hp2, hp2s⟩ : ∃ p2, s.extract (i + 1) s.size = p2 ∧ p2.size + p1.size ≤ s.size := ⟨_, rfl, by rw [← hp1, ByteArray.size_extract, ByteArray.size_extract]; omega⟩
      have v1 : IntKind.i64.wrap ((i : Int) + 1) = (i : Int) + 1 := IntWalk.i64_in _ (by omega)
      have v2 : ((i : Int) + 1).toNat = i + 1 := by omega
      have g1 : (0 : Int) ≤ (i : Int) + 1 := by omega
      have g2 : (i : Int) + 1 ≤ (s.size : Int) := by omega
      have g3 : (0 : Int) ≤ (i : Int) := by omega
      have g4 : (i : Int) ≤ (s.size : Int) := by omega
      have HS2 := hid hp2s
      clear hp1s hp2s
      have RA : Rs (w2.alloc (.cells #[.string ⟨#[0]⟩, .string ⟨#[55]⟩, .string ⟨#[255]⟩, .string ⟨#[32]⟩] 9)).drew R A n cap := hR2.alloc _
      have RB : Rs w2.drew R A n cap := hR2
      go_wp2_with fail
      go_region_with (go_at_call 18; (first | (refine (below_any R n cap A 4 _ RA (by omega)).mono ?_) | (refine (below_any R n cap A 4 _ RB (by omega)).mono ?_)); rintro e w3 ⟨q, rfl, hq, hR3, hg3⟩; have hq4 := hq (by omega); clear hq; obtain ⟨x, hx, hxs⟩ := hurt_pick q (by omega); have cB := ((Blk.new w3 9 #[.string ⟨#[0]⟩, .string ⟨#[55]⟩, .string ⟨#[255]⟩, .string ⟨#[32]⟩]).cell q).trans hx; (first | (have cA := ((Blk.grown (Blk.new w2 9 #[.string ⟨#[0]⟩, .string ⟨#[55]⟩, .string ⟨#[255]⟩, .string ⟨#[32]⟩]).drew hg3 (by simp; omega)).cell q).trans hx) | skip); have z1 : ¬ 9223372036854775807 < p1.size + x.size := (by have := HS2.out; omega); have z2 : ¬ 9223372036854775807 < p1.size + x.size + p2.size := (by have := HS2.out; omega); have q1 : (q : Int) < 4 := (by omega); clear hx)
      all_goals go_wp2_with fail
      all_goals go_ret
      · exact ⟨p1 ++ x ++ p2, rfl, by rw [ByteArray.size_append, ByteArray.size_append]; have := HS2.out; omega, hR3, grown_trans hgg.out (grown_trans (World.grownBy_alloc w2 _ (some R)) (grown_trans (grown_drew1 _ _) hg3))⟩
      · exact ⟨p1 ++ x ++ p2, rfl, by rw [ByteArray.size_append, ByteArray.size_append]; have := HS2.out; omega, hR3.alloc _, grown_trans hgg.out (grown_trans (grown_drew1 _ _) (grown_trans hg3 (World.grownBy_alloc w3 _ (some R))))⟩
    · go_wp2_with fail
      go_ret
      exact ⟨s, rfl, by omega, hR1, hg1⟩
  by_cases e3 : k = 3
  · subst e3
    go_wp2_with fail
    refine (below_any R n cap A 4 _ (hR1.alloc _) (by omega)).mono ?_
    rintro e w2 ⟨i, rfl, hi, hR2, hg2⟩
    have hi2 := hi (by omega)
    have hB := Blk.grown (Blk.new w1 _ _) hg2 (by simp; omega)
    have c0 := hB.cell 0; have c1 := hB.cell 1; have c2 := hB.cell 2; have c3 := hB.cell 3
    simp at c0 c1 c2 c3
    have hgg := hid (grown_trans hg1 (grown_trans (World.grownBy_alloc w1 _ (some R)) hg2))
    clear hB hg2 hg1 hi
    have z0 : ¬ 9223372036854775807 < s.size + 1 := by omega
    obtain rfl | rfl | rfl | rfl : i = 0 ∨ i = 1 ∨ i = 2 ∨ i = 3 := by omega
    all_goals
      go_wp2_with fail
      go_ret
      exact ⟨_, rfl, by rw [ByteArray.size_append]; show s.size + 1 ≤ 252; omega, hR2, hgg.out⟩
  · go_wp2_with fail
    go_ret
    exact ⟨s, rfl, by omega, hR1, hg1⟩

theorem frame_size {s : ByteArray} {m : Nat} (h : s.size ≤ m) (hm : m ≤ 100000) : (frame s).size ≤ 8 + m := by
  rw [frame_yes (by omega), ByteArray.size_append, headB_size]
  omega
theorem rs_belowF {w w' : World} {R n cap : Nat} {A : Option Addr} (h : Rs w R A n cap) (hb : Below w.heap.size w w') : Rs w' R A n cap ∧ w.grownBy w' (some R) :=
  ⟨h.below hb, hb.os, hb.tape, hb.output, hb.size, fun i hi _ => hb.block i hi⟩

set_option maxRecDepth 100000 in
set_option maxHeartbeats 2000000 in
theorem drawTake (A : Option Addr) (n cap : Nat) (w : World) (h : Bs w w.heap.size A n) (hn : n ≤ 4194304) :
    Calls Try.prog 7 #[.slice A n cap] w fun e w' => ∃ s : ByteArray, e = .returned (.string s) ∧ s.size ≤ 252 ∧ Below w.heap.size w w' := by
  go_enter Try.func7, Try.ntmps7
  go_wp2_with fail
  refine (open_draw A n cap _ h hn).mono ?_
  rintro e w1 ⟨rfl, hR1, hb1⟩
  go_wp2_with fail
  refine (below_any w.heap.size n cap A 4 _ hR1 (by omega)).mono ?_
  rintro e w2 ⟨q, rfl, hq, hR2, hg2⟩
  have hq4 := hq (by omega)
  have hb2 := hid (hb1.trans (below_grown hg2 hR1.lt))
  clear hq hg2 hb1 hR1
  go_wp2_with fail
  go_loopw [4, 5] (fun s i wr => ∃ (j : Nat) (t : ByteArray), i = .int .i64 j ∧ s = .string t ∧ t.size + 11 * j ≤ 11 * q ∧ Rs wr w.heap.size A n cap ∧ Hid (Below w.heap.size w wr)) (fun _ i _ => (intOf i).toNat)
  case atStart => exact ⟨q, _, rfl, rfl, by show 0 + _ ≤ _; omega, hR2, hb2⟩
  case round =>
    obtain ⟨j, t, rfl, rfl, hjt, hR, hb⟩ := hrel
    by_cases hlt : 0 < j
    · have i1 : (0 : Int) < (j : Int) := by omega
      go_wp2_with fail
      refine (text_draw w.heap.size n cap A _ hR).mono ?_
      rintro e w3 ⟨x, rfl, hx, hR3, hg3⟩
      have hb3 := hid (hb.out.trans (below_grown hg3 hR.lt))
      clear hg3
      go_wp2_with fail
      refine (sFrameOf_any x _ (by omega)).mono ?_
      rintro e w4 ⟨rfl, hb4⟩
      obtain ⟨hR4, _⟩ := rs_belowF hR3 hb4
      have hb5 := hid (hb3.out.trans (hb4.mono (Nat.le_of_lt hR3.lt)))
      have hfs := frame_size hx (by omega)
      have z1 : ¬ 9223372036854775807 < t.size + (frame x).size := by omega
      clear hb4 hR3
      go_wp2_with fail
      go_roundw
      case rel => exact ⟨j - 1, t ++ frame x, by go_num, rfl, by rw [ByteArray.size_append]; omega, hR4, hb5⟩
      case measure => simp [intOf]; omega
    · go_wp2_with fail
      refine (hurt_draw w.heap.size n cap A t _ hR (by omega)).mono ?_
      rintro e w3 ⟨x, rfl, hx, hR3, hg3⟩
      have hb3 := hid (hb.out.trans (below_grown hg3 hR.lt))
      clear hg3
      go_wp2_with fail
      go_ret
      exact ⟨x, rfl, hx, hb3.out⟩

theorem drawFrameOf (A : Option Addr) (n cap : Nat) (w : World) (h : Bs w w.heap.size A n) (hn : n ≤ 4194304) :
    Calls Try.prog 12 #[.slice A n cap] w fun e w' => ∃ s : ByteArray, e = .returned (.string s) ∧ s.size ≤ 8 ∧ Below w.heap.size w w' := by
  go_enter Try.func12, Try.ntmps12
  go_wp2_with fail
  refine (open_draw A n cap _ h hn).mono ?_
  rintro e w1 ⟨rfl, hR1, hb1⟩
  go_wp2_with fail
  refine (text_draw w.heap.size n cap A _ hR1).mono ?_
  rintro e w2 ⟨x, rfl, hx, hR2, hg2⟩
  have hb2 := hid (hb1.trans (below_grown hg2 hR1.lt))
  clear hg2 hb1
  go_wp2_with fail
  refine (bytes_draw w.heap.size n cap A 5 _ hR2 (by omega)).mono ?_
  rintro e w3 ⟨y, rfl, hy, hR3, hg3⟩
  have hb3 := hid (hb2.out.trans (below_grown hg3 hR2.lt))
  have z1 : ¬ 9223372036854775807 < x.size + y.size := by omega
  clear hg3
  go_wp2_with fail
  go_ret
  exact ⟨x ++ y, rfl, by rw [ByteArray.size_append]; omega, hb3.out⟩
end Go.Proofs.Ytiojjkadnhcdhaa
