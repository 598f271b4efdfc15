/- Lists of strings: compared, marked, the marks looked at. -/
import Derived.Test.YtiojjkadnhcdhaaFrG
namespace Go.Proofs.Ytiojjkadnhcdhaa
open Go.RowKit Go.Deep

theorem ret_i64 {a b : Int} (h : a = b) : Ending.returned (.int .i64 a) = .returned (.int .i64 b) := by rw [h]
theorem own_atS {w : World} {base n c : Nat} {A : Option Addr} {L : List ByteArray} (h : w.ownsRow base 9 1 (.slice A n c) n (strV L)) {k : Nat} (hk : k < n) :
    ∃ (g : Nat) (x : ByteArray), A = some ⟨g, 0, none⟩ ∧ base ≤ g ∧ g < w.heap.size ∧ L[k]? = some x ∧ w.cell? ⟨g, k, none⟩ = some (.string x) := by
  have hl := h.1
  rw [strV_len] at hl
  rcases h.2 with ⟨_, h0⟩ | ⟨g, cap, cur, hv, hb, hh, _⟩
  · omega
  · injection hv with hA
    subst hA
    have hlt : g < w.heap.size := Blk.lt (w := w) (g := g) (t := 9) (cs := cur) hh
    refine ⟨g, L[k]'(by omega), rfl, hb, hlt, List.getElem?_eq_getElem _, ?_⟩
    have := h.cells (g := g) rfl k (.string (L[k]'(by omega))) (by simp [strV, List.getElem?_eq_getElem (show k < L.length by omega)])
    rw [Addr.add_lit, Nat.zero_add] at this
    exact this

set_option maxRecDepth 100000 in
set_option maxHeartbeats 2000000 in
theorem eqStr_any (A A' : Option Addr) (c c' base base' : Nat) (L : List ByteArray) (w : World) (h : w.ownsRow base 9 1 (.slice A L.length c) L.length (strV L)) (h' : w.ownsRow base' 9 1 (.slice A' L.length c') L.length (strV L)) (hn : L.length ≤ 4194304) :
    Calls Try.prog 14 #[.slice A L.length c, .slice A' L.length c'] w fun e w' => e = .returned (.bool true) ∧ Below w.heap.size w w' := by
  go_enter Try.func14, Try.ntmps14
  go_wp2_with fail
  go_loopw [5] (fun i wr => ∃ k m : Nat, k ≤ L.length ∧ i = .int .i64 k ∧ wr = w.drewN m) (fun i _ => L.length - (intOf i).toNat)
  case atStart => exact ⟨0, 0, by omega, rfl, rfl⟩
  case round =>
    obtain ⟨k, m, hk, rfl, rfl⟩ := hrel
    by_cases hlt : k < L.length
    · obtain ⟨g, x, rfl, _, _, hx, hc⟩ := own_atS h hlt
      obtain ⟨g', x', rfl, _, _, hx', hc'⟩ := own_atS h' hlt
      rw [hx] at hx'
      injection hx' with hx'
      subst hx'
      have i1 : (k : Int) < (L.length : Int) := by omega
      clear hx
      go_wp2_with fail
      go_quiet (fail)
      go_wp2_with fail
      go_roundw
      case rel => exact ⟨k + 1, _, by omega, by go_num, rfl⟩
      case measure => simp [intOf]; omega
    · go_wp2_with fail
      go_ret
      exact ⟨rfl, below_drewN (Below.refl _ _) m⟩

/-- The digits of a number, ahead of s. -/
def digs (k : Nat) (s : ByteArray) : ByteArray := if _h : 0 < k then digs (k / 10) (bytesOf [48 + k % 10] ++ s) else s
decreasing_by omega
theorem digs_step {k : Nat} (h : 0 < k) (s : ByteArray) : digs k s = digs (k / 10) (bytesOf [48 + k % 10] ++ s) := by
  conv => lhs; unfold digs
  rw [dif_pos h]
theorem digs_zero (s : ByteArray) : digs 0 s = s := by unfold digs; rw [dif_neg (by omega)]
def markT (k : Nat) : ByteArray := bytesOf [109] ++ digs k ByteArray.empty

theorem dig_conv (d : Nat) (hd : d < 256) (W : World) (g : Nat) (hB : Blk W g 5 #[.int .u8 (d : Int)]) :
    (convert 22 9 (.slice (some ⟨g, 0, none⟩) 1 1)).run Try.prog W = .ok (.string (bytesOf [d])) W := by
  refine run_convert_bytes_back W 22 9 5 ⟨g, 0, none⟩ 1 [UInt8.ofNat d] Try.underlying22 Try.underlying5 Try.underlying9 ?_
  intro j hj
  obtain rfl : j = 0 := by simp at hj; omega
  rw [Addr.add_lit, Nat.zero_add, hB.cell]
  exact congrArg some ((u8v (n := d) (m := d) (by omega)).symm)

set_option maxRecDepth 100000 in
set_option maxHeartbeats 2000000 in
theorem markText_any (k : Nat) (w : World) (h0 : 0 < k) (hk : k ≤ 9000000) :
    Calls Try.prog 24 #[.int .i64 k] w fun e w' => e = .returned (.string (markT k)) ∧ Below w.heap.size w w' := by
  have i0 : ¬ (k : Int) ≤ 0 := by omega
  go_enter Try.func24, Try.ntmps24
  go_wp2_with fail
  go_loopw [0, 3] (fun a s wr => ∃ (j : Nat) (t : ByteArray), a = .int .i64 j ∧ s = .string t ∧ Hid (digs j t = digs k ByteArray.empty) ∧ j + t.size ≤ k ∧ Below w.heap.size w wr) (fun a _ _ => (intOf a).toNat)
  case atStart => exact ⟨k, _, rfl, rfl, rfl, by show k + 0 ≤ k; omega, Below.refl _ _⟩
  case round =>
    obtain ⟨j, t, rfl, rfl, hD, hjt, hbl⟩ := hrel
    by_cases hlt : 0 < j
    · have i1 : (0 : Int) < (j : Int) := by omega
      obtain ⟨d, hd, hdl, HDD⟩ : ∃ d : Nat, (48 + (j : Int) % 10) = (d : Int) ∧ d < 256 ∧ Hid (d = 48 + j % 10) := ⟨48 + j % 10, by omega, by omega, hid rfl⟩
      have kc := dig_conv d hdl (wr.alloc (.cells #[.int .u8 (d : Int)] 5)) wr.heap.size (Blk.new wr _ _)
      have z1 : ¬ 9223372036854775807 < (bytesOf [d]).size + t.size := by
        show ¬ 9223372036854775807 < 1 + t.size
        omega
      go_wp2_with fail
      go_roundw
      case rel => exact ⟨j / 10, bytesOf [d] ++ t, by go_num, rfl, by rw [HDD.out, ← digs_step hlt]; exact hD.out, by rw [ByteArray.size_append]; show j / 10 + (1 + t.size) ≤ k; omega, hbl.alloc hbl.size _⟩
      case measure => simp [intOf]; omega
    · obtain rfl : j = 0 := by omega
      have z2 : ¬ 9223372036854775807 < (bytesOf [109]).size + t.size := by
        show ¬ 9223372036854775807 < 1 + t.size
        omega
      go_wp2_with fail
      go_ret
      exact ⟨ret_str (by unfold markT; rw [← hD.out, digs_zero]; rfl), hbl⟩

/-- The marks k, k + 1, .. on the first j of the list. -/
def marks (L : List ByteArray) (k j : Nat) : List ByteArray := (List.range j).map (fun i => markT (k + i)) ++ L.drop j
theorem marks_len (L : List ByteArray) (k j : Nat) (h : j ≤ L.length) : (marks L k j).length = L.length := by simp [marks]; omega
theorem marks_zero (L : List ByteArray) (k : Nat) : marks L k 0 = L := by simp [marks]
theorem marks_set (L : List ByteArray) (k j : Nat) (h : j < L.length) : (marks L k j).set j (markT (k + j)) = marks L k (j + 1) := by
  unfold marks
  have hl : ((List.range j).map (fun i => markT (k + i))).length = j := by simp
  rw [List.set_append_right _ _ (by omega), hl, Nat.sub_self, List.drop_eq_getElem_cons h, List.set_cons_zero, List.range_succ, List.map_append, List.append_assoc]
  rfl
theorem marks_at (L : List ByteArray) (k j : Nat) (h : j < L.length) : (marks L k L.length)[j]? = some (markT (k + j)) := by
  unfold marks
  rw [List.getElem?_append_left (by simpa using h)]
  simp [h]
theorem strV_set (L : List ByteArray) (j : Nat) (x : ByteArray) : (strV L).set j (.string x) = strV (L.set j x) := by
  simp [strV, List.map_set]

theorem grow_transS {a w w' : World} {r : Option Nat} (h : a.grownBy w r) (hg : w.grownBy w' r) : a.grownBy w' r :=
  ⟨hg.os.trans h.os, hg.tape.trans h.tape, hg.output.trans h.output, Nat.le_trans h.size hg.size, fun i hi hne => (hg.block i (Nat.lt_of_lt_of_le hi h.size) hne).trans (h.block i hi hne)⟩
theorem grow_belowS {a w w' : World} {r : Option Nat} (h : a.grownBy w r) (hb : Below w.heap.size w w') : a.grownBy w' r :=
  grow_transS h ⟨hb.os, hb.tape, hb.output, hb.size, fun i hi _ => hb.block i hi⟩

set_option maxRecDepth 100000 in
set_option maxHeartbeats 2000000 in
theorem mark_any (A : Option Addr) (c base k : Nat) (L : List ByteArray) (w : World) (h : w.ownsRow base 9 1 (.slice A L.length c) L.length (strV L)) (hn : L.length ≤ 4194304) (h0 : 0 < k) (hk : k ≤ 1000) :
    Calls Try.prog 15 #[.slice A L.length c, .int .i64 k] w fun e w' => e = .returned (.int .i64 (k + L.length : Nat)) ∧ w'.ownsRow base 9 1 (.slice A L.length c) L.length (strV (marks L k L.length)) ∧ w.grownBy w' (Value.slice A L.length c).ownBlock := by
  go_enter Try.func15, Try.ntmps15
  go_wp2_with fail
  go_loopw [1, 5] (fun q i wr => ∃ j : Nat, j ≤ L.length ∧ q = .int .i64 (k + j : Nat) ∧ i = .int .i64 j ∧ wr.ownsRow base 9 1 (.slice A L.length c) L.length (strV (marks L k j)) ∧ Hid (w.grownBy wr (Value.slice A L.length c).ownBlock)) (fun _ i _ => L.length - (intOf i).toNat)
  case atStart => exact ⟨0, by omega, rfl, rfl, by rw [marks_zero]; exact h, World.grownBy.refl w _⟩
  case round =>
    obtain ⟨j, hj, rfl, rfl, hown, hg⟩ := hrel
    by_cases hlt : j < L.length
    · obtain ⟨g, x, rfl, hbg, hgl, hx, hc⟩ := own_atS hown hlt
      clear hx hc
      go_wp2_with fail
      refine (markText_any (k + j) _ (by omega) (by omega)).mono ?_
      rintro e w5 ⟨rfl, hb5⟩
      have hown5 := own_belowS hown hb5
      have hg5 := grow_belowS hg.out hb5
      obtain ⟨g2, x, e2, _, hgl5, _, hc⟩ := own_atS hown5 hlt
      injection e2 with e2
      injection e2 with e2
      subst e2
      have hf := hown5.frozenAt j
      obtain ⟨hown6, hg6⟩ := hown5.stored j (.string (markT (k + j)))
      rw [strV_set, marks_set L k j hlt] at hown6
      have hg7 := grow_transS hg5 hg6
      have HG7 := hid hg7
      have HO6 := hid hown6
      clear hown hown5 hg5 hg6 hg7 hown6 hb5
      go_wp2_with fail
      go_roundw
      case rel => exact ⟨j + 1, by omega, by go_num, by go_num, HO6.out, HG7.out⟩
      case measure => simp [intOf]; omega
    · have e : j = L.length := by omega
      subst e
      go_wp2_with fail
      go_ret
      exact ⟨rfl, hown, hg.out⟩

set_option maxRecDepth 100000 in
set_option maxHeartbeats 2000000 in
theorem held_any (A : Option Addr) (c base k : Nat) (L : List ByteArray) (w : World) (h : w.ownsRow base 9 1 (.slice A L.length c) L.length (strV (marks L k L.length))) (hn : L.length ≤ 4194304) (h0 : 0 < k) (hk : k ≤ 1000) :
    Calls Try.prog 16 #[.slice A L.length c, .int .i64 k] w fun e w' => e = .returned (.int .i64 (k + L.length : Nat)) ∧ Below w.heap.size w w' := by
  go_enter Try.func16, Try.ntmps16
  go_wp2_with fail
  go_loopw [1, 5] (fun q i wr => ∃ j m : Nat, j ≤ L.length ∧ m ≤ 5000000 ∧ Hid (m = k + j) ∧ q = .int .i64 (m : Nat) ∧ i = .int .i64 j ∧ Hid (Below w.heap.size w wr)) (fun _ i _ => L.length - (intOf i).toNat)
  case atStart => exact ⟨0, k, by omega, by omega, rfl, rfl, rfl, Below.refl _ _⟩
  case round =>
    obtain ⟨j, m, hj, hm5, HM, rfl, rfl, hbl⟩ := hrel
    by_cases hlt : j < L.length
    · obtain ⟨g, x, rfl, hbg, hgl, hx, hc⟩ := own_atS h hlt
      rw [marks_at L k j hlt, ← HM.out] at hx
      injection hx with hx
      have hgr : g < wr.heap.size := Nat.lt_of_lt_of_le hgl hbl.out.size
      have hcr : wr.cell? ⟨g, j, none⟩ = some (.string (markT m)) := by
        rw [hx]; exact (hbl.out.cell (p := ⟨g, j, none⟩) hgl).trans hc
      have HC : Hid (∀ W, Below wr.heap.size wr W → W.cell? ⟨g, j, none⟩ = some (.string (markT m))) := fun W hW => (hW.cell (p := ⟨g, j, none⟩) hgr).trans hcr
      have D0 := hid ((Below.refl wr.heap.size wr).drew)
      have cM : ∀ w : World, Calls Try.prog 24 #[.int .i64 (m : Nat)] w fun e w' => e = .returned (.string (markT m)) ∧ Below w.heap.size w w' := fun w => markText_any m w (by have := HM.out; omega) (by omega)
      have HCM := hid cM
      clear hc hcr hx cM
      have i1 : (j : Int) < (L.length : Int) := by omega
      have i2 : (0 : Int) ≤ (j : Int) := by omega
      go_wp2_with fail
      refine region_classF (C := fun W => Below wr.heap.size wr W) (by kernel_rfl) (by kernel_rfl) D0.out ?_
      repeat
        with_reducible refine wpQuiet_step (fun K hK => ?_)
        first
          | (rw [if_pos (by rfl)]; apply Exists.intro; refine ⟨fun W hW => ?_, hK _ ?_⟩; (first
              | (have u1 := HC.out W hW; go_simp <;> with_reducible rfl)
              | (go_simp; go_at_call 24; with_reducible refine Calls.mono (HCM.out W) ?_; rintro e w5 ⟨rfl, hb5⟩; exact ⟨rfl, hW.trans (hb5.mono hW.size)⟩)); clear hK K; (try simp only [Act.put, List.setIfInBounds_toArray, List.set_cons_zero, List.set_cons_succ]))
          | (refine Eq.mpr (if_neg ?_) (hK _ ?_); exact (fun h => Bool.false_ne_true h); clear hK K; (try simp only [Act.put, List.setIfInBounds_toArray, List.set_cons_zero, List.set_cons_succ]))
      refine wpQuiet_nil ?_
      intro WZ hZ'
      have hZ : Below wr.heap.size wr WZ := hZ'
      clear hZ'
      have HZ := hid (hbl.out.trans (hZ.mono hbl.out.size))
      clear hZ
      go_wp2_with fail
      go_roundw
      case rel => exact ⟨j + 1, m + 1, by omega, by have := HM.out; omega, hid (by have := HM.out; omega), by go_num, by go_num, HZ.out⟩
      case measure => simp [intOf]; omega
    · have e : j = L.length := by omega
      subst e
      go_wp2_with fail
      go_ret
      exact ⟨ret_i64 (by rw [HM.out]), hbl.out⟩
end Go.Proofs.Ytiojjkadnhcdhaa
