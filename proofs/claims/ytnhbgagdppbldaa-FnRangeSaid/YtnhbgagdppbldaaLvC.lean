/- LeavesOf on both sides. -/
import Derived.Test.YtnhbgagdppbldaaLvB
import Derived.Test.YtnhbgagdppbldaaTreeL
import Derived.Deep.RegionLaw
import Derived.Deep.AppendLies
import Derived.Laws.OwnMore
namespace Go.Proofs.Ytnhbgagdppbldaa
open Go.RowKit Go.Deep

def natV (xs : List Nat) : List Value := xs.map fun (i : Nat) => Value.int .i64 (i : Int)
theorem natV_len (xs : List Nat) : (natV xs).length = xs.length := by simp [natV]
theorem natV_append (xs ys : List Nat) : natV (xs ++ ys) = natV xs ++ natV ys := by simp [natV]
theorem natV_one (xs : List Nat) : ∀ u ∈ natV xs, u.oneCell' = true := by
  intro u hu
  obtain ⟨i, _, rfl⟩ := List.mem_map.1 hu
  rfl
theorem lvs_pow (g : Nat → Nd) : ∀ f i, (lvs g f i).length ≤ 2 ^ f := by
  intro f
  induction f with
  | zero => intro i; simp [lvs]
  | succ f ih =>
    intro i
    unfold lvs
    have h1 := ih (g i).left.toNat
    have h2 := ih (g i).right.toNat
    have h3 := Nat.one_le_two_pow (n := f)
    rw [Nat.pow_succ]
    split
    · simp; omega
    · rw [List.length_append]; omega
theorem own_less {w : World} {B B2 : Nat} {e : TypeId} {size : Nat} {v : Value} {n : Nat} {xs : List Value} (h : w.ownsRow B2 e size v n xs) (hB : B ≤ B2) : w.ownsRow B e size v n xs := by
  refine ⟨h.1, ?_⟩
  rcases h.2 with h0 | ⟨g, cap, cur, hv, hb, rest⟩
  · exact .inl h0
  · exact .inr ⟨g, cap, cur, hv, Nat.le_trans hB hb, rest⟩
/-- Numbers in a row of one's own. -/
def OwnL (w : World) (B b c : Nat) (xs : List Nat) : Prop := 1 ≤ xs.length ∧ b < w.heap.size ∧ w.ownsRow B 2 1 (.slice (some ⟨b, 0, none⟩) xs.length c) xs.length (natV xs)
theorem OwnL.below {w w' : World} {B b c : Nat} {xs : List Nat} (h : OwnL w B b c xs) (hb : Below w.heap.size w w') : OwnL w' B b c xs := ⟨h.1, Nat.lt_of_lt_of_le h.2.1 hb.size, own_below h.2.2 hb⟩
theorem OwnL.more {w : World} {B B' b c : Nat} {xs : List Nat} (h : OwnL w B b c xs) (hB : B' ≤ B) : OwnL w B' b c xs := ⟨h.1, h.2.1, own_less h.2.2 hB⟩
theorem OwnL.src {w : World} {B b c : Nat} {xs : List Nat} (h : OwnL w B b c xs) : ∀ j u, (natV xs)[j]? = some u → w.cell? ((⟨b, 0, none⟩ : Addr).add j) = some u := fun j u hu => by
  have hj : j < xs.length := by have := (List.getElem?_eq_some_iff.1 hu).1; rw [natV_len] at this; exact this
  have := h.2.2.cellAt j (by omega)
  simpa [Addr.add_lit] using this.trans hu

set_option maxRecDepth 100000 in
set_option maxHeartbeats 2000000 in
theorem lvs_any (g : Nat → Nd) (n : Nat) (P : Nat → Nat) (hu : Up g n) : ∀ (fuel i : Nat) (w : World), i < n → n - i ≤ fuel → fuel ≤ 15 → Twigs w g n 0 P →
    Calls Try.prog 74 #[.pointer (some ⟨P i, 0, none⟩)] w fun e w' => ∃ b c, e = .returned (.slice (some ⟨b, 0, none⟩) (lvs g fuel i).length c) ∧ OwnL w' w.heap.size b c (lvs g fuel i) ∧ Below w.heap.size w w' := by
  obtain ⟨i0, hi0, hz0, hz1, hz2⟩ := info_parts info_int
  intro fuel
  induction fuel with
  | zero => intro i w h1 h2; omega
  | succ fuel ih =>
    intro i w hi hf hf15 htw
    obtain ⟨c0, c1, c2, c3, c4, c5, c6, c7, c8⟩ := tw_cells (htw i (Nat.zero_le _) hi)
    have IH := hid ih
    have HT := hid htw
    clear ih htw
    cases h0 : ((g i).left == 0)
    · have h0' : ¬ (g i).left = 0 := by simpa using h0
      have hk := hu i hi h0'
      have hdp : lvs g (fuel + 1) i = lvs g fuel (g i).left.toNat ++ lvs g fuel (g i).right.toNat := by rw [lvs, if_neg h0']
      have HD := hid hdp
      have eL : kidL (g i) P = some ⟨P (g i).left.toNat, 0, none⟩ := if_neg h0'
      have eR : kidR (g i) P = some ⟨P (g i).right.toNat, 0, none⟩ := if_neg h0'
      have b1 : (g i).left.toNat < n := by omega
      have b2 : (g i).right.toNat < n := by omega
      have b3 : n - (g i).left.toNat ≤ fuel := by omega
      have b4 : n - (g i).right.toNat ≤ fuel := by omega
      have b5 : fuel ≤ 15 := by omega
      have p1 := Nat.le_trans (lvs_pow g fuel (g i).left.toNat) (Nat.pow_le_pow_right (n := 2) (by omega) b5)
      have p2 := Nat.le_trans (lvs_pow g fuel (g i).right.toNat) (Nat.pow_le_pow_right (n := 2) (by omega) b5)
      clear hdp h0' hk
      go_enter Try.func74, Try.ntmps74
      go_wp2_with fail
      refine (isLeaf_any (g i) _).mono ?_
      rintro e w1 ⟨rfl, hb1⟩
      rw [h0]
      have tw1 := HT.out.below hb1
      clear c0 c1 c2 c3 c4 c5 c6 c7 c8
      obtain ⟨c0, c1, c2, c3, c4, c5, c6, c7, c8⟩ := tw_cells (tw1 i (Nat.zero_le _) hi)
      have hPi : P i < w1.heap.size := Blk.lt (tw1 i (Nat.zero_le _) hi)
      rw [eL] at c7
      rw [eR] at c8
      have EL := hid eL
      have ER := hid eR
      clear c0 c1 c2 c3 c4 c5 c6 eL eR
      generalize hxL : lvs g fuel (g i).left.toNat = xL at p1 HD
      generalize hxR : lvs g fuel (g i).right.toNat = xR at p2 HD
      have XL := hid hxL
      have XR := hid hxR
      clear hxL hxR
      have hs1 := hb1.size
      go_wp2_with fail
      go_region_law
        (first
          | (refine step_append_lies _ (by rfl) _ _ _ (by rfl) w.heap.size 2 i0 (.int .i64 0) 1 8 Try.underlying28 hi0 hz0 hz1 hz2 rfl (by omega) (.slice (some ⟨bL, 0, none⟩) xL.length cL) xL.length (natV xL) (by rfl) (by first | exact (hownL.below hbR).2.2 | exact hownL.2.2) ⟨bR, 0, none⟩ xR.length cR (natV xR) (by rfl) (by rw [natV_len]; omega) (by first | exact (hownR.below hbL).src | exact hownR.src) (natV_one xR) (by have := hownR.1; omega) (by unfold maxLen; omega) (by omega) (by omega) _ rfl ?_; intro gg cp5 w5 hown5 hgrow hat hlt5)
          | (go_simp; go_at_call_of 74 (Value.pointer (some (⟨P (g i).left.toNat, 0, none⟩ : Addr))); refine (IH.out _ _ b1 b3 b5 (by first | exact tw1 | exact twR)).mono ?_; rintro e wl ⟨bL, cL, rfl, hownL0, hbL⟩; rw [XL.out] at hownL0 ⊢; have hsl : w1.heap.size ≤ wl.heap.size := (by first | exact hbL.size | exact Nat.le_trans hsr hbL.size); have hownL := hownL0.more (B' := w.heap.size) (by first | exact hs1 | exact Nat.le_trans hs1 hsr); have twL := Twigs.below (by first | exact tw1 | exact twR) hbL; obtain ⟨_, _, _, _, _, _, _, e7, e8⟩ := tw_cells (twL i (Nat.zero_le _) hi); rw [EL.out] at e7; rw [ER.out] at e8)
          | (go_simp; go_at_call_of 74 (Value.pointer (some (⟨P (g i).right.toNat, 0, none⟩ : Addr))); refine (IH.out _ _ b2 b4 b5 (by first | exact tw1 | exact twL)).mono ?_; rintro e wr ⟨bR, cR, rfl, hownR0, hbR⟩; rw [XR.out] at hownR0 ⊢; have hsr : w1.heap.size ≤ wr.heap.size := (by first | exact hbR.size | exact Nat.le_trans hsl hbR.size); have hownR := hownR0.more (B' := w.heap.size) (by first | exact hs1 | exact Nat.le_trans hs1 hsl); have twR := Twigs.below (by first | exact tw1 | exact twL) hbR; obtain ⟨_, _, _, _, _, _, _, e7, e8⟩ := tw_cells (twR i (Nat.zero_le _) hi); rw [EL.out] at e7; rw [ER.out] at e8))
      all_goals
        first
          | have hW := (hb1.drew.trans (hbL.mono hb1.size)).trans (hbR.mono (Nat.le_trans hb1.size hbL.size))
          | have hW := (hb1.drew.trans (hbR.mono hb1.size)).trans (hbL.mono (Nat.le_trans hb1.size hbR.size))
        have hB5 := hW.grown hgrow hW.size (fun x hx => (hownL.2.2.lt x hx).1)
        have hO5 : OwnL w5 w.heap.size gg cp5 (xL ++ xR) := ⟨by rw [List.length_append]; have := hownL.1; omega, hlt5, by rw [natV_append, List.length_append]; exact hown5⟩
        have HO5 := hid hO5
        have HB5 := hid hB5
        clear hO5 hB5 hW hgrow hown5 hownL hownR hownL0 hownR0 hbL hbR hb1 hat
        go_wp2_with fail
        go_ret
        rw [HD.out]
        exact ⟨gg, cp5, congrArg (fun k => Ending.returned (.slice (some ⟨gg, 0, none⟩) k cp5)) (@List.length_append Nat xL xR).symm, HO5.out, HB5.out⟩
    · have h0' : (g i).left = 0 := by simpa using h0
      have hdp : lvs g (fuel + 1) i = [i] := by rw [lvs, if_pos h0']
      have HD := hid hdp
      clear hdp h0'
      go_enter Try.func74, Try.ntmps74
      go_wp2_with fail
      refine (isLeaf_any (g i) _).mono ?_
      rintro e w1 ⟨rfl, hb1⟩
      rw [h0]
      have tw1 := HT.out.below hb1
      clear c0 c1 c2 c3 c4 c5 c6 c7 c8
      obtain ⟨c0, c1, c2, c3, c4, c5, c6, c7, c8⟩ := tw_cells (tw1 i (Nat.zero_le _) hi)
      go_wp2_with fail
      go_ret
      rw [HD.out]
      exact ⟨_, _, rfl, ⟨Nat.le_refl _, by simp, World.ownsRow_lit w1 #[.int .i64 (i : Int)] 1 hb1.size (by unfold maxLen; omega) rfl⟩, hb1.alloc hb1.size _⟩

def lvZ (g : Nat → Nd) (n : Nat) : Nat → Int := fun i => (((lfs g n).getD i 0 : Nat) : Int)
/-- What LeavesOf gives for a tree. -/
def LvsPost (g : Nat → Nd) (n : Nat) (w : World) (e : Ending) (w' : World) : Prop :=
  ∃ b c, e = .returned (.slice (some ⟨b, 0, none⟩) (lfs g n).length c) ∧ w.heap.size ≤ b ∧ Row w' 2 b (lfs g n).length (lvZ g n) ∧ Below w.heap.size w w'
theorem OwnL.row {w : World} {B b c : Nat} {xs : List Nat} (h : OwnL w B b c xs) : B ≤ b ∧ Row w 2 b xs.length (fun i => (xs.getD i 0 : Nat)) := by
  rcases h.2.2.2 with ⟨_, h0⟩ | ⟨gg, cap, cur, hv, hb, hg, h1, h2, h3, ht⟩
  · have := h.1; omega
  · injection hv with hA _ _
    injection hA with hA
    injection hA with hA
    subst hA
    refine ⟨hb, cur, hg, by omega, fun i hi => ?_⟩
    have h4 : (cur.toList.take (xs.length * 1))[i]? = (natV xs)[i]? := by rw [ht]
    rw [List.getElem?_take, if_pos (by omega), Array.getElem?_toList] at h4
    rw [h4]
    unfold natV
    rw [List.getElem?_map, List.getElem?_eq_getElem hi]
    simp [hi]
theorem getD_map (xs : List Nat) : (List.range xs.length).map (fun i => ((xs.getD i 0 : Nat) : Int)) = xs.map Int.ofNat := by
  refine List.ext_getElem (by simp) fun i h1 h2 => ?_
  simp at h1
  simp [h1]

set_option maxHeartbeats 1000000 in
theorem iLeaves_yes (A : Option Addr) (n cap : Nat) (g : Nat → Nd) (w : World) (h : RdN w w.heap.size A n g) (hn : n ≤ 4194304) (ht : treeB g n 6 = true) :
    Calls Try.prog 21 #[.slice A n cap] w (LvsPost g n w) := by
  have hT := (treeB_iff g n 6).1 ht
  have hn1 : 0 < n ∧ n - 0 ≤ 15 := by have := hT.2.1; omega
  obtain ⟨hl1, hl2, hl3⟩ := lvs_len_le hT
  have HT := hid ht
  have HU := hid hT.up
  have HTR := hid hT
  clear hT ht
  go_enter Try.func21, Try.ntmps21
  go_wp2_with fail
  refine (treeOf_any A n cap g 6 _ h hn).mono ?_
  rintro e w1 ⟨q, rfl, hb, hy, _⟩
  obtain ⟨P, rfl, htw⟩ := hy HT.out
  go_wp2_with fail
  refine (lvs_any g n P HU.out 15 0 _ hn1.1 hn1.2 (by omega) htw).mono ?_
  rintro e w2 ⟨b, c, rfl, hown, hb2⟩
  obtain ⟨hBb, hrow⟩ := hown.row
  rw [hl1] at hrow ⊢
  have hb12 := hb.trans (hb2.mono hb.size)
  have hBw : w.heap.size ≤ b := Nat.le_trans hb.size hBb
  clear hown hb2 hb htw hy
  go_wp2_with fail
  refine (sort_any w.heap.size b _ c _ _ hrow hBw hl2 (by omega)).mono ?_
  rintro e w3 ⟨rfl, y, hrow3, hp, hs, hb3⟩
  have hsame := lfs_of_sorted HTR.out (y := y) (m := (lfs g n).length) (by
    refine hp.trans ?_
    rw [← hl1, getD_map]) hs
  have HS := hid hsame
  clear hsame hp hs
  go_wp2_with fail
  go_ret
  refine ⟨b, c, rfl, hBw, hrow3.congr fun i hi => ?_, hb12.trans hb3⟩
  have h1 : ((List.range (lfs g n).length).map y)[i]? = some (y i) := by
    rw [List.getElem?_map, List.getElem?_range hi]
    rfl
  have h2 : ((lfs g n).map Int.ofNat)[i]? = some (((lfs g n).getD i 0 : Nat) : Int) := by
    rw [List.getElem?_map, List.getElem?_eq_getElem hi]
    simp [hi]
  rw [HS.out, h2] at h1
  injection h1 with h1
  exact h1.symm
theorem iLeaves_no (A : Option Addr) (n cap : Nat) (g : Nat → Nd) (w : World) (h : RdN w w.heap.size A n g) (hn : n ≤ 4194304) (ht : treeB g n 6 = false) :
    Calls Try.prog 21 #[.slice A n cap] w fun e w' => e = .returned (.slice none 0 0) ∧ Below w.heap.size w w' := by
  have HT := hid ht
  clear ht
  go_enter Try.func21, Try.ntmps21
  go_wp2_with fail
  refine (treeOf_any A n cap g 6 _ h hn).mono ?_
  rintro e w1 ⟨q, rfl, hb, _, hno⟩
  obtain rfl := hno HT.out
  go_wp2_with fail
  go_ret
  exact ⟨rfl, hb⟩

/-- The numbers of the first k nodes that are leaves, in a row of one's own or in none. -/
def LvsTo (g : Nat → Nd) (w0 : World) (k : Nat) (v : Value) (w : World) : Prop :=
  ∃ A' c, v = .slice A' (lfs g k).length c ∧ w.ownsRow w0.heap.size 2 1 (.slice A' (lfs g k).length c) (lfs g k).length (natV (lfs g k)) ∧ Below w0.heap.size w0 w
theorem lfs_len_le (g : Nat → Nd) (k : Nat) : (lfs g k).length ≤ k := by
  have := List.length_filter_le (isLf g) (List.range k)
  rw [List.length_range] at this
  exact this
set_option maxHeartbeats 2000000 in
theorem sLeaves_any (A : Option Addr) (n cap : Nat) (g : Nat → Nd) (B : Bool) (w : World) (h : RdN w w.heap.size A n g) (hn : n ≤ 4194304) (ht : treeB g n 6 = B) :
    Calls Try.prog 23 #[.slice A n cap] w fun e w' => (B = false → e = .returned (.slice none 0 0)) ∧ (B = true → ∃ A' c, e = .returned (.slice A' (lfs g n).length c) ∧ w'.ownsRow w.heap.size 2 1 (.slice A' (lfs g n).length c) (lfs g n).length (natV (lfs g n))) ∧ Below w.heap.size w w' := by
  obtain ⟨i0, hi0, hz0, hz1, hz2⟩ := info_parts info_int
  have HT := hid ht
  clear ht
  go_enter Try.func23, Try.ntmps23
  go_wp2_with fail
  go_loopw [3, 4] (fun v i wr => ∃ k : Nat, k ≤ n ∧ i = .int .i64 k ∧ LvsTo g w k v wr) (fun _ i _ => n - (intOf i).toNat)
  case atStart => exact ⟨0, Nat.zero_le _, rfl, _, _, rfl, World.ownsRow_made w #[] 0 (Nat.le_refl _) (by unfold maxLen; omega) rfl, (Below.refl _ _).alloc (Nat.le_refl _) _⟩
  case round =>
    obtain ⟨k, hk, rfl, A', c, rfl, hown, hbl⟩ := hrel
    by_cases hlt : k < n
    · obtain ⟨b, off, rfl, hb, d0, d1, d2, d3, d4, d5⟩ := (h.below hbl).at_ hlt
      have i1 : (k : Int) < (n : Int) := by omega
      have i2 : (0 : Int) ≤ (k : Int) := by omega
      have hle := lfs_len_le g k
      have hsz := hbl.size
      clear d0 d1 d3 d4 d5
      cases h0 : ((g k).left == 0)
      · have h0' : ¬ (g k).left = 0 := by simpa using h0
        have hls : lfs g (k + 1) = lfs g k := by rw [lfs_succ, if_neg h0', List.append_nil]
        have HLS := hid hls
        clear hls h0'
        go_wp2_with fail
        go_roundw
        case rel => exact ⟨k + 1, by omega, by go_num, A', c, by rw [HLS.out], by rw [HLS.out]; exact hown, hbl⟩
        case measure => simp [intOf]; omega
      · have h0' : (g k).left = 0 := by simpa using h0
        have hls : lfs g (k + 1) = lfs g k ++ [k] := by rw [lfs_succ, if_pos h0']
        have HLS := hid hls
        clear hls h0'
        go_wp2_with (at_builtin; refine wpList_append_own _ rfl (.tmp 18) (.tmp 20) 28 rfl w.heap.size 2 i0 (.int .i64 0) 1 8 Try.underlying28 hi0 hz0 hz1 hz2 rfl (by decide) _ (lfs g k).length _ rfl (hown.alloc _) ⟨wr.heap.size, 0, none⟩ 1 1 [.int .i64 (k : Int)] rfl rfl (cell_one_new _ _ _) (by intro u hu; simp at hu; subst hu; rfl) (by unfold maxLen; omega) (by omega) (by simp; omega) ?_)
        intro v' w3 hown3 hg3 _
        have hbl3 : Below w.heap.size w w3 := (hbl.alloc hsz _).grown hg3 (by simp; omega) (fun x hx => (hown.lt x hx).1)
        obtain ⟨A3, c3, rfl⟩ := own_form hown3
        have HOWN : Hid (w3.ownsRow w.heap.size 2 1 (.slice A3 (lfs g (k + 1)).length c3) (lfs g (k + 1)).length (natV (lfs g (k + 1)))) := by
          show w3.ownsRow _ _ _ _ _ _
          rw [HLS.out, List.length_append, natV_append]
          exact hown3
        clear hg3 hown hbl hown3 d2
        go_wp2_with fail
        go_roundw
        case rel => exact ⟨k + 1, by omega, by go_num, A3, c3, by rw [HLS.out, List.length_append]; rfl, HOWN.out, hbl3⟩
        case measure => simp [intOf]; omega
    · obtain rfl : k = n := by omega
      have hk' := h.to hbl hbl.size
      cases B with
      | false =>
        go_wp2_with fail
        refine (sTreeOk_any A k cap g 6 _ hk' hn).mono ?_
        rintro e w2 ⟨rfl, hb2⟩
        rw [HT.out]
        go_wp2_with fail
        go_ret
        exact ⟨rfl, hbl.trans (hb2.mono hbl.size)⟩
      | true =>
        go_wp2_with fail
        refine (sTreeOk_any A k cap g 6 _ hk' hn).mono ?_
        rintro e w2 ⟨rfl, hb2⟩
        rw [HT.out]
        have hown2 := own_below hown hb2
        go_wp2_with fail
        go_ret
        exact ⟨⟨A', c, rfl, hown2⟩, hbl.trans (hb2.mono hbl.size)⟩
theorem sLeaves_yes (A : Option Addr) (n cap : Nat) (g : Nat → Nd) (w : World) (h : RdN w w.heap.size A n g) (hn : n ≤ 4194304) (ht : treeB g n 6 = true) :
    Calls Try.prog 23 #[.slice A n cap] w (LvsPost g n w) := by
  refine (sLeaves_any A n cap g true w h hn ht).mono ?_
  rintro e w' ⟨_, hy, hb⟩
  obtain ⟨A', c, rfl, hown⟩ := hy rfl
  have hl := lvs_len_le ((treeB_iff g n 6).1 ht)
  obtain ⟨b, c', hv, hbb, hlt⟩ := hown.form (by omega)
  injection hv with h1 _ h3
  subst h1
  have hO : OwnL w' w.heap.size b c (lfs g n) := ⟨hl.2.1, hlt, hown⟩
  obtain ⟨hb1, hrow⟩ := hO.row
  exact ⟨b, c, rfl, hb1, hrow, hb⟩
theorem sLeaves_no (A : Option Addr) (n cap : Nat) (g : Nat → Nd) (w : World) (h : RdN w w.heap.size A n g) (hn : n ≤ 4194304) (ht : treeB g n 6 = false) :
    Calls Try.prog 23 #[.slice A n cap] w fun e w' => e = .returned (.slice none 0 0) ∧ Below w.heap.size w w' := by
  refine (sLeaves_any A n cap g false w h hn ht).mono ?_
  rintro e w' ⟨hy, _, hb⟩
  exact ⟨hy rfl, hb⟩
end Go.Proofs.Ytnhbgagdppbldaa
