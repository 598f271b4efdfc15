/- The text of an ensemble, both sides. -/
import Derived.Test.YtmkipdhappikhaaGreatDoorTxU
import Derived.Test.YtmkipdhappikhaaGreatDoorLaw
import Derived.Test.YtmkipdhappikhaaGreatDoorK8
import Derived.WalkMore
import Derived.IntWalk
import Derived.Laws.OwnMore
namespace Go.Proofs.YtmkipdhappikhaaGreatDoor
open Go.RowKit Go.Deep

def entP (f b : Int) (len : Nat → Nat) (g : Nat → Nat → Nd) : Nat → ByteArray
  | 0 => decS f ++ ⟨#[32]⟩ ++ decS b
  | i + 1 => ntS (len i) (g i)
abbrev sepE : ByteArray := ⟨#[32, 124, 32]⟩
def entS (f b : Int) (n : Nat) (len : Nat → Nat) (g : Nat → Nat → Nd) : ByteArray := joinTo (entP f b len g) sepE (n + 1)
def ensS (f b : Int) (n : Nat) (len : Nat → Nat) (g : Nat → Nat → Nd) : ByteArray := if ensB f b n len g = true then entS f b n len g else ByteArray.empty
def EnIn (f b : Int) (n : Nat) (len : Nat → Nat) (g : Nat → Nat → Nd) : Prop := I64 f ∧ I64 b ∧ n ≤ 12 ∧ ∀ i, i < n → treeB (g i) (len i) 6 = true
theorem ens_in {f b : Int} {n : Nat} {len : Nat → Nat} {g : Nat → Nat → Nd} (h : ensB f b n len g = true) : EnIn f b n len g := by
  obtain ⟨⟨h1, h2⟩, ⟨h3, h4⟩, h5, h6⟩ := ensB_iff.1 h
  refine ⟨⟨by omega, by omega⟩, ⟨by omega, by omega⟩, h5, fun i hi => tree_moreO (h6 i hi) h2 (Int.le_refl _)⟩
theorem tree_sz {n : Nat} {g : Nat → Nd} (h : treeB g n 6 = true) : (ntS n g).size ≤ 1680 := by
  have h1 := ntS_size (tree_in h)
  have h2 := ((treeB_iff g n 6).1 h).2.1.2
  have : n * 112 ≤ 15 * 112 := Nat.mul_le_mul_right _ h2
  omega
theorem tree_le {n : Nat} {g : Nat → Nd} (h : treeB g n 6 = true) : n ≤ 15 := ((treeB_iff g n 6).1 h).2.1.2
theorem treS_yes {n : Nat} {g : Nat → Nd} (h : treeB g n 6 = true) : treS n g = ntS n g := by unfold treS; rw [if_pos h]
theorem entP_size {f b : Int} {n : Nat} {len : Nat → Nat} {g : Nat → Nat → Nd} (h : EnIn f b n len g) : ∀ i, i < n + 1 → (entP f b len g i).size ≤ 1680 := by
  intro i hi
  cases i with
  | zero =>
    have h1 := h.1.size
    have h2 := h.2.1.size
    show (decS f ++ ⟨#[32]⟩ ++ decS b).size ≤ 1680
    rw [ByteArray.size_append, ByteArray.size_append]
    show (decS f).size + 1 + _ ≤ _
    omega
  | succ i => exact tree_sz (h.2.2.2 i (by omega))
theorem ent_size {f b : Int} {n k : Nat} {len : Nat → Nat} {g : Nat → Nat → Nd} (h : EnIn f b n len g) (hk : k ≤ n) : (joinTo (entP f b len g) sepE (k + 1)).size ≤ (k + 1) * 1683 :=
  joinTo_size (f := entP f b len g) (sep := sepE) (M := 1680) (k + 1) (fun i hi => entP_size h i (by omega))
theorem ent_next {f b : Int} {k : Nat} {len : Nat → Nat} {g : Nat → Nat → Nd} : joinTo (entP f b len g) sepE (k + 1 + 1) = joinTo (entP f b len g) sepE (k + 1) ++ sepE ++ ntS (len k) (g k) := by
  show (if 0 < k + 1 then _ else _) ++ _ = _
  rw [if_pos (by omega), entP]
theorem ent_zero {f b : Int} {len : Nat → Nat} {g : Nat → Nat → Nd} : joinTo (entP f b len g) sepE (0 + 1) = decS f ++ ⟨#[32]⟩ ++ decS b := by
  show ByteArray.empty ++ _ = _
  rw [ByteArray.empty_append, entP]

theorem ent_step {f b : Int} {n k : Nat} {len : Nat → Nat} {g : Nat → Nat → Nd} {t : ByteArray} (h : EnIn f b n len g) (hk : k < n) (HT : t = joinTo (entP f b len g) sepE (k + 1)) :
    ∃ t2 t3, t ++ ⟨#[32, 124, 32]⟩ = t2 ∧ t2 ++ ntS (len k) (g k) = t3 ∧ ¬ 9223372036854775807 < t.size + 3 ∧ ¬ 9223372036854775807 < t2.size + (ntS (len k) (g k)).size ∧ Hid (t3 = joinTo (entP f b len g) sepE (k + 1 + 1)) := by
  have h1 := ent_size h (Nat.le_of_lt hk)
  rw [← HT] at h1
  have h2 := tree_sz (h.2.2.2 k hk)
  have h12 := h.2.2.1
  have h3 : (t ++ sepE).size = t.size + 3 := ByteArray.size_append
  refine ⟨_, _, rfl, rfl, ?_, ?_, ?_⟩
  · generalize t.size = m at h1
    omega
  · show ¬ _ < (t ++ sepE).size + _
    rw [h3]
    generalize (ntS (len k) (g k)).size = m at h2
    generalize t.size = m at h1
    omega
  · show _ = _
    rw [ent_next, HT]

/-! ### the other side -/
set_option maxRecDepth 100000 in
set_option maxHeartbeats 2000000 in
theorem sEnt_any (f b : Int) (A : Option Addr) (n c : Nat) (len : Nat → Nat) (g : Nat → Nat → Nd) (w : World) (h : RdT w w.heap.size A n len g) (hin : EnIn f b n len g) :
    Calls Tryz.prog 37 #[enV f b A n c] w fun e w' => e = .returned (.string (entS f b n len g)) ∧ Below w.heap.size w w' := by
  have hw1 := ((Below.refl w.heap.size w).alloc (Nat.le_refl _) (.cells #[.int .i64 f, .int .i64 b, .slice A n c] 26))
  have hB1 := (Blk.new w 26 #[.int .i64 f, .int .i64 b, .slice A n c])
  have h1 := h.to hw1 hw1.size
  obtain ⟨T1, e1, s1, F1⟩ := cat_ (decS f) ⟨#[32]⟩ hin.1.size (one_arr _)
  obtain ⟨T2, e2, s2, F2⟩ := cat_ T1 (decS b) s1 hin.2.1.size
  have u1 := hin.1.size
  have u2 := hin.2.1.size
  have z1 : ¬ 9223372036854775807 < (decS f).size + 1 := by omega
  have z2 : ¬ 9223372036854775807 < T1.size + (decS b).size := by omega
  have HZ : Hid (T2 = joinTo (entP f b len g) sepE (0 + 1)) := by show _ = _; rw [ent_zero, F2.out, F1.out]
  have HI1 := hid hin.1
  have HI2 := hid hin.2.1
  have hn12 := hin.2.2.1
  have HIN := hid hin
  clear hin u1 u2 s1 s2 F1 F2
  go_enter Tryz.func37, Tryz.ntmps37
  go_wp2_with fail
  generalize w.alloc (.cells #[.int .i64 f, .int .i64 b, .slice A n c] 26) = w1 at hw1 hB1 h1 ⊢
  have HC : Hid (∀ W, Below w1.heap.size w1 W → W.cell? ⟨w.heap.size, 0, none⟩ = some (.int .i64 f) ∧ W.cell? ⟨w.heap.size, 1, none⟩ = some (.int .i64 b)) := fun W hW =>
    ⟨(hB1.below hW hB1.lt).cell 0, (hB1.below hW hB1.lt).cell 1⟩
  have DK : Hid (∀ (x : Int) (W : World), I64 x → Below w1.heap.size w1 W → Calls Tryz.prog 77 #[.int .i64 x] W fun e w' => e = .returned (.string (decS x)) ∧ Below w1.heap.size w1 w') := fun x W hx hW =>
    (l1Dec_any x W hx.1 hx.2).mono fun e w' ⟨he, hb⟩ => ⟨he, hW.trans (hb.mono hW.size)⟩
  have D0 := hid ((Below.refl w1.heap.size w1).drew)
  have HW1 := hid hw1
  have HBL := hid hB1
  have HR1 := hid h1
  clear hB1 hw1 h1
  refine region_classT (C := fun W => Below w1.heap.size w1 W) (by kernel_rfl) (by kernel_rfl) D0.out ?_
  repeat
    with_reducible refine wpQuiet_step (fun K hK => ?_)
    first
      | (rw [if_pos (by rfl)]; apply Exists.intro; refine ⟨fun W hW => ?_, hK _ ?_⟩; (first
          | (obtain ⟨v1, v2⟩ := HC.out W hW; go_simp <;> with_reducible rfl)
          | (go_simp; go_at_call 77; with_reducible refine Calls.mono (DK.out f W HI1.out hW) ?_; rintro e w5 ⟨rfl, hb5⟩; exact ⟨rfl, hb5⟩)
          | (go_simp; go_at_call 77; with_reducible refine Calls.mono (DK.out b W HI2.out hW) ?_; rintro e w5 ⟨rfl, hb5⟩; exact ⟨rfl, hb5⟩)); clear hK K; (try simp only [Act.put, List.setIfInBounds_toArray, List.set_cons_zero, List.set_cons_succ]))
      | (refine Eq.mpr (if_neg ?_) (hK _ ?_); exact (fun h => Bool.false_ne_true h); clear hK K; (try simp only [Act.put, List.setIfInBounds_toArray, List.set_cons_zero, List.set_cons_succ]))
  refine wpQuiet_nil ?_
  intro WZ hZ'
  have hZ : Below w1.heap.size w1 WZ := hZ'
  clear hZ'
  have hbZ := hid (HW1.out.trans (hZ.mono HW1.out.size))
  have hBZ := HBL.out.below hZ HBL.out.lt
  have hRZ := HR1.out.to hZ hZ.size
  clear hZ HC DK D0 e1 e2 z1 z2
  go_wp2_with fail
  go_loopw [3, 4] (fun s i wr => ∃ (k : Nat) (t : ByteArray), k ≤ n ∧ i = .int .i64 k ∧ s = .string t ∧ Hid (t = joinTo (entP f b len g) sepE (k + 1)) ∧ Hid (Below WZ.heap.size WZ wr))
    (fun _ i _ => n - (intOf i).toNat)
  case atStart => exact ⟨0, _, Nat.zero_le _, rfl, rfl, HZ, Below.refl _ _⟩
  case round =>
    obtain ⟨k, t, hk, rfl, rfl, HT, hbl⟩ := hrel
    have c2 : wr.cell? ⟨w.heap.size, 2, none⟩ = some (.slice A n c) := (hBZ.below hbl.out hBZ.lt).cell 2
    by_cases hlt : k < n
    · obtain ⟨bb, off, Ai, ci, rfl, hbb, hc, hrd⟩ := (hRZ.below hbl.out).at_ hlt
      have i1 : (k : Int) < (n : Int) := by omega
      have i0 : (0 : Int) ≤ (k : Int) := by omega
      have htr := HIN.out.2.2.2 k hlt
      have hl15 := tree_le htr
      obtain ⟨t2, t3, ht2, ht3, z1, z2, HE⟩ := ent_step HIN.out hlt HT.out
      have HTR := hid htr
      clear HT htr
      go_wp2_with fail
      refine (sTree_any Ai (len k) ci (g k) _ (hrd.more hbl.out.size) (by omega) (tree_in HTR.out)).mono ?_
      rintro e w5 ⟨rfl, hb5⟩
      have hbl5 := hid (hbl.out.trans (hb5.mono hbl.out.size))
      clear hb5 c2 hc
      go_wp2_with fail
      go_roundw
      case rel => exact ⟨k + 1, _, by omega, by go_num, rfl, HE, hbl5⟩
      case measure => simp [intOf]; omega
    · have e : k = n := by omega
      subst e
      go_wp2_with fail
      go_ret
      exact ⟨ret_strT HT.out, hbZ.out.trans (hbl.out.mono hbZ.out.size)⟩

theorem sEnsText_any (f b : Int) (A : Option Addr) (n c : Nat) (len : Nat → Nat) (g : Nat → Nat → Nd) (w : World) (h : RdT w w.heap.size A n len g) (hn : n ≤ 4194304) (hlen : Hid (∀ i, i < n → len i ≤ 4194304)) :
    Calls Tryz.prog 11 #[enV f b A n c] w fun e w' => e = .returned (.string (ensS f b n len g)) ∧ Below w.heap.size w w' := by
  have hw1 := ((Below.refl w.heap.size w).alloc (Nat.le_refl _) (.cells #[.int .i64 f, .int .i64 b, .slice A n c] 26))
  have hB1 := (Blk.new w 26 #[.int .i64 f, .int .i64 b, .slice A n c])
  have h1 := h.to hw1 hw1.size
  go_enter Tryz.func11, Tryz.ntmps11
  go_wp2_with fail
  refine (sEnsOk_any f b A n c len g _ h1 hn hlen).mono ?_
  rintro e w2 ⟨rfl, hb2⟩
  have hB2 := hB1.below hb2 hB1.lt
  have hw2 := hw1.trans (hb2.mono hw1.size)
  have h2 := h1.to hb2 hb2.size
  obtain ⟨c0, c1, c2, _, _, _⟩ := blk_cells3 hB2
  clear hB1 hw1 h1 hb2 hB2
  cases ht : ensB f b n len g
  · have HT : Hid (ensS f b n len g = ⟨#[]⟩) := by show _ = _; unfold ensS; rw [ht]; rfl
    clear ht
    go_wp2_with fail
    go_ret
    exact ⟨ret_strT HT.out.symm, hw2⟩
  · have HT : Hid (ensS f b n len g = entS f b n len g) := by show _ = _; unfold ensS; rw [ht]; rfl
    have HI := hid (ens_in ht)
    clear ht
    go_wp2_with fail
    refine (sEnt_any f b A n c len g _ h2 HI.out).mono ?_
    rintro e w3 ⟨rfl, hb3⟩
    go_wp2_with fail
    go_ret
    exact ⟨ret_strT HT.out.symm, hw2.trans (hb3.mono hw2.size)⟩
end Go.Proofs.YtmkipdhappikhaaGreatDoor
