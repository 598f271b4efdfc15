/- The text of an ensemble, this side, and the law's walk. -/
import Derived.Test.YtmkipdhappikhaaGreatDoorTxV
namespace Go.Proofs.YtmkipdhappikhaaGreatDoor
open Go.RowKit Go.Deep

def strT (L : List ByteArray) : List Value := L.map Value.string
theorem strT_len (L : List ByteArray) : (strT L).length = L.length * 1 := by simp [strT]
theorem strT_snoc (L : List ByteArray) (x : ByteArray) : strT (L ++ [x]) = strT L ++ [.string x] := by simp [strT]
theorem own_belowT {w w' : World} {base : Nat} {e : TypeId} {size : Nat} {v : Value} {n : Nat} {xs : List Value} (h : w.ownsRow base e size v n xs) (hb : Below w.heap.size w w') : w'.ownsRow base e size v n xs :=
  h.kept (row := none) ⟨hb.os, hb.tape, hb.output, hb.size, fun i hi _ => hb.block i hi⟩ (by cases hv : v.ownBlock <;> simp)
theorem info_strT_parts : ∃ i0, Tryz.prog.info? 9 = some i0 ∧ i0.zero = some (.string ByteArray.empty) ∧ i0.size = 1 ∧ i0.bytes = 16 := by
  obtain ⟨i0, hi, hx⟩ := Option.map_eq_some_iff.1 info_strT
  simp only [Prod.mk.injEq] at hx
  exact ⟨i0, hi, hx.1, hx.2.1, hx.2.2⟩
theorem own_formT {w : World} {base : Nat} {e : TypeId} {size : Nat} {v : Value} {n : Nat} {xs : List Value} (h : w.ownsRow base e size v n xs) : ∃ A c, v = .slice A n c := by
  rcases h.2 with ⟨rfl, rfl⟩ | ⟨g, cap, cur, rfl, _⟩
  · exact ⟨_, _, rfl⟩
  · exact ⟨_, _, rfl⟩
theorem cell_one_newT (w : World) (x : Value) (t : TypeId) : ∀ j u, [x][j]? = some u → (w.alloc (.cells #[x] t)).cell? ((⟨w.heap.size, 0, none⟩ : Addr).add j) = some u := fun j u hj => by
  obtain rfl : j = 0 := by rcases j with _ | j <;> simp_all
  simp at hj
  subst hj
  rw [Addr.add_lit]
  exact (Blk.new w t #[x]).cell 0
/-- A row of one's own, of strings: where it lies. -/
theorem own_strT {w : World} {base n c : Nat} {A : Option Addr} {L : List ByteArray} (h : w.ownsRow base 9 1 (.slice A n c) n (strT L)) (hn : 0 < n) :
    ∃ gb, A = some ⟨gb, 0, none⟩ ∧ gb < w.heap.size ∧ n ≤ c ∧ ∀ (j : Nat) x, L[j]? = some x → w.cell? ⟨gb, 0 + j, none⟩ = some (.string x) := by
  have hl := h.1
  rw [strT_len] at hl
  rcases h.2 with ⟨_, h0⟩ | ⟨gb, cap, cur, hv, hb, hh, hnc, _⟩
  · omega
  · injection hv with hA _ hC
    subst hA hC
    refine ⟨gb, rfl, Blk.lt (w := w) (g := gb) (t := 9) (cs := cur) hh, hnc, fun j x hx => ?_⟩
    have hj : j < L.length := (List.getElem?_eq_some_iff.1 hx).1
    rw [Nat.zero_add, h.cellAt j (by omega)]
    unfold strT
    rw [List.getElem?_map, hx]
    rfl
/-- The list of the parts up to k. -/
def entL (f b : Int) (len : Nat → Nat) (g : Nat → Nat → Nd) (k : Nat) : List ByteArray := (List.range k).map (entP f b len g)
theorem entL_succ {f b : Int} {len : Nat → Nat} {g : Nat → Nat → Nd} {k : Nat} : entL f b len g (k + 1) = entL f b len g k ++ [entP f b len g k] := by
  unfold entL
  rw [List.range_succ, List.map_append]
  rfl
theorem entL_len {f b : Int} {len : Nat → Nat} {g : Nat → Nat → Nd} {k : Nat} : (entL f b len g k).length = k := by simp [entL]

set_option maxRecDepth 100000 in
set_option maxHeartbeats 2000000 in
theorem iEnsText_any (f b : Int) (A : Option Addr) (n c : Nat) (len : Nat → Nat) (g : Nat → Nat → Nd) (w : World) (h : RdT w w.heap.size A n len g) (hn : n ≤ 4194304) (hlen : Hid (∀ i, i < n → len i ≤ 4194304)) (hp : Hid (Pow w w.heap.size)) :
    Calls Tryz.prog 7 #[enV f b A n c] w fun e w' => e = .returned (.string (ensS f b n len g)) ∧ Below w.heap.size w w' := by
  have hw1 := ((Below.refl w.heap.size w).alloc (Nat.le_refl _) (.cells #[.int .i64 f, .int .i64 b, .slice A n c] 26))
  have hB1 := (Blk.new w 26 #[.int .i64 f, .int .i64 b, .slice A n c])
  have h1 := h.to hw1 hw1.size
  go_enter Tryz.func7, Tryz.ntmps7
  go_wp2_with fail
  refine (iEnsOk_any f b A n c len g _ h1 hn hlen).mono ?_
  rintro e w2 ⟨rfl, hb2⟩
  have hB2 := hB1.below hb2 hB1.lt
  have hw2 := hw1.trans (hb2.mono hw1.size)
  have h2 := h1.to hb2 hb2.size
  clear hB1 hw1 h1 hb2
  cases ht : ensB f b n len g
  · have HT : Hid (ensS f b n len g = ⟨#[]⟩) := by show _ = _; unfold ensS; rw [ht]; rfl
    clear ht
    go_wp2_with fail
    go_ret
    exact ⟨ret_strT HT.out.symm, hw2⟩
  · have HT : Hid (ensS f b n len g = entS f b n len g) := by show _ = _; unfold ensS; rw [ht]; rfl
    have hin := ens_in ht
    clear ht
    obtain ⟨T1, e1, s1, F1⟩ := cat_ (decS f) ⟨#[32]⟩ hin.1.size (one_arr _)
    obtain ⟨T2, e2, s2, F2⟩ := cat_ T1 (decS b) s1 hin.2.1.size
    have u1 := hin.1.size
    have u2 := hin.2.1.size
    have z1 : ¬ 9223372036854775807 < (decS f).size + 1 := by omega
    have z2 : ¬ 9223372036854775807 < T1.size + (decS b).size := by omega
    have HZ : Hid (T2 = entP f b len g 0) := by show _ = _; rw [entP, F2.out, F1.out]
    have HI1 := hid hin.1
    have HI2 := hid hin.2.1
    have hn12 := hin.2.2.1
    have HIN := hid hin
    have HC : Hid (∀ W, Below w2.heap.size w2 W → W.cell? ⟨w.heap.size, 0, none⟩ = some (.int .i64 f) ∧ W.cell? ⟨w.heap.size, 1, none⟩ = some (.int .i64 b)) := fun W hW =>
      ⟨(hB2.below hW hB2.lt).cell 0, (hB2.below hW hB2.lt).cell 1⟩
    have DK : Hid (∀ (x : Int) (W : World), I64 x → Below w2.heap.size w2 W → Calls Tryz.prog 24 #[.int .i64 x] W fun e w' => e = .returned (.string (decS x)) ∧ Below w2.heap.size w2 w') := fun x W hx hW =>
      (decimal_any x W hx.1 hx.2 (hid (hp.out W (hw2.trans (hW.mono hw2.size))))).mono fun e w' ⟨he, hb⟩ => ⟨he, hW.trans (hb.mono hW.size)⟩
    have D0 := hid ((Below.refl w2.heap.size w2).drew)
    have HW2 := hid hw2
    have HB2 := hid hB2
    have HR2 := hid h2
    clear hin u1 u2 s1 s2 F1 F2 hB2 hw2 h2
    go_wp2_with fail
    go_region_held3 (fun w' => w'.cell? ⟨w.heap.size, 0, none⟩ = some (.int .i64 f) ∧ w'.cell? ⟨w.heap.size, 1, none⟩ = some (.int .i64 b))
      (first | (with_reducible exact HC.out _ hk4) | exact HC.out _ (hk4.alloc hk4.size _) | (with_reducible exact HC.out _ hk3) | exact HC.out _ D0.out)
      (first
        | (go_at_call 24; refine (DK.out f w2.drew HI1.out D0.out).mono ?_; rintro e w3 ⟨rfl, hk3⟩)
        | (go_at_call 24; refine (DK.out b w3 HI2.out hk3).mono ?_; rintro e w4 ⟨rfl, hk4⟩))
    have HOW : Hid ((w4.alloc (.cells #[.string T2] 9)).ownsRow w.heap.size 9 1 (.slice (some ⟨w4.heap.size, 0, none⟩) (0 + 1) 1) (0 + 1) (strT (entL f b len g (0 + 1)))) := by
      show World.ownsRow _ _ _ _ _ _ _
      rw [entL_succ, ← HZ.out]
      exact World.ownsRow_lit w4 #[.string T2] 1 (Nat.le_trans HW2.out.size hk4.size) (by unfold maxLen; omega) rfl
    have hkZ := hk4.alloc hk4.size (.cells #[.string T2] 9)
    have hBZ := HB2.out.below hkZ HB2.out.lt
    have hRZ := HR2.out.to hkZ hkZ.size
    have hbZ := hid (HW2.out.trans (hkZ.mono HW2.out.size))
    clear HC DK D0 e1 e2 z1 z2 hk3 hk4 hkZ
    generalize w4.alloc (.cells #[.string T2] 9) = WZ at hBZ hRZ hbZ HOW ⊢
    have cz : WZ.cell? ⟨w.heap.size, 2, none⟩ = some (.slice A n c) := hBZ.cell 2
    go_wp2_with fail
    go_loopw [3, 21] (fun s i wr => ∃ (k : Nat) (R : Option Addr) (d : Nat), k ≤ n ∧ i = .int .i64 k ∧ s = .slice R (k + 1) d ∧ Hid (wr.ownsRow w.heap.size 9 1 (.slice R (k + 1) d) (k + 1) (strT (entL f b len g (k + 1)))) ∧ Hid (Below w.heap.size w wr) ∧ Hid (RdT wr w.heap.size A n len g))
      (fun _ i _ => n - (intOf i).toNat)
    case atStart => exact ⟨0, _, _, Nat.zero_le _, rfl, rfl, HOW, hbZ.out, h.below hbZ.out⟩
    case round =>
      obtain ⟨k, R, d, hk, rfl, rfl, hown, hbl, hrd⟩ := hrel
      by_cases hlt : k < n
      · obtain ⟨bb, off, Ai, ci, rfl, hbb, hc, hrn⟩ := hrd.out.at_ hlt
        have i1 : (k : Int) < (n : Int) := by omega
        have i0 : (0 : Int) ≤ (k : Int) := by omega
        have htr := HIN.out.2.2.2 k hlt
        have hl15 := tree_le htr
        have HTR := hid htr
        have hpw : Hid (Pow wr wr.heap.size) := fun W' hW' => hp.out W' (hbl.out.trans (hW'.mono hbl.out.size))
        clear htr
        go_wp2_with fail
        refine (iTreeText_any Ai (len k) ci (g k) _ (hrn.more hbl.out.size) (by omega) hpw).mono ?_
        rintro e w5 ⟨rfl, hb5⟩
        rw [treS_yes HTR.out]
        have hbl5 := hbl.out.trans (hb5.mono hbl.out.size)
        have hown5 := own_belowT hown.out hb5
        clear hb5 hc hrn
        obtain ⟨i0, hi0, hz0, hz1, hz2⟩ := info_strT_parts
        have hsz5 := hbl5.size
        go_wp2_with (at_builtin; refine wpList_append_own _ rfl (.tmp 25) (.tmp 28) 44 rfl w.heap.size 9 i0 (.string ByteArray.empty) 1 16 Tryz.underlying44 hi0 hz0 hz1 hz2 rfl (by decide) _ (k + 1) _ rfl (hown5.alloc _) ⟨w5.heap.size, 0, none⟩ 1 1 [.string (ntS (len k) (g k))] rfl rfl (cell_one_newT _ _ _) (by intro u hu; simp at hu; subst hu; rfl) (by unfold maxLen; omega) (by omega) (by simp; omega) ?_)
        clear hi0 hz0 hz1 hz2
        intro v' w6 hown6 hg6 _
        have hbl6 : Below w.heap.size w w6 := (hbl5.alloc hbl5.size _).grown hg6 (by simp; omega) (fun x hx => (hown5.lt x hx).1)
        obtain ⟨A6, c6, rfl⟩ := own_formT hown6
        have HO6 : Hid (w6.ownsRow w.heap.size 9 1 (.slice A6 (k + 1 + 1) c6) (k + 1 + 1) (strT (entL f b len g (k + 1 + 1)))) := by
          show World.ownsRow _ _ _ _ _ _ _
          rw [entL_succ, strT_snoc]
          exact hown6
        clear hg6 hown5 hown6 hbl5
        go_wp2_with fail
        go_roundw
        case rel => exact ⟨k + 1, A6, c6, by omega, by go_num, rfl, HO6, hbl6, h.below hbl6⟩
        case measure => simp [intOf]; omega
      · have e : k = n := by omega
        subst e
        obtain ⟨gb, rfl, hgb, hdc, hcl⟩ := own_strT hown.out (by omega)
        have hJ := strings_Join gb 0 d (entL f b len g (k + 1)) ⟨#[32, 124, 32]⟩ wr hcl hgb (by rw [entL_len]; omega) (by rw [entL_len]; exact hdc) (join_len (Nat.le_trans (ent_size HIN.out (Nat.le_refl _)) (by omega)))
        rw [entL_len] at hJ
        unfold entL at hJ
        have HJ : Hid (Calls Tryz.prog 26 #[.slice (some ⟨gb, 0, none⟩) (k + 1) d, .string ⟨#[32, 124, 32]⟩] wr fun e w' => e = .returned (.string (entS f b k len g)) ∧ Below wr.heap.size wr w') := by
          show Calls _ _ _ _ _
          refine hJ.mono ?_
          rintro e w' ⟨rfl, hb⟩
          exact ⟨ret_strT (join_is _ _ _), hb⟩
        clear hJ hcl hown cz
        go_wp2_with fail
        refine HJ.out.mono ?_
        rintro e w6 ⟨rfl, hb6⟩
        have hfin := hbl.out.trans (hb6.mono hbl.out.size)
        go_wp2_with fail
        go_ret
        exact ⟨ret_strT HT.out.symm, hfin⟩
end Go.Proofs.YtmkipdhappikhaaGreatDoor
