/- How far a document goes in a tree; one tree of a packed ensemble walked. -/
import Derived.Test.YtlgomifpohdniaaGreatFlatJ
import Derived.Test.YtlgomifpohdniaaGreatK9
namespace Go.Proofs.YtlgomifpohdniaaGreat
open Go.RowKit Go.Deep
set_option linter.unusedVariables false
set_option linter.unusedSimpArgs false

/-- How many splits are on a document's path. -/
def splN (g : Nat → Nd) (z : Nat → Int) : Nat → Nat → Nat
  | 0, t => t
  | f + 1, t => if (g (itr g z t)).left = 0 then t else splN g z f (t + 1)
def spl (g : Nat → Nd) (z : Nat → Int) : Nat := splN g z 15 0
theorem spl_is {g : Nat → Nd} {z : Nat → Int} {T : Nat} (hE : Ends g z T) (hT : T < 15) : spl g z = T := by
  have key : ∀ f t, t ≤ T → T - t < f → splN g z f t = T := by
    intro f
    induction f with
    | zero => intro t _ h; omega
    | succ f ih =>
      intro t ht h
      by_cases e : t = T
      · subst e
        show (if (g (itr g z t)).left = 0 then t else splN g z f (t + 1)) = t
        rw [if_pos hE.2]
      · show (if (g (itr g z t)).left = 0 then t else splN g z f (t + 1)) = T
        rw [if_neg (hE.1 t (by omega))]
        exact ih (t + 1) (by omega) (by omega)
  exact key 15 0 (Nat.zero_le _) (by omega)
theorem spl_tree {g : Nat → Nd} {n : Nat} {f : Int} (z : Nat → Int) (h : treeB g n f = true) : Ends g z (spl g z) ∧ spl g z < n := by
  have hT := (treeB_iff g n f).1 h
  obtain ⟨T, hlt, hE⟩ := ends_some z hT.up (by have := hT.2.1; omega)
  rw [spl_is hE (by have := hT.2.1; omega)]
  exact ⟨hE, hlt⟩
theorem allN_atS {len : Nat → Nat} {g : Nat → Nat → Nd} {i a : Nat} (ha : a < len i) : ∀ n, i < n → allN len g n (cumT len i + a) = mvN (g i a) (cumT len i) ∧ cumT len i + a < cumT len n := by
  intro n
  induction n with
  | zero => intro h; omega
  | succ n ih =>
    intro h
    by_cases e : i = n
    · subst e
      exact ⟨allN_new, by simp only [cumT]; omega⟩
    · obtain ⟨h1, h2⟩ := ih (by omega)
      exact ⟨(allN_old h2).trans h1, by simp only [cumT]; omega⟩
theorem mvN_split {d : Nd} {c : Int} (h : d.left ≠ 0) : mvN d c = ⟨d.feat, d.cut, d.left + c, d.right + c, d.miss, d.value⟩ := by unfold mvN; rw [if_neg h]
theorem mvN_leaf {d : Nd} {c : Int} (h : d.left = 0) : mvN d c = d := by unfold mvN; rw [if_pos h]
/-- What a place of the words of a right tree holds. -/
theorem word_at {n i a p : Nat} {len : Nat → Nat} {g : Nat → Nat → Nd} (hi : i < n) (hn : n ≤ 12) (hp : p ≤ 6) (ht : treeB (g i) (len i) p = true) (hlen : ∀ i, i < n → 1 ≤ len i ∧ len i ≤ 15) (ha : a < len i) :
    ndW (wordZ len g n (cumT len i + a)) = mvN (g i a) (cumT len i) ∧ cumT len i + a < cumT len n := by
  obtain ⟨h1, h2⟩ := allN_atS (g := g) ha n hi
  refine ⟨?_, h2⟩
  unfold wordZ
  rw [h1]
  obtain ⟨hl, hN⟩ := treeB_node ht ha
  have hc := cumT_le (M := 15) (fun j hj => (hlen j hj).2) i (by omega)
  exact ndW_wd _ (fit_mv (f := (p : Int)) (cumT len i) hl (by omega) (by omega) hN)
abbrev pkC (f b : Int) (Ar : Option Addr) (nr cr : Nat) (Aw : Option Addr) (nw cw : Nat) : Array Value := #[.int .i64 f, .int .i64 b, .slice Ar nr cr, .slice Aw nw cw]
theorem dropEnd {g : Nat → Nd} {z : Nat → Int} {T : Nat} (hE : Ends g z T) (hT : T < 15) {c : Int} : (mvN (g (itr g z T)) c).value = lvv g z := by
  rw [mvN_leaf hE.2, lvv_is hE hT]
theorem mv_left {d : Nd} {c : Nat} (h : 0 ≤ d.left) : ((mvN d (c : Int)).left == 0) = (d.left == 0) := by
  unfold mvN
  by_cases e : d.left = 0
  · rw [if_pos e]
  · rw [if_neg e]
    have h1 : (d.left == 0) = false := by simpa using e
    have h2 : (d.left + (c : Int) == 0) = false := by simp; omega
    rw [h1]; exact h2

set_option maxRecDepth 100000 in
set_option maxHeartbeats 4000000 in
theorem drop_any (f b : Int) (Ar : Option Addr) (nr cr : Nat) (Aw : Option Addr) (cw n : Nat) (len : Nat → Nat) (g : Nat → Nat → Nd) (i : Nat) (D : Option Addr) (p dc : Nat) (z : Nat → Int) (w : World)
    (hw : RdW w w.heap.size Aw (cumT len n) (wordZ len g n)) (hd : Rd w w.heap.size D p z) (hi : i < n) (hn : n ≤ 12) (hp : p ≤ 6) (ht : Hid (treeB (g i) (len i) p = true)) (hlen : Hid (∀ i, i < n → 1 ≤ len i ∧ len i ≤ 15)) :
    Calls Tryz.prog 49 #[.agg (pkC f b Ar nr cr Aw (cumT len n) cw), .int .i64 (cumT len i), .slice D p dc] w fun e w' =>
      e = .returned (.tuple #[.int .i64 (lvv (g i) z), .int .i64 (spl (g i) z)]) ∧ Below w.heap.size w w' := by
  obtain ⟨hE, hTl⟩ := spl_tree z ht.out
  have hTr := (treeB_iff _ _ _).1 ht.out
  obtain ⟨hl1, hl15⟩ := hlen.out i hi
  have hC := cumT_le (M := 15) (fun j hj => (hlen.out j hj).2) i (by omega)
  have hCn := cumT_le (M := 15) (fun j hj => (hlen.out j hj).2) n (Nat.le_refl n)
  obtain ⟨T, hT⟩ : ∃ T, spl (g i) z = T := ⟨_, rfl⟩
  rw [hT] at hE hTl ⊢
  have hEv := dropEnd hE (by omega) (c := (cumT len i : Nat))
  obtain ⟨V, hV⟩ : ∃ V, lvv (g i) z = V := ⟨_, rfl⟩
  rw [hV] at hEv ⊢
  have HEV := hid hEv
  have HE := hid hE
  have HW : Hid (∀ a, a < len i → ndW (wordZ len g n (cumT len i + a)) = mvN (g i a) (cumT len i : Nat) ∧ cumT len i + a < cumT len n) := fun a ha => word_at hi hn hp ht.out hlen.out ha
  have HUP := hid hTr.up
  obtain ⟨C, hCe⟩ : ∃ C, cumT len i = C := ⟨_, rfl⟩
  obtain ⟨M, hM⟩ : ∃ M, cumT len n = M := ⟨_, rfl⟩
  obtain ⟨zw, hzw⟩ : ∃ zw, wordZ len g n = zw := ⟨_, rfl⟩
  rw [hCe] at HEV hC
  rw [hCe, hM, hzw] at HW
  rw [hM, hzw] at hw
  rw [hM] at hCn
  rw [hCe, hM]
  clear hT hV hEv hE hCe hM hzw hTr
  have hsz : Hid (∀ t, t < T → itr (g i) z t < len i ∧ itr (g i) z (t + 1) < len i) := fun t ht' => ⟨(itr_up z HUP.out (by omega) t fun s hs => HE.out.1 s (by omega)).2, (itr_up z HUP.out (by omega) (t + 1) fun s hs => HE.out.1 s (by omega)).2⟩
  obtain ⟨hw0, hM0⟩ := HW.out 0 (by omega)
  rw [Nat.add_zero] at hw0 hM0
  obtain ⟨wb, wo, rfl, hwb, hwc⟩ := hw.at_ hM0
  have i1 : (C : Int) < (M : Int) := by omega
  have i2 : (0 : Int) ≤ (C : Int) := by omega
  go_enter Tryz.func49, Tryz.ntmps49
  go_wp2_with fail
  refine (wnode_any _ _).mono ?_
  rintro e w1 ⟨rfl, hb1⟩
  rw [hw0]
  have hP1 : Blk w1 w.heap.size 66 (pkC f b Ar nr cr (some ⟨wb, wo, none⟩) M cw) := (Blk.new w _ _).below hb1 (by simp)
  have hB1 : Below w.heap.size w w1 := ((Below.refl _ _).alloc (Nat.le_refl _) _).trans (hb1.mono (by simp))
  obtain ⟨nb, hnb⟩ : ∃ nb, w1.heap.size = nb := ⟨_, rfl⟩
  have hne : w.heap.size < nb := by have := hP1.lt; omega
  have hN1 := Blk.new w1 80 (ndR (mvN (g i 0) (C : Nat)))
  have hP2 := hid (hP1.alloc (.cells (ndR (mvN (g i 0) (C : Nat))) 80))
  have hB2 := hid (hB1.alloc hB1.size (.cells (ndR (mvN (g i 0) (C : Nat))) 80))
  rw [hnb] at hN1
  have HN1 := hid hN1
  clear hP1 hB1 hb1 hN1 hwc hw0 hM0
  go_wp2_with fail
  try rw [hnb]
  obtain ⟨W2, hW2⟩ : ∃ W, w1.alloc (.cells (ndR (mvN (g i 0) (C : Nat))) 80) = W := ⟨_, rfl⟩
  rw [hW2] at HN1 hP2 hB2
  try rw [hW2]
  clear hW2 hnb
  go_loopw [7, 9] (fun s x wr => ∃ t : Nat, t ≤ T ∧ s = .int .i64 (t : Nat) ∧ Hid (Blk wr nb 80 (ndR (mvN (g i (itr (g i) z t)) (C : Nat)))) ∧ Hid (Blk wr w.heap.size 66 (pkC f b Ar nr cr (some ⟨wb, wo, none⟩) M cw)) ∧ Hid (Below w.heap.size w wr)) (fun s _ _ => T - (intOf s).toNat)
  case atStart => exact ⟨0, Nat.zero_le _, rfl, HN1, hP2, hB2⟩
  case round =>
    clear HN1 hP2 hB2
    obtain ⟨t, htT, rfl, HN, HP, HB⟩ := hrel
    have ha : itr (g i) z t < len i := (itr_up z HUP.out (by omega) t fun s hs => HE.out.1 s (by omega)).2
    have hNd := (treeB_node ht.out ha).2
    by_cases hEnd : t = T
    · subst hEnd
      have hlf : ((mvN (g i (itr (g i) z t)) (C : Nat)).left == 0) = true := by rw [mvN_leaf HE.out.2]; simpa using HE.out.2
      have hval := HEV.out
      obtain ⟨d, hd0⟩ : ∃ d, mvN (g i (itr (g i) z t)) (C : Nat) = d := ⟨_, rfl⟩
      rw [hd0] at hlf hval HN
      obtain ⟨fe, cu, le, ri, mi, va⟩ := d
      simp only at hlf hval
      subst hval
      clear hd0 hsz HW HE HUP ha hNd
      go_wp2_with (first | (refine wpList_load_row rfl 80 _ rfl nb rfl 80 (ndR ⟨fe, cu, le, ri, mi, va⟩) _ _ HN.out Tryz.underlying80 rfl size_nodeF ?_))
      refine (isLeaf_any ⟨fe, cu, le, ri, mi, va⟩ _).mono ?_
      rintro e w3 ⟨rfl, hb3⟩
      simp only [hlf]
      have hN3 := HN.out.below hb3 HN.out.lt
      have c5 : w3.cell? ⟨nb, 5, none⟩ = some (.int .i64 va) := hN3.cell 5
      have HB3 := hid (HB.out.trans (hb3.mono HB.out.size))
      clear HN HP HB hb3 hN3 hlf
      go_wp2_with fail
      go_ret2
      exact ⟨rfl, HB3.out⟩
    · have h0 := HE.out.1 t (by omega)
      obtain ⟨hf0, hf1⟩ := split_feat hNd h0
      obtain ⟨k, hk⟩ : ∃ k : Nat, (g i (itr (g i) z t)).feat = (k : Int) := ⟨(g i (itr (g i) z t)).feat.toNat, by omega⟩
      have hkp : k < p := by omega
      have hnx := nxI_nxt (z := z) HUP.out ha h0 hk
      have hus : itr (g i) z (t + 1) < len i := (itr_up z HUP.out (by omega) (t + 1) fun s hs => HE.out.1 s (by omega)).2
      have hu0 := HUP.out _ ha h0
      obtain ⟨hW1, hW2⟩ := HW.out _ hus
      have hstep : itr (g i) z (t + 1) = nxt (g i) z (itr (g i) z t) := rfl
      have hmv := mvN_split (d := g i (itr (g i) z t)) (c := (C : Nat)) h0
      obtain ⟨d, hd0⟩ : ∃ d, g i (itr (g i) z t) = d := ⟨_, rfl⟩
      rw [hd0] at hmv hk hnx hu0 h0
      obtain ⟨fe, cu, le, ri, mi, va⟩ := d
      simp only at hmv hk hu0 h0
      subst hk
      rw [hd0, hmv] at HN
      have hs : (le + (C : Int) == 0) = false := by simp; omega
      obtain ⟨lp, hlp⟩ : ∃ v, le + (C : Int) = v := ⟨_, rfl⟩
      obtain ⟨rp, hrp⟩ : ∃ v, ri + (C : Int) = v := ⟨_, rfl⟩
      rw [hlp] at hs
      rw [hlp, hrp] at HN
      have HLP := hid hlp
      have HRP := hid hrp
      clear hlp hrp
      obtain ⟨nx, hnxe⟩ : ∃ nx, itr (g i) z (t + 1) = nx := ⟨_, rfl⟩
      rw [← hstep, hnxe] at hnx
      rw [hnxe] at hW1 hW2
      obtain ⟨wb', wo', hA', _, hwc⟩ := hw.at_ hW2
      injection hA' with hA'
      injection hA' with q1 q2
      subst q1 q2
      obtain ⟨db, dof, rfl, hdb, hdc⟩ := hd.at_ hkp
      obtain ⟨x, hx⟩ : ∃ x, z k = x := ⟨_, rfl⟩
      rw [hx] at hnx hdc
      have HX := hid hx
      have HNX := hid hnxe
      have HNI := hid hnx
      have HW1 := hid hW1
      clear hd0 hmv hsz hx hnxe hnx hW1 hstep hNd
      have k1 : (k : Int) < (p : Int) := by omega
      have k0 : (0 : Int) ≤ (k : Int) := by omega
      go_wp2_with (first | (refine wpList_load_row rfl 80 _ rfl nb rfl 80 (ndR ⟨(k : Int), cu, lp, rp, mi, va⟩) _ _ HN.out Tryz.underlying80 rfl size_nodeF ?_))
      refine (isLeaf_any ⟨(k : Int), cu, lp, rp, mi, va⟩ _).mono ?_
      rintro e w3 ⟨rfl, hb3⟩
      simp only [hs]
      have hN3 := HN.out.below hb3 HN.out.lt
      have hP3 := HP.out.below hb3 HP.out.lt
      have HB3 := hid (HB.out.trans (hb3.mono HB.out.size))
      have hnl := hN3.lt
      have hdl : db < w3.heap.size := by have := HB3.out.size; omega
      have hcx : w3.cell? ⟨db, dof + k, none⟩ = some (.int .i64 x) := (HB3.out.cell (p := ⟨db, dof + k, none⟩) hdb).trans hdc
      have c0 : w3.cell? ⟨nb, 0, none⟩ = some (.int .i64 (k : Int)) := hN3.cell 0
      have c1 : w3.cell? ⟨nb, 1, none⟩ = some (.int .i64 cu) := hN3.cell 1
      have c2 : w3.cell? ⟨nb, 2, none⟩ = some (.int .i64 lp) := hN3.cell 2
      have c3 : w3.cell? ⟨nb, 3, none⟩ = some (.int .i64 rp) := hN3.cell 3
      have c4 : w3.cell? ⟨nb, 4, none⟩ = some (.bool mi) := hN3.cell 4
      have c5 : w3.cell? ⟨nb, 5, none⟩ = some (.int .i64 va) := hN3.cell 5
      have HN3 := hid hN3
      have HP3 := hid hP3
      have kw : IntKind.i64.wrap ((t : Int) + 1) = ((t + 1 : Nat) : Int) := IntWalk.i64_in _ (by omega)
      clear HN HP HB hb3 hN3 hP3 hs
      go_wp2_with fail
      go_region_held3 (fun w' => w'.cell? ⟨nb, 0, none⟩ = some (.int .i64 (k : Int)) ∧ w'.cell? ⟨nb, 1, none⟩ = some (.int .i64 cu) ∧ w'.cell? ⟨nb, 2, none⟩ = some (.int .i64 lp) ∧ w'.cell? ⟨nb, 3, none⟩ = some (.int .i64 rp) ∧ w'.cell? ⟨nb, 4, none⟩ = some (.bool mi) ∧ w'.cell? ⟨nb, 5, none⟩ = some (.int .i64 va) ∧ w'.cell? ⟨db, dof + k, none⟩ = some (.int .i64 x))
        (first | exact ⟨c0, c1, c2, c3, c4, c5, hcx⟩ | exact ⟨e0, e1, e2, e3, e4, e5, ex⟩)
        (first
          | (go_at_call 91; refine (goesLeft_any ⟨(k : Int), cu, lp, rp, mi, va⟩ x _).mono ?_; rintro e w4 ⟨rfl, hb4⟩; obtain ⟨hc4, hf4⟩ := bcell hb4; have e0 := (hc4 nb _ hnl).trans c0; have e1 := (hc4 nb _ hnl).trans c1; have e2 := (hc4 nb _ hnl).trans c2; have e3 := (hc4 nb _ hnl).trans c3; have e4 := (hc4 nb _ hnl).trans c4; have e5 := (hc4 nb _ hnl).trans c5; have ex := (hc4 db _ hdl).trans hcx))
      have HN4 : Hid (Blk w4 nb 80 (ndR ⟨(k : Int), cu, lp, rp, mi, va⟩)) := Blk.below (w := w3.drew) HN3.out hb4 hnl
      have HP4 : Hid (Blk w4 w.heap.size 66 (pkC f b Ar nr cr (some ⟨wb, wo, none⟩) M cw)) := Blk.below (w := w3.drew) HP3.out hb4 HP3.out.lt
      have HB4 := hid (HB3.out.drew.trans (hb4.mono HB3.out.size))
      clear hb4 hc4 hf4 c0 c1 c2 c3 c4 c5 hcx e0 e1 e2 e3 e4 e5 ex HN3 HP3 HB3
      have c3 : w4.cell? ⟨w.heap.size, 3, none⟩ = some (.slice (some ⟨wb, wo, none⟩) M cw) := HP4.out.cell 3
      have n2 : w4.cell? ⟨nb, 2, none⟩ = some (.int .i64 lp) := HN4.out.cell 2
      have hcw : w4.cell? ⟨wb, wo + (C + nx), none⟩ = some (.int .u64 (zw (C + nx))) := (HB4.out.cell (p := ⟨wb, wo + (C + nx), none⟩) hwb).trans hwc
      obtain ⟨y, hy⟩ : ∃ y, zw (C + nx) = y := ⟨_, rfl⟩
      rw [hy] at hcw HW1
      obtain ⟨X, hX⟩ : ∃ X, C + nx = X := ⟨_, rfl⟩
      have hXi : (C : Int) + (nx : Int) = (X : Int) := by omega
      rw [hX] at hcw hW2
      have x1 : (X : Int) < (M : Int) := by omega
      have x0 : (0 : Int) ≤ (X : Int) := by omega
      have hgL : goL (⟨(k : Int), cu, lp, rp, mi, va⟩ : Nd) x = goL (⟨(k : Int), cu, le, ri, mi, va⟩ : Nd) x := rfl
      rw [hgL]
      have hni := HNI.out
      unfold nxI at hni
      clear hy hX hgL hwc HNI
      cases hg : goL (⟨(k : Int), cu, le, ri, mi, va⟩ : Nd) x with
      | true =>
        rw [hg, if_pos rfl] at hni
        obtain rfl : lp = (X : Int) := by
          have h1 : le = (nx : Int) := hni
          have h2 := HLP.out
          omega
        clear hni hg hXi HLP HRP
        go_wp2_with fail
        refine (wnode_any y _).mono ?_
        rintro e w5 ⟨rfl, hb5⟩
        rw [HW1.out]
        have hN5 := HN4.out.below hb5 HN4.out.lt
        have hP5 := HP4.out.below hb5 HP4.out.lt
        have hB5 := HB4.out.trans (hb5.mono HB4.out.size)
        have HN5 := hid hN5
        clear hb5 c3 n2 hcw
        go_wp2_with (first | (refine wpList_store_row rfl 80 _ _ rfl nb (ndR (mvN (g i nx) (C : Nat))) rfl rfl 80 _ HN5.out size_nodeF rfl (ndR_one _) ?_))
        (try simp only [Act.put])
        go_roundw
        case rel =>
          refine ⟨t + 1, by omega, rfl, ?_, ?_, ?_⟩
          · show Blk _ nb 80 (ndR (mvN (g i (itr (g i) z (t + 1))) (C : Nat)))
            rw [HNX.out]
            exact setRow_heap _ _ _ _ _ _ HN5.out
          · exact (setRow_other _ _ _ _ (by omega)).trans hP5
          · exact below_setRow hB5 (Nat.le_of_lt hne) _
        case measure => simp [intOf]; omega
      | false =>
        rw [hg, if_neg (by simp)] at hni
        obtain rfl : rp = (X : Int) := by
          have h1 : ri = (nx : Int) := hni
          have h2 := HRP.out
          omega
        clear hni hg hXi HLP HRP
        go_wp2_with fail
        refine (wnode_any y _).mono ?_
        rintro e w5 ⟨rfl, hb5⟩
        rw [HW1.out]
        have hN5 := HN4.out.below hb5 HN4.out.lt
        have hP5 := HP4.out.below hb5 HP4.out.lt
        have hB5 := HB4.out.trans (hb5.mono HB4.out.size)
        have HN5 := hid hN5
        clear hb5 c3 n2 hcw
        go_wp2_with (first | (refine wpList_store_row rfl 80 _ _ rfl nb (ndR (mvN (g i nx) (C : Nat))) rfl rfl 80 _ HN5.out size_nodeF rfl (ndR_one _) ?_))
        (try simp only [Act.put])
        go_roundw
        case rel =>
          refine ⟨t + 1, by omega, rfl, ?_, ?_, ?_⟩
          · show Blk _ nb 80 (ndR (mvN (g i (itr (g i) z (t + 1))) (C : Nat)))
            rw [HNX.out]
            exact setRow_heap _ _ _ _ _ _ HN5.out
          · exact (setRow_other _ _ _ _ (by omega)).trans hP5
          · exact below_setRow hB5 (Nat.le_of_lt hne) _
        case measure => simp [intOf]; omega
end Go.Proofs.YtlgomifpohdniaaGreat
