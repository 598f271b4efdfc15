/- Paths, boxes, leaves. -/
import Derived.Test.YtlgomifpohdniaaGreatK3
import Derived.Deep.LoopGhost
import Derived.Test.YtlgomifpohdniaaGreatK2
namespace Go.Proofs.YtlgomifpohdniaaGreat

/-! ### TreeL -/
section
set_option linter.unusedVariables false
set_option linter.unusedSimpArgs false
open Go.RowKit Go.Deep

theorem own_blk_ne {w : World} {g : Nat} {t : TypeId} {cs : Array Value} {base : Nat} {e : TypeId} {size n : Nat} {v : Value} {xs : List Value} (h : w.ownsRow base e size v n xs) (hg : Blk w g t cs) (hne : e ≠ t) : some g ≠ v.ownBlock := by
  rcases h.2 with ⟨rfl, _⟩ | ⟨g', cap, cur, rfl, _, hh, _⟩
  · simp [Value.ownBlock]
  · intro he
    have : g' = g := by simpa [Value.ownBlock] using he.symm
    subst this
    exact Blk.ne_ (t := e) hh hg hne rfl
theorem Twigs.grown {w w' : World} {g : Nat → Nd} {n m : Nat} {P : Nat → Nat} {row : Option Nat} (h : Twigs w g n m P) (hg : w.grownBy w' row) (hne : ∀ j, m ≤ j → j < n → some (P j) ≠ row) : Twigs w' g n m P :=
  fun j h1 h2 => Blk.grown (h j h1 h2) hg (hne j h1 h2)
theorem Twigs.alloc {w : World} {g : Nat → Nd} {n m : Nat} {P : Nat → Nat} (h : Twigs w g n m P) (o : Obj) : Twigs (w.alloc o) g n m P := fun j h1 h2 => Blk.alloc (h j h1 h2) o
theorem nxP_nxt {g : Nat → Nd} {a k f : Nat} {z : Nat → Int} {P : Nat → Nat} (h0 : (g a).left ≠ 0) (hk : (g a).feat = k) (hkf : k < f) :
    nxP (g a) (pad f z k) (kidL (g a) P) (kidR (g a) P) = some ⟨P (nxt g z a), 0, none⟩ := by
  unfold nxP nxt kidL kidR pad
  rw [if_pos hkf, hk, Int.toNat_natCast, if_neg h0, if_neg h0]
  split <;> rfl

set_option maxHeartbeats 1000000 in
theorem iPath_no (A D : Option Addr) (n cap f dc : Nat) (g : Nat → Nd) (z : Nat → Int) (w : World) (h : RdN w w.heap.size A n g) (hd : Rd w w.heap.size D f z) (hn : n ≤ 4194304) (hf : f ≤ 4194304) (hno : (docB f z && treeB g n f) = false) :
    Calls Tryz.prog 80 #[.slice A n cap, .slice D f dc] w fun e w' => e = .returned (.slice none 0 0) ∧ Below w.heap.size w w' := by
  rcases path_false hno with h1 | ⟨h1, h2⟩
  · have H1 := hid h1
    clear h1 hno
    go_enter Tryz.func80, Tryz.ntmps80
    go_wp2_with fail
    refine (docOf_nope D f dc z _ hd hf H1.out).mono ?_
    rintro e w1 ⟨rfl, hb⟩
    go_wp2_with fail
    go_ret
    exact ⟨rfl, hb.alloc hb.size _⟩
  · have H1 := hid h1
    have H2 := hid h2
    clear h1 h2 hno
    go_enter Tryz.func80, Tryz.ntmps80
    go_wp2_with fail
    refine (docOf_yes D f dc z _ hd H1.out).mono ?_
    rintro e w1 ⟨rfl, hb⟩
    go_wp2_with fail
    refine (treeOf_any A n cap g f _ (h.to (hb.alloc hb.size _) (by have := hb.size; simp; omega)) hn).mono ?_
    rintro e w2 ⟨q, rfl, hb2, _, hq⟩
    obtain rfl := hq H2.out
    have hb3 := (hb.alloc hb.size _).trans (hb2.mono (by have := hb.size; simp; omega))
    clear hb2 hb hq
    go_wp2_with fail
    go_loopw [7, 8] (fun p q wr => p = .slice none 0 0 ∧ q = .pointer none ∧ Below w.heap.size w wr) (fun _ _ _ => 0)
    case atStart => exact ⟨rfl, rfl, hb3⟩
    case round =>
      obtain ⟨rfl, rfl, hbl⟩ := hrel
      go_wp2_with fail
      go_ret
      exact ⟨rfl, hbl⟩

/-- The loop's relation: alive behind t steps, or at its end. -/
def Alive (g : Nat → Nd) (z : Nat → Int) (P : Nat → Nat) (t : Nat) (q : Value) : Prop :=
  (q = .pointer (some ⟨P (itr g z t), 0, none⟩) ∧ ∀ s, s < t → (g (itr g z s)).left ≠ 0) ∨ (q = .pointer none ∧ ∃ T, t = T + 1 ∧ T < 15 ∧ Ends g z T)

set_option maxHeartbeats 4000000 in
theorem iPath_yes (A D : Option Addr) (n cap f dc : Nat) (g : Nat → Nd) (z : Nat → Int) (w : World) (h : RdN w w.heap.size A n g) (hd : Rd w w.heap.size D f z) (hn : n ≤ 4194304) (h1 : docB f z = true) (h2 : treeB g n f = true) :
    Calls Tryz.prog 80 #[.slice A n cap, .slice D f dc] w (PathPost g z w) := by
  obtain ⟨i0, hi0, hz0, hz1, hz2⟩ := info_parts info_int
  have hT := (treeB_iff g n f).1 h2
  have hn1 : 0 < n ∧ n ≤ 15 := by have := hT.2.1; omega
  have hf6 : f ≤ 6 := (docB_true h1).2.1
  have hu := hT.up
  have HU := hid hu
  have HT := hid hT
  have H1 := hid h1
  have H2 := hid h2
  clear h1 h2 hT hu
  obtain ⟨hn0, hn15⟩ := hn1
  go_enter Tryz.func80, Tryz.ntmps80
  go_wp2_with fail
  refine (docOf_yes D f dc z _ hd H1.out).mono ?_
  rintro e w1 ⟨rfl, hb⟩
  go_wp2_with fail
  have hs1 := hb.size
  refine (treeOf_any A n cap g f _ (h.to (hb.alloc hb.size _) (by simp; omega)) hn).mono ?_
  rintro e w2 ⟨q, rfl, hb2, hy, _⟩
  obtain ⟨P, rfl, htw⟩ := hy H2.out
  have hdv : Blk w2 w1.heap.size 144 (docC (pad f z) f) := Blk.below (Blk.new w1 _ _) hb2 (by simp)
  have hb3 : Below w.heap.size w w2 := (hb.alloc hb.size _).trans (hb2.mono (by simp; omega))
  clear hb2 hb hy
  go_wp2_with fail
  go_loopg [7, 8] 20 (fun gk p q wr => ∃ (t : Nat) (A' : Option Addr) (c : Nat), p = .slice A' t c ∧ wr.ownsRow w.heap.size 2 1 (.slice A' t c) t (numsOf t (seqZ g z)) ∧ Below w.heap.size w wr ∧ Twigs wr g n 0 P ∧ Blk wr w1.heap.size 144 (docC (pad f z) f) ∧ 20 ≤ gk + t ∧ Alive g z P t q)
  case atStart => exact ⟨0, none, 0, rfl, World.ownsRow_nil _ _ _ _, hb3, htw, hdv, by omega, .inl ⟨rfl, fun s hs => by omega⟩⟩
  case round =>
    obtain ⟨t, A', c, rfl, hown, hbl, htw, hdv, hgk, hal⟩ := hrel
    rcases hal with ⟨rfl, hst⟩ | ⟨rfl, T, rfl, hT15, hE⟩
    · obtain ⟨ht1, ht2⟩ := itr_up z HU.out hn0 t hst
      have hnext : itr g z (t + 1) = nxt g z (itr g z t) := rfl
      have HST := hid hst
      clear hst
      generalize hat : itr g z t = a at ht1 ht2 hnext ⊢
      have HAT := hid hat
      have HX := hid hnext
      have HG := hid hgk
      clear hat hnext hgk
      have htl := Blk.lt (htw a (Nat.zero_le _) ht2)
      obtain ⟨c0, c1, c2, c3, c4, c5, c6, c7, c8⟩ := tw_cells (htw a (Nat.zero_le _) ht2)
      have hs2 := hbl.size
      go_wp2_with (at_builtin; (refine wpList_append_own _ rfl (.tmp 25) (.tmp 30) 27 rfl w.heap.size 2 i0 (.int .i64 0) 1 8 Tryz.underlying27 hi0 hz0 hz1 hz2 rfl (by decide) _ t _ rfl (hown.alloc _) ⟨wr.heap.size, 0, none⟩ 1 1 [.int .i64 (a : Int)] rfl rfl (cell_one_new _ _ _) (by intro u hu; simp at hu; subst hu; rfl) (by unfold maxLen; omega) (by omega) (by simp; omega) ?_))
      intro v' w3 hown3 hg3 _
      have htw3 : Twigs w3 g n 0 P := (htw.alloc _).grown hg3 fun j j1 j2 => own_blk_ne hown (htw j j1 j2) (by decide)
      have hdv3 : Blk w3 w1.heap.size 144 (docC (pad f z) f) := (hdv.alloc _).grown hg3 (own_blk_ne hown hdv (by decide))
      have hbl3 : Below w.heap.size w w3 := (hbl.alloc hs2 _).grown hg3 (by simp; omega) (fun x hx => (hown.lt x hx).1)
      obtain ⟨A3, c3', rfl⟩ := own_form hown3
      have HOWN : Hid (w3.ownsRow w.heap.size 2 1 (.slice A3 (t + 1) c3') (t + 1) (numsOf (t + 1) (seqZ g z))) := by
        show w3.ownsRow _ _ _ _ _ _
        rw [numsOf_succ t]
        unfold seqZ
        rw [HAT.out]
        exact hown3
      clear hg3 hown hbl htw hdv hown3 c0 c1 c2 c3 c4 c5 c6 c7 c8 htl
      obtain ⟨d0, d1, d2, d3, d4, d5, d6⟩ := doc_cells hdv3
      have hTa := htw3 a (Nat.zero_le _) ht2
      have hs3 := hbl3.size
      go_wp2_with fail
      cases h0 : ((g a).left == 0)
      · have h0' : (g a).left ≠ 0 := by simpa using h0
        obtain ⟨f0, f1⟩ := split_feat (HT.out.2.2 a ht2).1 h0'
        obtain ⟨k, hk⟩ := Int.eq_ofNat_of_zero_le f0
        have hkf : k < f := by omega
        have hq := nxP_nxt (z := z) (P := P) (k := k) (f := f) h0' hk hkf
        have hTa' : Tw w3 (P a) ⟨(k : Int), (g a).cut, (g a).left, (g a).right, (g a).miss, (g a).value⟩ a (kidL (g a) P) (kidR (g a) P) := by rw [nd_eta hk]; exact hTa
        refine (next_split k (g a).cut (g a).left (g a).right (g a).miss (g a).value (P a) a _ _ (pad f z) f w3 hTa' h0 (by omega)).mono ?_
        rintro e w4 ⟨rfl, hb4⟩
        rw [nd_eta hk, hq]
        have hown4 := own_below HOWN.out hb4
        have htw4 := htw3.below hb4
        have hdv4 := hdv3.below hb4 hdv3.lt
        have hbl4 := hbl3.trans (hb4.mono hs3)
        clear hb4 hq hTa hTa' hk f0 f1 htw3 hdv3 hbl3 d0 d1 d2 d3 d4 d5 d6
        go_wp2_with fail
        go_roundg (gk - 1)
        case rel =>
          refine ⟨t + 1, A3, c3', rfl, hown4, hbl4, htw4, hdv4, by have := HG.out; omega, .inl ⟨by rw [HX.out], fun s hs => ?_⟩⟩
          by_cases e : s = t
          · subst e; rw [HAT.out]; exact h0'
          · exact HST.out s (by omega)
        case measure => have := HG.out; omega
      · have h0' : (g a).left = 0 := by simpa using h0
        refine (next_leaf (g a) (P a) a _ _ (pad f z) f w3 hTa h0).mono ?_
        rintro e w4 ⟨rfl, hb4⟩
        have hown4 := own_below HOWN.out hb4
        have htw4 := htw3.below hb4
        have hdv4 := hdv3.below hb4 hdv3.lt
        have hbl4 := hbl3.trans (hb4.mono hs3)
        clear hb4 hTa htw3 hdv3 hbl3 d0 d1 d2 d3 d4 d5 d6
        go_wp2_with fail
        go_roundg (gk - 1)
        case rel => exact ⟨t + 1, A3, c3', rfl, hown4, hbl4, htw4, hdv4, by have := HG.out; omega, .inr ⟨rfl, t, rfl, by omega, HST.out, by rw [HAT.out]; exact h0'⟩⟩
        case measure => have := HG.out; omega
    · have HE := hid hE
      clear hE
      go_wp2_with fail
      go_ret
      obtain ⟨gb, cp, hv, hgb, hrow⟩ := own_row hown (by omega)
      injection hv with e1 _ e3
      subst e1
      exact ⟨T, gb, c, HE.out, hT15, rfl, hgb, hrow, hbl⟩
end

/-! ### PathLaw -/
section
set_option linter.unusedVariables false
set_option linter.unusedSimpArgs false
open Go.RowKit Go.Deep

theorem rowN_grown {w w' : World} {t : TypeId} {b b' n : Nat} {g : Nat → Nd} (h : RowN w t b n g) (hg : w.grownBy w' (some b')) (hne : b ≠ b') : RowN w' t b n g :=
  h.keep (hg.block b h.lt (by simpa using hne))

end

/-! ### BoxB -/
section
set_option linter.unusedVariables false
set_option linter.unusedSimpArgs false
open Go.RowKit Go.Deep

end

/-! ### BoxC -/
section
set_option linter.unusedVariables false
set_option linter.unusedSimpArgs false
open Go.RowKit Go.Deep

theorem boxHas_no1 {n f : Nat} {g : Nat → Sp} {z : Nat → Int} (h : boxB n g = false) : boxHasB n g f z = false := by unfold boxHasB; rw [h]; rfl
theorem boxHas_no2 {n f : Nat} {g : Nat → Sp} {z : Nat → Int} (h : docB f z = false) : boxHasB n g f z = false := by unfold boxHasB; rw [h, Bool.and_false]; rfl
theorem boxHas_no3 {n f : Nat} {g : Nat → Sp} {z : Nat → Int} (h : ¬ n = f) : boxHasB n g f z = false := by unfold boxHasB; rw [decide_eq_false h, Bool.false_and, Bool.and_false]
theorem boxHas_yes {n : Nat} {g : Nat → Sp} {z : Nat → Int} (h : boxB n g = true) (h' : docB n z = true) : boxHasB n g n z = allP (fun i => hasS (g i) (z i)) n := by unfold boxHasB; rw [h, h', decide_eq_true rfl]; rfl

end

/-! ### LeafLaw -/
section
set_option linter.unusedVariables false
set_option linter.unusedSimpArgs false
open Go.RowKit Go.Deep

theorem iLeaf_no (A D : Option Addr) (n cap f dc : Nat) (g : Nat → Nd) (z : Nat → Int) (w : World) (h : RdN w w.heap.size A n g) (hd : Rd w w.heap.size D f z) (hn : n ≤ 4194304) (hf : f ≤ 4194304) (hno : (docB f z && treeB g n f) = false) :
    Calls Tryz.prog 41 #[.slice A n cap, .slice D f dc] w fun e w' => e = .returned (.int .i64 (-1)) ∧ Below w.heap.size w w' := by
  have HN := hid hno
  clear hno
  go_enter Tryz.func41, Tryz.ntmps41
  go_wp2_with fail
  refine (iPath_no A D n cap f dc g z _ h hd hn hf HN.out).mono ?_
  rintro e w1 ⟨rfl, hb⟩
  go_wp2_with fail
  go_ret
  exact ⟨rfl, hb⟩

/-- What LeafOf gives for a tree and a document that fit. -/
def LeafPost (g : Nat → Nd) (z : Nat → Int) (w : World) (e : Ending) (w' : World) : Prop :=
  ∃ T, Ends g z T ∧ e = .returned (.int .i64 (seqZ g z T)) ∧ Below w.heap.size w w'

set_option maxHeartbeats 1000000 in
theorem iLeaf_yes (A D : Option Addr) (n cap f dc : Nat) (g : Nat → Nd) (z : Nat → Int) (w : World) (h : RdN w w.heap.size A n g) (hd : Rd w w.heap.size D f z) (hn : n ≤ 4194304) (h1 : docB f z = true) (h2 : treeB g n f = true) :
    Calls Tryz.prog 41 #[.slice A n cap, .slice D f dc] w (LeafPost g z w) := by
  have H1 := hid h1
  have H2 := hid h2
  clear h1 h2
  go_enter Tryz.func41, Tryz.ntmps41
  go_wp2_with fail
  refine (iPath_yes A D n cap f dc g z _ h hd hn H1.out H2.out).mono ?_
  rintro e w1 ⟨T, b, c, hE, hT, rfl, hl, hr, hb⟩
  have hc := hr.cell (i := T) (by omega)
  have HE := hid hE
  have q1 : (T : Int) < 15 := by omega
  have q2 : (((T + 1 : Nat) : Int) == 0) = false := by simp; omega
  clear hE
  go_wp2_with fail
  go_ret
  exact ⟨T, HE.out, rfl, hb⟩

set_option maxHeartbeats 2000000 in
theorem l2Leaf_any (A D : Option Addr) (n cap f dc : Nat) (g : Nat → Nd) (z : Nat → Int) (w : World) (h : RdN w w.heap.size A n g) (hd : Rd w w.heap.size D f z) (h2 : treeB g n f = true) :
    Calls Tryz.prog 77 #[.slice A n cap, .slice D f dc] w (LeafPost g z w) := by
  have hT := (treeB_iff g n f).1 h2
  have hn1 : 0 < n ∧ n ≤ 15 := by have := hT.2.1; omega
  have hu := hT.up
  have HU := hid hu
  have HT := hid hT
  clear h2 hT hu
  obtain ⟨hn0, hn15⟩ := hn1
  go_enter Tryz.func77, Tryz.ntmps77
  go_wp2_with fail
  go_loopw [5] (fun i wr => ∃ t : Nat, i = .int .i64 ((itr g z t : Nat) : Int) ∧ Hid (∀ s, s < t → (g (itr g z s)).left ≠ 0) ∧ Below w.heap.size w wr)
    (fun i _ => n - (intOf i).toNat)
  case atStart => exact ⟨0, rfl, fun s hs => by omega, Below.refl _ _⟩
  case round =>
    obtain ⟨t, rfl, hst, hbl⟩ := hrel
    obtain ⟨ht1, ht2⟩ := itr_up z HU.out hn0 t hst.out
    have hnext : itr g z (t + 1) = nxt g z (itr g z t) := rfl
    generalize hat : itr g z t = a at ht1 ht2 hnext ⊢
    obtain ⟨b, off, rfl, hbb, c0, c1, c2, c3, c4, c5⟩ := (h.below hbl).at_ ht2
    have hl : (a : Int) < (n : Int) := by omega
    have hl0 : (0 : Int) ≤ (a : Int) := by omega
    by_cases h0 : (g a).left = 0
    · have q0 : ¬ 0 < (g a).left := by omega
      have HE : Hid (Ends g z t) := ⟨hst.out, by rw [hat]; exact h0⟩
      have HAT := hid hat
      clear h0 hat hnext
      go_wp2_with fail
      go_ret
      exact ⟨t, HE.out, by unfold seqZ; rw [HAT.out]; rfl, hbl⟩
    · have hk := HU.out a ht2 h0
      obtain ⟨f0, f1⟩ := split_feat (HT.out.2.2 a ht2).1 h0
      have q0 : 0 < (g a).left := by omega
      obtain ⟨k, hk'⟩ := Int.eq_ofNat_of_zero_le f0
      have hkf : k < f := by omega
      rw [hk'] at c0
      have HN := hid (nxI_nxt (z := z) HU.out ht2 h0 hk')
      have HETA := hid (nd_eta hk')
      have HST : Hid (∀ s, s < t + 1 → (g (itr g z s)).left ≠ 0) := fun s hs => by
        by_cases e : s = t
        · subst e; rw [hat]; exact h0
        · exact hst.out s (by omega)
      obtain ⟨hna, hnn⟩ := nxt_up z HU.out ht2 h0
      have HX := hid hnext
      clear h0 hat hk' hk f0 f1 hnext hst
      have hdr := hd.to hbl hbl.size
      go_wp2_with fail
      refine (l2Next_any k (g a).cut (g a).left (g a).right (g a).miss (g a).value D f dc z _ hdr hkf).mono ?_
      rintro e w2 ⟨rfl, hb2⟩
      rw [HETA.out, HN.out]
      have hbl2 := hbl.trans (hb2.mono hbl.size)
      clear hb2 hbl c0 c1 c2 c3 c4 c5 HN HETA hdr
      go_wp2_with fail
      go_roundw
      case rel => exact ⟨t + 1, by rw [HX.out], HST, hbl2⟩
      case measure => simp [intOf]; omega

end
end Go.Proofs.YtlgomifpohdniaaGreat
