/- Paths, boxes, leaves. -/
import Derived.Test.YtckhooibjmheiaaK3
import Derived.Deep.LoopGhost
import Derived.Test.YtckhooibjmheiaaK2
namespace Go.Proofs.Ytckhooibjmheiaa

/-! ### TreeL -/
section
set_option linter.unusedVariables false
set_option linter.unusedSimpArgs false
open Go.RowKit Go.Deep

theorem own_blk_ne {w : World} {g : Nat} {t : TypeId} {cs : Array Value} {base : Nat} {e : TypeId} {size n : Nat} {v : Value} {xs : List Value} (h : w.ownsRow base e size v n xs) (hg : Blk w g t cs) (hne : e ≠ t) : some g ≠ v.ownBlock := by
  rcases h.2 with ⟨rfl, _⟩ | ⟨g', cap, cur, rfl, _, hh, _⟩
  · simp [Value.ownBlock]
  · intro he
    have : g' = g := by simpa [Value.ownBlock] using he.symm
    subst this
    exact Blk.ne_ (t := e) hh hg hne rfl
theorem Twigs.grown {w w' : World} {g : Nat → Nd} {n m : Nat} {P : Nat → Nat} {row : Option Nat} (h : Twigs w g n m P) (hg : w.grownBy w' row) (hne : ∀ j, m ≤ j → j < n → some (P j) ≠ row) : Twigs w' g n m P :=
  fun j h1 h2 => Blk.grown (h j h1 h2) hg (hne j h1 h2)
theorem Twigs.alloc {w : World} {g : Nat → Nd} {n m : Nat} {P : Nat → Nat} (h : Twigs w g n m P) (o : Obj) : Twigs (w.alloc o) g n m P := fun j h1 h2 => Blk.alloc (h j h1 h2) o
theorem nxP_nxt {g : Nat → Nd} {a k f : Nat} {z : Nat → Int} {P : Nat → Nat} (h0 : (g a).left ≠ 0) (hk : (g a).feat = k) (hkf : k < f) :
    nxP (g a) (pad f z k) (kidL (g a) P) (kidR (g a) P) = some ⟨P (nxt g z a), 0, none⟩ := by
  unfold nxP nxt kidL kidR pad
  rw [if_pos hkf, hk, Int.toNat_natCast, if_neg h0, if_neg h0]
  split <;> rfl

set_option maxHeartbeats 1000000 in
theorem iPath_no (A D : Option Addr) (n cap f dc : Nat) (g : Nat → Nd) (z : Nat → Int) (w : World) (h : RdN w w.heap.size A n g) (hd : Rd w w.heap.size D f z) (hn : n ≤ 4194304) (hf : f ≤ 4194304) (hno : (docB f z && treeB g n f) = false) :
    Calls Try.prog 118 #[.slice A n cap, .slice D f dc] w fun e w' => e = .returned (.slice none 0 0) ∧ Below w.heap.size w w' := by
  rcases path_false hno with h1 | ⟨h1, h2⟩
  · have H1 := hid h1
    clear h1 hno
    go_enter Try.func118, Try.ntmps118
    go_wp2_with fail
    refine (docOf_nope D f dc z _ hd hf H1.out).mono ?_
    rintro e w1 ⟨rfl, hb⟩
    go_wp2_with fail
    go_ret
    exact ⟨rfl, hb.alloc hb.size _⟩
  · have H1 := hid h1
    have H2 := hid h2
    clear h1 h2 hno
    go_enter Try.func118, Try.ntmps118
    go_wp2_with fail
    refine (docOf_yes D f dc z _ hd H1.out).mono ?_
    rintro e w1 ⟨rfl, hb⟩
    go_wp2_with fail
    refine (treeOf_any A n cap g f _ (h.to (hb.alloc hb.size _) (by have := hb.size; simp; omega)) hn).mono ?_
    rintro e w2 ⟨q, rfl, hb2, _, hq⟩
    obtain rfl := hq H2.out
    have hb3 := (hb.alloc hb.size _).trans (hb2.mono (by have := hb.size; simp; omega))
    clear hb2 hb hq
    go_wp2_with fail
    go_loopw [7, 8] (fun p q wr => p = .slice none 0 0 ∧ q = .pointer none ∧ Below w.heap.size w wr) (fun _ _ _ => 0)
    case atStart => exact ⟨rfl, rfl, hb3⟩
    case round =>
      obtain ⟨rfl, rfl, hbl⟩ := hrel
      go_wp2_with fail
      go_ret
      exact ⟨rfl, hbl⟩

/-- The loop's relation: alive behind t steps, or at its end. -/
def Alive (g : Nat → Nd) (z : Nat → Int) (P : Nat → Nat) (t : Nat) (q : Value) : Prop :=
  (q = .pointer (some ⟨P (itr g z t), 0, none⟩) ∧ ∀ s, s < t → (g (itr g z s)).left ≠ 0) ∨ (q = .pointer none ∧ ∃ T, t = T + 1 ∧ T < 15 ∧ Ends g z T)

set_option maxHeartbeats 4000000 in
theorem iPath_yes (A D : Option Addr) (n cap f dc : Nat) (g : Nat → Nd) (z : Nat → Int) (w : World) (h : RdN w w.heap.size A n g) (hd : Rd w w.heap.size D f z) (hn : n ≤ 4194304) (h1 : docB f z = true) (h2 : treeB g n f = true) :
    Calls Try.prog 118 #[.slice A n cap, .slice D f dc] w (PathPost g z w) := by
  obtain ⟨i0, hi0, hz0, hz1, hz2⟩ := info_parts info_int
  have hT := (treeB_iff g n f).1 h2
  have hn1 : 0 < n ∧ n ≤ 15 := by have := hT.2.1; omega
  have hf6 : f ≤ 6 := (docB_true h1).2.1
  have hu := hT.up
  have HU := hid hu
  have HT := hid hT
  have H1 := hid h1
  have H2 := hid h2
  clear h1 h2 hT hu
  obtain ⟨hn0, hn15⟩ := hn1
  go_enter Try.func118, Try.ntmps118
  go_wp2_with fail
  refine (docOf_yes D f dc z _ hd H1.out).mono ?_
  rintro e w1 ⟨rfl, hb⟩
  go_wp2_with fail
  have hs1 := hb.size
  refine (treeOf_any A n cap g f _ (h.to (hb.alloc hb.size _) (by simp; omega)) hn).mono ?_
  rintro e w2 ⟨q, rfl, hb2, hy, _⟩
  obtain ⟨P, rfl, htw⟩ := hy H2.out
  have hdv : Blk w2 w1.heap.size 179 (docC (pad f z) f) := Blk.below (Blk.new w1 _ _) hb2 (by simp)
  have hb3 : Below w.heap.size w w2 := (hb.alloc hb.size _).trans (hb2.mono (by simp; omega))
  clear hb2 hb hy
  go_wp2_with fail
  go_loopg [7, 8] 20 (fun gk p q wr => ∃ (t : Nat) (A' : Option Addr) (c : Nat), p = .slice A' t c ∧ wr.ownsRow w.heap.size 2 1 (.slice A' t c) t (numsOf t (seqZ g z)) ∧ Below w.heap.size w wr ∧ Twigs wr g n 0 P ∧ Blk wr w1.heap.size 179 (docC (pad f z) f) ∧ 20 ≤ gk + t ∧ Alive g z P t q)
  case atStart => exact ⟨0, none, 0, rfl, World.ownsRow_nil _ _ _ _, hb3, htw, hdv, by omega, .inl ⟨rfl, fun s hs => by omega⟩⟩
  case round =>
    obtain ⟨t, A', c, rfl, hown, hbl, htw, hdv, hgk, hal⟩ := hrel
    rcases hal with ⟨rfl, hst⟩ | ⟨rfl, T, rfl, hT15, hE⟩
    · obtain ⟨ht1, ht2⟩ := itr_up z HU.out hn0 t hst
      have hnext : itr g z (t + 1) = nxt g z (itr g z t) := rfl
      have HST := hid hst
      clear hst
      generalize hat : itr g z t = a at ht1 ht2 hnext ⊢
      have HAT := hid hat
      have HX := hid hnext
      have HG := hid hgk
      clear hat hnext hgk
      have htl := Blk.lt (htw a (Nat.zero_le _) ht2)
      obtain ⟨c0, c1, c2, c3, c4, c5, c6, c7, c8⟩ := tw_cells (htw a (Nat.zero_le _) ht2)
      have hs2 := hbl.size
      go_wp2_with (at_builtin; (refine wpList_append_own _ rfl (.tmp 25) (.tmp 30) 27 rfl w.heap.size 2 i0 (.int .i64 0) 1 8 Try.underlying27 hi0 hz0 hz1 hz2 rfl (by decide) _ t _ rfl (hown.alloc _) ⟨wr.heap.size, 0, none⟩ 1 1 [.int .i64 (a : Int)] rfl rfl (cell_one_new _ _ _) (by intro u hu; simp at hu; subst hu; rfl) (by unfold maxLen; omega) (by omega) (by simp; omega) ?_))
      intro v' w3 hown3 hg3 _
      have htw3 : Twigs w3 g n 0 P := (htw.alloc _).grown hg3 fun j j1 j2 => own_blk_ne hown (htw j j1 j2) (by decide)
      have hdv3 : Blk w3 w1.heap.size 179 (docC (pad f z) f) := (hdv.alloc _).grown hg3 (own_blk_ne hown hdv (by decide))
      have hbl3 : Below w.heap.size w w3 := (hbl.alloc hs2 _).grown hg3 (by simp; omega) (fun x hx => (hown.lt x hx).1)
      obtain ⟨A3, c3', rfl⟩ := own_form hown3
      have HOWN : Hid (w3.ownsRow w.heap.size 2 1 (.slice A3 (t + 1) c3') (t + 1) (numsOf (t + 1) (seqZ g z))) := by
        show w3.ownsRow _ _ _ _ _ _
        rw [numsOf_succ t]
        unfold seqZ
        rw [HAT.out]
        exact hown3
      clear hg3 hown hbl htw hdv hown3 c0 c1 c2 c3 c4 c5 c6 c7 c8 htl
      obtain ⟨d0, d1, d2, d3, d4, d5, d6⟩ := doc_cells hdv3
      have hTa := htw3 a (Nat.zero_le _) ht2
      have hs3 := hbl3.size
      go_wp2_with fail
      cases h0 : ((g a).left == 0)
      · have h0' : (g a).left ≠ 0 := by simpa using h0
        obtain ⟨f0, f1⟩ := split_feat (HT.out.2.2 a ht2).1 h0'
        obtain ⟨k, hk⟩ := Int.eq_ofNat_of_zero_le f0
        have hkf : k < f := by omega
        have hq := nxP_nxt (z := z) (P := P) (k := k) (f := f) h0' hk hkf
        have hTa' : Tw w3 (P a) ⟨(k : Int), (g a).cut, (g a).left, (g a).right, (g a).miss, (g a).value⟩ a (kidL (g a) P) (kidR (g a) P) := by rw [nd_eta hk]; exact hTa
        refine (next_split k (g a).cut (g a).left (g a).right (g a).miss (g a).value (P a) a _ _ (pad f z) f w3 hTa' h0 (by omega)).mono ?_
        rintro e w4 ⟨rfl, hb4⟩
        rw [nd_eta hk, hq]
        have hown4 := own_below HOWN.out hb4
        have htw4 := htw3.below hb4
        have hdv4 := hdv3.below hb4 hdv3.lt
        have hbl4 := hbl3.trans (hb4.mono hs3)
        clear hb4 hq hTa hTa' hk f0 f1 htw3 hdv3 hbl3 d0 d1 d2 d3 d4 d5 d6
        go_wp2_with fail
        go_roundg (gk - 1)
        case rel =>
          refine ⟨t + 1, A3, c3', rfl, hown4, hbl4, htw4, hdv4, by have := HG.out; omega, .inl ⟨by rw [HX.out], fun s hs => ?_⟩⟩
          by_cases e : s = t
          · subst e; rw [HAT.out]; exact h0'
          · exact HST.out s (by omega)
        case measure => have := HG.out; omega
      · have h0' : (g a).left = 0 := by simpa using h0
        refine (next_leaf (g a) (P a) a _ _ (pad f z) f w3 hTa h0).mono ?_
        rintro e w4 ⟨rfl, hb4⟩
        have hown4 := own_below HOWN.out hb4
        have htw4 := htw3.below hb4
        have hdv4 := hdv3.below hb4 hdv3.lt
        have hbl4 := hbl3.trans (hb4.mono hs3)
        clear hb4 hTa htw3 hdv3 hbl3 d0 d1 d2 d3 d4 d5 d6
        go_wp2_with fail
        go_roundg (gk - 1)
        case rel => exact ⟨t + 1, A3, c3', rfl, hown4, hbl4, htw4, hdv4, by have := HG.out; omega, .inr ⟨rfl, t, rfl, by omega, HST.out, by rw [HAT.out]; exact h0'⟩⟩
        case measure => have := HG.out; omega
    · have HE := hid hE
      clear hE
      go_wp2_with fail
      go_ret
      obtain ⟨gb, cp, hv, hgb, hrow⟩ := own_row hown (by omega)
      injection hv with e1 _ e3
      subst e1
      exact ⟨T, gb, c, HE.out, hT15, rfl, hgb, hrow, hbl⟩
end

/-! ### PathLaw -/
section
set_option linter.unusedVariables false
set_option linter.unusedSimpArgs false
open Go.RowKit Go.Deep

set_option maxHeartbeats 2000000 in
theorem markN_any (n cap b : Nat) (g : Nat → Nd) (k0 : Int) (w : World) (h : RowN w 83 b n g) (hn : n ≤ 4194304) (h0 : 0 ≤ k0) (h1 : k0 ≤ 100000) :
    Calls Try.prog 50 #[.slice (some ⟨b, 0, none⟩) n cap, .int .i64 k0] w fun e w' =>
      ∃ k1 : Int, e = .returned (.int .i64 k1) ∧ 0 ≤ k1 ∧ k1 ≤ 100000000 ∧ w.grownBy w' (some b) := by
  obtain ⟨cs, hB, hsz, _⟩ := h
  go_enter Try.func50, Try.ntmps50
  go_wp2_with fail
  go_loopw [1, 5] (fun k i wr => ∃ (m : Nat) (cs : Array Value) (y : Int), m ≤ n ∧ i = .int .i64 m ∧ k = .int .i64 y ∧ k0 + 6 * (m : Int) ≤ y ∧ y ≤ k0 + 6 * (m : Int) ∧ Blk wr b 83 cs ∧ n * 6 ≤ cs.size ∧ Hid (w.grownBy wr (some b)))
    (fun _ i _ => n - (intOf i).toNat)
  case atStart => exact ⟨0, cs, k0, Nat.zero_le _, rfl, rfl, by omega, by omega, hB, hsz, World.grownBy.refl _ _⟩
  case round =>
    obtain ⟨m, cs, y, hm, rfl, rfl, hy1, hy2, hB, hsz, hg⟩ := hrel
    by_cases hlt : m < n
    · have hl : (m : Int) < (n : Int) := by omega
      have s0 : wr.cell? ⟨b, m * 6, none⟩ = some (cs[m * 6]'(by omega)) := by rw [hB.cell, Array.getElem?_eq_getElem]
      have s1 : wr.cell? ⟨b, m * 6 + 1, none⟩ = some (cs[m * 6 + 1]'(by omega)) := by rw [hB.cell, Array.getElem?_eq_getElem]
      have s2 : wr.cell? ⟨b, m * 6 + 2, none⟩ = some (cs[m * 6 + 2]'(by omega)) := by rw [hB.cell, Array.getElem?_eq_getElem]
      have s3 : wr.cell? ⟨b, m * 6 + 3, none⟩ = some (cs[m * 6 + 3]'(by omega)) := by rw [hB.cell, Array.getElem?_eq_getElem]
      have s4 : wr.cell? ⟨b, m * 6 + 4, none⟩ = some (cs[m * 6 + 4]'(by omega)) := by rw [hB.cell, Array.getElem?_eq_getElem]
      have s5 : wr.cell? ⟨b, m * 6 + 5, none⟩ = some (cs[m * 6 + 5]'(by omega)) := by rw [hB.cell, Array.getElem?_eq_getElem]
      have f0 := hB.frozen (m * 6); have f1 := hB.frozen (m * 6 + 1); have f2 := hB.frozen (m * 6 + 2); have f3 := hB.frozen (m * 6 + 3); have f4 := hB.frozen (m * 6 + 4); have f5 := hB.frozen (m * 6 + 5)
      go_wp2_with fail
      go_roundw
      case rel =>
        refine ⟨m + 1, _, _, by omega, by go_num, rfl, by omega, by omega, (((((hB.set_ (m * 6) _).set_ (m * 6 + 1) _).set_ (m * 6 + 2) _).set_ (m * 6 + 3) _).set_ (m * 6 + 4) _).set_ (m * 6 + 5) _, by simp only [Array.size_setIfInBounds]; exact hsz, ?_⟩
        exact grown_trans (grown_trans (grown_trans (grown_trans (grown_trans (grown_trans hg.out (grown_set _)) (grown_set _)) (grown_set _)) (grown_set _)) (grown_set _)) (grown_set _)
      case measure => simp [intOf]; omega
    · have e : m = n := by omega
      go_wp2_with fail
      go_ret
      exact ⟨y, rfl, by omega, by omega, hg.out⟩

theorem rowN_grown {w w' : World} {t : TypeId} {b b' n : Nat} {g : Nat → Nd} (h : RowN w t b n g) (hg : w.grownBy w' (some b')) (hne : b ≠ b') : RowN w' t b n g :=
  h.keep (hg.block b h.lt (by simpa using hne))

end

/-! ### BoxB -/
section
set_option linter.unusedVariables false
set_option linter.unusedSimpArgs false
open Go.RowKit Go.Deep

set_option maxHeartbeats 1000000 in
theorem markS_any (n cap b : Nat) (g : Nat → Sp) (k0 : Int) (w : World) (h : RowS w 74 b n g) (hn : n ≤ 4194304) (h0 : 0 ≤ k0) (h1 : k0 ≤ 100000000) :
    Calls Try.prog 44 #[.slice (some ⟨b, 0, none⟩) n cap, .int .i64 k0] w fun e w' =>
      ∃ k1 : Int, e = .returned (.int .i64 k1) ∧ 0 ≤ k1 ∧ k1 ≤ k0 + 3 * n ∧ w.grownBy w' (some b) := by
  obtain ⟨cs, hB, hsz, _⟩ := h
  go_enter Try.func44, Try.ntmps44
  go_wp2_with fail
  go_loopw [1, 5] (fun k i wr => ∃ (m : Nat) (cs : Array Value) (y : Int), m ≤ n ∧ i = .int .i64 m ∧ k = .int .i64 y ∧ k0 + 3 * (m : Int) ≤ y ∧ y ≤ k0 + 3 * (m : Int) ∧ Blk wr b 74 cs ∧ n * 3 ≤ cs.size ∧ Hid (w.grownBy wr (some b)))
    (fun _ i _ => n - (intOf i).toNat)
  case atStart => exact ⟨0, cs, k0, Nat.zero_le _, rfl, rfl, by omega, by omega, hB, hsz, World.grownBy.refl _ _⟩
  case round =>
    obtain ⟨m, cs, y, hm, rfl, rfl, hy1, hy2, hB, hsz, hg⟩ := hrel
    by_cases hlt : m < n
    · have hl : (m : Int) < (n : Int) := by omega
      have s0 : wr.cell? ⟨b, m * 3, none⟩ = some (cs[m * 3]'(by omega)) := by rw [hB.cell, Array.getElem?_eq_getElem]
      have s1 : wr.cell? ⟨b, m * 3 + 1, none⟩ = some (cs[m * 3 + 1]'(by omega)) := by rw [hB.cell, Array.getElem?_eq_getElem]
      have s2 : wr.cell? ⟨b, m * 3 + 2, none⟩ = some (cs[m * 3 + 2]'(by omega)) := by rw [hB.cell, Array.getElem?_eq_getElem]
      have f0 := hB.frozen (m * 3); have f1 := hB.frozen (m * 3 + 1); have f2 := hB.frozen (m * 3 + 2)
      go_wp2_with fail
      go_roundw
      case rel =>
        refine ⟨m + 1, _, _, by omega, by go_num, rfl, by omega, by omega, ((hB.set_ (m * 3) _).set_ (m * 3 + 1) _).set_ (m * 3 + 2) _, by simp only [Array.size_setIfInBounds]; exact hsz, ?_⟩
        exact grown_trans (grown_trans (grown_trans hg.out (grown_set _)) (grown_set _)) (grown_set _)
      case measure => simp [intOf]; omega
    · have e : m = n := by omega
      go_wp2_with fail
      go_ret
      exact ⟨y, rfl, by omega, by omega, hg.out⟩

set_option maxHeartbeats 1000000 in
theorem iPick_no (A : Option Addr) (n cap : Nat) (g : Nat → Sp) (w : World) (h : RdS w w.heap.size A n g) (hn : n ≤ 4194304) (hno : boxB n g = false) :
    Calls Try.prog 31 #[.slice A n cap] w fun e w' => e = .returned (.slice none 0 0) ∧ Below w.heap.size w w' := by
  have HN := hid hno
  clear hno
  go_enter Try.func31, Try.ntmps31
  go_wp2_with fail
  refine (iBoxOk_any A n cap g _ h hn).mono ?_
  rintro e w1 ⟨rfl, hb1⟩
  rw [HN.out]
  go_wp2_with fail
  go_ret
  exact ⟨rfl, hb1⟩

set_option maxHeartbeats 2000000 in
theorem iPick_yes (A : Option Addr) (n cap : Nat) (g : Nat → Sp) (w : World) (h : RdS w w.heap.size A n g) (hyes : boxB n g = true) :
    Calls Try.prog 31 #[.slice A n cap] w fun e w' =>
      ∃ b, e = .returned (.slice (some ⟨b, 0, none⟩) n n) ∧ w.heap.size ≤ b ∧ Row w' 2 b n (fun i => pickS (g i)) ∧ Below w.heap.size w w' := by
  have hn6 := (boxB_iff.1 hyes).2.1
  have hn : n ≤ 4194304 := by omega
  have HY := hid hyes
  clear hyes
  have hmk := run_make_row' (P := Try.prog) 27 2 (.int .i64 0) 8 Try.underlying27 info_int rfl .i64 .i64 n (by omega) (by omega)
  go_enter Try.func31, Try.ntmps31
  go_wp2_with fail
  refine (iBoxOk_any A n cap g _ h hn).mono ?_
  rintro e w1 ⟨rfl, hb1⟩
  rw [HY.out]
  have hs1 := hb1.size
  go_wp2_with fail
  go_loopw [14] (fun i wr => ∃ (k : Nat) (cs : Array Value), k ≤ n ∧ i = .int .i64 k ∧ Blk wr w1.heap.size 2 cs ∧ n ≤ cs.size ∧ Hid (∀ j, j < k → cs[j]? = some (.int .i64 (pickS (g j)))) ∧ Below w.heap.size w wr)
    (fun i _ => n - (intOf i).toNat)
  case atStart => exact ⟨0, _, Nat.zero_le _, rfl, Blk.new _ _ _, by simp [madeCells], fun j hj => by omega, hb1.alloc hs1 _⟩
  case round =>
    obtain ⟨k, cs, hk, rfl, hB, hsz, hcs, hbl⟩ := hrel
    by_cases hlt : k < n
    · obtain ⟨b, off, rfl, hb, c0, c1, c2⟩ := (h.below hbl).at_ hlt
      have hl : (k : Int) < (n : Int) := by omega
      have hne : w1.heap.size ≠ wr.heap.size := Nat.ne_of_lt hB.lt
      have hS := Blk.new wr 74 #[.int .i64 (g k).lo, .int .i64 (g k).hi, .bool (g k).gone]
      have hB1 := hB.alloc (.cells #[.int .i64 (g k).lo, .int .i64 (g k).hi, .bool (g k).gone] 74)
      have hbl1 := hbl.alloc hbl.size (.cells #[.int .i64 (g k).lo, .int .i64 (g k).hi, .bool (g k).gone] 74)
      have hc2 : (wr.alloc (.cells #[.int .i64 (g k).lo, .int .i64 (g k).hi, .bool (g k).gone] 74)).cell? ⟨w1.heap.size, k, none⟩ = some (cs[k]'(by omega)) := by rw [hB1.cell, Array.getElem?_eq_getElem]
      have hf2 := hB1.frozen k
      have hS2 := hS.far (p := ⟨w1.heap.size, k, none⟩) (Ne.symm hne) (.int .i64 9999999)
      have hB2 := hB1.set_ k (.int .i64 9999999)
      have hbl2 := hbl1.setCell (p := ⟨w1.heap.size, k, none⟩) hs1 (.int .i64 9999999)
      go_wp2_with fail
      refine (numbers_any (g k) _).mono ?_
      rintro e w2 ⟨rfl, hb2⟩
      have hS3 := hS2.below hb2 hS2.lt
      have hB3 := hB2.below hb2 hB2.lt
      have hbl3 := hbl2.trans (hb2.mono hbl2.size)
      clear hS hB1 hbl1 hc2 hf2 hS2 hB2 hbl2 hb2 c0 c1 c2
      have d0 : w2.cell? ⟨wr.heap.size, 0, none⟩ = some (.int .i64 (g k).lo) := hS3.cell 0
      have hf3 := hB3.frozen k
      have hc3 : w2.cell? ⟨w1.heap.size, k, none⟩ = some (.int .i64 9999999) := by rw [hB3.cell, Array.getElem?_setIfInBounds_self_of_lt (by omega)]
      by_cases hq : (g k).lo ≤ (g k).hi
      · have HP : Hid (pickS (g k) = (g k).lo) := by show _ = _; unfold pickS; rw [if_pos hq]
        have HQ := hid (decide_eq_true hq)
        rw [HQ.out]
        clear hq
        go_wp2_with fail
        go_roundw
        case rel =>
          refine ⟨k + 1, _, by omega, by go_num, hB3.set_ k _, by simpa using hsz, fun j hj => ?_, hbl3.setCell (p := ⟨w1.heap.size, k, none⟩) hs1 _⟩
          by_cases e : j = k
          · subst e; rw [Array.getElem?_setIfInBounds_self_of_lt (by simp; omega), HP.out]
          · rw [Array.getElem?_setIfInBounds_ne (by omega), Array.getElem?_setIfInBounds_ne (by omega)]; exact hcs.out j (by omega)
        case measure => simp [intOf]; omega
      · have HP : Hid (pickS (g k) = 9999999) := by show _ = _; unfold pickS; rw [if_neg hq]
        have HQ := hid (decide_eq_false hq)
        rw [HQ.out]
        clear hq
        go_wp2_with fail
        go_roundw
        case rel =>
          refine ⟨k + 1, _, by omega, by go_num, hB3, by simpa using hsz, fun j hj => ?_, hbl3⟩
          by_cases e : j = k
          · subst e; rw [Array.getElem?_setIfInBounds_self_of_lt (by omega), HP.out]
          · rw [Array.getElem?_setIfInBounds_ne (by omega)]; exact hcs.out j (by omega)
        case measure => simp [intOf]; omega
    · have e : k = n := by omega
      go_wp2_with fail
      go_ret
      exact ⟨_, rfl, hs1, ⟨cs, hB, hsz, fun j hj => hcs.out j (by omega)⟩, hbl⟩

set_option maxHeartbeats 2000000 in
theorem sPick_yes (A : Option Addr) (n cap : Nat) (g : Nat → Sp) (w : World) (h : RdS w w.heap.size A n g) (hyes : boxB n g = true) :
    Calls Try.prog 81 #[.slice A n cap] w fun e w' =>
      ∃ b c, e = .returned (.slice (some ⟨b, 0, none⟩) n c) ∧ w.heap.size ≤ b ∧ Row w' 2 b n (fun i => pickS (g i)) ∧ Below w.heap.size w w' := by
  obtain ⟨i0, hi0, hz0, hz1, hz2⟩ := info_parts info_int
  have hn6 := (boxB_iff.1 hyes).2.1
  have hn1 := (boxB_iff.1 hyes).1
  have hn : n ≤ 4194304 := by omega
  have HY := hid hyes
  clear hyes
  go_enter Try.func81, Try.ntmps81
  go_wp2_with fail
  go_loopw [3, 4] (fun o i wr => ∃ (k : Nat) (A' : Option Addr) (c : Nat), k ≤ n ∧ i = .int .i64 k ∧ o = .slice A' k c ∧ wr.ownsRow w.heap.size 2 1 (.slice A' k c) k (numsOf k (fun i => pickS (g i))) ∧ Below w.heap.size w wr)
    (fun _ i _ => n - (intOf i).toNat)
  case atStart => exact ⟨0, _, _, Nat.zero_le _, rfl, rfl, World.ownsRow_made w #[] 0 (Nat.le_refl _) (by unfold maxLen; omega) rfl, (Below.refl _ _).alloc (Nat.le_refl _) _⟩
  case round =>
    obtain ⟨k, A', c, hk, rfl, rfl, hown, hbl⟩ := hrel
    by_cases hlt : k < n
    · have hl : (k : Int) < (n : Int) := by omega
      go_wp2_with fail
      refine (sBoxOk_any A n cap g _ (h.to hbl hbl.size) hn).mono ?_
      rintro e w2 ⟨rfl, hb2⟩
      rw [HY.out]
      have hown2 := own_below hown hb2
      have hbl2 := hbl.trans (hb2.mono hbl.size)
      clear hown hbl hb2
      obtain ⟨b, off, rfl, hb, c0, c1, c2⟩ := (h.below hbl2).at_ hlt
      go_wp2_with fail
      refine (some_any (g k) _).mono ?_
      rintro e w3 ⟨rfl, hb3⟩
      have hown3 := own_below hown2 hb3
      have hbl3 := hbl2.trans (hb3.mono hbl2.size)
      have hs3 := hbl3.size
      clear hown2 hbl2 hb3 c0 c1 c2
      by_cases hq : (g k).lo ≤ (g k).hi
      · have HP : Hid (pickS (g k) = (g k).lo) := by show _ = _; unfold pickS; rw [if_pos hq]
        have HQ := hid (decide_eq_true hq)
        rw [HQ.out]
        clear hq
        go_wp2_with (at_builtin; refine wpList_append_own _ rfl (.tmp 28) (.tmp 30) 27 rfl w.heap.size 2 i0 (.int .i64 0) 1 8 Try.underlying27 hi0 hz0 hz1 hz2 rfl (by decide) _ k _ rfl (hown3.alloc _) ⟨w3.heap.size, 0, none⟩ 1 1 [.int .i64 (g k).lo] rfl rfl (cell_one_new _ _ _) (by intro u hu; simp at hu; subst hu; rfl) (by unfold maxLen; omega) (by omega) (by simp; omega) ?_)
        intro v' w4 hown4 hg4 _
        have hbl4 : Below w.heap.size w w4 := (hbl3.alloc hs3 _).grown hg4 (by simp; omega) (fun x hx => (hown3.lt x hx).1)
        obtain ⟨A4, c4, rfl⟩ := own_form hown4
        clear hg4 hown3 hbl3
        go_wp2_with fail
        go_roundw
        case rel => exact ⟨k + 1, A4, c4, by omega, by go_num, rfl, by rw [numsOf_succ k, HP.out]; exact hown4, hbl4⟩
        case measure => simp [intOf]; omega
      · have HP : Hid (pickS (g k) = 9999999) := by show _ = _; unfold pickS; rw [if_neg hq]
        have HQ := hid (decide_eq_false hq)
        rw [HQ.out]
        clear hq
        go_wp2_with (at_builtin; refine wpList_append_own _ rfl (.tmp 28) (.tmp 30) 27 rfl w.heap.size 2 i0 (.int .i64 0) 1 8 Try.underlying27 hi0 hz0 hz1 hz2 rfl (by decide) _ k _ rfl (hown3.alloc _) ⟨w3.heap.size, 0, none⟩ 1 1 [.int .i64 9999999] rfl rfl (cell_one_new _ _ _) (by intro u hu; simp at hu; subst hu; rfl) (by unfold maxLen; omega) (by omega) (by simp; omega) ?_)
        intro v' w4 hown4 hg4 _
        have hbl4 : Below w.heap.size w w4 := (hbl3.alloc hs3 _).grown hg4 (by simp; omega) (fun x hx => (hown3.lt x hx).1)
        obtain ⟨A4, c4, rfl⟩ := own_form hown4
        clear hg4 hown3 hbl3
        go_wp2_with fail
        go_roundw
        case rel => exact ⟨k + 1, A4, c4, by omega, by go_num, rfl, by rw [numsOf_succ k, HP.out]; exact hown4, hbl4⟩
        case measure => simp [intOf]; omega
    · have e : k = n := by omega
      subst e
      go_wp2_with fail
      go_ret
      obtain ⟨gb, cp, hv, hgb, hrow⟩ := own_row hown (by omega)
      injection hv with e1 _ e3
      subst e1
      exact ⟨gb, c, rfl, hgb, hrow, hbl⟩

set_option maxHeartbeats 1000000 in
theorem sPick_no (A : Option Addr) (n cap : Nat) (g : Nat → Sp) (w : World) (h : RdS w w.heap.size A n g) (hn : n ≤ 4194304) (hno : boxB n g = false) :
    Calls Try.prog 81 #[.slice A n cap] w fun e w' => ∃ A' c, e = .returned (.slice A' 0 c) ∧ Below w.heap.size w w' := by
  have HN := hid hno
  clear hno
  go_enter Try.func81, Try.ntmps81
  go_wp2_with fail
  go_loopw [3, 4] (fun o i wr => i = .int .i64 0 ∧ o = .slice (some ⟨w.heap.size, 0, none⟩) 0 0 ∧ Below w.heap.size w wr) (fun _ _ _ => 0)
  case atStart => exact ⟨rfl, rfl, (Below.refl _ _).alloc (Nat.le_refl _) _⟩
  case round =>
    obtain ⟨rfl, rfl, hbl⟩ := hrel
    by_cases hlt : 0 < n
    · have hl : (0 : Int) < (n : Int) := by omega
      go_wp2_with fail
      refine (sBoxOk_any A n cap g _ (h.to hbl hbl.size) hn).mono ?_
      rintro e w2 ⟨rfl, hb2⟩
      rw [HN.out]
      go_wp2_with fail
      go_ret
      exact ⟨_, _, rfl, hbl.trans (hb2.mono hbl.size)⟩
    · obtain rfl : n = 0 := by omega
      go_wp2_with fail
      go_ret
      exact ⟨_, _, rfl, hbl⟩
end

/-! ### BoxC -/
section
set_option linter.unusedVariables false
set_option linter.unusedSimpArgs false
open Go.RowKit Go.Deep

theorem boxHas_no1 {n f : Nat} {g : Nat → Sp} {z : Nat → Int} (h : boxB n g = false) : boxHasB n g f z = false := by unfold boxHasB; rw [h]; rfl
theorem boxHas_no2 {n f : Nat} {g : Nat → Sp} {z : Nat → Int} (h : docB f z = false) : boxHasB n g f z = false := by unfold boxHasB; rw [h, Bool.and_false]; rfl
theorem boxHas_no3 {n f : Nat} {g : Nat → Sp} {z : Nat → Int} (h : ¬ n = f) : boxHasB n g f z = false := by unfold boxHasB; rw [decide_eq_false h, Bool.false_and, Bool.and_false]
theorem boxHas_yes {n : Nat} {g : Nat → Sp} {z : Nat → Int} (h : boxB n g = true) (h' : docB n z = true) : boxHasB n g n z = allP (fun i => hasS (g i) (z i)) n := by unfold boxHasB; rw [h, h', decide_eq_true rfl]; rfl

set_option maxHeartbeats 2000000 in
theorem iBoxHas_any (A D : Option Addr) (n cap f dc : Nat) (g : Nat → Sp) (z : Nat → Int) (w : World) (h : RdS w w.heap.size A n g) (hd : Rd w w.heap.size D f z) (hn : n ≤ 4194304) (hf : f ≤ 4194304) :
    Calls Try.prog 27 #[.slice A n cap, .slice D f dc] w fun e w' => e = .returned (.bool (boxHasB n g f z)) ∧ Below w.heap.size w w' := by
  cases hb : boxB n g with
  | false =>
    rw [boxHas_no1 hb]
    have HB := hid hb
    clear hb
    go_enter Try.func27, Try.ntmps27
    go_wp2_with fail
    refine (iBoxOk_any A n cap g _ h hn).mono ?_
    rintro e w1 ⟨rfl, hb1⟩
    rw [HB.out]
    go_wp2_with fail
    go_ret
    exact ⟨rfl, hb1⟩
  | true =>
    have HB := hid hb
    cases hdc : docB f z with
    | false =>
      rw [boxHas_no2 hdc]
      have HD := hid hdc
      clear hb hdc
      go_enter Try.func27, Try.ntmps27
      go_wp2_with fail
      refine (iBoxOk_any A n cap g _ h hn).mono ?_
      rintro e w1 ⟨rfl, hb1⟩
      rw [HB.out]
      go_wp2_with fail
      refine (iDocOk_any D f dc z _ (hd.to hb1 hb1.size) hf).mono ?_
      rintro e w2 ⟨rfl, hb2⟩
      rw [HD.out]
      go_wp2_with fail
      go_ret
      exact ⟨rfl, hb1.trans (hb2.mono hb1.size)⟩
    | true =>
      have HD := hid hdc
      by_cases hnf : n = f
      · subst hnf
        have HR := hid (boxHas_yes hb hdc)
        clear hb hdc
        go_enter Try.func27, Try.ntmps27
        go_wp2_with fail
        refine (iBoxOk_any A n cap g _ h hn).mono ?_
        rintro e w1 ⟨rfl, hb1⟩
        rw [HB.out]
        go_wp2_with fail
        refine (iDocOk_any D n dc z _ (hd.to hb1 hb1.size) hn).mono ?_
        rintro e w2 ⟨rfl, hb2⟩
        rw [HD.out]
        have hw2 := hb1.trans (hb2.mono hb1.size)
        clear hb1 hb2
        go_wp2_with fail
        go_loopw [24] (fun i wr => ∃ k : Nat, k ≤ n ∧ i = .int .i64 k ∧ Hid (allP (fun i => hasS (g i) (z i)) k = true) ∧ Below w.heap.size w wr) (fun i _ => n - (intOf i).toNat)
        case atStart => exact ⟨0, Nat.zero_le _, rfl, rfl, hw2⟩
        case round =>
          obtain ⟨k, hk, rfl, hall, hbl⟩ := hrel
          by_cases hlt : k < n
          · obtain ⟨b, off, rfl, hb, c0, c1, c2⟩ := (h.below hbl).at_ hlt
            obtain ⟨b', off', rfl, hb', c'⟩ := (hd.below hbl).at_ hlt
            have hl : (k : Int) < (n : Int) := by omega
            have hl0 : (0 : Int) ≤ (k : Int) := by omega
            have hlb' : b' < wr.heap.size := Nat.lt_of_lt_of_le hb' hbl.size
            have hS := Blk.new wr 74 #[.int .i64 (g k).lo, .int .i64 (g k).hi, .bool (g k).gone]
            have hbl1 := hbl.alloc hbl.size (.cells #[.int .i64 (g k).lo, .int .i64 (g k).hi, .bool (g k).gone] 74)
            have d' : (wr.alloc (.cells #[.int .i64 (g k).lo, .int .i64 (g k).hi, .bool (g k).gone] 74)).cell? ⟨b', off' + k, none⟩ = some (.int .i64 (z k)) := (World.cell?_of_block (((Below.refl wr.heap.size wr).alloc (Nat.le_refl _) (.cells #[.int .i64 (g k).lo, .int .i64 (g k).hi, .bool (g k).gone] 74)).block b' hlb')).trans c'
            have d0 : (wr.alloc (.cells #[.int .i64 (g k).lo, .int .i64 (g k).hi, .bool (g k).gone] 74)).cell? ⟨wr.heap.size, 0, none⟩ = some (.int .i64 (g k).lo) := hS.cell 0
            have d1 : (wr.alloc (.cells #[.int .i64 (g k).lo, .int .i64 (g k).hi, .bool (g k).gone] 74)).cell? ⟨wr.heap.size, 1, none⟩ = some (.int .i64 (g k).hi) := hS.cell 1
            have d2 : (wr.alloc (.cells #[.int .i64 (g k).lo, .int .i64 (g k).hi, .bool (g k).gone] 74)).cell? ⟨wr.heap.size, 2, none⟩ = some (.bool (g k).gone) := hS.cell 2
            have hlb1 : b' < (wr.alloc (.cells #[.int .i64 (g k).lo, .int .i64 (g k).hi, .bool (g k).gone] 74)).heap.size := by rw [World.size_alloc]; omega
            have hls1 : wr.heap.size < (wr.alloc (.cells #[.int .i64 (g k).lo, .int .i64 (g k).hi, .bool (g k).gone] 74)).heap.size := by rw [World.size_alloc]; omega
            go_wp2_with fail
            go_region_held3 (fun w' => w'.cell? ⟨b', off' + k, none⟩ = some (.int .i64 (z k)) ∧ w'.cell? ⟨wr.heap.size, 0, none⟩ = some (.int .i64 (g k).lo) ∧ w'.cell? ⟨wr.heap.size, 1, none⟩ = some (.int .i64 (g k).hi) ∧ w'.cell? ⟨wr.heap.size, 2, none⟩ = some (.bool (g k).gone))
              (first | (simp [go_sem]; done) | exact ⟨e', e0, e1, e2⟩ | (simp [go_sem, *]; done))
              (first
                | (go_at_call 93; refine (has_any (g k) (z k) _).mono ?_; rintro e w3 ⟨rfl, hb3⟩; obtain ⟨hc1, hf1⟩ := bcell hb3; have e' := (hc1 b' _ hlb1).trans d'; have e0 := (hc1 wr.heap.size _ hls1).trans d0; have e1 := (hc1 wr.heap.size _ hls1).trans d1; have e2 := (hc1 wr.heap.size _ hls1).trans d2))
            have hbl2 := hbl1.drew.trans (hb3.mono hbl1.size)
            clear hb3 hc1 hf1 e' e0 e1 e2 d' d0 d1 d2 c0 c1 c2 c'
            cases hq : hasS (g k) (z k)
            · go_wp2_with fail
              go_ret
              refine ⟨?_, hbl2⟩
              rw [HR.out, allP_false (p := fun i => hasS (g i) (z i)) hlt hq]
              rfl
            · go_wp2_with fail
              go_roundw
              case rel => exact ⟨k + 1, by omega, by go_num, (by show allP _ (k + 1) = true; simp only [allP, hq, hall.out]; rfl), hbl2⟩
              case measure => simp [intOf]; omega
          · have e : k = n := by omega
            go_wp2_with fail
            go_ret
            subst e
            refine ⟨?_, hbl⟩
            rw [HR.out, hall.out]
            rfl
      · rw [boxHas_no3 hnf]
        have e1 : ¬ (n : Int) = (f : Int) := by omega
        clear hb hdc
        go_enter Try.func27, Try.ntmps27
        go_wp2_with fail
        refine (iBoxOk_any A n cap g _ h hn).mono ?_
        rintro e w1 ⟨rfl, hb1⟩
        rw [HB.out]
        go_wp2_with fail
        refine (iDocOk_any D f dc z _ (hd.to hb1 hb1.size) hf).mono ?_
        rintro e w2 ⟨rfl, hb2⟩
        rw [HD.out]
        go_wp2_with fail
        go_ret
        exact ⟨rfl, hb1.trans (hb2.mono hb1.size)⟩

set_option maxHeartbeats 2000000 in
theorem sBoxHas_any (A D : Option Addr) (n cap f dc : Nat) (g : Nat → Sp) (z : Nat → Int) (w : World) (h : RdS w w.heap.size A n g) (hd : Rd w w.heap.size D f z) (hn : n ≤ 4194304) (hf : f ≤ 4194304) :
    Calls Try.prog 89 #[.slice A n cap, .slice D f dc] w fun e w' => e = .returned (.bool (boxHasB n g f z)) ∧ Below w.heap.size w w' := by
  cases hb : boxB n g with
  | false =>
    rw [boxHas_no1 hb]
    have HB := hid hb
    clear hb
    go_enter Try.func89, Try.ntmps89
    go_wp2_with fail
    refine (sBoxOk_any A n cap g _ h hn).mono ?_
    rintro e w1 ⟨rfl, hb1⟩
    rw [HB.out]
    go_wp2_with fail
    go_ret
    exact ⟨rfl, hb1⟩
  | true =>
    have HB := hid hb
    cases hdc : docB f z with
    | false =>
      rw [boxHas_no2 hdc]
      have HD := hid hdc
      clear hb hdc
      go_enter Try.func89, Try.ntmps89
      go_wp2_with fail
      refine (sBoxOk_any A n cap g _ h hn).mono ?_
      rintro e w1 ⟨rfl, hb1⟩
      rw [HB.out]
      go_wp2_with fail
      refine (sDocOk_any D f dc z _ (hd.to hb1 hb1.size) hf).mono ?_
      rintro e w2 ⟨rfl, rfl⟩
      rw [HD.out]
      go_wp2_with fail
      go_ret
      exact ⟨rfl, hb1⟩
    | true =>
      have HD := hid hdc
      by_cases hnf : n = f
      · subst hnf
        have HR := hid (boxHas_yes hb hdc)
        clear hb hdc
        go_enter Try.func89, Try.ntmps89
        go_wp2_with fail
        refine (sBoxOk_any A n cap g _ h hn).mono ?_
        rintro e w1 ⟨rfl, hb1⟩
        rw [HB.out]
        go_wp2_with fail
        refine (sDocOk_any D n dc z _ (hd.to hb1 hb1.size) hn).mono ?_
        rintro e w2 ⟨rfl, rfl⟩
        rw [HD.out]
        go_wp2_with fail
        go_loopw [5] (fun i wr => ∃ k : Nat, k ≤ n ∧ i = .int .i64 k ∧ Hid (allP (fun i => hasS (g i) (z i)) k = true) ∧ Below w.heap.size w wr) (fun i _ => n - (intOf i).toNat)
        case atStart => exact ⟨0, Nat.zero_le _, rfl, rfl, hb1⟩
        case round =>
          obtain ⟨k, hk, rfl, hall, hbl⟩ := hrel
          by_cases hlt : k < n
          · obtain ⟨b, off, rfl, hb, c0, c1, c2⟩ := (h.below hbl).at_ hlt
            obtain ⟨b', off', rfl, hb', c'⟩ := (hd.below hbl).at_ hlt
            have hl : (k : Int) < (n : Int) := by omega
            have hl0 : (0 : Int) ≤ (k : Int) := by omega
            have hlb : b < wr.heap.size := Nat.lt_of_lt_of_le hb hbl.size
            have hlb' : b' < wr.heap.size := Nat.lt_of_lt_of_le hb' hbl.size
            go_wp2_with fail
            go_region_held3 (fun w' => w'.cell? ⟨b', off' + k, none⟩ = some (.int .i64 (z k)) ∧ w'.cell? ⟨b, off + k * 3, none⟩ = some (.int .i64 (g k).lo) ∧ w'.cell? ⟨b, off + k * 3 + 1, none⟩ = some (.int .i64 (g k).hi) ∧ w'.cell? ⟨b, off + k * 3 + 2, none⟩ = some (.bool (g k).gone))
              (first | (simp [go_sem]; done) | exact ⟨e', e0, e1, e2⟩ | (simp [go_sem, *]; done))
              (first
                | (go_at_call 149; refine (l3Has_any (g k) (z k) _).mono ?_; rintro e w3 ⟨rfl, hb3⟩; obtain ⟨hc1, hf1⟩ := bcell hb3; have e' := (hc1 b' _ hlb').trans c'; have e0 := (hc1 b _ hlb).trans c0; have e1 := (hc1 b _ hlb).trans c1; have e2 := (hc1 b _ hlb).trans c2))
            have hbl2 := hbl.drew.trans (hb3.mono hbl.size)
            clear hb3 hc1 hf1 e' e0 e1 e2 c0 c1 c2 c'
            cases hq : hasS (g k) (z k)
            · go_wp2_with fail
              go_ret
              refine ⟨?_, hbl2⟩
              rw [HR.out, allP_false (p := fun i => hasS (g i) (z i)) hlt hq]
              rfl
            · go_wp2_with fail
              go_roundw
              case rel => exact ⟨k + 1, by omega, by go_num, (by show allP _ (k + 1) = true; simp only [allP, hq, hall.out]; rfl), hbl2⟩
              case measure => simp [intOf]; omega
          · have e : k = n := by omega
            go_wp2_with fail
            go_ret
            subst e
            refine ⟨?_, hbl⟩
            rw [HR.out, hall.out]
            rfl
      · rw [boxHas_no3 hnf]
        have e1 : ¬ (n : Int) = (f : Int) := by omega
        clear hb hdc
        go_enter Try.func89, Try.ntmps89
        go_wp2_with fail
        refine (sBoxOk_any A n cap g _ h hn).mono ?_
        rintro e w1 ⟨rfl, hb1⟩
        rw [HB.out]
        go_wp2_with fail
        refine (sDocOk_any D f dc z _ (hd.to hb1 hb1.size) hf).mono ?_
        rintro e w2 ⟨rfl, rfl⟩
        rw [HD.out]
        go_wp2_with fail
        go_ret
        exact ⟨rfl, hb1⟩

end

/-! ### LeafLaw -/
section
set_option linter.unusedVariables false
set_option linter.unusedSimpArgs false
open Go.RowKit Go.Deep

theorem iLeaf_no (A D : Option Addr) (n cap f dc : Nat) (g : Nat → Nd) (z : Nat → Int) (w : World) (h : RdN w w.heap.size A n g) (hd : Rd w w.heap.size D f z) (hn : n ≤ 4194304) (hf : f ≤ 4194304) (hno : (docB f z && treeB g n f) = false) :
    Calls Try.prog 57 #[.slice A n cap, .slice D f dc] w fun e w' => e = .returned (.int .i64 (-1)) ∧ Below w.heap.size w w' := by
  have HN := hid hno
  clear hno
  go_enter Try.func57, Try.ntmps57
  go_wp2_with fail
  refine (iPath_no A D n cap f dc g z _ h hd hn hf HN.out).mono ?_
  rintro e w1 ⟨rfl, hb⟩
  go_wp2_with fail
  go_ret
  exact ⟨rfl, hb⟩

/-- What LeafOf gives for a tree and a document that fit. -/
def LeafPost (g : Nat → Nd) (z : Nat → Int) (w : World) (e : Ending) (w' : World) : Prop :=
  ∃ T, Ends g z T ∧ e = .returned (.int .i64 (seqZ g z T)) ∧ Below w.heap.size w w'

set_option maxHeartbeats 1000000 in
theorem iLeaf_yes (A D : Option Addr) (n cap f dc : Nat) (g : Nat → Nd) (z : Nat → Int) (w : World) (h : RdN w w.heap.size A n g) (hd : Rd w w.heap.size D f z) (hn : n ≤ 4194304) (h1 : docB f z = true) (h2 : treeB g n f = true) :
    Calls Try.prog 57 #[.slice A n cap, .slice D f dc] w (LeafPost g z w) := by
  have H1 := hid h1
  have H2 := hid h2
  clear h1 h2
  go_enter Try.func57, Try.ntmps57
  go_wp2_with fail
  refine (iPath_yes A D n cap f dc g z _ h hd hn H1.out H2.out).mono ?_
  rintro e w1 ⟨T, b, c, hE, hT, rfl, hl, hr, hb⟩
  have hc := hr.cell (i := T) (by omega)
  have HE := hid hE
  have q1 : (T : Int) < 15 := by omega
  have q2 : (((T + 1 : Nat) : Int) == 0) = false := by simp; omega
  clear hE
  go_wp2_with fail
  go_ret
  exact ⟨T, HE.out, rfl, hb⟩

set_option maxHeartbeats 2000000 in
theorem l2Leaf_any (A D : Option Addr) (n cap f dc : Nat) (g : Nat → Nd) (z : Nat → Int) (w : World) (h : RdN w w.heap.size A n g) (hd : Rd w w.heap.size D f z) (h2 : treeB g n f = true) :
    Calls Try.prog 123 #[.slice A n cap, .slice D f dc] w (LeafPost g z w) := by
  have hT := (treeB_iff g n f).1 h2
  have hn1 : 0 < n ∧ n ≤ 15 := by have := hT.2.1; omega
  have hu := hT.up
  have HU := hid hu
  have HT := hid hT
  clear h2 hT hu
  obtain ⟨hn0, hn15⟩ := hn1
  go_enter Try.func123, Try.ntmps123
  go_wp2_with fail
  go_loopw [5] (fun i wr => ∃ t : Nat, i = .int .i64 ((itr g z t : Nat) : Int) ∧ Hid (∀ s, s < t → (g (itr g z s)).left ≠ 0) ∧ Below w.heap.size w wr)
    (fun i _ => n - (intOf i).toNat)
  case atStart => exact ⟨0, rfl, fun s hs => by omega, Below.refl _ _⟩
  case round =>
    obtain ⟨t, rfl, hst, hbl⟩ := hrel
    obtain ⟨ht1, ht2⟩ := itr_up z HU.out hn0 t hst.out
    have hnext : itr g z (t + 1) = nxt g z (itr g z t) := rfl
    generalize hat : itr g z t = a at ht1 ht2 hnext ⊢
    obtain ⟨b, off, rfl, hbb, c0, c1, c2, c3, c4, c5⟩ := (h.below hbl).at_ ht2
    have hl : (a : Int) < (n : Int) := by omega
    have hl0 : (0 : Int) ≤ (a : Int) := by omega
    by_cases h0 : (g a).left = 0
    · have q0 : ¬ 0 < (g a).left := by omega
      have HE : Hid (Ends g z t) := ⟨hst.out, by rw [hat]; exact h0⟩
      have HAT := hid hat
      clear h0 hat hnext
      go_wp2_with fail
      go_ret
      exact ⟨t, HE.out, by unfold seqZ; rw [HAT.out]; rfl, hbl⟩
    · have hk := HU.out a ht2 h0
      obtain ⟨f0, f1⟩ := split_feat (HT.out.2.2 a ht2).1 h0
      have q0 : 0 < (g a).left := by omega
      obtain ⟨k, hk'⟩ := Int.eq_ofNat_of_zero_le f0
      have hkf : k < f := by omega
      rw [hk'] at c0
      have HN := hid (nxI_nxt (z := z) HU.out ht2 h0 hk')
      have HETA := hid (nd_eta hk')
      have HST : Hid (∀ s, s < t + 1 → (g (itr g z s)).left ≠ 0) := fun s hs => by
        by_cases e : s = t
        · subst e; rw [hat]; exact h0
        · exact hst.out s (by omega)
      obtain ⟨hna, hnn⟩ := nxt_up z HU.out ht2 h0
      have HX := hid hnext
      clear h0 hat hk' hk f0 f1 hnext hst
      have hdr := hd.to hbl hbl.size
      go_wp2_with fail
      refine (l2Next_any k (g a).cut (g a).left (g a).right (g a).miss (g a).value D f dc z _ hdr hkf).mono ?_
      rintro e w2 ⟨rfl, hb2⟩
      rw [HETA.out, HN.out]
      have hbl2 := hbl.trans (hb2.mono hbl.size)
      clear hb2 hbl c0 c1 c2 c3 c4 c5 HN HETA hdr
      go_wp2_with fail
      go_roundw
      case rel => exact ⟨t + 1, by rw [HX.out], HST, hbl2⟩
      case measure => simp [intOf]; omega

theorem sLeaf_no (A D : Option Addr) (n cap f dc : Nat) (g : Nat → Nd) (z : Nat → Int) (w : World) (h : RdN w w.heap.size A n g) (hd : Rd w w.heap.size D f z) (hn : n ≤ 4194304) (hf : f ≤ 4194304) (hno : (docB f z && treeB g n f) = false) :
    Calls Try.prog 61 #[.slice A n cap, .slice D f dc] w fun e w' => e = .returned (.int .i64 (-1)) ∧ Below w.heap.size w w' := by
  rcases path_false hno with h1 | ⟨h1, h2⟩
  · have H1 := hid h1
    clear h1 hno
    go_enter Try.func61, Try.ntmps61
    go_wp2_with fail
    refine (sDocOk_any D f dc z _ hd hf).mono ?_
    rintro e w1 ⟨rfl, rfl⟩
    rw [H1.out]
    go_wp2_with fail
    go_ret
    exact ⟨rfl, Below.refl _ _⟩
  · have H1 := hid h1
    have H2 := hid h2
    clear h1 h2 hno
    go_enter Try.func61, Try.ntmps61
    go_wp2_with fail
    refine (sDocOk_any D f dc z _ hd hf).mono ?_
    rintro e w1 ⟨rfl, rfl⟩
    rw [H1.out]
    go_wp2_with fail
    refine (sTreeOk_any A n cap g f _ h hn).mono ?_
    rintro e w1 ⟨rfl, hb⟩
    rw [H2.out]
    go_wp2_with fail
    go_ret
    exact ⟨rfl, hb⟩
theorem sLeaf_yes (A D : Option Addr) (n cap f dc : Nat) (g : Nat → Nd) (z : Nat → Int) (w : World) (h : RdN w w.heap.size A n g) (hd : Rd w w.heap.size D f z) (hn : n ≤ 4194304) (hf : f ≤ 4194304) (h1 : docB f z = true) (h2 : treeB g n f = true) :
    Calls Try.prog 61 #[.slice A n cap, .slice D f dc] w (LeafPost g z w) := by
  have H1 := hid h1
  have H2 := hid h2
  clear h1 h2
  go_enter Try.func61, Try.ntmps61
  go_wp2_with fail
  refine (sDocOk_any D f dc z _ hd hf).mono ?_
  rintro e w1 ⟨rfl, rfl⟩
  rw [H1.out]
  go_wp2_with fail
  refine (sTreeOk_any A n cap g f _ h hn).mono ?_
  rintro e w1 ⟨rfl, hb⟩
  rw [H2.out]
  go_wp2_with fail
  refine (l2Leaf_any A D n cap f dc g z _ (h.to hb hb.size) (hd.to hb hb.size) H2.out).mono ?_
  rintro e w2 ⟨T, hE, rfl, hb2⟩
  have HE := hid hE
  clear hE
  go_wp2_with fail
  go_ret
  exact ⟨T, HE.out, rfl, hb.trans (hb2.mono hb.size)⟩

end
end Go.Proofs.Ytckhooibjmheiaa
