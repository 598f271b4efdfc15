/- PathOf and LeafOf of the other side. -/
import Derived.Test.YtmpgefpaoogoiaaTreeJ
import Derived.Test.YtmpgefpaoogoiaaPath
namespace Go.Proofs.Ytmpgefpaoogoiaa
open Go.RowKit Go.Deep

theorem nxI_nxt {g : Nat → Nd} {n a k : Nat} {z : Nat → Int} (hu : Up g n) (ha : a < n) (h0 : (g a).left ≠ 0) (hk : (g a).feat = k) : nxI (g a) (z k) = ((nxt g z a : Nat) : Int) := by
  have := hu a ha h0
  unfold nxI nxt
  rw [hk, Int.toNat_natCast]
  split <;> omega
theorem nd_eta {d : Nd} {k : Nat} (hk : d.feat = k) : (⟨(k : Int), d.cut, d.left, d.right, d.miss, d.value⟩ : Nd) = d := by cases d; simp only at hk; rw [hk]
theorem numsOf_succ (n : Nat) (z : Nat → Int) : numsOf (n + 1) z = numsOf n z ++ [.int .i64 (z n)] := by
  unfold numsOf
  rw [List.range_succ, List.map_append]
  rfl
theorem own_below {w w' : World} {base : Nat} {e : TypeId} {size : Nat} {v : Value} {n : Nat} {xs : List Value} (h : w.ownsRow base e size v n xs) (hb : Below w.heap.size w w') : w'.ownsRow base e size v n xs :=
  h.kept (row := none) ⟨hb.os, hb.tape, hb.output, hb.size, fun i hi _ => hb.block i hi⟩ (by cases hv : v.ownBlock <;> simp)
theorem own_form {w : World} {base : Nat} {e : TypeId} {size : Nat} {v : Value} {n : Nat} {xs : List Value} (h : w.ownsRow base e size v n xs) : ∃ A c, v = .slice A n c := by
  rcases h.2 with ⟨rfl, rfl⟩ | ⟨g, cap, cur, rfl, _⟩
  · exact ⟨_, _, rfl⟩
  · exact ⟨_, _, rfl⟩
def seqZ (g : Nat → Nd) (z : Nat → Int) : Nat → Int := fun t => (itr g z t : Nat)

/-- What PathOf gives for a tree and a document that fit. -/
def PathPost (g : Nat → Nd) (z : Nat → Int) (w : World) (e : Ending) (w' : World) : Prop :=
  ∃ T b c, Ends g z T ∧ T < 15 ∧ e = .returned (.slice (some ⟨b, 0, none⟩) (T + 1) c) ∧ w.heap.size ≤ b ∧ Row w' 2 b (T + 1) (seqZ g z) ∧ Below w.heap.size w w'

theorem path_false {n f : Nat} {g : Nat → Nd} {z : Nat → Int} (h : (docB f z && treeB g n f) = false) : docB f z = false ∨ (docB f z = true ∧ treeB g n f = false) := by
  cases hd : docB f z
  · exact .inl rfl
  · rw [hd] at h; exact .inr ⟨rfl, by simpa using h⟩

set_option maxHeartbeats 1000000 in
theorem sPath_no (A D : Option Addr) (n cap f dc : Nat) (g : Nat → Nd) (z : Nat → Int) (w : World) (h : RdN w w.heap.size A n g) (hd : Rd w w.heap.size D f z) (hn : n ≤ 4194304) (hf : f ≤ 4194304) (hno : (docB f z && treeB g n f) = false) :
    Calls Try.prog 143 #[.slice A n cap, .slice D f dc] w fun e w' => e = .returned (.slice none 0 0) ∧ Below w.heap.size w w' := by
  rcases path_false hno with h1 | ⟨h1, h2⟩
  · have H1 := hid h1
    clear h1 hno
    go_enter Try.func143, Try.ntmps143
    go_wp2_with fail
    refine (sDocOk_any D f dc z _ hd hf).mono ?_
    rintro e w1 ⟨rfl, rfl⟩
    rw [H1.out]
    go_wp2_with fail
    go_ret
    exact ⟨rfl, Below.refl _ _⟩
  · have H1 := hid h1
    have H2 := hid h2
    clear h1 h2 hno
    go_enter Try.func143, Try.ntmps143
    go_wp2_with fail
    refine (sDocOk_any D f dc z _ hd hf).mono ?_
    rintro e w1 ⟨rfl, rfl⟩
    rw [H1.out]
    go_wp2_with fail
    refine (sTreeOk_any A n cap g f _ h hn).mono ?_
    rintro e w1 ⟨rfl, hb⟩
    rw [H2.out]
    go_wp2_with fail
    go_ret
    exact ⟨rfl, hb⟩

set_option maxHeartbeats 2000000 in
theorem sPath_yes (A D : Option Addr) (n cap f dc : Nat) (g : Nat → Nd) (z : Nat → Int) (w : World) (h : RdN w w.heap.size A n g) (hd : Rd w w.heap.size D f z) (hn : n ≤ 4194304) (hf : f ≤ 4194304) (h1 : docB f z = true) (h2 : treeB g n f = true) :
    Calls Try.prog 143 #[.slice A n cap, .slice D f dc] w (PathPost g z w) := by
  obtain ⟨i0, hi0, hz0, hz1, hz2⟩ := info_parts info_int
  have hT := (treeB_iff g n f).1 h2
  have hn1 : 0 < n ∧ n ≤ 15 := by have := hT.2.1; omega
  have hu := hT.up
  have HU := hid hu
  have HT := hid hT
  have H1 := hid h1
  have H2 := hid h2
  clear h1 h2 hT hu
  obtain ⟨hn0, hn15⟩ := hn1
  go_enter Try.func143, Try.ntmps143
  go_wp2_with fail
  refine (sDocOk_any D f dc z _ hd hf).mono ?_
  rintro e w1 ⟨rfl, rfl⟩
  rw [H1.out]
  go_wp2_with fail
  refine (sTreeOk_any A n cap g f _ h hn).mono ?_
  rintro e w1 ⟨rfl, hb⟩
  rw [H2.out]
  have hwb := hb.size
  go_wp2_with fail
  go_loopw [5, 6] (fun o i wr => ∃ (t : Nat) (A' : Option Addr) (c : Nat), i = .int .i64 ((itr g z t : Nat) : Int) ∧ o = .slice A' (t + 1) c ∧ wr.ownsRow w.heap.size 2 1 (.slice A' (t + 1) c) (t + 1) (numsOf (t + 1) (seqZ g z)) ∧ Hid (∀ s, s < t → (g (itr g z s)).left ≠ 0) ∧ Below w.heap.size w wr)
    (fun _ i _ => n - (intOf i).toNat)
  case atStart => exact ⟨0, _, _, rfl, rfl, World.ownsRow_lit w1 _ 1 hwb (by unfold maxLen; omega) rfl, fun s hs => by omega, hb.alloc hwb _⟩
  case round =>
    obtain ⟨t, A', c, rfl, rfl, hown, hst, hbl⟩ := hrel
    obtain ⟨ht1, ht2⟩ := itr_up z HU.out hn0 t hst.out
    have hnext : itr g z (t + 1) = nxt g z (itr g z t) := rfl
    generalize hat : itr g z t = a at ht1 ht2 hnext ⊢
    obtain ⟨b, off, rfl, hbb, c0, c1, c2, c3, c4, c5⟩ := (h.below hbl).at_ ht2
    have hl : (a : Int) < (n : Int) := by omega
    have hl0 : (0 : Int) ≤ (a : Int) := by omega
    by_cases h0 : (g a).left = 0
    · have q0 : ¬ 0 < (g a).left := by omega
      have HE : Hid (Ends g z t) := ⟨hst.out, by rw [hat]; exact h0⟩
      clear h0 hat hnext
      go_wp2_with fail
      go_ret
      obtain ⟨gb, cp, hv, hgb, hrow⟩ := own_row hown (by omega)
      injection hv with e1 _ e3
      subst e1
      exact ⟨t, gb, c, HE.out, by omega, rfl, hgb, hrow, hbl⟩
    · have hk := HU.out a ht2 h0
      obtain ⟨f0, f1⟩ := split_feat (HT.out.2.2 a ht2).1 h0
      have q0 : 0 < (g a).left := by omega
      obtain ⟨k, hk'⟩ := Int.eq_ofNat_of_zero_le f0
      have hkf : k < f := by omega
      rw [hk'] at c0
      have HN := hid (nxI_nxt (z := z) HU.out ht2 h0 hk')
      have HETA := hid (nd_eta hk')
      have HST : Hid (∀ s, s < t + 1 → (g (itr g z s)).left ≠ 0) := fun s hs => by
        by_cases e : s = t
        · subst e; rw [hat]; exact h0
        · exact hst.out s (by omega)
      obtain ⟨hna, hnn⟩ := nxt_up z HU.out ht2 h0
      have HX := hid hnext
      clear h0 hat hk' hk f0 f1 hnext hst
      have hdr := hd.to hbl hbl.size
      go_wp2_with fail
      refine (l2Next_any k (g a).cut (g a).left (g a).right (g a).miss (g a).value D f dc z _ hdr hkf).mono ?_
      rintro e w2 ⟨rfl, hb2⟩
      rw [HETA.out, HN.out]
      have hown2 := own_below hown hb2
      have hbl2 := hbl.trans (hb2.mono hbl.size)
      have hs2 := hbl2.size
      clear hb2 hown hbl c0 c1 c2 c3 c4 c5 HN HETA hdr
      go_wp2_with (at_builtin; refine wpList_append_own _ rfl (.tmp 30) (.tmp 32) 25 rfl w.heap.size 2 i0 (.int .i64 0) 1 8 Try.underlying25 hi0 hz0 hz1 hz2 rfl (by decide) _ (t + 1) _ rfl (hown2.alloc _) ⟨w2.heap.size, 0, none⟩ 1 1 [.int .i64 ((nxt g z a : Nat) : Int)] rfl rfl (cell_one_new _ _ _) (by intro u hu; simp at hu; subst hu; rfl) (by unfold maxLen; omega) (by omega) (by simp; omega) ?_)
      intro v' w3 hown3 hg3 _
      have hbl3 : Below w.heap.size w w3 := (hbl2.alloc hs2 _).grown hg3 (by simp; omega) (fun x hx => (hown2.lt x hx).1)
      obtain ⟨A3, c3, rfl⟩ := own_form hown3
      clear hg3 hown2 hbl2
      go_wp2_with fail
      go_roundw
      case rel => exact ⟨t + 1, A3, c3, by rw [HX.out], rfl, by rw [numsOf_succ (t + 1)]; unfold seqZ; rw [HX.out]; exact hown3, HST, hbl3⟩
      case measure => simp [intOf]; omega
end Go.Proofs.Ytmpgefpaoogoiaa
