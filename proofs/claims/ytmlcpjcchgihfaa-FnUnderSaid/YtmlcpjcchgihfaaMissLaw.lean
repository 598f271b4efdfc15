/- The direction for what is missing does not matter where nothing is. -/
import Derived.Test.YtmlcpjcchgihfaaWayMore
import Derived.Test.YtmlcpjcchgihfaaNodeRows
namespace Go.Proofs.Ytmlcpjcchgihfaa
open Go.RowKit Go.Deep

theorem gone_none {z : Nat → Int} : ∀ n, goneTo z n = 0 → ∀ k, k < n → z k ≠ 9999999 := by
  intro n
  induction n with
  | zero => intro _ k hk; omega
  | succ n ih =>
    intro h k hk
    simp only [goneTo] at h
    by_cases e : k = n
    · subst e
      intro he
      rw [if_pos he] at h
      omega
    · exact ih (by omega) k (by omega)
theorem flip_way {g : Nat → Nd} {z : Nat → Int} {T m f : Nat} (hT : Tree g m f) (hE : Ends g z T) (hz : ∀ k, k < f → z k ≠ 9999999) :
    Ends (flip g) z T ∧ ∀ s, s ≤ T → itr (flip g) z s = itr g z s := by
  have hn : ∀ s, s < T → nxt (flip g) z (itr g z s) = nxt g z (itr g z s) := by
    intro s hs
    refine flip_nxt ?_
    obtain ⟨_, hlt⟩ := itr_up z hT.up (by have := hT.2.1; omega) s fun t ht => hE.1 t (by omega)
    have hf := split_feat (hT.2.2 _ hlt).1 (hE.1 s hs)
    exact hz _ (by omega)
  exact ⟨ends_two hE hn fun i => by rw [flip_left], itr_two hn⟩
def mixF (g : Nat → Nd) (k : Nat) : Nat → Nd := fun i => if i < k then flip g i else g i

set_option maxRecDepth 100000 in
set_option maxHeartbeats 4000000 in
theorem lawMiss (A : Option Addr) (n cap : Nat) (w : World) (h : Bs w w.heap.size A n) :
    Calls Try.prog 6 #[.slice A n cap] w fun e w' => e = .returned (.bool true) ∧ Below w.heap.size w w' := by
  by_cases hbig : (1048576 : Int) < (n : Int)
  · go_enter Try.func6, Try.ntmps6
    go_wp2_with fail
    refine (big_yes A n cap _ hbig).mono ?_
    rintro e w1 ⟨rfl, rfl⟩
    go_wp2_with fail
    go_ret
    exact ⟨rfl, Below.refl _ _⟩
  · have hn : n ≤ 4194304 := by omega
    go_enter Try.func6, Try.ntmps6
    go_wp2_with fail
    refine (big_no A n cap _ (by omega)).mono ?_
    rintro e w0 ⟨rfl, rfl⟩
    go_wp2_with fail
    refine (drawPathOf A n cap _ h hn).mono ?_
    rintro e w1 ⟨m, g, b, c, f, z, D, dc, hm1, hm2, hf, rfl, hwb, hbL, hrow, hmc, hrd, hb1⟩
    have ht1 := hrow.rdN hbL
    have hm' : m ≤ 4194304 := by omega
    have hf' : f ≤ 4194304 := by omega
    clear hwb hbL hrow hmc
    cases hy : (docB f z && treeB g m f) with
    | false =>
      have HY := hid hy
      clear hy
      go_wp2_with fail
      refine (iPath_no _ D m c f dc g z _ ht1 hrd hm' hf' HY.out).mono ?_
      rintro e w2 ⟨rfl, hb2⟩
      have ht2 := ht1.to hb2 hb2.size
      have hr2 := hrd.to hb2 hb2.size
      have hw2 := hb1.trans (hb2.mono hb1.size)
      clear hb2 hb1 ht1 hrd
      go_wp2_with fail
      refine (sPath_no _ D m c f dc g z _ ht2 hr2 hm' hf' HY.out).mono ?_
      rintro e w3 ⟨rfl, hb3⟩
      have ht3 := ht2.to hb3 hb3.size
      have hr3 := hr2.to hb3 hb3.size
      have hw3 := hw2.trans (hb3.mono hw2.size)
      clear hb3 hw2 ht2 hr2
      go_wp2_with fail
      refine (same_any none none 0 0 0 nul nul _ rd_none rd_none (fun _ _ => rfl) (by omega)).mono ?_
      rintro e w4 ⟨rfl, m4, rfl⟩
      have hw4 := below_drewN hw3 m4
      have ht4 : RdN (w3.drewN m4) w3.heap.size _ m g := ht3
      have hr4 : Rd (w3.drewN m4) w3.heap.size D f z := hr3
      clear hw3 ht3 hr3
      go_wp2_with fail
      refine (sPath_no _ D m c f dc g z _ ht4 hr4 hm' hf' HY.out).mono ?_
      rintro e w7 ⟨rfl, hb7⟩
      have hw7 := hw4.trans (hb7.mono hw4.size)
      clear hb7 hw4 ht4 hr4
      go_wp2_with fail
      refine (same_any none none 0 0 0 nul nul _ rd_none rd_none (fun _ _ => rfl) (by omega)).mono ?_
      rintro e w8 ⟨rfl, m8, rfl⟩
      go_wp2_with fail
      go_ret
      exact ⟨rfl, below_drewN hw7 m8⟩
    | true =>
      obtain ⟨h1, h2⟩ : docB f z = true ∧ treeB g m f = true := by simpa using hy
      have H1 := hid h1
      have H2 := hid h2
      have hf6 := (docB_true h1).2.1
      have hT := (treeB_iff g m f).1 h2
      have hm15 := hT.2.1.2
      have HU := hid hT.up
      have HT := hid hT
      clear hT h1 h2 hy
      go_wp2_with fail
      refine (iPath_yes _ D m c f dc g z _ ht1 hrd hm' H1.out H2.out).mono ?_
      rintro e w2 ⟨T, b2, c2, hE, hT, rfl, hl2, hr2, hb2⟩
      have ht2 := ht1.to hb2 hb2.size
      have hd2 := hrd.to hb2 hb2.size
      have hw2 := hb1.trans (hb2.mono hb1.size)
      have HE := hid hE
      clear hb2 hb1 ht1 hrd hl2 hE
      go_wp2_with fail
      refine (sPath_yes _ D m c f dc g z _ ht2 hd2 hm' hf' H1.out H2.out).mono ?_
      rintro e w3 ⟨T', b3, c3, hE', _, rfl, _, hr3, hb3⟩
      obtain rfl := HE.out.same hE'
      have ht3 := ht2.to hb3 hb3.size
      have hd3 := hd2.to hb3 hb3.size
      have hr2' := hr2.below hb3 hr2.lt
      have hw3 := hw2.trans (hb3.mono hw2.size)
      clear hb3 hw2 ht2 hd2 hr2 hE'
      go_wp2_with fail
      refine (same_any _ _ (T + 1) c2 c3 (seqZ g z) (seqZ g z) _ (rd_of hr2') (rd_of hr3) (fun _ _ => rfl) (by omega)).mono ?_
      rintro e w4 ⟨rfl, m4, rfl⟩
      have hw6 := below_drewN hw3 m4
      have ht6 : RdN (w3.drewN m4) w3.heap.size _ m g := ht3
      have hd6 : Rd (w3.drewN m4) w3.heap.size D f z := hd3
      have hr6 : Row (w3.drewN m4) 2 b2 (T + 1) (seqZ g z) := hr2'
      have hsz : (w3.drewN m4).heap.size = w3.heap.size := rfl
      clear hw3 ht3 hd3 hr2' hr3
      have ht5 := ht6
      have s0 : ¬ ((T + 1 : Nat) : Int) = 0 := by omega
      have hgz : Hid (goneZ f z = (goneTo z f : Nat)) := by show _ = _; unfold goneZ; rw [if_pos H1.out]
      go_wp2_with fail
      refine (iGone_any D f dc z _ hd6 hf').mono ?_
      rintro e w7 ⟨rfl, hb7⟩
      rw [hgz.out]
      have ht7 := ht6.to hb7 hb7.size
      have hd7 := hd6.to hb7 hb7.size
      have hr7 : Row w7 2 b2 (T + 1) (seqZ g z) := Row.below (w := w3.drewN m4) hr6 hb7 hr6.lt
      have hw7 := hw6.trans (hb7.mono hw6.size)
      clear hb7 hw6 ht6 hd6 hr6 hsz ht5
      by_cases hgo : goneTo z f = 0
      · rw [hgo]
        have HZ := hid (gone_none f hgo)
        have HF := hid (flip_way HT.out HE.out HZ.out)
        have HTF : Hid (treeB (flip g) m f = true) := (treeB_iff _ _ _).2 (flip_tree HT.out)
        clear hgo
        obtain ⟨i0, hi0, hz0, hz1, hz2⟩ := info_parts info_node
        have hba := (Below.refl w7.heap.size w7).alloc (Nat.le_refl _) (.cells #[] 33)
        obtain ⟨b', off, e1, hbb, hcells⟩ := ht7.to hba hba.size (by omega)
        injection e1 with e1
        injection e1 with e1 e2 e3
        subst e1 e2
        have HC := hid hcells
        clear hcells
        go_wp2_with (at_builtin; refine wpList_append_own _ rfl (.tmp 39) (.tmp 40) 24 rfl w7.heap.size 33 i0 (ndV ⟨0, 0, 0, 0, false, 0⟩) 6 48 Try.underlying24 hi0 hz0 hz1 hz2 rfl (by decide) (.slice (some ⟨w7.heap.size, 0, none⟩) 0 0) 0 [] rfl (World.ownsRow_made w7 #[] 0 (Nat.le_refl _) (by unfold maxLen; omega) rfl) ⟨b, 0, none⟩ m c (nodesC m g) rfl (nodesC_len m g) (nodes_src HC.out) (nodesC_one m g) (by unfold maxLen; omega) (by omega) (by simp) ?_)
        intro v' w8 hown8 hg8 _
        have hb8 : Below w7.heap.size w7 w8 := hba.grown hg8 hba.size (fun x hx => by simp [Value.ownBlock] at hx; omega)
        obtain ⟨A8, c8, rfl⟩ := own_form hown8
        obtain ⟨b8, rfl, hb8l, hmc8, hrow8⟩ := own_rowN hown8 (by omega)
        clear hown8 hg8 hba HC
        go_wp2_with fail
        go_loopw [7] (fun i wr => ∃ k : Nat, k ≤ m ∧ i = .int .i64 k ∧ RowN wr 33 b8 m (mixF g k) ∧ Below w7.heap.size w7 wr) (fun i _ => m - (intOf i).toNat)
        case atStart => exact ⟨0, Nat.zero_le _, rfl, hrow8.congr (fun i _ => by unfold mixF; rw [if_neg (by omega)]), hb8⟩
        case round =>
          obtain ⟨k, hk, rfl, hrr, hbl⟩ := hrel
          by_cases hlt : k < m
          · have hl : (k : Int) < (m : Int) := by omega
            have hl0 : (0 : Int) ≤ (k : Int) := by omega
            obtain ⟨c0, c1, c2', c3, c4, c5⟩ := hrr.ndAt hlt
            have em : mixF g k k = g k := by unfold mixF; rw [if_neg (by omega)]
            rw [em] at c0 c1 c2' c3 c4 c5
            have f4 := hrr.frozen (k * 6 + 4)
            have hnext := hrr.miss hlt (!(g k).miss)
            have hblk := hbl.setCell (p := ⟨b8, k * 6 + 4, none⟩) hb8l (.bool (!(g k).miss))
            clear c0 c1 c3 c5 em
            by_cases hq : 0 < (g k).left
            · have hmix : Hid (∀ i, i < m → (fun i => if i = k then { mixF g k i with miss := !(g k).miss } else mixF g k i) i = mixF g (k + 1) i) := fun i _ => by
                show (if i = k then { mixF g k i with miss := !(g k).miss } else mixF g k i) = _
                by_cases e : i = k
                · subst e
                  rw [if_pos rfl]
                  unfold mixF
                  rw [if_neg (by omega), if_pos (by omega)]
                  unfold flip
                  rw [if_pos hq]
                · rw [if_neg e]
                  unfold mixF
                  by_cases e2 : i < k
                  · rw [if_pos e2, if_pos (by omega)]
                  · rw [if_neg e2, if_neg (by omega)]
              go_wp2_with fail
              go_roundw
              case rel => exact ⟨k + 1, by omega, by go_num, hnext.congr hmix.out, hblk⟩
              case measure => simp [intOf]; omega
            · have hmix : Hid (∀ i, i < m → mixF g k i = mixF g (k + 1) i) := fun i _ => by
                unfold mixF
                by_cases e : i = k
                · subst e
                  rw [if_neg (by omega), if_pos (by omega)]
                  unfold flip
                  rw [if_neg hq]
                · by_cases e2 : i < k
                  · rw [if_pos e2, if_pos (by omega)]
                  · rw [if_neg e2, if_neg (by omega)]
              go_wp2_with fail
              go_roundw
              case rel => exact ⟨k + 1, by omega, by go_num, hrr.congr hmix.out, hbl⟩
              case measure => simp [intOf]; omega
          · have e : k = m := by omega
            subst e
            have hrf : RowN wr 33 b8 k (flip g) := hrr.congr fun i hi => by unfold mixF; rw [if_pos hi]
            have hdr := hd7.to hbl hbl.size
            have hpr := hr7.below hbl hr7.lt
            have hwr := hw7.trans (hbl.mono hw7.size)
            clear hrr hbl hd7 hr7 hw7 ht7 hbb hb8 hrow8
            go_wp2_with fail
            refine (iPath_yes _ D k c8 f dc (flip g) z _ (rdN_of hrf) hdr hm' H1.out HTF.out).mono ?_
            rintro e w9 ⟨T', b9, c9, hE', _, rfl, _, hr9, hb9⟩
            obtain rfl := HF.out.1.same hE'
            have hpr9 := hpr.below hb9 hpr.lt
            have hw9 := hwr.trans (hb9.mono hwr.size)
            clear hb9 hwr hrf hdr hpr
            go_wp2_with fail
            refine (same_any _ _ (T + 1) c9 c2 (seqZ (flip g) z) (seqZ g z) _ (rd_of hr9) (rd_of hpr9) (fun s hs => by unfold seqZ; rw [HF.out.2 s (by omega)]) (by omega)).mono ?_
            rintro e w10 ⟨rfl, m10, rfl⟩
            go_wp2_with fail
            go_ret
            exact ⟨rfl, below_drewN hw9 m10⟩
      · have hne : (((goneTo z f : Nat) : Int) != 0) = true := by simp; omega
        go_wp2_with fail
        refine (sPath_yes _ D m c f dc g z _ ht7 hd7 hm' hf' H1.out H2.out).mono ?_
        rintro e w9 ⟨T', b9, c9, hE', _, rfl, _, hr9, hb9⟩
        obtain rfl := HE.out.same hE'
        have hpr9 := hr7.below hb9 hr7.lt
        have hw9 := hw7.trans (hb9.mono hw7.size)
        clear hb9 hw7 ht7 hd7 hr7
        go_wp2_with fail
        refine (same_any _ _ (T + 1) c2 c9 (seqZ g z) (seqZ g z) _ (rd_of hpr9) (rd_of hr9) (fun _ _ => rfl) (by omega)).mono ?_
        rintro e w10 ⟨rfl, m10, rfl⟩
        go_wp2_with fail
        go_ret
        exact ⟨rfl, below_drewN hw9 m10⟩
end Go.Proofs.Ytmlcpjcchgihfaa
