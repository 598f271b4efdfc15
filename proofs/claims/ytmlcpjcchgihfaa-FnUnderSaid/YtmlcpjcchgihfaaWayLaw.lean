/- The walk of the law of paths. -/
import Derived.Test.YtmlcpjcchgihfaaDepLaw
import Derived.Test.YtmlcpjcchgihfaaWays
namespace Go.Proofs.Ytmlcpjcchgihfaa
open Go.RowKit Go.Deep

/-- Where the path goes from the split a: by the number there. -/
theorem way_cases {g : Nat → Nd} {z : Nat → Int} {n a j k : Nat} (hu : Up g n) (ha : a < n) (hl : (g a).left ≠ 0) (hj : (g a).feat = (j : Int)) (hat : itr g z k = a) :
    (z j = 9999999 ∧ (g a).miss = true ∧ seqZ g z (k + 1) = (g a).left) ∨ (z j = 9999999 ∧ (g a).miss = false ∧ seqZ g z (k + 1) = (g a).right) ∨
    (z j ≠ 9999999 ∧ z j ≤ (g a).cut ∧ seqZ g z (k + 1) = (g a).left) ∨ (z j ≠ 9999999 ∧ ¬ z j ≤ (g a).cut ∧ seqZ g z (k + 1) = (g a).right) := by
  have hb := hu a ha hl
  have e : seqZ g z (k + 1) = ((nxt g z a : Nat) : Int) := by unfold seqZ; rw [itr, hat]
  have e2 : (g a).feat.toNat = j := by omega
  by_cases hz : z j = 9999999
  · cases hm : (g a).miss
    · refine .inr (.inl ⟨hz, rfl, ?_⟩)
      rw [e]; unfold nxt goL; rw [e2, if_pos hz, hm, if_neg (by simp)]; omega
    · refine .inl ⟨hz, rfl, ?_⟩
      rw [e]; unfold nxt goL; rw [e2, if_pos hz, hm, if_pos rfl]; omega
  · by_cases hc : z j ≤ (g a).cut
    · refine .inr (.inr (.inl ⟨hz, hc, ?_⟩))
      rw [e]; unfold nxt goL; rw [e2, if_neg hz, if_pos (by simpa using hc)]; omega
    · refine .inr (.inr (.inr ⟨hz, hc, ?_⟩))
      rw [e]; unfold nxt goL; rw [e2, if_neg hz, if_neg (by simpa using hc)]; omega

set_option maxRecDepth 100000 in
set_option maxHeartbeats 4000000 in
theorem lawWay (A : Option Addr) (n cap : Nat) (w : World) (h : Bs w w.heap.size A n) :
    Calls Try.prog 4 #[.slice A n cap] w fun e w' => e = .returned (.bool true) ∧ Below w.heap.size w w' := by
  by_cases hbig : (1048576 : Int) < (n : Int)
  · go_enter Try.func4, Try.ntmps4
    go_wp2_with fail
    refine (big_yes A n cap _ hbig).mono ?_
    rintro e w1 ⟨rfl, rfl⟩
    go_wp2_with fail
    go_ret
    exact ⟨rfl, Below.refl _ _⟩
  · have hn : n ≤ 4194304 := by omega
    go_enter Try.func4, Try.ntmps4
    go_wp2_with fail
    refine (big_no A n cap _ (by omega)).mono ?_
    rintro e w0 ⟨rfl, rfl⟩
    go_wp2_with fail
    refine (drawPathOf A n cap _ h hn).mono ?_
    rintro e w1 ⟨m, g, b, c, f, z, D, dc, hm1, hm2, hf, rfl, hwb, hbL, hrow, hmc, hrd, hb1⟩
    have ht1 := hrow.rdN hbL
    have hm' : m ≤ 4194304 := by omega
    have hf' : f ≤ 4194304 := by omega
    clear hwb hbL hrow hmc
    cases hy : (docB f z && treeB g m f) with
    | false =>
      have HY := hid hy
      clear hy
      go_wp2_with fail
      refine (iPath_no _ D m c f dc g z _ ht1 hrd hm' hf' HY.out).mono ?_
      rintro e w2 ⟨rfl, hb2⟩
      have ht2 := ht1.to hb2 hb2.size
      have hr2 := hrd.to hb2 hb2.size
      have hw2 := hb1.trans (hb2.mono hb1.size)
      clear hb2 hb1 ht1 hrd
      go_wp2_with fail
      refine (sPath_no _ D m c f dc g z _ ht2 hr2 hm' hf' HY.out).mono ?_
      rintro e w3 ⟨rfl, hb3⟩
      have ht3 := ht2.to hb3 hb3.size
      have hr3 := hr2.to hb3 hb3.size
      have hw3 := hw2.trans (hb3.mono hw2.size)
      clear hb3 hw2 ht2 hr2
      go_wp2_with fail
      refine (same_any none none 0 0 0 nul nul _ rd_none rd_none (fun _ _ => rfl) (by omega)).mono ?_
      rintro e w4 ⟨rfl, m4, rfl⟩
      have hw4 := below_drewN hw3 m4
      have ht4 : RdN (w3.drewN m4) w3.heap.size _ m g := ht3
      have hr4 : Rd (w3.drewN m4) w3.heap.size D f z := hr3
      clear hw3 ht3 hr3
      go_wp2_with fail
      refine (iLeaf_no _ D m c f dc g z _ ht4 hr4 hm' hf' HY.out).mono ?_
      rintro e w5 ⟨rfl, hb5⟩
      have ht5 := ht4.to hb5 hb5.size
      have hr5 := hr4.to hb5 hb5.size
      have hw5 := hw4.trans (hb5.mono hw4.size)
      clear hb5 hw4 ht4 hr4
      go_wp2_with fail
      refine (sLeaf_no _ D m c f dc g z _ ht5 hr5 hm' hf' HY.out).mono ?_
      rintro e w6 ⟨rfl, hb6⟩
      have ht6 := ht5.to hb6 hb6.size
      have hr6 := hr5.to hb6 hb6.size
      have hw6 := hw5.trans (hb6.mono hw5.size)
      clear hb6 hw5 ht5 hr5
      go_wp2_with fail
      refine (sPath_no _ D m c f dc g z _ ht6 hr6 hm' hf' HY.out).mono ?_
      rintro e w7 ⟨rfl, hb7⟩
      have ht7 := ht6.to hb7 hb7.size
      have hr7 := hr6.to hb7 hb7.size
      have hw7 := hw6.trans (hb7.mono hw6.size)
      clear hb7 hw6 ht6 hr6
      go_wp2_with fail
      refine (same_any none none 0 0 0 nul nul _ rd_none rd_none (fun _ _ => rfl) (by omega)).mono ?_
      rintro e w8 ⟨rfl, m8, rfl⟩
      have hw8 := below_drewN hw7 m8
      have ht8 : RdN (w7.drewN m8) w7.heap.size _ m g := ht7
      have hr8 : Rd (w7.drewN m8) w7.heap.size D f z := hr7
      clear hw7 ht7 hr7
      go_wp2_with fail
      refine (iLeaf_no _ D m c f dc g z _ ht8 hr8 hm' hf' HY.out).mono ?_
      rintro e w9 ⟨rfl, hb9⟩
      have ht9 := ht8.to hb9 hb9.size
      have hr9 := hr8.to hb9 hb9.size
      have hw9 := hw8.trans (hb9.mono hw8.size)
      clear hb9 hw8 ht8 hr8
      go_wp2_with fail
      refine (sLeaf_no _ D m c f dc g z _ ht9 hr9 hm' hf' HY.out).mono ?_
      rintro e w10 ⟨rfl, hb10⟩
      go_wp2_with fail
      go_ret
      exact ⟨rfl, hw9.trans (hb10.mono hw9.size)⟩
    | true =>
      obtain ⟨h1, h2⟩ : docB f z = true ∧ treeB g m f = true := by simpa using hy
      have H1 := hid h1
      have H2 := hid h2
      have hf6 := (docB_true h1).2.1
      have hT := (treeB_iff g m f).1 h2
      have hm15 := hT.2.1.2
      have HU := hid hT.up
      have HT := hid hT
      clear hT h1 h2 hy
      go_wp2_with fail
      refine (iPath_yes _ D m c f dc g z _ ht1 hrd hm' H1.out H2.out).mono ?_
      rintro e w2 ⟨T, b2, c2, hE, hT, rfl, hl2, hr2, hb2⟩
      have ht2 := ht1.to hb2 hb2.size
      have hd2 := hrd.to hb2 hb2.size
      have hw2 := hb1.trans (hb2.mono hb1.size)
      have HE := hid hE
      clear hb2 hb1 ht1 hrd hl2 hE
      go_wp2_with fail
      refine (sPath_yes _ D m c f dc g z _ ht2 hd2 hm' hf' H1.out H2.out).mono ?_
      rintro e w3 ⟨T', b3, c3, hE', _, rfl, _, hr3, hb3⟩
      obtain rfl := HE.out.same hE'
      have ht3 := ht2.to hb3 hb3.size
      have hd3 := hd2.to hb3 hb3.size
      have hr2' := hr2.below hb3 hr2.lt
      have hw3 := hw2.trans (hb3.mono hw2.size)
      clear hb3 hw2 ht2 hd2 hr2 hE'
      go_wp2_with fail
      refine (same_any _ _ (T + 1) c2 c3 (seqZ g z) (seqZ g z) _ (rd_of hr2') (rd_of hr3) (fun _ _ => rfl) (by omega)).mono ?_
      rintro e w4 ⟨rfl, m4, rfl⟩
      have hw4 := below_drewN hw3 m4
      have ht4 : RdN (w3.drewN m4) w3.heap.size _ m g := ht3
      have hd4 : Rd (w3.drewN m4) w3.heap.size D f z := hd3
      have hr4 : Row (w3.drewN m4) 2 b2 (T + 1) (seqZ g z) := hr2'
      clear hw3 ht3 hd3 hr2' hr3
      go_wp2_with fail
      refine (iLeaf_yes _ D m c f dc g z _ ht4 hd4 hm' H1.out H2.out).mono ?_
      rintro e w5 ⟨T', hE', rfl, hb5⟩
      obtain rfl := HE.out.same hE'
      have ht5 := ht4.to hb5 hb5.size
      have hd5 := hd4.to hb5 hb5.size
      have hr5 := hr4.below hb5 hr4.lt
      have hw5 := hw4.trans (hb5.mono hw4.size)
      clear hb5 hw4 ht4 hd4 hr4 hE'
      go_wp2_with fail
      refine (sLeaf_yes _ D m c f dc g z _ ht5 hd5 hm' hf' H1.out H2.out).mono ?_
      rintro e w6 ⟨T', hE', rfl, hb6⟩
      obtain rfl := HE.out.same hE'
      have ht6 := ht5.to hb6 hb6.size
      have hd6 := hd5.to hb6 hb6.size
      have hr6 := hr5.below hb6 hr5.lt
      have hw6 := hw5.trans (hb6.mono hw5.size)
      clear hb6 hw5 ht5 hd5 hr5 hE'
      have s0 : ¬ ((T + 1 : Nat) : Int) = 0 := by omega
      go_wp2_with fail
      go_loopw [6] (fun i wr => ∃ k : Nat, k ≤ T ∧ i = .int .i64 k ∧ Below w6.heap.size w6 wr) (fun i _ => T - (intOf i).toNat)
      case atStart => exact ⟨0, Nat.zero_le _, rfl, Below.refl _ _⟩
      case round =>
        obtain ⟨k, hk, rfl, hbl⟩ := hrel
        have htr := ht6.to hbl hbl.size
        have hdr := hd6.to hbl hbl.size
        have hrr := hr6.below hbl hr6.lt
        by_cases hlt : k < T
        · have hl : (k : Int) + 1 < ((T + 1 : Nat) : Int) := by omega
          have hl1 : (k : Int) < ((T + 1 : Nat) : Int) := by omega
          have hleft := HE.out.1 k hlt
          obtain ⟨_, ha⟩ := itr_up z HU.out (by omega) k fun s hs => HE.out.1 s (by omega)
          have cp := hrr.cell (show k < T + 1 by omega)
          have cq := hrr.cell (show k + 1 < T + 1 by omega)
          have cp' : wr.cell? ⟨b2, k, none⟩ = some (.int .i64 ((itr g z k : Nat) : Int)) := cp
          clear cp
          generalize hat : itr g z k = a at cp' hleft ha
          obtain ⟨b', off, e1, hbb, c0, c1, c2', c3', c4, c5⟩ := htr.at_ ha
          injection e1 with e1
          injection e1 with e1 e2 e3
          subst e1 e2
          simp only [Nat.zero_add] at c0 c1 c2' c3' c4 c5
          obtain ⟨f0, f1⟩ := split_feat (HT.out.2.2 a ha).1 hleft
          obtain ⟨j, hj⟩ := Int.eq_ofNat_of_zero_le f0
          have hjf : j < f := by omega
          obtain ⟨b'', off', rfl, hbd, cd⟩ := hdr.at_ hjf
          have hways := way_cases HU.out ha hleft hj hat
          rw [hj] at c0
          have ha' : (a : Int) < (m : Int) := by omega
          have hjf' : (j : Int) < (f : Int) := by omega
          have hl0 : (0 : Int) ≤ (k : Int) := by omega
          have ha0 : (0 : Int) ≤ (a : Int) := by omega
          clear hdr htr hrr hat hj f0 f1
          have hb3 : b < wr.heap.size := hbb
          have hd3 : b'' < wr.heap.size := hbd
          have hp3 : b2 < wr.heap.size := Nat.lt_of_lt_of_le hr6.lt hbl.size
          have HN := Blk.new wr 33 #[.int .i64 (j : Int), .int .i64 (g a).cut, .int .i64 (g a).left, .int .i64 (g a).right, .bool (g a).miss, .int .i64 (g a).value]
          have hbl1 := hbl.alloc hbl.size (.cells #[.int .i64 (j : Int), .int .i64 (g a).cut, .int .i64 (g a).left, .int .i64 (g a).right, .bool (g a).miss, .int .i64 (g a).value] 33)
          have hba := (Below.refl wr.heap.size wr).alloc (Nat.le_refl _) (.cells #[.int .i64 (j : Int), .int .i64 (g a).cut, .int .i64 (g a).left, .int .i64 (g a).right, .bool (g a).miss, .int .i64 (g a).value] 33)
          have cd1 := (World.cell?_of_block (a := ⟨b'', off' + j, none⟩) (hba.block b'' hd3)).trans cd
          have cq1 := (World.cell?_of_block (a := ⟨b2, k + 1, none⟩) (hba.block b2 hp3)).trans cq
          have q0 : ((g a).left == 0) = false := by simpa using hleft
          rcases hways with ⟨hz, hm, hs⟩ | ⟨hz, hm, hs⟩ | ⟨hz, hm, hs⟩ | ⟨hz, hm, hs⟩
          · rw [hm] at hbl1
            rw [hz] at cd1
            rw [hs] at cq cq1
            clear hs
            go_wp2_with fail
            go_roundw
            case rel => exact ⟨k + 1, by omega, by go_num, hbl1⟩
            case measure => simp [intOf]; omega
          · rw [hm] at hbl1
            rw [hz] at cd1
            rw [hs] at cq cq1
            clear hs
            go_wp2_with fail
            go_roundw
            case rel => exact ⟨k + 1, by omega, by go_num, hbl1⟩
            case measure => simp [intOf]; omega
          · rw [hs] at cq cq1
            have qz : (z j == 9999999) = false := by simpa using hz
            clear hs
            go_wp2_with fail
            go_roundw
            case rel => exact ⟨k + 1, by omega, by omega⟩
            case measure => simp [intOf]; omega
          · rw [hs] at cq cq1
            have qz : (z j == 9999999) = false := by simpa using hz
            clear hs
            go_wp2_with fail
            go_roundw
            case rel => exact ⟨k + 1, by omega, by omega⟩
            case measure => simp [intOf]; omega
        · have e : k = T := by omega
          subst e
          have ht0 := HE.out.2
          obtain ⟨_, ha⟩ := itr_up z HU.out (by omega) k fun s hs => HE.out.1 s (by omega)
          have cp0 : wr.cell? ⟨b2, 0, none⟩ = some (.int .i64 0) := hrr.cell (show 0 < k + 1 by omega)
          have cpT : wr.cell? ⟨b2, k, none⟩ = some (.int .i64 ((itr g z k : Nat) : Int)) := hrr.cell (show k < k + 1 by omega)
          obtain ⟨b', off, e1, hbb, c0, c1, c2', c3', c4, c5⟩ := htr.at_ ha
          injection e1 with e1
          injection e1 with e1 e2 e3
          subst e1 e2
          simp only [Nat.zero_add] at c0 c1 c2' c3' c4 c5
          rw [ht0] at c2'
          have hp3 : b2 < wr.heap.size := Nat.lt_of_lt_of_le hr6.lt hbl.size
          have hseq : seqZ g z k = ((itr g z k : Nat) : Int) := rfl
          generalize hat : itr g z k = a at cpT ha c2' ht0 hseq
          have ha' : (a : Int) < (m : Int) := by omega
          have hl1 : (k : Int) < ((k + 1 : Nat) : Int) := by omega
          have ha0 : (0 : Int) ≤ (a : Int) := by omega
          clear c0 c1 c3' c4 c5 ht0 hat
          have hb3 : b < wr.heap.size := hbb
          have hwr := hw6.trans (hbl.mono hw6.size)
          clear hbl hw6 ht6 hd6 hr6 hrr
          have htr' : RdN wr.drew wr.drew.heap.size (some ⟨b, 0, none⟩) m g := htr
          have hdr' : Rd wr.drew wr.drew.heap.size D f z := hdr
          have q1 : (0 : Int) ≤ (k : Int) := by omega
          have q2 : (k : Int) < (k : Int) + 1 := by omega
          have q4 : IntKind.i64.wrap (k : Int) = (k : Int) := IntWalk.i64_in _ (by omega)
          have q3 : IntKind.i64.wrap ((k : Int) + 1 - 1) = (k : Int) := by rw [show (k : Int) + 1 - 1 = (k : Int) by omega]; exact q4
          go_wp2_with fail
          go_region_held3 (fun w' => w'.cell? ⟨b2, 0, none⟩ = some (.int .i64 0) ∧ w'.cell? ⟨b2, k, none⟩ = some (.int .i64 (a : Int)) ∧ w'.cell? ⟨b, a * 6 + 2, none⟩ = some (.int .i64 0))
            (first | (simp [go_sem]; done) | exact ⟨e0, eT, eL⟩ | (simp [go_sem, *]; done))
            (first
              | (go_at_call 29; refine (iLeaf_yes _ D m c f dc g z wr.drew htr' hdr' hm' H1.out H2.out).mono ?_; rintro e w7 ⟨T', hE', rfl, hb7⟩; obtain rfl := HE.out.same hE'; obtain ⟨hc7, hf7⟩ := bcell hb7; have e0 := (hc7 b2 _ hp3).trans cp0; have eT := (hc7 b2 _ hp3).trans cpT; have eL := (hc7 b _ hb3).trans c2'))
          have hW := hwr.drew.trans (hb7.mono hwr.size)
          clear hb7 hc7 hf7 e0 eT eL hwr
          go_wp2_with fail
          go_ret
          exact ⟨rfl, hW⟩
end Go.Proofs.Ytmlcpjcchgihfaa
