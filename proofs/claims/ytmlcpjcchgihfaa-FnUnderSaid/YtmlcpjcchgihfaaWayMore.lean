/- Features that a path does not ask for. -/
import Derived.Test.YtmlcpjcchgihfaaWayLaw
import Derived.Test.YtmlcpjcchgihfaaGoneLaw
namespace Go.Proofs.Ytmlcpjcchgihfaa
open Go.RowKit Go.Deep

/-- Is feature i asked for by one of the first k splits of the path? -/
def askd (g : Nat → Nd) (z : Nat → Int) (i : Nat) : Nat → Bool
  | 0 => false
  | k + 1 => askd g z i k || ((g (itr g z k)).feat == (i : Int))
theorem askd_false {g : Nat → Nd} {z : Nat → Int} {i : Nat} : ∀ T, askd g z i T = false → ∀ s, s < T → (g (itr g z s)).feat ≠ (i : Int) := by
  intro T
  induction T with
  | zero => intro _ s hs; omega
  | succ T ih =>
    intro h s hs
    simp only [askd, Bool.or_eq_false_iff, beq_eq_false_iff_ne] at h
    by_cases e : s = T
    · subst e; exact h.2
    · exact ih h.1 s (by omega)
theorem untouched {g : Nat → Nd} {z : Nat → Int} {T i m : Nat} {f : Int} (x : Int) (hT : Tree g m f) (hE : Ends g z T) (ha : ∀ s, s < T → (g (itr g z s)).feat ≠ (i : Int)) :
    Ends g (upd z i x) T ∧ ∀ s, s ≤ T → itr g (upd z i x) s = itr g z s := by
  have hn : ∀ s, s < T → nxt g (upd z i x) (itr g z s) = nxt g z (itr g z s) := by
    intro s hs
    refine nxt_doc ?_
    obtain ⟨_, hlt⟩ := itr_up z hT.up (by have := hT.2.1; omega) s fun t ht => hE.1 t (by omega)
    have hf := split_feat (hT.2.2 _ hlt).1 (hE.1 s hs)
    have := ha s hs
    unfold upd
    rw [if_neg (by omega)]
  exact ⟨ends_two hE hn fun _ => Iff.rfl, itr_two hn⟩
theorem may_gone : may 9999999 = true := rfl

set_option maxRecDepth 100000 in
set_option maxHeartbeats 4000000 in
theorem lawUntouched (A : Option Addr) (n cap : Nat) (w : World) (h : Bs w w.heap.size A n) :
    Calls Try.prog 5 #[.slice A n cap] w fun e w' => e = .returned (.bool true) ∧ Below w.heap.size w w' := by
  by_cases hbig : (1048576 : Int) < (n : Int)
  · go_enter Try.func5, Try.ntmps5
    go_wp2_with fail
    refine (big_yes A n cap _ hbig).mono ?_
    rintro e w1 ⟨rfl, rfl⟩
    go_wp2_with fail
    go_ret
    exact ⟨rfl, Below.refl _ _⟩
  · have hn : n ≤ 4194304 := by omega
    go_enter Try.func5, Try.ntmps5
    go_wp2_with fail
    refine (big_no A n cap _ (by omega)).mono ?_
    rintro e w0 ⟨rfl, rfl⟩
    go_wp2_with fail
    refine (drawPathOf A n cap _ h hn).mono ?_
    rintro e w1 ⟨m, g, b, c, f, z, D, dc, hm1, hm2, hf, rfl, hwb, hbL, hrow, hmc, hrd, hb1⟩
    have ht1 := hrow.rdN hbL
    have hm' : m ≤ 4194304 := by omega
    have hf' : f ≤ 4194304 := by omega
    clear hwb hbL hrow hmc
    cases hy : (docB f z && treeB g m f) with
    | false =>
      have HY := hid hy
      clear hy
      go_wp2_with fail
      refine (iPath_no _ D m c f dc g z _ ht1 hrd hm' hf' HY.out).mono ?_
      rintro e w2 ⟨rfl, hb2⟩
      have ht2 := ht1.to hb2 hb2.size
      have hr2 := hrd.to hb2 hb2.size
      have hw2 := hb1.trans (hb2.mono hb1.size)
      clear hb2 hb1 ht1 hrd
      go_wp2_with fail
      refine (sPath_no _ D m c f dc g z _ ht2 hr2 hm' hf' HY.out).mono ?_
      rintro e w3 ⟨rfl, hb3⟩
      have ht3 := ht2.to hb3 hb3.size
      have hr3 := hr2.to hb3 hb3.size
      have hw3 := hw2.trans (hb3.mono hw2.size)
      clear hb3 hw2 ht2 hr2
      go_wp2_with fail
      refine (same_any none none 0 0 0 nul nul _ rd_none rd_none (fun _ _ => rfl) (by omega)).mono ?_
      rintro e w4 ⟨rfl, m4, rfl⟩
      have hw4 := below_drewN hw3 m4
      have ht4 : RdN (w3.drewN m4) w3.heap.size _ m g := ht3
      have hr4 : Rd (w3.drewN m4) w3.heap.size D f z := hr3
      clear hw3 ht3 hr3
      go_wp2_with fail
      refine (sPath_no _ D m c f dc g z _ ht4 hr4 hm' hf' HY.out).mono ?_
      rintro e w7 ⟨rfl, hb7⟩
      have hw7 := hw4.trans (hb7.mono hw4.size)
      clear hb7 hw4 ht4 hr4
      go_wp2_with fail
      refine (same_any none none 0 0 0 nul nul _ rd_none rd_none (fun _ _ => rfl) (by omega)).mono ?_
      rintro e w8 ⟨rfl, m8, rfl⟩
      go_wp2_with fail
      go_ret
      exact ⟨rfl, below_drewN hw7 m8⟩
    | true =>
      obtain ⟨h1, h2⟩ : docB f z = true ∧ treeB g m f = true := by simpa using hy
      have H1 := hid h1
      have H2 := hid h2
      have hf6 := (docB_true h1).2.1
      have hT := (treeB_iff g m f).1 h2
      have hm15 := hT.2.1.2
      have HU := hid hT.up
      have HT := hid hT
      clear hT h1 h2 hy
      go_wp2_with fail
      refine (iPath_yes _ D m c f dc g z _ ht1 hrd hm' H1.out H2.out).mono ?_
      rintro e w2 ⟨T, b2, c2, hE, hT, rfl, hl2, hr2, hb2⟩
      have ht2 := ht1.to hb2 hb2.size
      have hd2 := hrd.to hb2 hb2.size
      have hw2 := hb1.trans (hb2.mono hb1.size)
      have HE := hid hE
      clear hb2 hb1 ht1 hrd hl2 hE
      go_wp2_with fail
      refine (sPath_yes _ D m c f dc g z _ ht2 hd2 hm' hf' H1.out H2.out).mono ?_
      rintro e w3 ⟨T', b3, c3, hE', _, rfl, _, hr3, hb3⟩
      obtain rfl := HE.out.same hE'
      have ht3 := ht2.to hb3 hb3.size
      have hd3 := hd2.to hb3 hb3.size
      have hr2' := hr2.below hb3 hr2.lt
      have hw3 := hw2.trans (hb3.mono hw2.size)
      clear hb3 hw2 ht2 hd2 hr2 hE'
      go_wp2_with fail
      refine (same_any _ _ (T + 1) c2 c3 (seqZ g z) (seqZ g z) _ (rd_of hr2') (rd_of hr3) (fun _ _ => rfl) (by omega)).mono ?_
      rintro e w4 ⟨rfl, m4, rfl⟩
      have hw6 := below_drewN hw3 m4
      have ht6 : RdN (w3.drewN m4) w3.heap.size _ m g := ht3
      have hd6 : Rd (w3.drewN m4) w3.heap.size D f z := hd3
      have hr6 : Row (w3.drewN m4) 2 b2 (T + 1) (seqZ g z) := hr2'
      have hsz : (w3.drewN m4).heap.size = w3.heap.size := rfl
      clear hw3 ht3 hd3 hr2' hr3
      have s0 : ¬ ((T + 1 : Nat) : Int) = 0 := by omega
      go_wp2_with fail
      generalize w3.drewN m4 = w6 at *
      rw [← hsz] at ht6 hd6
      clear hsz
      go_loopw [6] (fun i wr => ∃ k : Nat, k ≤ f ∧ i = .int .i64 k ∧ Below w6.heap.size w6 wr) (fun i _ => f - (intOf i).toNat)
      case atStart => exact ⟨0, Nat.zero_le _, rfl, Below.refl _ _⟩
      case round =>
        obtain ⟨i, hi, rfl, hbl⟩ := hrel
        have htr := ht6.to hbl hbl.size
        have hdr := hd6.to hbl hbl.size
        have hrr := hr6.below hbl hr6.lt
        have hwr := hw6.trans (hbl.mono hw6.size)
        by_cases hlt : i < f
        · have hl : (i : Int) < (f : Int) := by omega
          go_wp2_with fail
          go_loop [7, 8] (fun q j => ∃ k : Nat, k ≤ T ∧ j = .int .i64 k ∧ q = .bool (askd g z i k)) (fun _ j => T - (intOf j).toNat)
          case atStart => exact ⟨0, Nat.zero_le _, rfl, rfl⟩
          case round =>
            obtain ⟨k, hk, rfl, rfl⟩ := hrel
            by_cases hkT : k < T
            · have hk1 : (k : Int) + 1 < ((T + 1 : Nat) : Int) := by omega
              have hk2 : (k : Int) < ((T + 1 : Nat) : Int) := by omega
              have hk0 : (0 : Int) ≤ (k : Int) := by omega
              have hstep : Hid (askd g z i (k + 1) = (askd g z i k || ((g (itr g z k)).feat == (i : Int)))) := rfl
              obtain ⟨_, ha⟩ := itr_up z HU.out (by omega) k fun s hs => HE.out.1 s (by omega)
              have cp : wr.cell? ⟨b2, k, none⟩ = some (.int .i64 ((itr g z k : Nat) : Int)) := hrr.cell (show k < T + 1 by omega)
              generalize hat : itr g z k = a at cp ha hstep
              obtain ⟨b', off, e1, hbb, c0, c1, c2', c3', c4, c5⟩ := htr.at_ ha
              injection e1 with e1
              injection e1 with e1 e2 e3
              subst e1 e2
              simp only [Nat.zero_add] at c0 c1 c2' c3' c4 c5
              have ha' : (a : Int) < (m : Int) := by omega
              have ha0 : (0 : Int) ≤ (a : Int) := by omega
              clear hat c1 c2' c3' c4 c5
              cases hq : askd g z i k
              · rw [hq] at hstep
                go_wp2_with fail
                exact ⟨⟨k + 1, by omega, by go_num, by rw [hstep.out, Bool.false_or]⟩, by simp [intOf]; omega⟩
              · rw [hq] at hstep
                go_wp2_with fail
                exact ⟨⟨k + 1, by omega, by go_num, by rw [hstep.out]; rfl⟩, by simp [intOf]; omega⟩
            · have e : k = T := by omega
              subst e
              go_wp2_with fail
              refine (iWith_yes D f dc i z 9999999 _ hdr H1.out hlt may_gone).mono ?_
              rintro e w7 ⟨b7, rfl, _, hr7, hb7⟩
              have ht7 := htr.to hb7 hb7.size
              have hr2 := hrr.below hb7 hrr.lt
              have hbl7 := hbl.trans (hb7.mono hbl.size)
              clear hb7 htr hdr hrr hbl hwr
              cases hq : askd g z i k
              · have hU := hid (untouched 9999999 HT.out HE.out (askd_false k hq))
                clear hq
                go_wp2_with fail
                refine (iPath_yes _ _ m c f f g (upd z i 9999999) _ ht7 (rd_of hr7) hm' (docB_upd H1.out may_gone) H2.out).mono ?_
                rintro e w8 ⟨T', b8, c8, hE', _, rfl, _, hr8, hb8⟩
                obtain rfl := hU.out.1.same hE'
                have hr2' := hr2.below hb8 hr2.lt
                have hbl8 := hbl7.trans (hb8.mono hbl7.size)
                clear hb8 hbl7 hr2 hr7 ht7
                go_wp2_with fail
                refine (same_any _ _ (k + 1) c8 c2 (seqZ g (upd z i 9999999)) (seqZ g z) _ (rd_of hr8) (rd_of hr2') (fun s hs => by unfold seqZ; rw [hU.out.2 s (by omega)]) (by omega)).mono ?_
                rintro e w9 ⟨rfl, m9, rfl⟩
                have hbl9 := below_drewN hbl8 m9
                clear hbl8 hr2' hr8
                go_wp2_with fail
                refine ⟨?_, by simp [intOf]; omega⟩
                repeat apply Exists.intro
                refine ⟨?_, rfl⟩
                exact ⟨i + 1, by omega, by go_num, hbl9⟩
              · go_wp2_with fail
                refine ⟨?_, by simp [intOf]; omega⟩
                repeat apply Exists.intro
                refine ⟨?_, rfl⟩
                exact ⟨i + 1, by omega, by go_num, hbl7⟩
        · have e : i = f := by omega
          subst e
          go_wp2_with fail
          go_ret
          exact ⟨rfl, hwr⟩
end Go.Proofs.Ytmlcpjcchgihfaa
