/- The law of documents' texts: the walk. -/
import Derived.Test.YthcnjabilakndaaDoorDsA
import Derived.Test.YthcnjabilakndaaDoorRdH
namespace Go.Proofs.YthcnjabilakndaaDoor
open Go.RowKit Go.Deep


theorem same_anyD (A A' : Option Addr) (n c c' : Nat) (z y : Nat → Int) (w : World) (h : Rd w w.heap.size A n z) (h' : Rd w w.heap.size A' n y) (hzy : Hid (∀ k, k < n → z k = y k)) (hn : n ≤ 4194304) :
    Calls Tryd.prog 11 #[.slice A n c, .slice A' n c'] w fun e w' => e = .returned (.bool true) ∧ ∃ m, w' = w.drewN m := by
  go_enter Tryd.func11, Tryd.ntmps11
  go_wp2_with fail
  go_loopw [5] (fun i wr => ∃ k m : Nat, k ≤ n ∧ i = .int .i64 k ∧ wr = w.drewN m) (fun i _ => n - (intOf i).toNat)
  case atStart => exact ⟨0, 0, Nat.zero_le _, rfl, rfl⟩
  case round =>
    obtain ⟨k, m, hk, rfl, rfl⟩ := hrel
    by_cases hlt : k < n
    · obtain ⟨b, off, rfl, hb, hc⟩ := h.at_ hlt
      obtain ⟨b', off', rfl, hb', hc'⟩ := h'.at_ hlt
      rw [← hzy.out k hlt] at hc'
      have hi : (k : Int) < (n : Int) := by omega
      have hi0 : (0 : Int) ≤ (k : Int) := by omega
      go_wp2_with fail
      go_quiet (fail)
      go_wp2_with fail
      go_roundw
      case rel => exact ⟨k + 1, _, by omega, by go_num, rfl⟩
      case measure => simp [intOf]; omega
    · go_wp2_with fail
      go_ret
      exact ⟨rfl, m, rfl⟩
theorem drawDocText (A : Option Addr) (n cap : Nat) (w : World) (h : Bs w w.heap.size A n) (hn : n ≤ 4194304) :
    Calls Tryd.prog 5 #[.slice A n cap] w (DrawnDoc w) := by
  go_enter Tryd.func5, Tryd.ntmps5
  go_wp2_with fail
  refine (drawDocOk A n cap _ h hn).mono ?_
  rintro e w1 ⟨m, z, A', c, hm, rfl, hr, hb⟩
  go_wp2_with fail
  go_ret
  exact ⟨m, z, A', c, hm, rfl, hr, hb⟩
theorem empty_no (n : Nat) (z : Nat → Int) (h : docB n z = true) : (⟨#[]⟩ : ByteArray) ≠ docS n z := fun e => docS_ne h e.symm
def EnvAt (w : World) : Prop := (∀ W, Below w.heap.size w W → ErrOk W) ∧ (∀ W, Below w.heap.size w W → LenOk W) ∧ (∀ W, Below w.heap.size w W → Pow W W.heap.size)
def YesR (F : FuncId) (t : ByteArray) (n : Nat) (z : Nat → Int) (w0 : World) : Prop := ∀ w, Below w0.heap.size w0 w → Calls Tryd.prog F #[.string t] w fun e w' =>
  ∃ b c, e = .returned (.tuple #[.slice (some ⟨b, 0, none⟩) n c, .bool true]) ∧ w.heap.size ≤ b ∧ Row w' 2 b n z ∧ Below w.heap.size w w'
def NoR (F : FuncId) (t : ByteArray) (w0 : World) : Prop := ∀ w, Below w0.heap.size w0 w → Calls Tryd.prog F #[.string t] w fun e w' => e = .returned (.tuple #[.slice none 0 0, .bool false]) ∧ Below w.heap.size w w'

set_option maxRecDepth 100000 in
set_option maxHeartbeats 8000000 in
theorem lawDocs (A : Option Addr) (n cap : Nat) (w : World) (h : Bs w w.heap.size A n) (hE : ErrOk w) (hM : LenOk w) (hp : Hid (Pow w w.heap.size)) :
    Calls Tryd.prog 3 #[.slice A n cap] w fun e w' => e = .returned (.bool true) ∧ Below w.heap.size w w' := by
  by_cases hbig : (1048576 : Int) < (n : Int)
  · go_enter Tryd.func3, Tryd.ntmps3
    go_wp2_with fail
    refine (big_yes A n cap _ hbig).mono ?_
    rintro e w1 ⟨rfl, rfl⟩
    go_wp2_with fail
    go_ret
    exact ⟨rfl, Below.refl _ _⟩
  · have hn : n ≤ 4194304 := by omega
    have ENV : Hid (EnvAt w) := ⟨fun W hW => hE.below hW, fun W hW => hM.below hW, fun W hW w' hb => hp.out w' (hW.trans (hb.mono hW.size))⟩
    clear hE hM hp
    go_enter Tryd.func3, Tryd.ntmps3
    go_wp2_with fail
    refine (big_no A n cap _ (by omega)).mono ?_
    rintro e w0 ⟨rfl, rfl⟩
    go_wp2_with fail
    refine (drawDocText A n cap _ h hn).mono ?_
    rintro e w1 ⟨m, z, D, c, hm, rfl, hd1, hw1⟩
    have hm4 : m ≤ 4194304 := by omega
    have hp1 := hid (ENV.out.2.2 w1 hw1)
    go_wp2_with fail
    refine (iDocText_any D m c z _ hd1 hm4 hp1).mono ?_
    rintro e w2 ⟨rfl, hb2⟩
    have hd2 := hd1.to hb2 hb2.size
    have hw2 := hw1.trans (hb2.mono hw1.size)
    have h2 := (h.keep fun p hp => hw2.cell hp).more hw2.size
    obtain ⟨s, HS, HSS⟩ : ∃ s, Hid (docS m z = s) ∧ Hid (s.size ≤ 54) := ⟨_, hid rfl, hid (docS_any m z)⟩
    rw [HS.out]
    clear hb2 hd1 hw1 hp1
    go_wp2_with fail
    refine (drawReadDoc A n cap _ h2 hn).mono ?_
    rintro e w3 ⟨t, rfl, hts, hb3⟩
    have hd3 := hd2.to hb3 hb3.size
    have hw3 := hw2.trans (hb3.mono hw2.size)
    have ht4 : t.size ≤ 4194304 := by omega
    clear hb3 hd2 hw2 h2 h
    by_cases hyt : ∃ n z, docB n z = true ∧ t = docS n z
    · obtain ⟨k, y, hk, htk⟩ := hyt
      have hk6 := (docB_true hk).2.1
      have hk4 : k ≤ 4194304 := by omega
      have HK := hid hk
      have HTK : Hid (docS k y = t) := hid htk.symm
      have IT : Hid (YesR 8 t k y w) := fun W hW => by rw [← HTK.out]; exact iRead_yes k y W HK.out (ENV.out.1 W hW) (ENV.out.2.1 W hW) (hid (ENV.out.2.2 W hW))
      have ST : Hid (YesR 9 t k y w) := fun W _ => by rw [← HTK.out]; exact sRead_yes k y W HK.out
      clear hk htk
      rcases hdb : docB m z with _ | _
      · have HDB := hid hdb
        have HSE : Hid (s = ⟨#[]⟩) := by show _ = _; rw [← HS.out]; unfold docS; rw [HDB.out]; rfl
        have IS : Hid (NoR 8 s w) := fun W hW => by rw [HSE.out]; exact iRead_no ⟨#[]⟩ W (by decide) empty_no (ENV.out.1 W hW) (ENV.out.2.1 W hW) (hid (ENV.out.2.2 W hW))
        clear hdb
        go_wp2_with fail
        refine (IT.out _ hw3).mono ?_
        rintro e w4 ⟨bx, cx, rfl, _, hx4, hb4⟩
        have hd4 := hd3.to hb4 hb4.size
        have hw4 := hw3.trans (hb4.mono hw3.size)
        clear hb4
        go_wp2_with fail
        refine (ST.out _ hw4).mono ?_
        rintro e w5 ⟨by', cy, rfl, _, hy5, hb5⟩
        have hx5 := hx4.below hb5 hx4.lt
        have hd5 := hd4.to hb5 hb5.size
        have hw5 := hw4.trans (hb5.mono hw4.size)
        clear hb5 hx4
        go_wp2_with (first | (go_at_call 10; refine (sDocText_any D m c z w5 hd5 hm4).mono ?_; rintro e w6 ⟨rfl, hb6⟩; rw [HS.out]; have hd6 := hd5.to hb6 hb6.size; have hw6 := hw5.trans (hb6.mono hw5.size); have hx6 := hx5.below hb6 hx5.lt; have hy6 := hy5.below hb6 hy5.lt) | (go_at_call 11; refine (same_anyD _ _ k cx cy y y w6 (rd_of hx6) (rd_of hy6) (fun _ _ => rfl) hk4).mono ?_; rintro e w7 ⟨rfl, j7, rfl⟩; have hw7 := below_drewN hw6 j7; have hp7 := hid (ENV.out.2.2 _ hw7); have hd7 : Rd (w6.drewN j7) (w6.drewN j7).heap.size D m z := hd6; have hx7 : Rd (w6.drewN j7) (w6.drewN j7).heap.size (some ⟨bx, 0, none⟩) k y := rd_of hx6) | (go_at_call 6; refine (iDocText_any _ k cx y (w6.drewN j7) hx7 hk4 hp7).mono ?_; rintro e w8 ⟨rfl, hb8⟩; rw [HTK.out]; have hd8 := hd7.to hb8 hb8.size; have hw8 := hw7.trans (hb8.mono hw7.size)))
        refine (IS.out _ hw8).mono ?_
        rintro e w9 ⟨rfl, hb9⟩
        have hd9 := hd8.to hb9 hb9.size
        have hw9 := hw8.trans (hb9.mono hw8.size)
        clear hb9
        go_wp2_with (first | (go_at_call 12; refine (sDocOk_any D m c z w9 hd9 hm4).mono ?_; rintro e wA ⟨rfl, rfl⟩; rw [HDB.out]) | (go_at_call 13; refine (iDocOk_any D m c z w9 hd9 hm4).mono ?_; rintro e wB ⟨rfl, hbB⟩; rw [HDB.out]; have hdB := hd9.to hbB hbB.size; have hwB := hw9.trans (hbB.mono hw9.size)))
        go_ret
        exact ⟨rfl, hwB⟩
      · have HDB := hid hdb
        have IS : Hid (YesR 8 s m z w) := fun W hW => by rw [← HS.out]; exact iRead_yes m z W HDB.out (ENV.out.1 W hW) (ENV.out.2.1 W hW) (hid (ENV.out.2.2 W hW))
        clear hdb
        go_wp2_with fail
        refine (IT.out _ hw3).mono ?_
        rintro e w4 ⟨bx, cx, rfl, _, hx4, hb4⟩
        have hd4 := hd3.to hb4 hb4.size
        have hw4 := hw3.trans (hb4.mono hw3.size)
        clear hb4
        go_wp2_with fail
        refine (ST.out _ hw4).mono ?_
        rintro e w5 ⟨by', cy, rfl, _, hy5, hb5⟩
        have hx5 := hx4.below hb5 hx4.lt
        have hd5 := hd4.to hb5 hb5.size
        have hw5 := hw4.trans (hb5.mono hw4.size)
        clear hb5 hx4
        go_wp2_with (first | (go_at_call 10; refine (sDocText_any D m c z w5 hd5 hm4).mono ?_; rintro e w6 ⟨rfl, hb6⟩; rw [HS.out]; have hd6 := hd5.to hb6 hb6.size; have hw6 := hw5.trans (hb6.mono hw5.size); have hx6 := hx5.below hb6 hx5.lt; have hy6 := hy5.below hb6 hy5.lt) | (go_at_call 11; refine (same_anyD _ _ k cx cy y y w6 (rd_of hx6) (rd_of hy6) (fun _ _ => rfl) hk4).mono ?_; rintro e w7 ⟨rfl, j7, rfl⟩; have hw7 := below_drewN hw6 j7; have hp7 := hid (ENV.out.2.2 _ hw7); have hd7 : Rd (w6.drewN j7) (w6.drewN j7).heap.size D m z := hd6; have hx7 : Rd (w6.drewN j7) (w6.drewN j7).heap.size (some ⟨bx, 0, none⟩) k y := rd_of hx6) | (go_at_call 6; refine (iDocText_any _ k cx y (w6.drewN j7) hx7 hk4 hp7).mono ?_; rintro e w8 ⟨rfl, hb8⟩; rw [HTK.out]; have hd8 := hd7.to hb8 hb8.size; have hw8 := hw7.trans (hb8.mono hw7.size)))
        refine (IS.out _ hw8).mono ?_
        rintro e w9 ⟨bz, cz, rfl, _, hz9, hb9⟩
        have hd9 := hd8.to hb9 hb9.size
        have hw9 := hw8.trans (hb9.mono hw8.size)
        clear hb9
        go_wp2_with (first | (go_at_call 12; refine (sDocOk_any D m c z w9 hd9 hm4).mono ?_; rintro e wA ⟨rfl, rfl⟩; rw [HDB.out]) | (go_at_call 13; refine (iDocOk_any D m c z w9 hd9 hm4).mono ?_; rintro e wB ⟨rfl, hbB⟩; rw [HDB.out]; have hdB := hd9.to hbB hbB.size; have hwB := hw9.trans (hbB.mono hw9.size); have hzB := hz9.below hbB hz9.lt) | (go_at_call 11; refine (same_anyD _ D m cz c z z wB (rd_of hzB) hdB (fun _ _ => rfl) hm4).mono ?_; rintro e wC ⟨rfl, jC, rfl⟩; have hwC := below_drewN hwB jC))
        go_ret
        exact ⟨rfl, hwC⟩
    · have HNT : Hid (∀ n z, docB n z = true → t ≠ docS n z) := hid (fun n z hd e => hyt ⟨n, z, hd, e⟩)
      have IT : Hid (NoR 8 t w) := fun W hW => iRead_no t W ht4 HNT.out (ENV.out.1 W hW) (ENV.out.2.1 W hW) (hid (ENV.out.2.2 W hW))
      have ST : Hid (NoR 9 t w) := fun W _ => sRead_no t W ht4 HNT.out
      clear hyt
      rcases hdb : docB m z with _ | _
      · have HDB := hid hdb
        have HSE : Hid (s = ⟨#[]⟩) := by show _ = _; rw [← HS.out]; unfold docS; rw [HDB.out]; rfl
        have IS : Hid (NoR 8 s w) := fun W hW => by rw [HSE.out]; exact iRead_no ⟨#[]⟩ W (by decide) empty_no (ENV.out.1 W hW) (ENV.out.2.1 W hW) (hid (ENV.out.2.2 W hW))
        clear hdb
        go_wp2_with fail
        refine (IT.out _ hw3).mono ?_
        rintro e w4 ⟨rfl, hb4⟩
        have hd4 := hd3.to hb4 hb4.size
        have hw4 := hw3.trans (hb4.mono hw3.size)
        clear hb4
        go_wp2_with fail
        refine (ST.out _ hw4).mono ?_
        rintro e w5 ⟨rfl, hb5⟩
        have hd5 := hd4.to hb5 hb5.size
        have hw5 := hw4.trans (hb5.mono hw4.size)
        clear hb5
        go_wp2_with (first | (go_at_call 10; refine (sDocText_any D m c z w5 hd5 hm4).mono ?_; rintro e w6 ⟨rfl, hb6⟩; rw [HS.out]; have hd6 := hd5.to hb6 hb6.size; have hw6 := hw5.trans (hb6.mono hw5.size)) | (go_at_call 11; refine (same_anyD none none 0 0 0 nul nul w6 rd_none rd_none (fun _ _ => rfl) (by omega)).mono ?_; rintro e w7 ⟨rfl, j7, rfl⟩; have hw7 := below_drewN hw6 j7; have hd7 : Rd (w6.drewN j7) (w6.drewN j7).heap.size D m z := hd6))
        refine (IS.out _ hw7).mono ?_
        rintro e w9 ⟨rfl, hb9⟩
        have hd9 := hd7.to hb9 hb9.size
        have hw9 := hw7.trans (hb9.mono hw7.size)
        clear hb9
        go_wp2_with (first | (go_at_call 12; refine (sDocOk_any D m c z w9 hd9 hm4).mono ?_; rintro e wA ⟨rfl, rfl⟩; rw [HDB.out]) | (go_at_call 13; refine (iDocOk_any D m c z w9 hd9 hm4).mono ?_; rintro e wB ⟨rfl, hbB⟩; rw [HDB.out]; have hdB := hd9.to hbB hbB.size; have hwB := hw9.trans (hbB.mono hw9.size)))
        go_ret
        exact ⟨rfl, hwB⟩
      · have HDB := hid hdb
        have IS : Hid (YesR 8 s m z w) := fun W hW => by rw [← HS.out]; exact iRead_yes m z W HDB.out (ENV.out.1 W hW) (ENV.out.2.1 W hW) (hid (ENV.out.2.2 W hW))
        clear hdb
        go_wp2_with fail
        refine (IT.out _ hw3).mono ?_
        rintro e w4 ⟨rfl, hb4⟩
        have hd4 := hd3.to hb4 hb4.size
        have hw4 := hw3.trans (hb4.mono hw3.size)
        clear hb4
        go_wp2_with fail
        refine (ST.out _ hw4).mono ?_
        rintro e w5 ⟨rfl, hb5⟩
        have hd5 := hd4.to hb5 hb5.size
        have hw5 := hw4.trans (hb5.mono hw4.size)
        clear hb5
        go_wp2_with (first | (go_at_call 10; refine (sDocText_any D m c z w5 hd5 hm4).mono ?_; rintro e w6 ⟨rfl, hb6⟩; rw [HS.out]; have hd6 := hd5.to hb6 hb6.size; have hw6 := hw5.trans (hb6.mono hw5.size)) | (go_at_call 11; refine (same_anyD none none 0 0 0 nul nul w6 rd_none rd_none (fun _ _ => rfl) (by omega)).mono ?_; rintro e w7 ⟨rfl, j7, rfl⟩; have hw7 := below_drewN hw6 j7; have hd7 : Rd (w6.drewN j7) (w6.drewN j7).heap.size D m z := hd6))
        refine (IS.out _ hw7).mono ?_
        rintro e w9 ⟨bz, cz, rfl, _, hz9, hb9⟩
        have hd9 := hd7.to hb9 hb9.size
        have hw9 := hw7.trans (hb9.mono hw7.size)
        clear hb9
        go_wp2_with (first | (go_at_call 12; refine (sDocOk_any D m c z w9 hd9 hm4).mono ?_; rintro e wA ⟨rfl, rfl⟩; rw [HDB.out]) | (go_at_call 13; refine (iDocOk_any D m c z w9 hd9 hm4).mono ?_; rintro e wB ⟨rfl, hbB⟩; rw [HDB.out]; have hdB := hd9.to hbB hbB.size; have hwB := hw9.trans (hbB.mono hw9.size); have hzB := hz9.below hbB hz9.lt) | (go_at_call 11; refine (same_anyD _ D m cz c z z wB (rd_of hzB) hdB (fun _ _ => rfl) hm4).mono ?_; rintro e wC ⟨rfl, jC, rfl⟩; have hwC := below_drewN hwB jC))
        go_ret
        exact ⟨rfl, hwC⟩
end Go.Proofs.YthcnjabilakndaaDoor
