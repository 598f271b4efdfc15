/- Contracts of BoxHas on both sides; the walks of the exact laws of BoxHas and PickOf. -/
import Derived.Test.YthdilioflhknpaaBoxB
namespace Go.Proofs.Ythdilioflhknpaa
open Go.RowKit Go.Deep

theorem boxHas_no1 {n f : Nat} {g : Nat → Sp} {z : Nat → Int} (h : boxB n g = false) : boxHasB n g f z = false := by unfold boxHasB; rw [h]; rfl
theorem boxHas_no2 {n f : Nat} {g : Nat → Sp} {z : Nat → Int} (h : docB f z = false) : boxHasB n g f z = false := by unfold boxHasB; rw [h, Bool.and_false]; rfl
theorem boxHas_no3 {n f : Nat} {g : Nat → Sp} {z : Nat → Int} (h : ¬ n = f) : boxHasB n g f z = false := by unfold boxHasB; rw [decide_eq_false h, Bool.false_and, Bool.and_false]
theorem boxHas_yes {n : Nat} {g : Nat → Sp} {z : Nat → Int} (h : boxB n g = true) (h' : docB n z = true) : boxHasB n g n z = allP (fun i => hasS (g i) (z i)) n := by unfold boxHasB; rw [h, h', decide_eq_true rfl]; rfl

set_option maxHeartbeats 2000000 in
theorem iBoxHas_any (A D : Option Addr) (n cap f dc : Nat) (g : Nat → Sp) (z : Nat → Int) (w : World) (h : RdS w w.heap.size A n g) (hd : Rd w w.heap.size D f z) (hn : n ≤ 4194304) (hf : f ≤ 4194304) :
    Calls Try.prog 36 #[.slice A n cap, .slice D f dc] w fun e w' => e = .returned (.bool (boxHasB n g f z)) ∧ Below w.heap.size w w' := by
  cases hb : boxB n g with
  | false =>
    rw [boxHas_no1 hb]
    have HB := hid hb
    clear hb
    go_enter Try.func36, Try.ntmps36
    go_wp2_with fail
    refine (iBoxOk_any A n cap g _ h hn).mono ?_
    rintro e w1 ⟨rfl, hb1⟩
    rw [HB.out]
    go_wp2_with fail
    go_ret
    exact ⟨rfl, hb1⟩
  | true =>
    have HB := hid hb
    cases hdc : docB f z with
    | false =>
      rw [boxHas_no2 hdc]
      have HD := hid hdc
      clear hb hdc
      go_enter Try.func36, Try.ntmps36
      go_wp2_with fail
      refine (iBoxOk_any A n cap g _ h hn).mono ?_
      rintro e w1 ⟨rfl, hb1⟩
      rw [HB.out]
      go_wp2_with fail
      refine (iDocOk_any D f dc z _ (hd.to hb1 hb1.size) hf).mono ?_
      rintro e w2 ⟨rfl, hb2⟩
      rw [HD.out]
      go_wp2_with fail
      go_ret
      exact ⟨rfl, hb1.trans (hb2.mono hb1.size)⟩
    | true =>
      have HD := hid hdc
      by_cases hnf : n = f
      · subst hnf
        have HR := hid (boxHas_yes hb hdc)
        clear hb hdc
        go_enter Try.func36, Try.ntmps36
        go_wp2_with fail
        refine (iBoxOk_any A n cap g _ h hn).mono ?_
        rintro e w1 ⟨rfl, hb1⟩
        rw [HB.out]
        go_wp2_with fail
        refine (iDocOk_any D n dc z _ (hd.to hb1 hb1.size) hn).mono ?_
        rintro e w2 ⟨rfl, hb2⟩
        rw [HD.out]
        have hw2 := hb1.trans (hb2.mono hb1.size)
        clear hb1 hb2
        go_wp2_with fail
        go_loopw [24] (fun i wr => ∃ k : Nat, k ≤ n ∧ i = .int .i64 k ∧ Hid (allP (fun i => hasS (g i) (z i)) k = true) ∧ Below w.heap.size w wr) (fun i _ => n - (intOf i).toNat)
        case atStart => exact ⟨0, Nat.zero_le _, rfl, rfl, hw2⟩
        case round =>
          obtain ⟨k, hk, rfl, hall, hbl⟩ := hrel
          by_cases hlt : k < n
          · obtain ⟨b, off, rfl, hb, c0, c1, c2⟩ := (h.below hbl).at_ hlt
            obtain ⟨b', off', rfl, hb', c'⟩ := (hd.below hbl).at_ hlt
            have hl : (k : Int) < (n : Int) := by omega
            have hl0 : (0 : Int) ≤ (k : Int) := by omega
            have hlb' : b' < wr.heap.size := Nat.lt_of_lt_of_le hb' hbl.size
            have hS := Blk.new wr 46 #[.int .i64 (g k).lo, .int .i64 (g k).hi, .bool (g k).gone]
            have hbl1 := hbl.alloc hbl.size (.cells #[.int .i64 (g k).lo, .int .i64 (g k).hi, .bool (g k).gone] 46)
            have d' : (wr.alloc (.cells #[.int .i64 (g k).lo, .int .i64 (g k).hi, .bool (g k).gone] 46)).cell? ⟨b', off' + k, none⟩ = some (.int .i64 (z k)) := (World.cell?_of_block (((Below.refl wr.heap.size wr).alloc (Nat.le_refl _) (.cells #[.int .i64 (g k).lo, .int .i64 (g k).hi, .bool (g k).gone] 46)).block b' hlb')).trans c'
            have d0 : (wr.alloc (.cells #[.int .i64 (g k).lo, .int .i64 (g k).hi, .bool (g k).gone] 46)).cell? ⟨wr.heap.size, 0, none⟩ = some (.int .i64 (g k).lo) := hS.cell 0
            have d1 : (wr.alloc (.cells #[.int .i64 (g k).lo, .int .i64 (g k).hi, .bool (g k).gone] 46)).cell? ⟨wr.heap.size, 1, none⟩ = some (.int .i64 (g k).hi) := hS.cell 1
            have d2 : (wr.alloc (.cells #[.int .i64 (g k).lo, .int .i64 (g k).hi, .bool (g k).gone] 46)).cell? ⟨wr.heap.size, 2, none⟩ = some (.bool (g k).gone) := hS.cell 2
            have hlb1 : b' < (wr.alloc (.cells #[.int .i64 (g k).lo, .int .i64 (g k).hi, .bool (g k).gone] 46)).heap.size := by rw [World.size_alloc]; omega
            have hls1 : wr.heap.size < (wr.alloc (.cells #[.int .i64 (g k).lo, .int .i64 (g k).hi, .bool (g k).gone] 46)).heap.size := by rw [World.size_alloc]; omega
            go_wp2_with fail
            go_region_held3 (fun w' => w'.cell? ⟨b', off' + k, none⟩ = some (.int .i64 (z k)) ∧ w'.cell? ⟨wr.heap.size, 0, none⟩ = some (.int .i64 (g k).lo) ∧ w'.cell? ⟨wr.heap.size, 1, none⟩ = some (.int .i64 (g k).hi) ∧ w'.cell? ⟨wr.heap.size, 2, none⟩ = some (.bool (g k).gone))
              (first | (simp [go_sem]; done) | exact ⟨e', e0, e1, e2⟩ | (simp [go_sem, *]; done))
              (first
                | (go_at_call 90; refine (has_any (g k) (z k) _).mono ?_; rintro e w3 ⟨rfl, hb3⟩; obtain ⟨hc1, hf1⟩ := bcell hb3; have e' := (hc1 b' _ hlb1).trans d'; have e0 := (hc1 wr.heap.size _ hls1).trans d0; have e1 := (hc1 wr.heap.size _ hls1).trans d1; have e2 := (hc1 wr.heap.size _ hls1).trans d2))
            have hbl2 := hbl1.drew.trans (hb3.mono hbl1.size)
            clear hb3 hc1 hf1 e' e0 e1 e2 d' d0 d1 d2 c0 c1 c2 c'
            cases hq : hasS (g k) (z k)
            · go_wp2_with fail
              go_ret
              refine ⟨?_, hbl2⟩
              rw [HR.out, allP_false (p := fun i => hasS (g i) (z i)) hlt hq]
              rfl
            · go_wp2_with fail
              go_roundw
              case rel => exact ⟨k + 1, by omega, by go_num, (by show allP _ (k + 1) = true; simp only [allP, hq, hall.out]; rfl), hbl2⟩
              case measure => simp [intOf]; omega
          · have e : k = n := by omega
            go_wp2_with fail
            go_ret
            subst e
            refine ⟨?_, hbl⟩
            rw [HR.out, hall.out]
            rfl
      · rw [boxHas_no3 hnf]
        have e1 : ¬ (n : Int) = (f : Int) := by omega
        clear hb hdc
        go_enter Try.func36, Try.ntmps36
        go_wp2_with fail
        refine (iBoxOk_any A n cap g _ h hn).mono ?_
        rintro e w1 ⟨rfl, hb1⟩
        rw [HB.out]
        go_wp2_with fail
        refine (iDocOk_any D f dc z _ (hd.to hb1 hb1.size) hf).mono ?_
        rintro e w2 ⟨rfl, hb2⟩
        rw [HD.out]
        go_wp2_with fail
        go_ret
        exact ⟨rfl, hb1.trans (hb2.mono hb1.size)⟩

set_option maxHeartbeats 2000000 in
theorem sBoxHas_any (A D : Option Addr) (n cap f dc : Nat) (g : Nat → Sp) (z : Nat → Int) (w : World) (h : RdS w w.heap.size A n g) (hd : Rd w w.heap.size D f z) (hn : n ≤ 4194304) (hf : f ≤ 4194304) :
    Calls Try.prog 37 #[.slice A n cap, .slice D f dc] w fun e w' => e = .returned (.bool (boxHasB n g f z)) ∧ Below w.heap.size w w' := by
  cases hb : boxB n g with
  | false =>
    rw [boxHas_no1 hb]
    have HB := hid hb
    clear hb
    go_enter Try.func37, Try.ntmps37
    go_wp2_with fail
    refine (sBoxOk_any A n cap g _ h hn).mono ?_
    rintro e w1 ⟨rfl, hb1⟩
    rw [HB.out]
    go_wp2_with fail
    go_ret
    exact ⟨rfl, hb1⟩
  | true =>
    have HB := hid hb
    cases hdc : docB f z with
    | false =>
      rw [boxHas_no2 hdc]
      have HD := hid hdc
      clear hb hdc
      go_enter Try.func37, Try.ntmps37
      go_wp2_with fail
      refine (sBoxOk_any A n cap g _ h hn).mono ?_
      rintro e w1 ⟨rfl, hb1⟩
      rw [HB.out]
      go_wp2_with fail
      refine (sDocOk_any D f dc z _ (hd.to hb1 hb1.size) hf).mono ?_
      rintro e w2 ⟨rfl, rfl⟩
      rw [HD.out]
      go_wp2_with fail
      go_ret
      exact ⟨rfl, hb1⟩
    | true =>
      have HD := hid hdc
      by_cases hnf : n = f
      · subst hnf
        have HR := hid (boxHas_yes hb hdc)
        clear hb hdc
        go_enter Try.func37, Try.ntmps37
        go_wp2_with fail
        refine (sBoxOk_any A n cap g _ h hn).mono ?_
        rintro e w1 ⟨rfl, hb1⟩
        rw [HB.out]
        go_wp2_with fail
        refine (sDocOk_any D n dc z _ (hd.to hb1 hb1.size) hn).mono ?_
        rintro e w2 ⟨rfl, rfl⟩
        rw [HD.out]
        go_wp2_with fail
        go_loopw [5] (fun i wr => ∃ k : Nat, k ≤ n ∧ i = .int .i64 k ∧ Hid (allP (fun i => hasS (g i) (z i)) k = true) ∧ Below w.heap.size w wr) (fun i _ => n - (intOf i).toNat)
        case atStart => exact ⟨0, Nat.zero_le _, rfl, rfl, hb1⟩
        case round =>
          obtain ⟨k, hk, rfl, hall, hbl⟩ := hrel
          by_cases hlt : k < n
          · obtain ⟨b, off, rfl, hb, c0, c1, c2⟩ := (h.below hbl).at_ hlt
            obtain ⟨b', off', rfl, hb', c'⟩ := (hd.below hbl).at_ hlt
            have hl : (k : Int) < (n : Int) := by omega
            have hl0 : (0 : Int) ≤ (k : Int) := by omega
            have hlb : b < wr.heap.size := Nat.lt_of_lt_of_le hb hbl.size
            have hlb' : b' < wr.heap.size := Nat.lt_of_lt_of_le hb' hbl.size
            go_wp2_with fail
            go_region_held3 (fun w' => w'.cell? ⟨b', off' + k, none⟩ = some (.int .i64 (z k)) ∧ w'.cell? ⟨b, off + k * 3, none⟩ = some (.int .i64 (g k).lo) ∧ w'.cell? ⟨b, off + k * 3 + 1, none⟩ = some (.int .i64 (g k).hi) ∧ w'.cell? ⟨b, off + k * 3 + 2, none⟩ = some (.bool (g k).gone))
              (first | (simp [go_sem]; done) | exact ⟨e', e0, e1, e2⟩ | (simp [go_sem, *]; done))
              (first
                | (go_at_call 91; refine (l3Has_any (g k) (z k) _).mono ?_; rintro e w3 ⟨rfl, hb3⟩; obtain ⟨hc1, hf1⟩ := bcell hb3; have e' := (hc1 b' _ hlb').trans c'; have e0 := (hc1 b _ hlb).trans c0; have e1 := (hc1 b _ hlb).trans c1; have e2 := (hc1 b _ hlb).trans c2))
            have hbl2 := hbl.drew.trans (hb3.mono hbl.size)
            clear hb3 hc1 hf1 e' e0 e1 e2 c0 c1 c2 c'
            cases hq : hasS (g k) (z k)
            · go_wp2_with fail
              go_ret
              refine ⟨?_, hbl2⟩
              rw [HR.out, allP_false (p := fun i => hasS (g i) (z i)) hlt hq]
              rfl
            · go_wp2_with fail
              go_roundw
              case rel => exact ⟨k + 1, by omega, by go_num, (by show allP _ (k + 1) = true; simp only [allP, hq, hall.out]; rfl), hbl2⟩
              case measure => simp [intOf]; omega
          · have e : k = n := by omega
            go_wp2_with fail
            go_ret
            subst e
            refine ⟨?_, hbl⟩
            rw [HR.out, hall.out]
            rfl
      · rw [boxHas_no3 hnf]
        have e1 : ¬ (n : Int) = (f : Int) := by omega
        clear hb hdc
        go_enter Try.func37, Try.ntmps37
        go_wp2_with fail
        refine (sBoxOk_any A n cap g _ h hn).mono ?_
        rintro e w1 ⟨rfl, hb1⟩
        rw [HB.out]
        go_wp2_with fail
        refine (sDocOk_any D f dc z _ (hd.to hb1 hb1.size) hf).mono ?_
        rintro e w2 ⟨rfl, rfl⟩
        rw [HD.out]
        go_wp2_with fail
        go_ret
        exact ⟨rfl, hb1⟩

set_option maxHeartbeats 2000000 in
theorem lawBoxHas (A D : Option Addr) (n cap f dc : Nat) (g : Nat → Sp) (z : Nat → Int) (w : World) (h : RdS w w.heap.size A n g) (hd : Rd w w.heap.size D f z) (hn : n ≤ 9223372036854775807) :
    Calls Try.prog 14 #[.slice A n cap, .slice D f dc] w fun e w' => e = .returned (.bool true) ∧ Below w.heap.size w w' := by
  by_cases hf : (1048576 : Int) < (f : Int)
  · go_enter Try.func14, Try.ntmps14
    go_wp2_with fail
    go_ret
    exact ⟨rfl, Below.refl _ _⟩
  by_cases hbig : (1048576 : Int) - (n : Int) < 0
  · go_enter Try.func14, Try.ntmps14
    go_wp2_with fail
    refine (szS_big A n cap 1048576 _ hn (by omega) (by omega) hbig).mono ?_
    rintro e w1 ⟨rfl, rfl⟩
    go_wp2_with fail
    go_ret
    exact ⟨rfl, Below.refl _ _⟩
  have hm : n ≤ 4194304 := by omega
  have hfm : f ≤ 4194304 := by omega
  go_enter Try.func14, Try.ntmps14
  go_wp2_with fail
  refine (szS_ok A n cap 1048576 _ hn (by omega) (by omega) (by omega)).mono ?_
  rintro e w1 ⟨rfl, rfl⟩
  go_wp2_with fail
  refine (toS_any A n cap g _ h hm).mono ?_
  rintro e w1 ⟨b1, rfl, _, hr1, hb1⟩
  go_wp2_with fail
  refine (toI_any D f dc z _ (hd.to hb1 hb1.size) hfm).mono ?_
  rintro e w2 ⟨b2, rfl, _, hr2, hb2⟩
  have hr1' := hr1.below hb2 hr1.lt
  have hw2 := hb1.trans (hb2.mono hb1.size)
  clear hb1 hb2 hr1
  go_wp2_with fail
  refine (sBoxHas_any _ _ n n f f g z _ (rds_of hr1') (rd_of hr2) hm hfm).mono ?_
  rintro e w3 ⟨rfl, hb3⟩
  have hw3 := hw2.trans (hb3.mono hw2.size)
  clear hb3 hw2 hr1' hr2
  go_wp2_with fail
  refine (toS_any A n cap g _ (h.to hw3 hw3.size) hm).mono ?_
  rintro e w4 ⟨b4, rfl, _, hr4, hb4⟩
  have hw4 := hw3.trans (hb4.mono hw3.size)
  clear hb4 hw3
  go_wp2_with fail
  refine (toI_any D f dc z _ (hd.to hw4 hw4.size) hfm).mono ?_
  rintro e w5 ⟨b5, rfl, _, hr5, hb5⟩
  have hr4' := hr4.below hb5 hr4.lt
  have hw5 := hw4.trans (hb5.mono hw4.size)
  clear hb5 hw4 hr4
  go_wp2_with fail
  refine (iBoxHas_any _ _ n n f f g z _ (rds_of hr4') (rd_of hr5) hm hfm).mono ?_
  rintro e w6 ⟨rfl, hb6⟩
  have hr4 := hr4'.below hb6 hr4'.lt
  have hr6 := hr5.below hb6 hr5.lt
  have hw6 := hw5.trans (hb6.mono hw5.size)
  clear hb6 hw5 hr4' hr5
  go_wp2_with fail
  refine (toS_any A n cap g _ (h.to hw6 hw6.size) hm).mono ?_
  rintro e w8 ⟨b8, rfl, _, hr8, hb8⟩
  have hr4' := hr4.below hb8 hr4.lt
  have hr6' := hr6.below hb8 hr6.lt
  have hw8 := hw6.trans (hb8.mono hw6.size)
  clear hb8 hw6 hr4 hr6
  go_wp2_with fail
  refine (eqS_any _ _ n n n g _ (rds_of hr4') (rds_of hr8) hm).mono ?_
  rintro e w9 ⟨rfl, hb9⟩
  have hr6 := hr6'.below hb9 hr6'.lt
  have hw9 := hw8.trans (hb9.mono hw8.size)
  clear hb9 hw8 hr4' hr6' hr8
  go_wp2_with fail
  refine (toI_any D f dc z _ (hd.to hw9 hw9.size) hfm).mono ?_
  rintro e w10 ⟨b10, rfl, _, hr10, hb10⟩
  have hr6' := hr6.below hb10 hr6.lt
  have hw10 := hw9.trans (hb10.mono hw9.size)
  clear hb10 hw9 hr6
  go_wp2_with fail
  refine (eqI_any _ _ f f f z z _ (rd_of hr6') (rd_of hr10) (fun _ _ => rfl) hfm).mono ?_
  rintro e w11 ⟨rfl, m11, rfl⟩
  go_wp2_with fail
  go_ret
  exact ⟨rfl, below_drewN hw10 m11⟩

set_option maxHeartbeats 2000000 in
theorem lawPick_no (A : Option Addr) (n cap : Nat) (g : Nat → Sp) (w : World) (h : RdS w w.heap.size A n g) (hn : n ≤ 1048576) (hno : boxB n g = false) :
    Calls Try.prog 16 #[.slice A n cap] w fun e w' => e = .returned (.bool true) ∧ Below w.heap.size w w' := by
  have hm : n ≤ 4194304 := by omega
  have HN := hid hno
  clear hno
  go_enter Try.func16, Try.ntmps16
  go_wp2_with fail
  refine (szS_ok A n cap 1048576 _ (by omega) (by omega) (by omega) (by omega)).mono ?_
  rintro e w1 ⟨rfl, rfl⟩
  go_wp2_with fail
  refine (toS_any A n cap g _ h hm).mono ?_
  rintro e w1 ⟨b1, rfl, _, hr1, hb1⟩
  go_wp2_with fail
  refine (sPick_no _ n n g _ (rds_of hr1) hm HN.out).mono ?_
  rintro e w2 ⟨s, c, rfl, hb2⟩
  have hw2 := hb1.trans (hb2.mono hb1.size)
  clear hb1 hb2 hr1
  go_wp2_with fail
  refine (toS_any A n cap g _ (h.to hw2 hw2.size) hm).mono ?_
  rintro e w3 ⟨b3, rfl, hl3, hr3, hb3⟩
  have hw3 := hw2.trans (hb3.mono hw2.size)
  clear hb3
  go_wp2_with fail
  refine (iPick_no _ n n g _ (rds_of hr3) hm HN.out).mono ?_
  rintro e w4 ⟨rfl, hb4⟩
  have hr4 := hr3.below hb4 hr3.lt
  have hw4 := hw3.trans (hb4.mono hw3.size)
  have hb3 : w.heap.size ≤ b3 := Nat.le_trans hw2.size hl3
  clear hb4 hw3 hr3 hw2 hl3
  go_wp2_with fail
  refine (eqI_any none s 0 0 c nul nul _ rd_none rd_none (fun _ _ => rfl) (by omega)).mono ?_
  rintro e w5 ⟨rfl, m5, rfl⟩
  have hw5 := below_drewN hw4 m5
  go_wp2_with fail
  refine (toS_any A n cap g _ (h.to hw5 hw5.size) hm).mono ?_
  rintro e w6 ⟨b6, rfl, _, hr6, hb6⟩
  have hr4' : RowS w6 46 b3 n g := RowS.below (w := w4.drewN m5) hr4 hb6 hr4.lt
  have hw6 := hw5.trans (hb6.mono hw5.size)
  clear hb6 hw5 hr4
  go_wp2_with fail
  refine (eqS_any _ _ n n n g _ (rds_of hr4') (rds_of hr6) hm).mono ?_
  rintro e w7 ⟨rfl, hb7⟩
  have hr4 := hr4'.below hb7 hr4'.lt
  have hw7 := hw6.trans (hb7.mono hw6.size)
  clear hb7 hw6 hr4' hr6
  go_wp2_with fail
  refine (markS_any n n b3 g 1 _ hr4 hm (by omega) (by omega)).mono ?_
  rintro e w8 ⟨k8, rfl, hk0, hk1, hg8⟩
  have hw8 : Below w.heap.size w w8 := hw7.grown hg8 hw7.size (fun x hx => by injection hx with hx; omega)
  clear hg8 hw7 hr4
  go_wp2_with fail
  refine (eqI_any none s 0 0 c nul nul _ rd_none rd_none (fun _ _ => rfl) (by omega)).mono ?_
  rintro e w9 ⟨rfl, m9, rfl⟩
  have hw9 := below_drewN hw8 m9
  go_wp2_with fail
  refine (mark_any none 0 0 w8.heap.size nul 1 _ (fun h => absurd h (by omega)) (by omega) (by omega) (by omega)).mono ?_
  rintro e w10 ⟨rfl, hg10, _⟩
  have hw10 : Below w.heap.size w w10 := hw9.grown hg10 hw9.size (fun x hx => by injection hx with hx; have := hw8.size; omega)
  clear hg10 hw9 hw8
  go_wp2_with fail
  refine (held_any none 0 0 0 1 _ (fun h => absurd h (by omega)) (by omega) (by omega) (by omega)).mono ?_
  rintro e w11 ⟨rfl, rfl⟩
  go_wp2_with fail
  refine (toS_any A n cap g _ (h.to hw10 hw10.size) hm).mono ?_
  rintro e w12 ⟨b12, rfl, _, hr12, hb12⟩
  have hw12 := hw10.trans (hb12.mono hw10.size)
  clear hb12 hw10
  go_wp2_with fail
  refine (iPick_no _ n n g _ (rds_of hr12) hm HN.out).mono ?_
  rintro e w13 ⟨rfl, hb13⟩
  have hw13 := hw12.trans (hb13.mono hw12.size)
  clear hb13 hw12 hr12
  go_wp2_with fail
  refine (eqI_any none s 0 0 c nul nul _ rd_none rd_none (fun _ _ => rfl) (by omega)).mono ?_
  rintro e w14 ⟨rfl, m14, rfl⟩
  go_wp2_with fail
  refine (held_any none 0 0 0 1 _ (fun h => absurd h (by omega)) (by omega) (by omega) (by omega)).mono ?_
  rintro e w15 ⟨rfl, rfl⟩
  go_wp2_with fail
  go_ret
  exact ⟨rfl, below_drewN hw13 m14⟩

set_option maxHeartbeats 2000000 in
theorem lawPick_yes (A : Option Addr) (n cap : Nat) (g : Nat → Sp) (w : World) (h : RdS w w.heap.size A n g) (hyes : boxB n g = true) :
    Calls Try.prog 16 #[.slice A n cap] w fun e w' => e = .returned (.bool true) ∧ Below w.heap.size w w' := by
  have hn1 := (boxB_iff.1 hyes).1
  have hn6 := (boxB_iff.1 hyes).2.1
  have hm : n ≤ 4194304 := by omega
  have HY := hid hyes
  clear hyes
  go_enter Try.func16, Try.ntmps16
  go_wp2_with fail
  refine (szS_ok A n cap 1048576 _ (by omega) (by omega) (by omega) (by omega)).mono ?_
  rintro e w1 ⟨rfl, rfl⟩
  go_wp2_with fail
  refine (toS_any A n cap g _ h hm).mono ?_
  rintro e w1 ⟨b1, rfl, _, hr1, hb1⟩
  go_wp2_with fail
  refine (sPick_yes _ n n g _ (rds_of hr1) HY.out).mono ?_
  rintro e w2 ⟨s, c, rfl, hls, hrs, hb2⟩
  have hw2 := hb1.trans (hb2.mono hb1.size)
  clear hb1 hb2 hr1 hls
  go_wp2_with fail
  refine (toS_any A n cap g _ (h.to hw2 hw2.size) hm).mono ?_
  rintro e w3 ⟨b3, rfl, hl3, hr3, hb3⟩
  have hw3 := hw2.trans (hb3.mono hw2.size)
  have hs3 : s < b3 := Nat.lt_of_lt_of_le hrs.lt hl3
  have hrs3 := hrs.below hb3 hrs.lt
  have hb3' : w.heap.size ≤ b3 := Nat.le_trans hw2.size hl3
  clear hb3 hw2 hl3 hrs
  go_wp2_with fail
  refine (iPick_yes _ n n g _ (rds_of hr3) HY.out).mono ?_
  rintro e w4 ⟨b4, rfl, hl4, hrg, hb4⟩
  have hr4 := hr3.below hb4 hr3.lt
  have hrs4 := hrs3.below hb4 hrs3.lt
  have hb34 : b3 < b4 := Nat.lt_of_lt_of_le hr3.lt hl4
  have hw4 := hw3.trans (hb4.mono hw3.size)
  clear hb4 hw3 hr3 hrs3 hl4
  go_wp2_with fail
  refine (eqI_any _ _ n n c (fun i => pickS (g i)) (fun i => pickS (g i)) _ (rd_of hrg) (rd_of hrs4) (fun _ _ => rfl) hm).mono ?_
  rintro e w5 ⟨rfl, m5, rfl⟩
  have hw5 := below_drewN hw4 m5
  go_wp2_with fail
  refine (toS_any A n cap g _ (h.to hw5 hw5.size) hm).mono ?_
  rintro e w6 ⟨b6, rfl, _, hr6, hb6⟩
  have hr4' : RowS w6 46 b3 n g := RowS.below (w := w4.drewN m5) hr4 hb6 hr4.lt
  have hrs6 : Row w6 2 s n (fun i => pickS (g i)) := Row.below (w := w4.drewN m5) hrs4 hb6 hrs4.lt
  have hrg6 : Row w6 2 b4 n (fun i => pickS (g i)) := Row.below (w := w4.drewN m5) hrg hb6 hrg.lt
  have hw6 := hw5.trans (hb6.mono hw5.size)
  clear hb6 hw5 hr4 hrs4 hrg hw4
  go_wp2_with fail
  refine (eqS_any _ _ n n n g _ (rds_of hr4') (rds_of hr6) hm).mono ?_
  rintro e w7 ⟨rfl, hb7⟩
  have hr4 := hr4'.below hb7 hr4'.lt
  have hrs7 := hrs6.below hb7 hrs6.lt
  have hrg7 := hrg6.below hb7 hrg6.lt
  have hw7 := hw6.trans (hb7.mono hw6.size)
  clear hb7 hw6 hr4' hr6 hrs6 hrg6
  go_wp2_with fail
  refine (markS_any n n b3 g 1 _ hr4 hm (by omega) (by omega)).mono ?_
  rintro e w8 ⟨k8, rfl, hk0, hk1, hg8⟩
  have hrs8 := row_grown hrs7 hg8 (by omega)
  have hrg8 := row_grown hrg7 hg8 (by omega)
  have hw8 : Below w.heap.size w w8 := hw7.grown hg8 hw7.size (fun x hx => by injection hx with hx; omega)
  clear hg8 hw7 hr4 hrs7 hrg7
  go_wp2_with fail
  refine (eqI_any _ _ n n c (fun i => pickS (g i)) (fun i => pickS (g i)) _ (rd_of hrg8) (rd_of hrs8) (fun _ _ => rfl) hm).mono ?_
  rintro e w9 ⟨rfl, m9, rfl⟩
  have hw9 := below_drewN hw8 m9
  go_wp2_with fail
  refine (mark_any _ n n b4 (fun i => pickS (g i)) 1 (w8.drewN m9) (fun _ => ⟨rfl, hrg8⟩) hm (by omega) (by omega)).mono ?_
  rintro e w10 ⟨rfl, hg10, hk10⟩
  have hrs10 : Row w10 2 s n (fun i => pickS (g i)) := row_grown (w := w8.drewN m9) hrs8 hg10 (by omega)
  have hrk := hk10 (by omega)
  have hw10 : Below w.heap.size w w10 := hw9.grown hg10 hw9.size (fun x hx => by injection hx with hx; omega)
  clear hg10 hw9 hw8 hk10 hrs8 hrg8
  go_wp2_with fail
  refine (held_any _ n n b4 1 w10 (fun _ => ⟨rfl, hrk⟩) hm (by omega) (by omega)).mono ?_
  rintro e w11 ⟨rfl, rfl⟩
  go_wp2_with fail
  refine (toS_any A n cap g _ (h.to hw10 hw10.size) hm).mono ?_
  rintro e w12 ⟨b12, rfl, _, hr12, hb12⟩
  have hrs12 := hrs10.below hb12 hrs10.lt
  have hrk12 := hrk.below hb12 hrk.lt
  have hw12 := hw10.trans (hb12.mono hw10.size)
  clear hb12 hw10 hrs10 hrk
  go_wp2_with fail
  refine (iPick_yes _ n n g _ (rds_of hr12) HY.out).mono ?_
  rintro e w13 ⟨b13, rfl, hl13, hrh, hb13⟩
  have hrs13 := hrs12.below hb13 hrs12.lt
  have hrk13 := hrk12.below hb13 hrk12.lt
  have hw13 := hw12.trans (hb13.mono hw12.size)
  clear hb13 hw12 hr12 hrs12 hrk12 hl13
  go_wp2_with fail
  refine (eqI_any _ _ n n c (fun i => pickS (g i)) (fun i => pickS (g i)) _ (rd_of hrh) (rd_of hrs13) (fun _ _ => rfl) hm).mono ?_
  rintro e w14 ⟨rfl, m14, rfl⟩
  go_wp2_with fail
  refine (held_any _ n n b4 1 (w13.drewN m14) (fun _ => ⟨rfl, hrk13⟩) hm (by omega) (by omega)).mono ?_
  rintro e w15 ⟨rfl, rfl⟩
  go_wp2_with fail
  go_ret
  exact ⟨rfl, below_drewN hw13 m14⟩

theorem lawPickOf (A : Option Addr) (n cap : Nat) (g : Nat → Sp) (w : World) (h : RdS w w.heap.size A n g) (hn : n ≤ 9223372036854775807) :
    Calls Try.prog 16 #[.slice A n cap] w fun e w' => e = .returned (.bool true) ∧ Below w.heap.size w w' := by
  by_cases hbig : (1048576 : Int) - (n : Int) < 0
  · go_enter Try.func16, Try.ntmps16
    go_wp2_with fail
    refine (szS_big A n cap 1048576 _ hn (by omega) (by omega) hbig).mono ?_
    rintro e w1 ⟨rfl, rfl⟩
    go_wp2_with fail
    go_ret
    exact ⟨rfl, Below.refl _ _⟩
  · cases hb : boxB n g with
    | false => exact lawPick_no A n cap g w h (by omega) hb
    | true => exact lawPick_yes A n cap g w h hb
end Go.Proofs.Ythdilioflhknpaa
