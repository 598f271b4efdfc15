/- Contracts of BoxHas on both sides; the walks of the exact laws of BoxHas and PickOf. -/
import Derived.Test.YtnhbgagdppbldaaBoxB
namespace Go.Proofs.Ytnhbgagdppbldaa
open Go.RowKit Go.Deep

theorem boxHas_no1 {n f : Nat} {g : Nat → Sp} {z : Nat → Int} (h : boxB n g = false) : boxHasB n g f z = false := by unfold boxHasB; rw [h]; rfl
theorem boxHas_no2 {n f : Nat} {g : Nat → Sp} {z : Nat → Int} (h : docB f z = false) : boxHasB n g f z = false := by unfold boxHasB; rw [h, Bool.and_false]; rfl
theorem boxHas_no3 {n f : Nat} {g : Nat → Sp} {z : Nat → Int} (h : ¬ n = f) : boxHasB n g f z = false := by unfold boxHasB; rw [decide_eq_false h, Bool.false_and, Bool.and_false]
theorem boxHas_yes {n : Nat} {g : Nat → Sp} {z : Nat → Int} (h : boxB n g = true) (h' : docB n z = true) : boxHasB n g n z = allP (fun i => hasS (g i) (z i)) n := by unfold boxHasB; rw [h, h', decide_eq_true rfl]; rfl

set_option maxHeartbeats 2000000 in
theorem iBoxHas_any (A D : Option Addr) (n cap f dc : Nat) (g : Nat → Sp) (z : Nat → Int) (w : World) (h : RdS w w.heap.size A n g) (hd : Rd w w.heap.size D f z) (hn : n ≤ 4194304) (hf : f ≤ 4194304) :
    Calls Try.prog 37 #[.slice A n cap, .slice D f dc] w fun e w' => e = .returned (.bool (boxHasB n g f z)) ∧ Below w.heap.size w w' := by
  cases hb : boxB n g with
  | false =>
    rw [boxHas_no1 hb]
    have HB := hid hb
    clear hb
    go_enter Try.func37, Try.ntmps37
    go_wp2_with fail
    refine (iBoxOk_any A n cap g _ h hn).mono ?_
    rintro e w1 ⟨rfl, hb1⟩
    rw [HB.out]
    go_wp2_with fail
    go_ret
    exact ⟨rfl, hb1⟩
  | true =>
    have HB := hid hb
    cases hdc : docB f z with
    | false =>
      rw [boxHas_no2 hdc]
      have HD := hid hdc
      clear hb hdc
      go_enter Try.func37, Try.ntmps37
      go_wp2_with fail
      refine (iBoxOk_any A n cap g _ h hn).mono ?_
      rintro e w1 ⟨rfl, hb1⟩
      rw [HB.out]
      go_wp2_with fail
      refine (iDocOk_any D f dc z _ (hd.to hb1 hb1.size) hf).mono ?_
      rintro e w2 ⟨rfl, hb2⟩
      rw [HD.out]
      go_wp2_with fail
      go_ret
      exact ⟨rfl, hb1.trans (hb2.mono hb1.size)⟩
    | true =>
      have HD := hid hdc
      by_cases hnf : n = f
      · subst hnf
        have HR := hid (boxHas_yes hb hdc)
        clear hb hdc
        go_enter Try.func37, Try.ntmps37
        go_wp2_with fail
        refine (iBoxOk_any A n cap g _ h hn).mono ?_
        rintro e w1 ⟨rfl, hb1⟩
        rw [HB.out]
        go_wp2_with fail
        refine (iDocOk_any D n dc z _ (hd.to hb1 hb1.size) hn).mono ?_
        rintro e w2 ⟨rfl, hb2⟩
        rw [HD.out]
        have hw2 := hb1.trans (hb2.mono hb1.size)
        clear hb1 hb2
        go_wp2_with fail
        go_loopw [24] (fun i wr => ∃ k : Nat, k ≤ n ∧ i = .int .i64 k ∧ Hid (allP (fun i => hasS (g i) (z i)) k = true) ∧ Below w.heap.size w wr) (fun i _ => n - (intOf i).toNat)
        case atStart => exact ⟨0, Nat.zero_le _, rfl, rfl, hw2⟩
        case round =>
          obtain ⟨k, hk, rfl, hall, hbl⟩ := hrel
          by_cases hlt : k < n
          · obtain ⟨b, off, rfl, hb, c0, c1, c2⟩ := (h.below hbl).at_ hlt
            obtain ⟨b', off', rfl, hb', c'⟩ := (hd.below hbl).at_ hlt
            have hl : (k : Int) < (n : Int) := by omega
            have hl0 : (0 : Int) ≤ (k : Int) := by omega
            have hlb' : b' < wr.heap.size := Nat.lt_of_lt_of_le hb' hbl.size
            have hS := Blk.new wr 44 #[.int .i64 (g k).lo, .int .i64 (g k).hi, .bool (g k).gone]
            have hbl1 := hbl.alloc hbl.size (.cells #[.int .i64 (g k).lo, .int .i64 (g k).hi, .bool (g k).gone] 44)
            have d' : (wr.alloc (.cells #[.int .i64 (g k).lo, .int .i64 (g k).hi, .bool (g k).gone] 44)).cell? ⟨b', off' + k, none⟩ = some (.int .i64 (z k)) := (World.cell?_of_block (((Below.refl wr.heap.size wr).alloc (Nat.le_refl _) (.cells #[.int .i64 (g k).lo, .int .i64 (g k).hi, .bool (g k).gone] 44)).block b' hlb')).trans c'
            have d0 : (wr.alloc (.cells #[.int .i64 (g k).lo, .int .i64 (g k).hi, .bool (g k).gone] 44)).cell? ⟨wr.heap.size, 0, none⟩ = some (.int .i64 (g k).lo) := hS.cell 0
            have d1 : (wr.alloc (.cells #[.int .i64 (g k).lo, .int .i64 (g k).hi, .bool (g k).gone] 44)).cell? ⟨wr.heap.size, 1, none⟩ = some (.int .i64 (g k).hi) := hS.cell 1
            have d2 : (wr.alloc (.cells #[.int .i64 (g k).lo, .int .i64 (g k).hi, .bool (g k).gone] 44)).cell? ⟨wr.heap.size, 2, none⟩ = some (.bool (g k).gone) := hS.cell 2
            have hlb1 : b' < (wr.alloc (.cells #[.int .i64 (g k).lo, .int .i64 (g k).hi, .bool (g k).gone] 44)).heap.size := by rw [World.size_alloc]; omega
            have hls1 : wr.heap.size < (wr.alloc (.cells #[.int .i64 (g k).lo, .int .i64 (g k).hi, .bool (g k).gone] 44)).heap.size := by rw [World.size_alloc]; omega
            go_wp2_with fail
            go_region_held3 (fun w' => w'.cell? ⟨b', off' + k, none⟩ = some (.int .i64 (z k)) ∧ w'.cell? ⟨wr.heap.size, 0, none⟩ = some (.int .i64 (g k).lo) ∧ w'.cell? ⟨wr.heap.size, 1, none⟩ = some (.int .i64 (g k).hi) ∧ w'.cell? ⟨wr.heap.size, 2, none⟩ = some (.bool (g k).gone))
              (first | (simp [go_sem]; done) | exact ⟨e', e0, e1, e2⟩ | (simp [go_sem, *]; done))
              (first
                | (go_at_call 89; refine (has_any (g k) (z k) _).mono ?_; rintro e w3 ⟨rfl, hb3⟩; obtain ⟨hc1, hf1⟩ := bcell hb3; have e' := (hc1 b' _ hlb1).trans d'; have e0 := (hc1 wr.heap.size _ hls1).trans d0; have e1 := (hc1 wr.heap.size _ hls1).trans d1; have e2 := (hc1 wr.heap.size _ hls1).trans d2))
            have hbl2 := hbl1.drew.trans (hb3.mono hbl1.size)
            clear hb3 hc1 hf1 e' e0 e1 e2 d' d0 d1 d2 c0 c1 c2 c'
            cases hq : hasS (g k) (z k)
            · go_wp2_with fail
              go_ret
              refine ⟨?_, hbl2⟩
              rw [HR.out, allP_false (p := fun i => hasS (g i) (z i)) hlt hq]
              rfl
            · go_wp2_with fail
              go_roundw
              case rel => exact ⟨k + 1, by omega, by go_num, (by show allP _ (k + 1) = true; simp only [allP, hq, hall.out]; rfl), hbl2⟩
              case measure => simp [intOf]; omega
          · have e : k = n := by omega
            go_wp2_with fail
            go_ret
            subst e
            refine ⟨?_, hbl⟩
            rw [HR.out, hall.out]
            rfl
      · rw [boxHas_no3 hnf]
        have e1 : ¬ (n : Int) = (f : Int) := by omega
        clear hb hdc
        go_enter Try.func37, Try.ntmps37
        go_wp2_with fail
        refine (iBoxOk_any A n cap g _ h hn).mono ?_
        rintro e w1 ⟨rfl, hb1⟩
        rw [HB.out]
        go_wp2_with fail
        refine (iDocOk_any D f dc z _ (hd.to hb1 hb1.size) hf).mono ?_
        rintro e w2 ⟨rfl, hb2⟩
        rw [HD.out]
        go_wp2_with fail
        go_ret
        exact ⟨rfl, hb1.trans (hb2.mono hb1.size)⟩

end Go.Proofs.Ytnhbgagdppbldaa
