/- The other side's numeral, at a text that decS writes. -/
import Derived.Test.YthjphnopcgdgdaaDoorRdB
namespace Go.Proofs.YthjphnopcgdgdaaDoor
open Go.RowKit Go.Deep

/-- Below 10^(k+1): at most k + 1 digits. -/
theorem digits_le : ∀ (M k : Nat), M < 10 ^ (k + 1) → Lib.nDigits M ≤ k + 1
  | M, 0, h => by rw [Lib.nDigits_small (by simpa using h)]; omega
  | M, k + 1, h => by
    by_cases hs : M < 10
    · rw [Lib.nDigits_small hs]; omega
    · rw [Lib.nDigits_big hs]
      have := digits_le (M / 10) k (by rw [Nat.pow_succ] at h; omega)
      omega
theorem nDigits_lt {M k : Nat} (h : M < 10 ^ k) (h1 : 1 ≤ M) : Lib.nDigits M ≤ k := by
  cases k with
  | zero => simp at h; omega
  | succ k => exact digits_le M k h
/-- What the first k digits of M spell. -/
def preD (M k : Nat) : Nat := M / 10 ^ (Lib.nDigits M - k)
theorem preD_zero (M : Nat) : preD M 0 = 0 := Nat.div_eq_of_lt (Lib.lt_pow_nDigits M)
theorem preD_all (M : Nat) : preD M (Lib.nDigits M) = M := by unfold preD; rw [Nat.sub_self, Nat.pow_zero, Nat.div_one]
theorem preD_le (M k : Nat) : preD M k ≤ M := Nat.div_le_self _ _
theorem preD_next {M k : Nat} (hk : k < Lib.nDigits M) : preD M (k + 1) = 10 * preD M k + M / 10 ^ (Lib.nDigits M - 1 - k) % 10 := by
  unfold preD
  have e : Lib.nDigits M - k = (Lib.nDigits M - 1 - k) + 1 := by omega
  rw [show Lib.nDigits M - (k + 1) = Lib.nDigits M - 1 - k by omega, e, Nat.pow_succ, ← Nat.div_div_eq_div_mul]
  generalize M / 10 ^ (Lib.nDigits M - 1 - k) = q
  omega
/-- The digits as bytes. -/
def digS (M : Nat) : ByteArray := ⟨(Lib.decDigits M).toArray⟩
theorem digS_size (M : Nat) : (digS M).size = Lib.nDigits M := by show (Lib.decDigits M).toArray.size = _; rw [List.size_toArray, Lib.decDigits_length]
theorem digS_at {M k : Nat} (h : k < (digS M).size) : ((digS M)[k].toNat : Int) = ((48 + M / 10 ^ (Lib.nDigits M - 1 - k) % 10 : Nat) : Int) := by
  have h1 := byte_at (digS M) h
  have hk : k < Lib.nDigits M := by rw [← digS_size]; exact h
  rw [show (digS M).data.toList = Lib.decDigits M from by simp [digS], Lib.decDigits_eq, List.getElem?_map, List.getElem?_range hk] at h1
  rw [← Option.some.inj h1, (dg_byte _ _).2.2]
theorem nDigits_le19 {M : Nat} (h : M ≤ 9223372036854775808) : Lib.nDigits M ≤ 19 := by
  rcases Nat.lt_or_ge (Lib.nDigits M) 20 with h' | h'
  · omega
  · exfalso
    have := Lib.nDigits_le20 M (by omega)
    have e : Lib.nDigits M = 20 := by omega
    have hq : M / 10 ^ 19 < 10 := by omega
    have : Lib.nDigits M ≤ 19 := by
      rcases Nat.lt_or_ge M (10 ^ 19) with h1 | h1
      · rcases Nat.eq_zero_or_pos M with rfl | hp
        · rw [Lib.nDigits_small (by omega)]; omega
        · exact digits_le M 18 h1
      · omega
    omega
theorem first_pos {M : Nat} (h : 1 ≤ M) : M / 10 ^ (Lib.nDigits M - 1) % 10 ≠ 0 := by
  have hp := Lib.nDigits_pos M
  have h1 := preD_next (M := M) (k := 0) (by omega)
  simp only [preD_zero, Nat.sub_zero, Nat.mul_zero, Nat.zero_add] at h1
  rw [← h1]
  intro e
  unfold preD at e
  have h2 : M < 10 ^ (Lib.nDigits M - 1) := by
    rcases Nat.lt_or_ge M (10 ^ (Lib.nDigits M - 1)) with h' | h'
    · exact h'
    · have := Nat.div_pos h' (Nat.pow_pos (by omega))
      omega
  have h3 := nDigits_lt h2 h
  omega

set_option maxRecDepth 100000 in
set_option maxHeartbeats 2000000 in
theorem num_neg (M : Nat) (w : World) (h1 : 1 ≤ M) (h63 : M ≤ 9223372036854775808) :
    Calls Tryd.prog 35 #[.string (⟨#[45]⟩ ++ digS M)] w fun e w' => e = .returned (.tuple #[.int .i64 (-(M : Int)), .bool true]) ∧ w' = w := by
  obtain ⟨t, HT⟩ : ∃ t, Hid (t = digS M) := ⟨_, hid rfl⟩
  obtain ⟨s, HS⟩ : ∃ s, Hid (s = ⟨#[45]⟩ ++ digS M) := ⟨_, hid rfl⟩
  rw [← HS.out]
  obtain ⟨L, HL⟩ : ∃ L, Hid (Lib.nDigits M = L) := ⟨_, hid rfl⟩
  have HTS : Hid (t.size = L) := by show _ = _; rw [HT.out, digS_size, HL.out]
  have hL1 : 1 ≤ L := by rw [← HL.out]; exact Lib.nDigits_pos M
  have hL19 : L ≤ 19 := by rw [← HL.out]; exact nDigits_le19 h63
  have hss : s.size = 1 + L := by rw [HS.out, ByteArray.size_append, digS_size, HL.out]; rfl
  have HDG : Hid (∀ k (h : k < t.size), (t[k].toNat : Int) = ((48 + M / 10 ^ (Lib.nDigits M - 1 - k) % 10 : Nat) : Int)) := by
    show ∀ k (h : k < t.size), _
    rw [HT.out]
    exact fun k h => digS_at h
  have hst : s.extract 1 s.size = t := by
    rw [HS.out, HT.out]
    apply ba_ext
    rw [Lib.extract_data, ← size_len, data_app]
    simp
    exact List.take_of_length_le (by rw [size_len]; exact Nat.le_refl _)
  have hs0 : ∀ h : 0 < s.size, (s[0].toNat : Int) = 45 := by
    rw [HS.out]
    intro h
    have h2 := byte_at _ h
    rw [data_app] at h2
    have : (45 : UInt8) = _ := Option.some.inj h2
    rw [← this]; rfl
  have hsz1 : 1 < s.size := by omega
  have hts1 : 0 < t.size := by have := HTS.out; omega
  have hsp : 0 < s.size := by omega
  have b0 := hs0 hsp
  have hf := HDG.out 0 hts1
  have hfp := first_pos h1
  obtain ⟨d0, hd0, hf0⟩ : ∃ d : Nat, 1 ≤ d ∧ (t[0].toNat : Int) = ((48 + d : Nat) : Int) := ⟨M / 10 ^ (Lib.nDigits M - 1) % 10, by omega, by rw [hf, Nat.sub_zero]⟩
  have j1 : (1 : Int) < (s.size : Int) := by omega
  have j2 : (t.size : Int) < (s.size : Int) := by have := HTS.out; omega
  have j3 : ¬ (t.size : Int) < 1 := by omega
  have j4 : ¬ (19 : Int) < (t.size : Int) := by have := HTS.out; omega
  have j5 : (((48 + d0 : Nat) : Int) == 48) = false := by simp; omega
  have j6 : decide ((t.size : Int) < 1) = false := by simpa using j3
  have j7 : decide ((19 : Int) < (t.size : Int)) = false := by simpa using j4
  have HM := hid h63
  clear hss hs0 hf hfp h1 h63
  go_enter Tryd.func35, Tryd.ntmps35
  go_wp2_with fail
  go_loop [6, 7] (fun n i => ∃ k : Nat, k ≤ L ∧ n = .int .u64 (preD M k : Nat) ∧ i = .int .i64 k) (fun _ i => L - (intOf i).toNat)
  case atStart => exact ⟨0, Nat.zero_le _, by rw [preD_zero]; rfl, rfl⟩
  case round =>
    obtain ⟨k, hk, rfl, rfl⟩ := hrel
    by_cases hlt : k < L
    · have hks : k < t.size := by have := HTS.out; omega
      have i1 : (k : Int) < (t.size : Int) := by omega
      have i0 : (0 : Int) ≤ (k : Int) := by omega
      obtain ⟨d, hd, hdb⟩ : ∃ d : Nat, d ≤ 9 ∧ (t[k].toNat : Int) = ((48 + d : Nat) : Int) := ⟨M / 10 ^ (Lib.nDigits M - 1 - k) % 10, by omega, HDG.out k hks⟩
      obtain ⟨a, ha⟩ : ∃ a, preD M k = a := ⟨_, rfl⟩
      have hnx : preD M (k + 1) = 10 * a + d := by
        have h1 := preD_next (M := M) (k := k) (by rw [HL.out]; exact hlt)
        have h2 := HDG.out k hks
        rw [hdb] at h2
        rw [h1, ha]; omega
      have hle := preD_le M (k + 1)
      rw [hnx] at hle
      have hab : 10 * a + d ≤ 9223372036854775808 := by have := HM.out; omega
      have HNX := hid hnx
      have g1 : decide (((48 + d : Nat) : Int) < 48) = false := by simp; omega
      have g2 : decide ((57 : Int) < ((48 + d : Nat) : Int)) = false := by simp; omega
      rw [ha]
      clear hle hnx ha
      go_wp2_with fail
      go_round
      case rel => exact ⟨k + 1, by omega, by rw [HNX.out]; go_num, by go_num⟩
      case measure => simp [intOf]; omega
    · have e : k = L := by omega
      subst e
      have hall : preD M k = M := by rw [← HL.out]; exact preD_all M
      rw [hall]
      have HALL := hid hall
      have hge : ¬ (k : Int) < (t.size : Int) := by have := HTS.out; omega
      clear hall
      have HM2 := HM.out
      have k1 : ¬ (9223372036854775808 : Int) < (M : Int) := by omega
      have k2 : decide ((9223372036854775808 : Int) < (M : Int)) = false := by simpa using k1
      have hcv : IntKind.i64.wrap (IntKind.u64.wrap (-(M : Int))) = -(M : Int) := by rw [IntKind.wrap_u64, IntKind.wrap_i64]; omega
      go_wp2_with fail
      go_ret2
      exact ⟨by first | rfl | (simp [hcv]; done), rfl⟩

set_option maxRecDepth 100000 in
set_option maxHeartbeats 2000000 in
theorem num_pos (M : Nat) (w : World) (h63 : M ≤ 9223372036854775807) :
    Calls Tryd.prog 35 #[.string (digS M)] w fun e w' => e = .returned (.tuple #[.int .i64 (M : Int), .bool true]) ∧ w' = w := by
  obtain ⟨t, HT⟩ : ∃ t, Hid (t = digS M) := ⟨_, hid rfl⟩
  rw [← HT.out]
  obtain ⟨L, HL⟩ : ∃ L, Hid (Lib.nDigits M = L) := ⟨_, hid rfl⟩
  have HTS : Hid (t.size = L) := by show _ = _; rw [HT.out, digS_size, HL.out]
  have hL1 : 1 ≤ L := by rw [← HL.out]; exact Lib.nDigits_pos M
  have hL19 : L ≤ 19 := by rw [← HL.out]; exact nDigits_le19 (by omega)
  have HDG : Hid (∀ k (h : k < t.size), (t[k].toNat : Int) = ((48 + M / 10 ^ (Lib.nDigits M - 1 - k) % 10 : Nat) : Int)) := by
    show ∀ k (h : k < t.size), _
    rw [HT.out]
    exact fun k h => digS_at h
  have hts1 : 0 < t.size := by have := HTS.out; omega
  have hf := HDG.out 0 hts1
  rw [Nat.sub_zero] at hf
  obtain ⟨d0, hd9, HD0, hf0⟩ : ∃ d : Nat, d ≤ 9 ∧ Hid (M / 10 ^ (Lib.nDigits M - 1) % 10 = d) ∧ (t[0].toNat : Int) = ((48 + d : Nat) : Int) := ⟨_, by omega, hid rfl, hf⟩
  have j0 : (((48 + d0 : Nat) : Int) == 45) = false := by simp; omega
  have j3 : ¬ (t.size : Int) < 1 := by omega
  have j4 : ¬ (19 : Int) < (t.size : Int) := by have := HTS.out; omega
  have j6 : decide ((t.size : Int) < 1) = false := by simpa using j3
  have j7 : decide ((19 : Int) < (t.size : Int)) = false := by simpa using j4
  have HM : Hid (M ≤ 9223372036854775808) := by show _ ≤ _; omega
  have HM7 := hid h63
  by_cases hone : 1 < t.size
  · have j1 : (1 : Int) < (t.size : Int) := by omega
    have hM1 : 1 ≤ M := by
      rcases Nat.eq_zero_or_pos M with e | e
      · exfalso
        have h2 := HTS.out
        rw [← HL.out, e, Lib.nDigits_small (by omega)] at h2
        omega
      · exact e
    have hd0 : 1 ≤ d0 := by have := first_pos hM1; have := HD0.out; omega
    have j5 : (((48 + d0 : Nat) : Int) == 48) = false := by simp; omega
    clear hf h63 hone
    go_enter Tryd.func35, Tryd.ntmps35
    go_wp2_with fail
    go_loop [6, 7] (fun n i => ∃ k : Nat, k ≤ L ∧ n = .int .u64 (preD M k : Nat) ∧ i = .int .i64 k) (fun _ i => L - (intOf i).toNat)
    case atStart => exact ⟨0, Nat.zero_le _, by rw [preD_zero]; rfl, rfl⟩
    case round =>
      obtain ⟨k, hk, rfl, rfl⟩ := hrel
      by_cases hlt : k < L
      · have hks : k < t.size := by have := HTS.out; omega
        have i1 : (k : Int) < (t.size : Int) := by omega
        have i0 : (0 : Int) ≤ (k : Int) := by omega
        obtain ⟨d, hd, hdb⟩ : ∃ d : Nat, d ≤ 9 ∧ (t[k].toNat : Int) = ((48 + d : Nat) : Int) := ⟨M / 10 ^ (Lib.nDigits M - 1 - k) % 10, by omega, HDG.out k hks⟩
        obtain ⟨a, ha⟩ : ∃ a, preD M k = a := ⟨_, rfl⟩
        have hnx : preD M (k + 1) = 10 * a + d := by
          have h1 := preD_next (M := M) (k := k) (by rw [HL.out]; exact hlt)
          have h2 := HDG.out k hks
          rw [hdb] at h2
          rw [h1, ha]; omega
        have hle := preD_le M (k + 1)
        rw [hnx] at hle
        have hab : 10 * a + d ≤ 9223372036854775808 := by have := HM.out; omega
        have HNX := hid hnx
        have g1 : decide (((48 + d : Nat) : Int) < 48) = false := by simp; omega
        have g2 : decide ((57 : Int) < ((48 + d : Nat) : Int)) = false := by simp; omega
        rw [ha]
        clear hle hnx ha
        go_wp2_with fail
        go_round
        case rel => exact ⟨k + 1, by omega, by rw [HNX.out]; go_num, by go_num⟩
        case measure => simp [intOf]; omega
      · have e : k = L := by omega
        subst e
        have hall : preD M k = M := by rw [← HL.out]; exact preD_all M
        rw [hall]
        have HALL := hid hall
        have hge : ¬ (k : Int) < (t.size : Int) := by have := HTS.out; omega
        clear hall
        have HM2 := HM7.out
        have k1 : ¬ (9223372036854775808 : Int) ≤ (M : Int) := by omega
        have k2 : decide ((9223372036854775808 : Int) ≤ (M : Int)) = false := by simpa using k1
        have hcv : IntKind.i64.wrap (M : Int) = (M : Int) := IntWalk.i64_in _ (by omega)
        go_wp2_with fail
        go_ret2
        exact ⟨by first | rfl | (simp [hcv]; done), rfl⟩
  · have j1 : ¬ (1 : Int) < (t.size : Int) := by omega
    have j1' : decide ((1 : Int) < (t.size : Int)) = false := by simpa using j1
    clear hf h63 hone
    rcases Nat.eq_zero_or_pos d0 with hz | hd0
    · have hf1 : (t[0].toNat : Int) = 48 := by rw [hf0, hz]; rfl
      clear hf0 hz j0
      go_enter Tryd.func35, Tryd.ntmps35
      go_wp2_with fail
      go_loop [6, 7] (fun n i => ∃ k : Nat, k ≤ L ∧ n = .int .u64 (preD M k : Nat) ∧ i = .int .i64 k) (fun _ i => L - (intOf i).toNat)
      case atStart => exact ⟨0, Nat.zero_le _, by rw [preD_zero]; rfl, rfl⟩
      case round =>
        obtain ⟨k, hk, rfl, rfl⟩ := hrel
        by_cases hlt : k < L
        · have hks : k < t.size := by have := HTS.out; omega
          have i1 : (k : Int) < (t.size : Int) := by omega
          have i0 : (0 : Int) ≤ (k : Int) := by omega
          obtain ⟨d, hd, hdb⟩ : ∃ d : Nat, d ≤ 9 ∧ (t[k].toNat : Int) = ((48 + d : Nat) : Int) := ⟨M / 10 ^ (Lib.nDigits M - 1 - k) % 10, by omega, HDG.out k hks⟩
          obtain ⟨a, ha⟩ : ∃ a, preD M k = a := ⟨_, rfl⟩
          have hnx : preD M (k + 1) = 10 * a + d := by
            have h1 := preD_next (M := M) (k := k) (by rw [HL.out]; exact hlt)
            have h2 := HDG.out k hks
            rw [hdb] at h2
            rw [h1, ha]; omega
          have hle := preD_le M (k + 1)
          rw [hnx] at hle
          have hab : 10 * a + d ≤ 9223372036854775808 := by have := HM.out; omega
          have HNX := hid hnx
          have g1 : decide (((48 + d : Nat) : Int) < 48) = false := by simp; omega
          have g2 : decide ((57 : Int) < ((48 + d : Nat) : Int)) = false := by simp; omega
          rw [ha]
          clear hle hnx ha
          go_wp2_with fail
          go_round
          case rel => exact ⟨k + 1, by omega, by rw [HNX.out]; go_num, by go_num⟩
          case measure => simp [intOf]; omega
        · have e : k = L := by omega
          subst e
          have hall : preD M k = M := by rw [← HL.out]; exact preD_all M
          rw [hall]
          have HALL := hid hall
          have hge : ¬ (k : Int) < (t.size : Int) := by have := HTS.out; omega
          clear hall
          have HM2 := HM7.out
          have k1 : ¬ (9223372036854775808 : Int) ≤ (M : Int) := by omega
          have k2 : decide ((9223372036854775808 : Int) ≤ (M : Int)) = false := by simpa using k1
          have hcv : IntKind.i64.wrap (M : Int) = (M : Int) := IntWalk.i64_in _ (by omega)
          go_wp2_with fail
          go_ret2
          exact ⟨by first | rfl | (simp [hcv]; done), rfl⟩
    · have j5 : (((48 + d0 : Nat) : Int) == 48) = false := by simp; omega
      go_enter Tryd.func35, Tryd.ntmps35
      go_wp2_with fail
      go_loop [6, 7] (fun n i => ∃ k : Nat, k ≤ L ∧ n = .int .u64 (preD M k : Nat) ∧ i = .int .i64 k) (fun _ i => L - (intOf i).toNat)
      case atStart => exact ⟨0, Nat.zero_le _, by rw [preD_zero]; rfl, rfl⟩
      case round =>
        obtain ⟨k, hk, rfl, rfl⟩ := hrel
        by_cases hlt : k < L
        · have hks : k < t.size := by have := HTS.out; omega
          have i1 : (k : Int) < (t.size : Int) := by omega
          have i0 : (0 : Int) ≤ (k : Int) := by omega
          obtain ⟨d, hd, hdb⟩ : ∃ d : Nat, d ≤ 9 ∧ (t[k].toNat : Int) = ((48 + d : Nat) : Int) := ⟨M / 10 ^ (Lib.nDigits M - 1 - k) % 10, by omega, HDG.out k hks⟩
          obtain ⟨a, ha⟩ : ∃ a, preD M k = a := ⟨_, rfl⟩
          have hnx : preD M (k + 1) = 10 * a + d := by
            have h1 := preD_next (M := M) (k := k) (by rw [HL.out]; exact hlt)
            have h2 := HDG.out k hks
            rw [hdb] at h2
            rw [h1, ha]; omega
          have hle := preD_le M (k + 1)
          rw [hnx] at hle
          have hab : 10 * a + d ≤ 9223372036854775808 := by have := HM.out; omega
          have HNX := hid hnx
          have g1 : decide (((48 + d : Nat) : Int) < 48) = false := by simp; omega
          have g2 : decide ((57 : Int) < ((48 + d : Nat) : Int)) = false := by simp; omega
          rw [ha]
          clear hle hnx ha
          go_wp2_with fail
          go_round
          case rel => exact ⟨k + 1, by omega, by rw [HNX.out]; go_num, by go_num⟩
          case measure => simp [intOf]; omega
        · have e : k = L := by omega
          subst e
          have hall : preD M k = M := by rw [← HL.out]; exact preD_all M
          rw [hall]
          have HALL := hid hall
          have hge : ¬ (k : Int) < (t.size : Int) := by have := HTS.out; omega
          clear hall
          have HM2 := HM7.out
          have k1 : ¬ (9223372036854775808 : Int) ≤ (M : Int) := by omega
          have k2 : decide ((9223372036854775808 : Int) ≤ (M : Int)) = false := by simpa using k1
          have hcv : IntKind.i64.wrap (M : Int) = (M : Int) := IntWalk.i64_in _ (by omega)
          go_wp2_with fail
          go_ret2
          exact ⟨by first | rfl | (simp [hcv]; done), rfl⟩

theorem num_dec (x : Int) (w : World) (h : I64 x) :
    Calls Tryd.prog 35 #[.string (decS x)] w fun e w' => e = .returned (.tuple #[.int .i64 x, .bool true]) ∧ w' = w := by
  have h1 := h.1
  have h2 := h.2
  by_cases hn : x < 0
  · obtain ⟨M, rfl⟩ : ∃ M : Nat, x = -(M : Int) := ⟨x.natAbs, by omega⟩
    have e : decS (-(M : Int)) = ⟨#[45]⟩ ++ digS M := by
      apply ba_ext
      rw [data_app, decS, Lib.itoa_neg M (by omega)]
      simp [digS]
    rw [e]
    exact num_neg M w (by omega) (by omega)
  · obtain ⟨M, rfl⟩ : ∃ M : Nat, x = (M : Int) := ⟨x.toNat, by omega⟩
    have e : decS (M : Int) = digS M := by rw [decS, Lib.itoa_nonneg]; rfl
    rw [e]
    exact num_pos M w (by omega)
end Go.Proofs.YthjphnopcgdgdaaDoor
