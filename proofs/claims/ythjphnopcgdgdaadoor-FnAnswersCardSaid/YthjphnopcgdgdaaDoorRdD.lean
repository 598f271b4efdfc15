/- The other side's numeral, at any text. -/
import Derived.Test.YthjphnopcgdgdaaDoorRdC
namespace Go.Proofs.YthjphnopcgdgdaaDoor
open Go.RowKit Go.Deep

theorem wrapI (x : Int) : I64 (IntKind.i64.wrap x) := by
  unfold I64
  rw [IntKind.wrap_i64]
  omega
theorem wrapI' (x : Int) : I64 (wrap64 x) := by unfold I64 wrap64; omega
theorem wrapU (x : Int) : 0 ≤ IntKind.u64.wrap x ∧ IntKind.u64.wrap x ≤ 18446744073709551615 := by
  rw [IntKind.wrap_u64]
  omega
def NumAny (w : World) (e : Ending) (w' : World) : Prop := ∃ x b, I64 x ∧ e = .returned (.tuple #[.int .i64 x, .bool b]) ∧ w' = w
theorem numAny0 {w : World} : NumAny w (.returned (.tuple #[.int .i64 0, .bool false])) w := ⟨0, false, by unfold I64; omega, rfl, rfl⟩
theorem u8_sub (b : Nat) (h : 48 ≤ b) (h2 : b ≤ 57) : IntKind.u8.wrap ((b : Int) - 48) = ((b - 48 : Nat) : Int) := by
  rw [IntKind.wrap_u8]; omega

set_option maxRecDepth 100000 in
set_option maxHeartbeats 4000000 in
theorem num_below (s t : ByteArray) (w : World) (hs : s.size ≤ 4194304) (hst : s.extract 1 s.size = t) (h1 : 1 < s.size) (hs0 : (s[0].toNat : Int) = 45) :
    Calls Tryd.prog 35 #[.string s] w (NumAny w) := by
  have j1 : (1 : Int) < (s.size : Int) := by omega
  have j2 : (t.size : Int) < (s.size : Int) := by
    have e : t.size = s.size - 1 := by rw [← hst, ByteArray.size_extract]; omega
    omega
  by_cases h0 : t.size < 1
  · have j6 : decide ((t.size : Int) < 1) = true := by simp; omega
    have j3 : (t.size : Int) < 1 := by omega
    go_enter Tryd.func35, Tryd.ntmps35
    go_wp2_with fail
    all_goals (go_ret2; exact numAny0)

  · have j3 : ¬ (t.size : Int) < 1 := by omega
    have j6 : decide ((t.size : Int) < 1) = false := by simpa using j3
    have hts1 : 0 < t.size := by omega
    by_cases h19 : 19 < t.size
    · have j7 : decide ((19 : Int) < (t.size : Int)) = true := by simp; omega
      have j4 : (19 : Int) < (t.size : Int) := by omega
      go_enter Tryd.func35, Tryd.ntmps35
      go_wp2_with fail
      all_goals (go_ret2; exact numAny0)

    · have j4 : ¬ (19 : Int) < (t.size : Int) := by omega
      have j7 : decide ((19 : Int) < (t.size : Int)) = false := by simpa using j4
      obtain ⟨c0, hc0⟩ : ∃ c : Int, (t[0].toNat : Int) = c := ⟨_, rfl⟩
      by_cases hz : c0 = 48
      · subst hz
        go_enter Tryd.func35, Tryd.ntmps35
        go_wp2_with fail
        all_goals (go_ret2; exact numAny0)

      · have hz2 : (c0 == 48) = false := by simpa using hz
        go_enter Tryd.func35, Tryd.ntmps35
        go_wp2_with fail
        go_loop [6, 7] (fun n i => ∃ (k : Nat) (y : Int), k ≤ t.size ∧ 0 ≤ y ∧ y ≤ 18446744073709551615 ∧ n = .int .u64 y ∧ i = .int .i64 k) (fun _ i => t.size - (intOf i).toNat)
        case atStart => exact ⟨0, 0, Nat.zero_le _, by omega, by omega, rfl, rfl⟩
        case round =>
          obtain ⟨k, y, hk, hy0, hy1, rfl, rfl⟩ := hrel
          by_cases hlt : k < t.size
          · have i1 : (k : Int) < (t.size : Int) := by omega
            have i0 : (0 : Int) ≤ (k : Int) := by omega
            obtain ⟨b, hb, hbb⟩ : ∃ b : Nat, (t[k].toNat : Int) = (b : Int) ∧ b < 256 := ⟨_, rfl, UInt8.toNat_lt _⟩
            by_cases h1 : b < 48
            · have g1 : decide ((b : Int) < 48) = true := by simp; omega
              have g1' : (b : Int) < 48 := by omega
              go_wp2_with fail
              go_ret2
              exact numAny0
            · by_cases h2 : 57 < b
              · have g1 : decide ((b : Int) < 48) = false := by simp; omega
                have g2 : decide ((57 : Int) < (b : Int)) = true := by simp; omega
                have g2' : (57 : Int) < (b : Int) := by omega
                go_wp2_with fail
                go_ret2
                exact numAny0
              · have g1 : decide ((b : Int) < 48) = false := by simp; omega
                have g2 : decide ((57 : Int) < (b : Int)) = false := by simp; omega
                obtain ⟨y2, hy2, q0, q1⟩ : ∃ y2, IntKind.u64.wrap (IntKind.u64.wrap (10 * y) + ((b : Int) - 48)) = y2 ∧ 0 ≤ y2 ∧ y2 ≤ 18446744073709551615 := ⟨_, rfl, (wrapU _).1, (wrapU _).2⟩
                go_wp2_with fail
                go_round
                case rel => exact ⟨k + 1, y2, by omega, q0, q1, by first | rfl | (rw [hy2]; done) | (simp [hy2]; done), by go_num⟩
                case measure => simp [intOf]; omega
          · have e : k = t.size := by omega
            subst e
            have hge : ¬ (t.size : Int) < (t.size : Int) := by omega
            by_cases hbig : (9223372036854775808 : Int) < y
            · have k2 : decide ((9223372036854775808 : Int) < y) = true := by simpa using hbig
              go_wp2_with fail
              go_ret2
              exact numAny0
            · have k2 : decide ((9223372036854775808 : Int) < y) = false := by simpa using hbig
              go_wp2_with fail
              go_ret2
              refine ⟨_, true, ?_, rfl, rfl⟩
              first | exact wrapI' _ | exact wrapI _ | (unfold I64; omega)

set_option maxRecDepth 100000 in
set_option maxHeartbeats 4000000 in
theorem num_short (t : ByteArray) (w : World) (hs : t.size ≤ 4194304) (h1 : ¬ 1 < t.size) :
    Calls Tryd.prog 35 #[.string t] w (NumAny w) := by
  have j1 : ¬ (1 : Int) < (t.size : Int) := by omega
  have j1' : decide ((1 : Int) < (t.size : Int)) = false := by simpa using j1
  by_cases h0 : t.size < 1
  · have j6 : decide ((t.size : Int) < 1) = true := by simp; omega
    have j3 : (t.size : Int) < 1 := by omega
    go_enter Tryd.func35, Tryd.ntmps35
    go_wp2_with fail
    all_goals (go_ret2; exact numAny0)

  · have j3 : ¬ (t.size : Int) < 1 := by omega
    have j6 : decide ((t.size : Int) < 1) = false := by simpa using j3
    have hts1 : 0 < t.size := by omega
    by_cases h19 : 19 < t.size
    · have j7 : decide ((19 : Int) < (t.size : Int)) = true := by simp; omega
      have j4 : (19 : Int) < (t.size : Int) := by omega
      go_enter Tryd.func35, Tryd.ntmps35
      go_wp2_with fail
      all_goals (go_ret2; exact numAny0)

    · have j4 : ¬ (19 : Int) < (t.size : Int) := by omega
      have j7 : decide ((19 : Int) < (t.size : Int)) = false := by simpa using j4
      obtain ⟨c0, hc0⟩ : ∃ c : Int, (t[0].toNat : Int) = c := ⟨_, rfl⟩
      by_cases hz : c0 = 48
      · subst hz
        go_enter Tryd.func35, Tryd.ntmps35
        go_wp2_with fail
        go_loop [6, 7] (fun n i => ∃ (k : Nat) (y : Int), k ≤ t.size ∧ 0 ≤ y ∧ y ≤ 18446744073709551615 ∧ n = .int .u64 y ∧ i = .int .i64 k) (fun _ i => t.size - (intOf i).toNat)
        case atStart => exact ⟨0, 0, Nat.zero_le _, by omega, by omega, rfl, rfl⟩
        case round =>
          obtain ⟨k, y, hk, hy0, hy1, rfl, rfl⟩ := hrel
          by_cases hlt : k < t.size
          · have i1 : (k : Int) < (t.size : Int) := by omega
            have i0 : (0 : Int) ≤ (k : Int) := by omega
            obtain ⟨b, hb, hbb⟩ : ∃ b : Nat, (t[k].toNat : Int) = (b : Int) ∧ b < 256 := ⟨_, rfl, UInt8.toNat_lt _⟩
            by_cases h1 : b < 48
            · have g1 : decide ((b : Int) < 48) = true := by simp; omega
              have g1' : (b : Int) < 48 := by omega
              go_wp2_with fail
              go_ret2
              exact numAny0
            · by_cases h2 : 57 < b
              · have g1 : decide ((b : Int) < 48) = false := by simp; omega
                have g2 : decide ((57 : Int) < (b : Int)) = true := by simp; omega
                have g2' : (57 : Int) < (b : Int) := by omega
                go_wp2_with fail
                go_ret2
                exact numAny0
              · have g1 : decide ((b : Int) < 48) = false := by simp; omega
                have g2 : decide ((57 : Int) < (b : Int)) = false := by simp; omega
                obtain ⟨y2, hy2, q0, q1⟩ : ∃ y2, IntKind.u64.wrap (IntKind.u64.wrap (10 * y) + ((b : Int) - 48)) = y2 ∧ 0 ≤ y2 ∧ y2 ≤ 18446744073709551615 := ⟨_, rfl, (wrapU _).1, (wrapU _).2⟩
                go_wp2_with fail
                go_round
                case rel => exact ⟨k + 1, y2, by omega, q0, q1, by first | rfl | (rw [hy2]; done) | (simp [hy2]; done), by go_num⟩
                case measure => simp [intOf]; omega
          · have e : k = t.size := by omega
            subst e
            have hge : ¬ (t.size : Int) < (t.size : Int) := by omega
            by_cases hbig : (9223372036854775808 : Int) ≤ y
            · have k2 : decide ((9223372036854775808 : Int) ≤ y) = true := by simpa using hbig
              go_wp2_with fail
              go_ret2
              exact numAny0
            · have k2 : decide ((9223372036854775808 : Int) ≤ y) = false := by simpa using hbig
              go_wp2_with fail
              go_ret2
              refine ⟨_, true, ?_, rfl, rfl⟩
              first | exact wrapI' _ | exact wrapI _ | (unfold I64; omega)

      · have hz2 : (c0 == 48) = false := by simpa using hz
        go_enter Tryd.func35, Tryd.ntmps35
        go_wp2_with fail
        go_loop [6, 7] (fun n i => ∃ (k : Nat) (y : Int), k ≤ t.size ∧ 0 ≤ y ∧ y ≤ 18446744073709551615 ∧ n = .int .u64 y ∧ i = .int .i64 k) (fun _ i => t.size - (intOf i).toNat)
        case atStart => exact ⟨0, 0, Nat.zero_le _, by omega, by omega, rfl, rfl⟩
        case round =>
          obtain ⟨k, y, hk, hy0, hy1, rfl, rfl⟩ := hrel
          by_cases hlt : k < t.size
          · have i1 : (k : Int) < (t.size : Int) := by omega
            have i0 : (0 : Int) ≤ (k : Int) := by omega
            obtain ⟨b, hb, hbb⟩ : ∃ b : Nat, (t[k].toNat : Int) = (b : Int) ∧ b < 256 := ⟨_, rfl, UInt8.toNat_lt _⟩
            by_cases h1 : b < 48
            · have g1 : decide ((b : Int) < 48) = true := by simp; omega
              have g1' : (b : Int) < 48 := by omega
              go_wp2_with fail
              go_ret2
              exact numAny0
            · by_cases h2 : 57 < b
              · have g1 : decide ((b : Int) < 48) = false := by simp; omega
                have g2 : decide ((57 : Int) < (b : Int)) = true := by simp; omega
                have g2' : (57 : Int) < (b : Int) := by omega
                go_wp2_with fail
                go_ret2
                exact numAny0
              · have g1 : decide ((b : Int) < 48) = false := by simp; omega
                have g2 : decide ((57 : Int) < (b : Int)) = false := by simp; omega
                obtain ⟨y2, hy2, q0, q1⟩ : ∃ y2, IntKind.u64.wrap (IntKind.u64.wrap (10 * y) + ((b : Int) - 48)) = y2 ∧ 0 ≤ y2 ∧ y2 ≤ 18446744073709551615 := ⟨_, rfl, (wrapU _).1, (wrapU _).2⟩
                go_wp2_with fail
                go_round
                case rel => exact ⟨k + 1, y2, by omega, q0, q1, by first | rfl | (rw [hy2]; done) | (simp [hy2]; done), by go_num⟩
                case measure => simp [intOf]; omega
          · have e : k = t.size := by omega
            subst e
            have hge : ¬ (t.size : Int) < (t.size : Int) := by omega
            by_cases hbig : (9223372036854775808 : Int) ≤ y
            · have k2 : decide ((9223372036854775808 : Int) ≤ y) = true := by simpa using hbig
              go_wp2_with fail
              go_ret2
              exact numAny0
            · have k2 : decide ((9223372036854775808 : Int) ≤ y) = false := by simpa using hbig
              go_wp2_with fail
              go_ret2
              refine ⟨_, true, ?_, rfl, rfl⟩
              first | exact wrapI' _ | exact wrapI _ | (unfold I64; omega)

set_option maxRecDepth 100000 in
set_option maxHeartbeats 4000000 in
theorem num_long (t : ByteArray) (w : World) (hs : t.size ≤ 4194304) (h1 : 1 < t.size) (h2 : ((t[0].toNat : Int) == 45) = false) :
    Calls Tryd.prog 35 #[.string t] w (NumAny w) := by
  have j1 : (1 : Int) < (t.size : Int) := by omega
  by_cases h0 : t.size < 1
  · have j6 : decide ((t.size : Int) < 1) = true := by simp; omega
    have j3 : (t.size : Int) < 1 := by omega
    go_enter Tryd.func35, Tryd.ntmps35
    go_wp2_with fail
    all_goals (go_ret2; exact numAny0)

  · have j3 : ¬ (t.size : Int) < 1 := by omega
    have j6 : decide ((t.size : Int) < 1) = false := by simpa using j3
    have hts1 : 0 < t.size := by omega
    by_cases h19 : 19 < t.size
    · have j7 : decide ((19 : Int) < (t.size : Int)) = true := by simp; omega
      have j4 : (19 : Int) < (t.size : Int) := by omega
      go_enter Tryd.func35, Tryd.ntmps35
      go_wp2_with fail
      all_goals (go_ret2; exact numAny0)

    · have j4 : ¬ (19 : Int) < (t.size : Int) := by omega
      have j7 : decide ((19 : Int) < (t.size : Int)) = false := by simpa using j4
      obtain ⟨c0, hc0⟩ : ∃ c : Int, (t[0].toNat : Int) = c := ⟨_, rfl⟩
      by_cases hz : c0 = 48
      · subst hz
        go_enter Tryd.func35, Tryd.ntmps35
        go_wp2_with fail
        all_goals (go_ret2; exact numAny0)

      · have hz2 : (c0 == 48) = false := by simpa using hz
        go_enter Tryd.func35, Tryd.ntmps35
        go_wp2_with fail
        go_loop [6, 7] (fun n i => ∃ (k : Nat) (y : Int), k ≤ t.size ∧ 0 ≤ y ∧ y ≤ 18446744073709551615 ∧ n = .int .u64 y ∧ i = .int .i64 k) (fun _ i => t.size - (intOf i).toNat)
        case atStart => exact ⟨0, 0, Nat.zero_le _, by omega, by omega, rfl, rfl⟩
        case round =>
          obtain ⟨k, y, hk, hy0, hy1, rfl, rfl⟩ := hrel
          by_cases hlt : k < t.size
          · have i1 : (k : Int) < (t.size : Int) := by omega
            have i0 : (0 : Int) ≤ (k : Int) := by omega
            obtain ⟨b, hb, hbb⟩ : ∃ b : Nat, (t[k].toNat : Int) = (b : Int) ∧ b < 256 := ⟨_, rfl, UInt8.toNat_lt _⟩
            by_cases h1 : b < 48
            · have g1 : decide ((b : Int) < 48) = true := by simp; omega
              have g1' : (b : Int) < 48 := by omega
              go_wp2_with fail
              go_ret2
              exact numAny0
            · by_cases h2 : 57 < b
              · have g1 : decide ((b : Int) < 48) = false := by simp; omega
                have g2 : decide ((57 : Int) < (b : Int)) = true := by simp; omega
                have g2' : (57 : Int) < (b : Int) := by omega
                go_wp2_with fail
                go_ret2
                exact numAny0
              · have g1 : decide ((b : Int) < 48) = false := by simp; omega
                have g2 : decide ((57 : Int) < (b : Int)) = false := by simp; omega
                obtain ⟨y2, hy2, q0, q1⟩ : ∃ y2, IntKind.u64.wrap (IntKind.u64.wrap (10 * y) + ((b : Int) - 48)) = y2 ∧ 0 ≤ y2 ∧ y2 ≤ 18446744073709551615 := ⟨_, rfl, (wrapU _).1, (wrapU _).2⟩
                go_wp2_with fail
                go_round
                case rel => exact ⟨k + 1, y2, by omega, q0, q1, by first | rfl | (rw [hy2]; done) | (simp [hy2]; done), by go_num⟩
                case measure => simp [intOf]; omega
          · have e : k = t.size := by omega
            subst e
            have hge : ¬ (t.size : Int) < (t.size : Int) := by omega
            by_cases hbig : (9223372036854775808 : Int) ≤ y
            · have k2 : decide ((9223372036854775808 : Int) ≤ y) = true := by simpa using hbig
              go_wp2_with fail
              go_ret2
              exact numAny0
            · have k2 : decide ((9223372036854775808 : Int) ≤ y) = false := by simpa using hbig
              go_wp2_with fail
              go_ret2
              refine ⟨_, true, ?_, rfl, rfl⟩
              first | exact wrapI' _ | exact wrapI _ | (unfold I64; omega)

theorem num_some (s : ByteArray) (w : World) (hs : s.size ≤ 4194304) : Calls Tryd.prog 35 #[.string s] w (NumAny w) := by
  by_cases h1 : 1 < s.size
  · by_cases h2 : (s[0].toNat : Int) = 45
    · exact num_below s _ w hs rfl h1 h2
    · exact num_long s w hs h1 (by simpa using h2)
  · exact num_short s w hs h1
end Go.Proofs.YthjphnopcgdgdaaDoor
