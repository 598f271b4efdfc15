/- The other side's cut of a text, and its numeral. -/
import Derived.Test.YthjphnopcgdgdaaDoorRdA
import Derived.BigQuiet
import Derived.Deep.QuietTactic
import Derived.OwnWalk
namespace Go.Proofs.YthjphnopcgdgdaaDoor
open Go.RowKit Go.Deep

theorem byte_left {t r : ByteArray} {c : UInt8} {k : Nat} (hk : k < t.size) (h : k < (t ++ one1 c ++ r).size) : (t ++ one1 c ++ r)[k] = t[k] := by
  have h1 := byte_at (t ++ one1 c ++ r) h
  have h2 := byte_at t hk
  rw [data_app, data_app, List.append_assoc, List.getElem?_append_left (by rw [size_len]; exact hk), h2] at h1
  exact (Option.some.inj h1).symm
theorem byte_mid {t r : ByteArray} {c : UInt8} (h : t.size < (t ++ one1 c ++ r).size) : (t ++ one1 c ++ r)[t.size] = c := by
  have h1 := byte_at (t ++ one1 c ++ r) h
  rw [data_app, data_app, List.append_assoc, List.getElem?_append_right (by rw [size_len]; exact Nat.le_refl _), size_len, Nat.sub_self] at h1
  exact (Option.some.inj h1).symm
theorem byte_not {t : ByteArray} {c : UInt8} {k : Nat} (h : NoC c t) (hk : k < t.size) : t[k].toNat ≠ c.toNat := by
  intro e
  have h2 := byte_at t hk
  rw [UInt8.toNat_inj.1 e] at h2
  exact h (List.mem_of_getElem? h2)
theorem size_app3 (t r : ByteArray) (c : UInt8) : (t ++ one1 c ++ r).size = t.size + 1 + r.size := by
  rw [ByteArray.size_append, ByteArray.size_append]; rfl

set_option maxRecDepth 100000 in
set_option maxHeartbeats 2000000 in
theorem cut_miss (s : ByteArray) (c : UInt8) (v : Nat) (w : World) (hv : c.toNat = v) (h : NoC c s) (hs : s.size ≤ 4194304) :
    Calls Tryd.prog 34 #[.string s, .int .u8 (v : Int)] w fun e w' => e = .returned (.tuple #[.string s, .string ⟨#[]⟩, .bool false]) ∧ ∃ m, w' = w.drewN m := by
  have HN := hid h
  have HV := hid hv
  clear h hv
  go_enter Tryd.func34, Tryd.ntmps34
  go_wp2_with fail
  go_loop [7] (fun i => ∃ k : Nat, k ≤ s.size ∧ i = .int .i64 k) (fun i => s.size - (intOf i).toNat)
  case atStart => exact ⟨0, Nat.zero_le _, rfl⟩
  case round =>
    obtain ⟨k, hk, rfl⟩ := hrel
    by_cases hlt : k < s.size
    · have i1 : (k : Int) < (s.size : Int) := by omega
      have i0 : (0 : Int) ≤ (k : Int) := by omega
      have hne : ¬ (s[k].toNat : Int) = (v : Int) := by have := byte_not HN.out hlt; have := HV.out; omega
      have hne2 : ((s[k].toNat : Int) == (v : Int)) = false := by simpa using hne
      clear hne
      go_wp2_with fail
      go_round
      case rel => exact ⟨k + 1, by omega, by go_num⟩
      case measure => simp [intOf]; omega
    · have e : k = s.size := by omega
      subst e
      go_wp2_with fail
      go_ret3
      exact ⟨rfl, 0, rfl⟩

set_option maxRecDepth 100000 in
set_option maxHeartbeats 2000000 in
theorem cut_hit (t r : ByteArray) (c : UInt8) (v : Nat) (w : World) (hv : c.toNat = v) (h : NoC c t) (hs : (t ++ one1 c ++ r).size ≤ 4194304) :
    Calls Tryd.prog 34 #[.string (t ++ one1 c ++ r), .int .u8 (v : Int)] w fun e w' => e = .returned (.tuple #[.string t, .string r, .bool true]) ∧ ∃ m, w' = w.drewN m := by
  have HN := hid h
  have HV := hid hv
  obtain ⟨s, HS⟩ : ∃ s, Hid (s = t ++ one1 c ++ r) := ⟨_, hid rfl⟩
  rw [← HS.out] at hs ⊢
  have hsz : s.size = t.size + 1 + r.size := by rw [HS.out]; exact size_app3 t r c
  have HB : Hid (∀ k (hk : k < t.size) (h : k < s.size), (s[k].toNat : Int) = (t[k].toNat : Int)) := by
    show ∀ k (hk : k < t.size) (h : k < s.size), _
    rw [HS.out]
    intro k hk h
    rw [byte_left hk h]
  have HM : Hid (∀ (h : t.size < s.size), (s[t.size].toNat : Int) = (v : Int)) := by
    show ∀ (h : t.size < s.size), _
    rw [HS.out]
    intro h
    rw [byte_mid h, HV.out]
  obtain ⟨a, ha, HA⟩ : ∃ a, s.extract 0 t.size = a ∧ Hid (a = t) := ⟨_, rfl, by show _ = _; rw [HS.out]; exact ext_head t r c⟩
  obtain ⟨b, hb, HBB⟩ : ∃ b, s.extract (t.size + 1) s.size = b ∧ Hid (b = r) := ⟨_, rfl, by show _ = _; rw [HS.out]; exact ext_tail t r c⟩
  have hvb : v < 256 := by rw [← hv]; exact UInt8.toNat_lt c
  have hsz1 : t.size + 1 ≤ s.size := by omega
  clear h hv hsz
  go_enter Tryd.func34, Tryd.ntmps34
  go_wp2_with fail
  go_loop [7] (fun i => ∃ k : Nat, k ≤ t.size ∧ i = .int .i64 k) (fun i => t.size - (intOf i).toNat)
  case atStart => exact ⟨0, Nat.zero_le _, rfl⟩
  case round =>
    obtain ⟨k, hk, rfl⟩ := hrel
    have i1 : (k : Int) < (s.size : Int) := by omega
    have i0 : (0 : Int) ≤ (k : Int) := by omega
    by_cases hlt : k < t.size
    · have hks : k < s.size := by omega
      have hne : ¬ (s[k].toNat : Int) = (v : Int) := by rw [HB.out k hlt hks]; have := byte_not HN.out hlt; have := HV.out; omega
      have hne2 : ((s[k].toNat : Int) == (v : Int)) = false := by simpa using hne
      clear hne
      go_wp2_with fail
      go_round
      case rel => exact ⟨k + 1, by omega, by go_num⟩
      case measure => simp [intOf]; omega
    · obtain rfl : k = t.size := by omega
      have hks : t.size < s.size := by omega
      have heq := HM.out hks
      have t1 : ((t.size : Int) + 1).toNat = t.size + 1 := by omega
      have v1 : IntKind.i64.wrap ((t.size : Int) + 1) = (t.size : Int) + 1 := IntWalk.i64_in _ (by omega)
      have j1 : (t.size : Int) ≤ (s.size : Int) := by omega
      have j2 : (0 : Int) ≤ (t.size : Int) + 1 := by omega
      have j3 : (t.size : Int) + 1 ≤ (s.size : Int) := by omega
      go_wp2_with fail
      go_quiet (fail)
      go_wp2_with fail
      go_ret3
      exact ⟨by rw [HA.out, HBB.out]; rfl, _, rfl⟩
end Go.Proofs.YthjphnopcgdgdaaDoor
