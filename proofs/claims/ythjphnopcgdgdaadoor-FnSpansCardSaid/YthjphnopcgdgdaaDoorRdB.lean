/- The other side's cut of a text, and its numeral. -/
import Derived.Test.YthjphnopcgdgdaaDoorRdA
import Derived.BigQuiet
import Derived.Deep.QuietTactic
import Derived.OwnWalk
namespace Go.Proofs.YthjphnopcgdgdaaDoor
open Go.RowKit Go.Deep

theorem byte_left {t r : ByteArray} {c : UInt8} {k : Nat} (hk : k < t.size) (h : k < (t ++ one1 c ++ r).size) : (t ++ one1 c ++ r)[k] = t[k] := by
  have h1 := byte_at (t ++ one1 c ++ r) h
  have h2 := byte_at t hk
  rw [data_app, data_app, List.append_assoc, List.getElem?_append_left (by rw [size_len]; exact hk), h2] at h1
  exact (Option.some.inj h1).symm
theorem byte_mid {t r : ByteArray} {c : UInt8} (h : t.size < (t ++ one1 c ++ r).size) : (t ++ one1 c ++ r)[t.size] = c := by
  have h1 := byte_at (t ++ one1 c ++ r) h
  rw [data_app, data_app, List.append_assoc, List.getElem?_append_right (by rw [size_len]; exact Nat.le_refl _), size_len, Nat.sub_self] at h1
  exact (Option.some.inj h1).symm
theorem byte_not {t : ByteArray} {c : UInt8} {k : Nat} (h : NoC c t) (hk : k < t.size) : t[k].toNat ≠ c.toNat := by
  intro e
  have h2 := byte_at t hk
  rw [UInt8.toNat_inj.1 e] at h2
  exact h (List.mem_of_getElem? h2)
theorem size_app3 (t r : ByteArray) (c : UInt8) : (t ++ one1 c ++ r).size = t.size + 1 + r.size := by
  rw [ByteArray.size_append, ByteArray.size_append]; rfl

set_option maxRecDepth 100000 in
set_option maxHeartbeats 2000000 in
theorem cut_miss (s : ByteArray) (c : UInt8) (v : Nat) (w : World) (hv : c.toNat = v) (h : NoC c s) (hs : s.size ≤ 4194304) :
    Calls Tryd.prog 34 #[.string s, .int .u8 (v : Int)] w fun e w' => e = .returned (.tuple #[.string s, .string ⟨#[]⟩, .bool false]) ∧ ∃ m, w' = w.drewN m := by
  have HN := hid h
  have HV := hid hv
  clear h hv
  go_enter Tryd.func34, Tryd.ntmps34
  go_wp2_with fail
  go_loop [7] (fun i => ∃ k : Nat, k ≤ s.size ∧ i = .int .i64 k) (fun i => s.size - (intOf i).toNat)
  case atStart => exact ⟨0, Nat.zero_le _, rfl⟩
  case round =>
    obtain ⟨k, hk, rfl⟩ := hrel
    by_cases hlt : k < s.size
    · have i1 : (k : Int) < (s.size : Int) := by omega
      have i0 : (0 : Int) ≤ (k : Int) := by omega
      have hne : ¬ (s[k].toNat : Int) = (v : Int) := by have := byte_not HN.out hlt; have := HV.out; omega
      have hne2 : ((s[k].toNat : Int) == (v : Int)) = false := by simpa using hne
      clear hne
      go_wp2_with fail
      go_round
      case rel => exact ⟨k + 1, by omega, by go_num⟩
      case measure => simp [intOf]; omega
    · have e : k = s.size := by omega
      subst e
      go_wp2_with fail
      go_ret3
      exact ⟨rfl, 0, rfl⟩

end Go.Proofs.YthjphnopcgdgdaaDoor
