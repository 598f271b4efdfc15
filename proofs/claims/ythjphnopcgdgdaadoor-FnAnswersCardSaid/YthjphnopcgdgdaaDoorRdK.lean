/- The words of a text, of the other side: parted at every blank. -/
import Derived.Test.YthjphnopcgdgdaaDoorRdJ
import Derived.Test.YthjphnopcgdgdaaDoorTxW
namespace Go.Proofs.YthjphnopcgdgdaaDoor
open Go.RowKit Go.Deep

/-- All the pieces. -/
def allW (c : UInt8) (s : ByteArray) : List ByteArray := Lib.splitB (one1 c) 0 s.size s
theorem split_fuel {c : UInt8} : ∀ (k : Nat) (s : ByteArray), s.size ≤ k → Lib.splitB (one1 c) 0 k s = allW c s := by
  intro k
  induction k using Nat.strongRecOn with
  | ind k ih =>
    intro s hs
    unfold allW
    rcases part_or c s with h | ⟨t, r, rfl, h⟩
    · rw [split_no _ h, split_no _ h]
    · have e := size_app3 t r c
      obtain ⟨j, rfl⟩ : ∃ j, k = j + 1 := ⟨k - 1, by omega⟩
      obtain ⟨q, hq⟩ : ∃ q, (t ++ one1 c ++ r).size = q + 1 := ⟨t.size + r.size, by omega⟩
      rw [hq, split_at _ h, split_at _ h, ih j (by omega) r (by omega)]
      rcases Nat.lt_or_ge q (j + 1) with hlt | hge
      · rw [ih q hlt r (by omega)]
      · have : q = j := by omega
        rw [this, ih j (by omega) r (by omega)]
theorem allW_no {c : UInt8} {s : ByteArray} (h : NoC c s) : allW c s = [s] := split_no _ h
theorem allW_at {c : UInt8} {t r : ByteArray} (h : NoC c t) : allW c (t ++ one1 c ++ r) = t :: allW c r := by
  have e := size_app3 t r c
  unfold allW
  obtain ⟨q, hq⟩ : ∃ q, (t ++ one1 c ++ r).size = q + 1 := ⟨t.size + r.size, by omega⟩
  rw [hq, split_at _ h]
  exact congrArg (t :: ·) (split_fuel q r (by omega))
theorem allW_len (c : UInt8) (s : ByteArray) : (allW c s).length ≤ s.size + 1 := Lib.splitB_length_le (one1 c) 0 s.size s
theorem cut_words (s : ByteArray) (hs : s.size ≤ 4194304) : ∃ t r m, (m = true → r.size < s.size) ∧ r.size ≤ s.size ∧ ((m = true ∧ allW 32 s = t :: allW 32 r) ∨ (m = false ∧ allW 32 s = [t])) ∧
    ∀ w, Calls Tryd.prog 34 #[.string s, .int .u8 32] w fun e w' => e = .returned (.tuple #[.string t, .string r, .bool m]) ∧ ∃ j, w' = w.drewN j := by
  rcases part_or 32 s with h | ⟨t, r, rfl, h⟩
  · exact ⟨s, ⟨#[]⟩, false, by simp, Nat.zero_le _, .inr ⟨rfl, allW_no h⟩, fun w => cut_miss s 32 32 w rfl h hs⟩
  · have e := size_app3 t r 32
    exact ⟨t, r, true, fun _ => by rw [e]; omega, by rw [e]; omega, .inl ⟨rfl, allW_at h⟩, fun w => cut_hit t r 32 32 w rfl h hs⟩

end Go.Proofs.YthjphnopcgdgdaaDoor
