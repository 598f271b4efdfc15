/- The words of a text, of the other side: parted at every blank. -/
import Derived.Test.YtkkkpijdbfijfaaGreatDoorRdJ
import Derived.Test.YtkkkpijdbfijfaaGreatDoorTxW
namespace Go.Proofs.YtkkkpijdbfijfaaGreatDoor
open Go.RowKit Go.Deep

/-- All the pieces. -/
def allW (c : UInt8) (s : ByteArray) : List ByteArray := Lib.splitB (one1 c) 0 s.size s
theorem split_fuel {c : UInt8} : ∀ (k : Nat) (s : ByteArray), s.size ≤ k → Lib.splitB (one1 c) 0 k s = allW c s := by
  intro k
  induction k using Nat.strongRecOn with
  | ind k ih =>
    intro s hs
    unfold allW
    rcases part_or c s with h | ⟨t, r, rfl, h⟩
    · rw [split_no _ h, split_no _ h]
    · have e := size_app3 t r c
      obtain ⟨j, rfl⟩ : ∃ j, k = j + 1 := ⟨k - 1, by omega⟩
      obtain ⟨q, hq⟩ : ∃ q, (t ++ one1 c ++ r).size = q + 1 := ⟨t.size + r.size, by omega⟩
      rw [hq, split_at _ h, split_at _ h, ih j (by omega) r (by omega)]
      rcases Nat.lt_or_ge q (j + 1) with hlt | hge
      · rw [ih q hlt r (by omega)]
      · have : q = j := by omega
        rw [this, ih j (by omega) r (by omega)]
theorem allW_no {c : UInt8} {s : ByteArray} (h : NoC c s) : allW c s = [s] := split_no _ h
theorem allW_at {c : UInt8} {t r : ByteArray} (h : NoC c t) : allW c (t ++ one1 c ++ r) = t :: allW c r := by
  have e := size_app3 t r c
  unfold allW
  obtain ⟨q, hq⟩ : ∃ q, (t ++ one1 c ++ r).size = q + 1 := ⟨t.size + r.size, by omega⟩
  rw [hq, split_at _ h]
  exact congrArg (t :: ·) (split_fuel q r (by omega))
theorem allW_len (c : UInt8) (s : ByteArray) : (allW c s).length ≤ s.size + 1 := Lib.splitB_length_le (one1 c) 0 s.size s
theorem cut_words (s : ByteArray) (hs : s.size ≤ 4194304) : ∃ t r m, (m = true → r.size < s.size) ∧ r.size ≤ s.size ∧ ((m = true ∧ allW 32 s = t :: allW 32 r) ∨ (m = false ∧ allW 32 s = [t])) ∧
    ∀ w, Calls Tryz.prog 55 #[.string s, .int .u8 32] w fun e w' => e = .returned (.tuple #[.string t, .string r, .bool m]) ∧ ∃ j, w' = w.drewN j := by
  rcases part_or 32 s with h | ⟨t, r, rfl, h⟩
  · exact ⟨s, ⟨#[]⟩, false, by simp, Nat.zero_le _, .inr ⟨rfl, allW_no h⟩, fun w => cut_miss s 32 32 w rfl h hs⟩
  · have e := size_app3 t r 32
    exact ⟨t, r, true, fun _ => by rw [e]; omega, by rw [e]; omega, .inl ⟨rfl, allW_at h⟩, fun w => cut_hit t r 32 32 w rfl h hs⟩

set_option maxRecDepth 100000 in
set_option maxHeartbeats 2000000 in
theorem split_any (s : ByteArray) (w : World) (hs : s.size ≤ 4194304) :
    Calls Tryz.prog 30 #[.string s] w fun e w' =>
      ∃ A c, e = .returned (.slice A (allW 32 s).length c) ∧ w'.ownsRow w.heap.size 9 1 (.slice A (allW 32 s).length c) (allW 32 s).length (strT (allW 32 s)) ∧ Below w.heap.size w w' := by
  obtain ⟨i0, hi0, hz0, hz1, hz2⟩ := info_strT_parts
  obtain ⟨P, HP⟩ : ∃ P, Hid (allW 32 s = P) := ⟨_, hid rfl⟩
  have hPl : P.length ≤ 4194305 := by rw [← HP.out]; have := allW_len 32 s; omega
  rw [HP.out]
  go_enter Tryz.func30, Tryz.ntmps30
  go_wp2_with fail
  go_loopw [0, 3, 4] (fun r o m wr => ∃ (L : List ByteArray) (A : Option Addr) (c : Nat) (t : ByteArray) (b : Bool), o = .slice A L.length c ∧ r = .string t ∧ m = .bool b ∧ t.size ≤ 4194304 ∧ L.length ≤ 4194305 ∧ Hid (wr.ownsRow w.heap.size 9 1 (.slice A L.length c) L.length (strT L)) ∧ Hid (Below w.heap.size w wr) ∧ Hid ((b = true ∧ P = L ++ allW 32 t) ∨ (b = false ∧ P = L)))
    (fun r _ m _ => msrT r m)
  case atStart => exact ⟨[], _, _, _, _, rfl, rfl, rfl, hs, by simp, World.ownsRow_made w #[] 0 (Nat.le_refl _) (by unfold maxLen; omega) rfl, (Below.refl _ _).alloc (Nat.le_refl _) _, .inl ⟨rfl, HP.out.symm⟩⟩
  case round =>
    obtain ⟨L, A, c, t, b, rfl, rfl, rfl, hts, hLl, hown, hbl, hst⟩ := hrel
    cases b
    · have hPL : P = L := by
        rcases hst.out with ⟨hb, _⟩ | ⟨_, h⟩
        · cases hb
        · exact h
      subst hPL
      go_wp2_with fail
      go_ret
      exact ⟨A, c, rfl, hown.out, hbl.out⟩
    · have hPL : P = L ++ allW 32 t := by
        rcases hst.out with ⟨_, h⟩ | ⟨hb, _⟩
        · exact h
        · cases hb
      obtain ⟨hd, r, m, hlt, hrt, hcs, hcut⟩ := cut_words t hts
      have HCUT := hid hcut
      have HMS := hid (msr_less hlt)
      have hsz2 : w.heap.size ≤ wr.heap.size := hbl.out.size
      have hL1 : L.length + 1 ≤ 4194305 := by
        have h1 := congrArg List.length hPL
        rw [List.length_append] at h1
        have h2 : 0 < (allW 32 t).length := by rcases hcs with ⟨_, h⟩ | ⟨_, h⟩ <;> rw [h] <;> simp
        omega
      have HNX : Hid ((m = true ∧ P = (L ++ [hd]) ++ allW 32 r) ∨ (m = false ∧ P = L ++ [hd])) := by
        show _ ∨ _
        rcases hcs with ⟨h1, h2⟩ | ⟨h1, h2⟩
        · exact .inl ⟨h1, by rw [hPL, h2]; simp⟩
        · exact .inr ⟨h1, by rw [hPL, h2]⟩
      have hr4 : r.size ≤ 4194304 := by omega
      clear hcut hPL hcs hlt hrt hst
      go_wp2_with fail
      refine (HCUT.out _).mono ?_
      rintro e' w2 ⟨rfl, j, rfl⟩
      have hbl2 := below_drewN hbl.out j
      have hown2 : (wr.drewN j).ownsRow w.heap.size 9 1 (.slice A L.length c) L.length (strT L) := own_belowT hown.out (below_drewN (Below.refl _ _) j)
      go_wp2_with (at_builtin; refine wpList_append_own _ rfl (.tmp 14) (.tmp 16) 40 rfl w.heap.size 9 i0 (.string ByteArray.empty) 1 16 Tryz.underlying40 hi0 hz0 hz1 hz2 rfl (by decide) _ L.length _ rfl (hown2.alloc _) ⟨wr.heap.size, 0, none⟩ 1 1 [.string hd] rfl rfl (cell_one_newT (wr.drewN j) _ _) (by intro u hu; simp at hu; subst hu; rfl) (by unfold maxLen; omega) (by omega) (by simp; omega) ?_)
      intro v' w6 hown6 hg6 _
      have hbl6 : Below w.heap.size w w6 := (hbl2.alloc hbl2.size _).grown hg6 (by simp; omega) (fun x hx => (hown2.lt x hx).1)
      obtain ⟨A6, c6, rfl⟩ := own_formT hown6
      have hL : (L ++ [hd]).length = L.length + 1 := by simp
      have HO6 : Hid (w6.ownsRow w.heap.size 9 1 (.slice A6 (L ++ [hd]).length c6) (L ++ [hd]).length (strT (L ++ [hd]))) := by
        show World.ownsRow _ _ _ _ _ _ _
        rw [hL, strT_snoc]
        exact hown6
      have HL := hid hL
      clear hg6 hown2 hown6 hbl2 hL
      go_wp2_with fail
      go_roundw
      case rel => exact ⟨L ++ [hd], A6, c6, r, m, by rw [HL.out], rfl, rfl, hr4, by rw [HL.out]; exact hL1, HO6, hbl6, HNX.out⟩
      case measure => exact HMS.out
end Go.Proofs.YtkkkpijdbfijfaaGreatDoor
