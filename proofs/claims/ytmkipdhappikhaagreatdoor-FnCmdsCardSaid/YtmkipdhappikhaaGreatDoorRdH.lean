/- The law of ReadDoc: the walk. -/
import Derived.Test.YtmkipdhappikhaaGreatDoorRdV
import Derived.HandedShaped
import Derived.Stop.LaidErr
import Derived.Shelf.Vars
namespace Go.Proofs.YtmkipdhappikhaaGreatDoor
open Go.RowKit Go.Deep

theorem docS_inj {n m : Nat} {z y : Nat → Int} (hz : docB n z = true) (hy : docB m y = true) (h : docS n z = docS m y) : n = m ∧ ∀ i, i < n → y i = z i := by
  have h1 := words_doc hz
  have h2 := words_doc hy
  rw [h, h2] at h1
  have hl : m = n := by simpa using congrArg List.length h1
  refine ⟨hl.symm, fun i hi => ?_⟩
  have h3 : ((List.range m).map fun i => numS (y i))[i]? = ((List.range n).map fun i => numS (z i))[i]? := by rw [h1]
  rw [List.getElem?_map, List.getElem?_map, List.getElem?_range hi, List.getElem?_range (by omega)] at h3
  exact numS_inj (may_i64 ((docB_true hy).2.2 i (by omega))) (may_i64 ((docB_true hz).2.2 i hi)) (Option.some.inj h3)
theorem row_congr {w : World} {t : TypeId} {b n : Nat} {z y : Nat → Int} (h : Row w t b n z) (e : ∀ i, i < n → z i = y i) : Row w t b n y := by
  obtain ⟨cs, h1, h2, h3⟩ := h
  exact ⟨cs, h1, h2, fun i hi => by rw [h3 i hi, e i hi]⟩
theorem iRead_yes (n : Nat) (z : Nat → Int) (w : World) (hd : docB n z = true) (hE : ErrOk w) (hM : LenOk w) (hp : Hid (Pow w w.heap.size)) :
    Calls Tryz.prog 85 #[.string (docS n z)] w fun e w' =>
      ∃ b c, e = .returned (.tuple #[.slice (some ⟨b, 0, none⟩) n c, .bool true]) ∧ w.heap.size ≤ b ∧ Row w' 2 b n z ∧ Below w.heap.size w w' := by
  refine (iRead_any (docS n z) w (by have := docS_sz hd; omega) hE hM hp).mono ?_
  rintro e w' ⟨⟨m, y, b, c, hy, hs, rfl, hb, hr⟩ | ⟨hno, _⟩, hbl⟩
  · obtain ⟨rfl, he⟩ := docS_inj hd hy hs
    exact ⟨b, c, rfl, hb, row_congr hr he, hbl⟩
  · exact absurd rfl (hno n z hd)
theorem iRead_no (s : ByteArray) (w : World) (hs : s.size ≤ 4194304) (hno : ∀ n z, docB n z = true → s ≠ docS n z) (hE : ErrOk w) (hM : LenOk w) (hp : Hid (Pow w w.heap.size)) :
    Calls Tryz.prog 85 #[.string s] w fun e w' => e = .returned (.tuple #[.slice none 0 0, .bool false]) ∧ Below w.heap.size w w' := by
  refine (iRead_any s w hs hE hM hp).mono ?_
  rintro e w' ⟨⟨m, y, b, c, hy, hs, rfl, hb, hr⟩ | ⟨_, rfl⟩, hbl⟩
  · exact absurd hs (hno m y hy)
  · exact ⟨rfl, hbl⟩

end Go.Proofs.YtmkipdhappikhaaGreatDoor
