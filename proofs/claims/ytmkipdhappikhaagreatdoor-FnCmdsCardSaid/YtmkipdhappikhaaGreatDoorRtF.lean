/- The law of ReadTree: the walk. -/
import Derived.Test.YtmkipdhappikhaaGreatDoorRtX
import Derived.Test.YtmkipdhappikhaaGreatDoorRdI
import Derived.Test.YtmkipdhappikhaaGreatDoorMkN
import Derived.Test.YtmkipdhappikhaaGreatDoorK4
namespace Go.Proofs.YtmkipdhappikhaaGreatDoor
open Go.RowKit Go.Deep

theorem rdn_zero {w : World} {B : Nat} {A : Option Addr} {g : Nat → Nd} : RdN w B A 0 g := fun h => absurd h (by omega)
theorem rowN_congrT {w : World} {t : TypeId} {b n : Nat} {g y : Nat → Nd} (h : RowN w t b n g) (he : ∀ i, i < n → g i = y i) : RowN w t b n y := by
  obtain ⟨cs, hB, hsz, hc⟩ := h
  exact ⟨cs, hB, hsz, fun i hi j hj => by rw [← he i hi]; exact hc i hi j hj⟩
theorem rdn_of {w : World} {t : TypeId} {b n : Nat} {g : Nat → Nd} (h : RowN w t b n g) : RdN w w.heap.size (some ⟨b, 0, none⟩) n g := h.rd h.lt
theorem rowN_grownT {w w' : World} {t : TypeId} {b b' n : Nat} {g : Nat → Nd} (h : RowN w t b n g) (hg : w.grownBy w' (some b')) (hne : b ≠ b') : RowN w' t b n g := by
  obtain ⟨cs, hB, hsz, hc⟩ := h
  exact ⟨cs, hB.grown hg (by intro e; injection e with e; exact hne e), hsz, hc⟩
theorem treS_inj {n m : Nat} {g y : Nat → Nd} (hg : treeB g n 6 = true) (hy : treeB y m 6 = true) (e : treS n g = treS m y) : m = n ∧ ∀ i, i < n → y i = g i := by
  have h1 := allW_tree hg
  rw [e, allW_tree hy] at h1
  have hl : m = n := by have := congrArg List.length h1; simpa using this
  subst hl
  refine ⟨rfl, fun i hi => ?_⟩
  have h2 := congrArg (fun l => l[i]?) h1
  simp only [List.getElem?_map, List.getElem?_range hi] at h2
  exact ndS_inj (tree_in hy i hi) (tree_in hg i hi) (node_good (((treeB_iff y m 6).1 hy).2.2 i hi).1) (node_good (((treeB_iff g m 6).1 hg).2.2 i hi).1) (Option.some.inj h2)
theorem tr_yes {n : Nat} {z : Nat → Nd} {w : World} {e : Ending} {w' : World} (hd : treeB z n 6 = true) (h : TrAns (treS n z) w e w') :
    ∃ b c, e = .returned (.tuple #[.slice (some ⟨b, 0, none⟩) n c, .bool true]) ∧ w.heap.size ≤ b ∧ RowN w' 58 b n z ∧ Below w.heap.size w w' := by
  obtain ⟨⟨m, y, b, c, hy, hs, rfl, hb, hr⟩ | ⟨hno, _⟩, hbl⟩ := h
  · obtain ⟨rfl, he⟩ := treS_inj hd hy hs
    exact ⟨b, c, rfl, hb, rowN_congrT hr he, hbl⟩
  · exact absurd rfl (hno n z hd)
theorem tr_no {s : ByteArray} {w : World} {e : Ending} {w' : World} (hno : ∀ n z, treeB z n 6 = true → s ≠ treS n z) (h : TrAns s w e w') : e = .returned (.tuple #[.slice none 0 0, .bool false]) ∧ Below w.heap.size w w' := by
  obtain ⟨⟨m, y, b, c, hy, hs, rfl, hb, hr⟩ | ⟨_, rfl⟩, hbl⟩ := h
  · exact absurd hs (hno m y hy)
  · exact ⟨rfl, hbl⟩
theorem iT_yes (n : Nat) (z : Nat → Nd) (w : World) (hd : treeB z n 6 = true) (hE : ErrOk w) (hM : LenOk w) (hp : Hid (Pow w w.heap.size)) :
    Calls Tryz.prog 72 #[.string (treS n z)] w fun e w' => ∃ b c, e = .returned (.tuple #[.slice (some ⟨b, 0, none⟩) n c, .bool true]) ∧ w.heap.size ≤ b ∧ RowN w' 58 b n z ∧ Below w.heap.size w w' :=
  (iReadTree_any _ w (by have := treS_600 hd; omega) hE hM hp).mono fun _ _ h => tr_yes hd h
theorem iT_no (s : ByteArray) (w : World) (hs : s.size ≤ 4194304) (hno : ∀ n z, treeB z n 6 = true → s ≠ treS n z) (hE : ErrOk w) (hM : LenOk w) (hp : Hid (Pow w w.heap.size)) :
    Calls Tryz.prog 72 #[.string s] w fun e w' => e = .returned (.tuple #[.slice none 0 0, .bool false]) ∧ Below w.heap.size w w' :=
  (iReadTree_any s w hs hE hM hp).mono fun _ _ h => tr_no hno h

end Go.Proofs.YtmkipdhappikhaaGreatDoor
