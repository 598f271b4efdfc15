/- A node read, of the other side. -/
import Derived.Test.YthjphnopcgdgdaaDoorRdK
import Derived.StillTailTactics
namespace Go.Proofs.YthjphnopcgdgdaaDoor
open Go.RowKit Go.Deep

theorem part_uniq {c : UInt8} {t r t' r' : ByteArray} (h : NoC c t) (h' : NoC c t') (e : t ++ one1 c ++ r = t' ++ one1 c ++ r') : t = t' ∧ r = r' := by
  have h1 := indexB_at (r := r) h
  rw [e, indexB_at h'] at h1
  have hs : t'.size = t.size := by omega
  have e1 := ext_head t r c
  have e2 := ext_tail t r c
  rw [e] at e1 e2
  rw [← hs] at e1 e2
  rw [ext_head] at e1
  rw [ext_tail] at e2
  exact ⟨e1.symm, e2.symm⟩
/-- A numeral or none: some number; at what decS writes, that number. -/
theorem num_gen (s : ByteArray) (w : World) (hs : s.size ≤ 4194304) :
    Calls Tryd.prog 35 #[.string s] w fun e w' => ∃ x b, I64 x ∧ (∀ y, I64 y → s = decS y → x = y) ∧ e = .returned (.tuple #[.int .i64 x, .bool b]) ∧ w' = w := by
  by_cases h : ∃ y, I64 y ∧ s = decS y
  · obtain ⟨y, hy, rfl⟩ := h
    refine (num_dec y w hy).mono ?_
    rintro e w' ⟨rfl, rfl⟩
    exact ⟨y, true, hy, fun y' hy' e => decS_inj hy hy' e, rfl, rfl⟩
  · refine (num_some s w hs).mono ?_
    rintro e w' ⟨x, b, hx, rfl, rfl⟩
    exact ⟨x, b, hx, fun y hy e => absurd ⟨y, hy, e⟩ h, rfl, rfl⟩
theorem cut_gen (c : UInt8) (v : Nat) (hv : c.toNat = v) (s : ByteArray) (hs : s.size ≤ 4194304) : ∃ t r m, t.size ≤ s.size ∧ r.size ≤ s.size ∧ (∀ t' r', NoC c t' → s = t' ++ one1 c ++ r' → t = t' ∧ r = r') ∧
    ∀ w, Calls Tryd.prog 34 #[.string s, .int .u8 (v : Int)] w fun e w' => e = .returned (.tuple #[.string t, .string r, .bool m]) ∧ ∃ j, w' = w.drewN j := by
  rcases part_or c s with h | ⟨t, r, rfl, h⟩
  · refine ⟨s, ⟨#[]⟩, false, Nat.le_refl _, Nat.zero_le _, fun t' r' _ e => ?_, fun w => cut_miss s c v w hv h hs⟩
    exfalso
    apply h
    rw [e, data_app, data_app]
    simp [one1]
  · have e := size_app3 t r c
    exact ⟨t, r, true, by rw [e]; omega, by rw [e]; omega, fun t' r' h' e => part_uniq h h' e, fun w => cut_hit t r c v w hv h hs⟩
def fldN (d : Nd) : Nat → Int
  | 0 => d.feat
  | 1 => d.cut
  | 2 => d.left
  | _ => d.right
theorem ndP_fld (d : Nd) {k : Nat} (hk : k < 4) : ndP d k = decS (fldN d k) := by
  obtain rfl | rfl | rfl | rfl : k = 0 ∨ k = 1 ∨ k = 2 ∨ k = 3 := by omega
  all_goals rfl
theorem fld_i64 {d : Nd} (h : NdIn d) {k : Nat} (hk : k < 4) : I64 (fldN d k) := by
  obtain rfl | rfl | rfl | rfl : k = 0 ∨ k = 1 ∨ k = 2 ∨ k = 3 := by omega
  · exact h.1
  · exact h.2.1
  · exact h.2.2.1
  · exact h.2.2.2.1
def leftP (d : Nd) (k : Nat) : ByteArray := joinTo (fun i => ndP d (k + i)) (one1 58) (5 - k)
theorem leftP_next (d : Nd) {k : Nat} (hk : k < 4) : leftP d k = decS (fldN d k) ++ one1 58 ++ leftP d (k + 1) := by
  unfold leftP
  obtain ⟨j, hj⟩ : ∃ j, 5 - k = j + 2 := ⟨5 - k - 2, by omega⟩
  rw [hj, join_head, show 5 - (k + 1) = j + 1 by omega, ← ndP_fld d hk]
  have : (fun i => ndP d (k + (i + 1))) = fun i => ndP d (k + 1 + i) := by funext i; congr 1; omega
  rw [this]
  rfl
theorem leftP_four (d : Nd) : leftP d 4 = sideS d.miss := by
  unfold leftP
  rw [show 5 - 4 = 1 from rfl, join_one]
  rfl
/-- The node that is meant, if the word is a node's text. -/
def Means (s : ByteArray) (d : Nd) : Prop := ∀ d0, NdIn d0 → GoodN d0 → s = ndS d0 → d = d0
theorem side_l {m : Bool} : (sideS m = ⟨#[108]⟩) ↔ m = true := by
  cases m
  · exact ⟨fun h => absurd (congrArg (fun x : ByteArray => x.data.toList) h) (by decide), fun h => by cases h⟩
  · exact ⟨fun _ => rfl, fun _ => rfl⟩
theorem ndS_empty (d : Nd) : ndS d ≠ ⟨#[]⟩ := by
  intro h
  have h2 := congrArg ByteArray.size h
  unfold ndS at h2
  have e : (⟨#[]⟩ : ByteArray).size = 0 := rfl
  have e1 : (⟨#[108]⟩ : ByteArray).size = 1 := rfl
  have e2 : (⟨#[115]⟩ : ByteArray).size = 1 := rfl
  split at h2
  · rw [ByteArray.size_append, e, e1] at h2; omega
  · rw [ByteArray.size_append, e, e2] at h2; omega
theorem means_empty : Means ⟨#[]⟩ ⟨0, 0, 0, 0, false, 0⟩ := fun d0 _ _ e => absurd e.symm (ndS_empty d0)
theorem means_leaf {s : ByteArray} {x : Int} (hx : ∀ y, I64 y → s = decS y → x = y) : Means (one1 108 ++ s) ⟨0, 0, 0, 0, false, x⟩ := by
  intro d0 hin hg e
  obtain ⟨f, c, l, r, m, v⟩ := d0
  unfold ndS at e
  split at e
  · rename_i h0
    have h1 := (first_byte e).2
    obtain ⟨p1, p2, p3, p4⟩ := hg.1 h0
    have h2 := hx v hin.2.2.2.2 h1
    simp only at p1 p2 p3 p4 h0 h2
    subst p1 p2 p3 p4 h0 h2
    rfl
  · exact absurd (first_byte e).1 (by decide)
end Go.Proofs.YthjphnopcgdgdaaDoor
