/- Words of texts: parts, numbers, on the other side. -/
import Derived.Test.YthdljfidcoblfaaTxT
import Derived.Lib.SplitLaws
import Derived.Lib.ParseIntBCases
import Derived.Lib.IndexBytes
import Derived.BigQuiet
import Derived.Deep.QuietTactic
import Derived.OwnWalk
namespace Go.Proofs.Ythdljfidcoblfaa

/-! ### RdA -/
section
set_option linter.unusedVariables false
set_option linter.unusedSimpArgs false
open Go.RowKit Go.Deep

/-- Byte c stands nowhere in s. -/
def NoC (c : UInt8) (s : ByteArray) : Prop := c ∉ s.data.toList
def one1 (c : UInt8) : ByteArray := ⟨#[c]⟩
theorem ba_ext {a b : ByteArray} (h : a.data.toList = b.data.toList) : a = b := ByteArray.ext (Array.toList_inj.1 h)
theorem data_app (a b : ByteArray) : (a ++ b).data.toList = a.data.toList ++ b.data.toList := by rw [ByteArray.data_append, Array.toList_append]
theorem size_len (a : ByteArray) : a.data.toList.length = a.size := Array.length_toList
theorem byte_at (a : ByteArray) {i : Nat} (h : i < a.size) : a.data.toList[i]? = some a[i] := by
  rw [List.getElem?_eq_getElem (by rw [size_len]; exact h)]
  rfl
/-- Either c parts s, at its first place, or it stands nowhere. -/
theorem part_or (c : UInt8) (s : ByteArray) : NoC c s ∨ ∃ t r, s = t ++ one1 c ++ r ∧ NoC c t := by
  have key : ∀ l : List UInt8, c ∉ l ∨ ∃ a b, l = a ++ c :: b ∧ c ∉ a := by
    intro l
    induction l with
    | nil => exact .inl (by simp)
    | cons x l ih =>
      by_cases e : x = c
      · subst e; exact .inr ⟨[], l, rfl, by simp⟩
      · rcases ih with h | ⟨a, b, rfl, h⟩
        · refine .inl ?_
          simp only [List.mem_cons, not_or]
          exact ⟨fun h' => e h'.symm, h⟩
        · refine .inr ⟨x :: a, b, rfl, ?_⟩
          simp only [List.mem_cons, not_or]
          exact ⟨fun h' => e h'.symm, h⟩
  rcases key s.data.toList with h | ⟨a, b, h, ha⟩
  · exact .inl h
  · refine .inr ⟨⟨a.toArray⟩, ⟨b.toArray⟩, ?_, ?_⟩
    · apply ba_ext
      rw [data_app, data_app, h]
      simp [one1]
    · simpa [NoC] using ha

theorem indexByte_not : ∀ {l : List UInt8} {c : UInt8}, c ∉ l → Lib.indexByte l c = -1
  | [], _, _ => rfl
  | x :: l, c, h => by
    simp only [List.mem_cons, not_or] at h
    have e : (x == c) = false := by rw [beq_eq_false_iff_ne]; exact fun e => h.1 e.symm
    rw [Lib.indexByte, e, indexByte_not h.2]
    rfl
theorem indexByte_at : ∀ {a b : List UInt8} {c : UInt8}, c ∉ a → Lib.indexByte (a ++ c :: b) c = (a.length : Nat)
  | [], b, c, _ => by simp [Lib.indexByte]
  | x :: a, b, c, h => by
    simp only [List.mem_cons, not_or] at h
    have e : (x == c) = false := by rw [beq_eq_false_iff_ne]; exact fun e => h.1 e.symm
    have ih := indexByte_at (b := b) h.2
    rw [List.cons_append, Lib.indexByte, e, ih]
    have e2 : (((a.length : Nat) : Int) == -1) = false := by rw [beq_eq_false_iff_ne]; omega
    rw [e2]
    simp
theorem indexB_not {c : UInt8} {s : ByteArray} (h : NoC c s) : Lib.indexB s (one1 c) = -1 := by
  show Lib.index _ _ = _
  rw [show (one1 c).data.toList = [c] from rfl, Lib.index_one]
  exact indexByte_not h
theorem indexB_at {c : UInt8} {t r : ByteArray} (h : NoC c t) : Lib.indexB (t ++ one1 c ++ r) (one1 c) = (t.size : Nat) := by
  show Lib.index _ _ = _
  rw [show (one1 c).data.toList = [c] from rfl, Lib.index_one, data_app, data_app, show (one1 c).data.toList = [c] from rfl, List.append_assoc, List.singleton_append, ← size_len]
  exact indexByte_at h
theorem ext_head (t r : ByteArray) (c : UInt8) : (t ++ one1 c ++ r).extract 0 t.size = t := by
  apply ba_ext
  rw [Lib.extract_data, data_app, data_app]
  simp
theorem ext_tail (t r : ByteArray) (c : UInt8) : (t ++ one1 c ++ r).extract (t.size + 1) (t ++ one1 c ++ r).size = r := by
  apply ba_ext
  rw [Lib.extract_data, ← size_len (t ++ one1 c ++ r), data_app, data_app]
  have e : (t.data.toList ++ (one1 c).data.toList).length = t.size + 1 := by rw [List.length_append, size_len]; rfl
  rw [List.drop_append_of_le_length (by rw [e]; exact Nat.le_refl _), List.drop_of_length_le (by rw [e]; exact Nat.le_refl _), List.nil_append, List.take_of_length_le]
  rw [List.length_append, e, size_len]
  omega
theorem split_no {c : UInt8} {s : ByteArray} (k : Nat) (h : NoC c s) : Lib.splitB (one1 c) 0 k s = [s] := Lib.splitB_miss _ _ _ _ (indexB_not h)
theorem split_at {c : UInt8} {t r : ByteArray} (k : Nat) (h : NoC c t) : Lib.splitB (one1 c) 0 (k + 1) (t ++ one1 c ++ r) = t :: Lib.splitB (one1 c) 0 k r := by
  rw [Lib.splitB_hit _ _ _ _ _ (indexB_at h), Nat.add_zero, ext_head]
  have e : t.size + (one1 c).size = t.size + 1 := rfl
  rw [e, ext_tail]

theorem app_assoc (a b c : ByteArray) : a ++ b ++ c = a ++ (b ++ c) := by
  apply ba_ext
  simp only [data_app, List.append_assoc]
/-- The first of two or more pieces, joined. -/
theorem join_head (f : Nat → ByteArray) (sep : ByteArray) : ∀ n, joinTo f sep (n + 2) = f 0 ++ sep ++ joinTo (fun i => f (i + 1)) sep (n + 1)
  | 0 => by
    show (ByteArray.empty ++ f 0) ++ sep ++ f 1 = f 0 ++ sep ++ (ByteArray.empty ++ f 1)
    rw [ByteArray.empty_append, ByteArray.empty_append]
  | n + 1 => by
    have ih := join_head f sep n
    have e1 : joinTo f sep (n + 3) = joinTo f sep (n + 2) ++ sep ++ f (n + 2) := by show (if 0 < n + 2 then _ else _) ++ _ = _; rw [if_pos (by omega)]
    have e2 : joinTo (fun i => f (i + 1)) sep (n + 2) = joinTo (fun i => f (i + 1)) sep (n + 1) ++ sep ++ f (n + 2) := by show (if 0 < n + 1 then _ else _) ++ _ = _; rw [if_pos (by omega)]
    rw [e1, e2, ih]
    simp only [app_assoc]
theorem join_one (f : Nat → ByteArray) (sep : ByteArray) : joinTo f sep 1 = f 0 := by show ByteArray.empty ++ f 0 = f 0; rw [ByteArray.empty_append]
/-- Splitting what was joined. -/
theorem split_join {c : UInt8} : ∀ (n k : Nat) (f : Nat → ByteArray), (∀ i, i < n + 1 → NoC c (f i)) → n ≤ k → Lib.splitB (one1 c) 0 k (joinTo f (one1 c) (n + 1)) = (List.range (n + 1)).map f
  | 0, k, f, h, _ => by rw [join_one, split_no k (h 0 (by omega))]; rfl
  | n + 1, k, f, h, hk => by
    obtain ⟨k, rfl⟩ : ∃ j, k = j + 1 := ⟨k - 1, by omega⟩
    rw [join_head, split_at k (h 0 (by omega)), split_join n k (fun i => f (i + 1)) (fun i hi => h (i + 1) (by omega)) (by omega)]
    rw [List.range_succ_eq_map (n := n + 1), List.map_cons, List.map_map]
    rfl
/-- Joining what was split. -/
theorem join_split {c : UInt8} : ∀ (k : Nat) (s : ByteArray), joinTo (fun i => (Lib.splitB (one1 c) 0 k s).getD i ByteArray.empty) (one1 c) (Lib.splitB (one1 c) 0 k s).length = s
  | 0, s => by rw [Lib.splitB_zero]; exact join_one _ _
  | k + 1, s => by
    rcases part_or c s with h | ⟨t, r, rfl, h⟩
    · rw [split_no _ h]; exact join_one _ _
    · rw [split_at k h]
      have ih := join_split (c := c) k r
      generalize hL : Lib.splitB (one1 c) 0 k r = L at ih
      cases L with
      | nil =>
        exfalso
        have : (Lib.splitB (one1 c) 0 k r).length = 0 := by rw [hL]; rfl
        cases k with
        | zero => rw [Lib.splitB_zero] at this; simp at this
        | succ k =>
          unfold Lib.splitB at this
          split at this <;> simp at this
      | cons x L =>
        show joinTo _ _ (L.length + 2) = _
        rw [join_head]
        show t ++ one1 c ++ joinTo (fun i => (x :: L).getD i ByteArray.empty) (one1 c) (x :: L).length = _
        rw [ih]

/-! ### numerals -/
theorem dg_byte (u j : Nat) : 48 ≤ (Lib.dg u j).toNat ∧ (Lib.dg u j).toNat ≤ 57 ∧ (Lib.dg u j).toNat = 48 + u / 10 ^ j % 10 := by
  unfold Lib.dg
  have h := Nat.mod_lt (u / 10 ^ j) (show 10 > 0 by omega)
  generalize u / 10 ^ j % 10 = d at h
  have e : (UInt8.ofNat (48 + d)).toNat = 48 + d := by
    rw [UInt8.toNat_ofNat']
    omega
  rw [e]
  omega
theorem dec_byte {u : Nat} {b : UInt8} (h : b ∈ Lib.decDigits u) : 48 ≤ b.toNat ∧ b.toNat ≤ 57 := by
  rw [Lib.decDigits_eq] at h
  obtain ⟨t, _, rfl⟩ := List.mem_map.1 h
  exact ⟨(dg_byte _ _).1, (dg_byte _ _).2.1⟩
theorem itoa_byte {x : Int} {b : UInt8} (h : b ∈ Lib.itoa x) : b.toNat = 45 ∨ (48 ≤ b.toNat ∧ b.toNat ≤ 57) := by
  unfold Lib.itoa at h
  split at h
  · rcases List.mem_cons.1 h with rfl | h
    · exact .inl rfl
    · exact .inr (dec_byte h)
  · exact .inr (dec_byte h)
theorem decS_noC (x : Int) {c : UInt8} (hc : c.toNat < 45 ∨ 57 < c.toNat) : NoC c (decS x) := by
  intro h
  have : c ∈ Lib.itoa x := by simpa [decS] using h
  have := itoa_byte this
  omega
theorem numS_noC (x : Int) {c : UInt8} (hc : c.toNat < 45 ∨ 57 < c.toNat) : NoC c (numS x) := by
  unfold numS
  split
  · intro h
    have : c = 45 := by simpa using h
    subst this
    simp at hc
  · exact decS_noC x hc
theorem decS_ne_dash (x : Int) : decS x ≠ ⟨#[45]⟩ := by
  intro h
  have e : Lib.itoa x = [45] := by
    have := congrArg (fun b : ByteArray => b.data.toList) h
    simpa [decS] using this
  unfold Lib.itoa at e
  have hp := fun u => Lib.nDigits_pos u
  split at e
  · have hl := congrArg List.length e
    rw [List.length_cons, Lib.decDigits_length] at hl
    have := hp x.natAbs
    simp at hl
    omega
  · have hb : (45 : UInt8) ∈ Lib.decDigits x.toNat := by rw [e]; simp
    have := dec_byte hb
    simp at this
end

/-! ### RdB -/
section
set_option linter.unusedVariables false
set_option linter.unusedSimpArgs false
open Go.RowKit Go.Deep

theorem byte_left {t r : ByteArray} {c : UInt8} {k : Nat} (hk : k < t.size) (h : k < (t ++ one1 c ++ r).size) : (t ++ one1 c ++ r)[k] = t[k] := by
  have h1 := byte_at (t ++ one1 c ++ r) h
  have h2 := byte_at t hk
  rw [data_app, data_app, List.append_assoc, List.getElem?_append_left (by rw [size_len]; exact hk), h2] at h1
  exact (Option.some.inj h1).symm
theorem byte_mid {t r : ByteArray} {c : UInt8} (h : t.size < (t ++ one1 c ++ r).size) : (t ++ one1 c ++ r)[t.size] = c := by
  have h1 := byte_at (t ++ one1 c ++ r) h
  rw [data_app, data_app, List.append_assoc, List.getElem?_append_right (by rw [size_len]; exact Nat.le_refl _), size_len, Nat.sub_self] at h1
  exact (Option.some.inj h1).symm
theorem byte_not {t : ByteArray} {c : UInt8} {k : Nat} (h : NoC c t) (hk : k < t.size) : t[k].toNat ≠ c.toNat := by
  intro e
  have h2 := byte_at t hk
  rw [UInt8.toNat_inj.1 e] at h2
  exact h (List.mem_of_getElem? h2)
theorem size_app3 (t r : ByteArray) (c : UInt8) : (t ++ one1 c ++ r).size = t.size + 1 + r.size := by
  rw [ByteArray.size_append, ByteArray.size_append]; rfl

end

/-! ### RdC -/
section
set_option linter.unusedVariables false
set_option linter.unusedSimpArgs false
open Go.RowKit Go.Deep

/-- Below 10^(k+1): at most k + 1 digits. -/
theorem digits_le : ∀ (M k : Nat), M < 10 ^ (k + 1) → Lib.nDigits M ≤ k + 1
  | M, 0, h => by rw [Lib.nDigits_small (by simpa using h)]; omega
  | M, k + 1, h => by
    by_cases hs : M < 10
    · rw [Lib.nDigits_small hs]; omega
    · rw [Lib.nDigits_big hs]
      have := digits_le (M / 10) k (by rw [Nat.pow_succ] at h; omega)
      omega
theorem nDigits_lt {M k : Nat} (h : M < 10 ^ k) (h1 : 1 ≤ M) : Lib.nDigits M ≤ k := by
  cases k with
  | zero => simp at h; omega
  | succ k => exact digits_le M k h
/-- What the first k digits of M spell. -/
def preD (M k : Nat) : Nat := M / 10 ^ (Lib.nDigits M - k)
theorem preD_zero (M : Nat) : preD M 0 = 0 := Nat.div_eq_of_lt (Lib.lt_pow_nDigits M)
theorem preD_all (M : Nat) : preD M (Lib.nDigits M) = M := by unfold preD; rw [Nat.sub_self, Nat.pow_zero, Nat.div_one]
theorem preD_le (M k : Nat) : preD M k ≤ M := Nat.div_le_self _ _
theorem preD_next {M k : Nat} (hk : k < Lib.nDigits M) : preD M (k + 1) = 10 * preD M k + M / 10 ^ (Lib.nDigits M - 1 - k) % 10 := by
  unfold preD
  have e : Lib.nDigits M - k = (Lib.nDigits M - 1 - k) + 1 := by omega
  rw [show Lib.nDigits M - (k + 1) = Lib.nDigits M - 1 - k by omega, e, Nat.pow_succ, ← Nat.div_div_eq_div_mul]
  generalize M / 10 ^ (Lib.nDigits M - 1 - k) = q
  omega
/-- The digits as bytes. -/
def digS (M : Nat) : ByteArray := ⟨(Lib.decDigits M).toArray⟩
theorem digS_size (M : Nat) : (digS M).size = Lib.nDigits M := by show (Lib.decDigits M).toArray.size = _; rw [List.size_toArray, Lib.decDigits_length]
theorem digS_at {M k : Nat} (h : k < (digS M).size) : ((digS M)[k].toNat : Int) = ((48 + M / 10 ^ (Lib.nDigits M - 1 - k) % 10 : Nat) : Int) := by
  have h1 := byte_at (digS M) h
  have hk : k < Lib.nDigits M := by rw [← digS_size]; exact h
  rw [show (digS M).data.toList = Lib.decDigits M from by simp [digS], Lib.decDigits_eq, List.getElem?_map, List.getElem?_range hk] at h1
  rw [← Option.some.inj h1, (dg_byte _ _).2.2]
theorem nDigits_le19 {M : Nat} (h : M ≤ 9223372036854775808) : Lib.nDigits M ≤ 19 := by
  rcases Nat.lt_or_ge (Lib.nDigits M) 20 with h' | h'
  · omega
  · exfalso
    have := Lib.nDigits_le20 M (by omega)
    have e : Lib.nDigits M = 20 := by omega
    have hq : M / 10 ^ 19 < 10 := by omega
    have : Lib.nDigits M ≤ 19 := by
      rcases Nat.lt_or_ge M (10 ^ 19) with h1 | h1
      · rcases Nat.eq_zero_or_pos M with rfl | hp
        · rw [Lib.nDigits_small (by omega)]; omega
        · exact digits_le M 18 h1
      · omega
    omega
theorem first_pos {M : Nat} (h : 1 ≤ M) : M / 10 ^ (Lib.nDigits M - 1) % 10 ≠ 0 := by
  have hp := Lib.nDigits_pos M
  have h1 := preD_next (M := M) (k := 0) (by omega)
  simp only [preD_zero, Nat.sub_zero, Nat.mul_zero, Nat.zero_add] at h1
  rw [← h1]
  intro e
  unfold preD at e
  have h2 : M < 10 ^ (Lib.nDigits M - 1) := by
    rcases Nat.lt_or_ge M (10 ^ (Lib.nDigits M - 1)) with h' | h'
    · exact h'
    · have := Nat.div_pos h' (Nat.pow_pos (by omega))
      omega
  have h3 := nDigits_lt h2 h
  omega

end

/-! ### RdD -/
section
set_option linter.unusedVariables false
set_option linter.unusedSimpArgs false
open Go.RowKit Go.Deep

theorem wrapI (x : Int) : I64 (IntKind.i64.wrap x) := by
  unfold I64
  rw [IntKind.wrap_i64]
  omega
theorem wrapI' (x : Int) : I64 (wrap64 x) := by unfold I64 wrap64; omega
theorem wrapU (x : Int) : 0 ≤ IntKind.u64.wrap x ∧ IntKind.u64.wrap x ≤ 18446744073709551615 := by
  rw [IntKind.wrap_u64]
  omega
def NumAny (w : World) (e : Ending) (w' : World) : Prop := ∃ x b, I64 x ∧ e = .returned (.tuple #[.int .i64 x, .bool b]) ∧ w' = w
theorem numAny0 {w : World} : NumAny w (.returned (.tuple #[.int .i64 0, .bool false])) w := ⟨0, false, by unfold I64; omega, rfl, rfl⟩
theorem u8_sub (b : Nat) (h : 48 ≤ b) (h2 : b ≤ 57) : IntKind.u8.wrap ((b : Int) - 48) = ((b - 48 : Nat) : Int) := by
  rw [IntKind.wrap_u8]; omega

end
end Go.Proofs.Ythdljfidcoblfaa
