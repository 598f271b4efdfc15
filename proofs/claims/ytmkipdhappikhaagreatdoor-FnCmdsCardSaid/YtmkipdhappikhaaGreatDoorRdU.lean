/- Words of texts: parts, numbers, on the other side. -/
import Derived.Test.YtmkipdhappikhaaGreatDoorTxT
import Derived.Lib.SplitLaws
import Derived.Lib.ParseIntBCases
import Derived.Lib.IndexBytes
import Derived.BigQuiet
import Derived.Deep.QuietTactic
import Derived.OwnWalk
namespace Go.Proofs.YtmkipdhappikhaaGreatDoor

/-! ### RdA -/
section
set_option linter.unusedVariables false
set_option linter.unusedSimpArgs false
open Go.RowKit Go.Deep

/-- Byte c stands nowhere in s. -/
def NoC (c : UInt8) (s : ByteArray) : Prop := c ∉ s.data.toList
def one1 (c : UInt8) : ByteArray := ⟨#[c]⟩
theorem ba_ext {a b : ByteArray} (h : a.data.toList = b.data.toList) : a = b := ByteArray.ext (Array.toList_inj.1 h)
theorem data_app (a b : ByteArray) : (a ++ b).data.toList = a.data.toList ++ b.data.toList := by rw [ByteArray.data_append, Array.toList_append]
theorem size_len (a : ByteArray) : a.data.toList.length = a.size := Array.length_toList
theorem byte_at (a : ByteArray) {i : Nat} (h : i < a.size) : a.data.toList[i]? = some a[i] := by
  rw [List.getElem?_eq_getElem (by rw [size_len]; exact h)]
  rfl
/-- Either c parts s, at its first place, or it stands nowhere. -/
theorem part_or (c : UInt8) (s : ByteArray) : NoC c s ∨ ∃ t r, s = t ++ one1 c ++ r ∧ NoC c t := by
  have key : ∀ l : List UInt8, c ∉ l ∨ ∃ a b, l = a ++ c :: b ∧ c ∉ a := by
    intro l
    induction l with
    | nil => exact .inl (by simp)
    | cons x l ih =>
      by_cases e : x = c
      · subst e; exact .inr ⟨[], l, rfl, by simp⟩
      · rcases ih with h | ⟨a, b, rfl, h⟩
        · refine .inl ?_
          simp only [List.mem_cons, not_or]
          exact ⟨fun h' => e h'.symm, h⟩
        · refine .inr ⟨x :: a, b, rfl, ?_⟩
          simp only [List.mem_cons, not_or]
          exact ⟨fun h' => e h'.symm, h⟩
  rcases key s.data.toList with h | ⟨a, b, h, ha⟩
  · exact .inl h
  · refine .inr ⟨⟨a.toArray⟩, ⟨b.toArray⟩, ?_, ?_⟩
    · apply ba_ext
      rw [data_app, data_app, h]
      simp [one1]
    · simpa [NoC] using ha

theorem indexByte_not : ∀ {l : List UInt8} {c : UInt8}, c ∉ l → Lib.indexByte l c = -1
  | [], _, _ => rfl
  | x :: l, c, h => by
    simp only [List.mem_cons, not_or] at h
    have e : (x == c) = false := by rw [beq_eq_false_iff_ne]; exact fun e => h.1 e.symm
    rw [Lib.indexByte, e, indexByte_not h.2]
    rfl
theorem indexByte_at : ∀ {a b : List UInt8} {c : UInt8}, c ∉ a → Lib.indexByte (a ++ c :: b) c = (a.length : Nat)
  | [], b, c, _ => by simp [Lib.indexByte]
  | x :: a, b, c, h => by
    simp only [List.mem_cons, not_or] at h
    have e : (x == c) = false := by rw [beq_eq_false_iff_ne]; exact fun e => h.1 e.symm
    have ih := indexByte_at (b := b) h.2
    rw [List.cons_append, Lib.indexByte, e, ih]
    have e2 : (((a.length : Nat) : Int) == -1) = false := by rw [beq_eq_false_iff_ne]; omega
    rw [e2]
    simp
theorem indexB_not {c : UInt8} {s : ByteArray} (h : NoC c s) : Lib.indexB s (one1 c) = -1 := by
  show Lib.index _ _ = _
  rw [show (one1 c).data.toList = [c] from rfl, Lib.index_one]
  exact indexByte_not h
theorem indexB_at {c : UInt8} {t r : ByteArray} (h : NoC c t) : Lib.indexB (t ++ one1 c ++ r) (one1 c) = (t.size : Nat) := by
  show Lib.index _ _ = _
  rw [show (one1 c).data.toList = [c] from rfl, Lib.index_one, data_app, data_app, show (one1 c).data.toList = [c] from rfl, List.append_assoc, List.singleton_append, ← size_len]
  exact indexByte_at h
theorem ext_head (t r : ByteArray) (c : UInt8) : (t ++ one1 c ++ r).extract 0 t.size = t := by
  apply ba_ext
  rw [Lib.extract_data, data_app, data_app]
  simp
theorem ext_tail (t r : ByteArray) (c : UInt8) : (t ++ one1 c ++ r).extract (t.size + 1) (t ++ one1 c ++ r).size = r := by
  apply ba_ext
  rw [Lib.extract_data, ← size_len (t ++ one1 c ++ r), data_app, data_app]
  have e : (t.data.toList ++ (one1 c).data.toList).length = t.size + 1 := by rw [List.length_append, size_len]; rfl
  rw [List.drop_append_of_le_length (by rw [e]; exact Nat.le_refl _), List.drop_of_length_le (by rw [e]; exact Nat.le_refl _), List.nil_append, List.take_of_length_le]
  rw [List.length_append, e, size_len]
  omega
theorem split_no {c : UInt8} {s : ByteArray} (k : Nat) (h : NoC c s) : Lib.splitB (one1 c) 0 k s = [s] := Lib.splitB_miss _ _ _ _ (indexB_not h)
theorem split_at {c : UInt8} {t r : ByteArray} (k : Nat) (h : NoC c t) : Lib.splitB (one1 c) 0 (k + 1) (t ++ one1 c ++ r) = t :: Lib.splitB (one1 c) 0 k r := by
  rw [Lib.splitB_hit _ _ _ _ _ (indexB_at h), Nat.add_zero, ext_head]
  have e : t.size + (one1 c).size = t.size + 1 := rfl
  rw [e, ext_tail]

theorem app_assoc (a b c : ByteArray) : a ++ b ++ c = a ++ (b ++ c) := by
  apply ba_ext
  simp only [data_app, List.append_assoc]
/-- The first of two or more pieces, joined. -/
theorem join_head (f : Nat → ByteArray) (sep : ByteArray) : ∀ n, joinTo f sep (n + 2) = f 0 ++ sep ++ joinTo (fun i => f (i + 1)) sep (n + 1)
  | 0 => by
    show (ByteArray.empty ++ f 0) ++ sep ++ f 1 = f 0 ++ sep ++ (ByteArray.empty ++ f 1)
    rw [ByteArray.empty_append, ByteArray.empty_append]
  | n + 1 => by
    have ih := join_head f sep n
    have e1 : joinTo f sep (n + 3) = joinTo f sep (n + 2) ++ sep ++ f (n + 2) := by show (if 0 < n + 2 then _ else _) ++ _ = _; rw [if_pos (by omega)]
    have e2 : joinTo (fun i => f (i + 1)) sep (n + 2) = joinTo (fun i => f (i + 1)) sep (n + 1) ++ sep ++ f (n + 2) := by show (if 0 < n + 1 then _ else _) ++ _ = _; rw [if_pos (by omega)]
    rw [e1, e2, ih]
    simp only [app_assoc]
theorem join_one (f : Nat → ByteArray) (sep : ByteArray) : joinTo f sep 1 = f 0 := by show ByteArray.empty ++ f 0 = f 0; rw [ByteArray.empty_append]
/-- Splitting what was joined. -/
theorem split_join {c : UInt8} : ∀ (n k : Nat) (f : Nat → ByteArray), (∀ i, i < n + 1 → NoC c (f i)) → n ≤ k → Lib.splitB (one1 c) 0 k (joinTo f (one1 c) (n + 1)) = (List.range (n + 1)).map f
  | 0, k, f, h, _ => by rw [join_one, split_no k (h 0 (by omega))]; rfl
  | n + 1, k, f, h, hk => by
    obtain ⟨k, rfl⟩ : ∃ j, k = j + 1 := ⟨k - 1, by omega⟩
    rw [join_head, split_at k (h 0 (by omega)), split_join n k (fun i => f (i + 1)) (fun i hi => h (i + 1) (by omega)) (by omega)]
    rw [List.range_succ_eq_map (n := n + 1), List.map_cons, List.map_map]
    rfl
/-- Joining what was split. -/
theorem join_split {c : UInt8} : ∀ (k : Nat) (s : ByteArray), joinTo (fun i => (Lib.splitB (one1 c) 0 k s).getD i ByteArray.empty) (one1 c) (Lib.splitB (one1 c) 0 k s).length = s
  | 0, s => by rw [Lib.splitB_zero]; exact join_one _ _
  | k + 1, s => by
    rcases part_or c s with h | ⟨t, r, rfl, h⟩
    · rw [split_no _ h]; exact join_one _ _
    · rw [split_at k h]
      have ih := join_split (c := c) k r
      generalize hL : Lib.splitB (one1 c) 0 k r = L at ih
      cases L with
      | nil =>
        exfalso
        have : (Lib.splitB (one1 c) 0 k r).length = 0 := by rw [hL]; rfl
        cases k with
        | zero => rw [Lib.splitB_zero] at this; simp at this
        | succ k =>
          unfold Lib.splitB at this
          split at this <;> simp at this
      | cons x L =>
        show joinTo _ _ (L.length + 2) = _
        rw [join_head]
        show t ++ one1 c ++ joinTo (fun i => (x :: L).getD i ByteArray.empty) (one1 c) (x :: L).length = _
        rw [ih]

/-! ### numerals -/
theorem dg_byte (u j : Nat) : 48 ≤ (Lib.dg u j).toNat ∧ (Lib.dg u j).toNat ≤ 57 ∧ (Lib.dg u j).toNat = 48 + u / 10 ^ j % 10 := by
  unfold Lib.dg
  have h := Nat.mod_lt (u / 10 ^ j) (show 10 > 0 by omega)
  generalize u / 10 ^ j % 10 = d at h
  have e : (UInt8.ofNat (48 + d)).toNat = 48 + d := by
    rw [UInt8.toNat_ofNat']
    omega
  rw [e]
  omega
theorem dec_byte {u : Nat} {b : UInt8} (h : b ∈ Lib.decDigits u) : 48 ≤ b.toNat ∧ b.toNat ≤ 57 := by
  rw [Lib.decDigits_eq] at h
  obtain ⟨t, _, rfl⟩ := List.mem_map.1 h
  exact ⟨(dg_byte _ _).1, (dg_byte _ _).2.1⟩
theorem itoa_byte {x : Int} {b : UInt8} (h : b ∈ Lib.itoa x) : b.toNat = 45 ∨ (48 ≤ b.toNat ∧ b.toNat ≤ 57) := by
  unfold Lib.itoa at h
  split at h
  · rcases List.mem_cons.1 h with rfl | h
    · exact .inl rfl
    · exact .inr (dec_byte h)
  · exact .inr (dec_byte h)
theorem decS_noC (x : Int) {c : UInt8} (hc : c.toNat < 45 ∨ 57 < c.toNat) : NoC c (decS x) := by
  intro h
  have : c ∈ Lib.itoa x := by simpa [decS] using h
  have := itoa_byte this
  omega
theorem numS_noC (x : Int) {c : UInt8} (hc : c.toNat < 45 ∨ 57 < c.toNat) : NoC c (numS x) := by
  unfold numS
  split
  · intro h
    have : c = 45 := by simpa using h
    subst this
    simp at hc
  · exact decS_noC x hc
theorem decS_ne_dash (x : Int) : decS x ≠ ⟨#[45]⟩ := by
  intro h
  have e : Lib.itoa x = [45] := by
    have := congrArg (fun b : ByteArray => b.data.toList) h
    simpa [decS] using this
  unfold Lib.itoa at e
  have hp := fun u => Lib.nDigits_pos u
  split at e
  · have hl := congrArg List.length e
    rw [List.length_cons, Lib.decDigits_length] at hl
    have := hp x.natAbs
    simp at hl
    omega
  · have hb : (45 : UInt8) ∈ Lib.decDigits x.toNat := by rw [e]; simp
    have := dec_byte hb
    simp at this
end

/-! ### RdB -/
section
set_option linter.unusedVariables false
set_option linter.unusedSimpArgs false
open Go.RowKit Go.Deep

theorem byte_left {t r : ByteArray} {c : UInt8} {k : Nat} (hk : k < t.size) (h : k < (t ++ one1 c ++ r).size) : (t ++ one1 c ++ r)[k] = t[k] := by
  have h1 := byte_at (t ++ one1 c ++ r) h
  have h2 := byte_at t hk
  rw [data_app, data_app, List.append_assoc, List.getElem?_append_left (by rw [size_len]; exact hk), h2] at h1
  exact (Option.some.inj h1).symm
theorem byte_mid {t r : ByteArray} {c : UInt8} (h : t.size < (t ++ one1 c ++ r).size) : (t ++ one1 c ++ r)[t.size] = c := by
  have h1 := byte_at (t ++ one1 c ++ r) h
  rw [data_app, data_app, List.append_assoc, List.getElem?_append_right (by rw [size_len]; exact Nat.le_refl _), size_len, Nat.sub_self] at h1
  exact (Option.some.inj h1).symm
theorem byte_not {t : ByteArray} {c : UInt8} {k : Nat} (h : NoC c t) (hk : k < t.size) : t[k].toNat ≠ c.toNat := by
  intro e
  have h2 := byte_at t hk
  rw [UInt8.toNat_inj.1 e] at h2
  exact h (List.mem_of_getElem? h2)
theorem size_app3 (t r : ByteArray) (c : UInt8) : (t ++ one1 c ++ r).size = t.size + 1 + r.size := by
  rw [ByteArray.size_append, ByteArray.size_append]; rfl

set_option maxRecDepth 100000 in
set_option maxHeartbeats 2000000 in
theorem cut_miss (s : ByteArray) (c : UInt8) (v : Nat) (w : World) (hv : c.toNat = v) (h : NoC c s) (hs : s.size ≤ 4194304) :
    Calls Tryz.prog 45 #[.string s, .int .u8 (v : Int)] w fun e w' => e = .returned (.tuple #[.string s, .string ⟨#[]⟩, .bool false]) ∧ ∃ m, w' = w.drewN m := by
  have HN := hid h
  have HV := hid hv
  clear h hv
  go_enter Tryz.func45, Tryz.ntmps45
  go_wp2_with fail
  go_loop [7] (fun i => ∃ k : Nat, k ≤ s.size ∧ i = .int .i64 k) (fun i => s.size - (intOf i).toNat)
  case atStart => exact ⟨0, Nat.zero_le _, rfl⟩
  case round =>
    obtain ⟨k, hk, rfl⟩ := hrel
    by_cases hlt : k < s.size
    · have i1 : (k : Int) < (s.size : Int) := by omega
      have i0 : (0 : Int) ≤ (k : Int) := by omega
      have hne : ¬ (s[k].toNat : Int) = (v : Int) := by have := byte_not HN.out hlt; have := HV.out; omega
      have hne2 : ((s[k].toNat : Int) == (v : Int)) = false := by simpa using hne
      clear hne
      go_wp2_with fail
      go_round
      case rel => exact ⟨k + 1, by omega, by go_num⟩
      case measure => simp [intOf]; omega
    · have e : k = s.size := by omega
      subst e
      go_wp2_with fail
      go_ret3
      exact ⟨rfl, 0, rfl⟩

set_option maxRecDepth 100000 in
set_option maxHeartbeats 2000000 in
theorem cut_hit (t r : ByteArray) (c : UInt8) (v : Nat) (w : World) (hv : c.toNat = v) (h : NoC c t) (hs : (t ++ one1 c ++ r).size ≤ 4194304) :
    Calls Tryz.prog 45 #[.string (t ++ one1 c ++ r), .int .u8 (v : Int)] w fun e w' => e = .returned (.tuple #[.string t, .string r, .bool true]) ∧ ∃ m, w' = w.drewN m := by
  have HN := hid h
  have HV := hid hv
  obtain ⟨s, HS⟩ : ∃ s, Hid (s = t ++ one1 c ++ r) := ⟨_, hid rfl⟩
  rw [← HS.out] at hs ⊢
  have hsz : s.size = t.size + 1 + r.size := by rw [HS.out]; exact size_app3 t r c
  have HB : Hid (∀ k (hk : k < t.size) (h : k < s.size), (s[k].toNat : Int) = (t[k].toNat : Int)) := by
    show ∀ k (hk : k < t.size) (h : k < s.size), _
    rw [HS.out]
    intro k hk h
    rw [byte_left hk h]
  have HM : Hid (∀ (h : t.size < s.size), (s[t.size].toNat : Int) = (v : Int)) := by
    show ∀ (h : t.size < s.size), _
    rw [HS.out]
    intro h
    rw [byte_mid h, HV.out]
  obtain ⟨a, ha, HA⟩ : ∃ a, s.extract 0 t.size = a ∧ Hid (a = t) := ⟨_, rfl, by show _ = _; rw [HS.out]; exact ext_head t r c⟩
  obtain ⟨b, hb, HBB⟩ : ∃ b, s.extract (t.size + 1) s.size = b ∧ Hid (b = r) := ⟨_, rfl, by show _ = _; rw [HS.out]; exact ext_tail t r c⟩
  have hvb : v < 256 := by rw [← hv]; exact UInt8.toNat_lt c
  have hsz1 : t.size + 1 ≤ s.size := by omega
  clear h hv hsz
  go_enter Tryz.func45, Tryz.ntmps45
  go_wp2_with fail
  go_loop [7] (fun i => ∃ k : Nat, k ≤ t.size ∧ i = .int .i64 k) (fun i => t.size - (intOf i).toNat)
  case atStart => exact ⟨0, Nat.zero_le _, rfl⟩
  case round =>
    obtain ⟨k, hk, rfl⟩ := hrel
    have i1 : (k : Int) < (s.size : Int) := by omega
    have i0 : (0 : Int) ≤ (k : Int) := by omega
    by_cases hlt : k < t.size
    · have hks : k < s.size := by omega
      have hne : ¬ (s[k].toNat : Int) = (v : Int) := by rw [HB.out k hlt hks]; have := byte_not HN.out hlt; have := HV.out; omega
      have hne2 : ((s[k].toNat : Int) == (v : Int)) = false := by simpa using hne
      clear hne
      go_wp2_with fail
      go_round
      case rel => exact ⟨k + 1, by omega, by go_num⟩
      case measure => simp [intOf]; omega
    · obtain rfl : k = t.size := by omega
      have hks : t.size < s.size := by omega
      have heq := HM.out hks
      have t1 : ((t.size : Int) + 1).toNat = t.size + 1 := by omega
      have v1 : IntKind.i64.wrap ((t.size : Int) + 1) = (t.size : Int) + 1 := IntWalk.i64_in _ (by omega)
      have j1 : (t.size : Int) ≤ (s.size : Int) := by omega
      have j2 : (0 : Int) ≤ (t.size : Int) + 1 := by omega
      have j3 : (t.size : Int) + 1 ≤ (s.size : Int) := by omega
      go_wp2_with fail
      go_quiet (fail)
      go_wp2_with fail
      go_ret3
      exact ⟨by rw [HA.out, HBB.out]; rfl, _, rfl⟩
end

/-! ### RdC -/
section
set_option linter.unusedVariables false
set_option linter.unusedSimpArgs false
open Go.RowKit Go.Deep

/-- Below 10^(k+1): at most k + 1 digits. -/
theorem digits_le : ∀ (M k : Nat), M < 10 ^ (k + 1) → Lib.nDigits M ≤ k + 1
  | M, 0, h => by rw [Lib.nDigits_small (by simpa using h)]; omega
  | M, k + 1, h => by
    by_cases hs : M < 10
    · rw [Lib.nDigits_small hs]; omega
    · rw [Lib.nDigits_big hs]
      have := digits_le (M / 10) k (by rw [Nat.pow_succ] at h; omega)
      omega
theorem nDigits_lt {M k : Nat} (h : M < 10 ^ k) (h1 : 1 ≤ M) : Lib.nDigits M ≤ k := by
  cases k with
  | zero => simp at h; omega
  | succ k => exact digits_le M k h
/-- What the first k digits of M spell. -/
def preD (M k : Nat) : Nat := M / 10 ^ (Lib.nDigits M - k)
theorem preD_zero (M : Nat) : preD M 0 = 0 := Nat.div_eq_of_lt (Lib.lt_pow_nDigits M)
theorem preD_all (M : Nat) : preD M (Lib.nDigits M) = M := by unfold preD; rw [Nat.sub_self, Nat.pow_zero, Nat.div_one]
theorem preD_le (M k : Nat) : preD M k ≤ M := Nat.div_le_self _ _
theorem preD_next {M k : Nat} (hk : k < Lib.nDigits M) : preD M (k + 1) = 10 * preD M k + M / 10 ^ (Lib.nDigits M - 1 - k) % 10 := by
  unfold preD
  have e : Lib.nDigits M - k = (Lib.nDigits M - 1 - k) + 1 := by omega
  rw [show Lib.nDigits M - (k + 1) = Lib.nDigits M - 1 - k by omega, e, Nat.pow_succ, ← Nat.div_div_eq_div_mul]
  generalize M / 10 ^ (Lib.nDigits M - 1 - k) = q
  omega
/-- The digits as bytes. -/
def digS (M : Nat) : ByteArray := ⟨(Lib.decDigits M).toArray⟩
theorem digS_size (M : Nat) : (digS M).size = Lib.nDigits M := by show (Lib.decDigits M).toArray.size = _; rw [List.size_toArray, Lib.decDigits_length]
theorem digS_at {M k : Nat} (h : k < (digS M).size) : ((digS M)[k].toNat : Int) = ((48 + M / 10 ^ (Lib.nDigits M - 1 - k) % 10 : Nat) : Int) := by
  have h1 := byte_at (digS M) h
  have hk : k < Lib.nDigits M := by rw [← digS_size]; exact h
  rw [show (digS M).data.toList = Lib.decDigits M from by simp [digS], Lib.decDigits_eq, List.getElem?_map, List.getElem?_range hk] at h1
  rw [← Option.some.inj h1, (dg_byte _ _).2.2]
theorem nDigits_le19 {M : Nat} (h : M ≤ 9223372036854775808) : Lib.nDigits M ≤ 19 := by
  rcases Nat.lt_or_ge (Lib.nDigits M) 20 with h' | h'
  · omega
  · exfalso
    have := Lib.nDigits_le20 M (by omega)
    have e : Lib.nDigits M = 20 := by omega
    have hq : M / 10 ^ 19 < 10 := by omega
    have : Lib.nDigits M ≤ 19 := by
      rcases Nat.lt_or_ge M (10 ^ 19) with h1 | h1
      · rcases Nat.eq_zero_or_pos M with rfl | hp
        · rw [Lib.nDigits_small (by omega)]; omega
        · exact digits_le M 18 h1
      · omega
    omega
theorem first_pos {M : Nat} (h : 1 ≤ M) : M / 10 ^ (Lib.nDigits M - 1) % 10 ≠ 0 := by
  have hp := Lib.nDigits_pos M
  have h1 := preD_next (M := M) (k := 0) (by omega)
  simp only [preD_zero, Nat.sub_zero, Nat.mul_zero, Nat.zero_add] at h1
  rw [← h1]
  intro e
  unfold preD at e
  have h2 : M < 10 ^ (Lib.nDigits M - 1) := by
    rcases Nat.lt_or_ge M (10 ^ (Lib.nDigits M - 1)) with h' | h'
    · exact h'
    · have := Nat.div_pos h' (Nat.pow_pos (by omega))
      omega
  have h3 := nDigits_lt h2 h
  omega

set_option maxRecDepth 100000 in
set_option maxHeartbeats 2000000 in
theorem num_neg (M : Nat) (w : World) (h1 : 1 ≤ M) (h63 : M ≤ 9223372036854775808) :
    Calls Tryz.prog 34 #[.string (⟨#[45]⟩ ++ digS M)] w fun e w' => e = .returned (.tuple #[.int .i64 (-(M : Int)), .bool true]) ∧ w' = w := by
  obtain ⟨t, HT⟩ : ∃ t, Hid (t = digS M) := ⟨_, hid rfl⟩
  obtain ⟨s, HS⟩ : ∃ s, Hid (s = ⟨#[45]⟩ ++ digS M) := ⟨_, hid rfl⟩
  rw [← HS.out]
  obtain ⟨L, HL⟩ : ∃ L, Hid (Lib.nDigits M = L) := ⟨_, hid rfl⟩
  have HTS : Hid (t.size = L) := by show _ = _; rw [HT.out, digS_size, HL.out]
  have hL1 : 1 ≤ L := by rw [← HL.out]; exact Lib.nDigits_pos M
  have hL19 : L ≤ 19 := by rw [← HL.out]; exact nDigits_le19 h63
  have hss : s.size = 1 + L := by rw [HS.out, ByteArray.size_append, digS_size, HL.out]; rfl
  have HDG : Hid (∀ k (h : k < t.size), (t[k].toNat : Int) = ((48 + M / 10 ^ (Lib.nDigits M - 1 - k) % 10 : Nat) : Int)) := by
    show ∀ k (h : k < t.size), _
    rw [HT.out]
    exact fun k h => digS_at h
  have hst : s.extract 1 s.size = t := by
    rw [HS.out, HT.out]
    apply ba_ext
    rw [Lib.extract_data, ← size_len, data_app]
    simp
    exact List.take_of_length_le (by rw [size_len]; exact Nat.le_refl _)
  have hs0 : ∀ h : 0 < s.size, (s[0].toNat : Int) = 45 := by
    rw [HS.out]
    intro h
    have h2 := byte_at _ h
    rw [data_app] at h2
    have : (45 : UInt8) = _ := Option.some.inj h2
    rw [← this]; rfl
  have hsz1 : 1 < s.size := by omega
  have hts1 : 0 < t.size := by have := HTS.out; omega
  have hsp : 0 < s.size := by omega
  have b0 := hs0 hsp
  have hf := HDG.out 0 hts1
  have hfp := first_pos h1
  obtain ⟨d0, hd0, hf0⟩ : ∃ d : Nat, 1 ≤ d ∧ (t[0].toNat : Int) = ((48 + d : Nat) : Int) := ⟨M / 10 ^ (Lib.nDigits M - 1) % 10, by omega, by rw [hf, Nat.sub_zero]⟩
  have j1 : (1 : Int) < (s.size : Int) := by omega
  have j2 : (t.size : Int) < (s.size : Int) := by have := HTS.out; omega
  have j3 : ¬ (t.size : Int) < 1 := by omega
  have j4 : ¬ (19 : Int) < (t.size : Int) := by have := HTS.out; omega
  have j5 : (((48 + d0 : Nat) : Int) == 48) = false := by simp; omega
  have j6 : decide ((t.size : Int) < 1) = false := by simpa using j3
  have j7 : decide ((19 : Int) < (t.size : Int)) = false := by simpa using j4
  have HM := hid h63
  clear hss hs0 hf hfp h1 h63
  go_enter Tryz.func34, Tryz.ntmps34
  go_wp2_with fail
  go_loop [6, 7] (fun n i => ∃ k : Nat, k ≤ L ∧ n = .int .u64 (preD M k : Nat) ∧ i = .int .i64 k) (fun _ i => L - (intOf i).toNat)
  case atStart => exact ⟨0, Nat.zero_le _, by rw [preD_zero]; rfl, rfl⟩
  case round =>
    obtain ⟨k, hk, rfl, rfl⟩ := hrel
    by_cases hlt : k < L
    · have hks : k < t.size := by have := HTS.out; omega
      have i1 : (k : Int) < (t.size : Int) := by omega
      have i0 : (0 : Int) ≤ (k : Int) := by omega
      obtain ⟨d, hd, hdb⟩ : ∃ d : Nat, d ≤ 9 ∧ (t[k].toNat : Int) = ((48 + d : Nat) : Int) := ⟨M / 10 ^ (Lib.nDigits M - 1 - k) % 10, by omega, HDG.out k hks⟩
      obtain ⟨a, ha⟩ : ∃ a, preD M k = a := ⟨_, rfl⟩
      have hnx : preD M (k + 1) = 10 * a + d := by
        have h1 := preD_next (M := M) (k := k) (by rw [HL.out]; exact hlt)
        have h2 := HDG.out k hks
        rw [hdb] at h2
        rw [h1, ha]; omega
      have hle := preD_le M (k + 1)
      rw [hnx] at hle
      have hab : 10 * a + d ≤ 9223372036854775808 := by have := HM.out; omega
      have HNX := hid hnx
      have g1 : decide (((48 + d : Nat) : Int) < 48) = false := by simp; omega
      have g2 : decide ((57 : Int) < ((48 + d : Nat) : Int)) = false := by simp; omega
      rw [ha]
      clear hle hnx ha
      go_wp2_with fail
      go_round
      case rel => exact ⟨k + 1, by omega, by rw [HNX.out]; go_num, by go_num⟩
      case measure => simp [intOf]; omega
    · have e : k = L := by omega
      subst e
      have hall : preD M k = M := by rw [← HL.out]; exact preD_all M
      rw [hall]
      have HALL := hid hall
      have hge : ¬ (k : Int) < (t.size : Int) := by have := HTS.out; omega
      clear hall
      have HM2 := HM.out
      have k1 : ¬ (9223372036854775808 : Int) < (M : Int) := by omega
      have k2 : decide ((9223372036854775808 : Int) < (M : Int)) = false := by simpa using k1
      have hcv : IntKind.i64.wrap (IntKind.u64.wrap (-(M : Int))) = -(M : Int) := by rw [IntKind.wrap_u64, IntKind.wrap_i64]; omega
      go_wp2_with fail
      go_ret2
      exact ⟨by first | rfl | (simp [hcv]; done), rfl⟩

set_option maxRecDepth 100000 in
set_option maxHeartbeats 2000000 in
theorem num_pos (M : Nat) (w : World) (h63 : M ≤ 9223372036854775807) :
    Calls Tryz.prog 34 #[.string (digS M)] w fun e w' => e = .returned (.tuple #[.int .i64 (M : Int), .bool true]) ∧ w' = w := by
  obtain ⟨t, HT⟩ : ∃ t, Hid (t = digS M) := ⟨_, hid rfl⟩
  rw [← HT.out]
  obtain ⟨L, HL⟩ : ∃ L, Hid (Lib.nDigits M = L) := ⟨_, hid rfl⟩
  have HTS : Hid (t.size = L) := by show _ = _; rw [HT.out, digS_size, HL.out]
  have hL1 : 1 ≤ L := by rw [← HL.out]; exact Lib.nDigits_pos M
  have hL19 : L ≤ 19 := by rw [← HL.out]; exact nDigits_le19 (by omega)
  have HDG : Hid (∀ k (h : k < t.size), (t[k].toNat : Int) = ((48 + M / 10 ^ (Lib.nDigits M - 1 - k) % 10 : Nat) : Int)) := by
    show ∀ k (h : k < t.size), _
    rw [HT.out]
    exact fun k h => digS_at h
  have hts1 : 0 < t.size := by have := HTS.out; omega
  have hf := HDG.out 0 hts1
  rw [Nat.sub_zero] at hf
  obtain ⟨d0, hd9, HD0, hf0⟩ : ∃ d : Nat, d ≤ 9 ∧ Hid (M / 10 ^ (Lib.nDigits M - 1) % 10 = d) ∧ (t[0].toNat : Int) = ((48 + d : Nat) : Int) := ⟨_, by omega, hid rfl, hf⟩
  have j0 : (((48 + d0 : Nat) : Int) == 45) = false := by simp; omega
  have j3 : ¬ (t.size : Int) < 1 := by omega
  have j4 : ¬ (19 : Int) < (t.size : Int) := by have := HTS.out; omega
  have j6 : decide ((t.size : Int) < 1) = false := by simpa using j3
  have j7 : decide ((19 : Int) < (t.size : Int)) = false := by simpa using j4
  have HM : Hid (M ≤ 9223372036854775808) := by show _ ≤ _; omega
  have HM7 := hid h63
  by_cases hone : 1 < t.size
  · have j1 : (1 : Int) < (t.size : Int) := by omega
    have hM1 : 1 ≤ M := by
      rcases Nat.eq_zero_or_pos M with e | e
      · exfalso
        have h2 := HTS.out
        rw [← HL.out, e, Lib.nDigits_small (by omega)] at h2
        omega
      · exact e
    have hd0 : 1 ≤ d0 := by have := first_pos hM1; have := HD0.out; omega
    have j5 : (((48 + d0 : Nat) : Int) == 48) = false := by simp; omega
    clear hf h63 hone
    go_enter Tryz.func34, Tryz.ntmps34
    go_wp2_with fail
    go_loop [6, 7] (fun n i => ∃ k : Nat, k ≤ L ∧ n = .int .u64 (preD M k : Nat) ∧ i = .int .i64 k) (fun _ i => L - (intOf i).toNat)
    case atStart => exact ⟨0, Nat.zero_le _, by rw [preD_zero]; rfl, rfl⟩
    case round =>
      obtain ⟨k, hk, rfl, rfl⟩ := hrel
      by_cases hlt : k < L
      · have hks : k < t.size := by have := HTS.out; omega
        have i1 : (k : Int) < (t.size : Int) := by omega
        have i0 : (0 : Int) ≤ (k : Int) := by omega
        obtain ⟨d, hd, hdb⟩ : ∃ d : Nat, d ≤ 9 ∧ (t[k].toNat : Int) = ((48 + d : Nat) : Int) := ⟨M / 10 ^ (Lib.nDigits M - 1 - k) % 10, by omega, HDG.out k hks⟩
        obtain ⟨a, ha⟩ : ∃ a, preD M k = a := ⟨_, rfl⟩
        have hnx : preD M (k + 1) = 10 * a + d := by
          have h1 := preD_next (M := M) (k := k) (by rw [HL.out]; exact hlt)
          have h2 := HDG.out k hks
          rw [hdb] at h2
          rw [h1, ha]; omega
        have hle := preD_le M (k + 1)
        rw [hnx] at hle
        have hab : 10 * a + d ≤ 9223372036854775808 := by have := HM.out; omega
        have HNX := hid hnx
        have g1 : decide (((48 + d : Nat) : Int) < 48) = false := by simp; omega
        have g2 : decide ((57 : Int) < ((48 + d : Nat) : Int)) = false := by simp; omega
        rw [ha]
        clear hle hnx ha
        go_wp2_with fail
        go_round
        case rel => exact ⟨k + 1, by omega, by rw [HNX.out]; go_num, by go_num⟩
        case measure => simp [intOf]; omega
      · have e : k = L := by omega
        subst e
        have hall : preD M k = M := by rw [← HL.out]; exact preD_all M
        rw [hall]
        have HALL := hid hall
        have hge : ¬ (k : Int) < (t.size : Int) := by have := HTS.out; omega
        clear hall
        have HM2 := HM7.out
        have k1 : ¬ (9223372036854775808 : Int) ≤ (M : Int) := by omega
        have k2 : decide ((9223372036854775808 : Int) ≤ (M : Int)) = false := by simpa using k1
        have hcv : IntKind.i64.wrap (M : Int) = (M : Int) := IntWalk.i64_in _ (by omega)
        go_wp2_with fail
        go_ret2
        exact ⟨by first | rfl | (simp [hcv]; done), rfl⟩
  · have j1 : ¬ (1 : Int) < (t.size : Int) := by omega
    have j1' : decide ((1 : Int) < (t.size : Int)) = false := by simpa using j1
    clear hf h63 hone
    rcases Nat.eq_zero_or_pos d0 with hz | hd0
    · have hf1 : (t[0].toNat : Int) = 48 := by rw [hf0, hz]; rfl
      clear hf0 hz j0
      go_enter Tryz.func34, Tryz.ntmps34
      go_wp2_with fail
      go_loop [6, 7] (fun n i => ∃ k : Nat, k ≤ L ∧ n = .int .u64 (preD M k : Nat) ∧ i = .int .i64 k) (fun _ i => L - (intOf i).toNat)
      case atStart => exact ⟨0, Nat.zero_le _, by rw [preD_zero]; rfl, rfl⟩
      case round =>
        obtain ⟨k, hk, rfl, rfl⟩ := hrel
        by_cases hlt : k < L
        · have hks : k < t.size := by have := HTS.out; omega
          have i1 : (k : Int) < (t.size : Int) := by omega
          have i0 : (0 : Int) ≤ (k : Int) := by omega
          obtain ⟨d, hd, hdb⟩ : ∃ d : Nat, d ≤ 9 ∧ (t[k].toNat : Int) = ((48 + d : Nat) : Int) := ⟨M / 10 ^ (Lib.nDigits M - 1 - k) % 10, by omega, HDG.out k hks⟩
          obtain ⟨a, ha⟩ : ∃ a, preD M k = a := ⟨_, rfl⟩
          have hnx : preD M (k + 1) = 10 * a + d := by
            have h1 := preD_next (M := M) (k := k) (by rw [HL.out]; exact hlt)
            have h2 := HDG.out k hks
            rw [hdb] at h2
            rw [h1, ha]; omega
          have hle := preD_le M (k + 1)
          rw [hnx] at hle
          have hab : 10 * a + d ≤ 9223372036854775808 := by have := HM.out; omega
          have HNX := hid hnx
          have g1 : decide (((48 + d : Nat) : Int) < 48) = false := by simp; omega
          have g2 : decide ((57 : Int) < ((48 + d : Nat) : Int)) = false := by simp; omega
          rw [ha]
          clear hle hnx ha
          go_wp2_with fail
          go_round
          case rel => exact ⟨k + 1, by omega, by rw [HNX.out]; go_num, by go_num⟩
          case measure => simp [intOf]; omega
        · have e : k = L := by omega
          subst e
          have hall : preD M k = M := by rw [← HL.out]; exact preD_all M
          rw [hall]
          have HALL := hid hall
          have hge : ¬ (k : Int) < (t.size : Int) := by have := HTS.out; omega
          clear hall
          have HM2 := HM7.out
          have k1 : ¬ (9223372036854775808 : Int) ≤ (M : Int) := by omega
          have k2 : decide ((9223372036854775808 : Int) ≤ (M : Int)) = false := by simpa using k1
          have hcv : IntKind.i64.wrap (M : Int) = (M : Int) := IntWalk.i64_in _ (by omega)
          go_wp2_with fail
          go_ret2
          exact ⟨by first | rfl | (simp [hcv]; done), rfl⟩
    · have j5 : (((48 + d0 : Nat) : Int) == 48) = false := by simp; omega
      go_enter Tryz.func34, Tryz.ntmps34
      go_wp2_with fail
      go_loop [6, 7] (fun n i => ∃ k : Nat, k ≤ L ∧ n = .int .u64 (preD M k : Nat) ∧ i = .int .i64 k) (fun _ i => L - (intOf i).toNat)
      case atStart => exact ⟨0, Nat.zero_le _, by rw [preD_zero]; rfl, rfl⟩
      case round =>
        obtain ⟨k, hk, rfl, rfl⟩ := hrel
        by_cases hlt : k < L
        · have hks : k < t.size := by have := HTS.out; omega
          have i1 : (k : Int) < (t.size : Int) := by omega
          have i0 : (0 : Int) ≤ (k : Int) := by omega
          obtain ⟨d, hd, hdb⟩ : ∃ d : Nat, d ≤ 9 ∧ (t[k].toNat : Int) = ((48 + d : Nat) : Int) := ⟨M / 10 ^ (Lib.nDigits M - 1 - k) % 10, by omega, HDG.out k hks⟩
          obtain ⟨a, ha⟩ : ∃ a, preD M k = a := ⟨_, rfl⟩
          have hnx : preD M (k + 1) = 10 * a + d := by
            have h1 := preD_next (M := M) (k := k) (by rw [HL.out]; exact hlt)
            have h2 := HDG.out k hks
            rw [hdb] at h2
            rw [h1, ha]; omega
          have hle := preD_le M (k + 1)
          rw [hnx] at hle
          have hab : 10 * a + d ≤ 9223372036854775808 := by have := HM.out; omega
          have HNX := hid hnx
          have g1 : decide (((48 + d : Nat) : Int) < 48) = false := by simp; omega
          have g2 : decide ((57 : Int) < ((48 + d : Nat) : Int)) = false := by simp; omega
          rw [ha]
          clear hle hnx ha
          go_wp2_with fail
          go_round
          case rel => exact ⟨k + 1, by omega, by rw [HNX.out]; go_num, by go_num⟩
          case measure => simp [intOf]; omega
        · have e : k = L := by omega
          subst e
          have hall : preD M k = M := by rw [← HL.out]; exact preD_all M
          rw [hall]
          have HALL := hid hall
          have hge : ¬ (k : Int) < (t.size : Int) := by have := HTS.out; omega
          clear hall
          have HM2 := HM7.out
          have k1 : ¬ (9223372036854775808 : Int) ≤ (M : Int) := by omega
          have k2 : decide ((9223372036854775808 : Int) ≤ (M : Int)) = false := by simpa using k1
          have hcv : IntKind.i64.wrap (M : Int) = (M : Int) := IntWalk.i64_in _ (by omega)
          go_wp2_with fail
          go_ret2
          exact ⟨by first | rfl | (simp [hcv]; done), rfl⟩

theorem num_dec (x : Int) (w : World) (h : I64 x) :
    Calls Tryz.prog 34 #[.string (decS x)] w fun e w' => e = .returned (.tuple #[.int .i64 x, .bool true]) ∧ w' = w := by
  have h1 := h.1
  have h2 := h.2
  by_cases hn : x < 0
  · obtain ⟨M, rfl⟩ : ∃ M : Nat, x = -(M : Int) := ⟨x.natAbs, by omega⟩
    have e : decS (-(M : Int)) = ⟨#[45]⟩ ++ digS M := by
      apply ba_ext
      rw [data_app, decS, Lib.itoa_neg M (by omega)]
      simp [digS]
    rw [e]
    exact num_neg M w (by omega) (by omega)
  · obtain ⟨M, rfl⟩ : ∃ M : Nat, x = (M : Int) := ⟨x.toNat, by omega⟩
    have e : decS (M : Int) = digS M := by rw [decS, Lib.itoa_nonneg]; rfl
    rw [e]
    exact num_pos M w (by omega)
end

/-! ### RdD -/
section
set_option linter.unusedVariables false
set_option linter.unusedSimpArgs false
open Go.RowKit Go.Deep

theorem wrapI (x : Int) : I64 (IntKind.i64.wrap x) := by
  unfold I64
  rw [IntKind.wrap_i64]
  omega
theorem wrapI' (x : Int) : I64 (wrap64 x) := by unfold I64 wrap64; omega
theorem wrapU (x : Int) : 0 ≤ IntKind.u64.wrap x ∧ IntKind.u64.wrap x ≤ 18446744073709551615 := by
  rw [IntKind.wrap_u64]
  omega
def NumAny (w : World) (e : Ending) (w' : World) : Prop := ∃ x b, I64 x ∧ e = .returned (.tuple #[.int .i64 x, .bool b]) ∧ w' = w
theorem numAny0 {w : World} : NumAny w (.returned (.tuple #[.int .i64 0, .bool false])) w := ⟨0, false, by unfold I64; omega, rfl, rfl⟩
theorem u8_sub (b : Nat) (h : 48 ≤ b) (h2 : b ≤ 57) : IntKind.u8.wrap ((b : Int) - 48) = ((b - 48 : Nat) : Int) := by
  rw [IntKind.wrap_u8]; omega

set_option maxRecDepth 100000 in
set_option maxHeartbeats 4000000 in
theorem num_below (s t : ByteArray) (w : World) (hs : s.size ≤ 4194304) (hst : s.extract 1 s.size = t) (h1 : 1 < s.size) (hs0 : (s[0].toNat : Int) = 45) :
    Calls Tryz.prog 34 #[.string s] w (NumAny w) := by
  have j1 : (1 : Int) < (s.size : Int) := by omega
  have j2 : (t.size : Int) < (s.size : Int) := by
    have e : t.size = s.size - 1 := by rw [← hst, ByteArray.size_extract]; omega
    omega
  by_cases h0 : t.size < 1
  · have j6 : decide ((t.size : Int) < 1) = true := by simp; omega
    have j3 : (t.size : Int) < 1 := by omega
    go_enter Tryz.func34, Tryz.ntmps34
    go_wp2_with fail
    all_goals (go_ret2; exact numAny0)

  · have j3 : ¬ (t.size : Int) < 1 := by omega
    have j6 : decide ((t.size : Int) < 1) = false := by simpa using j3
    have hts1 : 0 < t.size := by omega
    by_cases h19 : 19 < t.size
    · have j7 : decide ((19 : Int) < (t.size : Int)) = true := by simp; omega
      have j4 : (19 : Int) < (t.size : Int) := by omega
      go_enter Tryz.func34, Tryz.ntmps34
      go_wp2_with fail
      all_goals (go_ret2; exact numAny0)

    · have j4 : ¬ (19 : Int) < (t.size : Int) := by omega
      have j7 : decide ((19 : Int) < (t.size : Int)) = false := by simpa using j4
      obtain ⟨c0, hc0⟩ : ∃ c : Int, (t[0].toNat : Int) = c := ⟨_, rfl⟩
      by_cases hz : c0 = 48
      · subst hz
        go_enter Tryz.func34, Tryz.ntmps34
        go_wp2_with fail
        all_goals (go_ret2; exact numAny0)

      · have hz2 : (c0 == 48) = false := by simpa using hz
        go_enter Tryz.func34, Tryz.ntmps34
        go_wp2_with fail
        go_loop [6, 7] (fun n i => ∃ (k : Nat) (y : Int), k ≤ t.size ∧ 0 ≤ y ∧ y ≤ 18446744073709551615 ∧ n = .int .u64 y ∧ i = .int .i64 k) (fun _ i => t.size - (intOf i).toNat)
        case atStart => exact ⟨0, 0, Nat.zero_le _, by omega, by omega, rfl, rfl⟩
        case round =>
          obtain ⟨k, y, hk, hy0, hy1, rfl, rfl⟩ := hrel
          by_cases hlt : k < t.size
          · have i1 : (k : Int) < (t.size : Int) := by omega
            have i0 : (0 : Int) ≤ (k : Int) := by omega
            obtain ⟨b, hb, hbb⟩ : ∃ b : Nat, (t[k].toNat : Int) = (b : Int) ∧ b < 256 := ⟨_, rfl, UInt8.toNat_lt _⟩
            by_cases h1 : b < 48
            · have g1 : decide ((b : Int) < 48) = true := by simp; omega
              have g1' : (b : Int) < 48 := by omega
              go_wp2_with fail
              go_ret2
              exact numAny0
            · by_cases h2 : 57 < b
              · have g1 : decide ((b : Int) < 48) = false := by simp; omega
                have g2 : decide ((57 : Int) < (b : Int)) = true := by simp; omega
                have g2' : (57 : Int) < (b : Int) := by omega
                go_wp2_with fail
                go_ret2
                exact numAny0
              · have g1 : decide ((b : Int) < 48) = false := by simp; omega
                have g2 : decide ((57 : Int) < (b : Int)) = false := by simp; omega
                obtain ⟨y2, hy2, q0, q1⟩ : ∃ y2, IntKind.u64.wrap (IntKind.u64.wrap (10 * y) + ((b : Int) - 48)) = y2 ∧ 0 ≤ y2 ∧ y2 ≤ 18446744073709551615 := ⟨_, rfl, (wrapU _).1, (wrapU _).2⟩
                go_wp2_with fail
                go_round
                case rel => exact ⟨k + 1, y2, by omega, q0, q1, by first | rfl | (rw [hy2]; done) | (simp [hy2]; done), by go_num⟩
                case measure => simp [intOf]; omega
          · have e : k = t.size := by omega
            subst e
            have hge : ¬ (t.size : Int) < (t.size : Int) := by omega
            by_cases hbig : (9223372036854775808 : Int) < y
            · have k2 : decide ((9223372036854775808 : Int) < y) = true := by simpa using hbig
              go_wp2_with fail
              go_ret2
              exact numAny0
            · have k2 : decide ((9223372036854775808 : Int) < y) = false := by simpa using hbig
              go_wp2_with fail
              go_ret2
              refine ⟨_, true, ?_, rfl, rfl⟩
              first | exact wrapI' _ | exact wrapI _ | (unfold I64; omega)

set_option maxRecDepth 100000 in
set_option maxHeartbeats 4000000 in
theorem num_short (t : ByteArray) (w : World) (hs : t.size ≤ 4194304) (h1 : ¬ 1 < t.size) :
    Calls Tryz.prog 34 #[.string t] w (NumAny w) := by
  have j1 : ¬ (1 : Int) < (t.size : Int) := by omega
  have j1' : decide ((1 : Int) < (t.size : Int)) = false := by simpa using j1
  by_cases h0 : t.size < 1
  · have j6 : decide ((t.size : Int) < 1) = true := by simp; omega
    have j3 : (t.size : Int) < 1 := by omega
    go_enter Tryz.func34, Tryz.ntmps34
    go_wp2_with fail
    all_goals (go_ret2; exact numAny0)

  · have j3 : ¬ (t.size : Int) < 1 := by omega
    have j6 : decide ((t.size : Int) < 1) = false := by simpa using j3
    have hts1 : 0 < t.size := by omega
    by_cases h19 : 19 < t.size
    · have j7 : decide ((19 : Int) < (t.size : Int)) = true := by simp; omega
      have j4 : (19 : Int) < (t.size : Int) := by omega
      go_enter Tryz.func34, Tryz.ntmps34
      go_wp2_with fail
      all_goals (go_ret2; exact numAny0)

    · have j4 : ¬ (19 : Int) < (t.size : Int) := by omega
      have j7 : decide ((19 : Int) < (t.size : Int)) = false := by simpa using j4
      obtain ⟨c0, hc0⟩ : ∃ c : Int, (t[0].toNat : Int) = c := ⟨_, rfl⟩
      by_cases hz : c0 = 48
      · subst hz
        go_enter Tryz.func34, Tryz.ntmps34
        go_wp2_with fail
        go_loop [6, 7] (fun n i => ∃ (k : Nat) (y : Int), k ≤ t.size ∧ 0 ≤ y ∧ y ≤ 18446744073709551615 ∧ n = .int .u64 y ∧ i = .int .i64 k) (fun _ i => t.size - (intOf i).toNat)
        case atStart => exact ⟨0, 0, Nat.zero_le _, by omega, by omega, rfl, rfl⟩
        case round =>
          obtain ⟨k, y, hk, hy0, hy1, rfl, rfl⟩ := hrel
          by_cases hlt : k < t.size
          · have i1 : (k : Int) < (t.size : Int) := by omega
            have i0 : (0 : Int) ≤ (k : Int) := by omega
            obtain ⟨b, hb, hbb⟩ : ∃ b : Nat, (t[k].toNat : Int) = (b : Int) ∧ b < 256 := ⟨_, rfl, UInt8.toNat_lt _⟩
            by_cases h1 : b < 48
            · have g1 : decide ((b : Int) < 48) = true := by simp; omega
              have g1' : (b : Int) < 48 := by omega
              go_wp2_with fail
              go_ret2
              exact numAny0
            · by_cases h2 : 57 < b
              · have g1 : decide ((b : Int) < 48) = false := by simp; omega
                have g2 : decide ((57 : Int) < (b : Int)) = true := by simp; omega
                have g2' : (57 : Int) < (b : Int) := by omega
                go_wp2_with fail
                go_ret2
                exact numAny0
              · have g1 : decide ((b : Int) < 48) = false := by simp; omega
                have g2 : decide ((57 : Int) < (b : Int)) = false := by simp; omega
                obtain ⟨y2, hy2, q0, q1⟩ : ∃ y2, IntKind.u64.wrap (IntKind.u64.wrap (10 * y) + ((b : Int) - 48)) = y2 ∧ 0 ≤ y2 ∧ y2 ≤ 18446744073709551615 := ⟨_, rfl, (wrapU _).1, (wrapU _).2⟩
                go_wp2_with fail
                go_round
                case rel => exact ⟨k + 1, y2, by omega, q0, q1, by first | rfl | (rw [hy2]; done) | (simp [hy2]; done), by go_num⟩
                case measure => simp [intOf]; omega
          · have e : k = t.size := by omega
            subst e
            have hge : ¬ (t.size : Int) < (t.size : Int) := by omega
            by_cases hbig : (9223372036854775808 : Int) ≤ y
            · have k2 : decide ((9223372036854775808 : Int) ≤ y) = true := by simpa using hbig
              go_wp2_with fail
              go_ret2
              exact numAny0
            · have k2 : decide ((9223372036854775808 : Int) ≤ y) = false := by simpa using hbig
              go_wp2_with fail
              go_ret2
              refine ⟨_, true, ?_, rfl, rfl⟩
              first | exact wrapI' _ | exact wrapI _ | (unfold I64; omega)

      · have hz2 : (c0 == 48) = false := by simpa using hz
        go_enter Tryz.func34, Tryz.ntmps34
        go_wp2_with fail
        go_loop [6, 7] (fun n i => ∃ (k : Nat) (y : Int), k ≤ t.size ∧ 0 ≤ y ∧ y ≤ 18446744073709551615 ∧ n = .int .u64 y ∧ i = .int .i64 k) (fun _ i => t.size - (intOf i).toNat)
        case atStart => exact ⟨0, 0, Nat.zero_le _, by omega, by omega, rfl, rfl⟩
        case round =>
          obtain ⟨k, y, hk, hy0, hy1, rfl, rfl⟩ := hrel
          by_cases hlt : k < t.size
          · have i1 : (k : Int) < (t.size : Int) := by omega
            have i0 : (0 : Int) ≤ (k : Int) := by omega
            obtain ⟨b, hb, hbb⟩ : ∃ b : Nat, (t[k].toNat : Int) = (b : Int) ∧ b < 256 := ⟨_, rfl, UInt8.toNat_lt _⟩
            by_cases h1 : b < 48
            · have g1 : decide ((b : Int) < 48) = true := by simp; omega
              have g1' : (b : Int) < 48 := by omega
              go_wp2_with fail
              go_ret2
              exact numAny0
            · by_cases h2 : 57 < b
              · have g1 : decide ((b : Int) < 48) = false := by simp; omega
                have g2 : decide ((57 : Int) < (b : Int)) = true := by simp; omega
                have g2' : (57 : Int) < (b : Int) := by omega
                go_wp2_with fail
                go_ret2
                exact numAny0
              · have g1 : decide ((b : Int) < 48) = false := by simp; omega
                have g2 : decide ((57 : Int) < (b : Int)) = false := by simp; omega
                obtain ⟨y2, hy2, q0, q1⟩ : ∃ y2, IntKind.u64.wrap (IntKind.u64.wrap (10 * y) + ((b : Int) - 48)) = y2 ∧ 0 ≤ y2 ∧ y2 ≤ 18446744073709551615 := ⟨_, rfl, (wrapU _).1, (wrapU _).2⟩
                go_wp2_with fail
                go_round
                case rel => exact ⟨k + 1, y2, by omega, q0, q1, by first | rfl | (rw [hy2]; done) | (simp [hy2]; done), by go_num⟩
                case measure => simp [intOf]; omega
          · have e : k = t.size := by omega
            subst e
            have hge : ¬ (t.size : Int) < (t.size : Int) := by omega
            by_cases hbig : (9223372036854775808 : Int) ≤ y
            · have k2 : decide ((9223372036854775808 : Int) ≤ y) = true := by simpa using hbig
              go_wp2_with fail
              go_ret2
              exact numAny0
            · have k2 : decide ((9223372036854775808 : Int) ≤ y) = false := by simpa using hbig
              go_wp2_with fail
              go_ret2
              refine ⟨_, true, ?_, rfl, rfl⟩
              first | exact wrapI' _ | exact wrapI _ | (unfold I64; omega)

set_option maxRecDepth 100000 in
set_option maxHeartbeats 4000000 in
theorem num_long (t : ByteArray) (w : World) (hs : t.size ≤ 4194304) (h1 : 1 < t.size) (h2 : ((t[0].toNat : Int) == 45) = false) :
    Calls Tryz.prog 34 #[.string t] w (NumAny w) := by
  have j1 : (1 : Int) < (t.size : Int) := by omega
  by_cases h0 : t.size < 1
  · have j6 : decide ((t.size : Int) < 1) = true := by simp; omega
    have j3 : (t.size : Int) < 1 := by omega
    go_enter Tryz.func34, Tryz.ntmps34
    go_wp2_with fail
    all_goals (go_ret2; exact numAny0)

  · have j3 : ¬ (t.size : Int) < 1 := by omega
    have j6 : decide ((t.size : Int) < 1) = false := by simpa using j3
    have hts1 : 0 < t.size := by omega
    by_cases h19 : 19 < t.size
    · have j7 : decide ((19 : Int) < (t.size : Int)) = true := by simp; omega
      have j4 : (19 : Int) < (t.size : Int) := by omega
      go_enter Tryz.func34, Tryz.ntmps34
      go_wp2_with fail
      all_goals (go_ret2; exact numAny0)

    · have j4 : ¬ (19 : Int) < (t.size : Int) := by omega
      have j7 : decide ((19 : Int) < (t.size : Int)) = false := by simpa using j4
      obtain ⟨c0, hc0⟩ : ∃ c : Int, (t[0].toNat : Int) = c := ⟨_, rfl⟩
      by_cases hz : c0 = 48
      · subst hz
        go_enter Tryz.func34, Tryz.ntmps34
        go_wp2_with fail
        all_goals (go_ret2; exact numAny0)

      · have hz2 : (c0 == 48) = false := by simpa using hz
        go_enter Tryz.func34, Tryz.ntmps34
        go_wp2_with fail
        go_loop [6, 7] (fun n i => ∃ (k : Nat) (y : Int), k ≤ t.size ∧ 0 ≤ y ∧ y ≤ 18446744073709551615 ∧ n = .int .u64 y ∧ i = .int .i64 k) (fun _ i => t.size - (intOf i).toNat)
        case atStart => exact ⟨0, 0, Nat.zero_le _, by omega, by omega, rfl, rfl⟩
        case round =>
          obtain ⟨k, y, hk, hy0, hy1, rfl, rfl⟩ := hrel
          by_cases hlt : k < t.size
          · have i1 : (k : Int) < (t.size : Int) := by omega
            have i0 : (0 : Int) ≤ (k : Int) := by omega
            obtain ⟨b, hb, hbb⟩ : ∃ b : Nat, (t[k].toNat : Int) = (b : Int) ∧ b < 256 := ⟨_, rfl, UInt8.toNat_lt _⟩
            by_cases h1 : b < 48
            · have g1 : decide ((b : Int) < 48) = true := by simp; omega
              have g1' : (b : Int) < 48 := by omega
              go_wp2_with fail
              go_ret2
              exact numAny0
            · by_cases h2 : 57 < b
              · have g1 : decide ((b : Int) < 48) = false := by simp; omega
                have g2 : decide ((57 : Int) < (b : Int)) = true := by simp; omega
                have g2' : (57 : Int) < (b : Int) := by omega
                go_wp2_with fail
                go_ret2
                exact numAny0
              · have g1 : decide ((b : Int) < 48) = false := by simp; omega
                have g2 : decide ((57 : Int) < (b : Int)) = false := by simp; omega
                obtain ⟨y2, hy2, q0, q1⟩ : ∃ y2, IntKind.u64.wrap (IntKind.u64.wrap (10 * y) + ((b : Int) - 48)) = y2 ∧ 0 ≤ y2 ∧ y2 ≤ 18446744073709551615 := ⟨_, rfl, (wrapU _).1, (wrapU _).2⟩
                go_wp2_with fail
                go_round
                case rel => exact ⟨k + 1, y2, by omega, q0, q1, by first | rfl | (rw [hy2]; done) | (simp [hy2]; done), by go_num⟩
                case measure => simp [intOf]; omega
          · have e : k = t.size := by omega
            subst e
            have hge : ¬ (t.size : Int) < (t.size : Int) := by omega
            by_cases hbig : (9223372036854775808 : Int) ≤ y
            · have k2 : decide ((9223372036854775808 : Int) ≤ y) = true := by simpa using hbig
              go_wp2_with fail
              go_ret2
              exact numAny0
            · have k2 : decide ((9223372036854775808 : Int) ≤ y) = false := by simpa using hbig
              go_wp2_with fail
              go_ret2
              refine ⟨_, true, ?_, rfl, rfl⟩
              first | exact wrapI' _ | exact wrapI _ | (unfold I64; omega)

theorem num_some (s : ByteArray) (w : World) (hs : s.size ≤ 4194304) : Calls Tryz.prog 34 #[.string s] w (NumAny w) := by
  by_cases h1 : 1 < s.size
  · by_cases h2 : (s[0].toNat : Int) = 45
    · exact num_below s _ w hs rfl h1 h2
    · exact num_long s w hs h1 (by simpa using h2)
  · exact num_short s w hs h1
end
end Go.Proofs.YtmkipdhappikhaaGreatDoor
