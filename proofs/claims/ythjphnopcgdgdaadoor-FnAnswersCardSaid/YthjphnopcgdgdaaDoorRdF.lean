/- Numbers read, of the program. -/
import Derived.Test.YthjphnopcgdgdaaDoorRdE
import Derived.Lib.SmallJoins
namespace Go.Proofs.YthjphnopcgdgdaaDoor
open Go.RowKit Go.Deep

theorem parse_snoc (M : Nat) (c : UInt8) : ∀ (l : List UInt8) (acc : Nat), Lib.parseUintM M acc (l ++ [c]) = (match Lib.parseUintM M acc l with | .ok a => Lib.parseUintM M a [c] | e => e)
  | [], acc => rfl
  | x :: l, acc => by
    rw [List.cons_append, Lib.parseUintM, Lib.parseUintM]
    split
    · split
      · rfl
      · split
        · rfl
        · exact parse_snoc M c l _
    · rfl
theorem parse_one {M a d : Nat} (hd : d ≤ 9) (ha : ¬ 1844674407370955162 ≤ a) (hM : ¬ M < a * 10 + d) : Lib.parseUintM M a [UInt8.ofNat (48 + d)] = .ok (a * 10 + d) := by
  have e : (UInt8.ofNat (48 + d)).toNat = 48 + d := by rw [UInt8.toNat_ofNat']; omega
  rw [Lib.parseUintM, e, if_pos (by omega), if_neg ha, Nat.add_sub_cancel_left, if_neg hM, Lib.parseUintM]
theorem parse_digits {M : Nat} (hM : M ≤ 18446744073709551615) : ∀ u, u ≤ M → Lib.parseUintM M 0 (Lib.decDigits u) = .ok u := by
  intro u
  induction u using Nat.strongRecOn with
  | ind u ih =>
    intro hu
    by_cases h : u < 10
    · rw [Lib.decDigits_one h, parse_one (by omega) (by omega) (by omega)]
      congr 1; omega
    · rw [Lib.decDigits, dif_neg h, parse_snoc, ih (u / 10) (by omega) (by omega)]
      show Lib.parseUintM M (u / 10) _ = _
      rw [parse_one (by omega) (by omega) (by omega)]
      congr 1; omega
theorem dec_cons (u : Nat) : ∃ c r, Lib.decDigits u = c :: r ∧ 48 ≤ c.toNat ∧ c.toNat ≤ 57 := by
  cases h : Lib.decDigits u with
  | nil =>
    have h2 := Lib.decDigits_length u
    rw [h] at h2
    have := Lib.nDigits_pos u
    simp at h2
    omega
  | cons c r =>
    have := dec_byte (u := u) (b := c) (by rw [h]; simp)
    exact ⟨c, r, rfl, this.1, this.2⟩
theorem parse_itoa {x : Int} (h : I64 x) : Lib.parseIntB 64 (Lib.itoa x) = .ok x := by
  have h1 := h.1
  have h2 := h.2
  by_cases hn : x < 0
  · obtain ⟨M, rfl⟩ : ∃ M : Nat, x = -(M : Int) := ⟨x.natAbs, by omega⟩
    obtain ⟨c, r, hc, hc1, hc2⟩ := dec_cons M
    rw [Lib.itoa_neg M (by omega), Lib.parseIntB]
    have e : (45 : UInt8).toNat = 45 := rfl
    have hp := parse_digits (M := 18446744073709551615) (Nat.le_refl _) M (by omega)
    have hb : Lib.parseUintB 64 (Lib.decDigits M) = .ok M := by
      unfold Lib.parseUintB
      rw [if_neg (by rw [hc]; simp)]
      exact hp
    simp only [e, or_true, if_true, hb, not_true, false_and, if_false, true_and]
    rw [if_neg (by omega)]
  · obtain ⟨M, rfl⟩ : ∃ M : Nat, x = (M : Int) := ⟨x.toNat, by omega⟩
    obtain ⟨c, r, hc, hc1, hc2⟩ := dec_cons M
    have hp := parse_digits (M := 18446744073709551615) (Nat.le_refl _) M (by omega)
    rw [Lib.itoa_nonneg, hc, Lib.parseIntB]
    have n2 : ¬ c.toNat = 45 := by omega
    rw [hc] at hp
    have hb : Lib.parseUintB 64 (c :: r) = .ok M := by
      unfold Lib.parseUintB
      rw [if_neg (by simp)]
      exact hp
    have n3 : ¬ c.toNat = 43 := by omega
    simp only [n2, n3, or_self, not_false_eq_true, true_and, false_and, if_false]
    rw [hb]
    exact if_neg (by omega)
theorem parse_i64 {l : List UInt8} {x : Int} (h : Lib.parseIntB 64 l = .ok x) : I64 x := by
  unfold Lib.parseIntB at h
  split at h
  · cases h
  · rename_i c r
    simp only at h
    split at h
    · cases h
    · cases h
    · rename_i u hu
      split at h
      · cases h
      · split at h
        · cases h
        · rename_i h1 h2
          unfold I64
          by_cases hn : c.toNat = 45
          · rw [if_pos hn] at h
            injection h with h
            subst h
            simp only [hn, true_and] at h2
            omega
          · rw [if_neg hn] at h
            injection h with h
            subst h
            simp only [hn, not_false_eq_true, true_and] at h1
            omega
theorem decS_inj {x y : Int} (hx : I64 x) (hy : I64 y) (h : decS x = decS y) : x = y := by
  have h1 := parse_itoa hx
  have h2 := parse_itoa hy
  have e : Lib.itoa x = Lib.itoa y := by
    have := congrArg (fun b : ByteArray => b.data.toList) h
    simpa [decS] using this
  rw [e] at h1
  exact Lib.NumEnd.ok.inj (h1.symm.trans h2)
theorem numS_inj {x y : Int} (hx : I64 x) (hy : I64 y) (h : numS x = numS y) : x = y := by
  unfold numS at h
  by_cases e1 : x = 9999999
  · by_cases e2 : y = 9999999
    · omega
    · rw [if_pos e1, if_neg e2] at h
      exact absurd h.symm (decS_ne_dash y)
  · by_cases e2 : y = 9999999
    · rw [if_neg e1, if_pos e2] at h
      exact absurd h (decS_ne_dash x)
    · rw [if_neg e1, if_neg e2] at h
      exact decS_inj hx hy h

/-- The library's two errors of numbers are there. -/
def ErrOk (w : World) : Prop := (∃ tp p, w.var? Tryd.prog "strconv.ErrSyntax" = some #[.iface tp p]) ∧ (∃ tp p, w.var? Tryd.prog "strconv.ErrRange" = some #[.iface tp p])
theorem var_below {w w' : World} {n : String} {cs : Array Value} (h : w.var? Tryd.prog n = some cs) (hb : Below w.heap.size w w') : w'.var? Tryd.prog n = some cs := by
  unfold World.var? at h ⊢
  cases hg : Tryd.prog.globalNamed n with
  | none => rw [hg] at h; cases h
  | some g =>
    rw [hg] at h
    simp only [Option.bind_some] at h ⊢
    have hlt : g < w.heap.size := by
      rcases Nat.lt_or_ge g w.heap.size with h' | h'
      · exact h'
      · rw [Array.getElem?_eq_none h'] at h
        cases h
    rw [hb.block g hlt]
    exact h
theorem ErrOk.below {w w' : World} (h : ErrOk w) (hb : Below w.heap.size w w') : ErrOk w' := by
  obtain ⟨⟨t1, p1, h1⟩, ⟨t2, p2, h2⟩⟩ := h
  exact ⟨⟨t1, p1, var_below h1 hb⟩, ⟨t2, p2, var_below h2 hb⟩⟩

def DecAns (s : ByteArray) (w : World) (e : Ending) (w' : World) : Prop :=
  ((∃ x, I64 x ∧ decS x = s ∧ e = .returned (.tuple #[.int .i64 x, .bool true])) ∨ ((∀ x, I64 x → decS x ≠ s) ∧ e = .returned (.tuple #[.int .i64 0, .bool false]))) ∧ Below w.heap.size w w'
set_option maxRecDepth 100000 in
set_option maxHeartbeats 2000000 in
theorem readDec_any (s : ByteArray) (w : World) (hs : s.size ≤ 4194304) (hE : ErrOk w) (hp : Hid (Pow w w.heap.size)) :
    Calls Tryd.prog 33 #[.string s] w (DecAns s w) := by
  have HE := hid hE
  clear hE
  have hitoa : ∀ x, decS x = s → s.data.toList = Lib.itoa x := fun x e => by rw [← e]; simp [decS]
  rcases hr : Lib.parseIntB 64 s.data.toList with v | _ | _
  case ok =>
    have hv := parse_i64 hr
    have HR := hid hr
    have HI := hid hitoa
    clear hr hitoa
    by_cases he : decS v = s
    · have HEQ := hid he
      clear he
      go_enter Tryd.func33, Tryd.ntmps33
      go_wp2_with fail
      refine (strconv_ParseInt_10_at64_ok s (by omega) v HR.out _).mono ?_
      rintro e w1 ⟨rfl, hw⟩
      have hb1 : Below w.heap.size w w1 := by
        rcases hw with rfl | ⟨t, rfl⟩
        · exact Below.refl _ _
        · exact Joins.below_bytesWorld _ _ _ _ (Nat.le_refl _)
      clear hw
      have hp1 := hid (hp.out w1 hb1)
      go_wp2_with (go_at_call 40; refine (decimal_any v _ hv.1 hv.2 hp1).mono ?_; rintro e w2 ⟨rfl, hb2⟩; rw [HEQ.out])
      go_ret2
      exact ⟨.inl ⟨v, hv, HEQ.out, rfl⟩, hb1.trans (hb2.mono hb1.size)⟩
    · have hl := ba_listT he
      have HNE := hid he
      clear he
      go_enter Tryd.func33, Tryd.ntmps33
      go_wp2_with fail
      refine (strconv_ParseInt_10_at64_ok s (by omega) v HR.out _).mono ?_
      rintro e w1 ⟨rfl, hw⟩
      have hb1 : Below w.heap.size w w1 := by
        rcases hw with rfl | ⟨t, rfl⟩
        · exact Below.refl _ _
        · exact Joins.below_bytesWorld _ _ _ _ (Nat.le_refl _)
      clear hw
      have hp1 := hid (hp.out w1 hb1)
      go_wp2_with (go_at_call 40; refine (decimal_any v _ hv.1 hv.2 hp1).mono ?_; rintro e w2 ⟨rfl, hb2⟩)
      go_ret2
      refine ⟨.inr ⟨fun x hx e => HNE.out ?_, rfl⟩, hb1.trans (hb2.mono hb1.size)⟩
      have h1 := HR.out
      rw [HI.out x e, parse_itoa hx] at h1
      rw [← Lib.NumEnd.ok.inj h1]
      exact e
  case range =>
    have hno : ∀ x, I64 x → decS x ≠ s := fun x hx e => by rw [hitoa x e, parse_itoa hx] at hr; cases hr
    have HNO := hid hno
    have HR := hid hr
    obtain ⟨tp, p, hvar⟩ := HE.out.2
    have HV := hid hvar
    clear hr hitoa hno hvar
    go_enter Tryd.func33, Tryd.ntmps33
    go_wp2_with fail
    refine (strconv_ParseInt_10_at64_range_var s (by omega) HR.out tp p _ HV.out).mono ?_
    rintro e w1 ⟨N, rfl, _, _, hb1⟩
    go_wp2_with fail
    go_ret2
    exact ⟨.inr ⟨HNO.out, rfl⟩, hb1⟩
  all_goals
    have hno : ∀ x, I64 x → decS x ≠ s := fun x hx e => by rw [hitoa x e, parse_itoa hx] at hr; cases hr
    have HNO := hid hno
    have HR := hid hr
    obtain ⟨tp, p, hvar⟩ := HE.out.1
    have HV := hid hvar
    clear hr hitoa hno hvar
    go_enter Tryd.func33, Tryd.ntmps33
    go_wp2_with fail
    refine (Any.strconv_ParseInt_10_at64_syntax_var laysC174 s (by omega) HR.out tp p _ HV.out).mono ?_
    rintro e w1 ⟨N, rfl, _, _, hb1⟩
    go_wp2_with fail
    go_ret2
    exact ⟨.inr ⟨HNO.out, rfl⟩, hb1⟩
end Go.Proofs.YthjphnopcgdgdaaDoor
