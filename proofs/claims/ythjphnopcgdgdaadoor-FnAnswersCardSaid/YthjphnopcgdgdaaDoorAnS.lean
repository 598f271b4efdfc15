/- The text of an answer, of the other side. -/
import Derived.Test.YthjphnopcgdgdaaDoorHtC
namespace Go.Proofs.YthjphnopcgdgdaaDoor
open Go.RowKit Go.Deep

abbrev anV (co : Int) (A : Option Addr) (n c : Nat) (B : Option Addr) (m ch : Nat) (ct : Int) : Value := .agg #[.int .i64 co, .slice A n c, .slice B m ch, .int .i64 ct]
abbrev anC (co : Int) (A : Option Addr) (n c : Nat) (B : Option Addr) (m ch : Nat) (ct : Int) : Array Value := #[.int .i64 co, .slice A n c, .slice B m ch, .int .i64 ct]
def ansF (n : Nat) (z : Nat → Int) (g : Nat → Ht) (i : Nat) : ByteArray := if i = 0 then ⟨#[111, 107]⟩ else if i < 1 + n then decS (z (i - 1)) else htS (g (i - 1 - n)).ix (g (i - 1 - n)).sc
def ansS (co : Int) (n : Nat) (z : Nat → Int) (m : Nat) (g : Nat → Ht) : ByteArray := if co = 0 then joinTo (ansF n z g) ⟨#[32]⟩ (1 + n + m) else ⟨#[110, 111, 32]⟩ ++ decS co
/-- What is known of an answer's numbers. -/
def AnIn (co : Int) (n : Nat) (z : Nat → Int) (m : Nat) (g : Nat → Ht) : Prop := I64 co ∧ (∀ i, i < n → I64 (z i)) ∧ ∀ i, i < m → I64 (g i).ix ∧ I64 (g i).sc
theorem ansF_num {n k : Nat} {z : Nat → Int} {g : Nat → Ht} (h : k < n) : ansF n z g (1 + k) = decS (z k) := by
  unfold ansF
  rw [if_neg (by omega), if_pos (by omega), Nat.add_sub_cancel_left]
theorem ansF_hit {n k : Nat} {z : Nat → Int} {g : Nat → Ht} : ansF n z g (1 + n + k) = htS (g k).ix (g k).sc := by
  unfold ansF
  rw [if_neg (by omega), if_neg (by omega), show 1 + n + k - 1 - n = k by omega]
theorem ansF_size {co : Int} {n : Nat} {z : Nat → Int} {m : Nat} {g : Nat → Ht} (h : AnIn co n z m g) : ∀ i, i < 1 + n + m → (ansF n z g i).size ≤ 43 := by
  intro i hi
  by_cases h0 : i = 0
  · subst h0; show (⟨#[111, 107]⟩ : ByteArray).size ≤ 43; decide
  · by_cases h1 : i < 1 + n
    · obtain ⟨k, rfl⟩ : ∃ k, i = 1 + k := ⟨i - 1, by omega⟩
      rw [ansF_num (by omega)]
      have := (h.2.1 k (by omega)).size
      omega
    · obtain ⟨k, rfl⟩ : ∃ k, i = 1 + n + k := ⟨i - 1 - n, by omega⟩
      rw [ansF_hit]
      have := h.2.2 k (by omega)
      exact htS_size this.1 this.2
theorem ansT_size {co : Int} {n : Nat} {z : Nat → Int} {m : Nat} {g : Nat → Ht} (h : AnIn co n z m g) {k : Nat} (hk : k ≤ 1 + n + m) : (joinTo (ansF n z g) ⟨#[32]⟩ k).size ≤ k * 44 :=
  joinTo_size (f := ansF n z g) (sep := ⟨#[32]⟩) (M := 43) k (fun i hi => ansF_size h i (by omega))
theorem ansT_next {n : Nat} {z : Nat → Int} {g : Nat → Ht} {k : Nat} (h : 0 < k) : joinTo (ansF n z g) ⟨#[32]⟩ (k + 1) = joinTo (ansF n z g) ⟨#[32]⟩ k ++ ⟨#[32]⟩ ++ ansF n z g k := by
  show (if 0 < k then _ else _) ++ _ = _
  rw [if_pos h]

set_option maxRecDepth 100000 in
set_option maxHeartbeats 4000000 in
theorem sAns_any (co : Int) (A : Option Addr) (n c : Nat) (z : Nat → Int) (B : Option Addr) (m ch : Nat) (g : Nat → Ht) (ct : Int) (w : World) (h : Rd w w.heap.size A n z) (h' : RdH w w.heap.size B m g) (hin : AnIn co n z m g) (hn : n ≤ 4194304) (hm : m ≤ 4194304) :
    Calls Tryd.prog 24 #[anV co A n c B m ch ct] w fun e w' => e = .returned (.string (ansS co n z m g)) ∧ Below w.heap.size w w' := by
  have hw0 := (Below.refl w.heap.size w).alloc (Nat.le_refl _) (.cells (anC co A n c B m ch ct) 44)
  have hB0 := Blk.new w 44 (anC co A n c B m ch ct)
  have HI := hid hin
  by_cases h0 : co = 0
  · subst h0
    have HA : Hid (ansS 0 n z m g = joinTo (ansF n z g) ⟨#[32]⟩ (1 + n + m)) := if_pos rfl
    clear hin
    go_enter Tryd.func24, Tryd.ntmps24
    go_wp2_with fail
    generalize w.alloc (.cells (anC 0 A n c B m ch ct) 44) = w1 at hw0 hB0 ⊢
    go_loopw [3, 4] (fun s i wr => ∃ (k : Nat) (t : ByteArray), k ≤ n ∧ i = .int .i64 k ∧ s = .string t ∧ t.size ≤ (1 + k) * 44 ∧ Hid (t = joinTo (ansF n z g) ⟨#[32]⟩ (1 + k)) ∧ Blk wr w.heap.size 44 (anC 0 A n c B m ch ct) ∧ Hid (Below w.heap.size w wr))
      (fun _ i _ => n - (intOf i).toNat)
    case atStart => exact ⟨0, _, Nat.zero_le _, rfl, rfl, by show 2 ≤ _; omega, (by show _ = ByteArray.empty ++ _; rw [ByteArray.empty_append]; rfl), hB0, hw0⟩
    case round =>
      obtain ⟨k, t, hk, rfl, rfl, hts, HT, hB, hbl⟩ := hrel
      have cA : wr.cell? ⟨w.heap.size, 1, none⟩ = some (.slice A n c) := hB.cell 1
      by_cases hlt : k < n
      · obtain ⟨b, off, rfl, hb, c0⟩ := (h.below hbl.out).at_ hlt
        have hI := HI.out.2.1 k hlt
        have i1 : (k : Int) < (n : Int) := by omega
        have i0 : (0 : Int) ≤ (k : Int) := by omega
        obtain ⟨t2, ht2, hs2, HT2⟩ := cat_ t ⟨#[32]⟩ hts (one_arr _)
        obtain ⟨t3, ht3, hs3, HT3⟩ := cat_ t2 (decS (z k)) hs2 hI.size
        have HE : Hid (t3 = joinTo (ansF n z g) ⟨#[32]⟩ (1 + (k + 1))) := by
          show t3 = _
          rw [show 1 + (k + 1) = (1 + k) + 1 by omega, ansT_next (by omega), ansF_num hlt, HT3.out, HT2.out, HT.out]
        have hds := hI.size
        have z1 : ¬ 9223372036854775807 < t.size + 1 := by omega
        have z2 : ¬ 9223372036854775807 < t2.size + (decS (z k)).size := by omega
        have z3 : t3.size ≤ (1 + (k + 1)) * 44 := by omega
        have HII := hid hI
        clear hs2 hs3 HT2 HT3 hts HT hI hds
        go_wp2_with fail
        refine (l1Dec_any (z k) _ HII.out.1 HII.out.2).mono ?_
        rintro e w5 ⟨rfl, hb5⟩
        have hB5 := hB.below hb5 hB.lt
        have hbl5 := hid (hbl.out.trans (hb5.mono hbl.out.size))
        clear hb5 c0 hB cA
        go_wp2_with fail
        go_roundw
        case rel => exact ⟨k + 1, _, by omega, by go_num, rfl, z3, HE, hB5, hbl5⟩
        case measure => simp [intOf]; omega
      · obtain rfl : n = k := by omega
        have i1 : ¬ (n : Int) < (n : Int) := by omega
        go_wp2_with fail
        clear cA
        go_loopw [3, 5] (fun s i wr => ∃ (k : Nat) (t : ByteArray), k ≤ m ∧ i = .int .i64 k ∧ s = .string t ∧ t.size ≤ (1 + n + k) * 44 ∧ Hid (t = joinTo (ansF n z g) ⟨#[32]⟩ (1 + n + k)) ∧ Blk wr w.heap.size 44 (anC 0 A n c B m ch ct) ∧ Hid (Below w.heap.size w wr))
          (fun _ i _ => m - (intOf i).toNat)
        case atStart => exact ⟨0, _, Nat.zero_le _, rfl, rfl, hts, HT, hB, hbl⟩
        case round =>
          obtain ⟨k, t, hk, rfl, rfl, hts, HT, hB, hbl⟩ := hrel
          have cA : wr.cell? ⟨w.heap.size, 2, none⟩ = some (.slice B m ch) := hB.cell 2
          by_cases hlt : k < m
          · obtain ⟨b, off, rfl, hb, c0, c1⟩ := (h'.below hbl.out).at_ hlt
            have hI := HI.out.2.2 k hlt
            have i2 : (k : Int) < (m : Int) := by omega
            have i0 : (0 : Int) ≤ (k : Int) := by omega
            have hds := htS_size hI.1 hI.2
            obtain ⟨t2, ht2, hs2, HT2⟩ := cat_ t ⟨#[32]⟩ hts (one_arr _)
            obtain ⟨t3, ht3, hs3, HT3⟩ := cat_ t2 (htS (g k).ix (g k).sc) hs2 hds
            have HE : Hid (t3 = joinTo (ansF n z g) ⟨#[32]⟩ (1 + n + (k + 1))) := by
              show t3 = _
              rw [show 1 + n + (k + 1) = (1 + n + k) + 1 by omega, ansT_next (by omega), ansF_hit, HT3.out, HT2.out, HT.out]
            have z1 : ¬ 9223372036854775807 < t.size + 1 := by omega
            have z2 : ¬ 9223372036854775807 < t2.size + (htS (g k).ix (g k).sc).size := by omega
            have z3 : t3.size ≤ (1 + n + (k + 1)) * 44 := by omega
            have HII := hid hI
            clear hs2 hs3 HT2 HT3 hts HT hI hds
            go_wp2_with fail
            refine (l13Hit_any (g k).ix (g k).sc _ HII.out.1 HII.out.2).mono ?_
            rintro e w5 ⟨rfl, hb5⟩
            have hB5 := hB.below hb5 hB.lt
            have hbl5 := hid (hbl.out.trans (hb5.mono hbl.out.size))
            clear hb5 c0 c1 hB cA
            go_wp2_with fail
            go_roundw
            case rel => exact ⟨k + 1, _, by omega, by go_num, rfl, z3, HE, hB5, hbl5⟩
            case measure => simp [intOf]; omega
          · obtain rfl : m = k := by omega
            have i2 : ¬ (m : Int) < (m : Int) := by omega
            go_wp2_with fail
            go_ret
            exact ⟨ret_strT (by rw [HA.out, HT.out]), hbl.out⟩
  · have HA : Hid (ansS co n z m g = ⟨#[110, 111, 32]⟩ ++ decS co) := if_neg h0
    have e0 : (co != 0) = true := by simpa using h0
    have hs := hin.1.size
    have z1 : ¬ 9223372036854775807 < 3 + (decS co).size := by omega
    clear hin h0
    go_enter Tryd.func24, Tryd.ntmps24
    go_wp2_with fail
    refine (l1Dec_any co _ HI.out.1.1 HI.out.1.2).mono ?_
    rintro e w5 ⟨rfl, hb5⟩
    go_wp2_with fail
    go_ret
    exact ⟨ret_strT HA.out.symm, hw0.trans (hb5.mono hw0.size)⟩
end Go.Proofs.YthjphnopcgdgdaaDoor
