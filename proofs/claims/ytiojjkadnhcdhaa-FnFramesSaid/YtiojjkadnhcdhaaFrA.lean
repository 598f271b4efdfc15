/- Frames in plain words: the CRC of bytes, bit by bit; four bits at once give the same. -/
import Derived.Test.YtiojjkadnhcdhaaK1
namespace Go.Proofs.Ytiojjkadnhcdhaa

def stp (x : Nat) : Nat := if x % 2 = 1 then x / 2 ^^^ 3988292384 else x / 2
def stps : Nat → Nat → Nat
  | 0, x => x
  | k + 1, x => stp (stps k x)

theorem stp_lt {x : Nat} (h : x < 4294967296) : stp x < 4294967296 := by
  unfold stp
  split
  · exact Nat.xor_lt_two_pow (n := 32) (by omega) (by omega)
  · omega
theorem stps_lt {x : Nat} (h : x < 4294967296) : ∀ k, stps k x < 4294967296
  | 0 => h
  | k + 1 => stp_lt (stps_lt h k)

theorem xor_half (a b : Nat) : (a ^^^ b) / 2 = a / 2 ^^^ b / 2 := by
  apply Nat.eq_of_testBit_eq
  intro i
  rw [Nat.testBit_xor, ← Nat.testBit_add_one, ← Nat.testBit_add_one, ← Nat.testBit_add_one, Nat.testBit_xor]
theorem xor_mod (a b : Nat) : (a ^^^ b) % 2 = (a + b) % 2 := by
  have h := Nat.testBit_xor (x := a) (y := b) (i := 0)
  rw [Nat.testBit_zero, Nat.testBit_zero, Nat.testBit_zero] at h
  have ha : a % 2 = 0 ∨ a % 2 = 1 := by omega
  have hb : b % 2 = 0 ∨ b % 2 = 1 := by omega
  have hc : (a ^^^ b) % 2 = 0 ∨ (a ^^^ b) % 2 = 1 := by omega
  rcases ha with ha | ha <;> rcases hb with hb | hb <;> rcases hc with hc | hc <;> simp [ha, hb, hc] at h <;> omega
theorem stp_xor (a b : Nat) : stp (a ^^^ b) = stp a ^^^ stp b := by
  unfold stp
  rw [xor_half, xor_mod]
  have ha : a % 2 = 0 ∨ a % 2 = 1 := by omega
  have hb : b % 2 = 0 ∨ b % 2 = 1 := by omega
  rcases ha with ha | ha <;> rcases hb with hb | hb
  · rw [if_neg (by omega), if_neg (by omega), if_neg (by omega)]
  · rw [if_pos (by omega), if_neg (by omega), if_pos (by omega), Nat.xor_assoc]
  · rw [if_pos (by omega), if_pos (by omega), if_neg (by omega), Nat.xor_assoc, Nat.xor_assoc, Nat.xor_comm (b / 2)]
  · rw [if_neg (by omega), if_pos (by omega), if_pos (by omega)]
    rw [Nat.xor_assoc, Nat.xor_comm 3988292384, Nat.xor_assoc (b / 2), Nat.xor_self, Nat.xor_zero]
theorem stps_xor (a b : Nat) : ∀ k, stps k (a ^^^ b) = stps k a ^^^ stps k b
  | 0 => rfl
  | k + 1 => by show stp _ = _; rw [stps_xor a b k, stp_xor]; rfl
theorem stp_two (q : Nat) : stp (2 * q) = q := by
  unfold stp
  rw [if_neg (by omega)]; omega
theorem stps4_high (q : Nat) : stps 4 (16 * q) = q := by
  show stp (stp (stp (stp (16 * q)))) = q
  rw [show 16 * q = 2 * (2 * (2 * (2 * q))) by omega, stp_two, stp_two, stp_two, stp_two]
theorem split16 (x : Nat) : x = 16 * (x / 16) ^^^ x % 16 := by
  have h := @Nat.two_pow_add_eq_or_of_lt 4 (x % 16) (by omega) (x / 16)
  have e : 2 ^ 4 * (x / 16) ||| x % 16 = 16 * (x / 16) ^^^ x % 16 := by
    apply Nat.eq_of_testBit_eq
    intro i
    rw [Nat.testBit_or, Nat.testBit_xor]
    have e16 : (16 : Nat) * (x / 16) = 2 ^ 4 * (x / 16) := rfl
    rw [e16, Nat.testBit_two_pow_mul]
    have e2 : x % 16 = x % 2 ^ 4 := rfl
    rw [e2, Nat.testBit_mod_two_pow]
    by_cases h4 : i < 4
    · simp [h4, show ¬ 4 ≤ i by omega]
    · simp [h4]
  rw [← e, ← h]
  omega
/-- Four steps of x: the high part, and four steps of the four low bits. -/
theorem stps4 (x : Nat) : stps 4 x = x / 16 ^^^ stps 4 (x % 16) := by
  conv => lhs; rw [split16 x]
  rw [stps_xor, stps4_high]
theorem stps_add (a b x : Nat) : stps (a + b) x = stps a (stps b x) := by
  induction a with
  | zero => rw [Nat.zero_add]; rfl
  | succ a ih => rw [Nat.succ_add]; show stp _ = stp _; rw [ih]

/-- The byte at place k of a string. -/
def byS (s : ByteArray) (k : Nat) : Nat := (s.data[k]?.getD 0).toNat
theorem byS_lt (s : ByteArray) (k : Nat) : byS s k < 256 := UInt8.toNat_lt _
/-- The CRC of the first k bytes, not yet turned. -/
def crcTo (s : ByteArray) : Nat → Nat
  | 0 => 4294967295
  | k + 1 => stps 8 (crcTo s k ^^^ byS s k)
theorem crcTo_lt (s : ByteArray) : ∀ k, crcTo s k < 4294967296
  | 0 => by show 4294967295 < 4294967296; omega
  | k + 1 => stps_lt (Nat.xor_lt_two_pow (n := 32) (crcTo_lt s k) (by have := byS_lt s k; omega)) 8
def crcS (s : ByteArray) : Nat := 4294967295 ^^^ crcTo s s.size
theorem crcS_lt (s : ByteArray) : crcS s < 4294967296 := Nat.xor_lt_two_pow (n := 32) (by omega) (crcTo_lt s _)
/-- Two times four bits by the table: a byte's eight steps. -/
def nib (x : Nat) : Nat := x / 16 ^^^ stps 4 (x % 16)
theorem nib_eq (x : Nat) : nib x = stps 4 x := (stps4 x).symm
theorem crcTo_nib (s : ByteArray) (k : Nat) : crcTo s (k + 1) = nib (nib (crcTo s k ^^^ byS s k)) := by
  rw [nib_eq, nib_eq, ← stps_add]; rfl
end Go.Proofs.Ytiojjkadnhcdhaa
