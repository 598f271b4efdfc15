/- FullScore on both sides. -/
import Derived.Test.YtnhbgagdppbldaaEnsD
namespace Go.Proofs.Ytnhbgagdppbldaa
open Go.RowKit Go.Deep

/-- The value of the leaf at which a document ends. -/
def lvv (g : Nat → Nd) (z : Nat → Int) : Int := (g (lst g z 15 0)).value
theorem lst_itr {g : Nat → Nd} {z : Nat → Int} {T : Nat} (hE : Ends g z T) : ∀ k s fu, s + k = T → k < fu → lst g z fu (itr g z s) = itr g z T := by
  intro k
  induction k with
  | zero =>
    intro s fu hs hf
    obtain ⟨fu, rfl⟩ : ∃ m, fu = m + 1 := ⟨fu - 1, by omega⟩
    obtain rfl : s = T := by omega
    simp only [lst]
    rw [if_pos hE.2]
  | succ k ih =>
    intro s fu hs hf
    obtain ⟨fu, rfl⟩ : ∃ m, fu = m + 1 := ⟨fu - 1, by omega⟩
    simp only [lst]
    rw [if_neg (hE.1 s (by omega))]
    exact ih (s + 1) fu (by omega) (by omega)
theorem ends_some {g : Nat → Nd} {n : Nat} (z : Nat → Int) (hu : Up g n) (hn : 0 < n) : ∃ T, T < n ∧ Ends g z T := by
  have key : ∀ k, (∀ s, s < k → (g (itr g z s)).left ≠ 0) ∨ ∃ T, T < k ∧ Ends g z T := by
    intro k
    induction k with
    | zero => exact .inl fun s hs => by omega
    | succ k ih =>
      rcases ih with h | ⟨T, hT, hE⟩
      · by_cases hl : (g (itr g z k)).left = 0
        · exact .inr ⟨k, by omega, h, hl⟩
        · refine .inl fun s hs => ?_
          by_cases e : s = k
          · subst e; exact hl
          · exact h s (by omega)
      · exact .inr ⟨T, by omega, hE⟩
  rcases key n with h | h
  · have := itr_up z hu hn n h
    omega
  · exact h
theorem lvv_is {g : Nat → Nd} {z : Nat → Int} {T : Nat} (hE : Ends g z T) (hT : T < 15) : lvv g z = (g (itr g z T)).value := by
  unfold lvv
  have := lst_itr hE T 0 15 (by omega) hT
  have e : itr g z 0 = 0 := rfl
  rw [e] at this
  rw [this]
theorem lvv_bound {g : Nat → Nd} {n : Nat} {f : Int} (z : Nat → Int) (h : treeB g n f = true) : -1000000000 ≤ lvv g z ∧ lvv g z ≤ 1000000000 := by
  have hT := (treeB_iff g n f).1 h
  have hn := hT.2.1
  obtain ⟨T, hlt, hE⟩ := ends_some z hT.up (by omega)
  rw [lvv_is hE (by omega)]
  exact hT.leaf (itr_up z hT.up (by omega) T hE.1).2 hE.2
def scF (g : Nat → Nat → Nd) (z : Nat → Int) : Nat → Int := fun i => lvv (g i) z

def fitB (f : Int) (p : Nat) (z : Nat → Int) : Bool := decide ((p : Int) = f) && docB p z

theorem hasDoc_any (f b : Int) (A : Option Addr) (n c : Nat) (D : Option Addr) (p dc : Nat) (z : Nat → Int) (w : World) (hd : Rd w w.heap.size D p z) (hp : p ≤ 4194304) :
    Calls Try.prog 95 #[enV f b A n c, .slice D p dc] w fun e w' => e = .returned (.bool (fitB f p z)) ∧ Below w.heap.size w w' := by
  have hb1 := (Below.refl w.heap.size w).alloc (Nat.le_refl _) (.cells #[.int .i64 f, .int .i64 b, .slice A n c] 54)
  have hd1 := hd.to hb1 hb1.size
  by_cases hpf : (p : Int) = f
  · have e0 : Hid (fitB f p z = docB p z) := by show _ = _; unfold fitB; rw [decide_eq_true hpf]; rfl
    have e1 : ((p : Int) == f) = true := by simpa using hpf
    clear hpf
    go_enter Try.func95, Try.ntmps95
    go_wp2_with fail
    refine (iDocOk_any D p dc z _ hd1 hp).mono ?_
    rintro e w2 ⟨rfl, hb2⟩
    have hw2 := hb1.trans (hb2.mono hb1.size)
    go_wp2_with fail
    go_ret
    refine ⟨?_, hw2⟩
    rw [e0.out]
    rfl
  · have e0 : fitB f p z = false := by unfold fitB; rw [decide_eq_false hpf]; rfl
    have e1 : ((p : Int) == f) = false := by simpa using hpf
    rw [e0]
    go_enter Try.func95, Try.ntmps95
    go_wp2_with fail
    go_ret
    exact ⟨rfl, hb1⟩
theorem l4Fits_any (f b : Int) (A : Option Addr) (n c : Nat) (D : Option Addr) (p dc : Nat) (z : Nat → Int) (w : World) (hd : Rd w w.heap.size D p z) (hp : p ≤ 4194304) :
    Calls Try.prog 96 #[enV f b A n c, .slice D p dc] w fun e w' => e = .returned (.bool (fitB f p z)) ∧ Below w.heap.size w w' := by
  have hb1 := (Below.refl w.heap.size w).alloc (Nat.le_refl _) (.cells #[.int .i64 f, .int .i64 b, .slice A n c] 54)
  have hd1 := hd.to hb1 hb1.size
  cases hdc : docB p z with
  | false =>
    have e0 : fitB f p z = false := by unfold fitB; rw [hdc, Bool.and_false]
    have HD := hid hdc
    rw [e0]
    clear hdc
    go_enter Try.func96, Try.ntmps96
    go_wp2_with fail
    refine (sDocOk_any D p dc z _ hd1 hp).mono ?_
    rintro e w2 ⟨rfl, rfl⟩
    rw [HD.out]
    go_wp2_with fail
    go_ret
    exact ⟨rfl, hb1⟩
  | true =>
    have e0 : Hid (fitB f p z = ((p : Int) == f)) := by
      show _ = _
      unfold fitB
      rw [hdc, Bool.and_true]
      by_cases hpf : (p : Int) = f
      · rw [decide_eq_true hpf]; exact (by simpa using hpf : ((p : Int) == f) = true).symm
      · rw [decide_eq_false hpf]; exact (by simpa using hpf : ((p : Int) == f) = false).symm
    have HD := hid hdc
    clear hdc
    go_enter Try.func96, Try.ntmps96
    go_wp2_with fail
    refine (sDocOk_any D p dc z _ hd1 hp).mono ?_
    rintro e w2 ⟨rfl, rfl⟩
    rw [HD.out]
    go_wp2_with fail
    go_ret
    exact ⟨by rw [e0.out]; rfl, hb1⟩

set_option maxRecDepth 100000 in
set_option maxHeartbeats 2000000 in
theorem iFull_yes (f b : Int) (A : Option Addr) (n c : Nat) (len : Nat → Nat) (g : Nat → Nat → Nd) (D : Option Addr) (p dc : Nat) (z : Nat → Int) (w : World) (h : RdT w w.heap.size A n len g) (hd : Rd w w.heap.size D p z) (hn : n ≤ 4194304) (hlen : Hid (∀ i, i < n → len i ≤ 4194304)) (hp : p ≤ 4194304) (hy : ensB f b n len g = true) (hf : fitB f p z = true) :
    Calls Try.prog 42 #[enV f b A n c, .slice D p dc] w fun e w' => e = .returned (.tuple #[.int .i64 (b + sumT (scF g z) n), .bool true]) ∧ Below w.heap.size w w' := by
  obtain ⟨qf, qb, q12, qt⟩ := ensB_iff.1 hy
  obtain ⟨hpf, hdoc⟩ : (p : Int) = f ∧ docB p z = true := by unfold fitB at hf; simpa using hf
  have HT := hid qt
  have HY := hid hy
  have HF := hid hf
  have HD := hid hdoc
  have HP := hid hpf
  have HL := hid (sumT_bound (p := scF g z) (n := n) fun i hi => lvv_bound z (qt i hi))
  clear hy qt hf hdoc hpf
  have hb1 := (Below.refl w.heap.size w).alloc (Nat.le_refl _) (.cells #[.int .i64 f, .int .i64 b, .slice A n c] 54)
  have hE1 := Blk.new w 54 #[.int .i64 f, .int .i64 b, .slice A n c]
  have h1 := h.to hb1 hb1.size
  have hd1 := hd.to hb1 hb1.size
  go_enter Try.func42, Try.ntmps42
  go_wp2_with fail
  refine (iEnsOk_any f b A n c len g _ h1 hn hlen).mono ?_
  rintro e w2 ⟨rfl, hb2⟩
  rw [HY.out]
  have hw2 := hb1.trans (hb2.mono hb1.size)
  have hE2 := hE1.below hb2 hE1.lt
  have h2 := h1.to hb2 hb2.size
  have hd2 := hd1.to hb2 hb2.size
  clear hb1 hb2 h1 hE1 hd1
  obtain ⟨c0, c1, c2, _, _, _⟩ := blk_cells3 hE2
  go_wp2_with fail
  refine (hasDoc_any f b A n c D p dc z _ hd2 hp).mono ?_
  rintro e w3 ⟨rfl, hb3⟩
  rw [HF.out]
  have hw3 := hw2.trans (hb3.mono hw2.size)
  have hE3 := hE2.below hb3 hE2.lt
  have h3 := h2.to hb3 hb3.size
  have hd3 := hd2.to hb3 hb3.size
  clear hw2 hb3 h2 hE2 hd2 c0 c1 c2
  obtain ⟨c0, c1, c2, _, _, _⟩ := blk_cells3 hE3
  go_wp2_with fail
  go_loopw [6, 23] (fun sc i wr => ∃ k : Nat, k ≤ n ∧ i = .int .i64 k ∧ sc = .int .i64 (b + sumT (scF g z) k) ∧ Below w3.heap.size w3 wr) (fun _ i _ => n - (intOf i).toNat)
  case atStart => exact ⟨0, Nat.zero_le _, rfl, by simp [sumT], Below.refl _ _⟩
  case round =>
    obtain ⟨k, hk, rfl, rfl, hbl⟩ := hrel
    have hwr := hw3.trans (hbl.mono hw3.size)
    by_cases hlt : k < n
    · obtain ⟨bb, off, Ai, ci, rfl, hbb, hc, hrd⟩ := (h3.below hbl).at_ hlt
      have hl : (k : Int) < (n : Int) := by omega
      have hl0 : (0 : Int) ≤ (k : Int) := by omega
      have B1 := HL.out k hk
      have B3 := lvv_bound z (HT.out k hlt)
      have s1 : Hid (sumT (scF g z) (k + 1) = sumT (scF g z) k + lvv (g k) z) := rfl
      have htp : Hid (treeB (g k) (len k) (p : Int) = true) := by show _ = _; rw [HP.out]; exact HT.out k hlt
      have hrd' := hrd.more hbl.size
      go_wp2_with fail
      refine (iLeaf_yes Ai D (len k) ci p dc (g k) z _ hrd' (hd3.to hbl hbl.size) (hlen.out k hlt) HD.out htp.out).mono ?_
      rintro e w5 ⟨T, hE, rfl, hb5⟩
      have hTree := (treeB_iff (g k) (len k) p).1 htp.out
      have hlk := hTree.2.1
      obtain ⟨T2, hT2, hE2'⟩ := ends_some z hTree.up (by omega)
      obtain rfl := hE.same hE2'
      have hv := lvv_is hE (by omega)
      obtain ⟨_, ha⟩ := itr_up z hTree.up (by omega) T hE.1
      have hsq : seqZ (g k) z T = ((itr (g k) z T : Nat) : Int) := rfl
      obtain ⟨b', off', rfl, hb', d0, d1, d2, d3, d4, d5⟩ := (hrd'.to hb5 hb5.size).at_ ha
      rw [← hv] at d5
      rw [hsq]
      have hbl5 := hbl.trans (hb5.mono hbl.size)
      clear hE hE2' hv hsq hTree hb5 hbl hrd hrd' hc hwr d0 d1 d2 d3 d4 hT2
      generalize itr (g k) z T = a at *
      have ha' : (a : Int) < (len k : Int) := by omega
      have ha0 : (0 : Int) ≤ (a : Int) := by omega
      generalize lvv (g k) z = v at *
      generalize sumT (scF g z) k = X at *
      have kb : (k : Int) ≤ 12 := by omega
      have z1 : -13000000000 ≤ b + X + v ∧ b + X + v ≤ 13000000000 := by omega
      obtain ⟨z1a, z1b⟩ := z1
      have w1 : IntKind.i64.wrap (b + X + v) = b + X + v := IntWalk.i64_in _ (by omega)
      go_wp2_with fail
      go_roundw
      case rel => exact ⟨k + 1, by omega, by go_num, (by rw [s1.out, Int.add_assoc]), hbl5⟩
      case measure => simp [intOf]; omega
    · have e : k = n := by omega
      go_wp2_with fail
      go_ret2
      subst e
      exact ⟨rfl, hwr⟩
end Go.Proofs.Ytnhbgagdppbldaa
