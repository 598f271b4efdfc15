/- The list of uses: with, oldest, oldestSlot. -/
import Derived.Test.YtckhooibjmheiaaCaG
namespace Go.Proofs.Ytckhooibjmheiaa
open Go.RowKit Go.Deep
set_option linter.unusedVariables false
set_option linter.unusedSimpArgs false

def insU : List (Int × Int) → Int × Int → List (Int × Int)
  | [], x => [x]
  | y :: l, x => if y.2 ≤ x.2 then x :: y :: l else y :: insU l x
/-- The last one, and no other one was used before it. -/
def LastU (l : List (Int × Int)) (x : Int × Int) : Prop := l.getLast? = some x ∧ ∀ y ∈ l, x.2 ≤ y.2
theorem insU_ne (l : List (Int × Int)) (x : Int × Int) : insU l x ≠ [] := by
  cases l with
  | nil => simp [insU]
  | cons y l => simp only [insU]; split <;> simp
theorem insU_mem : ∀ (l : List (Int × Int)) (x y : Int × Int), y ∈ insU l x ↔ y = x ∨ y ∈ l := by
  intro l
  induction l with
  | nil => intro x y; simp [insU]
  | cons z l ih =>
    intro x y
    simp only [insU]
    split
    · simp
    · simp only [List.mem_cons, ih]
      constructor
      · rintro (h | h | h)
        · exact .inr (.inl h)
        · exact .inl h
        · exact .inr (.inr h)
      · rintro (h | h | h)
        · exact .inr (.inl h)
        · exact .inl h
        · exact .inr (.inr h)
theorem insU_last_old : ∀ (l : List (Int × Int)) (x z : Int × Int), l.getLast? = some z → z.2 ≤ x.2 → (insU l x).getLast? = some z := by
  intro l
  induction l with
  | nil => intro x z h _; simp at h
  | cons y l ih =>
    intro x z h hz
    simp only [insU]
    split
    · rw [List.getLast?_cons_cons]; exact h
    · rename_i hy
      cases l with
      | nil =>
        simp at h
        subst h
        exact absurd hz hy
      | cons y2 l2 =>
        rw [List.getLast?_cons_cons] at h
        have h2 := ih x z h hz
        cases hi : insU (y2 :: l2) x with
        | nil => exact absurd hi (insU_ne _ _)
        | cons a b => rw [List.getLast?_cons_cons, ← hi]; exact h2
theorem insU_last_new : ∀ (l : List (Int × Int)) (x : Int × Int), (∀ y ∈ l, ¬ y.2 ≤ x.2) → (insU l x).getLast? = some x := by
  intro l
  induction l with
  | nil => intro x _; rfl
  | cons y l ih =>
    intro x h
    simp only [insU]
    rw [if_neg (h y (by simp))]
    cases hi : insU l x with
    | nil => exact absurd hi (insU_ne _ _)
    | cons a b =>
      rw [List.getLast?_cons_cons, ← hi]
      exact ih x fun z hz => h z (by simp [hz])
def lstU (u : Nat → Int) : Nat → List (Int × Int)
  | 0 => []
  | k + 1 => insU (lstU u k) ((k : Int), u k)
theorem lstU_len (u : Nat → Int) : ∀ k, (lstU u k).length = k := by
  have h : ∀ (l : List (Int × Int)) x, (insU l x).length = l.length + 1 := by
    intro l
    induction l with
    | nil => intro x; rfl
    | cons y l ih => intro x; simp only [insU]; split <;> simp [ih]
  intro k
  induction k with
  | zero => rfl
  | succ k ih => simp only [lstU]; rw [h, ih]
theorem lstU_last (u : Nat → Int) : ∀ k, 0 < k → LastU (lstU u k) ((oldI u k : Nat), u (oldI u k)) := by
  intro k
  induction k with
  | zero => intro h; omega
  | succ k ih =>
    intro _
    simp only [lstU, oldI]
    by_cases hk : k = 0
    · subst hk
      exact ⟨rfl, fun y hy => by simp [lstU, insU] at hy; subst hy; exact Int.le_refl _⟩
    · rw [if_neg hk]
      obtain ⟨h1, h2⟩ := ih (by omega)
      by_cases hu : u k < u (oldI u k)
      · rw [if_pos hu]
        refine ⟨insU_last_new _ _ fun y hy => ?_, fun y hy => ?_⟩
        · have := h2 y hy
          show ¬ y.2 ≤ u k
          have h3 : u (oldI u k) ≤ y.2 := this
          omega
        · rcases (insU_mem _ _ _).1 hy with rfl | h
          · exact Int.le_refl _
          · have h3 : u (oldI u k) ≤ y.2 := h2 y h
            show u k ≤ y.2
            omega
      · rw [if_neg hu]
        refine ⟨insU_last_old _ _ _ h1 (by show u (oldI u k) ≤ u k; omega), fun y hy => ?_⟩
        rcases (insU_mem _ _ _).1 hy with rfl | h
        · show u (oldI u k) ≤ u k; omega
        · exact h2 y h

/-! ### in memory -/
def Lst (w : World) : (Nat → Prop) → Option Addr → List (Int × Int) → Prop
  | _, p, [] => p = none
  | P, p, x :: l => ∃ (b : Nat) (q : Option Addr), p = some ⟨b, 0, none⟩ ∧ P b ∧ Blk w b 186 #[.int .i64 x.1, .int .i64 x.2, .pointer q] ∧ Lst w (fun y => P y ∧ y ≠ b) q l
theorem Lst.keep {w w' : World} : ∀ {l : List (Int × Int)} {P Q : Nat → Prop} {p : Option Addr}, Lst w P p l → (∀ x, P x → w'.heap[x]? = w.heap[x]?) → (∀ x, P x → Q x) → Lst w' Q p l := by
  intro l
  induction l with
  | nil => intro P Q p h _ _; exact h
  | cons x l ih =>
    intro P Q p h hk hQ
    obtain ⟨b, q, e, hb, hB, hl⟩ := h
    exact ⟨b, q, e, hQ b hb, (hk b hb).trans hB, ih hl (fun y hy => hk y hy.1) (fun y hy => ⟨hQ y hy.1, hy.2⟩)⟩
/-- Only new blocks and those of P have changed. -/
structure Chg (P : Nat → Prop) (w w' : World) : Prop where
  os : w'.os = w.os
  tape : w'.tape = w.tape
  output : w'.output = w.output
  size : w.heap.size ≤ w'.heap.size
  block : ∀ x, x < w.heap.size → ¬ P x → w'.heap[x]? = w.heap[x]?
theorem Chg.below {P : Nat → Prop} {w w' : World} {L : Nat} (h : Chg P w w') (hL : L ≤ w.heap.size) (hP : ∀ x, P x → L ≤ x) : Below L w w' :=
  ⟨h.os, h.tape, h.output, h.size, fun x hx => h.block x (by omega) fun hp => by have := hP x hp; omega⟩
def WithAns (P : Nat → Prop) (w : World) (l : List (Int × Int)) (e : Ending) (w' : World) : Prop :=
  ∃ p', e = .returned (.pointer p') ∧ Lst w' (fun x => (P x ∨ w.heap.size ≤ x) ∧ x < w'.heap.size) p' l ∧ Chg P w w'

set_option maxHeartbeats 1000000 in
theorem with_any : ∀ (l : List (Int × Int)) (P : Nat → Prop) (p : Option Addr) (i u : Int) (w : World), Lst w P p l → (∀ x, P x → x < w.heap.size) →
    Calls Try.prog 154 #[.pointer p, .int .i64 i, .int .i64 u] w (WithAns P w (insU l (i, u))) := by
  intro l
  induction l with
  | nil =>
    intro P p i u w h hP
    obtain rfl : p = none := h
    go_enter Try.func154, Try.ntmps154
    go_wp2_with fail
    go_ret
    refine ⟨_, rfl, ⟨w.heap.size, none, rfl, ⟨.inr (Nat.le_refl _), by simp⟩, Blk.new _ _ _, rfl⟩, ⟨rfl, rfl, rfl, by simp, fun x hx _ => Below.heap_alloc _ _ x hx⟩⟩
  | cons y l ih =>
    intro P p i u w h hP
    obtain ⟨b, q, rfl, hb, hB, hl⟩ := id h
    have c1 : w.cell? ⟨b, 1, none⟩ = some (.int .i64 y.2) := hB.cell 1
    have c2 : w.cell? ⟨b, 2, none⟩ = some (.pointer q) := hB.cell 2
    have hbl := hB.lt
    by_cases hy : y.2 ≤ u
    · have he : insU (y :: l) (i, u) = (i, u) :: y :: l := by simp only [insU]; rw [if_pos hy]
      rw [he]
      have H := hid h
      clear h he c2 hl ih
      go_enter Try.func154, Try.ntmps154
      go_wp2_with fail
      go_ret
      refine ⟨_, rfl, ⟨w.heap.size, some ⟨b, 0, none⟩, rfl, ⟨.inr (Nat.le_refl _), by simp⟩, Blk.new _ _ _, H.out.keep (fun x hx => Below.heap_alloc _ _ x (hP x hx)) fun x hx => ⟨⟨.inl hx, by have := hP x hx; simp; omega⟩, by have := hP x hx; omega⟩⟩, ⟨rfl, rfl, rfl, by simp, fun x hx _ => Below.heap_alloc _ _ x hx⟩⟩
    · have he : insU (y :: l) (i, u) = y :: insU l (i, u) := by simp only [insU]; rw [if_neg hy]
      rw [he]
      have HL := hid hl
      have HIH := hid ih
      have HP := hid hP
      clear h he hl ih hP
      go_enter Try.func154, Try.ntmps154
      go_wp2_with fail
      refine (HIH.out (fun x => P x ∧ x ≠ b) q i u _ HL.out fun x hx => HP.out x hx.1).mono ?_
      rintro e w1 ⟨p1, rfl, hl1, hc⟩
      have hB1 : Blk w1 b 186 #[.int .i64 y.1, .int .i64 y.2, .pointer q] := (hc.block b hbl (fun h => h.2 rfl)).trans hB
      have d2 : w1.cell? ⟨b, 2, none⟩ = some (.pointer q) := hB1.cell 2
      have f2 := hB1.frozen 2
      have HL1 := hid hl1
      have HC := hid hc
      clear hl1 hc c1 c2
      go_wp2_with fail
      go_ret
      have hc := HC.out
      have hs := hc.size
      refine ⟨_, rfl, ⟨b, p1, rfl, ⟨.inl hb, by rw [World.size_setCell]; omega⟩, hB1.set_ 2 _, HL1.out.keep (fun x hx => Below.heap_setCell _ _ _ x ?_) fun x hx => ?_⟩, ⟨hc.os, hc.tape, hc.output, by rw [World.size_setCell]; exact hs, fun x hx hn => ?_⟩⟩
      · rcases hx.1 with h | h
        · exact h.2
        · show x ≠ b; omega
      · rcases hx.1 with h | h
        · exact ⟨⟨.inl h.1, by rw [World.size_setCell]; exact hx.2⟩, h.2⟩
        · exact ⟨⟨.inr h, by rw [World.size_setCell]; exact hx.2⟩, by omega⟩
      · exact (Below.heap_setCell _ _ _ x (by show x ≠ b; rintro rfl; exact hn hb)).trans (hc.block x hx fun h => hn h.1)

/-- How many nodes are met from a pointer on. -/
def lenU (w : World) : Nat → Value → Nat
  | 0, _ => 0
  | n + 1, .pointer (some a) => match w.cell? ⟨a.block, a.off + 2, none⟩ with
    | some (.pointer q) => 1 + lenU w n (.pointer q)
    | _ => 0
  | _ + 1, _ => 0
theorem lenU_eq {w : World} : ∀ {l : List (Int × Int)} {P : Nat → Prop} {p : Option Addr} {n : Nat}, Lst w P p l → l.length ≤ n → lenU w n (.pointer p) = l.length := by
  intro l
  induction l with
  | nil =>
    intro P p n h _
    obtain rfl : p = none := h
    cases n <;> rfl
  | cons x l ih =>
    intro P p n h hn
    obtain ⟨b, q, rfl, _, hB, hl⟩ := h
    cases n with
    | zero => simp at hn
    | succ n =>
      have c : w.cell? ⟨b, 0 + 2, none⟩ = some (.pointer q) := hB.cell 2
      simp only [lenU, c]
      rw [ih hl (by simpa using hn), List.length_cons, Nat.add_comm]
def OldAns (w : World) (x : Int × Int) (e : Ending) (w' : World) : Prop := ∃ b q, e = .returned (.pointer (some ⟨b, 0, none⟩)) ∧ Blk w b 186 #[.int .i64 x.1, .int .i64 x.2, .pointer q] ∧ w = w'
set_option maxHeartbeats 1000000 in
theorem oldest_any (l : List (Int × Int)) (P : Nat → Prop) (p : Option Addr) (x : Int × Int) (w : World) (h : Lst w P p l) (hn : l.length ≤ 100) (hx : l.getLast? = some x) :
    Calls Try.prog 155 #[.pointer p] w (OldAns w x) := by
  go_enter Try.func155, Try.ntmps155
  go_wp2_with fail
  go_loop [0] (fun t => ∃ (l' : List (Int × Int)) (P' : Nat → Prop) (p' : Option Addr), t = .pointer p' ∧ Hid (Lst w P' p' l') ∧ Hid (l'.getLast? = some x) ∧ Hid (l'.length ≤ 100)) (fun t => lenU w 100 t)
  case atStart => exact ⟨l, P, p, rfl, h, hx, hn⟩
  case round =>
    obtain ⟨l', P', p', rfl, hl, hx', hn'⟩ := hrel
    cases l' with
    | nil => exact absurd hx'.out (by simp)
    | cons y l2 =>
      obtain ⟨b, q, rfl, hb, hB, hl2⟩ := hl.out
      have c2 : w.cell? ⟨b, 2, none⟩ = some (.pointer q) := hB.cell 2
      cases l2 with
      | nil =>
        obtain rfl : q = none := hl2
        have hxy : y = x := by have := hx'.out; simpa using this
        subst hxy
        have HB := hid hB
        go_wp2_with fail
        go_ret
        exact ⟨b, none, rfl, HB.out, rfl⟩
      | cons y2 l3 =>
        have hm := lenU_eq hl.out hn'.out
        have hn2 : (y2 :: l3).length ≤ 100 := by have := hn'.out; simp only [List.length_cons] at this ⊢; omega
        have hm2 := lenU_eq hl2 hn2
        have HM := hid hm
        have HM2 := hid hm2
        have HN2 := hid hn2
        have HX2 : Hid ((y2 :: l3).getLast? = some x) := by have := hx'.out; rw [List.getLast?_cons_cons] at this; exact this
        have HL2 := hid hl2
        obtain ⟨b2, q2, rfl, _, _, _⟩ := hl2
        clear hm hm2 hn2 hl hx' hn'
        go_wp2_with fail
        go_round
        case rel => exact ⟨y2 :: l3, _, _, rfl, HL2, HX2, HN2⟩
        case measure =>
          show lenU w 100 _ < lenU w 100 _
          rw [HM.out, HM2.out]
          simp

set_option maxRecDepth 100000 in
set_option maxHeartbeats 2000000 in
theorem oldestSlot_any (cap clock : Int) (A : Option Addr) (k c : Nat) (s : Nat → Slt) (w : World) (h : RdC w w.heap.size A k s) (hk : 0 < k) (hn : k ≤ 100) :
    Calls Try.prog 95 #[caV cap clock A k c] w fun e w' => e = .returned (.int .i64 (oldI (fun i => (s i).used) k : Nat)) ∧ Below w.heap.size w w' := by
  have hb1 := (Below.refl w.heap.size w).alloc (Nat.le_refl _) (.cells #[.int .i64 cap, .int .i64 clock, .slice A k c] 26)
  have h1 := h.to hb1 hb1.size
  go_enter Try.func95, Try.ntmps95
  go_wp2_with fail
  generalize hW : w.alloc (.cells #[.int .i64 cap, .int .i64 clock, .slice A k c] 26) = W1 at hb1 h1 ⊢
  clear hW
  go_loopw [3, 9] (fun u i wr => ∃ (j : Nat) (p : Option Addr), j ≤ k ∧ i = .int .i64 j ∧ u = .pointer p ∧ Hid (Lst wr (fun x => W1.heap.size ≤ x ∧ x < wr.heap.size) p (lstU (fun i => (s i).used) j)) ∧ Below W1.heap.size W1 wr) (fun _ i _ => k - (intOf i).toNat)
  case atStart => exact ⟨0, none, Nat.zero_le _, rfl, rfl, rfl, Below.refl _ _⟩
  case round =>
    obtain ⟨j, p, hj, rfl, rfl, hl, hbl⟩ := hrel
    by_cases hlt : j < k
    · obtain ⟨bb, off, Ai, ci, rfl, hbb, c0, c1, c2, hrd⟩ := (h1.below hbl).at_ hlt
      have hi1 : (j : Int) < (k : Int) := by omega
      have hi0 : (0 : Int) ≤ (j : Int) := by omega
      have hLA : Hid (Lst (wr.alloc (.cells #[.slice Ai (s j).n ci, .int .i64 (s j).score, .int .i64 (s j).used] 37)) (fun x => W1.heap.size ≤ x ∧ x < wr.heap.size) p (lstU (fun i => (s i).used) j)) := hl.out.keep (fun x hx => Below.heap_alloc _ _ x hx.2) fun x hx => hx
      have hS := Blk.new wr 37 #[.slice Ai (s j).n ci, .int .i64 (s j).score, .int .i64 (s j).used]
      have hblA := hbl.alloc hbl.size (.cells #[.slice Ai (s j).n ci, .int .i64 (s j).score, .int .i64 (s j).used] 37)
      clear hl hrd
      go_wp2_with fail
      refine (with_any _ _ p j (s j).used _ hLA.out fun x hx => by simp; omega).mono ?_
      rintro e w2 ⟨p2, rfl, hl2, hc2⟩
      have hb2 := hblA.trans (hc2.below hblA.size fun x hx => hx.1)
      have HL2 : Hid (Lst w2 (fun x => W1.heap.size ≤ x ∧ x < w2.heap.size) p2 (lstU (fun i => (s i).used) (j + 1))) := hl2.keep (fun _ _ => rfl) fun x hx => ⟨by
        rcases hx.1 with h | h
        · exact h.1
        · have := hblA.size; omega, hx.2⟩
      clear hl2 hc2 hLA hblA hS c0 c1 c2
      go_wp2_with fail
      go_roundw
      case rel => exact ⟨j + 1, p2, by omega, by go_num, rfl, HL2, hb2⟩
      case measure => simp [intOf]; omega
    · obtain rfl : j = k := by omega
      have hlast := lstU_last (fun i => (s i).used) j hk
      have hlen : (lstU (fun i => (s i).used) j).length ≤ 100 := by rw [lstU_len]; exact hn
      have hw := hb1.trans (hbl.mono hb1.size)
      have HL := hid hlast.1
      have HN := hid hlen
      clear hlast hlen
      go_wp2_with fail
      refine (oldest_any _ _ p _ _ hl.out HN.out HL.out).mono ?_
      rintro e w2 ⟨b, q, rfl, hB, rfl⟩
      have c0 : wr.cell? ⟨b, 0, none⟩ = some (.int .i64 ((oldI (fun i => (s i).used) j : Nat) : Int)) := hB.cell 0
      clear hB
      go_wp2_with fail
      go_ret
      exact ⟨rfl, hw⟩
end Go.Proofs.Ytckhooibjmheiaa
