/- Classify of the other side. -/
import Derived.Test.YtlgomifpohdniaaGreatStP
import Derived.Deep.RegionHeld3
namespace Go.Proofs.YtlgomifpohdniaaGreat
open Go.RowKit Go.Deep
set_option linter.unusedVariables false
set_option linter.unusedSimpArgs false

/-- The boxes: e, p, the answer, the state. -/
def Q3 (S : Nat) (w0 : World) (ec pc : Array Value) (W : World) : Prop := Blk W S 26 ec ∧ Blk W (S + 1) 29 pc ∧ Blk W (S + 1 + 1) 33 #[.int .i64 0, .int .i64 0, .int .i64 0] ∧ Below w0.heap.size w0 W
def Q4 (S : Nat) (w0 : World) (ec pc : Array Value) (G : Nat) (sc : Array Value) (W : World) : Prop := Q3 S w0 ec pc W ∧ Blk W G 33 sc
section
variable {S G b2 oo : Nat} {w0 W : World} {ec pc sc : Array Value} {x0 x1 x2 y0 y1 y2 y3 v : Value}
theorem stb_Q3 : Stb (Q3 S w0 ec pc) := stb_blk.and (stb_blk.and (stb_blk.and stb_bel))
theorem stb_Q4 : Stb (Q4 S w0 ec pc G sc) := stb_Q3.and stb_blk
theorem Q3.bel (h : Q3 S w0 ec pc W) : Below w0.heap.size w0 W := h.2.2.2
theorem Q4.bel (h : Q4 S w0 ec pc G sc W) : Below w0.heap.size w0 W := h.1.2.2.2
theorem Q3.new (w : World) (hS : w.heap.size = S) (ec pc : Array Value) : Q3 S w ec pc (((w.alloc (.cells ec 26)).alloc (.cells pc 29)).alloc (.cells #[.int .i64 0, .int .i64 0, .int .i64 0] 33)) := by
  subst hS
  exact ⟨((Blk.new w _ _).alloc _).alloc _, (Blk.new2 w _ _ _).alloc _, Blk.new3 w _ _ _ _, (((Below.refl _ w).alloc (Nat.le_refl _) _).alloc (by simp) _).alloc (by simp; omega) _⟩
theorem q4_cells (h : Q4 S w0 #[x0, x1, x2] #[y0, y1, y2, y3] G sc W) (hc : w0.cell? ⟨b2, oo, none⟩ = some v) (hb : b2 < w0.heap.size) : W.cell? ⟨S, 0, none⟩ = some x0 ∧ W.cell? ⟨S, 1, none⟩ = some x1 ∧ W.cell? ⟨S, 2, none⟩ = some x2 ∧ W.cell? ⟨S + 1, 0, none⟩ = some y0 ∧ W.cell? ⟨S + 1, 1, none⟩ = some y1 ∧ W.cell? ⟨S + 1, 2, none⟩ = some y2 ∧ W.cell? ⟨S + 1, 3, none⟩ = some y3 ∧ W.cell? ⟨b2, oo, none⟩ = some v := ⟨h.1.1.cell 0, h.1.1.cell 1, h.1.1.cell 2, h.1.2.1.cell 0, h.1.2.1.cell 1, h.1.2.1.cell 2, h.1.2.1.cell 3, (h.bel.cell (p := ⟨b2, oo, none⟩) hb).trans hc⟩
theorem Q4.set {s0 s1 s2 : Value} (h : Q4 S w0 ec pc G #[s0, s1, s2] W) (u0 u1 u2 : Value) (hS : w0.heap.size ≤ S) (hG : S + 1 + 1 < G) : Q4 S w0 ec pc G #[u0, u1, u2] (((W.setCell ⟨G, 0, none⟩ u0).setCell ⟨G, 1, none⟩ u1).setCell ⟨G, 2, none⟩ u2) := by
  have hk : ∀ x, x ≠ G → (((W.setCell ⟨G, 0, none⟩ u0).setCell ⟨G, 1, none⟩ u1).setCell ⟨G, 2, none⟩ u2).heap[x]? = W.heap[x]? := fun x q =>
    (Below.heap_setCell _ ⟨G, 2, none⟩ _ x q).trans ((Below.heap_setCell _ ⟨G, 1, none⟩ _ x q).trans (Below.heap_setCell _ ⟨G, 0, none⟩ _ x q))
  exact ⟨⟨(hk _ (by omega)).trans h.1.1, (hk _ (by omega)).trans h.1.2.1, (hk _ (by omega)).trans h.1.2.2.1, ((h.bel.setCell (p := ⟨G, 0, none⟩) (by show w0.heap.size ≤ G; omega) _).setCell (p := ⟨G, 1, none⟩) (by show w0.heap.size ≤ G; omega) _).setCell (p := ⟨G, 2, none⟩) (by show w0.heap.size ≤ G; omega) _⟩, ((h.2.set_ 0 u0).set_ 1 u1).set_ 2 u2⟩
theorem Q3.put (h : Q3 S w0 ec pc W) (u0 u1 u2 : Value) (hS : w0.heap.size ≤ S) :
    Blk (((W.setCell ⟨S + 1 + 1, 0, none⟩ u0).setCell ⟨S + 1 + 1, 1, none⟩ u1).setCell ⟨S + 1 + 1, 2, none⟩ u2) (S + 1 + 1) 33 #[u0, u1, u2] ∧ Below w0.heap.size w0 (((W.setCell ⟨S + 1 + 1, 0, none⟩ u0).setCell ⟨S + 1 + 1, 1, none⟩ u1).setCell ⟨S + 1 + 1, 2, none⟩ u2) :=
  ⟨((h.2.2.1.set_ 0 u0).set_ 1 u1).set_ 2 u2, ((h.bel.setCell (p := ⟨S + 1 + 1, 0, none⟩) (by show w0.heap.size ≤ S + 1 + 1; omega) _).setCell (p := ⟨S + 1 + 1, 1, none⟩) (by show w0.heap.size ≤ S + 1 + 1; omega) _).setCell (p := ⟨S + 1 + 1, 2, none⟩) (by show w0.heap.size ≤ S + 1 + 1; omega) _⟩
end

set_option maxRecDepth 100000 in
set_option maxHeartbeats 4000000 in
theorem sClassify_no (f b : Int) (A : Option Addr) (n c : Nat) (len : Nat → Nat) (g : Nat → Nat → Nd) (A1 : Option Addr) (n1 c1 : Nat) (z1 : Nat → Int) (A2 : Option Addr) (n2 c2 : Nat) (z2 : Nat → Int) (A3 : Option Addr) (n3 c3 : Nat) (z3 : Nat → Int) (A4 : Option Addr) (n4 c4 : Nat) (z4 : Nat → Int) (D : Option Addr) (p dc : Nat) (z : Nat → Int) (t : Int) (w : World)
    (hr : RdT w w.heap.size A n len g) (hp : RdP w w.heap.size A1 n1 z1 A2 n2 z2 A3 n3 z3 A4 n4 z4) (hd : Rd w w.heap.size D p z) (hn : n ≤ 4194304) (hlen : Hid (∀ i, i < n → len i ≤ 4194304)) (k1 : n1 ≤ 9223372036854775807) (k2 : n2 ≤ 9223372036854775807) (k3 : n3 ≤ 9223372036854775807) (k4 : n4 ≤ 9223372036854775807) (hpp : p ≤ 4194304) (hV : clOk f b n len g n1 z1 n2 z2 n3 z3 n4 z4 p z t = false) :
    Calls Tryz.prog 18 #[enV f b A n c, plV A1 n1 c1 A2 n2 c2 A3 n3 c3 A4 n4 c4, .slice D p dc, .int .i64 t] w (ClPost b n g z1 n2 z2 z3 z4 z t false w) := by
  have HV := hid hV
  clear hV
  obtain ⟨S, hS⟩ : ∃ S, w.heap.size = S := ⟨_, rfl⟩
  have hG := Q3.new w hS #[.int .i64 f, .int .i64 b, .slice A n c] #[.slice A1 n1 c1, .slice A2 n2 c2, .slice A3 n3 c3, .slice A4 n4 c4]
  obtain ⟨Q, hQ⟩ : ∃ Q, (planB f b n len g n1 z1 n2 z2 n3 z3 n4 z4 && fitB f p z) = Q := ⟨_, rfl⟩
  have HQ := hid hQ
  clear hQ
  go_enter Tryz.func18, Tryz.ntmps18
  go_wp2_with fail
  obtain ⟨W0, hW0⟩ : ∃ W, ((w.alloc (.cells #[.int .i64 f, .int .i64 b, .slice A n c] 26)).alloc (.cells #[.slice A1 n1 c1, .slice A2 n2 c2, .slice A3 n3 c3, .slice A4 n4 c4] 29)).alloc (.cells #[.int .i64 0, .int .i64 0, .int .i64 0] 33) = W := ⟨_, rfl⟩
  rw [hW0] at hG ⊢
  try rw [hS]
  clear hW0
  have hB := hG.bel
  with_reducible refine Calls.mono (l7Form_any f b A n c len g A1 n1 c1 z1 A2 n2 c2 z2 A3 n3 c3 z3 A4 n4 c4 z4 D p dc z W0 (hr.to hB hB.size) (hp.to hB hB.size) (hd.to hB hB.size) hn hlen k1 k2 k3 k4 hpp) ?_
  rintro e w1 ⟨rfl, hb1⟩
  rw [HQ.out]
  have hG1 := stb_Q3 _ _ hG hb1
  clear hG hB hb1
  obtain ⟨s0, s1, s2, f0, f1, f2⟩ := blk_cells3 hG1.2.2.1
  have HF := hid (hG1.put (.int .i64 0) (.int .i64 0) (.int .i64 0) (Nat.le_of_eq hS))
  clear hG1
  cases Q with
  | false =>
    go_wp2_with fail
    (try simp only [Exit.inBlock, Exit.then])
    refine bodyPost_ret (results_tct rfl _ _ (S + 1 + 1) 33 #[.int .i64 0, .int .i64 0, .int .i64 0] (0, 0) _ rfl HF.out.1 Tryz.underlying33 rfl size_state) rfl ?_
    exact ⟨false, 0, 0, 0, rfl, HF.out.2, fun _ => ⟨rfl, rfl, rfl, rfl⟩, fun h => by cases h⟩
  | true =>
    go_wp2_with fail
    refine (In_any t (-100000000000) 100000000000 _).mono ?_
    rintro e w2 ⟨rfl, rfl⟩
    have hsc : (decide (-100000000000 ≤ t) && decide (t ≤ 100000000000)) = false := by
      have h := HV.out
      unfold clOk at h
      rw [HQ.out, Bool.true_and] at h
      exact h
    rw [hsc]
    clear hsc
    go_wp2_with fail
    (try simp only [Exit.inBlock, Exit.then])
    refine bodyPost_ret (results_tct rfl _ _ (S + 1 + 1) 33 #[.int .i64 0, .int .i64 0, .int .i64 0] (0, 0) _ rfl HF.out.1 Tryz.underlying33 rfl size_state) rfl ?_
    exact ⟨false, 0, 0, 0, rfl, HF.out.2, fun _ => ⟨rfl, rfl, rfl, rfl⟩, fun h => by cases h⟩

set_option maxRecDepth 100000 in
set_option maxHeartbeats 8000000 in
theorem sClassify_yes (f b : Int) (A : Option Addr) (n c : Nat) (len : Nat → Nat) (g : Nat → Nat → Nd) (A1 : Option Addr) (n1 c1 : Nat) (z1 : Nat → Int) (A2 : Option Addr) (n2 c2 : Nat) (z2 : Nat → Int) (A3 : Option Addr) (n3 c3 : Nat) (z3 : Nat → Int) (A4 : Option Addr) (n4 c4 : Nat) (z4 : Nat → Int) (D : Option Addr) (p dc : Nat) (z : Nat → Int) (t : Int) (w : World)
    (hr : RdT w w.heap.size A n len g) (hp : RdP w w.heap.size A1 n1 z1 A2 n2 z2 A3 n3 z3 A4 n4 z4) (hd : Rd w w.heap.size D p z) (hn : n ≤ 4194304) (hlen : Hid (∀ i, i < n → len i ≤ 4194304)) (k1 : n1 ≤ 9223372036854775807) (k2 : n2 ≤ 9223372036854775807) (k3 : n3 ≤ 9223372036854775807) (k4 : n4 ≤ 9223372036854775807) (hpp : p ≤ 4194304) (hV : clOk f b n len g n1 z1 n2 z2 n3 z3 n4 z4 p z t = true) :
    Calls Tryz.prog 18 #[enV f b A n c, plV A1 n1 c1 A2 n2 c2 A3 n3 c3 A4 n4 c4, .slice D p dc, .int .i64 t] w (ClPost b n g z1 n2 z2 z3 z4 z t true w) := by
  obtain ⟨S, hS⟩ : ∃ S, w.heap.size = S := ⟨_, rfl⟩
  have hG := Q3.new w hS #[.int .i64 f, .int .i64 b, .slice A n c] #[.slice A1 n1 c1, .slice A2 n2 c2, .slice A3 n3 c3, .slice A4 n4 c4]
  unfold clOk at hV
  rw [Bool.and_eq_true, Bool.and_eq_true] at hV
  obtain ⟨⟨hyes, hfit⟩, hsc⟩ := hV
  have hEn := (planB_says hyes).1
  have hn1e := (planB_says hyes).2.1
  have hord : ordO z1 n n = true := by have := hyes; unfold planB at this; simp only [Bool.and_eq_true] at this; exact this.2.1.2
  have hEA : EndsAt z2 n2 n := by have := hyes; unfold planB at this; simp only [Bool.and_eq_true] at this; exact endsAt_of this.2.2.1
  obtain ⟨hf6, hbias, hn12, hT⟩ := ensB_iff.1 hEn
  obtain ⟨-, -, g3, g4, -, gz3, gz4, -, -, hbd⟩ := planB_says hyes
  have h1' : Rd w w.heap.size A1 n1 fun i => (ordN z1 i : Nat) := by
    have q := hp.1
    rw [hn1e] at q ⊢
    exact ordN_rd q hord
  have ho : Hid (∀ i, i < n1 → ordN z1 i < n) := fun i hi => ordN_lt hord i (by omega)
  have hq6 : (p : Int) = f ∧ docB p z = true := by unfold fitB at hfit; simpa using hfit
  have hp6 : p ≤ 6 := by omega
  have ht : Hid (∀ i, i < n → treeB (g i) (len i) p = true) := fun i hi => by rw [hq6.1]; exact hT i hi
  have hdoc := hid hq6.2
  have HN1 := hid hn1e
  have HEA := hid hEA
  have HBD : Hid (∀ i, i ≤ n1 → (-12000000000 ≤ z3 i ∧ z3 i ≤ 12000000000) ∧ (-12000000000 ≤ z4 i ∧ z4 i ≤ 12000000000)) := fun i hi => hbd i (by omega)
  have hn3 : n1 + 1 ≤ n3 ∧ n3 ≤ 20 := by omega
  have hn4 : n1 + 1 ≤ n4 ∧ n4 ≤ 20 := by omega
  have hn1' : n1 ≤ 12 := by omega
  have hn2' : n2 ≤ 4194304 := by have := hEA.len; omega
  have HZ := hid (⟨gz3, gz4⟩ : z3 n = 0 ∧ z4 n = 0)
  have HQ : Hid ((planB f b n len g n1 z1 n2 z2 n3 z3 n4 z4 && fitB f p z) = true) := by show _ = true; rw [hyes, hfit]; rfl
  have HSC : Hid ((decide (-100000000000 ≤ t) && decide (t ≤ 100000000000)) = true) := hsc
  have HS := hid (sumT_bound (p := scO g (ordN z1) z) (n := n1) fun i hi => lvv_bound z (ht.out (ordN z1 i) (ho.out i hi)))
  clear hyes hfit hsc hEn hn1e hord hEA hT g3 g4 gz3 gz4 hbd hq6 hf6
  go_enter Tryz.func18, Tryz.ntmps18
  go_wp2_with fail
  obtain ⟨W0, hW0⟩ : ∃ W, ((w.alloc (.cells #[.int .i64 f, .int .i64 b, .slice A n c] 26)).alloc (.cells #[.slice A1 n1 c1, .slice A2 n2 c2, .slice A3 n3 c3, .slice A4 n4 c4] 29)).alloc (.cells #[.int .i64 0, .int .i64 0, .int .i64 0] 33) = W := ⟨_, rfl⟩
  rw [hW0] at hG ⊢
  try rw [hS]
  clear hW0
  have hB := hG.bel
  with_reducible refine Calls.mono (l7Form_any f b A n c len g A1 n1 c1 z1 A2 n2 c2 z2 A3 n3 c3 z3 A4 n4 c4 z4 D p dc z W0 (hr.to hB hB.size) (hp.to hB hB.size) (hd.to hB hB.size) hn hlen k1 k2 k3 k4 hpp) ?_
  rintro e w1 ⟨rfl, hb1⟩
  rw [HQ.out]
  have hG1 := hid (stb_Q3 _ _ hG hb1)
  clear hG hB hb1
  go_wp2_with fail
  refine (In_any t (-100000000000) 100000000000 _).mono ?_
  rintro e w2 ⟨rfl, rfl⟩
  rw [HSC.out]
  have hG2 : Q4 S w #[.int .i64 f, .int .i64 b, .slice A n c] #[.slice A1 n1 c1, .slice A2 n2 c2, .slice A3 n3 c3, .slice A4 n4 c4] w1.heap.size #[.int .i64 0, .int .i64 0, .int .i64 0] (w1.alloc (.cells #[.int .i64 0, .int .i64 0, .int .i64 0] 33)) := ⟨stb_Q3.alloc hG1.out _, Blk.new w1 _ _⟩
  have hGS : S + 1 + 1 < w1.heap.size := hG1.out.2.2.1.lt
  clear hG1
  go_wp2_with fail
  obtain ⟨W1, hW1⟩ : ∃ W, w1.alloc (.cells #[.int .i64 0, .int .i64 0, .int .i64 0] 33) = W := ⟨_, rfl⟩
  rw [hW1] at hG2 ⊢
  obtain ⟨G, hGe⟩ : ∃ G, w1.heap.size = G := ⟨_, rfl⟩
  rw [hGe] at hG2 hGS
  try rw [hGe]
  clear hW1 hGe
  go_loopw [12] (fun iv wr => ∃ i k : Nat, i ≤ n2 ∧ iv = .int .i64 (i : Nat) ∧ Hid (lastE z2 i = (k : Int)) ∧ Hid (∀ j, j < i → (fun k => enB t (b + sumT (scO g (ordN z1) z) k + z3 k) (b + sumT (scO g (ordN z1) z) k + z4 k)) (lastE z2 j).toNat = false) ∧ Hid (Q4 S w #[.int .i64 f, .int .i64 b, .slice A n c] #[.slice A1 n1 c1, .slice A2 n2 c2, .slice A3 n3 c3, .slice A4 n4 c4] G #[.int .i64 (k : Nat), .int .i64 (sumT (scO g (ordN z1) z) k), .int .i64 (sumT (csF g (ordN z1) z) k)] wr)) (fun iv _ => n2 - (intOf iv).toNat)
  case atStart => exact ⟨0, 0, Nat.zero_le _, rfl, rfl, fun j hj => absurd hj (Nat.not_lt_zero j), hG2⟩
  case round =>
    obtain ⟨i, k, hi, rfl, HK, HL, HG⟩ := hrel
    have hkn : k ≤ n1 := by have := (HEA.out.le hi).2; rw [HK.out] at this; have := HN1.out; omega
    have hbs := HS.out k hkn
    have hbz := HBD.out k hkn
    obtain ⟨Sk, hSk⟩ : ∃ s, sumT (scO g (ordN z1) z) k = s := ⟨_, rfl⟩
    obtain ⟨Qk, hQk⟩ : ∃ s, sumT (csF g (ordN z1) z) k = s := ⟨_, rfl⟩
    have HG' : Hid (Q4 S w #[.int .i64 f, .int .i64 b, .slice A n c] #[.slice A1 n1 c1, .slice A2 n2 c2, .slice A3 n3 c3, .slice A4 n4 c4] G #[.int .i64 (k : Nat), .int .i64 Sk, .int .i64 Qk] wr) := by
      have := HG.out
      rw [hSk, hQk] at this
      exact this
    rw [hSk] at hbs
    have HSK := hid hSk
    have HQK := hid hQk
    have hs1 : -100000000000 ≤ Sk ∧ Sk ≤ 100000000000 := by omega
    have hz1 : (-100000000000 ≤ z3 k ∧ z3 k ≤ 100000000000) ∧ -100000000000 ≤ z4 k ∧ z4 k ≤ 100000000000 := by omega
    clear hSk hQk hbs hbz HG
    obtain ⟨e0, e1, e2⟩ := blk_three HG'.out.1.1
    obtain ⟨p0, p1, p2, p3⟩ := blk_four HG'.out.1.2.1
    obtain ⟨s0, s1, s2⟩ := blk_three HG'.out.2
    have hB := HG'.out.bel
    go_wp2_with fail
    with_reducible refine Calls.mono (l7Bounds_any f b A n c A1 n1 c1 A2 n2 c2 A3 n3 c3 z3 A4 n4 c4 z4 k Sk Qk wr (hp.m.to hB hB.size) (hp.x.to hB hB.size) (Nat.lt_of_lt_of_le (Nat.lt_succ_of_le hkn) hn3.1) (Nat.lt_of_lt_of_le (Nat.lt_succ_of_le hkn) hn4.1) hn3.2 hn4.2 hbias hs1 hz1) ?_
    rintro e w3 ⟨rfl, hb3⟩
    have hG3 := hid (stb_Q4 _ _ HG'.out hb3)
    obtain ⟨LO, hLO⟩ : ∃ x, b + Sk + z3 k = x := ⟨_, rfl⟩
    obtain ⟨HI, hHI⟩ : ∃ x, b + Sk + z4 k = x := ⟨_, rfl⟩
    rw [hLO, hHI]
    have hen : (fun k => enB t (b + sumT (scO g (ordN z1) z) k + z3 k) (b + sumT (scO g (ordN z1) z) k + z4 k)) k = enB t LO HI := by
      show enB t (b + sumT (scO g (ordN z1) z) k + z3 k) (b + sumT (scO g (ordN z1) z) k + z4 k) = _
      rw [HSK.out, hLO, hHI]
    have HLO := hid hLO
    have HEN := hid hen
    clear hLO hHI hen HG' hb3 hB e0 e1 e2 p0 p1 p2 p3 s0 s1 s2
    have yes : enB t LO HI = true → ClAt z2 n2 n (fun k => enB t (b + sumT (scO g (ordN z1) z) k + z3 k) (b + sumT (scO g (ordN z1) z) k + z4 k)) k := fun h => cl_of_ends HEA.out hi HK.out (HEN.out.trans h) HL.out
    have HYES := hid yes
    clear yes
    by_cases h1 : LO ≥ t
    · have d1 : decide (LO ≥ t) = true := decide_eq_true h1
      have d2 : decide (t ≤ LO) = true := d1
      have hcl := HYES.out (by unfold enB; rw [d1]; rfl)
      have HCL := hid hcl
      clear hcl HYES h1
      obtain ⟨s0, s1, s2⟩ := blk_three hG3.out.2
      obtain ⟨r0, r1, r2, f0, f1, f2⟩ := blk_cells3 hG3.out.1.2.2.1
      have HFF := hid (hG3.out.1.put (.int .i64 (k : Nat)) (.int .i64 Sk) (.int .i64 Qk) (Nat.le_of_eq hS))
      go_wp2_with fail
      go_region
      go_wp2_with fail
      (try simp only [Exit.inBlock, Exit.then])
      refine bodyPost_ret (results_tct rfl _ _ (S + 1 + 1) 33 #[.int .i64 (k : Nat), .int .i64 Sk, .int .i64 Qk] (0, 0) _ rfl HFF.out.1 Tryz.underlying33 rfl size_state) rfl ?_
      refine ⟨true, (k : Nat), Sk, Qk, rfl, HFF.out.2.drew, (fun h => by cases h), fun _ => ⟨k, HCL.out, ?_, rfl, HSK.out.symm, HQK.out.symm⟩⟩
      rw [HSK.out, HLO.out]
      exact d1.symm
    have d1 : decide (LO ≥ t) = false := decide_eq_false h1
    have d2 : decide (t ≤ LO) = false := d1
    clear h1
    by_cases h2 : HI < t
    · have d3 : decide (HI < t) = true := decide_eq_true h2
      have hcl := HYES.out (by unfold enB; rw [d1, d3]; rfl)
      have HCL := hid hcl
      clear hcl HYES h2
      obtain ⟨s0, s1, s2⟩ := blk_three hG3.out.2
      obtain ⟨r0, r1, r2, f0, f1, f2⟩ := blk_cells3 hG3.out.1.2.2.1
      have HFF := hid (hG3.out.1.put (.int .i64 (k : Nat)) (.int .i64 Sk) (.int .i64 Qk) (Nat.le_of_eq hS))
      go_wp2_with fail
      go_region
      go_wp2_with fail
      (try simp only [Exit.inBlock, Exit.then])
      refine bodyPost_ret (results_tct rfl _ _ (S + 1 + 1) 33 #[.int .i64 (k : Nat), .int .i64 Sk, .int .i64 Qk] (0, 0) _ rfl HFF.out.1 Tryz.underlying33 rfl size_state) rfl ?_
      refine ⟨false, (k : Nat), Sk, Qk, rfl, HFF.out.2.drew, (fun h => by cases h), fun _ => ⟨k, HCL.out, ?_, rfl, HSK.out.symm, HQK.out.symm⟩⟩
      rw [HSK.out, HLO.out]
      exact d1.symm
    have d3 : decide (HI < t) = false := decide_eq_false h2
    have hno : (fun k => enB t (b + sumT (scO g (ordN z1) z) k + z3 k) (b + sumT (scO g (ordN z1) z) k + z4 k)) k = false := by rw [HEN.out]; unfold enB; rw [d1, d3]; rfl
    have hin : i < n2 := by
      rcases Nat.lt_or_ge i n2 with q | q
      · exact q
      · have hie : i = n2 := by omega
        have hk : (k : Int) = (n : Int) := by rw [← HK.out, hie, HEA.out.last]
        have hkn' : k = n := by omega
        have : enB t (b + sumT (scO g (ordN z1) z) k + z3 k) (b + sumT (scO g (ordN z1) z) k + z4 k) = true := by
          rw [hkn', HZ.out.1, HZ.out.2]
          exact enB_same t _
        rw [show enB t (b + sumT (scO g (ordN z1) z) k + z3 k) (b + sumT (scO g (ordN z1) z) k + z4 k) = false from hno] at this
        cases this
    have HNO := hid hno
    clear hno h2 HYES hs1 hz1
    obtain ⟨b2, o2, hA2, hb2, hc2⟩ := hp.e.at_ hin
    have hzi := (HEA.out.le (show i + 1 ≤ n2 from hin))
    have hz0 : lastE z2 (i + 1) = z2 i := rfl
    rw [hz0] at hzi
    obtain ⟨k', hk'⟩ : ∃ k' : Nat, z2 i = (k' : Int) := ⟨(z2 i).toNat, by omega⟩
    have hkn2 : k' ≤ n1 := by have := HN1.out; omega
    have HK' := hid hk'
    clear hzi hz0
    subst hA2
    have hcz : w.cell? ⟨b2, o2 + i, none⟩ = some (.int .i64 (k' : Nat)) := hc2.trans (by rw [hk'])
    have i0 : (0 : Int) ≤ (i : Int) := by omega
    have i1 : (i : Int) < (n2 : Int) := by omega
    have w1' : IntKind.i64.wrap ((i : Int) + 1) = ((i + 1 : Nat) : Int) := IntWalk.i64_in _ (by omega)
    have G0 := hid (stb_Q4.drew hG3.out)
    have S0 := hid (q4_cells G0.out hcz hb2)
    clear hk' hc2 hG3
    go_wp2_with fail
    go_region_held3 (fun w' => w'.cell? ⟨S, 0, none⟩ = some (.int .i64 f) ∧ w'.cell? ⟨S, 1, none⟩ = some (.int .i64 b) ∧ w'.cell? ⟨S, 2, none⟩ = some (.slice A n c) ∧ w'.cell? ⟨S + 1, 0, none⟩ = some (.slice A1 n1 c1) ∧ w'.cell? ⟨S + 1, 1, none⟩ = some (.slice (some ⟨b2, o2, none⟩) n2 c2) ∧ w'.cell? ⟨S + 1, 2, none⟩ = some (.slice A3 n3 c3) ∧ w'.cell? ⟨S + 1, 3, none⟩ = some (.slice A4 n4 c4) ∧ w'.cell? ⟨b2, o2 + i, none⟩ = some (.int .i64 (k' : Nat)))
      ((refine Hid.out ?_; with_reducible assumption))
      (first
        | (go_at_call 39; (with_reducible refine Calls.mono (l7To_any f b A n c len g A1 n1 c1 (ordN z1) (some ⟨b2, o2, none⟩) n2 c2 A3 n3 c3 A4 n4 c4 D p dc z k' w3.drew (hr.to G0.out.bel G0.out.bel.size) (h1'.to G0.out.bel G0.out.bel.size) (hd.to G0.out.bel G0.out.bel.size) hn12 hp6 ho ht hdoc.out hkn2 hn1') ?_); rintro e w4 ⟨rfl, hb4⟩; have x4 := stb_Q4 _ _ G0.out hb4; have S4 := hid (q4_cells x4 hcz hb2); obtain ⟨v0, v1, v2, r0, r1, r2⟩ := blk_cells3 x4.2; have x5 := x4.set (.int .i64 (k' : Nat)) (.int .i64 (sumT (scO g (ordN z1) z) k')) (.int .i64 (sumT (csF g (ordN z1) z) k')) (Nat.le_of_eq hS) hGS; have S5 := hid (q4_cells x5 hcz hb2); have X5 := hid x5; clear x4 x5 hb4))
    all_goals
      clear S0 S4 S5 G0 v0 v1 v2 r0 r1 r2
      go_wp2_with fail
      go_roundw
      case rel =>
        refine ⟨i + 1, k', hin, (by first | rfl | go_num), hid HK'.out, hid fun j hj => ?_, hid X5.out⟩
        by_cases q : j = i
        · rw [q, HK.out]
          exact HNO.out
        · exact HL.out j (by omega)
      case measure => simp [intOf]; omega
end Go.Proofs.YtlgomifpohdniaaGreat
