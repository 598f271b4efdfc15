/- The text of an answer: the law's walk. -/
import Derived.Test.YtnicnjkbjdknoaaDoorAnL
namespace Go.Proofs.YtnicnjkbjdknoaaDoor
open Go.ChangeShapes Go.RowKit Go.Deep

/-- The answer and its copy in their boxes. -/
def AB (w0 : World) (p q : Nat) (c1 c2 : Array Value) (w : World) : Prop := Blk w p 48 c1 ∧ Blk w q 53 c2 ∧ Below w0.heap.size w0 w
theorem AB.below {w0 w w' : World} {p q : Nat} {c1 c2 : Array Value} (h : AB w0 p q c1 c2 w) (hb : Below w.heap.size w w') : AB w0 p q c1 c2 w' :=
  ⟨h.1.below hb h.1.lt, h.2.1.below hb h.2.1.lt, h.2.2.trans (hb.mono h.2.2.size)⟩
theorem AB.cells {w0 w : World} {p q : Nat} {a b c d a' b' c' d' : Value} (h : AB w0 p q #[a, b, c, d] #[a', b', c', d'] w) :
    w.cell? ⟨p, 0, none⟩ = some a ∧ w.cell? ⟨p, 1, none⟩ = some b ∧ w.cell? ⟨p, 2, none⟩ = some c ∧ w.cell? ⟨p, 3, none⟩ = some d ∧ w.cell? ⟨q, 0, none⟩ = some a' ∧ w.cell? ⟨q, 1, none⟩ = some b' ∧ w.cell? ⟨q, 2, none⟩ = some c' ∧ w.cell? ⟨q, 3, none⟩ = some d' :=
  ⟨h.1.cell 0, h.1.cell 1, h.1.cell 2, h.1.cell 3, h.2.1.cell 0, h.2.1.cell 1, h.2.1.cell 2, h.2.1.cell 3⟩

/-- What each operation's value is, once it has come. -/
def FxM (X Y : Value) (co : Int) (n : Nat) (z : Nat → Int) (m : Nat) (g : Nat → Ht) (ct : Int) (j : Nat) (v : Value) (w : World) : Prop :=
  match j with
  | 0 => v = X
  | 1 => v = Y
  | 2 => ∃ b5 b6, v = anV co (some ⟨b5, 0, none⟩) n n (some ⟨b6, 0, none⟩) m m ct ∧ Row w 2 b5 n z ∧ RowH w 25 b6 m g
  | 3 => v = .bool true
  | _ => v = .bool false
theorem FxM.below {X Y : Value} {co : Int} {n : Nat} {z : Nat → Int} {m : Nat} {g : Nat → Ht} {ct : Int} {j : Nat} {v : Value} {w w' : World} (h : FxM X Y co n z m g ct j v w) (hb : Below w.heap.size w w') : FxM X Y co n z m g ct j v w' := by
  match j, h with
  | 0, h => exact h
  | 1, h => exact h
  | 2, ⟨b5, b6, e, h1, h2⟩ => exact ⟨b5, b6, e, h1.below hb h1.lt, h2.below hb h2.lt⟩
  | 3, h => exact h
  | j + 4, h => exact h

set_option maxRecDepth 100000 in
set_option maxHeartbeats 4000000 in
theorem lawAnswerText (co : Int) (A : Option Addr) (n c : Nat) (z : Nat → Int) (B : Option Addr) (m ch : Nat) (g : Nat → Ht) (ct : Int) (w : World) (h : Rd w w.heap.size A n z) (h' : RdH w w.heap.size B m g) (hin : AnIn co n z m g) (hn : n ≤ 9223372036854775807) (hm : m ≤ 9223372036854775807) (hp : Hid (Pow w w.heap.size)) :
    Calls Tryd.prog 7 #[anV co A n c B m ch ct] w fun e w' => e = .returned (.bool true) ∧ Below w.heap.size w w' := by
  have HI := hid hin
  have hb0 := (Below.refl w.heap.size w).alloc (Nat.le_refl _) (.cells (anC co A n c B m ch ct) 48)
  have hB0 := Blk.new w 48 (anC co A n c B m ch ct)
  clear hin
  go_enter Tryd.func7, Tryd.ntmps7
  go_wp2_with fail
  generalize w.alloc (.cells (anC co A n c B m ch ct) 48) = W0 at hb0 hB0 ⊢
  refine (szA_any co A n c B m ch ct _ hn hm).mono ?_
  rintro e w1 ⟨y, rfl, hy, hb1⟩
  have hw1 := hb0.trans (hb1.mono hb0.size)
  have hC1 := hB0.below hb1 hB0.lt
  clear hB0 hb0 hb1
  by_cases hlt : y < 0
  · clear hy
    go_wp2_with fail
    go_ret
    exact ⟨rfl, hw1⟩
  · have hnm : n ≤ 2097152 ∧ m ≤ 2097152 := by omega
    have HNM := hid hnm
    clear hy hnm
    have c0 : w1.cell? ⟨w.heap.size, 0, none⟩ = some (.int .i64 co) := hC1.cell 0
    have c1 : w1.cell? ⟨w.heap.size, 1, none⟩ = some (.slice A n c) := hC1.cell 1
    have c2 : w1.cell? ⟨w.heap.size, 2, none⟩ = some (.slice B m ch) := hC1.cell 2
    have c3 : w1.cell? ⟨w.heap.size, 3, none⟩ = some (.int .i64 ct) := hC1.cell 3
    go_wp2_with fail
    refine (toA_any co A n c z B m ch g ct _ (h.to hw1 hw1.size) (h'.to hw1 hw1.size) (by have := HNM.out; omega) (by have := HNM.out; omega)).mono ?_
    rintro e w2 ⟨b1, b2, rfl, hr1, hr2, hb2⟩
    have hw2 := hw1.trans (hb2.mono hw1.size)
    have hC2 := hC1.below hb2 hC1.lt
    clear hC1 hw1 hb2 c0 c1 c2 c3
    go_wp2_with fail
    refine (sAns_any co _ n n z _ m m g ct _ (hr1.rd hr1.lt) (rdh_of hr2) HI.out (by have := HNM.out; omega) (by have := HNM.out; omega)).mono ?_
    rintro e w3 ⟨rfl, hb3⟩
    have hw3 := hw2.trans (hb3.mono hw2.size)
    have hC3 := hC2.below hb3 hC2.lt
    clear hC2 hw2 hb3 hr1 hr2
    have c0 : w3.cell? ⟨w.heap.size, 0, none⟩ = some (.int .i64 co) := hC3.cell 0
    have c1 : w3.cell? ⟨w.heap.size, 1, none⟩ = some (.slice A n c) := hC3.cell 1
    have c2 : w3.cell? ⟨w.heap.size, 2, none⟩ = some (.slice B m ch) := hC3.cell 2
    have c3 : w3.cell? ⟨w.heap.size, 3, none⟩ = some (.int .i64 ct) := hC3.cell 3
    go_wp2_with fail
    refine (toA_any co A n c z B m ch g ct _ (h.to hw3 hw3.size) (h'.to hw3 hw3.size) (by have := HNM.out; omega) (by have := HNM.out; omega)).mono ?_
    rintro e w4 ⟨b3, b4, rfl, hr3, hr4, hb4⟩
    have hw4 := hw3.trans (hb4.mono hw3.size)
    have hC4 := hC3.below hb4 hC3.lt
    clear hC3 hw3 hb4 c0 c1 c2 c3
    go_wp2_with fail
    have hb5 := (Below.refl w4.heap.size w4).alloc (Nat.le_refl _) (.cells (anC co (some ⟨b3, 0, none⟩) n n (some ⟨b4, 0, none⟩) m m ct) 53)
    have hA5 : AB w w.heap.size w4.heap.size (anC co A n c B m ch ct) (anC co (some ⟨b3, 0, none⟩) n n (some ⟨b4, 0, none⟩) m m ct) (w4.alloc (.cells (anC co (some ⟨b3, 0, none⟩) n n (some ⟨b4, 0, none⟩) m m ct) 53)) :=
      ⟨hC4.alloc _, Blk.new w4 _ _, hw4.trans (hb5.mono hw4.size)⟩
    have hr5 := hr3.below hb5 hr3.lt
    have hq5 := hr4.below hb5 hr4.lt
    have hlt3 := hr3.lt
    have hlt4 := hr4.lt
    generalize w4.alloc (.cells (anC co (some ⟨b3, 0, none⟩) n n (some ⟨b4, 0, none⟩) m m ct) 53) = W5 at hb5 hA5 hr5 hq5 ⊢
    obtain ⟨Q, hQ⟩ : ∃ Q, w4.heap.size = Q := ⟨_, rfl⟩
    rw [hQ] at hA5 hlt3 hlt4 ⊢
    clear hC4 hw4 hb5 hr3 hr4
    have hp5 := hid (show Pow W5 W5.heap.size from fun W hW => hp.out W (hA5.2.2.trans (hW.mono hA5.2.2.size)))
    go_wp2_with fail
    refine (iAns_any co _ n n z _ m m g ct _ (hr5.rd hr5.lt) (rdh_of hq5) HI.out HNM.out.1 HNM.out.2 hp5).mono ?_
    rintro e w6 ⟨rfl, hb6⟩
    have D0 := hid (hA5.below hb6)
    have hr6 := hid (hr5.below hb6 hr5.lt)
    have hq6 := hid (hq5.below hb6 hq5.lt)
    clear hA5 hp5 hb6 hr5 hq5
    go_wp2_with fail
    obtain ⟨F, HF⟩ : ∃ F, Hid (F = FxM (anV co (some ⟨b3, 0, none⟩) n n (some ⟨b4, 0, none⟩) m m ct) (anV co A n c B m ch ct) co n z m g ct) := ⟨_, hid rfl⟩
    have FB : ∀ j v w w', F j v w → Below w.heap.size w w' → F j v w' := by rw [HF.out]; exact fun _ _ _ _ h hb => FxM.below h hb
    have HH : Hid (∀ W, Below w6.heap.size w6 W → AB w w.heap.size Q (anC co A n c B m ch ct) (anC co (some ⟨b3, 0, none⟩) n n (some ⟨b4, 0, none⟩) m m ct) W ∧ Rd W W.heap.size A n z ∧ RdH W W.heap.size B m g ∧ Rd W W.heap.size (some ⟨b3, 0, none⟩) n z ∧ RdH W W.heap.size (some ⟨b4, 0, none⟩) m g) := fun W hW => by
      have hAW := D0.out.below hW
      exact ⟨hAW, h.to hAW.2.2 hAW.2.2.size, h'.to hAW.2.2 hAW.2.2.size, (hr6.out.below hW hr6.out.lt).rd (hr6.out.below hW hr6.out.lt).lt, rdh_of (hq6.out.below hW hq6.out.lt)⟩
    clear D0 hr6 hq6
    refine region_inv (by kernel_rfl) (by kernel_rfl) (IvA 5 F (fun V => ⟨#[anV co A n c B m ch ct, .pointer (some ⟨w.heap.size, 0, none⟩), .bool false, .int .i64 y, .string (ansS co n z m g), .pointer (some ⟨Q, 0, none⟩), .string (ansS co n z m g), anV co A n c B m ch ct, .int .i64 1048576, .int .i64 y, .int .i64 y, .bool (decide (y < 0)), anV co A n c B m ch ct, anV co (some ⟨b1, 0, none⟩) n n (some ⟨b2, 0, none⟩) m m ct, .string (ansS co n z m g), anV co A n c B m ch ct, anV co (some ⟨b3, 0, none⟩) n n (some ⟨b4, 0, none⟩) m m ct, anV co (some ⟨b3, 0, none⟩) n n (some ⟨b4, 0, none⟩) m m ct, .string (ansS co n z m g), .string (ansS co n z m g), .string (ansS co n z m g), .bool false, V 0, V 1, V 2, V 3, V 4], []⟩) w6) (fun l a W hI => hI.1) ?_ ?_ ?_
    · exact ⟨by simp, fun _ => undef, rfl, (Below.refl w6.heap.size w6).drew, fun j hj hlj => by
        rw [Array.getD_eq_getD_getElem?, Array.getElem?_replicate] at hlj
        split at hlj <;> simp at hlj⟩
    · intro i o ho l a W hI hu hd K hK
      obtain ⟨hl, V, rfl, hW, hV⟩ := hI
      have hi : i < 5 := (Array.getElem?_eq_some_iff.1 ho).1
      obtain ⟨hAB, rA, rB, rA3, rB4⟩ := HH.out W hW
      obtain ⟨c0, c1, c2, c3, c0', c1', c2', c3'⟩ := hAB.cells
      obtain rfl | rfl | rfl | rfl | rfl : i = 0 ∨ i = 1 ∨ i = 2 ∨ i = 3 ∨ i = 4 := by omega
      all_goals
        obtain rfl := Option.some.inj ho
        rw [if_pos (by rfl)]
        refine Oper.wp_mono hK ?_
      · go_simp
        exact IvA.step F FB hl hW hV 0 (anV co (some ⟨b3, 0, none⟩) n n (some ⟨b4, 0, none⟩) m m ct) _ (by simp [updV]) (Below.refl _ _) (by rw [HF.out]; exact rfl)
      · go_simp
        exact IvA.step F FB hl hW hV 1 (anV co A n c B m ch ct) _ (by simp [updV]) (Below.refl _ _) (by rw [HF.out]; exact rfl)
      · have e1 := hV 1 (by omega) (hd ⟨1, .data⟩ (by simp) rfl)
        rw [HF.out] at e1
        have e1' : V 1 = anV co A n c B m ch ct := e1
        simp only [e1']
        go_simp
        go_at_call 25
        refine Calls.mono (toA_any co A n c z B m ch g ct W rA rB (by have := HNM.out; omega) (by have := HNM.out; omega)) ?_
        rintro e W' ⟨b5, b6, rfl, hr7, hr8, hb⟩
        exact IvA.step F FB hl hW hV 2 (anV co (some ⟨b5, 0, none⟩) n n (some ⟨b6, 0, none⟩) m m ct) _ (by simp [updV, e1']) hb (by rw [HF.out]; exact ⟨b5, b6, rfl, hr7, hr8⟩)
      · have e0 := hV 0 (by omega) (hd ⟨0, .data⟩ (by simp) rfl)
        have e2 := hV 2 (by omega) (hd ⟨2, .data⟩ (by simp) rfl)
        rw [HF.out] at e0 e2
        have e0' : V 0 = anV co (some ⟨b3, 0, none⟩) n n (some ⟨b4, 0, none⟩) m m ct := e0
        obtain ⟨b5, b6, e2', hr7, hr8⟩ := e2
        simp only [e0', e2']
        go_simp
        go_at_call 27
        refine Calls.mono (eqA_any co _ n n z _ m m g ct _ n _ m W rA3 rB4 (hr7.rd hr7.lt) (rdh_of hr8) (by have := HNM.out; omega) (by have := HNM.out; omega)) ?_
        rintro e W' ⟨rfl, hb⟩
        exact IvA.step F FB hl hW hV 3 (.bool true) _ (by simp [updV, e0', e2']) hb (by rw [HF.out]; exact rfl)
      · have e3 := hV 3 (by omega) (hd ⟨3, .data⟩ (by simp) rfl)
        rw [HF.out] at e3
        have e3' : V 3 = .bool true := e3
        simp only [e3']
        go_simp
        exact IvA.step F FB hl hW hV 4 (.bool false) _ (by simp [updV, e3']) (Below.refl _ _) (by rw [HF.out]; exact rfl)
    · intro l a W hI hall
      obtain ⟨hl, V, rfl, hW, hV⟩ := hI
      have e4 := hV 4 (by omega) (getD_in (by omega) (hall 4))
      rw [HF.out] at e4
      have e4' : V 4 = .bool false := e4
      have hfin := (HH.out W hW).1.2.2
      simp only [e4']
      clear HH HF FB
      go_wp2_with fail
      go_ret
      exact ⟨rfl, hfin⟩
/-- Hits that came in. -/
theorem isHs_of {H : Type} {enc : TypeId × Value → H} {w : World} {fuel : Nat} {v : Value} {x : DataW H × List MemPlace}
    (hf : DataW.trod enc Tryd.prog w 0 (fun _ => true) true fuel 46 [v] = some x) :
    ∃ A n c g, v = .slice A n c ∧ RdH w w.heap.size A n g ∧ (∀ i, i < n → I64 (g i).ix ∧ I64 (g i).sc) ∧ n ≤ 9223372036854775807 := by
  rcases open_slice_fields Tryd.underlying46 Tryd.underlying23 (by kernel_rfl) (by kernel_rfl) hf with ⟨hcs, _⟩ | ⟨ad, l, c, m, D, Pl, hcs, _, hl, hm, hmm, _, hcell⟩
  · simp at hcs
    subst hcs
    exact ⟨none, 0, 0, fun _ => ⟨0, 0⟩, rfl, fun h => absurd h (by omega), fun i hi => by omega, by omega⟩
  · simp at hcs
    subst hcs
    have hmc : m = c := by simpa using hmm
    subst hmc
    have one : ∀ i, i < l → ∃ d : Ht, w.cell? (ad.add (i * 2 + 0)) = some (.int .i64 d.ix) ∧ w.cell? (ad.add (i * 2 + 1)) = some (.int .i64 d.sc) ∧ I64 d.ix ∧ I64 d.sc := by
      intro i hi
      obtain ⟨ys, n, _, _, _, hff⟩ := hcell i (by omega)
      obtain ⟨v0, y0, e0, _, t0⟩ := hff 0 _ rfl
      obtain ⟨v1, y1, e1, _, t1⟩ := hff 1 _ rfl
      obtain ⟨x0, r0, _, f0⟩ := DataW.trod_int Tryd.underlying2 t0
      obtain ⟨x1, r1, _, f1⟩ := DataW.trod_int Tryd.underlying2 t1
      injection r0 with r0; injection r1 with r1
      subst r0 r1
      exact ⟨⟨x0, x1⟩, e0, e1, wf_i64 f0, wf_i64 f1⟩
    obtain ⟨g, hg⟩ : ∃ g : Nat → Ht, ∀ i, i < l → w.cell? (ad.add (i * 2 + 0)) = some (.int .i64 (g i).ix) ∧ w.cell? (ad.add (i * 2 + 1)) = some (.int .i64 (g i).sc) ∧ I64 (g i).ix ∧ I64 (g i).sc :=
      ⟨fun i => if h : i < l then Classical.choose (one i h) else ⟨0, 0⟩, fun i hi => by simp only [dif_pos hi]; exact Classical.choose_spec (one i hi)⟩
    refine ⟨some ad, l, m, g, rfl, fun hn => ?_, fun i hi => (hg i hi).2.2, by unfold maxLen at hm; omega⟩
    obtain ⟨b, off, spot⟩ := ad
    have h0 := (hg 0 hn).1
    have hs : spot = none := by simpa [Addr.add] using World.cell?_spot h0
    subst hs
    refine ⟨b, off, rfl, ?_, fun i hi => ?_⟩
    · have := cell_lt h0
      simpa [Addr.add_lit] using this
    · have := hg i hi
      simp only [Addr.add_lit] at this
      exact ⟨by simpa using this.1, by rw [Nat.add_assoc]; exact this.2.1⟩
/-- Numbers that came in. -/
theorem isIs_of {H : Type} {enc : TypeId × Value → H} {w : World} {fuel : Nat} {v : Value} {x : DataW H × List MemPlace}
    (hf : DataW.trod enc Tryd.prog w 0 (fun _ => true) true fuel 45 [v] = some x) :
    ∃ A n c z, v = .slice A n c ∧ Rd w w.heap.size A n z ∧ (∀ i, i < n → I64 (z i)) ∧ n ≤ 9223372036854775807 := by
  rcases open_ints Tryd.underlying45 Tryd.underlying2 (by kernel_rfl) hf with ⟨hcs, _⟩ | ⟨y, l, c, zs, hcs, _, hl, hm, hz, _, hcell, hwz⟩
  · simp at hcs
    subst hcs
    exact ⟨none, 0, 0, fun _ => 0, rfl, fun h => absurd h (by omega), fun i hi => by omega, by omega⟩
  · simp at hcs
    subst hcs
    have hr : IsRow .i64 w (some y) l c zs := .inr ⟨_, rfl, hl, hm, by simpa using hz, hcell, hwz⟩
    refine ⟨some y, l, c, _, rfl, hr.rd, fun i hi => ?_, hr.le⟩
    have hzl : zs.length = c := by simpa using hz
    have hiz : i < zs.length := by omega
    have e : zs.getD i 0 = zs[i] := by rw [List.getD_eq_getElem?_getD, List.getElem?_eq_getElem hiz]; rfl
    show I64 (zs.getD i 0)
    rw [e]
    exact wf_i64 (hwz _ (List.getElem_mem hiz))
/-- What came in as an answer. -/
def AnsIn (w : World) (co : Int) (A : Option Addr) (n : Nat) (z : Nat → Int) (B : Option Addr) (m : Nat) (g : Nat → Ht) : Prop :=
  AnIn co n z m g ∧ Rd w w.heap.size A n z ∧ RdH w w.heap.size B m g ∧ n ≤ 9223372036854775807 ∧ m ≤ 9223372036854775807
theorem isAns_of {H : Type} {enc : TypeId × Value → H} {w : World} {fuel : Nat} {cs : Array Value} {x : DataW H × List MemPlace}
    (hf : DataW.trod enc Tryd.prog w 0 (fun _ => true) true fuel 48 (Value.agg cs).cells.toList = some x) :
    ∃ co A n c z B m ch g ct, Value.agg cs = anV co A n c B m ch ct ∧ AnsIn w co A n z B m g := by
  have hf' : DataW.trod enc Tryd.prog w 0 (fun _ => true) true fuel 48 cs.toList = some x := hf
  obtain ⟨hl, n', hh⟩ := open_struct_fields Tryd.underlying48 (by kernel_rfl) (by kernel_rfl) hf'
  obtain ⟨v0, y0, e0, t0⟩ := hh 0 _ rfl
  obtain ⟨v1, y1, e1, t1⟩ := hh 1 _ rfl
  obtain ⟨v2, y2, e2, t2⟩ := hh 2 _ rfl
  obtain ⟨v3, y3, e3, t3⟩ := hh 3 _ rfl
  obtain ⟨x0, r0, _, f0⟩ := DataW.trod_int Tryd.underlying2 t0
  obtain ⟨A, n, c, z, r1, q1, i1, k1⟩ := isIs_of t1
  obtain ⟨B, m, ch, g, r2, q2, i2, k2⟩ := isHs_of t2
  obtain ⟨x3, r3, _, f3⟩ := DataW.trod_int Tryd.underlying2 t3
  injection r0 with r0
  injection r3 with r3
  subst r0 r1 r2 r3
  refine ⟨x0, A, n, c, z, B, m, ch, g, x3, ?_, ⟨wf_i64 f0, i1, i2⟩, q1, q2, k1, k2⟩
  have hl4 : cs.toList.length = 4 := hl
  have : cs = #[.int .i64 x0, .slice A n c, .slice B m ch, .int .i64 x3] := by
    apply Array.ext'
    apply List.ext_getElem?
    intro i
    match i with
    | 0 => exact e0
    | 1 => exact e1
    | 2 => exact e2
    | 3 => exact e3
    | i + 4 => rw [List.getElem?_eq_none (by omega), List.getElem?_eq_none (by simp)]
  rw [this]
end Go.Proofs.YtnicnjkbjdknoaaDoor
