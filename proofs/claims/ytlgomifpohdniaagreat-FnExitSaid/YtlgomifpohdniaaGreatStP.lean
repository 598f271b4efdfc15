/- Classify of the program. -/
import Derived.Test.YtlgomifpohdniaaGreatClP
import Derived.Test.YtlgomifpohdniaaGreatStb
namespace Go.Proofs.YtlgomifpohdniaaGreat
open Go.RowKit Go.Deep
set_option linter.unusedVariables false
set_option linter.unusedSimpArgs false

theorem results_tct {P : Program} {fn : Func} {u p v : Tmp} {ty : TypeId} (h : fn.results = #[.tmp u, .cell p ty, .tmp v]) (tmps : Array Value) (w : World) (g : Nat) (t : TypeId) (cs : Array Value) (fr : Nat × Nat) (d : TypeDesc)
    (hp : tmps.getD p undef = .pointer (some ⟨g, 0, none⟩)) (hg : w.heap[g]? = some (.cells cs t fr))
    (hu : P.underlying ty = some d) (hd : (match d with | .struct _ | .array _ _ => true | _ => false) = true) (hi : (P.info? ty).map (·.size) = some cs.size) :
    (results fn tmps).run P w = .ok (.tuple #[tmps.getD u undef, .agg cs, tmps.getD v undef]) w := by
  have hp' : tmps[p]?.getD undef = .pointer (some ⟨g, 0, none⟩) := by simpa using hp
  simp [results, h, hp', asAddr, Result.andThen, run_loadVar_row w g t ty cs fr d hg hu hd hi]

theorem enB_same (t x : Int) : enB t (x + 0) (x + 0) = true := by
  unfold enB
  by_cases h : x + 0 ≥ t
  · rw [decide_eq_true h]; rfl
  · rw [decide_eq_true (by omega : x + 0 < t), Bool.or_true]
/-- Does Classify answer. -/
def clOk (f b : Int) (n : Nat) (len : Nat → Nat) (g : Nat → Nat → Nd) (n1 : Nat) (z1 : Nat → Int) (n2 : Nat) (z2 : Nat → Int) (n3 : Nat) (z3 : Nat → Int) (n4 : Nat) (z4 : Nat → Int) (p : Nat) (z : Nat → Int) (t : Int) : Bool := (planB f b n len g n1 z1 n2 z2 n3 z3 n4 z4 && fitB f p z) && scB t
/-- What Classify answers. -/
def ClPost (b : Int) (n : Nat) (g : Nat → Nat → Nd) (z1 : Nat → Int) (n2 : Nat) (z2 z3 z4 z : Nat → Int) (t : Int) (V : Bool) (w : World) (e : Ending) (w' : World) : Prop :=
  ∃ (B : Bool) (a s q : Int), e = .returned (.tuple #[.bool B, stV a s q, .bool V]) ∧ Below w.heap.size w w' ∧
    (V = false → B = false ∧ a = 0 ∧ s = 0 ∧ q = 0) ∧ (V = true → ∃ k : Nat, ClAt z2 n2 n (fun k => enB t (b + sumT (scO g (ordN z1) z) k + z3 k) (b + sumT (scO g (ordN z1) z) k + z4 k)) k ∧ B = decide (b + sumT (scO g (ordN z1) z) k + z3 k ≥ t) ∧ a = (k : Int) ∧ s = sumT (scO g (ordN z1) z) k ∧ q = sumT (csF g (ordN z1) z) k)
/-- The four boxes. -/
def C4 (S : Nat) (w0 : World) (ec pc : Array Value) (t : Int) (sc : Array Value) (W : World) : Prop :=
  Blk W S 26 ec ∧ Blk W (S + 1) 29 pc ∧ Blk W (S + 1 + 1) 2 #[.int .i64 t] ∧ Blk W (S + 1 + 1 + 1) 33 sc ∧ Below w0.heap.size w0 W
section
variable {S : Nat} {w0 W : World} {ec pc sc : Array Value} {t : Int}
theorem stb_C4 : Stb (C4 S w0 ec pc t sc) := stb_blk.and (stb_blk.and (stb_blk.and (stb_blk.and stb_bel)))
theorem C4.bel (h : C4 S w0 ec pc t sc W) : Below w0.heap.size w0 W := h.2.2.2.2
theorem C4.new (w : World) (hS : w.heap.size = S) (ec pc sc : Array Value) (t : Int) : C4 S w ec pc t sc ((((w.alloc (.cells ec 26)).alloc (.cells pc 29)).alloc (.cells #[.int .i64 t] 2)).alloc (.cells sc 33)) := by
  subst hS
  refine ⟨(((Blk.new w _ _).alloc _).alloc _).alloc _, ((Blk.new2 w _ _ _).alloc _).alloc _, (Blk.new3 w _ _ _ _).alloc _, ?_, ((((Below.refl _ w).alloc (Nat.le_refl _) _).alloc (by simp) _).alloc (by simp; omega) _).alloc (by simp; omega) _⟩
  have h := Blk.new (((w.alloc (.cells ec 26)).alloc (.cells pc 29)).alloc (.cells #[.int .i64 t] 2)) 33 sc
  simp only [World.size_alloc] at h
  exact h
theorem C4.put {x0 x1 x2 : Value} (h : C4 S w0 ec pc t #[x0, x1, x2] W) (u0 u1 u2 : Value) (hS : w0.heap.size ≤ S) :
    Blk (((W.setCell ⟨S + 1 + 1 + 1, 0, none⟩ u0).setCell ⟨S + 1 + 1 + 1, 1, none⟩ u1).setCell ⟨S + 1 + 1 + 1, 2, none⟩ u2) (S + 1 + 1 + 1) 33 #[u0, u1, u2] ∧ Below w0.heap.size w0 (((W.setCell ⟨S + 1 + 1 + 1, 0, none⟩ u0).setCell ⟨S + 1 + 1 + 1, 1, none⟩ u1).setCell ⟨S + 1 + 1 + 1, 2, none⟩ u2) :=
  ⟨((h.2.2.2.1.set_ 0 u0).set_ 1 u1).set_ 2 u2, ((h.bel.setCell (p := ⟨S + 1 + 1 + 1, 0, none⟩) (by show w0.heap.size ≤ S + 1 + 1 + 1; omega) _).setCell (p := ⟨S + 1 + 1 + 1, 1, none⟩) (by show w0.heap.size ≤ S + 1 + 1 + 1; omega) _).setCell (p := ⟨S + 1 + 1 + 1, 2, none⟩) (by show w0.heap.size ≤ S + 1 + 1 + 1; omega) _⟩
end

theorem stb_rdW {A : Option Addr} {n : Nat} {z : Nat → Int} : Stb fun W => RdW W W.heap.size A n z := fun _ _ h hb => RdW.toH h hb hb.size
theorem stb_D {G : Nat} {gc : Array Value} {Ar Aw A1 A2 A3 A4 D : Option Addr} {n m n1 n2 n3 n4 p : Nat} {zr zw zo z1 z2 z3 z4 z : Nat → Int} :
    Stb fun W => Blk W G 68 gc ∧ Rd W W.heap.size Ar n zr ∧ RdW W W.heap.size Aw m zw ∧ Rd W W.heap.size A1 n1 zo ∧ RdP W W.heap.size A1 n1 z1 A2 n2 z2 A3 n3 z3 A4 n4 z4 ∧ Rd W W.heap.size D p z :=
  stb_blk.and (stb_rd.and (stb_rdW.and (stb_rd.and (stb_rdP.and stb_rd))))

set_option maxRecDepth 100000 in
set_option maxHeartbeats 8000000 in
theorem iClassify_any (f b : Int) (A : Option Addr) (n c : Nat) (len : Nat → Nat) (g : Nat → Nat → Nd) (A1 : Option Addr) (n1 c1 : Nat) (z1 : Nat → Int) (A2 : Option Addr) (n2 c2 : Nat) (z2 : Nat → Int) (A3 : Option Addr) (n3 c3 : Nat) (z3 : Nat → Int) (A4 : Option Addr) (n4 c4 : Nat) (z4 : Nat → Int) (D : Option Addr) (p dc : Nat) (z : Nat → Int) (t : Int) (V : Bool) (w : World)
    (hr : RdT w w.heap.size A n len g) (hp : RdP w w.heap.size A1 n1 z1 A2 n2 z2 A3 n3 z3 A4 n4 z4) (hd : Rd w w.heap.size D p z) (hn : n ≤ 4194304) (hlen : Hid (∀ i, i < n → len i ≤ 4194304)) (k1 : n1 ≤ 9223372036854775807) (k2 : n2 ≤ 9223372036854775807) (k3 : n3 ≤ 9223372036854775807) (k4 : n4 ≤ 9223372036854775807) (hpp : p ≤ 4194304) (hV : Hid (clOk f b n len g n1 z1 n2 z2 n3 z3 n4 z4 p z t = V)) :
    Calls Tryz.prog 17 #[enV f b A n c, plV A1 n1 c1 A2 n2 c2 A3 n3 c3 A4 n4 c4, .slice D p dc, .int .i64 t] w (ClPost b n g z1 n2 z2 z3 z4 z t V w) := by
  obtain ⟨S, hS⟩ : ∃ S, w.heap.size = S := ⟨_, rfl⟩
  have hG := C4.new w hS #[.int .i64 f, .int .i64 b, .slice A n c] #[.slice A1 n1 c1, .slice A2 n2 c2, .slice A3 n3 c3, .slice A4 n4 c4] #[.int .i64 0, .int .i64 0, .int .i64 0] t
  obtain ⟨P, hP⟩ : ∃ P, planB f b n len g n1 z1 n2 z2 n3 z3 n4 z4 = P := ⟨_, rfl⟩
  have HP := hid hP
  clear hP
  go_enter Tryz.func17, Tryz.ntmps17
  go_wp2_with fail
  have hW0 : (((w.alloc (.cells #[.int .i64 f, .int .i64 b, .slice A n c] 26)).alloc (.cells #[.slice A1 n1 c1, .slice A2 n2 c2, .slice A3 n3 c3, .slice A4 n4 c4] 29)).alloc (.cells #[.int .i64 t] 2)).alloc (.cells #[.int .i64 0, .int .i64 0, .int .i64 0] 33) = (((w.alloc (.cells #[.int .i64 f, .int .i64 b, .slice A n c] 26)).alloc (.cells #[.slice A1 n1 c1, .slice A2 n2 c2, .slice A3 n3 c3, .slice A4 n4 c4] 29)).alloc (.cells #[.int .i64 t] 2)).alloc (.cells #[.int .i64 0, .int .i64 0, .int .i64 0] 33) := rfl
  obtain ⟨W0, hW0⟩ : ∃ W, (((w.alloc (.cells #[.int .i64 f, .int .i64 b, .slice A n c] 26)).alloc (.cells #[.slice A1 n1 c1, .slice A2 n2 c2, .slice A3 n3 c3, .slice A4 n4 c4] 29)).alloc (.cells #[.int .i64 t] 2)).alloc (.cells #[.int .i64 0, .int .i64 0, .int .i64 0] 33) = W := ⟨_, rfl⟩
  rw [hW0] at hG ⊢
  try rw [hS]
  clear hW0
  have hB := hG.bel
  cases P with
  | false =>
    have eV : V = false := by rw [← hV.out]; unfold clOk; rw [HP.out]; rfl
    subst eV
    with_reducible refine Calls.mono (staged_no f b A n c len g A1 n1 c1 z1 A2 n2 c2 z2 A3 n3 c3 z3 A4 n4 c4 z4 W0 (hr.to hB hB.size) (hp.to hB hB.size) hn hlen k1 k2 k3 k4 HP.out) ?_
    rintro e w1 ⟨rfl, hb1⟩
    have G1 := hid (stb_C4.alloc (stb_C4 _ _ hG hb1) (.cells #[.int .i64 0, .int .i64 0, .slice none 0 0, .slice none 0 0, .slice none 0 0, .slice none 0 0, .slice none 0 0, .slice none 0 0] 68))
    clear hG hB hb1
    obtain ⟨s0, s1, s2, f0, f1, f2⟩ := blk_cells3 G1.out.2.2.2.1
    have HF := hid (G1.out.put (.int .i64 0) (.int .i64 0) (.int .i64 0) (Nat.le_of_eq hS))
    clear G1
    go_wp2_with fail
    (try simp only [Exit.inBlock, Exit.then])
    refine bodyPost_ret (results_tct rfl _ _ (S + 1 + 1 + 1) 33 #[.int .i64 0, .int .i64 0, .int .i64 0] (0, 0) _ rfl HF.out.1 Tryz.underlying33 rfl size_state) rfl ?_
    exact ⟨false, 0, 0, 0, rfl, HF.out.2, fun _ => ⟨rfl, rfl, rfl, rfl⟩, fun h => by cases h⟩
  | true =>
    have hyes := HP.out
    have hEn := (planB_says hyes).1
    have hn1e := (planB_says hyes).2.1
    have hord : ordO z1 n n = true := by have := hyes; unfold planB at this; simp only [Bool.and_eq_true] at this; exact this.2.1.2
    have hEA : EndsAt z2 n2 n := by have := hyes; unfold planB at this; simp only [Bool.and_eq_true] at this; exact endsAt_of this.2.2.1
    obtain ⟨hf6, hbias, hn12, hT⟩ := ensB_iff.1 hEn
    obtain ⟨-, -, g3, g4, -, gz3, gz4, -, -, hbd⟩ := planB_says hyes
    have h1' : Rd W0 W0.heap.size A1 n1 fun i => (ordN z1 i : Nat) := by
      have q := (hp.to hB hB.size).1
      rw [hn1e] at q ⊢
      exact ordN_rd q hord
    have ho : Hid (∀ i, i < n1 → ordN z1 i < n) := fun i hi => ordN_lt hord i (by omega)
    have HL := hid (ens_len hEn)
    have HT := hid hT
    have HN1 := hid hn1e
    have HEA := hid hEA
    have HBD : Hid (∀ i, i ≤ n1 → (-12000000000 ≤ z3 i ∧ z3 i ≤ 12000000000) ∧ (-12000000000 ≤ z4 i ∧ z4 i ≤ 12000000000)) := fun i hi => hbd i (by omega)
    have hn3 : n1 + 1 ≤ n3 ∧ n3 ≤ 20 := by omega
    have hn4 : n1 + 1 ≤ n4 ∧ n4 ≤ 20 := by omega
    have hn1' : n1 ≤ 12 := by omega
    have hn2' : n2 ≤ 4194304 := by have := hEA.len; omega
    have HZ := hid (⟨gz3, gz4⟩ : z3 n = 0 ∧ z4 n = 0)
    clear hyes hEn hn1e hord hEA hT g3 g4 gz3 gz4 hbd
    with_reducible refine Calls.mono (staged_yes f b A n c len g A1 n1 c1 z1 A2 n2 c2 z2 A3 n3 c3 z3 A4 n4 c4 z4 W0 (hr.to hB hB.size) (hp.to hB hB.size) hn hlen k1 k2 k3 k4 HP.out) ?_
    rintro e w1 ⟨Ar, cr, Aw, cw, rfl, oR, oW, hb1⟩
    have hG1 := hid (stb_C4.alloc (stb_C4 _ _ hG hb1) (.cells (sgC f b Ar n cr Aw (cumT len n) cw A1 n1 c1 A2 n2 c2 A3 n3 c3 A4 n4 c4) 68))
    have hbx := (Below.refl w1.heap.size w1).alloc (Nat.le_refl _) (.cells (sgC f b Ar n cr Aw (cumT len n) cw A1 n1 c1 A2 n2 c2 A3 n3 c3 A4 n4 c4) 68)
    have hD1 : Hid (Blk (w1.alloc (.cells (sgC f b Ar n cr Aw (cumT len n) cw A1 n1 c1 A2 n2 c2 A3 n3 c3 A4 n4 c4) 68)) w1.heap.size 68 (sgC f b Ar n cr Aw (cumT len n) cw A1 n1 c1 A2 n2 c2 A3 n3 c3 A4 n4 c4) ∧ Rd (w1.alloc (.cells (sgC f b Ar n cr Aw (cumT len n) cw A1 n1 c1 A2 n2 c2 A3 n3 c3 A4 n4 c4) 68)) (w1.alloc (.cells (sgC f b Ar n cr Aw (cumT len n) cw A1 n1 c1 A2 n2 c2 A3 n3 c3 A4 n4 c4) 68)).heap.size Ar n (rootZ len) ∧ RdW (w1.alloc (.cells (sgC f b Ar n cr Aw (cumT len n) cw A1 n1 c1 A2 n2 c2 A3 n3 c3 A4 n4 c4) 68)) (w1.alloc (.cells (sgC f b Ar n cr Aw (cumT len n) cw A1 n1 c1 A2 n2 c2 A3 n3 c3 A4 n4 c4) 68)).heap.size Aw (cumT len n) (wordZ len g n) ∧ Rd (w1.alloc (.cells (sgC f b Ar n cr Aw (cumT len n) cw A1 n1 c1 A2 n2 c2 A3 n3 c3 A4 n4 c4) 68)) (w1.alloc (.cells (sgC f b Ar n cr Aw (cumT len n) cw A1 n1 c1 A2 n2 c2 A3 n3 c3 A4 n4 c4) 68)).heap.size A1 n1 (fun i => (ordN z1 i : Nat)) ∧ RdP (w1.alloc (.cells (sgC f b Ar n cr Aw (cumT len n) cw A1 n1 c1 A2 n2 c2 A3 n3 c3 A4 n4 c4) 68)) (w1.alloc (.cells (sgC f b Ar n cr Aw (cumT len n) cw A1 n1 c1 A2 n2 c2 A3 n3 c3 A4 n4 c4) 68)).heap.size A1 n1 z1 A2 n2 z2 A3 n3 z3 A4 n4 z4 ∧ Rd (w1.alloc (.cells (sgC f b Ar n cr Aw (cumT len n) cw A1 n1 c1 A2 n2 c2 A3 n3 c3 A4 n4 c4) 68)) (w1.alloc (.cells (sgC f b Ar n cr Aw (cumT len n) cw A1 n1 c1 A2 n2 c2 A3 n3 c3 A4 n4 c4) 68)).heap.size D p z) :=
      ⟨Blk.new w1 _ _, oR.to hbx hbx.size, RdW.toH oW hbx hbx.size, (h1'.to hb1 hb1.size).to hbx hbx.size, hp.to hG1.out.bel hG1.out.bel.size, hd.to hG1.out.bel hG1.out.bel.size⟩
    clear hG hB hb1 hbx oR oW h1'
    obtain ⟨x0, x1, x2⟩ := blk_three hG1.out.1
    have x3 := hG1.out.2.2.1.cell 0
    go_wp2_with fail
    obtain ⟨W1, hW1⟩ : ∃ W, w1.alloc (.cells (sgC f b Ar n cr Aw (cumT len n) cw A1 n1 c1 A2 n2 c2 A3 n3 c3 A4 n4 c4) 68) = W := ⟨_, rfl⟩
    rw [hW1] at hG1 hD1 x0 x1 x2 x3 ⊢
    obtain ⟨G, hGe⟩ : ∃ G, w1.heap.size = G := ⟨_, rfl⟩
    rw [hGe] at hD1
    try rw [hGe]
    clear hW1 hGe
    with_reducible refine Calls.mono (hasDoc_any f b A n c D p dc z W1 hD1.out.2.2.2.2.2 hpp) ?_
    rintro e w2 ⟨rfl, hb2⟩
    have hG2 := hid (stb_C4 _ _ hG1.out hb2)
    have hD2 := hid (stb_D _ _ hD1.out hb2)
    clear hG1 hD1 hb2 x0 x1 x2 x3
    have x3 : w2.cell? ⟨S + 1 + 1, 0, none⟩ = some (.int .i64 t) := hG2.out.2.2.1.cell 0
    obtain ⟨s0, s1, s2, f0, f1, f2⟩ := blk_cells3 hG2.out.2.2.2.1
    have HF0 := hid (hG2.out.put (.int .i64 0) (.int .i64 0) (.int .i64 0) (Nat.le_of_eq hS))
    obtain ⟨F, hFe⟩ : ∃ F, fitB f p z = F := ⟨_, rfl⟩
    rw [hFe]
    have HF := hid hFe
    clear hFe
    cases F with
    | false =>
      have eV : V = false := by rw [← hV.out]; unfold clOk; rw [HF.out, Bool.and_false]; rfl
      subst eV
      clear hG2 hD2
      go_wp2_with fail
      (try simp only [Exit.inBlock, Exit.then])
      refine bodyPost_ret (results_tct rfl _ _ (S + 1 + 1 + 1) 33 #[.int .i64 0, .int .i64 0, .int .i64 0] (0, 0) _ rfl HF0.out.1 Tryz.underlying33 rfl size_state) rfl ?_
      exact ⟨false, 0, 0, 0, rfl, HF0.out.2, fun _ => ⟨rfl, rfl, rfl, rfl⟩, fun h => by cases h⟩
    | true =>
      go_wp2_with fail
      refine (scoreIn_any t w2).mono ?_
      rintro e w3 ⟨rfl, rfl⟩
      obtain ⟨C, hC⟩ : ∃ C, scB t = C := ⟨_, rfl⟩
      rw [hC]
      have HC := hid hC
      clear hC
      cases C with
      | false =>
        have eV : V = false := by rw [← hV.out]; unfold clOk; rw [HC.out, Bool.and_false]
        subst eV
        clear hG2 hD2
        go_wp2_with fail
        (try simp only [Exit.inBlock, Exit.then])
        refine bodyPost_ret (results_tct rfl _ _ (S + 1 + 1 + 1) 33 #[.int .i64 0, .int .i64 0, .int .i64 0] (0, 0) _ rfl HF0.out.1 Tryz.underlying33 rfl size_state) rfl ?_
        exact ⟨false, 0, 0, 0, rfl, HF0.out.2, fun _ => ⟨rfl, rfl, rfl, rfl⟩, fun h => by cases h⟩
      | true =>
        have eV : V = true := by rw [← hV.out]; unfold clOk; rw [HP.out, HF.out, HC.out]; rfl
        subst eV
        clear HF0 s0 s1 s2 f0 f1 f2
        have hfit := HF.out
        have hq6 : (p : Int) = f ∧ docB p z = true := by unfold fitB at hfit; simpa using hfit
        have hp6 : p ≤ 6 := by omega
        have ht : Hid (∀ i, i < n → treeB (g i) (len i) p = true) := fun i hi => by rw [hq6.1]; exact HT.out i hi
        clear hq6 hfit hf6
        obtain ⟨⟨g0, g1, g2, g3, g4, g5, g6, g7⟩, _⟩ := blk_cells8 hD2.out.1
        have htb : S + 1 + 1 < w2.heap.size := hG2.out.2.2.1.lt
        go_wp2_with fail
        with_reducible refine Calls.mono (until_cl f b Ar cr Aw cw n len g A1 n1 c1 (ordN z1) A2 n2 c2 z2 A3 n3 c3 z3 A4 n4 c4 z4 D p dc z (S + 1 + 1) t w2 hD2.out.2.1 hD2.out.2.2.1 hD2.out.2.2.2.1 hD2.out.2.2.2.2.1.e hD2.out.2.2.2.2.1.m hD2.out.2.2.2.2.1.x hD2.out.2.2.2.2.2 hn12 hp6 ho ht HL hn1' hn2' hn3 hn4 hbias HBD x3 htb) ?_
        rintro e w4 ⟨k, hu, rfl, hb4⟩
        have hcl : ClAt z2 n2 n (fun k => enB t (b + sumT (scO g (ordN z1) z) k + z3 k) (b + sumT (scO g (ordN z1) z) k + z4 k)) k := by
          have hu' := hu
          rw [HN1.out] at hu'
          refine cl_of_until hu' HEA.out ?_
          show enB t (b + sumT (scO g (ordN z1) z) n + z3 n) (b + sumT (scO g (ordN z1) z) n + z4 n) = true
          rw [HZ.out.1, HZ.out.2]
          exact enB_same t _
        have hkn : k ≤ n1 := by have := hcl.1; rw [HN1.out]; exact this
        have hbs := sumT_bound (p := scO g (ordN z1) z) (n := n1) (fun i hi => lvv_bound z (ht.out (ordN z1 i) (ho.out i hi))) k hkn
        have hbz := HBD.out k hkn
        have HCL := hid hcl
        clear hcl hu
        obtain ⟨Sk, hSk⟩ : ∃ s, sumT (scO g (ordN z1) z) k = s := ⟨_, rfl⟩
        obtain ⟨Qk, hQk⟩ : ∃ s, sumT (csF g (ordN z1) z) k = s := ⟨_, rfl⟩
        rw [hSk] at hbs
        rw [hSk, hQk]
        have HSK := hid hSk
        have HQK := hid hQk
        have hs1 : -100000000000 ≤ Sk ∧ Sk ≤ 100000000000 := by omega
        have hz1 : (-100000000000 ≤ z3 k ∧ z3 k ≤ 100000000000) ∧ -100000000000 ≤ z4 k ∧ z4 k ≤ 100000000000 := by omega
        clear hSk hQk hbs hbz g0 g1 g2 g3 g4 g5 g6 g7 x3 htb
        have hG4 := hid (stb_C4.alloc (stb_C4 _ _ hG2.out hb4) (.cells #[.int .i64 (k : Nat), .int .i64 Sk, .int .i64 Qk] 33))
        have hD4 := hid (stb_D.alloc (stb_D _ _ hD2.out hb4) (.cells #[.int .i64 (k : Nat), .int .i64 Sk, .int .i64 Qk] 33))
        have hs4 := Blk.new w4 33 #[.int .i64 (k : Nat), .int .i64 Sk, .int .i64 Qk]
        clear hG2 hD2 hb4
        obtain ⟨⟨g0, g1, g2, g3, g4, g5, g6, g7⟩, _⟩ := blk_cells8 hD4.out.1
        go_wp2_with fail
        obtain ⟨W5, hW5⟩ : ∃ W, w4.alloc (.cells #[.int .i64 (k : Nat), .int .i64 Sk, .int .i64 Qk] 33) = W := ⟨_, rfl⟩
        rw [hW5] at hG4 hD4 hs4 g0 g1 g2 g3 g4 g5 g6 g7 ⊢
        obtain ⟨sb, hsb⟩ : ∃ G, w4.heap.size = G := ⟨_, rfl⟩
        rw [hsb] at hs4
        try rw [hsb]
        clear hW5 hsb
        with_reducible refine Calls.mono (sbounds_any f b Ar n cr Aw (cumT len n) cw A1 n1 c1 A2 n2 c2 A3 n3 c3 z3 A4 n4 c4 z4 k Sk Qk W5 hD4.out.2.2.2.2.1.m hD4.out.2.2.2.2.1.x (Nat.lt_of_lt_of_le (Nat.lt_succ_of_le hkn) hn3.1) (Nat.lt_of_lt_of_le (Nat.lt_succ_of_le hkn) hn4.1) hn3.2 hn4.2 hbias hs1 hz1) ?_
        rintro e w6 ⟨rfl, hb6⟩
        have hG6 := stb_C4 _ _ hG4.out hb6
        have hs6 := hs4.below hb6 hs4.lt
        obtain ⟨LO, hLO⟩ : ∃ x, b + Sk + z3 k = x := ⟨_, rfl⟩
        obtain ⟨HI, hHI⟩ : ∃ x, b + Sk + z4 k = x := ⟨_, rfl⟩
        rw [hLO, hHI]
        obtain ⟨Bv, hBv⟩ : ∃ B, decide (LO ≥ t) = B := ⟨_, rfl⟩
        have hBv2 : decide (t ≤ LO) = Bv := hBv
        have HLO := hid hLO
        have HBV := hid hBv
        clear hLO hHI hG4 hD4 hs4 hb6 g0 g1 g2 g3 g4 g5 g6 g7
        have x3 : w6.cell? ⟨S + 1 + 1, 0, none⟩ = some (.int .i64 t) := hG6.2.2.1.cell 0
        obtain ⟨s0, s1, s2⟩ := blk_three hs6
        obtain ⟨r0, r1, r2, f0, f1, f2⟩ := blk_cells3 hG6.2.2.2.1
        have HFF := hid (hG6.put (.int .i64 (k : Nat)) (.int .i64 Sk) (.int .i64 Qk) (Nat.le_of_eq hS))
        clear hG6 hs6
        go_wp2_with fail
        go_region
        go_wp2_with fail
        (try simp only [Exit.inBlock, Exit.then])
        refine bodyPost_ret (results_tct rfl _ _ (S + 1 + 1 + 1) 33 #[.int .i64 (k : Nat), .int .i64 Sk, .int .i64 Qk] (0, 0) _ rfl HFF.out.1 Tryz.underlying33 rfl size_state) rfl ?_
        refine ⟨Bv, (k : Nat), Sk, Qk, rfl, HFF.out.2.drew, (fun h => by cases h), fun _ => ⟨k, HCL.out, ?_, rfl, HSK.out.symm, HQK.out.symm⟩⟩
        rw [HSK.out, HLO.out]
        exact HBV.out.symm
end Go.Proofs.YtlgomifpohdniaaGreat
