/- StateTo of the program. -/
import Derived.Test.YtlgomifpohdniaaGreatStJ
namespace Go.Proofs.YtlgomifpohdniaaGreat
open Go.RowKit Go.Shelf Go.Deep
set_option linter.unusedVariables false
set_option linter.unusedSimpArgs false

attribute [local go_sem] Oper.semAt_some

theorem run_loadVar_bool (w : World) (a : Addr) (v : Value) (hc : w.cell? a = some v) : (loadVar 4 a).run Tryz.prog w = .ok v w := by
  simp [loadVar, Sem.run_bind, isAgg, run_underlying Tryz.underlying4, go_sem, hc]

theorem results_rb {P : Program} {fn : Func} {p q : Tmp} {ty tb : TypeId} (h : fn.results = #[.cell p ty, .cell q tb]) (tmps : Array Value) (w : World) (g g' : Nat) (t : TypeId) (cs : Array Value) (fr : Nat × Nat) (d : TypeDesc) (v : Value)
    (hp : tmps.getD p undef = .pointer (some ⟨g, 0, none⟩)) (hg : w.heap[g]? = some (.cells cs t fr)) (hq : tmps.getD q undef = .pointer (some ⟨g', 0, none⟩)) (hv : (loadVar tb ⟨g', 0, none⟩).run P w = .ok v w)
    (hu : P.underlying ty = some d) (hd : (match d with | .struct _ | .array _ _ => true | _ => false) = true) (hi : (P.info? ty).map (·.size) = some cs.size) :
    (results fn tmps).run P w = .ok (.tuple #[.agg cs, v]) w := by
  have hp' : tmps[p]?.getD undef = .pointer (some ⟨g, 0, none⟩) := by simpa using hp
  have hq' : tmps[q]?.getD undef = .pointer (some ⟨g', 0, none⟩) := by simpa using hq
  simp [results, h, hp', hq', asAddr, Result.andThen, run_loadVar_row w g t ty cs fr d hg hu hd hi, hv]

/-- The five boxes of StateTo. -/
def S5 (S : Nat) (w0 : World) (ec pc : Array Value) (a : Value) (sc : Array Value) (bb : Bool) (W : World) : Prop :=
  Blk W S 26 ec ∧ Blk W (S + 1) 29 pc ∧ Blk W (S + 1 + 1) 2 #[a] ∧ Blk W (S + 1 + 1 + 1) 33 sc ∧ Blk W (S + 1 + 1 + 1 + 1) 4 #[.bool bb] ∧ Below w0.heap.size w0 W
section
variable {S : Nat} {w0 W W' : World} {ec pc sc : Array Value} {a : Value} {bb : Bool}
theorem S5.below (h : S5 S w0 ec pc a sc bb W) (hb : Below W.heap.size W W') : S5 S w0 ec pc a sc bb W' :=
  ⟨h.1.below hb h.1.lt, h.2.1.below hb h.2.1.lt, h.2.2.1.below hb h.2.2.1.lt, h.2.2.2.1.below hb h.2.2.2.1.lt, h.2.2.2.2.1.below hb h.2.2.2.2.1.lt, h.2.2.2.2.2.trans (hb.mono h.2.2.2.2.2.size)⟩
theorem S5.bel (h : S5 S w0 ec pc a sc bb W) : Below w0.heap.size w0 W := h.2.2.2.2.2
theorem S5.stand {B : Nat} (h : S5 S w0 ec pc a sc bb W) (hb : Below B W W') (hS : S + 4 < B) (h0 : w0.heap.size ≤ B) : S5 S w0 ec pc a sc bb W' :=
  ⟨h.1.below hb (by omega), h.2.1.below hb (by omega), h.2.2.1.below hb (by omega), h.2.2.2.1.below hb (by omega), h.2.2.2.2.1.below hb (by omega), h.2.2.2.2.2.trans (hb.mono h0)⟩
theorem blk_own {B x : Nat} {t : TypeId} {cs : Array Value} {row : Option Nat} (h : Blk W x t cs) (hg : W.grownBy W' row) (hr : ∀ r, row = some r → B ≤ r ∧ ∃ o : Obj, W.heap[r]? = some o ∧ o.isCells = false) : Blk W' x t cs :=
  h.grown hg fun e => by
    obtain ⟨_, o, ho, hc⟩ := hr x e.symm
    rw [show W.heap[x]? = _ from h] at ho
    cases ho
    cases hc
theorem st_def {D : Nat} {o : Obj} (h : W.heap[D]? = some o) (u0 u1 u2 u3 : Value) (hS1 hS2 : Nat) (ho : o.isCells = false := by rfl) : ((((W.setCell ⟨hS1, 0, none⟩ u0).setCell ⟨hS1, 1, none⟩ u1).setCell ⟨hS1, 2, none⟩ u2).setCell ⟨hS2, 0, none⟩ u3).heap[D]? = some o :=
  ((((KeepsOthers.setCell W ⟨hS1, 0, none⟩ u0).trans (KeepsOthers.setCell _ ⟨hS1, 1, none⟩ u1)).trans (KeepsOthers.setCell _ ⟨hS1, 2, none⟩ u2)).trans (KeepsOthers.setCell _ ⟨hS2, 0, none⟩ u3)).same _ _ h ho
/-- The block of the deferred calls is shut: the five boxes lie as they lay. -/
theorem st_end {D : Nat} (h : S5 S w0 ec pc a sc bb W) (hD : W.heap[D]? = some (.deferred (some []))) (hw : w0.heap.size ≤ D) : S5 S w0 ec pc a sc bb (W.putObj D (.deferred none)) := by
  have hk : ∀ (x : Nat) (t : TypeId) (cs : Array Value), Blk W x t cs → Blk (W.putObj D (.deferred none)) x t cs := fun x t cs hb => (World.putObj_heap_other (fun e => by
    have h' : W.heap[x]? = _ := hb
    rw [e, hD] at h'
    cases h')).trans hb
  obtain ⟨h1, h2, h3, h4, h5, h6⟩ := h
  exact ⟨hk _ _ _ h1, hk _ _ _ h2, hk _ _ _ h3, hk _ _ _ h4, hk _ _ _ h5, h6.trans (below_put _ _ _ _ hw hD)⟩
theorem mem_ups {N : Nat} (x : Ix N) : ∀ k, k ≤ N → x.1 < k → x ∈ ups N k := by
  intro k
  induction k with
  | zero => intro _ h; omega
  | succ k ih =>
    intro hk hx
    rw [ups_succ (by omega)]
    by_cases e : x.1 = k
    · exact List.mem_append.2 (.inr (List.mem_singleton.2 (Subtype.ext e)))
    · exact List.mem_append.2 (.inl (ih (by omega) (by omega)))
theorem S5.put {x0 x1 x2 : Value} (h : S5 S w0 ec pc a #[x0, x1, x2] bb W) (u0 u1 u2 : Value) (b' : Bool) (hS : w0.heap.size ≤ S) : S5 S w0 ec pc a #[u0, u1, u2] b' ((((W.setCell ⟨S + 1 + 1 + 1, 0, none⟩ u0).setCell ⟨S + 1 + 1 + 1, 1, none⟩ u1).setCell ⟨S + 1 + 1 + 1, 2, none⟩ u2).setCell ⟨S + 1 + 1 + 1 + 1, 0, none⟩ (.bool b')) := by
  obtain ⟨h1, h2, h3, h4, h5, h6⟩ := h
  have hk : ∀ x, x ≠ S + 1 + 1 + 1 → x ≠ S + 1 + 1 + 1 + 1 → ((((W.setCell ⟨S + 1 + 1 + 1, 0, none⟩ u0).setCell ⟨S + 1 + 1 + 1, 1, none⟩ u1).setCell ⟨S + 1 + 1 + 1, 2, none⟩ u2).setCell ⟨S + 1 + 1 + 1 + 1, 0, none⟩ (.bool b')).heap[x]? = W.heap[x]? := fun x p q =>
    (Below.heap_setCell _ ⟨S + 1 + 1 + 1 + 1, 0, none⟩ _ x q).trans ((Below.heap_setCell _ ⟨S + 1 + 1 + 1, 2, none⟩ _ x p).trans ((Below.heap_setCell _ ⟨S + 1 + 1 + 1, 1, none⟩ _ x p).trans (Below.heap_setCell _ ⟨S + 1 + 1 + 1, 0, none⟩ _ x p)))
  refine ⟨(hk _ (by omega) (by omega)).trans h1, (hk _ (by omega) (by omega)).trans h2, (hk _ (by omega) (by omega)).trans h3, ((((h4.set_ 0 u0).set_ 1 u1).set_ 2 u2).far (by show S + 1 + 1 + 1 ≠ S + 1 + 1 + 1 + 1; omega) _), ?_, ?_⟩
  · exact ((((h5.far (p := ⟨S + 1 + 1 + 1, 0, none⟩) (by show S + 1 + 1 + 1 + 1 ≠ S + 1 + 1 + 1; omega) u0).far (p := ⟨S + 1 + 1 + 1, 1, none⟩) (by show S + 1 + 1 + 1 + 1 ≠ S + 1 + 1 + 1; omega) u1).far (p := ⟨S + 1 + 1 + 1, 2, none⟩) (by show S + 1 + 1 + 1 + 1 ≠ S + 1 + 1 + 1; omega) u2).set_ 0 (.bool b'))
  · exact (((h6.setCell (p := ⟨S + 1 + 1 + 1, 0, none⟩) (by show w0.heap.size ≤ S + 1 + 1 + 1; omega) _).setCell (p := ⟨S + 1 + 1 + 1, 1, none⟩) (by show w0.heap.size ≤ S + 1 + 1 + 1; omega) _).setCell (p := ⟨S + 1 + 1 + 1, 2, none⟩) (by show w0.heap.size ≤ S + 1 + 1 + 1; omega) _).setCell (p := ⟨S + 1 + 1 + 1 + 1, 0, none⟩) (by show w0.heap.size ≤ S + 1 + 1 + 1 + 1; omega) _
theorem S5.new (w : World) (hS : w.heap.size = S) (ec pc sc : Array Value) (a : Value) (bb : Bool) :
    S5 S w ec pc a sc bb (((((w.alloc (.cells ec 26)).alloc (.cells pc 29)).alloc (.cells #[a] 2)).alloc (.cells sc 33)).alloc (.cells #[.bool bb] 4)) := by
  subst hS
  refine ⟨((((Blk.new w _ _).alloc _).alloc _).alloc _).alloc _, ((((Blk.new2 w _ _ _).alloc _).alloc _).alloc _), ((Blk.new3 w _ _ _ _).alloc _).alloc _, ?_, ?_, ?_⟩
  · have h := (Blk.new (((w.alloc (.cells ec 26)).alloc (.cells pc 29)).alloc (.cells #[a] 2)) 33 sc).alloc (.cells #[.bool bb] 4)
    simp only [World.size_alloc] at h
    exact h
  · have h := Blk.new ((((w.alloc (.cells ec 26)).alloc (.cells pc 29)).alloc (.cells #[a] 2)).alloc (.cells sc 33)) 4 #[.bool bb]
    simp only [World.size_alloc] at h
    exact h
  · exact (((((Below.refl _ w).alloc (Nat.le_refl _) _).alloc (by simp) _).alloc (by simp; omega) _).alloc (by simp; omega) _).alloc (by simp; omega) _
end

set_option maxRecDepth 100000 in
set_option maxHeartbeats 4000000 in
theorem iStateTo_no (f b : Int) (A : Option Addr) (n c : Nat) (len : Nat → Nat) (g : Nat → Nat → Nd) (A1 : Option Addr) (n1 c1 : Nat) (z1 : Nat → Int) (A2 : Option Addr) (n2 c2 : Nat) (z2 : Nat → Int) (A3 : Option Addr) (n3 c3 : Nat) (z3 : Nat → Int) (A4 : Option Addr) (n4 c4 : Nat) (z4 : Nat → Int) (D : Option Addr) (p dc : Nat) (z : Nat → Int) (a : Int) (w : World)
    (hr : RdT w w.heap.size A n len g) (hp : RdP w w.heap.size A1 n1 z1 A2 n2 z2 A3 n3 z3 A4 n4 z4) (hd : Rd w w.heap.size D p z) (hn : n ≤ 4194304) (hlen : Hid (∀ i, i < n → len i ≤ 4194304)) (k1 : n1 ≤ 9223372036854775807) (k2 : n2 ≤ 9223372036854775807) (k3 : n3 ≤ 9223372036854775807) (k4 : n4 ≤ 9223372036854775807) (hpp : p ≤ 4194304)
    (hno : planB f b n len g n1 z1 n2 z2 n3 z3 n4 z4 = false) :
    Calls Tryz.prog 10 #[enV f b A n c, plV A1 n1 c1 A2 n2 c2 A3 n3 c3 A4 n4 c4, .slice D p dc, .int .i64 a] w fun e w' =>
      e = .returned (.tuple #[stV 0 0 0, .bool false]) ∧ Below w.heap.size w w' := by
  have HNO := hid hno
  clear hno
  obtain ⟨S, hS⟩ : ∃ S, w.heap.size = S := ⟨_, rfl⟩
  have hG := S5.new w hS #[.int .i64 f, .int .i64 b, .slice A n c] #[.slice A1 n1 c1, .slice A2 n2 c2, .slice A3 n3 c3, .slice A4 n4 c4] #[.int .i64 0, .int .i64 0, .int .i64 0] (.int .i64 a) false
  refine (callsIn_wide (n := 8)).1 ?_
  refine callsIn_of_wp_marks Tryz.func10 rfl trivial ?_ rfl
  simp only [Tryz.ntmps10, List.size_toArray, List.length_cons, List.length_nil, Nat.reduceAdd, Nat.reduceSub, Array.replicate_succ, Array.replicate_zero, List.push_toArray, List.append_toArray, List.nil_append, List.cons_append]
  gi_wp2_with fail
  obtain ⟨W0, hW0⟩ : ∃ W, (((((w.alloc (.cells #[.int .i64 f, .int .i64 b, .slice A n c] 26)).alloc (.cells #[.slice A1 n1 c1, .slice A2 n2 c2, .slice A3 n3 c3, .slice A4 n4 c4] 29)).alloc (.cells #[.int .i64 a] 2)).alloc (.cells #[.int .i64 0, .int .i64 0, .int .i64 0] 33)).alloc (.cells #[.bool false] 4)) = W := ⟨_, rfl⟩
  rw [hW0] at hG ⊢
  clear hW0
  have hB := hG.bel
  refine ⟨trivial, ?_⟩
  refine (callsIn_wide.2 (staged_no f b A n c len g A1 n1 c1 z1 A2 n2 c2 z2 A3 n3 c3 z3 A4 n4 c4 z4 W0 (hr.to hB hB.size) (hp.to hB hB.size) hn hlen k1 k2 k3 k4 HNO.out)).mono ?_
  rintro e w1 ⟨rfl, hb1⟩
  have G1 := hid ((hG.below hb1).below ((Below.refl _ w1).alloc (Nat.le_refl _) (.cells #[.int .i64 0, .int .i64 0, .slice none 0 0, .slice none 0 0, .slice none 0 0, .slice none 0 0, .slice none 0 0, .slice none 0 0] 68)))
  clear hG hB hb1
  obtain ⟨s0, s1, s2, f0, f1, f2⟩ := blk_cells3 G1.out.2.2.2.1
  have s3 := G1.out.2.2.2.2.1.cell 0
  have f3 := G1.out.2.2.2.2.1.frozen 0
  have HF := hid (G1.out.put (.int .i64 0) (.int .i64 0) (.int .i64 0) false (Nat.le_of_eq hS))
  gi_wp2_with fail
  refine ⟨trivial, ?_⟩
  gi_wp2_with fail
  (try simp only [Exit.inBlock, Exit.then])
  exact ⟨_, results_rb rfl _ _ (S + 1 + 1 + 1) (S + 1 + 1 + 1 + 1) 33 #[.int .i64 0, .int .i64 0, .int .i64 0] (0, 0) _ (.bool false) rfl HF.out.2.2.2.1 rfl (run_loadVar_bool _ _ _ (HF.out.2.2.2.2.1.cell 0)) Tryz.underlying33 rfl size_state, rfl, HF.out.bel⟩

set_option maxRecDepth 100000 in
set_option maxHeartbeats 4000000 in
theorem iStateTo_yes (f b : Int) (A : Option Addr) (n c : Nat) (len : Nat → Nat) (g : Nat → Nat → Nd) (A1 : Option Addr) (n1 c1 : Nat) (z1 : Nat → Int) (A2 : Option Addr) (n2 c2 : Nat) (z2 : Nat → Int) (A3 : Option Addr) (n3 c3 : Nat) (z3 : Nat → Int) (A4 : Option Addr) (n4 c4 : Nat) (z4 : Nat → Int) (D : Option Addr) (p dc : Nat) (z : Nat → Int) (a : Int) (V : Bool) (w : World)
    (hr : RdT w w.heap.size A n len g) (hp : RdP w w.heap.size A1 n1 z1 A2 n2 z2 A3 n3 z3 A4 n4 z4) (hd : Rd w w.heap.size D p z) (hn : n ≤ 4194304) (hlen : Hid (∀ i, i < n → len i ≤ 4194304)) (k1 : n1 ≤ 9223372036854775807) (k2 : n2 ≤ 9223372036854775807) (k3 : n3 ≤ 9223372036854775807) (k4 : n4 ≤ 9223372036854775807) (hpp : p ≤ 4194304)
    (hyes : planB f b n len g n1 z1 n2 z2 n3 z3 n4 z4 = true) (hV : Hid (stOk f b n len g n1 z1 n2 z2 n3 z3 n4 z4 p z a = V)) :
    Calls Tryz.prog 10 #[enV f b A n c, plV A1 n1 c1 A2 n2 c2 A3 n3 c3 A4 n4 c4, .slice D p dc, .int .i64 a] w fun e w' =>
      e = .returned (.tuple #[stAns V a (sumT (scO g (ordN z1) z) a.toNat) (sumT (csF g (ordN z1) z) a.toNat), .bool V]) ∧ Below w.heap.size w w' := by
  have hEn := (planB_says hyes).1
  have hn1e := (planB_says hyes).2.1
  have hord : ordO z1 n n = true := by have := hyes; unfold planB at this; simp only [Bool.and_eq_true] at this; exact this.2.1.2
  obtain ⟨hf6, _, hn12, hT⟩ := ensB_iff.1 hEn
  have HYES := hid hyes
  have hn1' : n1 ≤ 12 := by omega
  have ho : Hid (∀ i, i < n1 → ordN z1 i < n) := fun i hi => ordN_lt hord i (by omega)
  have HL := hid (ens_len hEn)
  have h1' : Rd w w.heap.size A1 n1 fun i => (ordN z1 i : Nat) := by
    have q := hp.1
    rw [hn1e] at q ⊢
    exact ordN_rd q hord
  obtain ⟨F, hFe⟩ : ∃ F, fitB f p z = F := ⟨_, rfl⟩
  have HF := hid hFe
  have HT := hid hT
  have HN1 := hid hn1e
  clear hyes hEn hn1e hord hFe hT
  obtain ⟨S, hS⟩ : ∃ S, w.heap.size = S := ⟨_, rfl⟩
  have hG := S5.new w hS #[.int .i64 f, .int .i64 b, .slice A n c] #[.slice A1 n1 c1, .slice A2 n2 c2, .slice A3 n3 c3, .slice A4 n4 c4] #[.int .i64 0, .int .i64 0, .int .i64 0] (.int .i64 a) false
  refine (callsIn_wide (n := 8)).1 ?_
  refine callsIn_of_wp_marks Tryz.func10 rfl trivial ?_ rfl
  simp only [Tryz.ntmps10, List.size_toArray, List.length_cons, List.length_nil, Nat.reduceAdd, Nat.reduceSub, Array.replicate_succ, Array.replicate_zero, List.push_toArray, List.append_toArray, List.nil_append, List.cons_append]
  gi_wp2_with fail
  obtain ⟨W0, hW0⟩ : ∃ W, (((((w.alloc (.cells #[.int .i64 f, .int .i64 b, .slice A n c] 26)).alloc (.cells #[.slice A1 n1 c1, .slice A2 n2 c2, .slice A3 n3 c3, .slice A4 n4 c4] 29)).alloc (.cells #[.int .i64 a] 2)).alloc (.cells #[.int .i64 0, .int .i64 0, .int .i64 0] 33)).alloc (.cells #[.bool false] 4)) = W := ⟨_, rfl⟩
  rw [hW0] at hG ⊢
  clear hW0
  have hB := hG.bel
  refine ⟨trivial, ?_⟩
  refine (callsIn_wide.2 (staged_yes f b A n c len g A1 n1 c1 z1 A2 n2 c2 z2 A3 n3 c3 z3 A4 n4 c4 z4 W0 (hr.to hB hB.size) (hp.to hB hB.size) hn hlen k1 k2 k3 k4 HYES.out)).mono ?_
  rintro e w1 ⟨Ar, cr, Aw, cw, rfl, oR, oW, hb1⟩
  have hbx := (Below.refl w1.heap.size w1).alloc (Nat.le_refl _) (.cells (sgC f b Ar n cr Aw (cumT len n) cw A1 n1 c1 A2 n2 c2 A3 n3 c3 A4 n4 c4) 68)
  have hsg := Blk.new w1 68 (sgC f b Ar n cr Aw (cumT len n) cw A1 n1 c1 A2 n2 c2 A3 n3 c3 A4 n4 c4)
  have hG1 := (hG.below hb1).below hbx
  have oR1 := oR.to hbx hbx.size
  have oW1 := RdW.toH oW hbx hbx.size
  clear hG hB hb1 hbx oR oW
  obtain ⟨x0, x1, x2, _, _, _⟩ := blk_cells3 hG1.1
  gi_wp2_with fail
  obtain ⟨W1, hW1⟩ : ∃ W, w1.alloc (.cells (sgC f b Ar n cr Aw (cumT len n) cw A1 n1 c1 A2 n2 c2 A3 n3 c3 A4 n4 c4) 68) = W := ⟨_, rfl⟩
  rw [hW1] at hG1 hsg oR1 oW1 x0 x1 x2 ⊢
  obtain ⟨G, hGe⟩ : ∃ G, w1.heap.size = G := ⟨_, rfl⟩
  rw [hGe] at hsg
  try rw [hGe]
  clear hW1 hGe
  have hd1 := hd.to hG1.bel hG1.bel.size
  refine ⟨trivial, ?_⟩
  refine (callsIn_wide.2 (hasDoc_any f b A n c D p dc z W1 hd1 hpp)).mono ?_
  rintro e w2 ⟨rfl, hb2⟩
  rw [HF.out]
  have G2 := hid (hG1.below hb2)
  have hsg2 := hsg.below hb2 hsg.lt
  have oR2 := oR1.to hb2 hb2.size
  have oW2 := RdW.toH oW1 hb2 hb2.size
  clear hG1 hsg oR1 oW1 hd1 hb2 x0 x1 x2
  cases F with
  | false =>
    have eV : V = false := by rw [← hV.out]; unfold stOk; rw [HF.out, Bool.and_false]; rfl
    subst eV
    obtain ⟨s0, s1, s2, f0, f1, f2⟩ := blk_cells3 G2.out.2.2.2.1
    have s3 := G2.out.2.2.2.2.1.cell 0
    have f3 := G2.out.2.2.2.2.1.frozen 0
    have HZ := hid (G2.out.put (.int .i64 0) (.int .i64 0) (.int .i64 0) false (Nat.le_of_eq hS))
    clear hsg2 oR2 oW2 G2
    gi_wp2_with fail
    (try simp only [Exit.inBlock, Exit.then])
    exact ⟨_, results_rb rfl _ _ (S + 1 + 1 + 1) (S + 1 + 1 + 1 + 1) 33 #[.int .i64 0, .int .i64 0, .int .i64 0] (0, 0) _ (.bool false) rfl HZ.out.2.2.2.1 rfl (run_loadVar_bool _ _ _ (HZ.out.2.2.2.2.1.cell 0)) Tryz.underlying33 rfl size_state, rfl, HZ.out.bel⟩
  | true =>
    obtain ⟨⟨g0, g1, g2, g3, g4, g5, g6, g7⟩, _⟩ := blk_cells8 hsg2
    gi_wp2_with fail
    refine ⟨trivial, ?_⟩
    refine (callsIn_wide.2 (states_any f b Ar n cr Aw (cumT len n) cw A1 n1 c1 A2 n2 c2 A3 n3 c3 A4 n4 c4 D p dc w2)).mono ?_
    rintro e w3 ⟨lb, rfl, ⟨bx, by_, rfl, hxl, hyl, hxy, hbx, hby⟩, hb3⟩
    have hG3 := G2.out.below hb3
    have oR3 := oR2.to hb3 hb3.size
    have oW3 := RdW.toH oW2 hb3 hb3.size
    have h13 := h1'.to hG3.bel hG3.bel.size
    have hd3 := hd.to hG3.bel hG3.bel.size
    clear G2 hsg2 oR2 oW2 hb3 g0 g1 g2 g3 g4 g5 g6 g7
    gi_wp2_with fail
    have hfit := HF.out
    have hq6 : (p : Int) = f ∧ docB p z = true := by unfold fitB at hfit; simpa using hfit
    have hp6 : p ≤ 6 := by omega
    have ht : Hid (∀ i, i < n → treeB (g i) (len i) p = true) := fun i hi => by rw [hq6.1]; exact HT.out i hi
    have hS4 : S + 4 < w3.heap.size := by have := hG3.2.2.2.2.1.lt; omega
    have hS0 : w.heap.size ≤ w3.heap.size := hG3.bel.size
    have hVx : V = (decide (0 ≤ a) && decide (a ≤ (n1 : Int))) := by rw [← hV.out]; unfold stOk; rw [HYES.out, hfit, HN1.out]; rfl
    have HVX := hid hVx
    clear hVx hq6 hfit
    refine wpIn_rangeS (F := Fence.wide) rfl (by omega) (gf := 74) (lb := #[.pointer (some ⟨bx, 0, none⟩), .pointer (some ⟨by_, 0, none⟩)]) rfl trivial (enters_of Tryz.func74 (by kernel_rfl) rfl)
      (states1_seq (8 - 1) (by omega) f b Ar cr Aw cw n len g A1 n1 c1 (ordN z1) A2 n2 c2 A3 n3 c3 A4 n4 c4 D p dc z bx by_ w3.heap.size (fun b => b < w3.heap.size) w3 hbx hby hbx.lt hby.lt (fun _ h => h) (Nat.le_refl _) oR3 oW3 h13 hd3 hn12 hp6 ho ht HL hn1') (fun _ h => h) (fun _ => rfl)
      (fun pre W => (S5 S w #[.int .i64 f, .int .i64 b, .slice A n c] #[.slice A1 n1 c1, .slice A2 n2 c2, .slice A3 n3 c3, .slice A4 n4 c4] (.int .i64 a) #[.int .i64 0, .int .i64 0, .int .i64 0] false W ∧ w3.heap.size ≤ W.heap.size) ∧ ∀ i, i ∈ pre → ((i.1 : Nat) : Int) ≠ a)
      (fun cd pre W => cd = .ret ∧ ∃ x : Ix (n1 + 1), ((x.1 : Nat) : Int) = a ∧ S5 S w #[.int .i64 f, .int .i64 b, .slice A n c] #[.slice A1 n1 c1, .slice A2 n2 c2, .slice A3 n3 c3, .slice A4 n4 c4] (.int .i64 a) #[.int .i64 (x.1 : Nat), .int .i64 (sumT (scO g (ordN z1) z) x.1), .int .i64 (sumT (csF g (ordN z1) z) x.1)] true W)
      (fun s W W' h hb => ⟨⟨h.1.1.stand hb hS4 hS0, Nat.le_trans h.1.2 hb.size⟩, h.2⟩)
      (fun cd s W W' h hb => ⟨h.1, by obtain ⟨x, hx, h5⟩ := h.2; exact ⟨x, hx, h5.stand hb hS4 hS0⟩⟩)
      ⟨⟨hG3, Nat.le_refl _⟩, fun i hi => by cases hi⟩
      (fun x a' W => ∃ Bx, w3.heap.size ≤ Bx ∧ Blk W Bx 33 #[.int .i64 (x.1 : Nat), .int .i64 (sumT (scO g (ordN z1) z) x.1), .int .i64 (sumT (csF g (ordN z1) z) x.1)] ∧ a' = { tmps := #[enV f b A n c, plV A1 n1 c1 A2 n2 c2 A3 n3 c3 A4 n4 c4, .slice D p dc, .int .i64 a, .pointer (some ⟨S, 0, none⟩), .pointer (some ⟨S + 1, 0, none⟩), undef, .pointer (some ⟨S + 1 + 1, 0, none⟩), .pointer (some ⟨S + 1 + 1 + 1, 0, none⟩), .pointer (some ⟨S + 1 + 1 + 1 + 1, 0, none⟩), .pointer (some ⟨G, 0, none⟩), .bool true, .pointer (some ⟨Bx, 0, none⟩), .tuple #[.agg (sgC f b Ar n cr Aw (cumT len n) cw A1 n1 c1 A2 n2 c2 A3 n3 c3 A4 n4 c4), .bool true], .agg #[.int .i64 f, .int .i64 b, .slice A n c], .agg #[.slice A1 n1 c1, .slice A2 n2 c2, .slice A3 n3 c3, .slice A4 n4 c4], .tuple #[.agg (sgC f b Ar n cr Aw (cumT len n) cw A1 n1 c1 A2 n2 c2 A3 n3 c3 A4 n4 c4), .bool true], .agg (sgC f b Ar n cr Aw (cumT len n) cw A1 n1 c1 A2 n2 c2 A3 n3 c3 A4 n4 c4), .bool true, .bool true, .bool false, .bool false, .agg #[.int .i64 f, .int .i64 b, .slice A n c], .slice D p dc, .bool true, .bool false, .bool false, undef, .agg (sgC f b Ar n cr Aw (cumT len n) cw A1 n1 c1 A2 n2 c2 A3 n3 c3 A4 n4 c4), .slice D p dc, .func (.func 74) #[] #[.pointer (some ⟨bx, 0, none⟩), .pointer (some ⟨by_, 0, none⟩)], .agg #[.int .i64 (x.1 : Nat), .int .i64 (sumT (scO g (ordN z1) z) x.1), .int .i64 (sumT (csF g (ordN z1) z) x.1)], undef, undef, undef, undef, undef, undef], defers := [] })
      (fun x a' _ W W' row hs hg hr => by obtain ⟨Bx, h1, h2, h3⟩ := hs; exact ⟨Bx, h1, blk_own h2 hg hr, h3⟩) ?assign ?body ?done ?stop
    case assign =>
      rintro l pre x W K ⟨⟨hi, hsz⟩, hne⟩ hK
      gi_wp2_with fail
      exact hK _ _ ((KeepsOthers.alloc _ _).from _) (KeptP.of_below ((Below.refl _ W).alloc (Nat.le_refl _) _)) ⟨⟨hi.below ((Below.refl _ W).alloc (Nat.le_refl _) _), by simp; omega⟩, hne⟩ ⟨W.heap.size, hsz, Blk.new W _ _, rfl⟩
    case body =>
      rintro l pre x a' W hl hr ⟨⟨hi, hsz⟩, hne⟩ ⟨Bx, hBx, bX, rfl⟩ hlt
      have hv0 : W.cell? ⟨S + 1 + 1, 0, none⟩ = some (.int .i64 a) := hi.2.2.1.cell 0
      obtain ⟨b0, b1, b2⟩ := blk_three bX
      by_cases e : ((x.1 : Nat) : Int) = a
      · have d1 : (((x.1 : Nat) : Int) == a) = true := by simpa using e
        obtain ⟨s0, s1, s2, f0, f1, f2⟩ := blk_cells3 hi.2.2.2.1
        have s3 := hi.2.2.2.2.1.cell 0
        have f3 := hi.2.2.2.2.1.frozen 0
        have HZ := hid (hi.put (.int .i64 (x.1 : Nat)) (.int .i64 (sumT (scO g (ordN z1) z) x.1)) (.int .i64 (sumT (csF g (ordN z1) z) x.1)) true (Nat.le_of_eq hS))
        have HE := hid e
        have HNE := hid hne
        clear e hne hi bX hr
        gi_wp2_with fail
        exact ⟨((((KeepsOthers.setCell _ _ _).trans (KeepsOthers.setCell _ _ _)).trans (KeepsOthers.setCell _ _ _)).trans (KeepsOthers.setCell _ _ _)).from _, rfl, x, HE.out, HZ.out⟩
      · have d1 : (((x.1 : Nat) : Int) == a) = false := by simpa using e
        have HE := hid e
        have HNE := hid hne
        have HI := hid hi
        clear e hne hi bX hr
        gi_wp2_with fail
        refine ⟨KeepsFrom.refl _ _, KeptP.refl _ _, ⟨HI.out, hsz⟩, fun i hm => ?_⟩
        rcases List.mem_append.1 hm with h | h
        · exact HNE.out i h
        · rw [List.mem_singleton.1 h]
          exact HE.out
    case done =>
      rintro D' xs W hD rfl ⟨⟨hi, hsz⟩, hne⟩ hK
      have eV : V = false := by
        rw [HVX.out]
        by_cases h0 : 0 ≤ a
        · by_cases h1 : a ≤ (n1 : Int)
          · exact absurd (by show ((a.toNat : Nat) : Int) = a; omega) (hne ⟨a.toNat, by omega⟩ (mem_ups _ _ (Nat.le_refl _) (by show a.toNat < n1 + 1; omega)))
          · rw [decide_eq_false h1, Bool.and_false]
        · rw [decide_eq_false h0, Bool.false_and]
      subst eV
      obtain ⟨s0, s1, s2, f0, f1, f2⟩ := blk_cells3 hi.2.2.2.1
      have s3 := hi.2.2.2.2.1.cell 0
      have f3 := hi.2.2.2.2.1.frozen 0
      have HZ := hid (hi.put (.int .i64 0) (.int .i64 0) (.int .i64 0) false (Nat.le_of_eq hS))
      have HKK := hid (st_def hK (.int .i64 0) (.int .i64 0) (.int .i64 0) (.bool false) (S + 1 + 1 + 1) (S + 1 + 1 + 1 + 1))
      clear hne hi hK HVX hV
      gi_wp2_with fail
      refine ⟨by simp, .inl ⟨_, _, rfl, run_takeDeferred HKK.out, ?_⟩⟩
      have HY := st_end HZ.out (D := D') HKK.out (Nat.le_trans hS0 hD)
      exact ⟨_, results_rb rfl _ _ (S + 1 + 1 + 1) (S + 1 + 1 + 1 + 1) 33 #[.int .i64 0, .int .i64 0, .int .i64 0] (0, 0) _ (.bool false) rfl HY.2.2.2.1 rfl (run_loadVar_bool _ _ _ (HY.2.2.2.2.1.cell 0)) Tryz.underlying33 rfl size_state, rfl, HY.bel⟩
    case stop =>
      rintro D' cd pre W hD ⟨k, hk, hpre⟩ ⟨rfl, x, hx, hi⟩ hK
      have eV : V = true := by
        rw [HVX.out, ← hx, decide_eq_true (by omega : (0 : Int) ≤ ((x.1 : Nat) : Int)), decide_eq_true (by have := x.2; omega : ((x.1 : Nat) : Int) ≤ (n1 : Int))]
        rfl
      subst eV
      have HI := hid hi
      have HK := hid hK
      have HX := hid hx
      clear hi hK hx hpre HVX hV
      gi_wp2_with fail
      refine ⟨by simp, .inl ⟨_, _, rfl, run_takeDeferred HK.out, ?_⟩⟩
      have HY := st_end HI.out (D := D') HK.out (Nat.le_trans hS0 hD)
      exact ⟨_, results_rb rfl _ _ (S + 1 + 1 + 1) (S + 1 + 1 + 1 + 1) 33 #[.int .i64 (x.1 : Nat), .int .i64 (sumT (scO g (ordN z1) z) x.1), .int .i64 (sumT (csF g (ordN z1) z) x.1)] (0, 0) _ (.bool true) rfl HY.2.2.2.1 rfl (run_loadVar_bool _ _ _ (HY.2.2.2.2.1.cell 0)) Tryz.underlying33 rfl size_state, by rw [← HX.out]; rfl, HY.bel⟩
theorem iStateTo_any (f b : Int) (A : Option Addr) (n c : Nat) (len : Nat → Nat) (g : Nat → Nat → Nd) (A1 : Option Addr) (n1 c1 : Nat) (z1 : Nat → Int) (A2 : Option Addr) (n2 c2 : Nat) (z2 : Nat → Int) (A3 : Option Addr) (n3 c3 : Nat) (z3 : Nat → Int) (A4 : Option Addr) (n4 c4 : Nat) (z4 : Nat → Int) (D : Option Addr) (p dc : Nat) (z : Nat → Int) (a : Int) (V : Bool) (w : World)
    (hr : RdT w w.heap.size A n len g) (hp : RdP w w.heap.size A1 n1 z1 A2 n2 z2 A3 n3 z3 A4 n4 z4) (hd : Rd w w.heap.size D p z) (hn : n ≤ 4194304) (hlen : Hid (∀ i, i < n → len i ≤ 4194304)) (k1 : n1 ≤ 9223372036854775807) (k2 : n2 ≤ 9223372036854775807) (k3 : n3 ≤ 9223372036854775807) (k4 : n4 ≤ 9223372036854775807) (hpp : p ≤ 4194304)
    (hV : Hid (stOk f b n len g n1 z1 n2 z2 n3 z3 n4 z4 p z a = V)) :
    Calls Tryz.prog 10 #[enV f b A n c, plV A1 n1 c1 A2 n2 c2 A3 n3 c3 A4 n4 c4, .slice D p dc, .int .i64 a] w fun e w' =>
      e = .returned (.tuple #[stAns V a (sumT (scO g (ordN z1) z) a.toNat) (sumT (csF g (ordN z1) z) a.toNat), .bool V]) ∧ Below w.heap.size w w' := by
  cases hP : planB f b n len g n1 z1 n2 z2 n3 z3 n4 z4 with
  | true => exact iStateTo_yes f b A n c len g A1 n1 c1 z1 A2 n2 c2 z2 A3 n3 c3 z3 A4 n4 c4 z4 D p dc z a V w hr hp hd hn hlen k1 k2 k3 k4 hpp hP hV
  | false =>
    have eV : V = false := by rw [← hV.out]; unfold stOk; rw [hP]; rfl
    subst eV
    exact iStateTo_no f b A n c len g A1 n1 c1 z1 A2 n2 c2 z2 A3 n3 c3 z3 A4 n4 c4 z4 D p dc z a w hr hp hd hn hlen k1 k2 k3 k4 hpp hP
end Go.Proofs.YtlgomifpohdniaaGreat
