/- Ensembles read by the program. -/
import Derived.Test.YtmkipdhappikhaaGreatDoorReX
import Derived.Test.YtmkipdhappikhaaGreatDoorK2
import Derived.Test.YtmkipdhappikhaaGreatDoorK5
import Derived.Test.YtmkipdhappikhaaGreatDoorK4
import Derived.Test.YtmkipdhappikhaaGreatDoorDrawX
import Derived.Defers
import Derived.Recover
import Derived.Laws.Pointers
import Derived.Test.YtmkipdhappikhaaGreatDoorRtF
import Derived.Deep.DeepCutAuto
namespace Go.Proofs.YtmkipdhappikhaaGreatDoor

/-! ### ImA -/
section
set_option linter.unusedVariables false
set_option linter.unusedSimpArgs false
open Go.RowKit Go.Deep

theorem need_yes (w : World) : Calls Tryz.prog 73 #[.bool true] w fun e w' => (∃ v, e = .returned v) ∧ w' = w := by
  go_enter Tryz.func73, Tryz.ntmps73
  go_wp2_with fail
  exact ⟨rfl, _, results_none rfl _ _ _, ⟨_, rfl⟩, rfl⟩
/-- The panic of a text that is none. -/
def notT : Value := .iface 9 (.string ⟨#[110, 111, 116, 32, 116, 104, 101, 32, 116, 101, 120, 116, 32, 111, 102, 32, 97, 110, 32, 101, 110, 115, 101, 109, 98, 108, 101]⟩)
def PanT (e : Ending) : Prop := e = .panicked [{ v := notT, recovered := false }]
theorem need_no (w : World) : Calls Tryz.prog 73 #[.bool false] w fun e w' => PanT e ∧ w' = w := by
  go_enter Tryz.func73, Tryz.ntmps73
  go_wp2_with fail
  exact ⟨rfl, rfl, rfl⟩
theorem mustI_yes (x : Int) (w : World) : Calls Tryz.prog 69 #[.int .i64 x, .bool true] w fun e w' => e = .returned (.int .i64 x) ∧ w' = w := by
  go_enter Tryz.func69, Tryz.ntmps69
  go_wp2_with fail
  refine (need_yes w).mono ?_
  rintro e w1 ⟨⟨v, rfl⟩, rfl⟩
  go_wp2_with fail
  go_ret
  exact ⟨rfl, rfl⟩
theorem mustI_no (x : Int) (w : World) : Calls Tryz.prog 69 #[.int .i64 x, .bool false] w fun e w' => PanT e ∧ w' = w := by
  go_enter Tryz.func69, Tryz.ntmps69
  go_wp2_with fail
  refine (need_no w).mono ?_
  rintro e w1 ⟨rfl, rfl⟩
  exact ⟨rfl, rfl, rfl⟩
theorem mustN_yes (A : Option Addr) (n c : Nat) (w : World) : Calls Tryz.prog 71 #[.slice A n c, .bool true] w fun e w' => e = .returned (.slice A n c) ∧ w' = w := by
  go_enter Tryz.func71, Tryz.ntmps71
  go_wp2_with fail
  refine (need_yes w).mono ?_
  rintro e w1 ⟨⟨v, rfl⟩, rfl⟩
  go_wp2_with fail
  go_ret
  exact ⟨rfl, rfl⟩
theorem mustN_no (A : Option Addr) (n c : Nat) (w : World) : Calls Tryz.prog 71 #[.slice A n c, .bool false] w fun e w' => PanT e ∧ w' = w := by
  go_enter Tryz.func71, Tryz.ntmps71
  go_wp2_with fail
  refine (need_no w).mono ?_
  rintro e w1 ⟨rfl, rfl⟩
  exact ⟨rfl, rfl, rfl⟩
end

/-! ### MkE -/
section
set_option linter.unusedVariables false
set_option linter.unusedSimpArgs false
open Go.RowKit Go.Deep
set_option linter.unusedVariables false
set_option linter.unusedSimpArgs false

theorem RdT.al {w : World} {n : Nat} {A : Option Addr} {len : Nat → Nat} {g : Nat → Nat → Nd} (h : RdT w w.heap.size A n len g) (o : Obj) : RdT (w.alloc o) (w.alloc o).heap.size A n len g :=
  h.to ((Below.refl _ _).alloc (Nat.le_refl _) o) (by simp)

theorem TreesN.grownJ {w w5 : World} {B B2 n m : Nat} {bl len : Nat → Nat} {g : Nat → Nat → Nd} {v : Value} {xs : List Value} (h : TreesN w B n bl len g) (hown : w.ownsRow B2 45 1 v m xs) (hg : w.grownBy w5 v.ownBlock) : TreesN w5 B n bl len g :=
  h.keep fun i hi => by
    obtain ⟨cs, hB, _⟩ := (h i hi).2.1
    exact hg.block _ hB.lt (own_blk_ne hown hB (by decide))
theorem laid_own {w w' : World} {A : Option Addr} {n c : Nat} {len bl cp : Nat → Nat} {g : Nat → Nat → Nd} (ho : w'.ownsRow w.heap.size 45 1 (.slice A n c) n (hdJ n bl len cp)) (hT : TreesN w' w.heap.size n bl len g) : Laid w' w.heap.size w'.heap.size A n len g := by
  by_cases h0 : 0 < n
  · obtain ⟨gg, hA, h1, h2, h3, h4⟩ := own_hdJ ho h0
    exact ⟨gg, bl, cp, fun _ => ⟨hA, h1, h2, h3, fun i hi => h4 i _ (hdJ_at hi)⟩, fun i hi => ⟨(hT i hi).1, (hT i hi).2.1.lt, (hT i hi).2.1, (hT i hi).2.2⟩⟩
  · exact ⟨0, bl, cp, fun h => absurd h h0, fun i hi => by omega⟩
theorem blk_set3 {w : World} {p : Nat} {t : TypeId} {cs : Array Value} (hP : Blk w p t cs) (hs : cs.size = 3) (u0 u1 u2 : Value) : Blk (((w.setCell ⟨p, 0, none⟩ u0).setCell ⟨p, 1, none⟩ u1).setCell ⟨p, 2, none⟩ u2) p t #[u0, u1, u2] := by
  have h3 := ((hP.set_ 0 u0).set_ 1 u1).set_ 2 u2
  have e : ((cs.setIfInBounds 0 u0).setIfInBounds 1 u1).setIfInBounds 2 u2 = #[u0, u1, u2] := by
    obtain ⟨l⟩ := cs
    match l, hs with
    | [x, y, z], _ => rfl
  rw [e] at h3
  exact h3
theorem heap_set3 {w : World} {p : Nat} (x : Nat) (hx : x ≠ p) (u0 u1 u2 : Value) : (((w.setCell ⟨p, 0, none⟩ u0).setCell ⟨p, 1, none⟩ u1).setCell ⟨p, 2, none⟩ u2).heap[x]? = w.heap[x]? :=
  (Below.heap_setCell _ _ _ x hx).trans ((Below.heap_setCell _ _ _ x hx).trans (Below.heap_setCell _ _ _ x hx))
theorem below_set3 {a w : World} {B p : Nat} (h : Below B a w) (hB : B ≤ p) (u0 u1 u2 : Value) : Below B a (((w.setCell ⟨p, 0, none⟩ u0).setCell ⟨p, 1, none⟩ u1).setCell ⟨p, 2, none⟩ u2) :=
  ((h.setCell (p := ⟨p, 0, none⟩) hB u0).setCell (p := ⟨p, 1, none⟩) hB u1).setCell (p := ⟨p, 2, none⟩) hB u2
theorem Blk.kept {w w' : World} {p L H : Nat} {t : TypeId} {cs : Array Value} (h : Blk w p t cs) (hk : KeptR L H w w') (hp : p < L ∨ H ≤ p) : Blk w' p t cs := (hk.2.2.2.2 p (Blk.lt h) hp).trans h
theorem Laid.kept {w w' : World} {L H L' H' n : Nat} {A : Option Addr} {len : Nat → Nat} {g : Nat → Nat → Nd} (h : Laid w L' H' A n len g) (hk : KeptR L H w w') (hd : H' ≤ L ∨ H ≤ L') (hH : H' ≤ w.heap.size) : Laid w' L' H' A n len g :=
  h.keep fun x h1 h2 => hk.2.2.2.2 x (by omega) (by omega)
end

/-! ### ImB -/
section
set_option linter.unusedVariables false
set_option linter.unusedSimpArgs false
open Go.RowKit Go.Deep

theorem catch_idleE (p q : Addr) (w : World) :
    CallsD Tryz.prog 31 #[.pointer (some p), .pointer (some q)] .returning w fun e u' w' => e = .returned (.tuple #[]) ∧ u' = .returning ∧ w' = w := by
  refine callsD_of_wpS Tryz.func31 rfl fun c₀ cs hu => ?_
  apply wpS_seq
  apply wpS_region
  simp [wpOpsS, go_sem, recoverD, hu, Tryz.ntmps31, Exit.thenS]
  refine wpS_cond (t := false) (by simp [Act.eval, Array.replicate]) ?_
  simp only [Bool.false_eq_true, if_false]
  refine wpS_of_wp (wp_skip ?_)
  cases c₀
  simp_all [bodyPostS, results, Tryz.results31]
theorem catch_panE (g h : Nat) (u : TypeId) (pv : Value) (older : List PanicEntry) (w : World) (hB : Blk w g 26 #[.int .i64 0, .int .i64 0, .slice none 0 0]) (hC : Blk w h 4 #[.bool false]) (hne : h ≠ g) :
    CallsD Tryz.prog 31 #[.pointer (some ⟨g, 0, none⟩), .pointer (some ⟨h, 0, none⟩)] (.panicking ({ v := .iface u pv, recovered := false } :: older)) w fun e u' w' =>
      e = .returned (.tuple #[]) ∧ u' = .panicking ({ v := .iface u pv, recovered := true } :: older) ∧ w' = (((w.setCell ⟨g, 0, none⟩ (.int .i64 0)).setCell ⟨g, 1, none⟩ (.int .i64 0)).setCell ⟨g, 2, none⟩ (.slice none 0 0)).setCell ⟨h, 0, none⟩ (.bool false) := by
  have c0 : w.cell? ⟨g, 0, none⟩ = some (.int .i64 0) := hB.cell 0
  have c1 : w.cell? ⟨g, 1, none⟩ = some (.int .i64 0) := hB.cell 1
  have c2 : w.cell? ⟨g, 2, none⟩ = some (.slice none 0 0) := hB.cell 2
  have f0 := hB.frozen 0; have f1 := hB.frozen 1; have f2 := hB.frozen 2
  have d0 : w.cell? ⟨h, 0, none⟩ = some (.bool false) := hC.cell 0
  have e0 := hC.frozen 0
  refine callsD_of_wpS Tryz.func31 rfl fun c₀ cs hu => ?_
  apply wpS_seq
  apply wpS_region
  simp [wpOpsS, go_sem, recoverD, hu, Tryz.ntmps31, Exit.thenS]
  refine wpS_cond (t := true) (by simp [Act.eval, Array.replicate]) ?_
  simp only [if_true]
  apply wpS_region
  simp [wpOpsS, go_sem, c0, c1, c2, f0, f1, f2, d0, e0, bodyPostS, results, Tryz.results31]
/-- What a reader of ensembles answers, its rows laid behind the call. -/
def EnL (s : ByteArray) (w : World) (e : Ending) (w' : World) : Prop :=
  ((∃ f b n len g A c, ensB f b n len g = true ∧ s = ensS f b n len g ∧ e = .returned (.tuple #[enV f b A n c, .bool true]) ∧ Laid w' w.heap.size w'.heap.size A n len g) ∨
   ((∀ f b n len g, ensB f b n len g = true → s ≠ ensS f b n len g) ∧ e = .returned (.tuple #[enV 0 0 none 0 0, .bool false]))) ∧ Below w.heap.size w w'
theorem EnAns.laid {s : ByteArray} {w : World} {e : Ending} {w' : World} (h : EnAns s w e w') : EnL s w e w' := by
  refine ⟨?_, h.2⟩
  rcases h.1 with ⟨f, b, Ls, hd, A, c, h1, h2, h3, h4, h5, h6⟩ | ⟨h1, h2⟩
  · left
    refine ⟨f, b, Ls.length, _, _, A, c, h1, h2, h3, ?_⟩
    have hpos : ∀ i, i < Ls.length → 0 < (Ls.getD i []).length := fun i hi => ((treeB_iff _ _ _).1 ((ens_in h1).2.2.2 i hi)).2.1.1
    have hform : ∀ i, i < Ls.length → ∃ b c, hd i = .slice (some ⟨b, 0, none⟩) (Ls.getD i []).length c ∧ w.heap.size ≤ b ∧ RowN w' 58 b (Ls.getD i []).length (fun j => (Ls.getD i []).getD j zNd) := fun i hi => by
      have hi2 := h5 i hi
      obtain ⟨A', c', e'⟩ := own_formT hi2
      rw [e'] at hi2
      obtain ⟨b', rfl, hb', hr⟩ := own_rowL hi2 rfl (hpos i hi)
      exact ⟨b', c', e', hb', hr⟩
    let bl : Nat → Nat := fun i => (hd i).ownBlock.getD 0
    let cp : Nat → Nat := fun i => match hd i with | .slice _ _ c => c | _ => 0
    have hat : ∀ i, i < Ls.length → hd i = .slice (some ⟨bl i, 0, none⟩) (Ls.getD i []).length (cp i) ∧ w.heap.size ≤ bl i ∧ RowN w' 58 (bl i) (Ls.getD i []).length (fun j => (Ls.getD i []).getD j zNd) := fun i hi => by
      obtain ⟨b', c', e', hb', hr⟩ := hform i hi
      have e1 : bl i = b' := by show (hd i).ownBlock.getD 0 = b'; rw [e']; simp [Value.ownBlock]
      have e2 : cp i = c' := by show (match hd i with | .slice _ _ c => c | _ => 0) = c'; rw [e']
      rw [e1, e2]
      exact ⟨e', hb', hr⟩
    have hdist : ∀ i j, i < Ls.length → j < i → bl j ≠ bl i := fun i j hi hj e => by
      have p1 := (hat i hi).1
      have p2 := (hat j (by omega)).1
      rcases h6 i j hi hj with q | q
      · rw [p2] at q; simp [Value.ownBlock] at q
      · rw [p1, p2] at q; simp [Value.ownBlock] at q; exact q e
    have hr : w'.ownsRow w.heap.size 45 1 (.slice A Ls.length c) Ls.length (hdJ Ls.length bl (fun i => (Ls.getD i []).length) cp) := by
      have e0 : (List.range Ls.length).map hd = hdJ Ls.length bl (fun i => (Ls.getD i []).length) cp := List.map_congr_left fun i hi => (hat i (List.mem_range.1 hi)).1
      rw [← e0]
      exact h4
    exact laid_own hr (fun i hi => ⟨(hat i hi).2.1, (hat i hi).2.2, fun j hj => hdist i j hi hj⟩)
  · exact .inr ⟨fun f b n len g => h1 f b n len g, h2⟩
/-- What readEns answers: the ensemble, or a panic. -/
def RdE (s : ByteArray) (w : World) (e : Ending) (w' : World) : Prop :=
  (∃ f b n A c, e = .returned (enV f b A n c) ∧ EnL s w (.returned (.tuple #[enV f b A n c, .bool true])) w') ∨ (PanT e ∧ EnL s w (.returned (.tuple #[enV 0 0 none 0 0, .bool false])) w')
theorem EnL.out {s : ByteArray} {w W0 w2 : World} {e : Ending} (hB : Below w.heap.size w W0) (hsz : w.heap.size + 1 < W0.heap.size) (ha : EnL s W0 e w2) (a b c d : Value) :
    EnL s w e ((((w2.setCell ⟨w.heap.size, 0, none⟩ a).setCell ⟨w.heap.size, 1, none⟩ b).setCell ⟨w.heap.size, 2, none⟩ c).setCell ⟨w.heap.size + 1, 0, none⟩ d) := by
  have hb := hB.trans (ha.2.mono hB.size)
  have hbl := (((hb.setCell (p := ⟨w.heap.size, 0, none⟩) (Nat.le_refl _) a).setCell (p := ⟨w.heap.size, 1, none⟩) (Nat.le_refl _) b).setCell (p := ⟨w.heap.size, 2, none⟩) (Nat.le_refl _) c).setCell (p := ⟨w.heap.size + 1, 0, none⟩) (Nat.le_succ _) d
  rcases ha.1 with ⟨f, b', n, len, g, A, c', h1, h2, h3, h4⟩ | h
  · refine ⟨.inl ⟨f, b', n, len, g, A, c', h1, h2, h3, ?_⟩, hbl⟩
    have h5 : Laid ((((w2.setCell ⟨w.heap.size, 0, none⟩ a).setCell ⟨w.heap.size, 1, none⟩ b).setCell ⟨w.heap.size, 2, none⟩ c).setCell ⟨w.heap.size + 1, 0, none⟩ d) W0.heap.size w2.heap.size A n len g := h4.keep fun x hx _ => by
      rw [Below.heap_setCell _ _ _ x (fun e => by have e' : x = w.heap.size + 1 := e; omega), Below.heap_setCell _ _ _ x (fun e => by have e' : x = w.heap.size := e; omega), Below.heap_setCell _ _ _ x (fun e => by have e' : x = w.heap.size := e; omega), Below.heap_setCell _ _ _ x (fun e => by have e' : x = w.heap.size := e; omega)]
    exact h5.less hB.size (by simp [World.setCell])
  · exact ⟨.inr h, hbl⟩
set_option maxRecDepth 100000 in
set_option maxHeartbeats 4000000 in
theorem iReadEns_of (s : ByteArray) (w : World) (h : ∀ W, Below w.heap.size w W → Calls Tryz.prog 32 #[.string s] W (RdE s W)) :
    Calls Tryz.prog 9 #[.string s] w (EnL s w) := by
  have hmf : ∀ (fn : Fn) (first cap : Array Value) (w : World), (Instr.makeFunc fn first cap).run Tryz.prog w = .ok (.func fn first cap) w := fun _ _ _ _ => rfl
  have hb0 := ((Below.refl w.heap.size w).alloc (Nat.le_refl _) (.cells #[.int .i64 0, .int .i64 0, .slice none 0 0] 26)).alloc (by simp) (.cells #[.bool false] 4)
  have hB0 := (Blk.new w 26 #[.int .i64 0, .int .i64 0, .slice none 0 0]).alloc (.cells #[.bool false] 4)
  have hC0 := Blk.new2 w (.cells #[.int .i64 0, .int .i64 0, .slice none 0 0] 26) 4 #[.bool false]
  have hR := h _ hb0
  clear h
  go_enter_defers Tryz.func9, Tryz.ntmps9
  go_wp2_with fail
  refine hR.mono ?_
  rintro e w2 (⟨f, b, n, A, c, rfl, ha⟩ | ⟨rfl, ha⟩)
  · have hB2 := hB0.below ha.2 hB0.lt
    have hC2 := hC0.below ha.2 hC0.lt
    have c0 := hB2.cell 0; have c1 := hB2.cell 1; have c2 := hB2.cell 2
    have f0 := hB2.frozen 0; have f1 := hB2.frozen 1; have f2 := hB2.frozen 2
    have d0 := hC2.cell 0; have e0 := hC2.frozen 0
    go_wp2_with fail
    refine leaves_cons (f := 31) (args := #[.pointer (some ⟨w.heap.size, 0, none⟩), .pointer (some ⟨w.heap.size + 1, 0, none⟩)]) (by simp) (by simp [go_sem]) ?_
    refine (catch_idleE _ _ _).mono ?_
    rintro e u' w'' ⟨rfl, rfl, rfl⟩
    simp only
    have hBz := (((hB2.set_ 0 (.int .i64 f)).set_ 1 (.int .i64 b)).set_ 2 (.slice A n c)).far (p := ⟨w.heap.size + 1, 0, none⟩) (by show w.heap.size ≠ w.heap.size + 1; omega) (.bool true)
    have hCz := (((hC2.far (p := ⟨w.heap.size, 0, none⟩) (by show w.heap.size + 1 ≠ w.heap.size; omega) (.int .i64 f)).far (p := ⟨w.heap.size, 1, none⟩) (by show w.heap.size + 1 ≠ w.heap.size; omega) (.int .i64 b)).far (p := ⟨w.heap.size, 2, none⟩) (by show w.heap.size + 1 ≠ w.heap.size; omega) (.slice A n c)).set_ 0 (.bool true)
    have dz := hCz.cell 0
    have hA := ha.out hb0 (by simp) (.int .i64 f) (.int .i64 b) (.slice A n c) (.bool true)
    have z0 := hBz.cell 0; have z1 := hBz.cell 1; have z2 := hBz.cell 2
    generalize (((w2.setCell ⟨w.heap.size, 0, none⟩ (.int .i64 f)).setCell ⟨w.heap.size, 1, none⟩ (.int .i64 b)).setCell ⟨w.heap.size, 2, none⟩ (.slice A n c)).setCell ⟨w.heap.size + 1, 0, none⟩ (.bool true) = WZ at dz hA z0 z1 z2 ⊢
    refine ⟨.tuple #[enV f b A n c, .bool true], ?_, hA⟩
    simp at z0 z1 z2 dz
    simp [results, Tryz.results9, asAddr, Result.andThen, go_sem, z0, z1, z2, dz]
  · have hB2 := hB0.below ha.2 hB0.lt
    have hC2 := hC0.below ha.2 hC0.lt
    go_wp2_with fail
    refine leaves_cons (f := 31) (args := #[.pointer (some ⟨w.heap.size, 0, none⟩), .pointer (some ⟨w.heap.size + 1, 0, none⟩)]) (by simp) (by simp [go_sem]) ?_
    refine (catch_panE w.heap.size (w.heap.size + 1) _ _ [] _ hB2 hC2 (by omega)).mono ?_
    rintro e u' w'' ⟨rfl, rfl, rfl⟩
    show Leaves _ _ _ _ [] .returning _
    simp only [Leaves]
    have hBz := (((hB2.set_ 0 (.int .i64 0)).set_ 1 (.int .i64 0)).set_ 2 (.slice none 0 0)).far (p := ⟨w.heap.size + 1, 0, none⟩) (by show w.heap.size ≠ w.heap.size + 1; omega) (.bool false)
    have hCz := (((hC2.far (p := ⟨w.heap.size, 0, none⟩) (by show w.heap.size + 1 ≠ w.heap.size; omega) (.int .i64 0)).far (p := ⟨w.heap.size, 1, none⟩) (by show w.heap.size + 1 ≠ w.heap.size; omega) (.int .i64 0)).far (p := ⟨w.heap.size, 2, none⟩) (by show w.heap.size + 1 ≠ w.heap.size; omega) (.slice none 0 0)).set_ 0 (.bool false)
    have dz := hCz.cell 0
    have hA := ha.out hb0 (by simp) (.int .i64 0) (.int .i64 0) (.slice none 0 0) (.bool false)
    have z0 := hBz.cell 0; have z1 := hBz.cell 1; have z2 := hBz.cell 2
    generalize (((w2.setCell ⟨w.heap.size, 0, none⟩ (.int .i64 0)).setCell ⟨w.heap.size, 1, none⟩ (.int .i64 0)).setCell ⟨w.heap.size, 2, none⟩ (.slice none 0 0)).setCell ⟨w.heap.size + 1, 0, none⟩ (.bool false) = WZ at dz hA z0 z1 z2 ⊢
    refine ⟨.tuple #[enV 0 0 none 0 0, .bool false], ?_, hA⟩
    simp at z0 z1 z2 dz
    simp [results, Tryz.results9, asAddr, Result.andThen, go_sem, z0, z1, z2, dz]
end

/-! ### ImC -/
section
set_option linter.unusedVariables false
set_option linter.unusedSimpArgs false
open Go.RowKit Go.Deep

theorem ndS_noB (d : Nd) : NoC 124 (ndS d) := by
  unfold ndS
  split
  · exact noC_app (noC_one (by decide)) (decS_noC _ (.inr (by decide)))
  · exact noC_app (noC_one (by decide)) (noC_join (noC_one (by decide)) 5 (ndP_noC (.inr (by decide)) (by decide) (by decide)))
theorem entP_noB {f b : Int} {len : Nat → Nat} {g : Nat → Nat → Nd} : ∀ i, NoC 124 (entP f b len g i)
  | 0 => noC_app (noC_app (decS_noC _ (.inr (by decide))) (noC_one (by decide))) (decS_noC _ (.inr (by decide)))
  | _ + 1 => noC_join (noC_one (by decide)) _ (fun _ _ => ndS_noB _)
/-- The parts of a text at ' | ', at most fourteen. -/
def partsE (s : ByteArray) : List ByteArray := Lib.splitB sepE 0 (min 14 (s.size + 1) - 1) s
theorem partsE_len (s : ByteArray) : (partsE s).length ≤ 14 := by
  have := Lib.splitB_length_le sepE 0 (min 14 (s.size + 1) - 1) s
  unfold partsE
  omega
theorem partsE_pos (s : ByteArray) : 0 < (partsE s).length := by
  unfold partsE
  generalize min 14 (s.size + 1) - 1 = k
  cases k with
  | zero => rw [Lib.splitB_zero]; simp
  | succ k =>
    unfold Lib.splitB
    split <;> simp
theorem partsE_join (s : ByteArray) : joinTo (fun i => (partsE s).getD i ByteArray.empty) sepE (partsE s).length = s := join_splitE _ s
theorem joinE_ge (f : Nat → ByteArray) : ∀ n, n * 3 ≤ (joinTo f sepE (n + 1)).size
  | 0 => by omega
  | n + 1 => by
    have ih := joinE_ge f n
    show _ ≤ ((if 0 < n + 1 then joinTo f sepE (n + 1) ++ sepE else joinTo f sepE (n + 1)) ++ f (n + 1)).size
    rw [if_pos (by omega), ByteArray.size_append, ByteArray.size_append]
    have e : sepE.size = 3 := rfl
    omega
theorem partsE_ens {f b : Int} {n : Nat} {len : Nat → Nat} {g : Nat → Nat → Nd} (h : ensB f b n len g = true) : partsE (ensS f b n len g) = (List.range (n + 1)).map (entP f b len g) := by
  have hn := (ens_in h).2.2.1
  have hge := joinE_ge (entP f b len g) n
  unfold ensS
  rw [if_pos h]
  unfold partsE entS
  exact splitE_join n _ _ (fun i _ => entP_noB i) (by omega)
theorem partsE_any (s : ByteArray) (w : World) (hs : s.size ≤ 4194304) (hM : LenOk w) :
    Calls Tryz.prog 67 #[.string s, .string ⟨#[32, 124, 32]⟩, .int .i64 14] w fun e w' => ∃ N, N = min 14 (s.size + 1) ∧ e = .returned (.slice (some ⟨w.heap.size, 0, none⟩) (partsE s).length N) ∧ Blk w' w.heap.size 9 (Lib.cellsOf (partsE s) N) ∧ Below w.heap.size w w' := by
  obtain ⟨m, hm⟩ := hM
  refine (strings_SplitN s ⟨#[32, 124, 32]⟩ 14 m w (by omega) hm (by decide) (by omega) (by omega)).mono ?_
  rintro e w' ⟨rfl, rfl⟩
  exact ⟨_, by first | rfl | omega, rfl, Blk.new _ _ _, (Below.refl _ _).alloc (Nat.le_refl _) _⟩
/-- The library's cut at a space. -/
theorem cut_space (s : ByteArray) : ∃ t r m, t.size ≤ s.size ∧ r.size ≤ s.size ∧ (∀ t' r', NoC 32 t' → s = t' ++ one1 32 ++ r' → t = t' ∧ r = r') ∧ (s = t ++ one1 32 ++ r ∨ r.size = 0) ∧
    (⟨(Lib.cut s.data.toList (one1 32).data.toList).1.toArray⟩ : ByteArray) = t ∧ (⟨(Lib.cut s.data.toList (one1 32).data.toList).2.1.toArray⟩ : ByteArray) = r ∧ (Lib.cut s.data.toList (one1 32).data.toList).2.2 = m := by
  rcases part_or 32 s with h | ⟨t, r, rfl, h⟩
  · obtain ⟨e1, e2, e3⟩ := Lib.cutB_miss s (one1 32) (indexB_not h)
    refine ⟨s, ByteArray.empty, false, Nat.le_refl _, Nat.zero_le _, fun t' r' _ e => ?_, .inr rfl, e1, e2, e3⟩
    exfalso
    apply h
    rw [e, data_app, data_app]
    simp [one1]
  · obtain ⟨e1, e2, e3⟩ := Lib.cutB_hit (t ++ one1 32 ++ r) (one1 32) t.size (indexB_at h)
    have e := size_app3 t r 32
    refine ⟨t, r, true, by rw [e]; omega, by rw [e]; omega, fun t' r' h' e' => part_uniq h h' e', .inl rfl, ?_, ?_, e3⟩
    · rw [e1, ext_head]
    · rw [e2]
      have : t.size + (one1 32).size = t.size + 1 := rfl
      rw [this, ext_tail]
theorem getD_map_range {f : Nat → ByteArray} {n i : Nat} (hi : i < n) : ((List.range n).map f).getD i ByteArray.empty = f i := by
  rw [List.getD_eq_getElem?_getD, List.getElem?_map, List.getElem?_range hi]
  rfl
/-- A text whose parts are those of an ensemble is its text. -/
theorem ens_of_parts {s : ByteArray} {f b : Int} {n : Nat} {len : Nat → Nat} {g : Nat → Nat → Nd} (hl : (partsE s).length = n + 1) (h : ∀ i, i < n + 1 → (partsE s).getD i ByteArray.empty = entP f b len g i) : s = entS f b n len g := by
  have := partsE_join s
  rw [hl] at this
  rw [← this]
  exact joinTo_congr (n + 1) h
/-- The parts of a good ensemble's text. -/
theorem parts_of_ens {s : ByteArray} {f b : Int} {n : Nat} {len : Nat → Nat} {g : Nat → Nat → Nd} (h : ensB f b n len g = true) (e : s = ensS f b n len g) :
    (partsE s).length = n + 1 ∧ (partsE s).getD 0 ByteArray.empty = decS f ++ one1 32 ++ decS b ∧ ∀ i, i < n → (partsE s).getD (i + 1) ByteArray.empty = treS (len i) (g i) := by
  rw [e, partsE_ens h]
  refine ⟨by simp, ?_, fun i hi => ?_⟩
  · rw [getD_map_range (by omega)]; rfl
  · rw [getD_map_range (by omega), treS_yes ((ens_in h).2.2.2 i hi)]; rfl
theorem splitE_mem : ∀ (k : Nat) (s x : ByteArray), x ∈ Lib.splitB sepE 0 k s → x.size ≤ s.size
  | 0, s, x, h => by
    rw [Lib.splitB_zero] at h
    obtain rfl : x = s := by simpa using h
    exact Nat.le_refl _
  | k + 1, s, x, h => by
    rcases partE_or s with hn | ⟨t, r, rfl, hn⟩
    · rw [Lib.splitB_miss _ _ _ _ hn] at h
      obtain rfl : x = s := by simpa using h
      exact Nat.le_refl _
    · rw [splitE_hit k hn] at h
      have e : (t ++ sepE ++ r).size = t.size + 3 + r.size := by rw [ByteArray.size_append, ByteArray.size_append]; rfl
      rcases List.mem_cons.1 h with rfl | h
      · omega
      · have := splitE_mem k r x h
        omega
theorem decS_posE (x : Int) : 0 < (decS x).size := by
  show 0 < (Lib.itoa x).toArray.size
  rw [List.size_toArray]
  unfold Lib.itoa
  split
  · rw [List.length_cons]; omega
  · rw [Lib.decDigits_length]; exact Lib.nDigits_pos _
end

/-! ### ImD -/
section
set_option linter.unusedVariables false
set_option linter.unusedSimpArgs false
open Go.RowKit Go.Deep

def setG (g : Nat → Nat → Nd) (k : Nat) (y : Nat → Nd) : Nat → Nat → Nd := fun i => if i = k then y else g i
theorem setG_same (g : Nat → Nat → Nd) (k : Nat) (y : Nat → Nd) : setG g k y k = y := if_pos rfl
theorem setG_other {g : Nat → Nat → Nd} {k i : Nat} {y : Nat → Nd} (h : i ≠ k) : setG g k y i = g i := if_neg h
theorem hdJ_push (k : Nat) (bl len cp : Nat → Nat) (b n c : Nat) : hdJ (k + 1) (setN bl k b) (setN len k n) (setN cp k c) = hdJ k bl len cp ++ [.slice (some ⟨b, 0, none⟩) n c] := by
  unfold hdJ
  rw [List.range_succ, List.map_append]
  congr 1
  · exact List.map_congr_left fun i hi => by
      have := List.mem_range.1 hi
      rw [setN_other (by omega), setN_other (by omega), setN_other (by omega)]
  · simp [setN]
theorem TreesN.push {w : World} {B n b m : Nat} {bl len : Nat → Nat} {g : Nat → Nat → Nd} {y : Nat → Nd} (h : TreesN w B n bl len g) (hb : B ≤ b) (hr : RowN w 58 b m y) (hlt : ∀ i, i < n → bl i ≠ b) : TreesN w B (n + 1) (setN bl n b) (setN len n m) (setG g n y) := fun i hi => by
  by_cases e : i = n
  · subst e
    rw [setN_same, setN_same, setG_same]
    exact ⟨hb, hr, fun j hj => by rw [setN_other (by omega)]; exact hlt j hj⟩
  · rw [setN_other e, setN_other e, setG_other e]
    obtain ⟨h1, h2, h3⟩ := h i (by omega)
    exact ⟨h1, h2, fun j hj => by rw [setN_other (by omega)]; exact h3 j hj⟩
/-- What lies in memory while the trees are read. -/
structure GR (w0 : World) (sb q : Nat) (S : Array Value) (f b : Int) (k : Nat) (At : Option Addr) (ct : Nat) (bl len cp : Nat → Nat) (g : Nat → Nat → Nd) (W : World) : Prop where
  res : Blk W w0.heap.size 26 #[.int .i64 0, .int .i64 0, .slice none 0 0]
  str : Blk W sb 9 S
  ens : Blk W q 26 #[.int .i64 f, .int .i64 b, .slice At k ct]
  rows : W.ownsRow (q + 1) 45 1 (.slice At k ct) k (hdJ k bl len cp)
  trs : TreesN W (q + 1) k bl len g
  lt0 : w0.heap.size < sb
  lt1 : sb < q
  bel : Below w0.heap.size w0 W
section
variable {w0 W W' w5 : World} {sb q k ct : Nat} {S : Array Value} {f b : Int} {At : Option Addr} {bl len cp : Nat → Nat} {g : Nat → Nat → Nd}
theorem GR.below (h : GR w0 sb q S f b k At ct bl len cp g W) (hb : Below W.heap.size W W') : GR w0 sb q S f b k At ct bl len cp g W' :=
  ⟨h.res.below hb h.res.lt, h.str.below hb h.str.lt, h.ens.below hb h.ens.lt, own_belowT h.rows hb, h.trs.below hb, h.lt0, h.lt1, h.bel.trans (hb.mono h.bel.size)⟩
theorem GR.next (h : GR w0 sb q S f b k At ct bl len cp g W) {b4 m4 c4 gg cp5 : Nat} {y : Nat → Nd} (hr : RowN W 58 b4 m4 y) (hq : q + 1 ≤ b4) (hne : ∀ i, i < k → bl i ≠ b4) (O : Obj)
    (hown : w5.ownsRow (q + 1) 45 1 (.slice (some ⟨gg, 0, none⟩) (k + 1) cp5) (k + 1) (hdJ k bl len cp ++ [.slice (some ⟨b4, 0, none⟩) m4 c4]))
    (hg : (W.alloc O).grownBy w5 (Value.slice At k ct).ownBlock) :
    GR w0 sb q S f b (k + 1) (some ⟨gg, 0, none⟩) cp5 (setN bl k b4) (setN len k m4) (setN cp k c4) (setG g k y) (w5.setCell ⟨q, 2, none⟩ (.slice (some ⟨gg, 0, none⟩) (k + 1) cp5)) := by
  have hlo : ∀ x, (Value.slice At k ct).ownBlock = some x → q + 1 ≤ x := fun x hx => (h.rows.lt x hx).1
  have h0 := h.lt0
  have h1 := h.lt1
  have hA := h.below ((Below.refl _ W).alloc (Nat.le_refl _) O)
  have hrA : RowN (W.alloc O) 58 b4 m4 y := hr.below ((Below.refl _ W).alloc (Nat.le_refl _) O) hr.lt
  have hk : ∀ x, x ≠ q → (w5.setCell ⟨q, 2, none⟩ (.slice (some ⟨gg, 0, none⟩) (k + 1) cp5)).heap[x]? = w5.heap[x]? := fun x hx => Below.heap_setCell _ _ _ x hx
  have htr : TreesN w5 (q + 1) (k + 1) (setN bl k b4) (setN len k m4) (setG g k y) := (TreesN.push hA.trs hq hrA hne).grownJ hA.rows hg
  refine ⟨(hA.res.grown hg (fun e => by have := hlo _ e.symm; omega)).far (p := ⟨q, 2, none⟩) (by show w0.heap.size ≠ q; omega) _, (hA.str.grown hg (fun e => by have := hlo _ e.symm; omega)).far (p := ⟨q, 2, none⟩) (by show sb ≠ q; omega) _,
    (hA.ens.grown hg (fun e => by have := hlo _ e.symm; omega)).set_ 2 _, ?_, htr.keep fun i hi => hk _ (by have := (htr i hi).1; omega), h0, h1, ?_⟩
  · rw [hdJ_push]
    exact own_keepJ hown fun x hx _ _ => hk x (by omega)
  · exact (hA.bel.grown hg hA.bel.size (fun x e => by have := hlo x e; omega)).setCell (p := ⟨q, 2, none⟩) (by show w0.heap.size ≤ q; omega) _
end
theorem GR.drew {w0 W : World} {sb q k ct : Nat} {S : Array Value} {f b : Int} {At : Option Addr} {bl len cp : Nat → Nat} {g : Nat → Nat → Nd} (h : GR w0 sb q S f b k At ct bl len cp g W) : GR w0 sb q S f b k At ct bl len cp g W.drew :=
  ⟨h.res, h.str, h.ens, h.rows, h.trs, h.lt0, h.lt1, h.bel.drew⟩
theorem GR.apart {w0 W : World} {sb q k ct : Nat} {S : Array Value} {f b : Int} {At : Option Addr} {bl len cp : Nat → Nat} {g : Nat → Nat → Nd} (h : GR w0 sb q S f b k At ct bl len cp g W) {x : Nat} (hx : W.heap.size ≤ x) : ∀ i, i < k → bl i ≠ x := fun i hi e => by
  have := (h.trs i hi).2.1.lt
  omega
theorem mustN_ok (A : Option Addr) (n c : Nat) (w : World) : Calls Tryz.prog 71 #[.slice A n c, .bool true] w fun e w' => e = .returned (.slice A n c) ∧ w = w' :=
  (mustN_yes A n c w).mono fun _ _ h => ⟨h.1, h.2.symm⟩
theorem mustN_bad (A : Option Addr) (n c : Nat) (w : World) : Calls Tryz.prog 71 #[.slice A n c, .bool false] w fun e w' => PanT e ∧ w = w' :=
  (mustN_no A n c w).mono fun _ _ h => ⟨h.1, h.2.symm⟩
theorem ensB_congrE {f b : Int} {n : Nat} {len len' : Nat → Nat} {g g' : Nat → Nat → Nd} (h : ensB f b n len g = true) (he : ∀ i, i < n → len' i = len i ∧ ∀ j, j < len i → g' i j = g i j) : ensB f b n len' g' = true := by
  obtain ⟨h1, h2, h5, h6⟩ := ensB_iff.1 h
  refine ensB_iff.2 ⟨h1, h2, h5, fun i hi => ?_⟩
  rw [(he i hi).1, treeB_congrT (he i hi).2]
  exact h6 i hi
theorem results_e1 {P : Program} {fn : Func} {p : Tmp} {ty : TypeId} (h : fn.results = #[.cell p ty]) (tmps : Array Value) (w : World) (g : Nat) (t : TypeId) (cs : Array Value) (fr : Nat × Nat) (d : TypeDesc)
    (hp : tmps.getD p undef = .pointer (some ⟨g, 0, none⟩)) (hg : w.heap[g]? = some (.cells cs t fr))
    (hu : P.underlying ty = some d) (hd : (match d with | .struct _ | .array _ _ => true | _ => false) = true) (hi : (P.info? ty).map (·.size) = some cs.size) :
    (results fn tmps).run P w = .ok (.agg cs) w := results_cell_row h tmps w g t cs fr d hp hg hu hd hi

set_option maxRecDepth 100000 in
set_option maxHeartbeats 4000000 in
theorem readEns_any (s : ByteArray) (w : World) (hs : s.size ≤ 4194304) (hE : ErrOk w) (hM : LenOk w) (hp : Hid (Pow w w.heap.size)) :
    Calls Tryz.prog 32 #[.string s] w (RdE s w) := by
  obtain ⟨P, HP⟩ : ∃ P, Hid (partsE s = P) := ⟨_, hid rfl⟩
  have hPl : P.length ≤ 14 := by rw [← HP.out]; exact partsE_len s
  have hPp : 0 < P.length := by rw [← HP.out]; exact partsE_pos s
  have HE : Hid (∀ W, Below w.heap.size w W → ErrOk W) := fun W hW => hE.below hW
  have HM : Hid (∀ W, Below w.heap.size w W → LenOk W) := fun W hW => hM.below hW
  have HPW : Hid (∀ W, Below w.heap.size w W → Pow W W.heap.size) := fun W hW W' hW' => hp.out W' (hW.trans (hW'.mono hW.size))
  have HPM : Hid (∀ x, x ∈ P → x.size ≤ 4194304) := fun x hx => by
    rw [← HP.out] at hx
    exact Nat.le_trans (splitE_mem _ s x hx) hs
  have HPOS : Hid (1 ≤ P.length) := hPp
  clear hE hM hp
  obtain ⟨i0, hi0, hz0, hz1, hz2⟩ := info_parts info_nodes
  have hb0 := (Below.refl w.heap.size w).alloc (Nat.le_refl _) (.cells #[.int .i64 0, .int .i64 0, .slice none 0 0] 26)
  have hB0 := Blk.new w 26 #[.int .i64 0, .int .i64 0, .slice none 0 0]
  have HSP := hid (partsE_any s (w.alloc (.cells #[.int .i64 0, .int .i64 0, .slice none 0 0] 26)) hs (HM.out _ hb0))
  rw [HP.out] at HSP
  have hs0 : (w.alloc (.cells #[.int .i64 0, .int .i64 0, .slice none 0 0] 26)).heap.size = w.heap.size + 1 := by simp
  go_enter Tryz.func32, Tryz.ntmps32
  go_wp2_with fail
  generalize w.alloc (.cells #[.int .i64 0, .int .i64 0, .slice none 0 0] 26) = W0 at hb0 hB0 HSP hs0 ⊢
  refine HSP.out.mono ?_
  rintro e w1 ⟨N, hN, rfl, hS1, hb1⟩
  have hw1 := hb0.trans (hb1.mono hb0.size)
  have hB1 := hB0.below hb1 hB0.lt
  clear hB0 hb0 hb1 HSP
  generalize hsb : W0.heap.size = sb at hS1 ⊢
  have hsbw : w.heap.size < sb := by omega
  clear hs0 hsb
  obtain ⟨x0, hx0⟩ : ∃ x, P.getD 0 ByteArray.empty = x := ⟨_, rfl⟩
  have hx0k := getD_wordC (P := P) (k := 0) hPp
  rw [hx0] at hx0k
  have hc0 : w1.cell? ⟨sb, 0, none⟩ = some (.string x0) := by rw [hS1.cell]; exact cells_word hx0k
  have hx0s : x0.size ≤ 4194304 := HPM.out x0 (List.mem_of_getElem? hx0k)
  have HX0 := hid hx0
  have i1 : (0 : Int) < (P.length : Int) := by omega
  obtain ⟨t, r, mm, ht, hr, huq, hspl, e1, e2, e3⟩ := cut_space x0
  have HUQ := hid huq
  have HSPL := hid hspl
  obtain ⟨M, hMM⟩ := HM.out w1 hw1
  have HC := hid (strings_Cut x0 (one1 32) M w1 (by omega) hMM)
  rw [e1, e2, e3] at HC
  have HNO : Hid (∀ f b n len g, ensB f b n len g = true → s = ensS f b n len g → t = decS f ∧ r = decS b ∧ P.length = n + 1 ∧ ∀ i, i < n → P.getD (i + 1) ByteArray.empty = treS (len i) (g i)) := fun f b n len g h e => by
    have h1 := parts_of_ens h e
    rw [HP.out, HX0.out] at h1
    obtain ⟨p1, p2⟩ := HUQ.out (decS f) (decS b) (decS_noC _ (.inl (by decide))) h1.2.1
    exact ⟨p1, p2, h1.1, h1.2.2⟩
  clear huq hspl e1 e2 e3 hMM hx0 hx0k
  go_wp2_with fail
  refine HC.out.mono ?_
  rintro e w2 ⟨rfl, j, rfl⟩
  have hw2 := below_drewN hw1 j
  have hB2 : Blk (w1.drewN j) w.heap.size 26 #[.int .i64 0, .int .i64 0, .slice none 0 0] := hB1
  have hS2 : Blk (w1.drewN j) sb 9 (Lib.cellsOf P N) := hS1
  clear HC hw1 hB1 hS1 hc0
  generalize w1.drewN j = W2 at hw2 hB2 hS2 ⊢
  go_wp2_with fail
  refine (readDec_any t _ (by omega) (HE.out _ hw2) (hid (HPW.out _ hw2))).mono ?_
  rintro e w3 ⟨hans, hb3⟩
  have hw3 := hw2.trans (hb3.mono hw2.size)
  have hB3 := hB2.below hb3 hB2.lt
  have hS3 := hS2.below hb3 hS2.lt
  clear hw2 hB2 hS2 hb3
  rcases hans.symm with ⟨hno, rfl⟩ | ⟨f, hf, hft, rfl⟩
  · have HN := hid hno
    clear hno
    go_wp2_with fail
    refine (mustI_no 0 _).mono ?_
    rintro e w4 ⟨rfl, rfl⟩
    exact ⟨rfl, show RdE s w _ _ from .inr ⟨rfl, .inr ⟨fun f b n len g h e => HN.out f (ens_in h).1 (HNO.out f b n len g h e).1.symm, rfl⟩, hw3⟩⟩
  have HF := hid (And.intro hf hft)
  clear hf hft
  go_wp2_with fail
  refine (mustI_yes f _).mono ?_
  rintro e w4 ⟨rfl, rfl⟩
  go_wp2_with fail
  refine (readDec_any r _ (by omega) (HE.out _ hw3) (hid (HPW.out _ hw3))).mono ?_
  rintro e w5 ⟨hans, hb5⟩
  have hw5 := hw3.trans (hb5.mono hw3.size)
  have hB5 := hB3.below hb5 hB3.lt
  have hS5 := hS3.below hb5 hS3.lt
  clear hw3 hB3 hS3 hb5
  rcases hans.symm with ⟨hno, rfl⟩ | ⟨b, hb, hbr, rfl⟩
  · have HN := hid hno
    clear hno
    go_wp2_with fail
    refine (mustI_no 0 _).mono ?_
    rintro e w6 ⟨rfl, rfl⟩
    exact ⟨rfl, show RdE s w _ _ from .inr ⟨rfl, .inr ⟨fun f b n len g h e => HN.out b (ens_in h).2.1 (HNO.out f b n len g h e).2.1.symm, rfl⟩, hw5⟩⟩
  have HB := hid (And.intro hb hbr)
  clear hb hbr
  go_wp2_with fail
  refine (mustI_yes b _).mono ?_
  rintro e w6 ⟨rfl, rfl⟩
  have hX0 : Hid (x0 = decS f ++ one1 32 ++ decS b) := by
    rcases HSPL.out with h | h
    · show _ = _; rw [HF.out.2, HB.out.2]; exact h
    · exfalso; have := decS_posE b; rw [HB.out.2] at this; omega
  have hsz : 0 < s.size := by
    rcases Nat.eq_zero_or_pos s.size with h | h
    · exfalso
      have h1 : x0.size ≤ s.size := by
        have := splitE_mem (min 14 (s.size + 1) - 1) s x0 (by have := HP.out; unfold partsE at this; rw [this]; exact List.mem_of_getElem? (by have := HX0.out; rw [← this]; exact getD_wordC hPp))
        exact this
      have h2 := congrArg ByteArray.size hX0.out
      rw [size_app3] at h2
      omega
    · exact h
  have hN1 : ¬ N = 1 := by omega
  clear hN
  have HG : Hid (GR w sb w6.heap.size (Lib.cellsOf P N) f b 0 none 0 (fun _ => 0) (fun _ => 0) (fun _ => 0) (fun _ _ => zNd) (w6.alloc (.cells #[.int .i64 f, .int .i64 b, .slice none 0 0] 26))) :=
    ⟨hB5.alloc _, hS5.alloc _, Blk.new w6 _ _, ⟨rfl, .inl ⟨rfl, rfl⟩⟩, treesN_nil, hsbw, hS5.lt, hw5.alloc hw5.size _⟩
  go_upto_region 4 with fail
  clear hw5 hB5 hS5
  generalize w6.alloc (.cells #[.int .i64 f, .int .i64 b, .slice none 0 0] 26) = W6 at HG ⊢
  generalize w6.heap.size = q at HG ⊢
  go_cut [32, 33, 34] (fun s32 s33 s34 wx => (∃ A1 c1, s32 = .slice A1 (P.length - 1) c1 ∧ (1 < P.length → A1 = some ⟨sb, 1, none⟩)) ∧ s33 = .int .i64 ((P.length - 1 : Nat) : Int) ∧ s34 = .int .i64 0 ∧ wx = W6)
  case first =>
    go_wp2_with fail
    go_meet
    exact ⟨⟨_, _, rfl, fun _ => rfl⟩, rfl, rfl, rfl⟩
  case rest =>
    obtain ⟨⟨A1, c1, rfl, hA1⟩, rfl, rfl, rfl⟩ := hcut
    clear hN1 hsz hPp i1
    go_wp2_with fail
    go_loopw [34] (fun i wr => ∃ (k : Nat) (At : Option Addr) (ct : Nat) (bl len cp : Nat → Nat) (g : Nat → Nat → Nd), k ≤ P.length - 1 ∧ i = .int .i64 k ∧
        Hid (GR w sb q (Lib.cellsOf P N) f b k At ct bl len cp g wr) ∧ Hid (∀ i, i < k → treeB (g i) (len i) 6 = true ∧ P.getD (i + 1) ByteArray.empty = treS (len i) (g i)))
      (fun i _ => P.length - 1 - (intOf i).toNat)
    case atStart => exact ⟨0, _, _, _, _, _, _, Nat.zero_le _, rfl, HG, fun i hi => absurd hi (Nat.not_lt_zero i)⟩
    case round =>
      clear HG
      obtain ⟨k, At, ct, bl, len, cp, g, hk, rfl, hG, hT⟩ := hrel
      by_cases hlt : k < P.length - 1
      · obtain rfl := hA1 (by omega)
        have j1 : (k : Int) < ((P.length - 1 : Nat) : Int) := by omega
        have j3 : (0 : Int) ≤ (k : Int) := by omega
        obtain ⟨x, hx⟩ : ∃ x, P.getD (k + 1) ByteArray.empty = x := ⟨_, rfl⟩
        have hxk := getD_wordC (P := P) (k := k + 1) (by omega)
        rw [hx] at hxk
        have hc : wr.cell? ⟨sb, 1 + k, none⟩ = some (.string x) := by rw [hG.out.str.cell, Nat.add_comm]; exact cells_word hxk
        have hxs : x.size ≤ 4194304 := HPM.out x (List.mem_of_getElem? hxk)
        have HX := hid hx
        have hbl := hG.out.bel
        have cE : wr.cell? ⟨q, 2, none⟩ = some (.slice At k ct) := hG.out.ens.cell 2
        have cEd : wr.drew.cell? ⟨q, 2, none⟩ = some (.slice At k ct) := hG.out.ens.cell 2
        have HRT := hid (iReadTree_any x wr.drew hxs (HE.out _ hbl.drew) (HM.out _ hbl.drew) (hid (HPW.out _ hbl.drew)))
        clear hx hxk
        go_wp2_with fail
        clear hc cE
        have hGd := hG.out.drew
        have hs0 : wr.drew.heap.size = wr.heap.size := rfl
        by_cases hyes : ∃ n y, treeB y n 6 = true ∧ x = treS n y
        · obtain ⟨n4, y, hy, hxy⟩ := hyes
          have HRY : Hid (Calls Tryz.prog 72 #[.string x] wr.drew fun e w' => ∃ b c, e = .returned (.tuple #[.slice (some ⟨b, 0, none⟩) n4 c, .bool true]) ∧ wr.drew.heap.size ≤ b ∧ RowN w' 58 b n4 y ∧ Below wr.drew.heap.size wr.drew w') :=
            HRT.out.mono fun e w' h => tr_yes hy (by rw [← hxy]; exact h)
          have HY := hid (And.intro hy hxy)
          have HGD := hid hGd
          clear hy hxy HRT hGd
          go_region_law
            (first
              | (refine step_append_lies _ (by rfl) _ _ _ (by rfl) (q + 1) 45 i0 _ 1 24 Tryz.underlying24 hi0 hz0 hz1 hz2 rfl (by omega) (.slice At k ct) k (hdJ k bl len cp) (by rfl) (HG4.out.rows.alloc _) ⟨w4.heap.size, 0, none⟩ 1 1 [.slice (some ⟨b4, 0, none⟩) n4 c4] (by rfl) (by rfl) (World.news_of_block (cs := #[.slice (some ⟨b4, 0, none⟩) n4 c4]) (t := 45) (fr := (0, 0)) (heap_alloc_new w4 _)) (by simp [Value.oneCell']) (by omega) (by unfold maxLen; omega) (by omega) (by simp; omega) (w4.heap.size + 1) (by simp) ?_; intro gg cp5 w5 hown5 hgrow hat hlt5; have hE5 : Blk w5 q 26 #[.int .i64 f, .int .i64 b, .slice At k ct] := (HG4.out.ens.alloc _).grown hgrow (by intro e; have := (HG4.out.rows.lt q e.symm).1; omega); have cE5 : w5.cell? ⟨q, 2, none⟩ = some (.slice At k ct) := hE5.cell 2; have fE5 : w5.frozen? ⟨q, 2, none⟩ = false := hE5.frozen 2)
              | (go_simp; go_at_call 72; refine HRY.out.mono ?_; rintro e w4 ⟨b4, c4, rfl, hb4, hr4, hbl4⟩; have HG4 := hid (HGD.out.below hbl4); have HR4 := hid hr4; have cE4 : w4.cell? ⟨q, 2, none⟩ = some (.slice At k ct) := HG4.out.ens.cell 2; have cE4a : (w4.alloc (.cells #[.slice (some ⟨b4, 0, none⟩) n4 c4] 45)).cell? ⟨q, 2, none⟩ = some (.slice At k ct) := (HG4.out.ens.alloc _).cell 2; have hs4 : wr.heap.size ≤ w4.heap.size := hbl4.size; have hq4 := HG4.out.ens.lt; clear hr4 hbl4)
              | (go_simp; go_at_call 71; refine (mustN_ok _ _ _ _).mono ?_; rintro e wm ⟨rfl, rfl⟩))
          all_goals
            have hG5 := GR.next HG4.out HR4.out (by have := hG.out.ens.lt; omega) (hG.out.apart hb4) _ hown5 hgrow
            have HG5 := hid hG5
            have HT5 : Hid (∀ i, i < k + 1 → treeB (setG g k y i) (setN len k n4 i) 6 = true ∧ P.getD (i + 1) ByteArray.empty = treS (setN len k n4 i) (setG g k y i)) := fun i hi => by
              by_cases e : i = k
              · subst e
                rw [setG_same, setN_same, HX.out]
                exact HY.out
              · rw [setG_other e, setN_other e]
                exact hT.out i (by omega)
            clear hG5 hown5 hgrow HG4 HR4
            go_wp2_with fail
            go_roundw
            case rel => exact ⟨k + 1, _, _, _, _, _, _, by omega, by go_num, HG5, HT5⟩
            case measure => simp [intOf]; omega
        · have HRN : Hid (Calls Tryz.prog 72 #[.string x] wr.drew fun e w' => e = .returned (.tuple #[.slice none 0 0, .bool false]) ∧ Below wr.drew.heap.size wr.drew w') :=
            HRT.out.mono fun e w' h => tr_no (fun n z hz e => hyes ⟨n, z, hz, e⟩) h
          have HYN := hid hyes
          have HBL := hid hbl
          have HANS : Hid (∀ w5, Below wr.drew.heap.size wr.drew w5 → RdE s w (.panicked [{ v := notT, recovered := false }]) w5) := fun w5 h5 =>
            .inr ⟨rfl, .inr ⟨fun f b n len g h e => by
              obtain ⟨_, _, p3, p4⟩ := HNO.out f b n len g h e
              refine HYN.out ⟨len k, g k, (ens_in h).2.2.2 k (by omega), ?_⟩
              rw [← HX.out]
              exact p4 k (by omega), rfl⟩, HBL.out.drew.trans (h5.mono HBL.out.drew.size)⟩
          clear hyes HRT hGd hbl
          go_region_law
            (first
              | (go_simp; go_at_call 72; refine HRN.out.mono ?_; rintro e w4 ⟨rfl, hbl4⟩; have HB4 := hid hbl4; have cE4 : w4.cell? ⟨q, 2, none⟩ = some (.slice At k ct) := (hbl4.cell (show (⟨q, 2, none⟩ : Addr).block < wr.drew.heap.size from hG.out.ens.lt)).trans cEd; clear hbl4)
              | ((try go_simp); go_at_call 71; refine (mustN_bad _ _ _ _).mono ?_; rintro e wm ⟨rfl, rfl⟩; suffices hh : wpAny Tryz.prog .any #[] (fun _ _ _ => True) 0 #[] ⟨#[], []⟩ w4 from (show _ ∧ _ from ⟨rfl, HANS.out _ HB4.out⟩)))
          all_goals trivial
      · obtain rfl : k = P.length - 1 := by omega
        have j1 : ¬ ((P.length - 1 : Nat) : Int) < ((P.length - 1 : Nat) : Int) := by omega
        have c0 := hG.out.ens.cell 0; have c1 := hG.out.ens.cell 1; have c2 := hG.out.ens.cell 2
        have hrd := rdT_J hG.out.rows hG.out.trs
        have hl4 : Hid (∀ i, i < P.length - 1 → len i ≤ 4194304) := fun i hi => by have := tree_le (hT.out i hi).1; omega
        go_wp2_with fail
        refine (iEnsOk_any f b At (P.length - 1) ct len g wr hrd (by omega) hl4).mono ?_
        rintro e w7 ⟨rfl, hb7⟩
        have hG7 := hG.out.below hb7
        have HG7 := hid hG7
        clear hG hrd hb7 c0 c1 c2 hG7
        cases hok : ensB f b (P.length - 1) len g
        · have HO := hid hok
          clear hok
          go_wp2_with fail
          refine (need_no _).mono ?_
          rintro e w8 ⟨rfl, rfl⟩
          refine ⟨rfl, show RdE s w _ _ from .inr ⟨rfl, .inr ⟨fun f' b' n' len' g' h e => ?_, rfl⟩, HG7.out.bel⟩⟩
          obtain ⟨p1, p2, p3, p4⟩ := HNO.out f' b' n' len' g' h e
          obtain rfl : f = f' := decS_inj HF.out.1 (ens_in h).1 (HF.out.2.trans p1)
          obtain rfl : b = b' := decS_inj HB.out.1 (ens_in h).2.1 (HB.out.2.trans p2)
          have hn : P.length - 1 = n' := by omega
          have := HO.out
          rw [hn, ensB_congrE h fun i hi => treS_inj ((ens_in h).2.2.2 i hi) (hT.out i (by omega)).1 ((p4 i hi).symm.trans (hT.out i (by omega)).2)] at this
          cases this
        · have HO := hid hok
          clear hok
          go_wp2_with fail
          refine (need_yes _).mono ?_
          rintro e w8 ⟨⟨v, rfl⟩, rfl⟩
          have e0 := HG7.out.ens.cell 0; have e1 := HG7.out.ens.cell 1; have e2 := HG7.out.ens.cell 2
          have d0 := HG7.out.res.cell 0; have d1 := HG7.out.res.cell 1; have d2 := HG7.out.res.cell 2
          have f0 := HG7.out.res.frozen 0; have f1 := HG7.out.res.frozen 1; have f2 := HG7.out.res.frozen 2
          go_wp2_with fail
          refine bodyPost_ret (results_e1 rfl _ _ w.heap.size 26 #[.int .i64 f, .int .i64 b, .slice At (P.length - 1) ct] (0, 0) _ rfl (((HG7.out.res.set_ 0 (.int .i64 f)).set_ 1 (.int .i64 b)).set_ 2 (.slice At (P.length - 1) ct)) Tryz.underlying26 rfl size_ens) rfl ?_
          have hL : Laid w8 (w.alloc (.cells #[] 26)).heap.size w8.heap.size At (P.length - 1) len g := laid_own (own_weak HG7.out.rows (by have := HG7.out.lt0; have := HG7.out.lt1; simp; omega)) (HG7.out.trs.less (by have := HG7.out.lt0; have := HG7.out.lt1; simp; omega))
          have hL2 := hL.keep (w' := ((w8.setCell ⟨w.heap.size, 0, none⟩ (.int .i64 f)).setCell ⟨w.heap.size, 1, none⟩ (.int .i64 b)).setCell ⟨w.heap.size, 2, none⟩ (.slice At (P.length - 1) ct)) fun x hx _ => by
            rw [World.size_alloc] at hx
            rw [Below.heap_setCell _ _ _ x (fun e => by have e' : x = w.heap.size := e; omega), Below.heap_setCell _ _ _ x (fun e => by have e' : x = w.heap.size := e; omega), Below.heap_setCell _ _ _ x (fun e => by have e' : x = w.heap.size := e; omega)]
          have hs' : s = ensS f b (P.length - 1) len g := by
            unfold ensS
            rw [if_pos HO.out]
            refine ens_of_parts (by rw [HP.out, Nat.sub_add_cancel HPOS.out]) fun i hi => ?_
            rw [HP.out]
            cases i with
            | zero => rw [HX0.out, hX0.out]; rfl
            | succ i => rw [(hT.out i (by omega)).2, treS_yes (hT.out i (by omega)).1]; rfl
          exact .inl ⟨f, b, P.length - 1, At, ct, rfl, .inl ⟨f, b, P.length - 1, len, g, At, ct, HO.out, hs', rfl, hL2.less (by simp) (by simp [World.setCell])⟩, ((HG7.out.bel.setCell (p := ⟨w.heap.size, 0, none⟩) (Nat.le_refl _) _).setCell (p := ⟨w.heap.size, 1, none⟩) (Nat.le_refl _) _).setCell (p := ⟨w.heap.size, 2, none⟩) (Nat.le_refl _) _⟩
theorem iReadEns_any (s : ByteArray) (w : World) (hs : s.size ≤ 4194304) (hE : ErrOk w) (hM : LenOk w) (hp : Hid (Pow w w.heap.size)) :
    Calls Tryz.prog 9 #[.string s] w (EnL s w) :=
  iReadEns_of s w fun W hW => readEns_any s W hs (hE.below hW) (hM.below hW) (hid (fun W' hW' => hp.out W' (hW.trans (hW'.mono hW.size))))
end
end Go.Proofs.YtmkipdhappikhaaGreatDoor
