/- CacheGet, on both sides. -/
import Derived.Test.YtckhooibjmheiaaCaF
namespace Go.Proofs.Ytckhooibjmheiaa
open Go.RowKit Go.Deep
set_option linter.unusedVariables false
set_option linter.unusedSimpArgs false

theorem results_cell_row_tmpC {P : Program} {fn : Func} {p u : Tmp} {ty : TypeId} (h : fn.results = #[.cell p ty, .tmp u]) (tmps : Array Value) (w : World) (g : Nat) (t : TypeId) (cs : Array Value) (fr : Nat × Nat) (d : TypeDesc)
    (hp : tmps.getD p undef = .pointer (some ⟨g, 0, none⟩)) (hg : w.heap[g]? = some (.cells cs t fr))
    (hu : P.underlying ty = some d) (hd : (match d with | .struct _ | .array _ _ => true | _ => false) = true) (hi : (P.info? ty).map (·.size) = some cs.size) :
    (results fn tmps).run P w = .ok (.tuple #[.agg cs, tmps.getD u undef]) w := by
  have hp' : tmps[p]?.getD undef = .pointer (some ⟨g, 0, none⟩) := by simpa using hp
  simp [results, h, hp', asAddr, Result.andThen, run_loadVar_row w g t ty cs fr d hg hu hd hi]
theorem results_cell_row_tmp2C {P : Program} {fn : Func} {p u v : Tmp} {ty : TypeId} (h : fn.results = #[.cell p ty, .tmp u, .tmp v]) (tmps : Array Value) (w : World) (g : Nat) (t : TypeId) (cs : Array Value) (fr : Nat × Nat) (d : TypeDesc)
    (hp : tmps.getD p undef = .pointer (some ⟨g, 0, none⟩)) (hg : w.heap[g]? = some (.cells cs t fr))
    (hu : P.underlying ty = some d) (hd : (match d with | .struct _ | .array _ _ => true | _ => false) = true) (hi : (P.info? ty).map (·.size) = some cs.size) :
    (results fn tmps).run P w = .ok (.tuple #[.agg cs, tmps.getD u undef, tmps.getD v undef]) w := by
  have hp' : tmps[p]?.getD undef = .pointer (some ⟨g, 0, none⟩) := by simpa using hp
  simp [results, h, hp', asAddr, Result.andThen, run_loadVar_row w g t ty cs fr d hg hu hd hi]

abbrev slV (A : Option Addr) (c : Nat) (x : Slt) : Value := .agg #[.slice A x.n c, .int .i64 x.score, .int .i64 x.used]
theorem canTick_any (cap clock : Int) (A : Option Addr) (k c : Nat) (s : Nat → Slt) (w : World) (h : RdC w w.heap.size A k s) (hn : k ≤ 4194304) (hlen : Hid (∀ i, i < k → (s i).n ≤ 4194304)) :
    Calls Try.prog 85 #[caV cap clock A k c] w fun e w' => e = .returned (.bool (canB cap clock k s)) ∧ Below w.heap.size w w' := by
  have hb1 := (Below.refl w.heap.size w).alloc (Nat.le_refl _) (.cells #[.int .i64 cap, .int .i64 clock, .slice A k c] 26)
  have hE := Blk.new w 26 #[.int .i64 cap, .int .i64 clock, .slice A k c]
  have h1 := h.to hb1 hb1.size
  cases hq : cacheB cap clock k s
  all_goals
    have HQ := hid hq
    have e0 : canB cap clock k s = (cacheB cap clock k s && decide (clock < 1000000000)) := rfl
    rw [hq] at e0
    rw [e0]
    clear hq e0
    go_enter Try.func85, Try.ntmps85
    go_wp2_with fail
    refine (iCacheOk_any cap clock A k c s _ h1 hn hlen).mono ?_
    rintro e w2 ⟨rfl, hb2⟩
    rw [HQ.out]
    have x1 : w2.cell? ⟨w.heap.size, 1, none⟩ = some (.int .i64 clock) := (hE.below hb2 hE.lt).cell 1
    have hw2 := hb1.trans (hb2.mono hb1.size)
    go_wp2_with fail
    go_ret
    exact ⟨rfl, hw2⟩

theorem closeGet_any (A : Option Addr) (c : Nat) (x : Slt) (D : Option Addr) (f dc q : Nat) (z : Nat → Int) (w : World) (h : RdS w w.heap.size A x.n x.g) (hd : Rd w w.heap.size D f z) (hq : w.cell? ⟨q, 0, none⟩ = some (.slice D f dc)) (hql : q < w.heap.size) (hn : x.n ≤ 4194304) (hf : f ≤ 4194304) :
    Calls Try.prog 87 #[slV A c x, .pointer (some ⟨q, 0, none⟩)] w fun e w' => e = .returned (.bool (hitP f z x)) ∧ Below w.heap.size w w' := by
  have hb1 := (Below.refl w.heap.size w).alloc (Nat.le_refl _) (.cells #[.slice A x.n c, .int .i64 x.score, .int .i64 x.used] 37)
  have h1 := h.to hb1 hb1.size
  have hd1 := hd.to hb1 hb1.size
  have q1 := (hb1.cell (p := ⟨q, 0, none⟩) hql).trans hq
  go_enter Try.func87, Try.ntmps87
  go_wp2_with fail
  refine (iBoxHas_any A D x.n c f dc x.g z _ h1 hd1 hn hf).mono ?_
  rintro e w2 ⟨rfl, hb2⟩
  have hw2 := hb1.trans (hb2.mono hb1.size)
  go_wp2_with fail
  go_ret
  exact ⟨rfl, hw2⟩

def idxI (p : Nat → Bool) (k : Nat) : Int := if idxP p k < k then (idxP p k : Int) else -1
set_option maxRecDepth 100000 in
set_option maxHeartbeats 1000000 in
theorem indexF_any (A : Option Addr) (k c : Nat) (s : Nat → Slt) (D : Option Addr) (f dc q : Nat) (z : Nat → Int) (w : World) (h : RdC w w.heap.size A k s) (hd : Rd w w.heap.size D f z) (hq : w.cell? ⟨q, 0, none⟩ = some (.slice D f dc)) (hql : q < w.heap.size) (hn : k ≤ 4194304) (hlen : Hid (∀ i, i < k → (s i).n ≤ 4194304)) (hf : f ≤ 4194304) :
    Calls Try.prog 86 #[.slice A k c, .func (.func 87) #[] #[.pointer (some ⟨q, 0, none⟩)]] w fun e w' => e = .returned (.int .i64 (idxI (fun i => hitP f z (s i)) k)) ∧ Below w.heap.size w w' := by
  go_enter Try.func86, Try.ntmps86
  go_wp2_with fail
  go_loopw [8] (fun i wr => ∃ j : Nat, j ≤ k ∧ i = .int .i64 j ∧ Hid (∀ i, i < j → hitP f z (s i) = false) ∧ Below w.heap.size w wr) (fun i _ => k - (intOf i).toNat)
  case atStart => exact ⟨0, Nat.zero_le _, rfl, fun i hi => by omega, Below.refl _ _⟩
  case round =>
    obtain ⟨j, hj, rfl, hall, hbl⟩ := hrel
    by_cases hlt : j < k
    · obtain ⟨bb, off, Ai, ci, rfl, hbb, c0, c1, c2, hrd⟩ := (h.below hbl).at_ hlt
      have hl : (j : Int) < (k : Int) := by omega
      have hl0 : (0 : Int) ≤ (j : Int) := by omega
      have hlk := hlen.out j hlt
      have hr1 := hrd.more hbl.size
      have hd1 := hd.to hbl hbl.size
      have q1 := (hbl.cell (p := ⟨q, 0, none⟩) hql).trans hq
      have hql1 := Nat.lt_of_lt_of_le hql hbl.size
      go_wp2_with fail
      refine (closeGet_any Ai ci (s j) D f dc q z _ hr1 hd1 q1 hql1 hlk hf).mono ?_
      rintro e w2 ⟨rfl, hb2⟩
      have hw2 := hbl.trans (hb2.mono hbl.size)
      cases hp : hitP f z (s j)
      · go_wp2_with fail
        go_roundw
        case rel =>
          refine ⟨j + 1, by omega, by go_num, fun i hi => ?_, hw2⟩
          by_cases e : i = j
          · subst e; exact hp
          · exact hall.out i (by omega)
        case measure => simp [intOf]; omega
      · go_wp2_with fail
        go_ret
        refine ⟨?_, hw2⟩
        unfold idxI
        rw [idxP_at (p := fun i => hitP f z (s i)) hlt hp hall.out, if_pos hlt]
        rfl
    · obtain rfl : j = k := by omega
      go_wp2_with fail
      go_ret
      refine ⟨?_, hbl⟩
      unfold idxI
      rw [idxP_none (p := fun i => hitP f z (s i)) hall.out, if_neg (by omega)]
      rfl

def gClk (cap clock : Int) (k : Nat) (s : Nat → Slt) (f : Nat) (z : Nat → Int) : Int := if getI cap clock k s f z < k then clock + 1 else clock
def gSc (cap clock : Int) (k : Nat) (s : Nat → Slt) (f : Nat) (z : Nat → Int) : Int := if getI cap clock k s f z < k then (s (getI cap clock k s f z)).score else 0
def gHit (cap clock : Int) (k : Nat) (s : Nat → Slt) (f : Nat) (z : Nat → Int) : Bool := decide (getI cap clock k s f z < k)
def gSl (cap clock : Int) (k : Nat) (s : Nat → Slt) (f : Nat) (z : Nat → Int) : Nat → Slt := if getI cap clock k s f z < k then upS s (getI cap clock k s f z) (clock + 1) else s
/-- What CacheGet answers. -/
def GetAns (cap clock : Int) (k : Nat) (s : Nat → Slt) (f : Nat) (z : Nat → Int) (w : World) (e : Ending) (w' : World) : Prop :=
  ∃ A' c', e = .returned (.tuple #[caV cap (gClk cap clock k s f z) A' k c', .int .i64 (gSc cap clock k s f z), .bool (gHit cap clock k s f z)]) ∧ OwC w' w.heap.size A' k c' (gSl cap clock k s f z) ∧ Below w.heap.size w w'
theorem getAns_no {cap clock : Int} {k : Nat} {s : Nat → Slt} {f : Nat} {z : Nat → Int} {w w' : World} {A' : Option Addr} {c' : Nat} (hI : ¬ getI cap clock k s f z < k) (h : OwC w' w.heap.size A' k c' s) (hb : Below w.heap.size w w') :
    GetAns cap clock k s f z w (.returned (.tuple #[caV cap clock A' k c', .int .i64 0, .bool false])) w' := by
  refine ⟨A', c', ?_, ?_, hb⟩
  · unfold gClk gSc gHit
    rw [if_neg hI, if_neg hI, decide_eq_false hI]
  · unfold gSl
    rw [if_neg hI]
    exact h
theorem getAns_yes {cap clock : Int} {k i : Nat} {s : Nat → Slt} {f : Nat} {z : Nat → Int} {w w' : World} {A' : Option Addr} {c' : Nat} (hI : getI cap clock k s f z = i) (hi : i < k) (h : OwC w' w.heap.size A' k c' (upS s i (clock + 1))) (hb : Below w.heap.size w w') :
    GetAns cap clock k s f z w (.returned (.tuple #[caV cap (clock + 1) A' k c', .int .i64 (s i).score, .bool true])) w' := by
  refine ⟨A', c', ?_, ?_, hb⟩
  · unfold gClk gSc gHit
    rw [hI, if_pos hi, if_pos hi, decide_eq_true hi]
  · unfold gSl
    rw [hI, if_pos hi]
    exact h
end Go.Proofs.Ytckhooibjmheiaa
