/- The walk of the law of one tree more that is a leaf. -/
import Derived.Test.YtnhbgagdppbldaaEnsDrawH
import Derived.Test.YtnhbgagdppbldaaEnsF
import Derived.Test.YtnhbgagdppbldaaEnsD
import Derived.Deep.RegionHeld3
namespace Go.Proofs.Ytnhbgagdppbldaa
open Go.RowKit Go.Deep

theorem sumT_ext {p q : Nat → Int} : ∀ {n : Nat}, (∀ i, i < n → p i = q i) → sumT p n = sumT q n := by
  intro n
  induction n with
  | zero => intro _; rfl
  | succ n ih =>
    intro h
    simp only [sumT]
    rw [ih fun i hi => h i (by omega), h n (by omega)]
/-- The headers of what reads as a list of lists. -/
theorem RdT.hdrs {w : World} {B n : Nat} {A : Option Addr} {len : Nat → Nat} {g : Nat → Nat → Nd} (h : RdT w B A n len g) :
    ∃ (As : Nat → Option Addr) (cs : Nat → Nat), (0 < n → ∃ b off, A = some ⟨b, off, none⟩ ∧ b < B ∧ ∀ i, i < n → w.cell? ⟨b, off + i, none⟩ = some (.slice (As i) (len i) (cs i))) ∧ ∀ i, i < n → RdN w B (As i) (len i) (g i) := by
  by_cases hn : 0 < n
  · obtain ⟨b, off, e, hb, hc⟩ := h hn
    have hq : ∀ i, ∃ p : Option Addr × Nat, i < n → (w.cell? ⟨b, off + i, none⟩ = some (.slice p.1 (len i) p.2) ∧ RdN w B p.1 (len i) (g i)) := fun i => by
      by_cases hi : i < n
      · obtain ⟨Ai, ci, h1, h2⟩ := hc i hi
        exact ⟨(Ai, ci), fun _ => ⟨h1, h2⟩⟩
      · exact ⟨(none, 0), fun h => absurd h hi⟩
    obtain ⟨F, hF⟩ := Classical.axiomOfChoice hq
    exact ⟨fun i => (F i).1, fun i => (F i).2, fun _ => ⟨b, off, e, hb, fun i hi => (hF i hi).1⟩, fun i hi => (hF i hi).2⟩
  · exact ⟨fun _ => none, fun _ => 0, fun h => absurd h hn, fun i hi => by omega⟩
theorem rdT_own {w : World} {B B' n c : Nat} {A : Option Addr} {xs : List Value} {As : Nat → Option Addr} {cs len : Nat → Nat} {g : Nat → Nat → Nd} (h : w.ownsRow B 24 1 (.slice A n c) n xs)
    (hx : ∀ i, i < n → xs[i]? = some (.slice (As i) (len i) (cs i))) (hr : ∀ i, i < n → RdN w B' (As i) (len i) (g i)) (hB : B' ≤ w.heap.size) : RdT w w.heap.size A n len g := fun hn => by
  rcases h.2 with ⟨_, h0⟩ | ⟨gg, cap, cur, hv, _, hg, _, _, _, ht⟩
  · omega
  · injection hv with hA _ _
    refine ⟨gg, 0, hA, Blk.lt hg, fun i hi => ⟨As i, cs i, ?_, (hr i hi).more hB⟩⟩
    have h1 : (cur.toList.take (n * 1))[i]? = xs[i]? := by rw [ht]
    rw [List.getElem?_take, if_pos (by omega), Array.getElem?_toList, hx i hi] at h1
    have h2 : w.cell? ⟨gg, i, none⟩ = cur[i]? := Blk.cell hg i
    rw [Nat.zero_add, h2, h1]

def upT (g : Nat → Nat → Nd) (k : Nat) (x : Nat → Nd) : Nat → Nat → Nd := fun i => if i = k then x else g i
theorem upT_same (g : Nat → Nat → Nd) (k : Nat) (x : Nat → Nd) : upT g k x k = x := if_pos rfl
theorem upT_other {g : Nat → Nat → Nd} {k i : Nat} {x : Nat → Nd} (h : i ≠ k) : upT g k x i = g i := if_neg h
theorem leaf_tree {v f : Int} (hf : 1 ≤ f ∧ f ≤ 6) (hv : -1000000000 ≤ v ∧ v ≤ 1000000000) : treeB (fun _ => ⟨0, 0, 0, 0, false, v⟩) 1 f = true := by
  rw [treeB_iff]
  refine ⟨hf, by omega, fun i hi => ?_⟩
  obtain rfl : i = 0 := by omega
  refine ⟨?_, fun h => absurd h (by omega)⟩
  unfold Node
  rw [if_pos rfl]
  simp [lfB]
  omega
theorem ensB_more {f b v : Int} {k : Nat} {len : Nat → Nat} {g : Nat → Nat → Nd} (h : ensB f b k len g = true) (hk : k < 12) (hv : -1000000000 ≤ v ∧ v ≤ 1000000000) :
    ensB f b (k + 1) (upN len k 1) (upT g k fun _ => ⟨0, 0, 0, 0, false, v⟩) = true := by
  obtain ⟨q1, q2, q3, q4⟩ := ensB_iff.1 h
  refine ensB_iff.2 ⟨q1, q2, by omega, fun i hi => ?_⟩
  by_cases e : i = k
  · subst e
    rw [upN_same, upT_same]
    exact leaf_tree q1 hv
  · rw [upN_other e, upT_other e]
    exact q4 i (by omega)
theorem sum_more (g : Nat → Nat → Nd) (z : Nat → Int) (k : Nat) (v : Int) : sumT (scF (upT g k fun _ => ⟨0, 0, 0, 0, false, v⟩) z) (k + 1) = sumT (scF g z) k + v := by
  have e1 : sumT (scF (upT g k fun _ => ⟨0, 0, 0, 0, false, v⟩) z) k = sumT (scF g z) k := sumT_ext fun i hi => by
    show lvv (upT g k _ i) z = lvv (g i) z
    rw [upT_other (by omega)]
  have e2 : scF (upT g k fun _ => ⟨0, 0, 0, 0, false, v⟩) z k = v := by
    show lvv (upT g k _ k) z = v
    rw [upT_same]
    rfl
  rw [sumT, e1, e2]

/-- The headers in their order. -/
def hdl (k : Nat) (As : Nat → Option Addr) (len cs : Nat → Nat) : List Value := (List.range k).map fun i => .slice (As i) (len i) (cs i)
theorem hdl_len (k : Nat) (As : Nat → Option Addr) (len cs : Nat → Nat) : (hdl k As len cs).length = k := by simp [hdl]
theorem hdl_at {k : Nat} {As : Nat → Option Addr} {len cs : Nat → Nat} {i : Nat} (hi : i < k) : (hdl k As len cs)[i]? = some (.slice (As i) (len i) (cs i)) := by
  unfold hdl
  rw [List.getElem?_map, List.getElem?_range hi]
  rfl
theorem hdl_one (k : Nat) (As : Nat → Option Addr) (len cs : Nat → Nat) : ∀ u ∈ hdl k As len cs, u.oneCell' = true := by
  intro u hu
  obtain ⟨i, _, rfl⟩ := List.mem_map.1 hu
  rfl
theorem run_append_zero {P : Program} {w : World} (base : Nat) (t ty e : TypeId) (i : TypeInfo) (size : Nat) (ht : P.underlying t = some (.slice e)) (hi : P.info? e = some i)
    (v : Value) (n : Nat) (xs : List Value) (hown : w.ownsRow base e size v n xs) (A : Option Addr) (c : Nat) :
    (Builtin.append_ #[t, t] ty #[v, .slice A 0 c]).run P w = .ok v w := by
  rcases hown.2 with ⟨rfl, rfl⟩ | ⟨g, cap, cur, rfl, _, _, hnc, _⟩
  · cases A <;> simp [Builtin.append_, run_underlying ht, sizeOf, typeInfo, hi, Builtin.lenOf, Builtin.firstCells, loadCells, loadCellsFrom]
  · cases A <;> simp [Builtin.append_, run_underlying ht, sizeOf, typeInfo, hi, Builtin.lenOf, Builtin.firstCells, hnc, storeCells, loadCells, loadCellsFrom]
/-- append of a slice that may be empty, onto a row of one's own. -/
theorem wpList_append_may {P : Program} {w : World} {ops : Array Oper} {rest : List Oper} {o : Oper} {a : Act} {Q : Exit → Act → World → Prop} (hgd : o.guard = none) (s x : Operand) (t : TypeId)
    (ho : o.op = .call { callee := .builtin .append, args := #[s, x], argTypes := #[t, t] })
    (base : Nat) (e : TypeId) (i : TypeInfo) (z : Value) (size bytes : Nat) (ht : P.underlying t = some (.slice e)) (hi : P.info? e = some i) (hz : i.zero = some z)
    (hsize : i.size = size) (hby : i.bytes = bytes) (hzs : z.cells.size = size) (hsz : 0 < size)
    (v : Value) (n : Nat) (xs : List Value) (hs : a.eval s = v) (hown : w.ownsRow base e size v n xs)
    (A : Option Addr) (m c : Nat) (news : List Value) (hx : a.eval x = .slice A m c) (hl : news.length = m * size) (hnews : 0 < m → ∃ b off, A = some ⟨b, off, none⟩ ∧ ∀ j u, news[j]? = some u → w.cell? ⟨b, off + j, none⟩ = some u) (h1 : ∀ u ∈ news, u.oneCell' = true)
    (h63 : n + m ≤ maxLen) (hbytes : (n + m) * bytes ≤ 140737488355328) (hbase : base ≤ w.heap.size)
    (h : ∀ v' w', w'.ownsRow base e size v' (n + m) (xs ++ news) → w.grownBy w' v.ownBlock → wpList P ops Q rest (a.put o.dst v') w') : wpList P ops Q (o :: rest) a w := by
  by_cases hm : 0 < m
  · obtain ⟨b, off, rfl, hc⟩ := hnews hm
    exact wpList_append_own w hgd s x t ho base e i z size bytes ht hi hz hsize hby hzs hsz v n xs hs hown ⟨b, off, none⟩ m c news hx hl (fun j u hu => by simpa [Addr.add_lit] using hc j u hu) h1 h63 hbytes hbase fun v' w' h2 h3 _ => h v' w' h2 h3
  · obtain rfl : m = 0 := by omega
    obtain rfl : news = [] := List.eq_nil_of_length_eq_zero (by omega)
    refine wpList_plain hgd fun K hK => ?_
    have hrun := run_append_zero (P := P) (w := w) base t o.type e i size ht hi v n xs hown A c
    unfold Oper.wp
    simp [execOp, ho, resolve, invoke, builtin, hs, hx, hrun, Result.andThen]
    exact hK _ _ (h v w (by simpa using hown) ⟨rfl, rfl, rfl, Nat.le_refl _, fun _ _ _ => rfl⟩)

set_option maxRecDepth 100000 in
set_option maxHeartbeats 4000000 in
theorem lawMore (A : Option Addr) (n cap : Nat) (w : World) (h : Bs w w.heap.size A n) :
    Calls Try.prog 13 #[.slice A n cap] w fun e w' => e = .returned (.bool true) ∧ Below w.heap.size w w' := by
  obtain ⟨i0, hi0, hz0, hz1, hz2⟩ := info_parts info_nodes
  by_cases hbig : (1048576 : Int) < (n : Int)
  · go_enter Try.func13, Try.ntmps13
    go_wp2_with fail
    refine (big_yes A n cap _ hbig).mono ?_
    rintro e w1 ⟨rfl, rfl⟩
    go_wp2_with fail
    go_ret
    exact ⟨rfl, Below.refl _ _⟩
  · have hn : n ≤ 4194304 := by omega
    go_enter Try.func13, Try.ntmps13
    go_wp2_with fail
    refine (big_no A n cap _ (by omega)).mono ?_
    rintro e w0 ⟨rfl, rfl⟩
    go_wp2_with fail
    refine (drawFull A n cap _ h hn).mono ?_
    rintro e w1 ⟨f, b, k, A', c, len, g, m, z, D, dc, hk, hl, hm, rfl, hr1, hd1, hb1⟩
    have hl' : Hid (∀ i, i < k → len i ≤ 4194304) := fun i hi => by have := hl i hi; omega
    have hk' : k ≤ 4194304 := by omega
    have hm' : m ≤ 4194304 := by omega
    have hbx := (Below.refl w1.heap.size w1).alloc (Nat.le_refl _) (.cells #[.int .i64 f, .int .i64 b, .slice A' k c] 54)
    have hE2 := Blk.new w1 54 #[.int .i64 f, .int .i64 b, .slice A' k c]
    have hr2 := hr1.to hbx hbx.size
    have hd2 := hd1.to hbx hbx.size
    have hw2 := hb1.trans (hbx.mono hb1.size)
    clear hl hbx hr1 hd1 hb1
    cases hy : (ensB f b k len g && fitB f m z) with
    | false =>
      have HY := hid hy
      clear hy
      have c0 : (w1.alloc (.cells #[.int .i64 f, .int .i64 b, .slice A' k c] 54)).cell? ⟨w1.heap.size, 0, none⟩ = some (.int .i64 f) := hE2.cell 0
      have c1 : (w1.alloc (.cells #[.int .i64 f, .int .i64 b, .slice A' k c] 54)).cell? ⟨w1.heap.size, 1, none⟩ = some (.int .i64 b) := hE2.cell 1
      have c2 : (w1.alloc (.cells #[.int .i64 f, .int .i64 b, .slice A' k c] 54)).cell? ⟨w1.heap.size, 2, none⟩ = some (.slice A' k c) := hE2.cell 2
      go_wp2_with fail
      refine (iFull_no f b A' k c len g D m dc z _ hr2 hd2 hk' hl' hm' HY.out).mono ?_
      rintro e v1 ⟨rfl, hbv1⟩
      have hE2_1 := hE2.below hbv1 hE2.lt
      have hr_1 := hr2.to hbv1 hbv1.size
      have hd_1 := hd2.to hbv1 hbv1.size
      have hw_1 := hw2.trans (hbv1.mono hw2.size)
      clear hE2 hr2 hd2 hw2 hbv1
      clear c0 c1 c2
      have c0 : v1.cell? ⟨w1.heap.size, 0, none⟩ = some (.int .i64 f) := hE2_1.cell 0
      have c1 : v1.cell? ⟨w1.heap.size, 1, none⟩ = some (.int .i64 b) := hE2_1.cell 1
      have c2 : v1.cell? ⟨w1.heap.size, 2, none⟩ = some (.slice A' k c) := hE2_1.cell 2
      go_wp2_with fail
      refine (sFull_no f b A' k c len g D m dc z _ hr_1 hd_1 hk' hl' hm' HY.out).mono ?_
      rintro e v2 ⟨rfl, hbv2⟩
      have hE2_2 := hE2_1.below hbv2 hE2_1.lt
      have hr_2 := hr_1.to hbv2 hbv2.size
      have hd_2 := hd_1.to hbv2 hbv2.size
      have hw_2 := hw_1.trans (hbv2.mono hw_1.size)
      clear hE2_1 hr_1 hd_1 hw_1 hbv2
      clear c0 c1 c2
      have c0 : v2.cell? ⟨w1.heap.size, 0, none⟩ = some (.int .i64 f) := hE2_2.cell 0
      have c1 : v2.cell? ⟨w1.heap.size, 1, none⟩ = some (.int .i64 b) := hE2_2.cell 1
      have c2 : v2.cell? ⟨w1.heap.size, 2, none⟩ = some (.slice A' k c) := hE2_2.cell 2
      go_wp2_with fail
      go_ret
      exact ⟨rfl, hw_2⟩
    | true =>
      obtain ⟨he, hf⟩ : ensB f b k len g = true ∧ fitB f m z = true := by simpa using hy
      obtain ⟨_, qb, _, qt⟩ := ensB_iff.1 he
      have bS := sumT_bound (p := scF g z) (n := k) (fun i hi => lvv_bound z (qt i hi)) k (Nat.le_refl k)
      have HE := hid he
      have HF := hid hf
      clear hy qt he hf
      obtain ⟨sS, hsS⟩ : ∃ x, sumT (scF g z) k = x := ⟨_, rfl⟩
      rw [hsS] at bS
      have HS := hid hsS
      clear hsS
      have c0 : (w1.alloc (.cells #[.int .i64 f, .int .i64 b, .slice A' k c] 54)).cell? ⟨w1.heap.size, 0, none⟩ = some (.int .i64 f) := hE2.cell 0
      have c1 : (w1.alloc (.cells #[.int .i64 f, .int .i64 b, .slice A' k c] 54)).cell? ⟨w1.heap.size, 1, none⟩ = some (.int .i64 b) := hE2.cell 1
      have c2 : (w1.alloc (.cells #[.int .i64 f, .int .i64 b, .slice A' k c] 54)).cell? ⟨w1.heap.size, 2, none⟩ = some (.slice A' k c) := hE2.cell 2
      go_wp2_with fail
      refine (iFull_yes f b A' k c len g D m dc z _ hr2 hd2 hk' hl' hm' HE.out HF.out).mono ?_
      rintro e v1 ⟨rfl, hbv1⟩
      have hE2_1 := hE2.below hbv1 hE2.lt
      have hr_1 := hr2.to hbv1 hbv1.size
      have hd_1 := hd2.to hbv1 hbv1.size
      have hw_1 := hw2.trans (hbv1.mono hw2.size)
      clear hE2 hr2 hd2 hw2 hbv1
      rw [HS.out]
      clear c0 c1 c2
      have c0 : v1.cell? ⟨w1.heap.size, 0, none⟩ = some (.int .i64 f) := hE2_1.cell 0
      have c1 : v1.cell? ⟨w1.heap.size, 1, none⟩ = some (.int .i64 b) := hE2_1.cell 1
      have c2 : v1.cell? ⟨w1.heap.size, 2, none⟩ = some (.slice A' k c) := hE2_1.cell 2
      go_wp2_with fail
      refine (sFull_yes f b A' k c len g D m dc z _ hr_1 hd_1 hk' hl' hm' HE.out HF.out).mono ?_
      rintro e v2 ⟨rfl, hbv2⟩
      have hE2_2 := hE2_1.below hbv2 hE2_1.lt
      have hr_2 := hr_1.to hbv2 hbv2.size
      have hd_2 := hd_1.to hbv2 hbv2.size
      have hw_2 := hw_1.trans (hbv2.mono hw_1.size)
      clear hE2_1 hr_1 hd_1 hw_1 hbv2
      rw [HS.out]
      clear c0 c1 c2
      have c0 : v2.cell? ⟨w1.heap.size, 0, none⟩ = some (.int .i64 f) := hE2_2.cell 0
      have c1 : v2.cell? ⟨w1.heap.size, 1, none⟩ = some (.int .i64 b) := hE2_2.cell 1
      have c2 : v2.cell? ⟨w1.heap.size, 2, none⟩ = some (.slice A' k c) := hE2_2.cell 2
      by_cases hmx : (k : Int) = 12
      · have hmx' : ((k : Int) == 12) = true := by simpa using hmx
        clear hmx
        go_wp2_with fail
        go_ret
        exact ⟨rfl, hw_2⟩
      · have hk11 : k < 12 := by omega
        have hmx' : ((k : Int) == 12) = false := by simpa using hmx
        clear hmx
        have hB4 : Bs v2 v2.heap.size A n := (h.keep fun _ hp => hw_2.cell hp).more hw_2.size
        go_wp2_with fail
        refine (byte_at A n cap 3 _ hB4 hn (by omega)).mono ?_
        rintro e w5 ⟨y, rfl, hy0, hy1, rfl⟩
        clear hB4
        have HMO := hid (ensB_more HE.out hk11 (v := y - 100) (by omega))
        have hsm := sum_more g z k (y - 100)
        rw [HS.out] at hsm
        have HSM := hid hsm
        clear hsm
        have hbF := (Below.refl v2.heap.size v2).alloc (Nat.le_refl _) (.cells #[.int .i64 f, .int .i64 b, .slice A' k c] 54)
        have hF := Blk.new v2 54 #[.int .i64 f, .int .i64 b, .slice A' k c]
        have hEF := hE2_2.below hbF hE2_2.lt
        have hdF' := hd_2.below hbF
        have hwF := hw_2.trans (hbF.mono hw_2.size)
        have hrF := hr_2.below hbF
        obtain ⟨As, cs, hhd, hrs⟩ := hrF.hdrs
        have HH := hid hhd
        have HR := hid hrs
        have e2 : (v2.alloc (.cells #[.int .i64 f, .int .i64 b, .slice A' k c] 54)).cell? ⟨w1.heap.size, 2, none⟩ = some (.slice A' k c) := hEF.cell 2
        have HWS := hid hw_2.size
        clear hhd hrs hrF hr_2 hd_2 hw_2
        obtain ⟨W1, hW1⟩ : ∃ W1, v2.alloc (.cells #[.int .i64 f, .int .i64 b, .slice A' k c] 54) = W1 := ⟨_, rfl⟩
        have hvW : v2.heap.size < W1.heap.size := by rw [← hW1]; simp
        have hown0 : (W1.alloc (.cells #[] 24)).ownsRow W1.heap.size 24 1 (.slice (some ⟨W1.heap.size, 0, none⟩) 0 0) 0 [] := World.ownsRow_made W1 #[] 0 (Nat.le_refl _) (by unfold maxLen; omega) rfl
        rw [hW1] at hF hEF hdF' hwF HH HR e2 hbF
        have e3 : (W1.alloc (.cells #[] 24)).cell? ⟨w1.heap.size, 2, none⟩ = some (.slice A' k c) := (hEF.alloc _).cell 2
        have HSZ : Hid (w.heap.size ≤ v2.heap.size) := HWS.out
        go_wp2_with (at_builtin; refine wpList_append_may rfl (.tmp 62) (.tmp 64) 52 rfl W1.heap.size 24 i0 (.slice none 0 0) 1 24 Try.underlying52 hi0 hz0 hz1 hz2 rfl (by decide) (.slice (some ⟨W1.heap.size, 0, none⟩) 0 0) 0 [] rfl hown0 A' k c (hdl k As len cs) rfl (by rw [hdl_len]; omega) (fun h0 => ?_) (hdl_one k As len cs) (by unfold maxLen; omega) (by omega) (by simp) ?_)
        · obtain ⟨tb, off, hA, htb, hc⟩ := HH.out h0
          refine ⟨tb, off, hA, fun j u hu => ?_⟩
          have hj : j < k := by have := (List.getElem?_eq_some_iff.1 hu).1; rw [hdl_len] at this; exact this
          rw [hdl_at hj] at hu
          injection hu with hu
          subst hu
          exact (((Below.refl W1.heap.size W1).alloc (Nat.le_refl _) _).cell (p := ⟨tb, off + j, none⟩) (by show tb < W1.heap.size; omega)).trans (hc j hj)
        intro v' w5 hown5 hg5
        obtain ⟨A5, c5, rfl⟩ := own_form hown5
        have hF5 : Blk w5 v2.heap.size 54 #[.int .i64 f, .int .i64 b, .slice A' k c] := (hF.alloc _).grown hg5 (by simp [Value.ownBlock]; omega)
        have hb5 : Below W1.heap.size W1 w5 := ((Below.refl _ _).alloc (Nat.le_refl _) _).grown hg5 (by simp) (fun x hx => by simp [Value.ownBlock] at hx; omega)
        have hE5 : Blk w5 w1.heap.size 54 #[.int .i64 f, .int .i64 b, .slice A' k c] := hEF.below hb5 hEF.lt
        have hs5 := hb5.size
        have ho5 := own_block_lt hown5
        clear hg5 hown0 e2 e3
        go_wp2_with (at_builtin; refine wpList_append_own _ rfl (.tmp 65) (.tmp 69) 52 rfl W1.heap.size 24 i0 (.slice none 0 0) 1 24 Try.underlying52 hi0 hz0 hz1 hz2 rfl (by decide) _ k _ rfl ((hown5.alloc _).alloc _) ⟨w5.heap.size + 1, 0, none⟩ 1 1 [.slice (some ⟨w5.heap.size, 0, none⟩) 1 1] rfl rfl (World.news_of_block (cs := #[.slice (some ⟨w5.heap.size, 0, none⟩) 1 1]) (t := 24) (fr := (0, 0)) (Blk.new2 w5 _ _ _)) (by simp [Value.oneCell']) (by unfold maxLen; omega) (by omega) (by simp; omega) ?_)
        intro v'' w6 hown6 hg6 _
        obtain ⟨A6, c6, rfl⟩ := own_form hown6
        have hL6 : Blk w6 w5.heap.size 33 #[.int .i64 0, .int .i64 0, .int .i64 0, .int .i64 0, .bool false, .int .i64 (y - 100)] := ((Blk.new w5 _ _).alloc _).grown hg6 (by intro e; have := (ho5 _ e.symm).2.1; omega)
        have hF6 : Blk w6 v2.heap.size 54 #[.int .i64 f, .int .i64 b, .slice A' k c] := ((hF5.alloc _).alloc _).grown hg6 (by intro e; have := (ho5 _ e.symm).1; omega)
        have hb6 : Below W1.heap.size W1 w6 := ((hb5.alloc hs5 _).alloc (by rw [World.size_alloc]; omega) _).grown hg6 (by rw [World.size_alloc, World.size_alloc]; omega) (fun x hx => (ho5 x hx).1)
        have f2 : w6.frozen? ⟨v2.heap.size, 2, none⟩ = false := hF6.frozen 2
        have g2 : w6.cell? ⟨v2.heap.size, 2, none⟩ = some (.slice A' k c) := hF6.cell 2
        clear hg6 hF5 hE5 hb5 hown5 ho5 hF
        obtain ⟨W7, hW7⟩ : ∃ W7, w6.setCell ⟨v2.heap.size, 2, none⟩ (.slice A6 (k + 1) c6) = W7 := ⟨_, rfl⟩
        have hF7 : Blk W7 v2.heap.size 54 #[.int .i64 f, .int .i64 b, .slice A6 (k + 1) c6] := by rw [← hW7]; exact hF6.set_ 2 _
        have hb7 : Below v2.heap.size W1 W7 := by rw [← hW7]; exact (hb6.mono (Nat.le_of_lt hvW)).setCell (p := ⟨v2.heap.size, 2, none⟩) (Nat.le_refl _) _
        have hL7 : Blk W7 w5.heap.size 33 #[.int .i64 0, .int .i64 0, .int .i64 0, .int .i64 0, .bool false, .int .i64 (y - 100)] := by rw [← hW7]; exact hL6.far (p := ⟨v2.heap.size, 2, none⟩) (by show w5.heap.size ≠ v2.heap.size; omega) _
        have hown7 : W7.ownsRow W1.heap.size 24 1 (.slice A6 (k + 1) c6) (k + 1) (hdl k As len cs ++ [.slice (some ⟨w5.heap.size, 0, none⟩) 1 1]) := by rw [← hW7]; exact own_keep hown6 fun x hx _ _ => Below.heap_setCell _ _ _ x (by show x ≠ v2.heap.size; omega)
        have hrT : RdT W7 W7.heap.size A6 (k + 1) (upN len k 1) (upT g k fun _ => ⟨0, 0, 0, 0, false, y - 100⟩) := rdT_own (B' := W7.heap.size) (As := fun i => if i = k then some ⟨w5.heap.size, 0, none⟩ else As i) (cs := upN cs k 1) hown7 (fun i hi => ?_) (fun i hi => ?_) (Nat.le_refl _)
        rotate_left
        · by_cases e : i = k
          · subst e
            rw [if_pos rfl, upN_same, upN_same, List.getElem?_append_right (by rw [hdl_len]; exact Nat.le_refl _), hdl_len]
            simp
          · rw [if_neg e, upN_other e, upN_other e, List.getElem?_append_left (by rw [hdl_len]; omega)]
            exact hdl_at (by omega)
        · by_cases e : i = k
          · subst e
            rw [if_pos rfl, upN_same, upT_same]
            intro _
            refine ⟨w5.heap.size, 0, rfl, hL7.lt, fun j hj => ?_⟩
            obtain rfl : j = 0 := by omega
            exact ⟨hL7.cell 0, hL7.cell 1, hL7.cell 2, hL7.cell 3, hL7.cell 4, hL7.cell 5⟩
          · rw [if_neg e, upN_other e, upT_other e]
            exact ((HR.out i (by omega)).below hb7).more (Nat.le_of_lt hF7.lt)
        have hd7 := (hdF'.below hb7).more (Nat.le_of_lt hF7.lt)
        have hw7 := hwF.trans (hb7.mono HSZ.out)
        have hlT : Hid (∀ i, i < k + 1 → upN len k 1 i ≤ 4194304) := fun i hi => by by_cases e : i = k; (subst e; rw [upN_same]; omega); (rw [upN_other e]; exact hl'.out i (by omega))
        clear hF6 hb6 hL6 hL7 hown6 hown7 hb7 HR HH hdF' hwF hbF
        have d0 : W7.cell? ⟨v2.heap.size, 0, none⟩ = some (.int .i64 f) := hF7.cell 0
        have d1 : W7.cell? ⟨v2.heap.size, 1, none⟩ = some (.int .i64 b) := hF7.cell 1
        have d2 : W7.cell? ⟨v2.heap.size, 2, none⟩ = some (.slice A6 (k + 1) c6) := hF7.cell 2
        have hk1 : k + 1 ≤ 4194304 := by omega
        go_wp2_with fail
        refine (iFull_yes f b A6 (k + 1) c6 _ _ D m dc z _ hrT hd7 hk1 hlT hm' HMO.out HF.out).mono ?_
        rintro e v3 ⟨rfl, hbv3⟩
        have hF7_3 := hF7.below hbv3 hF7.lt
        have hr_3 := hrT.to hbv3 hbv3.size
        have hd_3 := hd7.to hbv3 hbv3.size
        have hw_3 := hw7.trans (hbv3.mono hw7.size)
        clear hF7 hrT hd7 hw7 hbv3
        rw [HSM.out]
        clear d0 d1 d2
        have d0 : v3.cell? ⟨v2.heap.size, 0, none⟩ = some (.int .i64 f) := hF7_3.cell 0
        have d1 : v3.cell? ⟨v2.heap.size, 1, none⟩ = some (.int .i64 b) := hF7_3.cell 1
        have d2 : v3.cell? ⟨v2.heap.size, 2, none⟩ = some (.slice A6 (k + 1) c6) := hF7_3.cell 2
        have hsum : b + (sS + (y - 100)) = b + sS + (y - 100) := by omega
        rw [hsum]
        clear hsum
        go_wp2_with fail
        refine (iEnsOk_any f b A6 (k + 1) c6 _ _ _ hr_3 hk1 hlT).mono ?_
        rintro e v4 ⟨rfl, hbv4⟩
        have hF7_4 := hF7_3.below hbv4 hF7_3.lt
        have hr_4 := hr_3.to hbv4 hbv4.size
        have hd_4 := hd_3.to hbv4 hbv4.size
        have hw_4 := hw_3.trans (hbv4.mono hw_3.size)
        clear hF7_3 hr_3 hd_3 hw_3 hbv4
        rw [HMO.out]
        clear d0 d1 d2
        go_wp2_with fail
        go_ret
        exact ⟨by simp, hw_4⟩
end Go.Proofs.Ytnhbgagdppbldaa
