/- EnsJoin: copies, both sides, marks, and the walk of its exact law. -/
import Derived.Test.YthdilioflhknpaaDrawG
import Derived.Test.YthdilioflhknpaaEnsC
import Derived.Deep.RegionLaw
import Derived.Deep.AppendLies
import Derived.Lib.AppendZeros
import Derived.Lib.SliceRun
import Derived.Deep.RegionHeld3
import Derived.Laws.OwnMore
import Derived.Test.YthdilioflhknpaaPathLaw
import Derived.Deep.DeepCutAuto
namespace Go.Proofs.Ythdilioflhknpaa
open Go.RowKit Go.Deep

/-! ### NodeRows -/
def nodesC (n : Nat) (g : Nat → Nd) : List Value := (List.range n).flatMap fun i => ndC (g i)
theorem nodesC_succ (n : Nat) (g : Nat → Nd) : nodesC (n + 1) g = nodesC n g ++ ndC (g n) := by
  unfold nodesC
  rw [List.range_succ, List.flatMap_append]
  simp
theorem nodesC_len (n : Nat) (g : Nat → Nd) : (nodesC n g).length = n * 6 := by
  induction n with
  | zero => rfl
  | succ n ih => rw [nodesC_succ, List.length_append, ih]; simp [ndC]; omega
theorem nodesC_one (n : Nat) (g : Nat → Nd) : ∀ u ∈ nodesC n g, u.oneCell' = true := by
  intro u hu
  unfold nodesC at hu
  simp only [List.mem_flatMap] at hu
  obtain ⟨i, _, hd⟩ := hu
  simp only [ndC, List.mem_cons, List.not_mem_nil, or_false] at hd
  rcases hd with rfl | rfl | rfl | rfl | rfl | rfl <;> rfl
theorem nodesC_at (g : Nat → Nd) : ∀ (n i j : Nat), i < n → j < 6 → (nodesC n g)[i * 6 + j]? = (ndC (g i))[j]? := by
  intro n
  induction n with
  | zero => intro i j hi; omega
  | succ n ih =>
    intro i j hi hj
    rw [nodesC_succ]
    by_cases e : i = n
    · subst e
      rw [List.getElem?_append_right (by rw [nodesC_len]; omega), nodesC_len]
      congr 1; omega
    · rw [List.getElem?_append_left (by rw [nodesC_len]; omega)]
      exact ih i j (by omega) hj
theorem ndAt_get {w : World} {b o : Nat} {d : Nd} (h : NdAt w b o d) (j : Nat) (u : Value) (hu : (ndC d)[j]? = some u) : w.cell? ⟨b, o + j, none⟩ = some u := by
  obtain ⟨c0, c1, c2, c3, c4, c5⟩ := h
  match j, hu with
  | 0, hu => exact c0.trans hu
  | 1, hu => exact c1.trans hu
  | 2, hu => exact c2.trans hu
  | 3, hu => exact c3.trans hu
  | 4, hu => exact c4.trans hu
  | 5, hu => exact c5.trans hu
  | j + 6, hu => simp [ndC] at hu
theorem nodes_src {w : World} {b off n : Nat} {g : Nat → Nd} (hC : ∀ i, i < n → NdAt w b (off + i * 6) (g i)) : ∀ j u, (nodesC n g)[j]? = some u → w.cell? (Addr.add ⟨b, off, none⟩ j) = some u := by
  intro j u hu
  have hj : j < n * 6 := by
    have := (List.getElem?_eq_some_iff.1 hu).1
    rwa [nodesC_len] at this
  have e : j = (j / 6) * 6 + j % 6 := by omega
  rw [e, nodesC_at g n (j / 6) (j % 6) (by omega) (by omega)] at hu
  rw [Addr.add_lit, e]
  have := ndAt_get (hC (j / 6) (by omega)) (j % 6) u hu
  rw [← this]
  congr 2; omega
theorem own_rowN {w : World} {B m c : Nat} {t : TypeId} {A' : Option Addr} {g : Nat → Nd} (h : w.ownsRow B t 6 (.slice A' m c) m (nodesC m g)) (hm : 0 < m) :
    ∃ b, A' = some ⟨b, 0, none⟩ ∧ B ≤ b ∧ m ≤ c ∧ RowN w t b m g := by
  rcases h.2 with ⟨_, h0⟩ | ⟨b, cap, cur, hv, hb, hg, h1, _, h3, ht⟩
  · omega
  · injection hv with e1 _ e3
    refine ⟨b, e1, hb, by omega, cur, hg, by rw [h3]; exact Nat.mul_le_mul_right 6 h1, fun i hi j hj => ?_⟩
    have hlt : i * 6 + j < m * 6 := by omega
    have := nodesC_at g m i j hi hj
    rw [← ht, List.getElem?_take, if_pos hlt, Array.getElem?_toList] at this
    exact this
/-- One cell of a node written anew. -/
theorem RowN.miss {w : World} {t : TypeId} {b n k : Nat} {g : Nat → Nd} (h : RowN w t b n g) (hk : k < n) (q : Bool) :
    RowN (w.setCell ⟨b, k * 6 + 4, none⟩ (.bool q)) t b n (fun i => if i = k then { g i with miss := q } else g i) := by
  obtain ⟨cs, hB, hsz, hc⟩ := h
  refine ⟨_, hB.set_ (k * 6 + 4) (.bool q), by simpa using hsz, fun i hi j hj => ?_⟩
  show _ = (ndC (if i = k then { g i with miss := q } else g i))[j]?
  by_cases e : i = k
  · subst e
    rw [if_pos rfl]
    by_cases e4 : j = 4
    · subst e4
      rw [Array.getElem?_setIfInBounds_self_of_lt (by omega)]; rfl
    · rw [Array.getElem?_setIfInBounds_ne (by omega), hc i hi j hj]
      obtain rfl | rfl | rfl | rfl | rfl : j = 0 ∨ j = 1 ∨ j = 2 ∨ j = 3 ∨ j = 5 := by omega
      all_goals rfl
  · rw [if_neg e, Array.getElem?_setIfInBounds_ne (by omega)]
    exact hc i hi j hj
theorem RowN.congr {w : World} {t : TypeId} {b n : Nat} {g g' : Nat → Nd} (h : RowN w t b n g) (he : ∀ i, i < n → g i = g' i) : RowN w t b n g' := by
  obtain ⟨cs, hB, hsz, hc⟩ := h
  exact ⟨cs, hB, hsz, fun i hi j hj => by rw [← he i hi]; exact hc i hi j hj⟩
theorem RowN.frozen {w : World} {t : TypeId} {b n : Nat} {g : Nat → Nd} (h : RowN w t b n g) (i : Nat) : w.frozen? ⟨b, i, none⟩ = false := by obtain ⟨cs, hb, _⟩ := h; exact hb.frozen i

/-! ### JoinA -/
/-- Headers of trees. -/
def hdJ (n : Nat) (bl len cp : Nat → Nat) : List Value := (List.range n).map fun i => .slice (some ⟨bl i, 0, none⟩) (len i) (cp i)
def setN (f : Nat → Nat) (k x : Nat) : Nat → Nat := fun i => if i = k then x else f i
theorem setN_same (f : Nat → Nat) (k x : Nat) : setN f k x k = x := if_pos rfl
theorem setN_other {f : Nat → Nat} {k x i : Nat} (h : i ≠ k) : setN f k x i = f i := if_neg h
theorem hdJ_len (n : Nat) (bl len cp : Nat → Nat) : (hdJ n bl len cp).length = n := by simp [hdJ]
theorem hdJ_at {n : Nat} {bl len cp : Nat → Nat} {i : Nat} (hi : i < n) : (hdJ n bl len cp)[i]? = some (.slice (some ⟨bl i, 0, none⟩) (len i) (cp i)) := by
  unfold hdJ
  rw [List.getElem?_map, List.getElem?_range hi]
  rfl
theorem hdJ_one (n : Nat) (bl len cp : Nat → Nat) : ∀ u ∈ hdJ n bl len cp, u.oneCell' = true := by
  intro u hu
  obtain ⟨i, _, rfl⟩ := List.mem_map.1 hu
  rfl
theorem hdJ_snoc (n : Nat) (bl len cp : Nat → Nat) (b c : Nat) : hdJ (n + 1) (setN bl n b) len (setN cp n c) = hdJ n bl len cp ++ [.slice (some ⟨b, 0, none⟩) (len n) c] := by
  unfold hdJ
  rw [List.range_succ, List.map_append, List.map_cons, List.map_nil, setN_same, setN_same]
  congr 1
  refine List.map_congr_left fun i hi => ?_
  have hi' : i ≠ n := by have := List.mem_range.1 hi; omega
  rw [setN_other hi', setN_other hi']

/-- Trees in memory of their own, each in a block of its own. -/
def TreesN (w : World) (B n : Nat) (bl len : Nat → Nat) (g : Nat → Nat → Nd) : Prop := ∀ i, i < n → B ≤ bl i ∧ RowN w 32 (bl i) (len i) (g i) ∧ ∀ j, j < i → bl j ≠ bl i
theorem TreesN.keep {w w' : World} {B n : Nat} {bl len : Nat → Nat} {g : Nat → Nat → Nd} (h : TreesN w B n bl len g) (hk : ∀ i, i < n → w'.heap[bl i]? = w.heap[bl i]?) : TreesN w' B n bl len g := fun i hi =>
  ⟨(h i hi).1, (h i hi).2.1.keep (hk i hi), (h i hi).2.2⟩
theorem TreesN.below {w w' : World} {B n : Nat} {bl len : Nat → Nat} {g : Nat → Nat → Nd} (h : TreesN w B n bl len g) (hb : Below w.heap.size w w') : TreesN w' B n bl len g :=
  h.keep fun i hi => hb.block _ (h i hi).2.1.lt
theorem TreesN.less {w : World} {B B' n : Nat} {bl len : Nat → Nat} {g : Nat → Nat → Nd} (h : TreesN w B n bl len g) (hB : B' ≤ B) : TreesN w B' n bl len g := fun i hi =>
  ⟨Nat.le_trans hB (h i hi).1, (h i hi).2⟩
theorem TreesN.snoc {w : World} {B n b : Nat} {bl len : Nat → Nat} {g : Nat → Nat → Nd} (h : TreesN w B n bl len g) (hb : B ≤ b) (hr : RowN w 32 b (len n) (g n)) (hlt : ∀ i, i < n → bl i ≠ b) : TreesN w B (n + 1) (setN bl n b) len g := fun i hi => by
  by_cases e : i = n
  · subst e
    rw [setN_same]
    refine ⟨hb, hr, fun j hj => ?_⟩
    rw [setN_other (by omega)]
    exact hlt j hj
  · rw [setN_other e]
    have hi' : i < n := by omega
    refine ⟨(h i hi').1, (h i hi').2.1, fun j hj => ?_⟩
    rw [setN_other (by omega)]
    exact (h i hi').2.2 j hj
theorem treesN_nil {w : World} {B : Nat} {bl len : Nat → Nat} {g : Nat → Nat → Nd} : TreesN w B 0 bl len g := fun i hi => by omega
theorem own_keepJ {w w' : World} {B : Nat} {e : TypeId} {size : Nat} {v : Value} {n : Nat} {xs : List Value} (h : w.ownsRow B e size v n xs) (hk : ∀ g, B ≤ g → g < w.heap.size → v.ownBlock = some g → w'.heap[g]? = w.heap[g]?) : w'.ownsRow B e size v n xs := by
  refine ⟨h.1, ?_⟩
  rcases h.2 with h0 | ⟨g, cap, cur, hv, hb, hg, rest⟩
  · exact .inl h0
  · exact .inr ⟨g, cap, cur, hv, hb, (hk g hb (Blk.lt hg) (by rw [hv]; rfl)).trans hg, rest⟩
theorem own_ltJ {w : World} {B : Nat} {e : TypeId} {size : Nat} {v : Value} {n : Nat} {xs : List Value} (h : w.ownsRow B e size v n xs) : ∀ x, v.ownBlock = some x → B ≤ x ∧ x < w.heap.size ∧ ∃ cs, Blk w x e cs := by
  intro x hx
  rcases h.2 with ⟨rfl, _⟩ | ⟨g, cap, cur, rfl, hb, hg, _⟩
  · cases hx
  · have e1 : (Value.slice (some ⟨g, 0, none⟩) n cap).ownBlock = some g := rfl
    rw [e1] at hx
    injection hx with hx
    subst hx
    exact ⟨hb, Blk.lt hg, _, hg⟩
/-- The cells of a row of headers. -/
theorem own_hdJ {w : World} {B n c : Nat} {A : Option Addr} {xs : List Value} (h : w.ownsRow B 24 1 (.slice A n c) n xs) (hn : 0 < n) :
    ∃ gg, A = some ⟨gg, 0, none⟩ ∧ B ≤ gg ∧ gg < w.heap.size ∧ (∃ cs, Blk w gg 24 cs) ∧ ∀ i u, xs[i]? = some u → w.cell? ⟨gg, i, none⟩ = some u := by
  have hlen := h.1
  rcases h.2 with ⟨_, h0⟩ | ⟨gg, cap, cur, hv, hb, hg, _, _, _, ht⟩
  · omega
  · injection hv with hA _ _
    refine ⟨gg, hA, hb, Blk.lt hg, ⟨cur, hg⟩, fun i u hu => ?_⟩
    have hi : i < n * 1 := by have := (List.getElem?_eq_some_iff.1 hu).1; omega
    have h1 : (cur.toList.take (n * 1))[i]? = xs[i]? := by rw [ht]
    rw [List.getElem?_take, if_pos hi, Array.getElem?_toList, hu] at h1
    exact (Blk.cell hg i).trans h1
theorem rdT_J {w : World} {B B' n c : Nat} {A : Option Addr} {bl len cp : Nat → Nat} {g : Nat → Nat → Nd} (h : w.ownsRow B 24 1 (.slice A n c) n (hdJ n bl len cp)) (hT : TreesN w B' n bl len g) : RdT w w.heap.size A n len g := fun hn => by
  obtain ⟨gg, hA, _, hlt, _, hc⟩ := own_hdJ h hn
  refine ⟨gg, 0, hA, hlt, fun i hi => ⟨some ⟨bl i, 0, none⟩, cp i, ?_, rdN_of (hT i hi).2.1⟩⟩
  rw [Nat.zero_add]
  exact hc i _ (hdJ_at hi)

/-- The first k trees copied. -/
def Copied (w : World) (len : Nat → Nat) (g : Nat → Nat → Nd) (v : Value) (k : Nat) (wr : World) : Prop :=
  ∃ gb c bl cp, v = .slice (some ⟨gb, 0, none⟩) k c ∧ wr.ownsRow w.heap.size 24 1 (.slice (some ⟨gb, 0, none⟩) k c) k (hdJ k bl len cp) ∧ TreesN wr w.heap.size k bl len g ∧ Below w.heap.size w wr

set_option maxHeartbeats 2000000 in
theorem copy_any (A : Option Addr) (n c : Nat) (len : Nat → Nat) (g : Nat → Nat → Nd) (w : World) (h : RdT w w.heap.size A n len g) (hn : n ≤ 12) (hl : Hid (∀ i, i < n → 1 ≤ len i ∧ len i ≤ 15)) :
    Calls Try.prog 112 #[.slice A n c] w fun e w' => ∃ v, e = .returned v ∧ Copied w len g v n w' := by
  obtain ⟨i0, hi0, hz0, hz1, hz2⟩ := info_parts info_node
  obtain ⟨j0, hj0, jz0, jz1, jz2⟩ := info_parts info_nodes
  go_enter Try.func112, Try.ntmps112
  go_wp2_with fail
  go_loopw [3, 4] (fun v i wr => ∃ k : Nat, k ≤ n ∧ i = .int .i64 k ∧ Copied w len g v k wr) (fun _ i _ => n - (intOf i).toNat)
  case atStart => exact ⟨0, Nat.zero_le _, rfl, _, _, fun _ => 0, fun _ => 0, rfl, World.ownsRow_made w #[] 0 (Nat.le_refl _) (by unfold maxLen; omega) rfl, treesN_nil, (Below.refl _ _).alloc (Nat.le_refl _) _⟩
  case round =>
    obtain ⟨k, hk, rfl, gb, c', bl, cp, rfl, hown, hT, hbl⟩ := hrel
    by_cases hlt : k < n
    · obtain ⟨b, off, Ai, ci, rfl, hb, hcell, hrd⟩ := (h.below hbl).at_ hlt
      obtain ⟨hl1, hl2⟩ := hl.out k hlt
      obtain ⟨bi, oi, rfl, hbi, hC⟩ := hrd (by omega)
      have i1 : (k : Int) < (n : Int) := by omega
      have i2 : (0 : Int) ≤ (k : Int) := by omega
      have hsz := hbl.size
      have hbiw : bi < wr.heap.size := by omega
      have hbw : b < wr.heap.size := by omega
      have hcell2 : (wr.alloc (.cells #[] 32)).cell? ⟨b, off + k, none⟩ = some (.slice (some ⟨bi, oi, none⟩) (len k) ci) := (((Below.refl wr.heap.size wr).alloc (Nat.le_refl _) _).cell (p := ⟨b, off + k, none⟩) hbw).trans hcell
      have hC2 : Hid (∀ i, i < len k → NdAt (wr.alloc (.cells #[] 32)) bi (oi + i * 6) (g k i)) := fun i hi => (hC i hi).keep fun o => ((Below.refl wr.heap.size wr).alloc (Nat.le_refl _) _).cell (p := ⟨bi, o, none⟩) hbiw
      clear hC hrd hcell
      go_wp2_with (at_builtin; refine wpList_append_own _ rfl (.tmp 13) (.tmp 17) 24 rfl wr.heap.size 32 i0 (ndV ⟨0, 0, 0, 0, false, 0⟩) 6 48 Try.underlying24 hi0 hz0 hz1 hz2 rfl (by decide) (.slice (some ⟨wr.heap.size, 0, none⟩) 0 0) 0 [] rfl (World.ownsRow_made wr #[] 0 (Nat.le_refl _) (by unfold maxLen; omega) rfl) ⟨bi, oi, none⟩ (len k) ci (nodesC (len k) (g k)) rfl (nodesC_len _ _) (nodes_src hC2.out) (nodesC_one _ _) (by unfold maxLen; omega) (by omega) (by simp) ?_)
      intro v5 w5 hown5 hg5 _
      obtain ⟨A5, c5, rfl⟩ := own_form hown5
      obtain ⟨b5, rfl, hb5l, _, hrow5⟩ := own_rowN hown5 (by omega)
      have hb5 : Below wr.heap.size wr w5 := ((Below.refl _ _).alloc (Nat.le_refl _) _).grown hg5 (by simp) (fun x hx => by simp [Value.ownBlock] at hx; omega)
      have hown6 := own_below hown hb5
      have hT5 := hT.below hb5
      have hs5 := hb5.size
      have hbl5 := hbl.trans (hb5.mono hsz)
      have HTL : Hid (∀ i, i < k → bl i ≠ b5) := fun i hi => Nat.ne_of_lt (Nat.lt_of_lt_of_le (hT i hi).2.1.lt hb5l)
      clear hown5 hg5 hown hT hb5 hcell2 hC2 hbl
      go_wp2_with (at_builtin; refine wpList_append_own _ rfl (.tmp 12) (.tmp 19) 70 rfl w.heap.size 24 j0 (.slice none 0 0) 1 24 Try.underlying70 hj0 jz0 jz1 jz2 rfl (by decide) _ k _ rfl (hown6.alloc _) ⟨w5.heap.size, 0, none⟩ 1 1 [.slice (some ⟨b5, 0, none⟩) (len k) c5] rfl rfl (cell_one_new _ _ _) (by intro u hu; simp at hu; subst hu; rfl) (by unfold maxLen; omega) (by omega) (by simp; omega) ?_)
      intro v6 w6 hown7 hg6 _
      obtain ⟨A6, c6, rfl⟩ := own_form hown7
      obtain ⟨g6, rfl, _, _, _, _⟩ := own_hdJ hown7 (by omega)
      have hlts := own_ltJ hown6
      have hT6 : TreesN w6 w.heap.size k bl len g := hT5.keep fun i hi => by
        obtain ⟨cs, hB, _⟩ := (hT5 i hi).2.1
        exact (hg6.block _ (by rw [World.size_alloc]; have := hB.lt; omega) (own_blk_ne hown6 hB (by decide))).trans (Below.heap_alloc w5 _ _ hB.lt)
      have hR6 : RowN w6 32 b5 (len k) (g k) := hrow5.keep (by
        obtain ⟨cs, hB, _⟩ := id hrow5
        exact (hg6.block _ (by rw [World.size_alloc]; have := hB.lt; omega) (own_blk_ne hown6 hB (by decide))).trans (Below.heap_alloc w5 _ _ hB.lt))
      have hT7 := hT6.snoc (by omega) hR6 HTL.out
      have hbl6 : Below w.heap.size w w6 := (hbl5.alloc (by omega) _).grown hg6 (by rw [World.size_alloc]; omega) (fun x hx => (hlts x hx).1)
      have HOWN : Hid (w6.ownsRow w.heap.size 24 1 (.slice (some ⟨g6, 0, none⟩) (k + 1) c6) (k + 1) (hdJ (k + 1) (setN bl k b5) len (setN cp k c5))) := by
        show w6.ownsRow _ _ _ _ _ _
        rw [hdJ_snoc]
        exact hown7
      have HT7 := hid hT7
      clear hg6 hown6 hown7 hT5 hT6 hT7 hR6 hrow5 hlts hbl5 HTL
      go_wp2_with fail
      go_roundw
      case rel => exact ⟨k + 1, by omega, by go_num, g6, c6, _, _, rfl, HOWN.out, HT7.out, hbl6⟩
      case measure => simp [intOf]; omega
    · obtain rfl : k = n := by omega
      go_wp2_with fail
      go_ret
      exact ⟨_, rfl, gb, c', bl, cp, rfl, hown, hT, hbl⟩

/-! ### JoinB -/
set_option maxHeartbeats 1000000 in
theorem clone_any (b off n c : Nat) (g : Nat → Nd) (w : World) (h : RdN w w.heap.size (some ⟨b, off, none⟩) n g) (hn1 : 1 ≤ n) (hn : n ≤ 4194304) :
    Calls Try.prog 114 #[.slice (some ⟨b, off, none⟩) n c] w fun e w' =>
      ∃ b' c', e = .returned (.slice (some ⟨b', 0, none⟩) n c') ∧ w.heap.size ≤ b' ∧ RowN w' 32 b' n g ∧ Below w.heap.size w w' := by
  obtain ⟨i0, hi0, hz0, hz1, hz2⟩ := info_parts info_node
  obtain ⟨b1, o1, e1, hb1, hC⟩ := h (by omega)
  injection e1 with e1
  injection e1 with e1 e2
  subst e1 e2
  have hC2 : Hid (∀ i, i < n → NdAt (w.alloc (.cells #[] 32)) b (off + i * 6) (g i)) := fun i hi => (hC i hi).keep fun o => ((Below.refl w.heap.size w).alloc (Nat.le_refl _) _).cell (p := ⟨b, o, none⟩) hb1
  clear hC
  have q : ∀ (w : World) (a : Option Addr) (n c n' c' : Nat), (binOp .eql 24 (.slice a n c) (.slice none n' c')).run Try.prog w = .ok (.bool a.isNone) w := fun w a n c n' c' => Lib.run_eql_slice_nil w _ _ a n c n' c' Try.underlying24
  go_enter Try.func114, Try.ntmps114
  go_wp2_with (at_builtin; refine wpList_append_own _ rfl (.tmp 5) (.tmp 6) 24 rfl w.heap.size 32 i0 (ndV ⟨0, 0, 0, 0, false, 0⟩) 6 48 Try.underlying24 hi0 hz0 hz1 hz2 rfl (by decide) (.slice (some ⟨w.heap.size, 0, none⟩) 0 0) 0 [] rfl (World.ownsRow_made w #[] 0 (Nat.le_refl _) (by unfold maxLen; omega) rfl) ⟨b, off, none⟩ n c (nodesC n g) rfl (nodesC_len _ _) (nodes_src hC2.out) (nodesC_one _ _) (by unfold maxLen; omega) (by omega) (by simp) ?_)
  intro v5 w5 hown5 hg5 _
  obtain ⟨A5, c5, rfl⟩ := own_form hown5
  obtain ⟨b5, rfl, hb5l, _, hrow5⟩ := own_rowN hown5 (by omega)
  have hb5 : Below w.heap.size w w5 := ((Below.refl _ _).alloc (Nat.le_refl _) _).grown hg5 (by simp) (fun x hx => by simp [Value.ownBlock] at hx; omega)
  clear hown5 hg5 hC2
  go_wp2_with fail
  go_ret
  exact ⟨b5, c5, rfl, hb5l, hrow5, hb5⟩

theorem own_zero (w : World) (n : Nat) (e : TypeId) (B : Nat) (hB : B ≤ w.heap.size) (hn : n ≤ maxLen) :
    (w.drew.alloc (.cells (Builtin.zeroCells (Value.slice none 0 0).cells n ++ Builtin.zeroCells (Value.slice none 0 0).cells (grownCap w n 0 e - n)) e)).ownsRow B e 1 (.slice (some ⟨w.heap.size, 0, none⟩) 0 (grownCap w n 0 e)) 0 [] := by
  have h1 := grownCap_ge w n 0 e
  refine ⟨rfl, .inr ⟨w.heap.size, _, _, rfl, hB, heap_alloc_new w.drew _, Nat.zero_le _, grownCap_le_maxLen w n 0 e hn, ?_, by simp⟩⟩
  have e1 : (Value.slice none 0 0).cells.size = 1 := rfl
  rw [Array.size_append, size_zeroCells, size_zeroCells, e1]
  omega

set_option maxHeartbeats 1000000 in
set_option maxRecDepth 100000 in
theorem grow_any (n : Nat) (hn : n ≤ 24) (w : World) :
    Calls Try.prog 136 #[.slice none 0 0, .int .i64 n] w fun e w' => ∃ v, e = .returned v ∧ w'.ownsRow w.heap.size 24 1 v 0 [] ∧ Below w.heap.size w w' := by
  obtain ⟨i0, hi0, hz0, hz1, hz2⟩ := info_parts info_nodes
  by_cases h0 : n = 0
  · subst h0
    go_enter Try.func136, Try.ntmps136
    go_wp2_with fail
    go_ret
    exact ⟨_, rfl, World.ownsRow_nil _ _ _ _, Below.refl _ _⟩
  · have i1 : (0 : Int) < (n : Int) := by omega
    have hown := own_zero w n 24 w.heap.size (Nat.le_refl _) (by unfold maxLen; omega)
    have hb : Below w.heap.size w (w.drew.alloc (.cells (Builtin.zeroCells (Value.slice none 0 0).cells n ++ Builtin.zeroCells (Value.slice none 0 0).cells (grownCap w n 0 24 - n)) 24)) := (Below.refl w.heap.size w).drew.alloc (Nat.le_refl _) _
    have hrun := fun ty => Lib.run_append_nil_zeros (P := Try.prog) w 70 3 ty 24 i0 _ .i64 .i64 Try.underlying70 Try.underlying3 hi0 hz0 n (by omega) (by rw [hz1]; omega) (by omega) (by rw [hz2]; omega)
    have hge := grownCap_ge w n 0 24
    generalize hW : w.drew.alloc (.cells (Builtin.zeroCells (Value.slice none 0 0).cells n ++ Builtin.zeroCells (Value.slice none 0 0).cells (grownCap w n 0 24 - n)) 24) = W at hown hb hrun
    generalize grownCap w n 0 24 = cp at hown hrun hge
    have HRUN := hid hrun
    clear hW hrun
    go_enter Try.func136, Try.ntmps136
    go_wp2_with (at_builtin; refine Lib.wpList_append_run _ rfl _ _ _ _ rfl _ _ rfl rfl _ _ (HRUN.out _) ?_)
    go_wp2_with fail
    go_ret
    exact ⟨_, rfl, hown, hb⟩

theorem run_append_zeroJ {P : Program} {w : World} (base : Nat) (t ty e : TypeId) (i : TypeInfo) (size : Nat) (ht : P.underlying t = some (.slice e)) (hi : P.info? e = some i)
    (v : Value) (n : Nat) (xs : List Value) (hown : w.ownsRow base e size v n xs) (A : Option Addr) (c : Nat) :
    (Builtin.append_ #[t, t] ty #[v, .slice A 0 c]).run P w = .ok v w := by
  rcases hown.2 with ⟨rfl, rfl⟩ | ⟨g, cap, cur, rfl, _, _, hnc, _⟩
  · cases A <;> simp [Builtin.append_, run_underlying ht, sizeOf, typeInfo, hi, Builtin.lenOf, Builtin.firstCells, loadCells, loadCellsFrom]
  · cases A <;> simp [Builtin.append_, run_underlying ht, sizeOf, typeInfo, hi, Builtin.lenOf, Builtin.firstCells, hnc, storeCells, loadCells, loadCellsFrom]
/-- append of a slice that may be empty, onto a row of one's own. -/
theorem wpList_append_mayJ {P : Program} {w : World} {ops : Array Oper} {rest : List Oper} {o : Oper} {a : Act} {Q : Exit → Act → World → Prop} (hgd : o.guard = none) (s x : Operand) (t : TypeId)
    (ho : o.op = .call { callee := .builtin .append, args := #[s, x], argTypes := #[t, t] })
    (base : Nat) (e : TypeId) (i : TypeInfo) (z : Value) (size bytes : Nat) (ht : P.underlying t = some (.slice e)) (hi : P.info? e = some i) (hz : i.zero = some z)
    (hsize : i.size = size) (hby : i.bytes = bytes) (hzs : z.cells.size = size) (hsz : 0 < size)
    (v : Value) (n : Nat) (xs : List Value) (hs : a.eval s = v) (hown : w.ownsRow base e size v n xs)
    (A : Option Addr) (m c : Nat) (news : List Value) (hx : a.eval x = .slice A m c) (hl : news.length = m * size) (hnews : 0 < m → ∃ b off, A = some ⟨b, off, none⟩ ∧ ∀ j u, news[j]? = some u → w.cell? ⟨b, off + j, none⟩ = some u) (h1 : ∀ u ∈ news, u.oneCell' = true)
    (h63 : n + m ≤ maxLen) (hbytes : (n + m) * bytes ≤ 140737488355328) (hbase : base ≤ w.heap.size)
    (h : ∀ v' w', w'.ownsRow base e size v' (n + m) (xs ++ news) → w.grownBy w' v.ownBlock → wpList P ops Q rest (a.put o.dst v') w') : wpList P ops Q (o :: rest) a w := by
  by_cases hm : 0 < m
  · obtain ⟨b, off, rfl, hc⟩ := hnews hm
    exact wpList_append_own w hgd s x t ho base e i z size bytes ht hi hz hsize hby hzs hsz v n xs hs hown ⟨b, off, none⟩ m c news hx hl (fun j u hu => by simpa [Addr.add_lit] using hc j u hu) h1 h63 hbytes hbase fun v' w' h2 h3 _ => h v' w' h2 h3
  · obtain rfl : m = 0 := by omega
    obtain rfl : news = [] := List.eq_nil_of_length_eq_zero (by omega)
    refine wpList_plain hgd fun K hK => ?_
    have hrun := run_append_zeroJ (P := P) (w := w) base t o.type e i size ht hi v n xs hown A c
    unfold Oper.wp
    simp [execOp, ho, resolve, invoke, builtin, hs, hx, hrun, Result.andThen]
    exact hK _ _ (h v w (by simpa using hown) ⟨rfl, rfl, rfl, Nat.le_refl _, fun _ _ _ => rfl⟩)
/-- A slice of headers that is read. -/
def Src (w : World) (A : Option Addr) (n : Nat) (xs : List Value) : Prop :=
  xs.length = n ∧ (∀ u ∈ xs, u.oneCell' = true) ∧ (0 < n → ∃ b off, A = some ⟨b, off, none⟩ ∧ b < w.heap.size ∧ ∀ j u, xs[j]? = some u → w.cell? ⟨b, off + j, none⟩ = some u)
theorem Src.below {w w' : World} {A : Option Addr} {n : Nat} {xs : List Value} (h : Src w A n xs) (hb : Below w.heap.size w w') : Src w' A n xs :=
  ⟨h.1, h.2.1, fun h0 => by
    obtain ⟨b, off, e, hlt, hc⟩ := h.2.2 h0
    exact ⟨b, off, e, Nat.lt_of_lt_of_le hlt hb.size, fun j u hu => (hb.cell (p := ⟨b, off + j, none⟩) hlt).trans (hc j u hu)⟩⟩
theorem Src.cells {w : World} {A : Option Addr} {n : Nat} {xs : List Value} (h : Src w A n xs) : 0 < n → ∃ b off, A = some ⟨b, off, none⟩ ∧ ∀ j u, xs[j]? = some u → w.cell? ⟨b, off + j, none⟩ = some u := fun h0 => by
  obtain ⟨b, off, e, _, hc⟩ := h.2.2 h0
  exact ⟨b, off, e, hc⟩

set_option maxRecDepth 100000 in
set_option maxHeartbeats 2000000 in
theorem concat_any (pb : Nat) (A1 A2 : Option Addr) (n1 n2 c1 c2 : Nat) (xs1 xs2 : List Value) (w : World) (hp : Blk w pb 70 #[.slice A1 n1 c1, .slice A2 n2 c2]) (h1 : Src w A1 n1 xs1) (h2 : Src w A2 n2 xs2) (hn1 : n1 ≤ 12) (hn2 : n2 ≤ 12) :
    Calls Try.prog 113 #[.slice (some ⟨pb, 0, none⟩) 2 2] w fun e w' =>
      ∃ A' c', e = .returned (.slice A' (n1 + n2) c') ∧ w'.ownsRow w.heap.size 24 1 (.slice A' (n1 + n2) c') (n1 + n2) (xs1 ++ xs2) ∧ Below w.heap.size w w' := by
  obtain ⟨i0, hi0, hz0, hz1, hz2⟩ := info_parts info_nodes
  have hplt := hp.lt
  have p0 : w.cell? ⟨pb, 0, none⟩ = some (.slice A1 n1 c1) := hp.cell 0
  have p1 : w.cell? ⟨pb, 1, none⟩ = some (.slice A2 n2 c2) := hp.cell 1
  have H1 := hid h1
  have H2 := hid h2
  clear h1 h2
  go_enter Try.func113, Try.ntmps113
  go_wp2_with fail
  go_loopw [3, 11] (fun s i wr => ∃ (k : Nat) (t : Int), k ≤ 2 ∧ i = .int .i64 k ∧ s = .int .i64 t ∧ Hid ((k = 0 → t = 0) ∧ (k = 1 → t = n1) ∧ (k = 2 → t = (n1 : Int) + n2)) ∧ w = wr) (fun _ i _ => 2 - (intOf i).toNat)
  case atStart => exact ⟨0, 0, by omega, rfl, rfl, ⟨fun _ => rfl, fun h => by omega, fun h => by omega⟩, rfl⟩
  case round =>
    obtain ⟨k, t, hk, rfl, rfl, ht, rfl⟩ := hrel
    by_cases k0 : k = 0
    · subst k0
      obtain rfl := ht.out.1 rfl
      go_wp2_with fail
      go_roundw
      case rel => exact ⟨1, n1, by omega, by go_num, by go_num, ⟨fun h => by omega, fun _ => rfl, fun h => by omega⟩, trivial⟩
      case measure => simp [intOf]
    by_cases k1 : k = 1
    · subst k1
      obtain rfl := ht.out.2.1 rfl
      go_wp2_with fail
      go_roundw
      case rel => exact ⟨2, (n1 : Int) + n2, by omega, by go_num, by go_num, ⟨fun h => by omega, fun h => by omega, fun _ => rfl⟩, trivial⟩
      case measure => simp [intOf]
    · obtain rfl : k = 2 := by omega
      obtain rfl := ht.out.2.2 rfl
      obtain ⟨N, hN⟩ : ∃ N : Nat, N = n1 + n2 := ⟨_, rfl⟩
      have es : (n1 : Int) + (n2 : Int) = (N : Int) := by omega
      have hN24 : N ≤ 24 := by omega
      have HN := hid hN
      rw [es]
      clear es hN
      go_wp2_with fail
      refine (grow_any N hN24 _).mono ?_
      rintro e w2 ⟨v, rfl, hown, hb2⟩
      have hP2 := hp.below hb2 hplt
      have h12 := H1.out.below hb2
      have h22 := H2.out.below hb2
      have q0 : w2.cell? ⟨pb, 0, none⟩ = some (.slice A1 n1 c1) := hP2.cell 0
      have q1 : w2.cell? ⟨pb, 1, none⟩ = some (.slice A2 n2 c2) := hP2.cell 1
      obtain ⟨A0, c0, rfl⟩ := own_form hown
      have hs2 := hb2.size
      have hpl2 := hP2.lt
      have K1 := hid h12
      have K2 := hid h22
      clear h12 h22 p0 p1
      go_wp2_with fail
      go_loopw [6, 27] (fun v i wr => ∃ (k m : Nat) (A : Option Addr) (c : Nat) (xs : List Value), k ≤ 2 ∧ i = .int .i64 k ∧ v = .slice A m c ∧ wr.ownsRow w.heap.size 24 1 (.slice A m c) m xs ∧ Hid ((k = 0 → m = 0 ∧ xs = []) ∧ (k = 1 → m = n1 ∧ xs = xs1) ∧ (k = 2 → m = n1 + n2 ∧ xs = xs1 ++ xs2)) ∧ Below w.heap.size w wr) (fun _ i _ => 2 - (intOf i).toNat)
      case atStart => exact ⟨0, 0, A0, c0, [], by omega, rfl, rfl, hown, ⟨fun _ => ⟨rfl, rfl⟩, fun h => by omega, fun h => by omega⟩, hb2⟩
      case round =>
        obtain ⟨k, m, A, c, xs, hk, rfl, rfl, hown, ht, hbl⟩ := hrel
        have hPr := hp.below hbl hplt
        have r0 : wr.cell? ⟨pb, 0, none⟩ = some (.slice A1 n1 c1) := hPr.cell 0
        have r1 : wr.cell? ⟨pb, 1, none⟩ = some (.slice A2 n2 c2) := hPr.cell 1
        have hsr := hbl.size
        clear q0 q1 hP2 hb2
        by_cases k0 : k = 0
        · subst k0
          obtain ⟨rfl, rfl⟩ := ht.out.1 rfl
          have hs := H1.out.below hbl
          go_wp2_with (at_builtin; refine wpList_append_mayJ rfl (.tmp 31) (.tmp 32) 70 rfl w.heap.size 24 i0 (.slice none 0 0) 1 24 Try.underlying70 hi0 hz0 hz1 hz2 rfl (by decide) _ 0 [] rfl hown A1 n1 c1 xs1 rfl (by rw [hs.1]; omega) hs.cells hs.2.1 (by unfold maxLen; omega) (by omega) hsr ?_)
          intro v3 w3 hown3 hg3
          obtain ⟨A3, c3, rfl⟩ := own_form hown3
          have hb3 : Below w.heap.size w w3 := hbl.grown hg3 hsr (fun x hx => (own_ltJ hown x hx).1)
          clear hg3 hown hs
          go_wp2_with fail
          go_roundw
          case rel => exact ⟨1, n1, A3, c3, xs1, by omega, by go_num, by simp, by simpa using hown3, ⟨fun h => by omega, fun _ => ⟨rfl, rfl⟩, fun h => by omega⟩, hb3⟩
          case measure => simp [intOf]
        by_cases k1 : k = 1
        · subst k1
          obtain ⟨rfl, rfl⟩ := ht.out.2.1 rfl
          have hs := H2.out.below hbl
          go_wp2_with (at_builtin; refine wpList_append_mayJ rfl (.tmp 31) (.tmp 32) 70 rfl w.heap.size 24 i0 (.slice none 0 0) 1 24 Try.underlying70 hi0 hz0 hz1 hz2 rfl (by decide) _ _ _ rfl hown A2 n2 c2 xs2 rfl (by rw [hs.1]; omega) hs.cells hs.2.1 (by unfold maxLen; omega) (by omega) hsr ?_)
          intro v3 w3 hown3 hg3
          obtain ⟨A3, c3, rfl⟩ := own_form hown3
          have hb3 : Below w.heap.size w w3 := hbl.grown hg3 hsr (fun x hx => (own_ltJ hown x hx).1)
          clear hg3 hown hs
          go_wp2_with fail
          go_roundw
          case rel => exact ⟨2, _, A3, c3, _, by omega, by go_num, rfl, hown3, ⟨fun h => by omega, fun h => by omega, fun _ => ⟨rfl, rfl⟩⟩, hb3⟩
          case measure => simp [intOf]
        · obtain rfl : k = 2 := by omega
          obtain ⟨rfl, rfl⟩ := ht.out.2.2 rfl
          go_wp2_with fail
          go_ret
          exact ⟨A, c, rfl, hown, hbl⟩

/-! ### JoinC -/
def catN {α : Type} (n1 : Nat) (f1 f2 : Nat → α) : Nat → α := fun i => if i < n1 then f1 i else f2 (i - n1)
theorem catN_left {α : Type} {n1 i : Nat} {f1 f2 : Nat → α} (h : i < n1) : catN n1 f1 f2 i = f1 i := if_pos h
theorem catN_right {α : Type} {n1 i : Nat} {f1 f2 : Nat → α} (h : ¬ i < n1) : catN n1 f1 f2 i = f2 (i - n1) := if_neg h
theorem hdJ_cat (n1 n2 : Nat) (bl1 bl2 len1 len2 cp1 cp2 : Nat → Nat) : hdJ (n1 + n2) (catN n1 bl1 bl2) (catN n1 len1 len2) (catN n1 cp1 cp2) = hdJ n1 bl1 len1 cp1 ++ hdJ n2 bl2 len2 cp2 := by
  refine List.ext_getElem? fun i => ?_
  by_cases h1 : i < n1
  · rw [List.getElem?_append_left (by rw [hdJ_len]; exact h1), hdJ_at h1, hdJ_at (by omega), catN_left h1, catN_left h1, catN_left h1]
  · rw [List.getElem?_append_right (by rw [hdJ_len]; omega), hdJ_len]
    by_cases h2 : i < n1 + n2
    · rw [hdJ_at h2, hdJ_at (by omega), catN_right h1, catN_right h1, catN_right h1]
    · rw [List.getElem?_eq_none (by rw [hdJ_len]; omega), List.getElem?_eq_none (by rw [hdJ_len]; omega)]
theorem TreesN.cat {w : World} {B n1 n2 : Nat} {bl1 bl2 len1 len2 : Nat → Nat} {g1 g2 : Nat → Nat → Nd} (h1 : TreesN w B n1 bl1 len1 g1) (h2 : TreesN w B n2 bl2 len2 g2) (hne : ∀ i j, i < n1 → j < n2 → bl1 i ≠ bl2 j) :
    TreesN w B (n1 + n2) (catN n1 bl1 bl2) (catN n1 len1 len2) (catN n1 g1 g2) := fun i hi => by
  by_cases e : i < n1
  · rw [catN_left e, catN_left e, catN_left e]
    refine ⟨(h1 i e).1, (h1 i e).2.1, fun j hj => ?_⟩
    rw [catN_left (by omega)]
    exact (h1 i e).2.2 j hj
  · rw [catN_right e, catN_right e, catN_right e]
    have hi2 : i - n1 < n2 := by omega
    refine ⟨(h2 _ hi2).1, (h2 _ hi2).2.1, fun j hj => ?_⟩
    by_cases ej : j < n1
    · rw [catN_left ej]; exact hne j (i - n1) ej hi2
    · rw [catN_right ej]; exact (h2 _ hi2).2.2 (j - n1) (by omega)
theorem RdT.al {w : World} {n : Nat} {A : Option Addr} {len : Nat → Nat} {g : Nat → Nat → Nd} (h : RdT w w.heap.size A n len g) (o : Obj) : RdT (w.alloc o) (w.alloc o).heap.size A n len g :=
  h.to ((Below.refl _ _).alloc (Nat.le_refl _) o) (by simp)

theorem TreesN.grownJ {w w5 : World} {B B2 n m : Nat} {bl len : Nat → Nat} {g : Nat → Nat → Nd} {v : Value} {xs : List Value} (h : TreesN w B n bl len g) (hown : w.ownsRow B2 24 1 v m xs) (hg : w.grownBy w5 v.ownBlock) : TreesN w5 B n bl len g :=
  h.keep fun i hi => by
    obtain ⟨cs, hB, _⟩ := (h i hi).2.1
    exact hg.block _ hB.lt (own_blk_ne hown hB (by decide))
/-- Three cells of an ensemble's own cell written. -/
theorem fin_set {w w5 : World} {B p n m c : Nat} {A : Option Addr} {cs : Array Value} {bl len : Nat → Nat} {g : Nat → Nat → Nd} {xs : List Value} (hP : Blk w5 p 72 cs) (hs : cs.size = 3) (ho : w5.ownsRow B 24 1 (.slice A m c) m xs) (hT : TreesN w5 B n bl len g) (hw : Below B w w5) (hBp : B ≤ p) (u0 u1 u2 : Value) :
    Blk (((w5.setCell ⟨p, 0, none⟩ u0).setCell ⟨p, 1, none⟩ u1).setCell ⟨p, 2, none⟩ u2) p 72 #[u0, u1, u2] ∧ (((w5.setCell ⟨p, 0, none⟩ u0).setCell ⟨p, 1, none⟩ u1).setCell ⟨p, 2, none⟩ u2).ownsRow B 24 1 (.slice A m c) m xs ∧
    TreesN (((w5.setCell ⟨p, 0, none⟩ u0).setCell ⟨p, 1, none⟩ u1).setCell ⟨p, 2, none⟩ u2) B n bl len g ∧ Below B w (((w5.setCell ⟨p, 0, none⟩ u0).setCell ⟨p, 1, none⟩ u1).setCell ⟨p, 2, none⟩ u2) := by
  have hk : ∀ i, i ≠ p → (((w5.setCell ⟨p, 0, none⟩ u0).setCell ⟨p, 1, none⟩ u1).setCell ⟨p, 2, none⟩ u2).heap[i]? = w5.heap[i]? := fun i hi =>
    (Below.heap_setCell _ _ _ i hi).trans ((Below.heap_setCell _ _ _ i hi).trans (Below.heap_setCell _ _ _ i hi))
  refine ⟨?_, own_keepJ ho fun x _ _ hx => hk x (fun e => own_blk_ne ho hP (by decide) (by rw [← e]; exact hx.symm)), hT.keep fun i hi => hk _ ?_, ((hw.setCell (p := ⟨p, 0, none⟩) hBp u0).setCell (p := ⟨p, 1, none⟩) hBp u1).setCell (p := ⟨p, 2, none⟩) hBp u2⟩
  · have h3 := ((hP.set_ 0 u0).set_ 1 u1).set_ 2 u2
    have e : ((cs.setIfInBounds 0 u0).setIfInBounds 1 u1).setIfInBounds 2 u2 = #[u0, u1, u2] := by
      obtain ⟨l⟩ := cs
      match l, hs with
      | [x, y, z], _ => rfl
    rw [e] at h3
    exact h3
  · obtain ⟨cs', hB, _⟩ := (hT i hi).2.1
    exact hB.ne_ hP (by decide)
theorem blk_far3 {w : World} {p z : Nat} {t t' : TypeId} {cs zs : Array Value} (_hP : Blk w p t' cs) (hZ : Blk w z t zs) (hne : z ≠ p) (u0 u1 u2 : Value) : Blk (((w.setCell ⟨p, 0, none⟩ u0).setCell ⟨p, 1, none⟩ u1).setCell ⟨p, 2, none⟩ u2) z t zs :=
  ((hZ.far (p := ⟨p, 0, none⟩) hne u0).far (p := ⟨p, 1, none⟩) hne u1).far (p := ⟨p, 2, none⟩) hne u2
theorem results_cell_tmpJ {P : Program} {fn : Func} {p u : Tmp} {ty : TypeId} (h : fn.results = #[.cell p ty, .tmp u]) (tmps : Array Value) (w : World) (g : Nat) (t : TypeId) (cs : Array Value) (fr : Nat × Nat) (d : TypeDesc)
    (hp : tmps.getD p undef = .pointer (some ⟨g, 0, none⟩)) (hg : w.heap[g]? = some (.cells cs t fr))
    (hu : P.underlying ty = some d) (hd : (match d with | .struct _ | .array _ _ => true | _ => false) = true) (hi : (P.info? ty).map (·.size) = some cs.size) :
    (results fn tmps).run P w = .ok (.tuple #[.agg cs, tmps.getD u undef]) w := by
  have hp' : tmps[p]?.getD undef = .pointer (some ⟨g, 0, none⟩) := by simpa using hp
  simp [results, h, hp', asAddr, Result.andThen, run_loadVar_row w g t ty cs fr d hg hu hd hi]
/-- What EnsJoin gives where there is something. -/
def Joined (w : World) (f b : Int) (n : Nat) (len : Nat → Nat) (g : Nat → Nat → Nd) (e : Ending) (w' : World) : Prop :=
  ∃ A' c bl cp, e = .returned (.tuple #[enV f b A' n c, .bool true]) ∧ w'.ownsRow w.heap.size 24 1 (.slice A' n c) n (hdJ n bl len cp) ∧ TreesN w' w.heap.size n bl len g ∧ Below w.heap.size w w'

/-- What EnsJoin gives. -/
def JoinPost (Y : Bool) (w : World) (f b : Int) (n : Nat) (len : Nat → Nat) (g : Nat → Nat → Nd) (e : Ending) (w' : World) : Prop :=
  if Y = true then Joined w f b n len g e w' else e = .returned (.tuple #[enV 0 0 none 0 0, .bool false]) ∧ Below w.heap.size w w'
theorem own_lessJ {w : World} {B B2 : Nat} {e : TypeId} {size : Nat} {v : Value} {n : Nat} {xs : List Value} (h : w.ownsRow B2 e size v n xs) (hB : B ≤ B2) : w.ownsRow B e size v n xs := by
  refine ⟨h.1, ?_⟩
  rcases h.2 with h0 | ⟨g, cap, cur, hv, hb, rest⟩
  · exact .inl h0
  · exact .inr ⟨g, cap, cur, hv, Nat.le_trans hB hb, rest⟩
theorem Blk.on {w w' : World} {g : Nat} {t : TypeId} {cs : Array Value} (h : Blk w g t cs) (hb : Below w.heap.size w w') : Blk w' g t cs := Blk.below h hb (Blk.lt h)
theorem grownP {w w5 : World} {p B n : Nat} {cs : Array Value} {v : Value} {xs : List Value} (hP : Blk w p 72 cs) (hown : w.ownsRow B 24 1 v n xs) (hg : w.grownBy w5 v.ownBlock) : Blk w5 p 72 cs := hP.grown hg (own_blk_ne hown hP (by decide))
theorem heldE {w : World} {a n1 n2 c1 c2 : Nat} {f b1 b2 : Int} {A1 A2 : Option Addr} (hE1 : Blk w a 72 #[.int .i64 f, .int .i64 b1, .slice A1 n1 c1]) (hE2 : Blk w (a + 1) 72 #[.int .i64 f, .int .i64 b2, .slice A2 n2 c2]) :
    w.cell? ⟨a, 0, none⟩ = some (.int .i64 f) ∧ w.cell? ⟨a, 1, none⟩ = some (.int .i64 b1) ∧ w.cell? ⟨a, 2, none⟩ = some (.slice A1 n1 c1) ∧ w.cell? ⟨a + 1, 1, none⟩ = some (.int .i64 b2) ∧ w.cell? ⟨a + 1, 2, none⟩ = some (.slice A2 n2 c2) :=
  ⟨hE1.cell 0, hE1.cell 1, hE1.cell 2, hE2.cell 1, hE2.cell 2⟩
theorem heldS {w : World} {a n1 n2 c1 c2 : Nat} {f b1 b2 : Int} {A1 A2 : Option Addr} (hE1 : Blk w a 72 #[.int .i64 f, .int .i64 b1, .slice A1 n1 c1]) (hE2 : Blk w (a + 1) 72 #[.int .i64 f, .int .i64 b2, .slice A2 n2 c2]) (p : Nat) (hp : a + 1 < p) (u0 u1 u2 : Value) :
    (((w.setCell ⟨p, 0, none⟩ u0).setCell ⟨p, 1, none⟩ u1).setCell ⟨p, 2, none⟩ u2).cell? ⟨a, 0, none⟩ = some (.int .i64 f) ∧ (((w.setCell ⟨p, 0, none⟩ u0).setCell ⟨p, 1, none⟩ u1).setCell ⟨p, 2, none⟩ u2).cell? ⟨a, 1, none⟩ = some (.int .i64 b1) ∧
    (((w.setCell ⟨p, 0, none⟩ u0).setCell ⟨p, 1, none⟩ u1).setCell ⟨p, 2, none⟩ u2).cell? ⟨a, 2, none⟩ = some (.slice A1 n1 c1) ∧ (((w.setCell ⟨p, 0, none⟩ u0).setCell ⟨p, 1, none⟩ u1).setCell ⟨p, 2, none⟩ u2).cell? ⟨a + 1, 1, none⟩ = some (.int .i64 b2) ∧
    (((w.setCell ⟨p, 0, none⟩ u0).setCell ⟨p, 1, none⟩ u1).setCell ⟨p, 2, none⟩ u2).cell? ⟨a + 1, 2, none⟩ = some (.slice A2 n2 c2) := by
  have q1 := ((hE1.far (p := ⟨p, 0, none⟩) (by show a ≠ p; omega) u0).far (p := ⟨p, 1, none⟩) (by show a ≠ p; omega) u1).far (p := ⟨p, 2, none⟩) (by show a ≠ p; omega) u2
  have q2 := ((hE2.far (p := ⟨p, 0, none⟩) (by show a + 1 ≠ p; omega) u0).far (p := ⟨p, 1, none⟩) (by show a + 1 ≠ p; omega) u1).far (p := ⟨p, 2, none⟩) (by show a + 1 ≠ p; omega) u2
  exact ⟨q1.cell 0, q1.cell 1, q1.cell 2, q2.cell 1, q2.cell 2⟩
theorem named_calls {P : Program} {f : FuncId} {args : Array Value} {w : World} {Q : Ending → World → Prop} (h : ∀ X : World, X = w → Calls P f args X Q) : Calls P f args w Q := h w rfl
theorem named_step {P : Program} {w : World} {ops : Array Oper} {o : Oper} {a : Act} {K : Act → World → Prop} {Q : Exit → Act → World → Prop} {E : Prop} (h : ∀ X : World, X = w → (if Region.wanted o (yielded ops a.tmps) = true then Oper.wp P o a X K Q else E)) : if Region.wanted o (yielded ops a.tmps) = true then Oper.wp P o a w K Q else E := h w rfl
theorem TreesN.al {w : World} {B n : Nat} {bl len : Nat → Nat} {g : Nat → Nat → Nd} (h : TreesN w B n bl len g) (o : Obj) : TreesN (w.alloc o) B n bl len g := h.below ((Below.refl _ _).alloc (Nat.le_refl _) o)
theorem own_srcJ {w : World} {B n c gb : Nat} {xs : List Value} (h : w.ownsRow B 24 1 (.slice (some ⟨gb, 0, none⟩) n c) n xs) : ∀ j u, xs[j]? = some u → w.cell? ((⟨gb, 0, none⟩ : Addr).add j) = some u := fun j u hu => by
  have hj : j < n * 1 := by have := (List.getElem?_eq_some_iff.1 hu).1; have := h.1; omega
  have := h.cellAt j hj
  simpa [Addr.add_lit] using this.trans hu
theorem step_append_mayJ {P : Program} {w : World} {ops : Array Oper} {o : Oper} {a : Act} {K : Act → World → Prop} {Q : Exit → Act → World → Prop} {E : Prop} (hgd : o.guard = none) (s x : Operand) (t : TypeId)
    (ho : o.op = .call { callee := .builtin .append, args := #[s, x], argTypes := #[t, t] })
    (base : Nat) (e : TypeId) (i : TypeInfo) (z : Value) (size bytes : Nat) (ht : P.underlying t = some (.slice e)) (hi : P.info? e = some i) (hz : i.zero = some z)
    (hsize : i.size = size) (hby : i.bytes = bytes) (hzs : z.cells.size = size) (hsz : 0 < size)
    (v : Value) (n : Nat) (xs : List Value) (hs : a.eval s = v) (hown : w.ownsRow base e size v n xs)
    (ad : Addr) (m c : Nat) (news : List Value) (hx : a.eval x = .slice (some ad) m c) (hl : news.length = m * size) (hnews : ∀ j u, news[j]? = some u → w.cell? (ad.add j) = some u) (h1 : ∀ u ∈ news, u.oneCell' = true)
    (h63 : n + m ≤ maxLen) (hbytes : (n + m) * bytes ≤ 140737488355328) (hbase : base ≤ w.heap.size)
    (h : ∀ A' c' w', w'.ownsRow base e size (.slice A' (n + m) c') (n + m) (xs ++ news) → w.grownBy w' v.ownBlock → K (a.put o.dst (.slice A' (n + m) c')) w') :
    if Region.wanted o (yielded ops a.tmps) = true then Oper.wp P o a w K Q else E := by
  have hw : Region.wanted o (yielded ops a.tmps) = true := by simp [Region.wanted, hgd]
  rw [if_pos hw]
  refine wp_append_own w s x t ho base e i z size bytes ht hi hz hsize hby hzs hsz v n xs hs hown ad m c news hx hl hnews h1 h63 hbytes hbase fun v' w' h2 h3 _ => ?_
  obtain ⟨A', c', rfl⟩ := own_form h2
  exact h A' c' w' h2 h3

set_option maxRecDepth 100000 in
set_option maxHeartbeats 8000000 in
theorem sJoin_in (Y : Bool) (f b1 b2 : Int) (A1 A2 : Option Addr) (n1 n2 c1 c2 : Nat) (len1 len2 : Nat → Nat) (g1 g2 : Nat → Nat → Nd) (w : World) (h1 : RdT w w.heap.size A1 n1 len1 g1) (h2 : RdT w w.heap.size A2 n2 len2 g2)
    (hy1 : ensB f b1 n1 len1 g1 = true) (hy2 : ensB f b2 n2 len2 g2 = true) (hy : ensB f (b1 + b2) (n1 + n2) (catN n1 len1 len2) (catN n1 g1 g2) = Y) :
    Calls Try.prog 69 #[enV f b1 A1 n1 c1, enV f b2 A2 n2 c2] w (JoinPost Y w f (b1 + b2) (n1 + n2) (catN n1 len1 len2) (catN n1 g1 g2)) := by
  obtain ⟨i0, hi0, hz0, hz1, hz2⟩ := info_parts info_nodes
  obtain ⟨qf, qb, q12, qt⟩ := ensB_iff.1 hy1
  obtain ⟨_, qb2, q22, qt2⟩ := ensB_iff.1 hy2
  have hl1 : Hid (∀ i, i < n1 → 1 ≤ len1 i ∧ len1 i ≤ 15) := fun i hi => ((treeB_iff _ _ _).1 (qt i hi)).2.1
  have hl2 : Hid (∀ i, i < n2 → 1 ≤ len2 i ∧ len2 i ≤ 15) := fun i hi => ((treeB_iff _ _ _).1 (qt2 i hi)).2.1
  have HY1 := hid hy1
  have HY2 := hid hy2
  have HY := hid hy
  clear qt qt2 hy1 hy2 hy
  have hlm1 : Hid (∀ i, i < n1 → len1 i ≤ 4194304) := fun i hi => by have := hl1.out i hi; omega
  have hlm2 : Hid (∀ i, i < n2 → len2 i ≤ 4194304) := fun i hi => by have := hl2.out i hi; omega
  have hb0 := (((Below.refl w.heap.size w).alloc (Nat.le_refl _) (.cells #[.int .i64 f, .int .i64 b1, .slice A1 n1 c1] 72)).alloc (by simp) (.cells #[.int .i64 f, .int .i64 b2, .slice A2 n2 c2] 72)).alloc (by simp; omega) (.cells #[.int .i64 0, .int .i64 0, .slice none 0 0] 72)
  have hE1 := ((Blk.new w 72 #[.int .i64 f, .int .i64 b1, .slice A1 n1 c1]).alloc (.cells #[.int .i64 f, .int .i64 b2, .slice A2 n2 c2] 72)).alloc (.cells #[.int .i64 0, .int .i64 0, .slice none 0 0] 72)
  have hE2 := (Blk.new2 w (.cells #[.int .i64 f, .int .i64 b1, .slice A1 n1 c1] 72) 72 #[.int .i64 f, .int .i64 b2, .slice A2 n2 c2]).alloc (.cells #[.int .i64 0, .int .i64 0, .slice none 0 0] 72)
  have hZ := Blk.new3 w (.cells #[.int .i64 f, .int .i64 b1, .slice A1 n1 c1] 72) (.cells #[.int .i64 f, .int .i64 b2, .slice A2 n2 c2] 72) 72 #[.int .i64 0, .int .i64 0, .slice none 0 0]
  have hr1 := h1.to hb0 hb0.size
  have hr2 := h2.to hb0 hb0.size
  obtain ⟨W0, hW0⟩ : ∃ W0, ((w.alloc (.cells #[.int .i64 f, .int .i64 b1, .slice A1 n1 c1] 72)).alloc (.cells #[.int .i64 f, .int .i64 b2, .slice A2 n2 c2] 72)).alloc (.cells #[.int .i64 0, .int .i64 0, .slice none 0 0] 72) = W0 := ⟨_, rfl⟩
  rw [hW0] at hb0 hE1 hE2 hZ hr1 hr2
  have HW0 := hid hW0
  clear h1 h2
  have a0 : W0.cell? ⟨w.heap.size, 0, none⟩ = some (.int .i64 f) := hE1.cell 0
  have a1 : W0.cell? ⟨w.heap.size, 1, none⟩ = some (.int .i64 b1) := hE1.cell 1
  have a2 : W0.cell? ⟨w.heap.size, 2, none⟩ = some (.slice A1 n1 c1) := hE1.cell 2
  go_enter Try.func69, Try.ntmps69
  go_wp2_with fail
  refine (sEnsOk_any f b1 A1 n1 c1 len1 g1 _ hr1 (by omega) hlm1).mono ?_
  rintro e w1 ⟨rfl, hb1⟩
  rw [HY1.out]
  have hE1' := hE1.below hb1 hE1.lt
  have hE2' := hE2.below hb1 hE2.lt
  have hZ' := hZ.below hb1 hZ.lt
  have hr1' := hr1.to hb1 hb1.size
  have hr2' := hr2.to hb1 hb1.size
  have hw1 := hb0.trans (hb1.mono hb0.size)
  clear hb0 hb1 hE1 hE2 hZ hr1 hr2 hW0 a0 a1 a2
  have a0 : w1.cell? ⟨w.heap.size + 1, 0, none⟩ = some (.int .i64 f) := hE2'.cell 0
  have a1 : w1.cell? ⟨w.heap.size + 1, 1, none⟩ = some (.int .i64 b2) := hE2'.cell 1
  have a2 : w1.cell? ⟨w.heap.size + 1, 2, none⟩ = some (.slice A2 n2 c2) := hE2'.cell 2
  go_wp2_with fail
  refine (sEnsOk_any f b2 A2 n2 c2 len2 g2 _ hr2' (by omega) hlm2).mono ?_
  rintro e w2 ⟨rfl, hb2⟩
  rw [HY2.out]
  have hE1 := hE1'.below hb2 hE1'.lt
  have hE2 := hE2'.below hb2 hE2'.lt
  have hZ := hZ'.below hb2 hZ'.lt
  have hr1 := hr1'.to hb2 hb2.size
  have hr2 := hr2'.to hb2 hb2.size
  have hw2 := hw1.trans (hb2.mono hw1.size)
  clear hw1 hb2 hE1' hE2' hZ' hr1' hr2' a0 a1 a2
  have a0 : w2.cell? ⟨w.heap.size, 0, none⟩ = some (.int .i64 f) := hE1.cell 0
  have a1 : w2.cell? ⟨w.heap.size, 1, none⟩ = some (.int .i64 b1) := hE1.cell 1
  have a2 : w2.cell? ⟨w.heap.size, 2, none⟩ = some (.slice A1 n1 c1) := hE1.cell 2
  have e0 : w2.cell? ⟨w.heap.size + 1, 0, none⟩ = some (.int .i64 f) := hE2.cell 0
  have e1 : w2.cell? ⟨w.heap.size + 1, 1, none⟩ = some (.int .i64 b2) := hE2.cell 1
  have e2 : w2.cell? ⟨w.heap.size + 1, 2, none⟩ = some (.slice A2 n2 c2) := hE2.cell 2
  have hn1 : n1 ≤ 12 := q12
  have hn2 : n2 ≤ 12 := q22
  have hE1d : Blk w2.drew w.heap.size 72 #[.int .i64 f, .int .i64 b1, .slice A1 n1 c1] := hE1
  have hE2d : Blk w2.drew (w.heap.size + 1) 72 #[.int .i64 f, .int .i64 b2, .slice A2 n2 c2] := hE2
  have hr1d : RdT w2.drew w2.drew.heap.size A1 n1 len1 g1 := hr1
  have hr2d : RdT w2.drew w2.drew.heap.size A2 n2 len2 g2 := hr2
  have hwd : Below w.heap.size w w2.drew := hw2.drew
  have hq2 : w.heap.size + 1 + 1 < w2.heap.size := hZ.lt
  have hE1e : Blk (w2.alloc (.cells #[.int .i64 0, .int .i64 0, .slice none 0 0] 72)).drew w.heap.size 72 #[.int .i64 f, .int .i64 b1, .slice A1 n1 c1] := hE1.alloc _
  have hE2e : Blk (w2.alloc (.cells #[.int .i64 0, .int .i64 0, .slice none 0 0] 72)).drew (w.heap.size + 1) 72 #[.int .i64 f, .int .i64 b2, .slice A2 n2 c2] := hE2.alloc _
  have hr1e : RdT (w2.alloc (.cells #[.int .i64 0, .int .i64 0, .slice none 0 0] 72)).drew (w2.alloc (.cells #[.int .i64 0, .int .i64 0, .slice none 0 0] 72)).drew.heap.size A1 n1 len1 g1 := hr1.al _
  have hr2e : RdT (w2.alloc (.cells #[.int .i64 0, .int .i64 0, .slice none 0 0] 72)).drew (w2.alloc (.cells #[.int .i64 0, .int .i64 0, .slice none 0 0] 72)).drew.heap.size A2 n2 len2 g2 := hr2.al _
  have hwe : Below w.heap.size w (w2.alloc (.cells #[.int .i64 0, .int .i64 0, .slice none 0 0] 72)).drew := (hw2.alloc hw2.size _).drew
  have hZd : Blk w2.drew (w.heap.size + 1 + 1) 72 #[.int .i64 0, .int .i64 0, .slice none 0 0] := hZ
  have hZe : Blk (w2.alloc (.cells #[.int .i64 0, .int .i64 0, .slice none 0 0] 72)).drew (w.heap.size + 1 + 1) 72 #[.int .i64 0, .int .i64 0, .slice none 0 0] := hZ.alloc _
  have hwrap : IntKind.i64.wrap (b1 + b2) = b1 + b2 := IntWalk.i64_in _ (by omega)
  have hPe : Blk (w2.alloc (.cells #[.int .i64 0, .int .i64 0, .slice none 0 0] 72)).drew w2.heap.size 72 #[.int .i64 0, .int .i64 0, .slice none 0 0] := Blk.new w2 _ _
  go_wp2_with fail
  clear a0 a1 a2 e0 e1 e2
  go_region_held3 (fun w' => w'.cell? ⟨w.heap.size, 0, none⟩ = some (.int .i64 f) ∧ w'.cell? ⟨w.heap.size, 1, none⟩ = some (.int .i64 b1) ∧ w'.cell? ⟨w.heap.size, 2, none⟩ = some (.slice A1 n1 c1) ∧ w'.cell? ⟨w.heap.size + 1, 1, none⟩ = some (.int .i64 b2) ∧ w'.cell? ⟨w.heap.size + 1, 2, none⟩ = some (.slice A2 n2 c2))
    (first | with_reducible exact heldE hE1d hE2d | with_reducible exact heldE hE1e hE2e | with_reducible exact heldE hE1L hE2L | with_reducible exact heldE (hE1L.alloc _) (hE2L.alloc _) | with_reducible exact heldE hE1R hE2R | with_reducible exact heldE (hE1R.alloc _) (hE2R.alloc _) | with_reducible exact heldE hE1W hE2W | with_reducible exact heldE (hE1W.alloc _) (hE2W.alloc _) | with_reducible exact heldS hE1W hE2W _ (by omega) _ _ _ | with_reducible exact heldS (hE1W.alloc _) (hE2W.alloc _) _ (by omega) _ _ _ | trace_state)
    (first
      | (go_at_call_of 112 (Value.slice A1 n1 c1); refine named_calls ?_; intro XL hXL; have hE1x : Blk XL w.heap.size 72 #[.int .i64 f, .int .i64 b1, .slice A1 n1 c1] := (by first | (rw [hXL]; (first | with_reducible exact hE1d | with_reducible exact hE1e | with_reducible exact hE1R | with_reducible exact hE1R.alloc _)) | (first | with_reducible exact hE1d | with_reducible exact hE1e | with_reducible exact hE1R | with_reducible exact hE1R.alloc _)); have hE2x : Blk XL (w.heap.size + 1) 72 #[.int .i64 f, .int .i64 b2, .slice A2 n2 c2] := (by first | (rw [hXL]; (first | with_reducible exact hE2d | with_reducible exact hE2e | with_reducible exact hE2R | with_reducible exact hE2R.alloc _)) | (first | with_reducible exact hE2d | with_reducible exact hE2e | with_reducible exact hE2R | with_reducible exact hE2R.alloc _)); have hr1x : RdT XL XL.heap.size A1 n1 len1 g1 := (by first | (rw [hXL]; (first | with_reducible exact hr1d | with_reducible exact hr1e | with_reducible exact hr1R | with_reducible exact hr1R.al _)) | (first | with_reducible exact hr1d | with_reducible exact hr1e | with_reducible exact hr1R | with_reducible exact hr1R.al _)); have hr2x : RdT XL XL.heap.size A2 n2 len2 g2 := (by first | (rw [hXL]; (first | with_reducible exact hr2d | with_reducible exact hr2e | with_reducible exact hr2R | with_reducible exact hr2R.al _)) | (first | with_reducible exact hr2d | with_reducible exact hr2e | with_reducible exact hr2R | with_reducible exact hr2R.al _)); have hZx : Blk XL (w.heap.size + 1 + 1) 72 #[.int .i64 0, .int .i64 0, .slice none 0 0] := (by first | (rw [hXL]; (first | with_reducible exact hZd | with_reducible exact hZe | with_reducible exact hZR | with_reducible exact hZR.alloc _)) | (first | with_reducible exact hZd | with_reducible exact hZe | with_reducible exact hZR | with_reducible exact hZR.alloc _)); have hwx : Below w.heap.size w XL := (by first | (rw [hXL]; (first | with_reducible exact hwd | with_reducible exact hwe | with_reducible exact hwR | with_reducible exact hwR.alloc hwR.size _)) | (first | with_reducible exact hwd | with_reducible exact hwe | with_reducible exact hwR | with_reducible exact hwR.alloc hwR.size _)); (try have own2x : XL.ownsRow w.heap.size 24 1 (.slice (some ⟨gb2, 0, none⟩) n2 d2) n2 (hdJ n2 bl2 len2 cp2) := (by first | (rw [hXL]; (first | with_reducible exact hown2R | with_reducible exact hown2R.alloc _)) | (first | with_reducible exact hown2R | with_reducible exact hown2R.alloc _))); (try have hT2x : TreesN XL w.heap.size n2 bl2 len2 g2 := (by first | (rw [hXL]; (first | with_reducible exact hT2R | with_reducible exact hT2R.al _)) | (first | with_reducible exact hT2R | with_reducible exact hT2R.al _))); (first | (have hPx : Blk XL w2.heap.size 72 #[.int .i64 0, .int .i64 0, .slice none 0 0] := (by rw [hXL]; with_reducible exact hPe)) | (have hPx : Blk XL wR.heap.size 72 #[.int .i64 0, .int .i64 0, .slice none 0 0] := (by rw [hXL]; with_reducible exact Blk.new wR _ _)) | (have hPx : Blk XL w2.heap.size 72 #[.int .i64 0, .int .i64 0, .slice none 0 0] := (by rw [hXL]; with_reducible exact hPR)) | skip); refine (copy_any A1 n1 c1 len1 g1 XL hr1x hn1 hl1).mono ?_; rintro e wL ⟨v, rfl, gb1, d1, bl1, cp1, rfl, hown10, hT10, hbL⟩; have hown1L := own_lessJ hown10 hwx.size; have hT1L := hT10.less hwx.size; have hgb1 : w.heap.size + 1 < gb1 := Nat.lt_of_lt_of_le hE2x.lt (own_ltJ hown10 gb1 rfl).1; have hE1L := hE1x.on hbL; have hE2L := hE2x.on hbL; have hZL := hZx.on hbL; have hr1L := hr1x.to hbL hbL.size; have hr2L := hr2x.to hbL hbL.size; have hwL := hwx.trans (hbL.mono hwx.size); have hqL := hZL.lt; (try have hown2L := own_below own2x hbL); (try have hT2L := hT2x.below hbL); (try have hPL := hPx.on hbL); (try have hne12 : ∀ i j, i < n1 → j < n2 → bl1 i ≠ bl2 j := fun i j hi hj => (by have := (hT10 i hi).1; have := (hT2x j hj).2.1.lt; omega)); (try clear own2x); (try clear hT2x); (try clear hPx); clear hZx hE1x hE2x hr1x hr2x hwx)
      | (go_at_call_of 112 (Value.slice A2 n2 c2); refine named_calls ?_; intro XR hXR; have hE1x : Blk XR w.heap.size 72 #[.int .i64 f, .int .i64 b1, .slice A1 n1 c1] := (by first | (rw [hXR]; (first | with_reducible exact hE1d | with_reducible exact hE1e | with_reducible exact hE1L | with_reducible exact hE1L.alloc _)) | (first | with_reducible exact hE1d | with_reducible exact hE1e | with_reducible exact hE1L | with_reducible exact hE1L.alloc _)); have hE2x : Blk XR (w.heap.size + 1) 72 #[.int .i64 f, .int .i64 b2, .slice A2 n2 c2] := (by first | (rw [hXR]; (first | with_reducible exact hE2d | with_reducible exact hE2e | with_reducible exact hE2L | with_reducible exact hE2L.alloc _)) | (first | with_reducible exact hE2d | with_reducible exact hE2e | with_reducible exact hE2L | with_reducible exact hE2L.alloc _)); have hr1x : RdT XR XR.heap.size A1 n1 len1 g1 := (by first | (rw [hXR]; (first | with_reducible exact hr1d | with_reducible exact hr1e | with_reducible exact hr1L | with_reducible exact hr1L.al _)) | (first | with_reducible exact hr1d | with_reducible exact hr1e | with_reducible exact hr1L | with_reducible exact hr1L.al _)); have hr2x : RdT XR XR.heap.size A2 n2 len2 g2 := (by first | (rw [hXR]; (first | with_reducible exact hr2d | with_reducible exact hr2e | with_reducible exact hr2L | with_reducible exact hr2L.al _)) | (first | with_reducible exact hr2d | with_reducible exact hr2e | with_reducible exact hr2L | with_reducible exact hr2L.al _)); have hZx : Blk XR (w.heap.size + 1 + 1) 72 #[.int .i64 0, .int .i64 0, .slice none 0 0] := (by first | (rw [hXR]; (first | with_reducible exact hZd | with_reducible exact hZe | with_reducible exact hZL | with_reducible exact hZL.alloc _)) | (first | with_reducible exact hZd | with_reducible exact hZe | with_reducible exact hZL | with_reducible exact hZL.alloc _)); have hwx : Below w.heap.size w XR := (by first | (rw [hXR]; (first | with_reducible exact hwd | with_reducible exact hwe | with_reducible exact hwL | with_reducible exact hwL.alloc hwL.size _)) | (first | with_reducible exact hwd | with_reducible exact hwe | with_reducible exact hwL | with_reducible exact hwL.alloc hwL.size _)); (try have own1x : XR.ownsRow w.heap.size 24 1 (.slice (some ⟨gb1, 0, none⟩) n1 d1) n1 (hdJ n1 bl1 len1 cp1) := (by first | (rw [hXR]; (first | with_reducible exact hown1L | with_reducible exact hown1L.alloc _)) | (first | with_reducible exact hown1L | with_reducible exact hown1L.alloc _))); (try have hT1x : TreesN XR w.heap.size n1 bl1 len1 g1 := (by first | (rw [hXR]; (first | with_reducible exact hT1L | with_reducible exact hT1L.al _)) | (first | with_reducible exact hT1L | with_reducible exact hT1L.al _))); (first | (have hPx : Blk XR w2.heap.size 72 #[.int .i64 0, .int .i64 0, .slice none 0 0] := (by rw [hXR]; with_reducible exact hPe)) | (have hPx : Blk XR wL.heap.size 72 #[.int .i64 0, .int .i64 0, .slice none 0 0] := (by rw [hXR]; with_reducible exact Blk.new wL _ _)) | (have hPx : Blk XR w2.heap.size 72 #[.int .i64 0, .int .i64 0, .slice none 0 0] := (by rw [hXR]; with_reducible exact hPL)) | skip); refine (copy_any A2 n2 c2 len2 g2 XR hr2x hn2 hl2).mono ?_; rintro e wR ⟨v, rfl, gb2, d2, bl2, cp2, rfl, hown20, hT20, hbR⟩; have hown2R := own_lessJ hown20 hwx.size; have hT2R := hT20.less hwx.size; have hgb2 : w.heap.size + 1 < gb2 := Nat.lt_of_lt_of_le hE2x.lt (own_ltJ hown20 gb2 rfl).1; have hE1R := hE1x.on hbR; have hE2R := hE2x.on hbR; have hZR := hZx.on hbR; have hr1R := hr1x.to hbR hbR.size; have hr2R := hr2x.to hbR hbR.size; have hwR := hwx.trans (hbR.mono hwx.size); have hqR := hZR.lt; (try have hown1R := own_below own1x hbR); (try have hT1R := hT1x.below hbR); (try have hPR := hPx.on hbR); (try have hne21 : ∀ i j, i < n2 → j < n1 → bl2 i ≠ bl1 j := fun i j hi hj => (by have := (hT20 i hi).1; have := (hT1x j hj).2.1.lt; omega)); (try clear own1x); (try clear hT1x); (try clear hPx); clear hZx hE1x hE2x hr1x hr2x hwx)
      | (refine named_step ?_; intro Xa hXa; have own1a : Xa.ownsRow w.heap.size 24 1 (.slice (some ⟨gb1, 0, none⟩) n1 d1) n1 (hdJ n1 bl1 len1 cp1) := (by first | (rw [hXa]; (first | with_reducible exact hown1R | with_reducible exact hown1R.alloc _ | with_reducible exact hown1L | with_reducible exact hown1L.alloc _)) | (first | with_reducible exact hown1R | with_reducible exact hown1R.alloc _ | with_reducible exact hown1L | with_reducible exact hown1L.alloc _)); have own2a : Xa.ownsRow w.heap.size 24 1 (.slice (some ⟨gb2, 0, none⟩) n2 d2) n2 (hdJ n2 bl2 len2 cp2) := (by first | (rw [hXa]; (first | with_reducible exact hown2R | with_reducible exact hown2R.alloc _ | with_reducible exact hown2L | with_reducible exact hown2L.alloc _)) | (first | with_reducible exact hown2R | with_reducible exact hown2R.alloc _ | with_reducible exact hown2L | with_reducible exact hown2L.alloc _)); have hT1a : TreesN Xa w.heap.size n1 bl1 len1 g1 := (by first | (rw [hXa]; (first | with_reducible exact hT1R | with_reducible exact hT1R.al _ | with_reducible exact hT1L | with_reducible exact hT1L.al _)) | (first | with_reducible exact hT1R | with_reducible exact hT1R.al _ | with_reducible exact hT1L | with_reducible exact hT1L.al _)); have hT2a : TreesN Xa w.heap.size n2 bl2 len2 g2 := (by first | (rw [hXa]; (first | with_reducible exact hT2R | with_reducible exact hT2R.al _ | with_reducible exact hT2L | with_reducible exact hT2L.al _)) | (first | with_reducible exact hT2R | with_reducible exact hT2R.al _ | with_reducible exact hT2L | with_reducible exact hT2L.al _)); have hE1a : Blk Xa w.heap.size 72 #[.int .i64 f, .int .i64 b1, .slice A1 n1 c1] := (by first | (rw [hXa]; (first | with_reducible exact hE1R | with_reducible exact hE1R.alloc _ | with_reducible exact hE1L | with_reducible exact hE1L.alloc _)) | (first | with_reducible exact hE1R | with_reducible exact hE1R.alloc _ | with_reducible exact hE1L | with_reducible exact hE1L.alloc _)); have hE2a : Blk Xa (w.heap.size + 1) 72 #[.int .i64 f, .int .i64 b2, .slice A2 n2 c2] := (by first | (rw [hXa]; (first | with_reducible exact hE2R | with_reducible exact hE2R.alloc _ | with_reducible exact hE2L | with_reducible exact hE2L.alloc _)) | (first | with_reducible exact hE2R | with_reducible exact hE2R.alloc _ | with_reducible exact hE2L | with_reducible exact hE2L.alloc _)); have hZa : Blk Xa (w.heap.size + 1 + 1) 72 #[.int .i64 0, .int .i64 0, .slice none 0 0] := (by rw [hXa]; first | with_reducible exact hZR | with_reducible exact hZR.alloc _ | with_reducible exact hZL | with_reducible exact hZL.alloc _); have hwa : Below w.heap.size w Xa := (by first | (rw [hXa]; (first | with_reducible exact hwR | with_reducible exact hwR.alloc hwR.size _ | with_reducible exact hwL | with_reducible exact hwL.alloc hwL.size _)) | (first | with_reducible exact hwR | with_reducible exact hwR.alloc hwR.size _ | with_reducible exact hwL | with_reducible exact hwL.alloc hwL.size _)); (first | (have hPa : Blk Xa wR.heap.size 72 #[.int .i64 0, .int .i64 0, .slice none 0 0] := (by rw [hXa]; with_reducible exact Blk.new wR _ _)) | (have hPa : Blk Xa wL.heap.size 72 #[.int .i64 0, .int .i64 0, .slice none 0 0] := (by rw [hXa]; with_reducible exact Blk.new wL _ _)) | (have hPa : Blk Xa w2.heap.size 72 #[.int .i64 0, .int .i64 0, .slice none 0 0] := (by rw [hXa]; first | with_reducible exact hPR | with_reducible exact hPL)) | (have hPa : Blk Xa wL.heap.size 72 #[.int .i64 0, .int .i64 0, .slice none 0 0] := (by rw [hXa]; with_reducible exact hPR)) | (have hPa : Blk Xa wR.heap.size 72 #[.int .i64 0, .int .i64 0, .slice none 0 0] := (by rw [hXa]; with_reducible exact hPL)) | skip); refine step_append_mayJ (by rfl) _ _ _ (by rfl) w.heap.size 24 i0 _ 1 24 Try.underlying70 hi0 hz0 hz1 hz2 rfl (by omega) (.slice (some ⟨gb1, 0, none⟩) n1 d1) n1 (hdJ n1 bl1 len1 cp1) (by rfl) own1a ⟨gb2, 0, none⟩ n2 d2 (hdJ n2 bl2 len2 cp2) (by rfl) (by rw [hdJ_len]; omega) (own_srcJ own2a) (hdJ_one _ _ _ _) (by unfold maxLen; omega) (by omega) hwa.size ?_; intro A5 c5 w5 hown5 hgrow; have hne1 : some w.heap.size ≠ (Value.slice (some ⟨gb1, 0, none⟩) n1 d1).ownBlock := (by simp [Value.ownBlock]; omega); have hne2 : some (w.heap.size + 1) ≠ (Value.slice (some ⟨gb1, 0, none⟩) n1 d1).ownBlock := (by simp [Value.ownBlock]; omega); have hE1W := hE1a.grown hgrow hne1; have hE2W := hE2a.grown hgrow hne2; have hZW := grownP hZa own1a hgrow; have hqW := hZW.lt; have hT1W := hT1a.grownJ own1a hgrow; have hT2W := hT2a.grownJ own1a hgrow; have hw5 := hwa.grown hgrow hwa.size (fun x hx => (own_ltJ own1a x hx).1);  (try (have hP := grownP hPa own1a hgrow; have p0 := hP.cell 0; have p1 := hP.cell 1; have p2 := hP.cell 2; have p3 := hP.frozen 0; have p4 := hP.frozen 1; have p5 := hP.frozen 2))))
  all_goals
    have hTT := hT1W.cat hT2W (by first | exact hne12 | exact fun i j hi hj e => hne21 j i hj hi e.symm)
    rw [← hdJ_cat] at hown5
    have hlJ : Hid (∀ i, i < n1 + n2 → catN n1 len1 len2 i ≤ 4194304) := fun i hi => by
      by_cases e : i < n1
      · rw [catN_left e]; exact hlm1.out i e
      · rw [catN_right e]; exact hlm2.out _ (by omega)
    have hN : n1 + n2 ≤ 4194304 := by omega
    first
      | (have hfin := fin_set hP rfl hown5 hTT hw5 (by first | exact hwd.size | exact hwL.size | exact hwR.size) (.int .i64 f) (.int .i64 (b1 + b2)) (.slice A5 (n1 + n2) c5)
         have hZ6 := blk_far3 hP hZW (by omega) (.int .i64 f) (.int .i64 (b1 + b2)) (.slice A5 (n1 + n2) c5))
      | (have hfin : Blk (w5.alloc (.cells #[.int .i64 f, .int .i64 (b1 + b2), .slice A5 (n1 + n2) c5] 72)) w5.heap.size 72 #[.int .i64 f, .int .i64 (b1 + b2), .slice A5 (n1 + n2) c5] ∧ (w5.alloc (.cells #[.int .i64 f, .int .i64 (b1 + b2), .slice A5 (n1 + n2) c5] 72)).ownsRow w.heap.size 24 1 (.slice A5 (n1 + n2) c5) (n1 + n2) (hdJ (n1 + n2) (catN n1 bl1 bl2) (catN n1 len1 len2) (catN n1 cp1 cp2)) ∧ TreesN (w5.alloc (.cells #[.int .i64 f, .int .i64 (b1 + b2), .slice A5 (n1 + n2) c5] 72)) w.heap.size (n1 + n2) (catN n1 bl1 bl2) (catN n1 len1 len2) (catN n1 g1 g2) ∧ Below w.heap.size w (w5.alloc (.cells #[.int .i64 f, .int .i64 (b1 + b2), .slice A5 (n1 + n2) c5] 72)) := ⟨Blk.new w5 _ _, hown5.alloc _, hTT.al _, hw5.alloc hw5.size _⟩
         have hZ6 := hZW.alloc (.cells #[.int .i64 f, .int .i64 (b1 + b2), .slice A5 (n1 + n2) c5] 72))
    obtain ⟨hF, hO, hT6, hw6⟩ := hfin
    have d0 : _ = some (Value.int .i64 f) := hF.cell 0
    have d1 : _ = some (Value.int .i64 (b1 + b2)) := hF.cell 1
    have d2 : _ = some (Value.slice A5 (n1 + n2) c5) := hF.cell 2
    have hrJ := rdT_J hO hT6
    clear hTT hT1W hT2W hE1W hE2W hown5 hgrow hZW hw5 own1a own2a hT1a hT2a hE1a hE2a hZa hwa
    go_wp2_with fail
    refine (sEnsOk_any f (b1 + b2) A5 (n1 + n2) c5 _ _ _ hrJ hN hlJ).mono ?_
    rintro e w7 ⟨rfl, hb7⟩
    rw [HY.out]
    have hF7 := hF.on hb7
    have hO7 := own_below hO hb7
    have hT7 := hT6.below hb7
    have hZ7 := hZ6.on hb7
    have hw7 := hw6.trans (hb7.mono hw6.size)
    clear hF hO hT6 hZ6 hw6 hb7 hrJ d0 d1 d2
    have d0 : _ = some (Value.int .i64 f) := hF7.cell 0
    have d1 : _ = some (Value.int .i64 (b1 + b2)) := hF7.cell 1
    have d2 : _ = some (Value.slice A5 (n1 + n2) c5) := hF7.cell 2
    have z0 : w7.cell? ⟨w.heap.size + 1 + 1, 0, none⟩ = some (.int .i64 0) := hZ7.cell 0
    have z1 : w7.cell? ⟨w.heap.size + 1 + 1, 1, none⟩ = some (.int .i64 0) := hZ7.cell 1
    have z2 : w7.cell? ⟨w.heap.size + 1 + 1, 2, none⟩ = some (.slice none 0 0) := hZ7.cell 2
    have z3 := hZ7.frozen 0
    have z4 := hZ7.frozen 1
    have z5 := hZ7.frozen 2
    cases Y with
    | false =>
      have HEND := hid (fin_set hZ7 rfl hO7 hT7 hw7 (by omega) (.int .i64 0) (.int .i64 0) (.slice none 0 0))
      clear hF7 hO7 hT7 hZ7 hw7
      go_wp2_with fail
      have hend := HEND.out
      (try simp only [Exit.inBlock, Exit.then])
      refine bodyPost_ret (results_cell_tmpJ rfl _ _ (w.heap.size + 1 + 1) 72 #[.int .i64 0, .int .i64 0, .slice none 0 0] (0, 0) _ rfl hend.1 Try.underlying72 rfl size_ens) rfl ?_
      exact ⟨rfl, hend.2.2.2⟩
    | true =>
      have HEND := hid (fin_set hZ7 rfl hO7 hT7 hw7 (by omega) (.int .i64 f) (.int .i64 (b1 + b2)) (.slice A5 (n1 + n2) c5))
      clear hF7 hO7 hT7 hZ7 hw7
      go_wp2_with fail
      have hend := HEND.out
      (try simp only [Exit.inBlock, Exit.then])
      refine bodyPost_ret (results_cell_tmpJ rfl _ _ (w.heap.size + 1 + 1) 72 #[.int .i64 f, .int .i64 (b1 + b2), .slice A5 (n1 + n2) c5] (0, 0) _ rfl hend.1 Try.underlying72 rfl size_ens) rfl ?_
      exact ⟨A5, c5, _, _, rfl, hend.2.1, hend.2.2.1, hend.2.2.2⟩

/-! ### JoinD -/
/-- The headers of what reads as a list of lists. -/
theorem RdT.hdrsJ {w : World} {B n : Nat} {A : Option Addr} {len : Nat → Nat} {g : Nat → Nat → Nd} (h : RdT w B A n len g) :
    ∃ (As : Nat → Option Addr) (cs : Nat → Nat), (0 < n → ∃ b off, A = some ⟨b, off, none⟩ ∧ b < B ∧ ∀ i, i < n → w.cell? ⟨b, off + i, none⟩ = some (.slice (As i) (len i) (cs i))) ∧ ∀ i, i < n → RdN w B (As i) (len i) (g i) := by
  by_cases hn : 0 < n
  · obtain ⟨b, off, e, hb, hc⟩ := h hn
    have hq : ∀ i, ∃ p : Option Addr × Nat, i < n → (w.cell? ⟨b, off + i, none⟩ = some (.slice p.1 (len i) p.2) ∧ RdN w B p.1 (len i) (g i)) := fun i => by
      by_cases hi : i < n
      · obtain ⟨Ai, ci, h1, h2⟩ := hc i hi
        exact ⟨(Ai, ci), fun _ => ⟨h1, h2⟩⟩
      · exact ⟨(none, 0), fun h => absurd h hi⟩
    obtain ⟨F, hF⟩ := Classical.axiomOfChoice hq
    exact ⟨fun i => (F i).1, fun i => (F i).2, fun _ => ⟨b, off, e, hb, fun i hi => (hF i hi).1⟩, fun i hi => (hF i hi).2⟩
  · exact ⟨fun _ => none, fun _ => 0, fun h => absurd h hn, fun i hi => by omega⟩

def hdlJ (k : Nat) (As : Nat → Option Addr) (len cs : Nat → Nat) : List Value := (List.range k).map fun i => .slice (As i) (len i) (cs i)
theorem hdlJ_len (k : Nat) (As : Nat → Option Addr) (len cs : Nat → Nat) : (hdlJ k As len cs).length = k := by simp [hdlJ]
theorem hdlJ_at {k : Nat} {As : Nat → Option Addr} {len cs : Nat → Nat} {i : Nat} (hi : i < k) : (hdlJ k As len cs)[i]? = some (.slice (As i) (len i) (cs i)) := by
  unfold hdlJ
  rw [List.getElem?_map, List.getElem?_range hi]
  rfl
theorem hdlJ_one (k : Nat) (As : Nat → Option Addr) (len cs : Nat → Nat) : ∀ u ∈ hdlJ k As len cs, u.oneCell' = true := by
  intro u hu
  obtain ⟨i, _, rfl⟩ := List.mem_map.1 hu
  rfl
theorem hdlJ_cat {n1 n2 i : Nat} {A1 A2 : Nat → Option Addr} {len1 len2 c1 c2 : Nat → Nat} (hi : i < n1 + n2) : (hdlJ n1 A1 len1 c1 ++ hdlJ n2 A2 len2 c2)[i]? = some (.slice (catN n1 A1 A2 i) (catN n1 len1 len2 i) (catN n1 c1 c2 i)) := by
  by_cases h1 : i < n1
  · rw [List.getElem?_append_left (by rw [hdlJ_len]; exact h1), hdlJ_at h1, catN_left h1, catN_left h1, catN_left h1]
  · rw [List.getElem?_append_right (by rw [hdlJ_len]; omega), hdlJ_len, hdlJ_at (by omega), catN_right h1, catN_right h1, catN_right h1]
theorem src_hdl {w W : World} {A : Option Addr} {n : Nat} {As : Nat → Option Addr} {len cs : Nat → Nat} (h : 0 < n → ∃ b off, A = some ⟨b, off, none⟩ ∧ b < w.heap.size ∧ ∀ i, i < n → w.cell? ⟨b, off + i, none⟩ = some (.slice (As i) (len i) (cs i))) (hb : Below w.heap.size w W) : Src W A n (hdlJ n As len cs) :=
  ⟨hdlJ_len _ _ _ _, hdlJ_one _ _ _ _, fun h0 => by
    obtain ⟨b, off, e, hlt, hc⟩ := h h0
    refine ⟨b, off, e, Nat.lt_of_lt_of_le hlt hb.size, fun j u hu => ?_⟩
    have hj : j < n := by have := (List.getElem?_eq_some_iff.1 hu).1; rw [hdlJ_len] at this; exact this
    rw [hdlJ_at hj] at hu
    injection hu with hu
    subst hu
    exact (hb.cell (p := ⟨b, off + j, none⟩) hlt).trans (hc j hj)⟩

/-- An ensemble that is being joined: its cell bb, its trees behind block W4's. -/
def Joining (W4 : World) (bb : Nat) (f b : Int) (len : Nat → Nat) (g : Nat → Nat → Nd) (j : Nat) (wr : World) : Prop :=
  ∃ A c bl cp, Blk wr bb 72 #[.int .i64 f, .int .i64 b, .slice A j c] ∧ wr.ownsRow W4.heap.size 24 1 (.slice A j c) j (hdJ j bl len cp) ∧ TreesN wr W4.heap.size j bl len g ∧ W4.grownBy wr (some bb)
theorem joining_next {W4 wr w4 w5 : World} {bb j b4 c4 gg c cp5 : Nat} {A : Option Addr} {f b : Int} {bl cp len : Nat → Nat} {g : Nat → Nat → Nd}
    (_hE : Blk wr bb 72 #[.int .i64 f, .int .i64 b, .slice A j c]) (hbb : bb < W4.heap.size) (hT : TreesN wr W4.heap.size j bl len g) (hg : W4.grownBy wr (some bb))
    (hb4 : wr.drew.heap.size ≤ b4) (hr4 : RowN w4 32 b4 (len j) (g j)) (hbel : Below wr.drew.heap.size wr.drew w4)
    (hownr : w4.ownsRow W4.heap.size 24 1 (.slice A j c) j (hdJ j bl len cp)) (O : Obj) (hgrow : (w4.alloc O).grownBy w5 (Value.slice A j c).ownBlock)
    (hE5 : Blk w5 bb 72 #[.int .i64 f, .int .i64 b, .slice A j c])
    (hown5 : w5.ownsRow W4.heap.size 24 1 (.slice (some ⟨gg, 0, none⟩) (j + 1) cp5) (j + 1) (hdJ j bl len cp ++ [.slice (some ⟨b4, 0, none⟩) (len j) c4])) :
    Joining W4 bb f b len g (j + 1) (w5.setCell ⟨bb, 2, none⟩ (.slice (some ⟨gg, 0, none⟩) (j + 1) cp5)) := by
  have hsz : W4.heap.size ≤ wr.heap.size := hg.size
  have hsz4 : wr.heap.size ≤ w4.heap.size := hbel.size
  have hb4' : wr.heap.size ≤ b4 := hb4
  have hT4 : TreesN w4 W4.heap.size j bl len g := TreesN.below (w := wr.drew) hT hbel
  have hT5 := hT4.snoc (b := b4) (by omega) hr4 (fun i hi => Nat.ne_of_lt (Nat.lt_of_lt_of_le (hT i hi).2.1.lt hb4'))
  have hT6 := (hT5.al O).grownJ (hownr.alloc O) hgrow
  refine ⟨some ⟨gg, 0, none⟩, cp5, setN bl j b4, setN cp j c4, hE5.set_ 2 _, ?_, hT6.keep fun i hi => Below.heap_setCell _ _ _ _ ?_, ?_⟩
  · rw [hdJ_snoc]
    exact own_keepJ hown5 fun x hx _ _ => Below.heap_setCell _ _ _ x (by show x ≠ bb; omega)
  · have := (hT6 i hi).1
    show setN bl j b4 i ≠ bb
    omega
  · have hlt := own_ltJ hownr
    have h1 : W4.grownBy w4 (some bb) := ⟨hbel.os.trans hg.os, hbel.tape.trans hg.tape, hbel.output.trans hg.output, Nat.le_trans hsz hsz4, fun i hi hne => (hbel.block i (show i < wr.heap.size by omega)).trans (hg.block i hi hne)⟩
    have h2 := grown_own h1 O hgrow (fun k hk => (hlt k hk).1)
    exact ⟨h2.os, h2.tape, h2.output, by simpa [World.setCell] using h2.size, fun i hi hne => (Below.heap_setCell _ _ _ i (by show i ≠ bb; intro e; exact hne (by rw [e]))).trans (h2.block i hi hne)⟩

set_option maxRecDepth 100000 in
set_option maxHeartbeats 8000000 in
theorem iJoin_in (Y : Bool) (f b1 b2 : Int) (A1 A2 : Option Addr) (n1 n2 c1 c2 : Nat) (len1 len2 : Nat → Nat) (g1 g2 : Nat → Nat → Nd) (w : World) (h1 : RdT w w.heap.size A1 n1 len1 g1) (h2 : RdT w w.heap.size A2 n2 len2 g2)
    (hy1 : ensB f b1 n1 len1 g1 = true) (hy2 : ensB f b2 n2 len2 g2 = true) (hy : ensB f (b1 + b2) (n1 + n2) (catN n1 len1 len2) (catN n1 g1 g2) = Y) :
    Calls Try.prog 70 #[enV f b1 A1 n1 c1, enV f b2 A2 n2 c2] w (JoinPost Y w f (b1 + b2) (n1 + n2) (catN n1 len1 len2) (catN n1 g1 g2)) := by
  obtain ⟨i0, hi0, hz0, hz1, hz2⟩ := info_parts info_nodes
  obtain ⟨qf, qb, q12, qt⟩ := ensB_iff.1 hy1
  obtain ⟨_, qb2, q22, qt2⟩ := ensB_iff.1 hy2
  have hl1 : Hid (∀ i, i < n1 → 1 ≤ len1 i ∧ len1 i ≤ 15) := fun i hi => ((treeB_iff _ _ _).1 (qt i hi)).2.1
  have hl2 : Hid (∀ i, i < n2 → 1 ≤ len2 i ∧ len2 i ≤ 15) := fun i hi => ((treeB_iff _ _ _).1 (qt2 i hi)).2.1
  have HY1 := hid hy1
  have HY2 := hid hy2
  have HY := hid hy
  clear qt qt2 hy1 hy2 hy
  have hlm1 : Hid (∀ i, i < n1 → len1 i ≤ 4194304) := fun i hi => by have := hl1.out i hi; omega
  have hlm2 : Hid (∀ i, i < n2 → len2 i ≤ 4194304) := fun i hi => by have := hl2.out i hi; omega
  have hb0 := (((Below.refl w.heap.size w).alloc (Nat.le_refl _) (.cells #[.int .i64 f, .int .i64 b1, .slice A1 n1 c1] 72)).alloc (by simp) (.cells #[.int .i64 f, .int .i64 b2, .slice A2 n2 c2] 72)).alloc (by simp; omega) (.cells #[.int .i64 0, .int .i64 0, .slice none 0 0] 72)
  have hE1 := ((Blk.new w 72 #[.int .i64 f, .int .i64 b1, .slice A1 n1 c1]).alloc (.cells #[.int .i64 f, .int .i64 b2, .slice A2 n2 c2] 72)).alloc (.cells #[.int .i64 0, .int .i64 0, .slice none 0 0] 72)
  have hE2 := (Blk.new2 w (.cells #[.int .i64 f, .int .i64 b1, .slice A1 n1 c1] 72) 72 #[.int .i64 f, .int .i64 b2, .slice A2 n2 c2]).alloc (.cells #[.int .i64 0, .int .i64 0, .slice none 0 0] 72)
  have hZ := Blk.new3 w (.cells #[.int .i64 f, .int .i64 b1, .slice A1 n1 c1] 72) (.cells #[.int .i64 f, .int .i64 b2, .slice A2 n2 c2] 72) 72 #[.int .i64 0, .int .i64 0, .slice none 0 0]
  have hr1 := h1.to hb0 hb0.size
  have hr2 := h2.to hb0 hb0.size
  obtain ⟨W0, hW0⟩ : ∃ W0, ((w.alloc (.cells #[.int .i64 f, .int .i64 b1, .slice A1 n1 c1] 72)).alloc (.cells #[.int .i64 f, .int .i64 b2, .slice A2 n2 c2] 72)).alloc (.cells #[.int .i64 0, .int .i64 0, .slice none 0 0] 72) = W0 := ⟨_, rfl⟩
  rw [hW0] at hb0 hE1 hE2 hZ hr1 hr2
  have HW0 := hid hW0
  obtain ⟨As1, cs1, hh1, hq1⟩ := h1.hdrsJ
  obtain ⟨As2, cs2, hh2, hq2⟩ := h2.hdrsJ
  have HH1 := hid hh1
  have HH2 := hid hh2
  have HQ : Hid (∀ i, i < n1 + n2 → RdN w w.heap.size (catN n1 As1 As2 i) (catN n1 len1 len2 i) (catN n1 g1 g2 i)) := fun i hi => by
    by_cases e : i < n1
    · rw [catN_left e, catN_left e, catN_left e]; exact hq1 i e
    · rw [catN_right e, catN_right e, catN_right e]; exact hq2 _ (by omega)
  clear hh1 hh2 hq1 hq2
  have a0 : W0.cell? ⟨w.heap.size, 0, none⟩ = some (.int .i64 f) := hE1.cell 0
  have a1 : W0.cell? ⟨w.heap.size, 1, none⟩ = some (.int .i64 b1) := hE1.cell 1
  have a2 : W0.cell? ⟨w.heap.size, 2, none⟩ = some (.slice A1 n1 c1) := hE1.cell 2
  go_enter Try.func70, Try.ntmps70
  go_wp2_with fail
  refine (iEnsOk_any f b1 A1 n1 c1 len1 g1 _ hr1 (by omega) hlm1).mono ?_
  rintro e w1 ⟨rfl, hb1⟩
  rw [HY1.out]
  have hE1' := hE1.below hb1 hE1.lt
  have hE2' := hE2.below hb1 hE2.lt
  have hZ' := hZ.below hb1 hZ.lt
  have hr1' := hr1.to hb1 hb1.size
  have hr2' := hr2.to hb1 hb1.size
  have hw1 := hb0.trans (hb1.mono hb0.size)
  clear hb0 hb1 hE1 hE2 hZ hr1 hr2 hW0 a0 a1 a2
  have a0 : w1.cell? ⟨w.heap.size + 1, 0, none⟩ = some (.int .i64 f) := hE2'.cell 0
  have a1 : w1.cell? ⟨w.heap.size + 1, 1, none⟩ = some (.int .i64 b2) := hE2'.cell 1
  have a2 : w1.cell? ⟨w.heap.size + 1, 2, none⟩ = some (.slice A2 n2 c2) := hE2'.cell 2
  go_wp2_with fail
  refine (iEnsOk_any f b2 A2 n2 c2 len2 g2 _ hr2' (by omega) hlm2).mono ?_
  rintro e w2 ⟨rfl, hb2⟩
  rw [HY2.out]
  have hE1 := hE1'.below hb2 hE1'.lt
  have hE2 := hE2'.below hb2 hE2'.lt
  have hZ := hZ'.below hb2 hZ'.lt
  have hr1 := hr1'.to hb2 hb2.size
  have hr2 := hr2'.to hb2 hb2.size
  have hw2 := hw1.trans (hb2.mono hw1.size)
  clear hw1 hb2 hE1' hE2' hZ' hr1' hr2' a0 a1 a2
  have a0 : w2.cell? ⟨w.heap.size, 0, none⟩ = some (.int .i64 f) := hE1.cell 0
  have a1 : w2.cell? ⟨w.heap.size, 1, none⟩ = some (.int .i64 b1) := hE1.cell 1
  have a2 : w2.cell? ⟨w.heap.size, 2, none⟩ = some (.slice A1 n1 c1) := hE1.cell 2
  have e0 : w2.cell? ⟨w.heap.size + 1, 0, none⟩ = some (.int .i64 f) := hE2.cell 0
  have e1 : w2.cell? ⟨w.heap.size + 1, 1, none⟩ = some (.int .i64 b2) := hE2.cell 1
  have e2 : w2.cell? ⟨w.heap.size + 1, 2, none⟩ = some (.slice A2 n2 c2) := hE2.cell 2
  have hn1 : n1 ≤ 12 := q12
  have hn2 : n2 ≤ 12 := q22
  have hlJ : Hid (∀ i, i < n1 + n2 → 1 ≤ catN n1 len1 len2 i ∧ catN n1 len1 len2 i ≤ 15) := fun i hi => by
    by_cases e : i < n1
    · rw [catN_left e]; exact hl1.out i e
    · rw [catN_right e]; exact hl2.out _ (by omega)
  have hwrap : IntKind.i64.wrap (b1 + b2) = b1 + b2 := IntWalk.i64_in _ (by omega)
  have hb3 := ((Below.refl w2.heap.size w2).alloc (Nat.le_refl _) (.cells #[.int .i64 f, .int .i64 (b1 + b2), .slice none 0 0] 72)).alloc (by simp) (.cells #[.slice A1 n1 c1, .slice A2 n2 c2] 70)
  have hB3 := (Blk.new w2 72 #[.int .i64 f, .int .i64 (b1 + b2), .slice none 0 0]).alloc (.cells #[.slice A1 n1 c1, .slice A2 n2 c2] 70)
  have hP3 := Blk.new2 w2 (.cells #[.int .i64 f, .int .i64 (b1 + b2), .slice none 0 0] 72) 70 #[.slice A1 n1 c1, .slice A2 n2 c2]
  have hw3 := hw2.trans (hb3.mono hw2.size)
  have hZ3 := hZ.below hb3 hZ.lt
  have hzb : w.heap.size + 1 + 1 < w2.heap.size := hZ.lt
  have hs3 : w2.heap.size + 2 ≤ ((w2.alloc (.cells #[.int .i64 f, .int .i64 (b1 + b2), .slice none 0 0] 72)).alloc (.cells #[.slice A1 n1 c1, .slice A2 n2 c2] 70)).heap.size := by simp
  have hww := hw2.size
  obtain ⟨W3, hW3⟩ : ∃ W3, ((w2.alloc (.cells #[.int .i64 f, .int .i64 (b1 + b2), .slice none 0 0] 72)).alloc (.cells #[.slice A1 n1 c1, .slice A2 n2 c2] 70)) = W3 := ⟨_, rfl⟩
  rw [hW3] at hb3 hB3 hP3 hw3 hZ3 hs3
  have l1 : (w2.alloc (.cells #[.int .i64 f, .int .i64 (b1 + b2), .slice none 0 0] 72)).cell? ⟨w.heap.size, 2, none⟩ = some (.slice A1 n1 c1) := (hE1.alloc _).cell 2
  have l2 : (w2.alloc (.cells #[.int .i64 f, .int .i64 (b1 + b2), .slice none 0 0] 72)).cell? ⟨w.heap.size + 1, 2, none⟩ = some (.slice A2 n2 c2) := (hE2.alloc _).cell 2
  clear hb3 hE1 hE2 hZ hr1 hr2
  go_wp2_with fail
  clear l1 l2 a0 a1 a2 e0 e1 e2
  refine (concat_any (w2.heap.size + 1) A1 A2 n1 n2 c1 c2 _ _ W3 hP3 (src_hdl HH1.out hw3) (src_hdl HH2.out hw3) hn1 hn2).mono ?_
  rintro e W4 ⟨A', c', rfl, hownC, hb4⟩
  have hB4 := hB3.on hb4
  have hZ4 := hZ3.on hb4
  have hw4 := hw3.trans (hb4.mono hw3.size)
  have hs4 := hb4.size
  have HCR : Hid (0 < n1 + n2 → ∃ gg, A' = some ⟨gg, 0, none⟩ ∧ W3.heap.size ≤ gg ∧ gg < W4.heap.size ∧ ∀ i, i < n1 + n2 → W4.cell? ⟨gg, i, none⟩ = some (.slice (catN n1 As1 As2 i) (catN n1 len1 len2 i) (catN n1 cs1 cs2 i))) := fun h0 => by
    obtain ⟨gg, hA, h5, h6, _, hc⟩ := own_hdJ hownC h0
    exact ⟨gg, hA, h5, h6, fun i hi => hc i _ (hdlJ_cat hi)⟩
  obtain ⟨N, hN⟩ : ∃ N, n1 + n2 = N := ⟨_, rfl⟩
  have hN24 : N ≤ 24 := by omega
  rw [hN] at HCR HQ hlJ ⊢
  have hlmJ : Hid (∀ i, i < N → catN n1 len1 len2 i ≤ 4194304) := fun i hi => by have := hlJ.out i hi; omega
  obtain ⟨lJ, hlJe⟩ : ∃ l, catN n1 len1 len2 = l := ⟨_, rfl⟩
  obtain ⟨gJ, hgJe⟩ : ∃ l, catN n1 g1 g2 = l := ⟨_, rfl⟩
  have HYN : Hid (ensB f (b1 + b2) N lJ gJ = Y) := by rw [← hN, ← hlJe, ← hgJe]; exact HY.out
  rw [hlJe] at HCR HQ hlJ hlmJ
  rw [hgJe] at HQ
  have HNN := hid hN
  have HLE := hid hlJe
  have HGE := hid hgJe
  clear hownC hB3 hZ3 hw3 hb4 hP3 hlJe hgJe hN HH1 HH2 HY HY1 HY2
  have hbbl : w2.heap.size < W4.heap.size := hB4.lt
  have hJ0 : Hid (Joining W4 w2.heap.size f (b1 + b2) lJ gJ 0 W4) := ⟨none, 0, fun _ => 0, fun _ => 0, hB4, World.ownsRow_nil _ _ _ _, treesN_nil, World.grownBy.refl _ _⟩
  have HZ4 := hid hZ4
  have HW4 := hid hw4
  clear hB4 hZ4 hw4
  generalize hbq : w2.heap.size = bb at *
  clear hbq
  go_wp2_with fail
  go_loopw [40] (fun i wr => ∃ j : Nat, j ≤ N ∧ i = .int .i64 j ∧ Hid (Joining W4 bb f (b1 + b2) lJ gJ j wr)) (fun i _ => N - (intOf i).toNat)
  case atStart => exact ⟨0, Nat.zero_le _, rfl, hJ0⟩
  case round =>
    obtain ⟨j, hj, rfl, hJ⟩ := hrel
    obtain ⟨A, c, bl, cp, hE, hown, hT, hg⟩ := hJ.out
    by_cases hlt : j < N
    · obtain ⟨gg, rfl, hgg1, hgg2, hcc⟩ := HCR.out (by omega)
      have hcell : wr.cell? ⟨gg, j, none⟩ = some (.slice (catN n1 As1 As2 j) (lJ j) (catN n1 cs1 cs2 j)) := (World.cell?_of_block (hg.block gg hgg2 (by intro e; injection e with e; omega))).trans (hcc j hlt)
      have hRN : RdN wr w.heap.size (catN n1 As1 As2 j) (lJ j) (gJ j) := (HQ.out j hlt).keep fun p hp => (World.cell?_of_block (hg.block p.block (by omega) (by intro e; injection e with e; omega))).trans (HW4.out.cell hp)
      obtain ⟨q1, q15⟩ := hlJ.out j hlt
      have hjs : W4.heap.size ≤ wr.heap.size := hg.size
      obtain ⟨bj, oj, eA, hbj, hnd⟩ := id hRN (by omega)
      rw [eA] at hcell hRN
      clear hnd eA hcc
      have hRd : RdN wr.drew wr.drew.heap.size (some ⟨bj, oj, none⟩) (lJ j) (gJ j) := hRN.more (by show w.heap.size ≤ wr.heap.size; omega)
      generalize catN n1 cs1 cs2 j = cj at hcell
      have i1 : (j : Int) < (N : Int) := by omega
      have i2 : (0 : Int) ≤ (j : Int) := by omega
      have hownd : wr.drew.ownsRow W4.heap.size 24 1 (.slice A j c) j (hdJ j bl lJ cp) := hown
      have hebl : bb < wr.drew.heap.size := hE.lt
      have cE : wr.cell? ⟨bb, 2, none⟩ = some (.slice A j c) := hE.cell 2
      have HE := hid hE
      have HT := hid hT
      have HG := hid hg
      clear hT hg hown hJ hRN hJ0
      go_wp2_with fail
      go_region_law
        (first
          | (refine step_append_lies _ (by rfl) _ _ _ (by rfl) W4.heap.size 24 i0 _ 1 24 Try.underlying70 hi0 hz0 hz1 hz2 rfl (by omega) (.slice A j c) j (hdJ j bl lJ cp) (by rfl) (hownr.alloc _) ⟨w4.heap.size, 0, none⟩ 1 1 [.slice (some ⟨b4, 0, none⟩) (lJ j) c4] (by rfl) (by rfl) (World.news_of_block (cs := #[.slice (some ⟨b4, 0, none⟩) (lJ j) c4]) (t := 24) (fr := (0, 0)) (heap_alloc_new w4 _)) (by simp [Value.oneCell']) (by omega) (by unfold maxLen; omega) (by omega) (by simp; omega) (w4.heap.size + 1) (by simp) ?_; intro g5 cp5 w5 hown5 hgrow hat hlt5; have hE5 : Blk w5 bb 72 #[.int .i64 f, .int .i64 (b1 + b2), .slice A j c] := (hgrow.block bb (by simp; omega) (by intro e; have := own_ltJ hownr bb e.symm; omega)).trans (hE4.alloc _); have cE5 : w5.cell? ⟨bb, 2, none⟩ = some (.slice A j c) := hE5.cell 2; have fE5 : w5.frozen? ⟨bb, 2, none⟩ = false := hE5.frozen 2)
          | (go_simp; go_at_call 114; refine (clone_any bj oj (lJ j) cj (gJ j) wr.drew hRd q1 (by omega)).mono ?_; rintro e w4 ⟨b4, c4, rfl, hb4, hrow4, hbel4⟩; have hE4 : Blk w4 bb 72 #[.int .i64 f, .int .i64 (b1 + b2), .slice A j c] := (hbel4.block bb hebl).trans HE.out; have cE4 : w4.cell? ⟨bb, 2, none⟩ = some (.slice A j c) := hE4.cell 2; have cE4a : (w4.alloc (.cells #[.slice (some ⟨b4, 0, none⟩) (lJ j) c4] 24)).cell? ⟨bb, 2, none⟩ = some (.slice A j c) := (hE4.alloc _).cell 2; have hownr : w4.ownsRow W4.heap.size 24 1 (.slice A j c) j (hdJ j bl lJ cp) := own_below hownd hbel4; have hs4' : wr.heap.size ≤ w4.heap.size := hbel4.size))
      all_goals
        have hJn := hid (joining_next HE.out hbbl HT.out HG.out hb4 hrow4 hbel4 hownr _ hgrow hE5 hown5)
        go_wp2_with fail
        go_roundw
        case rel => exact ⟨j + 1, by omega, by go_num, hJn⟩
        case measure => simp [intOf]; omega
    · obtain rfl : j = N := by omega
      have hrJ := rdT_J hown hT
      have d0 : wr.cell? ⟨bb, 0, none⟩ = some (.int .i64 f) := hE.cell 0
      have d1 : wr.cell? ⟨bb, 1, none⟩ = some (.int .i64 (b1 + b2)) := hE.cell 1
      have d2 : wr.cell? ⟨bb, 2, none⟩ = some (.slice A j c) := hE.cell 2
      have hZr : Blk wr (w.heap.size + 1 + 1) 72 #[.int .i64 0, .int .i64 0, .slice none 0 0] := (hg.block _ HZ4.out.lt (by intro e; injection e with e; omega)).trans HZ4.out
      have hwr : Below w.heap.size w wr := ⟨hg.os.trans HW4.out.os, hg.tape.trans HW4.out.tape, hg.output.trans HW4.out.output, Nat.le_trans HW4.out.size hg.size, fun i hi => (hg.block i (by have := HW4.out.size; omega) (by intro e; injection e with e; omega)).trans (HW4.out.block i hi)⟩
      have hO := own_lessJ hown HW4.out.size
      have hT6 := hT.less HW4.out.size
      clear hJ hown hT hg hJ0
      go_wp2_with fail
      refine (iEnsOk_any f (b1 + b2) A j c _ _ _ hrJ (by omega) hlmJ).mono ?_
      rintro e w7 ⟨rfl, hb7⟩
      rw [HYN.out]
      have hF7 := hE.on hb7
      have hO7 := own_below hO hb7
      have hT7 := hT6.below hb7
      have hZ7 := hZr.on hb7
      have hw7 := hwr.trans (hb7.mono hwr.size)
      clear hE hO hT6 hZr hwr hb7 hrJ d0 d1 d2
      have d0 : w7.cell? ⟨bb, 0, none⟩ = some (.int .i64 f) := hF7.cell 0
      have d1 : w7.cell? ⟨bb, 1, none⟩ = some (.int .i64 (b1 + b2)) := hF7.cell 1
      have d2 : w7.cell? ⟨bb, 2, none⟩ = some (.slice A j c) := hF7.cell 2
      have z0 : w7.cell? ⟨w.heap.size + 1 + 1, 0, none⟩ = some (.int .i64 0) := hZ7.cell 0
      have z1 : w7.cell? ⟨w.heap.size + 1 + 1, 1, none⟩ = some (.int .i64 0) := hZ7.cell 1
      have z2 : w7.cell? ⟨w.heap.size + 1 + 1, 2, none⟩ = some (.slice none 0 0) := hZ7.cell 2
      have z3 := hZ7.frozen 0
      have z4 := hZ7.frozen 1
      have z5 := hZ7.frozen 2
      cases Y with
      | false =>
        have HEND := hid (fin_set hZ7 rfl hO7 hT7 hw7 (by omega) (.int .i64 0) (.int .i64 0) (.slice none 0 0))
        clear hF7 hO7 hT7 hZ7 hw7
        go_wp2_with fail
        have hend := HEND.out
        (try simp only [Exit.inBlock, Exit.then])
        refine bodyPost_ret (results_cell_tmpJ rfl _ _ (w.heap.size + 1 + 1) 72 #[.int .i64 0, .int .i64 0, .slice none 0 0] (0, 0) _ rfl hend.1 Try.underlying72 rfl size_ens) rfl ?_
        exact ⟨rfl, hend.2.2.2⟩
      | true =>
        have HEND := hid (fin_set hZ7 rfl hO7 hT7 hw7 (by omega) (.int .i64 f) (.int .i64 (b1 + b2)) (.slice A j c))
        clear hF7 hO7 hT7 hZ7 hw7
        go_wp2_with fail
        have hend := HEND.out
        (try simp only [Exit.inBlock, Exit.then])
        refine bodyPost_ret (results_cell_tmpJ rfl _ _ (w.heap.size + 1 + 1) 72 #[.int .i64 f, .int .i64 (b1 + b2), .slice A j c] (0, 0) _ rfl hend.1 Try.underlying72 rfl size_ens) rfl ?_
        show Joined _ _ _ _ _ _ _ _
        rw [HNN.out, HLE.out, HGE.out]
        exact ⟨A, c, _, _, rfl, hend.2.1, hend.2.2.1, hend.2.2.2⟩

/-! ### JoinE -/
/-- Where there is nothing that is joined. -/
def NoJoin (w : World) (e : Ending) (w' : World) : Prop := e = .returned (.tuple #[enV 0 0 none 0 0, .bool false]) ∧ Below w.heap.size w w'

set_option maxHeartbeats 1000000 in
theorem sJoin_no1 (f1 f2 b1 b2 : Int) (A1 A2 : Option Addr) (n1 n2 c1 c2 : Nat) (len1 len2 : Nat → Nat) (g1 g2 : Nat → Nat → Nd) (w : World) (h1 : RdT w w.heap.size A1 n1 len1 g1) (h2 : RdT w w.heap.size A2 n2 len2 g2) (hn1 : n1 ≤ 4194304) (_hn2 : n2 ≤ 4194304) (hl1 : Hid (∀ i, i < n1 → len1 i ≤ 4194304)) (_hl2 : Hid (∀ i, i < n2 → len2 i ≤ 4194304)) (hy1 : ensB f1 b1 n1 len1 g1 = false) :
    Calls Try.prog 69 #[enV f1 b1 A1 n1 c1, enV f2 b2 A2 n2 c2] w (NoJoin w) := by
  have HY1 := hid hy1
  clear hy1
  have hb0 := (((Below.refl w.heap.size w).alloc (Nat.le_refl _) (.cells #[.int .i64 f1, .int .i64 b1, .slice A1 n1 c1] 72)).alloc (by simp) (.cells #[.int .i64 f2, .int .i64 b2, .slice A2 n2 c2] 72)).alloc (by simp; omega) (.cells #[.int .i64 0, .int .i64 0, .slice none 0 0] 72)
  have hE1 := ((Blk.new w 72 #[.int .i64 f1, .int .i64 b1, .slice A1 n1 c1]).alloc (.cells #[.int .i64 f2, .int .i64 b2, .slice A2 n2 c2] 72)).alloc (.cells #[.int .i64 0, .int .i64 0, .slice none 0 0] 72)
  have hE2 := (Blk.new2 w (.cells #[.int .i64 f1, .int .i64 b1, .slice A1 n1 c1] 72) 72 #[.int .i64 f2, .int .i64 b2, .slice A2 n2 c2]).alloc (.cells #[.int .i64 0, .int .i64 0, .slice none 0 0] 72)
  have hZ := Blk.new3 w (.cells #[.int .i64 f1, .int .i64 b1, .slice A1 n1 c1] 72) (.cells #[.int .i64 f2, .int .i64 b2, .slice A2 n2 c2] 72) 72 #[.int .i64 0, .int .i64 0, .slice none 0 0]
  have hr1 := h1.to hb0 hb0.size
  have hr2 := h2.to hb0 hb0.size
  clear h1 h2
  obtain ⟨W0, hW0⟩ : ∃ W0, ((w.alloc (.cells #[.int .i64 f1, .int .i64 b1, .slice A1 n1 c1] 72)).alloc (.cells #[.int .i64 f2, .int .i64 b2, .slice A2 n2 c2] 72)).alloc (.cells #[.int .i64 0, .int .i64 0, .slice none 0 0] 72) = W0 := ⟨_, rfl⟩
  rw [hW0] at hb0 hE1 hE2 hZ hr1 hr2
  have a0 : W0.cell? ⟨w.heap.size, 0, none⟩ = some (.int .i64 f1) := hE1.cell 0
  have a1 : W0.cell? ⟨w.heap.size, 1, none⟩ = some (.int .i64 b1) := hE1.cell 1
  have a2 : W0.cell? ⟨w.heap.size, 2, none⟩ = some (.slice A1 n1 c1) := hE1.cell 2
  go_enter Try.func69, Try.ntmps69
  go_wp2_with fail
  refine (sEnsOk_any f1 b1 A1 n1 c1 len1 g1 _ hr1 hn1 hl1).mono ?_
  rintro e w1 ⟨rfl, hb1⟩
  rw [HY1.out]
  have hE1' := hE1.on hb1
  have hE2' := hE2.on hb1
  have hZ' := hZ.on hb1
  have hr2' := hr2.to hb1 hb1.size
  have hw1 := hb0.trans (hb1.mono hb0.size)
  clear hb0 hb1 hE1 hE2 hZ hr1 hr2 hW0 a0 a1 a2
  have p0 : w1.cell? ⟨w.heap.size, 0, none⟩ = some (.int .i64 f1) := hE1'.cell 0
  have p1 : w1.cell? ⟨w.heap.size + 1, 0, none⟩ = some (.int .i64 f2) := hE2'.cell 0
  have z0 : w1.cell? ⟨w.heap.size + 1 + 1, 0, none⟩ = some (.int .i64 0) := hZ'.cell 0
  have y0 := hZ'.frozen 0
  have z1 : w1.cell? ⟨w.heap.size + 1 + 1, 1, none⟩ = some (.int .i64 0) := hZ'.cell 1
  have y1 := hZ'.frozen 1
  have z2 : w1.cell? ⟨w.heap.size + 1 + 1, 2, none⟩ = some (.slice none 0 0) := hZ'.cell 2
  have y2 := hZ'.frozen 2
  have hend := fin_set (A := none) (m := 0) (c := 0) (xs := []) (n := 0) (bl := fun _ => 0) (len := fun _ => 0) (g := fun _ _ => ⟨0, 0, 0, 0, false, 0⟩) hZ' rfl (World.ownsRow_nil _ w.heap.size _ _) treesN_nil hw1 (by omega) (.int .i64 0) (.int .i64 0) (.slice none 0 0)
  have HEND := hid hend
  clear hend hE1' hE2' hZ' hw1
  go_wp2_with fail
  have hend := HEND.out
  (try simp only [Exit.inBlock, Exit.then])
  refine bodyPost_ret (results_cell_tmpJ rfl _ _ (w.heap.size + 1 + 1) 72 #[.int .i64 0, .int .i64 0, .slice none 0 0] (0, 0) _ rfl hend.1 Try.underlying72 rfl size_ens) rfl ?_
  exact ⟨rfl, hend.2.2.2⟩
set_option maxHeartbeats 1000000 in
theorem sJoin_no2 (f1 f2 b1 b2 : Int) (A1 A2 : Option Addr) (n1 n2 c1 c2 : Nat) (len1 len2 : Nat → Nat) (g1 g2 : Nat → Nat → Nd) (w : World) (h1 : RdT w w.heap.size A1 n1 len1 g1) (h2 : RdT w w.heap.size A2 n2 len2 g2) (hn1 : n1 ≤ 4194304) (hn2 : n2 ≤ 4194304) (hl1 : Hid (∀ i, i < n1 → len1 i ≤ 4194304)) (hl2 : Hid (∀ i, i < n2 → len2 i ≤ 4194304)) (hy1 : ensB f1 b1 n1 len1 g1 = true) (hy2 : ensB f2 b2 n2 len2 g2 = false) :
    Calls Try.prog 69 #[enV f1 b1 A1 n1 c1, enV f2 b2 A2 n2 c2] w (NoJoin w) := by
  have HY1 := hid hy1
  clear hy1
  have HY2 := hid hy2
  clear hy2
  have hb0 := (((Below.refl w.heap.size w).alloc (Nat.le_refl _) (.cells #[.int .i64 f1, .int .i64 b1, .slice A1 n1 c1] 72)).alloc (by simp) (.cells #[.int .i64 f2, .int .i64 b2, .slice A2 n2 c2] 72)).alloc (by simp; omega) (.cells #[.int .i64 0, .int .i64 0, .slice none 0 0] 72)
  have hE1 := ((Blk.new w 72 #[.int .i64 f1, .int .i64 b1, .slice A1 n1 c1]).alloc (.cells #[.int .i64 f2, .int .i64 b2, .slice A2 n2 c2] 72)).alloc (.cells #[.int .i64 0, .int .i64 0, .slice none 0 0] 72)
  have hE2 := (Blk.new2 w (.cells #[.int .i64 f1, .int .i64 b1, .slice A1 n1 c1] 72) 72 #[.int .i64 f2, .int .i64 b2, .slice A2 n2 c2]).alloc (.cells #[.int .i64 0, .int .i64 0, .slice none 0 0] 72)
  have hZ := Blk.new3 w (.cells #[.int .i64 f1, .int .i64 b1, .slice A1 n1 c1] 72) (.cells #[.int .i64 f2, .int .i64 b2, .slice A2 n2 c2] 72) 72 #[.int .i64 0, .int .i64 0, .slice none 0 0]
  have hr1 := h1.to hb0 hb0.size
  have hr2 := h2.to hb0 hb0.size
  clear h1 h2
  obtain ⟨W0, hW0⟩ : ∃ W0, ((w.alloc (.cells #[.int .i64 f1, .int .i64 b1, .slice A1 n1 c1] 72)).alloc (.cells #[.int .i64 f2, .int .i64 b2, .slice A2 n2 c2] 72)).alloc (.cells #[.int .i64 0, .int .i64 0, .slice none 0 0] 72) = W0 := ⟨_, rfl⟩
  rw [hW0] at hb0 hE1 hE2 hZ hr1 hr2
  have a0 : W0.cell? ⟨w.heap.size, 0, none⟩ = some (.int .i64 f1) := hE1.cell 0
  have a1 : W0.cell? ⟨w.heap.size, 1, none⟩ = some (.int .i64 b1) := hE1.cell 1
  have a2 : W0.cell? ⟨w.heap.size, 2, none⟩ = some (.slice A1 n1 c1) := hE1.cell 2
  go_enter Try.func69, Try.ntmps69
  go_wp2_with fail
  refine (sEnsOk_any f1 b1 A1 n1 c1 len1 g1 _ hr1 hn1 hl1).mono ?_
  rintro e w1 ⟨rfl, hb1⟩
  rw [HY1.out]
  have hE1' := hE1.on hb1
  have hE2' := hE2.on hb1
  have hZ' := hZ.on hb1
  have hr2' := hr2.to hb1 hb1.size
  have hw1 := hb0.trans (hb1.mono hb0.size)
  clear hb0 hb1 hE1 hE2 hZ hr1 hr2 hW0 a0 a1 a2
  have a0 : w1.cell? ⟨w.heap.size + 1, 0, none⟩ = some (.int .i64 f2) := hE2'.cell 0
  have a1 : w1.cell? ⟨w.heap.size + 1, 1, none⟩ = some (.int .i64 b2) := hE2'.cell 1
  have a2 : w1.cell? ⟨w.heap.size + 1, 2, none⟩ = some (.slice A2 n2 c2) := hE2'.cell 2
  go_wp2_with fail
  refine (sEnsOk_any f2 b2 A2 n2 c2 len2 g2 _ hr2' hn2 hl2).mono ?_
  rintro e w2 ⟨rfl, hb2⟩
  rw [HY2.out]
  have hE1 := hE1'.on hb2
  have hE2 := hE2'.on hb2
  have hZ := hZ'.on hb2
  have hw2 := hw1.trans (hb2.mono hw1.size)
  clear hw1 hb2 hE1' hE2' hZ' hr2' a0 a1 a2
  have p0 : w2.cell? ⟨w.heap.size, 0, none⟩ = some (.int .i64 f1) := hE1.cell 0
  have p1 : w2.cell? ⟨w.heap.size + 1, 0, none⟩ = some (.int .i64 f2) := hE2.cell 0
  have z0 : w2.cell? ⟨w.heap.size + 1 + 1, 0, none⟩ = some (.int .i64 0) := hZ.cell 0
  have y0 := hZ.frozen 0
  have z1 : w2.cell? ⟨w.heap.size + 1 + 1, 1, none⟩ = some (.int .i64 0) := hZ.cell 1
  have y1 := hZ.frozen 1
  have z2 : w2.cell? ⟨w.heap.size + 1 + 1, 2, none⟩ = some (.slice none 0 0) := hZ.cell 2
  have y2 := hZ.frozen 2
  have hend := fin_set (A := none) (m := 0) (c := 0) (xs := []) (n := 0) (bl := fun _ => 0) (len := fun _ => 0) (g := fun _ _ => ⟨0, 0, 0, 0, false, 0⟩) hZ rfl (World.ownsRow_nil _ w.heap.size _ _) treesN_nil hw2 (by omega) (.int .i64 0) (.int .i64 0) (.slice none 0 0)
  have HEND := hid hend
  clear hend hE1 hE2 hZ hw2
  go_wp2_with fail
  have hend := HEND.out
  (try simp only [Exit.inBlock, Exit.then])
  refine bodyPost_ret (results_cell_tmpJ rfl _ _ (w.heap.size + 1 + 1) 72 #[.int .i64 0, .int .i64 0, .slice none 0 0] (0, 0) _ rfl hend.1 Try.underlying72 rfl size_ens) rfl ?_
  exact ⟨rfl, hend.2.2.2⟩
set_option maxHeartbeats 1000000 in
theorem sJoin_no3 (f1 f2 b1 b2 : Int) (A1 A2 : Option Addr) (n1 n2 c1 c2 : Nat) (len1 len2 : Nat → Nat) (g1 g2 : Nat → Nat → Nd) (w : World) (h1 : RdT w w.heap.size A1 n1 len1 g1) (h2 : RdT w w.heap.size A2 n2 len2 g2) (hn1 : n1 ≤ 4194304) (hn2 : n2 ≤ 4194304) (hl1 : Hid (∀ i, i < n1 → len1 i ≤ 4194304)) (hl2 : Hid (∀ i, i < n2 → len2 i ≤ 4194304)) (hy1 : ensB f1 b1 n1 len1 g1 = true) (hy2 : ensB f2 b2 n2 len2 g2 = true) (hf : ¬ f1 = f2) :
    Calls Try.prog 69 #[enV f1 b1 A1 n1 c1, enV f2 b2 A2 n2 c2] w (NoJoin w) := by
  have HY1 := hid hy1
  clear hy1
  have HY2 := hid hy2
  clear hy2
  have hfe : (f1 == f2) = false := by simpa using hf
  have hfn : (f1 != f2) = true := by simp [hf]
  clear hf
  have hb0 := (((Below.refl w.heap.size w).alloc (Nat.le_refl _) (.cells #[.int .i64 f1, .int .i64 b1, .slice A1 n1 c1] 72)).alloc (by simp) (.cells #[.int .i64 f2, .int .i64 b2, .slice A2 n2 c2] 72)).alloc (by simp; omega) (.cells #[.int .i64 0, .int .i64 0, .slice none 0 0] 72)
  have hE1 := ((Blk.new w 72 #[.int .i64 f1, .int .i64 b1, .slice A1 n1 c1]).alloc (.cells #[.int .i64 f2, .int .i64 b2, .slice A2 n2 c2] 72)).alloc (.cells #[.int .i64 0, .int .i64 0, .slice none 0 0] 72)
  have hE2 := (Blk.new2 w (.cells #[.int .i64 f1, .int .i64 b1, .slice A1 n1 c1] 72) 72 #[.int .i64 f2, .int .i64 b2, .slice A2 n2 c2]).alloc (.cells #[.int .i64 0, .int .i64 0, .slice none 0 0] 72)
  have hZ := Blk.new3 w (.cells #[.int .i64 f1, .int .i64 b1, .slice A1 n1 c1] 72) (.cells #[.int .i64 f2, .int .i64 b2, .slice A2 n2 c2] 72) 72 #[.int .i64 0, .int .i64 0, .slice none 0 0]
  have hr1 := h1.to hb0 hb0.size
  have hr2 := h2.to hb0 hb0.size
  clear h1 h2
  obtain ⟨W0, hW0⟩ : ∃ W0, ((w.alloc (.cells #[.int .i64 f1, .int .i64 b1, .slice A1 n1 c1] 72)).alloc (.cells #[.int .i64 f2, .int .i64 b2, .slice A2 n2 c2] 72)).alloc (.cells #[.int .i64 0, .int .i64 0, .slice none 0 0] 72) = W0 := ⟨_, rfl⟩
  rw [hW0] at hb0 hE1 hE2 hZ hr1 hr2
  have a0 : W0.cell? ⟨w.heap.size, 0, none⟩ = some (.int .i64 f1) := hE1.cell 0
  have a1 : W0.cell? ⟨w.heap.size, 1, none⟩ = some (.int .i64 b1) := hE1.cell 1
  have a2 : W0.cell? ⟨w.heap.size, 2, none⟩ = some (.slice A1 n1 c1) := hE1.cell 2
  go_enter Try.func69, Try.ntmps69
  go_wp2_with fail
  refine (sEnsOk_any f1 b1 A1 n1 c1 len1 g1 _ hr1 hn1 hl1).mono ?_
  rintro e w1 ⟨rfl, hb1⟩
  rw [HY1.out]
  have hE1' := hE1.on hb1
  have hE2' := hE2.on hb1
  have hZ' := hZ.on hb1
  have hr2' := hr2.to hb1 hb1.size
  have hw1 := hb0.trans (hb1.mono hb0.size)
  clear hb0 hb1 hE1 hE2 hZ hr1 hr2 hW0 a0 a1 a2
  have a0 : w1.cell? ⟨w.heap.size + 1, 0, none⟩ = some (.int .i64 f2) := hE2'.cell 0
  have a1 : w1.cell? ⟨w.heap.size + 1, 1, none⟩ = some (.int .i64 b2) := hE2'.cell 1
  have a2 : w1.cell? ⟨w.heap.size + 1, 2, none⟩ = some (.slice A2 n2 c2) := hE2'.cell 2
  go_wp2_with fail
  refine (sEnsOk_any f2 b2 A2 n2 c2 len2 g2 _ hr2' hn2 hl2).mono ?_
  rintro e w2 ⟨rfl, hb2⟩
  rw [HY2.out]
  have hE1 := hE1'.on hb2
  have hE2 := hE2'.on hb2
  have hZ := hZ'.on hb2
  have hw2 := hw1.trans (hb2.mono hw1.size)
  clear hw1 hb2 hE1' hE2' hZ' hr2' a0 a1 a2
  have p0 : w2.cell? ⟨w.heap.size, 0, none⟩ = some (.int .i64 f1) := hE1.cell 0
  have p1 : w2.cell? ⟨w.heap.size + 1, 0, none⟩ = some (.int .i64 f2) := hE2.cell 0
  have z0 : w2.cell? ⟨w.heap.size + 1 + 1, 0, none⟩ = some (.int .i64 0) := hZ.cell 0
  have y0 := hZ.frozen 0
  have z1 : w2.cell? ⟨w.heap.size + 1 + 1, 1, none⟩ = some (.int .i64 0) := hZ.cell 1
  have y1 := hZ.frozen 1
  have z2 : w2.cell? ⟨w.heap.size + 1 + 1, 2, none⟩ = some (.slice none 0 0) := hZ.cell 2
  have y2 := hZ.frozen 2
  have hend := fin_set (A := none) (m := 0) (c := 0) (xs := []) (n := 0) (bl := fun _ => 0) (len := fun _ => 0) (g := fun _ _ => ⟨0, 0, 0, 0, false, 0⟩) hZ rfl (World.ownsRow_nil _ w.heap.size _ _) treesN_nil hw2 (by omega) (.int .i64 0) (.int .i64 0) (.slice none 0 0)
  have HEND := hid hend
  clear hend hE1 hE2 hZ hw2
  go_wp2_with fail
  have hend := HEND.out
  (try simp only [Exit.inBlock, Exit.then])
  refine bodyPost_ret (results_cell_tmpJ rfl _ _ (w.heap.size + 1 + 1) 72 #[.int .i64 0, .int .i64 0, .slice none 0 0] (0, 0) _ rfl hend.1 Try.underlying72 rfl size_ens) rfl ?_
  exact ⟨rfl, hend.2.2.2⟩
set_option maxHeartbeats 1000000 in
theorem iJoin_no1 (f1 f2 b1 b2 : Int) (A1 A2 : Option Addr) (n1 n2 c1 c2 : Nat) (len1 len2 : Nat → Nat) (g1 g2 : Nat → Nat → Nd) (w : World) (h1 : RdT w w.heap.size A1 n1 len1 g1) (h2 : RdT w w.heap.size A2 n2 len2 g2) (hn1 : n1 ≤ 4194304) (_hn2 : n2 ≤ 4194304) (hl1 : Hid (∀ i, i < n1 → len1 i ≤ 4194304)) (_hl2 : Hid (∀ i, i < n2 → len2 i ≤ 4194304)) (hy1 : ensB f1 b1 n1 len1 g1 = false) :
    Calls Try.prog 70 #[enV f1 b1 A1 n1 c1, enV f2 b2 A2 n2 c2] w (NoJoin w) := by
  have HY1 := hid hy1
  clear hy1
  have hb0 := (((Below.refl w.heap.size w).alloc (Nat.le_refl _) (.cells #[.int .i64 f1, .int .i64 b1, .slice A1 n1 c1] 72)).alloc (by simp) (.cells #[.int .i64 f2, .int .i64 b2, .slice A2 n2 c2] 72)).alloc (by simp; omega) (.cells #[.int .i64 0, .int .i64 0, .slice none 0 0] 72)
  have hE1 := ((Blk.new w 72 #[.int .i64 f1, .int .i64 b1, .slice A1 n1 c1]).alloc (.cells #[.int .i64 f2, .int .i64 b2, .slice A2 n2 c2] 72)).alloc (.cells #[.int .i64 0, .int .i64 0, .slice none 0 0] 72)
  have hE2 := (Blk.new2 w (.cells #[.int .i64 f1, .int .i64 b1, .slice A1 n1 c1] 72) 72 #[.int .i64 f2, .int .i64 b2, .slice A2 n2 c2]).alloc (.cells #[.int .i64 0, .int .i64 0, .slice none 0 0] 72)
  have hZ := Blk.new3 w (.cells #[.int .i64 f1, .int .i64 b1, .slice A1 n1 c1] 72) (.cells #[.int .i64 f2, .int .i64 b2, .slice A2 n2 c2] 72) 72 #[.int .i64 0, .int .i64 0, .slice none 0 0]
  have hr1 := h1.to hb0 hb0.size
  have hr2 := h2.to hb0 hb0.size
  clear h1 h2
  obtain ⟨W0, hW0⟩ : ∃ W0, ((w.alloc (.cells #[.int .i64 f1, .int .i64 b1, .slice A1 n1 c1] 72)).alloc (.cells #[.int .i64 f2, .int .i64 b2, .slice A2 n2 c2] 72)).alloc (.cells #[.int .i64 0, .int .i64 0, .slice none 0 0] 72) = W0 := ⟨_, rfl⟩
  rw [hW0] at hb0 hE1 hE2 hZ hr1 hr2
  have a0 : W0.cell? ⟨w.heap.size, 0, none⟩ = some (.int .i64 f1) := hE1.cell 0
  have a1 : W0.cell? ⟨w.heap.size, 1, none⟩ = some (.int .i64 b1) := hE1.cell 1
  have a2 : W0.cell? ⟨w.heap.size, 2, none⟩ = some (.slice A1 n1 c1) := hE1.cell 2
  go_enter Try.func70, Try.ntmps70
  go_wp2_with fail
  refine (iEnsOk_any f1 b1 A1 n1 c1 len1 g1 _ hr1 hn1 hl1).mono ?_
  rintro e w1 ⟨rfl, hb1⟩
  rw [HY1.out]
  have hE1' := hE1.on hb1
  have hE2' := hE2.on hb1
  have hZ' := hZ.on hb1
  have hr2' := hr2.to hb1 hb1.size
  have hw1 := hb0.trans (hb1.mono hb0.size)
  clear hb0 hb1 hE1 hE2 hZ hr1 hr2 hW0 a0 a1 a2
  have p0 : w1.cell? ⟨w.heap.size, 0, none⟩ = some (.int .i64 f1) := hE1'.cell 0
  have p1 : w1.cell? ⟨w.heap.size + 1, 0, none⟩ = some (.int .i64 f2) := hE2'.cell 0
  have z0 : w1.cell? ⟨w.heap.size + 1 + 1, 0, none⟩ = some (.int .i64 0) := hZ'.cell 0
  have y0 := hZ'.frozen 0
  have z1 : w1.cell? ⟨w.heap.size + 1 + 1, 1, none⟩ = some (.int .i64 0) := hZ'.cell 1
  have y1 := hZ'.frozen 1
  have z2 : w1.cell? ⟨w.heap.size + 1 + 1, 2, none⟩ = some (.slice none 0 0) := hZ'.cell 2
  have y2 := hZ'.frozen 2
  have hend := fin_set (A := none) (m := 0) (c := 0) (xs := []) (n := 0) (bl := fun _ => 0) (len := fun _ => 0) (g := fun _ _ => ⟨0, 0, 0, 0, false, 0⟩) hZ' rfl (World.ownsRow_nil _ w.heap.size _ _) treesN_nil hw1 (by omega) (.int .i64 0) (.int .i64 0) (.slice none 0 0)
  have HEND := hid hend
  clear hend hE1' hE2' hZ' hw1
  go_wp2_with fail
  have hend := HEND.out
  (try simp only [Exit.inBlock, Exit.then])
  refine bodyPost_ret (results_cell_tmpJ rfl _ _ (w.heap.size + 1 + 1) 72 #[.int .i64 0, .int .i64 0, .slice none 0 0] (0, 0) _ rfl hend.1 Try.underlying72 rfl size_ens) rfl ?_
  exact ⟨rfl, hend.2.2.2⟩
set_option maxHeartbeats 1000000 in
theorem iJoin_no2 (f1 f2 b1 b2 : Int) (A1 A2 : Option Addr) (n1 n2 c1 c2 : Nat) (len1 len2 : Nat → Nat) (g1 g2 : Nat → Nat → Nd) (w : World) (h1 : RdT w w.heap.size A1 n1 len1 g1) (h2 : RdT w w.heap.size A2 n2 len2 g2) (hn1 : n1 ≤ 4194304) (hn2 : n2 ≤ 4194304) (hl1 : Hid (∀ i, i < n1 → len1 i ≤ 4194304)) (hl2 : Hid (∀ i, i < n2 → len2 i ≤ 4194304)) (hy1 : ensB f1 b1 n1 len1 g1 = true) (hy2 : ensB f2 b2 n2 len2 g2 = false) :
    Calls Try.prog 70 #[enV f1 b1 A1 n1 c1, enV f2 b2 A2 n2 c2] w (NoJoin w) := by
  have HY1 := hid hy1
  clear hy1
  have HY2 := hid hy2
  clear hy2
  have hb0 := (((Below.refl w.heap.size w).alloc (Nat.le_refl _) (.cells #[.int .i64 f1, .int .i64 b1, .slice A1 n1 c1] 72)).alloc (by simp) (.cells #[.int .i64 f2, .int .i64 b2, .slice A2 n2 c2] 72)).alloc (by simp; omega) (.cells #[.int .i64 0, .int .i64 0, .slice none 0 0] 72)
  have hE1 := ((Blk.new w 72 #[.int .i64 f1, .int .i64 b1, .slice A1 n1 c1]).alloc (.cells #[.int .i64 f2, .int .i64 b2, .slice A2 n2 c2] 72)).alloc (.cells #[.int .i64 0, .int .i64 0, .slice none 0 0] 72)
  have hE2 := (Blk.new2 w (.cells #[.int .i64 f1, .int .i64 b1, .slice A1 n1 c1] 72) 72 #[.int .i64 f2, .int .i64 b2, .slice A2 n2 c2]).alloc (.cells #[.int .i64 0, .int .i64 0, .slice none 0 0] 72)
  have hZ := Blk.new3 w (.cells #[.int .i64 f1, .int .i64 b1, .slice A1 n1 c1] 72) (.cells #[.int .i64 f2, .int .i64 b2, .slice A2 n2 c2] 72) 72 #[.int .i64 0, .int .i64 0, .slice none 0 0]
  have hr1 := h1.to hb0 hb0.size
  have hr2 := h2.to hb0 hb0.size
  clear h1 h2
  obtain ⟨W0, hW0⟩ : ∃ W0, ((w.alloc (.cells #[.int .i64 f1, .int .i64 b1, .slice A1 n1 c1] 72)).alloc (.cells #[.int .i64 f2, .int .i64 b2, .slice A2 n2 c2] 72)).alloc (.cells #[.int .i64 0, .int .i64 0, .slice none 0 0] 72) = W0 := ⟨_, rfl⟩
  rw [hW0] at hb0 hE1 hE2 hZ hr1 hr2
  have a0 : W0.cell? ⟨w.heap.size, 0, none⟩ = some (.int .i64 f1) := hE1.cell 0
  have a1 : W0.cell? ⟨w.heap.size, 1, none⟩ = some (.int .i64 b1) := hE1.cell 1
  have a2 : W0.cell? ⟨w.heap.size, 2, none⟩ = some (.slice A1 n1 c1) := hE1.cell 2
  go_enter Try.func70, Try.ntmps70
  go_wp2_with fail
  refine (iEnsOk_any f1 b1 A1 n1 c1 len1 g1 _ hr1 hn1 hl1).mono ?_
  rintro e w1 ⟨rfl, hb1⟩
  rw [HY1.out]
  have hE1' := hE1.on hb1
  have hE2' := hE2.on hb1
  have hZ' := hZ.on hb1
  have hr2' := hr2.to hb1 hb1.size
  have hw1 := hb0.trans (hb1.mono hb0.size)
  clear hb0 hb1 hE1 hE2 hZ hr1 hr2 hW0 a0 a1 a2
  have a0 : w1.cell? ⟨w.heap.size + 1, 0, none⟩ = some (.int .i64 f2) := hE2'.cell 0
  have a1 : w1.cell? ⟨w.heap.size + 1, 1, none⟩ = some (.int .i64 b2) := hE2'.cell 1
  have a2 : w1.cell? ⟨w.heap.size + 1, 2, none⟩ = some (.slice A2 n2 c2) := hE2'.cell 2
  go_wp2_with fail
  refine (iEnsOk_any f2 b2 A2 n2 c2 len2 g2 _ hr2' hn2 hl2).mono ?_
  rintro e w2 ⟨rfl, hb2⟩
  rw [HY2.out]
  have hE1 := hE1'.on hb2
  have hE2 := hE2'.on hb2
  have hZ := hZ'.on hb2
  have hw2 := hw1.trans (hb2.mono hw1.size)
  clear hw1 hb2 hE1' hE2' hZ' hr2' a0 a1 a2
  have p0 : w2.cell? ⟨w.heap.size, 0, none⟩ = some (.int .i64 f1) := hE1.cell 0
  have p1 : w2.cell? ⟨w.heap.size + 1, 0, none⟩ = some (.int .i64 f2) := hE2.cell 0
  have z0 : w2.cell? ⟨w.heap.size + 1 + 1, 0, none⟩ = some (.int .i64 0) := hZ.cell 0
  have y0 := hZ.frozen 0
  have z1 : w2.cell? ⟨w.heap.size + 1 + 1, 1, none⟩ = some (.int .i64 0) := hZ.cell 1
  have y1 := hZ.frozen 1
  have z2 : w2.cell? ⟨w.heap.size + 1 + 1, 2, none⟩ = some (.slice none 0 0) := hZ.cell 2
  have y2 := hZ.frozen 2
  have hend := fin_set (A := none) (m := 0) (c := 0) (xs := []) (n := 0) (bl := fun _ => 0) (len := fun _ => 0) (g := fun _ _ => ⟨0, 0, 0, 0, false, 0⟩) hZ rfl (World.ownsRow_nil _ w.heap.size _ _) treesN_nil hw2 (by omega) (.int .i64 0) (.int .i64 0) (.slice none 0 0)
  have HEND := hid hend
  clear hend hE1 hE2 hZ hw2
  go_wp2_with fail
  have hend := HEND.out
  (try simp only [Exit.inBlock, Exit.then])
  refine bodyPost_ret (results_cell_tmpJ rfl _ _ (w.heap.size + 1 + 1) 72 #[.int .i64 0, .int .i64 0, .slice none 0 0] (0, 0) _ rfl hend.1 Try.underlying72 rfl size_ens) rfl ?_
  exact ⟨rfl, hend.2.2.2⟩
set_option maxHeartbeats 1000000 in
theorem iJoin_no3 (f1 f2 b1 b2 : Int) (A1 A2 : Option Addr) (n1 n2 c1 c2 : Nat) (len1 len2 : Nat → Nat) (g1 g2 : Nat → Nat → Nd) (w : World) (h1 : RdT w w.heap.size A1 n1 len1 g1) (h2 : RdT w w.heap.size A2 n2 len2 g2) (hn1 : n1 ≤ 4194304) (hn2 : n2 ≤ 4194304) (hl1 : Hid (∀ i, i < n1 → len1 i ≤ 4194304)) (hl2 : Hid (∀ i, i < n2 → len2 i ≤ 4194304)) (hy1 : ensB f1 b1 n1 len1 g1 = true) (hy2 : ensB f2 b2 n2 len2 g2 = true) (hf : ¬ f1 = f2) :
    Calls Try.prog 70 #[enV f1 b1 A1 n1 c1, enV f2 b2 A2 n2 c2] w (NoJoin w) := by
  have HY1 := hid hy1
  clear hy1
  have HY2 := hid hy2
  clear hy2
  have hfe : (f1 == f2) = false := by simpa using hf
  have hfn : (f1 != f2) = true := by simp [hf]
  clear hf
  have hb0 := (((Below.refl w.heap.size w).alloc (Nat.le_refl _) (.cells #[.int .i64 f1, .int .i64 b1, .slice A1 n1 c1] 72)).alloc (by simp) (.cells #[.int .i64 f2, .int .i64 b2, .slice A2 n2 c2] 72)).alloc (by simp; omega) (.cells #[.int .i64 0, .int .i64 0, .slice none 0 0] 72)
  have hE1 := ((Blk.new w 72 #[.int .i64 f1, .int .i64 b1, .slice A1 n1 c1]).alloc (.cells #[.int .i64 f2, .int .i64 b2, .slice A2 n2 c2] 72)).alloc (.cells #[.int .i64 0, .int .i64 0, .slice none 0 0] 72)
  have hE2 := (Blk.new2 w (.cells #[.int .i64 f1, .int .i64 b1, .slice A1 n1 c1] 72) 72 #[.int .i64 f2, .int .i64 b2, .slice A2 n2 c2]).alloc (.cells #[.int .i64 0, .int .i64 0, .slice none 0 0] 72)
  have hZ := Blk.new3 w (.cells #[.int .i64 f1, .int .i64 b1, .slice A1 n1 c1] 72) (.cells #[.int .i64 f2, .int .i64 b2, .slice A2 n2 c2] 72) 72 #[.int .i64 0, .int .i64 0, .slice none 0 0]
  have hr1 := h1.to hb0 hb0.size
  have hr2 := h2.to hb0 hb0.size
  clear h1 h2
  obtain ⟨W0, hW0⟩ : ∃ W0, ((w.alloc (.cells #[.int .i64 f1, .int .i64 b1, .slice A1 n1 c1] 72)).alloc (.cells #[.int .i64 f2, .int .i64 b2, .slice A2 n2 c2] 72)).alloc (.cells #[.int .i64 0, .int .i64 0, .slice none 0 0] 72) = W0 := ⟨_, rfl⟩
  rw [hW0] at hb0 hE1 hE2 hZ hr1 hr2
  have a0 : W0.cell? ⟨w.heap.size, 0, none⟩ = some (.int .i64 f1) := hE1.cell 0
  have a1 : W0.cell? ⟨w.heap.size, 1, none⟩ = some (.int .i64 b1) := hE1.cell 1
  have a2 : W0.cell? ⟨w.heap.size, 2, none⟩ = some (.slice A1 n1 c1) := hE1.cell 2
  go_enter Try.func70, Try.ntmps70
  go_wp2_with fail
  refine (iEnsOk_any f1 b1 A1 n1 c1 len1 g1 _ hr1 hn1 hl1).mono ?_
  rintro e w1 ⟨rfl, hb1⟩
  rw [HY1.out]
  have hE1' := hE1.on hb1
  have hE2' := hE2.on hb1
  have hZ' := hZ.on hb1
  have hr2' := hr2.to hb1 hb1.size
  have hw1 := hb0.trans (hb1.mono hb0.size)
  clear hb0 hb1 hE1 hE2 hZ hr1 hr2 hW0 a0 a1 a2
  have a0 : w1.cell? ⟨w.heap.size + 1, 0, none⟩ = some (.int .i64 f2) := hE2'.cell 0
  have a1 : w1.cell? ⟨w.heap.size + 1, 1, none⟩ = some (.int .i64 b2) := hE2'.cell 1
  have a2 : w1.cell? ⟨w.heap.size + 1, 2, none⟩ = some (.slice A2 n2 c2) := hE2'.cell 2
  go_wp2_with fail
  refine (iEnsOk_any f2 b2 A2 n2 c2 len2 g2 _ hr2' hn2 hl2).mono ?_
  rintro e w2 ⟨rfl, hb2⟩
  rw [HY2.out]
  have hE1 := hE1'.on hb2
  have hE2 := hE2'.on hb2
  have hZ := hZ'.on hb2
  have hw2 := hw1.trans (hb2.mono hw1.size)
  clear hw1 hb2 hE1' hE2' hZ' hr2' a0 a1 a2
  have p0 : w2.cell? ⟨w.heap.size, 0, none⟩ = some (.int .i64 f1) := hE1.cell 0
  have p1 : w2.cell? ⟨w.heap.size + 1, 0, none⟩ = some (.int .i64 f2) := hE2.cell 0
  have z0 : w2.cell? ⟨w.heap.size + 1 + 1, 0, none⟩ = some (.int .i64 0) := hZ.cell 0
  have y0 := hZ.frozen 0
  have z1 : w2.cell? ⟨w.heap.size + 1 + 1, 1, none⟩ = some (.int .i64 0) := hZ.cell 1
  have y1 := hZ.frozen 1
  have z2 : w2.cell? ⟨w.heap.size + 1 + 1, 2, none⟩ = some (.slice none 0 0) := hZ.cell 2
  have y2 := hZ.frozen 2
  have hend := fin_set (A := none) (m := 0) (c := 0) (xs := []) (n := 0) (bl := fun _ => 0) (len := fun _ => 0) (g := fun _ _ => ⟨0, 0, 0, 0, false, 0⟩) hZ rfl (World.ownsRow_nil _ w.heap.size _ _) treesN_nil hw2 (by omega) (.int .i64 0) (.int .i64 0) (.slice none 0 0)
  have HEND := hid hend
  clear hend hE1 hE2 hZ hw2
  go_wp2_with fail
  have hend := HEND.out
  (try simp only [Exit.inBlock, Exit.then])
  refine bodyPost_ret (results_cell_tmpJ rfl _ _ (w.heap.size + 1 + 1) 72 #[.int .i64 0, .int .i64 0, .slice none 0 0] (0, 0) _ rfl hend.1 Try.underlying72 rfl size_ens) rfl ?_
  exact ⟨rfl, hend.2.2.2⟩

/-- Is there something that is joined? -/
def joinB (f1 f2 b1 b2 : Int) (n1 n2 : Nat) (len1 len2 : Nat → Nat) (g1 g2 : Nat → Nat → Nd) : Bool :=
  ensB f1 b1 n1 len1 g1 && (ensB f2 b2 n2 len2 g2 && (decide (f1 = f2) && ensB f1 (b1 + b2) (n1 + n2) (catN n1 len1 len2) (catN n1 g1 g2)))
theorem sJoin_any (f1 f2 b1 b2 : Int) (A1 A2 : Option Addr) (n1 n2 c1 c2 : Nat) (len1 len2 : Nat → Nat) (g1 g2 : Nat → Nat → Nd) (w : World) (h1 : RdT w w.heap.size A1 n1 len1 g1) (h2 : RdT w w.heap.size A2 n2 len2 g2) (hn1 : n1 ≤ 4194304) (hn2 : n2 ≤ 4194304) (hl1 : Hid (∀ i, i < n1 → len1 i ≤ 4194304)) (hl2 : Hid (∀ i, i < n2 → len2 i ≤ 4194304)) :
    Calls Try.prog 69 #[enV f1 b1 A1 n1 c1, enV f2 b2 A2 n2 c2] w (JoinPost (joinB f1 f2 b1 b2 n1 n2 len1 len2 g1 g2) w f1 (b1 + b2) (n1 + n2) (catN n1 len1 len2) (catN n1 g1 g2)) := by
  unfold joinB
  cases e1 : ensB f1 b1 n1 len1 g1 with
  | false => exact sJoin_no1 f1 f2 b1 b2 A1 A2 n1 n2 c1 c2 len1 len2 g1 g2 w h1 h2 hn1 hn2 hl1 hl2 e1
  | true =>
    cases e2 : ensB f2 b2 n2 len2 g2 with
    | false => exact sJoin_no2 f1 f2 b1 b2 A1 A2 n1 n2 c1 c2 len1 len2 g1 g2 w h1 h2 hn1 hn2 hl1 hl2 e1 e2
    | true =>
      by_cases hf : f1 = f2
      · subst hf
        have hd : decide (f1 = f1) = true := by simp
        rw [hd, Bool.true_and, Bool.true_and, Bool.true_and]
        exact sJoin_in _ f1 b1 b2 A1 A2 n1 n2 c1 c2 len1 len2 g1 g2 w h1 h2 e1 e2 rfl
      · have hd : decide (f1 = f2) = false := by simpa using hf
        rw [hd, Bool.false_and, Bool.true_and, Bool.true_and]
        exact sJoin_no3 f1 f2 b1 b2 A1 A2 n1 n2 c1 c2 len1 len2 g1 g2 w h1 h2 hn1 hn2 hl1 hl2 e1 e2 hf
theorem iJoin_any (f1 f2 b1 b2 : Int) (A1 A2 : Option Addr) (n1 n2 c1 c2 : Nat) (len1 len2 : Nat → Nat) (g1 g2 : Nat → Nat → Nd) (w : World) (h1 : RdT w w.heap.size A1 n1 len1 g1) (h2 : RdT w w.heap.size A2 n2 len2 g2) (hn1 : n1 ≤ 4194304) (hn2 : n2 ≤ 4194304) (hl1 : Hid (∀ i, i < n1 → len1 i ≤ 4194304)) (hl2 : Hid (∀ i, i < n2 → len2 i ≤ 4194304)) :
    Calls Try.prog 70 #[enV f1 b1 A1 n1 c1, enV f2 b2 A2 n2 c2] w (JoinPost (joinB f1 f2 b1 b2 n1 n2 len1 len2 g1 g2) w f1 (b1 + b2) (n1 + n2) (catN n1 len1 len2) (catN n1 g1 g2)) := by
  unfold joinB
  cases e1 : ensB f1 b1 n1 len1 g1 with
  | false => exact iJoin_no1 f1 f2 b1 b2 A1 A2 n1 n2 c1 c2 len1 len2 g1 g2 w h1 h2 hn1 hn2 hl1 hl2 e1
  | true =>
    cases e2 : ensB f2 b2 n2 len2 g2 with
    | false => exact iJoin_no2 f1 f2 b1 b2 A1 A2 n1 n2 c1 c2 len1 len2 g1 g2 w h1 h2 hn1 hn2 hl1 hl2 e1 e2
    | true =>
      by_cases hf : f1 = f2
      · subst hf
        have hd : decide (f1 = f1) = true := by simp
        rw [hd, Bool.true_and, Bool.true_and, Bool.true_and]
        exact iJoin_in _ f1 b1 b2 A1 A2 n1 n2 c1 c2 len1 len2 g1 g2 w h1 h2 e1 e2 rfl
      · have hd : decide (f1 = f2) = false := by simpa using hf
        rw [hd, Bool.false_and, Bool.true_and, Bool.true_and]
        exact iJoin_no3 f1 f2 b1 b2 A1 A2 n1 n2 c1 c2 len1 len2 g1 g2 w h1 h2 hn1 hn2 hl1 hl2 e1 e2 hf

/-! ### JoinM -/
/-- What a mark writes into nodes, from number k on. -/
def mkN (k : Int) : Nat → Nd := fun i => ⟨k + 6 * i, k + 6 * i + 1, k + 6 * i + 2, k + 6 * i + 3, (k + 6 * i + 4) % 3 == 0, k + 6 * i + 5⟩
theorem mkN_at {k0 q : Int} {m : Nat} (hq : q = k0 + 6 * m) : mkN k0 m = ⟨q, q + 1, q + 1 + 1, q + 1 + 1 + 1, (q + 1 + 1 + 1 + 1) % 3 == 0, q + 1 + 1 + 1 + 1 + 1⟩ := by
  have e4 : k0 + 6 * (m : Int) + 4 = q + 1 + 1 + 1 + 1 := by omega
  unfold mkN
  rw [e4]
  simp only [Nd.mk.injEq]
  refine ⟨by omega, by omega, by omega, by omega, trivial, by omega⟩

set_option maxRecDepth 100000 in
set_option maxHeartbeats 2000000 in
theorem markK_any (n cap b : Nat) (g : Nat → Nd) (k0 : Int) (w : World) (h : RowN w 32 b n g) (hn : n ≤ 4194304) (h0 : 0 ≤ k0) (h1 : k0 ≤ 100000000000000) :
    Calls Try.prog 137 #[.slice (some ⟨b, 0, none⟩) n cap, .int .i64 k0] w fun e w' =>
      e = .returned (.int .i64 (k0 + 6 * n)) ∧ RowN w' 32 b n (mkN k0) ∧ w.grownBy w' (some b) := by
  obtain ⟨cs, hB, hsz, _⟩ := h
  go_enter Try.func137, Try.ntmps137
  go_wp2_with fail
  go_loopw [1, 5] (fun k i wr => ∃ (m : Nat) (cs : Array Value) (q : Int), m ≤ n ∧ i = .int .i64 m ∧ k = .int .i64 q ∧ Hid (q = k0 + 6 * m) ∧ Blk wr b 32 cs ∧ n * 6 ≤ cs.size ∧ Hid (∀ i, i < m → ∀ j, j < 6 → cs[i * 6 + j]? = (ndC (mkN k0 i))[j]?) ∧ Hid (w.grownBy wr (some b)))
    (fun _ i _ => n - (intOf i).toNat)
  case atStart => exact ⟨0, cs, k0, Nat.zero_le _, rfl, rfl, by show k0 = k0 + 6 * ((0 : Nat) : Int); omega, hB, hsz, fun i hi => by omega, World.grownBy.refl _ _⟩
  case round =>
    obtain ⟨m, cs, q, hm, rfl, rfl, hq, hB, hsz, hf, hg⟩ := hrel
    by_cases hlt : m < n
    · have hl : (m : Int) < (n : Int) := by omega
      have hqo := hq.out
      have q0 : 0 ≤ q := by omega
      have q1 : q ≤ 200000000000000 := by omega
      clear hqo
      have s0 : wr.cell? ⟨b, m * 6, none⟩ = some (cs[m * 6]'(by omega)) := by rw [hB.cell, Array.getElem?_eq_getElem]
      have s1 : wr.cell? ⟨b, m * 6 + 1, none⟩ = some (cs[m * 6 + 1]'(by omega)) := by rw [hB.cell, Array.getElem?_eq_getElem]
      have s2 : wr.cell? ⟨b, m * 6 + 2, none⟩ = some (cs[m * 6 + 2]'(by omega)) := by rw [hB.cell, Array.getElem?_eq_getElem]
      have s3 : wr.cell? ⟨b, m * 6 + 3, none⟩ = some (cs[m * 6 + 3]'(by omega)) := by rw [hB.cell, Array.getElem?_eq_getElem]
      have s4 : wr.cell? ⟨b, m * 6 + 4, none⟩ = some (cs[m * 6 + 4]'(by omega)) := by rw [hB.cell, Array.getElem?_eq_getElem]
      have s5 : wr.cell? ⟨b, m * 6 + 5, none⟩ = some (cs[m * 6 + 5]'(by omega)) := by rw [hB.cell, Array.getElem?_eq_getElem]
      have f0 := hB.frozen (m * 6); have f1 := hB.frozen (m * 6 + 1); have f2 := hB.frozen (m * 6 + 2); have f3 := hB.frozen (m * 6 + 3); have f4 := hB.frozen (m * 6 + 4); have f5 := hB.frozen (m * 6 + 5)
      go_wp2_with fail
      go_roundw
      case rel =>
        have e := mkN_at hq.out
        refine ⟨m + 1, put6 cs m ⟨q, q + 1, q + 1 + 1, q + 1 + 1 + 1, (q + 1 + 1 + 1 + 1) % 3 == 0, q + 1 + 1 + 1 + 1 + 1⟩, _, by omega, by go_num, rfl, ?_, blk_put6 hB m ⟨q, q + 1, q + 1 + 1, q + 1 + 1 + 1, (q + 1 + 1 + 1 + 1) % 3 == 0, q + 1 + 1 + 1 + 1 + 1⟩, by rw [put6_size]; exact hsz, fun i hi j hj => ?_, ?_⟩
        · show _ = k0 + 6 * ((m + 1 : Nat) : Int)
          have := hq.out
          omega
        · by_cases ei : i = m
          · subst ei
            rw [put6_in _ (by omega) j hj, e]
          · rw [put6_out _ _ (by omega)]
            exact hf.out i (by omega) j hj
        · exact grown_trans (grown_trans (grown_trans (grown_trans (grown_trans (grown_trans hg.out (grown_set _)) (grown_set _)) (grown_set _)) (grown_set _)) (grown_set _)) (grown_set _)
      case measure => simp [intOf]; omega
    · obtain rfl : m = n := by omega
      go_wp2_with fail
      go_ret
      exact ⟨congrArg (fun x => Ending.returned (.int .i64 x)) hq.out, ⟨cs, hB, hsz, hf.out⟩, hg.out⟩

set_option maxRecDepth 100000 in
set_option maxHeartbeats 2000000 in
theorem heldK_any (n cap b : Nat) (k0 : Int) (w : World) (h : RowN w 32 b n (mkN k0)) (hn : n ≤ 4194304) (h0 : 0 ≤ k0) (h1 : k0 ≤ 100000000000000) :
    Calls Try.prog 138 #[.slice (some ⟨b, 0, none⟩) n cap, .int .i64 k0] w fun e w' => e = .returned (.int .i64 (k0 + 6 * n)) ∧ w = w' := by
  go_enter Try.func138, Try.ntmps138
  go_wp2_with fail
  go_loopw [1, 5] (fun k i wr => ∃ (m : Nat) (q : Int), m ≤ n ∧ i = .int .i64 m ∧ k = .int .i64 q ∧ Hid (q = k0 + 6 * m) ∧ w = wr)
    (fun _ i _ => n - (intOf i).toNat)
  case atStart => exact ⟨0, k0, Nat.zero_le _, rfl, rfl, by show k0 = k0 + 6 * ((0 : Nat) : Int); omega, rfl⟩
  case round =>
    obtain ⟨m, q, hm, rfl, rfl, hq, rfl⟩ := hrel
    by_cases hlt : m < n
    · have hl : (m : Int) < (n : Int) := by omega
      have hl0 : (0 : Int) ≤ (m : Int) := by omega
      have hqo := hq.out
      have q0 : 0 ≤ q := by omega
      have q1 : q ≤ 200000000000000 := by omega
      obtain ⟨c0, c1, c2, c3, c4, c5⟩ := h.ndAt hlt
      rw [mkN_at hqo] at c0 c1 c2 c3 c4 c5
      clear hqo
      go_wp2_with fail
      go_roundw
      case rel => exact ⟨m + 1, _, by omega, by go_num, rfl, (by show _ = k0 + 6 * ((m + 1 : Nat) : Int); have := hq.out; omega), trivial⟩
      case measure => simp [intOf]; omega
    · obtain rfl : m = n := by omega
      go_wp2_with fail
      go_ret
      exact ⟨congrArg (fun x => Ending.returned (.int .i64 x)) hq.out, rfl⟩

/-- How many nodes the first k trees have. -/
def cumL (len : Nat → Nat) : Nat → Nat
  | 0 => 0
  | k + 1 => cumL len k + len k
theorem cumL_le {len : Nat → Nat} {n M : Nat} (h : ∀ i, i < n → len i ≤ M) : ∀ k, k ≤ n → cumL len k ≤ k * M := by
  intro k
  induction k with
  | zero => intro _; simp [cumL]
  | succ k ih =>
    intro hk
    have := ih (by omega)
    have := h k (by omega)
    rw [Nat.succ_mul]
    simp only [cumL]
    omega
theorem cumL_mono {len : Nat → Nat} {n : Nat} : ∀ k, k ≤ n → cumL len k ≤ cumL len n := by
  intro k hk
  induction n with
  | zero => have : k = 0 := by omega
            subst this; exact Nat.le_refl _
  | succ n ih =>
    by_cases e : k = n + 1
    · subst e; exact Nat.le_refl _
    · have := ih (by omega)
      simp only [cumL]
      omega

/-- Trees whose blocks lie from L to H, each of its own. -/
def Laid (w : World) (L H : Nat) (A : Option Addr) (n : Nat) (len : Nat → Nat) (g : Nat → Nat → Nd) : Prop :=
  ∃ (gg : Nat) (bl cp : Nat → Nat), (0 < n → A = some ⟨gg, 0, none⟩ ∧ L ≤ gg ∧ gg < H ∧ (∃ cs, Blk w gg 24 cs) ∧ ∀ i, i < n → w.cell? ⟨gg, i, none⟩ = some (.slice (some ⟨bl i, 0, none⟩) (len i) (cp i))) ∧
    ∀ i, i < n → L ≤ bl i ∧ bl i < H ∧ RowN w 32 (bl i) (len i) (g i) ∧ ∀ j, j < i → bl j ≠ bl i
theorem Laid.keep {w w' : World} {L H n : Nat} {A : Option Addr} {len : Nat → Nat} {g : Nat → Nat → Nd} (h : Laid w L H A n len g) (hk : ∀ x, L ≤ x → x < H → w'.heap[x]? = w.heap[x]?) : Laid w' L H A n len g := by
  obtain ⟨gg, bl, cp, h1, h2⟩ := h
  refine ⟨gg, bl, cp, fun h0 => ?_, fun i hi => ?_⟩
  · obtain ⟨a, b, c, ⟨cs, d⟩, e⟩ := h1 h0
    exact ⟨a, b, c, ⟨cs, (hk gg b c).trans d⟩, fun i hi => (World.cell?_of_block (hk gg b c)).trans (e i hi)⟩
  · obtain ⟨a, b, c, d⟩ := h2 i hi
    exact ⟨a, b, c.keep (hk _ a b), d⟩
theorem Laid.less {w : World} {L L' H H' n : Nat} {A : Option Addr} {len : Nat → Nat} {g : Nat → Nat → Nd} (h : Laid w L H A n len g) (hL : L' ≤ L) (hH : H ≤ H') : Laid w L' H' A n len g := by
  obtain ⟨gg, bl, cp, h1, h2⟩ := h
  refine ⟨gg, bl, cp, fun h0 => ?_, fun i hi => ?_⟩
  · obtain ⟨a, b, c, d⟩ := h1 h0
    exact ⟨a, by omega, by omega, d⟩
  · obtain ⟨a, b, c⟩ := h2 i hi
    exact ⟨by omega, by omega, c⟩
theorem Laid.below {w w' : World} {L H n : Nat} {A : Option Addr} {len : Nat → Nat} {g : Nat → Nat → Nd} (h : Laid w L H A n len g) (hb : Below w.heap.size w w') (hH : H ≤ w.heap.size) : Laid w' L H A n len g :=
  h.keep fun x _ hx => hb.block x (by omega)
theorem Laid.rdT {w : World} {L H n : Nat} {A : Option Addr} {len : Nat → Nat} {g : Nat → Nat → Nd} (h : Laid w L H A n len g) : RdT w w.heap.size A n len g := fun hn => by
  obtain ⟨gg, bl, cp, h1, h2⟩ := h
  obtain ⟨hA, _, _, ⟨cs, hB⟩, hc⟩ := h1 hn
  exact ⟨gg, 0, hA, Blk.lt hB, fun i hi => ⟨some ⟨bl i, 0, none⟩, cp i, by rw [Nat.zero_add]; exact hc i hi, rdN_of (h2 i hi).2.2.1⟩⟩
theorem Joined.laid {w w' : World} {A : Option Addr} {n c : Nat} {len bl cp : Nat → Nat} {g : Nat → Nat → Nd} (ho : w'.ownsRow w.heap.size 24 1 (.slice A n c) n (hdJ n bl len cp)) (hT : TreesN w' w.heap.size n bl len g) : Laid w' w.heap.size w'.heap.size A n len g := by
  by_cases h0 : 0 < n
  · obtain ⟨gg, hA, h1, h2, h3, h4⟩ := own_hdJ ho h0
    exact ⟨gg, bl, cp, fun _ => ⟨hA, h1, h2, h3, fun i hi => h4 i _ (hdJ_at hi)⟩, fun i hi => ⟨(hT i hi).1, (hT i hi).2.1.lt, (hT i hi).2.1, (hT i hi).2.2⟩⟩
  · exact ⟨0, bl, cp, fun h => absurd h h0, fun i hi => by omega⟩
theorem laid_none {w : World} {L H : Nat} {A : Option Addr} {len : Nat → Nat} {g : Nat → Nat → Nd} : Laid w L H A 0 len g := ⟨0, fun _ => 0, fun _ => 0, fun h => absurd h (by omega), fun i hi => by omega⟩

/-- Only what lies from L to H was written. -/
def KeptR (L H : Nat) (w w' : World) : Prop := w'.os = w.os ∧ w'.tape = w.tape ∧ w'.output = w.output ∧ w.heap.size ≤ w'.heap.size ∧ ∀ x, x < w.heap.size → (x < L ∨ H ≤ x) → w'.heap[x]? = w.heap[x]?
theorem KeptR.refl (L H : Nat) (w : World) : KeptR L H w w := ⟨rfl, rfl, rfl, Nat.le_refl _, fun _ _ _ => rfl⟩
theorem KeptR.grown {L H b : Nat} {w w1 w2 : World} (h : KeptR L H w w1) (hg : w1.grownBy w2 (some b)) (hb : L ≤ b ∧ b < H) : KeptR L H w w2 :=
  ⟨hg.os.trans h.1, hg.tape.trans h.2.1, hg.output.trans h.2.2.1, Nat.le_trans h.2.2.2.1 hg.size, fun x hx hr => (hg.block x (Nat.lt_of_lt_of_le hx h.2.2.2.1) (by intro e; injection e with e; omega)).trans (h.2.2.2.2 x hx hr)⟩
theorem KeptR.after {L H : Nat} {w w1 w2 : World} (hb : Below w.heap.size w w1) (h : KeptR L H w1 w2) : KeptR L H w w2 :=
  ⟨h.1.trans hb.os, h.2.1.trans hb.tape, h.2.2.1.trans hb.output, Nat.le_trans hb.size h.2.2.2.1, fun x hx hr => (h.2.2.2.2 x (Nat.lt_of_lt_of_le hx hb.size) hr).trans (hb.block x hx)⟩
theorem KeptR.below {L H B : Nat} {a w w' : World} (h : KeptR L H w w') (hb : Below B a w) (hBL : B ≤ L) (hs : B ≤ w.heap.size) : Below B a w' :=
  ⟨h.1.trans hb.os, h.2.1.trans hb.tape, h.2.2.1.trans hb.output, Nat.le_trans hb.size h.2.2.2.1, fun x hx => (h.2.2.2.2 x (by omega) (.inl (by omega))).trans (hb.block x hx)⟩

/-- The content that a mark writes. -/
def mkT (k0 : Int) (len : Nat → Nat) : Nat → Nat → Nd := fun i => mkN (k0 + 6 * (cumL len i : Nat))

set_option maxRecDepth 100000 in
set_option maxHeartbeats 2000000 in
theorem markT_any (L H n c : Nat) (A : Option Addr) (len : Nat → Nat) (g : Nat → Nat → Nd) (k0 : Int) (w : World) (h : Laid w L H A n len g) (hn : n ≤ 4194304) (hlen : Hid (∀ i, i < n → len i ≤ 1048576)) (h0 : 0 ≤ k0) (h1 : k0 ≤ 50000000000000) (hcum : cumL len n ≤ 5000000000000) :
    Calls Try.prog 115 #[.slice A n c, .int .i64 k0] w fun e w' =>
      e = .returned (.int .i64 (k0 + 6 * (cumL len n : Nat))) ∧ Laid w' L H A n len (mkT k0 len) ∧ KeptR L H w w' := by
  obtain ⟨gg, bl, cp, hh, ht⟩ := h
  have HH := hid hh
  have HT := hid ht
  clear hh ht
  go_enter Try.func115, Try.ntmps115
  go_wp2_with fail
  go_loopw [1, 5] (fun k i wr => ∃ (m : Nat) (q : Int), m ≤ n ∧ i = .int .i64 m ∧ k = .int .i64 q ∧ Hid (q = k0 + 6 * (cumL len m : Nat)) ∧ Hid (∀ i, i < n → RowN wr 32 (bl i) (len i) (if i < m then mkT k0 len i else g i)) ∧ Hid (∀ x, (∀ i, i < n → x ≠ bl i) → x < w.heap.size → wr.heap[x]? = w.heap[x]?) ∧ Hid (KeptR L H w wr))
    (fun _ i _ => n - (intOf i).toNat)
  case atStart => exact ⟨0, k0, Nat.zero_le _, rfl, rfl, by show k0 = k0 + 6 * ((0 : Nat) : Int); omega, fun i hi => by rw [if_neg (by omega)]; exact (HT.out i hi).2.2.1, fun _ _ _ => rfl, KeptR.refl L H w⟩
  case round =>
    obtain ⟨m, q, hm, rfl, rfl, hq, hrow, hkp, hkr⟩ := hrel
    by_cases hlt : m < n
    · obtain ⟨hA, hg1, hg2, ⟨cs, hgB⟩, hc⟩ := HH.out (by omega)
      subst hA
      have hl : (m : Int) < (n : Int) := by omega
      have hl0 : (0 : Int) ≤ (m : Int) := by omega
      have hgne : ∀ i, i < n → gg ≠ bl i := fun i hi => by
        obtain ⟨cs', hB', _⟩ := (HT.out i hi).2.2.1
        exact hgB.ne_ hB' (by decide)
      have hcell : wr.cell? ⟨gg, m, none⟩ = some (.slice (some ⟨bl m, 0, none⟩) (len m) (cp m)) := (World.cell?_of_block (hkp.out gg hgne (Blk.lt hgB))).trans (hc m hlt)
      have hR := hrow.out m hlt
      rw [if_neg (Nat.lt_irrefl m)] at hR
      have hqo := hq.out
      have hcm := cumL_mono (len := len) (n := n) m (by omega)
      have q0 : 0 ≤ q := by omega
      have q1 : q ≤ 100000000000000 := by omega
      have hlm := hlen.out m hlt
      have hbL := (HT.out m hlt).1
      have hbH := (HT.out m hlt).2.1
      clear hqo hcm hc
      go_wp2_with fail
      refine (markK_any (len m) (cp m) (bl m) (g m) q _ hR (by omega) q0 q1).mono ?_
      rintro e w1 ⟨rfl, hR1, hg1'⟩
      have hrow1 : Hid (∀ i, i < n → RowN w1 32 (bl i) (len i) (if i < m + 1 then mkT k0 len i else g i)) := fun i hi => by
        by_cases e : i = m
        · subst e
          rw [if_pos (by omega)]
          have e2 : mkT k0 len i = mkN q := by unfold mkT; rw [← hq.out]
          rw [e2]
          exact hR1
        · have h5 := hrow.out i hi
          have hne : bl i ≠ bl m := by
            by_cases hi2 : i < m
            · exact (HT.out m hlt).2.2.2 i hi2
            · exact fun e' => (HT.out i hi).2.2.2 m (by omega) e'.symm
          have h6 := rowN_grown h5 hg1' hne
          by_cases e3 : i < m
          · rw [if_pos e3] at h6; rw [if_pos (by omega)]; exact h6
          · rw [if_neg e3] at h6; rw [if_neg (by omega)]; exact h6
      have hkp1 : Hid (∀ x, (∀ i, i < n → x ≠ bl i) → x < w.heap.size → w1.heap[x]? = w.heap[x]?) := fun x hx hs => (hg1'.block x (Nat.lt_of_lt_of_le hs hkr.out.2.2.2.1) (by intro e; injection e with e; exact hx m hlt e)).trans (hkp.out x hx hs)
      have hkr1 := hid (hkr.out.grown hg1' ⟨hbL, hbH⟩)
      clear hrow hkp hkr hR hR1 hg1'
      go_wp2_with fail
      go_roundw
      case rel => exact ⟨m + 1, _, by omega, by go_num, rfl, (by show _ = k0 + 6 * ((cumL len (m + 1) : Nat) : Int); have := hq.out; simp only [cumL]; omega), hrow1, hkp1, hkr1⟩
      case measure => simp [intOf]; omega
    · obtain rfl : m = n := by omega
      go_wp2_with fail
      go_ret
      refine ⟨congrArg (fun x => Ending.returned (.int .i64 x)) hq.out, ⟨gg, bl, cp, fun h0 => ?_, fun i hi => ?_⟩, hkr.out⟩
      · obtain ⟨a1, a2, a3, ⟨cs, hgB⟩, a5⟩ := HH.out h0
        have hgne : ∀ i, i < m → gg ≠ bl i := fun i hi => by
          obtain ⟨cs', hB', _⟩ := (HT.out i hi).2.2.1
          exact hgB.ne_ hB' (by decide)
        have hk := hkp.out gg hgne (Blk.lt hgB)
        exact ⟨a1, a2, a3, ⟨cs, hk.trans hgB⟩, fun i hi => (World.cell?_of_block hk).trans (a5 i hi)⟩
      · obtain ⟨b1, b2, _, b4⟩ := HT.out i hi
        have := hrow.out i hi
        rw [if_pos hi] at this
        exact ⟨b1, b2, this, b4⟩

set_option maxRecDepth 100000 in
set_option maxHeartbeats 2000000 in
theorem heldT_any (L H n c : Nat) (A : Option Addr) (len : Nat → Nat) (k0 : Int) (w : World) (h : Laid w L H A n len (mkT k0 len)) (hn : n ≤ 4194304) (hlen : Hid (∀ i, i < n → len i ≤ 1048576)) (h0 : 0 ≤ k0) (h1 : k0 ≤ 50000000000000) (hcum : cumL len n ≤ 5000000000000) :
    Calls Try.prog 116 #[.slice A n c, .int .i64 k0] w fun e w' => e = .returned (.int .i64 (k0 + 6 * (cumL len n : Nat))) ∧ w = w' := by
  obtain ⟨gg, bl, cp, hh, ht⟩ := h
  have HH := hid hh
  have HT := hid ht
  clear hh ht
  go_enter Try.func116, Try.ntmps116
  go_wp2_with fail
  go_loopw [1, 5] (fun k i wr => ∃ (m : Nat) (q : Int), m ≤ n ∧ i = .int .i64 m ∧ k = .int .i64 q ∧ Hid (q = k0 + 6 * (cumL len m : Nat)) ∧ w = wr)
    (fun _ i _ => n - (intOf i).toNat)
  case atStart => exact ⟨0, k0, Nat.zero_le _, rfl, rfl, by show k0 = k0 + 6 * ((0 : Nat) : Int); omega, rfl⟩
  case round =>
    obtain ⟨m, q, hm, rfl, rfl, hq, rfl⟩ := hrel
    by_cases hlt : m < n
    · obtain ⟨hA, hg1, hg2, ⟨cs, hgB⟩, hc⟩ := HH.out (by omega)
      subst hA
      have hl : (m : Int) < (n : Int) := by omega
      have hl0 : (0 : Int) ≤ (m : Int) := by omega
      have hcell := hc m hlt
      have hR := (HT.out m hlt).2.2.1
      have e2 : mkT k0 len m = mkN q := by unfold mkT; rw [← hq.out]
      rw [e2] at hR
      have hqo := hq.out
      have hcm := cumL_mono (len := len) (n := n) m (by omega)
      have q0 : 0 ≤ q := by omega
      have q1 : q ≤ 100000000000000 := by omega
      have hlm := hlen.out m hlt
      clear hqo hcm hc e2
      go_wp2_with fail
      refine (heldK_any (len m) (cp m) (bl m) q _ hR (by omega) q0 q1).mono ?_
      rintro e w1 ⟨rfl, rfl⟩
      have q2 : ¬ q + 6 * (len m : Int) < 0 := by omega
      go_wp2_with fail
      go_roundw
      case rel => exact ⟨m + 1, _, by omega, by go_num, rfl, (by show _ = k0 + 6 * ((cumL len (m + 1) : Nat) : Int); have := hq.out; simp only [cumL]; omega), trivial⟩
      case measure => simp [intOf]; omega
    · obtain rfl : m = n := by omega
      go_wp2_with fail
      go_ret
      exact ⟨congrArg (fun x => Ending.returned (.int .i64 x)) hq.out, rfl⟩

theorem markE_any (f b : Int) (L H n c : Nat) (A : Option Addr) (len : Nat → Nat) (g : Nat → Nat → Nd) (k0 : Int) (w : World) (h : Laid w L H A n len g) (hH : H ≤ w.heap.size) (hn : n ≤ 4194304) (hlen : Hid (∀ i, i < n → len i ≤ 1048576)) (h0 : 0 ≤ k0) (h1 : k0 ≤ 50000000000000) (hcum : cumL len n ≤ 5000000000000) :
    Calls Try.prog 71 #[enV f b A n c, .int .i64 k0] w fun e w' =>
      e = .returned (.int .i64 (k0 + 6 * (cumL len n : Nat))) ∧ Laid w' L H A n len (mkT k0 len) ∧ KeptR L H w w' := by
  have hb1 := (Below.refl w.heap.size w).alloc (Nat.le_refl _) (.cells #[.int .i64 f, .int .i64 b, .slice A n c] 72)
  have h2 := h.below hb1 hH
  go_enter Try.func71, Try.ntmps71
  go_wp2_with fail
  refine (markT_any L H n c A len g k0 _ h2 hn hlen h0 h1 hcum).mono ?_
  rintro e w2 ⟨rfl, hl, hk⟩
  have hk2 := hk.after hb1
  obtain ⟨q, hq⟩ : ∃ q, k0 + 6 * ((cumL len n : Nat) : Int) = q := ⟨_, rfl⟩
  rw [hq]
  have HQ := hid hq
  clear hq
  go_wp2_with fail
  go_ret
  exact ⟨congrArg (fun x => Ending.returned (.int .i64 x)) HQ.out.symm, hl, hk2⟩
theorem heldE_any (f b : Int) (L H n c : Nat) (A : Option Addr) (len : Nat → Nat) (k0 : Int) (w : World) (h : Laid w L H A n len (mkT k0 len)) (hH : H ≤ w.heap.size) (hn : n ≤ 4194304) (hlen : Hid (∀ i, i < n → len i ≤ 1048576)) (h0 : 0 ≤ k0) (h1 : k0 ≤ 50000000000000) (hcum : cumL len n ≤ 5000000000000) :
    Calls Try.prog 72 #[enV f b A n c, .int .i64 k0] w fun e w' => e = .returned (.int .i64 (k0 + 6 * (cumL len n : Nat))) ∧ Below w.heap.size w w' := by
  have hb1 := (Below.refl w.heap.size w).alloc (Nat.le_refl _) (.cells #[.int .i64 f, .int .i64 b, .slice A n c] 72)
  have h2 := h.below hb1 hH
  have hq0 : ¬ k0 + 6 * ((cumL len n : Nat) : Int) < 0 := by omega
  go_enter Try.func72, Try.ntmps72
  go_wp2_with fail
  refine (heldT_any L H n c A len k0 _ h2 hn hlen h0 h1 hcum).mono ?_
  rintro e w2 ⟨rfl, rfl⟩
  obtain ⟨q, hq⟩ : ∃ q, k0 + 6 * ((cumL len n : Nat) : Int) = q := ⟨_, rfl⟩
  rw [hq] at hq0 ⊢
  have HQ := hid hq
  clear hq
  go_wp2_with fail
  go_ret
  exact ⟨congrArg (fun x => Ending.returned (.int .i64 x)) HQ.out.symm, hb1⟩

set_option maxHeartbeats 2000000 in
theorem toTJ_any (A : Option Addr) (n cap : Nat) (len : Nat → Nat) (g : Nat → Nat → Nd) (w : World) (h : RdT w w.heap.size A n len g) (hn : n ≤ 4194304) (hlen : Hid (∀ i, i < n → len i ≤ 4194304)) :
    Calls Try.prog 105 #[.slice A n cap] w fun e w' =>
      ∃ b, e = .returned (.slice (some ⟨b, 0, none⟩) n n) ∧ w.heap.size ≤ b ∧ Laid w' w.heap.size w'.heap.size (some ⟨b, 0, none⟩) n len g ∧ Below w.heap.size w w' := by
  obtain ⟨i0, hi0, hz0, hz1, hz2⟩ := info_parts info_nodes
  have hmk := fun wx => run_make_rowN (P := Try.prog) 70 24 i0 _ Try.underlying70 hi0 hz0 .i64 .i64 n n (Nat.le_refl _) (by rw [hz2]; omega) (by omega) wx
  rw [hz1] at hmk
  clear hz0 hz1 hz2 hi0
  go_enter Try.func105, Try.ntmps105
  go_wp2_with fail
  go_loopw [4] (fun i wr => ∃ (k : Nat) (cs : Array Value), k ≤ n ∧ i = .int .i64 k ∧ Blk wr w.heap.size 24 cs ∧ n ≤ cs.size ∧ Hid (∃ bl : Nat → Nat, ∀ i, i < k → cs[i]? = some (.slice (some ⟨bl i, 0, none⟩) (len i) (len i)) ∧ w.heap.size ≤ bl i ∧ RowN wr 32 (bl i) (len i) (g i) ∧ ∀ j, j < i → bl j ≠ bl i) ∧ Below w.heap.size w wr)
    (fun i _ => n - (intOf i).toNat)
  case atStart => exact ⟨0, _, Nat.zero_le _, rfl, Blk.new _ _ _, by simp [madeCells], ⟨fun _ => 0, fun j hj => by omega⟩, (Below.refl _ _).alloc (Nat.le_refl _) _⟩
  case round =>
    obtain ⟨k, cs, hk, rfl, hB, hsz, hcs, hbl⟩ := hrel
    by_cases hlt : k < n
    · obtain ⟨b, off, Ai, ci, rfl, hb, hc, hrd⟩ := (h.below hbl).at_ hlt
      have hl : (k : Int) < (n : Int) := by omega
      have hl0 : (0 : Int) ≤ (k : Int) := by omega
      go_wp2_with fail
      refine (toN_any Ai (len k) ci (g k) _ (hrd.more hbl.size) (hlen.out k hlt)).mono ?_
      rintro e w1 ⟨bk, rfl, hbk, hrow, hb1⟩
      have hB1 := hB.below hb1 hB.lt
      have hcs1 : Hid (∃ bl : Nat → Nat, ∀ i, i < k → cs[i]? = some (.slice (some ⟨bl i, 0, none⟩) (len i) (len i)) ∧ w.heap.size ≤ bl i ∧ RowN w1 32 (bl i) (len i) (g i) ∧ bl i < bk ∧ ∀ j, j < i → bl j ≠ bl i) := by
        obtain ⟨bl, hq⟩ := hcs.out
        refine ⟨bl, fun i hi => ?_⟩
        obtain ⟨h1, h3, h2, h4⟩ := hq i hi
        exact ⟨h1, h3, h2.below hb1 h2.lt, Nat.lt_of_lt_of_le h2.lt hbk, h4⟩
      have hbl1 := hbl.trans (hb1.mono hbl.size)
      have hbk' := Nat.le_trans hbl.size hbk
      clear hcs hb1 hB hbl hrd hc
      have s0 : w1.cell? ⟨w.heap.size, k, none⟩ = some (cs[k]'(by omega)) := by rw [hB1.cell, Array.getElem?_eq_getElem]
      have f0 := hB1.frozen k
      have HROW := hid hrow
      clear hrow
      go_wp2_with fail
      go_roundw
      case rel =>
        have hfar : ∀ {bi : Nat} {m : Nat} {gi : Nat → Nd}, RowN w1 32 bi m gi → RowN (w1.setCell ⟨w.heap.size, k, none⟩ (.slice (some ⟨bk, 0, none⟩) (len k) (len k))) 32 bi m gi := fun {bi m gi} hr => by
          obtain ⟨cs', hB', hs', hc'⟩ := hr
          exact ⟨cs', hB'.far (p := ⟨w.heap.size, k, none⟩) (Blk.ne_ hB' hB1 (by decide)) _, hs', hc'⟩
        obtain ⟨bl, hq⟩ := hcs1.out
        refine ⟨k + 1, _, by omega, by go_num, hB1.set_ k _, by simpa using hsz, ⟨setN bl k bk, fun j hj => ?_⟩, hbl1.setCell (p := ⟨w.heap.size, k, none⟩) (Nat.le_refl _) _⟩
        by_cases e : j = k
        · subst e
          rw [setN_same]
          refine ⟨by rw [Array.getElem?_setIfInBounds_self_of_lt (by omega)], hbk', hfar HROW.out, fun i hi => ?_⟩
          rw [setN_other (by omega)]
          exact Nat.ne_of_lt (hq i hi).2.2.2.1
        · rw [setN_other e]
          obtain ⟨h1, h3, h2, _, h4⟩ := hq j (by omega)
          refine ⟨by rw [Array.getElem?_setIfInBounds_ne (by omega)]; exact h1, h3, hfar h2, fun i hi => ?_⟩
          rw [setN_other (by omega)]
          exact h4 i hi
      case measure => simp [intOf]; omega
    · have e : k = n := by omega
      go_wp2_with fail
      go_ret
      subst e
      obtain ⟨bl, hq⟩ := hcs.out
      refine ⟨_, rfl, Nat.le_refl _, ⟨w.heap.size, bl, len, fun hn0 => ⟨rfl, Nat.le_refl _, hB.lt, ⟨_, hB⟩, fun i hi => by rw [hB.cell]; exact (hq i hi).1⟩, fun i hi => ⟨(hq i hi).2.1, (hq i hi).2.2.1.lt, (hq i hi).2.2.1, (hq i hi).2.2.2⟩⟩, hbl⟩

set_option maxRecDepth 100000 in
set_option maxHeartbeats 2000000 in
theorem toEJ_any (f b : Int) (A : Option Addr) (n c : Nat) (len : Nat → Nat) (g : Nat → Nat → Nd) (w : World) (h : RdT w w.heap.size A n len g) (hn : n ≤ 4194304) (hlen : Hid (∀ i, i < n → len i ≤ 4194304)) :
    Calls Try.prog 62 #[enV f b A n c] w fun e w' =>
      ∃ bt, e = .returned (enV f b (some ⟨bt, 0, none⟩) n n) ∧ w.heap.size ≤ bt ∧ Laid w' w.heap.size w'.heap.size (some ⟨bt, 0, none⟩) n len g ∧ Below w.heap.size w w' := by
  have hb3 := (((Below.refl w.heap.size w).alloc (Nat.le_refl _) (.cells #[.int .i64 f, .int .i64 b, .slice A n c] 67)).alloc (by simp) (.cells #[.int .i64 0, .int .i64 0, .slice none 0 0] 72)).alloc (by simp; omega) (.cells #[.int .i64 f, .int .i64 b, .slice none 0 0] 72)
  have h3 := h.to hb3 hb3.size
  go_enter Try.func62, Try.ntmps62
  go_wp2_with fail
  refine (toTJ_any A n c len g _ h3 hn hlen).mono ?_
  rintro e w4 ⟨bt, rfl, hbt, hrd, hb4⟩
  have hR := ((Blk.new2 w (.cells #[.int .i64 f, .int .i64 b, .slice A n c] 67) 72 #[.int .i64 0, .int .i64 0, .slice none 0 0]).alloc (.cells #[.int .i64 f, .int .i64 b, .slice none 0 0] 72)).below hb4 (by simp)
  have hO := (Blk.new3 w (.cells #[.int .i64 f, .int .i64 b, .slice A n c] 67) (.cells #[.int .i64 0, .int .i64 0, .slice none 0 0] 72) 72 #[.int .i64 f, .int .i64 b, .slice none 0 0]).below hb4 (by simp)
  obtain ⟨o0, o1, o2, f0, f1, f2⟩ := blk_cells3 hO
  obtain ⟨r0, r1, r2, g0, g1, g2⟩ := blk_cells3 hR
  have hw4 := hb3.trans (hb4.mono hb3.size)
  clear h3 hb3
  go_wp2_with fail
  refine bodyPost_ret (results_cell_row rfl _ _ (w.heap.size + 1) 72 #[.int .i64 f, .int .i64 b, .slice (some ⟨bt, 0, none⟩) n n] (0, 0) _ rfl ((((hR.far (p := ⟨w.heap.size + 1 + 1, 2, none⟩) (by simp) (.slice (some ⟨bt, 0, none⟩) n n)).set_ 0 (.int .i64 f)).set_ 1 (.int .i64 b)).set_ 2 (.slice (some ⟨bt, 0, none⟩) n n)) Try.underlying72 rfl size_ens) rfl ?_
  have hbt' : w.heap.size ≤ bt := by simp at hbt; omega
  have hs3 : w.heap.size + 3 ≤ w4.heap.size := by simpa using hb4.size
  refine ⟨bt, rfl, hbt', ((hrd.keep fun x hx _ => ?_).less (by simp; omega) (by simp only [World.size_setCell]; exact Nat.le_refl _)), (((hw4.setCell (p := ⟨w.heap.size + 1 + 1, 2, none⟩) (by simp; omega) _).setCell (p := ⟨w.heap.size + 1, 0, none⟩) (by simp) _).setCell (p := ⟨w.heap.size + 1, 1, none⟩) (by simp) _).setCell (p := ⟨w.heap.size + 1, 2, none⟩) (by simp) _⟩
  have hx' : w.heap.size + 3 ≤ x := by simpa using hx
  exact (Below.heap_setCell _ _ _ x (by show x ≠ w.heap.size + 1; omega)).trans ((Below.heap_setCell _ _ _ x (by show x ≠ w.heap.size + 1; omega)).trans ((Below.heap_setCell _ _ _ x (by show x ≠ w.heap.size + 1; omega)).trans (Below.heap_setCell _ _ _ x (by show x ≠ w.heap.size + 1 + 1; omega))))

/-! ### JoinLaw -/
def jI (Y : Bool) (x : Int) : Int := if Y = true then x else 0
def jN (Y : Bool) (n : Nat) : Nat := if Y = true then n else 0
theorem jN_le (Y : Bool) (n : Nat) : jN Y n ≤ n := by unfold jN; split <;> omega
theorem JoinPost.laid {Y : Bool} {w w' : World} {f b : Int} {n : Nat} {len : Nat → Nat} {g : Nat → Nat → Nd} {e : Ending} (h : JoinPost Y w f b n len g e w') :
    ∃ A c, e = .returned (.tuple #[enV (jI Y f) (jI Y b) A (jN Y n) c, .bool Y]) ∧ Laid w' w.heap.size w'.heap.size A (jN Y n) len g ∧ Below w.heap.size w w' := by
  cases Y with
  | false => obtain ⟨rfl, hb⟩ := h; exact ⟨none, 0, rfl, laid_none, hb⟩
  | true => obtain ⟨A, c, bl, cp, rfl, ho, hT, hb⟩ := h; exact ⟨A, c, rfl, Joined.laid ho hT, hb⟩
theorem iJoin_laid (f1 f2 b1 b2 : Int) (A1 A2 : Option Addr) (n1 n2 c1 c2 : Nat) (len1 len2 : Nat → Nat) (g1 g2 : Nat → Nat → Nd) (w : World) (h1 : RdT w w.heap.size A1 n1 len1 g1) (h2 : RdT w w.heap.size A2 n2 len2 g2) (hn1 : n1 ≤ 4194304) (hn2 : n2 ≤ 4194304) (hl1 : Hid (∀ i, i < n1 → len1 i ≤ 4194304)) (hl2 : Hid (∀ i, i < n2 → len2 i ≤ 4194304)) (Y : Bool) (hY : joinB f1 f2 b1 b2 n1 n2 len1 len2 g1 g2 = Y) :
    Calls Try.prog 70 #[enV f1 b1 A1 n1 c1, enV f2 b2 A2 n2 c2] w fun e w' => ∃ A c, e = .returned (.tuple #[enV (jI Y f1) (jI Y (b1 + b2)) A (jN Y (n1 + n2)) c, .bool Y]) ∧ Laid w' w.heap.size w'.heap.size A (jN Y (n1 + n2)) (catN n1 len1 len2) (catN n1 g1 g2) ∧ Below w.heap.size w w' := by
  subst hY
  exact (iJoin_any f1 f2 b1 b2 A1 A2 n1 n2 c1 c2 len1 len2 g1 g2 w h1 h2 hn1 hn2 hl1 hl2).mono fun e w' h => h.laid
theorem sJoin_laid (f1 f2 b1 b2 : Int) (A1 A2 : Option Addr) (n1 n2 c1 c2 : Nat) (len1 len2 : Nat → Nat) (g1 g2 : Nat → Nat → Nd) (w : World) (h1 : RdT w w.heap.size A1 n1 len1 g1) (h2 : RdT w w.heap.size A2 n2 len2 g2) (hn1 : n1 ≤ 4194304) (hn2 : n2 ≤ 4194304) (hl1 : Hid (∀ i, i < n1 → len1 i ≤ 4194304)) (hl2 : Hid (∀ i, i < n2 → len2 i ≤ 4194304)) (Y : Bool) (hY : joinB f1 f2 b1 b2 n1 n2 len1 len2 g1 g2 = Y) :
    Calls Try.prog 69 #[enV f1 b1 A1 n1 c1, enV f2 b2 A2 n2 c2] w fun e w' => ∃ A c, e = .returned (.tuple #[enV (jI Y f1) (jI Y (b1 + b2)) A (jN Y (n1 + n2)) c, .bool Y]) ∧ Laid w' w.heap.size w'.heap.size A (jN Y (n1 + n2)) (catN n1 len1 len2) (catN n1 g1 g2) ∧ Below w.heap.size w w' := by
  subst hY
  exact (sJoin_any f1 f2 b1 b2 A1 A2 n1 n2 c1 c2 len1 len2 g1 g2 w h1 h2 hn1 hn2 hl1 hl2).mono fun e w' h => h.laid
theorem heldL {w : World} {a n1 n2 c1 c2 : Nat} {f1 f2 b1 b2 : Int} {A1 A2 : Option Addr} (hE1 : Blk w a 67 #[.int .i64 f1, .int .i64 b1, .slice A1 n1 c1]) (hE2 : Blk w (a + 1) 67 #[.int .i64 f2, .int .i64 b2, .slice A2 n2 c2]) :
    w.cell? ⟨a, 0, none⟩ = some (.int .i64 f1) ∧ w.cell? ⟨a, 1, none⟩ = some (.int .i64 b1) ∧ w.cell? ⟨a, 2, none⟩ = some (.slice A1 n1 c1) ∧ w.cell? ⟨a + 1, 0, none⟩ = some (.int .i64 f2) ∧ w.cell? ⟨a + 1, 1, none⟩ = some (.int .i64 b2) ∧ w.cell? ⟨a + 1, 2, none⟩ = some (.slice A2 n2 c2) :=
  ⟨hE1.cell 0, hE1.cell 1, hE1.cell 2, hE2.cell 0, hE2.cell 1, hE2.cell 2⟩
theorem heldLS {w : World} {a n1 n2 c1 c2 : Nat} {f1 f2 b1 b2 : Int} {A1 A2 : Option Addr} (hE1 : Blk w a 67 #[.int .i64 f1, .int .i64 b1, .slice A1 n1 c1]) (hE2 : Blk w (a + 1) 67 #[.int .i64 f2, .int .i64 b2, .slice A2 n2 c2]) (p : Nat) (hp : a + 1 < p) (u0 u1 u2 : Value) :
    (((w.setCell ⟨p, 0, none⟩ u0).setCell ⟨p, 1, none⟩ u1).setCell ⟨p, 2, none⟩ u2).cell? ⟨a, 0, none⟩ = some (.int .i64 f1) ∧ (((w.setCell ⟨p, 0, none⟩ u0).setCell ⟨p, 1, none⟩ u1).setCell ⟨p, 2, none⟩ u2).cell? ⟨a, 1, none⟩ = some (.int .i64 b1) ∧ (((w.setCell ⟨p, 0, none⟩ u0).setCell ⟨p, 1, none⟩ u1).setCell ⟨p, 2, none⟩ u2).cell? ⟨a, 2, none⟩ = some (.slice A1 n1 c1) ∧
    (((w.setCell ⟨p, 0, none⟩ u0).setCell ⟨p, 1, none⟩ u1).setCell ⟨p, 2, none⟩ u2).cell? ⟨a + 1, 0, none⟩ = some (.int .i64 f2) ∧ (((w.setCell ⟨p, 0, none⟩ u0).setCell ⟨p, 1, none⟩ u1).setCell ⟨p, 2, none⟩ u2).cell? ⟨a + 1, 1, none⟩ = some (.int .i64 b2) ∧ (((w.setCell ⟨p, 0, none⟩ u0).setCell ⟨p, 1, none⟩ u1).setCell ⟨p, 2, none⟩ u2).cell? ⟨a + 1, 2, none⟩ = some (.slice A2 n2 c2) :=
  heldL (((hE1.far (p := ⟨p, 0, none⟩) (by show a ≠ p; omega) u0).far (p := ⟨p, 1, none⟩) (by show a ≠ p; omega) u1).far (p := ⟨p, 2, none⟩) (by show a ≠ p; omega) u2) (((hE2.far (p := ⟨p, 0, none⟩) (by show a + 1 ≠ p; omega) u0).far (p := ⟨p, 1, none⟩) (by show a + 1 ≠ p; omega) u1).far (p := ⟨p, 2, none⟩) (by show a + 1 ≠ p; omega) u2)
theorem blk_set3 {w : World} {p : Nat} {t : TypeId} {cs : Array Value} (hP : Blk w p t cs) (hs : cs.size = 3) (u0 u1 u2 : Value) : Blk (((w.setCell ⟨p, 0, none⟩ u0).setCell ⟨p, 1, none⟩ u1).setCell ⟨p, 2, none⟩ u2) p t #[u0, u1, u2] := by
  have h3 := ((hP.set_ 0 u0).set_ 1 u1).set_ 2 u2
  have e : ((cs.setIfInBounds 0 u0).setIfInBounds 1 u1).setIfInBounds 2 u2 = #[u0, u1, u2] := by
    obtain ⟨l⟩ := cs
    match l, hs with
    | [x, y, z], _ => rfl
  rw [e] at h3
  exact h3
theorem heap_set3 {w : World} {p : Nat} (x : Nat) (hx : x ≠ p) (u0 u1 u2 : Value) : (((w.setCell ⟨p, 0, none⟩ u0).setCell ⟨p, 1, none⟩ u1).setCell ⟨p, 2, none⟩ u2).heap[x]? = w.heap[x]? :=
  (Below.heap_setCell _ _ _ x hx).trans ((Below.heap_setCell _ _ _ x hx).trans (Below.heap_setCell _ _ _ x hx))
theorem below_set3 {a w : World} {B p : Nat} (h : Below B a w) (hB : B ≤ p) (u0 u1 u2 : Value) : Below B a (((w.setCell ⟨p, 0, none⟩ u0).setCell ⟨p, 1, none⟩ u1).setCell ⟨p, 2, none⟩ u2) :=
  ((h.setCell (p := ⟨p, 0, none⟩) hB u0).setCell (p := ⟨p, 1, none⟩) hB u1).setCell (p := ⟨p, 2, none⟩) hB u2
theorem Blk.kept {w w' : World} {p L H : Nat} {t : TypeId} {cs : Array Value} (h : Blk w p t cs) (hk : KeptR L H w w') (hp : p < L ∨ H ≤ p) : Blk w' p t cs := (hk.2.2.2.2 p (Blk.lt h) hp).trans h
theorem Laid.kept {w w' : World} {L H L' H' n : Nat} {A : Option Addr} {len : Nat → Nat} {g : Nat → Nat → Nd} (h : Laid w L' H' A n len g) (hk : KeptR L H w w') (hd : H' ≤ L ∨ H ≤ L') (hH : H' ≤ w.heap.size) : Laid w' L' H' A n len g :=
  h.keep fun x h1 h2 => hk.2.2.2.2 x (by omega) (by omega)

set_option maxRecDepth 100000 in
set_option maxHeartbeats 8000000 in
theorem lawJoins (f1 f2 b1 b2 : Int) (A1 A2 : Option Addr) (n1 n2 c1 c2 : Nat) (len1 len2 : Nat → Nat) (g1 g2 : Nat → Nat → Nd) (w : World) (h1 : RdT w w.heap.size A1 n1 len1 g1) (h2 : RdT w w.heap.size A2 n2 len2 g2)
    (hn1 : n1 ≤ 9223372036854775807) (hn2 : n2 ≤ 9223372036854775807) (hlen1 : ∀ i, i < n1 → len1 i ≤ 9223372036854775807) (hlen2 : ∀ i, i < n2 → len2 i ≤ 9223372036854775807) :
    Calls Try.prog 20 #[enV f1 b1 A1 n1 c1, enV f2 b2 A2 n2 c2] w fun e w' => e = .returned (.bool true) ∧ Below w.heap.size w w' := by
  have HL1 := hid hlen1
  have HL2 := hid hlen2
  clear hlen1 hlen2
  have hbA := ((Below.refl w.heap.size w).alloc (Nat.le_refl _) (.cells #[.int .i64 f1, .int .i64 b1, .slice A1 n1 c1] 67)).alloc (by simp) (.cells #[.int .i64 f2, .int .i64 b2, .slice A2 n2 c2] 67)
  have hE1 := (Blk.new w 67 #[.int .i64 f1, .int .i64 b1, .slice A1 n1 c1]).alloc (.cells #[.int .i64 f2, .int .i64 b2, .slice A2 n2 c2] 67)
  have hE2 := Blk.new2 w (.cells #[.int .i64 f1, .int .i64 b1, .slice A1 n1 c1] 67) 67 #[.int .i64 f2, .int .i64 b2, .slice A2 n2 c2]
  obtain ⟨W0, hW0⟩ : ∃ W0, (w.alloc (.cells #[.int .i64 f1, .int .i64 b1, .slice A1 n1 c1] 67)).alloc (.cells #[.int .i64 f2, .int .i64 b2, .slice A2 n2 c2] 67) = W0 := ⟨_, rfl⟩
  rw [hW0] at hbA hE1 hE2
  have a0 : W0.cell? ⟨w.heap.size, 0, none⟩ = some (.int .i64 f1) := hE1.cell 0
  have a1 : W0.cell? ⟨w.heap.size, 1, none⟩ = some (.int .i64 b1) := hE1.cell 1
  have a2 : W0.cell? ⟨w.heap.size, 2, none⟩ = some (.slice A1 n1 c1) := hE1.cell 2
  go_enter Try.func20, Try.ntmps20
  go_wp2_with fail
  refine (szE_any f1 b1 A1 n1 c1 len1 g1 1048576 _ (h1.to hbA hbA.size) hn1 HL1 (by omega) (by omega)).mono ?_
  rintro e w2 ⟨y1, rfl, hy1, hb2⟩
  have hE1' := hE1.on hb2
  have hE2' := hE2.on hb2
  have hw2 := hbA.trans (hb2.mono hbA.size)
  clear hbA hb2 hE1 hE2 hW0 a0 a1 a2
  by_cases hneg1 : y1 < 0
  · clear hy1
    go_wp2_with fail
    go_ret
    exact ⟨rfl, hw2⟩
  obtain ⟨hy10, hy11, hs1, hs1l⟩ : 0 ≤ y1 ∧ y1 ≤ 1048576 ∧ n1 ≤ 1048576 ∧ ∀ i, i < n1 → len1 i ≤ 1048576 := by
    rcases hy1 with h | h
    · exact absurd h hneg1
    · exact h
  have S1 := hid hs1l
  clear hs1l HL1 hy1
  have a0 : w2.cell? ⟨w.heap.size + 1, 0, none⟩ = some (.int .i64 f2) := hE2'.cell 0
  have a1 : w2.cell? ⟨w.heap.size + 1, 1, none⟩ = some (.int .i64 b2) := hE2'.cell 1
  have a2 : w2.cell? ⟨w.heap.size + 1, 2, none⟩ = some (.slice A2 n2 c2) := hE2'.cell 2
  go_wp2_with fail
  refine (szE_any f2 b2 A2 n2 c2 len2 g2 y1 _ ((h2.below hw2).more hw2.size) hn2 HL2 hy10 hy11).mono ?_
  rintro e wS ⟨y2, rfl, hy2, hb3⟩
  have hE1 := hE1'.on hb3
  have hE2 := hE2'.on hb3
  have hwS := hw2.trans (hb3.mono hw2.size)
  clear hw2 hb3 hE1' hE2' a0 a1 a2
  by_cases hneg2 : y2 < 0
  · clear hy2
    go_wp2_with fail
    go_ret
    exact ⟨rfl, hwS⟩
  obtain ⟨_, _, hs2, hs2l⟩ : 0 ≤ y2 ∧ y2 ≤ y1 ∧ n2 ≤ 1048576 ∧ ∀ i, i < n2 → len2 i ≤ 1048576 := by
    rcases hy2 with h | h
    · exact absurd h hneg2
    · exact h
  have S2 := hid hs2l
  clear hs2l HL2 hy2 hn1 hn2
  have hn1 : n1 ≤ 4194304 := by omega
  have hn2 : n2 ≤ 4194304 := by omega
  have hl1 : Hid (∀ i, i < n1 → len1 i ≤ 4194304) := fun i hi => by have := S1.out i hi; omega
  have hl2 : Hid (∀ i, i < n2 → len2 i ≤ 4194304) := fun i hi => by have := S2.out i hi; omega
  obtain ⟨Y, hYe⟩ : ∃ Y, joinB f1 f2 b1 b2 n1 n2 len1 len2 g1 g2 = Y := ⟨_, rfl⟩
  have HY := hid hYe
  clear hYe
  obtain ⟨NJ, hNJ⟩ : ∃ N, jN Y (n1 + n2) = N := ⟨_, rfl⟩
  have hNJle : NJ ≤ n1 + n2 := by rw [← hNJ]; exact jN_le Y (n1 + n2)
  obtain ⟨lJ, hlJ⟩ : ∃ l, catN n1 len1 len2 = l := ⟨_, rfl⟩
  obtain ⟨gJ, hgJ⟩ : ∃ l, catN n1 g1 g2 = l := ⟨_, rfl⟩
  have SJ : Hid (∀ i, i < NJ → lJ i ≤ 1048576) := fun i hi => by
    rw [← hlJ]
    by_cases e : i < n1
    · rw [catN_left e]; exact S1.out i e
    · rw [catN_right e]; exact S2.out _ (by omega)
  have hlJm : Hid (∀ i, i < NJ → lJ i ≤ 4194304) := fun i hi => by have := SJ.out i hi; omega
  obtain ⟨FJ, hFJ⟩ : ∃ x, jI Y f1 = x := ⟨_, rfl⟩
  obtain ⟨BJ, hBJ⟩ : ∃ x, jI Y (b1 + b2) = x := ⟨_, rfl⟩
  have hNJm : NJ ≤ 4194304 := by omega
  have hC1 : cumL len1 n1 ≤ 5000000000000 := by have := cumL_le S1.out n1 (Nat.le_refl _); omega
  have hC2 : cumL len2 n2 ≤ 5000000000000 := by have := cumL_le S2.out n2 (Nat.le_refl _); omega
  have hCJ : cumL lJ NJ ≤ 5000000000000 := by have := cumL_le SJ.out NJ (Nat.le_refl _); omega
  have iJ := fun A1' A2' c1' c2' w h1 h2 => iJoin_laid f1 f2 b1 b2 A1' A2' n1 n2 c1' c2' len1 len2 g1 g2 w h1 h2 hn1 hn2 hl1 hl2 Y HY.out
  have sJ := fun A1' A2' c1' c2' w h1 h2 => sJoin_laid f1 f2 b1 b2 A1' A2' n1 n2 c1' c2' len1 len2 g1 g2 w h1 h2 hn1 hn2 hl1 hl2 Y HY.out
  rw [hNJ, hlJ, hgJ, hFJ, hBJ] at iJ sJ
  have IJ := hid iJ
  have SJN := hid sJ
  clear iJ sJ hNJ hlJ hgJ hFJ hBJ
  have hYn : (Y != Y) = false := by simp
  have hEl1 := hE1.lt
  have hEl2 := hE2.lt
  have a0 : wS.cell? ⟨w.heap.size, 0, none⟩ = some (.int .i64 f1) := hE1.cell 0
  have a1 : wS.cell? ⟨w.heap.size, 1, none⟩ = some (.int .i64 b1) := hE1.cell 1
  have a2 : wS.cell? ⟨w.heap.size, 2, none⟩ = some (.slice A1 n1 c1) := hE1.cell 2
  have e0 : wS.cell? ⟨w.heap.size + 1, 0, none⟩ = some (.int .i64 f2) := hE2.cell 0
  have e1 : wS.cell? ⟨w.heap.size + 1, 1, none⟩ = some (.int .i64 b2) := hE2.cell 1
  have e2 : wS.cell? ⟨w.heap.size + 1, 2, none⟩ = some (.slice A2 n2 c2) := hE2.cell 2
  go_wp2_with fail
  clear a0 a1 a2 e0 e1 e2
  have hE1d : Blk wS.drew w.heap.size 67 #[.int .i64 f1, .int .i64 b1, .slice A1 n1 c1] := hE1
  have hE2d : Blk wS.drew (w.heap.size + 1) 67 #[.int .i64 f2, .int .i64 b2, .slice A2 n2 c2] := hE2
  have hE1e : Blk (wS.alloc (.cells #[.int .i64 0, .int .i64 0, .slice none 0 0] 72)).drew w.heap.size 67 #[.int .i64 f1, .int .i64 b1, .slice A1 n1 c1] := hE1.alloc _
  have hE2e : Blk (wS.alloc (.cells #[.int .i64 0, .int .i64 0, .slice none 0 0] 72)).drew (w.heap.size + 1) 67 #[.int .i64 f2, .int .i64 b2, .slice A2 n2 c2] := hE2.alloc _
  have hwd : Below wS.heap.size wS wS.drew := (Below.refl wS.heap.size wS).drew
  have hwe : Below wS.heap.size wS (wS.alloc (.cells #[.int .i64 0, .int .i64 0, .slice none 0 0] 72)).drew := ((Below.refl wS.heap.size wS).alloc (Nat.le_refl _) _).drew
  have hPe : Blk (wS.alloc (.cells #[.int .i64 0, .int .i64 0, .slice none 0 0] 72)).drew wS.heap.size 72 #[.int .i64 0, .int .i64 0, .slice none 0 0] := Blk.new wS _ _
  have hrl : Below w.heap.size w wS := hwS
  have hq2 : w.heap.size + 1 < wS.heap.size := hE2.lt
  go_cut [6, 7] (fun s6 s7 wx => ∃ (p6 : Nat) (A0 : Option Addr) (c0 : Nat), s6 = .pointer (some ⟨p6, 0, none⟩) ∧ s7 = .bool Y ∧ wS.heap.size ≤ p6 ∧ Blk wx p6 72 #[.int .i64 FJ, .int .i64 BJ, .slice A0 NJ c0] ∧ RdT wx wx.heap.size A0 NJ lJ gJ ∧ Below wS.heap.size wS wx)
  case first =>
    go_region_held3 (fun w' => w'.cell? ⟨w.heap.size, 0, none⟩ = some (.int .i64 f1) ∧ w'.cell? ⟨w.heap.size, 1, none⟩ = some (.int .i64 b1) ∧ w'.cell? ⟨w.heap.size, 2, none⟩ = some (.slice A1 n1 c1) ∧ w'.cell? ⟨w.heap.size + 1, 0, none⟩ = some (.int .i64 f2) ∧ w'.cell? ⟨w.heap.size + 1, 1, none⟩ = some (.int .i64 b2) ∧ w'.cell? ⟨w.heap.size + 1, 2, none⟩ = some (.slice A2 n2 c2))
      (first | with_reducible exact heldL hE1d hE2d | with_reducible exact heldL hE1e hE2e | with_reducible exact heldL hE1A hE2A | with_reducible exact heldL (hE1A.alloc _) (hE2A.alloc _) | with_reducible exact heldL hE1B hE2B | with_reducible exact heldL (hE1B.alloc _) (hE2B.alloc _) | with_reducible exact heldL hE1J hE2J | with_reducible exact heldL (hE1J.alloc _) (hE2J.alloc _) | with_reducible exact heldLS hE1J hE2J _ (by omega) _ _ _ | with_reducible exact heldLS (hE1J.alloc _) (hE2J.alloc _) _ (by omega) _ _ _)
      (first
        | (go_at_call_of 62 (Value.agg #[Value.int .i64 f1, Value.int .i64 b1, Value.slice A1 n1 c1]); refine named_calls ?_; intro XA hXA; have hE1x : Blk XA w.heap.size 67 #[.int .i64 f1, .int .i64 b1, .slice A1 n1 c1] := (by first | (rw [hXA]; first | with_reducible exact hE1d | with_reducible exact hE1e) | (first | with_reducible exact hE1d | with_reducible exact hE1e)); have hE2x : Blk XA (w.heap.size + 1) 67 #[.int .i64 f2, .int .i64 b2, .slice A2 n2 c2] := (by first | (rw [hXA]; first | with_reducible exact hE2d | with_reducible exact hE2e) | (first | with_reducible exact hE2d | with_reducible exact hE2e)); have hwx : Below wS.heap.size wS XA := (by first | (rw [hXA]; first | with_reducible exact hwd | with_reducible exact hwe) | (first | with_reducible exact hwd | with_reducible exact hwe)); (first | (have hPx : Blk XA wS.heap.size 72 #[.int .i64 0, .int .i64 0, .slice none 0 0] := (by rw [hXA]; with_reducible exact hPe)) | skip); refine (toE_any f1 b1 A1 n1 c1 len1 g1 XA ((h1.below (hrl.trans (hwx.mono hrl.size))).more (Nat.le_trans hrl.size hwx.size)) hn1 hl1).mono ?_; rintro e wA ⟨bA, rfl, _, raA, hbA⟩; have hE1A := hE1x.on hbA; have hE2A := hE2x.on hbA; have hwA := hwx.trans (hbA.mono hwx.size); have hqA := hE2A.lt; (try have hPA := hPx.on hbA); (try clear hPx); clear hE1x hE2x hwx)
        | (go_at_call_of 62 (Value.agg #[Value.int .i64 f2, Value.int .i64 b2, Value.slice A2 n2 c2]); refine named_calls ?_; intro XB hXB; have hE1x : Blk XB w.heap.size 67 #[.int .i64 f1, .int .i64 b1, .slice A1 n1 c1] := (by first | (rw [hXB]; first | with_reducible exact hE1A | with_reducible exact hE1A.alloc _) | (first | with_reducible exact hE1A | with_reducible exact hE1A.alloc _)); have hE2x : Blk XB (w.heap.size + 1) 67 #[.int .i64 f2, .int .i64 b2, .slice A2 n2 c2] := (by first | (rw [hXB]; first | with_reducible exact hE2A | with_reducible exact hE2A.alloc _) | (first | with_reducible exact hE2A | with_reducible exact hE2A.alloc _)); have hwx : Below wS.heap.size wS XB := (by first | (rw [hXB]; first | with_reducible exact hwA | with_reducible exact hwA.alloc hwA.size _) | (first | with_reducible exact hwA | with_reducible exact hwA.alloc hwA.size _)); have rax : RdT XB XB.heap.size (some ⟨bA, 0, none⟩) n1 len1 g1 := (by first | (rw [hXB]; first | with_reducible exact raA | with_reducible exact raA.al _) | (first | with_reducible exact raA | with_reducible exact raA.al _)); (first | (have hPx : Blk XB wA.heap.size 72 #[.int .i64 0, .int .i64 0, .slice none 0 0] := (by rw [hXB]; with_reducible exact Blk.new wA _ _)) | (have hPx : Blk XB wS.heap.size 72 #[.int .i64 0, .int .i64 0, .slice none 0 0] := (by rw [hXB]; with_reducible exact hPA)) | skip); refine (toE_any f2 b2 A2 n2 c2 len2 g2 XB ((h2.below (hrl.trans (hwx.mono hrl.size))).more (Nat.le_trans hrl.size hwx.size)) hn2 hl2).mono ?_; rintro e wB ⟨bB, rfl, _, rbB, hbB⟩; have raB := rax.to hbB hbB.size; have hE1B := hE1x.on hbB; have hE2B := hE2x.on hbB; have hwB := hwx.trans (hbB.mono hwx.size); have hqB := hE2B.lt; (try have hPB := hPx.on hbB); (try clear hPx); clear hE1x hE2x hwx rax)
        | (go_at_call 69; refine named_calls ?_; intro XJ hXJ; have hE1x : Blk XJ w.heap.size 67 #[.int .i64 f1, .int .i64 b1, .slice A1 n1 c1] := (by first | (rw [hXJ]; first | with_reducible exact hE1B | with_reducible exact hE1B.alloc _) | (first | with_reducible exact hE1B | with_reducible exact hE1B.alloc _)); have hE2x : Blk XJ (w.heap.size + 1) 67 #[.int .i64 f2, .int .i64 b2, .slice A2 n2 c2] := (by first | (rw [hXJ]; first | with_reducible exact hE2B | with_reducible exact hE2B.alloc _) | (first | with_reducible exact hE2B | with_reducible exact hE2B.alloc _)); have hwx : Below wS.heap.size wS XJ := (by first | (rw [hXJ]; first | with_reducible exact hwB | with_reducible exact hwB.alloc hwB.size _) | (first | with_reducible exact hwB | with_reducible exact hwB.alloc hwB.size _)); have rax : RdT XJ XJ.heap.size (some ⟨bA, 0, none⟩) n1 len1 g1 := (by first | (rw [hXJ]; first | with_reducible exact raB | with_reducible exact raB.al _) | (first | with_reducible exact raB | with_reducible exact raB.al _)); have rbx : RdT XJ XJ.heap.size (some ⟨bB, 0, none⟩) n2 len2 g2 := (by first | (rw [hXJ]; first | with_reducible exact rbB | with_reducible exact rbB.al _) | (first | with_reducible exact rbB | with_reducible exact rbB.al _)); (first | (have hPx : Blk XJ wB.heap.size 72 #[.int .i64 0, .int .i64 0, .slice none 0 0] := (by rw [hXJ]; with_reducible exact Blk.new wB _ _); have hpl := hPx.lt) | (have hPx : Blk XJ wA.heap.size 72 #[.int .i64 0, .int .i64 0, .slice none 0 0] := (by rw [hXJ]; with_reducible exact hPB); have hpl := hPx.lt) | (have hPx : Blk XJ wS.heap.size 72 #[.int .i64 0, .int .i64 0, .slice none 0 0] := (by rw [hXJ]; with_reducible exact hPB); have hpl := hPx.lt) | skip); refine (SJN.out (some ⟨bA, 0, none⟩) (some ⟨bB, 0, none⟩) n1 n2 XJ rax rbx).mono ?_; rintro e wJ ⟨A0, c0, rfl, ldJ, hbJ⟩; have hsJ := hbJ.size; have hE1J := hE1x.on hbJ; have hE2J := hE2x.on hbJ; have hwJ := hwx.trans (hbJ.mono hwx.size); have hqJ := hE2J.lt; (try have hPJ := hPx.on hbJ); (try (have p0 := hPJ.cell 0; have p1 := hPJ.cell 1; have p2 := hPJ.cell 2; have p3 := hPJ.frozen 0; have p4 := hPJ.frozen 1; have p5 := hPJ.frozen 2))))
    all_goals
      go_wp2_with fail
      go_meet
      first
        | exact ⟨wJ.heap.size, A0, c0, rfl, rfl, hwJ.size, Blk.new wJ _ _, (ldJ.below ((Below.refl _ _).alloc (Nat.le_refl _) _) (Nat.le_refl _)).rdT, hwJ.alloc hwJ.size _⟩
        | exact ⟨_, A0, c0, rfl, rfl, (by first | exact Nat.le_refl _ | exact hwA.size | exact hwB.size), blk_set3 hPJ rfl _ _ _, (ldJ.keep fun x hx _ => heap_set3 _ (by omega) _ _ _).rdT, below_set3 hwJ (by first | exact Nat.le_refl _ | exact hwA.size | exact hwB.size) _ _ _⟩
  case rest =>
    obtain ⟨p6, A0, c0, rfl, rfl, hp6, hB6, r6, hbC⟩ := hcut
    generalize hWCe : wc = WC at *
    clear hWCe
    have hE1c := hE1.on hbC
    have hE2c := hE2.on hbC
    have hwc := hwS.trans (hbC.mono hwS.size)
    have hwl := hwc.size
    have hp6l := hB6.lt
    have hEl : w.heap.size + 1 < WC.heap.size := hE2c.lt
    have hsC := Nat.le_refl WC.heap.size
    clear hbC hE1 hE2 hwS
    have a0 : WC.cell? ⟨w.heap.size, 0, none⟩ = some (.int .i64 f1) := hE1c.cell 0
    have a1 : WC.cell? ⟨w.heap.size, 1, none⟩ = some (.int .i64 b1) := hE1c.cell 1
    have a2 : WC.cell? ⟨w.heap.size, 2, none⟩ = some (.slice A1 n1 c1) := hE1c.cell 2
    go_wp2_with fail
    refine (toEJ_any f1 b1 A1 n1 c1 len1 g1 _ ((h1.below hwc).more hwc.size) hn1 hl1).mono ?_
    rintro e w9 ⟨x8, rfl, _, ld0, hbq_w9⟩
    have E1_q1 := hE1c.on hbq_w9
    have E2_q1 := hE2c.on hbq_w9
    have B6_q1 := hB6.on hbq_w9
    have r6_q1 := r6.keep fun p hp => hbq_w9.cell (Nat.lt_of_lt_of_le hp hsC)
    have hw_q1 := hwc.trans (hbq_w9.mono hwc.size)
    have sC_q1 := Nat.le_trans hsC hbq_w9.size
    clear hE1c hE2c hB6 r6 hwc hsC
    clear a0 a1 a2
    have hs9 : WC.heap.size ≤ w9.heap.size := hbq_w9.size
    have h0H := Nat.le_refl w9.heap.size
    clear hbq_w9
    have hba_X0 := (Below.refl w9.heap.size w9).alloc (Nat.le_refl _) (.cells #[.int .i64 f1, .int .i64 b1, .slice (some ⟨x8, 0, none⟩) n1 n1] 72)
    have X0N := Blk.new w9 72 #[.int .i64 f1, .int .i64 b1, .slice (some ⟨x8, 0, none⟩) n1 n1]
    have E1_q2 := E1_q1.on hba_X0
    have E2_q2 := E2_q1.on hba_X0
    have B6_q2 := B6_q1.on hba_X0
    have r6_q2 := r6_q1.keep fun p hp => hba_X0.cell (Nat.lt_of_lt_of_le hp sC_q1)
    have hw_q2 := hw_q1.trans (hba_X0.mono hw_q1.size)
    have sC_q2 := Nat.le_trans sC_q1 hba_X0.size
    have x0_q2 := ld0.below hba_X0 h0H
    have x0H_q2 := Nat.le_trans h0H hba_X0.size
    clear E1_q1 E2_q1 B6_q1 r6_q1 hw_q1 sC_q1 ld0 h0H
    clear hba_X0
    have e0 : (w9.alloc (.cells #[.int .i64 f1, .int .i64 b1, .slice (some ⟨x8, 0, none⟩) n1 n1] 72)).cell? ⟨w.heap.size + 1, 0, none⟩ = some (.int .i64 f2) := E2_q2.cell 0
    have e1 : (w9.alloc (.cells #[.int .i64 f1, .int .i64 b1, .slice (some ⟨x8, 0, none⟩) n1 n1] 72)).cell? ⟨w.heap.size + 1, 1, none⟩ = some (.int .i64 b2) := E2_q2.cell 1
    have e2 : (w9.alloc (.cells #[.int .i64 f1, .int .i64 b1, .slice (some ⟨x8, 0, none⟩) n1 n1] 72)).cell? ⟨w.heap.size + 1, 2, none⟩ = some (.slice A2 n2 c2) := E2_q2.cell 2
    go_wp2_with fail
    refine (toEJ_any f2 b2 A2 n2 c2 len2 g2 _ ((h2.below hw_q2).more hw_q2.size) hn2 hl2).mono ?_
    rintro e w10 ⟨x9, rfl, _, ld1', hbq_w10⟩
    have E1_q3 := E1_q2.on hbq_w10
    have E2_q3 := E2_q2.on hbq_w10
    have B6_q3 := B6_q2.on hbq_w10
    have r6_q3 := r6_q2.keep fun p hp => hbq_w10.cell (Nat.lt_of_lt_of_le hp sC_q2)
    have hw_q3 := hw_q2.trans (hbq_w10.mono hw_q2.size)
    have sC_q3 := Nat.le_trans sC_q2 hbq_w10.size
    have x0_q3 := x0_q2.below hbq_w10 x0H_q2
    have x0H_q3 := Nat.le_trans x0H_q2 hbq_w10.size
    have X0_q3 := X0N.on hbq_w10
    clear E1_q2 E2_q2 B6_q2 r6_q2 hw_q2 sC_q2 x0_q2 x0H_q2 X0N
    clear e0 e1 e2
    have hs10 : w9.heap.size + 1 ≤ w10.heap.size := by have := hbq_w10.size; rw [World.size_alloc] at this; exact this
    clear hbq_w10
    have ld1 := ld1'.less (L' := w9.heap.size + 1) (H' := w10.heap.size) (by rw [World.size_alloc]; exact Nat.le_refl _) (Nat.le_refl _)
    clear ld1'
    have h1H := Nat.le_refl w10.heap.size
    have hba_X1 := (Below.refl w10.heap.size w10).alloc (Nat.le_refl _) (.cells #[.int .i64 f2, .int .i64 b2, .slice (some ⟨x9, 0, none⟩) n2 n2] 72)
    have X1N := Blk.new w10 72 #[.int .i64 f2, .int .i64 b2, .slice (some ⟨x9, 0, none⟩) n2 n2]
    have E1_q4 := E1_q3.on hba_X1
    have E2_q4 := E2_q3.on hba_X1
    have B6_q4 := B6_q3.on hba_X1
    have r6_q4 := r6_q3.keep fun p hp => hba_X1.cell (Nat.lt_of_lt_of_le hp sC_q3)
    have hw_q4 := hw_q3.trans (hba_X1.mono hw_q3.size)
    have sC_q4 := Nat.le_trans sC_q3 hba_X1.size
    have x0_q4 := x0_q3.below hba_X1 x0H_q3
    have x0H_q4 := Nat.le_trans x0H_q3 hba_X1.size
    have X0_q4 := X0_q3.on hba_X1
    have x1_q4 := ld1.below hba_X1 h1H
    have x1H_q4 := Nat.le_trans h1H hba_X1.size
    clear E1_q3 E2_q3 B6_q3 r6_q3 hw_q3 sC_q3 x0_q3 x0H_q3 X0_q3 ld1 h1H
    clear hba_X1
    have a0 : (w10.alloc (.cells #[.int .i64 f2, .int .i64 b2, .slice (some ⟨x9, 0, none⟩) n2 n2] 72)).cell? ⟨w9.heap.size, 0, none⟩ = some (.int .i64 f1) := X0_q4.cell 0
    have a1 : (w10.alloc (.cells #[.int .i64 f2, .int .i64 b2, .slice (some ⟨x9, 0, none⟩) n2 n2] 72)).cell? ⟨w9.heap.size, 1, none⟩ = some (.int .i64 b1) := X0_q4.cell 1
    have a2 : (w10.alloc (.cells #[.int .i64 f2, .int .i64 b2, .slice (some ⟨x9, 0, none⟩) n2 n2] 72)).cell? ⟨w9.heap.size, 2, none⟩ = some (.slice (some ⟨x8, 0, none⟩) n1 n1) := X0_q4.cell 2
    have e0 : (w10.alloc (.cells #[.int .i64 f2, .int .i64 b2, .slice (some ⟨x9, 0, none⟩) n2 n2] 72)).cell? ⟨w10.heap.size, 0, none⟩ = some (.int .i64 f2) := X1N.cell 0
    have e1 : (w10.alloc (.cells #[.int .i64 f2, .int .i64 b2, .slice (some ⟨x9, 0, none⟩) n2 n2] 72)).cell? ⟨w10.heap.size, 1, none⟩ = some (.int .i64 b2) := X1N.cell 1
    have e2 : (w10.alloc (.cells #[.int .i64 f2, .int .i64 b2, .slice (some ⟨x9, 0, none⟩) n2 n2] 72)).cell? ⟨w10.heap.size, 2, none⟩ = some (.slice (some ⟨x9, 0, none⟩) n2 n2) := X1N.cell 2
    go_wp2_with fail
    refine (IJ.out (some ⟨x8, 0, none⟩) (some ⟨x9, 0, none⟩) n1 n2 _ x0_q4.rdT x1_q4.rdT).mono ?_
    rintro e w11 ⟨AG, cG, rfl, ldg', hbq_w11⟩
    have E1_q5 := E1_q4.on hbq_w11
    have E2_q5 := E2_q4.on hbq_w11
    have B6_q5 := B6_q4.on hbq_w11
    have r6_q5 := r6_q4.keep fun p hp => hbq_w11.cell (Nat.lt_of_lt_of_le hp sC_q4)
    have hw_q5 := hw_q4.trans (hbq_w11.mono hw_q4.size)
    have sC_q5 := Nat.le_trans sC_q4 hbq_w11.size
    have x0_q5 := x0_q4.below hbq_w11 x0H_q4
    have x0H_q5 := Nat.le_trans x0H_q4 hbq_w11.size
    have X0_q5 := X0_q4.on hbq_w11
    have x1_q5 := x1_q4.below hbq_w11 x1H_q4
    have x1H_q5 := Nat.le_trans x1H_q4 hbq_w11.size
    have X1_q5 := X1N.on hbq_w11
    clear E1_q4 E2_q4 B6_q4 r6_q4 hw_q4 sC_q4 x0_q4 x0H_q4 X0_q4 x1_q4 x1H_q4 X1N
    clear a0 a1 a2 e0 e1 e2
    have hs11 : w10.heap.size + 1 ≤ w11.heap.size := by have := hbq_w11.size; rw [World.size_alloc] at this; exact this
    clear hbq_w11
    have ldg := ldg'.less (L' := w10.heap.size + 1) (H' := w11.heap.size) (by rw [World.size_alloc]; exact Nat.le_refl _) (Nat.le_refl _)
    clear ldg'
    have hgH := Nat.le_refl w11.heap.size
    have hba_G := (Below.refl w11.heap.size w11).alloc (Nat.le_refl _) (.cells #[.int .i64 FJ, .int .i64 BJ, .slice AG NJ cG] 72)
    have GN := Blk.new w11 72 #[.int .i64 FJ, .int .i64 BJ, .slice AG NJ cG]
    have E1_q6 := E1_q5.on hba_G
    have E2_q6 := E2_q5.on hba_G
    have B6_q6 := B6_q5.on hba_G
    have r6_q6 := r6_q5.keep fun p hp => hba_G.cell (Nat.lt_of_lt_of_le hp sC_q5)
    have hw_q6 := hw_q5.trans (hba_G.mono hw_q5.size)
    have sC_q6 := Nat.le_trans sC_q5 hba_G.size
    have x0_q6 := x0_q5.below hba_G x0H_q5
    have x0H_q6 := Nat.le_trans x0H_q5 hba_G.size
    have X0_q6 := X0_q5.on hba_G
    have x1_q6 := x1_q5.below hba_G x1H_q5
    have x1H_q6 := Nat.le_trans x1H_q5 hba_G.size
    have X1_q6 := X1_q5.on hba_G
    have g_q6 := ldg.below hba_G hgH
    have gH_q6 := Nat.le_trans hgH hba_G.size
    clear E1_q5 E2_q5 B6_q5 r6_q5 hw_q5 sC_q5 x0_q5 x0H_q5 X0_q5 x1_q5 x1H_q5 X1_q5 ldg hgH
    clear hba_G
    have a0 : (w11.alloc (.cells #[.int .i64 FJ, .int .i64 BJ, .slice AG NJ cG] 72)).cell? ⟨w11.heap.size, 0, none⟩ = some (.int .i64 FJ) := GN.cell 0
    have a1 : (w11.alloc (.cells #[.int .i64 FJ, .int .i64 BJ, .slice AG NJ cG] 72)).cell? ⟨w11.heap.size, 1, none⟩ = some (.int .i64 BJ) := GN.cell 1
    have a2 : (w11.alloc (.cells #[.int .i64 FJ, .int .i64 BJ, .slice AG NJ cG] 72)).cell? ⟨w11.heap.size, 2, none⟩ = some (.slice AG NJ cG) := GN.cell 2
    have e0 : (w11.alloc (.cells #[.int .i64 FJ, .int .i64 BJ, .slice AG NJ cG] 72)).cell? ⟨p6, 0, none⟩ = some (.int .i64 FJ) := B6_q6.cell 0
    have e1 : (w11.alloc (.cells #[.int .i64 FJ, .int .i64 BJ, .slice AG NJ cG] 72)).cell? ⟨p6, 1, none⟩ = some (.int .i64 BJ) := B6_q6.cell 1
    have e2 : (w11.alloc (.cells #[.int .i64 FJ, .int .i64 BJ, .slice AG NJ cG] 72)).cell? ⟨p6, 2, none⟩ = some (.slice A0 NJ c0) := B6_q6.cell 2
    go_wp2_with fail
    refine (eqE_any FJ BJ AG A0 NJ cG c0 lJ gJ _ g_q6.rdT (r6_q6.more sC_q6) hNJm hlJm).mono ?_
    rintro e w12 ⟨rfl, hbq_w12⟩
    have E1_q7 := E1_q6.on hbq_w12
    have E2_q7 := E2_q6.on hbq_w12
    have B6_q7 := B6_q6.on hbq_w12
    have r6_q7 := r6_q6.keep fun p hp => hbq_w12.cell (Nat.lt_of_lt_of_le hp sC_q6)
    have hw_q7 := hw_q6.trans (hbq_w12.mono hw_q6.size)
    have sC_q7 := Nat.le_trans sC_q6 hbq_w12.size
    have x0_q7 := x0_q6.below hbq_w12 x0H_q6
    have x0H_q7 := Nat.le_trans x0H_q6 hbq_w12.size
    have X0_q7 := X0_q6.on hbq_w12
    have x1_q7 := x1_q6.below hbq_w12 x1H_q6
    have x1H_q7 := Nat.le_trans x1H_q6 hbq_w12.size
    have X1_q7 := X1_q6.on hbq_w12
    have g_q7 := g_q6.below hbq_w12 gH_q6
    have gH_q7 := Nat.le_trans gH_q6 hbq_w12.size
    have G_q7 := GN.on hbq_w12
    clear E1_q6 E2_q6 B6_q6 r6_q6 hw_q6 sC_q6 x0_q6 x0H_q6 X0_q6 x1_q6 x1H_q6 X1_q6 g_q6 gH_q6 GN
    clear hbq_w12
    clear a0 a1 a2 e0 e1 e2
    have a0 : w12.cell? ⟨w9.heap.size, 0, none⟩ = some (.int .i64 f1) := X0_q7.cell 0
    have a1 : w12.cell? ⟨w9.heap.size, 1, none⟩ = some (.int .i64 b1) := X0_q7.cell 1
    have a2 : w12.cell? ⟨w9.heap.size, 2, none⟩ = some (.slice (some ⟨x8, 0, none⟩) n1 n1) := X0_q7.cell 2
    have e0 : w12.cell? ⟨w.heap.size, 0, none⟩ = some (.int .i64 f1) := E1_q7.cell 0
    have e1 : w12.cell? ⟨w.heap.size, 1, none⟩ = some (.int .i64 b1) := E1_q7.cell 1
    have e2 : w12.cell? ⟨w.heap.size, 2, none⟩ = some (.slice A1 n1 c1) := E1_q7.cell 2
    have hrd : RdT w12.drew w12.drew.heap.size (some ⟨x8, 0, none⟩) n1 len1 g1 := x0_q7.rdT
    have hre : RdT w12.drew w12.drew.heap.size A1 n1 len1 g1 := ((h1.below hw_q7).more hw_q7.size)
    have hx1 := X0_q7.lt
    have hx2 := E1_q7.lt
    go_wp2_with fail
    go_region_held3 (fun w' => w'.cell? ⟨w9.heap.size, 0, none⟩ = some (.int .i64 f1) ∧ w'.cell? ⟨w9.heap.size, 1, none⟩ = some (.int .i64 b1) ∧ w'.cell? ⟨w9.heap.size, 2, none⟩ = some (.slice (some ⟨x8, 0, none⟩) n1 n1) ∧ w'.cell? ⟨w.heap.size, 0, none⟩ = some (.int .i64 f1) ∧ w'.cell? ⟨w.heap.size, 1, none⟩ = some (.int .i64 b1) ∧ w'.cell? ⟨w.heap.size, 2, none⟩ = some (.slice A1 n1 c1))
      (first | exact ⟨y0, y1, y2, z0, z1, z2⟩ | exact ⟨u0, u1, u2, v0, v1, v2⟩ | exact ⟨a0, a1, a2, e0, e1, e2⟩ | (simp [go_sem, *]; done))
      (first
        | (go_at_call 62; refine (toE_any f1 b1 A1 n1 c1 len1 g1 w12.drew hre hn1 hl1).mono ?_; rintro e w13 ⟨bt, rfl, _, hrt, hbt⟩; obtain ⟨hcx, hfx⟩ := bcell hbt; have u0 := (hcx (w9.heap.size) _ hx1).trans a0; have u1 := (hcx (w9.heap.size) _ hx1).trans a1; have u2 := (hcx (w9.heap.size) _ hx1).trans a2; have v0 := (hcx (w.heap.size) _ hx2).trans e0; have v1 := (hcx (w.heap.size) _ hx2).trans e1; have v2 := (hcx (w.heap.size) _ hx2).trans e2; have hrd2 := RdT.to (w := w12.drew) hrd hbt hbt.size)
        | (go_at_call 64; refine (eqE_any f1 b1 _ _ n1 n1 n1 len1 g1 _ hrd2 hrt hn1 hl1).mono ?_; rintro e w14 ⟨rfl, hbt2⟩; obtain ⟨hcy, hfy⟩ := bcell hbt2; have hy1 : w9.heap.size < w13.heap.size := Nat.lt_of_lt_of_le hx1 hbt.size; have hy2 : w.heap.size < w13.heap.size := Nat.lt_of_lt_of_le hx2 hbt.size; have y0 := (hcy (w9.heap.size) _ hy1).trans u0; have y1 := (hcy (w9.heap.size) _ hy1).trans u1; have y2 := (hcy (w9.heap.size) _ hy1).trans u2; have z0 := (hcy (w.heap.size) _ hy2).trans v0; have z1 := (hcy (w.heap.size) _ hy2).trans v1; have z2 := (hcy (w.heap.size) _ hy2).trans v2))
    have hbd_w14 : Below w12.heap.size w12 w14 := ((Below.refl w12.heap.size w12).drew.trans (hbt.mono (Nat.le_refl _))).trans (hbt2.mono hbt.size)
    clear u0 u1 u2 v0 v1 v2 y0 y1 y2 z0 z1 z2 hcx hfx hcy hfy hbt hbt2 hrd hre hrd2 hrt hx1 hx2 hy1 hy2 a0 a1 a2 e0 e1 e2
    have E1_q8 := E1_q7.on hbd_w14
    have E2_q8 := E2_q7.on hbd_w14
    have B6_q8 := B6_q7.on hbd_w14
    have r6_q8 := r6_q7.keep fun p hp => hbd_w14.cell (Nat.lt_of_lt_of_le hp sC_q7)
    have hw_q8 := hw_q7.trans (hbd_w14.mono hw_q7.size)
    have sC_q8 := Nat.le_trans sC_q7 hbd_w14.size
    have x0_q8 := x0_q7.below hbd_w14 x0H_q7
    have x0H_q8 := Nat.le_trans x0H_q7 hbd_w14.size
    have X0_q8 := X0_q7.on hbd_w14
    have x1_q8 := x1_q7.below hbd_w14 x1H_q7
    have x1H_q8 := Nat.le_trans x1H_q7 hbd_w14.size
    have X1_q8 := X1_q7.on hbd_w14
    have g_q8 := g_q7.below hbd_w14 gH_q7
    have gH_q8 := Nat.le_trans gH_q7 hbd_w14.size
    have G_q8 := G_q7.on hbd_w14
    clear E1_q7 E2_q7 B6_q7 r6_q7 hw_q7 sC_q7 x0_q7 x0H_q7 X0_q7 x1_q7 x1H_q7 X1_q7 g_q7 gH_q7 G_q7
    clear hbd_w14
    have a0 : w14.cell? ⟨w10.heap.size, 0, none⟩ = some (.int .i64 f2) := X1_q8.cell 0
    have a1 : w14.cell? ⟨w10.heap.size, 1, none⟩ = some (.int .i64 b2) := X1_q8.cell 1
    have a2 : w14.cell? ⟨w10.heap.size, 2, none⟩ = some (.slice (some ⟨x9, 0, none⟩) n2 n2) := X1_q8.cell 2
    have e0 : w14.cell? ⟨w.heap.size + 1, 0, none⟩ = some (.int .i64 f2) := E2_q8.cell 0
    have e1 : w14.cell? ⟨w.heap.size + 1, 1, none⟩ = some (.int .i64 b2) := E2_q8.cell 1
    have e2 : w14.cell? ⟨w.heap.size + 1, 2, none⟩ = some (.slice A2 n2 c2) := E2_q8.cell 2
    have hrd : RdT w14.drew w14.drew.heap.size (some ⟨x9, 0, none⟩) n2 len2 g2 := x1_q8.rdT
    have hre : RdT w14.drew w14.drew.heap.size A2 n2 len2 g2 := ((h2.below hw_q8).more hw_q8.size)
    have hx1 := X1_q8.lt
    have hx2 := E2_q8.lt
    go_wp2_with fail
    go_region_held3 (fun w' => w'.cell? ⟨w10.heap.size, 0, none⟩ = some (.int .i64 f2) ∧ w'.cell? ⟨w10.heap.size, 1, none⟩ = some (.int .i64 b2) ∧ w'.cell? ⟨w10.heap.size, 2, none⟩ = some (.slice (some ⟨x9, 0, none⟩) n2 n2) ∧ w'.cell? ⟨w.heap.size + 1, 0, none⟩ = some (.int .i64 f2) ∧ w'.cell? ⟨w.heap.size + 1, 1, none⟩ = some (.int .i64 b2) ∧ w'.cell? ⟨w.heap.size + 1, 2, none⟩ = some (.slice A2 n2 c2))
      (first | exact ⟨y0, y1, y2, z0, z1, z2⟩ | exact ⟨u0, u1, u2, v0, v1, v2⟩ | exact ⟨a0, a1, a2, e0, e1, e2⟩ | (simp [go_sem, *]; done))
      (first
        | (go_at_call 62; refine (toE_any f2 b2 A2 n2 c2 len2 g2 w14.drew hre hn2 hl2).mono ?_; rintro e w15 ⟨bt, rfl, _, hrt, hbt⟩; obtain ⟨hcx, hfx⟩ := bcell hbt; have u0 := (hcx (w10.heap.size) _ hx1).trans a0; have u1 := (hcx (w10.heap.size) _ hx1).trans a1; have u2 := (hcx (w10.heap.size) _ hx1).trans a2; have v0 := (hcx (w.heap.size + 1) _ hx2).trans e0; have v1 := (hcx (w.heap.size + 1) _ hx2).trans e1; have v2 := (hcx (w.heap.size + 1) _ hx2).trans e2; have hrd2 := RdT.to (w := w14.drew) hrd hbt hbt.size)
        | (go_at_call 64; refine (eqE_any f2 b2 _ _ n2 n2 n2 len2 g2 _ hrd2 hrt hn2 hl2).mono ?_; rintro e w16 ⟨rfl, hbt2⟩; obtain ⟨hcy, hfy⟩ := bcell hbt2; have hy1 : w10.heap.size < w15.heap.size := Nat.lt_of_lt_of_le hx1 hbt.size; have hy2 : w.heap.size + 1 < w15.heap.size := Nat.lt_of_lt_of_le hx2 hbt.size; have y0 := (hcy (w10.heap.size) _ hy1).trans u0; have y1 := (hcy (w10.heap.size) _ hy1).trans u1; have y2 := (hcy (w10.heap.size) _ hy1).trans u2; have z0 := (hcy (w.heap.size + 1) _ hy2).trans v0; have z1 := (hcy (w.heap.size + 1) _ hy2).trans v1; have z2 := (hcy (w.heap.size + 1) _ hy2).trans v2))
    have hbd_w16 : Below w14.heap.size w14 w16 := ((Below.refl w14.heap.size w14).drew.trans (hbt.mono (Nat.le_refl _))).trans (hbt2.mono hbt.size)
    clear u0 u1 u2 v0 v1 v2 y0 y1 y2 z0 z1 z2 hcx hfx hcy hfy hbt hbt2 hrd hre hrd2 hrt hx1 hx2 hy1 hy2 a0 a1 a2 e0 e1 e2
    have E1_q9 := E1_q8.on hbd_w16
    have E2_q9 := E2_q8.on hbd_w16
    have B6_q9 := B6_q8.on hbd_w16
    have r6_q9 := r6_q8.keep fun p hp => hbd_w16.cell (Nat.lt_of_lt_of_le hp sC_q8)
    have hw_q9 := hw_q8.trans (hbd_w16.mono hw_q8.size)
    have sC_q9 := Nat.le_trans sC_q8 hbd_w16.size
    have x0_q9 := x0_q8.below hbd_w16 x0H_q8
    have x0H_q9 := Nat.le_trans x0H_q8 hbd_w16.size
    have X0_q9 := X0_q8.on hbd_w16
    have x1_q9 := x1_q8.below hbd_w16 x1H_q8
    have x1H_q9 := Nat.le_trans x1H_q8 hbd_w16.size
    have X1_q9 := X1_q8.on hbd_w16
    have g_q9 := g_q8.below hbd_w16 gH_q8
    have gH_q9 := Nat.le_trans gH_q8 hbd_w16.size
    have G_q9 := G_q8.on hbd_w16
    clear E1_q8 E2_q8 B6_q8 r6_q8 hw_q8 sC_q8 x0_q8 x0H_q8 X0_q8 x1_q8 x1H_q8 X1_q8 g_q8 gH_q8 G_q8
    clear hbd_w16
    have a0 : w16.cell? ⟨w9.heap.size, 0, none⟩ = some (.int .i64 f1) := X0_q9.cell 0
    have a1 : w16.cell? ⟨w9.heap.size, 1, none⟩ = some (.int .i64 b1) := X0_q9.cell 1
    have a2 : w16.cell? ⟨w9.heap.size, 2, none⟩ = some (.slice (some ⟨x8, 0, none⟩) n1 n1) := X0_q9.cell 2
    go_wp2_with fail
    refine (markE_any f1 b1 WC.heap.size w9.heap.size n1 n1 (some ⟨x8, 0, none⟩) len1 g1 1 _ x0_q9 x0H_q9 hn1 S1 (by omega) (by omega) hC1).mono ?_
    rintro e w17 ⟨rfl, lm_x0, hk_x0⟩
    obtain ⟨q1, hq1⟩ : ∃ q : Int, 1 + 6 * ((cumL len1 n1 : Nat) : Int) = q := ⟨_, rfl⟩
    rw [hq1]
    have q1_0 : 0 ≤ q1 := by omega
    have q1_1 : q1 ≤ 30000000000001 := by omega
    have q1_2 : ¬ q1 < 0 := by omega
    have HHq1 := hid hq1
    clear hq1
    clear a0 a1 a2
    have E1_q10 := E1_q9.kept hk_x0 (by omega)
    have E2_q10 := E2_q9.kept hk_x0 (by omega)
    have B6_q10 := B6_q9.kept hk_x0 (by omega)
    have r6_q10 := r6_q9.keep fun p hp => World.cell?_of_block (hk_x0.2.2.2.2 p.block (Nat.lt_of_lt_of_le hp sC_q9) (.inl (by omega)))
    have hw_q10 := hk_x0.below hw_q9 (by omega) hw_q9.size
    have sC_q10 := Nat.le_trans sC_q9 hk_x0.2.2.2.1
    have x0H_q10 := Nat.le_trans x0H_q9 hk_x0.2.2.2.1
    have X0_q10 := X0_q9.kept hk_x0 (by omega)
    have x1_q10 := x1_q9.kept hk_x0 (by omega) x1H_q9
    have x1H_q10 := Nat.le_trans x1H_q9 hk_x0.2.2.2.1
    have X1_q10 := X1_q9.kept hk_x0 (by omega)
    have g_q10 := g_q9.kept hk_x0 (by omega) gH_q9
    have gH_q10 := Nat.le_trans gH_q9 hk_x0.2.2.2.1
    have G_q10 := G_q9.kept hk_x0 (by omega)
    clear E1_q9 E2_q9 B6_q9 r6_q9 hw_q9 sC_q9 x0H_q9 X0_q9 x1_q9 x1H_q9 X1_q9 g_q9 gH_q9 G_q9
    clear x0_q9
    have hkd_x0 := hid hk_x0
    clear hk_x0
    have a0 : w17.cell? ⟨w10.heap.size, 0, none⟩ = some (.int .i64 f2) := X1_q10.cell 0
    have a1 : w17.cell? ⟨w10.heap.size, 1, none⟩ = some (.int .i64 b2) := X1_q10.cell 1
    have a2 : w17.cell? ⟨w10.heap.size, 2, none⟩ = some (.slice (some ⟨x9, 0, none⟩) n2 n2) := X1_q10.cell 2
    go_wp2_with fail
    refine (markE_any f2 b2 (w9.heap.size + 1) w10.heap.size n2 n2 (some ⟨x9, 0, none⟩) len2 g2 q1 _ x1_q10 x1H_q10 hn2 S2 q1_0 (by omega) hC2).mono ?_
    rintro e w18 ⟨rfl, lm_x1, hk_x1⟩
    obtain ⟨q2, hq2⟩ : ∃ q : Int, q1 + 6 * ((cumL len2 n2 : Nat) : Int) = q := ⟨_, rfl⟩
    rw [hq2]
    have q2_0 : 0 ≤ q2 := by omega
    have q2_1 : q2 ≤ 60000000000001 := by omega
    have q2_2 : ¬ q2 < 0 := by omega
    have HHq2 := hid hq2
    clear hq2
    clear a0 a1 a2
    have E1_q11 := E1_q10.kept hk_x1 (by omega)
    have E2_q11 := E2_q10.kept hk_x1 (by omega)
    have B6_q11 := B6_q10.kept hk_x1 (by omega)
    have r6_q11 := r6_q10.keep fun p hp => World.cell?_of_block (hk_x1.2.2.2.2 p.block (Nat.lt_of_lt_of_le hp sC_q10) (.inl (by omega)))
    have hw_q11 := hk_x1.below hw_q10 (by omega) hw_q10.size
    have sC_q11 := Nat.le_trans sC_q10 hk_x1.2.2.2.1
    have x0H_q11 := Nat.le_trans x0H_q10 hk_x1.2.2.2.1
    have X0_q11 := X0_q10.kept hk_x1 (by omega)
    have x1H_q11 := Nat.le_trans x1H_q10 hk_x1.2.2.2.1
    have X1_q11 := X1_q10.kept hk_x1 (by omega)
    have g_q11 := g_q10.kept hk_x1 (by omega) gH_q10
    have gH_q11 := Nat.le_trans gH_q10 hk_x1.2.2.2.1
    have G_q11 := G_q10.kept hk_x1 (by omega)
    have x0_q11 := lm_x0.kept hk_x1 (by omega) x0H_q10
    clear E1_q10 E2_q10 B6_q10 r6_q10 hw_q10 sC_q10 x0H_q10 X0_q10 x1H_q10 X1_q10 g_q10 gH_q10 G_q10 lm_x0
    clear x1_q10
    have hkd_x1 := hid hk_x1
    clear hk_x1
    have a0 : w18.cell? ⟨w11.heap.size, 0, none⟩ = some (.int .i64 FJ) := G_q11.cell 0
    have a1 : w18.cell? ⟨w11.heap.size, 1, none⟩ = some (.int .i64 BJ) := G_q11.cell 1
    have a2 : w18.cell? ⟨w11.heap.size, 2, none⟩ = some (.slice AG NJ cG) := G_q11.cell 2
    have e0 : w18.cell? ⟨p6, 0, none⟩ = some (.int .i64 FJ) := B6_q11.cell 0
    have e1 : w18.cell? ⟨p6, 1, none⟩ = some (.int .i64 BJ) := B6_q11.cell 1
    have e2 : w18.cell? ⟨p6, 2, none⟩ = some (.slice A0 NJ c0) := B6_q11.cell 2
    go_wp2_with fail
    refine (eqE_any FJ BJ AG A0 NJ cG c0 lJ gJ _ g_q11.rdT (r6_q11.more sC_q11) hNJm hlJm).mono ?_
    rintro e w19 ⟨rfl, hbq_w19⟩
    have E1_q12 := E1_q11.on hbq_w19
    have E2_q12 := E2_q11.on hbq_w19
    have B6_q12 := B6_q11.on hbq_w19
    have r6_q12 := r6_q11.keep fun p hp => hbq_w19.cell (Nat.lt_of_lt_of_le hp sC_q11)
    have hw_q12 := hw_q11.trans (hbq_w19.mono hw_q11.size)
    have sC_q12 := Nat.le_trans sC_q11 hbq_w19.size
    have x0H_q12 := Nat.le_trans x0H_q11 hbq_w19.size
    have X0_q12 := X0_q11.on hbq_w19
    have x1H_q12 := Nat.le_trans x1H_q11 hbq_w19.size
    have X1_q12 := X1_q11.on hbq_w19
    have g_q12 := g_q11.below hbq_w19 gH_q11
    have gH_q12 := Nat.le_trans gH_q11 hbq_w19.size
    have G_q12 := G_q11.on hbq_w19
    have x0_q12 := x0_q11.below hbq_w19 x0H_q11
    have x1_q12 := lm_x1.below hbq_w19 x1H_q11
    clear E1_q11 E2_q11 B6_q11 r6_q11 hw_q11 sC_q11 x0H_q11 X0_q11 x1H_q11 X1_q11 g_q11 gH_q11 G_q11 x0_q11 lm_x1
    clear hbq_w19
    clear a0 a1 a2 e0 e1 e2
    have a0 : w19.cell? ⟨w11.heap.size, 0, none⟩ = some (.int .i64 FJ) := G_q12.cell 0
    have a1 : w19.cell? ⟨w11.heap.size, 1, none⟩ = some (.int .i64 BJ) := G_q12.cell 1
    have a2 : w19.cell? ⟨w11.heap.size, 2, none⟩ = some (.slice AG NJ cG) := G_q12.cell 2
    go_wp2_with fail
    refine (markE_any FJ BJ (w10.heap.size + 1) w11.heap.size NJ cG AG lJ gJ 1 _ g_q12 gH_q12 hNJm SJ (by omega) (by omega) hCJ).mono ?_
    rintro e w20 ⟨rfl, lm_g, hk_g⟩
    obtain ⟨qJ, hqJ⟩ : ∃ q : Int, 1 + 6 * ((cumL lJ NJ : Nat) : Int) = q := ⟨_, rfl⟩
    rw [hqJ]
    have qJ_0 : 0 ≤ qJ := by omega
    have qJ_1 : qJ ≤ 30000000000001 := by omega
    have qJ_2 : ¬ qJ < 0 := by omega
    have HHqJ := hid hqJ
    clear hqJ
    clear a0 a1 a2
    have E1_q13 := E1_q12.kept hk_g (by omega)
    have E2_q13 := E2_q12.kept hk_g (by omega)
    have B6_q13 := B6_q12.kept hk_g (by omega)
    have r6_q13 := r6_q12.keep fun p hp => World.cell?_of_block (hk_g.2.2.2.2 p.block (Nat.lt_of_lt_of_le hp sC_q12) (.inl (by omega)))
    have hw_q13 := hk_g.below hw_q12 (by omega) hw_q12.size
    have sC_q13 := Nat.le_trans sC_q12 hk_g.2.2.2.1
    have x0H_q13 := Nat.le_trans x0H_q12 hk_g.2.2.2.1
    have X0_q13 := X0_q12.kept hk_g (by omega)
    have x1H_q13 := Nat.le_trans x1H_q12 hk_g.2.2.2.1
    have X1_q13 := X1_q12.kept hk_g (by omega)
    have gH_q13 := Nat.le_trans gH_q12 hk_g.2.2.2.1
    have G_q13 := G_q12.kept hk_g (by omega)
    have x0_q13 := x0_q12.kept hk_g (by omega) x0H_q12
    have x1_q13 := x1_q12.kept hk_g (by omega) x1H_q12
    clear E1_q12 E2_q12 B6_q12 r6_q12 hw_q12 sC_q12 x0H_q12 X0_q12 x1H_q12 X1_q12 gH_q12 G_q12 x0_q12 x1_q12
    clear g_q12
    have hkd_g := hid hk_g
    clear hk_g
    have hqn : (qJ != qJ) = false := by simp
    have a0 : w20.cell? ⟨w11.heap.size, 0, none⟩ = some (.int .i64 FJ) := G_q13.cell 0
    have a1 : w20.cell? ⟨w11.heap.size, 1, none⟩ = some (.int .i64 BJ) := G_q13.cell 1
    have a2 : w20.cell? ⟨w11.heap.size, 2, none⟩ = some (.slice AG NJ cG) := G_q13.cell 2
    go_wp2_with fail
    refine (heldE_any FJ BJ (w10.heap.size + 1) w11.heap.size NJ cG AG lJ 1 _ lm_g gH_q13 hNJm SJ (by omega) (by omega) hCJ).mono ?_
    rintro e w21 ⟨rfl, hbq_w21⟩
    have E1_q14 := E1_q13.on hbq_w21
    have E2_q14 := E2_q13.on hbq_w21
    have B6_q14 := B6_q13.on hbq_w21
    have r6_q14 := r6_q13.keep fun p hp => hbq_w21.cell (Nat.lt_of_lt_of_le hp sC_q13)
    have hw_q14 := hw_q13.trans (hbq_w21.mono hw_q13.size)
    have sC_q14 := Nat.le_trans sC_q13 hbq_w21.size
    have x0H_q14 := Nat.le_trans x0H_q13 hbq_w21.size
    have X0_q14 := X0_q13.on hbq_w21
    have x1H_q14 := Nat.le_trans x1H_q13 hbq_w21.size
    have X1_q14 := X1_q13.on hbq_w21
    have gH_q14 := Nat.le_trans gH_q13 hbq_w21.size
    have G_q14 := G_q13.on hbq_w21
    have x0_q14 := x0_q13.below hbq_w21 x0H_q13
    have x1_q14 := x1_q13.below hbq_w21 x1H_q13
    have g_q14 := lm_g.below hbq_w21 gH_q13
    clear E1_q13 E2_q13 B6_q13 r6_q13 hw_q13 sC_q13 x0H_q13 X0_q13 x1H_q13 X1_q13 gH_q13 G_q13 x0_q13 x1_q13 lm_g
    clear hbq_w21
    rw [HHqJ.out]
    clear a0 a1 a2
    have hE1q := E1_q14
    have hE2q := E2_q14
    have hwEb := hw_q14
    have a0 : w21.cell? ⟨w.heap.size, 0, none⟩ = some (.int .i64 f1) := E1_q14.cell 0
    have a1 : w21.cell? ⟨w.heap.size, 1, none⟩ = some (.int .i64 b1) := E1_q14.cell 1
    have a2 : w21.cell? ⟨w.heap.size, 2, none⟩ = some (.slice A1 n1 c1) := E1_q14.cell 2
    have e0 : w21.cell? ⟨w.heap.size + 1, 0, none⟩ = some (.int .i64 f2) := E2_q14.cell 0
    have e1 : w21.cell? ⟨w.heap.size + 1, 1, none⟩ = some (.int .i64 b2) := E2_q14.cell 1
    have e2 : w21.cell? ⟨w.heap.size + 1, 2, none⟩ = some (.slice A2 n2 c2) := E2_q14.cell 2
    go_wp2_with fail
    clear a0 a1 a2 e0 e1 e2
    have hE1d : Blk w21.drew w.heap.size 67 #[.int .i64 f1, .int .i64 b1, .slice A1 n1 c1] := hE1q
    have hE2d : Blk w21.drew (w.heap.size + 1) 67 #[.int .i64 f2, .int .i64 b2, .slice A2 n2 c2] := hE2q
    have hE1e : Blk (w21.alloc (.cells #[.int .i64 0, .int .i64 0, .slice none 0 0] 72)).drew w.heap.size 67 #[.int .i64 f1, .int .i64 b1, .slice A1 n1 c1] := hE1q.alloc _
    have hE2e : Blk (w21.alloc (.cells #[.int .i64 0, .int .i64 0, .slice none 0 0] 72)).drew (w.heap.size + 1) 67 #[.int .i64 f2, .int .i64 b2, .slice A2 n2 c2] := hE2q.alloc _
    have hwd : Below w21.heap.size w21 w21.drew := (Below.refl w21.heap.size w21).drew
    have hwe : Below w21.heap.size w21 (w21.alloc (.cells #[.int .i64 0, .int .i64 0, .slice none 0 0] 72)).drew := ((Below.refl w21.heap.size w21).alloc (Nat.le_refl _) _).drew
    have hPe : Blk (w21.alloc (.cells #[.int .i64 0, .int .i64 0, .slice none 0 0] 72)).drew w21.heap.size 72 #[.int .i64 0, .int .i64 0, .slice none 0 0] := Blk.new w21 _ _
    have hrl : Below w.heap.size w w21 := hwEb
    have hq2 : w.heap.size + 1 < w21.heap.size := hE2q.lt
    go_cut [15, 16] (fun s6 s7 wx => ∃ (p6 : Nat) (A0 : Option Addr) (c0 : Nat), s6 = .pointer (some ⟨p6, 0, none⟩) ∧ s7 = .bool Y ∧ w21.heap.size ≤ p6 ∧ Blk wx p6 72 #[.int .i64 FJ, .int .i64 BJ, .slice A0 NJ c0] ∧ RdT wx wx.heap.size A0 NJ lJ gJ ∧ Below w21.heap.size w21 wx)
    case first =>
      go_region_held3 (fun w' => w'.cell? ⟨w.heap.size, 0, none⟩ = some (.int .i64 f1) ∧ w'.cell? ⟨w.heap.size, 1, none⟩ = some (.int .i64 b1) ∧ w'.cell? ⟨w.heap.size, 2, none⟩ = some (.slice A1 n1 c1) ∧ w'.cell? ⟨w.heap.size + 1, 0, none⟩ = some (.int .i64 f2) ∧ w'.cell? ⟨w.heap.size + 1, 1, none⟩ = some (.int .i64 b2) ∧ w'.cell? ⟨w.heap.size + 1, 2, none⟩ = some (.slice A2 n2 c2))
        (first | with_reducible exact heldL hE1d hE2d | with_reducible exact heldL hE1e hE2e | with_reducible exact heldL hE1A hE2A | with_reducible exact heldL (hE1A.alloc _) (hE2A.alloc _) | with_reducible exact heldL hE1B hE2B | with_reducible exact heldL (hE1B.alloc _) (hE2B.alloc _) | with_reducible exact heldL hE1J hE2J | with_reducible exact heldL (hE1J.alloc _) (hE2J.alloc _) | with_reducible exact heldLS hE1J hE2J _ (by omega) _ _ _ | with_reducible exact heldLS (hE1J.alloc _) (hE2J.alloc _) _ (by omega) _ _ _)
        (first
          | (go_at_call_of 62 (Value.agg #[Value.int .i64 f1, Value.int .i64 b1, Value.slice A1 n1 c1]); refine named_calls ?_; intro XA hXA; have hE1x : Blk XA w.heap.size 67 #[.int .i64 f1, .int .i64 b1, .slice A1 n1 c1] := (by first | (rw [hXA]; first | with_reducible exact hE1d | with_reducible exact hE1e) | (first | with_reducible exact hE1d | with_reducible exact hE1e)); have hE2x : Blk XA (w.heap.size + 1) 67 #[.int .i64 f2, .int .i64 b2, .slice A2 n2 c2] := (by first | (rw [hXA]; first | with_reducible exact hE2d | with_reducible exact hE2e) | (first | with_reducible exact hE2d | with_reducible exact hE2e)); have hwx : Below w21.heap.size w21 XA := (by first | (rw [hXA]; first | with_reducible exact hwd | with_reducible exact hwe) | (first | with_reducible exact hwd | with_reducible exact hwe)); (first | (have hPx : Blk XA w21.heap.size 72 #[.int .i64 0, .int .i64 0, .slice none 0 0] := (by rw [hXA]; with_reducible exact hPe)) | skip); refine (toE_any f1 b1 A1 n1 c1 len1 g1 XA ((h1.below (hrl.trans (hwx.mono hrl.size))).more (Nat.le_trans hrl.size hwx.size)) hn1 hl1).mono ?_; rintro e wA ⟨bA, rfl, _, raA, hbA⟩; have hE1A := hE1x.on hbA; have hE2A := hE2x.on hbA; have hwA := hwx.trans (hbA.mono hwx.size); have hqA := hE2A.lt; (try have hPA := hPx.on hbA); (try clear hPx); clear hE1x hE2x hwx)
          | (go_at_call_of 62 (Value.agg #[Value.int .i64 f2, Value.int .i64 b2, Value.slice A2 n2 c2]); refine named_calls ?_; intro XB hXB; have hE1x : Blk XB w.heap.size 67 #[.int .i64 f1, .int .i64 b1, .slice A1 n1 c1] := (by first | (rw [hXB]; first | with_reducible exact hE1A | with_reducible exact hE1A.alloc _) | (first | with_reducible exact hE1A | with_reducible exact hE1A.alloc _)); have hE2x : Blk XB (w.heap.size + 1) 67 #[.int .i64 f2, .int .i64 b2, .slice A2 n2 c2] := (by first | (rw [hXB]; first | with_reducible exact hE2A | with_reducible exact hE2A.alloc _) | (first | with_reducible exact hE2A | with_reducible exact hE2A.alloc _)); have hwx : Below w21.heap.size w21 XB := (by first | (rw [hXB]; first | with_reducible exact hwA | with_reducible exact hwA.alloc hwA.size _) | (first | with_reducible exact hwA | with_reducible exact hwA.alloc hwA.size _)); have rax : RdT XB XB.heap.size (some ⟨bA, 0, none⟩) n1 len1 g1 := (by first | (rw [hXB]; first | with_reducible exact raA | with_reducible exact raA.al _) | (first | with_reducible exact raA | with_reducible exact raA.al _)); (first | (have hPx : Blk XB wA.heap.size 72 #[.int .i64 0, .int .i64 0, .slice none 0 0] := (by rw [hXB]; with_reducible exact Blk.new wA _ _)) | (have hPx : Blk XB w21.heap.size 72 #[.int .i64 0, .int .i64 0, .slice none 0 0] := (by rw [hXB]; with_reducible exact hPA)) | skip); refine (toE_any f2 b2 A2 n2 c2 len2 g2 XB ((h2.below (hrl.trans (hwx.mono hrl.size))).more (Nat.le_trans hrl.size hwx.size)) hn2 hl2).mono ?_; rintro e wB ⟨bB, rfl, _, rbB, hbB⟩; have raB := rax.to hbB hbB.size; have hE1B := hE1x.on hbB; have hE2B := hE2x.on hbB; have hwB := hwx.trans (hbB.mono hwx.size); have hqB := hE2B.lt; (try have hPB := hPx.on hbB); (try clear hPx); clear hE1x hE2x hwx rax)
          | (go_at_call 70; refine named_calls ?_; intro XJ hXJ; have hE1x : Blk XJ w.heap.size 67 #[.int .i64 f1, .int .i64 b1, .slice A1 n1 c1] := (by first | (rw [hXJ]; first | with_reducible exact hE1B | with_reducible exact hE1B.alloc _) | (first | with_reducible exact hE1B | with_reducible exact hE1B.alloc _)); have hE2x : Blk XJ (w.heap.size + 1) 67 #[.int .i64 f2, .int .i64 b2, .slice A2 n2 c2] := (by first | (rw [hXJ]; first | with_reducible exact hE2B | with_reducible exact hE2B.alloc _) | (first | with_reducible exact hE2B | with_reducible exact hE2B.alloc _)); have hwx : Below w21.heap.size w21 XJ := (by first | (rw [hXJ]; first | with_reducible exact hwB | with_reducible exact hwB.alloc hwB.size _) | (first | with_reducible exact hwB | with_reducible exact hwB.alloc hwB.size _)); have rax : RdT XJ XJ.heap.size (some ⟨bA, 0, none⟩) n1 len1 g1 := (by first | (rw [hXJ]; first | with_reducible exact raB | with_reducible exact raB.al _) | (first | with_reducible exact raB | with_reducible exact raB.al _)); have rbx : RdT XJ XJ.heap.size (some ⟨bB, 0, none⟩) n2 len2 g2 := (by first | (rw [hXJ]; first | with_reducible exact rbB | with_reducible exact rbB.al _) | (first | with_reducible exact rbB | with_reducible exact rbB.al _)); (first | (have hPx : Blk XJ wB.heap.size 72 #[.int .i64 0, .int .i64 0, .slice none 0 0] := (by rw [hXJ]; with_reducible exact Blk.new wB _ _); have hpl := hPx.lt) | (have hPx : Blk XJ wA.heap.size 72 #[.int .i64 0, .int .i64 0, .slice none 0 0] := (by rw [hXJ]; with_reducible exact hPB); have hpl := hPx.lt) | (have hPx : Blk XJ w21.heap.size 72 #[.int .i64 0, .int .i64 0, .slice none 0 0] := (by rw [hXJ]; with_reducible exact hPB); have hpl := hPx.lt) | skip); refine (IJ.out (some ⟨bA, 0, none⟩) (some ⟨bB, 0, none⟩) n1 n2 XJ rax rbx).mono ?_; rintro e wJ ⟨A0, c0, rfl, ldJ, hbJ⟩; have hsJ := hbJ.size; have hE1J := hE1x.on hbJ; have hE2J := hE2x.on hbJ; have hwJ := hwx.trans (hbJ.mono hwx.size); have hqJ := hE2J.lt; (try have hPJ := hPx.on hbJ); (try (have p0 := hPJ.cell 0; have p1 := hPJ.cell 1; have p2 := hPJ.cell 2; have p3 := hPJ.frozen 0; have p4 := hPJ.frozen 1; have p5 := hPJ.frozen 2))))
      all_goals
        go_wp2_with fail
        go_meet
        first
          | exact ⟨wJ.heap.size, A0, c0, rfl, rfl, hwJ.size, Blk.new wJ _ _, (ldJ.below ((Below.refl _ _).alloc (Nat.le_refl _) _) (Nat.le_refl _)).rdT, hwJ.alloc hwJ.size _⟩
          | exact ⟨_, A0, c0, rfl, rfl, (by first | exact Nat.le_refl _ | exact hwA.size | exact hwB.size), blk_set3 hPJ rfl _ _ _, (ldJ.keep fun x hx _ => heap_set3 _ (by omega) _ _ _).rdT, below_set3 hwJ (by first | exact Nat.le_refl _ | exact hwA.size | exact hwB.size) _ _ _⟩
    case rest =>
      obtain ⟨p15, A5, c5, rfl, rfl, hp15, hB15, r15, hbD⟩ := hcut
      clear hE1q hE2q hwEb hE1d hE2d hE1e hE2e hwd hwe hPe hrl
      have E1_q15 := E1_q14.on hbD
      have E2_q15 := E2_q14.on hbD
      have B6_q15 := B6_q14.on hbD
      have r6_q15 := r6_q14.keep fun p hp => hbD.cell (Nat.lt_of_lt_of_le hp sC_q14)
      have hw_q15 := hw_q14.trans (hbD.mono hw_q14.size)
      have sC_q15 := Nat.le_trans sC_q14 hbD.size
      have x0H_q15 := Nat.le_trans x0H_q14 hbD.size
      have X0_q15 := X0_q14.on hbD
      have x1H_q15 := Nat.le_trans x1H_q14 hbD.size
      have X1_q15 := X1_q14.on hbD
      have gH_q15 := Nat.le_trans gH_q14 hbD.size
      have G_q15 := G_q14.on hbD
      have x0_q15 := x0_q14.below hbD x0H_q14
      have x1_q15 := x1_q14.below hbD x1H_q14
      have g_q15 := g_q14.below hbD gH_q14
      clear E1_q14 E2_q14 B6_q14 r6_q14 hw_q14 sC_q14 x0H_q14 X0_q14 x1H_q14 X1_q14 gH_q14 G_q14 x0_q14 x1_q14 g_q14
      clear hbD
      have a0 : wc.cell? ⟨p15, 0, none⟩ = some (.int .i64 FJ) := hB15.cell 0
      have a1 : wc.cell? ⟨p15, 1, none⟩ = some (.int .i64 BJ) := hB15.cell 1
      have a2 : wc.cell? ⟨p15, 2, none⟩ = some (.slice A5 NJ c5) := hB15.cell 2
      have e0 : wc.cell? ⟨p6, 0, none⟩ = some (.int .i64 FJ) := B6_q15.cell 0
      have e1 : wc.cell? ⟨p6, 1, none⟩ = some (.int .i64 BJ) := B6_q15.cell 1
      have e2 : wc.cell? ⟨p6, 2, none⟩ = some (.slice A0 NJ c0) := B6_q15.cell 2
      go_wp2_with fail
      refine (eqE_any FJ BJ A5 A0 NJ c5 c0 lJ gJ _ r15 (r6_q15.more sC_q15) hNJm hlJm).mono ?_
      rintro e w23 ⟨rfl, hbq_w23⟩
      have E1_q16 := E1_q15.on hbq_w23
      have E2_q16 := E2_q15.on hbq_w23
      have B6_q16 := B6_q15.on hbq_w23
      have r6_q16 := r6_q15.keep fun p hp => hbq_w23.cell (Nat.lt_of_lt_of_le hp sC_q15)
      have hw_q16 := hw_q15.trans (hbq_w23.mono hw_q15.size)
      have sC_q16 := Nat.le_trans sC_q15 hbq_w23.size
      have x0H_q16 := Nat.le_trans x0H_q15 hbq_w23.size
      have X0_q16 := X0_q15.on hbq_w23
      have x1H_q16 := Nat.le_trans x1H_q15 hbq_w23.size
      have X1_q16 := X1_q15.on hbq_w23
      have gH_q16 := Nat.le_trans gH_q15 hbq_w23.size
      have G_q16 := G_q15.on hbq_w23
      have x0_q16 := x0_q15.below hbq_w23 x0H_q15
      have x1_q16 := x1_q15.below hbq_w23 x1H_q15
      have g_q16 := g_q15.below hbq_w23 gH_q15
      have B15_q16 := hB15.on hbq_w23
      clear E1_q15 E2_q15 B6_q15 r6_q15 hw_q15 sC_q15 x0H_q15 X0_q15 x1H_q15 X1_q15 gH_q15 G_q15 x0_q15 x1_q15 g_q15 hB15
      clear hbq_w23 r15
      clear a0 a1 a2 e0 e1 e2
      have a0 : w23.cell? ⟨w11.heap.size, 0, none⟩ = some (.int .i64 FJ) := G_q16.cell 0
      have a1 : w23.cell? ⟨w11.heap.size, 1, none⟩ = some (.int .i64 BJ) := G_q16.cell 1
      have a2 : w23.cell? ⟨w11.heap.size, 2, none⟩ = some (.slice AG NJ cG) := G_q16.cell 2
      go_wp2_with fail
      refine (heldE_any FJ BJ (w10.heap.size + 1) w11.heap.size NJ cG AG lJ 1 _ g_q16 gH_q16 hNJm SJ (by omega) (by omega) hCJ).mono ?_
      rintro e w24 ⟨rfl, hbq_w24⟩
      have E1_q17 := E1_q16.on hbq_w24
      have E2_q17 := E2_q16.on hbq_w24
      have B6_q17 := B6_q16.on hbq_w24
      have r6_q17 := r6_q16.keep fun p hp => hbq_w24.cell (Nat.lt_of_lt_of_le hp sC_q16)
      have hw_q17 := hw_q16.trans (hbq_w24.mono hw_q16.size)
      have sC_q17 := Nat.le_trans sC_q16 hbq_w24.size
      have x0H_q17 := Nat.le_trans x0H_q16 hbq_w24.size
      have X0_q17 := X0_q16.on hbq_w24
      have x1H_q17 := Nat.le_trans x1H_q16 hbq_w24.size
      have X1_q17 := X1_q16.on hbq_w24
      have gH_q17 := Nat.le_trans gH_q16 hbq_w24.size
      have G_q17 := G_q16.on hbq_w24
      have x0_q17 := x0_q16.below hbq_w24 x0H_q16
      have x1_q17 := x1_q16.below hbq_w24 x1H_q16
      have g_q17 := g_q16.below hbq_w24 gH_q16
      have B15_q17 := B15_q16.on hbq_w24
      clear E1_q16 E2_q16 B6_q16 r6_q16 hw_q16 sC_q16 x0H_q16 X0_q16 x1H_q16 X1_q16 gH_q16 G_q16 x0_q16 x1_q16 g_q16 B15_q16
      clear hbq_w24
      rw [HHqJ.out]
      clear a0 a1 a2
      go_wp2_with fail
      go_ret
      exact ⟨by simp, hw_q17⟩
end Go.Proofs.Ythdilioflhknpaa
