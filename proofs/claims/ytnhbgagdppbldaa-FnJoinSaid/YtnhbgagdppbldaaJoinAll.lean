/- Joined ensembles: copies, EnsJoin on both sides, what is drawn of two ensembles, and the walk of the law of joined ensembles. -/
import Derived.Test.YtnhbgagdppbldaaDrawG
import Derived.Test.YtnhbgagdppbldaaEnsC
import Derived.Deep.RegionLaw
import Derived.Deep.AppendLies
import Derived.Lib.AppendZeros
import Derived.Lib.SliceRun
import Derived.Deep.RegionHeld3
import Derived.Laws.OwnMore
import Derived.Test.YtnhbgagdppbldaaEnsDrawH
import Derived.Test.YtnhbgagdppbldaaEnsF
import Derived.Test.YtnhbgagdppbldaaEnsD
import Derived.BigQuiet
namespace Go.Proofs.Ytnhbgagdppbldaa
open Go.RowKit Go.Deep

/-! ### NodeRows -/
def nodesC (n : Nat) (g : Nat → Nd) : List Value := (List.range n).flatMap fun i => ndC (g i)
theorem nodesC_succ (n : Nat) (g : Nat → Nd) : nodesC (n + 1) g = nodesC n g ++ ndC (g n) := by
  unfold nodesC
  rw [List.range_succ, List.flatMap_append]
  simp
theorem nodesC_len (n : Nat) (g : Nat → Nd) : (nodesC n g).length = n * 6 := by
  induction n with
  | zero => rfl
  | succ n ih => rw [nodesC_succ, List.length_append, ih]; simp [ndC]; omega
theorem nodesC_one (n : Nat) (g : Nat → Nd) : ∀ u ∈ nodesC n g, u.oneCell' = true := by
  intro u hu
  unfold nodesC at hu
  simp only [List.mem_flatMap] at hu
  obtain ⟨i, _, hd⟩ := hu
  simp only [ndC, List.mem_cons, List.not_mem_nil, or_false] at hd
  rcases hd with rfl | rfl | rfl | rfl | rfl | rfl <;> rfl
theorem nodesC_at (g : Nat → Nd) : ∀ (n i j : Nat), i < n → j < 6 → (nodesC n g)[i * 6 + j]? = (ndC (g i))[j]? := by
  intro n
  induction n with
  | zero => intro i j hi; omega
  | succ n ih =>
    intro i j hi hj
    rw [nodesC_succ]
    by_cases e : i = n
    · subst e
      rw [List.getElem?_append_right (by rw [nodesC_len]; omega), nodesC_len]
      congr 1; omega
    · rw [List.getElem?_append_left (by rw [nodesC_len]; omega)]
      exact ih i j (by omega) hj
theorem ndAt_get {w : World} {b o : Nat} {d : Nd} (h : NdAt w b o d) (j : Nat) (u : Value) (hu : (ndC d)[j]? = some u) : w.cell? ⟨b, o + j, none⟩ = some u := by
  obtain ⟨c0, c1, c2, c3, c4, c5⟩ := h
  match j, hu with
  | 0, hu => exact c0.trans hu
  | 1, hu => exact c1.trans hu
  | 2, hu => exact c2.trans hu
  | 3, hu => exact c3.trans hu
  | 4, hu => exact c4.trans hu
  | 5, hu => exact c5.trans hu
  | j + 6, hu => simp [ndC] at hu
theorem nodes_src {w : World} {b off n : Nat} {g : Nat → Nd} (hC : ∀ i, i < n → NdAt w b (off + i * 6) (g i)) : ∀ j u, (nodesC n g)[j]? = some u → w.cell? (Addr.add ⟨b, off, none⟩ j) = some u := by
  intro j u hu
  have hj : j < n * 6 := by
    have := (List.getElem?_eq_some_iff.1 hu).1
    rwa [nodesC_len] at this
  have e : j = (j / 6) * 6 + j % 6 := by omega
  rw [e, nodesC_at g n (j / 6) (j % 6) (by omega) (by omega)] at hu
  rw [Addr.add_lit, e]
  have := ndAt_get (hC (j / 6) (by omega)) (j % 6) u hu
  rw [← this]
  congr 2; omega
theorem own_rowN {w : World} {B m c : Nat} {t : TypeId} {A' : Option Addr} {g : Nat → Nd} (h : w.ownsRow B t 6 (.slice A' m c) m (nodesC m g)) (hm : 0 < m) :
    ∃ b, A' = some ⟨b, 0, none⟩ ∧ B ≤ b ∧ m ≤ c ∧ RowN w t b m g := by
  rcases h.2 with ⟨_, h0⟩ | ⟨b, cap, cur, hv, hb, hg, h1, _, h3, ht⟩
  · omega
  · injection hv with e1 _ e3
    refine ⟨b, e1, hb, by omega, cur, hg, by rw [h3]; exact Nat.mul_le_mul_right 6 h1, fun i hi j hj => ?_⟩
    have hlt : i * 6 + j < m * 6 := by omega
    have := nodesC_at g m i j hi hj
    rw [← ht, List.getElem?_take, if_pos hlt, Array.getElem?_toList] at this
    exact this
/-- One cell of a node written anew. -/
theorem RowN.miss {w : World} {t : TypeId} {b n k : Nat} {g : Nat → Nd} (h : RowN w t b n g) (hk : k < n) (q : Bool) :
    RowN (w.setCell ⟨b, k * 6 + 4, none⟩ (.bool q)) t b n (fun i => if i = k then { g i with miss := q } else g i) := by
  obtain ⟨cs, hB, hsz, hc⟩ := h
  refine ⟨_, hB.set_ (k * 6 + 4) (.bool q), by simpa using hsz, fun i hi j hj => ?_⟩
  show _ = (ndC (if i = k then { g i with miss := q } else g i))[j]?
  by_cases e : i = k
  · subst e
    rw [if_pos rfl]
    by_cases e4 : j = 4
    · subst e4
      rw [Array.getElem?_setIfInBounds_self_of_lt (by omega)]; rfl
    · rw [Array.getElem?_setIfInBounds_ne (by omega), hc i hi j hj]
      obtain rfl | rfl | rfl | rfl | rfl : j = 0 ∨ j = 1 ∨ j = 2 ∨ j = 3 ∨ j = 5 := by omega
      all_goals rfl
  · rw [if_neg e, Array.getElem?_setIfInBounds_ne (by omega)]
    exact hc i hi j hj
theorem RowN.congr {w : World} {t : TypeId} {b n : Nat} {g g' : Nat → Nd} (h : RowN w t b n g) (he : ∀ i, i < n → g i = g' i) : RowN w t b n g' := by
  obtain ⟨cs, hB, hsz, hc⟩ := h
  exact ⟨cs, hB, hsz, fun i hi j hj => by rw [← he i hi]; exact hc i hi j hj⟩
theorem RowN.frozen {w : World} {t : TypeId} {b n : Nat} {g : Nat → Nd} (h : RowN w t b n g) (i : Nat) : w.frozen? ⟨b, i, none⟩ = false := by obtain ⟨cs, hb, _⟩ := h; exact hb.frozen i

/-! ### JoinA -/
/-- Headers of trees. -/
def hdJ (n : Nat) (bl len cp : Nat → Nat) : List Value := (List.range n).map fun i => .slice (some ⟨bl i, 0, none⟩) (len i) (cp i)
def setN (f : Nat → Nat) (k x : Nat) : Nat → Nat := fun i => if i = k then x else f i
theorem setN_same (f : Nat → Nat) (k x : Nat) : setN f k x k = x := if_pos rfl
theorem setN_other {f : Nat → Nat} {k x i : Nat} (h : i ≠ k) : setN f k x i = f i := if_neg h
theorem hdJ_len (n : Nat) (bl len cp : Nat → Nat) : (hdJ n bl len cp).length = n := by simp [hdJ]
theorem hdJ_at {n : Nat} {bl len cp : Nat → Nat} {i : Nat} (hi : i < n) : (hdJ n bl len cp)[i]? = some (.slice (some ⟨bl i, 0, none⟩) (len i) (cp i)) := by
  unfold hdJ
  rw [List.getElem?_map, List.getElem?_range hi]
  rfl
theorem hdJ_one (n : Nat) (bl len cp : Nat → Nat) : ∀ u ∈ hdJ n bl len cp, u.oneCell' = true := by
  intro u hu
  obtain ⟨i, _, rfl⟩ := List.mem_map.1 hu
  rfl
theorem hdJ_snoc (n : Nat) (bl len cp : Nat → Nat) (b c : Nat) : hdJ (n + 1) (setN bl n b) len (setN cp n c) = hdJ n bl len cp ++ [.slice (some ⟨b, 0, none⟩) (len n) c] := by
  unfold hdJ
  rw [List.range_succ, List.map_append, List.map_cons, List.map_nil, setN_same, setN_same]
  congr 1
  refine List.map_congr_left fun i hi => ?_
  have hi' : i ≠ n := by have := List.mem_range.1 hi; omega
  rw [setN_other hi', setN_other hi']

/-- Trees in memory of their own, each in a block of its own. -/
def TreesN (w : World) (B n : Nat) (bl len : Nat → Nat) (g : Nat → Nat → Nd) : Prop := ∀ i, i < n → B ≤ bl i ∧ RowN w 33 (bl i) (len i) (g i) ∧ ∀ j, j < i → bl j ≠ bl i
theorem TreesN.keep {w w' : World} {B n : Nat} {bl len : Nat → Nat} {g : Nat → Nat → Nd} (h : TreesN w B n bl len g) (hk : ∀ i, i < n → w'.heap[bl i]? = w.heap[bl i]?) : TreesN w' B n bl len g := fun i hi =>
  ⟨(h i hi).1, (h i hi).2.1.keep (hk i hi), (h i hi).2.2⟩
theorem TreesN.below {w w' : World} {B n : Nat} {bl len : Nat → Nat} {g : Nat → Nat → Nd} (h : TreesN w B n bl len g) (hb : Below w.heap.size w w') : TreesN w' B n bl len g :=
  h.keep fun i hi => hb.block _ (h i hi).2.1.lt
theorem TreesN.less {w : World} {B B' n : Nat} {bl len : Nat → Nat} {g : Nat → Nat → Nd} (h : TreesN w B n bl len g) (hB : B' ≤ B) : TreesN w B' n bl len g := fun i hi =>
  ⟨Nat.le_trans hB (h i hi).1, (h i hi).2⟩
theorem TreesN.snoc {w : World} {B n b : Nat} {bl len : Nat → Nat} {g : Nat → Nat → Nd} (h : TreesN w B n bl len g) (hb : B ≤ b) (hr : RowN w 33 b (len n) (g n)) (hlt : ∀ i, i < n → bl i ≠ b) : TreesN w B (n + 1) (setN bl n b) len g := fun i hi => by
  by_cases e : i = n
  · subst e
    rw [setN_same]
    refine ⟨hb, hr, fun j hj => ?_⟩
    rw [setN_other (by omega)]
    exact hlt j hj
  · rw [setN_other e]
    have hi' : i < n := by omega
    refine ⟨(h i hi').1, (h i hi').2.1, fun j hj => ?_⟩
    rw [setN_other (by omega)]
    exact (h i hi').2.2 j hj
theorem treesN_nil {w : World} {B : Nat} {bl len : Nat → Nat} {g : Nat → Nat → Nd} : TreesN w B 0 bl len g := fun i hi => by omega
theorem own_keepJ {w w' : World} {B : Nat} {e : TypeId} {size : Nat} {v : Value} {n : Nat} {xs : List Value} (h : w.ownsRow B e size v n xs) (hk : ∀ g, B ≤ g → g < w.heap.size → v.ownBlock = some g → w'.heap[g]? = w.heap[g]?) : w'.ownsRow B e size v n xs := by
  refine ⟨h.1, ?_⟩
  rcases h.2 with h0 | ⟨g, cap, cur, hv, hb, hg, rest⟩
  · exact .inl h0
  · exact .inr ⟨g, cap, cur, hv, hb, (hk g hb (Blk.lt hg) (by rw [hv]; rfl)).trans hg, rest⟩
theorem own_ltJ {w : World} {B : Nat} {e : TypeId} {size : Nat} {v : Value} {n : Nat} {xs : List Value} (h : w.ownsRow B e size v n xs) : ∀ x, v.ownBlock = some x → B ≤ x ∧ x < w.heap.size ∧ ∃ cs, Blk w x e cs := by
  intro x hx
  rcases h.2 with ⟨rfl, _⟩ | ⟨g, cap, cur, rfl, hb, hg, _⟩
  · cases hx
  · have e1 : (Value.slice (some ⟨g, 0, none⟩) n cap).ownBlock = some g := rfl
    rw [e1] at hx
    injection hx with hx
    subst hx
    exact ⟨hb, Blk.lt hg, _, hg⟩
/-- The cells of a row of headers. -/
theorem own_hdJ {w : World} {B n c : Nat} {A : Option Addr} {xs : List Value} (h : w.ownsRow B 24 1 (.slice A n c) n xs) (hn : 0 < n) :
    ∃ gg, A = some ⟨gg, 0, none⟩ ∧ B ≤ gg ∧ gg < w.heap.size ∧ (∃ cs, Blk w gg 24 cs) ∧ ∀ i u, xs[i]? = some u → w.cell? ⟨gg, i, none⟩ = some u := by
  have hlen := h.1
  rcases h.2 with ⟨_, h0⟩ | ⟨gg, cap, cur, hv, hb, hg, _, _, _, ht⟩
  · omega
  · injection hv with hA _ _
    refine ⟨gg, hA, hb, Blk.lt hg, ⟨cur, hg⟩, fun i u hu => ?_⟩
    have hi : i < n * 1 := by have := (List.getElem?_eq_some_iff.1 hu).1; omega
    have h1 : (cur.toList.take (n * 1))[i]? = xs[i]? := by rw [ht]
    rw [List.getElem?_take, if_pos hi, Array.getElem?_toList, hu] at h1
    exact (Blk.cell hg i).trans h1
theorem rdT_J {w : World} {B B' n c : Nat} {A : Option Addr} {bl len cp : Nat → Nat} {g : Nat → Nat → Nd} (h : w.ownsRow B 24 1 (.slice A n c) n (hdJ n bl len cp)) (hT : TreesN w B' n bl len g) : RdT w w.heap.size A n len g := fun hn => by
  obtain ⟨gg, hA, _, hlt, _, hc⟩ := own_hdJ h hn
  refine ⟨gg, 0, hA, hlt, fun i hi => ⟨some ⟨bl i, 0, none⟩, cp i, ?_, rdN_of (hT i hi).2.1⟩⟩
  rw [Nat.zero_add]
  exact hc i _ (hdJ_at hi)

/-- The first k trees copied. -/
def Copied (w : World) (len : Nat → Nat) (g : Nat → Nat → Nd) (v : Value) (k : Nat) (wr : World) : Prop :=
  ∃ gb c bl cp, v = .slice (some ⟨gb, 0, none⟩) k c ∧ wr.ownsRow w.heap.size 24 1 (.slice (some ⟨gb, 0, none⟩) k c) k (hdJ k bl len cp) ∧ TreesN wr w.heap.size k bl len g ∧ Below w.heap.size w wr

set_option maxHeartbeats 2000000 in
theorem copy_any (A : Option Addr) (n c : Nat) (len : Nat → Nat) (g : Nat → Nat → Nd) (w : World) (h : RdT w w.heap.size A n len g) (hn : n ≤ 12) (hl : Hid (∀ i, i < n → 1 ≤ len i ∧ len i ≤ 15)) :
    Calls Try.prog 101 #[.slice A n c] w fun e w' => ∃ v, e = .returned v ∧ Copied w len g v n w' := by
  obtain ⟨i0, hi0, hz0, hz1, hz2⟩ := info_parts info_node
  obtain ⟨j0, hj0, jz0, jz1, jz2⟩ := info_parts info_nodes
  go_enter Try.func101, Try.ntmps101
  go_wp2_with fail
  go_loopw [3, 4] (fun v i wr => ∃ k : Nat, k ≤ n ∧ i = .int .i64 k ∧ Copied w len g v k wr) (fun _ i _ => n - (intOf i).toNat)
  case atStart => exact ⟨0, Nat.zero_le _, rfl, _, _, fun _ => 0, fun _ => 0, rfl, World.ownsRow_made w #[] 0 (Nat.le_refl _) (by unfold maxLen; omega) rfl, treesN_nil, (Below.refl _ _).alloc (Nat.le_refl _) _⟩
  case round =>
    obtain ⟨k, hk, rfl, gb, c', bl, cp, rfl, hown, hT, hbl⟩ := hrel
    by_cases hlt : k < n
    · obtain ⟨b, off, Ai, ci, rfl, hb, hcell, hrd⟩ := (h.below hbl).at_ hlt
      obtain ⟨hl1, hl2⟩ := hl.out k hlt
      obtain ⟨bi, oi, rfl, hbi, hC⟩ := hrd (by omega)
      have i1 : (k : Int) < (n : Int) := by omega
      have i2 : (0 : Int) ≤ (k : Int) := by omega
      have hsz := hbl.size
      have hbiw : bi < wr.heap.size := by omega
      have hbw : b < wr.heap.size := by omega
      have hcell2 : (wr.alloc (.cells #[] 33)).cell? ⟨b, off + k, none⟩ = some (.slice (some ⟨bi, oi, none⟩) (len k) ci) := (((Below.refl wr.heap.size wr).alloc (Nat.le_refl _) _).cell (p := ⟨b, off + k, none⟩) hbw).trans hcell
      have hC2 : Hid (∀ i, i < len k → NdAt (wr.alloc (.cells #[] 33)) bi (oi + i * 6) (g k i)) := fun i hi => (hC i hi).keep fun o => ((Below.refl wr.heap.size wr).alloc (Nat.le_refl _) _).cell (p := ⟨bi, o, none⟩) hbiw
      clear hC hrd hcell
      go_wp2_with (at_builtin; refine wpList_append_own _ rfl (.tmp 13) (.tmp 17) 24 rfl wr.heap.size 33 i0 (ndV ⟨0, 0, 0, 0, false, 0⟩) 6 48 Try.underlying24 hi0 hz0 hz1 hz2 rfl (by decide) (.slice (some ⟨wr.heap.size, 0, none⟩) 0 0) 0 [] rfl (World.ownsRow_made wr #[] 0 (Nat.le_refl _) (by unfold maxLen; omega) rfl) ⟨bi, oi, none⟩ (len k) ci (nodesC (len k) (g k)) rfl (nodesC_len _ _) (nodes_src hC2.out) (nodesC_one _ _) (by unfold maxLen; omega) (by omega) (by simp) ?_)
      intro v5 w5 hown5 hg5 _
      obtain ⟨A5, c5, rfl⟩ := own_form hown5
      obtain ⟨b5, rfl, hb5l, _, hrow5⟩ := own_rowN hown5 (by omega)
      have hb5 : Below wr.heap.size wr w5 := ((Below.refl _ _).alloc (Nat.le_refl _) _).grown hg5 (by simp) (fun x hx => by simp [Value.ownBlock] at hx; omega)
      have hown6 := own_below hown hb5
      have hT5 := hT.below hb5
      have hs5 := hb5.size
      have hbl5 := hbl.trans (hb5.mono hsz)
      have HTL : Hid (∀ i, i < k → bl i ≠ b5) := fun i hi => Nat.ne_of_lt (Nat.lt_of_lt_of_le (hT i hi).2.1.lt hb5l)
      clear hown5 hg5 hown hT hb5 hcell2 hC2 hbl
      go_wp2_with (at_builtin; refine wpList_append_own _ rfl (.tmp 12) (.tmp 19) 52 rfl w.heap.size 24 j0 (.slice none 0 0) 1 24 Try.underlying52 hj0 jz0 jz1 jz2 rfl (by decide) _ k _ rfl (hown6.alloc _) ⟨w5.heap.size, 0, none⟩ 1 1 [.slice (some ⟨b5, 0, none⟩) (len k) c5] rfl rfl (cell_one_new _ _ _) (by intro u hu; simp at hu; subst hu; rfl) (by unfold maxLen; omega) (by omega) (by simp; omega) ?_)
      intro v6 w6 hown7 hg6 _
      obtain ⟨A6, c6, rfl⟩ := own_form hown7
      obtain ⟨g6, rfl, _, _, _, _⟩ := own_hdJ hown7 (by omega)
      have hlts := own_ltJ hown6
      have hT6 : TreesN w6 w.heap.size k bl len g := hT5.keep fun i hi => by
        obtain ⟨cs, hB, _⟩ := (hT5 i hi).2.1
        exact (hg6.block _ (by rw [World.size_alloc]; have := hB.lt; omega) (own_blk_ne hown6 hB (by decide))).trans (Below.heap_alloc w5 _ _ hB.lt)
      have hR6 : RowN w6 33 b5 (len k) (g k) := hrow5.keep (by
        obtain ⟨cs, hB, _⟩ := id hrow5
        exact (hg6.block _ (by rw [World.size_alloc]; have := hB.lt; omega) (own_blk_ne hown6 hB (by decide))).trans (Below.heap_alloc w5 _ _ hB.lt))
      have hT7 := hT6.snoc (by omega) hR6 HTL.out
      have hbl6 : Below w.heap.size w w6 := (hbl5.alloc (by omega) _).grown hg6 (by rw [World.size_alloc]; omega) (fun x hx => (hlts x hx).1)
      have HOWN : Hid (w6.ownsRow w.heap.size 24 1 (.slice (some ⟨g6, 0, none⟩) (k + 1) c6) (k + 1) (hdJ (k + 1) (setN bl k b5) len (setN cp k c5))) := by
        show w6.ownsRow _ _ _ _ _ _
        rw [hdJ_snoc]
        exact hown7
      have HT7 := hid hT7
      clear hg6 hown6 hown7 hT5 hT6 hT7 hR6 hrow5 hlts hbl5 HTL
      go_wp2_with fail
      go_roundw
      case rel => exact ⟨k + 1, by omega, by go_num, g6, c6, _, _, rfl, HOWN.out, HT7.out, hbl6⟩
      case measure => simp [intOf]; omega
    · obtain rfl : k = n := by omega
      go_wp2_with fail
      go_ret
      exact ⟨_, rfl, gb, c', bl, cp, rfl, hown, hT, hbl⟩

/-! ### JoinB -/
set_option maxHeartbeats 1000000 in
theorem clone_any (b off n c : Nat) (g : Nat → Nd) (w : World) (h : RdN w w.heap.size (some ⟨b, off, none⟩) n g) (hn1 : 1 ≤ n) (hn : n ≤ 4194304) :
    Calls Try.prog 100 #[.slice (some ⟨b, off, none⟩) n c] w fun e w' =>
      ∃ b' c', e = .returned (.slice (some ⟨b', 0, none⟩) n c') ∧ w.heap.size ≤ b' ∧ RowN w' 33 b' n g ∧ Below w.heap.size w w' := by
  obtain ⟨i0, hi0, hz0, hz1, hz2⟩ := info_parts info_node
  obtain ⟨b1, o1, e1, hb1, hC⟩ := h (by omega)
  injection e1 with e1
  injection e1 with e1 e2
  subst e1 e2
  have hC2 : Hid (∀ i, i < n → NdAt (w.alloc (.cells #[] 33)) b (off + i * 6) (g i)) := fun i hi => (hC i hi).keep fun o => ((Below.refl w.heap.size w).alloc (Nat.le_refl _) _).cell (p := ⟨b, o, none⟩) hb1
  clear hC
  have q : ∀ (w : World) (a : Option Addr) (n c n' c' : Nat), (binOp .eql 24 (.slice a n c) (.slice none n' c')).run Try.prog w = .ok (.bool a.isNone) w := fun w a n c n' c' => Lib.run_eql_slice_nil w _ _ a n c n' c' Try.underlying24
  go_enter Try.func100, Try.ntmps100
  go_wp2_with (at_builtin; refine wpList_append_own _ rfl (.tmp 5) (.tmp 6) 24 rfl w.heap.size 33 i0 (ndV ⟨0, 0, 0, 0, false, 0⟩) 6 48 Try.underlying24 hi0 hz0 hz1 hz2 rfl (by decide) (.slice (some ⟨w.heap.size, 0, none⟩) 0 0) 0 [] rfl (World.ownsRow_made w #[] 0 (Nat.le_refl _) (by unfold maxLen; omega) rfl) ⟨b, off, none⟩ n c (nodesC n g) rfl (nodesC_len _ _) (nodes_src hC2.out) (nodesC_one _ _) (by unfold maxLen; omega) (by omega) (by simp) ?_)
  intro v5 w5 hown5 hg5 _
  obtain ⟨A5, c5, rfl⟩ := own_form hown5
  obtain ⟨b5, rfl, hb5l, _, hrow5⟩ := own_rowN hown5 (by omega)
  have hb5 : Below w.heap.size w w5 := ((Below.refl _ _).alloc (Nat.le_refl _) _).grown hg5 (by simp) (fun x hx => by simp [Value.ownBlock] at hx; omega)
  clear hown5 hg5 hC2
  go_wp2_with fail
  go_ret
  exact ⟨b5, c5, rfl, hb5l, hrow5, hb5⟩

theorem own_zero (w : World) (n : Nat) (e : TypeId) (B : Nat) (hB : B ≤ w.heap.size) (hn : n ≤ maxLen) :
    (w.drew.alloc (.cells (Builtin.zeroCells (Value.slice none 0 0).cells n ++ Builtin.zeroCells (Value.slice none 0 0).cells (grownCap w n 0 e - n)) e)).ownsRow B e 1 (.slice (some ⟨w.heap.size, 0, none⟩) 0 (grownCap w n 0 e)) 0 [] := by
  have h1 := grownCap_ge w n 0 e
  refine ⟨rfl, .inr ⟨w.heap.size, _, _, rfl, hB, heap_alloc_new w.drew _, Nat.zero_le _, grownCap_le_maxLen w n 0 e hn, ?_, by simp⟩⟩
  have e1 : (Value.slice none 0 0).cells.size = 1 := rfl
  rw [Array.size_append, size_zeroCells, size_zeroCells, e1]
  omega

set_option maxHeartbeats 1000000 in
set_option maxRecDepth 100000 in
theorem grow_any (n : Nat) (hn : n ≤ 24) (w : World) :
    Calls Try.prog 129 #[.slice none 0 0, .int .i64 n] w fun e w' => ∃ v, e = .returned v ∧ w'.ownsRow w.heap.size 24 1 v 0 [] ∧ Below w.heap.size w w' := by
  obtain ⟨i0, hi0, hz0, hz1, hz2⟩ := info_parts info_nodes
  by_cases h0 : n = 0
  · subst h0
    go_enter Try.func129, Try.ntmps129
    go_wp2_with fail
    go_ret
    exact ⟨_, rfl, World.ownsRow_nil _ _ _ _, Below.refl _ _⟩
  · have i1 : (0 : Int) < (n : Int) := by omega
    have hown := own_zero w n 24 w.heap.size (Nat.le_refl _) (by unfold maxLen; omega)
    have hb : Below w.heap.size w (w.drew.alloc (.cells (Builtin.zeroCells (Value.slice none 0 0).cells n ++ Builtin.zeroCells (Value.slice none 0 0).cells (grownCap w n 0 24 - n)) 24)) := (Below.refl w.heap.size w).drew.alloc (Nat.le_refl _) _
    have hrun := fun ty => Lib.run_append_nil_zeros (P := Try.prog) w 52 3 ty 24 i0 _ .i64 .i64 Try.underlying52 Try.underlying3 hi0 hz0 n (by omega) (by rw [hz1]; omega) (by omega) (by rw [hz2]; omega)
    have hge := grownCap_ge w n 0 24
    generalize hW : w.drew.alloc (.cells (Builtin.zeroCells (Value.slice none 0 0).cells n ++ Builtin.zeroCells (Value.slice none 0 0).cells (grownCap w n 0 24 - n)) 24) = W at hown hb hrun
    generalize grownCap w n 0 24 = cp at hown hrun hge
    have HRUN := hid hrun
    clear hW hrun
    go_enter Try.func129, Try.ntmps129
    go_wp2_with (at_builtin; refine Lib.wpList_append_run _ rfl _ _ _ _ rfl _ _ rfl rfl _ _ (HRUN.out _) ?_)
    go_wp2_with fail
    go_ret
    exact ⟨_, rfl, hown, hb⟩

theorem run_append_zeroJ {P : Program} {w : World} (base : Nat) (t ty e : TypeId) (i : TypeInfo) (size : Nat) (ht : P.underlying t = some (.slice e)) (hi : P.info? e = some i)
    (v : Value) (n : Nat) (xs : List Value) (hown : w.ownsRow base e size v n xs) (A : Option Addr) (c : Nat) :
    (Builtin.append_ #[t, t] ty #[v, .slice A 0 c]).run P w = .ok v w := by
  rcases hown.2 with ⟨rfl, rfl⟩ | ⟨g, cap, cur, rfl, _, _, hnc, _⟩
  · cases A <;> simp [Builtin.append_, run_underlying ht, sizeOf, typeInfo, hi, Builtin.lenOf, Builtin.firstCells, loadCells, loadCellsFrom]
  · cases A <;> simp [Builtin.append_, run_underlying ht, sizeOf, typeInfo, hi, Builtin.lenOf, Builtin.firstCells, hnc, storeCells, loadCells, loadCellsFrom]
/-- append of a slice that may be empty, onto a row of one's own. -/
theorem wpList_append_mayJ {P : Program} {w : World} {ops : Array Oper} {rest : List Oper} {o : Oper} {a : Act} {Q : Exit → Act → World → Prop} (hgd : o.guard = none) (s x : Operand) (t : TypeId)
    (ho : o.op = .call { callee := .builtin .append, args := #[s, x], argTypes := #[t, t] })
    (base : Nat) (e : TypeId) (i : TypeInfo) (z : Value) (size bytes : Nat) (ht : P.underlying t = some (.slice e)) (hi : P.info? e = some i) (hz : i.zero = some z)
    (hsize : i.size = size) (hby : i.bytes = bytes) (hzs : z.cells.size = size) (hsz : 0 < size)
    (v : Value) (n : Nat) (xs : List Value) (hs : a.eval s = v) (hown : w.ownsRow base e size v n xs)
    (A : Option Addr) (m c : Nat) (news : List Value) (hx : a.eval x = .slice A m c) (hl : news.length = m * size) (hnews : 0 < m → ∃ b off, A = some ⟨b, off, none⟩ ∧ ∀ j u, news[j]? = some u → w.cell? ⟨b, off + j, none⟩ = some u) (h1 : ∀ u ∈ news, u.oneCell' = true)
    (h63 : n + m ≤ maxLen) (hbytes : (n + m) * bytes ≤ 140737488355328) (hbase : base ≤ w.heap.size)
    (h : ∀ v' w', w'.ownsRow base e size v' (n + m) (xs ++ news) → w.grownBy w' v.ownBlock → wpList P ops Q rest (a.put o.dst v') w') : wpList P ops Q (o :: rest) a w := by
  by_cases hm : 0 < m
  · obtain ⟨b, off, rfl, hc⟩ := hnews hm
    exact wpList_append_own w hgd s x t ho base e i z size bytes ht hi hz hsize hby hzs hsz v n xs hs hown ⟨b, off, none⟩ m c news hx hl (fun j u hu => by simpa [Addr.add_lit] using hc j u hu) h1 h63 hbytes hbase fun v' w' h2 h3 _ => h v' w' h2 h3
  · obtain rfl : m = 0 := by omega
    obtain rfl : news = [] := List.eq_nil_of_length_eq_zero (by omega)
    refine wpList_plain hgd fun K hK => ?_
    have hrun := run_append_zeroJ (P := P) (w := w) base t o.type e i size ht hi v n xs hown A c
    unfold Oper.wp
    simp [execOp, ho, resolve, invoke, builtin, hs, hx, hrun, Result.andThen]
    exact hK _ _ (h v w (by simpa using hown) ⟨rfl, rfl, rfl, Nat.le_refl _, fun _ _ _ => rfl⟩)
/-- A slice of headers that is read. -/
def Src (w : World) (A : Option Addr) (n : Nat) (xs : List Value) : Prop :=
  xs.length = n ∧ (∀ u ∈ xs, u.oneCell' = true) ∧ (0 < n → ∃ b off, A = some ⟨b, off, none⟩ ∧ b < w.heap.size ∧ ∀ j u, xs[j]? = some u → w.cell? ⟨b, off + j, none⟩ = some u)
theorem Src.below {w w' : World} {A : Option Addr} {n : Nat} {xs : List Value} (h : Src w A n xs) (hb : Below w.heap.size w w') : Src w' A n xs :=
  ⟨h.1, h.2.1, fun h0 => by
    obtain ⟨b, off, e, hlt, hc⟩ := h.2.2 h0
    exact ⟨b, off, e, Nat.lt_of_lt_of_le hlt hb.size, fun j u hu => (hb.cell (p := ⟨b, off + j, none⟩) hlt).trans (hc j u hu)⟩⟩
theorem Src.cells {w : World} {A : Option Addr} {n : Nat} {xs : List Value} (h : Src w A n xs) : 0 < n → ∃ b off, A = some ⟨b, off, none⟩ ∧ ∀ j u, xs[j]? = some u → w.cell? ⟨b, off + j, none⟩ = some u := fun h0 => by
  obtain ⟨b, off, e, _, hc⟩ := h.2.2 h0
  exact ⟨b, off, e, hc⟩

set_option maxRecDepth 100000 in
set_option maxHeartbeats 2000000 in
theorem concat_any (pb : Nat) (A1 A2 : Option Addr) (n1 n2 c1 c2 : Nat) (xs1 xs2 : List Value) (w : World) (hp : Blk w pb 52 #[.slice A1 n1 c1, .slice A2 n2 c2]) (h1 : Src w A1 n1 xs1) (h2 : Src w A2 n2 xs2) (hn1 : n1 ≤ 12) (hn2 : n2 ≤ 12) :
    Calls Try.prog 99 #[.slice (some ⟨pb, 0, none⟩) 2 2] w fun e w' =>
      ∃ A' c', e = .returned (.slice A' (n1 + n2) c') ∧ w'.ownsRow w.heap.size 24 1 (.slice A' (n1 + n2) c') (n1 + n2) (xs1 ++ xs2) ∧ Below w.heap.size w w' := by
  obtain ⟨i0, hi0, hz0, hz1, hz2⟩ := info_parts info_nodes
  have hplt := hp.lt
  have p0 : w.cell? ⟨pb, 0, none⟩ = some (.slice A1 n1 c1) := hp.cell 0
  have p1 : w.cell? ⟨pb, 1, none⟩ = some (.slice A2 n2 c2) := hp.cell 1
  have H1 := hid h1
  have H2 := hid h2
  clear h1 h2
  go_enter Try.func99, Try.ntmps99
  go_wp2_with fail
  go_loopw [3, 11] (fun s i wr => ∃ (k : Nat) (t : Int), k ≤ 2 ∧ i = .int .i64 k ∧ s = .int .i64 t ∧ Hid ((k = 0 → t = 0) ∧ (k = 1 → t = n1) ∧ (k = 2 → t = (n1 : Int) + n2)) ∧ w = wr) (fun _ i _ => 2 - (intOf i).toNat)
  case atStart => exact ⟨0, 0, by omega, rfl, rfl, ⟨fun _ => rfl, fun h => by omega, fun h => by omega⟩, rfl⟩
  case round =>
    obtain ⟨k, t, hk, rfl, rfl, ht, rfl⟩ := hrel
    by_cases k0 : k = 0
    · subst k0
      obtain rfl := ht.out.1 rfl
      go_wp2_with fail
      go_roundw
      case rel => exact ⟨1, n1, by omega, by go_num, by go_num, ⟨fun h => by omega, fun _ => rfl, fun h => by omega⟩, trivial⟩
      case measure => simp [intOf]
    by_cases k1 : k = 1
    · subst k1
      obtain rfl := ht.out.2.1 rfl
      go_wp2_with fail
      go_roundw
      case rel => exact ⟨2, (n1 : Int) + n2, by omega, by go_num, by go_num, ⟨fun h => by omega, fun h => by omega, fun _ => rfl⟩, trivial⟩
      case measure => simp [intOf]
    · obtain rfl : k = 2 := by omega
      obtain rfl := ht.out.2.2 rfl
      obtain ⟨N, hN⟩ : ∃ N : Nat, N = n1 + n2 := ⟨_, rfl⟩
      have es : (n1 : Int) + (n2 : Int) = (N : Int) := by omega
      have hN24 : N ≤ 24 := by omega
      have HN := hid hN
      rw [es]
      clear es hN
      go_wp2_with fail
      refine (grow_any N hN24 _).mono ?_
      rintro e w2 ⟨v, rfl, hown, hb2⟩
      have hP2 := hp.below hb2 hplt
      have h12 := H1.out.below hb2
      have h22 := H2.out.below hb2
      have q0 : w2.cell? ⟨pb, 0, none⟩ = some (.slice A1 n1 c1) := hP2.cell 0
      have q1 : w2.cell? ⟨pb, 1, none⟩ = some (.slice A2 n2 c2) := hP2.cell 1
      obtain ⟨A0, c0, rfl⟩ := own_form hown
      have hs2 := hb2.size
      have hpl2 := hP2.lt
      have K1 := hid h12
      have K2 := hid h22
      clear h12 h22 p0 p1
      go_wp2_with fail
      go_loopw [6, 27] (fun v i wr => ∃ (k m : Nat) (A : Option Addr) (c : Nat) (xs : List Value), k ≤ 2 ∧ i = .int .i64 k ∧ v = .slice A m c ∧ wr.ownsRow w.heap.size 24 1 (.slice A m c) m xs ∧ Hid ((k = 0 → m = 0 ∧ xs = []) ∧ (k = 1 → m = n1 ∧ xs = xs1) ∧ (k = 2 → m = n1 + n2 ∧ xs = xs1 ++ xs2)) ∧ Below w.heap.size w wr) (fun _ i _ => 2 - (intOf i).toNat)
      case atStart => exact ⟨0, 0, A0, c0, [], by omega, rfl, rfl, hown, ⟨fun _ => ⟨rfl, rfl⟩, fun h => by omega, fun h => by omega⟩, hb2⟩
      case round =>
        obtain ⟨k, m, A, c, xs, hk, rfl, rfl, hown, ht, hbl⟩ := hrel
        have hPr := hp.below hbl hplt
        have r0 : wr.cell? ⟨pb, 0, none⟩ = some (.slice A1 n1 c1) := hPr.cell 0
        have r1 : wr.cell? ⟨pb, 1, none⟩ = some (.slice A2 n2 c2) := hPr.cell 1
        have hsr := hbl.size
        clear q0 q1 hP2 hb2
        by_cases k0 : k = 0
        · subst k0
          obtain ⟨rfl, rfl⟩ := ht.out.1 rfl
          have hs := H1.out.below hbl
          go_wp2_with (at_builtin; refine wpList_append_mayJ rfl (.tmp 31) (.tmp 32) 52 rfl w.heap.size 24 i0 (.slice none 0 0) 1 24 Try.underlying52 hi0 hz0 hz1 hz2 rfl (by decide) _ 0 [] rfl hown A1 n1 c1 xs1 rfl (by rw [hs.1]; omega) hs.cells hs.2.1 (by unfold maxLen; omega) (by omega) hsr ?_)
          intro v3 w3 hown3 hg3
          obtain ⟨A3, c3, rfl⟩ := own_form hown3
          have hb3 : Below w.heap.size w w3 := hbl.grown hg3 hsr (fun x hx => (own_ltJ hown x hx).1)
          clear hg3 hown hs
          go_wp2_with fail
          go_roundw
          case rel => exact ⟨1, n1, A3, c3, xs1, by omega, by go_num, by simp, by simpa using hown3, ⟨fun h => by omega, fun _ => ⟨rfl, rfl⟩, fun h => by omega⟩, hb3⟩
          case measure => simp [intOf]
        by_cases k1 : k = 1
        · subst k1
          obtain ⟨rfl, rfl⟩ := ht.out.2.1 rfl
          have hs := H2.out.below hbl
          go_wp2_with (at_builtin; refine wpList_append_mayJ rfl (.tmp 31) (.tmp 32) 52 rfl w.heap.size 24 i0 (.slice none 0 0) 1 24 Try.underlying52 hi0 hz0 hz1 hz2 rfl (by decide) _ _ _ rfl hown A2 n2 c2 xs2 rfl (by rw [hs.1]; omega) hs.cells hs.2.1 (by unfold maxLen; omega) (by omega) hsr ?_)
          intro v3 w3 hown3 hg3
          obtain ⟨A3, c3, rfl⟩ := own_form hown3
          have hb3 : Below w.heap.size w w3 := hbl.grown hg3 hsr (fun x hx => (own_ltJ hown x hx).1)
          clear hg3 hown hs
          go_wp2_with fail
          go_roundw
          case rel => exact ⟨2, _, A3, c3, _, by omega, by go_num, rfl, hown3, ⟨fun h => by omega, fun h => by omega, fun _ => ⟨rfl, rfl⟩⟩, hb3⟩
          case measure => simp [intOf]
        · obtain rfl : k = 2 := by omega
          obtain ⟨rfl, rfl⟩ := ht.out.2.2 rfl
          go_wp2_with fail
          go_ret
          exact ⟨A, c, rfl, hown, hbl⟩

/-! ### JoinC -/
def catN {α : Type} (n1 : Nat) (f1 f2 : Nat → α) : Nat → α := fun i => if i < n1 then f1 i else f2 (i - n1)
theorem catN_left {α : Type} {n1 i : Nat} {f1 f2 : Nat → α} (h : i < n1) : catN n1 f1 f2 i = f1 i := if_pos h
theorem catN_right {α : Type} {n1 i : Nat} {f1 f2 : Nat → α} (h : ¬ i < n1) : catN n1 f1 f2 i = f2 (i - n1) := if_neg h
theorem hdJ_cat (n1 n2 : Nat) (bl1 bl2 len1 len2 cp1 cp2 : Nat → Nat) : hdJ (n1 + n2) (catN n1 bl1 bl2) (catN n1 len1 len2) (catN n1 cp1 cp2) = hdJ n1 bl1 len1 cp1 ++ hdJ n2 bl2 len2 cp2 := by
  refine List.ext_getElem? fun i => ?_
  by_cases h1 : i < n1
  · rw [List.getElem?_append_left (by rw [hdJ_len]; exact h1), hdJ_at h1, hdJ_at (by omega), catN_left h1, catN_left h1, catN_left h1]
  · rw [List.getElem?_append_right (by rw [hdJ_len]; omega), hdJ_len]
    by_cases h2 : i < n1 + n2
    · rw [hdJ_at h2, hdJ_at (by omega), catN_right h1, catN_right h1, catN_right h1]
    · rw [List.getElem?_eq_none (by rw [hdJ_len]; omega), List.getElem?_eq_none (by rw [hdJ_len]; omega)]
theorem TreesN.cat {w : World} {B n1 n2 : Nat} {bl1 bl2 len1 len2 : Nat → Nat} {g1 g2 : Nat → Nat → Nd} (h1 : TreesN w B n1 bl1 len1 g1) (h2 : TreesN w B n2 bl2 len2 g2) (hne : ∀ i j, i < n1 → j < n2 → bl1 i ≠ bl2 j) :
    TreesN w B (n1 + n2) (catN n1 bl1 bl2) (catN n1 len1 len2) (catN n1 g1 g2) := fun i hi => by
  by_cases e : i < n1
  · rw [catN_left e, catN_left e, catN_left e]
    refine ⟨(h1 i e).1, (h1 i e).2.1, fun j hj => ?_⟩
    rw [catN_left (by omega)]
    exact (h1 i e).2.2 j hj
  · rw [catN_right e, catN_right e, catN_right e]
    have hi2 : i - n1 < n2 := by omega
    refine ⟨(h2 _ hi2).1, (h2 _ hi2).2.1, fun j hj => ?_⟩
    by_cases ej : j < n1
    · rw [catN_left ej]; exact hne j (i - n1) ej hi2
    · rw [catN_right ej]; exact (h2 _ hi2).2.2 (j - n1) (by omega)
theorem RdT.al {w : World} {n : Nat} {A : Option Addr} {len : Nat → Nat} {g : Nat → Nat → Nd} (h : RdT w w.heap.size A n len g) (o : Obj) : RdT (w.alloc o) (w.alloc o).heap.size A n len g :=
  h.to ((Below.refl _ _).alloc (Nat.le_refl _) o) (by simp)

theorem TreesN.grownJ {w w5 : World} {B B2 n m : Nat} {bl len : Nat → Nat} {g : Nat → Nat → Nd} {v : Value} {xs : List Value} (h : TreesN w B n bl len g) (hown : w.ownsRow B2 24 1 v m xs) (hg : w.grownBy w5 v.ownBlock) : TreesN w5 B n bl len g :=
  h.keep fun i hi => by
    obtain ⟨cs, hB, _⟩ := (h i hi).2.1
    exact hg.block _ hB.lt (own_blk_ne hown hB (by decide))
/-- Three cells of an ensemble's own cell written. -/
theorem fin_set {w w5 : World} {B p n m c : Nat} {A : Option Addr} {cs : Array Value} {bl len : Nat → Nat} {g : Nat → Nat → Nd} {xs : List Value} (hP : Blk w5 p 54 cs) (hs : cs.size = 3) (ho : w5.ownsRow B 24 1 (.slice A m c) m xs) (hT : TreesN w5 B n bl len g) (hw : Below B w w5) (hBp : B ≤ p) (u0 u1 u2 : Value) :
    Blk (((w5.setCell ⟨p, 0, none⟩ u0).setCell ⟨p, 1, none⟩ u1).setCell ⟨p, 2, none⟩ u2) p 54 #[u0, u1, u2] ∧ (((w5.setCell ⟨p, 0, none⟩ u0).setCell ⟨p, 1, none⟩ u1).setCell ⟨p, 2, none⟩ u2).ownsRow B 24 1 (.slice A m c) m xs ∧
    TreesN (((w5.setCell ⟨p, 0, none⟩ u0).setCell ⟨p, 1, none⟩ u1).setCell ⟨p, 2, none⟩ u2) B n bl len g ∧ Below B w (((w5.setCell ⟨p, 0, none⟩ u0).setCell ⟨p, 1, none⟩ u1).setCell ⟨p, 2, none⟩ u2) := by
  have hk : ∀ i, i ≠ p → (((w5.setCell ⟨p, 0, none⟩ u0).setCell ⟨p, 1, none⟩ u1).setCell ⟨p, 2, none⟩ u2).heap[i]? = w5.heap[i]? := fun i hi =>
    (Below.heap_setCell _ _ _ i hi).trans ((Below.heap_setCell _ _ _ i hi).trans (Below.heap_setCell _ _ _ i hi))
  refine ⟨?_, own_keepJ ho fun x _ _ hx => hk x (fun e => own_blk_ne ho hP (by decide) (by rw [← e]; exact hx.symm)), hT.keep fun i hi => hk _ ?_, ((hw.setCell (p := ⟨p, 0, none⟩) hBp u0).setCell (p := ⟨p, 1, none⟩) hBp u1).setCell (p := ⟨p, 2, none⟩) hBp u2⟩
  · have h3 := ((hP.set_ 0 u0).set_ 1 u1).set_ 2 u2
    have e : ((cs.setIfInBounds 0 u0).setIfInBounds 1 u1).setIfInBounds 2 u2 = #[u0, u1, u2] := by
      obtain ⟨l⟩ := cs
      match l, hs with
      | [x, y, z], _ => rfl
    rw [e] at h3
    exact h3
  · obtain ⟨cs', hB, _⟩ := (hT i hi).2.1
    exact hB.ne_ hP (by decide)
theorem blk_far3 {w : World} {p z : Nat} {t t' : TypeId} {cs zs : Array Value} (_hP : Blk w p t' cs) (hZ : Blk w z t zs) (hne : z ≠ p) (u0 u1 u2 : Value) : Blk (((w.setCell ⟨p, 0, none⟩ u0).setCell ⟨p, 1, none⟩ u1).setCell ⟨p, 2, none⟩ u2) z t zs :=
  ((hZ.far (p := ⟨p, 0, none⟩) hne u0).far (p := ⟨p, 1, none⟩) hne u1).far (p := ⟨p, 2, none⟩) hne u2
theorem results_cell_tmpJ {P : Program} {fn : Func} {p u : Tmp} {ty : TypeId} (h : fn.results = #[.cell p ty, .tmp u]) (tmps : Array Value) (w : World) (g : Nat) (t : TypeId) (cs : Array Value) (fr : Nat × Nat) (d : TypeDesc)
    (hp : tmps.getD p undef = .pointer (some ⟨g, 0, none⟩)) (hg : w.heap[g]? = some (.cells cs t fr))
    (hu : P.underlying ty = some d) (hd : (match d with | .struct _ | .array _ _ => true | _ => false) = true) (hi : (P.info? ty).map (·.size) = some cs.size) :
    (results fn tmps).run P w = .ok (.tuple #[.agg cs, tmps.getD u undef]) w := by
  have hp' : tmps[p]?.getD undef = .pointer (some ⟨g, 0, none⟩) := by simpa using hp
  simp [results, h, hp', asAddr, Result.andThen, run_loadVar_row w g t ty cs fr d hg hu hd hi]
/-- What EnsJoin gives where there is something. -/
def Joined (w : World) (f b : Int) (n : Nat) (len : Nat → Nat) (g : Nat → Nat → Nd) (e : Ending) (w' : World) : Prop :=
  ∃ A' c bl cp, e = .returned (.tuple #[enV f b A' n c, .bool true]) ∧ w'.ownsRow w.heap.size 24 1 (.slice A' n c) n (hdJ n bl len cp) ∧ TreesN w' w.heap.size n bl len g ∧ Below w.heap.size w w'

/-- What EnsJoin gives. -/
def JoinPost (Y : Bool) (w : World) (f b : Int) (n : Nat) (len : Nat → Nat) (g : Nat → Nat → Nd) (e : Ending) (w' : World) : Prop :=
  if Y = true then Joined w f b n len g e w' else e = .returned (.tuple #[enV 0 0 none 0 0, .bool false]) ∧ Below w.heap.size w w'
theorem own_lessJ {w : World} {B B2 : Nat} {e : TypeId} {size : Nat} {v : Value} {n : Nat} {xs : List Value} (h : w.ownsRow B2 e size v n xs) (hB : B ≤ B2) : w.ownsRow B e size v n xs := by
  refine ⟨h.1, ?_⟩
  rcases h.2 with h0 | ⟨g, cap, cur, hv, hb, rest⟩
  · exact .inl h0
  · exact .inr ⟨g, cap, cur, hv, Nat.le_trans hB hb, rest⟩
theorem Blk.on {w w' : World} {g : Nat} {t : TypeId} {cs : Array Value} (h : Blk w g t cs) (hb : Below w.heap.size w w') : Blk w' g t cs := Blk.below h hb (Blk.lt h)
theorem grownP {w w5 : World} {p B n : Nat} {cs : Array Value} {v : Value} {xs : List Value} (hP : Blk w p 54 cs) (hown : w.ownsRow B 24 1 v n xs) (hg : w.grownBy w5 v.ownBlock) : Blk w5 p 54 cs := hP.grown hg (own_blk_ne hown hP (by decide))
theorem heldE {w : World} {a n1 n2 c1 c2 : Nat} {f b1 b2 : Int} {A1 A2 : Option Addr} (hE1 : Blk w a 54 #[.int .i64 f, .int .i64 b1, .slice A1 n1 c1]) (hE2 : Blk w (a + 1) 54 #[.int .i64 f, .int .i64 b2, .slice A2 n2 c2]) :
    w.cell? ⟨a, 0, none⟩ = some (.int .i64 f) ∧ w.cell? ⟨a, 1, none⟩ = some (.int .i64 b1) ∧ w.cell? ⟨a, 2, none⟩ = some (.slice A1 n1 c1) ∧ w.cell? ⟨a + 1, 1, none⟩ = some (.int .i64 b2) ∧ w.cell? ⟨a + 1, 2, none⟩ = some (.slice A2 n2 c2) :=
  ⟨hE1.cell 0, hE1.cell 1, hE1.cell 2, hE2.cell 1, hE2.cell 2⟩
theorem heldS {w : World} {a n1 n2 c1 c2 : Nat} {f b1 b2 : Int} {A1 A2 : Option Addr} (hE1 : Blk w a 54 #[.int .i64 f, .int .i64 b1, .slice A1 n1 c1]) (hE2 : Blk w (a + 1) 54 #[.int .i64 f, .int .i64 b2, .slice A2 n2 c2]) (p : Nat) (hp : a + 1 < p) (u0 u1 u2 : Value) :
    (((w.setCell ⟨p, 0, none⟩ u0).setCell ⟨p, 1, none⟩ u1).setCell ⟨p, 2, none⟩ u2).cell? ⟨a, 0, none⟩ = some (.int .i64 f) ∧ (((w.setCell ⟨p, 0, none⟩ u0).setCell ⟨p, 1, none⟩ u1).setCell ⟨p, 2, none⟩ u2).cell? ⟨a, 1, none⟩ = some (.int .i64 b1) ∧
    (((w.setCell ⟨p, 0, none⟩ u0).setCell ⟨p, 1, none⟩ u1).setCell ⟨p, 2, none⟩ u2).cell? ⟨a, 2, none⟩ = some (.slice A1 n1 c1) ∧ (((w.setCell ⟨p, 0, none⟩ u0).setCell ⟨p, 1, none⟩ u1).setCell ⟨p, 2, none⟩ u2).cell? ⟨a + 1, 1, none⟩ = some (.int .i64 b2) ∧
    (((w.setCell ⟨p, 0, none⟩ u0).setCell ⟨p, 1, none⟩ u1).setCell ⟨p, 2, none⟩ u2).cell? ⟨a + 1, 2, none⟩ = some (.slice A2 n2 c2) := by
  have q1 := ((hE1.far (p := ⟨p, 0, none⟩) (by show a ≠ p; omega) u0).far (p := ⟨p, 1, none⟩) (by show a ≠ p; omega) u1).far (p := ⟨p, 2, none⟩) (by show a ≠ p; omega) u2
  have q2 := ((hE2.far (p := ⟨p, 0, none⟩) (by show a + 1 ≠ p; omega) u0).far (p := ⟨p, 1, none⟩) (by show a + 1 ≠ p; omega) u1).far (p := ⟨p, 2, none⟩) (by show a + 1 ≠ p; omega) u2
  exact ⟨q1.cell 0, q1.cell 1, q1.cell 2, q2.cell 1, q2.cell 2⟩
theorem named_calls {P : Program} {f : FuncId} {args : Array Value} {w : World} {Q : Ending → World → Prop} (h : ∀ X : World, X = w → Calls P f args X Q) : Calls P f args w Q := h w rfl
theorem named_step {P : Program} {w : World} {ops : Array Oper} {o : Oper} {a : Act} {K : Act → World → Prop} {Q : Exit → Act → World → Prop} {E : Prop} (h : ∀ X : World, X = w → (if Region.wanted o (yielded ops a.tmps) = true then Oper.wp P o a X K Q else E)) : if Region.wanted o (yielded ops a.tmps) = true then Oper.wp P o a w K Q else E := h w rfl
theorem TreesN.al {w : World} {B n : Nat} {bl len : Nat → Nat} {g : Nat → Nat → Nd} (h : TreesN w B n bl len g) (o : Obj) : TreesN (w.alloc o) B n bl len g := h.below ((Below.refl _ _).alloc (Nat.le_refl _) o)
theorem own_srcJ {w : World} {B n c gb : Nat} {xs : List Value} (h : w.ownsRow B 24 1 (.slice (some ⟨gb, 0, none⟩) n c) n xs) : ∀ j u, xs[j]? = some u → w.cell? ((⟨gb, 0, none⟩ : Addr).add j) = some u := fun j u hu => by
  have hj : j < n * 1 := by have := (List.getElem?_eq_some_iff.1 hu).1; have := h.1; omega
  have := h.cellAt j hj
  simpa [Addr.add_lit] using this.trans hu
theorem step_append_mayJ {P : Program} {w : World} {ops : Array Oper} {o : Oper} {a : Act} {K : Act → World → Prop} {Q : Exit → Act → World → Prop} {E : Prop} (hgd : o.guard = none) (s x : Operand) (t : TypeId)
    (ho : o.op = .call { callee := .builtin .append, args := #[s, x], argTypes := #[t, t] })
    (base : Nat) (e : TypeId) (i : TypeInfo) (z : Value) (size bytes : Nat) (ht : P.underlying t = some (.slice e)) (hi : P.info? e = some i) (hz : i.zero = some z)
    (hsize : i.size = size) (hby : i.bytes = bytes) (hzs : z.cells.size = size) (hsz : 0 < size)
    (v : Value) (n : Nat) (xs : List Value) (hs : a.eval s = v) (hown : w.ownsRow base e size v n xs)
    (ad : Addr) (m c : Nat) (news : List Value) (hx : a.eval x = .slice (some ad) m c) (hl : news.length = m * size) (hnews : ∀ j u, news[j]? = some u → w.cell? (ad.add j) = some u) (h1 : ∀ u ∈ news, u.oneCell' = true)
    (h63 : n + m ≤ maxLen) (hbytes : (n + m) * bytes ≤ 140737488355328) (hbase : base ≤ w.heap.size)
    (h : ∀ A' c' w', w'.ownsRow base e size (.slice A' (n + m) c') (n + m) (xs ++ news) → w.grownBy w' v.ownBlock → K (a.put o.dst (.slice A' (n + m) c')) w') :
    if Region.wanted o (yielded ops a.tmps) = true then Oper.wp P o a w K Q else E := by
  have hw : Region.wanted o (yielded ops a.tmps) = true := by simp [Region.wanted, hgd]
  rw [if_pos hw]
  refine wp_append_own w s x t ho base e i z size bytes ht hi hz hsize hby hzs hsz v n xs hs hown ad m c news hx hl hnews h1 h63 hbytes hbase fun v' w' h2 h3 _ => ?_
  obtain ⟨A', c', rfl⟩ := own_form h2
  exact h A' c' w' h2 h3

set_option maxRecDepth 100000 in
set_option maxHeartbeats 8000000 in
theorem sJoin_in (Y : Bool) (f b1 b2 : Int) (A1 A2 : Option Addr) (n1 n2 c1 c2 : Nat) (len1 len2 : Nat → Nat) (g1 g2 : Nat → Nat → Nd) (w : World) (h1 : RdT w w.heap.size A1 n1 len1 g1) (h2 : RdT w w.heap.size A2 n2 len2 g2)
    (hy1 : ensB f b1 n1 len1 g1 = true) (hy2 : ensB f b2 n2 len2 g2 = true) (hy : ensB f (b1 + b2) (n1 + n2) (catN n1 len1 len2) (catN n1 g1 g2) = Y) :
    Calls Try.prog 50 #[enV f b1 A1 n1 c1, enV f b2 A2 n2 c2] w (JoinPost Y w f (b1 + b2) (n1 + n2) (catN n1 len1 len2) (catN n1 g1 g2)) := by
  obtain ⟨i0, hi0, hz0, hz1, hz2⟩ := info_parts info_nodes
  obtain ⟨qf, qb, q12, qt⟩ := ensB_iff.1 hy1
  obtain ⟨_, qb2, q22, qt2⟩ := ensB_iff.1 hy2
  have hl1 : Hid (∀ i, i < n1 → 1 ≤ len1 i ∧ len1 i ≤ 15) := fun i hi => ((treeB_iff _ _ _).1 (qt i hi)).2.1
  have hl2 : Hid (∀ i, i < n2 → 1 ≤ len2 i ∧ len2 i ≤ 15) := fun i hi => ((treeB_iff _ _ _).1 (qt2 i hi)).2.1
  have HY1 := hid hy1
  have HY2 := hid hy2
  have HY := hid hy
  clear qt qt2 hy1 hy2 hy
  have hlm1 : Hid (∀ i, i < n1 → len1 i ≤ 4194304) := fun i hi => by have := hl1.out i hi; omega
  have hlm2 : Hid (∀ i, i < n2 → len2 i ≤ 4194304) := fun i hi => by have := hl2.out i hi; omega
  have hb0 := (((Below.refl w.heap.size w).alloc (Nat.le_refl _) (.cells #[.int .i64 f, .int .i64 b1, .slice A1 n1 c1] 54)).alloc (by simp) (.cells #[.int .i64 f, .int .i64 b2, .slice A2 n2 c2] 54)).alloc (by simp; omega) (.cells #[.int .i64 0, .int .i64 0, .slice none 0 0] 54)
  have hE1 := ((Blk.new w 54 #[.int .i64 f, .int .i64 b1, .slice A1 n1 c1]).alloc (.cells #[.int .i64 f, .int .i64 b2, .slice A2 n2 c2] 54)).alloc (.cells #[.int .i64 0, .int .i64 0, .slice none 0 0] 54)
  have hE2 := (Blk.new2 w (.cells #[.int .i64 f, .int .i64 b1, .slice A1 n1 c1] 54) 54 #[.int .i64 f, .int .i64 b2, .slice A2 n2 c2]).alloc (.cells #[.int .i64 0, .int .i64 0, .slice none 0 0] 54)
  have hZ := Blk.new3 w (.cells #[.int .i64 f, .int .i64 b1, .slice A1 n1 c1] 54) (.cells #[.int .i64 f, .int .i64 b2, .slice A2 n2 c2] 54) 54 #[.int .i64 0, .int .i64 0, .slice none 0 0]
  have hr1 := h1.to hb0 hb0.size
  have hr2 := h2.to hb0 hb0.size
  obtain ⟨W0, hW0⟩ : ∃ W0, ((w.alloc (.cells #[.int .i64 f, .int .i64 b1, .slice A1 n1 c1] 54)).alloc (.cells #[.int .i64 f, .int .i64 b2, .slice A2 n2 c2] 54)).alloc (.cells #[.int .i64 0, .int .i64 0, .slice none 0 0] 54) = W0 := ⟨_, rfl⟩
  rw [hW0] at hb0 hE1 hE2 hZ hr1 hr2
  have HW0 := hid hW0
  clear h1 h2
  have a0 : W0.cell? ⟨w.heap.size, 0, none⟩ = some (.int .i64 f) := hE1.cell 0
  have a1 : W0.cell? ⟨w.heap.size, 1, none⟩ = some (.int .i64 b1) := hE1.cell 1
  have a2 : W0.cell? ⟨w.heap.size, 2, none⟩ = some (.slice A1 n1 c1) := hE1.cell 2
  go_enter Try.func50, Try.ntmps50
  go_wp2_with fail
  refine (sEnsOk_any f b1 A1 n1 c1 len1 g1 _ hr1 (by omega) hlm1).mono ?_
  rintro e w1 ⟨rfl, hb1⟩
  rw [HY1.out]
  have hE1' := hE1.below hb1 hE1.lt
  have hE2' := hE2.below hb1 hE2.lt
  have hZ' := hZ.below hb1 hZ.lt
  have hr1' := hr1.to hb1 hb1.size
  have hr2' := hr2.to hb1 hb1.size
  have hw1 := hb0.trans (hb1.mono hb0.size)
  clear hb0 hb1 hE1 hE2 hZ hr1 hr2 hW0 a0 a1 a2
  have a0 : w1.cell? ⟨w.heap.size + 1, 0, none⟩ = some (.int .i64 f) := hE2'.cell 0
  have a1 : w1.cell? ⟨w.heap.size + 1, 1, none⟩ = some (.int .i64 b2) := hE2'.cell 1
  have a2 : w1.cell? ⟨w.heap.size + 1, 2, none⟩ = some (.slice A2 n2 c2) := hE2'.cell 2
  go_wp2_with fail
  refine (sEnsOk_any f b2 A2 n2 c2 len2 g2 _ hr2' (by omega) hlm2).mono ?_
  rintro e w2 ⟨rfl, hb2⟩
  rw [HY2.out]
  have hE1 := hE1'.below hb2 hE1'.lt
  have hE2 := hE2'.below hb2 hE2'.lt
  have hZ := hZ'.below hb2 hZ'.lt
  have hr1 := hr1'.to hb2 hb2.size
  have hr2 := hr2'.to hb2 hb2.size
  have hw2 := hw1.trans (hb2.mono hw1.size)
  clear hw1 hb2 hE1' hE2' hZ' hr1' hr2' a0 a1 a2
  have a0 : w2.cell? ⟨w.heap.size, 0, none⟩ = some (.int .i64 f) := hE1.cell 0
  have a1 : w2.cell? ⟨w.heap.size, 1, none⟩ = some (.int .i64 b1) := hE1.cell 1
  have a2 : w2.cell? ⟨w.heap.size, 2, none⟩ = some (.slice A1 n1 c1) := hE1.cell 2
  have e0 : w2.cell? ⟨w.heap.size + 1, 0, none⟩ = some (.int .i64 f) := hE2.cell 0
  have e1 : w2.cell? ⟨w.heap.size + 1, 1, none⟩ = some (.int .i64 b2) := hE2.cell 1
  have e2 : w2.cell? ⟨w.heap.size + 1, 2, none⟩ = some (.slice A2 n2 c2) := hE2.cell 2
  have hn1 : n1 ≤ 12 := q12
  have hn2 : n2 ≤ 12 := q22
  have hE1d : Blk w2.drew w.heap.size 54 #[.int .i64 f, .int .i64 b1, .slice A1 n1 c1] := hE1
  have hE2d : Blk w2.drew (w.heap.size + 1) 54 #[.int .i64 f, .int .i64 b2, .slice A2 n2 c2] := hE2
  have hr1d : RdT w2.drew w2.drew.heap.size A1 n1 len1 g1 := hr1
  have hr2d : RdT w2.drew w2.drew.heap.size A2 n2 len2 g2 := hr2
  have hwd : Below w.heap.size w w2.drew := hw2.drew
  have hq2 : w.heap.size + 1 + 1 < w2.heap.size := hZ.lt
  have hE1e : Blk (w2.alloc (.cells #[.int .i64 0, .int .i64 0, .slice none 0 0] 54)).drew w.heap.size 54 #[.int .i64 f, .int .i64 b1, .slice A1 n1 c1] := hE1.alloc _
  have hE2e : Blk (w2.alloc (.cells #[.int .i64 0, .int .i64 0, .slice none 0 0] 54)).drew (w.heap.size + 1) 54 #[.int .i64 f, .int .i64 b2, .slice A2 n2 c2] := hE2.alloc _
  have hr1e : RdT (w2.alloc (.cells #[.int .i64 0, .int .i64 0, .slice none 0 0] 54)).drew (w2.alloc (.cells #[.int .i64 0, .int .i64 0, .slice none 0 0] 54)).drew.heap.size A1 n1 len1 g1 := hr1.al _
  have hr2e : RdT (w2.alloc (.cells #[.int .i64 0, .int .i64 0, .slice none 0 0] 54)).drew (w2.alloc (.cells #[.int .i64 0, .int .i64 0, .slice none 0 0] 54)).drew.heap.size A2 n2 len2 g2 := hr2.al _
  have hwe : Below w.heap.size w (w2.alloc (.cells #[.int .i64 0, .int .i64 0, .slice none 0 0] 54)).drew := (hw2.alloc hw2.size _).drew
  have hZd : Blk w2.drew (w.heap.size + 1 + 1) 54 #[.int .i64 0, .int .i64 0, .slice none 0 0] := hZ
  have hZe : Blk (w2.alloc (.cells #[.int .i64 0, .int .i64 0, .slice none 0 0] 54)).drew (w.heap.size + 1 + 1) 54 #[.int .i64 0, .int .i64 0, .slice none 0 0] := hZ.alloc _
  have hwrap : IntKind.i64.wrap (b1 + b2) = b1 + b2 := IntWalk.i64_in _ (by omega)
  have hPe : Blk (w2.alloc (.cells #[.int .i64 0, .int .i64 0, .slice none 0 0] 54)).drew w2.heap.size 54 #[.int .i64 0, .int .i64 0, .slice none 0 0] := Blk.new w2 _ _
  go_wp2_with fail
  clear a0 a1 a2 e0 e1 e2
  go_region_held3 (fun w' => w'.cell? ⟨w.heap.size, 0, none⟩ = some (.int .i64 f) ∧ w'.cell? ⟨w.heap.size, 1, none⟩ = some (.int .i64 b1) ∧ w'.cell? ⟨w.heap.size, 2, none⟩ = some (.slice A1 n1 c1) ∧ w'.cell? ⟨w.heap.size + 1, 1, none⟩ = some (.int .i64 b2) ∧ w'.cell? ⟨w.heap.size + 1, 2, none⟩ = some (.slice A2 n2 c2))
    (first | with_reducible exact heldE hE1d hE2d | with_reducible exact heldE hE1e hE2e | with_reducible exact heldE hE1L hE2L | with_reducible exact heldE (hE1L.alloc _) (hE2L.alloc _) | with_reducible exact heldE hE1R hE2R | with_reducible exact heldE (hE1R.alloc _) (hE2R.alloc _) | with_reducible exact heldE hE1W hE2W | with_reducible exact heldE (hE1W.alloc _) (hE2W.alloc _) | with_reducible exact heldS hE1W hE2W _ (by omega) _ _ _ | with_reducible exact heldS (hE1W.alloc _) (hE2W.alloc _) _ (by omega) _ _ _ | trace_state)
    (first
      | (go_at_call_of 101 (Value.slice A1 n1 c1); refine named_calls ?_; intro XL hXL; have hE1x : Blk XL w.heap.size 54 #[.int .i64 f, .int .i64 b1, .slice A1 n1 c1] := (by first | (rw [hXL]; (first | with_reducible exact hE1d | with_reducible exact hE1e | with_reducible exact hE1R | with_reducible exact hE1R.alloc _)) | (first | with_reducible exact hE1d | with_reducible exact hE1e | with_reducible exact hE1R | with_reducible exact hE1R.alloc _)); have hE2x : Blk XL (w.heap.size + 1) 54 #[.int .i64 f, .int .i64 b2, .slice A2 n2 c2] := (by first | (rw [hXL]; (first | with_reducible exact hE2d | with_reducible exact hE2e | with_reducible exact hE2R | with_reducible exact hE2R.alloc _)) | (first | with_reducible exact hE2d | with_reducible exact hE2e | with_reducible exact hE2R | with_reducible exact hE2R.alloc _)); have hr1x : RdT XL XL.heap.size A1 n1 len1 g1 := (by first | (rw [hXL]; (first | with_reducible exact hr1d | with_reducible exact hr1e | with_reducible exact hr1R | with_reducible exact hr1R.al _)) | (first | with_reducible exact hr1d | with_reducible exact hr1e | with_reducible exact hr1R | with_reducible exact hr1R.al _)); have hr2x : RdT XL XL.heap.size A2 n2 len2 g2 := (by first | (rw [hXL]; (first | with_reducible exact hr2d | with_reducible exact hr2e | with_reducible exact hr2R | with_reducible exact hr2R.al _)) | (first | with_reducible exact hr2d | with_reducible exact hr2e | with_reducible exact hr2R | with_reducible exact hr2R.al _)); have hZx : Blk XL (w.heap.size + 1 + 1) 54 #[.int .i64 0, .int .i64 0, .slice none 0 0] := (by first | (rw [hXL]; (first | with_reducible exact hZd | with_reducible exact hZe | with_reducible exact hZR | with_reducible exact hZR.alloc _)) | (first | with_reducible exact hZd | with_reducible exact hZe | with_reducible exact hZR | with_reducible exact hZR.alloc _)); have hwx : Below w.heap.size w XL := (by first | (rw [hXL]; (first | with_reducible exact hwd | with_reducible exact hwe | with_reducible exact hwR | with_reducible exact hwR.alloc hwR.size _)) | (first | with_reducible exact hwd | with_reducible exact hwe | with_reducible exact hwR | with_reducible exact hwR.alloc hwR.size _)); (try have own2x : XL.ownsRow w.heap.size 24 1 (.slice (some ⟨gb2, 0, none⟩) n2 d2) n2 (hdJ n2 bl2 len2 cp2) := (by first | (rw [hXL]; (first | with_reducible exact hown2R | with_reducible exact hown2R.alloc _)) | (first | with_reducible exact hown2R | with_reducible exact hown2R.alloc _))); (try have hT2x : TreesN XL w.heap.size n2 bl2 len2 g2 := (by first | (rw [hXL]; (first | with_reducible exact hT2R | with_reducible exact hT2R.al _)) | (first | with_reducible exact hT2R | with_reducible exact hT2R.al _))); (first | (have hPx : Blk XL w2.heap.size 54 #[.int .i64 0, .int .i64 0, .slice none 0 0] := (by rw [hXL]; with_reducible exact hPe)) | (have hPx : Blk XL wR.heap.size 54 #[.int .i64 0, .int .i64 0, .slice none 0 0] := (by rw [hXL]; with_reducible exact Blk.new wR _ _)) | (have hPx : Blk XL w2.heap.size 54 #[.int .i64 0, .int .i64 0, .slice none 0 0] := (by rw [hXL]; with_reducible exact hPR)) | skip); refine (copy_any A1 n1 c1 len1 g1 XL hr1x hn1 hl1).mono ?_; rintro e wL ⟨v, rfl, gb1, d1, bl1, cp1, rfl, hown10, hT10, hbL⟩; have hown1L := own_lessJ hown10 hwx.size; have hT1L := hT10.less hwx.size; have hgb1 : w.heap.size + 1 < gb1 := Nat.lt_of_lt_of_le hE2x.lt (own_ltJ hown10 gb1 rfl).1; have hE1L := hE1x.on hbL; have hE2L := hE2x.on hbL; have hZL := hZx.on hbL; have hr1L := hr1x.to hbL hbL.size; have hr2L := hr2x.to hbL hbL.size; have hwL := hwx.trans (hbL.mono hwx.size); have hqL := hZL.lt; (try have hown2L := own_below own2x hbL); (try have hT2L := hT2x.below hbL); (try have hPL := hPx.on hbL); (try have hne12 : ∀ i j, i < n1 → j < n2 → bl1 i ≠ bl2 j := fun i j hi hj => (by have := (hT10 i hi).1; have := (hT2x j hj).2.1.lt; omega)); (try clear own2x); (try clear hT2x); (try clear hPx); clear hZx hE1x hE2x hr1x hr2x hwx)
      | (go_at_call_of 101 (Value.slice A2 n2 c2); refine named_calls ?_; intro XR hXR; have hE1x : Blk XR w.heap.size 54 #[.int .i64 f, .int .i64 b1, .slice A1 n1 c1] := (by first | (rw [hXR]; (first | with_reducible exact hE1d | with_reducible exact hE1e | with_reducible exact hE1L | with_reducible exact hE1L.alloc _)) | (first | with_reducible exact hE1d | with_reducible exact hE1e | with_reducible exact hE1L | with_reducible exact hE1L.alloc _)); have hE2x : Blk XR (w.heap.size + 1) 54 #[.int .i64 f, .int .i64 b2, .slice A2 n2 c2] := (by first | (rw [hXR]; (first | with_reducible exact hE2d | with_reducible exact hE2e | with_reducible exact hE2L | with_reducible exact hE2L.alloc _)) | (first | with_reducible exact hE2d | with_reducible exact hE2e | with_reducible exact hE2L | with_reducible exact hE2L.alloc _)); have hr1x : RdT XR XR.heap.size A1 n1 len1 g1 := (by first | (rw [hXR]; (first | with_reducible exact hr1d | with_reducible exact hr1e | with_reducible exact hr1L | with_reducible exact hr1L.al _)) | (first | with_reducible exact hr1d | with_reducible exact hr1e | with_reducible exact hr1L | with_reducible exact hr1L.al _)); have hr2x : RdT XR XR.heap.size A2 n2 len2 g2 := (by first | (rw [hXR]; (first | with_reducible exact hr2d | with_reducible exact hr2e | with_reducible exact hr2L | with_reducible exact hr2L.al _)) | (first | with_reducible exact hr2d | with_reducible exact hr2e | with_reducible exact hr2L | with_reducible exact hr2L.al _)); have hZx : Blk XR (w.heap.size + 1 + 1) 54 #[.int .i64 0, .int .i64 0, .slice none 0 0] := (by first | (rw [hXR]; (first | with_reducible exact hZd | with_reducible exact hZe | with_reducible exact hZL | with_reducible exact hZL.alloc _)) | (first | with_reducible exact hZd | with_reducible exact hZe | with_reducible exact hZL | with_reducible exact hZL.alloc _)); have hwx : Below w.heap.size w XR := (by first | (rw [hXR]; (first | with_reducible exact hwd | with_reducible exact hwe | with_reducible exact hwL | with_reducible exact hwL.alloc hwL.size _)) | (first | with_reducible exact hwd | with_reducible exact hwe | with_reducible exact hwL | with_reducible exact hwL.alloc hwL.size _)); (try have own1x : XR.ownsRow w.heap.size 24 1 (.slice (some ⟨gb1, 0, none⟩) n1 d1) n1 (hdJ n1 bl1 len1 cp1) := (by first | (rw [hXR]; (first | with_reducible exact hown1L | with_reducible exact hown1L.alloc _)) | (first | with_reducible exact hown1L | with_reducible exact hown1L.alloc _))); (try have hT1x : TreesN XR w.heap.size n1 bl1 len1 g1 := (by first | (rw [hXR]; (first | with_reducible exact hT1L | with_reducible exact hT1L.al _)) | (first | with_reducible exact hT1L | with_reducible exact hT1L.al _))); (first | (have hPx : Blk XR w2.heap.size 54 #[.int .i64 0, .int .i64 0, .slice none 0 0] := (by rw [hXR]; with_reducible exact hPe)) | (have hPx : Blk XR wL.heap.size 54 #[.int .i64 0, .int .i64 0, .slice none 0 0] := (by rw [hXR]; with_reducible exact Blk.new wL _ _)) | (have hPx : Blk XR w2.heap.size 54 #[.int .i64 0, .int .i64 0, .slice none 0 0] := (by rw [hXR]; with_reducible exact hPL)) | skip); refine (copy_any A2 n2 c2 len2 g2 XR hr2x hn2 hl2).mono ?_; rintro e wR ⟨v, rfl, gb2, d2, bl2, cp2, rfl, hown20, hT20, hbR⟩; have hown2R := own_lessJ hown20 hwx.size; have hT2R := hT20.less hwx.size; have hgb2 : w.heap.size + 1 < gb2 := Nat.lt_of_lt_of_le hE2x.lt (own_ltJ hown20 gb2 rfl).1; have hE1R := hE1x.on hbR; have hE2R := hE2x.on hbR; have hZR := hZx.on hbR; have hr1R := hr1x.to hbR hbR.size; have hr2R := hr2x.to hbR hbR.size; have hwR := hwx.trans (hbR.mono hwx.size); have hqR := hZR.lt; (try have hown1R := own_below own1x hbR); (try have hT1R := hT1x.below hbR); (try have hPR := hPx.on hbR); (try have hne21 : ∀ i j, i < n2 → j < n1 → bl2 i ≠ bl1 j := fun i j hi hj => (by have := (hT20 i hi).1; have := (hT1x j hj).2.1.lt; omega)); (try clear own1x); (try clear hT1x); (try clear hPx); clear hZx hE1x hE2x hr1x hr2x hwx)
      | (refine named_step ?_; intro Xa hXa; have own1a : Xa.ownsRow w.heap.size 24 1 (.slice (some ⟨gb1, 0, none⟩) n1 d1) n1 (hdJ n1 bl1 len1 cp1) := (by first | (rw [hXa]; (first | with_reducible exact hown1R | with_reducible exact hown1R.alloc _ | with_reducible exact hown1L | with_reducible exact hown1L.alloc _)) | (first | with_reducible exact hown1R | with_reducible exact hown1R.alloc _ | with_reducible exact hown1L | with_reducible exact hown1L.alloc _)); have own2a : Xa.ownsRow w.heap.size 24 1 (.slice (some ⟨gb2, 0, none⟩) n2 d2) n2 (hdJ n2 bl2 len2 cp2) := (by first | (rw [hXa]; (first | with_reducible exact hown2R | with_reducible exact hown2R.alloc _ | with_reducible exact hown2L | with_reducible exact hown2L.alloc _)) | (first | with_reducible exact hown2R | with_reducible exact hown2R.alloc _ | with_reducible exact hown2L | with_reducible exact hown2L.alloc _)); have hT1a : TreesN Xa w.heap.size n1 bl1 len1 g1 := (by first | (rw [hXa]; (first | with_reducible exact hT1R | with_reducible exact hT1R.al _ | with_reducible exact hT1L | with_reducible exact hT1L.al _)) | (first | with_reducible exact hT1R | with_reducible exact hT1R.al _ | with_reducible exact hT1L | with_reducible exact hT1L.al _)); have hT2a : TreesN Xa w.heap.size n2 bl2 len2 g2 := (by first | (rw [hXa]; (first | with_reducible exact hT2R | with_reducible exact hT2R.al _ | with_reducible exact hT2L | with_reducible exact hT2L.al _)) | (first | with_reducible exact hT2R | with_reducible exact hT2R.al _ | with_reducible exact hT2L | with_reducible exact hT2L.al _)); have hE1a : Blk Xa w.heap.size 54 #[.int .i64 f, .int .i64 b1, .slice A1 n1 c1] := (by first | (rw [hXa]; (first | with_reducible exact hE1R | with_reducible exact hE1R.alloc _ | with_reducible exact hE1L | with_reducible exact hE1L.alloc _)) | (first | with_reducible exact hE1R | with_reducible exact hE1R.alloc _ | with_reducible exact hE1L | with_reducible exact hE1L.alloc _)); have hE2a : Blk Xa (w.heap.size + 1) 54 #[.int .i64 f, .int .i64 b2, .slice A2 n2 c2] := (by first | (rw [hXa]; (first | with_reducible exact hE2R | with_reducible exact hE2R.alloc _ | with_reducible exact hE2L | with_reducible exact hE2L.alloc _)) | (first | with_reducible exact hE2R | with_reducible exact hE2R.alloc _ | with_reducible exact hE2L | with_reducible exact hE2L.alloc _)); have hZa : Blk Xa (w.heap.size + 1 + 1) 54 #[.int .i64 0, .int .i64 0, .slice none 0 0] := (by rw [hXa]; first | with_reducible exact hZR | with_reducible exact hZR.alloc _ | with_reducible exact hZL | with_reducible exact hZL.alloc _); have hwa : Below w.heap.size w Xa := (by first | (rw [hXa]; (first | with_reducible exact hwR | with_reducible exact hwR.alloc hwR.size _ | with_reducible exact hwL | with_reducible exact hwL.alloc hwL.size _)) | (first | with_reducible exact hwR | with_reducible exact hwR.alloc hwR.size _ | with_reducible exact hwL | with_reducible exact hwL.alloc hwL.size _)); (first | (have hPa : Blk Xa wR.heap.size 54 #[.int .i64 0, .int .i64 0, .slice none 0 0] := (by rw [hXa]; with_reducible exact Blk.new wR _ _)) | (have hPa : Blk Xa wL.heap.size 54 #[.int .i64 0, .int .i64 0, .slice none 0 0] := (by rw [hXa]; with_reducible exact Blk.new wL _ _)) | (have hPa : Blk Xa w2.heap.size 54 #[.int .i64 0, .int .i64 0, .slice none 0 0] := (by rw [hXa]; first | with_reducible exact hPR | with_reducible exact hPL)) | (have hPa : Blk Xa wL.heap.size 54 #[.int .i64 0, .int .i64 0, .slice none 0 0] := (by rw [hXa]; with_reducible exact hPR)) | (have hPa : Blk Xa wR.heap.size 54 #[.int .i64 0, .int .i64 0, .slice none 0 0] := (by rw [hXa]; with_reducible exact hPL)) | skip); refine step_append_mayJ (by rfl) _ _ _ (by rfl) w.heap.size 24 i0 _ 1 24 Try.underlying52 hi0 hz0 hz1 hz2 rfl (by omega) (.slice (some ⟨gb1, 0, none⟩) n1 d1) n1 (hdJ n1 bl1 len1 cp1) (by rfl) own1a ⟨gb2, 0, none⟩ n2 d2 (hdJ n2 bl2 len2 cp2) (by rfl) (by rw [hdJ_len]; omega) (own_srcJ own2a) (hdJ_one _ _ _ _) (by unfold maxLen; omega) (by omega) hwa.size ?_; intro A5 c5 w5 hown5 hgrow; have hne1 : some w.heap.size ≠ (Value.slice (some ⟨gb1, 0, none⟩) n1 d1).ownBlock := (by simp [Value.ownBlock]; omega); have hne2 : some (w.heap.size + 1) ≠ (Value.slice (some ⟨gb1, 0, none⟩) n1 d1).ownBlock := (by simp [Value.ownBlock]; omega); have hE1W := hE1a.grown hgrow hne1; have hE2W := hE2a.grown hgrow hne2; have hZW := grownP hZa own1a hgrow; have hqW := hZW.lt; have hT1W := hT1a.grownJ own1a hgrow; have hT2W := hT2a.grownJ own1a hgrow; have hw5 := hwa.grown hgrow hwa.size (fun x hx => (own_ltJ own1a x hx).1);  (try (have hP := grownP hPa own1a hgrow; have p0 := hP.cell 0; have p1 := hP.cell 1; have p2 := hP.cell 2; have p3 := hP.frozen 0; have p4 := hP.frozen 1; have p5 := hP.frozen 2))))
  all_goals
    have hTT := hT1W.cat hT2W (by first | exact hne12 | exact fun i j hi hj e => hne21 j i hj hi e.symm)
    rw [← hdJ_cat] at hown5
    have hlJ : Hid (∀ i, i < n1 + n2 → catN n1 len1 len2 i ≤ 4194304) := fun i hi => by
      by_cases e : i < n1
      · rw [catN_left e]; exact hlm1.out i e
      · rw [catN_right e]; exact hlm2.out _ (by omega)
    have hN : n1 + n2 ≤ 4194304 := by omega
    first
      | (have hfin := fin_set hP rfl hown5 hTT hw5 (by first | exact hwd.size | exact hwL.size | exact hwR.size) (.int .i64 f) (.int .i64 (b1 + b2)) (.slice A5 (n1 + n2) c5)
         have hZ6 := blk_far3 hP hZW (by omega) (.int .i64 f) (.int .i64 (b1 + b2)) (.slice A5 (n1 + n2) c5))
      | (have hfin : Blk (w5.alloc (.cells #[.int .i64 f, .int .i64 (b1 + b2), .slice A5 (n1 + n2) c5] 54)) w5.heap.size 54 #[.int .i64 f, .int .i64 (b1 + b2), .slice A5 (n1 + n2) c5] ∧ (w5.alloc (.cells #[.int .i64 f, .int .i64 (b1 + b2), .slice A5 (n1 + n2) c5] 54)).ownsRow w.heap.size 24 1 (.slice A5 (n1 + n2) c5) (n1 + n2) (hdJ (n1 + n2) (catN n1 bl1 bl2) (catN n1 len1 len2) (catN n1 cp1 cp2)) ∧ TreesN (w5.alloc (.cells #[.int .i64 f, .int .i64 (b1 + b2), .slice A5 (n1 + n2) c5] 54)) w.heap.size (n1 + n2) (catN n1 bl1 bl2) (catN n1 len1 len2) (catN n1 g1 g2) ∧ Below w.heap.size w (w5.alloc (.cells #[.int .i64 f, .int .i64 (b1 + b2), .slice A5 (n1 + n2) c5] 54)) := ⟨Blk.new w5 _ _, hown5.alloc _, hTT.al _, hw5.alloc hw5.size _⟩
         have hZ6 := hZW.alloc (.cells #[.int .i64 f, .int .i64 (b1 + b2), .slice A5 (n1 + n2) c5] 54))
    obtain ⟨hF, hO, hT6, hw6⟩ := hfin
    have d0 : _ = some (Value.int .i64 f) := hF.cell 0
    have d1 : _ = some (Value.int .i64 (b1 + b2)) := hF.cell 1
    have d2 : _ = some (Value.slice A5 (n1 + n2) c5) := hF.cell 2
    have hrJ := rdT_J hO hT6
    clear hTT hT1W hT2W hE1W hE2W hown5 hgrow hZW hw5 own1a own2a hT1a hT2a hE1a hE2a hZa hwa
    go_wp2_with fail
    refine (sEnsOk_any f (b1 + b2) A5 (n1 + n2) c5 _ _ _ hrJ hN hlJ).mono ?_
    rintro e w7 ⟨rfl, hb7⟩
    rw [HY.out]
    have hF7 := hF.on hb7
    have hO7 := own_below hO hb7
    have hT7 := hT6.below hb7
    have hZ7 := hZ6.on hb7
    have hw7 := hw6.trans (hb7.mono hw6.size)
    clear hF hO hT6 hZ6 hw6 hb7 hrJ d0 d1 d2
    have d0 : _ = some (Value.int .i64 f) := hF7.cell 0
    have d1 : _ = some (Value.int .i64 (b1 + b2)) := hF7.cell 1
    have d2 : _ = some (Value.slice A5 (n1 + n2) c5) := hF7.cell 2
    have z0 : w7.cell? ⟨w.heap.size + 1 + 1, 0, none⟩ = some (.int .i64 0) := hZ7.cell 0
    have z1 : w7.cell? ⟨w.heap.size + 1 + 1, 1, none⟩ = some (.int .i64 0) := hZ7.cell 1
    have z2 : w7.cell? ⟨w.heap.size + 1 + 1, 2, none⟩ = some (.slice none 0 0) := hZ7.cell 2
    have z3 := hZ7.frozen 0
    have z4 := hZ7.frozen 1
    have z5 := hZ7.frozen 2
    cases Y with
    | false =>
      have HEND := hid (fin_set hZ7 rfl hO7 hT7 hw7 (by omega) (.int .i64 0) (.int .i64 0) (.slice none 0 0))
      clear hF7 hO7 hT7 hZ7 hw7
      go_wp2_with fail
      have hend := HEND.out
      (try simp only [Exit.inBlock, Exit.then])
      refine bodyPost_ret (results_cell_tmpJ rfl _ _ (w.heap.size + 1 + 1) 54 #[.int .i64 0, .int .i64 0, .slice none 0 0] (0, 0) _ rfl hend.1 Try.underlying54 rfl size_ens) rfl ?_
      exact ⟨rfl, hend.2.2.2⟩
    | true =>
      have HEND := hid (fin_set hZ7 rfl hO7 hT7 hw7 (by omega) (.int .i64 f) (.int .i64 (b1 + b2)) (.slice A5 (n1 + n2) c5))
      clear hF7 hO7 hT7 hZ7 hw7
      go_wp2_with fail
      have hend := HEND.out
      (try simp only [Exit.inBlock, Exit.then])
      refine bodyPost_ret (results_cell_tmpJ rfl _ _ (w.heap.size + 1 + 1) 54 #[.int .i64 f, .int .i64 (b1 + b2), .slice A5 (n1 + n2) c5] (0, 0) _ rfl hend.1 Try.underlying54 rfl size_ens) rfl ?_
      exact ⟨A5, c5, _, _, rfl, hend.2.1, hend.2.2.1, hend.2.2.2⟩

/-! ### JoinD -/
/-- The headers of what reads as a list of lists. -/
theorem RdT.hdrsJ {w : World} {B n : Nat} {A : Option Addr} {len : Nat → Nat} {g : Nat → Nat → Nd} (h : RdT w B A n len g) :
    ∃ (As : Nat → Option Addr) (cs : Nat → Nat), (0 < n → ∃ b off, A = some ⟨b, off, none⟩ ∧ b < B ∧ ∀ i, i < n → w.cell? ⟨b, off + i, none⟩ = some (.slice (As i) (len i) (cs i))) ∧ ∀ i, i < n → RdN w B (As i) (len i) (g i) := by
  by_cases hn : 0 < n
  · obtain ⟨b, off, e, hb, hc⟩ := h hn
    have hq : ∀ i, ∃ p : Option Addr × Nat, i < n → (w.cell? ⟨b, off + i, none⟩ = some (.slice p.1 (len i) p.2) ∧ RdN w B p.1 (len i) (g i)) := fun i => by
      by_cases hi : i < n
      · obtain ⟨Ai, ci, h1, h2⟩ := hc i hi
        exact ⟨(Ai, ci), fun _ => ⟨h1, h2⟩⟩
      · exact ⟨(none, 0), fun h => absurd h hi⟩
    obtain ⟨F, hF⟩ := Classical.axiomOfChoice hq
    exact ⟨fun i => (F i).1, fun i => (F i).2, fun _ => ⟨b, off, e, hb, fun i hi => (hF i hi).1⟩, fun i hi => (hF i hi).2⟩
  · exact ⟨fun _ => none, fun _ => 0, fun h => absurd h hn, fun i hi => by omega⟩

def hdlJ (k : Nat) (As : Nat → Option Addr) (len cs : Nat → Nat) : List Value := (List.range k).map fun i => .slice (As i) (len i) (cs i)
theorem hdlJ_len (k : Nat) (As : Nat → Option Addr) (len cs : Nat → Nat) : (hdlJ k As len cs).length = k := by simp [hdlJ]
theorem hdlJ_at {k : Nat} {As : Nat → Option Addr} {len cs : Nat → Nat} {i : Nat} (hi : i < k) : (hdlJ k As len cs)[i]? = some (.slice (As i) (len i) (cs i)) := by
  unfold hdlJ
  rw [List.getElem?_map, List.getElem?_range hi]
  rfl
theorem hdlJ_one (k : Nat) (As : Nat → Option Addr) (len cs : Nat → Nat) : ∀ u ∈ hdlJ k As len cs, u.oneCell' = true := by
  intro u hu
  obtain ⟨i, _, rfl⟩ := List.mem_map.1 hu
  rfl
theorem hdlJ_cat {n1 n2 i : Nat} {A1 A2 : Nat → Option Addr} {len1 len2 c1 c2 : Nat → Nat} (hi : i < n1 + n2) : (hdlJ n1 A1 len1 c1 ++ hdlJ n2 A2 len2 c2)[i]? = some (.slice (catN n1 A1 A2 i) (catN n1 len1 len2 i) (catN n1 c1 c2 i)) := by
  by_cases h1 : i < n1
  · rw [List.getElem?_append_left (by rw [hdlJ_len]; exact h1), hdlJ_at h1, catN_left h1, catN_left h1, catN_left h1]
  · rw [List.getElem?_append_right (by rw [hdlJ_len]; omega), hdlJ_len, hdlJ_at (by omega), catN_right h1, catN_right h1, catN_right h1]
theorem src_hdl {w W : World} {A : Option Addr} {n : Nat} {As : Nat → Option Addr} {len cs : Nat → Nat} (h : 0 < n → ∃ b off, A = some ⟨b, off, none⟩ ∧ b < w.heap.size ∧ ∀ i, i < n → w.cell? ⟨b, off + i, none⟩ = some (.slice (As i) (len i) (cs i))) (hb : Below w.heap.size w W) : Src W A n (hdlJ n As len cs) :=
  ⟨hdlJ_len _ _ _ _, hdlJ_one _ _ _ _, fun h0 => by
    obtain ⟨b, off, e, hlt, hc⟩ := h h0
    refine ⟨b, off, e, Nat.lt_of_lt_of_le hlt hb.size, fun j u hu => ?_⟩
    have hj : j < n := by have := (List.getElem?_eq_some_iff.1 hu).1; rw [hdlJ_len] at this; exact this
    rw [hdlJ_at hj] at hu
    injection hu with hu
    subst hu
    exact (hb.cell (p := ⟨b, off + j, none⟩) hlt).trans (hc j hj)⟩

/-- An ensemble that is being joined: its cell bb, its trees behind block W4's. -/
def Joining (W4 : World) (bb : Nat) (f b : Int) (len : Nat → Nat) (g : Nat → Nat → Nd) (j : Nat) (wr : World) : Prop :=
  ∃ A c bl cp, Blk wr bb 54 #[.int .i64 f, .int .i64 b, .slice A j c] ∧ wr.ownsRow W4.heap.size 24 1 (.slice A j c) j (hdJ j bl len cp) ∧ TreesN wr W4.heap.size j bl len g ∧ W4.grownBy wr (some bb)
theorem joining_next {W4 wr w4 w5 : World} {bb j b4 c4 gg c cp5 : Nat} {A : Option Addr} {f b : Int} {bl cp len : Nat → Nat} {g : Nat → Nat → Nd}
    (_hE : Blk wr bb 54 #[.int .i64 f, .int .i64 b, .slice A j c]) (hbb : bb < W4.heap.size) (hT : TreesN wr W4.heap.size j bl len g) (hg : W4.grownBy wr (some bb))
    (hb4 : wr.drew.heap.size ≤ b4) (hr4 : RowN w4 33 b4 (len j) (g j)) (hbel : Below wr.drew.heap.size wr.drew w4)
    (hownr : w4.ownsRow W4.heap.size 24 1 (.slice A j c) j (hdJ j bl len cp)) (O : Obj) (hgrow : (w4.alloc O).grownBy w5 (Value.slice A j c).ownBlock)
    (hE5 : Blk w5 bb 54 #[.int .i64 f, .int .i64 b, .slice A j c])
    (hown5 : w5.ownsRow W4.heap.size 24 1 (.slice (some ⟨gg, 0, none⟩) (j + 1) cp5) (j + 1) (hdJ j bl len cp ++ [.slice (some ⟨b4, 0, none⟩) (len j) c4])) :
    Joining W4 bb f b len g (j + 1) (w5.setCell ⟨bb, 2, none⟩ (.slice (some ⟨gg, 0, none⟩) (j + 1) cp5)) := by
  have hsz : W4.heap.size ≤ wr.heap.size := hg.size
  have hsz4 : wr.heap.size ≤ w4.heap.size := hbel.size
  have hb4' : wr.heap.size ≤ b4 := hb4
  have hT4 : TreesN w4 W4.heap.size j bl len g := TreesN.below (w := wr.drew) hT hbel
  have hT5 := hT4.snoc (b := b4) (by omega) hr4 (fun i hi => Nat.ne_of_lt (Nat.lt_of_lt_of_le (hT i hi).2.1.lt hb4'))
  have hT6 := (hT5.al O).grownJ (hownr.alloc O) hgrow
  refine ⟨some ⟨gg, 0, none⟩, cp5, setN bl j b4, setN cp j c4, hE5.set_ 2 _, ?_, hT6.keep fun i hi => Below.heap_setCell _ _ _ _ ?_, ?_⟩
  · rw [hdJ_snoc]
    exact own_keepJ hown5 fun x hx _ _ => Below.heap_setCell _ _ _ x (by show x ≠ bb; omega)
  · have := (hT6 i hi).1
    show setN bl j b4 i ≠ bb
    omega
  · have hlt := own_ltJ hownr
    have h1 : W4.grownBy w4 (some bb) := ⟨hbel.os.trans hg.os, hbel.tape.trans hg.tape, hbel.output.trans hg.output, Nat.le_trans hsz hsz4, fun i hi hne => (hbel.block i (show i < wr.heap.size by omega)).trans (hg.block i hi hne)⟩
    have h2 := grown_own h1 O hgrow (fun k hk => (hlt k hk).1)
    exact ⟨h2.os, h2.tape, h2.output, by simpa [World.setCell] using h2.size, fun i hi hne => (Below.heap_setCell _ _ _ i (by show i ≠ bb; intro e; exact hne (by rw [e]))).trans (h2.block i hi hne)⟩

set_option maxRecDepth 100000 in
set_option maxHeartbeats 8000000 in
theorem iJoin_in (Y : Bool) (f b1 b2 : Int) (A1 A2 : Option Addr) (n1 n2 c1 c2 : Nat) (len1 len2 : Nat → Nat) (g1 g2 : Nat → Nat → Nd) (w : World) (h1 : RdT w w.heap.size A1 n1 len1 g1) (h2 : RdT w w.heap.size A2 n2 len2 g2)
    (hy1 : ensB f b1 n1 len1 g1 = true) (hy2 : ensB f b2 n2 len2 g2 = true) (hy : ensB f (b1 + b2) (n1 + n2) (catN n1 len1 len2) (catN n1 g1 g2) = Y) :
    Calls Try.prog 49 #[enV f b1 A1 n1 c1, enV f b2 A2 n2 c2] w (JoinPost Y w f (b1 + b2) (n1 + n2) (catN n1 len1 len2) (catN n1 g1 g2)) := by
  obtain ⟨i0, hi0, hz0, hz1, hz2⟩ := info_parts info_nodes
  obtain ⟨qf, qb, q12, qt⟩ := ensB_iff.1 hy1
  obtain ⟨_, qb2, q22, qt2⟩ := ensB_iff.1 hy2
  have hl1 : Hid (∀ i, i < n1 → 1 ≤ len1 i ∧ len1 i ≤ 15) := fun i hi => ((treeB_iff _ _ _).1 (qt i hi)).2.1
  have hl2 : Hid (∀ i, i < n2 → 1 ≤ len2 i ∧ len2 i ≤ 15) := fun i hi => ((treeB_iff _ _ _).1 (qt2 i hi)).2.1
  have HY1 := hid hy1
  have HY2 := hid hy2
  have HY := hid hy
  clear qt qt2 hy1 hy2 hy
  have hlm1 : Hid (∀ i, i < n1 → len1 i ≤ 4194304) := fun i hi => by have := hl1.out i hi; omega
  have hlm2 : Hid (∀ i, i < n2 → len2 i ≤ 4194304) := fun i hi => by have := hl2.out i hi; omega
  have hb0 := (((Below.refl w.heap.size w).alloc (Nat.le_refl _) (.cells #[.int .i64 f, .int .i64 b1, .slice A1 n1 c1] 54)).alloc (by simp) (.cells #[.int .i64 f, .int .i64 b2, .slice A2 n2 c2] 54)).alloc (by simp; omega) (.cells #[.int .i64 0, .int .i64 0, .slice none 0 0] 54)
  have hE1 := ((Blk.new w 54 #[.int .i64 f, .int .i64 b1, .slice A1 n1 c1]).alloc (.cells #[.int .i64 f, .int .i64 b2, .slice A2 n2 c2] 54)).alloc (.cells #[.int .i64 0, .int .i64 0, .slice none 0 0] 54)
  have hE2 := (Blk.new2 w (.cells #[.int .i64 f, .int .i64 b1, .slice A1 n1 c1] 54) 54 #[.int .i64 f, .int .i64 b2, .slice A2 n2 c2]).alloc (.cells #[.int .i64 0, .int .i64 0, .slice none 0 0] 54)
  have hZ := Blk.new3 w (.cells #[.int .i64 f, .int .i64 b1, .slice A1 n1 c1] 54) (.cells #[.int .i64 f, .int .i64 b2, .slice A2 n2 c2] 54) 54 #[.int .i64 0, .int .i64 0, .slice none 0 0]
  have hr1 := h1.to hb0 hb0.size
  have hr2 := h2.to hb0 hb0.size
  obtain ⟨W0, hW0⟩ : ∃ W0, ((w.alloc (.cells #[.int .i64 f, .int .i64 b1, .slice A1 n1 c1] 54)).alloc (.cells #[.int .i64 f, .int .i64 b2, .slice A2 n2 c2] 54)).alloc (.cells #[.int .i64 0, .int .i64 0, .slice none 0 0] 54) = W0 := ⟨_, rfl⟩
  rw [hW0] at hb0 hE1 hE2 hZ hr1 hr2
  have HW0 := hid hW0
  obtain ⟨As1, cs1, hh1, hq1⟩ := h1.hdrsJ
  obtain ⟨As2, cs2, hh2, hq2⟩ := h2.hdrsJ
  have HH1 := hid hh1
  have HH2 := hid hh2
  have HQ : Hid (∀ i, i < n1 + n2 → RdN w w.heap.size (catN n1 As1 As2 i) (catN n1 len1 len2 i) (catN n1 g1 g2 i)) := fun i hi => by
    by_cases e : i < n1
    · rw [catN_left e, catN_left e, catN_left e]; exact hq1 i e
    · rw [catN_right e, catN_right e, catN_right e]; exact hq2 _ (by omega)
  clear hh1 hh2 hq1 hq2
  have a0 : W0.cell? ⟨w.heap.size, 0, none⟩ = some (.int .i64 f) := hE1.cell 0
  have a1 : W0.cell? ⟨w.heap.size, 1, none⟩ = some (.int .i64 b1) := hE1.cell 1
  have a2 : W0.cell? ⟨w.heap.size, 2, none⟩ = some (.slice A1 n1 c1) := hE1.cell 2
  go_enter Try.func49, Try.ntmps49
  go_wp2_with fail
  refine (iEnsOk_any f b1 A1 n1 c1 len1 g1 _ hr1 (by omega) hlm1).mono ?_
  rintro e w1 ⟨rfl, hb1⟩
  rw [HY1.out]
  have hE1' := hE1.below hb1 hE1.lt
  have hE2' := hE2.below hb1 hE2.lt
  have hZ' := hZ.below hb1 hZ.lt
  have hr1' := hr1.to hb1 hb1.size
  have hr2' := hr2.to hb1 hb1.size
  have hw1 := hb0.trans (hb1.mono hb0.size)
  clear hb0 hb1 hE1 hE2 hZ hr1 hr2 hW0 a0 a1 a2
  have a0 : w1.cell? ⟨w.heap.size + 1, 0, none⟩ = some (.int .i64 f) := hE2'.cell 0
  have a1 : w1.cell? ⟨w.heap.size + 1, 1, none⟩ = some (.int .i64 b2) := hE2'.cell 1
  have a2 : w1.cell? ⟨w.heap.size + 1, 2, none⟩ = some (.slice A2 n2 c2) := hE2'.cell 2
  go_wp2_with fail
  refine (iEnsOk_any f b2 A2 n2 c2 len2 g2 _ hr2' (by omega) hlm2).mono ?_
  rintro e w2 ⟨rfl, hb2⟩
  rw [HY2.out]
  have hE1 := hE1'.below hb2 hE1'.lt
  have hE2 := hE2'.below hb2 hE2'.lt
  have hZ := hZ'.below hb2 hZ'.lt
  have hr1 := hr1'.to hb2 hb2.size
  have hr2 := hr2'.to hb2 hb2.size
  have hw2 := hw1.trans (hb2.mono hw1.size)
  clear hw1 hb2 hE1' hE2' hZ' hr1' hr2' a0 a1 a2
  have a0 : w2.cell? ⟨w.heap.size, 0, none⟩ = some (.int .i64 f) := hE1.cell 0
  have a1 : w2.cell? ⟨w.heap.size, 1, none⟩ = some (.int .i64 b1) := hE1.cell 1
  have a2 : w2.cell? ⟨w.heap.size, 2, none⟩ = some (.slice A1 n1 c1) := hE1.cell 2
  have e0 : w2.cell? ⟨w.heap.size + 1, 0, none⟩ = some (.int .i64 f) := hE2.cell 0
  have e1 : w2.cell? ⟨w.heap.size + 1, 1, none⟩ = some (.int .i64 b2) := hE2.cell 1
  have e2 : w2.cell? ⟨w.heap.size + 1, 2, none⟩ = some (.slice A2 n2 c2) := hE2.cell 2
  have hn1 : n1 ≤ 12 := q12
  have hn2 : n2 ≤ 12 := q22
  have hlJ : Hid (∀ i, i < n1 + n2 → 1 ≤ catN n1 len1 len2 i ∧ catN n1 len1 len2 i ≤ 15) := fun i hi => by
    by_cases e : i < n1
    · rw [catN_left e]; exact hl1.out i e
    · rw [catN_right e]; exact hl2.out _ (by omega)
  have hwrap : IntKind.i64.wrap (b1 + b2) = b1 + b2 := IntWalk.i64_in _ (by omega)
  have hb3 := ((Below.refl w2.heap.size w2).alloc (Nat.le_refl _) (.cells #[.int .i64 f, .int .i64 (b1 + b2), .slice none 0 0] 54)).alloc (by simp) (.cells #[.slice A1 n1 c1, .slice A2 n2 c2] 52)
  have hB3 := (Blk.new w2 54 #[.int .i64 f, .int .i64 (b1 + b2), .slice none 0 0]).alloc (.cells #[.slice A1 n1 c1, .slice A2 n2 c2] 52)
  have hP3 := Blk.new2 w2 (.cells #[.int .i64 f, .int .i64 (b1 + b2), .slice none 0 0] 54) 52 #[.slice A1 n1 c1, .slice A2 n2 c2]
  have hw3 := hw2.trans (hb3.mono hw2.size)
  have hZ3 := hZ.below hb3 hZ.lt
  have hzb : w.heap.size + 1 + 1 < w2.heap.size := hZ.lt
  have hs3 : w2.heap.size + 2 ≤ ((w2.alloc (.cells #[.int .i64 f, .int .i64 (b1 + b2), .slice none 0 0] 54)).alloc (.cells #[.slice A1 n1 c1, .slice A2 n2 c2] 52)).heap.size := by simp
  have hww := hw2.size
  obtain ⟨W3, hW3⟩ : ∃ W3, ((w2.alloc (.cells #[.int .i64 f, .int .i64 (b1 + b2), .slice none 0 0] 54)).alloc (.cells #[.slice A1 n1 c1, .slice A2 n2 c2] 52)) = W3 := ⟨_, rfl⟩
  rw [hW3] at hb3 hB3 hP3 hw3 hZ3 hs3
  have l1 : (w2.alloc (.cells #[.int .i64 f, .int .i64 (b1 + b2), .slice none 0 0] 54)).cell? ⟨w.heap.size, 2, none⟩ = some (.slice A1 n1 c1) := (hE1.alloc _).cell 2
  have l2 : (w2.alloc (.cells #[.int .i64 f, .int .i64 (b1 + b2), .slice none 0 0] 54)).cell? ⟨w.heap.size + 1, 2, none⟩ = some (.slice A2 n2 c2) := (hE2.alloc _).cell 2
  clear hb3 hE1 hE2 hZ hr1 hr2
  go_wp2_with fail
  clear l1 l2 a0 a1 a2 e0 e1 e2
  refine (concat_any (w2.heap.size + 1) A1 A2 n1 n2 c1 c2 _ _ W3 hP3 (src_hdl HH1.out hw3) (src_hdl HH2.out hw3) hn1 hn2).mono ?_
  rintro e W4 ⟨A', c', rfl, hownC, hb4⟩
  have hB4 := hB3.on hb4
  have hZ4 := hZ3.on hb4
  have hw4 := hw3.trans (hb4.mono hw3.size)
  have hs4 := hb4.size
  have HCR : Hid (0 < n1 + n2 → ∃ gg, A' = some ⟨gg, 0, none⟩ ∧ W3.heap.size ≤ gg ∧ gg < W4.heap.size ∧ ∀ i, i < n1 + n2 → W4.cell? ⟨gg, i, none⟩ = some (.slice (catN n1 As1 As2 i) (catN n1 len1 len2 i) (catN n1 cs1 cs2 i))) := fun h0 => by
    obtain ⟨gg, hA, h5, h6, _, hc⟩ := own_hdJ hownC h0
    exact ⟨gg, hA, h5, h6, fun i hi => hc i _ (hdlJ_cat hi)⟩
  obtain ⟨N, hN⟩ : ∃ N, n1 + n2 = N := ⟨_, rfl⟩
  have hN24 : N ≤ 24 := by omega
  rw [hN] at HCR HQ hlJ ⊢
  have hlmJ : Hid (∀ i, i < N → catN n1 len1 len2 i ≤ 4194304) := fun i hi => by have := hlJ.out i hi; omega
  obtain ⟨lJ, hlJe⟩ : ∃ l, catN n1 len1 len2 = l := ⟨_, rfl⟩
  obtain ⟨gJ, hgJe⟩ : ∃ l, catN n1 g1 g2 = l := ⟨_, rfl⟩
  have HYN : Hid (ensB f (b1 + b2) N lJ gJ = Y) := by rw [← hN, ← hlJe, ← hgJe]; exact HY.out
  rw [hlJe] at HCR HQ hlJ hlmJ
  rw [hgJe] at HQ
  have HNN := hid hN
  have HLE := hid hlJe
  have HGE := hid hgJe
  clear hownC hB3 hZ3 hw3 hb4 hP3 hlJe hgJe hN HH1 HH2 HY HY1 HY2
  have hbbl : w2.heap.size < W4.heap.size := hB4.lt
  have hJ0 : Hid (Joining W4 w2.heap.size f (b1 + b2) lJ gJ 0 W4) := ⟨none, 0, fun _ => 0, fun _ => 0, hB4, World.ownsRow_nil _ _ _ _, treesN_nil, World.grownBy.refl _ _⟩
  have HZ4 := hid hZ4
  have HW4 := hid hw4
  clear hB4 hZ4 hw4
  generalize hbq : w2.heap.size = bb at *
  clear hbq
  go_wp2_with fail
  go_loopw [40] (fun i wr => ∃ j : Nat, j ≤ N ∧ i = .int .i64 j ∧ Hid (Joining W4 bb f (b1 + b2) lJ gJ j wr)) (fun i _ => N - (intOf i).toNat)
  case atStart => exact ⟨0, Nat.zero_le _, rfl, hJ0⟩
  case round =>
    obtain ⟨j, hj, rfl, hJ⟩ := hrel
    obtain ⟨A, c, bl, cp, hE, hown, hT, hg⟩ := hJ.out
    by_cases hlt : j < N
    · obtain ⟨gg, rfl, hgg1, hgg2, hcc⟩ := HCR.out (by omega)
      have hcell : wr.cell? ⟨gg, j, none⟩ = some (.slice (catN n1 As1 As2 j) (lJ j) (catN n1 cs1 cs2 j)) := (World.cell?_of_block (hg.block gg hgg2 (by intro e; injection e with e; omega))).trans (hcc j hlt)
      have hRN : RdN wr w.heap.size (catN n1 As1 As2 j) (lJ j) (gJ j) := (HQ.out j hlt).keep fun p hp => (World.cell?_of_block (hg.block p.block (by omega) (by intro e; injection e with e; omega))).trans (HW4.out.cell hp)
      obtain ⟨q1, q15⟩ := hlJ.out j hlt
      have hjs : W4.heap.size ≤ wr.heap.size := hg.size
      obtain ⟨bj, oj, eA, hbj, hnd⟩ := id hRN (by omega)
      rw [eA] at hcell hRN
      clear hnd eA hcc
      have hRd : RdN wr.drew wr.drew.heap.size (some ⟨bj, oj, none⟩) (lJ j) (gJ j) := hRN.more (by show w.heap.size ≤ wr.heap.size; omega)
      generalize catN n1 cs1 cs2 j = cj at hcell
      have i1 : (j : Int) < (N : Int) := by omega
      have i2 : (0 : Int) ≤ (j : Int) := by omega
      have hownd : wr.drew.ownsRow W4.heap.size 24 1 (.slice A j c) j (hdJ j bl lJ cp) := hown
      have hebl : bb < wr.drew.heap.size := hE.lt
      have cE : wr.cell? ⟨bb, 2, none⟩ = some (.slice A j c) := hE.cell 2
      have HE := hid hE
      have HT := hid hT
      have HG := hid hg
      clear hT hg hown hJ hRN hJ0
      go_wp2_with fail
      go_region_law
        (first
          | (refine step_append_lies _ (by rfl) _ _ _ (by rfl) W4.heap.size 24 i0 _ 1 24 Try.underlying52 hi0 hz0 hz1 hz2 rfl (by omega) (.slice A j c) j (hdJ j bl lJ cp) (by rfl) (hownr.alloc _) ⟨w4.heap.size, 0, none⟩ 1 1 [.slice (some ⟨b4, 0, none⟩) (lJ j) c4] (by rfl) (by rfl) (World.news_of_block (cs := #[.slice (some ⟨b4, 0, none⟩) (lJ j) c4]) (t := 24) (fr := (0, 0)) (heap_alloc_new w4 _)) (by simp [Value.oneCell']) (by omega) (by unfold maxLen; omega) (by omega) (by simp; omega) (w4.heap.size + 1) (by simp) ?_; intro g5 cp5 w5 hown5 hgrow hat hlt5; have hE5 : Blk w5 bb 54 #[.int .i64 f, .int .i64 (b1 + b2), .slice A j c] := (hgrow.block bb (by simp; omega) (by intro e; have := own_ltJ hownr bb e.symm; omega)).trans (hE4.alloc _); have cE5 : w5.cell? ⟨bb, 2, none⟩ = some (.slice A j c) := hE5.cell 2; have fE5 : w5.frozen? ⟨bb, 2, none⟩ = false := hE5.frozen 2)
          | (go_simp; go_at_call 100; refine (clone_any bj oj (lJ j) cj (gJ j) wr.drew hRd q1 (by omega)).mono ?_; rintro e w4 ⟨b4, c4, rfl, hb4, hrow4, hbel4⟩; have hE4 : Blk w4 bb 54 #[.int .i64 f, .int .i64 (b1 + b2), .slice A j c] := (hbel4.block bb hebl).trans HE.out; have cE4 : w4.cell? ⟨bb, 2, none⟩ = some (.slice A j c) := hE4.cell 2; have cE4a : (w4.alloc (.cells #[.slice (some ⟨b4, 0, none⟩) (lJ j) c4] 24)).cell? ⟨bb, 2, none⟩ = some (.slice A j c) := (hE4.alloc _).cell 2; have hownr : w4.ownsRow W4.heap.size 24 1 (.slice A j c) j (hdJ j bl lJ cp) := own_below hownd hbel4; have hs4' : wr.heap.size ≤ w4.heap.size := hbel4.size))
      all_goals
        have hJn := hid (joining_next HE.out hbbl HT.out HG.out hb4 hrow4 hbel4 hownr _ hgrow hE5 hown5)
        go_wp2_with fail
        go_roundw
        case rel => exact ⟨j + 1, by omega, by go_num, hJn⟩
        case measure => simp [intOf]; omega
    · obtain rfl : j = N := by omega
      have hrJ := rdT_J hown hT
      have d0 : wr.cell? ⟨bb, 0, none⟩ = some (.int .i64 f) := hE.cell 0
      have d1 : wr.cell? ⟨bb, 1, none⟩ = some (.int .i64 (b1 + b2)) := hE.cell 1
      have d2 : wr.cell? ⟨bb, 2, none⟩ = some (.slice A j c) := hE.cell 2
      have hZr : Blk wr (w.heap.size + 1 + 1) 54 #[.int .i64 0, .int .i64 0, .slice none 0 0] := (hg.block _ HZ4.out.lt (by intro e; injection e with e; omega)).trans HZ4.out
      have hwr : Below w.heap.size w wr := ⟨hg.os.trans HW4.out.os, hg.tape.trans HW4.out.tape, hg.output.trans HW4.out.output, Nat.le_trans HW4.out.size hg.size, fun i hi => (hg.block i (by have := HW4.out.size; omega) (by intro e; injection e with e; omega)).trans (HW4.out.block i hi)⟩
      have hO := own_lessJ hown HW4.out.size
      have hT6 := hT.less HW4.out.size
      clear hJ hown hT hg hJ0
      go_wp2_with fail
      refine (iEnsOk_any f (b1 + b2) A j c _ _ _ hrJ (by omega) hlmJ).mono ?_
      rintro e w7 ⟨rfl, hb7⟩
      rw [HYN.out]
      have hF7 := hE.on hb7
      have hO7 := own_below hO hb7
      have hT7 := hT6.below hb7
      have hZ7 := hZr.on hb7
      have hw7 := hwr.trans (hb7.mono hwr.size)
      clear hE hO hT6 hZr hwr hb7 hrJ d0 d1 d2
      have d0 : w7.cell? ⟨bb, 0, none⟩ = some (.int .i64 f) := hF7.cell 0
      have d1 : w7.cell? ⟨bb, 1, none⟩ = some (.int .i64 (b1 + b2)) := hF7.cell 1
      have d2 : w7.cell? ⟨bb, 2, none⟩ = some (.slice A j c) := hF7.cell 2
      have z0 : w7.cell? ⟨w.heap.size + 1 + 1, 0, none⟩ = some (.int .i64 0) := hZ7.cell 0
      have z1 : w7.cell? ⟨w.heap.size + 1 + 1, 1, none⟩ = some (.int .i64 0) := hZ7.cell 1
      have z2 : w7.cell? ⟨w.heap.size + 1 + 1, 2, none⟩ = some (.slice none 0 0) := hZ7.cell 2
      have z3 := hZ7.frozen 0
      have z4 := hZ7.frozen 1
      have z5 := hZ7.frozen 2
      cases Y with
      | false =>
        have HEND := hid (fin_set hZ7 rfl hO7 hT7 hw7 (by omega) (.int .i64 0) (.int .i64 0) (.slice none 0 0))
        clear hF7 hO7 hT7 hZ7 hw7
        go_wp2_with fail
        have hend := HEND.out
        (try simp only [Exit.inBlock, Exit.then])
        refine bodyPost_ret (results_cell_tmpJ rfl _ _ (w.heap.size + 1 + 1) 54 #[.int .i64 0, .int .i64 0, .slice none 0 0] (0, 0) _ rfl hend.1 Try.underlying54 rfl size_ens) rfl ?_
        exact ⟨rfl, hend.2.2.2⟩
      | true =>
        have HEND := hid (fin_set hZ7 rfl hO7 hT7 hw7 (by omega) (.int .i64 f) (.int .i64 (b1 + b2)) (.slice A j c))
        clear hF7 hO7 hT7 hZ7 hw7
        go_wp2_with fail
        have hend := HEND.out
        (try simp only [Exit.inBlock, Exit.then])
        refine bodyPost_ret (results_cell_tmpJ rfl _ _ (w.heap.size + 1 + 1) 54 #[.int .i64 f, .int .i64 (b1 + b2), .slice A j c] (0, 0) _ rfl hend.1 Try.underlying54 rfl size_ens) rfl ?_
        show Joined _ _ _ _ _ _ _ _
        rw [HNN.out, HLE.out, HGE.out]
        exact ⟨A, c, _, _, rfl, hend.2.1, hend.2.2.1, hend.2.2.2⟩

/-! ### JoinE -/
/-- Where there is nothing that is joined. -/
def NoJoin (w : World) (e : Ending) (w' : World) : Prop := e = .returned (.tuple #[enV 0 0 none 0 0, .bool false]) ∧ Below w.heap.size w w'

set_option maxHeartbeats 1000000 in
theorem sJoin_no1 (f1 f2 b1 b2 : Int) (A1 A2 : Option Addr) (n1 n2 c1 c2 : Nat) (len1 len2 : Nat → Nat) (g1 g2 : Nat → Nat → Nd) (w : World) (h1 : RdT w w.heap.size A1 n1 len1 g1) (h2 : RdT w w.heap.size A2 n2 len2 g2) (hn1 : n1 ≤ 4194304) (_hn2 : n2 ≤ 4194304) (hl1 : Hid (∀ i, i < n1 → len1 i ≤ 4194304)) (_hl2 : Hid (∀ i, i < n2 → len2 i ≤ 4194304)) (hy1 : ensB f1 b1 n1 len1 g1 = false) :
    Calls Try.prog 50 #[enV f1 b1 A1 n1 c1, enV f2 b2 A2 n2 c2] w (NoJoin w) := by
  have HY1 := hid hy1
  clear hy1
  have hb0 := (((Below.refl w.heap.size w).alloc (Nat.le_refl _) (.cells #[.int .i64 f1, .int .i64 b1, .slice A1 n1 c1] 54)).alloc (by simp) (.cells #[.int .i64 f2, .int .i64 b2, .slice A2 n2 c2] 54)).alloc (by simp; omega) (.cells #[.int .i64 0, .int .i64 0, .slice none 0 0] 54)
  have hE1 := ((Blk.new w 54 #[.int .i64 f1, .int .i64 b1, .slice A1 n1 c1]).alloc (.cells #[.int .i64 f2, .int .i64 b2, .slice A2 n2 c2] 54)).alloc (.cells #[.int .i64 0, .int .i64 0, .slice none 0 0] 54)
  have hE2 := (Blk.new2 w (.cells #[.int .i64 f1, .int .i64 b1, .slice A1 n1 c1] 54) 54 #[.int .i64 f2, .int .i64 b2, .slice A2 n2 c2]).alloc (.cells #[.int .i64 0, .int .i64 0, .slice none 0 0] 54)
  have hZ := Blk.new3 w (.cells #[.int .i64 f1, .int .i64 b1, .slice A1 n1 c1] 54) (.cells #[.int .i64 f2, .int .i64 b2, .slice A2 n2 c2] 54) 54 #[.int .i64 0, .int .i64 0, .slice none 0 0]
  have hr1 := h1.to hb0 hb0.size
  have hr2 := h2.to hb0 hb0.size
  clear h1 h2
  obtain ⟨W0, hW0⟩ : ∃ W0, ((w.alloc (.cells #[.int .i64 f1, .int .i64 b1, .slice A1 n1 c1] 54)).alloc (.cells #[.int .i64 f2, .int .i64 b2, .slice A2 n2 c2] 54)).alloc (.cells #[.int .i64 0, .int .i64 0, .slice none 0 0] 54) = W0 := ⟨_, rfl⟩
  rw [hW0] at hb0 hE1 hE2 hZ hr1 hr2
  have a0 : W0.cell? ⟨w.heap.size, 0, none⟩ = some (.int .i64 f1) := hE1.cell 0
  have a1 : W0.cell? ⟨w.heap.size, 1, none⟩ = some (.int .i64 b1) := hE1.cell 1
  have a2 : W0.cell? ⟨w.heap.size, 2, none⟩ = some (.slice A1 n1 c1) := hE1.cell 2
  go_enter Try.func50, Try.ntmps50
  go_wp2_with fail
  refine (sEnsOk_any f1 b1 A1 n1 c1 len1 g1 _ hr1 hn1 hl1).mono ?_
  rintro e w1 ⟨rfl, hb1⟩
  rw [HY1.out]
  have hE1' := hE1.on hb1
  have hE2' := hE2.on hb1
  have hZ' := hZ.on hb1
  have hr2' := hr2.to hb1 hb1.size
  have hw1 := hb0.trans (hb1.mono hb0.size)
  clear hb0 hb1 hE1 hE2 hZ hr1 hr2 hW0 a0 a1 a2
  have p0 : w1.cell? ⟨w.heap.size, 0, none⟩ = some (.int .i64 f1) := hE1'.cell 0
  have p1 : w1.cell? ⟨w.heap.size + 1, 0, none⟩ = some (.int .i64 f2) := hE2'.cell 0
  have z0 : w1.cell? ⟨w.heap.size + 1 + 1, 0, none⟩ = some (.int .i64 0) := hZ'.cell 0
  have y0 := hZ'.frozen 0
  have z1 : w1.cell? ⟨w.heap.size + 1 + 1, 1, none⟩ = some (.int .i64 0) := hZ'.cell 1
  have y1 := hZ'.frozen 1
  have z2 : w1.cell? ⟨w.heap.size + 1 + 1, 2, none⟩ = some (.slice none 0 0) := hZ'.cell 2
  have y2 := hZ'.frozen 2
  have hend := fin_set (A := none) (m := 0) (c := 0) (xs := []) (n := 0) (bl := fun _ => 0) (len := fun _ => 0) (g := fun _ _ => ⟨0, 0, 0, 0, false, 0⟩) hZ' rfl (World.ownsRow_nil _ w.heap.size _ _) treesN_nil hw1 (by omega) (.int .i64 0) (.int .i64 0) (.slice none 0 0)
  have HEND := hid hend
  clear hend hE1' hE2' hZ' hw1
  go_wp2_with fail
  have hend := HEND.out
  (try simp only [Exit.inBlock, Exit.then])
  refine bodyPost_ret (results_cell_tmpJ rfl _ _ (w.heap.size + 1 + 1) 54 #[.int .i64 0, .int .i64 0, .slice none 0 0] (0, 0) _ rfl hend.1 Try.underlying54 rfl size_ens) rfl ?_
  exact ⟨rfl, hend.2.2.2⟩
set_option maxHeartbeats 1000000 in
theorem sJoin_no2 (f1 f2 b1 b2 : Int) (A1 A2 : Option Addr) (n1 n2 c1 c2 : Nat) (len1 len2 : Nat → Nat) (g1 g2 : Nat → Nat → Nd) (w : World) (h1 : RdT w w.heap.size A1 n1 len1 g1) (h2 : RdT w w.heap.size A2 n2 len2 g2) (hn1 : n1 ≤ 4194304) (hn2 : n2 ≤ 4194304) (hl1 : Hid (∀ i, i < n1 → len1 i ≤ 4194304)) (hl2 : Hid (∀ i, i < n2 → len2 i ≤ 4194304)) (hy1 : ensB f1 b1 n1 len1 g1 = true) (hy2 : ensB f2 b2 n2 len2 g2 = false) :
    Calls Try.prog 50 #[enV f1 b1 A1 n1 c1, enV f2 b2 A2 n2 c2] w (NoJoin w) := by
  have HY1 := hid hy1
  clear hy1
  have HY2 := hid hy2
  clear hy2
  have hb0 := (((Below.refl w.heap.size w).alloc (Nat.le_refl _) (.cells #[.int .i64 f1, .int .i64 b1, .slice A1 n1 c1] 54)).alloc (by simp) (.cells #[.int .i64 f2, .int .i64 b2, .slice A2 n2 c2] 54)).alloc (by simp; omega) (.cells #[.int .i64 0, .int .i64 0, .slice none 0 0] 54)
  have hE1 := ((Blk.new w 54 #[.int .i64 f1, .int .i64 b1, .slice A1 n1 c1]).alloc (.cells #[.int .i64 f2, .int .i64 b2, .slice A2 n2 c2] 54)).alloc (.cells #[.int .i64 0, .int .i64 0, .slice none 0 0] 54)
  have hE2 := (Blk.new2 w (.cells #[.int .i64 f1, .int .i64 b1, .slice A1 n1 c1] 54) 54 #[.int .i64 f2, .int .i64 b2, .slice A2 n2 c2]).alloc (.cells #[.int .i64 0, .int .i64 0, .slice none 0 0] 54)
  have hZ := Blk.new3 w (.cells #[.int .i64 f1, .int .i64 b1, .slice A1 n1 c1] 54) (.cells #[.int .i64 f2, .int .i64 b2, .slice A2 n2 c2] 54) 54 #[.int .i64 0, .int .i64 0, .slice none 0 0]
  have hr1 := h1.to hb0 hb0.size
  have hr2 := h2.to hb0 hb0.size
  clear h1 h2
  obtain ⟨W0, hW0⟩ : ∃ W0, ((w.alloc (.cells #[.int .i64 f1, .int .i64 b1, .slice A1 n1 c1] 54)).alloc (.cells #[.int .i64 f2, .int .i64 b2, .slice A2 n2 c2] 54)).alloc (.cells #[.int .i64 0, .int .i64 0, .slice none 0 0] 54) = W0 := ⟨_, rfl⟩
  rw [hW0] at hb0 hE1 hE2 hZ hr1 hr2
  have a0 : W0.cell? ⟨w.heap.size, 0, none⟩ = some (.int .i64 f1) := hE1.cell 0
  have a1 : W0.cell? ⟨w.heap.size, 1, none⟩ = some (.int .i64 b1) := hE1.cell 1
  have a2 : W0.cell? ⟨w.heap.size, 2, none⟩ = some (.slice A1 n1 c1) := hE1.cell 2
  go_enter Try.func50, Try.ntmps50
  go_wp2_with fail
  refine (sEnsOk_any f1 b1 A1 n1 c1 len1 g1 _ hr1 hn1 hl1).mono ?_
  rintro e w1 ⟨rfl, hb1⟩
  rw [HY1.out]
  have hE1' := hE1.on hb1
  have hE2' := hE2.on hb1
  have hZ' := hZ.on hb1
  have hr2' := hr2.to hb1 hb1.size
  have hw1 := hb0.trans (hb1.mono hb0.size)
  clear hb0 hb1 hE1 hE2 hZ hr1 hr2 hW0 a0 a1 a2
  have a0 : w1.cell? ⟨w.heap.size + 1, 0, none⟩ = some (.int .i64 f2) := hE2'.cell 0
  have a1 : w1.cell? ⟨w.heap.size + 1, 1, none⟩ = some (.int .i64 b2) := hE2'.cell 1
  have a2 : w1.cell? ⟨w.heap.size + 1, 2, none⟩ = some (.slice A2 n2 c2) := hE2'.cell 2
  go_wp2_with fail
  refine (sEnsOk_any f2 b2 A2 n2 c2 len2 g2 _ hr2' hn2 hl2).mono ?_
  rintro e w2 ⟨rfl, hb2⟩
  rw [HY2.out]
  have hE1 := hE1'.on hb2
  have hE2 := hE2'.on hb2
  have hZ := hZ'.on hb2
  have hw2 := hw1.trans (hb2.mono hw1.size)
  clear hw1 hb2 hE1' hE2' hZ' hr2' a0 a1 a2
  have p0 : w2.cell? ⟨w.heap.size, 0, none⟩ = some (.int .i64 f1) := hE1.cell 0
  have p1 : w2.cell? ⟨w.heap.size + 1, 0, none⟩ = some (.int .i64 f2) := hE2.cell 0
  have z0 : w2.cell? ⟨w.heap.size + 1 + 1, 0, none⟩ = some (.int .i64 0) := hZ.cell 0
  have y0 := hZ.frozen 0
  have z1 : w2.cell? ⟨w.heap.size + 1 + 1, 1, none⟩ = some (.int .i64 0) := hZ.cell 1
  have y1 := hZ.frozen 1
  have z2 : w2.cell? ⟨w.heap.size + 1 + 1, 2, none⟩ = some (.slice none 0 0) := hZ.cell 2
  have y2 := hZ.frozen 2
  have hend := fin_set (A := none) (m := 0) (c := 0) (xs := []) (n := 0) (bl := fun _ => 0) (len := fun _ => 0) (g := fun _ _ => ⟨0, 0, 0, 0, false, 0⟩) hZ rfl (World.ownsRow_nil _ w.heap.size _ _) treesN_nil hw2 (by omega) (.int .i64 0) (.int .i64 0) (.slice none 0 0)
  have HEND := hid hend
  clear hend hE1 hE2 hZ hw2
  go_wp2_with fail
  have hend := HEND.out
  (try simp only [Exit.inBlock, Exit.then])
  refine bodyPost_ret (results_cell_tmpJ rfl _ _ (w.heap.size + 1 + 1) 54 #[.int .i64 0, .int .i64 0, .slice none 0 0] (0, 0) _ rfl hend.1 Try.underlying54 rfl size_ens) rfl ?_
  exact ⟨rfl, hend.2.2.2⟩
set_option maxHeartbeats 1000000 in
theorem sJoin_no3 (f1 f2 b1 b2 : Int) (A1 A2 : Option Addr) (n1 n2 c1 c2 : Nat) (len1 len2 : Nat → Nat) (g1 g2 : Nat → Nat → Nd) (w : World) (h1 : RdT w w.heap.size A1 n1 len1 g1) (h2 : RdT w w.heap.size A2 n2 len2 g2) (hn1 : n1 ≤ 4194304) (hn2 : n2 ≤ 4194304) (hl1 : Hid (∀ i, i < n1 → len1 i ≤ 4194304)) (hl2 : Hid (∀ i, i < n2 → len2 i ≤ 4194304)) (hy1 : ensB f1 b1 n1 len1 g1 = true) (hy2 : ensB f2 b2 n2 len2 g2 = true) (hf : ¬ f1 = f2) :
    Calls Try.prog 50 #[enV f1 b1 A1 n1 c1, enV f2 b2 A2 n2 c2] w (NoJoin w) := by
  have HY1 := hid hy1
  clear hy1
  have HY2 := hid hy2
  clear hy2
  have hfe : (f1 == f2) = false := by simpa using hf
  have hfn : (f1 != f2) = true := by simp [hf]
  clear hf
  have hb0 := (((Below.refl w.heap.size w).alloc (Nat.le_refl _) (.cells #[.int .i64 f1, .int .i64 b1, .slice A1 n1 c1] 54)).alloc (by simp) (.cells #[.int .i64 f2, .int .i64 b2, .slice A2 n2 c2] 54)).alloc (by simp; omega) (.cells #[.int .i64 0, .int .i64 0, .slice none 0 0] 54)
  have hE1 := ((Blk.new w 54 #[.int .i64 f1, .int .i64 b1, .slice A1 n1 c1]).alloc (.cells #[.int .i64 f2, .int .i64 b2, .slice A2 n2 c2] 54)).alloc (.cells #[.int .i64 0, .int .i64 0, .slice none 0 0] 54)
  have hE2 := (Blk.new2 w (.cells #[.int .i64 f1, .int .i64 b1, .slice A1 n1 c1] 54) 54 #[.int .i64 f2, .int .i64 b2, .slice A2 n2 c2]).alloc (.cells #[.int .i64 0, .int .i64 0, .slice none 0 0] 54)
  have hZ := Blk.new3 w (.cells #[.int .i64 f1, .int .i64 b1, .slice A1 n1 c1] 54) (.cells #[.int .i64 f2, .int .i64 b2, .slice A2 n2 c2] 54) 54 #[.int .i64 0, .int .i64 0, .slice none 0 0]
  have hr1 := h1.to hb0 hb0.size
  have hr2 := h2.to hb0 hb0.size
  clear h1 h2
  obtain ⟨W0, hW0⟩ : ∃ W0, ((w.alloc (.cells #[.int .i64 f1, .int .i64 b1, .slice A1 n1 c1] 54)).alloc (.cells #[.int .i64 f2, .int .i64 b2, .slice A2 n2 c2] 54)).alloc (.cells #[.int .i64 0, .int .i64 0, .slice none 0 0] 54) = W0 := ⟨_, rfl⟩
  rw [hW0] at hb0 hE1 hE2 hZ hr1 hr2
  have a0 : W0.cell? ⟨w.heap.size, 0, none⟩ = some (.int .i64 f1) := hE1.cell 0
  have a1 : W0.cell? ⟨w.heap.size, 1, none⟩ = some (.int .i64 b1) := hE1.cell 1
  have a2 : W0.cell? ⟨w.heap.size, 2, none⟩ = some (.slice A1 n1 c1) := hE1.cell 2
  go_enter Try.func50, Try.ntmps50
  go_wp2_with fail
  refine (sEnsOk_any f1 b1 A1 n1 c1 len1 g1 _ hr1 hn1 hl1).mono ?_
  rintro e w1 ⟨rfl, hb1⟩
  rw [HY1.out]
  have hE1' := hE1.on hb1
  have hE2' := hE2.on hb1
  have hZ' := hZ.on hb1
  have hr2' := hr2.to hb1 hb1.size
  have hw1 := hb0.trans (hb1.mono hb0.size)
  clear hb0 hb1 hE1 hE2 hZ hr1 hr2 hW0 a0 a1 a2
  have a0 : w1.cell? ⟨w.heap.size + 1, 0, none⟩ = some (.int .i64 f2) := hE2'.cell 0
  have a1 : w1.cell? ⟨w.heap.size + 1, 1, none⟩ = some (.int .i64 b2) := hE2'.cell 1
  have a2 : w1.cell? ⟨w.heap.size + 1, 2, none⟩ = some (.slice A2 n2 c2) := hE2'.cell 2
  go_wp2_with fail
  refine (sEnsOk_any f2 b2 A2 n2 c2 len2 g2 _ hr2' hn2 hl2).mono ?_
  rintro e w2 ⟨rfl, hb2⟩
  rw [HY2.out]
  have hE1 := hE1'.on hb2
  have hE2 := hE2'.on hb2
  have hZ := hZ'.on hb2
  have hw2 := hw1.trans (hb2.mono hw1.size)
  clear hw1 hb2 hE1' hE2' hZ' hr2' a0 a1 a2
  have p0 : w2.cell? ⟨w.heap.size, 0, none⟩ = some (.int .i64 f1) := hE1.cell 0
  have p1 : w2.cell? ⟨w.heap.size + 1, 0, none⟩ = some (.int .i64 f2) := hE2.cell 0
  have z0 : w2.cell? ⟨w.heap.size + 1 + 1, 0, none⟩ = some (.int .i64 0) := hZ.cell 0
  have y0 := hZ.frozen 0
  have z1 : w2.cell? ⟨w.heap.size + 1 + 1, 1, none⟩ = some (.int .i64 0) := hZ.cell 1
  have y1 := hZ.frozen 1
  have z2 : w2.cell? ⟨w.heap.size + 1 + 1, 2, none⟩ = some (.slice none 0 0) := hZ.cell 2
  have y2 := hZ.frozen 2
  have hend := fin_set (A := none) (m := 0) (c := 0) (xs := []) (n := 0) (bl := fun _ => 0) (len := fun _ => 0) (g := fun _ _ => ⟨0, 0, 0, 0, false, 0⟩) hZ rfl (World.ownsRow_nil _ w.heap.size _ _) treesN_nil hw2 (by omega) (.int .i64 0) (.int .i64 0) (.slice none 0 0)
  have HEND := hid hend
  clear hend hE1 hE2 hZ hw2
  go_wp2_with fail
  have hend := HEND.out
  (try simp only [Exit.inBlock, Exit.then])
  refine bodyPost_ret (results_cell_tmpJ rfl _ _ (w.heap.size + 1 + 1) 54 #[.int .i64 0, .int .i64 0, .slice none 0 0] (0, 0) _ rfl hend.1 Try.underlying54 rfl size_ens) rfl ?_
  exact ⟨rfl, hend.2.2.2⟩
set_option maxHeartbeats 1000000 in
theorem iJoin_no1 (f1 f2 b1 b2 : Int) (A1 A2 : Option Addr) (n1 n2 c1 c2 : Nat) (len1 len2 : Nat → Nat) (g1 g2 : Nat → Nat → Nd) (w : World) (h1 : RdT w w.heap.size A1 n1 len1 g1) (h2 : RdT w w.heap.size A2 n2 len2 g2) (hn1 : n1 ≤ 4194304) (_hn2 : n2 ≤ 4194304) (hl1 : Hid (∀ i, i < n1 → len1 i ≤ 4194304)) (_hl2 : Hid (∀ i, i < n2 → len2 i ≤ 4194304)) (hy1 : ensB f1 b1 n1 len1 g1 = false) :
    Calls Try.prog 49 #[enV f1 b1 A1 n1 c1, enV f2 b2 A2 n2 c2] w (NoJoin w) := by
  have HY1 := hid hy1
  clear hy1
  have hb0 := (((Below.refl w.heap.size w).alloc (Nat.le_refl _) (.cells #[.int .i64 f1, .int .i64 b1, .slice A1 n1 c1] 54)).alloc (by simp) (.cells #[.int .i64 f2, .int .i64 b2, .slice A2 n2 c2] 54)).alloc (by simp; omega) (.cells #[.int .i64 0, .int .i64 0, .slice none 0 0] 54)
  have hE1 := ((Blk.new w 54 #[.int .i64 f1, .int .i64 b1, .slice A1 n1 c1]).alloc (.cells #[.int .i64 f2, .int .i64 b2, .slice A2 n2 c2] 54)).alloc (.cells #[.int .i64 0, .int .i64 0, .slice none 0 0] 54)
  have hE2 := (Blk.new2 w (.cells #[.int .i64 f1, .int .i64 b1, .slice A1 n1 c1] 54) 54 #[.int .i64 f2, .int .i64 b2, .slice A2 n2 c2]).alloc (.cells #[.int .i64 0, .int .i64 0, .slice none 0 0] 54)
  have hZ := Blk.new3 w (.cells #[.int .i64 f1, .int .i64 b1, .slice A1 n1 c1] 54) (.cells #[.int .i64 f2, .int .i64 b2, .slice A2 n2 c2] 54) 54 #[.int .i64 0, .int .i64 0, .slice none 0 0]
  have hr1 := h1.to hb0 hb0.size
  have hr2 := h2.to hb0 hb0.size
  clear h1 h2
  obtain ⟨W0, hW0⟩ : ∃ W0, ((w.alloc (.cells #[.int .i64 f1, .int .i64 b1, .slice A1 n1 c1] 54)).alloc (.cells #[.int .i64 f2, .int .i64 b2, .slice A2 n2 c2] 54)).alloc (.cells #[.int .i64 0, .int .i64 0, .slice none 0 0] 54) = W0 := ⟨_, rfl⟩
  rw [hW0] at hb0 hE1 hE2 hZ hr1 hr2
  have a0 : W0.cell? ⟨w.heap.size, 0, none⟩ = some (.int .i64 f1) := hE1.cell 0
  have a1 : W0.cell? ⟨w.heap.size, 1, none⟩ = some (.int .i64 b1) := hE1.cell 1
  have a2 : W0.cell? ⟨w.heap.size, 2, none⟩ = some (.slice A1 n1 c1) := hE1.cell 2
  go_enter Try.func49, Try.ntmps49
  go_wp2_with fail
  refine (iEnsOk_any f1 b1 A1 n1 c1 len1 g1 _ hr1 hn1 hl1).mono ?_
  rintro e w1 ⟨rfl, hb1⟩
  rw [HY1.out]
  have hE1' := hE1.on hb1
  have hE2' := hE2.on hb1
  have hZ' := hZ.on hb1
  have hr2' := hr2.to hb1 hb1.size
  have hw1 := hb0.trans (hb1.mono hb0.size)
  clear hb0 hb1 hE1 hE2 hZ hr1 hr2 hW0 a0 a1 a2
  have p0 : w1.cell? ⟨w.heap.size, 0, none⟩ = some (.int .i64 f1) := hE1'.cell 0
  have p1 : w1.cell? ⟨w.heap.size + 1, 0, none⟩ = some (.int .i64 f2) := hE2'.cell 0
  have z0 : w1.cell? ⟨w.heap.size + 1 + 1, 0, none⟩ = some (.int .i64 0) := hZ'.cell 0
  have y0 := hZ'.frozen 0
  have z1 : w1.cell? ⟨w.heap.size + 1 + 1, 1, none⟩ = some (.int .i64 0) := hZ'.cell 1
  have y1 := hZ'.frozen 1
  have z2 : w1.cell? ⟨w.heap.size + 1 + 1, 2, none⟩ = some (.slice none 0 0) := hZ'.cell 2
  have y2 := hZ'.frozen 2
  have hend := fin_set (A := none) (m := 0) (c := 0) (xs := []) (n := 0) (bl := fun _ => 0) (len := fun _ => 0) (g := fun _ _ => ⟨0, 0, 0, 0, false, 0⟩) hZ' rfl (World.ownsRow_nil _ w.heap.size _ _) treesN_nil hw1 (by omega) (.int .i64 0) (.int .i64 0) (.slice none 0 0)
  have HEND := hid hend
  clear hend hE1' hE2' hZ' hw1
  go_wp2_with fail
  have hend := HEND.out
  (try simp only [Exit.inBlock, Exit.then])
  refine bodyPost_ret (results_cell_tmpJ rfl _ _ (w.heap.size + 1 + 1) 54 #[.int .i64 0, .int .i64 0, .slice none 0 0] (0, 0) _ rfl hend.1 Try.underlying54 rfl size_ens) rfl ?_
  exact ⟨rfl, hend.2.2.2⟩
set_option maxHeartbeats 1000000 in
theorem iJoin_no2 (f1 f2 b1 b2 : Int) (A1 A2 : Option Addr) (n1 n2 c1 c2 : Nat) (len1 len2 : Nat → Nat) (g1 g2 : Nat → Nat → Nd) (w : World) (h1 : RdT w w.heap.size A1 n1 len1 g1) (h2 : RdT w w.heap.size A2 n2 len2 g2) (hn1 : n1 ≤ 4194304) (hn2 : n2 ≤ 4194304) (hl1 : Hid (∀ i, i < n1 → len1 i ≤ 4194304)) (hl2 : Hid (∀ i, i < n2 → len2 i ≤ 4194304)) (hy1 : ensB f1 b1 n1 len1 g1 = true) (hy2 : ensB f2 b2 n2 len2 g2 = false) :
    Calls Try.prog 49 #[enV f1 b1 A1 n1 c1, enV f2 b2 A2 n2 c2] w (NoJoin w) := by
  have HY1 := hid hy1
  clear hy1
  have HY2 := hid hy2
  clear hy2
  have hb0 := (((Below.refl w.heap.size w).alloc (Nat.le_refl _) (.cells #[.int .i64 f1, .int .i64 b1, .slice A1 n1 c1] 54)).alloc (by simp) (.cells #[.int .i64 f2, .int .i64 b2, .slice A2 n2 c2] 54)).alloc (by simp; omega) (.cells #[.int .i64 0, .int .i64 0, .slice none 0 0] 54)
  have hE1 := ((Blk.new w 54 #[.int .i64 f1, .int .i64 b1, .slice A1 n1 c1]).alloc (.cells #[.int .i64 f2, .int .i64 b2, .slice A2 n2 c2] 54)).alloc (.cells #[.int .i64 0, .int .i64 0, .slice none 0 0] 54)
  have hE2 := (Blk.new2 w (.cells #[.int .i64 f1, .int .i64 b1, .slice A1 n1 c1] 54) 54 #[.int .i64 f2, .int .i64 b2, .slice A2 n2 c2]).alloc (.cells #[.int .i64 0, .int .i64 0, .slice none 0 0] 54)
  have hZ := Blk.new3 w (.cells #[.int .i64 f1, .int .i64 b1, .slice A1 n1 c1] 54) (.cells #[.int .i64 f2, .int .i64 b2, .slice A2 n2 c2] 54) 54 #[.int .i64 0, .int .i64 0, .slice none 0 0]
  have hr1 := h1.to hb0 hb0.size
  have hr2 := h2.to hb0 hb0.size
  clear h1 h2
  obtain ⟨W0, hW0⟩ : ∃ W0, ((w.alloc (.cells #[.int .i64 f1, .int .i64 b1, .slice A1 n1 c1] 54)).alloc (.cells #[.int .i64 f2, .int .i64 b2, .slice A2 n2 c2] 54)).alloc (.cells #[.int .i64 0, .int .i64 0, .slice none 0 0] 54) = W0 := ⟨_, rfl⟩
  rw [hW0] at hb0 hE1 hE2 hZ hr1 hr2
  have a0 : W0.cell? ⟨w.heap.size, 0, none⟩ = some (.int .i64 f1) := hE1.cell 0
  have a1 : W0.cell? ⟨w.heap.size, 1, none⟩ = some (.int .i64 b1) := hE1.cell 1
  have a2 : W0.cell? ⟨w.heap.size, 2, none⟩ = some (.slice A1 n1 c1) := hE1.cell 2
  go_enter Try.func49, Try.ntmps49
  go_wp2_with fail
  refine (iEnsOk_any f1 b1 A1 n1 c1 len1 g1 _ hr1 hn1 hl1).mono ?_
  rintro e w1 ⟨rfl, hb1⟩
  rw [HY1.out]
  have hE1' := hE1.on hb1
  have hE2' := hE2.on hb1
  have hZ' := hZ.on hb1
  have hr2' := hr2.to hb1 hb1.size
  have hw1 := hb0.trans (hb1.mono hb0.size)
  clear hb0 hb1 hE1 hE2 hZ hr1 hr2 hW0 a0 a1 a2
  have a0 : w1.cell? ⟨w.heap.size + 1, 0, none⟩ = some (.int .i64 f2) := hE2'.cell 0
  have a1 : w1.cell? ⟨w.heap.size + 1, 1, none⟩ = some (.int .i64 b2) := hE2'.cell 1
  have a2 : w1.cell? ⟨w.heap.size + 1, 2, none⟩ = some (.slice A2 n2 c2) := hE2'.cell 2
  go_wp2_with fail
  refine (iEnsOk_any f2 b2 A2 n2 c2 len2 g2 _ hr2' hn2 hl2).mono ?_
  rintro e w2 ⟨rfl, hb2⟩
  rw [HY2.out]
  have hE1 := hE1'.on hb2
  have hE2 := hE2'.on hb2
  have hZ := hZ'.on hb2
  have hw2 := hw1.trans (hb2.mono hw1.size)
  clear hw1 hb2 hE1' hE2' hZ' hr2' a0 a1 a2
  have p0 : w2.cell? ⟨w.heap.size, 0, none⟩ = some (.int .i64 f1) := hE1.cell 0
  have p1 : w2.cell? ⟨w.heap.size + 1, 0, none⟩ = some (.int .i64 f2) := hE2.cell 0
  have z0 : w2.cell? ⟨w.heap.size + 1 + 1, 0, none⟩ = some (.int .i64 0) := hZ.cell 0
  have y0 := hZ.frozen 0
  have z1 : w2.cell? ⟨w.heap.size + 1 + 1, 1, none⟩ = some (.int .i64 0) := hZ.cell 1
  have y1 := hZ.frozen 1
  have z2 : w2.cell? ⟨w.heap.size + 1 + 1, 2, none⟩ = some (.slice none 0 0) := hZ.cell 2
  have y2 := hZ.frozen 2
  have hend := fin_set (A := none) (m := 0) (c := 0) (xs := []) (n := 0) (bl := fun _ => 0) (len := fun _ => 0) (g := fun _ _ => ⟨0, 0, 0, 0, false, 0⟩) hZ rfl (World.ownsRow_nil _ w.heap.size _ _) treesN_nil hw2 (by omega) (.int .i64 0) (.int .i64 0) (.slice none 0 0)
  have HEND := hid hend
  clear hend hE1 hE2 hZ hw2
  go_wp2_with fail
  have hend := HEND.out
  (try simp only [Exit.inBlock, Exit.then])
  refine bodyPost_ret (results_cell_tmpJ rfl _ _ (w.heap.size + 1 + 1) 54 #[.int .i64 0, .int .i64 0, .slice none 0 0] (0, 0) _ rfl hend.1 Try.underlying54 rfl size_ens) rfl ?_
  exact ⟨rfl, hend.2.2.2⟩
set_option maxHeartbeats 1000000 in
theorem iJoin_no3 (f1 f2 b1 b2 : Int) (A1 A2 : Option Addr) (n1 n2 c1 c2 : Nat) (len1 len2 : Nat → Nat) (g1 g2 : Nat → Nat → Nd) (w : World) (h1 : RdT w w.heap.size A1 n1 len1 g1) (h2 : RdT w w.heap.size A2 n2 len2 g2) (hn1 : n1 ≤ 4194304) (hn2 : n2 ≤ 4194304) (hl1 : Hid (∀ i, i < n1 → len1 i ≤ 4194304)) (hl2 : Hid (∀ i, i < n2 → len2 i ≤ 4194304)) (hy1 : ensB f1 b1 n1 len1 g1 = true) (hy2 : ensB f2 b2 n2 len2 g2 = true) (hf : ¬ f1 = f2) :
    Calls Try.prog 49 #[enV f1 b1 A1 n1 c1, enV f2 b2 A2 n2 c2] w (NoJoin w) := by
  have HY1 := hid hy1
  clear hy1
  have HY2 := hid hy2
  clear hy2
  have hfe : (f1 == f2) = false := by simpa using hf
  have hfn : (f1 != f2) = true := by simp [hf]
  clear hf
  have hb0 := (((Below.refl w.heap.size w).alloc (Nat.le_refl _) (.cells #[.int .i64 f1, .int .i64 b1, .slice A1 n1 c1] 54)).alloc (by simp) (.cells #[.int .i64 f2, .int .i64 b2, .slice A2 n2 c2] 54)).alloc (by simp; omega) (.cells #[.int .i64 0, .int .i64 0, .slice none 0 0] 54)
  have hE1 := ((Blk.new w 54 #[.int .i64 f1, .int .i64 b1, .slice A1 n1 c1]).alloc (.cells #[.int .i64 f2, .int .i64 b2, .slice A2 n2 c2] 54)).alloc (.cells #[.int .i64 0, .int .i64 0, .slice none 0 0] 54)
  have hE2 := (Blk.new2 w (.cells #[.int .i64 f1, .int .i64 b1, .slice A1 n1 c1] 54) 54 #[.int .i64 f2, .int .i64 b2, .slice A2 n2 c2]).alloc (.cells #[.int .i64 0, .int .i64 0, .slice none 0 0] 54)
  have hZ := Blk.new3 w (.cells #[.int .i64 f1, .int .i64 b1, .slice A1 n1 c1] 54) (.cells #[.int .i64 f2, .int .i64 b2, .slice A2 n2 c2] 54) 54 #[.int .i64 0, .int .i64 0, .slice none 0 0]
  have hr1 := h1.to hb0 hb0.size
  have hr2 := h2.to hb0 hb0.size
  clear h1 h2
  obtain ⟨W0, hW0⟩ : ∃ W0, ((w.alloc (.cells #[.int .i64 f1, .int .i64 b1, .slice A1 n1 c1] 54)).alloc (.cells #[.int .i64 f2, .int .i64 b2, .slice A2 n2 c2] 54)).alloc (.cells #[.int .i64 0, .int .i64 0, .slice none 0 0] 54) = W0 := ⟨_, rfl⟩
  rw [hW0] at hb0 hE1 hE2 hZ hr1 hr2
  have a0 : W0.cell? ⟨w.heap.size, 0, none⟩ = some (.int .i64 f1) := hE1.cell 0
  have a1 : W0.cell? ⟨w.heap.size, 1, none⟩ = some (.int .i64 b1) := hE1.cell 1
  have a2 : W0.cell? ⟨w.heap.size, 2, none⟩ = some (.slice A1 n1 c1) := hE1.cell 2
  go_enter Try.func49, Try.ntmps49
  go_wp2_with fail
  refine (iEnsOk_any f1 b1 A1 n1 c1 len1 g1 _ hr1 hn1 hl1).mono ?_
  rintro e w1 ⟨rfl, hb1⟩
  rw [HY1.out]
  have hE1' := hE1.on hb1
  have hE2' := hE2.on hb1
  have hZ' := hZ.on hb1
  have hr2' := hr2.to hb1 hb1.size
  have hw1 := hb0.trans (hb1.mono hb0.size)
  clear hb0 hb1 hE1 hE2 hZ hr1 hr2 hW0 a0 a1 a2
  have a0 : w1.cell? ⟨w.heap.size + 1, 0, none⟩ = some (.int .i64 f2) := hE2'.cell 0
  have a1 : w1.cell? ⟨w.heap.size + 1, 1, none⟩ = some (.int .i64 b2) := hE2'.cell 1
  have a2 : w1.cell? ⟨w.heap.size + 1, 2, none⟩ = some (.slice A2 n2 c2) := hE2'.cell 2
  go_wp2_with fail
  refine (iEnsOk_any f2 b2 A2 n2 c2 len2 g2 _ hr2' hn2 hl2).mono ?_
  rintro e w2 ⟨rfl, hb2⟩
  rw [HY2.out]
  have hE1 := hE1'.on hb2
  have hE2 := hE2'.on hb2
  have hZ := hZ'.on hb2
  have hw2 := hw1.trans (hb2.mono hw1.size)
  clear hw1 hb2 hE1' hE2' hZ' hr2' a0 a1 a2
  have p0 : w2.cell? ⟨w.heap.size, 0, none⟩ = some (.int .i64 f1) := hE1.cell 0
  have p1 : w2.cell? ⟨w.heap.size + 1, 0, none⟩ = some (.int .i64 f2) := hE2.cell 0
  have z0 : w2.cell? ⟨w.heap.size + 1 + 1, 0, none⟩ = some (.int .i64 0) := hZ.cell 0
  have y0 := hZ.frozen 0
  have z1 : w2.cell? ⟨w.heap.size + 1 + 1, 1, none⟩ = some (.int .i64 0) := hZ.cell 1
  have y1 := hZ.frozen 1
  have z2 : w2.cell? ⟨w.heap.size + 1 + 1, 2, none⟩ = some (.slice none 0 0) := hZ.cell 2
  have y2 := hZ.frozen 2
  have hend := fin_set (A := none) (m := 0) (c := 0) (xs := []) (n := 0) (bl := fun _ => 0) (len := fun _ => 0) (g := fun _ _ => ⟨0, 0, 0, 0, false, 0⟩) hZ rfl (World.ownsRow_nil _ w.heap.size _ _) treesN_nil hw2 (by omega) (.int .i64 0) (.int .i64 0) (.slice none 0 0)
  have HEND := hid hend
  clear hend hE1 hE2 hZ hw2
  go_wp2_with fail
  have hend := HEND.out
  (try simp only [Exit.inBlock, Exit.then])
  refine bodyPost_ret (results_cell_tmpJ rfl _ _ (w.heap.size + 1 + 1) 54 #[.int .i64 0, .int .i64 0, .slice none 0 0] (0, 0) _ rfl hend.1 Try.underlying54 rfl size_ens) rfl ?_
  exact ⟨rfl, hend.2.2.2⟩

/-- Is there something that is joined? -/
def joinB (f1 f2 b1 b2 : Int) (n1 n2 : Nat) (len1 len2 : Nat → Nat) (g1 g2 : Nat → Nat → Nd) : Bool :=
  ensB f1 b1 n1 len1 g1 && (ensB f2 b2 n2 len2 g2 && (decide (f1 = f2) && ensB f1 (b1 + b2) (n1 + n2) (catN n1 len1 len2) (catN n1 g1 g2)))
theorem sJoin_any (f1 f2 b1 b2 : Int) (A1 A2 : Option Addr) (n1 n2 c1 c2 : Nat) (len1 len2 : Nat → Nat) (g1 g2 : Nat → Nat → Nd) (w : World) (h1 : RdT w w.heap.size A1 n1 len1 g1) (h2 : RdT w w.heap.size A2 n2 len2 g2) (hn1 : n1 ≤ 4194304) (hn2 : n2 ≤ 4194304) (hl1 : Hid (∀ i, i < n1 → len1 i ≤ 4194304)) (hl2 : Hid (∀ i, i < n2 → len2 i ≤ 4194304)) :
    Calls Try.prog 50 #[enV f1 b1 A1 n1 c1, enV f2 b2 A2 n2 c2] w (JoinPost (joinB f1 f2 b1 b2 n1 n2 len1 len2 g1 g2) w f1 (b1 + b2) (n1 + n2) (catN n1 len1 len2) (catN n1 g1 g2)) := by
  unfold joinB
  cases e1 : ensB f1 b1 n1 len1 g1 with
  | false => exact sJoin_no1 f1 f2 b1 b2 A1 A2 n1 n2 c1 c2 len1 len2 g1 g2 w h1 h2 hn1 hn2 hl1 hl2 e1
  | true =>
    cases e2 : ensB f2 b2 n2 len2 g2 with
    | false => exact sJoin_no2 f1 f2 b1 b2 A1 A2 n1 n2 c1 c2 len1 len2 g1 g2 w h1 h2 hn1 hn2 hl1 hl2 e1 e2
    | true =>
      by_cases hf : f1 = f2
      · subst hf
        have hd : decide (f1 = f1) = true := by simp
        rw [hd, Bool.true_and, Bool.true_and, Bool.true_and]
        exact sJoin_in _ f1 b1 b2 A1 A2 n1 n2 c1 c2 len1 len2 g1 g2 w h1 h2 e1 e2 rfl
      · have hd : decide (f1 = f2) = false := by simpa using hf
        rw [hd, Bool.false_and, Bool.true_and, Bool.true_and]
        exact sJoin_no3 f1 f2 b1 b2 A1 A2 n1 n2 c1 c2 len1 len2 g1 g2 w h1 h2 hn1 hn2 hl1 hl2 e1 e2 hf
theorem iJoin_any (f1 f2 b1 b2 : Int) (A1 A2 : Option Addr) (n1 n2 c1 c2 : Nat) (len1 len2 : Nat → Nat) (g1 g2 : Nat → Nat → Nd) (w : World) (h1 : RdT w w.heap.size A1 n1 len1 g1) (h2 : RdT w w.heap.size A2 n2 len2 g2) (hn1 : n1 ≤ 4194304) (hn2 : n2 ≤ 4194304) (hl1 : Hid (∀ i, i < n1 → len1 i ≤ 4194304)) (hl2 : Hid (∀ i, i < n2 → len2 i ≤ 4194304)) :
    Calls Try.prog 49 #[enV f1 b1 A1 n1 c1, enV f2 b2 A2 n2 c2] w (JoinPost (joinB f1 f2 b1 b2 n1 n2 len1 len2 g1 g2) w f1 (b1 + b2) (n1 + n2) (catN n1 len1 len2) (catN n1 g1 g2)) := by
  unfold joinB
  cases e1 : ensB f1 b1 n1 len1 g1 with
  | false => exact iJoin_no1 f1 f2 b1 b2 A1 A2 n1 n2 c1 c2 len1 len2 g1 g2 w h1 h2 hn1 hn2 hl1 hl2 e1
  | true =>
    cases e2 : ensB f2 b2 n2 len2 g2 with
    | false => exact iJoin_no2 f1 f2 b1 b2 A1 A2 n1 n2 c1 c2 len1 len2 g1 g2 w h1 h2 hn1 hn2 hl1 hl2 e1 e2
    | true =>
      by_cases hf : f1 = f2
      · subst hf
        have hd : decide (f1 = f1) = true := by simp
        rw [hd, Bool.true_and, Bool.true_and, Bool.true_and]
        exact iJoin_in _ f1 b1 b2 A1 A2 n1 n2 c1 c2 len1 len2 g1 g2 w h1 h2 e1 e2 rfl
      · have hd : decide (f1 = f2) = false := by simpa using hf
        rw [hd, Bool.false_and, Bool.true_and, Bool.true_and]
        exact iJoin_no3 f1 f2 b1 b2 A1 A2 n1 n2 c1 c2 len1 len2 g1 g2 w h1 h2 hn1 hn2 hl1 hl2 e1 e2 hf

/-! ### JoinDraw -/
/-- Two drawn ensembles. -/
def DrawnTwo (w : World) (e : Ending) (w' : World) : Prop :=
  ∃ (f1 b1 : Int) (k1 : Nat) (A1 : Option Addr) (c1 : Nat) (len1 : Nat → Nat) (g1 : Nat → Nat → Nd) (f2 b2 : Int) (k2 : Nat) (A2 : Option Addr) (c2 : Nat) (len2 : Nat → Nat) (g2 : Nat → Nat → Nd),
    k1 ≤ 12 ∧ (∀ i, i < k1 → len1 i ≤ 16) ∧ k2 ≤ 12 ∧ (∀ i, i < k2 → len2 i ≤ 16) ∧ e = .returned (.tuple #[enV f1 b1 A1 k1 c1, enV f2 b2 A2 k2 c2]) ∧
    RdT w' w'.heap.size A1 k1 len1 g1 ∧ RdT w' w'.heap.size A2 k2 len2 g2 ∧ Below w.heap.size w w'

theorem results_cell2 {P : Program} {fn : Func} {p u : Tmp} {ty : TypeId} (h : fn.results = #[.cell p ty, .cell u ty]) (tmps : Array Value) (w : World) (g g' : Nat) (cs cs' : Array Value) (fr fr' : Nat × Nat) (t t' : TypeId) (d : TypeDesc)
    (hp : tmps.getD p undef = .pointer (some ⟨g, 0, none⟩)) (hp2 : tmps.getD u undef = .pointer (some ⟨g', 0, none⟩)) (hg : w.heap[g]? = some (.cells cs t fr)) (hg2 : w.heap[g']? = some (.cells cs' t' fr'))
    (hu : P.underlying ty = some d) (hd : (match d with | .struct _ | .array _ _ => true | _ => false) = true) (hi : (P.info? ty).map (·.size) = some cs.size) (hi2 : (P.info? ty).map (·.size) = some cs'.size) :
    (results fn tmps).run P w = .ok (.tuple #[.agg cs, .agg cs']) w := by
  have hp' : tmps[p]?.getD undef = .pointer (some ⟨g, 0, none⟩) := by simpa using hp
  have hp2' : tmps[u]?.getD undef = .pointer (some ⟨g', 0, none⟩) := by simpa using hp2
  simp [results, h, hp', hp2', asAddr, Result.andThen, run_loadVar_row w g t ty cs fr d hg hu hd hi, run_loadVar_row w g' t' ty cs' fr' d hg2 hu hd hi2]

/-- The two result cells written. -/
theorem two_end {w W : World} {R : Nat} {f1 b1 f2 b2 : Int} {k1 k2 c1 c2 : Nat} {A1 A2 : Option Addr} {len1 len2 : Nat → Nat} {g1 g2 : Nat → Nat → Nd} {cs ds : Array Value} (hs : cs.size = 3) (hs2 : ds.size = 3) (hZ1 : Blk W w.heap.size 54 cs) (hZ2 : Blk W (w.heap.size + 1) 54 ds) (hR : w.heap.size + 1 < R)
    (hH1 : HiT W (fun x => R < x ∧ x < W.heap.size) A1 k1 len1 g1) (hH2 : HiT W (fun x => R < x ∧ x < W.heap.size) A2 k2 len2 g2) (hw : Below w.heap.size w W) (hk1 : k1 ≤ 12) (hk2 : k2 ≤ 12) (hl1 : ∀ i, i < k1 → len1 i ≤ 16) (hl2 : ∀ i, i < k2 → len2 i ≤ 16) :
    ∃ W', W' = (((((W.setCell ⟨w.heap.size, 0, none⟩ (.int .i64 f1)).setCell ⟨w.heap.size, 1, none⟩ (.int .i64 b1)).setCell ⟨w.heap.size, 2, none⟩ (.slice A1 k1 c1)).setCell ⟨w.heap.size + 1, 0, none⟩ (.int .i64 f2)).setCell ⟨w.heap.size + 1, 1, none⟩ (.int .i64 b2)).setCell ⟨w.heap.size + 1, 2, none⟩ (.slice A2 k2 c2) ∧
      Blk W' w.heap.size 54 #[.int .i64 f1, .int .i64 b1, .slice A1 k1 c1] ∧ Blk W' (w.heap.size + 1) 54 #[.int .i64 f2, .int .i64 b2, .slice A2 k2 c2] ∧ DrawnTwo w (.returned (.tuple #[enV f1 b1 A1 k1 c1, enV f2 b2 A2 k2 c2])) W' := by
  refine ⟨_, rfl, ?_⟩
  have e3 : ∀ (cs : Array Value), cs.size = 3 → ∀ u0 u1 u2 : Value, ((cs.setIfInBounds 0 u0).setIfInBounds 1 u1).setIfInBounds 2 u2 = #[u0, u1, u2] := fun cs h u0 u1 u2 => by
    obtain ⟨l⟩ := cs
    match l, h with
    | [x, y, z], _ => rfl
  have q1 := ((hZ1.set_ 0 (.int .i64 f1)).set_ 1 (.int .i64 b1)).set_ 2 (.slice A1 k1 c1)
  rw [e3 cs hs] at q1
  have q1' := ((q1.far (p := ⟨w.heap.size + 1, 0, none⟩) (by show w.heap.size ≠ w.heap.size + 1; omega) (.int .i64 f2)).far (p := ⟨w.heap.size + 1, 1, none⟩) (by show w.heap.size ≠ w.heap.size + 1; omega) (.int .i64 b2)).far (p := ⟨w.heap.size + 1, 2, none⟩) (by show w.heap.size ≠ w.heap.size + 1; omega) (.slice A2 k2 c2)
  have q2 := ((((((hZ2.far (p := ⟨w.heap.size, 0, none⟩) (by show w.heap.size + 1 ≠ w.heap.size; omega) (.int .i64 f1)).far (p := ⟨w.heap.size, 1, none⟩) (by show w.heap.size + 1 ≠ w.heap.size; omega) (.int .i64 b1)).far (p := ⟨w.heap.size, 2, none⟩) (by show w.heap.size + 1 ≠ w.heap.size; omega) (.slice A1 k1 c1)).set_ 0 (.int .i64 f2)).set_ 1 (.int .i64 b2)).set_ 2 (.slice A2 k2 c2))
  rw [e3 ds hs2] at q2
  have hk : ∀ x, R < x → ((((((W.setCell ⟨w.heap.size, 0, none⟩ (.int .i64 f1)).setCell ⟨w.heap.size, 1, none⟩ (.int .i64 b1)).setCell ⟨w.heap.size, 2, none⟩ (.slice A1 k1 c1)).setCell ⟨w.heap.size + 1, 0, none⟩ (.int .i64 f2)).setCell ⟨w.heap.size + 1, 1, none⟩ (.int .i64 b2)).setCell ⟨w.heap.size + 1, 2, none⟩ (.slice A2 k2 c2)).heap[x]? = W.heap[x]? := fun x hx =>
    (Below.heap_setCell _ _ _ x (by show x ≠ w.heap.size + 1; omega)).trans ((Below.heap_setCell _ _ _ x (by show x ≠ w.heap.size + 1; omega)).trans ((Below.heap_setCell _ _ _ x (by show x ≠ w.heap.size + 1; omega)).trans ((Below.heap_setCell _ _ _ x (by show x ≠ w.heap.size; omega)).trans ((Below.heap_setCell _ _ _ x (by show x ≠ w.heap.size; omega)).trans (Below.heap_setCell _ _ _ x (by show x ≠ w.heap.size; omega))))))
  have hsz : ((((((W.setCell ⟨w.heap.size, 0, none⟩ (.int .i64 f1)).setCell ⟨w.heap.size, 1, none⟩ (.int .i64 b1)).setCell ⟨w.heap.size, 2, none⟩ (.slice A1 k1 c1)).setCell ⟨w.heap.size + 1, 0, none⟩ (.int .i64 f2)).setCell ⟨w.heap.size + 1, 1, none⟩ (.int .i64 b2)).setCell ⟨w.heap.size + 1, 2, none⟩ (.slice A2 k2 c2)).heap.size = W.heap.size := by simp [World.setCell]
  refine ⟨q1', q2, f1, b1, k1, A1, c1, len1, g1, f2, b2, k2, A2, c2, len2, g2, hk1, hl1, hk2, hl2, rfl, ?_, ?_, ?_⟩
  · rw [hsz]
    exact (hH1.keep (Q := fun x => R < x ∧ x < W.heap.size) (fun x hx => hk x hx.1) (fun x hx => hx)).rdT (fun x hx => hx.2)
  · rw [hsz]
    exact (hH2.keep (Q := fun x => R < x ∧ x < W.heap.size) (fun x hx => hk x hx.1) (fun x hx => hx)).rdT (fun x hx => hx.2)
  · exact (((((hw.setCell (p := ⟨w.heap.size, 0, none⟩) (Nat.le_refl _) _).setCell (p := ⟨w.heap.size, 1, none⟩) (Nat.le_refl _) _).setCell (p := ⟨w.heap.size, 2, none⟩) (Nat.le_refl _) _).setCell (p := ⟨w.heap.size + 1, 0, none⟩) (Nat.le_succ _) _).setCell (p := ⟨w.heap.size + 1, 1, none⟩) (Nat.le_succ _) _).setCell (p := ⟨w.heap.size + 1, 2, none⟩) (Nat.le_succ _) _
/-- A drawn ensemble's trees, wherever they lie behind R. -/
theorem hit_drawn {w' : World} {R : Nat} {B k c : Nat} {A' : Option Addr} {bl ln cp : Nat → Nat} {ds : Nat → List Nd} (hown : w'.ownsRow B 24 1 (.slice A' k c) k (hdrC k bl ln cp)) (hT : Trees w' B k bl ln cp ds) (hB : R < B) : HiT w' (fun x => R < x ∧ x < w'.heap.size) A' k ln (nds ds) :=
  (hit_own hown hT).keep (fun _ _ => rfl) (fun x hx => ⟨by have := hx.1; omega, by have := hx.2; omega⟩)

set_option maxRecDepth 100000 in
set_option maxHeartbeats 4000000 in
theorem drawTwo (A : Option Addr) (n cap : Nat) (w : World) (h : Bs w w.heap.size A n) (hn : n ≤ 4194304) :
    Calls Try.prog 48 #[.slice A n cap] w (DrawnTwo w) := by
  go_enter Try.func48, Try.ntmps48
  go_wp2_with fail
  have hbz := ((Below.refl w.heap.size w).alloc (Nat.le_refl _) (.cells #[.int .i64 0, .int .i64 0, .slice none 0 0] 54)).alloc (by simp) (.cells #[.int .i64 0, .int .i64 0, .slice none 0 0] 54)
  have hZa := (Blk.new w 54 #[.int .i64 0, .int .i64 0, .slice none 0 0]).alloc (.cells #[.int .i64 0, .int .i64 0, .slice none 0 0] 54)
  have hZb := Blk.new2 w (.cells #[.int .i64 0, .int .i64 0, .slice none 0 0] 54) 54 #[.int .i64 0, .int .i64 0, .slice none 0 0]
  obtain ⟨W0, hW0⟩ : ∃ W0, (w.alloc (.cells #[.int .i64 0, .int .i64 0, .slice none 0 0] 54)).alloc (.cells #[.int .i64 0, .int .i64 0, .slice none 0 0] 54) = W0 := ⟨_, rfl⟩
  have hsz : W0.heap.size = w.heap.size + 2 := by rw [← hW0]; simp
  rw [hW0] at hbz hZa hZb
  have h1 : Bs W0 W0.heap.size A n := (h.keep fun _ hp => hbz.cell hp).more hbz.size
  rw [hW0]
  refine (open_draw A n cap _ h1 hn).mono ?_
  rintro e w1 ⟨rfl, hR1, hb1⟩
  have hZ1 : Blk w1 w.heap.size 54 #[.int .i64 0, .int .i64 0, .slice none 0 0] := hZa.below hb1 hZa.lt
  have hY1 : Blk w1 (w.heap.size + 1) 54 #[.int .i64 0, .int .i64 0, .slice none 0 0] := hZb.below hb1 hZb.lt
  have hw1 : Below w.heap.size w w1 := hbz.trans (hb1.mono hbz.size)
  obtain ⟨R, hRR⟩ : ∃ R, W0.heap.size = R := ⟨_, rfl⟩
  rw [hRR] at hR1 ⊢
  have hR2w : w.heap.size + 1 < R := by omega
  clear hb1 hbz h1 hZa hZb hW0 hRR hsz
  have hRw := hR1.lt
  go_wp2_with fail
  refine (below_draw R n cap A 3 _ hR1 (by omega) (by omega)).mono ?_
  rintro e w2 ⟨x, rfl, hx0, hx1, hR2, hg2⟩
  have hZ2 := hZ1.grown hg2 (by intro e; injection e with e; omega)
  have hY2 := hY1.grown hg2 (by intro e; injection e with e; omega)
  have hw2 := hw1.trans ((below_grown hg2 hRw).mono (show w.heap.size ≤ R by omega))
  clear hg2 hZ1 hY1 hw1 hR1
  go_wp2_with fail
  refine (once_draw R n cap A 16 _ hR2 (by omega) (by omega)).mono ?_
  rintro e w3 ⟨q, rfl, hR3, hg3⟩
  have hZ3 := hZ2.grown hg3 (by intro e; injection e with e; omega)
  have hY3 := hY2.grown hg3 (by intro e; injection e with e; omega)
  have hw3 := hw2.trans ((below_grown hg3 hR2.lt).mono (show w.heap.size ≤ R by omega))
  clear hg3 hZ2 hY2 hw2 hR2
  have hx2 : 0 ≤ x ∧ x ≤ 2 := ⟨hx0, by omega⟩
  cases q with
  | true =>
    go_wp2_with fail
    refine (ens_draw R n cap A (1 + x) (by omega) (by omega) _ hR3).mono ?_
    rintro e w4 ⟨f1, b1, k1, A1, c1, bl1, ln1, cp1, ds1, hk1, rfl, hown1, hT1, hR4, hg4⟩
    have hZ4 := hZ3.grown hg4 (by intro e; injection e with e; omega)
    have hY4 := hY3.grown hg4 (by intro e; injection e with e; omega)
    have hw4 := hw3.trans ((below_grown hg4 hR3.lt).mono (show w.heap.size ≤ R by omega))
    have hl1 : ∀ i, i < k1 → ln1 i ≤ 16 := fun i hi => by have := (hT1 i hi).1.2; omega
    have hH1 := hit_drawn hown1 hT1 hR3.lt
    have HL1 := hid hl1
    clear hg4 hZ3 hY3 hw3 hown1 hT1 hR3 hl1
    go_wp2_with fail
    refine (ens_draw R n cap A (1 + x + 1) (by omega) (by omega) _ hR4).mono ?_
    rintro e w5 ⟨f2, b2, k2, A2, c2, bl2, ln2, cp2, ds2, hk2, rfl, hown2, hT2, hR5, hg5⟩
    have hZF := hZ4.grown hg5 (by intro e; injection e with e; omega)
    have hYF := hY4.grown hg5 (by intro e; injection e with e; omega)
    have hw5 := hw4.trans ((below_grown hg5 hR4.lt).mono (show w.heap.size ≤ R by omega))
    have hl2 : ∀ i, i < k2 → ln2 i ≤ 16 := fun i hi => by have := (hT2 i hi).1.2; omega
    have hH2 := hit_drawn hown2 hT2 hR4.lt
    have hs5 := hg5.size
    have hH1' := hH1.keep (w' := w5) (Q := fun x => R < x ∧ x < w5.heap.size) (fun x hx => hg5.block x hx.2 (by intro e; injection e with e; omega)) (fun x hx => ⟨hx.1, by omega⟩)
    have HL2 := hid hl2
    clear hg5 hZ4 hY4 hw4 hown2 hT2 hR4 hH1 hl2
    have a0 : w5.cell? ⟨w.heap.size, 0, none⟩ = some (.int .i64 0) := hZF.cell 0
    have a1 : w5.cell? ⟨w.heap.size, 1, none⟩ = some (.int .i64 0) := hZF.cell 1
    have a2 : w5.cell? ⟨w.heap.size, 2, none⟩ = some (.slice none 0 0) := hZF.cell 2
    have a3 := hZF.frozen 0
    have a4 := hZF.frozen 1
    have a5 := hZF.frozen 2
    have d0 : w5.cell? ⟨w.heap.size + 1, 0, none⟩ = some (.int .i64 0) := hYF.cell 0
    have d1 : w5.cell? ⟨w.heap.size + 1, 1, none⟩ = some (.int .i64 0) := hYF.cell 1
    have d2 : w5.cell? ⟨w.heap.size + 1, 2, none⟩ = some (.slice none 0 0) := hYF.cell 2
    have d3 := hYF.frozen 0
    have d4 := hYF.frozen 1
    have d5 := hYF.frozen 2
    obtain ⟨W', hW', q1, q2, hpost⟩ := two_end (f1 := f1) (b1 := b1) (f2 := f2) (b2 := b2) (c1 := c1) (c2 := c2) rfl rfl hZF hYF hR2w hH1' hH2 hw5 hk1 hk2 HL1.out HL2.out
    have Q1 := hid q1
    have Q2 := hid q2
    have HP := hid hpost
    have HW := hid hW'
    clear q1 q2 hpost hW' hZF hYF
    go_wp2_with fail
    rw [← HW.out]
    (try simp only [Exit.inBlock, Exit.then])
    first
      | refine bodyPost_ret (results_cell2 rfl _ _ w.heap.size (w.heap.size + 1) _ _ (0, 0) (0, 0) _ _ _ rfl rfl Q1.out Q2.out Try.underlying54 rfl size_ens size_ens) rfl ?_
      | refine bodyPost_end (results_cell2 rfl _ _ w.heap.size (w.heap.size + 1) _ _ (0, 0) (0, 0) _ _ _ rfl rfl Q1.out Q2.out Try.underlying54 rfl size_ens size_ens) rfl ?_
    exact HP.out
  | false =>
    go_wp2_with fail
    refine (ens_draw R n cap A (1 + x) (by omega) (by omega) _ hR3).mono ?_
    rintro e w4 ⟨f0, b0, k0, A0, c0, bl0, ln0, cp0, ds0, hk0, rfl, hown0, hT0, hR4, hg4⟩
    have hZ4 := hZ3.grown hg4 (by intro e; injection e with e; omega)
    have hY4 := hY3.grown hg4 (by intro e; injection e with e; omega)
    have hw4 := hw3.trans ((below_grown hg4 hR3.lt).mono (show w.heap.size ≤ R by omega))
    have hR3l := hR3.lt
    clear hg4 hZ3 hY3 hw3 hR3
    go_wp2_with fail
    refine (hurtEns_draw R n cap w3.heap.size A A0 f0 b0 k0 c0 bl0 ln0 cp0 ds0 _ hR4 hR3l hk0 hown0 hT0).mono ?_
    rintro e w5 ⟨f1, b1, k1, A1, c1, len1, g1, hk1, hl1, rfl, hH1, hR5, hb5⟩
    have hZ5 := hZ4.below hb5 (show w.heap.size < R by omega)
    have hY5 := hY4.below hb5 (show w.heap.size + 1 < R by omega)
    have hw5 := hw4.trans (hb5.mono (show w.heap.size ≤ R by omega))
    have HL1 := hid hl1
    clear hb5 hZ4 hY4 hw4 hown0 hT0 hR4 hl1
    go_wp2_with fail
    refine (ens_draw R n cap A (1 + x) (by omega) (by omega) _ hR5).mono ?_
    rintro e w6 ⟨f2, b2, k2, A2, c2, bl2, ln2, cp2, ds2, hk2, rfl, hown2, hT2, hR6, hg6⟩
    have hZF := hZ5.grown hg6 (by intro e; injection e with e; omega)
    have hYF := hY5.grown hg6 (by intro e; injection e with e; omega)
    have hw6 := hw5.trans ((below_grown hg6 hR5.lt).mono (show w.heap.size ≤ R by omega))
    have hl2 : ∀ i, i < k2 → ln2 i ≤ 16 := fun i hi => by have := (hT2 i hi).1.2; omega
    have hH2 := hit_drawn hown2 hT2 hR5.lt
    have hs6 := hg6.size
    have hH1' := hH1.keep (w' := w6) (Q := fun x => R < x ∧ x < w6.heap.size) (fun x hx => hg6.block x hx.2 (by intro e; injection e with e; omega)) (fun x hx => ⟨hx.1, by omega⟩)
    have HL2 := hid hl2
    clear hg6 hZ5 hY5 hw5 hown2 hT2 hR5 hH1 hl2
    have a0 : w6.cell? ⟨w.heap.size, 0, none⟩ = some (.int .i64 0) := hZF.cell 0
    have a1 : w6.cell? ⟨w.heap.size, 1, none⟩ = some (.int .i64 0) := hZF.cell 1
    have a2 : w6.cell? ⟨w.heap.size, 2, none⟩ = some (.slice none 0 0) := hZF.cell 2
    have a3 := hZF.frozen 0
    have a4 := hZF.frozen 1
    have a5 := hZF.frozen 2
    have d0 : w6.cell? ⟨w.heap.size + 1, 0, none⟩ = some (.int .i64 0) := hYF.cell 0
    have d1 : w6.cell? ⟨w.heap.size + 1, 1, none⟩ = some (.int .i64 0) := hYF.cell 1
    have d2 : w6.cell? ⟨w.heap.size + 1, 2, none⟩ = some (.slice none 0 0) := hYF.cell 2
    have d3 := hYF.frozen 0
    have d4 := hYF.frozen 1
    have d5 := hYF.frozen 2
    obtain ⟨W', hW', q1, q2, hpost⟩ := two_end (f1 := f1) (b1 := b1) (f2 := f2) (b2 := b2) (c1 := c1) (c2 := c2) rfl rfl hZF hYF hR2w hH1' hH2 hw6 hk1 hk2 HL1.out HL2.out
    have Q1 := hid q1
    have Q2 := hid q2
    have HP := hid hpost
    have HW := hid hW'
    clear q1 q2 hpost hW' hZF hYF
    go_wp2_with fail
    rw [← HW.out]
    (try simp only [Exit.inBlock, Exit.then])
    first
      | refine bodyPost_ret (results_cell2 rfl _ _ w.heap.size (w.heap.size + 1) _ _ (0, 0) (0, 0) _ _ _ rfl rfl Q1.out Q2.out Try.underlying54 rfl size_ens size_ens) rfl ?_
      | refine bodyPost_end (results_cell2 rfl _ _ w.heap.size (w.heap.size + 1) _ _ (0, 0) (0, 0) _ _ _ rfl rfl Q1.out Q2.out Try.underlying54 rfl size_ens size_ens) rfl ?_
    exact HP.out

/-! ### JoinFn -/
set_option maxHeartbeats 1000000 in
theorem sameT_any (A A' : Option Addr) (n c c' : Nat) (g : Nat → Nd) (w : World) (h : RdN w w.heap.size A n g) (h' : RdN w w.heap.size A' n g) (hn : n ≤ 4194304) :
    Calls Try.prog 102 #[.slice A n c, .slice A' n c'] w fun e w' => e = .returned (.bool true) ∧ ∃ m, w' = w.drewN m := by
  go_enter Try.func102, Try.ntmps102
  go_wp2_with fail
  go_loopw [5] (fun i wr => ∃ k m : Nat, k ≤ n ∧ i = .int .i64 k ∧ wr = w.drewN m) (fun i _ => n - (intOf i).toNat)
  case atStart => exact ⟨0, 0, Nat.zero_le _, rfl, rfl⟩
  case round =>
    obtain ⟨k, m, hk, rfl, rfl⟩ := hrel
    by_cases hlt : k < n
    · obtain ⟨b, off, rfl, hb, c0, c1, c2, c3, c4, c5⟩ := h.at_ hlt
      obtain ⟨b', off', rfl, hb', d0, d1, d2, d3, d4, d5⟩ := h'.at_ hlt
      have he := fun wx => eqNd (g k) (g k) wx
      simp only [beq_self_eq_true, Bool.and_self] at he
      have hi : (k : Int) < (n : Int) := by omega
      have hi0 : (0 : Int) ≤ (k : Int) := by omega
      go_wp2_with fail
      go_quiet (fail)
      go_wp2_with fail
      go_roundw
      case rel => exact ⟨k + 1, _, by omega, by go_num, rfl⟩
      case measure => simp [intOf]; omega
    · go_wp2_with fail
      go_ret
      exact ⟨rfl, m, rfl⟩

theorem sameT_at (A A' : Option Addr) (n c c' : Nat) (g : Nat → Nd) (w : World) (h : RdN w w.heap.size A n g) (h' : RdN w w.heap.size A' n g) (hn : n ≤ 4194304) :
    ∀ wx : World, (∃ m, wx = w.drewN m) → Calls Try.prog 102 #[.slice A n c, .slice A' n c'] wx fun e w' => e = .returned (.bool true) ∧ ∃ m, w' = wx.drewN m := by
  rintro wx ⟨m, rfl⟩
  exact sameT_any A A' n c c' g (w.drewN m) h h' hn

set_option maxRecDepth 100000 in
set_option maxHeartbeats 4000000 in
theorem sameE_any (f b : Int) (A A' : Option Addr) (n c c' : Nat) (len : Nat → Nat) (g : Nat → Nat → Nd) (w : World) (h : RdT w w.heap.size A n len g) (h' : RdT w w.heap.size A' n len g) (hn : n ≤ 4194304) (hlen : Hid (∀ i, i < n → len i ≤ 4194304)) :
    Calls Try.prog 51 #[enV f b A n c, enV f b A' n c'] w fun e w' => e = .returned (.bool true) ∧ Below w.heap.size w w' := by
  have hb1 := ((Below.refl w.heap.size w).alloc (Nat.le_refl _) (.cells #[.int .i64 f, .int .i64 b, .slice A n c] 54)).alloc (by simp) (.cells #[.int .i64 f, .int .i64 b, .slice A' n c'] 54)
  have hE1 := (Blk.new w 54 #[.int .i64 f, .int .i64 b, .slice A n c]).alloc (.cells #[.int .i64 f, .int .i64 b, .slice A' n c'] 54)
  have hE2 := Blk.new2 w (.cells #[.int .i64 f, .int .i64 b, .slice A n c] 54) 54 #[.int .i64 f, .int .i64 b, .slice A' n c']
  obtain ⟨W, hW⟩ : ∃ W, (w.alloc (.cells #[.int .i64 f, .int .i64 b, .slice A n c] 54)).alloc (.cells #[.int .i64 f, .int .i64 b, .slice A' n c'] 54) = W := ⟨_, rfl⟩
  rw [hW] at hb1 hE1 hE2
  have h1 := h.to hb1 hb1.size
  have h2 := h'.to hb1 hb1.size
  have a0 : W.cell? ⟨w.heap.size, 0, none⟩ = some (.int .i64 f) := hE1.cell 0
  have a1 : W.cell? ⟨w.heap.size, 1, none⟩ = some (.int .i64 b) := hE1.cell 1
  have a2 : W.cell? ⟨w.heap.size, 2, none⟩ = some (.slice A n c) := hE1.cell 2
  have e0 : W.cell? ⟨w.heap.size + 1, 0, none⟩ = some (.int .i64 f) := hE2.cell 0
  have e1 : W.cell? ⟨w.heap.size + 1, 1, none⟩ = some (.int .i64 b) := hE2.cell 1
  have e2 : W.cell? ⟨w.heap.size + 1, 2, none⟩ = some (.slice A' n c') := hE2.cell 2
  have hH1 := hid h1
  have hH2 := hid h2
  have HE1 := hid hE1
  have HE2 := hid hE2
  clear h h' h1 h2 hE1 hE2
  go_enter Try.func51, Try.ntmps51
  go_wp2_with fail
  clear a0 a1 a2 e0 e1 e2
  go_loopw [5] (fun i wr => ∃ k m : Nat, k ≤ n ∧ i = .int .i64 k ∧ wr = W.drewN m) (fun i _ => n - (intOf i).toNat)
  case atStart => first | exact ⟨0, 0, Nat.zero_le _, rfl, rfl⟩ | exact ⟨0, 1, Nat.zero_le _, rfl, rfl⟩
  case round =>
    obtain ⟨k, m, hk, rfl, rfl⟩ := hrel
    have a2 : W.cell? ⟨w.heap.size, 2, none⟩ = some (.slice A n c) := HE1.out.cell 2
    have e2 : W.cell? ⟨w.heap.size + 1, 2, none⟩ = some (.slice A' n c') := HE2.out.cell 2
    by_cases hlt : k < n
    · obtain ⟨bb, off, Ai, ci, rfl, hbb, hc, hrd⟩ := hH1.out.at_ hlt
      obtain ⟨bb', off', Ai', ci', rfl, hbb', hc', hrd'⟩ := hH2.out.at_ hlt
      have hi : (k : Int) < (n : Int) := by omega
      have hi0 : (0 : Int) ≤ (k : Int) := by omega
      have hlk := hlen.out k hlt
      have HQ := hid (sameT_at Ai Ai' (len k) ci ci' (g k) W hrd hrd' hlk)
      clear hrd hrd'
      go_wp2_with fail
      have hlb : bb < W.heap.size := hbb
      go_region_held3 (fun w' => w'.cell? ⟨w.heap.size, 2, none⟩ = some (.slice (some ⟨bb, off, none⟩) n c) ∧ w'.cell? ⟨w.heap.size + 1, 2, none⟩ = some (.slice (some ⟨bb', off', none⟩) n c') ∧ w'.cell? ⟨bb, off + k, none⟩ = some (.slice Ai (len k) ci) ∧ w'.cell? ⟨bb', off' + k, none⟩ = some (.slice Ai' (len k) ci'))
        (first | exact ⟨a2, e2, hc, hc'⟩ | (simp [go_sem, *]; done))
        (first
          | (go_at_call 102; refine (HQ.out _ ⟨m + 1, rfl⟩).mono ?_; rintro e w1 ⟨rfl, m1, rfl⟩))
      go_wp2_with fail
      go_roundw
      case rel => exact ⟨k + 1, m + 1 + m1, by omega, by go_num, rfl⟩
      case measure => simp [intOf]; omega
    · go_wp2_with fail
      go_ret
      exact ⟨rfl, below_drewN hb1 m⟩

theorem sumT_cat (p1 p2 : Nat → Int) (n1 : Nat) : ∀ n2, sumT (catN n1 p1 p2) (n1 + n2) = sumT p1 n1 + sumT p2 n2 := by
  intro n2
  induction n2 with
  | zero =>
    have e : ∀ k, k ≤ n1 → sumT (catN n1 p1 p2) k = sumT p1 k := by
      intro k
      induction k with
      | zero => intro _; rfl
      | succ k ih =>
        intro hk
        simp only [sumT]
        rw [ih (by omega), catN_left (by omega)]
    rw [Nat.add_zero, e n1 (Nat.le_refl _)]
    simp [sumT]
  | succ n2 ih =>
    rw [Nat.add_succ, sumT, ih, catN_right (by omega)]
    have e : n1 + n2 - n1 = n2 := by omega
    rw [e]
    simp only [sumT]
    omega
theorem scF_cat (n1 : Nat) (g1 g2 : Nat → Nat → Nd) (z : Nat → Int) : scF (catN n1 g1 g2) z = catN n1 (scF g1 z) (scF g2 z) := by
  funext i
  show lvv (catN n1 g1 g2 i) z = _
  by_cases h : i < n1
  · rw [catN_left h, catN_left h]; rfl
  · rw [catN_right h, catN_right h]; rfl
theorem ensB_cat {f b1 b2 : Int} {n1 n2 : Nat} {len1 len2 : Nat → Nat} {g1 g2 : Nat → Nat → Nd} (h1 : ensB f b1 n1 len1 g1 = true) (h2 : ensB f b2 n2 len2 g2 = true) :
    ensB f (b1 + b2) (n1 + n2) (catN n1 len1 len2) (catN n1 g1 g2) = true ↔ (-1000000000 ≤ b1 + b2 ∧ b1 + b2 ≤ 1000000000) ∧ n1 + n2 ≤ 12 := by
  rw [ensB_iff]
  obtain ⟨q1, q2, q3, q4⟩ := ensB_iff.1 h1
  obtain ⟨_, _, _, r4⟩ := ensB_iff.1 h2
  refine ⟨fun h => ⟨h.2.1, h.2.2.1⟩, fun h => ⟨q1, h.1, h.2, fun i hi => ?_⟩⟩
  by_cases e : i < n1
  · rw [catN_left e, catN_left e]; exact q4 i e
  · rw [catN_right e, catN_right e]; exact r4 _ (by omega)
theorem joinB_parts {f1 f2 b1 b2 : Int} {n1 n2 : Nat} {len1 len2 : Nat → Nat} {g1 g2 : Nat → Nat → Nd} (h : joinB f1 f2 b1 b2 n1 n2 len1 len2 g1 g2 = true) :
    ensB f1 b1 n1 len1 g1 = true ∧ ensB f2 b2 n2 len2 g2 = true ∧ f1 = f2 ∧ ensB f1 (b1 + b2) (n1 + n2) (catN n1 len1 len2) (catN n1 g1 g2) = true := by
  unfold joinB at h
  simpa using h
theorem joinB_turn {f1 f2 b1 b2 : Int} {n1 n2 : Nat} {len1 len2 : Nat → Nat} {g1 g2 : Nat → Nat → Nd} (h : joinB f1 f2 b1 b2 n1 n2 len1 len2 g1 g2 = true) : joinB f2 f1 b2 b1 n2 n1 len2 len1 g2 g1 = true := by
  obtain ⟨h1, h2, rfl, h3⟩ := joinB_parts h
  have := (ensB_cat h1 h2).1 h3
  have h4 := (ensB_cat h2 h1).2 (by omega)
  unfold joinB
  simp [h1, h2, h4]
theorem may_draw {y : Int} (h0 : 0 ≤ y) (h1 : y < 24) : may (y - 12) = true := by
  unfold may
  simp
  left
  omega
theorem may_missing : may 9999999 = true := rfl
theorem rem_some (x : Int) (m : Int) (hx : 0 ≤ x) (hm : 0 < m) : ∃ y, Int.tmod x m = y ∧ 0 ≤ y ∧ y < m :=
  ⟨_, rfl, Int.tmod_nonneg m hx, Int.tmod_lt_of_pos x hm⟩
theorem fill_next {cs : Array Value} {z : Nat → Int} {k : Nat} {v : Int} (h : ∀ j, j < k → cs[j]? = some (.int .i64 (z j)) ∧ may (z j) = true) (hv : may v = true) (hk : k < cs.size) :
    ∀ j, j < k + 1 → (cs.setIfInBounds k (.int .i64 v))[j]? = some (.int .i64 ((fun j => if j = k then v else z j) j)) ∧ may ((fun j => if j = k then v else z j) j) = true := by
  intro j hj
  show _ = some (Value.int .i64 (if j = k then v else z j)) ∧ may (if j = k then v else z j) = true
  by_cases e : j = k
  · subst e
    rw [if_pos rfl, Array.getElem?_setIfInBounds_self_of_lt hk]
    exact ⟨rfl, hv⟩
  · rw [if_neg e, Array.getElem?_setIfInBounds_ne (by omega)]
    exact h j (by omega)
theorem allTo_mk {z : Nat → Int} : ∀ {n : Nat}, (∀ j, j < n → may (z j) = true) → allTo z n = true := by
  intro n
  induction n with
  | zero => intro _; rfl
  | succ n ih =>
    intro h
    unfold allTo
    rw [ih fun j hj => h j (by omega), h n (by omega)]
    rfl
set_option maxRecDepth 100000 in
set_option maxHeartbeats 4000000 in
theorem lawJoin (A : Option Addr) (n cap : Nat) (w : World) (h : Bs w w.heap.size A n) :
    Calls Try.prog 9 #[.slice A n cap] w fun e w' => e = .returned (.bool true) ∧ Below w.heap.size w w' := by
  by_cases hbig : (1048576 : Int) < (n : Int)
  · go_enter Try.func9, Try.ntmps9
    go_wp2_with fail
    refine (big_yes A n cap _ hbig).mono ?_
    rintro e w1 ⟨rfl, rfl⟩
    go_wp2_with fail
    go_ret
    exact ⟨rfl, Below.refl _ _⟩
  · have hn : n ≤ 4194304 := by omega
    go_enter Try.func9, Try.ntmps9
    go_wp2_with fail
    refine (big_no A n cap _ (by omega)).mono ?_
    rintro e w0 ⟨rfl, rfl⟩
    go_wp2_with fail
    refine (drawTwo A n cap _ h hn).mono ?_
    rintro e w1 ⟨f1, b1, k1, A1, c1, len1, g1, f2, b2, k2, A2, c2, len2, g2, hk1, hl1, hk2, hl2, rfl, hr1, hr2, hw1⟩
    have hl1' : Hid (∀ i, i < k1 → len1 i ≤ 4194304) := fun i hi => by have := hl1 i hi; omega
    have hl2' : Hid (∀ i, i < k2 → len2 i ≤ 4194304) := fun i hi => by have := hl2 i hi; omega
    have hk1' : k1 ≤ 4194304 := by omega
    have hk2' : k2 ≤ 4194304 := by omega
    clear hl1 hl2
    have hB1 : Bs w1 w1.heap.size A n := (h.keep fun _ hp => hw1.cell hp).more hw1.size
    have hbA_1 := (Below.refl w1.heap.size w1).alloc (Nat.le_refl _) (.cells #[.int .i64 f1, .int .i64 b1, .slice A1 k1 c1] 54)
    have E1A := Blk.new w1 54 #[.int .i64 f1, .int .i64 b1, .slice A1 k1 c1]
    have hw_1 := hw1.trans (hbA_1.mono hw1.size)
    have r1_1 := hr1.to hbA_1 hbA_1.size
    have r2_1 := hr2.to hbA_1 hbA_1.size
    have B_1 := (hB1.keep fun _ hp => hbA_1.cell hp).more hbA_1.size
    clear hw1 hr1 hr2 hB1
    clear hbA_1
    have hbA_2 := (Below.refl (w1.alloc (.cells #[.int .i64 f1, .int .i64 b1, .slice A1 k1 c1] 54)).heap.size (w1.alloc (.cells #[.int .i64 f1, .int .i64 b1, .slice A1 k1 c1] 54))).alloc (Nat.le_refl _) (.cells #[.int .i64 f2, .int .i64 b2, .slice A2 k2 c2] 54)
    have E2A := Blk.new2 w1 (.cells #[.int .i64 f1, .int .i64 b1, .slice A1 k1 c1] 54) 54 #[.int .i64 f2, .int .i64 b2, .slice A2 k2 c2]
    have hw_2 := hw_1.trans (hbA_2.mono hw_1.size)
    have r1_2 := r1_1.to hbA_2 hbA_2.size
    have r2_2 := r2_1.to hbA_2 hbA_2.size
    have B_2 := (B_1.keep fun _ hp => hbA_2.cell hp).more hbA_2.size
    have E1_2 := E1A.on hbA_2
    clear hw_1 r1_1 r2_1 B_1 E1A
    clear hbA_2
    obtain ⟨Y, hY⟩ : ∃ Y, joinB f1 f2 b1 b2 k1 k2 len1 len2 g1 g2 = Y := ⟨_, rfl⟩
    have HY := hid hY
    clear hY
    cases Y with
    | false =>
      have xc0 : ((w1.alloc (.cells #[.int .i64 f1, .int .i64 b1, .slice A1 k1 c1] 54)).alloc (.cells #[.int .i64 f2, .int .i64 b2, .slice A2 k2 c2] 54)).cell? ⟨w1.heap.size, 0, none⟩ = some (.int .i64 f1) := E1_2.cell 0
      have xc1 : ((w1.alloc (.cells #[.int .i64 f1, .int .i64 b1, .slice A1 k1 c1] 54)).alloc (.cells #[.int .i64 f2, .int .i64 b2, .slice A2 k2 c2] 54)).cell? ⟨w1.heap.size, 1, none⟩ = some (.int .i64 b1) := E1_2.cell 1
      have xc2 : ((w1.alloc (.cells #[.int .i64 f1, .int .i64 b1, .slice A1 k1 c1] 54)).alloc (.cells #[.int .i64 f2, .int .i64 b2, .slice A2 k2 c2] 54)).cell? ⟨w1.heap.size, 2, none⟩ = some (.slice A1 k1 c1) := E1_2.cell 2
      have yc0 : ((w1.alloc (.cells #[.int .i64 f1, .int .i64 b1, .slice A1 k1 c1] 54)).alloc (.cells #[.int .i64 f2, .int .i64 b2, .slice A2 k2 c2] 54)).cell? ⟨(w1.heap.size + 1), 0, none⟩ = some (.int .i64 f2) := E2A.cell 0
      have yc1 : ((w1.alloc (.cells #[.int .i64 f1, .int .i64 b1, .slice A1 k1 c1] 54)).alloc (.cells #[.int .i64 f2, .int .i64 b2, .slice A2 k2 c2] 54)).cell? ⟨(w1.heap.size + 1), 1, none⟩ = some (.int .i64 b2) := E2A.cell 1
      have yc2 : ((w1.alloc (.cells #[.int .i64 f1, .int .i64 b1, .slice A1 k1 c1] 54)).alloc (.cells #[.int .i64 f2, .int .i64 b2, .slice A2 k2 c2] 54)).cell? ⟨(w1.heap.size + 1), 2, none⟩ = some (.slice A2 k2 c2) := E2A.cell 2
      go_wp2_with fail
      refine (iJoin_any f1 f2 b1 b2 A1 A2 k1 k2 c1 c2 len1 len2 g1 g2 _ r1_2 r2_2 hk1' hk2' hl1' hl2').mono ?_
      rw [HY.out]
      rintro e w_3 ⟨rfl, hb_3⟩
      have hw_3 := hw_2.trans (hb_3.mono hw_2.size)
      have r1_3 := r1_2.to hb_3 hb_3.size
      have r2_3 := r2_2.to hb_3 hb_3.size
      have B_3 := (B_2.keep fun _ hp => hb_3.cell hp).more hb_3.size
      have E1_3 := E1_2.on hb_3
      have E2_3 := E2A.on hb_3
      clear hw_2 r1_2 r2_2 B_2 E1_2 E2A
      clear hb_3
      clear xc0 xc1 xc2 yc0 yc1 yc2
      have hbA_4 := (Below.refl w_3.heap.size w_3).alloc (Nat.le_refl _) (.cells #[.int .i64 0, .int .i64 0, .slice none 0 0] 54)
      have JA := Blk.new w_3 54 #[.int .i64 0, .int .i64 0, .slice none 0 0]
      have hw_4 := hw_3.trans (hbA_4.mono hw_3.size)
      have r1_4 := r1_3.to hbA_4 hbA_4.size
      have r2_4 := r2_3.to hbA_4 hbA_4.size
      have B_4 := (B_3.keep fun _ hp => hbA_4.cell hp).more hbA_4.size
      have E1_4 := E1_3.on hbA_4
      have E2_4 := E2_3.on hbA_4
      clear hw_3 r1_3 r2_3 B_3 E1_3 E2_3
      clear hbA_4
      have xc0 : (w_3.alloc (.cells #[.int .i64 0, .int .i64 0, .slice none 0 0] 54)).cell? ⟨w1.heap.size, 0, none⟩ = some (.int .i64 f1) := E1_4.cell 0
      have xc1 : (w_3.alloc (.cells #[.int .i64 0, .int .i64 0, .slice none 0 0] 54)).cell? ⟨w1.heap.size, 1, none⟩ = some (.int .i64 b1) := E1_4.cell 1
      have xc2 : (w_3.alloc (.cells #[.int .i64 0, .int .i64 0, .slice none 0 0] 54)).cell? ⟨w1.heap.size, 2, none⟩ = some (.slice A1 k1 c1) := E1_4.cell 2
      have yc0 : (w_3.alloc (.cells #[.int .i64 0, .int .i64 0, .slice none 0 0] 54)).cell? ⟨(w1.heap.size + 1), 0, none⟩ = some (.int .i64 f2) := E2_4.cell 0
      have yc1 : (w_3.alloc (.cells #[.int .i64 0, .int .i64 0, .slice none 0 0] 54)).cell? ⟨(w1.heap.size + 1), 1, none⟩ = some (.int .i64 b2) := E2_4.cell 1
      have yc2 : (w_3.alloc (.cells #[.int .i64 0, .int .i64 0, .slice none 0 0] 54)).cell? ⟨(w1.heap.size + 1), 2, none⟩ = some (.slice A2 k2 c2) := E2_4.cell 2
      go_wp2_with fail
      refine (sJoin_any f1 f2 b1 b2 A1 A2 k1 k2 c1 c2 len1 len2 g1 g2 _ r1_4 r2_4 hk1' hk2' hl1' hl2').mono ?_
      rw [HY.out]
      rintro e w_5 ⟨rfl, hb_5⟩
      have hw_5 := hw_4.trans (hb_5.mono hw_4.size)
      have r1_5 := r1_4.to hb_5 hb_5.size
      have r2_5 := r2_4.to hb_5 hb_5.size
      have B_5 := (B_4.keep fun _ hp => hb_5.cell hp).more hb_5.size
      have E1_5 := E1_4.on hb_5
      have E2_5 := E2_4.on hb_5
      have J_5 := JA.on hb_5
      clear hw_4 r1_4 r2_4 B_4 E1_4 E2_4 JA
      clear hb_5
      clear xc0 xc1 xc2 yc0 yc1 yc2
      have hbA_6 := (Below.refl w_5.heap.size w_5).alloc (Nat.le_refl _) (.cells #[.int .i64 0, .int .i64 0, .slice none 0 0] 54)
      have WtA := Blk.new w_5 54 #[.int .i64 0, .int .i64 0, .slice none 0 0]
      have hw_6 := hw_5.trans (hbA_6.mono hw_5.size)
      have r1_6 := r1_5.to hbA_6 hbA_6.size
      have r2_6 := r2_5.to hbA_6 hbA_6.size
      have B_6 := (B_5.keep fun _ hp => hbA_6.cell hp).more hbA_6.size
      have E1_6 := E1_5.on hbA_6
      have E2_6 := E2_5.on hbA_6
      have J_6 := J_5.on hbA_6
      clear hw_5 r1_5 r2_5 B_5 E1_5 E2_5 J_5
      clear hbA_6
      have xc0 : (w_5.alloc (.cells #[.int .i64 0, .int .i64 0, .slice none 0 0] 54)).cell? ⟨w_3.heap.size, 0, none⟩ = some (.int .i64 0) := J_6.cell 0
      have xc1 : (w_5.alloc (.cells #[.int .i64 0, .int .i64 0, .slice none 0 0] 54)).cell? ⟨w_3.heap.size, 1, none⟩ = some (.int .i64 0) := J_6.cell 1
      have xc2 : (w_5.alloc (.cells #[.int .i64 0, .int .i64 0, .slice none 0 0] 54)).cell? ⟨w_3.heap.size, 2, none⟩ = some (.slice none 0 0) := J_6.cell 2
      have yc0 : (w_5.alloc (.cells #[.int .i64 0, .int .i64 0, .slice none 0 0] 54)).cell? ⟨w_5.heap.size, 0, none⟩ = some (.int .i64 0) := WtA.cell 0
      have yc1 : (w_5.alloc (.cells #[.int .i64 0, .int .i64 0, .slice none 0 0] 54)).cell? ⟨w_5.heap.size, 1, none⟩ = some (.int .i64 0) := WtA.cell 1
      have yc2 : (w_5.alloc (.cells #[.int .i64 0, .int .i64 0, .slice none 0 0] 54)).cell? ⟨w_5.heap.size, 2, none⟩ = some (.slice none 0 0) := WtA.cell 2
      go_wp2_with fail
      refine (sameE_any 0 0 none none 0 0 0 (fun _ => 0) (fun _ _ => ⟨0, 0, 0, 0, false, 0⟩) _ rdt_none rdt_none (by omega) (fun i hi => by omega)).mono ?_
      rintro e w_7 ⟨rfl, hb_7⟩
      have hw_7 := hw_6.trans (hb_7.mono hw_6.size)
      have r1_7 := r1_6.to hb_7 hb_7.size
      have r2_7 := r2_6.to hb_7 hb_7.size
      have B_7 := (B_6.keep fun _ hp => hb_7.cell hp).more hb_7.size
      have E1_7 := E1_6.on hb_7
      have E2_7 := E2_6.on hb_7
      have J_7 := J_6.on hb_7
      have Wt_7 := WtA.on hb_7
      clear hw_6 r1_6 r2_6 B_6 E1_6 E2_6 J_6 WtA
      clear hb_7
      clear xc0 xc1 xc2 yc0 yc1 yc2
      have xc0 : w_7.cell? ⟨w_3.heap.size, 0, none⟩ = some (.int .i64 0) := J_7.cell 0
      have xc1 : w_7.cell? ⟨w_3.heap.size, 1, none⟩ = some (.int .i64 0) := J_7.cell 1
      have xc2 : w_7.cell? ⟨w_3.heap.size, 2, none⟩ = some (.slice none 0 0) := J_7.cell 2
      have yc0 : w_7.cell? ⟨w_5.heap.size, 0, none⟩ = some (.int .i64 0) := Wt_7.cell 0
      have yc1 : w_7.cell? ⟨w_5.heap.size, 1, none⟩ = some (.int .i64 0) := Wt_7.cell 1
      have yc2 : w_7.cell? ⟨w_5.heap.size, 2, none⟩ = some (.slice none 0 0) := Wt_7.cell 2
      go_wp2_with fail
      refine (sameE_any 0 0 none none 0 0 0 (fun _ => 0) (fun _ _ => ⟨0, 0, 0, 0, false, 0⟩) _ rdt_none rdt_none (by omega) (fun i hi => by omega)).mono ?_
      rintro e w_8 ⟨rfl, hb_8⟩
      have hw_8 := hw_7.trans (hb_8.mono hw_7.size)
      have r1_8 := r1_7.to hb_8 hb_8.size
      have r2_8 := r2_7.to hb_8 hb_8.size
      have B_8 := (B_7.keep fun _ hp => hb_8.cell hp).more hb_8.size
      have E1_8 := E1_7.on hb_8
      have E2_8 := E2_7.on hb_8
      have J_8 := J_7.on hb_8
      have Wt_8 := Wt_7.on hb_8
      clear hw_7 r1_7 r2_7 B_7 E1_7 E2_7 J_7 Wt_7
      clear hb_8
      clear xc0 xc1 xc2 yc0 yc1 yc2
      go_wp2_with fail
      go_ret
      exact ⟨rfl, hw_8⟩
    | true =>
      obtain ⟨hy1, hy2, hfe, hy3⟩ := joinB_parts HY.out
      have HYT := hid (joinB_turn HY.out)
      obtain ⟨⟨hf1, hf6⟩, qb1, _, qt1⟩ := ensB_iff.1 hy1
      obtain ⟨_, qb2, _, qt2⟩ := ensB_iff.1 hy2
      obtain ⟨_, qb3, qn3, qt3⟩ := ensB_iff.1 hy3
      have bS1 := fun z => sumT_bound (p := scF g1 z) (n := k1) (fun i hi => lvv_bound z (qt1 i hi)) k1 (Nat.le_refl k1)
      have bS2 := fun z => sumT_bound (p := scF g2 z) (n := k2) (fun i hi => lvv_bound z (qt2 i hi)) k2 (Nat.le_refl k2)
      have BS1 := hid bS1
      have BS2 := hid bS2
      have hlJ : Hid (∀ i, i < k1 + k2 → catN k1 len1 len2 i ≤ 4194304) := fun i hi => by by_cases e : i < k1; (rw [catN_left e]; exact hl1'.out i e); (rw [catN_right e]; exact hl2'.out _ (by omega))
      have hlK : Hid (∀ i, i < k2 + k1 → catN k2 len2 len1 i ≤ 4194304) := fun i hi => by by_cases e : i < k2; (rw [catN_left e]; exact hl2'.out i e); (rw [catN_right e]; exact hl1'.out _ (by omega))
      have HE1b := hid hy1
      have HE2b := hid hy2
      have HE3 := hid hy3
      have hy4 := (joinB_parts HYT.out).2.2.2
      have HE4 := hid hy4
      have HFE := hid hfe
      have hkk : k1 + k2 ≤ 4194304 := by omega
      have hkk' : k2 + k1 ≤ 4194304 := by omega
      clear hy1 hy2 hy3 hy4 qt1 qt2 qt3 bS1 bS2 hfe
      have xc0 : ((w1.alloc (.cells #[.int .i64 f1, .int .i64 b1, .slice A1 k1 c1] 54)).alloc (.cells #[.int .i64 f2, .int .i64 b2, .slice A2 k2 c2] 54)).cell? ⟨w1.heap.size, 0, none⟩ = some (.int .i64 f1) := E1_2.cell 0
      have xc1 : ((w1.alloc (.cells #[.int .i64 f1, .int .i64 b1, .slice A1 k1 c1] 54)).alloc (.cells #[.int .i64 f2, .int .i64 b2, .slice A2 k2 c2] 54)).cell? ⟨w1.heap.size, 1, none⟩ = some (.int .i64 b1) := E1_2.cell 1
      have xc2 : ((w1.alloc (.cells #[.int .i64 f1, .int .i64 b1, .slice A1 k1 c1] 54)).alloc (.cells #[.int .i64 f2, .int .i64 b2, .slice A2 k2 c2] 54)).cell? ⟨w1.heap.size, 2, none⟩ = some (.slice A1 k1 c1) := E1_2.cell 2
      have yc0 : ((w1.alloc (.cells #[.int .i64 f1, .int .i64 b1, .slice A1 k1 c1] 54)).alloc (.cells #[.int .i64 f2, .int .i64 b2, .slice A2 k2 c2] 54)).cell? ⟨(w1.heap.size + 1), 0, none⟩ = some (.int .i64 f2) := E2A.cell 0
      have yc1 : ((w1.alloc (.cells #[.int .i64 f1, .int .i64 b1, .slice A1 k1 c1] 54)).alloc (.cells #[.int .i64 f2, .int .i64 b2, .slice A2 k2 c2] 54)).cell? ⟨(w1.heap.size + 1), 1, none⟩ = some (.int .i64 b2) := E2A.cell 1
      have yc2 : ((w1.alloc (.cells #[.int .i64 f1, .int .i64 b1, .slice A1 k1 c1] 54)).alloc (.cells #[.int .i64 f2, .int .i64 b2, .slice A2 k2 c2] 54)).cell? ⟨(w1.heap.size + 1), 2, none⟩ = some (.slice A2 k2 c2) := E2A.cell 2
      go_wp2_with fail
      refine (iJoin_any f1 f2 b1 b2 A1 A2 k1 k2 c1 c2 len1 len2 g1 g2 _ r1_2 r2_2 hk1' hk2' hl1' hl2').mono ?_
      rw [HY.out]
      rintro e w_3 ⟨jA1, jc1, jb1, jp1, rfl, jo1, jt1, hb_3⟩
      have hw_3 := hw_2.trans (hb_3.mono hw_2.size)
      have r1_3 := r1_2.to hb_3 hb_3.size
      have r2_3 := r2_2.to hb_3 hb_3.size
      have B_3 := (B_2.keep fun _ hp => hb_3.cell hp).more hb_3.size
      have E1_3 := E1_2.on hb_3
      have E2_3 := E2A.on hb_3
      clear hw_2 r1_2 r2_2 B_2 E1_2 E2A
      clear hb_3
      have rj1 := rdT_J jo1 jt1
      clear jo1 jt1
      clear xc0 xc1 xc2 yc0 yc1 yc2
      have hbA_4 := (Below.refl w_3.heap.size w_3).alloc (Nat.le_refl _) (.cells #[.int .i64 f1, .int .i64 (b1 + b2), .slice jA1 (k1 + k2) jc1] 54)
      have JA := Blk.new w_3 54 #[.int .i64 f1, .int .i64 (b1 + b2), .slice jA1 (k1 + k2) jc1]
      have hw_4 := hw_3.trans (hbA_4.mono hw_3.size)
      have r1_4 := r1_3.to hbA_4 hbA_4.size
      have r2_4 := r2_3.to hbA_4 hbA_4.size
      have B_4 := (B_3.keep fun _ hp => hbA_4.cell hp).more hbA_4.size
      have E1_4 := E1_3.on hbA_4
      have E2_4 := E2_3.on hbA_4
      have rj1_4 := rj1.to hbA_4 hbA_4.size
      clear hw_3 r1_3 r2_3 B_3 E1_3 E2_3 rj1
      clear hbA_4
      have xc0 : (w_3.alloc (.cells #[.int .i64 f1, .int .i64 (b1 + b2), .slice jA1 (k1 + k2) jc1] 54)).cell? ⟨w1.heap.size, 0, none⟩ = some (.int .i64 f1) := E1_4.cell 0
      have xc1 : (w_3.alloc (.cells #[.int .i64 f1, .int .i64 (b1 + b2), .slice jA1 (k1 + k2) jc1] 54)).cell? ⟨w1.heap.size, 1, none⟩ = some (.int .i64 b1) := E1_4.cell 1
      have xc2 : (w_3.alloc (.cells #[.int .i64 f1, .int .i64 (b1 + b2), .slice jA1 (k1 + k2) jc1] 54)).cell? ⟨w1.heap.size, 2, none⟩ = some (.slice A1 k1 c1) := E1_4.cell 2
      have yc0 : (w_3.alloc (.cells #[.int .i64 f1, .int .i64 (b1 + b2), .slice jA1 (k1 + k2) jc1] 54)).cell? ⟨(w1.heap.size + 1), 0, none⟩ = some (.int .i64 f2) := E2_4.cell 0
      have yc1 : (w_3.alloc (.cells #[.int .i64 f1, .int .i64 (b1 + b2), .slice jA1 (k1 + k2) jc1] 54)).cell? ⟨(w1.heap.size + 1), 1, none⟩ = some (.int .i64 b2) := E2_4.cell 1
      have yc2 : (w_3.alloc (.cells #[.int .i64 f1, .int .i64 (b1 + b2), .slice jA1 (k1 + k2) jc1] 54)).cell? ⟨(w1.heap.size + 1), 2, none⟩ = some (.slice A2 k2 c2) := E2_4.cell 2
      go_wp2_with fail
      refine (sJoin_any f1 f2 b1 b2 A1 A2 k1 k2 c1 c2 len1 len2 g1 g2 _ r1_4 r2_4 hk1' hk2' hl1' hl2').mono ?_
      rw [HY.out]
      rintro e w_5 ⟨jA2, jc2, jb2, jp2, rfl, jo2, jt2, hb_5⟩
      have hw_5 := hw_4.trans (hb_5.mono hw_4.size)
      have r1_5 := r1_4.to hb_5 hb_5.size
      have r2_5 := r2_4.to hb_5 hb_5.size
      have B_5 := (B_4.keep fun _ hp => hb_5.cell hp).more hb_5.size
      have E1_5 := E1_4.on hb_5
      have E2_5 := E2_4.on hb_5
      have rj1_5 := rj1_4.to hb_5 hb_5.size
      have J_5 := JA.on hb_5
      clear hw_4 r1_4 r2_4 B_4 E1_4 E2_4 rj1_4 JA
      clear hb_5
      have rj2 := rdT_J jo2 jt2
      clear jo2 jt2
      clear xc0 xc1 xc2 yc0 yc1 yc2
      have hbA_6 := (Below.refl w_5.heap.size w_5).alloc (Nat.le_refl _) (.cells #[.int .i64 f1, .int .i64 (b1 + b2), .slice jA2 (k1 + k2) jc2] 54)
      have WtA := Blk.new w_5 54 #[.int .i64 f1, .int .i64 (b1 + b2), .slice jA2 (k1 + k2) jc2]
      have hw_6 := hw_5.trans (hbA_6.mono hw_5.size)
      have r1_6 := r1_5.to hbA_6 hbA_6.size
      have r2_6 := r2_5.to hbA_6 hbA_6.size
      have B_6 := (B_5.keep fun _ hp => hbA_6.cell hp).more hbA_6.size
      have E1_6 := E1_5.on hbA_6
      have E2_6 := E2_5.on hbA_6
      have rj1_6 := rj1_5.to hbA_6 hbA_6.size
      have J_6 := J_5.on hbA_6
      have rj2_6 := rj2.to hbA_6 hbA_6.size
      clear hw_5 r1_5 r2_5 B_5 E1_5 E2_5 rj1_5 J_5 rj2
      clear hbA_6
      have xc0 : (w_5.alloc (.cells #[.int .i64 f1, .int .i64 (b1 + b2), .slice jA2 (k1 + k2) jc2] 54)).cell? ⟨w_3.heap.size, 0, none⟩ = some (.int .i64 f1) := J_6.cell 0
      have xc1 : (w_5.alloc (.cells #[.int .i64 f1, .int .i64 (b1 + b2), .slice jA2 (k1 + k2) jc2] 54)).cell? ⟨w_3.heap.size, 1, none⟩ = some (.int .i64 (b1 + b2)) := J_6.cell 1
      have xc2 : (w_5.alloc (.cells #[.int .i64 f1, .int .i64 (b1 + b2), .slice jA2 (k1 + k2) jc2] 54)).cell? ⟨w_3.heap.size, 2, none⟩ = some (.slice jA1 (k1 + k2) jc1) := J_6.cell 2
      have yc0 : (w_5.alloc (.cells #[.int .i64 f1, .int .i64 (b1 + b2), .slice jA2 (k1 + k2) jc2] 54)).cell? ⟨w_5.heap.size, 0, none⟩ = some (.int .i64 f1) := WtA.cell 0
      have yc1 : (w_5.alloc (.cells #[.int .i64 f1, .int .i64 (b1 + b2), .slice jA2 (k1 + k2) jc2] 54)).cell? ⟨w_5.heap.size, 1, none⟩ = some (.int .i64 (b1 + b2)) := WtA.cell 1
      have yc2 : (w_5.alloc (.cells #[.int .i64 f1, .int .i64 (b1 + b2), .slice jA2 (k1 + k2) jc2] 54)).cell? ⟨w_5.heap.size, 2, none⟩ = some (.slice jA2 (k1 + k2) jc2) := WtA.cell 2
      go_wp2_with fail
      refine (sameE_any f1 (b1 + b2) jA1 jA2 (k1 + k2) jc1 jc2 _ _ _ rj1_6 rj2_6 hkk hlJ).mono ?_
      rintro e w_7 ⟨rfl, hb_7⟩
      have hw_7 := hw_6.trans (hb_7.mono hw_6.size)
      have r1_7 := r1_6.to hb_7 hb_7.size
      have r2_7 := r2_6.to hb_7 hb_7.size
      have B_7 := (B_6.keep fun _ hp => hb_7.cell hp).more hb_7.size
      have E1_7 := E1_6.on hb_7
      have E2_7 := E2_6.on hb_7
      have rj1_7 := rj1_6.to hb_7 hb_7.size
      have J_7 := J_6.on hb_7
      have rj2_7 := rj2_6.to hb_7 hb_7.size
      have Wt_7 := WtA.on hb_7
      clear hw_6 r1_6 r2_6 B_6 E1_6 E2_6 rj1_6 J_6 rj2_6 WtA
      clear hb_7
      clear xc0 xc1 xc2 yc0 yc1 yc2
      clear Wt_7
      clear rj2_7
      obtain ⟨F, hF⟩ := Int.eq_ofNat_of_zero_le (show 0 ≤ f1 by omega)
      have hF' : f1 = (F : Int) := hF
      clear hF
      subst hF'
      have hF6 : F ≤ 6 := by omega
      have hF1 : 1 ≤ F := by omega
      have hmk := run_make_row' (P := Try.prog) 28 2 (.int .i64 0) 8 Try.underlying28 info_int rfl .i64 .i64 F (by omega) (by omega)
      have xc0 : w_7.cell? ⟨w1.heap.size, 0, none⟩ = some (.int .i64 F) := E1_7.cell 0
      have xc1 : w_7.cell? ⟨w1.heap.size, 1, none⟩ = some (.int .i64 b1) := E1_7.cell 1
      have xc2 : w_7.cell? ⟨w1.heap.size, 2, none⟩ = some (.slice A1 k1 c1) := E1_7.cell 2
      have hdz : F ≤ (madeCells #[Value.int .i64 0] F).size := by simp [madeCells]
      have hD0 := Blk.new w_7 2 (madeCells #[.int .i64 0] F)
      have hbk0 := (Below.refl w_7.heap.size w_7).alloc (Nat.le_refl _) (.cells (madeCells #[.int .i64 0] F) 2)
      have HE1 := hid E1_7
      clear E1_7
      have HE2 := hid E2_7
      clear E2_7
      have HJ := hid J_7
      clear J_7
      have Hr1 := hid r1_7
      clear r1_7
      have Hr2 := hid r2_7
      clear r2_7
      have Hrj1 := hid rj1_7
      clear rj1_7
      have HB := hid B_7
      clear B_7
      have Hhw := hid hw_7
      clear hw_7
      go_wp2_with fail
      clear xc0 xc1 xc2
      go_loopw [10] (fun i wr => ∃ (k : Nat) (cs : Array Value) (z : Nat → Int), k ≤ F ∧ i = .int .i64 k ∧ Blk wr w_7.heap.size 2 cs ∧ F ≤ cs.size ∧ Hid (∀ j, j < k → cs[j]? = some (.int .i64 (z j)) ∧ may (z j) = true) ∧ Hid (Below w_7.heap.size w_7 wr)) (fun i _ => F - (intOf i).toNat)
      case atStart => exact ⟨0, _, fun _ => 0, Nat.zero_le _, rfl, hD0, hdz, fun j hj => by omega, hbk0⟩
      case round =>
        obtain ⟨k, cs, z, hk, rfl, hD, hsz, hfill, hbl⟩ := hrel
        clear hD0 hbk0 hdz
        by_cases hlt : k < F
        · have hBr : Bs wr wr.heap.size A n := (HB.out.keep fun _ hp => hbl.out.cell hp).more hbl.out.size
          have i1 : (k : Int) < (F : Int) := by omega
          have i2 : (0 : Int) ≤ (k : Int) := by omega
          have s0 : wr.cell? ⟨w_7.heap.size, k, none⟩ = some (cs[k]'(by omega)) := by rw [hD.cell, Array.getElem?_eq_getElem]
          have f0 := hD.frozen k
          have hkz : k < cs.size := by omega
          have HCS := hid hsz
          have hks : k ≤ 5 := by omega
          go_wp2_with fail
          refine (byte_at A n cap k _ hBr hn (by omega)).mono ?_
          rintro e w5 ⟨x, rfl, hx0, hx1, rfl⟩
          obtain ⟨y, hy, hy0, hy24⟩ := rem_some x 24 hx0 (by omega)
          have hv := may_draw hy0 hy24
          have hf1 := fill_next hfill.out hv hkz
          have hD1 := hD.set_ k (.int .i64 (y - 12))
          have hb1 : Below w_7.heap.size w_7 (wr.setCell ⟨w_7.heap.size, k, none⟩ (.int .i64 (y - 12))) := hbl.out.setCell (Nat.le_refl _) _
          have hB5 : Bs (wr.setCell ⟨w_7.heap.size, k, none⟩ (.int .i64 (y - 12))) (wr.setCell ⟨w_7.heap.size, k, none⟩ (.int .i64 (y - 12))).heap.size A n := (HB.out.keep fun _ hp => hb1.cell hp).more hb1.size
          have HF1 := hid hf1
          have HB1 := hid hb1
          have HV := hid hv
          clear hf1 hb1 hv
          have ek : (k : Int) + 1 = ((k + 1 : Nat) : Int) := by omega
          obtain ⟨k1', hk1'e⟩ : ∃ q : Nat, q = k + 1 := ⟨_, rfl⟩
          have ek1 : (k : Int) + 1 = (k1' : Int) := by omega
          have HK1 := hid hk1'e
          have hk1b : k1' ≤ 1000 := by omega
          clear ek hk1'e hBr
          go_wp2_with fail
          refine (byte_at A n cap k1' _ hB5 hn hk1b).mono ?_
          rintro e w6 ⟨x2, rfl, hx20, hx21, rfl⟩
          obtain ⟨y2, hy2, hy20, hy29⟩ := rem_some x2 9 hx20 (by omega)
          have s1 : (wr.setCell ⟨w_7.heap.size, k, none⟩ (.int .i64 (y - 12))).cell? ⟨w_7.heap.size, k, none⟩ = some (.int .i64 (y - 12)) := by rw [hD1.cell, Array.getElem?_setIfInBounds_self_of_lt hkz]
          have f1 := hD1.frozen k
          clear s0 f0
          by_cases hz : y2 = 0
          · have hz' : (y2 == 0) = true := by simpa using hz
            clear hz
            have hD2 := hD1.set_ k (.int .i64 9999999)
            have hf2 := hid (fill_next (k := k) (z := fun j => if j = k then y - 12 else z j) (fun j hj => HF1.out j (by omega)) may_missing (by simpa using hkz))
            have hb2 := hid (HB1.out.setCell (p := ⟨w_7.heap.size, k, none⟩) (Nat.le_refl _) (.int .i64 9999999))
            clear hD hD1 hB5
            go_wp2_with fail
            go_roundw
            case rel => exact ⟨k + 1, _, _, by omega, by have := HK1.out; go_num, hD2, by simpa using HCS.out, hf2, hb2⟩
            case measure => simp [intOf]; omega
          · have hz' : (y2 == 0) = false := by simpa using hz
            clear hz hD hB5
            go_wp2_with fail
            go_roundw
            case rel => exact ⟨k + 1, _, _, by omega, by have := HK1.out; go_num, hD1, by simpa using HCS.out, HF1, HB1⟩
            case measure => simp [intOf]; omega
        · obtain rfl : k = F := by omega
          have hrow : Row wr 2 w_7.heap.size k z := ⟨cs, hD, hsz, fun i hi => (hfill.out i hi).1⟩
          have hdoc : docB k z = true := by unfold docB; rw [allTo_mk fun j hj => (hfill.out j hj).2]; simp; omega
          have HDOC := hid hdoc
          have e1r := HE1.out.on hbl.out
          have e2r := HE2.out.on hbl.out
          have ejr := HJ.out.on hbl.out
          have r1r := Hr1.out.to hbl.out hbl.out.size
          have r2r := Hr2.out.to hbl.out hbl.out.size
          have rjr := Hrj1.out.to hbl.out hbl.out.size
          have hwr := Hhw.out.trans (hbl.out.mono Hhw.out.size)
          have rdr := rd_of hrow
          have kk : k ≤ 4194304 := by omega
          have HF1 : Hid (fitB (k : Int) k z = true) := by show _ = _; unfold fitB; rw [hdoc]; simp
          have HF2 : Hid (fitB f2 k z = true) := by show _ = _; rw [← HFE.out]; exact HF1.out
          have hFZ := HFE.out
          obtain ⟨X, hX⟩ : ∃ X, b1 + sumT (scF g1 z) k1 = X := ⟨_, rfl⟩
          obtain ⟨Yv, hYv⟩ : ∃ X, b2 + sumT (scF g2 z) k2 = X := ⟨_, rfl⟩
          have bX := BS1.out z
          have bY := BS2.out z
          have bX' : -13000000000 ≤ X ∧ X ≤ 13000000000 := by omega
          have bY' : -13000000000 ≤ Yv ∧ Yv ≤ 13000000000 := by omega
          have hJ : b1 + b2 + sumT (scF (catN k1 g1 g2) z) (k1 + k2) = X + Yv := by rw [scF_cat, sumT_cat, ← hX, ← hYv]; omega
          have hK : b2 + b1 + sumT (scF (catN k2 g2 g1) z) (k2 + k1) = X + Yv := by rw [scF_cat, sumT_cat, ← hX, ← hYv]; omega
          have HX := hid hX
          have HYV := hid hYv
          have HJ2 := hid hJ
          have HK2 := hid hK
          clear hX hYv hJ hK bX bY hrow hD hfill hbl hdoc hFZ hsz
          have xc0 : wr.cell? ⟨w1.heap.size, 0, none⟩ = some (.int .i64 k) := e1r.cell 0
          have xc1 : wr.cell? ⟨w1.heap.size, 1, none⟩ = some (.int .i64 b1) := e1r.cell 1
          have xc2 : wr.cell? ⟨w1.heap.size, 2, none⟩ = some (.slice A1 k1 c1) := e1r.cell 2
          go_wp2_with fail
          refine (iFull_yes k b1 A1 k1 c1 len1 g1 (some ⟨w_7.heap.size, 0, none⟩) k k z _ r1r rdr hk1' hl1' kk HE1b.out HF1.out).mono ?_
          rintro e w_58 ⟨rfl, hb_58⟩
          have hw_58 := hwr.trans (hb_58.mono hwr.size)
          have E1_58 := e1r.on hb_58
          have E2_58 := e2r.on hb_58
          have J_58 := ejr.on hb_58
          have r1_58 := r1r.to hb_58 hb_58.size
          have r2_58 := r2r.to hb_58 hb_58.size
          have rj1_58 := rjr.to hb_58 hb_58.size
          have D_58 := rdr.to hb_58 hb_58.size
          clear hwr e1r e2r ejr r1r r2r rjr rdr
          clear hb_58
          rw [HX.out]
          clear xc0 xc1 xc2
          have yc0 : w_58.cell? ⟨(w1.heap.size + 1), 0, none⟩ = some (.int .i64 f2) := E2_58.cell 0
          have yc1 : w_58.cell? ⟨(w1.heap.size + 1), 1, none⟩ = some (.int .i64 b2) := E2_58.cell 1
          have yc2 : w_58.cell? ⟨(w1.heap.size + 1), 2, none⟩ = some (.slice A2 k2 c2) := E2_58.cell 2
          go_wp2_with fail
          refine (iFull_yes f2 b2 A2 k2 c2 len2 g2 (some ⟨w_7.heap.size, 0, none⟩) k k z _ r2_58 D_58 hk2' hl2' kk HE2b.out HF2.out).mono ?_
          rintro e w_59 ⟨rfl, hb_59⟩
          have hw_59 := hw_58.trans (hb_59.mono hw_58.size)
          have E1_59 := E1_58.on hb_59
          have E2_59 := E2_58.on hb_59
          have J_59 := J_58.on hb_59
          have r1_59 := r1_58.to hb_59 hb_59.size
          have r2_59 := r2_58.to hb_59 hb_59.size
          have rj1_59 := rj1_58.to hb_59 hb_59.size
          have D_59 := D_58.to hb_59 hb_59.size
          clear hw_58 E1_58 E2_58 J_58 r1_58 r2_58 rj1_58 D_58
          clear hb_59
          rw [HYV.out]
          clear yc0 yc1 yc2
          have xc0 : w_59.cell? ⟨w_3.heap.size, 0, none⟩ = some (.int .i64 k) := J_59.cell 0
          have xc1 : w_59.cell? ⟨w_3.heap.size, 1, none⟩ = some (.int .i64 (b1 + b2)) := J_59.cell 1
          have xc2 : w_59.cell? ⟨w_3.heap.size, 2, none⟩ = some (.slice jA1 (k1 + k2) jc1) := J_59.cell 2
          go_wp2_with fail
          refine (iFull_yes k (b1 + b2) jA1 (k1 + k2) jc1 _ _ (some ⟨w_7.heap.size, 0, none⟩) k k z _ rj1_59 D_59 hkk hlJ kk HE3.out HF1.out).mono ?_
          rintro e w_60 ⟨rfl, hb_60⟩
          have hw_60 := hw_59.trans (hb_60.mono hw_59.size)
          have E1_60 := E1_59.on hb_60
          have E2_60 := E2_59.on hb_60
          have J_60 := J_59.on hb_60
          have r1_60 := r1_59.to hb_60 hb_60.size
          have r2_60 := r2_59.to hb_60 hb_60.size
          have rj1_60 := rj1_59.to hb_60 hb_60.size
          have D_60 := D_59.to hb_60 hb_60.size
          clear hw_59 E1_59 E2_59 J_59 r1_59 r2_59 rj1_59 D_59
          clear hb_60
          rw [HJ2.out]
          clear xc0 xc1 xc2
          have xc0 : w_60.cell? ⟨w1.heap.size, 0, none⟩ = some (.int .i64 k) := E1_60.cell 0
          have xc1 : w_60.cell? ⟨w1.heap.size, 1, none⟩ = some (.int .i64 b1) := E1_60.cell 1
          have xc2 : w_60.cell? ⟨w1.heap.size, 2, none⟩ = some (.slice A1 k1 c1) := E1_60.cell 2
          have yc0 : w_60.cell? ⟨(w1.heap.size + 1), 0, none⟩ = some (.int .i64 f2) := E2_60.cell 0
          have yc1 : w_60.cell? ⟨(w1.heap.size + 1), 1, none⟩ = some (.int .i64 b2) := E2_60.cell 1
          have yc2 : w_60.cell? ⟨(w1.heap.size + 1), 2, none⟩ = some (.slice A2 k2 c2) := E2_60.cell 2
          go_wp2_with fail
          refine (iJoin_any f2 k b2 b1 A2 A1 k2 k1 c2 c1 len2 len1 g2 g1 _ r2_60 r1_60 hk2' hk1' hl2' hl1').mono ?_
          rw [HYT.out]
          rintro e w_61 ⟨jA3, jc3, jb3, jp3, rfl, jo3, jt3, hb_61⟩
          have hw_61 := hw_60.trans (hb_61.mono hw_60.size)
          have E1_61 := E1_60.on hb_61
          have E2_61 := E2_60.on hb_61
          have J_61 := J_60.on hb_61
          have r1_61 := r1_60.to hb_61 hb_61.size
          have r2_61 := r2_60.to hb_61 hb_61.size
          have rj1_61 := rj1_60.to hb_61 hb_61.size
          have D_61 := D_60.to hb_61 hb_61.size
          clear hw_60 E1_60 E2_60 J_60 r1_60 r2_60 rj1_60 D_60
          clear hb_61
          have rj3 := rdT_J jo3 jt3
          clear jo3 jt3
          clear xc0 xc1 xc2 yc0 yc1 yc2
          have hbA_62 := (Below.refl w_61.heap.size w_61).alloc (Nat.le_refl _) (.cells #[.int .i64 f2, .int .i64 (b2 + b1), .slice jA3 (k2 + k1) jc3] 54)
          have KA := Blk.new w_61 54 #[.int .i64 f2, .int .i64 (b2 + b1), .slice jA3 (k2 + k1) jc3]
          have hw_62 := hw_61.trans (hbA_62.mono hw_61.size)
          have E1_62 := E1_61.on hbA_62
          have E2_62 := E2_61.on hbA_62
          have J_62 := J_61.on hbA_62
          have r1_62 := r1_61.to hbA_62 hbA_62.size
          have r2_62 := r2_61.to hbA_62 hbA_62.size
          have rj1_62 := rj1_61.to hbA_62 hbA_62.size
          have D_62 := D_61.to hbA_62 hbA_62.size
          have rj3_62 := rj3.to hbA_62 hbA_62.size
          clear hw_61 E1_61 E2_61 J_61 r1_61 r2_61 rj1_61 D_61 rj3
          clear hbA_62
          have xc0 : (w_61.alloc (.cells #[.int .i64 f2, .int .i64 (b2 + b1), .slice jA3 (k2 + k1) jc3] 54)).cell? ⟨w_61.heap.size, 0, none⟩ = some (.int .i64 f2) := KA.cell 0
          have xc1 : (w_61.alloc (.cells #[.int .i64 f2, .int .i64 (b2 + b1), .slice jA3 (k2 + k1) jc3] 54)).cell? ⟨w_61.heap.size, 1, none⟩ = some (.int .i64 (b2 + b1)) := KA.cell 1
          have xc2 : (w_61.alloc (.cells #[.int .i64 f2, .int .i64 (b2 + b1), .slice jA3 (k2 + k1) jc3] 54)).cell? ⟨w_61.heap.size, 2, none⟩ = some (.slice jA3 (k2 + k1) jc3) := KA.cell 2
          go_wp2_with fail
          refine (iFull_yes f2 (b2 + b1) jA3 (k2 + k1) jc3 _ _ (some ⟨w_7.heap.size, 0, none⟩) k k z _ rj3_62 D_62 hkk' hlK kk HE4.out HF2.out).mono ?_
          rintro e w_63 ⟨rfl, hb_63⟩
          have hw_63 := hw_62.trans (hb_63.mono hw_62.size)
          have E1_63 := E1_62.on hb_63
          have E2_63 := E2_62.on hb_63
          have J_63 := J_62.on hb_63
          have r1_63 := r1_62.to hb_63 hb_63.size
          have r2_63 := r2_62.to hb_63 hb_63.size
          have rj1_63 := rj1_62.to hb_63 hb_63.size
          have D_63 := D_62.to hb_63 hb_63.size
          have rj3_63 := rj3_62.to hb_63 hb_63.size
          have K_63 := KA.on hb_63
          clear hw_62 E1_62 E2_62 J_62 r1_62 r2_62 rj1_62 D_62 rj3_62 KA
          clear hb_63
          rw [HK2.out]
          clear xc0 xc1 xc2
          have xc0 : w_63.cell? ⟨w_3.heap.size, 0, none⟩ = some (.int .i64 k) := J_63.cell 0
          have xc1 : w_63.cell? ⟨w_3.heap.size, 1, none⟩ = some (.int .i64 (b1 + b2)) := J_63.cell 1
          have xc2 : w_63.cell? ⟨w_3.heap.size, 2, none⟩ = some (.slice jA1 (k1 + k2) jc1) := J_63.cell 2
          have hb0 := bX'.1
          have hb9 := bX'.2
          have hc0 := bY'.1
          have hc9 := bY'.2
          go_wp2_with fail
          refine (iEnsOk_any k (b1 + b2) jA1 (k1 + k2) jc1 _ _ _ rj1_63 hkk hlJ).mono ?_
          rintro e w_64 ⟨rfl, hb_64⟩
          have hw_64 := hw_63.trans (hb_64.mono hw_63.size)
          have E1_64 := E1_63.on hb_64
          have E2_64 := E2_63.on hb_64
          have J_64 := J_63.on hb_64
          have r1_64 := r1_63.to hb_64 hb_64.size
          have r2_64 := r2_63.to hb_64 hb_64.size
          have rj1_64 := rj1_63.to hb_64 hb_64.size
          have D_64 := D_63.to hb_64 hb_64.size
          have rj3_64 := rj3_63.to hb_64 hb_64.size
          have K_64 := K_63.on hb_64
          clear hw_63 E1_63 E2_63 J_63 r1_63 r2_63 rj1_63 D_63 rj3_63 K_63
          clear hb_64
          rw [HE3.out]
          clear xc0 xc1 xc2
          go_wp2_with fail
          go_ret
          exact ⟨by simp, hw_64⟩
end Go.Proofs.Ytnhbgagdppbldaa
