/- Ensembles read, of the other side; texts parted. -/
import Derived.Test.YtmkipdhappikhaaGreatDoorRdW
import Derived.Test.YtmkipdhappikhaaGreatDoorTxV
import Derived.Test.YtmkipdhappikhaaGreatDoorRdV
import Derived.Test.YtmkipdhappikhaaGreatDoorRtX
import Derived.Deep.AppendLies
import Derived.Lib.IndexMore
namespace Go.Proofs.YtmkipdhappikhaaGreatDoor

/-! ### ReA -/
section
set_option linter.unusedVariables false
set_option linter.unusedSimpArgs false
open Go.RowKit Go.Deep

theorem allW_mid {c : UInt8} : ∀ (k : Nat) (s t : ByteArray), s.size ≤ k → allW c (s ++ one1 c ++ t) = allW c s ++ allW c t := by
  intro k
  induction k with
  | zero =>
    intro s t hs
    have h : NoC c s := by
      unfold NoC
      have : s.data.toList = [] := List.eq_nil_of_length_eq_zero (by have := size_len s; omega)
      rw [this]
      exact List.not_mem_nil
    rw [allW_at h, allW_no h]
    rfl
  | succ k ih =>
    intro s t hs
    rcases part_or c s with h | ⟨a, r, rfl, h⟩
    · rw [allW_at h, allW_no h]
      rfl
    · have e := size_app3 a r c
      rw [show a ++ one1 c ++ r ++ one1 c ++ t = a ++ one1 c ++ (r ++ one1 c ++ t) by simp only [ByteArray.append_assoc], allW_at h, allW_at h, ih r t (by omega)]
      rfl
def barT : ByteArray := ⟨#[124]⟩
theorem sepE_is : sepE = one1 32 ++ barT ++ one1 32 := by decide
theorem allW_bar (s t : ByteArray) : allW 32 (s ++ sepE ++ t) = allW 32 s ++ barT :: allW 32 t := by
  have hb : NoC 32 barT := by unfold NoC; decide
  rw [sepE_is, show s ++ (one1 32 ++ barT ++ one1 32) ++ t = s ++ one1 32 ++ (barT ++ one1 32 ++ t) by simp only [ByteArray.append_assoc], allW_mid _ _ _ (Nat.le_refl _), allW_at hb]
/-- The nodes' texts of a tree. -/
def ndsT (n : Nat) (g : Nat → Nd) : List ByteArray := (List.range n).map fun i => ndS (g i)
theorem allW_nt {n : Nat} {g : Nat → Nd} (h : treeB g n 6 = true) : allW 32 (ntS n g) = ndsT n g := by
  rw [← treS_yes h]
  exact allW_tree h
theorem ndS_bar (d : Nd) : ndS d ≠ barT := by
  intro h
  have h2 := congrArg (fun s : ByteArray => s.data.toList.head?) h
  unfold ndS at h2
  split at h2
  · simp [barT] at h2
  · simp [barT] at h2
theorem bar_not (n : Nat) (g : Nat → Nd) : barT ∉ ndsT n g := by
  unfold ndsT
  intro h
  obtain ⟨i, _, e⟩ := List.mem_map.1 h
  exact ndS_bar _ e
/-- All the trees' words. -/
def treesT (len : Nat → Nat) (g : Nat → Nat → Nd) (n : Nat) : List ByteArray := (List.range n).flatMap fun i => barT :: ndsT (len i) (g i)
theorem treesT_succ (len : Nat → Nat) (g : Nat → Nat → Nd) (n : Nat) : treesT len g (n + 1) = treesT len g n ++ barT :: ndsT (len n) (g n) := by
  unfold treesT
  rw [List.range_succ, List.flatMap_append]
  simp
theorem words_ent {f b : Int} {len : Nat → Nat} {g : Nat → Nat → Nd} : ∀ (n : Nat), (∀ i, i < n → treeB (g i) (len i) 6 = true) → allW 32 (entS f b n len g) = decS f :: decS b :: treesT len g n
  | 0, _ => by
    show allW 32 (joinTo (entP f b len g) sepE (0 + 1)) = _
    rw [ent_zero, show (⟨#[32]⟩ : ByteArray) = one1 32 from rfl, allW_at (decS_noC _ (.inl (by decide))), allW_no (decS_noC _ (.inl (by decide)))]
    rfl
  | n + 1, h => by
    have ih := words_ent (f := f) (b := b) n (fun i hi => h i (by omega))
    show allW 32 (joinTo (entP f b len g) sepE (n + 1 + 1)) = _
    rw [ent_next, allW_bar, show allW 32 (joinTo (entP f b len g) sepE (n + 1)) = _ from ih, allW_nt (h n (by omega)), treesT_succ]
    rfl
theorem words_ens {f b : Int} {n : Nat} {len : Nat → Nat} {g : Nat → Nat → Nd} (h : ensB f b n len g = true) : allW 32 (ensS f b n len g) = decS f :: decS b :: treesT len g n := by
  unfold ensS
  rw [if_pos h]
  exact words_ent n (ens_in h).2.2.2
/-! ### the trees of the words -/
theorem bar_part {α : Type} [DecidableEq α] {x : α} : ∀ (l l' r r' : List α), x ∉ l → x ∉ l' → (r = [] ∨ ∃ t, r = x :: t) → (r' = [] ∨ ∃ t, r' = x :: t) → l ++ r = l' ++ r' → l = l' ∧ r = r'
  | [], [], _, _, _, _, _, _, h => ⟨rfl, h⟩
  | [], a :: l', r, r', _, h2, h3, _, h => by
    rcases h3 with rfl | ⟨t, rfl⟩
    · cases h
    · injection h with e _
      exact absurd (e ▸ List.mem_cons_self) h2
  | a :: l, [], r, r', h1, _, _, h4, h => by
    rcases h4 with rfl | ⟨t, rfl⟩
    · cases h
    · injection h with e _
      exact absurd (e ▸ List.mem_cons_self) h1
  | a :: l, a' :: l', r, r', h1, h2, h3, h4, h => by
    injection h with e h
    subst e
    obtain ⟨e1, e2⟩ := bar_part l l' r r' (fun h => h1 (List.mem_cons_of_mem _ h)) (fun h => h2 (List.mem_cons_of_mem _ h)) h3 h4 h
    exact ⟨by rw [e1], e2⟩
def barsT (M : List (List ByteArray)) : List ByteArray := M.flatMap fun l => barT :: l
theorem bars_form (M : List (List ByteArray)) : barsT M = [] ∨ ∃ t, barsT M = barT :: t := by
  cases M with
  | nil => exact .inl rfl
  | cons l M => exact .inr ⟨l ++ barsT M, rfl⟩
theorem bars_inj : ∀ (M M' : List (List ByteArray)), (∀ l ∈ M, barT ∉ l) → (∀ l ∈ M', barT ∉ l) → barsT M = barsT M' → M = M'
  | [], [], _, _, _ => rfl
  | [], l :: M', _, _, h => by cases h
  | l :: M, [], _, _, h => by cases h
  | l :: M, l' :: M', h1, h2, h => by
    have h' : l ++ barsT M = l' ++ barsT M' := List.cons.inj h |>.2
    obtain ⟨e1, e2⟩ := bar_part l l' _ _ (h1 l List.mem_cons_self) (h2 l' List.mem_cons_self) (bars_form M) (bars_form M') h'
    rw [e1, bars_inj M M' (fun x hx => h1 x (List.mem_cons_of_mem _ hx)) (fun x hx => h2 x (List.mem_cons_of_mem _ hx)) e2]
theorem trees_bars (len : Nat → Nat) (g : Nat → Nat → Nd) (n : Nat) : treesT len g n = barsT ((List.range n).map fun i => ndsT (len i) (g i)) := by
  unfold treesT barsT
  rw [List.flatMap_map]
theorem nds_inj {n m : Nat} {g y : Nat → Nd} (hg : treeB g n 6 = true) (hy : treeB y m 6 = true) (e : ndsT n g = ndsT m y) : m = n ∧ ∀ i, i < n → y i = g i := by
  have hl : m = n := by have := congrArg List.length e; simpa [ndsT] using this.symm
  subst hl
  refine ⟨rfl, fun i hi => ?_⟩
  have h2 := congrArg (fun l => l[i]?) e
  simp only [ndsT, List.getElem?_map, List.getElem?_range hi] at h2
  exact ndS_inj (tree_in hy i hi) (tree_in hg i hi) (node_good (((treeB_iff y m 6).1 hy).2.2 i hi).1) (node_good (((treeB_iff g m 6).1 hg).2.2 i hi).1) (Option.some.inj h2).symm
/-- Two good ensembles with one text are one. -/
theorem ens_inj {f b f' b' : Int} {n n' : Nat} {len len' : Nat → Nat} {g g' : Nat → Nat → Nd} (h : ensB f b n len g = true) (h' : ensB f' b' n' len' g' = true) (e : ensS f b n len g = ensS f' b' n' len' g') :
    f' = f ∧ b' = b ∧ n' = n ∧ ∀ i, i < n → len' i = len i ∧ ∀ j, j < len i → g' i j = g i j := by
  have h1 := words_ens h
  rw [e, words_ens h'] at h1
  injection h1 with e1 h1
  injection h1 with e2 h1
  rw [trees_bars, trees_bars] at h1
  have h2 := bars_inj _ _ (fun l hl => by obtain ⟨i, _, rfl⟩ := List.mem_map.1 hl; exact bar_not _ _) (fun l hl => by obtain ⟨i, _, rfl⟩ := List.mem_map.1 hl; exact bar_not _ _) h1
  have hl : n' = n := by have := congrArg List.length h2; simpa using this
  subst hl
  refine ⟨decS_inj (ens_in h').1 (ens_in h).1 e1, decS_inj (ens_in h').2.1 (ens_in h).2.1 e2, rfl, fun i hi => ?_⟩
  have h3 := congrArg (fun l => l[i]?) h2
  simp only [List.getElem?_map, List.getElem?_range hi, Option.map_some] at h3
  exact nds_inj ((ens_in h).2.2.2 i hi) ((ens_in h').2.2.2 i hi) (Option.some.inj h3).symm
end

/-! ### ReB -/
section
set_option linter.unusedVariables false
set_option linter.unusedSimpArgs false
open Go.RowKit Go.Deep

/-- The trees' words that are gathered out of the words from the i-th on. -/
def runE (n : Nat) : List ByteArray → Nat → List (List ByteArray) → List ByteArray → List (List ByteArray)
  | [], _, M, _ => M
  | x :: r, i, M, cur => if (x = barT ∨ i + 1 = n) ∧ 2 < i then runE n r (i + 1) (M ++ [if x = barT then cur else cur ++ [x]]) [] else runE n r (i + 1) M (if x = barT then cur else cur ++ [x])
theorem run_bar {n i : Nat} {r : List ByteArray} {M : List (List ByteArray)} {cur : List ByteArray} (hi : 2 < i) : runE n (barT :: r) i M cur = runE n r (i + 1) (M ++ [cur]) [] := by
  rw [runE, if_pos ⟨.inl rfl, hi⟩, if_pos rfl]
theorem run_bar2 {n : Nat} {r : List ByteArray} {M : List (List ByteArray)} {cur : List ByteArray} : runE n (barT :: r) 2 M cur = runE n r 3 M cur := by
  rw [runE, if_neg (by omega), if_pos rfl]
theorem run_word {n i : Nat} {x : ByteArray} {r : List ByteArray} {M : List (List ByteArray)} {cur : List ByteArray} (hx : x ≠ barT) (hi : i + 1 ≠ n) : runE n (x :: r) i M cur = runE n r (i + 1) M (cur ++ [x]) := by
  rw [runE, if_neg (fun h => by rcases h.1 with h | h; exact hx h; exact hi h), if_neg hx]
theorem run_end {n i : Nat} {x : ByteArray} {M : List (List ByteArray)} {cur : List ByteArray} (hx : x ≠ barT) (hi : i + 1 = n) (h2 : 2 < i) : runE n [x] i M cur = M ++ [cur ++ [x]] := by
  rw [runE, if_pos ⟨.inr hi, h2⟩, if_neg hx, runE]
theorem run_words {n : Nat} : ∀ (l r : List ByteArray) (i : Nat) (M : List (List ByteArray)) (cur : List ByteArray), barT ∉ l → i + l.length < n → runE n (l ++ r) i M cur = runE n r (i + l.length) M (cur ++ l)
  | [], r, i, M, cur, _, _ => by rw [List.append_nil]; rfl
  | x :: l, r, i, M, cur, hb, hi => by
    have hl : (x :: l).length = l.length + 1 := rfl
    rw [List.cons_append, run_word (fun e => hb (e ▸ List.mem_cons_self)) (by omega), run_words l r (i + 1) M (cur ++ [x]) (fun h => hb (List.mem_cons_of_mem _ h)) (by omega), hl, List.append_assoc, show i + 1 + l.length = i + (l.length + 1) by omega]
    rfl
theorem run_last {n : Nat} : ∀ (l : List ByteArray) (i : Nat) (M : List (List ByteArray)) (cur : List ByteArray), barT ∉ l → l ≠ [] → i + l.length = n → 2 < i → runE n l i M cur = M ++ [cur ++ l]
  | [], _, _, _, _, h, _, _ => absurd rfl h
  | [x], i, M, cur, hb, _, hi, h2 => run_end (fun e => hb (e ▸ List.mem_cons_self)) hi h2
  | x :: y :: l, i, M, cur, hb, _, hi, h2 => by
    have hl : (x :: y :: l).length = l.length + 2 := rfl
    have hl2 : (y :: l).length = l.length + 1 := rfl
    rw [run_word (fun e => hb (e ▸ List.mem_cons_self)) (by omega), run_last (y :: l) (i + 1) M (cur ++ [x]) (fun h => hb (List.mem_cons_of_mem _ h)) (List.cons_ne_nil _ _) (by omega) (by omega), List.append_assoc]
    rfl
theorem run_trees {n : Nat} : ∀ (Ms : List (List ByteArray)) (l : List ByteArray) (i : Nat) (M : List (List ByteArray)), (∀ x ∈ l :: Ms, barT ∉ x ∧ x ≠ []) → i + (l ++ barsT Ms).length = n → 2 < i → runE n (l ++ barsT Ms) i M [] = M ++ l :: Ms
  | [], l, i, M, h, hi, h2 => by
    have hl := h l List.mem_cons_self
    rw [show barsT [] = [] from rfl, List.append_nil] at hi ⊢
    rw [run_last l i M [] hl.1 hl.2 hi h2]
    rfl
  | k :: Ms, l, i, M, h, hi, h2 => by
    have hl := h l List.mem_cons_self
    have e : barsT (k :: Ms) = barT :: (k ++ barsT Ms) := rfl
    rw [e] at hi ⊢
    have hlen : (l ++ barT :: (k ++ barsT Ms)).length = l.length + (k ++ barsT Ms).length + 1 := by simp; omega
    rw [run_words l _ i M [] hl.1 (by omega), run_bar (by omega), List.nil_append, run_trees Ms k (i + l.length + 1) (M ++ [l]) (fun x hx => h x (List.mem_cons_of_mem _ hx)) (by omega) (by omega), List.append_assoc]
    rfl
/-- Out of the words of trees the trees come. -/
theorem run_all (Ms : List (List ByteArray)) (h : ∀ x ∈ Ms, barT ∉ x ∧ x ≠ []) : runE (2 + (barsT Ms).length) (barsT Ms) 2 [] [] = Ms := by
  cases Ms with
  | nil => rfl
  | cons l Ms =>
    have e : barsT (l :: Ms) = barT :: (l ++ barsT Ms) := rfl
    rw [e, run_bar2, run_trees Ms l 3 [] h (by simp; omega) (by omega)]
    rfl
/-- What is gathered out of a good ensemble's text. -/
theorem run_ens {f b : Int} {n : Nat} {len : Nat → Nat} {g : Nat → Nat → Nd} (h : ensB f b n len g = true) :
    allW 32 (ensS f b n len g) = decS f :: decS b :: treesT len g n ∧ runE (2 + (treesT len g n).length) (treesT len g n) 2 [] [] = (List.range n).map fun i => ndsT (len i) (g i) := by
  refine ⟨words_ens h, ?_⟩
  rw [trees_bars]
  refine run_all _ fun x hx => ?_
  obtain ⟨i, hi, rfl⟩ := List.mem_map.1 hx
  have ht := (ens_in h).2.2.2 i (List.mem_range.1 hi)
  have hn := ((treeB_iff (g i) (len i) 6).1 ht).2.1
  refine ⟨bar_not _ _, fun e => ?_⟩
  have := congrArg List.length e
  simp [ndsT] at this
  omega
end

/-! ### ReC -/
section
set_option linter.unusedVariables false
set_option linter.unusedSimpArgs false
open Go.RowKit Go.Deep

theorem own_setE {w : World} {q o B : Nat} {e : TypeId} {size : Nat} {v : Value} {m : Nat} {xs : List Value} (h : w.ownsRow B e size v m xs) (hq : q < B) (u : Value) : (w.setCell ⟨q, o, none⟩ u).ownsRow B e size v m xs := by
  refine h.kept (row := some q) ⟨rfl, rfl, rfl, by simp [World.setCell], fun k _ hk => Below.heap_setCell _ _ _ k (fun e => hk (by rw [e]))⟩ ?_
  cases hv : v.ownBlock with
  | none => exact .inl rfl
  | some k => right; have := (h.lt k hv).1; simp; omega
/-- What has been gathered. -/
structure GE (w0 : World) (eb : Nat) (f b : Int) (At : Option Addr) (ct : Nat) (hd : Nat → Value) (Ls : List (List Nd)) (cv : Value) (cur : List Nd) (As : Option Addr) (cs : Nat) (P : List ByteArray) (W : World) : Prop where
  res : Blk W w0.heap.size 26 #[.int .i64 0, .int .i64 0, .slice none 0 0]
  ens : Blk W eb 26 #[.int .i64 f, .int .i64 b, .slice At Ls.length ct]
  rows : W.ownsRow (eb + 1) 45 1 (.slice At Ls.length ct) Ls.length ((List.range Ls.length).map hd)
  trs : ∀ i, i < Ls.length → W.ownsRow (eb + 1) 58 6 (hd i) (Ls.getD i []).length ((Ls.getD i []).flatMap ndC)
  apt : ∀ i, i < Ls.length → (hd i).ownBlock = none ∨ (hd i).ownBlock ≠ cv.ownBlock
  dst : ∀ i j, i < Ls.length → j < i → (hd j).ownBlock = none ∨ (hd j).ownBlock ≠ (hd i).ownBlock
  cur : W.ownsRow (eb + 1) 58 6 cv cur.length (cur.flatMap ndC)
  wds : W.ownsRow (w0.heap.size + 1) 9 1 (.slice As P.length cs) P.length (strT P)
  wlt : ∀ k, (Value.slice As P.length cs).ownBlock = some k → k < eb
  lt1 : w0.heap.size < eb
  bel : Below w0.heap.size w0 W
section
variable {w0 W W' : World} {eb : Nat} {f b : Int} {At : Option Addr} {ct : Nat} {hd : Nat → Value} {Ls : List (List Nd)} {cv : Value} {cur : List Nd} {As : Option Addr} {cs : Nat} {P : List ByteArray}
theorem GE.below (h : GE w0 eb f b At ct hd Ls cv cur As cs P W) (hb : Below W.heap.size W W') : GE w0 eb f b At ct hd Ls cv cur As cs P W' :=
  ⟨h.res.below hb h.res.lt, h.ens.below hb h.ens.lt, own_belowT h.rows hb, fun i hi => own_belowT (h.trs i hi) hb, h.apt, h.dst, own_belowT h.cur hb, own_belowT h.wds hb, h.wlt, h.lt1, h.bel.trans (hb.mono h.bel.size)⟩
theorem GE.alloc (h : GE w0 eb f b At ct hd Ls cv cur As cs P W) (o : Obj) : GE w0 eb f b At ct hd Ls cv cur As cs P (W.alloc o) := h.below ((Below.refl _ W).alloc (Nat.le_refl _) o)
/-- A node more in the tree that is being gathered. -/
theorem GE.node (h : GE w0 eb f b At ct hd Ls cv cur As cs P W) {g c : Nat} {d : Nd} (hown : W'.ownsRow (eb + 1) 58 6 (.slice (some ⟨g, 0, none⟩) (cur.length + 1) c) (cur.length + 1) (cur.flatMap ndC ++ ndC d))
    (hg : W.grownBy W' cv.ownBlock) (hw : cv.ownBlock = some g ∨ g = W.heap.size) : GE w0 eb f b At ct hd Ls (.slice (some ⟨g, 0, none⟩) (cur.length + 1) c) (cur ++ [d]) As cs P W' := by
  have hlo : ∀ k, cv.ownBlock = some k → eb + 1 ≤ k := fun k hk => (h.cur.lt k hk).1
  have hl := h.lt1
  refine ⟨h.res.grown hg (fun e => by have := hlo _ e.symm; omega), h.ens.grown hg (fun e => by have := hlo _ e.symm; omega), h.rows.kept hg (own_apart h.rows h.cur (by decide)), fun i hi => (h.trs i hi).kept hg (h.apt i hi), fun i hi => ?_, h.dst, ?_, h.wds.kept hg (own_apart h.wds h.cur (by decide)), h.wlt, h.lt1, h.bel.grown hg h.bel.size (fun k e => by have := hlo k e; omega)⟩
  · rcases h.apt i hi with e | e
    · exact .inl e
    · cases hk : (hd i).ownBlock with
      | none => exact .inl rfl
      | some k =>
        right
        intro e2
        have e3 : k = g := by simpa [Value.ownBlock] using e2
        rcases hw with hw | hw
        · exact e (by rw [hk, hw, e3])
        · have := ((h.trs i hi).lt k hk).2
          omega
  · rw [List.length_append, List.flatMap_append]
    simpa using hown
/-- The tree is done: it is the ensemble's next, and another is begun. -/
theorem GE.close (h : GE w0 eb f b At ct hd Ls cv cur As cs P W) {A' : Option Addr} {c' : Nat} (hown : W'.ownsRow (eb + 1) 45 1 (.slice A' (Ls.length + 1) c') (Ls.length + 1) ((List.range Ls.length).map hd ++ [cv]))
    (hg : W.grownBy W' (Value.slice At Ls.length ct).ownBlock) :
    GE w0 eb f b A' c' (fun i => if i = Ls.length then cv else hd i) (Ls ++ [cur]) (.slice (some ⟨W'.heap.size, 0, none⟩) 0 0) [] As cs P ((W'.setCell ⟨eb, 2, none⟩ (.slice A' (Ls.length + 1) c')).alloc (.cells #[] 58)) := by
  have hlo : ∀ k, (Value.slice At Ls.length ct).ownBlock = some k → eb + 1 ≤ k := fun k hk => (h.rows.lt k hk).1
  have hl := h.lt1
  have hlen : (Ls ++ [cur]).length = Ls.length + 1 := by simp
  have hsz : (W'.setCell ⟨eb, 2, none⟩ (.slice A' (Ls.length + 1) c')).heap.size = W'.heap.size := by simp [World.setCell]
  have hal : ∀ {B : Nat} {e : TypeId} {size : Nat} {v : Value} {m : Nat} {xs : List Value}, W'.ownsRow B e size v m xs → eb < B → ((W'.setCell ⟨eb, 2, none⟩ (.slice A' (Ls.length + 1) c')).alloc (.cells #[] 58)).ownsRow B e size v m xs := fun h hB => (own_setE h hB _).alloc _
  have hel : eb < W'.heap.size := Nat.lt_of_lt_of_le h.ens.lt hg.size
  have hcur : W'.ownsRow (eb + 1) 58 6 cv cur.length (cur.flatMap ndC) := h.cur.kept hg (own_apart h.cur h.rows (by decide))
  have htrs : ∀ i, i < Ls.length → W'.ownsRow (eb + 1) 58 6 (hd i) (Ls.getD i []).length ((Ls.getD i []).flatMap ndC) := fun i hi => (h.trs i hi).kept hg (own_apart (h.trs i hi) h.rows (by decide))
  refine ⟨?_, ?_, ?_, fun i hi => ?_, fun i hi => ?_, fun i j hi hj => ?_, ?_, ?_, h.wlt, h.lt1, ?_⟩
  · exact ((h.res.grown hg (fun e => by have := hlo _ e.symm; omega)).far (p := ⟨eb, 2, none⟩) (by show w0.heap.size ≠ eb; omega) _).alloc _
  · rw [hlen]
    exact ((h.ens.grown hg (fun e => by have := hlo _ e.symm; omega)).set_ 2 _).alloc _
  · rw [hlen, List.range_succ, List.map_append]
    have e : (List.range Ls.length).map (fun i => if i = Ls.length then cv else hd i) = (List.range Ls.length).map hd := List.map_congr_left fun i hi => by
      have := List.mem_range.1 hi
      rw [if_neg (by omega)]
    rw [e]
    have := hal hown (by omega)
    simpa using this
  · rw [hlen] at hi
    by_cases e : i = Ls.length
    · subst e
      simp only
      rw [List.getD_eq_getElem?_getD, List.getElem?_append_right (Nat.le_refl _), Nat.sub_self]
      exact hal hcur (by omega)
    · simp only [if_neg e]
      have e2 : (Ls ++ [cur]).getD i [] = Ls.getD i [] := by
        simp only [List.getD_eq_getElem?_getD]
        rw [List.getElem?_append_left (by omega)]
      rw [e2]
      exact hal (htrs i (by omega)) (by omega)
  · rw [hlen] at hi
    have key : ∀ {v : Value} {m : Nat} {xs : List Value}, W'.ownsRow (eb + 1) 58 6 v m xs → v.ownBlock = none ∨ v.ownBlock ≠ (Value.slice (some ⟨W'.heap.size, 0, none⟩) 0 0).ownBlock := fun {v m xs} h => by
      cases hk : v.ownBlock with
      | none => exact .inl rfl
      | some k =>
        right
        intro e2
        have e3 : k = W'.heap.size := by simpa [Value.ownBlock] using e2
        have := (h.lt k hk).2
        omega
    by_cases e : i = Ls.length
    · simp only [if_pos e]; exact key hcur
    · simp only [if_neg e]; exact key (htrs i (by omega))
  · rw [hlen] at hi
    simp only [if_neg (show ¬ j = Ls.length by omega)]
    by_cases e : i = Ls.length
    · simp only [if_pos e]; exact h.apt j (by omega)
    · simp only [if_neg e]; exact h.dst i j (by omega) hj
  · have := World.ownsRow_made (base := eb + 1) (e := 58) (size := 6) (W'.setCell ⟨eb, 2, none⟩ (.slice A' (Ls.length + 1) c')) #[] 0 (by rw [hsz]; omega) (by unfold maxLen; omega) rfl
    rw [hsz] at this
    exact this
  · have hw := h.wds.kept hg (own_apart h.wds h.rows (by decide))
    refine World.ownsRow.alloc ?_ _
    refine hw.kept (row := some eb) ⟨rfl, rfl, rfl, by simp [World.setCell], fun k _ hk => Below.heap_setCell _ _ _ k (fun e => hk (by rw [e]))⟩ ?_
    cases hv : (Value.slice As P.length cs).ownBlock with
    | none => exact .inl rfl
    | some k => right; have := h.wlt k hv; simp; omega
  · exact ((h.bel.grown hg h.bel.size (fun k e => by have := hlo k e; omega)).setCell (p := ⟨eb, 2, none⟩) (by show w0.heap.size ≤ eb; omega) _).alloc (by rw [hsz]; exact Nat.le_trans h.bel.size hg.size) _
end
end

/-! ### ReD -/
section
set_option linter.unusedVariables false
set_option linter.unusedSimpArgs false
open Go.RowKit Go.Deep

theorem ens_8000 {f b : Int} {n : Nat} {len : Nat → Nat} {g : Nat → Nat → Nd} (h : ensB f b n len g = true) : (ensS f b n len g).size ≤ 7839 := by
  have hin := ens_in h
  unfold ensS
  rw [if_pos h]
  have h1 := joinTo_size (f := entP f b len g) (sep := sepE) (M := 600) (n + 1) (fun i hi => by
    cases i with
    | zero =>
      have h1 := hin.1.size
      have h2 := hin.2.1.size
      show (decS f ++ ⟨#[32]⟩ ++ decS b).size ≤ 600
      rw [ByteArray.size_append, ByteArray.size_append]
      show (decS f).size + 1 + _ ≤ _
      omega
    | succ i =>
      have ht := hin.2.2.2 i (by omega)
      have := treS_600 ht
      rw [treS_yes ht] at this
      exact this)
  have e1 : sepE.size = 3 := rfl
  rw [e1] at h1
  have h2 : (n + 1) * (600 + 3) ≤ 13 * 603 := Nat.mul_le_mul_right 603 (by have := hin.2.2.1; omega)
  exact Nat.le_trans h1 (by omega)
/-- Nodes that are meant by words. -/
def MeansL (W : List ByteArray) (L : List Nd) : Prop := W.length = L.length ∧ ∀ i, i < L.length → Means (W.getD i ByteArray.empty) (L.getD i zNd)
def MeansM (M : List (List ByteArray)) (Ls : List (List Nd)) : Prop := M.length = Ls.length ∧ ∀ i, i < Ls.length → MeansL (M.getD i []) (Ls.getD i [])
theorem getD_left {α : Type} {L : List α} {x d : α} {i : Nat} (h : i < L.length) : (L ++ [x]).getD i d = L.getD i d := by
  simp only [List.getD_eq_getElem?_getD]
  rw [List.getElem?_append_left h]
theorem getD_last {α : Type} {L : List α} {x d : α} {i : Nat} (h : i = L.length) : (L ++ [x]).getD i d = x := by
  subst h
  rw [List.getD_eq_getElem?_getD, List.getElem?_append_right (Nat.le_refl _), Nat.sub_self]
  rfl
theorem MeansL.nil : MeansL [] [] := ⟨rfl, fun i hi => by cases hi⟩
theorem MeansM.nil : MeansM [] [] := ⟨rfl, fun i hi => by cases hi⟩
theorem MeansL.snoc {W : List ByteArray} {L : List Nd} {x : ByteArray} {d : Nd} (h : MeansL W L) (hx : Means x d) : MeansL (W ++ [x]) (L ++ [d]) := by
  have hl := h.1
  refine ⟨by simp [hl], fun i hi => ?_⟩
  have hi' : i < L.length + 1 := by simpa using hi
  by_cases e : i = L.length
  · rw [getD_last (by omega), getD_last e]; exact hx
  · rw [getD_left (by omega), getD_left (by omega)]; exact h.2 i (by omega)
theorem MeansM.snoc {M : List (List ByteArray)} {Ls : List (List Nd)} {W : List ByteArray} {L : List Nd} (h : MeansM M Ls) (hx : MeansL W L) : MeansM (M ++ [W]) (Ls ++ [L]) := by
  have hl := h.1
  refine ⟨by simp [hl], fun i hi => ?_⟩
  have hi' : i < Ls.length + 1 := by simpa using hi
  by_cases e : i = Ls.length
  · rw [getD_last (by omega), getD_last e]; exact hx
  · rw [getD_left (by omega), getD_left (by omega)]; exact h.2 i (by omega)
/-- Good nodes that are meant are the nodes. -/
theorem means_tree {n : Nat} {g : Nat → Nd} {L : List Nd} (ht : treeB g n 6 = true) (h : MeansL (ndsT n g) L) : L.length = n ∧ ∀ i, i < n → L.getD i zNd = g i := by
  have hl : L.length = n := by rw [← h.1]; simp [ndsT]
  refine ⟨hl, fun i hi => ?_⟩
  refine h.2 i (by omega) (g i) (tree_in ht i hi) (node_good (((treeB_iff g n 6).1 ht).2.2 i hi).1) ?_
  rw [ndsT, List.getD_eq_getElem?_getD, List.getElem?_map, List.getElem?_range hi]
  rfl
/-- Out of a good ensemble's words its trees come. -/
theorem means_ens {f b : Int} {n : Nat} {len : Nat → Nat} {g : Nat → Nat → Nd} {M : List (List ByteArray)} {Ls : List (List Nd)} (h : ensB f b n len g = true) (hM : MeansM M Ls) (e : M = (List.range n).map fun i => ndsT (len i) (g i)) :
    Ls.length = n ∧ ∀ i, i < n → (Ls.getD i []).length = len i ∧ ∀ j, j < len i → (Ls.getD i []).getD j zNd = g i j := by
  subst e
  have hl : Ls.length = n := by rw [← hM.1]; simp
  refine ⟨hl, fun i hi => means_tree ((ens_in h).2.2.2 i hi) ?_⟩
  have := hM.2 i (by omega)
  rw [List.getD_eq_getElem?_getD, List.getElem?_map, List.getElem?_range hi] at this
  exact this
theorem len_snoc {Ls : List (List Nd)} {L : List Nd} (h : ∀ i, i < Ls.length → (Ls.getD i []).length ≤ 8001) (hl : L.length ≤ 8001) : Hid (∀ i, i < (Ls ++ [L]).length → ((Ls ++ [L]).getD i []).length ≤ 8001) := fun i hi => by
  have hi' : i < Ls.length + 1 := by simpa using hi
  by_cases e : i = Ls.length
  · rw [getD_last e]; exact hl
  · rw [getD_left (by omega)]; exact h i (by omega)
theorem GE.rdT {w0 W : World} {eb : Nat} {f b : Int} {At : Option Addr} {ct : Nat} {hd : Nat → Value} {Ls : List (List Nd)} {cv : Value} {cur : List Nd} {As : Option Addr} {cs : Nat} {P : List ByteArray} (h : GE w0 eb f b At ct hd Ls cv cur As cs P W) :
    RdT W W.heap.size At Ls.length (fun i => (Ls.getD i []).length) (fun i j => (Ls.getD i []).getD j zNd) := fun hn => by
  rcases h.rows.2 with ⟨_, h0⟩ | ⟨g, cap, cs', hv, hb, hg, _, _, _, ht⟩
  · omega
  · injection hv with e1 _ _
    refine ⟨g, 0, e1, Blk.lt hg, fun i hi => ?_⟩
    obtain ⟨A, c, e⟩ := own_formT (h.trs i hi)
    refine ⟨A, c, ?_, ?_⟩
    · have h1 : (cs'.toList.take (Ls.length * 1))[i]? = ((List.range Ls.length).map hd)[i]? := by rw [ht]
      rw [List.getElem?_take, if_pos (by omega), Array.getElem?_toList, List.getElem?_map, List.getElem?_range hi, Option.map_some, e] at h1
      rw [Nat.zero_add]
      exact (cell_of_row W g i cs' _ (0, 0) hg).trans h1
    · have h2 := h.trs i hi
      rw [e] at h2
      exact own_rdL h2 rfl
theorem ens_congr {f b : Int} {n : Nat} {len len' : Nat → Nat} {g g' : Nat → Nat → Nd} (h : ensB f b n len g = true) (he : ∀ i, i < n → len' i = len i ∧ ∀ j, j < len i → g' i j = g i j) : ensS f b n len' g' = ensS f b n len g := by
  have h' : ensB f b n len' g' = true := by
    obtain ⟨h1, h2, h5, h6⟩ := ensB_iff.1 h
    refine ensB_iff.2 ⟨h1, h2, h5, fun i hi => ?_⟩
    rw [(he i hi).1, treeB_congrT (he i hi).2]
    exact h6 i hi
  unfold ensS
  rw [if_pos h, if_pos h']
  unfold entS
  refine joinTo_congr _ fun i hi => ?_
  cases i with
  | zero => rfl
  | succ i =>
    show ntS (len' i) (g' i) = ntS (len i) (g i)
    rw [(he i (by omega)).1]
    exact joinTo_congr _ fun j hj => by rw [(he i (by omega)).2 j hj]
/-- What reading answers. -/
def EnAns (s : ByteArray) (w : World) (e : Ending) (w' : World) : Prop :=
  ((∃ (f b : Int) (Ls : List (List Nd)) (hd : Nat → Value) (A : Option Addr) (c : Nat), ensB f b Ls.length (fun i => (Ls.getD i []).length) (fun i j => (Ls.getD i []).getD j zNd) = true ∧ s = ensS f b Ls.length (fun i => (Ls.getD i []).length) (fun i j => (Ls.getD i []).getD j zNd) ∧
      e = .returned (.tuple #[enV f b A Ls.length c, .bool true]) ∧ w'.ownsRow w.heap.size 45 1 (.slice A Ls.length c) Ls.length ((List.range Ls.length).map hd) ∧
      (∀ i, i < Ls.length → w'.ownsRow w.heap.size 58 6 (hd i) (Ls.getD i []).length ((Ls.getD i []).flatMap ndC)) ∧ ∀ i j, i < Ls.length → j < i → (hd j).ownBlock = none ∨ (hd j).ownBlock ≠ (hd i).ownBlock) ∨
    ((∀ f b n len g, ensB f b n len g = true → s ≠ ensS f b n len g) ∧ e = .returned (.tuple #[enV 0 0 none 0 0, .bool false]))) ∧ Below w.heap.size w w'
theorem results_en {P : Program} {fn : Func} {p u : Tmp} {ty : TypeId} (h : fn.results = #[.cell p ty, .tmp u]) (tmps : Array Value) (w : World) (g : Nat) (t : TypeId) (cs : Array Value) (fr : Nat × Nat) (d : TypeDesc)
    (hp : tmps.getD p undef = .pointer (some ⟨g, 0, none⟩)) (hg : w.heap[g]? = some (.cells cs t fr))
    (hu : P.underlying ty = some d) (hd : (match d with | .struct _ | .array _ _ => true | _ => false) = true) (hi : (P.info? ty).map (·.size) = some cs.size) :
    (results fn tmps).run P w = .ok (.tuple #[.agg cs, tmps.getD u undef]) w := by
  have hp' : tmps[p]?.getD undef = .pointer (some ⟨g, 0, none⟩) := by simpa using hp
  simp [results, h, hp', asAddr, Result.andThen, run_loadVar_row w g t ty cs fr d hg hu hd hi]

set_option maxRecDepth 100000 in
set_option maxHeartbeats 4000000 in
theorem sReadEns_any (s : ByteArray) (w : World) (hs : s.size ≤ 4194304) :
    Calls Tryz.prog 10 #[.string s] w (EnAns s w) := by
  have hB0 := Blk.new w 26 #[.int .i64 0, .int .i64 0, .slice none 0 0]
  have hb0 := (Below.refl w.heap.size w).alloc (Nat.le_refl _) (.cells #[.int .i64 0, .int .i64 0, .slice none 0 0] 26)
  by_cases hbig : (8000 : Int) < (s.size : Int)
  · have c0 := hB0.cell 0; have c1 := hB0.cell 1; have c2 := hB0.cell 2
    go_enter Tryz.func10, Tryz.ntmps10
    go_wp2_with fail
    refine bodyPost_ret (results_en rfl _ _ w.heap.size 26 #[.int .i64 0, .int .i64 0, .slice none 0 0] (0, 0) _ rfl hB0 Tryz.underlying26 rfl size_ens) rfl ?_
    exact ⟨.inr ⟨fun f b n len g h e => by have := ens_8000 h; rw [← e] at this; omega, rfl⟩, hb0⟩
  obtain ⟨P, HP⟩ : ∃ P, Hid (allW 32 s = P) := ⟨_, hid rfl⟩
  have hPl : P.length ≤ 8001 := by rw [← HP.out]; have := allW_len 32 s; omega
  have HSP := hid (split_any s (w.alloc (.cells #[.int .i64 0, .int .i64 0, .slice none 0 0] 26)) hs)
  rw [HP.out] at HSP
  go_enter Tryz.func10, Tryz.ntmps10
  go_wp2_with fail
  refine HSP.out.mono ?_
  rintro e w1 ⟨As, cs, rfl, hown1, hb1⟩
  have hB1 := hB0.below hb1 hB0.lt
  have hw1 := hb0.trans (hb1.mono hb0.size)
  have hS1 : w1.ownsRow (w.heap.size + 1) 9 1 (.slice As P.length cs) P.length (strT P) := own_weak hown1 (by simp)
  clear hB0 hb0 hb1 hown1 HSP
  by_cases h2 : (P.length : Int) < 2
  · have c0 := hB1.cell 0; have c1 := hB1.cell 1; have c2 := hB1.cell 2
    have f0 := hB1.frozen 0; have f1 := hB1.frozen 1; have f2 := hB1.frozen 2
    go_wp2_with fail
    refine bodyPost_ret (results_en rfl _ _ w.heap.size 26 #[.int .i64 0, .int .i64 0, .slice none 0 0] (0, 0) _ rfl (((hB1.set_ 0 (.int .i64 0)).set_ 1 (.int .i64 0)).set_ 2 (.slice none 0 0)) Tryz.underlying26 rfl size_ens) rfl ?_
    refine ⟨.inr ⟨fun f b n len g h e => ?_, rfl⟩, ((hw1.setCell (p := ⟨w.heap.size, 0, none⟩) (Nat.le_refl _) _).setCell (p := ⟨w.heap.size, 1, none⟩) (Nat.le_refl _) _).setCell (p := ⟨w.heap.size, 2, none⟩) (Nat.le_refl _) _⟩
    have h3 := congrArg List.length (words_ens h)
    rw [← e, HP.out] at h3
    simp at h3
    omega
  obtain ⟨i0, hi0, hz0, hz1, hz2⟩ := info_nodeT
  obtain ⟨gb, rfl, hgb, hgl, hcell⟩ := own_strT hS1 (by omega)
  obtain ⟨x0, hx0⟩ : ∃ x, P.getD 0 ByteArray.empty = x := ⟨_, rfl⟩
  obtain ⟨x1, hx1⟩ : ∃ x, P.getD 1 ByteArray.empty = x := ⟨_, rfl⟩
  have hp0 := getD_word (P := P) (k := 0) (by omega)
  have hp1 := getD_word (P := P) (k := 1) (by omega)
  rw [hx0] at hp0
  rw [hx1] at hp1
  have hc0 : w1.cell? ⟨gb, 0, none⟩ = some (.string x0) := by have := hcell 0 x0 hp0; rwa [Nat.zero_add] at this
  have hc1 : w1.cell? ⟨gb, 1, none⟩ = some (.string x1) := by have := hcell 1 x1 hp1; rwa [Nat.zero_add] at this
  have hs0 : x0.size ≤ 4194304 := Nat.le_trans (split_mem _ s x0 (List.mem_of_getElem? (by rw [← HP.out] at hp0; exact hp0))) hs
  have hs1 : x1.size ≤ 4194304 := Nat.le_trans (split_mem _ s x1 (List.mem_of_getElem? (by rw [← HP.out] at hp1; exact hp1))) hs
  have HX0 := hid hx0
  have HX1 := hid hx1
  have hE := Blk.new w1 26 #[.int .i64 0, .int .i64 0, .slice none 0 0]
  have hbx := (Below.refl w1.heap.size w1).alloc (Nat.le_refl _) (.cells #[.int .i64 0, .int .i64 0, .slice none 0 0] 26)
  clear hcell hx0 hx1 hp0 hp1
  go_wp2_with fail
  clear hc0
  refine (num_gen x0 _ hs0).mono ?_
  rintro e w2 ⟨f, m0, hf, hfu, rfl, rfl⟩
  have hne : gb ≠ w1.heap.size := by omega
  have hne' : w1.heap.size ≠ gb := by omega
  go_wp2_with fail
  refine (num_gen x1 _ hs1).mono ?_
  rintro e w2 ⟨b, m1, hb, hbu, rfl, rfl⟩
  go_wp2_with fail
  have hx1' := hbx.alloc hbx.size (.cells #[] 58)
  have hS4 := (hS1.alloc (.cells #[.int .i64 f, .int .i64 b, .slice none 0 0] 26)).alloc (.cells #[] 58)
  have HG : Hid (GE w w1.heap.size f b none 0 (fun _ => undef) [] (.slice (some ⟨w1.heap.size + 1, 0, none⟩) 0 0) [] (some ⟨gb, 0, none⟩) cs P ((w1.alloc (.cells #[.int .i64 f, .int .i64 b, .slice none 0 0] 26)).alloc (.cells #[] 58))) :=
    ⟨(hB1.alloc _).alloc _, (Blk.new w1 _ _).alloc _, ⟨rfl, .inl ⟨rfl, rfl⟩⟩, fun i hi => absurd hi (Nat.not_lt_zero i), fun i hi => absurd hi (Nat.not_lt_zero i), fun i j hi => absurd hi (Nat.not_lt_zero i), by
      have := World.ownsRow_made (base := w1.heap.size + 1) (e := 58) (size := 6) (w1.alloc (.cells #[.int .i64 f, .int .i64 b, .slice none 0 0] 26)) #[] 0 (by simp) (by unfold maxLen; omega) rfl
      simpa using this, hS4, fun k hk => by
      have : gb = k := by simpa [Value.ownBlock] using hk
      omega, hB1.lt, (hw1.alloc hw1.size _).alloc (by have := hw1.size; simp; omega) _⟩
  have HF : Hid (I64 f ∧ (∀ y, I64 y → x0 = decS y → f = y) ∧ I64 b ∧ ∀ y, I64 y → x1 = decS y → b = y) := ⟨hf, hfu, hb, hbu⟩
  generalize (w1.alloc (.cells #[.int .i64 f, .int .i64 b, .slice none 0 0] 26)).alloc (.cells #[] 58) = W4 at HG ⊢
  have hwe : w.heap.size < w1.heap.size := hB1.lt
  generalize heb : w1.heap.size = eb at HG hwe ⊢
  clear hS1 hS4 hE hbx hx1' hB1 hw1 hf hfu hb hbu hne hne' hc1 hgl hgb heb
  go_loopw [6, 7] (fun v i wr => ∃ (k : Nat) (At : Option Addr) (ct : Nat) (hd : Nat → Value) (Ls : List (List Nd)) (Ac : Option Addr) (cc : Nat) (cur : List Nd) (M : List (List ByteArray)) (Wd : List ByteArray), 2 ≤ k ∧ k ≤ P.length ∧ i = .int .i64 k ∧ v = .slice Ac cur.length cc ∧ cur.length ≤ k ∧ Ls.length ≤ k ∧
      Hid (MeansM M Ls) ∧ Hid (MeansL Wd cur) ∧ Hid (runE P.length (P.drop k) k M Wd = runE P.length (P.drop 2) 2 [] []) ∧ Hid (GE w eb f b At ct hd Ls (.slice Ac cur.length cc) cur (some ⟨gb, 0, none⟩) cs P wr) ∧ Hid (∀ i, i < Ls.length → (Ls.getD i []).length ≤ 8001))
    (fun _ i _ => P.length - (intOf i).toNat)
  case atStart => exact ⟨2, none, 0, _, [], _, _, [], [], [], Nat.le_refl _, by omega, rfl, rfl, by simp, by simp, MeansM.nil, MeansL.nil, rfl, HG, fun i hi => absurd hi (Nat.not_lt_zero i)⟩
  case round =>
    obtain ⟨k, At, ct, hd, Ls, Ac, cc, cur, M, Wd, hk2, hk, rfl, rfl, hcl, hLl, hMM, hML, hrun, hG, hLn⟩ := hrel
    by_cases hlt : k < P.length
    · have i1 : (k : Int) < (P.length : Int) := by omega
      have i3 : (0 : Int) ≤ (k : Int) := by omega
      obtain ⟨gb', egb, _, _, hcell⟩ := own_strT hG.out.wds (by omega)
      obtain rfl : gb = gb' := by injection egb with e; injection e
      obtain ⟨x, hxe⟩ : ∃ x, P.getD k ByteArray.empty = x := ⟨_, rfl⟩
      have hx := getD_word hlt
      rw [hxe] at hx
      have hc : wr.cell? ⟨gb, k, none⟩ = some (.string x) := by have := hcell k x hx; rwa [Nat.zero_add] at this
      have hxs : x.size ≤ 4194304 := Nat.le_trans (split_mem _ s x (List.mem_of_getElem? (by rw [← HP.out] at hx; exact hx))) hs
      have hdrop : P.drop k = x :: P.drop (k + 1) := by
        rw [List.drop_eq_getElem_cons hlt]
        congr 1
        exact Option.some.inj ((List.getElem?_eq_getElem hlt).symm.trans hx)
      have HD := hid hdrop
      have HPX := hid hx
      clear hcell hx hxe hdrop egb
      by_cases hxb : x = barT
      · have hl : (x.toList == [124]) = true := by rw [hxb, ByteArray.toList_eq]; rfl
        have hl2 : x.toList = [124] := by rw [hxb, ByteArray.toList_eq]; rfl
        have HXB := hid hxb
        clear hxb
        by_cases hk3 : k = 2
        · subst hk3
          have HR3 : Hid (runE P.length (P.drop 3) 3 M Wd = runE P.length (P.drop 2) 2 [] []) := by
            have h1 := hrun.out
            rw [HD.out, HXB.out, run_bar2] at h1
            rw [HD.out, HXB.out]
            exact h1
          go_wp2_with fail
          go_roundw
          case rel => exact ⟨3, At, ct, hd, Ls, Ac, cc, cur, M, Wd, by omega, by omega, rfl, rfl, by omega, by omega, hMM, hML, HR3, hG, hLn⟩
          case measure => simp [intOf]; omega
        · have i4 : (2 : Int) < (k : Int) := by omega
          have HRN : Hid (runE P.length (P.drop (k + 1)) (k + 1) (M ++ [Wd]) [] = runE P.length (P.drop 2) 2 [] []) := by
            have h1 := hrun.out
            rw [HD.out, HXB.out, run_bar (by omega)] at h1
            exact h1
          obtain ⟨j0, hj0, jz0, jz1, jz2⟩ := info_parts info_nodes
          have GA := hG.out.alloc (.cells #[.slice Ac cur.length cc] 45)
          have e2 : wr.cell? ⟨eb, 2, none⟩ = some (.slice At Ls.length ct) := hG.out.ens.cell 2
          have e2' : (wr.alloc (.cells #[.slice Ac cur.length cc] 45)).cell? ⟨eb, 2, none⟩ = some (.slice At Ls.length ct) := GA.ens.cell 2
          go_wp2_with (at_builtin; refine wpList_append_own _ rfl (.tmp 72) (.tmp 74) 24 rfl (eb + 1) 45 j0 (.slice none 0 0) 1 24 Tryz.underlying24 hj0 jz0 jz1 jz2 rfl (by decide) _ Ls.length _ rfl GA.rows ⟨wr.heap.size, 0, none⟩ 1 1 [.slice Ac cur.length cc] rfl rfl (cell_one_newT _ _ _) (by intro u hu; simp at hu; subst hu; rfl) (by unfold maxLen; omega) (by omega) (by simp; have := hG.out.ens.lt; omega) ?_)
          intro v8 w8 hown8 hg8 _
          obtain ⟨A8, c8, rfl⟩ := own_formT hown8
          have G9 := GA.close hown8 hg8
          have hB8 := GA.ens.grown hg8 (fun e => by have := (GA.rows.lt _ e.symm).1; omega)
          have e8 := hB8.cell 2; have f8 := hB8.frozen 2
          have HG9 := hid G9
          clear GA G9 hown8 hg8 e2 e2' hB8
          go_wp2_with fail
          go_roundw
          case rel => exact ⟨k + 1, A8, c8, _, Ls ++ [cur], _, _, [], M ++ [Wd], [], by omega, by omega, by go_num, rfl, by simp, by simp; omega, hMM.out.snoc hML.out, MeansL.nil, HRN, by simpa using HG9, len_snoc hLn.out (by first | omega | (simp; omega))⟩
          case measure => simp [intOf]; omega
      · have hl : (x.toList == [124]) = false := by
          have h1 := ba_listT hxb
          rw [ByteArray.toList_eq barT] at h1
          exact h1
        have hl2 : ¬ x.toList = [124] := by simpa using hl
        have HXB := hid hxb
        clear hxb
        go_wp2_with fail
        refine (sNode_any x _ hxs).mono ?_
        rintro e w2 ⟨d, rfl, hmean, hb2⟩
        have G2 := hG.out.below hb2
        have hcx : w2.cell? ⟨gb, k, none⟩ = some (.string x) := by rw [hb2.cell (show gb < wr.heap.size from (hG.out.wds.lt gb rfl).2)]; exact hc
        have G3 := G2.alloc (.cells #[.int .i64 d.feat, .int .i64 d.cut, .int .i64 d.left, .int .i64 d.right, .bool d.miss, .int .i64 d.value] 58)
        have hel : eb < w2.heap.size := G2.ens.lt
        have HMN := hid hmean
        clear hc hb2 hmean
        go_wp2_with (at_builtin; refine wpList_append_lies _ rfl (.tmp 47) (.tmp 53) 45 rfl (eb + 1) 58 i0 (ndV zNd) 6 48 Tryz.underlying45 hi0 hz0 hz1 hz2 rfl (by decide) _ cur.length _ rfl G3.cur ⟨w2.heap.size, 0, none⟩ 1 1 ([d].flatMap ndC) rfl rfl (nd_src w2 d) (ndC_one [d]) (by omega) (by unfold maxLen; omega) (by omega) (by simp; omega) _ rfl ?_)
        intro g6 c6 w6 hown6 hg6 hw6 _
        have G6 := G3.node (d := d) (by simpa using hown6) hg6 (by simpa using hw6)
        have ML6 := hML.out.snoc HMN.out
        have hcx6 : w6.cell? ⟨gb, k, none⟩ = some (.string x) := by
          obtain ⟨gb', egb, _, _, hcell⟩ := own_strT G6.wds (by omega)
          obtain rfl : gb = gb' := by injection egb with e; injection e
          have := hcell k x HPX.out
          rwa [Nat.zero_add] at this
        have hwr : IntKind.i64.wrap ((P.length : Int) - 1) = (P.length : Int) - 1 := IntWalk.i64_in _ (by omega)
        clear G2 G3 hcx hown6 hg6 hw6
        by_cases hlast : k + 1 = P.length
        · have i5 : (P.length : Int) - 1 = (k : Int) := by omega
          by_cases hk3 : 2 < k
          · have i4 : (2 : Int) < (k : Int) := by omega
            have HRN : Hid (runE P.length (P.drop (k + 1)) (k + 1) (M ++ [Wd ++ [x]]) [] = runE P.length (P.drop 2) 2 [] []) := by
              have h1 := hrun.out
              have hz : P.drop (k + 1) = [] := List.drop_eq_nil_of_le (by omega)
              rw [HD.out, hz, run_end HXB.out hlast hk3] at h1
              rw [hz, runE]
              exact h1
            obtain ⟨j0, hj0, jz0, jz1, jz2⟩ := info_parts info_nodes
            have GA := G6.alloc (.cells #[.slice (some ⟨g6, 0, none⟩) (cur.length + 1) c6] 45)
            have e2 : w6.cell? ⟨eb, 2, none⟩ = some (.slice At Ls.length ct) := G6.ens.cell 2
            have e2' : (w6.alloc (.cells #[.slice (some ⟨g6, 0, none⟩) (cur.length + 1) c6] 45)).cell? ⟨eb, 2, none⟩ = some (.slice At Ls.length ct) := GA.ens.cell 2
            go_wp2_with (at_builtin; refine wpList_append_own _ rfl (.tmp 72) (.tmp 74) 24 rfl (eb + 1) 45 j0 (.slice none 0 0) 1 24 Tryz.underlying24 hj0 jz0 jz1 jz2 rfl (by decide) _ Ls.length _ rfl GA.rows ⟨w6.heap.size, 0, none⟩ 1 1 [.slice (some ⟨g6, 0, none⟩) (cur.length + 1) c6] rfl rfl (cell_one_newT _ _ _) (by intro u hu; simp at hu; subst hu; rfl) (by unfold maxLen; omega) (by omega) (by simp; have := G6.ens.lt; omega) ?_)
            intro v8 w8 hown8 hg8 _
            obtain ⟨A8, c8, rfl⟩ := own_formT hown8
            have G9 := GA.close hown8 hg8
            have hB8 := GA.ens.grown hg8 (fun e => by have := (GA.rows.lt _ e.symm).1; omega)
            have e8 := hB8.cell 2; have f8 := hB8.frozen 2
            have HG9 := hid G9
            clear GA G9 hown8 hg8 e2 e2' hB8
            go_wp2_with fail
            go_roundw
            case rel => exact ⟨k + 1, A8, c8, _, Ls ++ [cur ++ [d]], _, _, [], M ++ [Wd ++ [x]], [], by omega, by omega, by go_num, rfl, by simp, by simp; omega, hMM.out.snoc ML6, MeansL.nil, HRN, by simpa using HG9, len_snoc hLn.out (by first | omega | (simp; omega))⟩
            case measure => simp [intOf]; omega
          · obtain rfl : k = 2 := by omega
            have HRN : Hid (runE P.length (P.drop 3) 3 M (Wd ++ [x]) = runE P.length (P.drop 2) 2 [] []) := by
              have h1 := hrun.out
              rw [HD.out, runE, if_neg (by omega), if_neg HXB.out] at h1
              rw [HD.out]
              exact h1
            have HG6 := hid G6
            clear G6
            go_wp2_with fail
            go_roundw
            case rel => exact ⟨3, At, ct, hd, Ls, some ⟨g6, 0, none⟩, c6, cur ++ [d], M, Wd ++ [x], by omega, by omega, rfl, by simp, by simp; omega, by omega, hMM, ML6, HRN, by simpa using HG6, hLn⟩
            case measure => simp [intOf]; omega
        · have i5 : ¬ (k : Int) = (P.length : Int) - 1 := by omega
          have HRN : Hid (runE P.length (P.drop (k + 1)) (k + 1) M (Wd ++ [x]) = runE P.length (P.drop 2) 2 [] []) := by
            have h1 := hrun.out
            rw [HD.out, run_word HXB.out hlast] at h1
            exact h1
          have HG6 := hid G6
          clear G6
          go_wp2_with fail
          go_roundw
          case rel => exact ⟨k + 1, At, ct, hd, Ls, some ⟨g6, 0, none⟩, c6, cur ++ [d], M, Wd ++ [x], by omega, by omega, by go_num, by simp, by simp; omega, by omega, hMM, ML6, HRN, by simpa using HG6, hLn⟩
          case measure => simp [intOf]; omega
    · obtain rfl : k = P.length := by omega
      have i1 : ¬ (P.length : Int) < (P.length : Int) := by omega
      have HM : Hid (M = runE P.length (P.drop 2) 2 [] []) := by
        have h1 := hrun.out
        rw [List.drop_length, runE] at h1
        exact h1
      have G := hG.out
      have c0 := G.ens.cell 0; have c1 := G.ens.cell 1; have c2 := G.ens.cell 2
      clear hrun
      go_wp2_with fail
      refine (sEnsText_any f b At Ls.length ct _ _ wr G.rdT (by omega) (hid fun i hi => Nat.le_trans (hLn.out i hi) (by omega))).mono ?_
      rintro e w9 ⟨rfl, hb9⟩
      have G9 := G.below hb9
      have HMM := hid (hMM.out)
      clear hb9 G c0 c1 c2 hG
      have c0 := G9.ens.cell 0; have c1 := G9.ens.cell 1; have c2 := G9.ens.cell 2
      have d0 := G9.res.cell 0; have d1 := G9.res.cell 1; have d2 := G9.res.cell 2
      have f0 := G9.res.frozen 0; have f1 := G9.res.frozen 1; have f2 := G9.res.frozen 2
      have HW := hid (show Below w.heap.size w ((((w9.setCell ⟨w.heap.size, 0, none⟩ (.int .i64 f)).setCell ⟨w.heap.size, 1, none⟩ (.int .i64 b)).setCell ⟨w.heap.size, 2, none⟩ (.slice At Ls.length ct))) from ((G9.bel.setCell (p := ⟨w.heap.size, 0, none⟩) (Nat.le_refl _) _).setCell (p := ⟨w.heap.size, 1, none⟩) (Nat.le_refl _) _).setCell (p := ⟨w.heap.size, 2, none⟩) (Nat.le_refl _) _)
      have HZ := hid (show Below w.heap.size w ((((w9.setCell ⟨w.heap.size, 0, none⟩ (.int .i64 0)).setCell ⟨w.heap.size, 1, none⟩ (.int .i64 0)).setCell ⟨w.heap.size, 2, none⟩ (.slice none 0 0))) from ((G9.bel.setCell (p := ⟨w.heap.size, 0, none⟩) (Nat.le_refl _) _).setCell (p := ⟨w.heap.size, 1, none⟩) (Nat.le_refl _) _).setCell (p := ⟨w.heap.size, 2, none⟩) (Nat.le_refl _) _)
      obtain ⟨S, HS⟩ : ∃ S, Hid (ensS f b Ls.length (fun i => (Ls.getD i []).length) (fun i j => (Ls.getD i []).getD j zNd) = S) := ⟨_, hid rfl⟩
      rw [HS.out]
      by_cases he : S = s
      · have he2 : (S.toList == s.toList) = true := by rw [he]; simp
        have HE := hid he
        clear he
        go_wp2_with fail
        refine bodyPost_ret (results_en rfl _ _ w.heap.size 26 #[.int .i64 f, .int .i64 b, .slice At Ls.length ct] (0, 0) _ rfl (((G9.res.set_ 0 (.int .i64 f)).set_ 1 (.int .i64 b)).set_ 2 (.slice At Ls.length ct)) Tryz.underlying26 rfl size_ens) rfl ?_
        have hok : ensB f b Ls.length (fun i => (Ls.getD i []).length) (fun i j => (Ls.getD i []).getD j zNd) = true := by
          cases hq : ensB f b Ls.length (fun i => (Ls.getD i []).length) (fun i j => (Ls.getD i []).getD j zNd)
          · have hz : S = ⟨#[]⟩ := by rw [← HS.out]; unfold ensS; rw [hq]; rfl
            have h3 : (allW 32 s).length = 1 := by rw [← HE.out, hz]; rfl
            rw [HP.out] at h3
            omega
          · rfl
        have hq : w.heap.size < eb + 1 := by omega
        exact ⟨.inl ⟨f, b, Ls, hd, At, ct, hok, by rw [HS.out, HE.out], rfl, own_weak (own_setE (own_setE (own_setE G9.rows hq _) hq _) hq _) (by omega), fun i hi => own_weak (own_setE (own_setE (own_setE (G9.trs i hi) hq _) hq _) hq _) (by omega), G9.dst⟩, HW.out⟩
      · have he2 := ba_listT he
        have HE := hid he
        clear he
        go_wp2_with fail
        refine bodyPost_ret (results_en rfl _ _ w.heap.size 26 #[.int .i64 0, .int .i64 0, .slice none 0 0] (0, 0) _ rfl (((G9.res.set_ 0 (.int .i64 0)).set_ 1 (.int .i64 0)).set_ 2 (.slice none 0 0)) Tryz.underlying26 rfl size_ens) rfl ?_
        refine ⟨.inr ⟨fun f' b' n len g h e => HE.out ?_, rfl⟩, HZ.out⟩
        have hr := run_ens h
        have hPw : P = decS f' :: decS b' :: treesT len g n := by rw [← HP.out, e, hr.1]
        have h0 : f = f' := HF.out.2.1 f' (ens_in h).1 (by rw [← HX0.out, hPw]; rfl)
        have h1 : b = b' := HF.out.2.2.2 b' (ens_in h).2.1 (by rw [← HX1.out, hPw]; rfl)
        have hM2 : M = (List.range n).map fun i => ndsT (len i) (g i) := by
          rw [HM.out, hPw, ← hr.2]
          congr 1
          simp
          omega
        obtain ⟨hn, hee⟩ := means_ens h HMM.out hM2
        rw [← HS.out, e, h0, h1, hn]
        exact ens_congr h hee
end

/-! ### ReE -/
section
set_option linter.unusedVariables false
set_option linter.unusedSimpArgs false
open Go.RowKit Go.Deep

theorem occ_bar {l : List UInt8} {j : Nat} (h : Lib.occAt l [32, 124, 32] j = true) : l[j]? = some 32 ∧ l[j + 1]? = some 124 ∧ ∃ r, l.drop j = [32, 124, 32] ++ r := by
  unfold Lib.occAt at h
  obtain ⟨r, hr⟩ := List.isPrefixOf_iff_prefix.1 h
  have h1 : ∀ i, (l.drop j)[i]? = l[j + i]? := fun i => List.getElem?_drop
  refine ⟨?_, ?_, r, hr.symm⟩
  · rw [← Nat.add_zero j, ← h1, ← hr]; rfl
  · rw [← h1, ← hr]; rfl
theorem sepE_list : sepE.data.toList = [32, 124, 32] := rfl
theorem indexE_at {t r : ByteArray} (h : NoC 124 t) : Lib.indexB (t ++ sepE ++ r) sepE = (t.size : Nat) := by
  show Lib.index _ _ = _
  rw [data_app, data_app, sepE_list, ← size_len, List.append_assoc]
  refine Lib.index_first (by simp) ?_ fun j hj => ?_
  · unfold Lib.occAt
    rw [List.drop_left]
    exact List.isPrefixOf_iff_prefix.2 ⟨_, rfl⟩
  · cases hq : Lib.occAt (t.data.toList ++ ([32, 124, 32] ++ r.data.toList)) [32, 124, 32] j
    · rfl
    · obtain ⟨_, h2, _⟩ := occ_bar hq
      by_cases e : j + 1 < t.data.toList.length
      · rw [List.getElem?_append_left e] at h2
        exact absurd (List.mem_of_getElem? h2) h
      · rw [List.getElem?_append_right (by omega), show j + 1 - t.data.toList.length = 0 by omega] at h2
        simp at h2
theorem indexE_not {s : ByteArray} (h : NoC 124 s) : Lib.indexB s sepE = -1 := by
  show Lib.index _ _ = _
  rw [sepE_list]
  refine Lib.index_none fun j _ => ?_
  cases hq : Lib.occAt s.data.toList [32, 124, 32] j
  · rfl
  · exact absurd (List.mem_of_getElem? (occ_bar hq).2.1) h
theorem extE_head (t r : ByteArray) : (t ++ sepE ++ r).extract 0 t.size = t := by
  apply ba_ext
  rw [Lib.extract_data, data_app, data_app]
  simp
theorem extE_tail (t r : ByteArray) : (t ++ sepE ++ r).extract (t.size + 3) (t ++ sepE ++ r).size = r := by
  apply ba_ext
  rw [Lib.extract_data, ← size_len (t ++ sepE ++ r), data_app, data_app]
  have e : (t.data.toList ++ sepE.data.toList).length = t.size + 3 := by rw [List.length_append, size_len]; rfl
  rw [List.drop_append_of_le_length (by rw [e]; exact Nat.le_refl _), List.drop_of_length_le (by rw [e]; exact Nat.le_refl _), List.nil_append, List.take_of_length_le]
  rw [List.length_append, e, size_len]
  omega
theorem splitE_no {s : ByteArray} (k : Nat) (h : NoC 124 s) : Lib.splitB sepE 0 k s = [s] := Lib.splitB_miss _ _ _ _ (indexE_not h)
theorem splitE_hit {t r : ByteArray} (k : Nat) (h : Lib.indexB (t ++ sepE ++ r) sepE = (t.size : Nat)) : Lib.splitB sepE 0 (k + 1) (t ++ sepE ++ r) = t :: Lib.splitB sepE 0 k r := by
  rw [Lib.splitB_hit _ _ _ _ _ h, Nat.add_zero, extE_head]
  have e : t.size + sepE.size = t.size + 3 := rfl
  rw [e, extE_tail]
theorem splitE_at {t r : ByteArray} (k : Nat) (h : NoC 124 t) : Lib.splitB sepE 0 (k + 1) (t ++ sepE ++ r) = t :: Lib.splitB sepE 0 k r := splitE_hit k (indexE_at h)
theorem partE_or (s : ByteArray) : Lib.indexB s sepE = -1 ∨ ∃ t r, s = t ++ sepE ++ r ∧ Lib.indexB s sepE = (t.size : Nat) := by
  rcases Lib.index_spec s.data.toList [32, 124, 32] with ⟨h, _⟩ | ⟨i, h, hi, ho, _⟩
  · exact .inl h
  · right
    obtain ⟨_, _, r, hr⟩ := occ_bar ho
    refine ⟨⟨(s.data.toList.take i).toArray⟩, ⟨r.toArray⟩, ?_, ?_⟩
    · apply ba_ext
      rw [data_app, data_app, sepE_list, List.append_assoc]
      show _ = s.data.toList.take i ++ ([32, 124, 32] ++ r)
      rw [← hr, List.take_append_drop]
    · show Lib.index _ _ = _
      rw [sepE_list, h]
      show (i : Int) = ((s.data.toList.take i).toArray.size : Nat)
      rw [List.size_toArray, List.length_take, Nat.min_eq_left hi]
/-- Joining what was parted. -/
theorem join_splitE : ∀ (k : Nat) (s : ByteArray), joinTo (fun i => (Lib.splitB sepE 0 k s).getD i ByteArray.empty) sepE (Lib.splitB sepE 0 k s).length = s
  | 0, s => by rw [Lib.splitB_zero]; exact join_one _ _
  | k + 1, s => by
    rcases partE_or s with h | ⟨t, r, rfl, h⟩
    · rw [Lib.splitB_miss _ _ _ _ h]; exact join_one _ _
    · rw [splitE_hit k h]
      have ih := join_splitE k r
      generalize hL : Lib.splitB sepE 0 k r = L at ih
      cases L with
      | nil =>
        exfalso
        have : (Lib.splitB sepE 0 k r).length = 0 := by rw [hL]; rfl
        cases k with
        | zero => rw [Lib.splitB_zero] at this; simp at this
        | succ k =>
          unfold Lib.splitB at this
          split at this <;> simp at this
      | cons x L =>
        show joinTo _ _ (L.length + 2) = _
        rw [join_head]
        show t ++ sepE ++ joinTo (fun i => (x :: L).getD i ByteArray.empty) sepE (x :: L).length = _
        rw [ih]
theorem splitE_join : ∀ (n k : Nat) (f : Nat → ByteArray), (∀ i, i < n + 1 → NoC 124 (f i)) → n ≤ k → Lib.splitB sepE 0 k (joinTo f sepE (n + 1)) = (List.range (n + 1)).map f
  | 0, k, f, h, _ => by rw [join_one, splitE_no k (h 0 (by omega))]; rfl
  | n + 1, k, f, h, hk => by
    obtain ⟨k, rfl⟩ : ∃ j, k = j + 1 := ⟨k - 1, by omega⟩
    rw [join_head, splitE_at k (h 0 (by omega)), splitE_join n k (fun i => f (i + 1)) (fun i hi => h (i + 1) (by omega)) (by omega)]
    rw [List.range_succ_eq_map (n := n + 1), List.map_cons, List.map_map]
    rfl
end

/-! ### ReF -/
section
set_option linter.unusedVariables false
set_option linter.unusedSimpArgs false
open Go.RowKit Go.Deep

theorem rdT_of {W : World} {B B' : Nat} {At : Option Addr} {ct : Nat} {hd : Nat → Value} {Ls : List (List Nd)} (hr : W.ownsRow B 45 1 (.slice At Ls.length ct) Ls.length ((List.range Ls.length).map hd))
    (ht : ∀ i, i < Ls.length → W.ownsRow B' 58 6 (hd i) (Ls.getD i []).length ((Ls.getD i []).flatMap ndC)) :
    RdT W W.heap.size At Ls.length (fun i => (Ls.getD i []).length) (fun i j => (Ls.getD i []).getD j zNd) := fun hn => by
  rcases hr.2 with ⟨_, h0⟩ | ⟨g, cap, cs', hv, hb, hg, _, _, _, htk⟩
  · omega
  · injection hv with e1 _ _
    refine ⟨g, 0, e1, Blk.lt hg, fun i hi => ?_⟩
    obtain ⟨A, c, e⟩ := own_formT (ht i hi)
    refine ⟨A, c, ?_, ?_⟩
    · have h1 : (cs'.toList.take (Ls.length * 1))[i]? = ((List.range Ls.length).map hd)[i]? := by rw [htk]
      rw [List.getElem?_take, if_pos (by omega), Array.getElem?_toList, List.getElem?_map, List.getElem?_range hi, Option.map_some, e] at h1
      rw [Nat.zero_add]
      exact (cell_of_row W g i cs' _ (0, 0) hg).trans h1
    · have h2 := ht i hi
      rw [e] at h2
      exact own_rdL h2 rfl
theorem rdT_congr {W : World} {B n : Nat} {A : Option Addr} {len len' : Nat → Nat} {g g' : Nat → Nat → Nd} (h : RdT W B A n len g) (he : ∀ i, i < n → len' i = len i ∧ ∀ j, j < len i → g' i j = g i j) : RdT W B A n len' g' := fun hn => by
  obtain ⟨b, off, e, hb, hc⟩ := h hn
  refine ⟨b, off, e, hb, fun i hi => ?_⟩
  obtain ⟨Ai, ci, h1, h2⟩ := hc i hi
  refine ⟨Ai, ci, by rw [(he i hi).1]; exact h1, ?_⟩
  rw [(he i hi).1]
  exact fun hm => by
    obtain ⟨b', off', e', hb', hc'⟩ := h2 hm
    exact ⟨b', off', e', hb', fun j hj => by rw [(he i hi).2 j hj]; exact hc' j hj⟩
/-- What is read of a text, whatever the text. -/
def EnIs (s : ByteArray) (f b : Int) (n : Nat) (len : Nat → Nat) (g : Nat → Nat → Nd) (m : Bool) : Prop :=
  (m = true ∧ ensB f b n len g = true ∧ s = ensS f b n len g) ∨ (m = false ∧ f = 0 ∧ b = 0 ∧ n = 0 ∧ ∀ f' b' n' len' g', ensB f' b' n' len' g' = true → s ≠ ensS f' b' n' len' g')
theorem rdT_nil {W : World} {B : Nat} {A : Option Addr} {len : Nat → Nat} {g : Nat → Nat → Nd} : RdT W B A 0 len g := fun h => absurd h (by omega)
theorem en_form {s : ByteArray} {w : World} {e : Ending} {w' : World} (h : EnAns s w e w') : ∃ f b n len g A c m, EnIs s f b n len g m ∧ n ≤ 12 ∧ (∀ i, i < n → len i ≤ 15) ∧ e = .returned (.tuple #[enV f b A n c, .bool m]) ∧ RdT w' w'.heap.size A n len g ∧ Below w.heap.size w w' := by
  rcases h with ⟨⟨f, b, Ls, hd, A, c, h1, h2, rfl, h3, h4, _⟩ | ⟨h1, rfl⟩, hb⟩
  · exact ⟨f, b, _, _, _, A, c, true, .inl ⟨rfl, h1, h2⟩, (ens_in h1).2.2.1, fun i hi => tree_le ((ens_in h1).2.2.2 i hi), rfl, rdT_of h3 h4, hb⟩
  · exact ⟨0, 0, 0, fun _ => 0, fun _ _ => zNd, none, 0, false, .inr ⟨rfl, rfl, rfl, rfl, h1⟩, by omega, fun i hi => absurd hi (Nat.not_lt_zero i), rfl, rdT_nil, hb⟩
theorem en_same {s : ByteArray} {f b : Int} {n : Nat} {len : Nat → Nat} {g : Nat → Nat → Nd} {m : Bool} (HA : EnIs s f b n len g m) {w : World} {e : Ending} {w' : World} (h : EnAns s w e w') :
    ∃ A c, e = .returned (.tuple #[enV f b A n c, .bool m]) ∧ RdT w' w'.heap.size A n len g ∧ Below w.heap.size w w' := by
  rcases h with ⟨⟨f', b', Ls, hd, A, c, h1, h2, rfl, h3, h4, _⟩ | ⟨h1, rfl⟩, hb⟩
  · rcases HA with ⟨rfl, k1, k2⟩ | ⟨rfl, rfl, rfl, rfl, k⟩
    · obtain ⟨rfl, rfl, hn, he⟩ := ens_inj h1 k1 (h2.symm.trans k2)
      subst hn
      exact ⟨A, c, rfl, rdT_congr (rdT_of h3 h4) he, hb⟩
    · exact absurd h2 (k _ _ _ _ _ h1)
  · rcases HA with ⟨rfl, k1, k2⟩ | ⟨rfl, rfl, rfl, rfl, k⟩
    · exact absurd k2 (h1 _ _ _ _ _ k1)
    · exact ⟨none, 0, rfl, rdT_nil, hb⟩
end
end Go.Proofs.YtmkipdhappikhaaGreatDoor
