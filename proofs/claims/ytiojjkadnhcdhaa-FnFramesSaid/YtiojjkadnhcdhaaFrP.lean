/- Frames one behind the other, in plain words. -/
import Derived.Test.YtiojjkadnhcdhaaFrG
namespace Go.Proofs.Ytiojjkadnhcdhaa
open Go.RowKit Go.Deep

theorem byS_congr (r : ByteArray) {i j : Nat} (h : i = j) : byS r i = byS r j := by rw [h]
theorem byS_app (a b : ByteArray) (i : Nat) : byS (a ++ b) i = if i < a.size then byS a i else byS b (i - a.size) := by
  unfold byS
  rw [ByteArray.data_append, Array.getElem?_append]
  have h : a.data.size = a.size := rfl
  rw [h]
  split <;> rfl
theorem byS_out {a : ByteArray} {i : Nat} (h : a.size ≤ i) : byS a i = 0 := by
  unfold byS
  rw [Array.getElem?_eq_none (show a.data.size ≤ i from h)]
  rfl
theorem byS_of (l : List Nat) (i : Nat) : byS (bytesOf l) i = (l[i]?.getD 0) % 256 := by
  unfold byS bytesOf
  simp only [List.getElem?_toArray, List.getElem?_map]
  cases l[i]? with
  | none => rfl
  | some x => simp
def catL : List ByteArray → ByteArray
  | [] => ByteArray.empty
  | d :: L => frame d ++ catL L
theorem catL_app (L K : List ByteArray) : catL (L ++ K) = catL L ++ catL K := by
  induction L with
  | nil => simp [catL]
  | cons d L ih => simp only [List.cons_append, catL, ih, ByteArray.append_assoc]
theorem catL_snoc (L : List ByteArray) (d : ByteArray) : catL (L ++ [d]) = catL L ++ frame d := by
  rw [catL_app]; simp [catL]
theorem frame_size_eq {d : ByteArray} (h : d.size ≤ 100000) : (frame d).size = 8 + d.size := by
  rw [frame_yes h, ByteArray.size_append, headB_size]
theorem len4 (r : ByteArray) : lenTo r 4 = ((byS r 0 * 256 + byS r 1) * 256 + byS r 2) * 256 + byS r 3 := by
  simp [lenTo]
theorem frame_at {d : ByteArray} (h : d.size ≤ 100000) (v : ByteArray) (i : Nat) : byS (frame d ++ v) i = if i < 8 then ((headL d)[i]?.getD 0) % 256 else if i < 8 + d.size then byS d (i - 8) else byS v (i - (8 + d.size)) := by
  rw [byS_app, frame_size_eq h, frame_yes h, byS_app, headB_size, byS_of]
  by_cases h1 : i < 8
  · rw [if_pos (by omega), if_pos h1, if_pos h1]
  · rw [if_neg h1, if_neg h1]
theorem head_len {d : ByteArray} (h : d.size ≤ 100000) (v : ByteArray) : lenTo (frame d ++ v) 4 = d.size := by
  rw [len4, frame_at h, frame_at h, frame_at h, frame_at h]
  simp only [headL, be4, le4]
  simp
  omega
theorem head_data {d : ByteArray} (h : d.size ≤ 100000) (v : ByteArray) : dataOf (frame d ++ v) = d := by
  unfold dataOf
  rw [head_len h]
  refine byS_ext_iff (by rw [ByteArray.size_extract, ByteArray.size_append, frame_size_eq h]; omega) fun i hi => ?_
  rw [ByteArray.size_extract, ByteArray.size_append, frame_size_eq h] at hi
  rw [byS_ext _ _ _ _ (by omega), frame_at h, if_neg (by omega), if_pos (by omega)]
  exact byS_congr _ (by omega)
theorem head_yes {d : ByteArray} (h : d.size ≤ 100000) (v : ByteArray) : headB (frame d ++ v) = true := by
  refine headB_yes (by rw [ByteArray.size_append, frame_size_eq h]; omega) (by rw [head_len h]; exact h) (by rw [head_len h, ByteArray.size_append, frame_size_eq h]; omega) ?_
  rw [head_data h]
  refine crcB_all.2 fun i hi => ?_
  rw [frame_at h, if_pos (by omega)]
  have hc := crcS_lt d
  obtain rfl | rfl | rfl | rfl : i = 0 ∨ i = 1 ∨ i = 2 ∨ i = 3 := by omega
  all_goals simp [headL, be4, le4]
theorem head_cut {d : ByteArray} (h : d.size ≤ 100000) (v : ByteArray) {m : Nat} (hm : m < 8 + d.size) : headB ((frame d ++ v).extract 0 m) = false := by
  have hs : ((frame d ++ v).extract 0 m).size ≤ m := by rw [ByteArray.size_extract]; omega
  by_cases h8 : m < 8
  · exact headB_short (by omega)
  · have e : lenTo ((frame d ++ v).extract 0 m) 4 = d.size := by
      rw [len4, byS_ext _ _ _ _ (by omega), byS_ext _ _ _ _ (by omega), byS_ext _ _ _ _ (by omega), byS_ext _ _ _ _ (by omega), Nat.zero_add, Nat.zero_add, Nat.zero_add, Nat.zero_add, ← len4, head_len h]
    exact headB_past (by omega)
/-- What a frame's head says is a frame. -/
theorem head_frame {r : ByteArray} (h : headB r = true) : lenTo r 4 ≤ 100000 ∧ 8 + lenTo r 4 ≤ r.size ∧ frame (dataOf r) = r.extract 0 (8 + lenTo r 4) := by
  simp only [headB, Bool.and_eq_true, decide_eq_true_eq] at h
  obtain ⟨h8, h1, h2, h3⟩ := h
  have hd : (dataOf r).size = lenTo r 4 := dataOf_size h2
  have hc := crcB_all.1 h3
  refine ⟨h1, h2, ?_⟩
  have hds : (dataOf r).size ≤ 100000 := by omega
  refine byS_ext_iff (by rw [frame_size_eq hds, ByteArray.size_extract]; omega) fun i hi => ?_
  rw [frame_size_eq hds] at hi
  have hf := frame_at hds ByteArray.empty i
  rw [ByteArray.append_empty] at hf
  rw [hf, byS_ext _ _ _ _ (by omega), Nat.zero_add]
  by_cases h8 : i < 8
  · rw [if_pos h8]
    by_cases h4 : i < 4
    · have hl := len4 r
      have b0 := byS_lt r 0; have b1 := byS_lt r 1; have b2 := byS_lt r 2; have b3 := byS_lt r 3
      obtain rfl | rfl | rfl | rfl : i = 0 ∨ i = 1 ∨ i = 2 ∨ i = 3 := by omega
      all_goals
        simp only [headL, be4, le4, hd]
        simp
        omega
    · obtain ⟨j, rfl⟩ : ∃ j, i = 4 + j := ⟨i - 4, by omega⟩
      rw [hc j (by omega)]
      obtain rfl | rfl | rfl | rfl : j = 0 ∨ j = 1 ∨ j = 2 ∨ j = 3 := by omega
      all_goals simp [headL, be4, le4]
  · rw [if_neg h8, if_pos (by omega)]
    unfold dataOf
    rw [byS_ext _ _ _ _ (by omega)]
    exact byS_congr _ (by omega)
theorem tk_small (s : ByteArray) : ∀ k, ∀ d ∈ (tkN s k).1, d.size ≤ 100000
  | 0 => fun d hd => by cases hd
  | k + 1 => fun d hd => by
    by_cases hb : headB (restS s (tkN s k).2) = true
    · rw [tkN_next (L := (tkN s k).1) (p := (tkN s k).2) rfl hb] at hd
      rcases List.mem_append.1 hd with hd | hd
      · exact tk_small s k d hd
      · simp only [List.mem_cons, List.not_mem_nil, or_false] at hd
        subst hd
        obtain ⟨h1, h2, _⟩ := head_frame hb
        rw [dataOf_size h2]; exact h1
    · have e : tkN s (k + 1) = tkN s k := by
        show (if headB (restS s (tkN s k).2) = true then _ else tkN s k) = _
        rw [if_neg hb]
      rw [e] at hd
      exact tk_small s k d hd
theorem cat_step {s : ByteArray} {p : Nat} (hp : p ≤ s.size) (hb : headB (restS s p) = true) : s.extract 0 p ++ frame (dataOf (restS s p)) = s.extract 0 (p + 8 + lenTo (restS s p) 4) := by
  obtain ⟨_, h2, h3⟩ := head_frame hb
  rw [h3]
  rw [restS_size] at h2
  generalize lenTo (restS s p) 4 = n at h2 ⊢
  have e1 : (s.extract 0 p).size = p := by rw [ByteArray.size_extract]; omega
  have e2 : ((restS s p).extract 0 (8 + n)).size = 8 + n := by rw [ByteArray.size_extract, restS_size]; omega
  have e3 : (s.extract 0 (p + 8 + n)).size = p + 8 + n := by rw [ByteArray.size_extract]; omega
  refine byS_ext_iff (by rw [ByteArray.size_append, e1, e2, e3]; omega) fun i hi => ?_
  rw [ByteArray.size_append, e1, e2] at hi
  rw [byS_app, e1, byS_ext s 0 (p + 8 + n) i (by omega)]
  split
  · rw [byS_ext _ _ _ _ (by omega)]
  · rw [byS_ext _ _ _ _ (by omega), byS_rest]
    exact byS_congr _ (by omega)
theorem tk_cat (s : ByteArray) : ∀ k, catL (tkN s k).1 = s.extract 0 (tkN s k).2
  | 0 => by simp [tkN, catL]
  | k + 1 => by
    by_cases hb : headB (restS s (tkN s k).2) = true
    · rw [tkN_next (L := (tkN s k).1) (p := (tkN s k).2) rfl hb]
      dsimp only
      rw [catL_snoc, tk_cat s k]
      exact cat_step (tk_len8 s k).1 hb
    · have e : tkN s (k + 1) = tkN s k := by
        show (if headB (restS s (tkN s k).2) = true then _ else tkN s k) = _
        rw [if_neg hb]
      rw [e]
      exact tk_cat s k
theorem rest_app (a b : ByteArray) : restS (a ++ b) a.size = b := by
  refine byS_ext_iff (by rw [restS_size, ByteArray.size_append]; omega) fun i _ => ?_
  rw [byS_rest, byS_app, if_neg (by omega)]
  exact byS_congr _ (by omega)
/-- Frames one behind the other are taken one after the other. -/
theorem tk_of {L : List ByteArray} (hL : ∀ d ∈ L, d.size ≤ 100000) (v : ByteArray) : ∀ j, j ≤ L.length → tkN (catL L ++ v) j = (L.take j, (catL (L.take j)).size)
  | 0, _ => by simp [tkN, catL]
  | j + 1, hj => by
    have ih := tk_of hL v j (by omega)
    obtain ⟨d, hd⟩ : ∃ d, L[j]? = some d := ⟨_, List.getElem?_eq_getElem (by omega)⟩
    have hds := hL d (List.mem_of_getElem? hd)
    have hdrop : L.drop j = d :: L.drop (j + 1) := by
      rw [List.drop_eq_getElem_cons (by omega)]
      congr 1
      rw [List.getElem?_eq_getElem (by omega)] at hd
      injection hd
    have hr : restS (catL L ++ v) (catL (L.take j)).size = frame d ++ (catL (L.drop (j + 1)) ++ v) := by
      have e : catL L ++ v = catL (L.take j) ++ (frame d ++ (catL (L.drop (j + 1)) ++ v)) := by
        conv => lhs; rw [← List.take_append_drop j L, catL_app, hdrop]
        simp only [catL, ByteArray.append_assoc]
      rw [e, rest_app]
    have htake : L.take (j + 1) = L.take j ++ [d] := by
      rw [List.take_add_one, hd]; rfl
    rw [tkN_next ih (by rw [hr]; exact head_yes hds _), hr, head_data hds, head_len hds, htake, catL_snoc, ByteArray.size_append, frame_size_eq hds]
    congr 1
    omega
theorem tk_stop {L : List ByteArray} (hL : ∀ d ∈ L, d.size ≤ 100000) {v : ByteArray} (hv : headB v = false) : tkEnd (catL L ++ v) L.length := by
  refine tkN_end (tk_of hL v L.length (Nat.le_refl _)) ?_
  rw [List.take_length, rest_app]
  exact hv
theorem empty_head : headB ByteArray.empty = false := headB_short (by show ¬ 8 ≤ 0; omega)
theorem cat_cut : ∀ (L : List ByteArray), (∀ d ∈ L, d.size ≤ 100000) → ∀ m, ∃ j v, j ≤ L.length ∧ (catL L).extract 0 m = catL (L.take j) ++ v ∧ headB v = false
  | [], _, m => ⟨0, ByteArray.empty, Nat.le_refl _, by simp [catL], empty_head⟩
  | d :: L, hL, m => by
    have hd := hL d (List.mem_cons_self ..)
    by_cases hm : m < 8 + d.size
    · exact ⟨0, _, Nat.zero_le _, by simp [catL], head_cut hd (catL L) hm⟩
    · obtain ⟨j, v, hj, he, hv⟩ := cat_cut L (fun x hx => hL x (List.mem_cons_of_mem _ hx)) (m - (8 + d.size))
      refine ⟨j + 1, v, by simp; omega, ?_, hv⟩
      simp only [catL, List.take_succ_cons, ByteArray.append_assoc]
      rw [← he]
      refine byS_ext_iff (by rw [ByteArray.size_append, ByteArray.size_extract, ByteArray.size_extract, ByteArray.size_append, frame_size_eq hd]; omega) fun i hi => ?_
      rw [ByteArray.size_extract, ByteArray.size_append, frame_size_eq hd] at hi
      rw [byS_ext _ _ _ _ (by omega), Nat.zero_add, byS_app, byS_app, frame_size_eq hd]
      split
      · rfl
      · rw [byS_ext _ _ _ _ (by omega), Nat.zero_add]
/-- The three facts of the law, for what is taken of s. -/
theorem frames_fact {s : ByteArray} {k : Nat} {L : List ByteArray} {p : Nat} (h : tkN s k = (L, p)) : catL L = s.extract 0 p ∧ ∀ d ∈ L, d.size ≤ 100000 := by
  have h1 := tk_cat s k
  have h2 := tk_small s k
  rw [h] at h1 h2
  exact ⟨h1, h2⟩
theorem more_fact {L : List ByteArray} {t : ByteArray} (hL : ∀ d ∈ L, d.size ≤ 100000) (ht : t.size ≤ 100000) {k : Nat} {K : List ByteArray} {q : Nat} (h : tkN (catL L ++ frame t) k = (K, q)) (he : tkEnd (catL L ++ frame t) k) : K = L ++ [t] ∧ q = (catL L).size + (frame t).size := by
  have hL2 : ∀ d ∈ L ++ [t], d.size ≤ 100000 := fun d hd => by
    rcases List.mem_append.1 hd with hd | hd
    · exact hL d hd
    · simp at hd; subst hd; exact ht
  have e : catL L ++ frame t = catL (L ++ [t]) ++ ByteArray.empty := by rw [catL_snoc, ByteArray.append_empty]
  rw [e] at h he
  have h2 := tk_of hL2 ByteArray.empty (L ++ [t]).length (Nat.le_refl _)
  have := he.same (tk_stop hL2 empty_head)
  rw [h, h2] at this
  injection this with a b
  rw [List.take_length] at a b
  refine ⟨a, ?_⟩
  rw [b, catL_snoc, ByteArray.size_append]
theorem few_fact {L : List ByteArray} (hL : ∀ d ∈ L, d.size ≤ 100000) {m k : Nat} {K : List ByteArray} {q : Nat} (h : tkN ((catL L).extract 0 m) k = (K, q)) (he : tkEnd ((catL L).extract 0 m) k) : K.length ≤ L.length ∧ K = L.take K.length := by
  obtain ⟨j, v, hj, e, hv⟩ := cat_cut L hL m
  rw [e] at h he
  have hL2 : ∀ d ∈ L.take j, d.size ≤ 100000 := fun d hd => hL d (List.mem_of_mem_take hd)
  have h2 := tk_of hL2 v (L.take j).length (Nat.le_refl _)
  have := he.same (tk_stop hL2 hv)
  rw [h, h2] at this
  injection this with a b
  rw [List.take_length] at a
  subst a
  rw [List.length_take, Nat.min_eq_left hj]
  exact ⟨hj, rfl⟩
end Go.Proofs.Ytiojjkadnhcdhaa
