/- The text of an answer, of the program: its region that draws its order, by an invariant. -/
import Derived.Test.YthjphnopcgdgdaaDoorAnS
import Derived.Test.YthjphnopcgdgdaaDoorCatA
import Derived.Test.YthjphnopcgdgdaaDoorRgI
namespace Go.Proofs.YthjphnopcgdgdaaDoor
open Go.RowKit Go.Deep

/-- The three lists that are joined. -/
def ansP (n : Nat) (z : Nat → Int) (m : Nat) (g : Nat → Ht) : Nat → List ByteArray
  | 0 => [⟨#[111, 107]⟩]
  | 1 => (List.range n).map fun i => decS (z i)
  | _ => (List.range m).map fun i => htS (g i).ix (g i).sc
theorem ansP_all (n : Nat) (z : Nat → Int) (m : Nat) (g : Nat → Ht) : catP (ansP n z m g) 3 = (List.range (1 + n + m)).map (ansF n z g) := by
  apply List.ext_getElem?
  intro i
  show ((([] ++ [(⟨#[111, 107]⟩ : ByteArray)]) ++ (List.range n).map fun i => decS (z i)) ++ (List.range m).map fun i => htS (g i).ix (g i).sc)[i]? = _
  rw [List.nil_append, List.getElem?_map, List.getElem?_append, List.getElem?_append]
  simp only [List.length_append, List.length_map, List.length_range, List.length_singleton]
  by_cases h0 : i = 0
  · subst h0
    rw [if_pos (by omega), if_pos (by omega), List.getElem?_range (by omega)]
    rfl
  · by_cases h1 : i < 1 + n
    · obtain ⟨k, rfl⟩ : ∃ k, i = 1 + k := ⟨i - 1, by omega⟩
      rw [if_pos h1, if_neg (by omega), List.getElem?_map, Nat.add_sub_cancel_left, List.getElem?_range (by omega), List.getElem?_range (by omega)]
      simp only [Option.map_some, ansF_num (show k < n by omega)]
    · obtain ⟨k, rfl⟩ : ∃ k, i = 1 + n + k := ⟨i - 1 - n, by omega⟩
      rw [if_neg h1, List.getElem?_map, show 1 + n + k - (1 + n) = k by omega]
      by_cases h2 : k < m
      · rw [List.getElem?_range h2, List.getElem?_range (by omega)]
        simp only [Option.map_some, ansF_hit]
      · rw [List.getElem?_eq_none (by simpa using h2), List.getElem?_eq_none (by simp; omega)]
        rfl
def RowL (w : World) (b : Nat) (L : List ByteArray) : Prop := b < w.heap.size ∧ ∀ (j : Nat) x, L[j]? = some x → w.cell? ⟨b, j, none⟩ = some (.string x)
theorem RowL.below {w w' : World} {b : Nat} {L : List ByteArray} (h : RowL w b L) (hb : Below w.heap.size w w') : RowL w' b L :=
  ⟨Nat.lt_of_lt_of_le h.1 hb.size, fun j x hx => by rw [hb.cell (show (⟨b, j, none⟩ : Addr).block < w.heap.size from h.1)]; exact h.2 j x hx⟩
theorem RowT.list {w : World} {b n : Nat} {f : Nat → ByteArray} (h : RowT w b n f) : RowL w b ((List.range n).map f) :=
  ⟨h.lt, fun j x hx => by
    have hjn : j < n := by
      have := (List.getElem?_eq_some_iff.1 hx).1
      simpa using this
    rw [h.cell hjn]
    simp [hjn] at hx
    rw [hx]⟩
theorem rowL_one (w : World) (x : ByteArray) (t : TypeId) : RowL (w.alloc (.cells #[.string x] t)) w.heap.size [x] :=
  ⟨(Blk.new w t #[.string x]).lt, fun j y hy => by
    obtain rfl : j = 0 := by rcases j with _ | j <;> simp_all
    obtain rfl : x = y := by simpa using hy
    exact (Blk.new w t #[.string x]).cell 0⟩
/-- Joining a list that lies in a row, perhaps with room behind it. -/
theorem join_list {w : World} {b N c M : Nat} {f : Nat → ByteArray} {sep : ByteArray} (hb : b < w.heap.size) (h : ∀ (j : Nat) x, ((List.range N).map f)[j]? = some x → w.cell? ⟨b, j, none⟩ = some (.string x)) (hc : N ≤ c) (hM : (joinTo f sep N).size ≤ M) (hM2 : M ≤ 140737488355328 := by omega) (hN : N ≤ 4194305 := by omega) :
    Calls Tryd.prog 51 #[.slice (some ⟨b, 0, none⟩) N c, .string sep] w fun e w' => e = .returned (.string (joinTo f sep N)) ∧ Below w.heap.size w w' := by
  have hlx : ((List.range N).map f).length = N := by simp
  have hJ := strings_Join b 0 c ((List.range N).map f) sep w (fun j x hx => by rw [Nat.zero_add]; exact h j x hx) hb (by rw [hlx]; omega) (by rw [hlx]; exact hc) (join_len (Nat.le_trans hM hM2))
  rw [hlx, join_is] at hJ
  exact hJ
/-- What each operation's value is, once it has come. -/
def FxA (K1 A K2 B : Value) (n : Nat) (z : Nat → Int) (m : Nat) (g : Nat → Ht) (j : Nat) (v : Value) (w : World) : Prop :=
  match j with
  | 0 => ∃ b, v = .slice (some ⟨b, 0, none⟩) 1 1 ∧ RowL w b (ansP n z m g 0)
  | 1 => v = K1
  | 2 => v = A
  | 3 => ∃ b, v = .slice (some ⟨b, 0, none⟩) n n ∧ RowL w b (ansP n z m g 1)
  | 4 => v = K2
  | 5 => v = B
  | 6 => ∃ b, v = .slice (some ⟨b, 0, none⟩) m m ∧ RowL w b (ansP n z m g 2)
  | 7 => ∃ q b0 b1 b2, v = .slice (some ⟨q, 0, none⟩) 3 3 ∧ Blk w q 54 #[.slice (some ⟨b0, 0, none⟩) 1 1, .slice (some ⟨b1, 0, none⟩) n n, .slice (some ⟨b2, 0, none⟩) m m] ∧ RowL w b0 (ansP n z m g 0) ∧ RowL w b1 (ansP n z m g 1) ∧ RowL w b2 (ansP n z m g 2)
  | _ => ∃ b c', v = .slice (some ⟨b, 0, none⟩) (1 + n + m) c' ∧ 1 + n + m ≤ c' ∧ RowL w b ((List.range (1 + n + m)).map (ansF n z g))
theorem FxA.below {K1 A K2 B : Value} {n : Nat} {z : Nat → Int} {m : Nat} {g : Nat → Ht} {j : Nat} {v : Value} {w w' : World} (h : FxA K1 A K2 B n z m g j v w) (hb : Below w.heap.size w w') : FxA K1 A K2 B n z m g j v w' := by
  match j, h with
  | 0, ⟨b, e, hr⟩ => exact ⟨b, e, hr.below hb⟩
  | 1, h => exact h
  | 2, h => exact h
  | 3, ⟨b, e, hr⟩ => exact ⟨b, e, hr.below hb⟩
  | 4, h => exact h
  | 5, h => exact h
  | 6, ⟨b, e, hr⟩ => exact ⟨b, e, hr.below hb⟩
  | 7, ⟨q, b0, b1, b2, e, hB, h0, h1, h2⟩ => exact ⟨q, b0, b1, b2, e, hB.below hb hB.lt, h0.below hb, h1.below hb, h2.below hb⟩
  | j + 8, ⟨b, c, e, hc, hr⟩ => exact ⟨b, c, e, hc, hr.below hb⟩
/-- What holds while the region's operations come up, in whatever order. -/
def IvA (N : Nat) (F : Nat → Value → World → Prop) (mk : (Nat → Value) → Act) (w1 : World) (l : Array Bool) (a : Act) (w : World) : Prop :=
  l.size = N ∧ ∃ V : Nat → Value, a = mk V ∧ Below w1.heap.size w1 w ∧ ∀ j, j < N → l.getD j false = true → F j (V j) w
theorem getD_in {l : Array Bool} {i : Nat} (hi : i < l.size) (h : l.getD i true = true) : l.getD i false = true := by
  rw [Array.getD_eq_getD_getElem?, Array.getElem?_eq_getElem hi] at h ⊢
  exact h
def updV (V : Nat → Value) (i : Nat) (v : Value) : Nat → Value := fun j => if j = i then v else V j
theorem IvA.step {N : Nat} (F : Nat → Value → World → Prop) (hF : ∀ j v w w', F j v w → Below w.heap.size w w' → F j v w') {mk : (Nat → Value) → Act} {w1 : World} {l : Array Bool} {V : Nat → Value} {w w' : World} (hl : l.size = N) (hw : Below w1.heap.size w1 w) (h : ∀ j, j < N → l.getD j false = true → F j (V j) w)
    (i : Nat) (v : Value) (a' : Act) (ha : a' = mk (updV V i v)) (hb : Below w.heap.size w w') (hv : F i v w') : IvA N F mk w1 (l.setIfInBounds i true) a' w' := by
  refine ⟨by simpa using hl, updV V i v, ha, hw.trans (hb.mono hw.size), fun j hj hlj => ?_⟩
  unfold updV
  by_cases e : j = i
  · subst e; rw [if_pos rfl]; exact hv
  · rw [if_neg e]
    refine hF _ _ _ _ (h j hj ?_) hb
    rw [Array.getD_eq_getD_getElem?, Array.getElem?_setIfInBounds_ne (by omega), ← Array.getD_eq_getD_getElem?] at hlj
    exact hlj

set_option maxRecDepth 100000 in
set_option maxHeartbeats 4000000 in
theorem iAns_ok (A : Option Addr) (n c : Nat) (z : Nat → Int) (B : Option Addr) (m ch : Nat) (g : Nat → Ht) (ct : Int) (w : World) (h : Rd w w.heap.size A n z) (h' : RdH w w.heap.size B m g) (hin : AnIn 0 n z m g) (hn : n ≤ 2097152) (hm : m ≤ 2097152) (hp : Hid (Pow w w.heap.size)) :
    Calls Tryd.prog 23 #[anV 0 A n c B m ch ct] w fun e w' => e = .returned (.string (ansS 0 n z m g)) ∧ Below w.heap.size w w' := by
  have hw0 := (Below.refl w.heap.size w).alloc (Nat.le_refl _) (.cells (anC 0 A n c B m ch ct) 44)
  have hB0 := Blk.new w 44 (anC 0 A n c B m ch ct)
  have HI := hid hin
  have HA : Hid (ansS 0 n z m g = joinTo (ansF n z g) ⟨#[32]⟩ (1 + n + m)) := if_pos rfl
  clear hin
  go_enter Tryd.func23, Tryd.ntmps23
  go_wp2_with fail
  generalize w.alloc (.cells (anC 0 A n c B m ch ct) 44) = w1 at hw0 hB0 ⊢
  obtain ⟨F, HF⟩ : ∃ F, Hid (F = FxA (.pointer (some ⟨w.heap.size, 1, none⟩)) (.slice A n c) (.pointer (some ⟨w.heap.size, 2, none⟩)) (.slice B m ch) n z m g) := ⟨_, hid rfl⟩
  have FB : ∀ j v w w', F j v w → Below w.heap.size w w' → F j v w' := by rw [HF.out]; exact fun _ _ _ _ h hb => FxA.below h hb
  have HH : Hid (∀ W, Below w1.heap.size w1 W → W.cell? ⟨w.heap.size, 1, none⟩ = some (.slice A n c) ∧ W.cell? ⟨w.heap.size, 2, none⟩ = some (.slice B m ch) ∧ Rd W W.heap.size A n z ∧ RdH W W.heap.size B m g ∧ Pow W W.heap.size ∧ Below w.heap.size w W) := fun W hW => by
    have hwW := hw0.trans (hW.mono hw0.size)
    exact ⟨(hB0.below hW hB0.lt).cell 1, (hB0.below hW hB0.lt).cell 2, h.to hwW hwW.size, h'.to hwW hwW.size, fun W' hW' => hp.out W' (hwW.trans (hW'.mono hwW.size)), hwW⟩
  clear hB0 hw0
  refine region_inv (by kernel_rfl) (by kernel_rfl) (IvA 10 F (fun V => ⟨#[anV 0 A n c B m ch ct, .pointer (some ⟨w.heap.size, 0, none⟩), .string ⟨#[]⟩, V 9, .pointer (some ⟨w.heap.size, 0, none⟩), .int .i64 0, .bool false, undef, undef, undef, undef, V 0, V 1, V 2, V 3, V 4, V 5, V 6, V 7, V 8, undef, undef], []⟩) w1) (fun l a W hI => hI.1) ?_ ?_ ?_
  · exact ⟨by simp, fun _ => undef, rfl, (Below.refl w1.heap.size w1).drew, fun j hj hlj => by
      rw [Array.getD_eq_getD_getElem?, Array.getElem?_replicate] at hlj
      split at hlj <;> simp at hlj⟩
  · intro i o ho l a W hI hu hd K hK
    obtain ⟨hl, V, rfl, hW, hV⟩ := hI
    have hi : i < 10 := by
      have := (Array.getElem?_eq_some_iff.1 ho).1
      exact this
    obtain ⟨cA, cB, rA, rB, pw, hwW⟩ := HH.out W hW
    obtain rfl | rfl | rfl | rfl | rfl | rfl | rfl | rfl | rfl | rfl : i = 0 ∨ i = 1 ∨ i = 2 ∨ i = 3 ∨ i = 4 ∨ i = 5 ∨ i = 6 ∨ i = 7 ∨ i = 8 ∨ i = 9 := by omega
    all_goals
      obtain rfl := Option.some.inj ho
      rw [if_pos (by rfl)]
      refine Oper.wp_mono hK ?_
    · go_simp
      exact IvA.step F FB hl hW hV 0 (.slice (some ⟨W.heap.size, 0, none⟩) 1 1) _ (by simp [updV]) ((Below.refl W.heap.size W).alloc (Nat.le_refl _) _) (by rw [HF.out]; exact ⟨_, rfl, rowL_one W _ _⟩)
    · go_simp
      exact IvA.step F FB hl hW hV 1 (.pointer (some ⟨w.heap.size, 1, none⟩)) _ (by simp [updV]) (Below.refl _ _) (by rw [HF.out]; exact rfl)
    · have e1 := hV 1 (by omega) (hd ⟨1, .data⟩ (by simp) rfl)
      rw [HF.out] at e1
      have e1' : V 1 = .pointer (some ⟨w.heap.size, 1, none⟩) := e1
      simp only [e1']
      go_simp
      exact IvA.step F FB hl hW hV 2 (.slice A n c) _ (by simp [updV, e1']) (Below.refl _ _) (by rw [HF.out]; exact rfl)
    · have e1 := hV 2 (by omega) (hd ⟨2, .data⟩ (by simp) rfl)
      rw [HF.out] at e1
      have e1' : V 2 = .slice A n c := e1
      simp only [e1']
      go_simp
      go_at_call 49
      refine Calls.mono (texts_int A n c z W rA (by omega) (hid HI.out.2.1) (hid pw)) ?_
      rintro e W' ⟨b, rfl, hlb, hr, hb⟩
      exact IvA.step F FB hl hW hV 3 (.slice (some ⟨b, 0, none⟩) n n) _ (by simp [updV, e1']) hb (by rw [HF.out]; exact ⟨b, rfl, hr.list⟩)
    · go_simp
      exact IvA.step F FB hl hW hV 4 (.pointer (some ⟨w.heap.size, 2, none⟩)) _ (by simp [updV]) (Below.refl _ _) (by rw [HF.out]; exact rfl)
    · have e1 := hV 4 (by omega) (hd ⟨4, .data⟩ (by simp) rfl)
      rw [HF.out] at e1
      have e1' : V 4 = .pointer (some ⟨w.heap.size, 2, none⟩) := e1
      simp only [e1']
      go_simp
      exact IvA.step F FB hl hW hV 5 (.slice B m ch) _ (by simp [updV, e1']) (Below.refl _ _) (by rw [HF.out]; exact rfl)
    · have e1 := hV 5 (by omega) (hd ⟨5, .data⟩ (by simp) rfl)
      rw [HF.out] at e1
      have e1' : V 5 = .slice B m ch := e1
      simp only [e1']
      go_simp
      go_at_call 50
      refine Calls.mono (texts_hit B m ch g W rB (by omega) (hid HI.out.2.2) (hid pw)) ?_
      rintro e W' ⟨b, rfl, hlb, hr, hb⟩
      exact IvA.step F FB hl hW hV 6 (.slice (some ⟨b, 0, none⟩) m m) _ (by simp [updV, e1']) hb (by rw [HF.out]; exact ⟨b, rfl, hr.list⟩)
    · have e0 := hV 0 (by omega) (hd ⟨0, .data⟩ (by simp) rfl)
      have e3 := hV 3 (by omega) (hd ⟨3, .data⟩ (by simp) rfl)
      have e6 := hV 6 (by omega) (hd ⟨6, .data⟩ (by simp) rfl)
      rw [HF.out] at e0 e3 e6
      obtain ⟨b0, e0, h0⟩ := e0
      obtain ⟨b1, e3, h1⟩ := e3
      obtain ⟨b2, e6, h2⟩ := e6
      simp only [e0, e3, e6]
      go_simp
      have hbn := (Below.refl W.heap.size W).alloc (Nat.le_refl _) (.cells #[.slice (some ⟨b0, 0, none⟩) 1 1, .slice (some ⟨b1, 0, none⟩) n n, .slice (some ⟨b2, 0, none⟩) m m] 54)
      exact IvA.step F FB hl hW hV 7 (.slice (some ⟨W.heap.size, 0, none⟩) 3 3) _ (by simp [updV, e0, e3, e6]) hbn (by rw [HF.out]; exact ⟨_, b0, b1, b2, rfl, Blk.new W _ _, h0.below hbn, h1.below hbn, h2.below hbn⟩)
    · have e7 := hV 7 (by omega) (hd ⟨7, .data⟩ (by simp) rfl)
      rw [HF.out] at e7
      obtain ⟨q, b0, b1, b2, e7, hBq, h0, h1, h2⟩ := e7
      simp only [e7]
      go_simp
      go_at_call 48
      have hlen : (catP (ansP n z m g) 3).length = 1 + n + m := by rw [ansP_all]; simp
      refine Calls.mono (concat_any q 3 (ansP n z m g) (fun k => if k = 0 then b0 else if k = 1 then b1 else b2) _ W hBq (hid fun k hk => ?_) (hid fun k hk => ?_) (by omega) (by rw [hlen]; omega) (by rw [hlen]; omega)) ?_
      · obtain rfl | rfl | rfl : k = 0 ∨ k = 1 ∨ k = 2 := by omega
        · rfl
        · simp [ansP]
        · simp [ansP]
      · obtain rfl | rfl | rfl : k = 0 ∨ k = 1 ∨ k = 2 := by omega
        · exact h0
        · exact h1
        · exact h2
      · rintro e W' ⟨A', c', rfl, hown, hb⟩
        rw [hlen] at hown ⊢
        obtain ⟨gb, rfl, hgb, hcc, hcell⟩ := own_strT hown (by omega)
        rw [ansP_all] at hcell
        exact IvA.step F FB hl hW hV 8 (.slice (some ⟨gb, 0, none⟩) (1 + n + m) c') _ (by simp [updV, e7]) hb (by rw [HF.out]; exact ⟨gb, c', rfl, hcc, hgb, fun j x hx => by rw [← hcell j x hx, Nat.zero_add]⟩)
    · have e8 := hV 8 (by omega) (hd ⟨8, .data⟩ (by simp) rfl)
      go_simp
      exact IvA.step F FB hl hW hV 9 (V 8) _ (by simp [updV]) (Below.refl _ _) (by rw [HF.out] at e8 ⊢; exact e8)
  · intro l a W hI hall
    obtain ⟨hl, V, rfl, hW, hV⟩ := hI
    have e9 := hV 9 (by omega) (getD_in (by omega) (hall 9))
    rw [HF.out] at e9
    obtain ⟨b, c', e9, hcc, hb, hcell⟩ := e9
    have hwW := (HH.out W hW).2.2.2.2.2
    have HJ := hid (join_list hb hcell hcc (ansT_size HI.out (Nat.le_refl _)))
    simp only [e9]
    clear hcell HH HF FB
    go_wp2_with fail
    refine HJ.out.mono ?_
    rintro e w6 ⟨rfl, hb6⟩
    go_wp2_with fail
    go_ret
    exact ⟨ret_strT HA.out.symm, hwW.trans (hb6.mono hwW.size)⟩
end Go.Proofs.YthjphnopcgdgdaaDoor
