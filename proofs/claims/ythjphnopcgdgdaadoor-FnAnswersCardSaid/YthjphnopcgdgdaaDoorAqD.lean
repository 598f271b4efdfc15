/- The text of an answer speaks of its code, its numbers and its hits, not of its cost: the law's walk. -/
import Derived.Test.YthjphnopcgdgdaaDoorAqC
import Derived.Test.YthjphnopcgdgdaaDoorAnL
import Derived.Test.YthjphnopcgdgdaaDoorRdK
namespace Go.Proofs.YthjphnopcgdgdaaDoor
open Go.RowKit Go.Deep

theorem htS_noC (i s : Int) : NoC 32 (htS i s) := by
  show NoC 32 (decS i ++ one1 58 ++ decS s)
  exact noC_app (noC_app (decS_noC _ (.inl (by decide))) (noC_one (by decide))) (decS_noC _ (.inl (by decide)))
theorem ansF_noC (n : Nat) (z : Nat → Int) (g : Nat → Ht) (i : Nat) : NoC 32 (ansF n z g i) := by
  unfold ansF
  split
  · exact noC_app (noC_one (d := 111) (by decide)) (noC_one (d := 107) (by decide))
  · split
    · exact decS_noC _ (.inl (by decide))
    · exact htS_noC _ _
theorem allW_ans (n : Nat) (z : Nat → Int) (m : Nat) (g : Nat → Ht) : (allW 32 (ansS 0 n z m g)).length = 1 + n + m := by
  have hge := join_size_ge (ansF n z g) (one1 32) rfl (n + m + 1)
  have e1 : ansS 0 n z m g = joinTo (ansF n z g) (one1 32) (n + m + 1) := by
    show joinTo (ansF n z g) ⟨#[32]⟩ (1 + n + m) = _
    rw [show 1 + n + m = n + m + 1 by omega]
    rfl
  have e2 : allW 32 (joinTo (ansF n z g) (one1 32) (n + m + 1)) = _ := split_join (n + m) _ (ansF n z g) (fun i _ => ansF_noC n z g i) (by omega)
  rw [e1, e2]
  simp
  omega
/-- A number more: another text, unless the code says that there is none. -/
theorem ans_more (co : Int) (n : Nat) (z y : Nat → Int) (m : Nat) (g : Nat → Ht) : ((ansS co (n + 1) y m g).toList == (ansS co n z m g).toList) = (co != 0) := by
  by_cases h : co = 0
  · subst h
    have hne : ansS 0 (n + 1) y m g ≠ ansS 0 n z m g := fun e => by
      have h1 := allW_ans (n + 1) y m g
      rw [e, allW_ans] at h1
      omega
    rw [ba_listT hne]
    rfl
  · have e : ansS co (n + 1) y m g = ansS co n z m g := by
      unfold ansS
      rw [if_neg h, if_neg h]
    rw [e]
    simp [h]
theorem wpList_append_noneA {P : Program} {w : World} {ops : Array Oper} {rest : List Oper} {o : Oper} {a : Act} {Q : Exit → Act → World → Prop} (hgd : o.guard = none) (s x : Operand) (t : TypeId)
    (ho : o.op = .call { callee := .builtin .append, args := #[s, x], argTypes := #[t, t] })
    (base : Nat) (e : TypeId) (i : TypeInfo) (size : Nat) (ht : P.underlying t = some (.slice e)) (hi : P.info? e = some i)
    (v : Value) (n : Nat) (xs : List Value) (hs : a.eval s = v) (hown : w.ownsRow base e size v n xs) (hx : a.eval x = .slice none 0 0)
    (h : wpList P ops Q rest (a.put o.dst v) w) : wpList P ops Q (o :: rest) a w :=
  wpList_plain hgd fun K hK => by
    have hr := run_append_owned_none (P := P) (w := w) base t o.type e i size ht hi v n xs hown
    unfold Oper.wp execOp
    simp only [ho, resolve, invoke, builtin, Sem.run_bind, Sem.run_pure, Result.andThen_ok, List.map_toArray, List.map_cons, List.map_nil, hs, hx, hr]
    exact hK _ _ h
set_option maxRecDepth 100000 in
theorem wpList_append_nums {w : World} {ops : Array Oper} {rest : List Oper} {o : Oper} {a : Act} {Q : Exit → Act → World → Prop} (hgd : o.guard = none) (s x : Operand) (t : TypeId)
    (ho : o.op = .call { callee := .builtin .append, args := #[s, x], argTypes := #[t, t] })
    (base : Nat) (ht : Tryd.prog.underlying t = some (.slice 2)) (v : Value) (hs : a.eval s = v) (hown : w.ownsRow base 2 1 v 0 []) (A : Option Addr) (n c : Nat) (z : Nat → Int) (hx : a.eval x = .slice A n c)
    (hsh : (A = none ∧ n = 0 ∧ c = 0) ∨ ∃ b, A = some ⟨b, 0, none⟩) (hrd : Rd w w.heap.size A n z) (hn : n ≤ 4) (hbase : base ≤ w.heap.size)
    (h : ∀ v' w', w'.ownsRow base 2 1 v' n (numsOf n z) → w.grownBy w' v.ownBlock → wpList Tryd.prog ops Q rest (a.put o.dst v') w') : wpList Tryd.prog ops Q (o :: rest) a w := by
  obtain ⟨i0, hi0, hz0, hz1, hz2⟩ := info_parts info_int
  rcases hsh with ⟨rfl, rfl, rfl⟩ | ⟨b, rfl⟩
  · exact wpList_append_noneA hgd s x t ho base 2 i0 1 ht hi0 v 0 [] hs hown hx (h v w hown ⟨rfl, rfl, rfl, Nat.le_refl _, fun _ _ _ => rfl⟩)
  · refine wpList_append_own _ hgd s x t ho base 2 i0 (.int .i64 0) 1 8 ht hi0 hz0 hz1 hz2 rfl (by decide) v 0 [] hs hown ⟨b, 0, none⟩ n c (numsOf n z) hx (by rw [numsOf_len]; omega) (fun j u hu => ?_) (numsOf_one n z) (by unfold maxLen; omega) (by omega) hbase fun v' w' h1 h2 _ => h v' w' (by rw [Nat.zero_add, List.nil_append] at h1; exact h1) h2
    obtain ⟨hj, rfl⟩ := numsOf_at hu
    obtain ⟨b', off, e, _, hc⟩ := hrd (by omega)
    injection e with e
    injection e with e1 e2 _
    subst e1 e2
    rw [Addr.add_lit]
    exact hc j hj
/-- The answers' boxes. -/
def AQ3 (w0 : World) (p q r : Nat) (cp cq cr : Array Value) (W : World) : Prop := Blk W p 44 cp ∧ Blk W q 44 cq ∧ Blk W r 44 cr ∧ Below w0.heap.size w0 W
theorem AQ3.below {w0 W W' : World} {p q r : Nat} {cp cq cr : Array Value} (h : AQ3 w0 p q r cp cq cr W) (hb : Below W.heap.size W W') : AQ3 w0 p q r cp cq cr W' :=
  ⟨h.1.below hb h.1.lt, h.2.1.below hb h.2.1.lt, h.2.2.1.below hb h.2.2.1.lt, h.2.2.2.trans (hb.mono h.2.2.2.size)⟩
theorem AQ3.alloc {w0 W : World} {p q r : Nat} {cp cq cr : Array Value} (h : AQ3 w0 p q r cp cq cr W) (o : Obj) : AQ3 w0 p q r cp cq cr (W.alloc o) := h.below ((Below.refl _ W).alloc (Nat.le_refl _) o)
theorem AQ3.grown {w0 W W' : World} {p q r : Nat} {cp cq cr : Array Value} {row : Option Nat} (h : AQ3 w0 p q r cp cq cr W) (hg : W.grownBy W' row) (hr : ∀ k, row = some k → p ≠ k ∧ q ≠ k ∧ r ≠ k ∧ w0.heap.size ≤ k) : AQ3 w0 p q r cp cq cr W' :=
  ⟨h.1.grown hg (fun e => (hr _ e.symm).1 rfl), h.2.1.grown hg (fun e => (hr _ e.symm).2.1 rfl), h.2.2.1.grown hg (fun e => (hr _ e.symm).2.2.1 rfl), h.2.2.2.grown hg h.2.2.2.size (fun k e => (hr k e).2.2.2)⟩
theorem AQ3.setr {w0 W : World} {p q r : Nat} {cp cq : Array Value} {a b c d : Value} (h : AQ3 w0 p q r cp cq #[a, b, c, d] W) (hp : p ≠ r) (hq : q ≠ r) (hr : w0.heap.size ≤ r) (v : Value) : AQ3 w0 p q r cp cq #[a, v, c, d] (W.setCell ⟨r, 1, none⟩ v) :=
  ⟨h.1.far (p := ⟨r, 1, none⟩) hp _, h.2.1.far (p := ⟨r, 1, none⟩) hq _, h.2.2.1.set_ 1 v, h.2.2.2.setCell (p := ⟨r, 1, none⟩) hr _⟩
theorem rd_own2 {w : World} {B n c : Nat} {A : Option Addr} {z : Nat → Int} (h : w.ownsRow B 2 1 (.slice A n c) n (numsOf n z)) : Rd w w.heap.size A n z := fun hn => by
  obtain ⟨g, cap, e, _, hr⟩ := own_row h hn
  injection e with e1 _ _
  subst e1
  exact hr.rd hr.lt hn
theorem wanted_at {o : Oper} {ops : Array Oper} {tmps : Array Value} {j d : Nat} (hg : o.guard = some (j, true)) (hd : (ops[j]?).bind (·.dst) = some d) (hv : tmps[d]? = some (.bool true)) : Region.wanted o (yielded ops tmps) = true := by
  unfold Region.wanted
  rw [hg]
  show (yielded ops tmps j == some true) = true
  unfold yielded
  rw [hd]
  simp only [Option.bind_some, hv]
  rfl
/-- What each operation's value is. -/
def VQ (X1 X2 X3 : Value) (S S' : ByteArray) (co : Int) (p : Nat) : Nat → Value
  | 0 => .string S
  | 1 => X1
  | 2 => .string S
  | 5 => X2
  | 6 => .string S
  | 7 => .string S
  | 11 => X3
  | 12 => .string S'
  | 13 => .string S
  | 14 => .bool (co != 0)
  | 15 => .pointer (some ⟨p, 0, none⟩)
  | 16 => .int .i64 co
  | 17 => .bool (co != 0)
  | _ => .bool true

set_option maxRecDepth 100000 in
set_option maxHeartbeats 8000000 in
theorem lawAnswers (A0 : Option Addr) (n0 cap : Nat) (w : World) (h : Bs w w.heap.size A0 n0) (hp : Hid (Pow w w.heap.size)) :
    Calls Tryd.prog 6 #[.slice A0 n0 cap] w fun e w' => e = .returned (.bool true) ∧ Below w.heap.size w w' := by
  by_cases hbig : (1048576 : Int) < (n0 : Int)
  · go_enter Tryd.func6, Tryd.ntmps6
    go_wp2_with fail
    refine (big_yes A0 n0 cap _ hbig).mono ?_
    rintro e w1 ⟨rfl, rfl⟩
    go_wp2_with fail
    go_ret
    exact ⟨rfl, Below.refl _ _⟩
  have HP : Hid (∀ W, Below w.heap.size w W → Pow W W.heap.size) := fun W hW W' hW' => hp.out W' (hW.trans (hW'.mono hW.size))
  clear hp
  go_enter Tryd.func6, Tryd.ntmps6
  go_wp2_with fail
  refine (big_no A0 n0 cap _ (by omega)).mono ?_
  rintro e w1 ⟨rfl, rfl⟩
  go_wp2_with fail
  refine (drawAns A0 n0 cap _ h (by omega)).mono ?_
  rintro e w1 ⟨co, A, n, c, z, B, m, ch, g, ct, rfl, hin, hct0, hct1, hn3, hm3, hsh, hrd, hrh, hb1⟩
  have HI := hid hin
  have hb2 := hb1.alloc hb1.size (.cells (anC co A n c B m ch ct) 44)
  have hB2 := Blk.new w1 44 (anC co A n c B m ch ct)
  have hbx := (Below.refl w1.heap.size w1).alloc (Nat.le_refl _) (.cells (anC co A n c B m ch ct) 44)
  have hrd2 := hrd.to hbx hbx.size
  have hrh2 := hrh.to hbx hbx.size
  have c0 := hB2.cell 0; have c1 := hB2.cell 1; have c2 := hB2.cell 2; have c3 := hB2.cell 3
  clear hin hb1 hrd hrh hbx
  go_wp2_with fail
  clear c0 c1 c2 c3
  generalize w1.alloc (.cells (anC co A n c B m ch ct) 44) = W2 at hb2 hB2 hrd2 hrh2 ⊢
  generalize w1.heap.size = p at hB2 ⊢
  refine (iAns_any co A n c z B m ch g ct _ hrd2 hrh2 HI.out (by omega) (by omega) (hid (HP.out _ hb2))).mono ?_
  rintro e w3 ⟨rfl, hb3⟩
  have hw3 := hb2.trans (hb3.mono hb2.size)
  have hB3 := hB2.below hb3 hB2.lt
  have hrd3 := hrd2.to hb3 hb3.size
  have hrh3 := hrh2.to hb3 hb3.size
  clear hb2 hB2 hrd2 hrh2 hb3
  have c0 := hB3.cell 0; have c1 := hB3.cell 1; have c2 := hB3.cell 2; have c3 := hB3.cell 3
  have f0 := hB3.frozen 0; have f1 := hB3.frozen 1; have f2 := hB3.frozen 2; have f3 := hB3.frozen 3
  have hpl := hB3.lt
  have hwr : IntKind.i64.wrap (ct + 5) = ct + 5 := IntWalk.i64_in _ (by omega)
  have hK := (((hB3.alloc (.cells (anC co A n c B m ch (ct + 5)) 44)).alloc (.cells (anC co A n c B m ch ct) 44)).alloc (.cells #[] 2))
  have k1 : (((w3.alloc (.cells (anC co A n c B m ch (ct + 5)) 44)).alloc (.cells (anC co A n c B m ch ct) 44)).alloc (.cells #[] 2)).cell? ⟨p, 1, none⟩ = some (.slice A n c) := hK.cell 1
  have hx3 := (Below.refl w3.heap.size w3).alloc (Nat.le_refl _) (.cells (anC co A n c B m ch (ct + 5)) 44)
  have hx4 := hx3.alloc hx3.size (.cells (anC co A n c B m ch ct) 44)
  have hx5 := hx4.alloc hx4.size (.cells #[] 2)
  have hrd5 := hrd3.to hx5 hx5.size
  have hrh5 := hrh3.to hx5 hx5.size
  have HR := hid hrd5
  have A5 : AQ3 w p w3.heap.size (w3.heap.size + 1) (anC co A n c B m ch ct) (anC co A n c B m ch (ct + 5)) (anC co A n c B m ch ct) (((w3.alloc (.cells (anC co A n c B m ch (ct + 5)) 44)).alloc (.cells (anC co A n c B m ch ct) 44)).alloc (.cells #[] 2)) :=
    ⟨hK, ((Blk.new w3 _ _).alloc _).alloc _, (Blk.new2 w3 (.cells (anC co A n c B m ch (ct + 5)) 44) 44 (anC co A n c B m ch ct)).alloc _, hw3.trans (hx5.mono hw3.size)⟩
  have hn3' := hid hn3
  have hbase : w3.heap.size + 1 + 1 ≤ (((w3.alloc (.cells (anC co A n c B m ch (ct + 5)) 44)).alloc (.cells (anC co A n c B m ch ct) 44)).alloc (.cells #[] 2)).heap.size := by simp
  have hmade : (((w3.alloc (.cells (anC co A n c B m ch (ct + 5)) 44)).alloc (.cells (anC co A n c B m ch ct) 44)).alloc (.cells #[] 2)).ownsRow (w3.heap.size + 1 + 1) 2 1 (.slice (some ⟨w3.heap.size + 1 + 1, 0, none⟩) 0 0) 0 [] := by
    have := World.ownsRow_made (base := w3.heap.size + 1 + 1) (e := 2) (size := 1) ((w3.alloc (.cells (anC co A n c B m ch (ct + 5)) 44)).alloc (.cells (anC co A n c B m ch ct) 44)) #[] 0 (by simp) (by unfold maxLen; omega) rfl
    simpa using this
  have hwq0 : w.heap.size ≤ w3.heap.size + 1 := by have := hw3.size; omega
  clear hB3 hw3 hx3 hx4 hK hrd5 hrh5
  go_wp2_with (at_builtin; refine wpList_append_nums rfl (.tmp 19) (.tmp 21) 41 rfl (w3.heap.size + 1 + 1) Tryd.underlying41 _ rfl hmade A n c z rfl hsh HR.out (by omega) hbase ?_)
  intro v' w6 hown6 hg6
  have A6 := A5.grown hg6 (fun k e => by have e2 : k = w3.heap.size + 1 + 1 := by simpa [Value.ownBlock] using e.symm
                                         omega)
  have B6 := hx5.grown hg6 hx5.size (fun k e => by have e2 : k = w3.heap.size + 1 + 1 := by simpa [Value.ownBlock] using e.symm
                                                   omega)
  clear A5 hx5 hmade hbase hg6 k1 HR
  have hbase6 : w3.heap.size + 1 + 1 ≤ w6.heap.size := A6.2.2.1.lt
  generalize hqe : w3.heap.size = q at A6 B6 hown6 hbase6 hpl hwq0 hrd3 hrh3 ⊢
  have HQ := hid hqe
  clear hqe
  obtain ⟨i0, hi0, hz0, hz1, hz2⟩ := info_parts info_int
  have A7 := A6.alloc (.cells #[.int .i64 7] 2)
  have B7 := B6.alloc (by omega) (.cells #[.int .i64 7] 2)
  go_wp2_with (at_builtin; refine wpList_append_own _ rfl (.tmp 22) (.tmp 23) 41 rfl (q + 1 + 1) 2 i0 (.int .i64 0) 1 8 Tryd.underlying41 hi0 hz0 hz1 hz2 rfl (by decide) v' n _ rfl (hown6.alloc _) ⟨w6.heap.size, 0, none⟩ 1 1 [.int .i64 7] rfl rfl (cell_one_new _ _ _) (by intro u hu; simp at hu; subst hu; rfl) (by unfold maxLen; omega) (by omega) (by simp; omega) ?_)
  intro v2 w7 hown7 hg7 _
  have hlo : ∀ k, v'.ownBlock = some k → q + 1 + 1 ≤ k := fun k hk => (hown6.lt k hk).1
  have A8 := A7.grown hg7 (fun k e => by have := hlo k e; have := hwq0; omega)
  have B8 := B7.grown hg7 (by have := HQ.out; have := B7.size; omega) (fun k e => by have := hlo k e; omega)
  rw [← numsOf_extT n z 7] at hown7
  obtain ⟨g2, c2, rfl, hg2, -⟩ := own_row hown7 (by omega)
  have hwq : w.heap.size ≤ q + 1 := hwq0
  have c8 := A8.2.2.1.cell 1; have f8 := A8.2.2.1.frozen 1
  have hown9 := own_setw (p := q + 1) (o := 1) hown7 (by omega) (.slice (some ⟨g2, 0, none⟩) (n + 1) c2)
  have A9 := A8.setr (by omega) (by omega) hwq (.slice (some ⟨g2, 0, none⟩) (n + 1) c2)
  have B9 := B8.setCell (p := ⟨q + 1, 1, none⟩) (by show q ≤ q + 1; omega) (.slice (some ⟨g2, 0, none⟩) (n + 1) c2)
  clear A6 A7 A8 B6 B7 B8 hown6 hown7 hg7 hlo hbase6
  go_wp2_with fail
  clear c8 f8
  generalize w7.setCell ⟨q + 1, 1, none⟩ (.slice (some ⟨g2, 0, none⟩) (n + 1) c2) = W9 at A9 B9 hown9 ⊢
  generalize w6.heap.size = h7 at ⊢
  have HN := hid (show n ≤ 3 ∧ m ≤ 3 from ⟨hn3, hm3⟩)
  have HJ : Hid (AnIn co (n + 1) (extT z n 7) m g) := ⟨HI.out.1, fun i hi => by
    unfold extT
    split
    · unfold I64; omega
    · exact HI.out.2.1 i (by omega), HI.out.2.2⟩
  have rC9 := rd_own2 hown9
  have HH : Hid (∀ W, Below W9.heap.size W9 W → AQ3 w p q (q + 1) (anC co A n c B m ch ct) (anC co A n c B m ch (ct + 5)) (anC co (some ⟨g2, 0, none⟩) (n + 1) c2 B m ch ct) W ∧ Rd W W.heap.size A n z ∧ RdH W W.heap.size B m g ∧ Rd W W.heap.size (some ⟨g2, 0, none⟩) (n + 1) (extT z n 7) ∧ Pow W W.heap.size) := fun W hW => by
    have hAW := A9.below hW
    have hBW := B9.trans (hW.mono (by have := HQ.out; have := B9.size; omega))
    exact ⟨hAW, hrd3.to hBW (by have := HQ.out; have := hBW.size; omega), hrh3.to hBW (by have := HQ.out; have := hBW.size; omega), rC9.to hW hW.size, HP.out _ hAW.2.2.2⟩
  clear A9 B9 hown9 hrd3 hrh3 rC9 hsh hn3 hm3 hpl hn3'
  obtain ⟨S, HS⟩ : ∃ S, Hid (ansS co n z m g = S) := ⟨_, hid rfl⟩
  obtain ⟨S2, HS2⟩ : ∃ S2, Hid (ansS co (n + 1) (extT z n 7) m g = S2) := ⟨_, hid rfl⟩
  have HMR : Hid ((S2.toList == S.toList) = (co != 0)) := by
    show _ = _
    rw [← HS.out, ← HS2.out]
    exact ans_more co n z (extT z n 7) m g
  rw [HS.out]
  obtain ⟨F, HF⟩ : ∃ F : Nat → Value → World → Prop, F = fun j v _ => v = VQ (anV co A n c B m ch ct) (anV co A n c B m ch (ct + 5)) (anV co (some ⟨g2, 0, none⟩) (n + 1) c2 B m ch ct) S S2 co p j := ⟨_, rfl⟩
  have FB : ∀ j v w w', F j v w → Below w.heap.size w w' → F j v w' := by rw [HF]; exact fun _ _ _ _ h _ => h
  have HV : ∀ (V : Nat → Value) (j : Nat) (W : World), F j (V j) W → V j = VQ (anV co A n c B m ch ct) (anV co A n c B m ch (ct + 5)) (anV co (some ⟨g2, 0, none⟩) (n + 1) c2 B m ch ct) S S2 co p j := by rw [HF]; exact fun _ _ _ h => h
  subst HF
  refine region_inv (by kernel_rfl) (by kernel_rfl) (IvA 21 (fun j v _ => v = VQ (anV co A n c B m ch ct) (anV co A n c B m ch (ct + 5)) (anV co (some ⟨g2, 0, none⟩) (n + 1) c2 B m ch ct) S S2 co p j) (fun V => ⟨#[.slice A0 n0 cap, undef, V 20, .pointer (some ⟨p, 0, none⟩), .string S, .pointer (some ⟨q, 0, none⟩), .pointer (some ⟨q + 1, 0, none⟩), .slice A0 n0 cap, .bool false, .slice A0 n0 cap, anV co A n c B m ch ct, anV co A n c B m ch ct, .string S, anV co A n c B m ch ct, .pointer (some ⟨p, 3, none⟩), .int .i64 ct, .int .i64 (ct + 5), .pointer (some ⟨q, 3, none⟩), anV co A n c B m ch ct, .slice (some ⟨q + 1 + 1, 0, none⟩) 0 0, .pointer (some ⟨p, 1, none⟩), .slice A n c, v', .slice (some ⟨h7, 0, none⟩) 1 1, .slice (some ⟨g2, 0, none⟩) (n + 1) c2, .pointer (some ⟨q + 1, 1, none⟩), V 0, V 1, V 2, V 3, V 4, V 5, V 6, V 7, V 8, V 9, V 10, V 11, V 12, V 13, V 14, V 15, V 16, V 17, V 18, V 19], []⟩) W9) (fun l a W hI => hI.1) ?_ ?_ ?_
  · exact ⟨by simp, fun j => if j = 20 then .bool false else undef, rfl, (Below.refl W9.heap.size W9).drew, fun j hj hlj => by
      rw [Array.getD_eq_getD_getElem?, Array.getElem?_replicate] at hlj
      split at hlj <;> simp at hlj⟩
  · intro i o ho l a W hI hu hd K hK
    obtain ⟨hl, V, rfl, hW, hV⟩ := hI
    have hi : i < 21 := (Array.getElem?_eq_some_iff.1 ho).1
    obtain ⟨hAB, rA, rB, rC, pw⟩ := HH.out W hW
    have a0 : W.cell? ⟨p, 0, none⟩ = some (.int .i64 co) := hAB.1.cell 0
    have a1 : W.cell? ⟨p, 1, none⟩ = some (.slice A n c) := hAB.1.cell 1
    have a2 : W.cell? ⟨p, 2, none⟩ = some (.slice B m ch) := hAB.1.cell 2
    have a3 : W.cell? ⟨p, 3, none⟩ = some (.int .i64 ct) := hAB.1.cell 3
    have b0 : W.cell? ⟨q, 0, none⟩ = some (.int .i64 co) := hAB.2.1.cell 0
    have b1 : W.cell? ⟨q, 1, none⟩ = some (.slice A n c) := hAB.2.1.cell 1
    have b2 : W.cell? ⟨q, 2, none⟩ = some (.slice B m ch) := hAB.2.1.cell 2
    have b3 : W.cell? ⟨q, 3, none⟩ = some (.int .i64 (ct + 5)) := hAB.2.1.cell 3
    have d0 : W.cell? ⟨q + 1, 0, none⟩ = some (.int .i64 co) := hAB.2.2.1.cell 0
    have d1 : W.cell? ⟨q + 1, 1, none⟩ = some (.slice (some ⟨g2, 0, none⟩) (n + 1) c2) := hAB.2.2.1.cell 1
    have d2 : W.cell? ⟨q + 1, 2, none⟩ = some (.slice B m ch) := hAB.2.2.1.cell 2
    have d3 : W.cell? ⟨q + 1, 3, none⟩ = some (.int .i64 ct) := hAB.2.2.1.cell 3
    obtain rfl | rfl | rfl | rfl | rfl | rfl | rfl | rfl | rfl | rfl | rfl | rfl | rfl | rfl | rfl | rfl | rfl | rfl | rfl | rfl | rfl : i = 0 ∨ i = 1 ∨ i = 2 ∨ i = 3 ∨ i = 4 ∨ i = 5 ∨ i = 6 ∨ i = 7 ∨ i = 8 ∨ i = 9 ∨ i = 10 ∨ i = 11 ∨ i = 12 ∨ i = 13 ∨ i = 14 ∨ i = 15 ∨ i = 16 ∨ i = 17 ∨ i = 18 ∨ i = 19 ∨ i = 20 := by omega
    all_goals obtain rfl := Option.some.inj ho
    · rw [if_pos (by rfl)]
      refine Oper.wp_mono hK ?_
      go_simp
      exact IvA.step _ FB hl hW hV 0 (.string S) _ (by simp [updV]) (Below.refl _ _) rfl
    · rw [if_pos (by rfl)]
      refine Oper.wp_mono hK ?_
      go_simp
      exact IvA.step _ FB hl hW hV 1 (anV co A n c B m ch ct) _ (by simp [updV]) (Below.refl _ _) rfl
    · have e1 := HV V 1 W (hV 1 (by omega) (hd ⟨1, .data⟩ (by simp) rfl))
      rw [if_pos (by rfl)]
      refine Oper.wp_mono hK ?_
      have e1' : V 1 = anV co A n c B m ch ct := e1
      simp only [e1']
      go_simp
      go_at_call 24
      refine Calls.mono (sAns_any co A n c z B m ch g ct W rA rB HI.out (by have := HN.out; omega) (by have := HN.out; omega)) ?_
      rintro e W' ⟨rfl, hb⟩
      rw [HS.out]
      exact IvA.step _ FB hl hW hV 2 (.string S) _ (by simp [updV, e1']) hb rfl
    · have e0 := HV V 0 W (hV 0 (by omega) (hd ⟨0, .data⟩ (by simp) rfl))
      have e2 := HV V 2 W (hV 2 (by omega) (hd ⟨2, .data⟩ (by simp) rfl))
      rw [if_pos (by rfl)]
      refine Oper.wp_mono hK ?_
      have e0' : V 0 = .string S := e0
      have e2' : V 2 = .string S := e2
      simp only [e0', e2']
      go_simp
      exact IvA.step _ FB hl hW hV 3 (.bool true) _ (by simp [updV, e0', e2']) (Below.refl _ _) rfl
    · have e3 := HV V 3 W (hV 3 (by omega) (hd ⟨3, .data⟩ (by simp) rfl))
      rw [if_pos (by rfl)]
      refine Oper.wp_mono hK ?_
      have e3' : V 3 = .bool true := e3
      simp only [e3']
      go_simp
      exact IvA.step _ FB hl hW hV 4 (.bool true) _ (by simp [updV, e3']) (Below.refl _ _) rfl
    · have e4 := HV V 4 W (hV 4 (by omega) (hd ⟨4, .guard⟩ (by simp) rfl))
      rw [if_pos (wanted_at rfl rfl (show some (V 4) = some (Value.bool true) by rw [e4]; rfl))]
      clear e4
      refine Oper.wp_mono hK ?_
      go_simp
      exact IvA.step _ FB hl hW hV 5 (anV co A n c B m ch (ct + 5)) _ (by simp [updV]) (Below.refl _ _) rfl
    · have e5 := HV V 5 W (hV 5 (by omega) (hd ⟨5, .data⟩ (by simp) rfl))
      have e4 := HV V 4 W (hV 4 (by omega) (hd ⟨4, .guard⟩ (by simp) rfl))
      rw [if_pos (wanted_at rfl rfl (show some (V 4) = some (Value.bool true) by rw [e4]; rfl))]
      clear e4
      refine Oper.wp_mono hK ?_
      have e5' : V 5 = anV co A n c B m ch (ct + 5) := e5
      simp only [e5']
      go_simp
      go_at_call 23
      refine Calls.mono (iAns_any co A n c z B m ch g (ct + 5) W rA rB HI.out (by have := HN.out; omega) (by have := HN.out; omega) (hid pw)) ?_
      rintro e W' ⟨rfl, hb⟩
      rw [HS.out]
      exact IvA.step _ FB hl hW hV 6 (.string S) _ (by simp [updV, e5']) hb rfl
    · have e4 := HV V 4 W (hV 4 (by omega) (hd ⟨4, .guard⟩ (by simp) rfl))
      rw [if_pos (wanted_at rfl rfl (show some (V 4) = some (Value.bool true) by rw [e4]; rfl))]
      clear e4
      refine Oper.wp_mono hK ?_
      go_simp
      exact IvA.step _ FB hl hW hV 7 (.string S) _ (by simp [updV]) (Below.refl _ _) rfl
    · have e6 := HV V 6 W (hV 6 (by omega) (hd ⟨6, .data⟩ (by simp) rfl))
      have e7 := HV V 7 W (hV 7 (by omega) (hd ⟨7, .data⟩ (by simp) rfl))
      have e4 := HV V 4 W (hV 4 (by omega) (hd ⟨4, .guard⟩ (by simp) rfl))
      rw [if_pos (wanted_at rfl rfl (show some (V 4) = some (Value.bool true) by rw [e4]; rfl))]
      clear e4
      refine Oper.wp_mono hK ?_
      have e6' : V 6 = .string S := e6
      have e7' : V 7 = .string S := e7
      simp only [e6', e7']
      go_simp
      exact IvA.step _ FB hl hW hV 8 (.bool true) _ (by simp [updV, e6', e7']) (Below.refl _ _) rfl
    · have e4 := HV V 4 W (hV 4 (by omega) (hd ⟨4, .data⟩ (by simp) rfl))
      have e8 := HV V 8 W (hV 8 (by omega) (hd ⟨8, .data⟩ (by simp) rfl))
      rw [if_pos (by rfl)]
      refine Oper.wp_mono hK ?_
      have e4' : V 4 = .bool true := e4
      have e8' : V 8 = .bool true := e8
      simp only [e4', e8']
      go_simp
      exact IvA.step _ FB hl hW hV 9 (.bool true) _ (by simp [updV, e4', e8']) (Below.refl _ _) rfl
    · have e9 := HV V 9 W (hV 9 (by omega) (hd ⟨9, .data⟩ (by simp) rfl))
      rw [if_pos (by rfl)]
      refine Oper.wp_mono hK ?_
      have e9' : V 9 = .bool true := e9
      simp only [e9']
      go_simp
      exact IvA.step _ FB hl hW hV 10 (.bool true) _ (by simp [updV, e9']) (Below.refl _ _) rfl
    · have e10 := HV V 10 W (hV 10 (by omega) (hd ⟨10, .guard⟩ (by simp) rfl))
      rw [if_pos (wanted_at rfl rfl (show some (V 10) = some (Value.bool true) by rw [e10]; rfl))]
      clear e10
      refine Oper.wp_mono hK ?_
      go_simp
      exact IvA.step _ FB hl hW hV 11 (anV co (some ⟨g2, 0, none⟩) (n + 1) c2 B m ch ct) _ (by simp [updV]) (Below.refl _ _) rfl
    · have e11 := HV V 11 W (hV 11 (by omega) (hd ⟨11, .data⟩ (by simp) rfl))
      have e10 := HV V 10 W (hV 10 (by omega) (hd ⟨10, .guard⟩ (by simp) rfl))
      rw [if_pos (wanted_at rfl rfl (show some (V 10) = some (Value.bool true) by rw [e10]; rfl))]
      clear e10
      refine Oper.wp_mono hK ?_
      have e11' : V 11 = anV co (some ⟨g2, 0, none⟩) (n + 1) c2 B m ch ct := e11
      simp only [e11']
      go_simp
      go_at_call 23
      refine Calls.mono (iAns_any co (some ⟨g2, 0, none⟩) (n + 1) c2 (extT z n 7) B m ch g ct W rC rB HJ.out (by have := HN.out; omega) (by have := HN.out; omega) (hid pw)) ?_
      rintro e W' ⟨rfl, hb⟩
      rw [HS2.out]
      exact IvA.step _ FB hl hW hV 12 (.string S2) _ (by simp [updV, e11']) hb rfl
    · have e10 := HV V 10 W (hV 10 (by omega) (hd ⟨10, .guard⟩ (by simp) rfl))
      rw [if_pos (wanted_at rfl rfl (show some (V 10) = some (Value.bool true) by rw [e10]; rfl))]
      clear e10
      refine Oper.wp_mono hK ?_
      go_simp
      exact IvA.step _ FB hl hW hV 13 (.string S) _ (by simp [updV]) (Below.refl _ _) rfl
    · have e12 := HV V 12 W (hV 12 (by omega) (hd ⟨12, .data⟩ (by simp) rfl))
      have e13 := HV V 13 W (hV 13 (by omega) (hd ⟨13, .data⟩ (by simp) rfl))
      have e10 := HV V 10 W (hV 10 (by omega) (hd ⟨10, .guard⟩ (by simp) rfl))
      rw [if_pos (wanted_at rfl rfl (show some (V 10) = some (Value.bool true) by rw [e10]; rfl))]
      clear e10
      refine Oper.wp_mono hK ?_
      have e12' : V 12 = .string S2 := e12
      have e13' : V 13 = .string S := e13
      simp only [e12', e13']
      go_simp
      exact IvA.step _ FB hl hW hV 14 (.bool (S2.toList == S.toList)) _ (by simp [updV, e12', e13']) (Below.refl _ _) (by show Value.bool _ = Value.bool _; rw [HMR.out])
    · have e10 := HV V 10 W (hV 10 (by omega) (hd ⟨10, .guard⟩ (by simp) rfl))
      rw [if_pos (wanted_at rfl rfl (show some (V 10) = some (Value.bool true) by rw [e10]; rfl))]
      clear e10
      refine Oper.wp_mono hK ?_
      go_simp
      exact IvA.step _ FB hl hW hV 15 (.pointer (some ⟨p, 0, none⟩)) _ (by simp [updV]) (Below.refl _ _) rfl
    · have e15 := HV V 15 W (hV 15 (by omega) (hd ⟨15, .data⟩ (by simp) rfl))
      have e10 := HV V 10 W (hV 10 (by omega) (hd ⟨10, .guard⟩ (by simp) rfl))
      rw [if_pos (wanted_at rfl rfl (show some (V 10) = some (Value.bool true) by rw [e10]; rfl))]
      clear e10
      refine Oper.wp_mono hK ?_
      have e15' : V 15 = .pointer (some ⟨p, 0, none⟩) := e15
      simp only [e15']
      go_simp
      exact IvA.step _ FB hl hW hV 16 (.int .i64 co) _ (by simp [updV, e15']) (Below.refl _ _) rfl
    · have e16 := HV V 16 W (hV 16 (by omega) (hd ⟨16, .data⟩ (by simp) rfl))
      have e10 := HV V 10 W (hV 10 (by omega) (hd ⟨10, .guard⟩ (by simp) rfl))
      rw [if_pos (wanted_at rfl rfl (show some (V 10) = some (Value.bool true) by rw [e10]; rfl))]
      clear e10
      refine Oper.wp_mono hK ?_
      have e16' : V 16 = .int .i64 co := e16
      simp only [e16']
      go_simp
      exact IvA.step _ FB hl hW hV 17 (.bool (co != 0)) _ (by simp [updV, e16']) (Below.refl _ _) rfl
    · have e14 := HV V 14 W (hV 14 (by omega) (hd ⟨14, .data⟩ (by simp) rfl))
      have e17 := HV V 17 W (hV 17 (by omega) (hd ⟨17, .data⟩ (by simp) rfl))
      have e10 := HV V 10 W (hV 10 (by omega) (hd ⟨10, .guard⟩ (by simp) rfl))
      rw [if_pos (wanted_at rfl rfl (show some (V 10) = some (Value.bool true) by rw [e10]; rfl))]
      clear e10
      refine Oper.wp_mono hK ?_
      have e14' : V 14 = .bool (co != 0) := e14
      have e17' : V 17 = .bool (co != 0) := e17
      simp only [e14', e17']
      go_simp
      exact IvA.step _ FB hl hW hV 18 (.bool true) _ (by simp [updV, e14', e17']) (Below.refl _ _) rfl
    · have e10 := HV V 10 W (hV 10 (by omega) (hd ⟨10, .data⟩ (by simp) rfl))
      have e18 := HV V 18 W (hV 18 (by omega) (hd ⟨18, .data⟩ (by simp) rfl))
      rw [if_pos (by rfl)]
      refine Oper.wp_mono hK ?_
      have e10' : V 10 = .bool true := e10
      have e18' : V 18 = .bool true := e18
      simp only [e10', e18']
      go_simp
      exact IvA.step _ FB hl hW hV 19 (.bool true) _ (by simp [updV, e10', e18']) (Below.refl _ _) rfl
    · have e19 := HV V 19 W (hV 19 (by omega) (hd ⟨19, .data⟩ (by simp) rfl))
      rw [if_pos (by rfl)]
      refine Oper.wp_mono hK ?_
      have e19' : V 19 = .bool true := e19
      simp only [e19']
      go_simp
      exact IvA.step _ FB hl hW hV 20 (.bool true) _ (by simp [updV, e19']) (Below.refl _ _) rfl
  · intro l a W hI hall
    obtain ⟨hl, V, rfl, hW, hV⟩ := hI
    have e20 : V 20 = .bool true := HV V 20 W (hV 20 (by omega) (getD_in (by omega) (hall 20)))
    have hfin := (HH.out W hW).1.2.2.2
    simp only [e20]
    clear HH FB HV
    go_wp2_with fail
    go_ret
    exact ⟨rfl, hfin⟩
end Go.Proofs.YthjphnopcgdgdaaDoor
