/- CachePut of the other side: the walk. -/
import Derived.Test.YtckhooibjmheiaaCaS
import Derived.Test.YtckhooibjmheiaaCaI
import Derived.Deep.QuietTactic
import Derived.BigQuiet
import Derived.Deep.DeepCutAuto
namespace Go.Proofs.Ytckhooibjmheiaa
open Go.RowKit Go.Deep
set_option linter.unusedVariables false
set_option linter.unusedSimpArgs false

theorem step_append_mayC {P : Program} {w : World} {ops : Array Oper} {o : Oper} {a : Act} {K : Act → World → Prop} {Q : Exit → Act → World → Prop} {E : Prop} (hgd : o.guard = none) (s x : Operand) (t : TypeId)
    (ho : o.op = .call { callee := .builtin .append, args := #[s, x], argTypes := #[t, t] })
    (base : Nat) (e : TypeId) (i : TypeInfo) (z : Value) (size bytes : Nat) (ht : P.underlying t = some (.slice e)) (hi : P.info? e = some i) (hz : i.zero = some z)
    (hsize : i.size = size) (hby : i.bytes = bytes) (hzs : z.cells.size = size) (hsz : 0 < size)
    (v : Value) (n : Nat) (xs : List Value) (hs : a.eval s = v) (hown : w.ownsRow base e size v n xs)
    (A : Option Addr) (m c : Nat) (news : List Value) (hx : a.eval x = .slice A m c) (hl : news.length = m * size) (hnews : 0 < m → ∃ b off, A = some ⟨b, off, none⟩ ∧ ∀ j u, news[j]? = some u → w.cell? ⟨b, off + j, none⟩ = some u) (h1 : ∀ u ∈ news, u.oneCell' = true)
    (h63 : n + m ≤ maxLen) (hbytes : (n + m) * bytes ≤ 140737488355328) (hbase : base ≤ w.heap.size)
    (h : ∀ A' c' w', w'.ownsRow base e size (.slice A' (n + m) c') (n + m) (xs ++ news) → w.grownBy w' v.ownBlock → K (a.put o.dst (.slice A' (n + m) c')) w') :
    if Region.wanted o (yielded ops a.tmps) = true then Oper.wp P o a w K Q else E := by
  have hw : Region.wanted o (yielded ops a.tmps) = true := by simp [Region.wanted, hgd]
  rw [if_pos hw]
  by_cases hm : 0 < m
  · obtain ⟨b, off, rfl, hc⟩ := hnews hm
    refine wp_append_own w s x t ho base e i z size bytes ht hi hz hsize hby hzs hsz v n xs hs hown ⟨b, off, none⟩ m c news hx hl (fun j u hu => by simpa [Addr.add_lit] using hc j u hu) h1 h63 hbytes hbase fun v' w' h2 h3 _ => ?_
    obtain ⟨A', c', rfl⟩ := own_form h2
    exact h A' c' w' h2 h3
  · obtain rfl : m = 0 := by omega
    obtain rfl : news = [] := List.eq_nil_of_length_eq_zero (by omega)
    have hrun := run_append_zeroJ (P := P) (w := w) base t o.type e i size ht hi v n xs hown A c
    obtain ⟨A', c', rfl⟩ := own_form hown
    unfold Oper.wp
    simp [execOp, ho, resolve, invoke, builtin, hs, hx, hrun, Result.andThen]
    exact h A' c' w (by simpa using hown) ⟨rfl, rfl, rfl, Nat.le_refl _, fun _ _ _ => rfl⟩
theorem step_append_may0 {P : Program} {w : World} {ops : Array Oper} {o : Oper} {a : Act} {K : Act → World → Prop} {Q : Exit → Act → World → Prop} {E : Prop} (hgd : o.guard = none) (s x : Operand) (t : TypeId)
    (ho : o.op = .call { callee := .builtin .append, args := #[s, x], argTypes := #[t, t] })
    (base : Nat) (e : TypeId) (i : TypeInfo) (z : Value) (size bytes : Nat) (ht : P.underlying t = some (.slice e)) (hi : P.info? e = some i) (hz : i.zero = some z)
    (hsize : i.size = size) (hby : i.bytes = bytes) (hzs : z.cells.size = size) (hsz : 0 < size)
    (v : Value) (hs : a.eval s = v) (hown : w.ownsRow base e size v 0 [])
    (A : Option Addr) (m c : Nat) (news : List Value) (hx : a.eval x = .slice A m c) (hl : news.length = m * size) (hnews : 0 < m → ∃ b off, A = some ⟨b, off, none⟩ ∧ ∀ j u, news[j]? = some u → w.cell? ⟨b, off + j, none⟩ = some u) (h1 : ∀ u ∈ news, u.oneCell' = true)
    (h63 : m ≤ maxLen) (hbytes : m * bytes ≤ 140737488355328) (hbase : base ≤ w.heap.size)
    (h : ∀ A' c' w', w'.ownsRow base e size (.slice A' m c') m news → w.grownBy w' v.ownBlock → K (a.put o.dst (.slice A' m c')) w') :
    if Region.wanted o (yielded ops a.tmps) = true then Oper.wp P o a w K Q else E :=
  step_append_mayC hgd s x t ho base e i z size bytes ht hi hz hsize hby hzs hsz v 0 [] hs hown A m c news hx hl hnews h1 (by omega) (by rw [Nat.zero_add]; exact hbytes) hbase fun A' c' w' h2 h3 => by
    rw [Nat.zero_add] at h2 ⊢
    exact h A' c' w' (by simpa using h2) h3
section
variable {w0 w w' : World} {A3 : Option Addr} {k rb nb c3 : Nat} {X : Array Value} {s : Nat → Slt}
theorem slots_two {hv : Nat → Value} {at_ : Nat} (hat : at_ < k) : (slotsC k hv s).take (at_ * 3) ++ (slotsC k hv s).drop ((at_ + 1) * 3) = slotsC (k - 1) (cutV hv at_) (cutS s at_) := by
  have hl : (slotsC k hv s).length = k * 3 := slotsC_len _ _ _
  refine three_ext (k := k - 1) (by rw [List.length_append, List.length_take, List.length_drop, hl]; omega) (slotsC_len _ _ _) fun i j hi hj => ?_
  rw [slotsC_at _ _ (k - 1) i j hi hj]
  unfold cutV cutS
  by_cases c : i < at_
  · rw [if_pos c, if_pos c, List.getElem?_append_left (by rw [List.length_take, hl]; omega), List.getElem?_take, if_pos (by omega), slotsC_at _ _ k i j (by omega) hj]
  · rw [if_neg c, if_neg c, List.getElem?_append_right (by rw [List.length_take, hl]; omega), List.length_take, hl, List.getElem?_drop, ← slotsC_at hv s k (i + 1) j (by omega) hj]
    congr 1
    omega
/-- Another row of slots, with boxes of the old ones. -/
theorem PutPk.row {hv : Nat → Value} {s' : Nat → Slt} {k' c5 : Nat} {A5 : Option Addr} (h : PutPk w0 rb nb X A3 k c3 s w) (hb : Below w.heap.size w w') (hbx : Boxes w w0.heap.size k' hv s') (hrow : w'.ownsRow w.heap.size 37 3 (.slice A5 k' c5) k' (slotsC k' hv s')) : PutPk w0 rb nb X A5 k' c5 s' w' := by
  obtain ⟨h2, h3, h4, h5, h6, h7⟩ := h
  exact ⟨h2.below hb h2.lt, h3.below hb h3.lt, ⟨hv, own_lessC hrow h5.size, hbx.below hb⟩, h5.trans (hb.mono h5.size), h6, h7⟩
end
theorem oldI_step (u : Nat → Int) (k : Nat) (hk : 0 < k) : oldI u (k + 1) = if u k < u (oldI u k) then k else oldI u k := by
  simp only [oldI]
  rw [if_neg (by omega)]

set_option maxRecDepth 100000 in
set_option maxHeartbeats 8000000 in
theorem sPut_any (cap clock : Int) (A : Option Addr) (k c : Nat) (s : Nat → Slt) (D : Option Addr) (n dc : Nat) (g : Nat → Sp) (x : Int) (w : World) (h : RdC w w.heap.size A k s) (hd : RdS w w.heap.size D n g) (hn : k ≤ 4194304) (hlen : Hid (∀ i, i < k → (s i).n ≤ 4194304)) (hf : n ≤ 4194304) :
    Calls Try.prog 30 #[caV cap clock A k c, .slice D n dc, .int .i64 x] w (PutAns cap clock k s n g x w) := by
  obtain ⟨j0, hj0, jz0, jz1, jz2⟩ := info_parts info_slot
  obtain ⟨i0, hi0, hz0, hz1, hz2⟩ := info_parts info_span
  have hb3 := ((Below.refl w.heap.size w).alloc (Nat.le_refl _) (.cells #[.int .i64 cap, .int .i64 clock, .slice A k c] 26)).alloc (by simp) (.cells #[.int .i64 0, .int .i64 0, .slice none 0 0] 26)
  have h3 := h.to hb3 hb3.size
  have hE3 := (Blk.new w 26 #[.int .i64 cap, .int .i64 clock, .slice A k c]).alloc (.cells #[.int .i64 0, .int .i64 0, .slice none 0 0] 26)
  have hZ3 := Blk.new2 w (.cells #[.int .i64 cap, .int .i64 clock, .slice A k c] 26) 26 #[.int .i64 0, .int .i64 0, .slice none 0 0]
  go_enter Try.func30, Try.ntmps30
  go_wp2_with fail
  refine (l9Copy_any cap clock A k c s _ h3 hn hlen).mono ?_
  rintro e w4 ⟨A3, c3, rfl, hO4, hb4⟩
  have hw4 := hb3.trans (hb4.mono hb3.size)
  have hsz4 : w.heap.size + 2 ≤ w4.heap.size := by have := hb4.size; simpa using this
  have hP : GetPk w cap clock A k c (w.heap.size + 1) w4.heap.size #[.int .i64 cap, .int .i64 clock, .slice A3 k c3] A3 c3 s (w4.alloc (.cells #[.int .i64 cap, .int .i64 clock, .slice A3 k c3] 26)) :=
    ⟨(hE3.below hb4 hE3.lt).alloc _, (hZ3.below hb4 hZ3.lt).alloc _, Blk.new w4 _ _, (hO4.less (by simp; omega)).below ((Below.refl _ _).alloc (Nat.le_refl _) _), hw4.alloc hw4.size _, by omega, by omega⟩
  obtain ⟨e0, e1, e2, _, _, _⟩ := blk_cells3 hP.1
  have hA := h.to hP.2.2.2.2.1 hP.2.2.2.2.1.size
  have HP := hid hP
  clear hE3 hZ3 hb4 hw4 hO4 h3 hP hb3
  go_wp2_with fail
  refine (sCacheOk_any cap clock A k c s _ hA hn hlen).mono ?_
  rintro e w5 ⟨rfl, hb5⟩
  have hP5 := HP.out.below hb5
  obtain ⟨nb, hnb⟩ : ∃ nb, w4.heap.size = nb := ⟨_, rfl⟩
  rw [hnb] at hP5 hsz4 ⊢
  clear hA HP hb5 e0 e1 e2 hnb
  obtain ⟨n0, n1, n2, n3, n4, n5⟩ := blk_cells3 hP5.2.2.1
  obtain ⟨r0, r1, r2, r3, r4, r5⟩ := blk_cells3 hP5.2.1
  obtain ⟨x0, x1, x2, _, _, _⟩ := blk_cells3 hP5.1
  have HP5 := hid hP5.put
  cases hc : cacheB cap clock k s
  · have hY : Hid (putY cap clock k s n g = false) := by show _ = _; unfold putY canB; rw [hc]; rfl
    clear hc hP5
    go_wp2_with fail
    have hfin := HP5.out.fin (.int .i64 cap) (.int .i64 clock) (.slice A3 k c3)
    refine bodyPost_ret (results_cell_row_tmpC rfl _ _ (w.heap.size + 1) 26 _ (0, 0) _ rfl hfin.1 Try.underlying26 rfl size_cache) rfl ?_
    exact putAns_no hY.out hfin.2.1 hfin.2.2
  · have hck0 := (cacheB_iff.1 hc).2.1
    have hcap : 1 ≤ cap ∧ cap ≤ 8 ∧ (k : Int) ≤ cap := ⟨(cacheB_iff.1 hc).1.1, (cacheB_iff.1 hc).1.2, (cacheB_iff.1 hc).2.2.1⟩
    have hd5 := hd.to hP5.2.2.2.2.1 hP5.2.2.2.2.1.size
    have HG5 := hid hP5
    have HC := hid hc
    clear hc hP5
    go_wp2_with fail
    refine (sBoxOk_any D n dc g _ hd5 hf).mono ?_
    rintro e w6 ⟨rfl, hb6⟩
    have hG6 := HG5.out.below hb6
    clear HP5 HG5 hd5 hb6 n0 n1 n2 n3 n4 n5 r0 r1 r2 r3 r4 r5 x0 x1 x2
    obtain ⟨n0, n1, n2, n3, n4, n5⟩ := blk_cells3 hG6.2.2.1
    obtain ⟨r0, r1, r2, r3, r4, r5⟩ := blk_cells3 hG6.2.1
    obtain ⟨x0, x1, x2, _, _, _⟩ := blk_cells3 hG6.1
    have HP6 := hid hG6.put
    clear hG6
    cases hq : boxB n g
    · have hY : Hid (putY cap clock k s n g = false) := by show _ = _; unfold putY; rw [hq, Bool.and_false]
      clear hq
      go_wp2_with fail
      have hfin := HP6.out.fin (.int .i64 cap) (.int .i64 clock) (.slice A3 k c3)
      refine bodyPost_ret (results_cell_row_tmpC rfl _ _ (w.heap.size + 1) 26 _ (0, 0) _ rfl hfin.1 Try.underlying26 rfl size_cache) rfl ?_
      exact putAns_no hY.out hfin.2.1 hfin.2.2
    · by_cases hmx : clock = 1000000000
      · subst hmx
        have hY : Hid (putY cap 1000000000 k s n g = false) := by show _ = _; unfold putY canB; simp
        clear hq
        go_wp2_with fail
        have hfin := HP6.out.fin (.int .i64 cap) (.int .i64 1000000000) (.slice A3 k c3)
        refine bodyPost_ret (results_cell_row_tmpC rfl _ _ (w.heap.size + 1) 26 _ (0, 0) _ rfl hfin.1 Try.underlying26 rfl size_cache) rfl ?_
        exact putAns_no hY.out hfin.2.1 hfin.2.2
      have hY : Hid (putY cap clock k s n g = true) := by show _ = _; unfold putY canB; rw [HC.out, hq, decide_eq_true (show clock < 1000000000 by omega)]; rfl
      have hn6 : n ≤ 6 := (boxB_iff.1 hq).2.1
      have hck : clock < 1000000000 ∧ 0 ≤ clock := ⟨by omega, by omega⟩
      have hcq : (clock == 1000000000) = false := by simpa using hmx
      clear hq HC hck0 hmx
      by_cases hkc : (k : Int) = cap
      · have HK : Hid (putK cap k = (k - 1) + 1) := by show _ = _; unfold putK; rw [if_pos hkc]; omega
        have HS : Hid (putS cap k s ⟨n, g, x, clock + 1⟩ = addS (cutS s (oldI (fun i => (s i).used) k)) (k - 1) ⟨n, g, x, clock + 1⟩) := by show _ = _; unfold putS; rw [if_pos hkc]
        have hk0 : 0 < k := by omega
        have hk8 : k ≤ 8 := by omega
        have hkq : ((k : Int) == cap) = true := by simpa using hkc
        obtain ⟨hv, hrow, hbx⟩ := HP6.out.2.2.1
        obtain ⟨gb, cs, rfl, hL, hB, hkc3, _⟩ := own_slots hrow hk0
        clear hkc hrow hbx hB
        go_wp2_with fail
        clear n0 n1 n2 n3 n4 n5 r0 r1 r2 r3 r4 r5 x0 x1 x2
        go_loopw [9, 10] (fun a i wr => ∃ j : Nat, 1 ≤ j ∧ j ≤ k ∧ i = .int .i64 j ∧ a = .int .i64 (oldI (fun i => (s i).used) j : Nat) ∧ Hid (PutPk w (w.heap.size + 1) nb #[.int .i64 cap, .int .i64 clock, .slice (some ⟨gb, 0, none⟩) k c3] (some ⟨gb, 0, none⟩) k c3 s wr)) (fun _ i _ => k - (intOf i).toNat)
        case atStart => exact ⟨1, Nat.le_refl _, by omega, rfl, rfl, HP6⟩
        case round =>
          clear HP6
          obtain ⟨j, hj1, hj, rfl, rfl, hP⟩ := hrel
          obtain ⟨n0, n1, n2, n3, n4, n5⟩ := blk_cells3 hP.out.2.1
          obtain ⟨hv2, hrow, hbx⟩ := hP.out.2.2.1
          obtain ⟨gb2, cs2, e, hL2, hB, _, hcl⟩ := own_slots hrow hk0
          injection e with e
          injection e with e
          subst e
          have hold := oldI_lt (fun i => (s i).used) j (by omega)
          by_cases hlt : j < k
          · have hst := oldI_step (fun i => (s i).used) j (by omega)
            obtain ⟨a_, ha⟩ : ∃ a, oldI (fun i => (s i).used) j = a := ⟨_, rfl⟩
            rw [ha] at hold hst ⊢
            obtain ⟨_, _, u1⟩ := hcl j hlt
            obtain ⟨_, _, u2⟩ := hcl a_ (by omega)
            have i1 : (j : Int) < (k : Int) := by omega
            have i0 : (0 : Int) ≤ (j : Int) := by omega
            have i3 : (a_ : Int) < (k : Int) := by omega
            have i2 : (0 : Int) ≤ (a_ : Int) := by omega
            have n2d : wr.drew.cell? ⟨nb, 2, none⟩ = some (.slice (some ⟨gb, 0, none⟩) k c3) := n2
            have HST := hid hst
            clear hst ha hrow hbx hcl hB
            by_cases hu : (s j).used < (s a_).used
            · have hud : decide ((s j).used < (s a_).used) = true := decide_eq_true hu
              have HU := hid hu
              clear hu
              go_wp2_with fail
              go_quiet (fail)
              go_wp2_with fail
              go_roundw
              case rel => exact ⟨j + 1, by omega, by omega, by go_num, by rw [HST.out, if_pos HU.out], hP.out.below (below_drewN (Below.refl _ wr) _)⟩
              case measure => simp [intOf]; omega
            · have hud : decide ((s j).used < (s a_).used) = false := decide_eq_false hu
              have HU := hid hu
              clear hu
              go_wp2_with fail
              go_quiet (fail)
              go_wp2_with fail
              go_roundw
              case rel => exact ⟨j + 1, by omega, by omega, by go_num, by rw [HST.out, if_neg (by have := HU.out; omega)], hP.out.below (below_drewN (Below.refl _ wr) _)⟩
              case measure => simp [intOf]; omega
          · obtain rfl : j = k := by omega
            obtain ⟨at_, hat⟩ : ∃ a, oldI (fun i => (s i).used) j = a := ⟨_, rfl⟩
            rw [hat] at hold HS ⊢
            clear hat hcl
            go_wp2_with fail
            obtain ⟨m, hm⟩ : ∃ m, j - 1 = m := ⟨_, rfl⟩
            rw [hm] at HK HS
            have hm7 : m ≤ 7 := by omega
            have hE : at_ + (j - (at_ + 1)) = m := by omega
            have hNd : Blk wr.drew nb 26 #[.int .i64 cap, .int .i64 clock, .slice (some ⟨gb, 0, none⟩) j c3] := hP.out.2.1
            have hNa : Blk (wr.alloc (.cells #[] 37)).drew nb 26 #[.int .i64 cap, .int .i64 clock, .slice (some ⟨gb, 0, none⟩) j c3] := hNd.alloc (.cells #[] 37)
            have hBd : Blk wr.drew gb 37 cs2 := hB
            have hBa : Blk (wr.alloc (.cells #[] 37)).drew gb 37 cs2 := hBd.alloc (.cells #[] 37)
            have hgl : gb < wr.heap.size := hB.lt
            have hnl : nb < wr.heap.size := hNd.lt
            have y2 : wr.drew.cell? ⟨nb, 2, none⟩ = some (.slice (some ⟨gb, 0, none⟩) j c3) := hNd.cell 2
            have y2a : (wr.alloc (.cells #[] 37)).drew.cell? ⟨nb, 2, none⟩ = some (.slice (some ⟨gb, 0, none⟩) j c3) := hNa.cell 2
            have hcut := slots_two (hv := hv2) (s := s) hold
            have hl : (slotsC j hv2 s).length = j * 3 := slotsC_len _ _ _
            have hone : Hid (∀ u ∈ slotsC j hv2 s, u.oneCell' = true) := by
              intro u hu
              unfold slotsC at hu
              obtain ⟨i, hi, hu⟩ := List.mem_flatMap.1 hu
              simp only [slC, List.mem_cons, List.not_mem_nil, or_false] at hu
              obtain ⟨Ai, ci, e, _⟩ := rds_ownC (hbx i (by simpa using hi)).1
              rcases hu with rfl | rfl | rfl
              · rw [e]; rfl
              · rfl
              · rfl
            obtain ⟨t1, ht1⟩ : ∃ t1, (slotsC j hv2 s).take (at_ * 3) = t1 := ⟨_, rfl⟩
            obtain ⟨t2, ht2⟩ : ∃ t2, (slotsC j hv2 s).drop ((at_ + 1) * 3) = t2 := ⟨_, rfl⟩
            have l1 : Hid (t1.length = at_ * 3) := by show _ = _; rw [← ht1, List.length_take, hl]; omega
            have l2 : Hid (t2.length = (j - (at_ + 1)) * 3) := by show _ = _; rw [← ht2, List.length_drop, hl]; omega
            have o1 : Hid (∀ u ∈ t1, u.oneCell' = true) := fun u hu => hone.out u (by rw [← ht1] at hu; exact List.mem_of_mem_take hu)
            have o2 : Hid (∀ u ∈ t2, u.oneCell' = true) := fun u hu => hone.out u (by rw [← ht2] at hu; exact List.mem_of_mem_drop hu)
            have src1 : Hid (0 < at_ → ∃ b off, (some ⟨gb, 0, none⟩ : Option Addr) = some ⟨b, off, none⟩ ∧ ∀ p u, t1[p]? = some u → (wr.alloc (.cells #[] 37)).drew.cell? ⟨b, off + p, none⟩ = some u) := fun _ => ⟨gb, 0, rfl, fun p u hu => by
              have hp : p < at_ * 3 := by have := (List.getElem?_eq_some_iff.1 hu).1; rwa [l1.out] at this
              rw [← ht1, List.getElem?_take, if_pos hp] at hu
              rw [Nat.zero_add, hBa.cell, ← hBd.cell]
              exact (hrow.cellAt p (by omega)).trans hu⟩
            obtain ⟨Ad, hA, hsrc2⟩ : ∃ Ad : Option Addr, (if c3 = at_ + 1 then (some ⟨gb, 0, none⟩ : Option Addr) else some ⟨gb, (at_ + 1) * 3, none⟩) = Ad ∧ Hid (∀ W, Blk W gb 37 cs2 → 0 < j - (at_ + 1) → ∃ b off, Ad = some ⟨b, off, none⟩ ∧ ∀ p u, t2[p]? = some u → W.cell? ⟨b, off + p, none⟩ = some u) := by
              refine ⟨_, rfl, fun W hW h0 => ⟨gb, (at_ + 1) * 3, by rw [if_neg (by omega)], fun p u hu => ?_⟩⟩
              have hp : p < (j - (at_ + 1)) * 3 := by have := (List.getElem?_eq_some_iff.1 hu).1; rwa [l2.out] at this
              rw [← ht2, List.getElem?_drop] at hu
              rw [hW.cell, ← hB.cell]
              exact (hrow.cellAt _ (by omega)).trans hu
            have hown0 : Hid ((wr.alloc (.cells #[] 37)).drew.ownsRow wr.heap.size 37 3 (.slice (some ⟨wr.heap.size, 0, none⟩) 0 0) 0 []) := World.ownsRow_made wr.drew #[] 0 (Nat.le_refl _) (by unfold maxLen; omega) rfl
            rw [ht1, ht2] at hcut
            have HCUT := hid hcut
            have HBX := hid (boxes_cut hbx hold)
            rw [hm] at HCUT HBX
            have q1 : (at_ : Int) ≤ (j : Int) := by omega
            have q2 : (at_ : Int) + 1 ≤ (j : Int) := by omega
            have q3 : (0 : Int) ≤ (at_ : Int) + 1 := by omega
            have q4 : ((at_ : Int) + 1).toNat = at_ + 1 := by omega
            have q5 : at_ ≤ c3 := by omega
            have q6 : at_ + 1 ≤ c3 := by omega
            have q7 : at_ + 1 ≤ j := by omega
            have q9 : IntKind.i64.wrap ((at_ : Int) + 1) = (at_ : Int) + 1 := by rw [IntKind.wrap_i64]; omega
            have HE := hid hE
            have hPd := hid (hP.out.below (Below.refl _ wr).drew)
            clear hcut hl hone ht1 ht2 hrow hbx hE hm n0 n1 n2 n3 n4 n5 hB
            go_cut [] (fun wx => ∃ (A5 : Option Addr) (c5 : Nat), Hid (PutPk w (w.heap.size + 1) nb #[.int .i64 cap, .int .i64 clock, .slice A5 m c5] A5 m c5 (cutS s at_) wx))
            case first =>
              go_region_law
                (first
                  | (refine step_append_may0 (by rfl) _ _ _ (by rfl) wr.heap.size 37 j0 _ 3 40 Try.underlying24 hj0 jz0 jz1 jz2 rfl (by omega) (.slice (some ⟨wr.heap.size, 0, none⟩) 0 0) (by rfl) hown0.out (some ⟨gb, 0, none⟩) at_ c3 t1 (by rfl) l1.out src1.out o1.out (by unfold maxLen; omega) (by omega) (by simp [World.drew]) ?_; intro A1 d1 w1 hown1 hg1; have hN1 : Blk w1 nb 26 #[.int .i64 cap, .int .i64 clock, .slice (some ⟨gb, 0, none⟩) j c3] := hNa.grown hg1 (by intro e; injection e with e; have e' : nb = wr.heap.size := e; omega); have hB1 : Blk w1 gb 37 cs2 := hBa.grown hg1 (by intro e; injection e with e; have e' : gb = wr.heap.size := e; omega); have y2b : w1.cell? ⟨nb, 2, none⟩ = some (.slice (some ⟨gb, 0, none⟩) j c3) := hN1.cell 2; have src2 := hid (hsrc2.out w1 hB1); have s1 : wr.heap.size ≤ w1.heap.size := (by have h7 : (wr.alloc (.cells #[] 37)).heap.size ≤ w1.heap.size := hg1.size; rw [World.size_alloc] at h7; exact Nat.le_trans (Nat.le_succ _) h7))
                  | (refine step_append_mayC (by rfl) _ _ _ (by rfl) wr.heap.size 37 j0 _ 3 40 Try.underlying24 hj0 jz0 jz1 jz2 rfl (by omega) (.slice A1 at_ d1) at_ _ (by rfl) hown1 Ad (j - (at_ + 1)) (c3 - (at_ + 1)) t2 (by rfl) l2.out src2.out o2.out (by unfold maxLen; omega) (by omega) s1 ?_; intro A2 d2 w2 hown2 hg2; have hN2 : Blk w2 nb 26 #[.int .i64 cap, .int .i64 clock, .slice (some ⟨gb, 0, none⟩) j c3] := hN1.grown hg2 (own_blk_ne hown1 hN1 (by decide)); have z2 : w2.cell? ⟨nb, 2, none⟩ = some (.slice (some ⟨gb, 0, none⟩) j c3) := hN2.cell 2; have f2 := hN2.frozen 2))
              all_goals
                have hbA : Below wr.drew.heap.size wr.drew (wr.alloc (.cells #[] 37)).drew := (Below.refl wr.drew.heap.size wr.drew).alloc (Nat.le_refl _) (.cells #[] 37)
                have hb1 : Below wr.drew.heap.size wr.drew w1 := hbA.grown hg1 (by show wr.heap.size ≤ (wr.alloc _).heap.size; rw [World.size_alloc]; omega) (fun y hy => by injection hy with hy; have hy' : wr.heap.size = y := hy; exact Nat.le_of_eq hy')
                have hb2 : Below wr.drew.heap.size wr.drew w2 := hb1.grown hg2 s1 (fun y hy => (hown1.lt y hy).1)
                rw [HE.out, HCUT.out] at hown2
                have hPz := hPd.out.row hb2 HBX.out hown2
                have HPZ : Hid (PutPk w (w.heap.size + 1) nb #[.int .i64 cap, .int .i64 clock, .slice A2 m d2] A2 m d2 (cutS s at_) (w2.setCell ⟨nb, 2, none⟩ (.slice A2 m d2))) := hPz.setN 2 (.slice A2 m d2)
                clear hPz hb1 hb2 hown2 hg2 hg1 hown1 hN2 hN1 hB1 y2b src2 HBX hown0 src1 hsrc2 hPd
                go_wp2_with fail
                go_meet
                rw [HE.out]
                exact ⟨_, _, HPZ⟩
            case rest =>
              clear hNd hNa hBd hBa y2 y2a src1 hown0 hsrc2 HBX hPd hP HCUT HE o1 o2 l1 l2
              obtain ⟨A6, c6, HP8⟩ := hcut
              obtain ⟨n0, n1, n2, n3, n4, n5⟩ := blk_cells3 HP8.out.2.1
              go_wp2_with fail
              have hP9 := HP8.out.setN 1 (.int .i64 (clock + 1))
              obtain ⟨W9, hW9⟩ : ∃ W, wc.setCell ⟨nb, 1, none⟩ (.int .i64 (clock + 1)) = W := ⟨_, rfl⟩
              rw [hW9] at hP9 ⊢
              have hP9 : PutPk w (w.heap.size + 1) nb #[.int .i64 cap, .int .i64 (clock + 1), .slice A6 m c6] A6 m c6 (cutS s at_) W9 := hP9
              clear hW9 HP8 n0 n1 n2 n3 n4 n5
              obtain ⟨hv3, hrow2, hbx2⟩ := hP9.2.2.1
              have HP9 := hid (hP9.below (Below.refl _ W9).drew)
              have HROW := hid (own_below hrow2 (Below.refl _ W9).drew)
              have HBX := hid (hbx2.below (Below.refl _ W9).drew)
              have hdX : RdS W9.drew W9.drew.heap.size D n g := (hd.to hP9.2.2.2.1.drew hP9.2.2.2.1.drew.size)
              have hbE : Below W9.drew.heap.size W9.drew (W9.alloc (.cells #[] 74)).drew := (Below.refl W9.drew.heap.size W9.drew).alloc (Nat.le_refl _) (.cells #[] 74)
              have SRC := hid (spans_src (hdX.below hbE))
              have hNb : Blk W9.drew nb 26 #[.int .i64 cap, .int .i64 (clock + 1), .slice A6 m c6] := hP9.2.1
              have hNa : Blk (W9.alloc (.cells #[] 74)).drew nb 26 #[.int .i64 cap, .int .i64 (clock + 1), .slice A6 m c6] := hNb.alloc (.cells #[] 74)
              have x1 : W9.drew.cell? ⟨nb, 1, none⟩ = some (.int .i64 (clock + 1)) := hNb.cell 1
              have x2 : W9.drew.cell? ⟨nb, 2, none⟩ = some (.slice A6 m c6) := hNb.cell 2
              have x1a : (W9.alloc (.cells #[] 74)).drew.cell? ⟨nb, 1, none⟩ = some (.int .i64 (clock + 1)) := hNa.cell 1
              have x2a : (W9.alloc (.cells #[] 74)).drew.cell? ⟨nb, 2, none⟩ = some (.slice A6 m c6) := hNa.cell 2
              have hnl9 : nb < W9.heap.size := hNb.lt
              have hsW' : w.heap.size ≤ W9.drew.heap.size := hP9.2.2.2.1.size
              have hown0 : Hid ((W9.alloc (.cells #[] 74)).drew.ownsRow W9.heap.size 74 3 (.slice (some ⟨W9.heap.size, 0, none⟩) 0 0) 0 []) := World.ownsRow_made W9.drew #[] 0 (Nat.le_refl _) (by unfold maxLen; omega) rfl
              clear hrow2 hbx2 hP9
              go_cut [] (fun wx => ∃ (A5 : Option Addr) (c5 : Nat), Hid (PutPk w (w.heap.size + 1) nb #[.int .i64 cap, .int .i64 (clock + 1), .slice A5 (m + 1) c5] A5 (m + 1) c5 (addS (cutS s at_) m ⟨n, g, x, clock + 1⟩) wx))
              case first =>
                go_region_law
                  (first
                    | (refine step_append_may0 (by rfl) _ _ _ (by rfl) W9.heap.size 74 i0 _ 3 24 Try.underlying35 hi0 hz0 hz1 hz2 rfl (by omega) (.slice (some ⟨W9.heap.size, 0, none⟩) 0 0) (by rfl) hown0.out D n dc (spansC n g) (by rfl) (spansC_len _ _) (fun h0 => Exists.imp (fun b => Exists.imp fun off hh => ⟨hh.1, hh.2.2⟩) (SRC.out h0)) (spans_one _ _) (by unfold maxLen; omega) (by omega) (by simp [World.drew]) ?_; intro A4 c4 wq hown4 hg4; have hNb4 : Blk wq nb 26 #[.int .i64 cap, .int .i64 (clock + 1), .slice A6 m c6] := hNa.grown hg4 (by intro e; injection e with e; have e' : nb = W9.heap.size := e; omega); have hb4 : Below W9.drew.heap.size W9.drew wq := hbE.grown hg4 (by show W9.heap.size ≤ (W9.alloc _).heap.size; rw [World.size_alloc]; omega) (fun y hy => by injection hy with hy; have hy' : W9.heap.size = y := hy; exact Nat.le_of_eq hy'); have x1c : wq.cell? ⟨nb, 1, none⟩ = some (.int .i64 (clock + 1)) := hNb4.cell 1; have x2c : wq.cell? ⟨nb, 2, none⟩ = some (.slice A6 m c6) := hNb4.cell 2; have x2d : (wq.alloc (.cells #[.slice A4 n c4, .int .i64 x, .int .i64 (clock + 1)] 37)).cell? ⟨nb, 2, none⟩ = some (.slice A6 m c6) := (hNb4.alloc _).cell 2; have hrow4 := hid (own_below HROW.out hb4); have hneA := own_blk_ne hrow4.out hNb4 (by decide); have hs4 : w.heap.size ≤ wq.heap.size := Nat.le_trans hsW' hb4.size)
                    | (refine step_append_lies _ (by rfl) _ _ _ (by rfl) w.heap.size 37 j0 _ 3 40 Try.underlying24 hj0 jz0 jz1 jz2 rfl (by omega) (.slice A6 m c6) m _ (by rfl) (hrow4.out.alloc _) ⟨wq.heap.size, 0, none⟩ 1 1 [.slice A4 n c4, .int .i64 x, .int .i64 (clock + 1)] (by rfl) (by rfl) (slot_src _ _ _ _ _) (by simp [Value.oneCell']) (by omega) (by unfold maxLen; omega) (by omega) (by simp; omega) (wq.heap.size + 1) (by simp) ?_; intro g9 c9 w9 hown6 hgrow6 _ _; have hE6 : Blk w9 nb 26 #[.int .i64 cap, .int .i64 (clock + 1), .slice A6 m c6] := (hNb4.alloc _).grown hgrow6 hneA; have y2 : w9.cell? ⟨nb, 2, none⟩ = some (.slice A6 m c6) := hE6.cell 2; have f2 := hE6.frozen 2))
                all_goals
                  have hP10 := HP9.out.add HROW.out HBX.out hb4 hown4 hown6 hgrow6
                  have HP11 : Hid (PutPk w (w.heap.size + 1) nb #[.int .i64 cap, .int .i64 (clock + 1), .slice (some ⟨g9, 0, none⟩) (m + 1) c9] (some ⟨g9, 0, none⟩) (m + 1) c9 (addS (cutS s at_) m ⟨n, g, x, clock + 1⟩) (w9.setCell ⟨nb, 2, none⟩ (.slice (some ⟨g9, 0, none⟩) (m + 1) c9))) := hP10.setN 2 (.slice (some ⟨g9, 0, none⟩) (m + 1) c9)
                  clear hP10 HP9 HROW HBX hb4 hown4 hown6 hgrow6 hE6 hNb4 x1c x2c x2d hrow4 hs4 hNb x1 x2 hdX
                  go_wp2_with fail
                  go_meet
                  exact ⟨_, _, HP11⟩
              case rest =>
                clear HP9 HROW HBX hdX hNb x1 x2 x1a x2a hNa hown0 SRC hbE
                obtain ⟨A5, c5, HP11⟩ := hcut
                obtain ⟨n0, n1, n2, n3, n4, n5⟩ := blk_cells3 HP11.out.2.1
                obtain ⟨r0, r1, r2, r3, r4, r5⟩ := blk_cells3 HP11.out.1
                go_wp2_with fail
                have hfin := HP11.out.fin (.int .i64 cap) (.int .i64 (clock + 1)) (.slice A5 (m + 1) c5)
                refine bodyPost_ret (results_cell_row_tmpC rfl _ _ (w.heap.size + 1) 26 _ (0, 0) _ rfl hfin.1 Try.underlying26 rfl size_cache) rfl ?_
                exact putAns_yes hY.out HK.out (by rw [HS.out]; exact hfin.2.1) hfin.2.2
      · have HK : Hid (putK cap k = k + 1) := by show _ = _; unfold putK; rw [if_neg hkc]
        have HS : Hid (putS cap k s ⟨n, g, x, clock + 1⟩ = addS s k ⟨n, g, x, clock + 1⟩) := by show _ = _; unfold putS; rw [if_neg hkc]
        have hm8 : k ≤ 7 := by omega
        have hkq : ((k : Int) == cap) = false := by simpa using hkc
        have HP8 := HP6
        clear hkc HP6
        go_wp2_with fail
        clear x0 x1 x2 r0 r1 r2 r3 r4 r5
        have hP9 := HP8.out.setN 1 (.int .i64 (clock + 1))
        obtain ⟨W9, hW9⟩ : ∃ W, w6.setCell ⟨nb, 1, none⟩ (.int .i64 (clock + 1)) = W := ⟨_, rfl⟩
        rw [hW9] at hP9 ⊢
        have hP9 : PutPk w (w.heap.size + 1) nb #[.int .i64 cap, .int .i64 (clock + 1), .slice A3 k c3] A3 k c3 (s) W9 := hP9
        clear hW9 HP8 n0 n1 n2 n3 n4 n5
        obtain ⟨hv3, hrow2, hbx2⟩ := hP9.2.2.1
        have HP9 := hid (hP9.below (Below.refl _ W9).drew)
        have HROW := hid (own_below hrow2 (Below.refl _ W9).drew)
        have HBX := hid (hbx2.below (Below.refl _ W9).drew)
        have hdX : RdS W9.drew W9.drew.heap.size D n g := (hd.to hP9.2.2.2.1.drew hP9.2.2.2.1.drew.size)
        have hbE : Below W9.drew.heap.size W9.drew (W9.alloc (.cells #[] 74)).drew := (Below.refl W9.drew.heap.size W9.drew).alloc (Nat.le_refl _) (.cells #[] 74)
        have SRC := hid (spans_src (hdX.below hbE))
        have hNb : Blk W9.drew nb 26 #[.int .i64 cap, .int .i64 (clock + 1), .slice A3 k c3] := hP9.2.1
        have hNa : Blk (W9.alloc (.cells #[] 74)).drew nb 26 #[.int .i64 cap, .int .i64 (clock + 1), .slice A3 k c3] := hNb.alloc (.cells #[] 74)
        have x1 : W9.drew.cell? ⟨nb, 1, none⟩ = some (.int .i64 (clock + 1)) := hNb.cell 1
        have x2 : W9.drew.cell? ⟨nb, 2, none⟩ = some (.slice A3 k c3) := hNb.cell 2
        have x1a : (W9.alloc (.cells #[] 74)).drew.cell? ⟨nb, 1, none⟩ = some (.int .i64 (clock + 1)) := hNa.cell 1
        have x2a : (W9.alloc (.cells #[] 74)).drew.cell? ⟨nb, 2, none⟩ = some (.slice A3 k c3) := hNa.cell 2
        have hnl9 : nb < W9.heap.size := hNb.lt
        have hsW' : w.heap.size ≤ W9.drew.heap.size := hP9.2.2.2.1.size
        have hown0 : Hid ((W9.alloc (.cells #[] 74)).drew.ownsRow W9.heap.size 74 3 (.slice (some ⟨W9.heap.size, 0, none⟩) 0 0) 0 []) := World.ownsRow_made W9.drew #[] 0 (Nat.le_refl _) (by unfold maxLen; omega) rfl
        clear hrow2 hbx2 hP9
        go_cut [] (fun wx => ∃ (A5 : Option Addr) (c5 : Nat), Hid (PutPk w (w.heap.size + 1) nb #[.int .i64 cap, .int .i64 (clock + 1), .slice A5 (k + 1) c5] A5 (k + 1) c5 (addS (s) k ⟨n, g, x, clock + 1⟩) wx))
        case first =>
          go_region_law
            (first
              | (refine step_append_may0 (by rfl) _ _ _ (by rfl) W9.heap.size 74 i0 _ 3 24 Try.underlying35 hi0 hz0 hz1 hz2 rfl (by omega) (.slice (some ⟨W9.heap.size, 0, none⟩) 0 0) (by rfl) hown0.out D n dc (spansC n g) (by rfl) (spansC_len _ _) (fun h0 => Exists.imp (fun b => Exists.imp fun off hh => ⟨hh.1, hh.2.2⟩) (SRC.out h0)) (spans_one _ _) (by unfold maxLen; omega) (by omega) (by simp [World.drew]) ?_; intro A4 c4 wq hown4 hg4; have hNb4 : Blk wq nb 26 #[.int .i64 cap, .int .i64 (clock + 1), .slice A3 k c3] := hNa.grown hg4 (by intro e; injection e with e; have e' : nb = W9.heap.size := e; omega); have hb4 : Below W9.drew.heap.size W9.drew wq := hbE.grown hg4 (by show W9.heap.size ≤ (W9.alloc _).heap.size; rw [World.size_alloc]; omega) (fun y hy => by injection hy with hy; have hy' : W9.heap.size = y := hy; exact Nat.le_of_eq hy'); have x1c : wq.cell? ⟨nb, 1, none⟩ = some (.int .i64 (clock + 1)) := hNb4.cell 1; have x2c : wq.cell? ⟨nb, 2, none⟩ = some (.slice A3 k c3) := hNb4.cell 2; have x2d : (wq.alloc (.cells #[.slice A4 n c4, .int .i64 x, .int .i64 (clock + 1)] 37)).cell? ⟨nb, 2, none⟩ = some (.slice A3 k c3) := (hNb4.alloc _).cell 2; have hrow4 := hid (own_below HROW.out hb4); have hneA := own_blk_ne hrow4.out hNb4 (by decide); have hs4 : w.heap.size ≤ wq.heap.size := Nat.le_trans hsW' hb4.size)
              | (refine step_append_lies _ (by rfl) _ _ _ (by rfl) w.heap.size 37 j0 _ 3 40 Try.underlying24 hj0 jz0 jz1 jz2 rfl (by omega) (.slice A3 k c3) k _ (by rfl) (hrow4.out.alloc _) ⟨wq.heap.size, 0, none⟩ 1 1 [.slice A4 n c4, .int .i64 x, .int .i64 (clock + 1)] (by rfl) (by rfl) (slot_src _ _ _ _ _) (by simp [Value.oneCell']) (by omega) (by unfold maxLen; omega) (by omega) (by simp; omega) (wq.heap.size + 1) (by simp) ?_; intro g9 c9 w9 hown6 hgrow6 _ _; have hE6 : Blk w9 nb 26 #[.int .i64 cap, .int .i64 (clock + 1), .slice A3 k c3] := (hNb4.alloc _).grown hgrow6 hneA; have y2 : w9.cell? ⟨nb, 2, none⟩ = some (.slice A3 k c3) := hE6.cell 2; have f2 := hE6.frozen 2))
          all_goals
            have hP10 := HP9.out.add HROW.out HBX.out hb4 hown4 hown6 hgrow6
            have HP11 : Hid (PutPk w (w.heap.size + 1) nb #[.int .i64 cap, .int .i64 (clock + 1), .slice (some ⟨g9, 0, none⟩) (k + 1) c9] (some ⟨g9, 0, none⟩) (k + 1) c9 (addS (s) k ⟨n, g, x, clock + 1⟩) (w9.setCell ⟨nb, 2, none⟩ (.slice (some ⟨g9, 0, none⟩) (k + 1) c9))) := hP10.setN 2 (.slice (some ⟨g9, 0, none⟩) (k + 1) c9)
            clear hP10 HP9 HROW HBX hb4 hown4 hown6 hgrow6 hE6 hNb4 x1c x2c x2d hrow4 hs4 hNb x1 x2 hdX
            go_wp2_with fail
            go_meet
            exact ⟨_, _, HP11⟩
        case rest =>
          clear HP9 HROW HBX hdX hNb x1 x2 x1a x2a hNa hown0 SRC hbE
          obtain ⟨A5, c5, HP11⟩ := hcut
          obtain ⟨n0, n1, n2, n3, n4, n5⟩ := blk_cells3 HP11.out.2.1
          obtain ⟨r0, r1, r2, r3, r4, r5⟩ := blk_cells3 HP11.out.1
          go_wp2_with fail
          have hfin := HP11.out.fin (.int .i64 cap) (.int .i64 (clock + 1)) (.slice A5 (k + 1) c5)
          refine bodyPost_ret (results_cell_row_tmpC rfl _ _ (w.heap.size + 1) 26 _ (0, 0) _ rfl hfin.1 Try.underlying26 rfl size_cache) rfl ?_
          exact putAns_yes hY.out HK.out (by rw [HS.out]; exact hfin.2.1) hfin.2.2
end Go.Proofs.Ytckhooibjmheiaa
