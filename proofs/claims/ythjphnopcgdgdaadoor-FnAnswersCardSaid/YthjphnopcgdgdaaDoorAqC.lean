/- A drawn answer. -/
import Derived.Test.YthjphnopcgdgdaaDoorAqB
import Derived.Test.YthjphnopcgdgdaaDoorRgI
namespace Go.Proofs.YthjphnopcgdgdaaDoor
open Go.RowKit Go.Deep

theorem size_ansD : (Tryd.prog.info? 44).map (·.size) = some 4 := by kernel_rfl
theorem own_formA {w : World} {base : Nat} {e : TypeId} {size : Nat} {v : Value} {n : Nat} {xs : List Value} (h : w.ownsRow base e size v n xs) : ∃ A c, v = .slice A n c := by
  rcases h.2 with ⟨rfl, rfl⟩ | ⟨g, cap, cur, rfl, _⟩
  · exact ⟨_, _, rfl⟩
  · exact ⟨_, _, rfl⟩
theorem own_shapeA {w : World} {base : Nat} {e : TypeId} {size : Nat} {A : Option Addr} {n c : Nat} {xs : List Value} (h : w.ownsRow base e size (.slice A n c) n xs) : (A = none ∧ n = 0 ∧ c = 0) ∨ ∃ b, A = some ⟨b, 0, none⟩ := by
  rcases h.2 with ⟨h1, h2⟩ | ⟨g, cap, cur, hv, _⟩
  · left
    injection h1 with e1 _ e3
    exact ⟨e1, h2, e3⟩
  · right
    injection hv with e1 _ _
    exact ⟨g, e1⟩
theorem own_setw {w : World} {p o q : Nat} {e : TypeId} {size : Nat} {v : Value} {m : Nat} {xs : List Value} (h : w.ownsRow (q + 1) e size v m xs) (hp : p < q + 1) (u : Value) : (w.setCell ⟨p, o, none⟩ u).ownsRow (q + 1) e size v m xs := by
  refine h.kept (grown_set u) ?_
  cases hv : v.ownBlock with
  | none => exact .inl rfl
  | some k => right; have := (h.lt k hv).1; simp; omega
theorem getD_memI {L : List Int} {i : Nat} (h : i < L.length) : L.getD i 0 ∈ L := by
  rw [List.getD_eq_getElem?_getD, List.getElem?_eq_getElem h]; exact List.getElem_mem h
theorem getD_memH {L : List Ht} {i : Nat} (h : i < L.length) : L.getD i ⟨0, 0⟩ ∈ L := by
  rw [List.getD_eq_getElem?_getD, List.getElem?_eq_getElem h]; exact List.getElem_mem h
theorem AQ.drew {w0 w : World} {R n cap : Nat} {A : Option Addr} {q : Nat} {co ct : Int} {nv hv : Value} (h : AQ w0 R n cap A q co ct nv hv w) : AQ w0 R n cap A q co ct nv hv w.drew :=
  ⟨h.rd.below (Below.refl _ w).drew, h.res, h.ans, h.lt1, h.lt2, h.bel.drew⟩
theorem NRow.drew {q : Nat} {v : Value} {L : List Int} {w : World} (h : NRow q v L w) : NRow q v L w.drew := h
theorem HRow.drew {q : Nat} {v : Value} {L : List Ht} {w : World} (h : HRow q v L w) : HRow q v L w.drew := h
def DrawnAns (w : World) (e : Ending) (w' : World) : Prop :=
  ∃ co A n c z B m ch g ct, e = .returned (anV co A n c B m ch ct) ∧ AnIn co n z m g ∧ 0 ≤ ct ∧ ct ≤ 9 ∧ n ≤ 3 ∧ m ≤ 3 ∧ ((A = none ∧ n = 0 ∧ c = 0) ∨ ∃ b, A = some ⟨b, 0, none⟩) ∧ Rd w' w'.heap.size A n z ∧ RdH w' w'.heap.size B m g ∧ Below w.heap.size w w'
set_option maxRecDepth 100000 in
set_option maxHeartbeats 8000000 in
theorem drawAns (A : Option Addr) (n cap : Nat) (w : World) (h : Bs w w.heap.size A n) (hn : n ≤ 4194304) :
    Calls Tryd.prog 22 #[.slice A n cap] w (DrawnAns w) := by
  have hb0 := (Below.refl w.heap.size w).alloc (Nat.le_refl _) (.cells (anC 0 none 0 0 none 0 0 0) 44)
  have h1 := Blk.new w 44 (anC 0 none 0 0 none 0 0 0)
  have hB0 : Bs (w.alloc (.cells (anC 0 none 0 0 none 0 0 0) 44)) (w.alloc (.cells (anC 0 none 0 0 none 0 0 0) 44)).heap.size A n := Bs.more (Bs.keep h fun _ hp => hb0.cell hp) hb0.size
  go_enter Tryd.func22, Tryd.ntmps22
  go_wp2_with fail
  generalize w.alloc (.cells (anC 0 none 0 0 none 0 0 0) 44) = W0 at hb0 h1 hB0 ⊢
  refine (open_draw A n cap W0 hB0 hn).mono ?_
  rintro e w1 ⟨rfl, hR1, hb1⟩
  have hl2 := h1.lt
  have k1 := h1.below hb1 h1.lt
  have kb := hb0.trans (hb1.mono hb0.size)
  generalize W0.heap.size = R at hR1 hl2 ⊢
  clear hB0 h1 hb0 hb1 h
  go_wp2_with fail
  refine (below_draw R n cap A 6 _ hR1 (by omega) (by omega)).mono ?_
  rintro e w2 ⟨co0, rfl, hco0, hco1, hR2, hg2⟩
  have m1 := k1.grown hg2 (by intro e; injection e with e; omega)
  have mb := kb.grown hg2 kb.size (fun k e => by injection e with e; omega)
  clear hg2 k1 kb hR1
  go_wp2_with fail
  refine (below_draw R n cap A 9 _ hR2 (by omega) (by omega)).mono ?_
  rintro e w3 ⟨ct, rfl, hct0, hct1, hR3, hg3⟩
  have hbs := run_build_ans co0 ct
  have Q3 : AQ w R n cap A w3.heap.size co0 ct (.slice none 0 0) (.slice none 0 0) (w3.alloc (.cells (anC co0 none 0 0 none 0 0 ct) 44)) := by
    have n1 := m1.grown hg3 (by intro e; injection e with e; omega)
    have nb := mb.grown hg3 mb.size (fun k e => by injection e with e; omega)
    exact ⟨hR3.alloc _, n1.alloc _, Blk.new w3 _ _, hl2, hR3.lt, nb.alloc nb.size _⟩
  clear hg3 m1 mb hR2 hR3
  go_wp2_with fail
  generalize w3.alloc (.cells (anC co0 none 0 0 none 0 0 ct) 44) = W4 at Q3 ⊢
  generalize w3.heap.size = q at Q3 ⊢
  refine (once_draw R n cap A 2 _ Q3.rd (by omega) (by omega)).mono ?_
  rintro e w5 ⟨zc, rfl, hR5, hg5⟩
  have Q5 := Q3.grown hR5 hg5
  clear Q3 hR5 hg5
  cases zc
  · obtain ⟨co, hcoe⟩ : ∃ co, co0 = co := ⟨_, rfl⟩
    rw [hcoe] at Q5
    have HC : Hid (I64 co) := by show I64 co; rw [← hcoe]; unfold I64; omega
    clear hcoe
    go_wp2_with fail
    refine (below_draw R n cap A 4 _ Q5.rd (by omega) (by omega)).mono ?_
    rintro e w6 ⟨i0, rfl, hi0, hi1, hR6, hg6⟩
    have Q6 := Q5.grown hR6 hg6
    obtain ⟨i0, rfl⟩ := Int.eq_ofNat_of_zero_le hi0
    clear Q5 hR6 hg6
    go_wp2_with fail
    go_loopw [5] (fun i wr => ∃ (k : Nat) (Ln : List Int) (Lh : List Ht) (nv hv : Value), i = .int .i64 k ∧ Ln.length + k ≤ 3 ∧ Lh.length = Ln.length ∧ Hid (AQ w R n cap A q co ct nv hv wr) ∧ Hid (NRow q nv Ln wr) ∧ Hid (HRow q hv Lh wr) ∧ Hid (∀ x ∈ Ln, I64 x) ∧ Hid (∀ x ∈ Lh, I64 x.ix ∧ I64 x.sc))
      (fun i _ => (intOf i).toNat)
    case atStart => exact ⟨i0, [], [], _, _, rfl, by simp; omega, rfl, Q6, ⟨none, 0, rfl, rfl, .inl ⟨rfl, rfl⟩⟩, ⟨none, 0, rfl, rfl, .inl ⟨rfl, rfl⟩⟩, (fun x hx => by cases hx), (fun x hx => by cases hx)⟩
    case round =>
      obtain ⟨k, Ln, Lh, nv, hv, rfl, hk, hLL, hQ, hN, hH, hIN, hIH⟩ := hrel
      by_cases hlt : 0 < k
      · have i1 : (0 : Int) < (k : Int) := by omega
        have HLL := hid hLL
        clear hLL
        go_wp2_with fail
        refine region_inv (by kernel_rfl) (by kernel_rfl) (IA8 w R n cap A q co ct nv hv Ln Lh (fun V => ⟨#[.slice A n cap, undef, .pointer (some ⟨w.heap.size, 0, none⟩), .pointer (some ⟨R, 0, none⟩), .pointer (some ⟨q, 0, none⟩), .int .i64 (k : Int), .slice A n cap, .pointer (some ⟨R, 0, none⟩), .pointer (some ⟨R, 0, none⟩), .int .i64 co0, .pointer (some ⟨R, 0, none⟩), .int .i64 ct, .agg #[.int .i64 co0, .slice none 0 0, .slice none 0 0, .int .i64 ct], .pointer (some ⟨R, 0, none⟩), .bool false, undef, .pointer (some ⟨R, 0, none⟩), .int .i64 (i0 : Int), .int .i64 (k : Int), .bool true, u20, u21, V 0, V 1, V 2, V 3, V 4, V 5, V 6, V 7, u30, u31, u32, u33, u34, u35, u36, undef], []⟩)) (fun l a W hI => hI.1) ?_ ?_ ?_
        · refine ⟨by simp, fun j => ([u22, u23, u24, u25, u26, u27, u28, u29] : List Value).getD j undef, rfl, ?_, .inl ⟨by simp, by simp, by simp, hQ.out.drew, hN.out.drew⟩, hH.out.drew⟩
          unfold PA8
          exact ⟨fun h => absurd h (by simp), fun h => absurd h (by simp), fun h => absurd h (by simp), fun h => absurd h (by simp), fun h => absurd h (by simp), fun h => absurd h (by simp)⟩
        · intro i o ho l a W hI hu hd K hK
          obtain ⟨hl, V, rfl, hP, hS, hO⟩ := hI
          have hi : i < 9 := (Array.getElem?_eq_some_iff.1 ho).1
          obtain rfl | rfl | rfl | rfl | rfl | rfl | rfl | rfl | rfl : i = 0 ∨ i = 1 ∨ i = 2 ∨ i = 3 ∨ i = 4 ∨ i = 5 ∨ i = 6 ∨ i = 7 ∨ i = 8 := by omega
          all_goals
            obtain rfl := Option.some.inj ho
            rw [if_pos (by rfl)]
            refine Oper.wp_mono hK ?_
          · go_simp
            exact IA8.pure hl hP hS hO 0 (pq q 1) (.inl ⟨rfl, rfl⟩) _ (by simp [upQ])
          · have e0 := hP.1 (hd ⟨0, .data⟩ (by simp) rfl)
            have c1 : W.cell? ⟨q, 1, none⟩ = some nv := by
              rcases hS with ⟨_, _, _, hq, _⟩ | ⟨_, _, _, _, hq, _⟩ | ⟨h, _⟩ | ⟨h, _⟩
              · exact hq.ans.cell 1
              · exact hq.ans.cell 1
              · rw [gD_out hl (by omega) hu] at h; cases h
              · rw [gD_out hl (by omega) hu] at h; cases h
            simp only [e0]
            go_simp
            exact IA8.pure hl hP hS hO 1 nv (.inr (.inl ⟨rfl, rfl⟩)) _ (by simp [upQ, e0])
          · go_simp
            exact IA8.pure hl hP hS hO 2 (pq R 0) (.inr (.inr (.inl ⟨rfl, rfl⟩))) _ (by simp [upQ])
          · have e2 := hP.2.2.1 (hd ⟨2, .data⟩ (by simp) rfl)
            obtain ⟨hBU, hAP, hST, hq, hrow⟩ : l.getD 5 false = false ∧ l.getD 6 false = false ∧ l.getD 8 false = false ∧ AQ w R n cap A q co ct nv hv W ∧ NRow q nv Ln W := by
              rcases hS with h | ⟨h, _⟩ | ⟨_, h, _⟩ | ⟨_, h, _⟩
              · exact h
              · rw [gD_out hl (by omega) hu] at h; cases h
              · rw [gD_out hl (by omega) hu] at h; cases h
              · rw [gD_out hl (by omega) hu] at h; cases h
            simp only [e2]
            go_simp
            go_at_call 27
            refine Calls.mono (below_draw R n cap A 90 W hq.rd (by omega) (by omega)) ?_
            rintro e W' ⟨x, rfl, hx0, hx1, hR', hg⟩
            exact ⟨by simpa using hl, upQ V 3 (.int .i64 x), by simp [upQ, e2], PA8.at3 hl hP ⟨x, rfl, hx0, hx1⟩, .inl ⟨by rw [gD_ne (by decide)]; exact hBU, by rw [gD_ne (by decide)]; exact hAP, by rw [gD_ne (by decide)]; exact hST, hq.grown hR' hg, hrow.grown hg (by have := hq.lt2; omega)⟩, hO.grown hg (by have := hq.lt2; omega)⟩
          · have h3 := hd ⟨3, .data⟩ (by simp) rfl
            obtain ⟨x, e3, hx0, hx1⟩ := hP.2.2.2.1 h3
            have hwr : IntKind.i64.wrap (x - 40) = x - 40 := IntWalk.i64_in _ (by omega)
            simp only [e3]
            go_simp
            exact IA8.pure hl hP hS hO 4 (.int .i64 (x - 40)) (.inr (.inr (.inr (.inl ⟨rfl, h3, x - 40, rfl, by unfold I64; omega⟩)))) _ (by simp [upQ, e3])
          · obtain ⟨h3, x, e4, hx⟩ := hP.2.2.2.2.1 (hd ⟨4, .data⟩ (by simp) rfl)
            obtain ⟨hAP, hST, hq, hrow⟩ : l.getD 6 false = false ∧ l.getD 8 false = false ∧ AQ w R n cap A q co ct nv hv W ∧ NRow q nv Ln W := by
              rcases hS with ⟨_, h⟩ | ⟨_, h, _⟩ | ⟨_, _, h, _⟩ | ⟨_, _, h, _⟩
              · exact h
              · rw [gD_out hl (by omega) hu] at h; cases h
              · rw [gD_out hl (by omega) hu] at h; cases h
              · rw [gD_out hl (by omega) hu] at h; cases h
            have hBn := Blk.new W 2 #[.int .i64 x]
            simp only [e4]
            go_simp
            exact ⟨by simpa using hl, upQ V 5 (.slice (some ⟨W.heap.size, 0, none⟩) 1 1), by simp [upQ, e4], PA8.off (.inl rfl) hP, .inr (.inl ⟨by rw [gD_ne (by decide)]; exact h3, gD_self hl (by omega), by rw [gD_ne (by decide)]; exact hAP, by rw [gD_ne (by decide)]; exact hST, hq.alloc _, hrow.alloc _, W.heap.size, x, upQ_self, hx, hBn.lt, hBn.cell 0⟩), hO.alloc _⟩
          · have h1 := hd ⟨1, .data⟩ (by simp) rfl
            have e1 := hP.2.1 h1
            have hbu := hd ⟨5, .data⟩ (by simp) rfl
            obtain ⟨h3, hST, hq, hrow, b, x, e5, hx, hbl, hbc⟩ : l.getD 3 false = true ∧ l.getD 8 false = false ∧ AQ w R n cap A q co ct nv hv W ∧ NRow q nv Ln W ∧ ∃ (b : Nat) (x : Int), V 5 = .slice (some ⟨b, 0, none⟩) 1 1 ∧ I64 x ∧ b < W.heap.size ∧ W.cell? ⟨b, 0, none⟩ = some (.int .i64 x) := by
              rcases hS with ⟨h, _⟩ | ⟨h3, _, _, h, k⟩ | ⟨_, _, _, h, _⟩ | ⟨_, _, _, h, _⟩
              · rw [hbu] at h; cases h
              · exact ⟨h3, h, k⟩
              · rw [gD_out hl (by omega) hu] at h; cases h
              · rw [gD_out hl (by omega) hu] at h; cases h
            obtain ⟨An, cn, hgv, hown⟩ := hrow
            obtain ⟨i0', hi0', hz0', hz1', hz2'⟩ := info_parts info_int
            refine wp_append_own W (.tmp 23) (.tmp 27) 41 rfl (q + 1) 2 i0' (.int .i64 0) 1 8 Tryd.underlying41 hi0' hz0' hz1' hz2' rfl (by decide) nv Ln.length (numsL Ln) (by show V 1 = _; exact e1) hown ⟨b, 0, none⟩ 1 1 [.int .i64 x] (by show V 5 = _; exact e5) rfl (fun j u hj => by rw [Addr.add_lit, Nat.zero_add]; obtain rfl : j = 0 := (by rcases j with _ | j <;> simp_all); rw [hbc]; exact hj) (by intro u hu; simp at hu; subst hu; rfl) (by unfold maxLen; omega) (by omega) (by have := hq.ans.lt; omega) ?_
            intro v' w6 hown6 hg6 _
            obtain ⟨A6, c6, hv6⟩ := own_formA hown6
            obtain ⟨Ao, cq, hov, howno⟩ := hO
            have hlen : (Ln ++ [x]).length = Ln.length + 1 := by simp
            exact ⟨by simpa using hl, upQ V 6 v', by simp [upQ, Act.put], PA8.off (.inr (.inl rfl)) hP, .inr (.inr (.inl ⟨by rw [gD_ne (by decide)]; exact h1, by rw [gD_ne (by decide)]; exact h3, by rw [gD_ne (by decide)]; exact hbu, gD_self hl (by omega), by rw [gD_ne (by decide)]; exact hST, hq.own hg6 (fun k hk => (hown.lt k hk).1), x, hx, by rw [upQ_self]; exact ⟨A6, c6, by rw [hlen]; exact hv6, by rw [hlen, numsL_snoc]; exact hown6⟩⟩)), ⟨Ao, cq, hov, howno.kept hg6 (own_apartA howno hown (by decide))⟩⟩
          · go_simp
            exact IA8.pure hl hP hS hO 7 (pq q 1) (.inr (.inr (.inr (.inr (⟨rfl, rfl⟩))))) _ (by simp [upQ])
          · have eF := hP.2.2.2.2.2 (hd ⟨7, .data⟩ (by simp) rfl)
            have hap := hd ⟨6, .data⟩ (by simp) rfl
            obtain ⟨h1, h3, hbu, hq, x, hx, A6, c6, e6, hown6⟩ : l.getD 1 false = true ∧ l.getD 3 false = true ∧ l.getD 5 false = true ∧ AQ w R n cap A q co ct nv hv W ∧ ∃ x : Int, I64 x ∧ NRow q (V 6) (Ln ++ [x]) W := by
              rcases hS with ⟨_, h, _⟩ | ⟨_, _, h, _⟩ | ⟨h1, h3, hbu, _, _, k⟩ | ⟨_, _, _, _, h, _⟩
              · rw [hap] at h; cases h
              · rw [hap] at h; cases h
              · exact ⟨h1, h3, hbu, k⟩
              · rw [gD_out hl (by omega) hu] at h; cases h
            have hlen : (Ln ++ [x]).length = Ln.length + 1 := by simp
            rw [e6, hlen] at hown6
            rw [hlen] at e6
            have c1 := hq.ans.cell 1; have f1 := hq.ans.frozen 1
            simp only [eF, e6]
            go_simp
            exact ⟨by simpa using hl, V, by simp [eF, e6], PA8.offV (.inr (.inr rfl)) hP, .inr (.inr (.inr ⟨by rw [gD_ne (by decide)]; exact h1, by rw [gD_ne (by decide)]; exact h3, by rw [gD_ne (by decide)]; exact hbu, by rw [gD_ne (by decide)]; exact hap, gD_self hl (by omega), _, x, hx, hq.setN _, ⟨A6, c6, by rw [hlen], by rw [hlen]; exact own_setq hown6 _⟩⟩)), hO.setq _⟩
        · intro l a W hI hall
          obtain ⟨hl, VA8, rfl, _, hS, hO⟩ := hI
          obtain ⟨vA8, xA8, hxA8, hqA8, hrA8⟩ : ∃ (v : Value) (x : Int), I64 x ∧ AQ w R n cap A q co ct v hv W ∧ NRow q v (Ln ++ [x]) W := by
            have k := gD_in (by omega) (hall 8)
            rcases hS with ⟨_, _, h, _⟩ | ⟨_, _, _, h, _⟩ | ⟨_, _, _, _, h, _⟩ | ⟨_, _, _, _, _, h⟩
            · rw [k] at h; cases h
            · rw [k] at h; cases h
            · rw [k] at h; cases h
            · exact h
          clear hS
          have HXN := hid hxA8
          go_wp2_with fail
          refine region_inv (by kernel_rfl) (by kernel_rfl) (IA9 w R n cap A q co ct hv vA8 Lh (Ln ++ [xA8]) (fun V => ⟨#[.slice A n cap, undef, .pointer (some ⟨w.heap.size, 0, none⟩), .pointer (some ⟨R, 0, none⟩), .pointer (some ⟨q, 0, none⟩), .int .i64 (k : Int), .slice A n cap, .pointer (some ⟨R, 0, none⟩), .pointer (some ⟨R, 0, none⟩), .int .i64 co0, .pointer (some ⟨R, 0, none⟩), .int .i64 ct, .agg #[.int .i64 co0, .slice none 0 0, .slice none 0 0, .int .i64 ct], .pointer (some ⟨R, 0, none⟩), .bool false, undef, .pointer (some ⟨R, 0, none⟩), .int .i64 (i0 : Int), .int .i64 (k : Int), .bool true, u20, u21, VA8 0, VA8 1, VA8 2, VA8 3, VA8 4, VA8 5, VA8 6, VA8 7, V 0, V 1, V 2, V 3, V 4, V 5, V 6, undef], []⟩)) (fun l a W hI => hI.1) ?_ ?_ ?_
          · refine ⟨by simp, fun j => ([u30, u31, u32, u33, u34, u35, u36] : List Value).getD j undef, rfl, ?_, .inl ⟨by simp, by simp, by simp, hqA8.drew, hO.drew⟩, hrA8.drew⟩
            unfold PA9
            exact ⟨fun h => absurd h (by simp), fun h => absurd h (by simp), fun h => absurd h (by simp), fun h => absurd h (by simp), fun h => absurd h (by simp)⟩
          · intro i o ho l a W hI hu hd K hK
            obtain ⟨hl, V, rfl, hP, hS, hO⟩ := hI
            have hi : i < 8 := (Array.getElem?_eq_some_iff.1 ho).1
            obtain rfl | rfl | rfl | rfl | rfl | rfl | rfl | rfl : i = 0 ∨ i = 1 ∨ i = 2 ∨ i = 3 ∨ i = 4 ∨ i = 5 ∨ i = 6 ∨ i = 7 := by omega
            all_goals
              obtain rfl := Option.some.inj ho
              rw [if_pos (by rfl)]
              refine Oper.wp_mono hK ?_
            · go_simp
              exact IA9.pure hl hP hS hO 0 (pq q 2) (.inl ⟨rfl, rfl⟩) _ (by simp [upQ])
            · have e0 := hP.1 (hd ⟨0, .data⟩ (by simp) rfl)
              have c1 : W.cell? ⟨q, 2, none⟩ = some hv := by
                rcases hS with ⟨_, _, _, hq, _⟩ | ⟨_, _, _, _, hq, _⟩ | ⟨h, _⟩ | ⟨h, _⟩
                · exact hq.ans.cell 2
                · exact hq.ans.cell 2
                · rw [gD_out hl (by omega) hu] at h; cases h
                · rw [gD_out hl (by omega) hu] at h; cases h
              simp only [e0]
              go_simp
              exact IA9.pure hl hP hS hO 1 hv (.inr (.inl ⟨rfl, rfl⟩)) _ (by simp [upQ, e0])
            · go_simp
              exact IA9.pure hl hP hS hO 2 (pq R 0) (.inr (.inr (.inl ⟨rfl, rfl⟩))) _ (by simp [upQ])
            · have e2 := hP.2.2.1 (hd ⟨2, .data⟩ (by simp) rfl)
              obtain ⟨hBU, hAP, hST, hq, hrow⟩ : l.getD 4 false = false ∧ l.getD 5 false = false ∧ l.getD 7 false = false ∧ AQ w R n cap A q co ct vA8 hv W ∧ HRow q hv Lh W := by
                rcases hS with h | ⟨h, _⟩ | ⟨_, h, _⟩ | ⟨_, h, _⟩
                · exact h
                · rw [gD_out hl (by omega) hu] at h; cases h
                · rw [gD_out hl (by omega) hu] at h; cases h
                · rw [gD_out hl (by omega) hu] at h; cases h
              simp only [e2]
              go_simp
              go_at_call 26
              refine Calls.mono (hit_draw2 R n cap A W hq.rd) ?_
              rintro e W' ⟨xi, xs, rfl, hx, hR', hg⟩
              exact ⟨by simpa using hl, upQ V 3 (hitV xi xs), by simp [upQ, e2], PA9.at3 hl hP ⟨⟨xi, xs⟩, rfl, by show I64 xi; unfold I64; omega, by show I64 xs; unfold I64; omega⟩, .inl ⟨by rw [gD_ne (by decide)]; exact hBU, by rw [gD_ne (by decide)]; exact hAP, by rw [gD_ne (by decide)]; exact hST, hq.grown hR' hg, hrow.grown hg (by have := hq.lt2; omega)⟩, hO.grown hg (by have := hq.lt2; omega)⟩
            · have h3 := hd ⟨3, .data⟩ (by simp) rfl
              obtain ⟨x, e4, hx⟩ := hP.2.2.2.1 h3
              obtain ⟨hAP, hST, hq, hrow⟩ : l.getD 5 false = false ∧ l.getD 7 false = false ∧ AQ w R n cap A q co ct vA8 hv W ∧ HRow q hv Lh W := by
                rcases hS with ⟨_, h⟩ | ⟨_, h, _⟩ | ⟨_, _, h, _⟩ | ⟨_, _, h, _⟩
                · exact h
                · rw [gD_out hl (by omega) hu] at h; cases h
                · rw [gD_out hl (by omega) hu] at h; cases h
                · rw [gD_out hl (by omega) hu] at h; cases h
              have hBn := Blk.new W 25 #[.int .i64 x.ix, .int .i64 x.sc]
              simp only [e4]
              go_simp
              exact ⟨by simpa using hl, upQ V 4 (.slice (some ⟨W.heap.size, 0, none⟩) 1 1), by simp [upQ, e4], PA9.off (.inl rfl) hP, .inr (.inl ⟨by rw [gD_ne (by decide)]; exact h3, gD_self hl (by omega), by rw [gD_ne (by decide)]; exact hAP, by rw [gD_ne (by decide)]; exact hST, hq.alloc _, hrow.alloc _, W.heap.size, x, upQ_self, hx, hBn.lt, ⟨hBn.cell 0, hBn.cell 1⟩⟩), hO.alloc _⟩
            · have h1 := hd ⟨1, .data⟩ (by simp) rfl
              have e1 := hP.2.1 h1
              have hbu := hd ⟨4, .data⟩ (by simp) rfl
              obtain ⟨h3, hST, hq, hrow, b, x, e5, hx, hbl, hbc⟩ : l.getD 3 false = true ∧ l.getD 7 false = false ∧ AQ w R n cap A q co ct vA8 hv W ∧ HRow q hv Lh W ∧ ∃ (b : Nat) (x : Ht), V 4 = .slice (some ⟨b, 0, none⟩) 1 1 ∧ (I64 x.ix ∧ I64 x.sc) ∧ b < W.heap.size ∧ (W.cell? ⟨b, 0, none⟩ = some (.int .i64 x.ix) ∧ W.cell? ⟨b, 1, none⟩ = some (.int .i64 x.sc)) := by
                rcases hS with ⟨h, _⟩ | ⟨h3, _, _, h, k⟩ | ⟨_, _, _, h, _⟩ | ⟨_, _, _, h, _⟩
                · rw [hbu] at h; cases h
                · exact ⟨h3, h, k⟩
                · rw [gD_out hl (by omega) hu] at h; cases h
                · rw [gD_out hl (by omega) hu] at h; cases h
              obtain ⟨An, cn, hgv, hown⟩ := hrow
              obtain ⟨i0', hi0', hz0', hz1', hz2'⟩ := info_parts info_hit
              refine wp_append_own W (.tmp 31) (.tmp 34) 42 rfl (q + 1) 25 i0' (hitV 0 0) 2 16 Tryd.underlying42 hi0' hz0' hz1' hz2' rfl (by decide) hv Lh.length (hitsL Lh) (by show V 1 = _; exact e1) hown ⟨b, 0, none⟩ 1 1 (htC x) (by show V 4 = _; exact e5) rfl (fun j u hj => by rw [Addr.add_lit, Nat.zero_add]; obtain rfl | rfl : j = 0 ∨ j = 1 := (by have := (List.getElem?_eq_some_iff.1 hj).1; simp [htC] at this; omega); (rw [hbc.1]; exact hj); (rw [hbc.2]; exact hj)) (by intro u hu; simp [htC] at hu; rcases hu with rfl | rfl <;> rfl) (by unfold maxLen; have := HLL.out; omega) (by have := HLL.out; omega) (by have := hq.ans.lt; omega) ?_
              intro v' w6 hown6 hg6 _
              obtain ⟨A6, c6, hv6⟩ := own_formA hown6
              obtain ⟨Ao, cq, hov, howno⟩ := hO
              have hlen : (Lh ++ [x]).length = Lh.length + 1 := by simp
              exact ⟨by simpa using hl, upQ V 5 v', by simp [upQ, Act.put], PA9.off (.inr (.inl rfl)) hP, .inr (.inr (.inl ⟨by rw [gD_ne (by decide)]; exact h1, by rw [gD_ne (by decide)]; exact h3, by rw [gD_ne (by decide)]; exact hbu, gD_self hl (by omega), by rw [gD_ne (by decide)]; exact hST, hq.own hg6 (fun k hk => (hown.lt k hk).1), x, hx, by rw [upQ_self]; exact ⟨A6, c6, by rw [hlen]; exact hv6, by rw [hlen, hitsL_snoc]; exact hown6⟩⟩)), ⟨Ao, cq, hov, howno.kept hg6 (own_apartA howno hown (by decide))⟩⟩
            · go_simp
              exact IA9.pure hl hP hS hO 6 (pq q 2) (.inr (.inr (.inr (⟨rfl, rfl⟩)))) _ (by simp [upQ])
            · have eF := hP.2.2.2.2 (hd ⟨6, .data⟩ (by simp) rfl)
              have hap := hd ⟨5, .data⟩ (by simp) rfl
              obtain ⟨h1, h3, hbu, hq, x, hx, A6, c6, e6, hown6⟩ : l.getD 1 false = true ∧ l.getD 3 false = true ∧ l.getD 4 false = true ∧ AQ w R n cap A q co ct vA8 hv W ∧ ∃ x : Ht, (I64 x.ix ∧ I64 x.sc) ∧ HRow q (V 5) (Lh ++ [x]) W := by
                rcases hS with ⟨_, h, _⟩ | ⟨_, _, h, _⟩ | ⟨h1, h3, hbu, _, _, k⟩ | ⟨_, _, _, _, h, _⟩
                · rw [hap] at h; cases h
                · rw [hap] at h; cases h
                · exact ⟨h1, h3, hbu, k⟩
                · rw [gD_out hl (by omega) hu] at h; cases h
              have hlen : (Lh ++ [x]).length = Lh.length + 1 := by simp
              rw [e6, hlen] at hown6
              rw [hlen] at e6
              have c1 := hq.ans.cell 2; have f1 := hq.ans.frozen 2
              simp only [eF, e6]
              go_simp
              exact ⟨by simpa using hl, V, by simp [eF, e6], PA9.offV (.inr (.inr rfl)) hP, .inr (.inr (.inr ⟨by rw [gD_ne (by decide)]; exact h1, by rw [gD_ne (by decide)]; exact h3, by rw [gD_ne (by decide)]; exact hbu, by rw [gD_ne (by decide)]; exact hap, gD_self hl (by omega), _, x, hx, hq.setH _, ⟨A6, c6, by rw [hlen], by rw [hlen]; exact own_setq hown6 _⟩⟩)), hO.setq _⟩
          · intro l a W hI hall
            obtain ⟨hl, VA9, rfl, _, hS, hO⟩ := hI
            obtain ⟨vA9, xA9, hxA9, hqA9, hrA9⟩ : ∃ (v : Value) (x : Ht), (I64 x.ix ∧ I64 x.sc) ∧ AQ w R n cap A q co ct vA8 v W ∧ HRow q v (Lh ++ [x]) W := by
              have k := gD_in (by omega) (hall 7)
              rcases hS with ⟨_, _, h, _⟩ | ⟨_, _, _, h, _⟩ | ⟨_, _, _, _, h, _⟩ | ⟨_, _, _, _, _, h⟩
              · rw [k] at h; cases h
              · rw [k] at h; cases h
              · rw [k] at h; cases h
              · exact h
            clear hS
            have HXH := hid hxA9
            go_wp2_with fail
            go_roundw
            case rel =>
              refine ⟨k - 1, Ln ++ [xA8], Lh ++ [xA9], vA8, vA9, by go_num, by simp; omega, by have := HLL.out; simp; omega, hqA9, hO, hrA9, fun y hy => ?_, fun y hy => ?_⟩
              · rcases List.mem_append.1 hy with h | h
                · exact hIN.out y h
                · simp at h; subst h; exact HXN.out
              · rcases List.mem_append.1 hy with h | h
                · exact hIH.out y h
                · simp at h; subst h; exact HXH.out
            case measure => simp [intOf]; omega
      · obtain rfl : k = 0 := by omega
        obtain ⟨An, cn, rfl, hownN⟩ := hN.out
        obtain ⟨Ah, ch, rfl, hownH⟩ := hH.out
        have Q := hQ.out
        have c0 := Q.ans.cell 0; have c1 := Q.ans.cell 1; have c2 := Q.ans.cell 2; have c3 := Q.ans.cell 3
        have d0 := Q.res.cell 0; have d1 := Q.res.cell 1; have d2 := Q.res.cell 2; have d3 := Q.res.cell 3
        have f0 := Q.res.frozen 0; have f1 := Q.res.frozen 1; have f2 := Q.res.frozen 2; have f3 := Q.res.frozen 3
        have hne : w.heap.size ≠ q := by have := Q.lt1; have := Q.lt2; omega
        have hne' : q ≠ w.heap.size := fun e => hne e.symm
        have hqs : w.heap.size < q + 1 := by have := Q.lt1; have := Q.lt2; omega
        have HLL := hid hLL
        clear hLL
        have rN := own_rdI hownN
        have rH := own_rdH hownH
        go_wp2_with fail
        (try simp only [Exit.inBlock, Exit.then])
        refine bodyPost_ret (results_cell_row rfl _ _ w.heap.size 44 (anC co An Ln.length cn Ah Lh.length ch ct) (0, 0) _ rfl ((((Q.res.set_ 0 (.int .i64 co)).set_ 1 (.slice An Ln.length cn)).set_ 2 (.slice Ah Lh.length ch)).set_ 3 (.int .i64 ct)) Tryd.underlying44 rfl size_ansD) rfl ?_
        refine ⟨co, An, Ln.length, cn, (fun i => Ln.getD i 0), Ah, Lh.length, ch, (fun i => Lh.getD i ⟨0, 0⟩), ct, rfl, ⟨HC.out, fun i hi => ?_, fun i hi => ?_⟩, by omega, by omega, by omega, by have := HLL.out; omega, own_shapeA hownN, ?_, ?_, (((Q.bel.setCell (p := ⟨w.heap.size, 0, none⟩) (Nat.le_refl _) _).setCell (p := ⟨w.heap.size, 1, none⟩) (Nat.le_refl _) _).setCell (p := ⟨w.heap.size, 2, none⟩) (Nat.le_refl _) _).setCell (p := ⟨w.heap.size, 3, none⟩) (Nat.le_refl _) _⟩
        · exact hIN.out _ (getD_memI hi)
        · exact hIH.out _ (getD_memH hi)
        · exact own_rdI (own_setw (own_setw (own_setw (own_setw hownN hqs _) hqs _) hqs _) hqs _)
        · exact own_rdH (own_setw (own_setw (own_setw (own_setw hownH hqs _) hqs _) hqs _) hqs _)
  · have c0 := Q5.ans.cell 0; have f0 := Q5.ans.frozen 0
    have Q5' := Q5.setC 0
    obtain ⟨co, hcoe⟩ : ∃ co, (0 : Int) = co := ⟨_, rfl⟩
    go_wp2_with fail
    rw [hcoe] at Q5'
    clear Q5 c0 f0
    generalize w5.setCell ⟨q, 0, none⟩ (.int .i64 0) = W5 at Q5' ⊢
    have Q5 := Q5'
    clear Q5'
    have HC : Hid (I64 co) := by show I64 co; rw [← hcoe]; unfold I64; omega
    clear hcoe
    refine (below_draw R n cap A 4 _ Q5.rd (by omega) (by omega)).mono ?_
    rintro e w6 ⟨i0, rfl, hi0, hi1, hR6, hg6⟩
    have Q6 := Q5.grown hR6 hg6
    obtain ⟨i0, rfl⟩ := Int.eq_ofNat_of_zero_le hi0
    clear Q5 hR6 hg6
    go_wp2_with fail
    go_loopw [5] (fun i wr => ∃ (k : Nat) (Ln : List Int) (Lh : List Ht) (nv hv : Value), i = .int .i64 k ∧ Ln.length + k ≤ 3 ∧ Lh.length = Ln.length ∧ Hid (AQ w R n cap A q co ct nv hv wr) ∧ Hid (NRow q nv Ln wr) ∧ Hid (HRow q hv Lh wr) ∧ Hid (∀ x ∈ Ln, I64 x) ∧ Hid (∀ x ∈ Lh, I64 x.ix ∧ I64 x.sc))
      (fun i _ => (intOf i).toNat)
    case atStart => exact ⟨i0, [], [], _, _, rfl, by simp; omega, rfl, Q6, ⟨none, 0, rfl, rfl, .inl ⟨rfl, rfl⟩⟩, ⟨none, 0, rfl, rfl, .inl ⟨rfl, rfl⟩⟩, (fun x hx => by cases hx), (fun x hx => by cases hx)⟩
    case round =>
      obtain ⟨k, Ln, Lh, nv, hv, rfl, hk, hLL, hQ, hN, hH, hIN, hIH⟩ := hrel
      by_cases hlt : 0 < k
      · have i1 : (0 : Int) < (k : Int) := by omega
        have HLL := hid hLL
        clear hLL
        go_wp2_with fail
        refine region_inv (by kernel_rfl) (by kernel_rfl) (IA8 w R n cap A q co ct nv hv Ln Lh (fun V => ⟨#[.slice A n cap, undef, .pointer (some ⟨w.heap.size, 0, none⟩), .pointer (some ⟨R, 0, none⟩), .pointer (some ⟨q, 0, none⟩), .int .i64 (k : Int), .slice A n cap, .pointer (some ⟨R, 0, none⟩), .pointer (some ⟨R, 0, none⟩), .int .i64 co0, .pointer (some ⟨R, 0, none⟩), .int .i64 ct, .agg #[.int .i64 co0, .slice none 0 0, .slice none 0 0, .int .i64 ct], .pointer (some ⟨R, 0, none⟩), .bool true, .pointer (some ⟨q, 0, none⟩), .pointer (some ⟨R, 0, none⟩), .int .i64 (i0 : Int), .int .i64 (k : Int), .bool true, u20, u21, V 0, V 1, V 2, V 3, V 4, V 5, V 6, V 7, u30, u31, u32, u33, u34, u35, u36, undef], []⟩)) (fun l a W hI => hI.1) ?_ ?_ ?_
        · refine ⟨by simp, fun j => ([u22, u23, u24, u25, u26, u27, u28, u29] : List Value).getD j undef, rfl, ?_, .inl ⟨by simp, by simp, by simp, hQ.out.drew, hN.out.drew⟩, hH.out.drew⟩
          unfold PA8
          exact ⟨fun h => absurd h (by simp), fun h => absurd h (by simp), fun h => absurd h (by simp), fun h => absurd h (by simp), fun h => absurd h (by simp), fun h => absurd h (by simp)⟩
        · intro i o ho l a W hI hu hd K hK
          obtain ⟨hl, V, rfl, hP, hS, hO⟩ := hI
          have hi : i < 9 := (Array.getElem?_eq_some_iff.1 ho).1
          obtain rfl | rfl | rfl | rfl | rfl | rfl | rfl | rfl | rfl : i = 0 ∨ i = 1 ∨ i = 2 ∨ i = 3 ∨ i = 4 ∨ i = 5 ∨ i = 6 ∨ i = 7 ∨ i = 8 := by omega
          all_goals
            obtain rfl := Option.some.inj ho
            rw [if_pos (by rfl)]
            refine Oper.wp_mono hK ?_
          · go_simp
            exact IA8.pure hl hP hS hO 0 (pq q 1) (.inl ⟨rfl, rfl⟩) _ (by simp [upQ])
          · have e0 := hP.1 (hd ⟨0, .data⟩ (by simp) rfl)
            have c1 : W.cell? ⟨q, 1, none⟩ = some nv := by
              rcases hS with ⟨_, _, _, hq, _⟩ | ⟨_, _, _, _, hq, _⟩ | ⟨h, _⟩ | ⟨h, _⟩
              · exact hq.ans.cell 1
              · exact hq.ans.cell 1
              · rw [gD_out hl (by omega) hu] at h; cases h
              · rw [gD_out hl (by omega) hu] at h; cases h
            simp only [e0]
            go_simp
            exact IA8.pure hl hP hS hO 1 nv (.inr (.inl ⟨rfl, rfl⟩)) _ (by simp [upQ, e0])
          · go_simp
            exact IA8.pure hl hP hS hO 2 (pq R 0) (.inr (.inr (.inl ⟨rfl, rfl⟩))) _ (by simp [upQ])
          · have e2 := hP.2.2.1 (hd ⟨2, .data⟩ (by simp) rfl)
            obtain ⟨hBU, hAP, hST, hq, hrow⟩ : l.getD 5 false = false ∧ l.getD 6 false = false ∧ l.getD 8 false = false ∧ AQ w R n cap A q co ct nv hv W ∧ NRow q nv Ln W := by
              rcases hS with h | ⟨h, _⟩ | ⟨_, h, _⟩ | ⟨_, h, _⟩
              · exact h
              · rw [gD_out hl (by omega) hu] at h; cases h
              · rw [gD_out hl (by omega) hu] at h; cases h
              · rw [gD_out hl (by omega) hu] at h; cases h
            simp only [e2]
            go_simp
            go_at_call 27
            refine Calls.mono (below_draw R n cap A 90 W hq.rd (by omega) (by omega)) ?_
            rintro e W' ⟨x, rfl, hx0, hx1, hR', hg⟩
            exact ⟨by simpa using hl, upQ V 3 (.int .i64 x), by simp [upQ, e2], PA8.at3 hl hP ⟨x, rfl, hx0, hx1⟩, .inl ⟨by rw [gD_ne (by decide)]; exact hBU, by rw [gD_ne (by decide)]; exact hAP, by rw [gD_ne (by decide)]; exact hST, hq.grown hR' hg, hrow.grown hg (by have := hq.lt2; omega)⟩, hO.grown hg (by have := hq.lt2; omega)⟩
          · have h3 := hd ⟨3, .data⟩ (by simp) rfl
            obtain ⟨x, e3, hx0, hx1⟩ := hP.2.2.2.1 h3
            have hwr : IntKind.i64.wrap (x - 40) = x - 40 := IntWalk.i64_in _ (by omega)
            simp only [e3]
            go_simp
            exact IA8.pure hl hP hS hO 4 (.int .i64 (x - 40)) (.inr (.inr (.inr (.inl ⟨rfl, h3, x - 40, rfl, by unfold I64; omega⟩)))) _ (by simp [upQ, e3])
          · obtain ⟨h3, x, e4, hx⟩ := hP.2.2.2.2.1 (hd ⟨4, .data⟩ (by simp) rfl)
            obtain ⟨hAP, hST, hq, hrow⟩ : l.getD 6 false = false ∧ l.getD 8 false = false ∧ AQ w R n cap A q co ct nv hv W ∧ NRow q nv Ln W := by
              rcases hS with ⟨_, h⟩ | ⟨_, h, _⟩ | ⟨_, _, h, _⟩ | ⟨_, _, h, _⟩
              · exact h
              · rw [gD_out hl (by omega) hu] at h; cases h
              · rw [gD_out hl (by omega) hu] at h; cases h
              · rw [gD_out hl (by omega) hu] at h; cases h
            have hBn := Blk.new W 2 #[.int .i64 x]
            simp only [e4]
            go_simp
            exact ⟨by simpa using hl, upQ V 5 (.slice (some ⟨W.heap.size, 0, none⟩) 1 1), by simp [upQ, e4], PA8.off (.inl rfl) hP, .inr (.inl ⟨by rw [gD_ne (by decide)]; exact h3, gD_self hl (by omega), by rw [gD_ne (by decide)]; exact hAP, by rw [gD_ne (by decide)]; exact hST, hq.alloc _, hrow.alloc _, W.heap.size, x, upQ_self, hx, hBn.lt, hBn.cell 0⟩), hO.alloc _⟩
          · have h1 := hd ⟨1, .data⟩ (by simp) rfl
            have e1 := hP.2.1 h1
            have hbu := hd ⟨5, .data⟩ (by simp) rfl
            obtain ⟨h3, hST, hq, hrow, b, x, e5, hx, hbl, hbc⟩ : l.getD 3 false = true ∧ l.getD 8 false = false ∧ AQ w R n cap A q co ct nv hv W ∧ NRow q nv Ln W ∧ ∃ (b : Nat) (x : Int), V 5 = .slice (some ⟨b, 0, none⟩) 1 1 ∧ I64 x ∧ b < W.heap.size ∧ W.cell? ⟨b, 0, none⟩ = some (.int .i64 x) := by
              rcases hS with ⟨h, _⟩ | ⟨h3, _, _, h, k⟩ | ⟨_, _, _, h, _⟩ | ⟨_, _, _, h, _⟩
              · rw [hbu] at h; cases h
              · exact ⟨h3, h, k⟩
              · rw [gD_out hl (by omega) hu] at h; cases h
              · rw [gD_out hl (by omega) hu] at h; cases h
            obtain ⟨An, cn, hgv, hown⟩ := hrow
            obtain ⟨i0', hi0', hz0', hz1', hz2'⟩ := info_parts info_int
            refine wp_append_own W (.tmp 23) (.tmp 27) 41 rfl (q + 1) 2 i0' (.int .i64 0) 1 8 Tryd.underlying41 hi0' hz0' hz1' hz2' rfl (by decide) nv Ln.length (numsL Ln) (by show V 1 = _; exact e1) hown ⟨b, 0, none⟩ 1 1 [.int .i64 x] (by show V 5 = _; exact e5) rfl (fun j u hj => by rw [Addr.add_lit, Nat.zero_add]; obtain rfl : j = 0 := (by rcases j with _ | j <;> simp_all); rw [hbc]; exact hj) (by intro u hu; simp at hu; subst hu; rfl) (by unfold maxLen; omega) (by omega) (by have := hq.ans.lt; omega) ?_
            intro v' w6 hown6 hg6 _
            obtain ⟨A6, c6, hv6⟩ := own_formA hown6
            obtain ⟨Ao, cq, hov, howno⟩ := hO
            have hlen : (Ln ++ [x]).length = Ln.length + 1 := by simp
            exact ⟨by simpa using hl, upQ V 6 v', by simp [upQ, Act.put], PA8.off (.inr (.inl rfl)) hP, .inr (.inr (.inl ⟨by rw [gD_ne (by decide)]; exact h1, by rw [gD_ne (by decide)]; exact h3, by rw [gD_ne (by decide)]; exact hbu, gD_self hl (by omega), by rw [gD_ne (by decide)]; exact hST, hq.own hg6 (fun k hk => (hown.lt k hk).1), x, hx, by rw [upQ_self]; exact ⟨A6, c6, by rw [hlen]; exact hv6, by rw [hlen, numsL_snoc]; exact hown6⟩⟩)), ⟨Ao, cq, hov, howno.kept hg6 (own_apartA howno hown (by decide))⟩⟩
          · go_simp
            exact IA8.pure hl hP hS hO 7 (pq q 1) (.inr (.inr (.inr (.inr (⟨rfl, rfl⟩))))) _ (by simp [upQ])
          · have eF := hP.2.2.2.2.2 (hd ⟨7, .data⟩ (by simp) rfl)
            have hap := hd ⟨6, .data⟩ (by simp) rfl
            obtain ⟨h1, h3, hbu, hq, x, hx, A6, c6, e6, hown6⟩ : l.getD 1 false = true ∧ l.getD 3 false = true ∧ l.getD 5 false = true ∧ AQ w R n cap A q co ct nv hv W ∧ ∃ x : Int, I64 x ∧ NRow q (V 6) (Ln ++ [x]) W := by
              rcases hS with ⟨_, h, _⟩ | ⟨_, _, h, _⟩ | ⟨h1, h3, hbu, _, _, k⟩ | ⟨_, _, _, _, h, _⟩
              · rw [hap] at h; cases h
              · rw [hap] at h; cases h
              · exact ⟨h1, h3, hbu, k⟩
              · rw [gD_out hl (by omega) hu] at h; cases h
            have hlen : (Ln ++ [x]).length = Ln.length + 1 := by simp
            rw [e6, hlen] at hown6
            rw [hlen] at e6
            have c1 := hq.ans.cell 1; have f1 := hq.ans.frozen 1
            simp only [eF, e6]
            go_simp
            exact ⟨by simpa using hl, V, by simp [eF, e6], PA8.offV (.inr (.inr rfl)) hP, .inr (.inr (.inr ⟨by rw [gD_ne (by decide)]; exact h1, by rw [gD_ne (by decide)]; exact h3, by rw [gD_ne (by decide)]; exact hbu, by rw [gD_ne (by decide)]; exact hap, gD_self hl (by omega), _, x, hx, hq.setN _, ⟨A6, c6, by rw [hlen], by rw [hlen]; exact own_setq hown6 _⟩⟩)), hO.setq _⟩
        · intro l a W hI hall
          obtain ⟨hl, VA8, rfl, _, hS, hO⟩ := hI
          obtain ⟨vA8, xA8, hxA8, hqA8, hrA8⟩ : ∃ (v : Value) (x : Int), I64 x ∧ AQ w R n cap A q co ct v hv W ∧ NRow q v (Ln ++ [x]) W := by
            have k := gD_in (by omega) (hall 8)
            rcases hS with ⟨_, _, h, _⟩ | ⟨_, _, _, h, _⟩ | ⟨_, _, _, _, h, _⟩ | ⟨_, _, _, _, _, h⟩
            · rw [k] at h; cases h
            · rw [k] at h; cases h
            · rw [k] at h; cases h
            · exact h
          clear hS
          have HXN := hid hxA8
          go_wp2_with fail
          refine region_inv (by kernel_rfl) (by kernel_rfl) (IA9 w R n cap A q co ct hv vA8 Lh (Ln ++ [xA8]) (fun V => ⟨#[.slice A n cap, undef, .pointer (some ⟨w.heap.size, 0, none⟩), .pointer (some ⟨R, 0, none⟩), .pointer (some ⟨q, 0, none⟩), .int .i64 (k : Int), .slice A n cap, .pointer (some ⟨R, 0, none⟩), .pointer (some ⟨R, 0, none⟩), .int .i64 co0, .pointer (some ⟨R, 0, none⟩), .int .i64 ct, .agg #[.int .i64 co0, .slice none 0 0, .slice none 0 0, .int .i64 ct], .pointer (some ⟨R, 0, none⟩), .bool true, .pointer (some ⟨q, 0, none⟩), .pointer (some ⟨R, 0, none⟩), .int .i64 (i0 : Int), .int .i64 (k : Int), .bool true, u20, u21, VA8 0, VA8 1, VA8 2, VA8 3, VA8 4, VA8 5, VA8 6, VA8 7, V 0, V 1, V 2, V 3, V 4, V 5, V 6, undef], []⟩)) (fun l a W hI => hI.1) ?_ ?_ ?_
          · refine ⟨by simp, fun j => ([u30, u31, u32, u33, u34, u35, u36] : List Value).getD j undef, rfl, ?_, .inl ⟨by simp, by simp, by simp, hqA8.drew, hO.drew⟩, hrA8.drew⟩
            unfold PA9
            exact ⟨fun h => absurd h (by simp), fun h => absurd h (by simp), fun h => absurd h (by simp), fun h => absurd h (by simp), fun h => absurd h (by simp)⟩
          · intro i o ho l a W hI hu hd K hK
            obtain ⟨hl, V, rfl, hP, hS, hO⟩ := hI
            have hi : i < 8 := (Array.getElem?_eq_some_iff.1 ho).1
            obtain rfl | rfl | rfl | rfl | rfl | rfl | rfl | rfl : i = 0 ∨ i = 1 ∨ i = 2 ∨ i = 3 ∨ i = 4 ∨ i = 5 ∨ i = 6 ∨ i = 7 := by omega
            all_goals
              obtain rfl := Option.some.inj ho
              rw [if_pos (by rfl)]
              refine Oper.wp_mono hK ?_
            · go_simp
              exact IA9.pure hl hP hS hO 0 (pq q 2) (.inl ⟨rfl, rfl⟩) _ (by simp [upQ])
            · have e0 := hP.1 (hd ⟨0, .data⟩ (by simp) rfl)
              have c1 : W.cell? ⟨q, 2, none⟩ = some hv := by
                rcases hS with ⟨_, _, _, hq, _⟩ | ⟨_, _, _, _, hq, _⟩ | ⟨h, _⟩ | ⟨h, _⟩
                · exact hq.ans.cell 2
                · exact hq.ans.cell 2
                · rw [gD_out hl (by omega) hu] at h; cases h
                · rw [gD_out hl (by omega) hu] at h; cases h
              simp only [e0]
              go_simp
              exact IA9.pure hl hP hS hO 1 hv (.inr (.inl ⟨rfl, rfl⟩)) _ (by simp [upQ, e0])
            · go_simp
              exact IA9.pure hl hP hS hO 2 (pq R 0) (.inr (.inr (.inl ⟨rfl, rfl⟩))) _ (by simp [upQ])
            · have e2 := hP.2.2.1 (hd ⟨2, .data⟩ (by simp) rfl)
              obtain ⟨hBU, hAP, hST, hq, hrow⟩ : l.getD 4 false = false ∧ l.getD 5 false = false ∧ l.getD 7 false = false ∧ AQ w R n cap A q co ct vA8 hv W ∧ HRow q hv Lh W := by
                rcases hS with h | ⟨h, _⟩ | ⟨_, h, _⟩ | ⟨_, h, _⟩
                · exact h
                · rw [gD_out hl (by omega) hu] at h; cases h
                · rw [gD_out hl (by omega) hu] at h; cases h
                · rw [gD_out hl (by omega) hu] at h; cases h
              simp only [e2]
              go_simp
              go_at_call 26
              refine Calls.mono (hit_draw2 R n cap A W hq.rd) ?_
              rintro e W' ⟨xi, xs, rfl, hx, hR', hg⟩
              exact ⟨by simpa using hl, upQ V 3 (hitV xi xs), by simp [upQ, e2], PA9.at3 hl hP ⟨⟨xi, xs⟩, rfl, by show I64 xi; unfold I64; omega, by show I64 xs; unfold I64; omega⟩, .inl ⟨by rw [gD_ne (by decide)]; exact hBU, by rw [gD_ne (by decide)]; exact hAP, by rw [gD_ne (by decide)]; exact hST, hq.grown hR' hg, hrow.grown hg (by have := hq.lt2; omega)⟩, hO.grown hg (by have := hq.lt2; omega)⟩
            · have h3 := hd ⟨3, .data⟩ (by simp) rfl
              obtain ⟨x, e4, hx⟩ := hP.2.2.2.1 h3
              obtain ⟨hAP, hST, hq, hrow⟩ : l.getD 5 false = false ∧ l.getD 7 false = false ∧ AQ w R n cap A q co ct vA8 hv W ∧ HRow q hv Lh W := by
                rcases hS with ⟨_, h⟩ | ⟨_, h, _⟩ | ⟨_, _, h, _⟩ | ⟨_, _, h, _⟩
                · exact h
                · rw [gD_out hl (by omega) hu] at h; cases h
                · rw [gD_out hl (by omega) hu] at h; cases h
                · rw [gD_out hl (by omega) hu] at h; cases h
              have hBn := Blk.new W 25 #[.int .i64 x.ix, .int .i64 x.sc]
              simp only [e4]
              go_simp
              exact ⟨by simpa using hl, upQ V 4 (.slice (some ⟨W.heap.size, 0, none⟩) 1 1), by simp [upQ, e4], PA9.off (.inl rfl) hP, .inr (.inl ⟨by rw [gD_ne (by decide)]; exact h3, gD_self hl (by omega), by rw [gD_ne (by decide)]; exact hAP, by rw [gD_ne (by decide)]; exact hST, hq.alloc _, hrow.alloc _, W.heap.size, x, upQ_self, hx, hBn.lt, ⟨hBn.cell 0, hBn.cell 1⟩⟩), hO.alloc _⟩
            · have h1 := hd ⟨1, .data⟩ (by simp) rfl
              have e1 := hP.2.1 h1
              have hbu := hd ⟨4, .data⟩ (by simp) rfl
              obtain ⟨h3, hST, hq, hrow, b, x, e5, hx, hbl, hbc⟩ : l.getD 3 false = true ∧ l.getD 7 false = false ∧ AQ w R n cap A q co ct vA8 hv W ∧ HRow q hv Lh W ∧ ∃ (b : Nat) (x : Ht), V 4 = .slice (some ⟨b, 0, none⟩) 1 1 ∧ (I64 x.ix ∧ I64 x.sc) ∧ b < W.heap.size ∧ (W.cell? ⟨b, 0, none⟩ = some (.int .i64 x.ix) ∧ W.cell? ⟨b, 1, none⟩ = some (.int .i64 x.sc)) := by
                rcases hS with ⟨h, _⟩ | ⟨h3, _, _, h, k⟩ | ⟨_, _, _, h, _⟩ | ⟨_, _, _, h, _⟩
                · rw [hbu] at h; cases h
                · exact ⟨h3, h, k⟩
                · rw [gD_out hl (by omega) hu] at h; cases h
                · rw [gD_out hl (by omega) hu] at h; cases h
              obtain ⟨An, cn, hgv, hown⟩ := hrow
              obtain ⟨i0', hi0', hz0', hz1', hz2'⟩ := info_parts info_hit
              refine wp_append_own W (.tmp 31) (.tmp 34) 42 rfl (q + 1) 25 i0' (hitV 0 0) 2 16 Tryd.underlying42 hi0' hz0' hz1' hz2' rfl (by decide) hv Lh.length (hitsL Lh) (by show V 1 = _; exact e1) hown ⟨b, 0, none⟩ 1 1 (htC x) (by show V 4 = _; exact e5) rfl (fun j u hj => by rw [Addr.add_lit, Nat.zero_add]; obtain rfl | rfl : j = 0 ∨ j = 1 := (by have := (List.getElem?_eq_some_iff.1 hj).1; simp [htC] at this; omega); (rw [hbc.1]; exact hj); (rw [hbc.2]; exact hj)) (by intro u hu; simp [htC] at hu; rcases hu with rfl | rfl <;> rfl) (by unfold maxLen; have := HLL.out; omega) (by have := HLL.out; omega) (by have := hq.ans.lt; omega) ?_
              intro v' w6 hown6 hg6 _
              obtain ⟨A6, c6, hv6⟩ := own_formA hown6
              obtain ⟨Ao, cq, hov, howno⟩ := hO
              have hlen : (Lh ++ [x]).length = Lh.length + 1 := by simp
              exact ⟨by simpa using hl, upQ V 5 v', by simp [upQ, Act.put], PA9.off (.inr (.inl rfl)) hP, .inr (.inr (.inl ⟨by rw [gD_ne (by decide)]; exact h1, by rw [gD_ne (by decide)]; exact h3, by rw [gD_ne (by decide)]; exact hbu, gD_self hl (by omega), by rw [gD_ne (by decide)]; exact hST, hq.own hg6 (fun k hk => (hown.lt k hk).1), x, hx, by rw [upQ_self]; exact ⟨A6, c6, by rw [hlen]; exact hv6, by rw [hlen, hitsL_snoc]; exact hown6⟩⟩)), ⟨Ao, cq, hov, howno.kept hg6 (own_apartA howno hown (by decide))⟩⟩
            · go_simp
              exact IA9.pure hl hP hS hO 6 (pq q 2) (.inr (.inr (.inr (⟨rfl, rfl⟩)))) _ (by simp [upQ])
            · have eF := hP.2.2.2.2 (hd ⟨6, .data⟩ (by simp) rfl)
              have hap := hd ⟨5, .data⟩ (by simp) rfl
              obtain ⟨h1, h3, hbu, hq, x, hx, A6, c6, e6, hown6⟩ : l.getD 1 false = true ∧ l.getD 3 false = true ∧ l.getD 4 false = true ∧ AQ w R n cap A q co ct vA8 hv W ∧ ∃ x : Ht, (I64 x.ix ∧ I64 x.sc) ∧ HRow q (V 5) (Lh ++ [x]) W := by
                rcases hS with ⟨_, h, _⟩ | ⟨_, _, h, _⟩ | ⟨h1, h3, hbu, _, _, k⟩ | ⟨_, _, _, _, h, _⟩
                · rw [hap] at h; cases h
                · rw [hap] at h; cases h
                · exact ⟨h1, h3, hbu, k⟩
                · rw [gD_out hl (by omega) hu] at h; cases h
              have hlen : (Lh ++ [x]).length = Lh.length + 1 := by simp
              rw [e6, hlen] at hown6
              rw [hlen] at e6
              have c1 := hq.ans.cell 2; have f1 := hq.ans.frozen 2
              simp only [eF, e6]
              go_simp
              exact ⟨by simpa using hl, V, by simp [eF, e6], PA9.offV (.inr (.inr rfl)) hP, .inr (.inr (.inr ⟨by rw [gD_ne (by decide)]; exact h1, by rw [gD_ne (by decide)]; exact h3, by rw [gD_ne (by decide)]; exact hbu, by rw [gD_ne (by decide)]; exact hap, gD_self hl (by omega), _, x, hx, hq.setH _, ⟨A6, c6, by rw [hlen], by rw [hlen]; exact own_setq hown6 _⟩⟩)), hO.setq _⟩
          · intro l a W hI hall
            obtain ⟨hl, VA9, rfl, _, hS, hO⟩ := hI
            obtain ⟨vA9, xA9, hxA9, hqA9, hrA9⟩ : ∃ (v : Value) (x : Ht), (I64 x.ix ∧ I64 x.sc) ∧ AQ w R n cap A q co ct vA8 v W ∧ HRow q v (Lh ++ [x]) W := by
              have k := gD_in (by omega) (hall 7)
              rcases hS with ⟨_, _, h, _⟩ | ⟨_, _, _, h, _⟩ | ⟨_, _, _, _, h, _⟩ | ⟨_, _, _, _, _, h⟩
              · rw [k] at h; cases h
              · rw [k] at h; cases h
              · rw [k] at h; cases h
              · exact h
            clear hS
            have HXH := hid hxA9
            go_wp2_with fail
            go_roundw
            case rel =>
              refine ⟨k - 1, Ln ++ [xA8], Lh ++ [xA9], vA8, vA9, by go_num, by simp; omega, by have := HLL.out; simp; omega, hqA9, hO, hrA9, fun y hy => ?_, fun y hy => ?_⟩
              · rcases List.mem_append.1 hy with h | h
                · exact hIN.out y h
                · simp at h; subst h; exact HXN.out
              · rcases List.mem_append.1 hy with h | h
                · exact hIH.out y h
                · simp at h; subst h; exact HXH.out
            case measure => simp [intOf]; omega
      · obtain rfl : k = 0 := by omega
        obtain ⟨An, cn, rfl, hownN⟩ := hN.out
        obtain ⟨Ah, ch, rfl, hownH⟩ := hH.out
        have Q := hQ.out
        have c0 := Q.ans.cell 0; have c1 := Q.ans.cell 1; have c2 := Q.ans.cell 2; have c3 := Q.ans.cell 3
        have d0 := Q.res.cell 0; have d1 := Q.res.cell 1; have d2 := Q.res.cell 2; have d3 := Q.res.cell 3
        have f0 := Q.res.frozen 0; have f1 := Q.res.frozen 1; have f2 := Q.res.frozen 2; have f3 := Q.res.frozen 3
        have hne : w.heap.size ≠ q := by have := Q.lt1; have := Q.lt2; omega
        have hne' : q ≠ w.heap.size := fun e => hne e.symm
        have hqs : w.heap.size < q + 1 := by have := Q.lt1; have := Q.lt2; omega
        have HLL := hid hLL
        clear hLL
        have rN := own_rdI hownN
        have rH := own_rdH hownH
        go_wp2_with fail
        (try simp only [Exit.inBlock, Exit.then])
        refine bodyPost_ret (results_cell_row rfl _ _ w.heap.size 44 (anC co An Ln.length cn Ah Lh.length ch ct) (0, 0) _ rfl ((((Q.res.set_ 0 (.int .i64 co)).set_ 1 (.slice An Ln.length cn)).set_ 2 (.slice Ah Lh.length ch)).set_ 3 (.int .i64 ct)) Tryd.underlying44 rfl size_ansD) rfl ?_
        refine ⟨co, An, Ln.length, cn, (fun i => Ln.getD i 0), Ah, Lh.length, ch, (fun i => Lh.getD i ⟨0, 0⟩), ct, rfl, ⟨HC.out, fun i hi => ?_, fun i hi => ?_⟩, by omega, by omega, by omega, by have := HLL.out; omega, own_shapeA hownN, ?_, ?_, (((Q.bel.setCell (p := ⟨w.heap.size, 0, none⟩) (Nat.le_refl _) _).setCell (p := ⟨w.heap.size, 1, none⟩) (Nat.le_refl _) _).setCell (p := ⟨w.heap.size, 2, none⟩) (Nat.le_refl _) _).setCell (p := ⟨w.heap.size, 3, none⟩) (Nat.le_refl _) _⟩
        · exact hIN.out _ (getD_memI hi)
        · exact hIH.out _ (getD_memH hi)
        · exact own_rdI (own_setw (own_setw (own_setw (own_setw hownN hqs _) hqs _) hqs _) hqs _)
        · exact own_rdH (own_setw (own_setw (own_setw (own_setw hownH hqs _) hqs _) hqs _) hqs _)
end Go.Proofs.YthjphnopcgdgdaaDoor
