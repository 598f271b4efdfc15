/- What DrawCacheGet draws. -/
import Derived.Test.YtckhooibjmheiaaCdB
import Derived.Test.YtckhooibjmheiaaCdC
import Derived.Deep.RegionHeld3
import Derived.Deep.DeepCutAuto
namespace Go.Proofs.Ytckhooibjmheiaa
open Go.RowKit Go.Deep
set_option linter.unusedVariables false
set_option linter.unusedSimpArgs false

theorem own_far3 {W : World} {base rb : Nat} {e : TypeId} {size m : Nat} {v : Value} {xs : List Value} (h : W.ownsRow base e size v m xs) (hlt : rb < base) (v0 v1 v2 : Value) : (((W.setCell ⟨rb, 0, none⟩ v0).setCell ⟨rb, 1, none⟩ v1).setCell ⟨rb, 2, none⟩ v2).ownsRow base e size v m xs := by
  have hn : ∀ k, v.ownBlock = some k → k ≠ rb := fun k hk e => by have := (h.lt k hk).1; omega
  exact own_set (own_set (own_set h hn _) hn _) hn _
def DrawnGet (w : World) (e : Ending) (w' : World) : Prop :=
  ∃ (cp ck : Int) (A' : Option Addr) (k c : Nat) (s : Nat → Slt) (D : Option Addr) (f dc : Nat) (z : Nat → Int), (k ≤ 8 ∧ ∀ i, i < k → (s i).n ≤ 16) ∧ f ≤ 17 ∧ e = .returned (.tuple #[.agg #[.int .i64 cp, .int .i64 ck, .slice A' k c], .slice D f dc]) ∧ RdC w' w'.heap.size A' k s ∧ Rd w' w'.heap.size D f z ∧ Below w.heap.size w w'
set_option maxRecDepth 100000 in
set_option maxHeartbeats 8000000 in
theorem drawCacheGet (A : Option Addr) (n cap : Nat) (w : World) (h : Bs w w.heap.size A n) (hn : n ≤ 4194304) :
    Calls Try.prog 21 #[.slice A n cap] w (DrawnGet w) := by
  have hb0 := (Below.refl w.heap.size w).alloc (Nat.le_refl _) (.cells #[.int .i64 0, .int .i64 0, .slice none 0 0] 26)
  have hZ0 := Blk.new w 26 #[.int .i64 0, .int .i64 0, .slice none 0 0]
  have hs0 : (w.alloc (.cells #[.int .i64 0, .int .i64 0, .slice none 0 0] 26)).heap.size = w.heap.size + 1 := World.size_alloc _ _
  have hB0 : Bs (w.alloc (.cells #[.int .i64 0, .int .i64 0, .slice none 0 0] 26)) w.heap.size A n := h.keep fun p hp => hb0.cell hp
  go_enter Try.func21, Try.ntmps21
  go_wp2_with fail
  refine (open_draw A n cap _ (hB0.more (by omega)) hn).mono ?_
  rintro e w1 ⟨rfl, hR1, hb1⟩
  generalize hRd : (w.alloc (.cells #[.int .i64 0, .int .i64 0, .slice none 0 0] 26)).heap.size = R at *
  have hRw : w.heap.size < R := by omega
  have hZ1 : Blk w1 w.heap.size 26 #[.int .i64 0, .int .i64 0, .slice none 0 0] := (hb1.block _ hRw).trans hZ0
  have hB1 := hb0.trans (hb1.mono (Nat.le_of_lt hRw))
  clear hb0 hZ0 hB0 hs0 hb1 hRd
  go_wp2_with fail
  refine (below_draw R n cap A 2 _ hR1 (by omega) (by omega)).mono ?_
  rintro e w2 ⟨x, rfl, hx0, hx1, hR2, hg2⟩
  have hZ2 : Blk w2 w.heap.size 26 #[.int .i64 0, .int .i64 0, .slice none 0 0] := (hg2.block _ hZ1.lt (by intro e; injection e with e; omega)).trans hZ1
  have hB2 : Below w.heap.size w w2 := hB1.trans ⟨hg2.os, hg2.tape, hg2.output, hg2.size, fun y hy => hg2.block y (Nat.lt_trans hy hZ1.lt) (by intro e; injection e with e; omega)⟩
  clear hZ1 hB1 hR1 hg2
  go_wp2_with fail
  refine (cache_draw R n cap A (1 + x) (by omega) (by omega) _ hR2).mono ?_
  rintro e w3 ⟨cp, ck, A', k, c, s, rfl, hgo, ⟨H, hown⟩, hR3, hg3⟩
  have hZ3 : Blk w3 w.heap.size 26 #[.int .i64 0, .int .i64 0, .slice none 0 0] := (hg3.block _ hZ2.lt (by intro e; injection e with e; omega)).trans hZ2
  have hB3 : Below w.heap.size w w3 := hB2.trans ⟨hg3.os, hg3.tape, hg3.output, hg3.size, fun y hy => hg3.block y (Nat.lt_trans hy hZ2.lt) (by intro e; injection e with e; omega)⟩
  have hC3 : CgS w R n cap A w3.heap.size (w3.alloc (.cells #[.int .i64 cp, .int .i64 ck, .slice A' k c] 26)).heap.size cp ck A' k c s (fun W => OwM W (R + 1) (w3.alloc (.cells #[.int .i64 cp, .int .i64 ck, .slice A' k c] 26)).heap.size A' k s) (.int .i64 0) (.int .i64 0) (.slice none 0 0) (w3.alloc (.cells #[.int .i64 cp, .int .i64 ck, .slice A' k c] 26)) := by
    have hx := (Below.refl w3.heap.size w3).alloc (Nat.le_refl _) (.cells #[.int .i64 cp, .int .i64 ck, .slice A' k c] 26)
    have hbel := hB3.trans (hx.mono (Nat.le_of_lt hZ3.lt))
    exact ⟨⟨hRw, hR3.lt, by rw [World.size_alloc]; exact Nat.lt_succ_self _, Nat.le_refl _⟩, hZ3.alloc _, Blk.new w3 _ _, ((((hown.top).less hR2.lt).below hx).more hx.size), softM _ _ _ _ _, hR3.alloc _, h.keep fun p hp => hbel.cell hp, hbel⟩
  clear hZ2 hZ3 hB2 hB3 hR2 hR3 hg3 hown
  obtain ⟨M, hM⟩ : ∃ M, (w3.alloc (.cells #[.int .i64 cp, .int .i64 ck, .slice A' k c] 26)).heap.size = M := ⟨_, rfl⟩
  rw [hM] at hC3
  clear hM
  by_cases hk0 : 0 < k
  · have i1 : (0 : Int) < (k : Int) := by omega
    go_wp2_with fail
    refine (once_draw R n cap A 2 _ hC3.rs (by omega) (by omega)).mono ?_
    rintro e W ⟨q, rfl, hR4, hg4⟩
    have hC := hid (hC3.grown hg4 hR4)
    clear hC3 hR4 hg4
    generalize w3.heap.size = cb at *
    cases q with
    | false =>
      obtain ⟨c0, c1, c2⟩ := hC.out.cells
      go_wp2_with fail
      have X0 := hid hC.out.drew
      have X0s := hid (hC.out.fin (.int .i64 cp) (.int .i64 ck) (.slice A' k c)).drew
      have S0 := hid X0.out.cells
      have S0s := hid X0s.out.cells
      obtain ⟨⟨y0, y1, y2⟩, v0, v1, v2⟩ := hC.out.resc
      obtain ⟨⟨y0d, y1d, y2d⟩, v0d, v1d, v2d⟩ := X0.out.resc
      clear c0 c1 c2
      go_cut [3] (fun s3 wx => ∃ (D : Option Addr) (f dc : Nat) (z : Nat → Int), s3 = .slice D f dc ∧ f ≤ 17 ∧ Hid (CgF w cp ck A' k c s D f z wx))
      case first =>
        go_region_held3 (fun w' => w'.cell? ⟨cb, 0, none⟩ = some (.int .i64 cp) ∧ w'.cell? ⟨cb, 1, none⟩ = some (.int .i64 ck) ∧ w'.cell? ⟨cb, 2, none⟩ = some (.slice A' k c))
          ((refine Hid.out ?_; with_reducible assumption))
          (first
            | (go_at_call 83; first
                  | ((with_reducible refine Calls.mono (doc_drawI R n cap A (1 + x) W.drew X0.out.rs (by omega) (by omega)) ?_); rintro e w5 ⟨m5, z5, A5, c5, hm5, rfl, hown5, hR5, hg5⟩; have x5 := X0.out.grown hg5 hR5; have S5 := hid x5.cells; have S5s := hid (x5.fin (.int .i64 cp) (.int .i64 ck) (.slice A' k c)).cells; obtain ⟨⟨y50, y51, y52⟩, v50, v51, v52⟩ := x5.resc; have X5s := hid (x5.fin (.int .i64 cp) (.int .i64 ck) (.slice A' k c)); have D5 := hid (own_more hown5 X0.out.mle); have D5s := hid (own_far3 D5.out x5.wm (.int .i64 cp) (.int .i64 ck) (.slice A' k c)); clear hown5 hR5 hg5; have X5 := hid x5; clear x5)
                  | ((with_reducible refine Calls.mono (doc_drawI R n cap A (1 + x) (((W.setCell ⟨w.heap.size, 0, none⟩ (.int .i64 cp)).setCell ⟨w.heap.size, 1, none⟩ (.int .i64 ck)).setCell ⟨w.heap.size, 2, none⟩ (.slice A' k c)).drew X0s.out.rs (by omega) (by omega)) ?_); rintro e w5 ⟨m5, z5, A5, c5, hm5, rfl, hown5, hR5, hg5⟩; have x5 := X0s.out.grown hg5 hR5; have S5 := hid x5.cells; have S5s := hid (x5.fin (.int .i64 cp) (.int .i64 ck) (.slice A' k c)).cells; obtain ⟨⟨y50, y51, y52⟩, v50, v51, v52⟩ := x5.resc; have X5s := hid (x5.fin (.int .i64 cp) (.int .i64 ck) (.slice A' k c)); have D5 := hid (own_more hown5 X0s.out.mle); have D5s := hid (own_far3 D5.out x5.wm (.int .i64 cp) (.int .i64 ck) (.slice A' k c)); clear hown5 hR5 hg5; have X5 := hid x5; clear x5))
            | (go_at_call 82; first
                  | ((with_reducible refine Calls.mono (hurtDoc_kept R n cap M A A5 m5 c5 z5 w5 X5.out.rs X5.out.rm X5.out.mle hm5 D5.out) ?_); rintro e w6 ⟨⟨f6, z6, D6, dc6, hf6, rfl, hdoc6, hR6, hb6⟩, hk6⟩; have x6 := X5.out.step hk6 hR6 (hb6.mono (Nat.le_of_lt X5.out.wr)); have S6 := hid x6.cells; have S6s := hid (x6.fin (.int .i64 cp) (.int .i64 ck) (.slice A' k c)).cells; obtain ⟨⟨y60, y61, y62⟩, v60, v61, v62⟩ := x6.resc; have X6s := hid (x6.fin (.int .i64 cp) (.int .i64 ck) (.slice A' k c)); have AS6 : Hid (Aside w D6 f6 z6 w6) := (fun h0 => by obtain ⟨g, e1, e2, e3⟩ := hdoc6 h0; exact ⟨g, e1, (by have := X5.out.wr; omega), e3⟩); clear hdoc6 hR6 hb6 hk6; have X6 := hid x6; clear x6)
                  | ((with_reducible refine Calls.mono (hurtDoc_kept R n cap M A A5 m5 c5 z5 (((w5.setCell ⟨w.heap.size, 0, none⟩ (.int .i64 cp)).setCell ⟨w.heap.size, 1, none⟩ (.int .i64 ck)).setCell ⟨w.heap.size, 2, none⟩ (.slice A' k c)) X5s.out.rs X5s.out.rm X5s.out.mle hm5 D5s.out) ?_); rintro e w6 ⟨⟨f6, z6, D6, dc6, hf6, rfl, hdoc6, hR6, hb6⟩, hk6⟩; have x6 := X5s.out.step hk6 hR6 (hb6.mono (Nat.le_of_lt X5s.out.wr)); have S6 := hid x6.cells; have S6s := hid (x6.fin (.int .i64 cp) (.int .i64 ck) (.slice A' k c)).cells; obtain ⟨⟨y60, y61, y62⟩, v60, v61, v62⟩ := x6.resc; have X6s := hid (x6.fin (.int .i64 cp) (.int .i64 ck) (.slice A' k c)); have AS6 : Hid (Aside w D6 f6 z6 w6) := (fun h0 => by obtain ⟨g, e1, e2, e3⟩ := hdoc6 h0; exact ⟨g, e1, (by have := X5s.out.wr; omega), e3⟩); clear hdoc6 hR6 hb6 hk6; have X6 := hid x6; clear x6)))
        all_goals clear S0 S0s X0 X0s S5 S5s X5 X5s S6 S6s X6s D5 D5s
        all_goals
          go_wp2_with fail
          go_meet
          first
            | ((with_reducible have Y6 := hid (CgS.done (Hid.out X6) (Aside.rd (Hid.out AS6)))); clear X6 AS6; with_reducible exact ⟨_, _, _, _, rfl, hf6, Y6⟩)
            | ((with_reducible have Y6 := hid (CgS.later (Hid.out X6) (Hid.out AS6))); clear X6 AS6; with_reducible exact ⟨_, _, _, _, rfl, hf6, Y6⟩)
      case rest =>
        obtain ⟨D, f, dc, z, rfl, hf, hF⟩ := hcut
        obtain ⟨f1, f2, f3, f4⟩ := hF.out
        go_wp2_with fail
        (try simp only [Exit.inBlock, Exit.then])
        refine bodyPost_ret (results_cell_row_tmpC rfl _ _ w.heap.size 26 _ (0, 0) _ rfl f1 Try.underlying26 rfl size_cache) rfl ?_
        exact ⟨cp, ck, A', k, c, s, D, f, dc, z, hgo, hf, rfl, f2, f3, f4⟩
    | true =>
      obtain ⟨c0, c1, c2⟩ := hC.out.cells
      go_wp2_with fail
      obtain ⟨b, cs, bs, As, ci, rfl, e1, e2, e3, e4, e5⟩ := hC.out.own hk0
      have hC5 : CgS w R n cap A cb M cp ck (some ⟨b, 0, none⟩) k c s (OwN (R + 1) M b As ci k s) (.int .i64 0) (.int .i64 0) (.slice none 0 0) W := ⟨hC.out.lt, hC.out.res, hC.out.cach, ⟨cs, bs, e1, e2, e3, e4, e5⟩, softN _ _ _ _ _ _ _, hC.out.rs, hC.out.bs, hC.out.bel⟩
      clear hC e1 e2 e3 e4 e5
      have hC := hid hC5
      clear hC5
      have X0 := hid hC.out.drew
      have X0s := hid (hC.out.fin (.int .i64 cp) (.int .i64 ck) (.slice (some ⟨b, 0, none⟩) k c)).drew
      have S0 := hid X0.out.cellsN
      have S0s := hid X0s.out.cellsN
      obtain ⟨⟨y0, y1, y2⟩, v0, v1, v2⟩ := hC.out.resc
      obtain ⟨⟨y0d, y1d, y2d⟩, v0d, v1d, v2d⟩ := X0.out.resc
      clear c0 c1 c2
      go_cut [3] (fun s3 wx => ∃ (D : Option Addr) (f dc : Nat) (z : Nat → Int), s3 = .slice D f dc ∧ f ≤ 17 ∧ Hid (CgF w cp ck (some ⟨b, 0, none⟩) k c s D f z wx))
      case first =>
        go_region_held3 (fun w' => w'.cell? ⟨cb, 0, none⟩ = some (.int .i64 cp) ∧ w'.cell? ⟨cb, 1, none⟩ = some (.int .i64 ck) ∧ w'.cell? ⟨cb, 2, none⟩ = some (.slice (some ⟨b, 0, none⟩) k c) ∧ ∀ i, i < k → w'.cell? ⟨b, i * 3, none⟩ = some (.slice (As i) (s i).n (ci i)))
          ((refine Hid.out ?_; with_reducible assumption))
          (first
            | (go_at_call 78; first
                  | ((with_reducible refine Calls.mono (below_any R n cap A (k : Int) W.drew X0.out.rs (by omega) (by omega)) ?_); rintro e w5 ⟨y5, rfl, hx50, hx51, hR5, hg5⟩; obtain ⟨i, rfl⟩ := Int.eq_ofNat_of_zero_le hx50; have hik : i < k := (by omega); have x5 := X0.out.grown hg5 hR5; have S5 := hid x5.cellsN; have S5s := hid (x5.fin (.int .i64 cp) (.int .i64 ck) (.slice (some ⟨b, 0, none⟩) k c)).cellsN; obtain ⟨⟨y50, y51, y52⟩, v50, v51, v52⟩ := x5.resc; have X5s := hid (x5.fin (.int .i64 cp) (.int .i64 ck) (.slice (some ⟨b, 0, none⟩) k c)); have q5 := x5.own.slot hik; have q5s := (x5.fin (.int .i64 cp) (.int .i64 ck) (.slice (some ⟨b, 0, none⟩) k c)).own.slot hik; clear hR5 hg5; have X5 := hid x5; clear x5)
                  | ((with_reducible refine Calls.mono (below_any R n cap A (k : Int) (((W.setCell ⟨w.heap.size, 0, none⟩ (.int .i64 cp)).setCell ⟨w.heap.size, 1, none⟩ (.int .i64 ck)).setCell ⟨w.heap.size, 2, none⟩ (.slice (some ⟨b, 0, none⟩) k c)).drew X0s.out.rs (by omega) (by omega)) ?_); rintro e w5 ⟨y5, rfl, hx50, hx51, hR5, hg5⟩; obtain ⟨i, rfl⟩ := Int.eq_ofNat_of_zero_le hx50; have hik : i < k := (by omega); have x5 := X0s.out.grown hg5 hR5; have S5 := hid x5.cellsN; have S5s := hid (x5.fin (.int .i64 cp) (.int .i64 ck) (.slice (some ⟨b, 0, none⟩) k c)).cellsN; obtain ⟨⟨y50, y51, y52⟩, v50, v51, v52⟩ := x5.resc; have X5s := hid (x5.fin (.int .i64 cp) (.int .i64 ck) (.slice (some ⟨b, 0, none⟩) k c)); have q5 := x5.own.slot hik; have q5s := (x5.fin (.int .i64 cp) (.int .i64 ck) (.slice (some ⟨b, 0, none⟩) k c)).own.slot hik; clear hR5 hg5; have X5 := hid x5; clear x5))
            | (go_at_call 81; first
                  | ((with_reducible refine Calls.mono (sPick_beside w (As i) (s i).n (ci i) (s i).g w5 (X5.out.own.box hik) (hgo.2 i hik) X5.out.wlt) ?_); rintro e w6 ⟨f6, z6, D6, dc6, hf6, rfl, has6, hb6⟩; have x6 := X5.out.below hb6; have S6 := hid x6.cellsN; have S6s := hid (x6.fin (.int .i64 cp) (.int .i64 ck) (.slice (some ⟨b, 0, none⟩) k c)).cellsN; obtain ⟨⟨y60, y61, y62⟩, v60, v61, v62⟩ := x6.resc; have X6s := hid (x6.fin (.int .i64 cp) (.int .i64 ck) (.slice (some ⟨b, 0, none⟩) k c)); have AS6 := hid has6; clear has6 hb6; have X6 := hid x6; clear x6)
                  | ((with_reducible refine Calls.mono (sPick_beside w (As i) (s i).n (ci i) (s i).g (((w5.setCell ⟨w.heap.size, 0, none⟩ (.int .i64 cp)).setCell ⟨w.heap.size, 1, none⟩ (.int .i64 ck)).setCell ⟨w.heap.size, 2, none⟩ (.slice (some ⟨b, 0, none⟩) k c)) (X5s.out.own.box hik) (hgo.2 i hik) X5s.out.wlt) ?_); rintro e w6 ⟨f6, z6, D6, dc6, hf6, rfl, has6, hb6⟩; have x6 := X5s.out.below hb6; have S6 := hid x6.cellsN; have S6s := hid (x6.fin (.int .i64 cp) (.int .i64 ck) (.slice (some ⟨b, 0, none⟩) k c)).cellsN; obtain ⟨⟨y60, y61, y62⟩, v60, v61, v62⟩ := x6.resc; have X6s := hid (x6.fin (.int .i64 cp) (.int .i64 ck) (.slice (some ⟨b, 0, none⟩) k c)); have AS6 := hid has6; clear has6 hb6; have X6 := hid x6; clear x6)))
        all_goals clear S0 S0s X0 X0s S5 S5s X5 X5s S6 S6s X6s
        all_goals
          go_wp2_with fail
          go_meet
          first
            | ((with_reducible have Y6 := hid (CgS.done (Hid.out X6) (Aside.rd (Hid.out AS6)))); clear X6 AS6; with_reducible exact ⟨_, _, _, _, rfl, hf6, Y6⟩)
            | ((with_reducible have Y6 := hid (CgS.later (Hid.out X6) (Hid.out AS6))); clear X6 AS6; with_reducible exact ⟨_, _, _, _, rfl, hf6, Y6⟩)
      case rest =>
        obtain ⟨D, f, dc, z, rfl, hf, hF⟩ := hcut
        obtain ⟨f1, f2, f3, f4⟩ := hF.out
        go_wp2_with fail
        (try simp only [Exit.inBlock, Exit.then])
        refine bodyPost_ret (results_cell_row_tmpC rfl _ _ w.heap.size 26 _ (0, 0) _ rfl f1 Try.underlying26 rfl size_cache) rfl ?_
        exact ⟨cp, ck, (some ⟨b, 0, none⟩), k, c, s, D, f, dc, z, hgo, hf, rfl, f2, f3, f4⟩
  · have i1 : ¬ (0 : Int) < (k : Int) := by omega
    go_wp2_with fail
    obtain ⟨W, hW⟩ : ∃ X, (w3.alloc (.cells #[.int .i64 cp, .int .i64 ck, .slice A' k c] 26)) = X := ⟨_, rfl⟩
    rw [hW] at hC3 ⊢
    clear hW
    generalize w3.heap.size = cb at *
    have hC := hid hC3
    obtain ⟨c0, c1, c2⟩ := hC.out.cells
    clear hC3
    have X0 := hid hC.out.drew
    have X0s := hid (hC.out.fin (.int .i64 cp) (.int .i64 ck) (.slice A' k c)).drew
    have S0 := hid X0.out.cells
    have S0s := hid X0s.out.cells
    obtain ⟨⟨y0, y1, y2⟩, v0, v1, v2⟩ := hC.out.resc
    obtain ⟨⟨y0d, y1d, y2d⟩, v0d, v1d, v2d⟩ := X0.out.resc
    clear c0 c1 c2
    go_cut [3] (fun s3 wx => ∃ (D : Option Addr) (f dc : Nat) (z : Nat → Int), s3 = .slice D f dc ∧ f ≤ 17 ∧ Hid (CgF w cp ck A' k c s D f z wx))
    case first =>
      go_region_held3 (fun w' => w'.cell? ⟨cb, 0, none⟩ = some (.int .i64 cp) ∧ w'.cell? ⟨cb, 1, none⟩ = some (.int .i64 ck) ∧ w'.cell? ⟨cb, 2, none⟩ = some (.slice A' k c))
        ((refine Hid.out ?_; with_reducible assumption))
        (first
          | (go_at_call 83; first
                | ((with_reducible refine Calls.mono (doc_drawI R n cap A (1 + x) W.drew X0.out.rs (by omega) (by omega)) ?_); rintro e w5 ⟨m5, z5, A5, c5, hm5, rfl, hown5, hR5, hg5⟩; have x5 := X0.out.grown hg5 hR5; have S5 := hid x5.cells; have S5s := hid (x5.fin (.int .i64 cp) (.int .i64 ck) (.slice A' k c)).cells; obtain ⟨⟨y50, y51, y52⟩, v50, v51, v52⟩ := x5.resc; have X5s := hid (x5.fin (.int .i64 cp) (.int .i64 ck) (.slice A' k c)); have D5 := hid (own_more hown5 X0.out.mle); have D5s := hid (own_far3 D5.out x5.wm (.int .i64 cp) (.int .i64 ck) (.slice A' k c)); clear hown5 hR5 hg5; have X5 := hid x5; clear x5)
                | ((with_reducible refine Calls.mono (doc_drawI R n cap A (1 + x) (((W.setCell ⟨w.heap.size, 0, none⟩ (.int .i64 cp)).setCell ⟨w.heap.size, 1, none⟩ (.int .i64 ck)).setCell ⟨w.heap.size, 2, none⟩ (.slice A' k c)).drew X0s.out.rs (by omega) (by omega)) ?_); rintro e w5 ⟨m5, z5, A5, c5, hm5, rfl, hown5, hR5, hg5⟩; have x5 := X0s.out.grown hg5 hR5; have S5 := hid x5.cells; have S5s := hid (x5.fin (.int .i64 cp) (.int .i64 ck) (.slice A' k c)).cells; obtain ⟨⟨y50, y51, y52⟩, v50, v51, v52⟩ := x5.resc; have X5s := hid (x5.fin (.int .i64 cp) (.int .i64 ck) (.slice A' k c)); have D5 := hid (own_more hown5 X0s.out.mle); have D5s := hid (own_far3 D5.out x5.wm (.int .i64 cp) (.int .i64 ck) (.slice A' k c)); clear hown5 hR5 hg5; have X5 := hid x5; clear x5))
          | (go_at_call 82; first
                | ((with_reducible refine Calls.mono (hurtDoc_kept R n cap M A A5 m5 c5 z5 w5 X5.out.rs X5.out.rm X5.out.mle hm5 D5.out) ?_); rintro e w6 ⟨⟨f6, z6, D6, dc6, hf6, rfl, hdoc6, hR6, hb6⟩, hk6⟩; have x6 := X5.out.step hk6 hR6 (hb6.mono (Nat.le_of_lt X5.out.wr)); have S6 := hid x6.cells; have S6s := hid (x6.fin (.int .i64 cp) (.int .i64 ck) (.slice A' k c)).cells; obtain ⟨⟨y60, y61, y62⟩, v60, v61, v62⟩ := x6.resc; have X6s := hid (x6.fin (.int .i64 cp) (.int .i64 ck) (.slice A' k c)); have AS6 : Hid (Aside w D6 f6 z6 w6) := (fun h0 => by obtain ⟨g, e1, e2, e3⟩ := hdoc6 h0; exact ⟨g, e1, (by have := X5.out.wr; omega), e3⟩); clear hdoc6 hR6 hb6 hk6; have X6 := hid x6; clear x6)
                | ((with_reducible refine Calls.mono (hurtDoc_kept R n cap M A A5 m5 c5 z5 (((w5.setCell ⟨w.heap.size, 0, none⟩ (.int .i64 cp)).setCell ⟨w.heap.size, 1, none⟩ (.int .i64 ck)).setCell ⟨w.heap.size, 2, none⟩ (.slice A' k c)) X5s.out.rs X5s.out.rm X5s.out.mle hm5 D5s.out) ?_); rintro e w6 ⟨⟨f6, z6, D6, dc6, hf6, rfl, hdoc6, hR6, hb6⟩, hk6⟩; have x6 := X5s.out.step hk6 hR6 (hb6.mono (Nat.le_of_lt X5s.out.wr)); have S6 := hid x6.cells; have S6s := hid (x6.fin (.int .i64 cp) (.int .i64 ck) (.slice A' k c)).cells; obtain ⟨⟨y60, y61, y62⟩, v60, v61, v62⟩ := x6.resc; have X6s := hid (x6.fin (.int .i64 cp) (.int .i64 ck) (.slice A' k c)); have AS6 : Hid (Aside w D6 f6 z6 w6) := (fun h0 => by obtain ⟨g, e1, e2, e3⟩ := hdoc6 h0; exact ⟨g, e1, (by have := X5s.out.wr; omega), e3⟩); clear hdoc6 hR6 hb6 hk6; have X6 := hid x6; clear x6)))
      all_goals clear S0 S0s X0 X0s S5 S5s X5 X5s S6 S6s X6s D5 D5s
      all_goals
        go_wp2_with fail
        go_meet
        first
          | ((with_reducible have Y6 := hid (CgS.done (Hid.out X6) (Aside.rd (Hid.out AS6)))); clear X6 AS6; with_reducible exact ⟨_, _, _, _, rfl, hf6, Y6⟩)
          | ((with_reducible have Y6 := hid (CgS.later (Hid.out X6) (Hid.out AS6))); clear X6 AS6; with_reducible exact ⟨_, _, _, _, rfl, hf6, Y6⟩)
    case rest =>
      obtain ⟨D, f, dc, z, rfl, hf, hF⟩ := hcut
      obtain ⟨f1, f2, f3, f4⟩ := hF.out
      go_wp2_with fail
      (try simp only [Exit.inBlock, Exit.then])
      refine bodyPost_ret (results_cell_row_tmpC rfl _ _ w.heap.size 26 _ (0, 0) _ rfl f1 Try.underlying26 rfl size_cache) rfl ?_
      exact ⟨cp, ck, A', k, c, s, D, f, dc, z, hgo, hf, rfl, f2, f3, f4⟩
end Go.Proofs.Ytckhooibjmheiaa
