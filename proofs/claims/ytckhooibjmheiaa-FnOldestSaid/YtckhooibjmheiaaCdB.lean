/- What is drawn of caches. -/
import Derived.Test.YtckhooibjmheiaaCdP
import Derived.Deep.RegionHeld3
import Derived.Deep.DeepCutAuto
namespace Go.Proofs.Ytckhooibjmheiaa
open Go.RowKit Go.Deep
set_option linter.unusedVariables false
set_option linter.unusedSimpArgs false

def nulS : Nat → Slt := fun _ => ⟨0, fun _ => ⟨0, 0, false⟩, 0, 0⟩
set_option maxRecDepth 100000 in
set_option maxHeartbeats 8000000 in
theorem cache_draw (R n cap : Nat) (A : Option Addr) (f : Int) (hf0 : 0 ≤ f) (hf16 : f ≤ 16) (w : World) (h : Rs w R A n cap) :
    Calls Try.prog 79 #[.pointer (some ⟨R, 0, none⟩), .int .i64 f] w fun e w' => ∃ (cp ck : Int) (A' : Option Addr) (k c : Nat) (s : Nat → Slt), e = .returned (.agg #[.int .i64 cp, .int .i64 ck, .slice A' k c]) ∧ (k ≤ 8 ∧ ∀ i, i < k → (s i).n ≤ 16) ∧ (∃ H, OwM w' w.heap.size H A' k s) ∧ Rs w' R A n cap ∧ w.grownBy w' (some R) := by
  have hRw := h.lt
  go_enter Try.func79, Try.ntmps79
  go_wp2_with fail
  refine (below_draw R n cap A 4 _ (h.alloc _) (by omega) (by omega)).mono ?_
  rintro e w1 ⟨x, rfl, hx0, hx1, hR1, hg1⟩
  have hB1 : Blk w1 w.heap.size 26 #[.int .i64 0, .int .i64 0, .slice none 0 0] := (hg1.block w.heap.size (by simp) (by intro e; injection e with e; omega)).trans (Blk.new w _ _)
  have hw1 : w.grownBy w1 (some R) := grown_trans (World.grownBy_alloc w _ _) hg1
  clear hg1
  go_wp2_with fail
  have hC2 : CaE w R n cap A w1.heap.size (1 + x) 0 none 0 0 nulS (w1.alloc (.cells #[.int .i64 (1 + x), .int .i64 0, .slice none 0 0] 26)) := ⟨⟨hRw, hB1.lt⟩, hB1.alloc _, Blk.new w1 _ _, ⟨by omega, fun i hi => by omega⟩, ⟨0, fun h0 => absurd h0 (by omega)⟩, hR1.alloc _, grown_trans hw1 (World.grownBy_alloc w1 _ _)⟩
  refine (size7_draw R n cap A _ hC2.rs).mono ?_
  rintro e w3 ⟨sz, rfl, hs, hR3, hg3⟩
  have hC3 := hid (hC2.step hg3 hR3)
  clear hC2 hR3 hg3 hR1 hw1 hB1
  generalize w1.heap.size = cb at *
  generalize 1 + x = cp0 at *
  clear hx0 hx1
  go_wp2_with fail
  go_loopw [6] (fun i wr => ∃ (r : Nat) (cp ck : Int) (A' : Option Addr) (k c : Nat) (s : Nat → Slt), i = .int .i64 r ∧ r ≤ 7 ∧ Hid (CaE w R n cap A cb cp ck A' k c s wr)) (fun i _ => (intOf i).toNat)
  case atStart => exact ⟨sz, _, _, _, _, _, _, rfl, hs, hC3⟩
  case round =>
    obtain ⟨r, cp, ck, A', k, c, s, rfl, hr7, hC⟩ := hrel
    clear hC3
    by_cases hr : 0 < r
    · obtain ⟨r, rfl⟩ : ∃ r', r = r' + 1 := ⟨r - 1, by omega⟩
      have i1 : (0 : Int) < ((r + 1 : Nat) : Int) := by omega
      obtain ⟨c0, c1, c2⟩ := hC.out.cells
      go_wp2_with fail
      clear c0 c1 c2
      have X0 : Hid (CaP w R n cap A cb cp ck A' k c s none wr.drew) := CaP.drew ⟨hC.out, fun x e => by cases e⟩
      have X0a : Hid (CaP w R n cap A cb cp ck A' k c s (some wr.heap.size) (wr.alloc (.cells #[.int .i64 0, .int .i64 0, .slice none 0 0] 26)).drew) := CaP.drew (CaP.alloc ⟨hC.out, fun x e => by cases e⟩)
      have S0 := hid X0.out.e.cells
      have S0a := hid X0a.out.e.cells
      go_cut [7, 8] (fun s7 s8 wx => ∃ (x : Nat) (B : Bool), s7 = .pointer (some ⟨x, 0, none⟩) ∧ s8 = .bool B ∧ Hid (CaN w R n cap A cb cp ck A' k c s x B wx))
      case first =>
        go_region_held3 (fun w' => w'.cell? ⟨cb, 0, none⟩ = some (.int .i64 cp) ∧ w'.cell? ⟨cb, 1, none⟩ = some (.int .i64 ck) ∧ w'.cell? ⟨cb, 2, none⟩ = some (.slice A' k c))
          ((refine Hid.out ?_; with_reducible assumption))
          (first
            | (go_at_call 94; first
                  | ((with_reducible refine Calls.mono (box_drawI R n cap A f wr.drew X0.out.e.rs hf0 hf16) ?_); rintro e w1 ⟨m1, g1, A1, c1', -, hm1, rfl, hown1, hR1, hg1⟩; have x1 := CaP.step X0.out hg1 hR1; have S1 := hid x1.e.cells; (try (have x1a := CaP.alloc x1; have S1a := hid x1a.e.cells; have X1a := hid x1a; clear x1a)); have X1 := hid x1; clear x1; have D1 := hid (own_more hown1 (show w.heap.size ≤ _ from Nat.le_of_lt X0.out.e.zero.lt)); have D1a := hid ((own_more hown1 (show w.heap.size ≤ _ from Nat.le_of_lt X0.out.e.zero.lt)).alloc (.cells #[.int .i64 0, .int .i64 0, .slice none 0 0] 26)); clear hR1 hg1 hown1)
                  | ((with_reducible refine Calls.mono (box_drawI R n cap A f (wr.alloc (.cells #[.int .i64 0, .int .i64 0, .slice none 0 0] 26)).drew X0a.out.e.rs hf0 hf16) ?_); rintro e w1 ⟨m1, g1, A1, c1', -, hm1, rfl, hown1, hR1, hg1⟩; have x1 := CaP.step X0a.out hg1 hR1; have S1 := hid x1.e.cells; (try (have x1a := CaP.alloc x1; have S1a := hid x1a.e.cells; have X1a := hid x1a; clear x1a)); have X1 := hid x1; clear x1; have D1 := hid (own_more hown1 (show w.heap.size ≤ _ from Nat.le_of_lt X0a.out.e.zero.lt)); have D1a := hid ((own_more hown1 (show w.heap.size ≤ _ from Nat.le_of_lt X0a.out.e.zero.lt)).alloc (.cells #[.int .i64 0, .int .i64 0, .slice none 0 0] 26)); clear hR1 hg1 hown1))
            | (go_at_call 78; first
                  | ((with_reducible refine Calls.mono (below_draw R n cap A 90 w1 X1.out.e.rs (by omega) (by omega)) ?_); rintro e w2 ⟨y2, rfl, -, -, hR2, hg2⟩; have x2 := CaP.step X1.out hg2 hR2; have S2 := hid x2.e.cells; (try (have x2a := CaP.alloc x2; have S2a := hid x2a.e.cells; have X2a := hid x2a; clear x2a)); have X2 := hid x2; clear x2; have D2 := hid (own_step D1.out hRw hg2); have D2a := hid ((own_step D1.out hRw hg2).alloc (.cells #[.int .i64 0, .int .i64 0, .slice none 0 0] 26)); clear hR2 hg2)
                  | ((with_reducible refine Calls.mono (below_draw R n cap A 90 (w1.alloc (.cells #[.int .i64 0, .int .i64 0, .slice none 0 0] 26)) X1a.out.e.rs (by omega) (by omega)) ?_); rintro e w2 ⟨y2, rfl, -, -, hR2, hg2⟩; have x2 := CaP.step X1a.out hg2 hR2; have S2 := hid x2.e.cells; (try (have x2a := CaP.alloc x2; have S2a := hid x2a.e.cells; have X2a := hid x2a; clear x2a)); have X2 := hid x2; clear x2; have D2 := hid (own_step D1a.out hRw hg2); have D2a := hid ((own_step D1a.out hRw hg2).alloc (.cells #[.int .i64 0, .int .i64 0, .slice none 0 0] 26)); clear hR2 hg2))
            | (go_at_call 30; first
                  | ((with_reducible refine Calls.mono (sPut_draw cp ck A' k c s A1 m1 c1' g1 y2 w2 X2.out.e.rdC (rds_own D2.out) hC.out.good hm1) ?_); rintro e w3 ⟨C3, B3, m3, e3, s3, bb3, rfl, ho3, hgo3, hb3⟩; have x3 := CaP.made X2.out hb3 ho3 hgo3; have S3 := hid x3.e.cells; (try obtain ⟨v0, v1, v2, q0, q1, q2⟩ := blk_cells3 x3.old); have S3z := hid (x3.e.alloc (.cells #[.int .i64 0, .int .i64 0, .slice none 0 0] 26)).cells; have S3a := hid (x3.e.alloc (.cells #[.int .i64 cp, .int .i64 C3, .slice B3 m3 e3] 26)).cells; (try have S3q := hid (x3.put cp C3 e3).e.cells); have X3 := hid x3; clear x3 hb3 ho3 hgo3)
                  | ((with_reducible refine Calls.mono (sPut_draw cp ck A' k c s A1 m1 c1' g1 y2 (w2.alloc (.cells #[.int .i64 0, .int .i64 0, .slice none 0 0] 26)) X2a.out.e.rdC (rds_own D2a.out) hC.out.good hm1) ?_); rintro e w3 ⟨C3, B3, m3, e3, s3, bb3, rfl, ho3, hgo3, hb3⟩; have x3 := CaP.made X2a.out hb3 ho3 hgo3; have S3 := hid x3.e.cells; (try obtain ⟨v0, v1, v2, q0, q1, q2⟩ := blk_cells3 x3.old); have S3z := hid (x3.e.alloc (.cells #[.int .i64 0, .int .i64 0, .slice none 0 0] 26)).cells; have S3a := hid (x3.e.alloc (.cells #[.int .i64 cp, .int .i64 C3, .slice B3 m3 e3] 26)).cells; (try have S3q := hid (x3.put cp C3 e3).e.cells); have X3 := hid x3; clear x3 hb3 ho3 hgo3)))
        all_goals clear S0 S0a X0 X0a S1 S2 S3 S3z S3a
        all_goals (try clear S3q)
        all_goals
          go_wp2_with fail
          go_meet
          first
            | ((with_reducible have Y6 := hid (CaO.put (Hid.out X3) cp C3 e3)); clear X3; with_reducible exact ⟨_, _, rfl, rfl, Y6⟩)
            | ((with_reducible have Y6 := hid (CaO.new (Hid.out X3) cp C3 e3)); clear X3; with_reducible exact ⟨_, _, rfl, rfl, Y6⟩)
      case rest =>
        obtain ⟨x, B, rfl, rfl, hN⟩ := hcut
        clear X0 X0a S0 S0a
        obtain ⟨hE, dp, dk, AD, j, d, t, hx, hown2, hgood2⟩ := hN.out
        obtain ⟨y0, y1, y2, _, _, _⟩ := blk_cells3 hx
        obtain ⟨z0, z1, z2, v0, v1, v2⟩ := blk_cells3 hE.cach
        have HE := hid hE
        have HO := hid hown2
        have HG := hid hgood2
        clear hE hown2 hgood2 hN hC hx
        cases B with
        | false =>
          have hC := HE
          clear HE HO HG
          go_wp2_with fail
          clear y0 y1 y2 z0 z1 z2 v0 v1 v2
          have X0 : Hid (CaP w R n cap A cb cp ck A' k c s none wc.drew) := CaP.drew ⟨hC.out, fun x e => by cases e⟩
          have X0a : Hid (CaP w R n cap A cb cp ck A' k c s (some wc.heap.size) (wc.alloc (.cells #[.int .i64 0, .int .i64 0, .slice none 0 0] 26)).drew) := CaP.drew (CaP.alloc ⟨hC.out, fun x e => by cases e⟩)
          have S0 := hid X0.out.e.cells
          have S0a := hid X0a.out.e.cells
          go_cut [9, 10, 11] (fun s9 s10 s11 wx => ∃ (x : Nat) (B : Bool) (y : Int), s9 = .pointer (some ⟨x, 0, none⟩) ∧ s10 = .int .i64 y ∧ s11 = .bool B ∧ Hid (CaN w R n cap A cb cp ck A' k c s x B wx))
          case first =>
            go_region_held3 (fun w' => w'.cell? ⟨cb, 0, none⟩ = some (.int .i64 cp) ∧ w'.cell? ⟨cb, 1, none⟩ = some (.int .i64 ck) ∧ w'.cell? ⟨cb, 2, none⟩ = some (.slice A' k c))
              ((refine Hid.out ?_; with_reducible assumption))
              (first
                | (go_at_call 83; first
                      | ((with_reducible refine Calls.mono (doc_drawI R n cap A f wc.drew X0.out.e.rs hf0 hf16) ?_); rintro e w1 ⟨m1, g1, A1, c1', hm1, rfl, hown1, hR1, hg1⟩; have x1 := CaP.step X0.out hg1 hR1; have S1 := hid x1.e.cells; (try (have x1a := CaP.alloc x1; have S1a := hid x1a.e.cells; have X1a := hid x1a; clear x1a)); have X1 := hid x1; clear x1; have D1 := hid (own_more hown1 (show w.heap.size ≤ _ from Nat.le_of_lt X0.out.e.zero.lt)); have D1a := hid ((own_more hown1 (show w.heap.size ≤ _ from Nat.le_of_lt X0.out.e.zero.lt)).alloc (.cells #[.int .i64 0, .int .i64 0, .slice none 0 0] 26)); clear hR1 hg1 hown1)
                      | ((with_reducible refine Calls.mono (doc_drawI R n cap A f (wc.alloc (.cells #[.int .i64 0, .int .i64 0, .slice none 0 0] 26)).drew X0a.out.e.rs hf0 hf16) ?_); rintro e w1 ⟨m1, g1, A1, c1', hm1, rfl, hown1, hR1, hg1⟩; have x1 := CaP.step X0a.out hg1 hR1; have S1 := hid x1.e.cells; (try (have x1a := CaP.alloc x1; have S1a := hid x1a.e.cells; have X1a := hid x1a; clear x1a)); have X1 := hid x1; clear x1; have D1 := hid (own_more hown1 (show w.heap.size ≤ _ from Nat.le_of_lt X0a.out.e.zero.lt)); have D1a := hid ((own_more hown1 (show w.heap.size ≤ _ from Nat.le_of_lt X0a.out.e.zero.lt)).alloc (.cells #[.int .i64 0, .int .i64 0, .slice none 0 0] 26)); clear hR1 hg1 hown1))
                | (go_at_call 23; first
                      | ((with_reducible refine Calls.mono (sGet_draw cp ck A' k c s A1 m1 c1' g1 w1 X1.out.e.rdC (own_rdF D1.out) hC.out.good hm1) ?_); rintro e w2 ⟨C2, SC2, B2, m2, e2, s2, bb2, rfl, ho2, hgo2, hb2⟩; have x2 := CaP.made X1.out hb2 ho2 hgo2; have S2 := hid x2.e.cells; (try obtain ⟨v0, v1, v2, q0, q1, q2⟩ := blk_cells3 x2.old); have S2z := hid (x2.e.alloc (.cells #[.int .i64 0, .int .i64 0, .slice none 0 0] 26)).cells; have S2a := hid (x2.e.alloc (.cells #[.int .i64 cp, .int .i64 C2, .slice B2 m2 e2] 26)).cells; (try have S2q := hid (x2.put cp C2 e2).e.cells); have X2 := hid x2; clear x2 hb2 ho2 hgo2)
                      | ((with_reducible refine Calls.mono (sGet_draw cp ck A' k c s A1 m1 c1' g1 (w1.alloc (.cells #[.int .i64 0, .int .i64 0, .slice none 0 0] 26)) X1a.out.e.rdC (own_rdF D1a.out) hC.out.good hm1) ?_); rintro e w2 ⟨C2, SC2, B2, m2, e2, s2, bb2, rfl, ho2, hgo2, hb2⟩; have x2 := CaP.made X1a.out hb2 ho2 hgo2; have S2 := hid x2.e.cells; (try obtain ⟨v0, v1, v2, q0, q1, q2⟩ := blk_cells3 x2.old); have S2z := hid (x2.e.alloc (.cells #[.int .i64 0, .int .i64 0, .slice none 0 0] 26)).cells; have S2a := hid (x2.e.alloc (.cells #[.int .i64 cp, .int .i64 C2, .slice B2 m2 e2] 26)).cells; (try have S2q := hid (x2.put cp C2 e2).e.cells); have X2 := hid x2; clear x2 hb2 ho2 hgo2)))
            all_goals clear S0 S0a X0 X0a S1 S2 S2z S2a
            all_goals (try clear S2q)
            all_goals
              go_wp2_with fail
              go_meet
              first
                | ((with_reducible have Y6 := hid (CaO.put (Hid.out X2) cp C2 e2)); clear X2; with_reducible exact ⟨_, _, _, rfl, rfl, rfl, Y6⟩)
                | ((with_reducible have Y6 := hid (CaO.new (Hid.out X2) cp C2 e2)); clear X2; with_reducible exact ⟨_, _, _, rfl, rfl, rfl, Y6⟩)
          case rest =>
            obtain ⟨x2, B2, y2', rfl, rfl, rfl, hN⟩ := hcut
            clear X0 X0a S0 S0a
            obtain ⟨hE, up, uk, U1, ju, du, tu, hx, hown2, hgood2⟩ := hN.out
            obtain ⟨y0, y1, y2, _, _, _⟩ := blk_cells3 hx
            obtain ⟨z0, z1, z2, v0, v1, v2⟩ := blk_cells3 hE.cach
            have HE2 := hid hE
            have HO2 := hid hown2
            have HG2 := hid hgood2
            clear hE hown2 hgood2 hN hC hx
            cases B2 with
            | false =>
              go_wp2_with fail
              go_roundw
              case rel => exact ⟨r, cp, ck, A', k, c, s, by go_num, by omega, HE2⟩
              case measure => simp [intOf]
            | true =>
              have HE3 := hid (CaE.put3 (cp2 := up) (ck2 := uk) (c2 := du) HE2.out (HG2.out rfl) HO2.out)
              clear HE2 HO2 HG2
              go_wp2_with fail
              go_roundw
              case rel => exact ⟨r, up, uk, U1, ju, du, tu, by go_num, by omega, HE3⟩
              case measure => simp [intOf]
        | true =>
          have hC := hid (CaE.put3 (cp2 := dp) (ck2 := dk) (c2 := d) HE.out (HG.out rfl) HO.out)
          go_wp2_with fail
          clear y0 y1 y2 z0 z1 z2 v0 v1 v2 HE HO HG
          obtain ⟨W5, hW5⟩ : ∃ X, (((wc.setCell ⟨cb, 0, none⟩ (.int .i64 dp)).setCell ⟨cb, 1, none⟩ (.int .i64 dk)).setCell ⟨cb, 2, none⟩ (.slice AD j d)) = X := ⟨_, rfl⟩
          rw [hW5] at hC ⊢
          clear hW5
          have X0 : Hid (CaP w R n cap A cb dp dk AD j d t none W5.drew) := CaP.drew ⟨hC.out, fun x e => by cases e⟩
          have X0a : Hid (CaP w R n cap A cb dp dk AD j d t (some W5.heap.size) (W5.alloc (.cells #[.int .i64 0, .int .i64 0, .slice none 0 0] 26)).drew) := CaP.drew (CaP.alloc ⟨hC.out, fun x e => by cases e⟩)
          have S0 := hid X0.out.e.cells
          have S0a := hid X0a.out.e.cells
          go_cut [9, 10, 11] (fun s9 s10 s11 wx => ∃ (x : Nat) (B : Bool) (y : Int), s9 = .pointer (some ⟨x, 0, none⟩) ∧ s10 = .int .i64 y ∧ s11 = .bool B ∧ Hid (CaN w R n cap A cb dp dk AD j d t x B wx))
          case first =>
            go_region_held3 (fun w' => w'.cell? ⟨cb, 0, none⟩ = some (.int .i64 dp) ∧ w'.cell? ⟨cb, 1, none⟩ = some (.int .i64 dk) ∧ w'.cell? ⟨cb, 2, none⟩ = some (.slice AD j d))
              ((refine Hid.out ?_; with_reducible assumption))
              (first
                | (go_at_call 83; first
                      | ((with_reducible refine Calls.mono (doc_drawI R n cap A f W5.drew X0.out.e.rs hf0 hf16) ?_); rintro e w1 ⟨m1, g1, A1, c1', hm1, rfl, hown1, hR1, hg1⟩; have x1 := CaP.step X0.out hg1 hR1; have S1 := hid x1.e.cells; (try (have x1a := CaP.alloc x1; have S1a := hid x1a.e.cells; have X1a := hid x1a; clear x1a)); have X1 := hid x1; clear x1; have D1 := hid (own_more hown1 (show w.heap.size ≤ _ from Nat.le_of_lt X0.out.e.zero.lt)); have D1a := hid ((own_more hown1 (show w.heap.size ≤ _ from Nat.le_of_lt X0.out.e.zero.lt)).alloc (.cells #[.int .i64 0, .int .i64 0, .slice none 0 0] 26)); clear hR1 hg1 hown1)
                      | ((with_reducible refine Calls.mono (doc_drawI R n cap A f (W5.alloc (.cells #[.int .i64 0, .int .i64 0, .slice none 0 0] 26)).drew X0a.out.e.rs hf0 hf16) ?_); rintro e w1 ⟨m1, g1, A1, c1', hm1, rfl, hown1, hR1, hg1⟩; have x1 := CaP.step X0a.out hg1 hR1; have S1 := hid x1.e.cells; (try (have x1a := CaP.alloc x1; have S1a := hid x1a.e.cells; have X1a := hid x1a; clear x1a)); have X1 := hid x1; clear x1; have D1 := hid (own_more hown1 (show w.heap.size ≤ _ from Nat.le_of_lt X0a.out.e.zero.lt)); have D1a := hid ((own_more hown1 (show w.heap.size ≤ _ from Nat.le_of_lt X0a.out.e.zero.lt)).alloc (.cells #[.int .i64 0, .int .i64 0, .slice none 0 0] 26)); clear hR1 hg1 hown1))
                | (go_at_call 23; first
                      | ((with_reducible refine Calls.mono (sGet_draw dp dk AD j d t A1 m1 c1' g1 w1 X1.out.e.rdC (own_rdF D1.out) hC.out.good hm1) ?_); rintro e w2 ⟨C2, SC2, B2, m2, e2, s2, bb2, rfl, ho2, hgo2, hb2⟩; have x2 := CaP.made X1.out hb2 ho2 hgo2; have S2 := hid x2.e.cells; (try obtain ⟨v0, v1, v2, q0, q1, q2⟩ := blk_cells3 x2.old); have S2z := hid (x2.e.alloc (.cells #[.int .i64 0, .int .i64 0, .slice none 0 0] 26)).cells; have S2a := hid (x2.e.alloc (.cells #[.int .i64 dp, .int .i64 C2, .slice B2 m2 e2] 26)).cells; (try have S2q := hid (x2.put dp C2 e2).e.cells); have X2 := hid x2; clear x2 hb2 ho2 hgo2)
                      | ((with_reducible refine Calls.mono (sGet_draw dp dk AD j d t A1 m1 c1' g1 (w1.alloc (.cells #[.int .i64 0, .int .i64 0, .slice none 0 0] 26)) X1a.out.e.rdC (own_rdF D1a.out) hC.out.good hm1) ?_); rintro e w2 ⟨C2, SC2, B2, m2, e2, s2, bb2, rfl, ho2, hgo2, hb2⟩; have x2 := CaP.made X1a.out hb2 ho2 hgo2; have S2 := hid x2.e.cells; (try obtain ⟨v0, v1, v2, q0, q1, q2⟩ := blk_cells3 x2.old); have S2z := hid (x2.e.alloc (.cells #[.int .i64 0, .int .i64 0, .slice none 0 0] 26)).cells; have S2a := hid (x2.e.alloc (.cells #[.int .i64 dp, .int .i64 C2, .slice B2 m2 e2] 26)).cells; (try have S2q := hid (x2.put dp C2 e2).e.cells); have X2 := hid x2; clear x2 hb2 ho2 hgo2)))
            all_goals clear S0 S0a X0 X0a S1 S2 S2z S2a
            all_goals (try clear S2q)
            all_goals
              go_wp2_with fail
              go_meet
              first
                | ((with_reducible have Y6 := hid (CaO.put (Hid.out X2) dp C2 e2)); clear X2; with_reducible exact ⟨_, _, _, rfl, rfl, rfl, Y6⟩)
                | ((with_reducible have Y6 := hid (CaO.new (Hid.out X2) dp C2 e2)); clear X2; with_reducible exact ⟨_, _, _, rfl, rfl, rfl, Y6⟩)
          case rest =>
            obtain ⟨x2, B2, y2', rfl, rfl, rfl, hN⟩ := hcut
            clear X0 X0a S0 S0a
            obtain ⟨hE, up, uk, U1, ju, du, tu, hx, hown2, hgood2⟩ := hN.out
            obtain ⟨y0, y1, y2, _, _, _⟩ := blk_cells3 hx
            obtain ⟨z0, z1, z2, v0, v1, v2⟩ := blk_cells3 hE.cach
            have HE2 := hid hE
            have HO2 := hid hown2
            have HG2 := hid hgood2
            clear hE hown2 hgood2 hN hC hx
            cases B2 with
            | false =>
              go_wp2_with fail
              go_roundw
              case rel => exact ⟨r, dp, dk, AD, j, d, t, by go_num, by omega, HE2⟩
              case measure => simp [intOf]
            | true =>
              have HE3 := hid (CaE.put3 (cp2 := up) (ck2 := uk) (c2 := du) HE2.out (HG2.out rfl) HO2.out)
              clear HE2 HO2 HG2
              go_wp2_with fail
              go_roundw
              case rel => exact ⟨r, up, uk, U1, ju, du, tu, by go_num, by omega, HE3⟩
              case measure => simp [intOf]
    · have hr0 : r = 0 := by omega
      subst hr0
      go_wp2_with fail
      refine (below_draw R n cap A 24 _ hC.out.rs (by omega) (by omega)).mono ?_
      rintro e w4 ⟨q, rfl, hq0, hq1, hR4, hg4⟩
      have hC4 := hid (hC.out.step hg4 hR4)
      clear hC hR4 hg4
      by_cases q0 : q = 0
      · subst q0
        go_wp2_with fail
        refine (off_draw R n cap A 1 8 _ hC4.out.rs (by omega) (by omega) (by omega) (by omega)).mono ?_
        rintro e w5 ⟨y, rfl, hR5, hg5⟩
        have hC5 := hC4.out.step hg5 hR5
        obtain ⟨z0, z1, z2, v0, v1, v2⟩ := blk_cells3 hC5.cach
        obtain ⟨y0, y1, y2, u0, u1, u2⟩ := blk_cells3 hC5.zero
        have hne : w.heap.size ≠ cb := Nat.ne_of_lt hC5.lt.2
        have hne' : cb ≠ w.heap.size := fun e => hne e.symm
        have HF := hid (hC5.set0 y).fin
        have HGo := hid hC5.good
        clear hC5 hC4 hR5 hg5
        go_wp2_with fail
        (try simp only [Exit.inBlock, Exit.then])
        obtain ⟨f1, f2, f3, f4⟩ := HF.out
        refine bodyPost_ret (results_cell_row rfl _ _ w.heap.size 26 _ (0, 0) _ rfl f1 Try.underlying26 rfl size_cache) rfl ?_
        exact ⟨y, ck, A', k, c, s, rfl, HGo.out, f2, f3, f4⟩
      · by_cases q1 : q = 1
        · subst q1
          go_wp2_with fail
          refine (off_draw R n cap A 0 1000000000 _ hC4.out.rs (by omega) (by omega) (by omega) (by omega)).mono ?_
          rintro e w5 ⟨y, rfl, hR5, hg5⟩
          have hC5 := hC4.out.step hg5 hR5
          obtain ⟨z0, z1, z2, v0, v1, v2⟩ := blk_cells3 hC5.cach
          obtain ⟨y0, y1, y2, u0, u1, u2⟩ := blk_cells3 hC5.zero
          have hne : w.heap.size ≠ cb := Nat.ne_of_lt hC5.lt.2
          have hne' : cb ≠ w.heap.size := fun e => hne e.symm
          have HF := hid (hC5.set1 y).fin
          have HGo := hid hC5.good
          clear hC5 hC4 hR5 hg5
          go_wp2_with fail
          (try simp only [Exit.inBlock, Exit.then])
          obtain ⟨f1, f2, f3, f4⟩ := HF.out
          refine bodyPost_ret (results_cell_row rfl _ _ w.heap.size 26 _ (0, 0) _ rfl f1 Try.underlying26 rfl size_cache) rfl ?_
          exact ⟨cp, y, A', k, c, s, rfl, HGo.out, f2, f3, f4⟩
        · have hC5 := hC4.out
          obtain ⟨z0, z1, z2, v0, v1, v2⟩ := blk_cells3 hC5.cach
          obtain ⟨y0, y1, y2, u0, u1, u2⟩ := blk_cells3 hC5.zero
          have hne : w.heap.size ≠ cb := Nat.ne_of_lt hC5.lt.2
          have hne' : cb ≠ w.heap.size := fun e => hne e.symm
          have HF := hid hC5.fin
          have HGo := hid hC5.good
          have qq0 : (q == 0) = false := by simpa using q0
          have qq1 : (q == 1) = false := by simpa using q1
          clear hC5 hC4
          go_wp2_with fail
          (try simp only [Exit.inBlock, Exit.then])
          obtain ⟨f1, f2, f3, f4⟩ := HF.out
          refine bodyPost_ret (results_cell_row rfl _ _ w.heap.size 26 _ (0, 0) _ rfl f1 Try.underlying26 rfl size_cache) rfl ?_
          exact ⟨cp, ck, A', k, c, s, rfl, HGo.out, f2, f3, f4⟩
end Go.Proofs.Ytckhooibjmheiaa
