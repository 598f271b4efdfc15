/- The walk of the law of plans in any order. -/
import Derived.Test.YtlgomifpohdniaaGreatCls
namespace Go.Proofs.YtlgomifpohdniaaGreat
open Go.RowKit Go.Deep
set_option linter.unusedVariables false
set_option linter.unusedSimpArgs false

theorem perm_all {f b : Int} {n : Nat} {len : Nat → Nat} {g : Nat → Nat → Nd} {n1 n2 n3 n4 : Nat} {z1 z2 z3 z4 : Nat → Int} (h : planB f b n len g n1 z1 n2 z2 n3 z3 n4 z4 = true) (v : Nat → Int) : sumT (fun j => v (ordN z1 j)) n = sumT v n := by
  unfold planB at h
  simp only [Bool.and_eq_true, decide_eq_true_eq] at h
  obtain ⟨hE, ⟨rfl, hO⟩, -⟩ := h
  have hlt := ordN_lt hO
  have hin : ∀ i j, i < n1 → j < n1 → i ≠ j → ordN z1 i ≠ ordN z1 j := fun i j hi hj hne e => by
    have a := ordO_iff.1 hO i hi
    have c := ordO_iff.1 hO j hj
    unfold ordN at e
    have e' : z1 i = z1 j := by omega
    rcases Nat.lt_or_gt_of_ne hne with h | h
    · exact c.2 i h e'
    · exact a.2 j h e'.symm
  rw [← sum_perm n1 v (ordN z1) hlt hin]
  exact sumT_o v (ordN z1) n1
/-- A plan that was made or not: empty, or right and in memory of its own. -/
def OwnY (Y : Bool) (w : World) (B : Nat) (f b : Int) (k : Nat) (len : Nat → Nat) (g : Nat → Nat → Nd) (A1 : Option Addr) (N1 c1 : Nat) (A2 : Option Addr) (N2 c2 : Nat) (A3 : Option Addr) (N3 c3 : Nat) (A4 : Option Addr) (N4 c4 : Nat) : Prop :=
  ∃ z1 z2 z3 z4, Owns4 w B A1 N1 c1 z1 A2 N2 c2 z2 A3 N3 c3 z3 A4 N4 c4 z4 ∧ planB f b k len g N1 z1 N2 z2 N3 z3 N4 z4 = Y ∧ N1 ≤ 13 ∧ N2 ≤ 13 ∧ N3 ≤ 13 ∧ N4 ≤ 13
theorem iPlanOf_y (Y : Bool) (f b pol st : Int) (A : Option Addr) (k c : Nat) (len : Nat → Nat) (g : Nat → Nat → Nd) (w : World) (h : RdT w w.heap.size A k len g) (hn : k ≤ 4194304) (hlen : Hid (∀ i, i < k → len i ≤ 4194304)) (hE : Hid (ensB f b k len g = Y)) (p1 : 1 ≤ pol) (p3 : pol ≤ 3) (h1 : 1 ≤ st) (h12 : st ≤ 5) :
    Calls Tryz.prog 19 #[enV f b A k c, .int .i64 pol, .int .i64 st] w fun e w' => ∃ (A1 : Option Addr) (N1 c1 : Nat) (A2 : Option Addr) (N2 c2 : Nat) (A3 : Option Addr) (N3 c3 : Nat) (A4 : Option Addr) (N4 c4 : Nat), e = .returned (.tuple #[plV A1 N1 c1 A2 N2 c2 A3 N3 c3 A4 N4 c4, .bool Y]) ∧ OwnY Y w' w.heap.size f b k len g A1 N1 c1 A2 N2 c2 A3 N3 c3 A4 N4 c4 ∧ Below w.heap.size w w' := by
  cases Y with
  | true =>
    exact iPlanOf_made f b pol st A k c len g w h hn hlen hE.out p1 p3 h1 (by omega)
  | false =>
    have hY : planY f b pol st k len g = false := by
      unfold planY polB
      rw [hE.out]
      rfl
    have hp : ∀ z : Nat → Int, planB f b k len g 0 z 0 z 0 z 0 z = false := fun z => by
      unfold planB
      rw [hE.out]
      rfl
    exact (iPlanOf_no f b pol st A k c len g w h hn hlen hY).mono fun _ w' ⟨he, hb⟩ => ⟨none, 0, 0, none, 0, 0, none, 0, 0, none, 0, 0, he, ⟨fun _ => 0, fun _ => 0, fun _ => 0, fun _ => 0, owns4_nil w' _ _ _ _ _, hp _, by omega, by omega, by omega, by omega⟩, hb⟩
def PY (Y : Bool) (W1 : World) (q : Option Nat) (f b : Int) (k : Nat) (len : Nat → Nat) (g : Nat → Nat → Nd) (A1 : Option Addr) (N1 c1 : Nat) (A2 : Option Addr) (N2 c2 : Nat) (A3 : Option Addr) (N3 c3 : Nat) (A4 : Option Addr) (N4 c4 : Nat) (W : World) : Prop :=
  PB W1 q W ∧ ∃ B, (∀ x, q = some x → x < B) ∧ OwnY Y W B f b k len g A1 N1 c1 A2 N2 c2 A3 N3 c3 A4 N4 c4
/-- In the block x lies the plan. -/
def MadeY (Y : Bool) (W1 : World) (f b : Int) (k : Nat) (len : Nat → Nat) (g : Nat → Nat → Nd) (x : Nat) (W : World) : Prop :=
  ∃ (A1 : Option Addr) (N1 c1 : Nat) (z1 : Nat → Int) (A2 : Option Addr) (N2 c2 : Nat) (z2 : Nat → Int) (A3 : Option Addr) (N3 c3 : Nat) (z3 : Nat → Int) (A4 : Option Addr) (N4 c4 : Nat) (z4 : Nat → Int), Blk W x 29 #[.slice A1 N1 c1, .slice A2 N2 c2, .slice A3 N3 c3, .slice A4 N4 c4] ∧ RdP W W.heap.size A1 N1 z1 A2 N2 z2 A3 N3 z3 A4 N4 z4 ∧ planB f b k len g N1 z1 N2 z2 N3 z3 N4 z4 = Y ∧ (N1 ≤ 13 ∧ N2 ≤ 13 ∧ N3 ≤ 13 ∧ N4 ≤ 13) ∧ Below W1.heap.size W1 W
section
variable {Y : Bool} {W1 W W' : World} {q : Option Nat} {x k N1 c1 N2 c2 N3 c3 N4 c4 : Nat} {A1 A2 A3 A4 : Option Addr} {f b : Int} {len : Nat → Nat} {g : Nat → Nat → Nd}
theorem PB.y (h : PB W1 q W) (hb : Below W.heap.size W W') (hm : OwnY Y W' W.heap.size f b k len g A1 N1 c1 A2 N2 c2 A3 N3 c3 A4 N4 c4) : PY Y W1 q f b k len g A1 N1 c1 A2 N2 c2 A3 N3 c3 A4 N4 c4 W' :=
  ⟨stb_PB _ _ h hb, W.heap.size, fun x e => (h.2 x e).2.lt, hm⟩
theorem PY.bel (h : PY Y W1 q f b k len g A1 N1 c1 A2 N2 c2 A3 N3 c3 A4 N4 c4 W) : Below W1.heap.size W1 W := h.1.1
theorem PY.old (h : PY Y W1 (some x) f b k len g A1 N1 c1 A2 N2 c2 A3 N3 c3 A4 N4 c4 W) : Blk W x 29 #[.slice none 0 0, .slice none 0 0, .slice none 0 0, .slice none 0 0] := (h.1.2 x rfl).2
theorem PY.new (h : PY Y W1 none f b k len g A1 N1 c1 A2 N2 c2 A3 N3 c3 A4 N4 c4 W) : MadeY Y W1 f b k len g W.heap.size (W.alloc (.cells #[.slice A1 N1 c1, .slice A2 N2 c2, .slice A3 N3 c3, .slice A4 N4 c4] 29)) := by
  obtain ⟨h1, B, hq, z1, z2, z3, z4, ho, hp, hN⟩ := h
  have hx := (Below.refl W.heap.size W).alloc (Nat.le_refl _) (.cells #[.slice A1 N1 c1, .slice A2 N2 c2, .slice A3 N3 c3, .slice A4 N4 c4] 29)
  exact ⟨A1, N1, c1, z1, A2, N2, c2, z2, A3, N3, c3, z3, A4, N4, c4, z4, Blk.new W _ _, ho.rdP.to hx hx.size, hp, hN, h1.1.alloc h1.1.size _⟩
theorem PY.bel4 (h : PY Y W1 (some x) f b k len g A1 N1 c1 A2 N2 c2 A3 N3 c3 A4 N4 c4 W) (u0 u1 u2 u3 : Value) : Below W1.heap.size W1 ((((W.setCell ⟨x, 0, none⟩ u0).setCell ⟨x, 1, none⟩ u1).setCell ⟨x, 2, none⟩ u2).setCell ⟨x, 3, none⟩ u3) := by
  have hx := (h.1.2 x rfl).1
  exact (((h.1.1.setCell (p := ⟨x, 0, none⟩) hx _).setCell (p := ⟨x, 1, none⟩) hx _).setCell (p := ⟨x, 2, none⟩) hx _).setCell (p := ⟨x, 3, none⟩) hx _
theorem PY.put (h : PY Y W1 (some x) f b k len g A1 N1 c1 A2 N2 c2 A3 N3 c3 A4 N4 c4 W) : MadeY Y W1 f b k len g x ((((W.setCell ⟨x, 0, none⟩ (.slice A1 N1 c1)).setCell ⟨x, 1, none⟩ (.slice A2 N2 c2)).setCell ⟨x, 2, none⟩ (.slice A3 N3 c3)).setCell ⟨x, 3, none⟩ (.slice A4 N4 c4)) := by
  have h4 := h.bel4 (.slice A1 N1 c1) (.slice A2 N2 c2) (.slice A3 N3 c3) (.slice A4 N4 c4)
  have hb := h.old
  obtain ⟨h1, B, hq, z1, z2, z3, z4, ho, hp, hN⟩ := h
  have hxB := hq x rfl
  exact ⟨A1, N1, c1, z1, A2, N2, c2, z2, A3, N3, c3, z3, A4, N4, c4, z4, (((hb.set_ 0 _).set_ 1 _).set_ 2 _).set_ 3 _, (ho.keep (Nat.le_refl _) fun y hy _ => far4 _ _ _ _ y (by omega)).rdP, hp, hN, h4⟩
end
/-- What both plans come to. -/
theorem any_same {f b : Int} {n : Nat} {len : Nat → Nat} {g : Nat → Nat → Nd} {n1 n2 n3 n4 m1 m2 m3 m4 : Nat} {z1 z2 z3 z4 y1 y2 y3 y4 : Nat → Int} {Y V : Bool} (z : Nat → Int) (h : planB f b n len g n1 z1 n2 z2 n3 z3 n4 z4 = Y) (h' : planB f b n len g m1 y1 m2 y2 m3 y3 m4 y4 = Y) (hV : V = true → Y = true) :
    ∃ a s q : Int, stAns V (n : Int) (sumT (scO g (ordN z1) z) (n : Int).toNat) (sumT (csF g (ordN z1) z) (n : Int).toNat) = stV a s q ∧ stAns V (n : Int) (sumT (scO g (ordN y1) z) (n : Int).toNat) (sumT (csF g (ordN y1) z) (n : Int).toNat) = stV a s q := by
  unfold stAns
  cases V with
  | false => exact ⟨0, 0, 0, if_neg (by simp), if_neg (by simp)⟩
  | true =>
    have hY := hV rfl
    subst hY
    rw [if_pos rfl, if_pos rfl, Int.toNat_natCast]
    have e1 : sumT (scO g (ordN z1) z) n = sumT (scO g (ordN y1) z) n := (perm_all h (scF g z)).trans (perm_all h' (scF g z)).symm
    have e2 : sumT (csF g (ordN z1) z) n = sumT (csF g (ordN y1) z) n := (perm_all h (fun i => ((spl (g i) z : Nat) : Int))).trans (perm_all h' (fun i => ((spl (g i) z : Nat) : Int))).symm
    rw [e1, e2]
    exact ⟨_, _, _, rfl, rfl⟩

set_option maxRecDepth 100000 in
set_option maxHeartbeats 8000000 in
theorem lawAnyOrder (A : Option Addr) (n cap : Nat) (w : World) (h : Bs w w.heap.size A n) :
    Calls Tryz.prog 7 #[.slice A n cap] w fun e w' => e = .returned (.bool true) ∧ Below w.heap.size w w' := by
  go_enter Tryz.func7, Tryz.ntmps7
  go_wp2_with fail
  by_cases hbig : (1048576 : Int) < (n : Int)
  · refine (big_yes A n cap w hbig).mono ?_
    rintro e w' ⟨rfl, rfl⟩
    go_wp2_with fail
    go_ret
    exact ⟨rfl, Below.refl _ _⟩
  refine (big_no A n cap w hbig).mono ?_
  rintro e w' ⟨rfl, rfl⟩
  go_wp2_with fail
  with_reducible refine Calls.mono (drawFull A n cap w h (by omega)) ?_
  rintro e w1 ⟨f, b, k, A', c, len, g, m, z, D, dc, hk, hl, hm, rfl, hr, hd, hb1⟩
  have hbx := (Below.refl w1.heap.size w1).alloc (Nat.le_refl _) (.cells #[.int .i64 f, .int .i64 b, .slice A' k c] 26)
  have E1 : Blk (w1.alloc (.cells #[.int .i64 f, .int .i64 b, .slice A' k c] 26)) w1.heap.size 26 #[.int .i64 f, .int .i64 b, .slice A' k c] := Blk.new w1 _ _
  have hwb := hb1.trans (hbx.mono hb1.size)
  have hrT1 := hr.to hbx hbx.size
  have hd1 := hd.to hbx hbx.size
  have HL := hid hl
  have hk' : k ≤ 4194304 := by omega
  have hl' : Hid (∀ i, i < k → len i ≤ 4194304) := fun i hi => Nat.le_trans (HL.out i hi) (by omega)
  have hm' : m ≤ 4194304 := by omega
  obtain ⟨Y, hY⟩ : ∃ Y, ensB f b k len g = Y := ⟨_, rfl⟩
  have HE := hid hY
  obtain ⟨F, hF⟩ : ∃ F, fitB f m z = F := ⟨_, rfl⟩
  have HF := hid hF
  clear hl hY hF hr hd hb1 hbx
  go_wp2_with fail
  obtain ⟨W1, hW1⟩ : ∃ W, w1.alloc (.cells #[.int .i64 f, .int .i64 b, .slice A' k c] 26) = W := ⟨_, rfl⟩
  rw [hW1] at E1 hwb hrT1 hd1 ⊢
  obtain ⟨eb, heb⟩ : ∃ eb, w1.heap.size = eb := ⟨_, rfl⟩
  rw [heb] at E1
  try rw [heb]
  clear hW1 heb
  have HWB := hid hwb
  clear hwb
  have X0 : Hid (PB W1 none W1.drew) := ⟨(Below.refl _ W1).drew, fun x e => by cases e⟩
  have X0a : Hid (PB W1 (some W1.heap.size) (W1.alloc (.cells #[.slice none 0 0, .slice none 0 0, .slice none 0 0, .slice none 0 0] 29)).drew) := stb_PB.drew (PB.alloc ⟨Below.refl _ W1, fun x e => by cases e⟩)
  have S0 := hid (ens_cells X0.out.bel E1)
  have S0a := hid (ens_cells X0a.out.bel E1)
  go_cut [5, 6] (fun s5 s6 wx => ∃ (x : Nat), s5 = .pointer (some ⟨x, 0, none⟩) ∧ s6 = .bool Y ∧ Hid (MadeY Y W1 f b k len g x wx))
  case first =>
    go_region_held3 (fun w' => w'.cell? ⟨eb, 0, none⟩ = some (.int .i64 f) ∧ w'.cell? ⟨eb, 1, none⟩ = some (.int .i64 b) ∧ w'.cell? ⟨eb, 2, none⟩ = some (.slice A' k c))
      ((refine Hid.out ?_; with_reducible assumption))
      (first
        | (go_at_call 20; first
            | ((with_reducible refine Calls.mono (byte_rem 3 A n cap 2 W1.drew (Bs.more (Bs.keep h fun _ hp => (HWB.out.trans (X0.out.bel.mono HWB.out.size)).cell hp) (HWB.out.trans (X0.out.bel.mono HWB.out.size)).size) (by omega) (by omega) (by omega) (by omega)) ?_); rintro e w5 ⟨xy3, y3, rfl, hty3, hwy3, h1y3, h2y3, rfl⟩)
            | ((with_reducible refine Calls.mono (byte_rem 3 A n cap 2 (W1.alloc (.cells #[.slice none 0 0, .slice none 0 0, .slice none 0 0, .slice none 0 0] 29)).drew (Bs.more (Bs.keep h fun _ hp => (HWB.out.trans (X0a.out.bel.mono HWB.out.size)).cell hp) (HWB.out.trans (X0a.out.bel.mono HWB.out.size)).size) (by omega) (by omega) (by omega) (by omega)) ?_); rintro e w5 ⟨xy3, y3, rfl, hty3, hwy3, h1y3, h2y3, rfl⟩))
        | (go_at_call 20; first
            | ((with_reducible refine Calls.mono (byte_rem 5 A n cap 3 W1.drew (Bs.more (Bs.keep h fun _ hp => (HWB.out.trans (X0.out.bel.mono HWB.out.size)).cell hp) (HWB.out.trans (X0.out.bel.mono HWB.out.size)).size) (by omega) (by omega) (by omega) (by omega)) ?_); rintro e w5 ⟨xy4, y4, rfl, hty4, hwy4, h1y4, h2y4, rfl⟩)
            | ((with_reducible refine Calls.mono (byte_rem 5 A n cap 3 (W1.alloc (.cells #[.slice none 0 0, .slice none 0 0, .slice none 0 0, .slice none 0 0] 29)).drew (Bs.more (Bs.keep h fun _ hp => (HWB.out.trans (X0a.out.bel.mono HWB.out.size)).cell hp) (HWB.out.trans (X0a.out.bel.mono HWB.out.size)).size) (by omega) (by omega) (by omega) (by omega)) ?_); rintro e w5 ⟨xy4, y4, rfl, hty4, hwy4, h1y4, h2y4, rfl⟩))
        | (go_at_call 19; first
            | ((with_reducible refine Calls.mono (iPlanOf_y Y f b (1 + y3) (1 + y4) A' k c len g W1.drew (hrT1.to X0.out.bel X0.out.bel.size) hk' hl' HE h1y3 h2y3 h1y4 h2y4) ?_); rintro e w6 ⟨M1, N1, e1', M2, N2, e2', M3, N3, e3', M4, N4, e4', rfl, hmo, hb6⟩; have x6 := X0.out.y hb6 hmo; clear hmo; (try obtain ⟨⟨v0, v1, v2, v3⟩, q0, q1, q2, q3⟩ := blk_cells4 x6.old); have S6 := hid (ens_cells x6.bel E1); have S6z := hid (ens_cells (x6.bel.alloc x6.bel.size (.cells #[.slice none 0 0, .slice none 0 0, .slice none 0 0, .slice none 0 0] 29)) E1); have S6a := hid (ens_cells (x6.bel.alloc x6.bel.size (.cells #[.slice M1 N1 e1', .slice M2 N2 e2', .slice M3 N3 e3', .slice M4 N4 e4'] 29)) E1); (try have S6q := hid (ens_cells (x6.bel4 (.slice M1 N1 e1') (.slice M2 N2 e2') (.slice M3 N3 e3') (.slice M4 N4 e4')) E1)); have X6 := hid x6; clear x6 hb6)
            | ((with_reducible refine Calls.mono (iPlanOf_y Y f b (1 + y3) (1 + y4) A' k c len g (W1.alloc (.cells #[.slice none 0 0, .slice none 0 0, .slice none 0 0, .slice none 0 0] 29)).drew (hrT1.to X0a.out.bel X0a.out.bel.size) hk' hl' HE h1y3 h2y3 h1y4 h2y4) ?_); rintro e w6 ⟨M1, N1, e1', M2, N2, e2', M3, N3, e3', M4, N4, e4', rfl, hmo, hb6⟩; have x6 := X0a.out.y hb6 hmo; clear hmo; (try obtain ⟨⟨v0, v1, v2, v3⟩, q0, q1, q2, q3⟩ := blk_cells4 x6.old); have S6 := hid (ens_cells x6.bel E1); have S6z := hid (ens_cells (x6.bel.alloc x6.bel.size (.cells #[.slice none 0 0, .slice none 0 0, .slice none 0 0, .slice none 0 0] 29)) E1); have S6a := hid (ens_cells (x6.bel.alloc x6.bel.size (.cells #[.slice M1 N1 e1', .slice M2 N2 e2', .slice M3 N3 e3', .slice M4 N4 e4'] 29)) E1); (try have S6q := hid (ens_cells (x6.bel4 (.slice M1 N1 e1') (.slice M2 N2 e2') (.slice M3 N3 e3') (.slice M4 N4 e4')) E1)); have X6 := hid x6; clear x6 hb6)))
    all_goals clear S0 S0a X0 X0a S6 S6z S6a hty3 hty4 hwy3 hwy4 h1y3 h2y3 h1y4 h2y4
    all_goals (try clear S6q)
    all_goals
      go_wp2_with fail
      go_meet
      first
        | ((with_reducible have Y6 := hid (PY.put (Hid.out X6))); clear X6; with_reducible exact ⟨_, rfl, rfl, Y6⟩)
        | ((with_reducible have Y6 := hid (PY.new (Hid.out X6))); clear X6; with_reducible exact ⟨_, rfl, rfl, Y6⟩)
  case rest =>
    obtain ⟨x, rfl, rfl, hmd⟩ := hcut
    clear X0 X0a S0 S0a
    obtain ⟨M1, N1, e1', y1, M2, N2, e2', y2, M3, N3, e3', y3, M4, N4, e4', y4, hbk, hrd, hpl, ⟨o1, o2, o3, o4⟩, hbw⟩ := hmd.out
    rename World => wx
    have E2 := E1.below hbw E1.lt
    have hrT2 := hrT1.to hbw hbw.size
    have hd2 := hd1.to hbw hbw.size
    have HWB2 := hid (HWB.out.trans (hbw.mono HWB.out.size))
    have HPL := hid hpl
    clear hmd hpl hbw E1 hrT1 hd1 HWB
    go_wp2_with fail
    have X0 : Hid (PB wx none wx.drew) := ⟨(Below.refl _ wx).drew, fun x e => by cases e⟩
    have X0a : Hid (PB wx (some wx.heap.size) (wx.alloc (.cells #[.slice none 0 0, .slice none 0 0, .slice none 0 0, .slice none 0 0] 29)).drew) := stb_PB.drew (PB.alloc ⟨Below.refl _ wx, fun x e => by cases e⟩)
    have S0 := hid (ens_cells X0.out.bel E2)
    have S0a := hid (ens_cells X0a.out.bel E2)
    go_cut [7, 8] (fun s7 s8 wy => ∃ (x' : Nat), s7 = .pointer (some ⟨x', 0, none⟩) ∧ s8 = .bool Y ∧ Hid (MadeY Y wx f b k len g x' wy))
    case first =>
      go_region_held3 (fun w' => w'.cell? ⟨eb, 0, none⟩ = some (.int .i64 f) ∧ w'.cell? ⟨eb, 1, none⟩ = some (.int .i64 b) ∧ w'.cell? ⟨eb, 2, none⟩ = some (.slice A' k c))
        ((refine Hid.out ?_; with_reducible assumption))
        (first
          | (go_at_call 20; first
            | ((with_reducible refine Calls.mono (byte_rem 3 A n cap 4 wx.drew (Bs.more (Bs.keep h fun _ hp => (HWB2.out.trans (X0.out.bel.mono HWB2.out.size)).cell hp) (HWB2.out.trans (X0.out.bel.mono HWB2.out.size)).size) (by omega) (by omega) (by omega) (by omega)) ?_); rintro e w5 ⟨xy3, y3, rfl, hty3, hwy3, h1y3, h2y3, rfl⟩)
            | ((with_reducible refine Calls.mono (byte_rem 3 A n cap 4 (wx.alloc (.cells #[.slice none 0 0, .slice none 0 0, .slice none 0 0, .slice none 0 0] 29)).drew (Bs.more (Bs.keep h fun _ hp => (HWB2.out.trans (X0a.out.bel.mono HWB2.out.size)).cell hp) (HWB2.out.trans (X0a.out.bel.mono HWB2.out.size)).size) (by omega) (by omega) (by omega) (by omega)) ?_); rintro e w5 ⟨xy3, y3, rfl, hty3, hwy3, h1y3, h2y3, rfl⟩))
          | (go_at_call 20; first
            | ((with_reducible refine Calls.mono (byte_rem 5 A n cap 5 wx.drew (Bs.more (Bs.keep h fun _ hp => (HWB2.out.trans (X0.out.bel.mono HWB2.out.size)).cell hp) (HWB2.out.trans (X0.out.bel.mono HWB2.out.size)).size) (by omega) (by omega) (by omega) (by omega)) ?_); rintro e w5 ⟨xy4, y4, rfl, hty4, hwy4, h1y4, h2y4, rfl⟩)
            | ((with_reducible refine Calls.mono (byte_rem 5 A n cap 5 (wx.alloc (.cells #[.slice none 0 0, .slice none 0 0, .slice none 0 0, .slice none 0 0] 29)).drew (Bs.more (Bs.keep h fun _ hp => (HWB2.out.trans (X0a.out.bel.mono HWB2.out.size)).cell hp) (HWB2.out.trans (X0a.out.bel.mono HWB2.out.size)).size) (by omega) (by omega) (by omega) (by omega)) ?_); rintro e w5 ⟨xy4, y4, rfl, hty4, hwy4, h1y4, h2y4, rfl⟩))
          | (go_at_call 19; first
            | ((with_reducible refine Calls.mono (iPlanOf_y Y f b (1 + y3) (1 + y4) A' k c len g wx.drew (hrT2.to X0.out.bel X0.out.bel.size) hk' hl' HE h1y3 h2y3 h1y4 h2y4) ?_); rintro e w6 ⟨M1, N1, e1', M2, N2, e2', M3, N3, e3', M4, N4, e4', rfl, hmo, hb6⟩; have x6 := X0.out.y hb6 hmo; clear hmo; (try obtain ⟨⟨v0, v1, v2, v3⟩, q0, q1, q2, q3⟩ := blk_cells4 x6.old); have S6 := hid (ens_cells x6.bel E2); have S6z := hid (ens_cells (x6.bel.alloc x6.bel.size (.cells #[.slice none 0 0, .slice none 0 0, .slice none 0 0, .slice none 0 0] 29)) E2); have S6a := hid (ens_cells (x6.bel.alloc x6.bel.size (.cells #[.slice M1 N1 e1', .slice M2 N2 e2', .slice M3 N3 e3', .slice M4 N4 e4'] 29)) E2); (try have S6q := hid (ens_cells (x6.bel4 (.slice M1 N1 e1') (.slice M2 N2 e2') (.slice M3 N3 e3') (.slice M4 N4 e4')) E2)); have X6 := hid x6; clear x6 hb6)
            | ((with_reducible refine Calls.mono (iPlanOf_y Y f b (1 + y3) (1 + y4) A' k c len g (wx.alloc (.cells #[.slice none 0 0, .slice none 0 0, .slice none 0 0, .slice none 0 0] 29)).drew (hrT2.to X0a.out.bel X0a.out.bel.size) hk' hl' HE h1y3 h2y3 h1y4 h2y4) ?_); rintro e w6 ⟨M1, N1, e1', M2, N2, e2', M3, N3, e3', M4, N4, e4', rfl, hmo, hb6⟩; have x6 := X0a.out.y hb6 hmo; clear hmo; (try obtain ⟨⟨v0, v1, v2, v3⟩, q0, q1, q2, q3⟩ := blk_cells4 x6.old); have S6 := hid (ens_cells x6.bel E2); have S6z := hid (ens_cells (x6.bel.alloc x6.bel.size (.cells #[.slice none 0 0, .slice none 0 0, .slice none 0 0, .slice none 0 0] 29)) E2); have S6a := hid (ens_cells (x6.bel.alloc x6.bel.size (.cells #[.slice M1 N1 e1', .slice M2 N2 e2', .slice M3 N3 e3', .slice M4 N4 e4'] 29)) E2); (try have S6q := hid (ens_cells (x6.bel4 (.slice M1 N1 e1') (.slice M2 N2 e2') (.slice M3 N3 e3') (.slice M4 N4 e4')) E2)); have X6 := hid x6; clear x6 hb6)))
      all_goals clear S0 S0a X0 X0a S6 S6z S6a hty3 hty4 hwy3 hwy4 h1y3 h2y3 h1y4 h2y4
      all_goals (try clear S6q)
      all_goals
        go_wp2_with fail
        go_meet
        first
          | ((with_reducible have Y6 := hid (PY.put (Hid.out X6))); clear X6; with_reducible exact ⟨_, rfl, rfl, Y6⟩)
          | ((with_reducible have Y6 := hid (PY.new (Hid.out X6))); clear X6; with_reducible exact ⟨_, rfl, rfl, Y6⟩)
    case rest =>
      obtain ⟨x', rfl, rfl, hmd⟩ := hcut
      clear X0 X0a S0 S0a
      obtain ⟨L1, T1, h1', v1, L2, T2, h2', v2, L3, T3, h3', v3, L4, T4, h4', v4, hbk', hrd', hpl', ⟨r1, r2, r3, r4⟩, hbw⟩ := hmd.out
      rename World => wy
      have E3 := E2.below hbw E2.lt
      have hrT3 := hrT2.to hbw hbw.size
      have hd3 := hd2.to hbw hbw.size
      have hbk3 := hbk.below hbw hbk.lt
      have hrd3 := hrd.to hbw hbw.size
      have HWB3 := hid (HWB2.out.trans (hbw.mono HWB2.out.size))
      have HPL' := hid hpl'
      obtain ⟨V, hV⟩ : ∃ V, (Y && F) = V := ⟨_, rfl⟩
      have kk : (decide (0 ≤ (k : Int)) && decide ((k : Int) ≤ (k : Int))) = true := by
        rw [decide_eq_true (by omega), decide_eq_true (by omega)]
        rfl
      have HV1 : Hid (stOk f b k len g N1 y1 N2 y2 N3 y3 N4 y4 m z (k : Int) = V) := by
        apply hid
        unfold stOk
        rw [HPL.out, HF.out, kk, hV, Bool.and_true]
      have HV2 : Hid (stOk f b k len g T1 v1 T2 v2 T3 v3 T4 v4 m z (k : Int) = V) := by
        apply hid
        unfold stOk
        rw [HPL'.out, HF.out, kk, hV, Bool.and_true]
      have HFB : Hid (fullB f b k len g m z = V) := by
        apply hid
        unfold fullB
        rw [HE.out, HF.out, hV]
      have hVY : V = true → Y = true := by
        rw [← hV, Bool.and_eq_true]
        exact fun h => h.1
      obtain ⟨a, s, q, hs1, hs2⟩ := any_same z HPL.out HPL'.out hVY
      have HS1 := hid hs1
      have HS2 := hid hs2
      clear hmd hpl' hbw E2 hrT2 hd2 hbk hrd HWB2 hV kk hVY hs1 hs2
      obtain ⟨x0, x1, x2⟩ := ens_cells (Below.refl _ wy) E3
      obtain ⟨⟨t0, t1, t2, t3⟩, f0, f1, f2, f3⟩ := blk_cells4 hbk3
      obtain ⟨⟨u0, u1, u2, u3⟩, g0, g1, g2, g3⟩ := blk_cells4 hbk'
      go_wp2_with fail
      with_reducible refine Calls.mono (iStateTo_any f b A' k c len g M1 N1 e1' y1 M2 N2 e2' y2 M3 N3 e3' y3 M4 N4 e4' y4 D m dc z (k : Int) V wy hrT3 hrd3 hd3 hk' hl' (by omega) (by omega) (by omega) (by omega) hm' HV1) ?_
      rintro e w6 ⟨rfl, hb6⟩
      rw [HS1.out]
      have hb6' := hb6.alloc hb6.size (.cells #[.int .i64 a, .int .i64 s, .int .i64 q] 33)
      have s6 := Blk.new w6 33 #[.int .i64 a, .int .i64 s, .int .i64 q]
      have E6 := E3.below hb6' E3.lt
      have hbk6 := hbk'.below hb6' hbk'.lt
      have HWB6 := hid (HWB3.out.trans (hb6'.mono HWB3.out.size))
      have hrT6 := hrT3.to hb6' hb6'.size
      have hd6 := hd3.to hb6' hb6'.size
      have hrd6 := hrd'.to hb6' hb6'.size
      clear hb6 hb6' x0 x1 x2 t0 t1 t2 t3 f0 f1 f2 f3 u0 u1 u2 u3 g0 g1 g2 g3 E3 hbk3 hbk' HWB3 hrT3 hd3 hrd3 hrd' HS1 HV1
      obtain ⟨x0, x1, x2⟩ := ens_cells (Below.refl _ _) E6
      obtain ⟨⟨u0, u1, u2, u3⟩, g0, g1, g2, g3⟩ := blk_cells4 hbk6
      go_wp2_with fail
      obtain ⟨W6, hW6⟩ : ∃ W, w6.alloc (.cells #[.int .i64 a, .int .i64 s, .int .i64 q] 33) = W := ⟨_, rfl⟩
      rw [hW6] at s6 E6 HWB6 hrT6 hd6 hrd6 ⊢
      obtain ⟨sx, hsx⟩ : ∃ x, w6.heap.size = x := ⟨_, rfl⟩
      rw [hsx] at s6
      try rw [hsx]
      clear hW6 hsx x0 x1 x2 u0 u1 u2 u3 g0 g1 g2 g3 hbk6
      with_reducible refine Calls.mono (iStateTo_any f b A' k c len g L1 T1 h1' v1 L2 T2 h2' v2 L3 T3 h3' v3 L4 T4 h4' v4 D m dc z (k : Int) V W6 hrT6 hrd6 hd6 hk' hl' (by omega) (by omega) (by omega) (by omega) hm' HV2) ?_
      rintro e w7 ⟨rfl, hb7⟩
      rw [HS2.out]
      have hb7' := hb7.alloc hb7.size (.cells #[.int .i64 a, .int .i64 s, .int .i64 q] 33)
      have s7 := s6.below hb7' s6.lt
      have s7' := Blk.new w7 33 #[.int .i64 a, .int .i64 s, .int .i64 q]
      have E7 := E6.below hb7' E6.lt
      have HWB7 := hid (HWB6.out.trans (hb7'.mono HWB6.out.size))
      have hrT7 := hrT6.to hb7' hb7'.size
      have hd7 := hd6.to hb7' hb7'.size
      clear hb7 hb7' E6 s6 HWB6 hrT6 hd6 hrd6 HS2 HV2
      obtain ⟨x0, x1, x2⟩ := ens_cells (Below.refl _ _) E7
      go_wp2_with fail
      obtain ⟨W7, hW7⟩ : ∃ W, w7.alloc (.cells #[.int .i64 a, .int .i64 s, .int .i64 q] 33) = W := ⟨_, rfl⟩
      rw [hW7] at s7 s7' E7 HWB7 hrT7 hd7 ⊢
      obtain ⟨sy, hsy⟩ : ∃ x, w7.heap.size = x := ⟨_, rfl⟩
      rw [hsy] at s7'
      try rw [hsy]
      clear hW7 hsy x0 x1 x2
      with_reducible refine Calls.mono (sFull_any f b A' k c len g D m dc z W7 hrT7 hd7 hk' hl' hm') ?_
      rintro e w8 ⟨rfl, hb8⟩
      rw [HFB.out]
      obtain ⟨NN, hNN⟩ : ∃ N, fullN f b k len g m z = N := ⟨_, rfl⟩
      rw [hNN]
      have s8 := s7.below hb8 s7.lt
      have s8' := s7'.below hb8 s7'.lt
      have E8 := E7.below hb8 E7.lt
      have HWB8 := hid (HWB7.out.trans (hb8.mono HWB7.out.size))
      have hrT8 := hrT7.to hb8 hb8.size
      have b1 : (V != V) = false := by simp
      have b2 : (Y != Y) = false := by simp
      clear hb8 s7 s7' E7 HWB7 hrT7 hd7 hNN HFB
      obtain ⟨x0, x1, x2⟩ := ens_cells (Below.refl _ _) E8
      go_wp2_with fail
      with_reducible refine Calls.mono (sEnsOk_any f b A' k c len g w8 hrT8 hk' hl') ?_
      rintro e w9 ⟨rfl, hb9⟩
      rw [HE.out]
      obtain ⟨c0, c1', c2'⟩ := blk_three (s8.below hb9 s8.lt)
      obtain ⟨d0, d1, d2⟩ := blk_three (s8'.below hb9 s8'.lt)
      have HWB9 := hid (HWB8.out.trans (hb9.mono HWB8.out.size))
      have he := fun wx => eqSt a s q wx
      clear hb9 s8 s8' E8 HWB8 hrT8 x0 x1 x2
      go_wp2_with fail
      go_ret
      exact ⟨rfl, HWB9.out⟩
end Go.Proofs.YtlgomifpohdniaaGreat
