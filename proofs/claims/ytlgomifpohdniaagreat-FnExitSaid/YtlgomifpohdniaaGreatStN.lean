/- The iterator over the stages: what it hands to a round. -/
import Derived.Test.YtlgomifpohdniaaGreatStM
namespace Go.Proofs.YtlgomifpohdniaaGreat
open Go.RowKit Go.Shelf Go.Deep
set_option linter.unusedVariables false
set_option linter.unusedSimpArgs false

attribute [local go_sem] Oper.semAt_some

theorem round_wide {l l' m m' : Nat} {P : Program} {f : FuncId} {tmps : Array Value} {assign body : Code} {w : World} {R : Ending → World → Prop}
    (h : RoundIn Fence.wide m P l f tmps assign body w R) : RoundIn (Fence.wide.inRound l') m' P l f tmps assign body w R := ⟨h.1, fun c cs _ => h.2 c cs (fun d hd => by cases hd)⟩
/-- Is a position one at which the evaluation may stop. -/
def stp (z2 : Nat → Int) (n2 : Nat) {N : Nat} (i : Ix N) : Bool := (i.1 == 0) || hasN z2 n2 ((i.1 : Nat) : Int)
theorem stp_snoc_no {z2 : Nat → Int} {n2 N : Nat} {x : Ix N} (l : List (Ix N)) (h : stp z2 n2 x = false) : (l ++ [x]).filter (stp z2 n2) = l.filter (stp z2 n2) := by
  rw [List.filter_append, List.filter_cons, h]
  simp
theorem stp_snoc_yes {z2 : Nat → Int} {n2 N : Nat} {x : Ix N} (l : List (Ix N)) (h : stp z2 n2 x = true) : (l ++ [x]).filter (stp z2 n2) = l.filter (stp z2 n2) ++ [x] := by
  rw [List.filter_append, List.filter_cons, h]
  simp
/-- What stands between two rounds over the states. -/
def SgI (W : World) (Pk : Nat → Prop) (l gx gy W3 : Nat) (gc : Array Value) (D : Option Addr) (p dc : Nat) {N : Nat} (z2 : Nat → Int) (n2 : Nat) (J : List (Ix N) → World → Prop) (pre : List (Ix N)) (X : World) : Prop :=
  J (pre.filter (stp z2 n2)) X ∧ W3 ≤ X.heap.size ∧ Blk X W.heap.size 114 #[.func (.yield l) #[] #[]] ∧ Blk X gx 68 gc ∧ Blk X gy 27 #[.slice D p dc] ∧ KeptP Pk W X
section
variable {W X X' : World} {Pk : Nat → Prop} {l gx gy W3 B : Nat} {gc : Array Value} {D : Option Addr} {p dc N n2 : Nat} {z2 : Nat → Int} {J : List (Ix N) → World → Prop} {pre pre' : List (Ix N)}
theorem SgI.stand (h : SgI W Pk l gx gy W3 gc D p dc z2 n2 J pre X) (hJ : Stands W.heap.size J) (hb : Below B X X') (h1 : W.heap.size < B) (h2 : gx < B) (h3 : gy < B) : SgI W Pk l gx gy W3 gc D p dc z2 n2 J pre X' :=
  ⟨hJ _ _ _ h.1 (hb.mono (by omega)), Nat.le_trans h.2.1 hb.size, h.2.2.1.below hb h1, h.2.2.2.1.below hb h2, h.2.2.2.2.1.below hb h3, Nat.le_trans h.2.2.2.2.2.1 hb.size, fun x hx hp => (hb.block x (by omega)).trans (h.2.2.2.2.2.2 x hx hp)⟩
theorem SgI.kept (h : SgI W Pk l gx gy W3 gc D p dc z2 n2 J pre X) (hk : KeptP (fun y => Pk y ∨ W.heap.size ≤ y) X X') (hj : J (pre'.filter (stp z2 n2)) X') (hx : Pk gx) (hy : Pk gy) : SgI W Pk l gx gy W3 gc D p dc z2 n2 J pre' X' :=
  ⟨hj, Nat.le_trans h.2.1 hk.1, hk.blk h.2.2.1 (.inr (Nat.le_refl _)), hk.blk h.2.2.2.1 (.inl hx), hk.blk h.2.2.2.2.1 (.inl hy), h.2.2.2.2.2.trans (hk.mono fun _ _ q => .inl q)⟩
end

set_option maxRecDepth 100000 in
set_option maxHeartbeats 8000000 in
theorem stages1_seq (m : Nat) (hm : 2 ≤ m) (f b : Int) (Ar : Option Addr) (cr : Nat) (Aw : Option Addr) (cw n : Nat) (len : Nat → Nat) (g : Nat → Nat → Nd) (A1 : Option Addr) (n1 c1 : Nat) (o : Nat → Nat) (A2 : Option Addr) (n2 c2 : Nat) (z2 : Nat → Int) (A3 : Option Addr) (n3 c3 : Nat) (A4 : Option Addr) (n4 c4 : Nat) (D : Option Addr) (p dc : Nat) (z : Nat → Int) (gx gy B : Nat) (Pk : Nat → Prop) (w : World)
    (hx : Blk w gx 68 (sgC f b Ar n cr Aw (cumT len n) cw A1 n1 c1 A2 n2 c2 A3 n3 c3 A4 n4 c4)) (hy : Blk w gy 27 #[.slice D p dc]) (px : Pk gx) (py : Pk gy) (hB : ∀ b, b < B → Pk b) (hBw : B ≤ w.heap.size)
    (hR : Rd w B Ar n (rootZ len)) (hw : RdW w B Aw (cumT len n) (wordZ len g n)) (h1 : Rd w B A1 n1 fun i => (o i : Nat)) (h2 : Rd w B A2 n2 z2) (hd : Rd w B D p z) (hn : n ≤ 12) (hp : p ≤ 6) (ho : Hid (∀ i, i < n1 → o i < n)) (ht : Hid (∀ i, i < n → treeB (g i) (len i) p = true)) (hlen : Hid (∀ i, i < n → 1 ≤ len i ∧ len i ≤ 15)) (hn1 : n1 ≤ 12) (hn2 : n2 ≤ 4194304) :
    SeqS Fence.wide m Tryz.prog 116 #[.pointer (some ⟨gx, 0, none⟩), .pointer (some ⟨gy, 0, none⟩)] (fun i : Ix (n1 + 1) => #[stV (i.1 : Nat) (sumT (scO g o z) i.1) (sumT (csF g o z) i.1)]) Pk (fun xs => xs = (ups (n1 + 1) (n1 + 1)).filter (stp z2 n2)) (fun pre => ∃ k, k ≤ n1 + 1 ∧ pre = (ups (n1 + 1) k).filter (stp z2 n2)) (n1 + 1) w := by
  intro l J Jx W hW hJ hJx hY h0
  have HJ := hid hJ
  have HJX := hid hJx
  have HY := hid hY
  have HPB := hid hB
  have hws := hW.size
  have hb0 := (Below.refl W.heap.size W).alloc (Nat.le_refl _) (.cells #[.func (.yield l) #[] #[]] 114)
  have hx0 := (hx.below hW hx.lt).alloc (.cells #[.func (.yield l) #[] #[]] 114)
  have hy0 := (hy.below hW hy.lt).alloc (.cells #[.func (.yield l) #[] #[]] 114)
  have hyl0 := Blk.new W 114 #[.func (.yield l) #[] #[]]
  have hj0 := hJ _ _ _ h0 hb0
  have hsz0 : (W.alloc (.cells #[.func (.yield l) #[] #[]] 114)).heap.size = W.heap.size + 1 := by simp
  have hgx : gx < W.heap.size := Nat.lt_of_lt_of_le hx.lt hws
  have hgy : gy < W.heap.size := Nat.lt_of_lt_of_le hy.lt hws
  have hwB : Below w.heap.size w (W.alloc (.cells #[.func (.yield l) #[] #[]] 114)) := hW.trans (hb0.mono hws)
  clear h0 hJ hJx hY hB hx hy
  obtain ⟨⟨g0, g1, g2, g3, g4, g5, g6, g7⟩, _⟩ := blk_cells8 hx0
  have d0 := hy0.cell 0
  refine callsIn_of_wp_marks Tryz.func116 rfl trivial ?_ rfl
  simp only [Tryz.ntmps116, List.size_toArray, List.length_cons, List.length_nil, Nat.reduceAdd, Nat.reduceSub, Array.replicate_succ, Array.replicate_zero, List.push_toArray, List.append_toArray, List.nil_append, List.cons_append]
  gi_wp2_with fail
  obtain ⟨W0, hW0⟩ : ∃ X, W.alloc (.cells #[.func (.yield l) #[] #[]] 114) = X := ⟨_, rfl⟩
  rw [hW0] at hb0 hx0 hy0 hyl0 hj0 hsz0 hwB g0 g1 g2 g3 g4 g5 g6 g7 d0 ⊢
  clear hW0
  refine ⟨trivial, fun _ => by omega, ?_⟩
  refine (callsIn_wide.2 (states_any f b Ar n cr Aw (cumT len n) cw A1 n1 c1 A2 n2 c2 A3 n3 c3 A4 n4 c4 D p dc W0)).mono ?_
  rintro e w3 ⟨lb, rfl, ⟨bx, by_, rfl, hxl, hyl, hxy, hbx, hby⟩, hb3⟩
  have hs3 := hb3.size
  have hw3 : Below w.heap.size w w3 := hwB.trans (hb3.mono hwB.size)
  have hI3 : SgI W Pk l gx gy w3.heap.size (sgC f b Ar n cr Aw (cumT len n) cw A1 n1 c1 A2 n2 c2 A3 n3 c3 A4 n4 c4) D p dc z2 n2 J [] w3 :=
    ⟨HJ.out _ _ _ hj0 (hb3.mono (by omega)), Nat.le_refl _, hyl0.below hb3 (by omega), hx0.below hb3 (by omega), hy0.below hb3 (by omega), by have := hb0.size; omega, fun x hx hp => (hb3.block x (by omega)).trans (hb0.block x hx)⟩
  have oR3 := hR.below (hw3.mono hBw)
  have oW3 : RdW w3 B Aw (cumT len n) (wordZ len g n) := fun h0 => by
    obtain ⟨b, off, e, hb, hc⟩ := hw h0
    exact ⟨b, off, e, hb, fun i hi => (hw3.cell (p := ⟨b, off + i, none⟩) (by show b < _; omega)).trans (hc i hi)⟩
  have h13 := h1.below (hw3.mono hBw)
  have hd3 := hd.below (hw3.mono hBw)
  have h2W := h2.below (hW.mono hBw)
  clear hb0 hx0 hy0 hyl0 hj0 hwB hw3 hb3 hR hw h1 h2 hd hW g0 g1 g2 g3 g4 g5 g6 g7 d0
  gi_wp2_with fail
  refine wpIn_rangeS (F := Fence.wide) rfl (by omega) (gf := 74) (lb := #[.pointer (some ⟨bx, 0, none⟩), .pointer (some ⟨by_, 0, none⟩)]) rfl trivial (enters_of Tryz.func74 (by kernel_rfl) rfl)
    (states1_seq (m - 1) (by omega) f b Ar cr Aw cw n len g A1 n1 c1 o A2 n2 c2 A3 n3 c3 A4 n4 c4 D p dc z bx by_ B (fun b => (Pk b ∨ W.heap.size ≤ b) ∧ b < w3.heap.size) w3 hbx hby ⟨.inr (by omega), hbx.lt⟩ ⟨.inr (by omega), hby.lt⟩ (fun b hb => ⟨.inl (HPB.out b hb), by omega⟩) (by omega) oR3 oW3 h13 hd3 hn hp ho ht hlen hn1) (fun _ h => h.2) (fun _ => rfl)
    (fun pre X => SgI W Pk l gx gy w3.heap.size (sgC f b Ar n cr Aw (cumT len n) cw A1 n1 c1 A2 n2 c2 A3 n3 c3 A4 n4 c4) D p dc z2 n2 J pre X)
    (fun cd pre X => cd = .ret ∧ Jx (pre.filter (stp z2 n2)) X)
    (fun s X X' h hb => h.stand HJ.out hb (by omega) (by omega) (by omega))
    (fun cd s X X' h hb => ⟨h.1, HJX.out _ _ _ h.2 (hb.mono (by omega))⟩)
    hI3
    (fun x a' X => ∃ Bx, w3.heap.size ≤ Bx ∧ Blk X Bx 33 #[.int .i64 (x.1 : Nat), .int .i64 (sumT (scO g o z) x.1), .int .i64 (sumT (csF g o z) x.1)] ∧ a' = { tmps := #[.func (.yield l) #[] #[], .pointer (some ⟨gx, 0, none⟩), .pointer (some ⟨gy, 0, none⟩), .pointer (some ⟨W.heap.size, 0, none⟩), .pointer (some ⟨Bx, 0, none⟩), undef, .agg (sgC f b Ar n cr Aw (cumT len n) cw A1 n1 c1 A2 n2 c2 A3 n3 c3 A4 n4 c4), .slice D p dc, .func (.func 74) #[] #[.pointer (some ⟨bx, 0, none⟩), .pointer (some ⟨by_, 0, none⟩)], .agg #[.int .i64 (x.1 : Nat), .int .i64 (sumT (scO g o z) x.1), .int .i64 (sumT (csF g o z) x.1)], undef, undef, undef, undef, undef, undef, undef, undef, undef, undef, undef, undef, undef, undef, undef, undef, undef, undef], defers := [] })
    (fun x a' _ X X' row hs hg hr => by obtain ⟨Bx, q1, q2, q3⟩ := hs; exact ⟨Bx, q1, blk_own q2 hg hr, q3⟩) ?assign ?body ?done ?stop
  case assign =>
    rintro l' pre x X K hi hK
    gi_wp2_with fail
    exact hK _ _ ((KeepsOthers.alloc _ _).from _) (KeptP.of_below ((Below.refl _ X).alloc (Nat.le_refl _) _)) (hi.stand HJ.out ((Below.refl _ X).alloc (Nat.le_refl _) _) (by have := hi.2.1; omega) (by have := hi.2.1; omega) (by have := hi.2.1; omega)) ⟨X.heap.size, hi.2.1, Blk.new X _ _, rfl⟩
  case body =>
    rintro l' pre x a' X hl hr hi ⟨Bx, hBx, bX, rfl⟩ hlt
    obtain ⟨b0, b1, b2⟩ := blk_three bX
    obtain ⟨⟨g0, g1, g2, g3, g4, g5, g6, g7⟩, _⟩ := blk_cells8 hi.2.2.2.1
    have hy0 := hi.2.2.1.cell 0
    have h2X : Rd X X.heap.size A2 n2 z2 := hi.2.2.2.2.2.rd h2W HPB.out (by omega)
    have hlf : (pre.filter (stp z2 n2)).length < n1 + 1 := Nat.lt_of_le_of_lt (List.length_filter_le _ _) hlt
    have hY1 : stp z2 n2 x = true → YieldAt Fence.wide (m - 1) Tryz.prog l #[stV (x.1 : Nat) (sumT (scO g o z) x.1) (sumT (csF g o z) x.1)] X fun e X' =>
        (e = .returned (.bool true) ∧ Hid (KeepsFrom w3.heap.size X X' ∧ KeptP (fun y => ((Pk y ∨ W.heap.size ≤ y) ∧ y < w3.heap.size) ∨ w3.heap.size + 2 ≤ y) X X' ∧ SgI W Pk l gx gy w3.heap.size (sgC f b Ar n cr Aw (cumT len n) cw A1 n1 c1 A2 n2 c2 A3 n3 c3 A4 n4 c4) D p dc z2 n2 J (pre ++ [x]) X')) ∨
        (e = .returned (.bool false) ∧ Hid (KeepsFrom w3.heap.size X X' ∧ Jx ((pre ++ [x]).filter (stp z2 n2)) X')) := fun hs => by
      refine YieldAt.mono (HY.out _ x X hi.1 hlf) fun e X' h => ?_
      rw [← stp_snoc_yes _ hs] at h
      rcases h with ⟨he, hj, hk⟩ | ⟨he, hj, hk⟩
      · exact .inl ⟨he, hk.keeps (fun y hy => .inr (by omega)), hk.mono (fun y _ q => by
          rcases q with q | q
          · exact q.1
          · exact .inr (by omega)), hi.kept hk hj px py⟩
      · exact .inr ⟨he, keepsFrom_more hk (by omega), hj⟩
    obtain ⟨Sx, hSx⟩ : ∃ s, sumT (scO g o z) x.1 = s := ⟨_, rfl⟩
    obtain ⟨Qx, hQx⟩ : ∃ s, sumT (csF g o z) x.1 = s := ⟨_, rfl⟩
    rw [hSx, hQx] at hY1
    rw [hSx] at b1
    rw [hQx] at b2
    rw [hSx, hQx]
    clear hSx hQx
    have HI := hid hi
    have HY1 := hid hY1
    have HR0 := hid hr
    clear hi hY1 hr hlf bX
    have noStop : stp z2 n2 x = false → KeepsFrom w3.heap.size X X ∧ KeptP (fun y => ((Pk y ∨ W.heap.size ≤ y) ∧ y < w3.heap.size) ∨ w3.heap.size + 2 ≤ y) X X ∧ SgI W Pk l gx gy w3.heap.size (sgC f b Ar n cr Aw (cumT len n) cw A1 n1 c1 A2 n2 c2 A3 n3 c3 A4 n4 c4) D p dc z2 n2 J (pre ++ [x]) X := fun hs => by
      refine ⟨KeepsFrom.refl _ _, KeptP.refl _ _, ?_⟩
      have h := HI.out
      exact ⟨by rw [stp_snoc_no _ hs]; exact h.1, h.2⟩
    have HNS := hid noStop
    clear noStop
    by_cases e0 : x.1 = 0
    · have hs : stp z2 n2 x = true := by unfold stp; rw [e0]; rfl
      have d1 : (((x.1 : Nat) : Int) == 0) = true := by rw [e0]; rfl
      obtain ⟨fn, tmps, assign, body, hy, hRd⟩ := HY1.out hs
      clear HNS HY1 hs e0
      gi_wp2_with fail
      refine ⟨trivial, ?_⟩
      gi_wp2_with fail
      refine ⟨fun h => (by cases h), ?_⟩
      refine (round_wide hRd).mono ?_
      clear hRd hy
      rintro e X1 (⟨rfl, HZ⟩ | ⟨rfl, HZ⟩)
      · gi_wp2_with fail
        exact HZ.out
      · gi_wp2_with fail
        exact ⟨HZ.out.1, rfl, HZ.out.2⟩
    · have d1 : (((x.1 : Nat) : Int) == 0) = false := by
        have : ¬ ((x.1 : Nat) : Int) = 0 := by omega
        simpa using this
      obtain ⟨H, hH⟩ : ∃ H, hasN z2 n2 ((x.1 : Nat) : Int) = H := ⟨_, rfl⟩
      have hst : stp z2 n2 x = H := by
        unfold stp
        rw [hH]
        have : (x.1 == 0) = false := by simpa using e0
        rw [this, Bool.false_or]
      have HH := hid hH
      clear hH e0
      cases H with
      | true =>
        obtain ⟨fn, tmps, assign, body, hy, hRd⟩ := HY1.out hst
        clear HNS HY1 hst
        gi_wp2_with fail
        refine ⟨trivial, fun h => (by cases h), ?_⟩
        refine (CallsIn.inRound l' (callsIn_wide.2 (contains_any A2 n2 c2 X.heap.size z2 _ true X h2X hn2 HH))).mono ?_
        rintro e X1 ⟨rfl, rfl⟩
        gi_wp2_with fail
        refine ⟨fun h => (by cases h), ?_⟩
        refine (round_wide hRd).mono ?_
        clear hRd hy
        rintro e X1 (⟨rfl, HZ⟩ | ⟨rfl, HZ⟩)
        · gi_wp2_with fail
          exact HZ.out
        · gi_wp2_with fail
          exact ⟨HZ.out.1, rfl, HZ.out.2⟩
      | false =>
        have HN := hid (HNS.out hst)
        clear HNS HY1 hst
        gi_wp2_with fail
        refine ⟨trivial, fun h => (by cases h), ?_⟩
        refine (CallsIn.inRound l' (callsIn_wide.2 (contains_any A2 n2 c2 X.heap.size z2 _ false X h2X hn2 HH))).mono ?_
        rintro e X1 ⟨rfl, rfl⟩
        gi_wp2_with fail
        refine ⟨fun _ h => (by cases h), ?_⟩
        gi_wp2_with fail
        exact HN.out
  case done =>
    rintro D' xs X hD rfl hi hK
    have hb := below_put X D' _ (.deferred none) (Nat.le_trans (by omega : W.heap.size ≤ w3.heap.size) hD) hK
    gi_wp2_with fail
    refine ⟨by simp, .inl ⟨_, _, rfl, run_takeDeferred hK, ?_⟩⟩
    exact ⟨_, results_none rfl _ _ _, ⟨_, rfl⟩, .inl ⟨_, rfl, HJ.out _ _ _ hi.1 hb⟩⟩
  case stop =>
    rintro D' cd pre X hD ⟨k, hk, rfl⟩ ⟨rfl, hx⟩ hK
    have hb := below_put X D' _ (.deferred none) (Nat.le_trans (by omega : W.heap.size ≤ w3.heap.size) hD) hK
    gi_wp2_with fail
    refine ⟨by simp, .inl ⟨_, _, rfl, run_takeDeferred hK, ?_⟩⟩
    exact ⟨_, results_none rfl _ _ _, ⟨_, rfl⟩, .inr ⟨_, ⟨k, hk, rfl⟩, HJX.out _ _ _ hx hb⟩⟩
end Go.Proofs.YtlgomifpohdniaaGreat
