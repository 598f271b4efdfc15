/- The walk of the law of turned trees: an ensemble with its trees in the other order. -/
import Derived.Test.YtnhbgagdppbldaaEnsDrawH
import Derived.Test.YtnhbgagdppbldaaEnsF
import Derived.Test.YtnhbgagdppbldaaEnsD
namespace Go.Proofs.Ytnhbgagdppbldaa
open Go.RowKit Go.Deep

theorem sumT_ext {p q : Nat → Int} : ∀ {n : Nat}, (∀ i, i < n → p i = q i) → sumT p n = sumT q n := by
  intro n
  induction n with
  | zero => intro _; rfl
  | succ n ih =>
    intro h
    simp only [sumT]
    rw [ih fun i hi => h i (by omega), h n (by omega)]
theorem sumT_front (p : Nat → Int) : ∀ n, sumT p (n + 1) = p 0 + sumT (fun i => p (i + 1)) n := by
  intro n
  induction n with
  | zero => simp [sumT]
  | succ n ih =>
    rw [sumT, ih]
    simp only [sumT]
    omega
theorem sumT_turn (p : Nat → Int) : ∀ n, sumT (fun i => p (n - 1 - i)) n = sumT p n := by
  intro n
  induction n with
  | zero => rfl
  | succ n ih =>
    rw [sumT_front]
    show p (n + 1 - 1 - 0) + sumT (fun i => p (n + 1 - 1 - (i + 1))) n = sumT p n + p n
    have e : sumT (fun i => p (n + 1 - 1 - (i + 1))) n = sumT (fun i => p (n - 1 - i)) n := sumT_ext fun i _ => by
      show p (n + 1 - 1 - (i + 1)) = p (n - 1 - i)
      congr 1
      omega
    rw [e, ih]
    simp
    omega
theorem ensB_turn (f b : Int) (n : Nat) (len : Nat → Nat) (g : Nat → Nat → Nd) : ensB f b n (fun i => len (n - 1 - i)) (fun i => g (n - 1 - i)) = ensB f b n len g := by
  have h : ensB f b n (fun i => len (n - 1 - i)) (fun i => g (n - 1 - i)) = true ↔ ensB f b n len g = true := by
    rw [ensB_iff, ensB_iff]
    refine and_congr Iff.rfl (and_congr Iff.rfl (and_congr Iff.rfl ⟨fun h i hi => ?_, fun h i hi => h (n - 1 - i) (by omega)⟩))
    have := h (n - 1 - i) (by omega)
    have e : n - 1 - (n - 1 - i) = i := by omega
    simp only [e] at this
    exact this
  cases h1 : ensB f b n len g with
  | false =>
    cases h2 : ensB f b n (fun i => len (n - 1 - i)) (fun i => g (n - 1 - i)) with
    | false => rfl
    | true => rw [h1] at h; exact absurd (h.1 h2) (by simp)
  | true => exact h.2 h1
theorem full_turn (f b : Int) (n : Nat) (len : Nat → Nat) (g : Nat → Nat → Nd) (p : Nat) (z : Nat → Int) :
    fullN f b n (fun i => len (n - 1 - i)) (fun i => g (n - 1 - i)) p z = fullN f b n len g p z ∧ fullB f b n (fun i => len (n - 1 - i)) (fun i => g (n - 1 - i)) p z = fullB f b n len g p z := by
  unfold fullN fullB
  rw [ensB_turn]
  have e : sumT (scF (fun i => g (n - 1 - i)) z) n = sumT (scF g z) n := sumT_turn (scF g z) n
  rw [e]
  exact ⟨rfl, rfl⟩
theorem span_turn (f b : Int) (n : Nat) (len : Nat → Nat) (g : Nat → Nat → Nd) :
    spanLo f b n (fun i => len (n - 1 - i)) (fun i => g (n - 1 - i)) = spanLo f b n len g ∧ spanHi f b n (fun i => len (n - 1 - i)) (fun i => g (n - 1 - i)) = spanHi f b n len g := by
  unfold spanLo spanHi
  rw [ensB_turn]
  have e : sumT (loF (fun i => len (n - 1 - i)) (fun i => g (n - 1 - i))) n = sumT (loF len g) n := sumT_turn (loF len g) n
  have e' : sumT (hiF (fun i => len (n - 1 - i)) (fun i => g (n - 1 - i))) n = sumT (hiF len g) n := sumT_turn (hiF len g) n
  rw [e, e']
  exact ⟨rfl, rfl⟩

/-- The headers of what reads as a list of lists. -/
theorem RdT.hdrs {w : World} {B n : Nat} {A : Option Addr} {len : Nat → Nat} {g : Nat → Nat → Nd} (h : RdT w B A n len g) :
    ∃ (As : Nat → Option Addr) (cs : Nat → Nat), (0 < n → ∃ b off, A = some ⟨b, off, none⟩ ∧ b < B ∧ ∀ i, i < n → w.cell? ⟨b, off + i, none⟩ = some (.slice (As i) (len i) (cs i))) ∧ ∀ i, i < n → RdN w B (As i) (len i) (g i) := by
  by_cases hn : 0 < n
  · obtain ⟨b, off, e, hb, hc⟩ := h hn
    have hq : ∀ i, ∃ p : Option Addr × Nat, i < n → (w.cell? ⟨b, off + i, none⟩ = some (.slice p.1 (len i) p.2) ∧ RdN w B p.1 (len i) (g i)) := fun i => by
      by_cases hi : i < n
      · obtain ⟨Ai, ci, h1, h2⟩ := hc i hi
        exact ⟨(Ai, ci), fun _ => ⟨h1, h2⟩⟩
      · exact ⟨(none, 0), fun h => absurd h hi⟩
    obtain ⟨F, hF⟩ := Classical.axiomOfChoice hq
    exact ⟨fun i => (F i).1, fun i => (F i).2, fun _ => ⟨b, off, e, hb, fun i hi => (hF i hi).1⟩, fun i hi => (hF i hi).2⟩
  · exact ⟨fun _ => none, fun _ => 0, fun h => absurd h hn, fun i hi => by omega⟩
theorem rdT_own {w : World} {B B' n c : Nat} {A : Option Addr} {xs : List Value} {As : Nat → Option Addr} {cs len : Nat → Nat} {g : Nat → Nat → Nd} (h : w.ownsRow B 24 1 (.slice A n c) n xs)
    (hx : ∀ i, i < n → xs[i]? = some (.slice (As i) (len i) (cs i))) (hr : ∀ i, i < n → RdN w B' (As i) (len i) (g i)) (hB : B' ≤ w.heap.size) : RdT w w.heap.size A n len g := fun hn => by
  rcases h.2 with ⟨_, h0⟩ | ⟨gg, cap, cur, hv, _, hg, _, _, _, ht⟩
  · omega
  · injection hv with hA _ _
    refine ⟨gg, 0, hA, Blk.lt hg, fun i hi => ⟨As i, cs i, ?_, (hr i hi).more hB⟩⟩
    have h1 : (cur.toList.take (n * 1))[i]? = xs[i]? := by rw [ht]
    rw [List.getElem?_take, if_pos (by omega), Array.getElem?_toList, hx i hi] at h1
    have h2 : w.cell? ⟨gg, i, none⟩ = cur[i]? := Blk.cell hg i
    rw [Nat.zero_add, h2, h1]
/-- The headers from behind. -/
def trn (k : Nat) (As : Nat → Option Addr) (len cs : Nat → Nat) (j : Nat) : List Value := (List.range j).map fun i => .slice (As (k - 1 - i)) (len (k - 1 - i)) (cs (k - 1 - i))
theorem trn_snoc (k : Nat) (As : Nat → Option Addr) (len cs : Nat → Nat) (j : Nat) : trn k As len cs (j + 1) = trn k As len cs j ++ [.slice (As (k - 1 - j)) (len (k - 1 - j)) (cs (k - 1 - j))] := by
  unfold trn
  rw [List.range_succ, List.map_append]
  rfl
theorem trn_at {k : Nat} {As : Nat → Option Addr} {len cs : Nat → Nat} {j i : Nat} (hi : i < j) : (trn k As len cs j)[i]? = some (.slice (As (k - 1 - i)) (len (k - 1 - i)) (cs (k - 1 - i))) := by
  unfold trn
  rw [List.getElem?_map, List.getElem?_range hi]
  rfl

set_option maxRecDepth 100000 in
set_option maxHeartbeats 4000000 in
theorem lawTurned (A : Option Addr) (n cap : Nat) (w : World) (h : Bs w w.heap.size A n) :
    Calls Try.prog 10 #[.slice A n cap] w fun e w' => e = .returned (.bool true) ∧ Below w.heap.size w w' := by
  obtain ⟨i0, hi0, hz0, hz1, hz2⟩ := info_parts info_nodes
  by_cases hbig : (1048576 : Int) < (n : Int)
  · go_enter Try.func10, Try.ntmps10
    go_wp2_with fail
    refine (big_yes A n cap _ hbig).mono ?_
    rintro e w1 ⟨rfl, rfl⟩
    go_wp2_with fail
    go_ret
    exact ⟨rfl, Below.refl _ _⟩
  · have hn : n ≤ 4194304 := by omega
    go_enter Try.func10, Try.ntmps10
    go_wp2_with fail
    refine (big_no A n cap _ (by omega)).mono ?_
    rintro e w0 ⟨rfl, rfl⟩
    go_wp2_with fail
    refine (drawFull A n cap _ h hn).mono ?_
    rintro e w1 ⟨f, b, k, A', c, len, g, m, z, D, dc, hk, hl, hm, rfl, hr1, hd1, hb1⟩
    have hl' : Hid (∀ i, i < k → len i ≤ 4194304) := fun i hi => by have := hl i hi; omega
    have hk' : k ≤ 4194304 := by omega
    have hm' : m ≤ 4194304 := by omega
    have hbx := (Below.refl w1.heap.size w1).alloc (Nat.le_refl _) (.cells #[.int .i64 f, .int .i64 b, .slice A' k c] 54)
    have hE2 := Blk.new w1 54 #[.int .i64 f, .int .i64 b, .slice A' k c]
    have hr2 := hr1.to hbx hbx.size
    have hd2 := hd1.to hbx hbx.size
    have hw2 := hb1.trans (hbx.mono hb1.size)
    clear hl hbx hr1 hd1 hb1
    have c0 : (w1.alloc (.cells #[.int .i64 f, .int .i64 b, .slice A' k c] 54)).cell? ⟨w1.heap.size, 0, none⟩ = some (.int .i64 f) := hE2.cell 0
    have c1 : (w1.alloc (.cells #[.int .i64 f, .int .i64 b, .slice A' k c] 54)).cell? ⟨w1.heap.size, 1, none⟩ = some (.int .i64 b) := hE2.cell 1
    have c2 : (w1.alloc (.cells #[.int .i64 f, .int .i64 b, .slice A' k c] 54)).cell? ⟨w1.heap.size, 2, none⟩ = some (.slice A' k c) := hE2.cell 2
    go_wp2_with fail
    refine (iFull_any f b A' k c len g D m dc z _ hr2 hd2 hk' hl' hm').mono ?_
    rintro e v1 ⟨rfl, hbv1⟩
    have hE2_1 := hE2.below hbv1 hE2.lt
    have hr_1 := hr2.to hbv1 hbv1.size
    have hd_1 := hd2.to hbv1 hbv1.size
    have hw_1 := hw2.trans (hbv1.mono hw2.size)
    clear hE2 hr2 hd2 hw2 hbv1
    clear c0 c1 c2
    have c0 : v1.cell? ⟨w1.heap.size, 0, none⟩ = some (.int .i64 f) := hE2_1.cell 0
    have c1 : v1.cell? ⟨w1.heap.size, 1, none⟩ = some (.int .i64 b) := hE2_1.cell 1
    have c2 : v1.cell? ⟨w1.heap.size, 2, none⟩ = some (.slice A' k c) := hE2_1.cell 2
    go_wp2_with fail
    refine (sFull_any f b A' k c len g D m dc z _ hr_1 hd_1 hk' hl' hm').mono ?_
    rintro e v2 ⟨rfl, hbv2⟩
    have hE2_2 := hE2_1.below hbv2 hE2_1.lt
    have hr_2 := hr_1.to hbv2 hbv2.size
    have hd_2 := hd_1.to hbv2 hbv2.size
    have hw_2 := hw_1.trans (hbv2.mono hw_1.size)
    clear hE2_1 hr_1 hd_1 hw_1 hbv2
    clear c0 c1 c2
    have c0 : v2.cell? ⟨w1.heap.size, 0, none⟩ = some (.int .i64 f) := hE2_2.cell 0
    have c1 : v2.cell? ⟨w1.heap.size, 1, none⟩ = some (.int .i64 b) := hE2_2.cell 1
    have c2 : v2.cell? ⟨w1.heap.size, 2, none⟩ = some (.slice A' k c) := hE2_2.cell 2
    obtain ⟨FN, hFN⟩ : ∃ x, fullN f b k len g m z = x := ⟨_, rfl⟩
    obtain ⟨FB, hFB⟩ : ∃ x, fullB f b k len g m z = x := ⟨_, rfl⟩
    rw [hFN, hFB]
    have HFN := hid hFN
    have HFB := hid hFB
    clear hFN hFB
    have hbF := (Below.refl v2.heap.size v2).alloc (Nat.le_refl _) (.cells #[.int .i64 f, .int .i64 b, .slice none 0 0] 54)
    have hF := Blk.new v2 54 #[.int .i64 f, .int .i64 b, .slice none 0 0]
    have hEF := hE2_2.below hbF hE2_2.lt
    have HWS := hid hw_2.size
    have helt := hE2_2.lt
    have hrF := hr_2.below hbF
    have hdF := hd_2.below hbF
    have hwF := hw_2.trans (hbF.mono hw_2.size)
    obtain ⟨As, cs, hhd, hrs⟩ := hrF.hdrs
    have HH := hid hhd
    have HR := hid hrs
    have HRF := hid hrF
    have HDF := hid hdF
    have HEF := hid hEF
    have HWF := hid hwF
    clear hhd hrs hrF hdF hEF hwF hbF hr_2 hd_2 hw_2 hE2_2
    have kb : (k : Int) ≤ 12 := by omega
    go_wp2_with fail
    generalize hW0 : (v2.alloc (.cells #[.int .i64 f, .int .i64 b, .slice none 0 0] 54)) = W0 at *
    have hs0 : v2.heap.size < W0.heap.size := hF.lt
    have HSZ := hid (show w.heap.size ≤ v2.heap.size from HWS.out)
    generalize hgf : v2.heap.size = gf at *
    clear hgf hW0
    go_loopw [10] (fun i wr => ∃ (j : Nat) (Af : Option Addr) (cf : Nat), j ≤ k ∧ i = .int .i64 ((k : Int) - 1 - j) ∧ Blk wr gf 54 #[.int .i64 f, .int .i64 b, .slice Af j cf] ∧ wr.ownsRow (gf + 1) 24 1 (.slice Af j cf) j (trn k As len cs j) ∧ Hid (Below gf W0 wr)) (fun i _ => (intOf i + 1).toNat)
    case atStart => exact ⟨0, none, 0, Nat.zero_le _, by simp, hF, ⟨rfl, .inl ⟨rfl, rfl⟩⟩, Below.refl _ _⟩
    case round =>
      obtain ⟨j, Af, cf, hj, rfl, hG, hown, hbl⟩ := hrel
      try clear c0 c1 c2
      have hE : Blk wr w1.heap.size 54 #[.int .i64 f, .int .i64 b, .slice A' k c] := HEF.out.below hbl.out helt
      have c2 : wr.cell? ⟨w1.heap.size, 2, none⟩ = some (.slice A' k c) := hE.cell 2
      have d2 : wr.cell? ⟨gf, 2, none⟩ = some (.slice Af j cf) := hG.cell 2
      have f2 : wr.frozen? ⟨gf, 2, none⟩ = false := hG.frozen 2
      by_cases hlt : j < k
      · obtain ⟨tb, off, rfl, htb, hcs⟩ := HH.out (by omega)
        obtain ⟨p, hp⟩ : ∃ p : Nat, p = k - 1 - j := ⟨_, rfl⟩
        have hp' : (k : Int) - 1 - j = p := by omega
        have hcell : wr.cell? ⟨tb, off + p, none⟩ = some (.slice (As p) (len p) (cs p)) := (hbl.out.cell (p := ⟨tb, off + p, none⟩) htb).trans (hcs p (by omega))
        have i1 : (p : Int) < (k : Int) := by omega
        have i2 : (0 : Int) ≤ (p : Int) := by omega
        have hTS := hid (trn_snoc k As len cs j)
        rw [← hp] at hTS
        rw [hp']
        have hjb : (j : Int) ≤ 11 := by omega
        have hglt : gf < wr.heap.size := hG.lt
        have hownd : wr.drew.ownsRow (gf + 1) 24 1 (.slice Af j cf) j (trn k As len cs j) := hown
        have HP' := hid hp'
        clear hcs hp hp' hown hE
        go_wp2_with fail
        go_region_law
          (refine step_append_lies _ (by rfl) _ _ _ (by rfl) (gf + 1) 24 i0 _ 1 24 Try.underlying52 hi0 hz0 hz1 hz2 rfl (by omega) (.slice Af j cf) j (trn k As len cs j) (by rfl) (hownd.alloc _) ⟨wr.heap.size, 0, none⟩ 1 1 [.slice (As p) (len p) (cs p)] (by rfl) (by rfl) (World.news_of_block (cs := #[.slice (As p) (len p) (cs p)]) (t := 24) (fr := (0, 0)) (heap_alloc_new wr.drew _)) (by simp [Value.oneCell']) (by omega) (by unfold maxLen; omega) (by omega) (by simp; omega) (wr.heap.size + 1) (by simp) ?_; intro gg cp5 w5 hown5 hgrow hat hlt5; have hG5 : Blk w5 gf 54 #[.int .i64 f, .int .i64 b, .slice Af j cf] := (hgrow.block gf (by simp; omega) (by intro e; have := own_block_lt hownd gf e.symm; omega)).trans (Blk.alloc (w := wr.drew) hG _); have cG5 : w5.cell? ⟨gf, 2, none⟩ = some (.slice Af j cf) := hG5.cell 2; have fG5 : w5.frozen? ⟨gf, 2, none⟩ = false := hG5.frozen 2)
        all_goals
          have hbn : Below gf W0 (w5.setCell ⟨gf, 2, none⟩ (.slice (some ⟨gg, 0, none⟩) (j + 1) cp5)) := ((hbl.out.drew.alloc (Nat.le_of_lt hglt) _).grown hgrow (by have := hbl.out.size; simp; omega) (fun x hx => by have := (own_block_lt hownd x hx).1; omega)).setCell (Nat.le_refl _) _
          have HBN := hid hbn
          clear hbn
          go_wp2_with fail
          go_roundw
          case rel => exact ⟨j + 1, some ⟨gg, 0, none⟩, cp5, by omega, (by have := HP'.out; congr 1; omega), hG5.set_ 2 _, (by rw [hTS.out]; exact own_keep hown5 fun x hx _ _ => Below.heap_setCell _ _ _ x (by show x ≠ gf; omega)), HBN⟩
          case measure => simp [intOf]
      · obtain rfl : j = k := by omega
        have hm1 : (j : Int) - 1 - (j : Nat) = -1 := by omega
        rw [hm1]
        have hrT : RdT wr wr.heap.size Af j (fun i => len (j - 1 - i)) (fun i => g (j - 1 - i)) := rdT_own (B' := gf) hown (fun i hi => trn_at hi) (fun i hi => (HR.out (j - 1 - i) (by omega)).below hbl.out) (Nat.le_of_lt hG.lt)
        have hrE := (HRF.out.below hbl.out).more (Nat.le_of_lt hG.lt)
        have hdE := (HDF.out.below hbl.out).more (Nat.le_of_lt hG.lt)
        have hwE := HWF.out.trans (hbl.out.mono (HSZ.out))
        have hlT : Hid (∀ i, i < j → (fun i => len (j - 1 - i)) i ≤ 4194304) := fun i hi => hl'.out (j - 1 - i) (by omega)
        clear hown hbl c2 d2 f2
        have d0 : wr.cell? ⟨gf, 0, none⟩ = some (.int .i64 f) := hG.cell 0
        have d1 : wr.cell? ⟨gf, 1, none⟩ = some (.int .i64 b) := hG.cell 1
        have d2 : wr.cell? ⟨gf, 2, none⟩ = some (.slice Af j cf) := hG.cell 2
        go_wp2_with fail
        refine (iFull_any f b Af j cf _ _ D m dc z _ hrT hdE hk' hlT hm').mono ?_
        rintro e v3 ⟨rfl, hbv3⟩
        have hE_3 := hE.below hbv3 hE.lt
        have hG_3 := hG.below hbv3 hG.lt
        have hrx_3 := hrE.to hbv3 hbv3.size
        have hdx_3 := hdE.to hbv3 hbv3.size
        have hrTx_3 := hrT.to hbv3 hbv3.size
        have hw_3 := hwE.trans (hbv3.mono hwE.size)
        clear hE hG hrE hdE hrT hwE hbv3
        rw [(full_turn f b j len g m z).1, (full_turn f b j len g m z).2, HFN.out, HFB.out]
        clear d0 d1 d2
        have c0 : v3.cell? ⟨w1.heap.size, 0, none⟩ = some (.int .i64 f) := hE_3.cell 0
        have c1 : v3.cell? ⟨w1.heap.size, 1, none⟩ = some (.int .i64 b) := hE_3.cell 1
        have c2 : v3.cell? ⟨w1.heap.size, 2, none⟩ = some (.slice A' j c) := hE_3.cell 2
        go_wp2_with fail
        refine (iSpan_any f b A' j c len g _ hrx_3 hk' hl').mono ?_
        rintro e v4 ⟨rfl, hbv4⟩
        have hE_4 := hE_3.below hbv4 hE_3.lt
        have hG_4 := hG_3.below hbv4 hG_3.lt
        have hrx_4 := hrx_3.to hbv4 hbv4.size
        have hdx_4 := hdx_3.to hbv4 hbv4.size
        have hrTx_4 := hrTx_3.to hbv4 hbv4.size
        have hw_4 := hw_3.trans (hbv4.mono hw_3.size)
        clear hE_3 hG_3 hrx_3 hdx_3 hrTx_3 hw_3 hbv4
        clear c0 c1 c2
        have d0 : v4.cell? ⟨gf, 0, none⟩ = some (.int .i64 f) := hG_4.cell 0
        have d1 : v4.cell? ⟨gf, 1, none⟩ = some (.int .i64 b) := hG_4.cell 1
        have d2 : v4.cell? ⟨gf, 2, none⟩ = some (.slice Af j cf) := hG_4.cell 2
        go_wp2_with fail
        refine (iSpan_any f b Af j cf _ _ _ hrTx_4 hk' hlT).mono ?_
        rintro e v5 ⟨rfl, hbv5⟩
        have hE_5 := hE_4.below hbv5 hE_4.lt
        have hG_5 := hG_4.below hbv5 hG_4.lt
        have hrx_5 := hrx_4.to hbv5 hbv5.size
        have hdx_5 := hdx_4.to hbv5 hbv5.size
        have hrTx_5 := hrTx_4.to hbv5 hbv5.size
        have hw_5 := hw_4.trans (hbv5.mono hw_4.size)
        clear hE_4 hG_4 hrx_4 hdx_4 hrTx_4 hw_4 hbv5
        rw [(span_turn f b j len g).1, (span_turn f b j len g).2]
        clear d0 d1 d2
        generalize spanLo f b j len g = sL
        generalize spanHi f b j len g = sH
        go_wp2_with fail
        go_ret
        exact ⟨by simp, hw_5⟩
end Go.Proofs.Ytnhbgagdppbldaa
