/- Frames taken, of the other side. -/
import Derived.Test.YtiojjkadnhcdhaaFrF
import Derived.Deep.RegionHeld3
namespace Go.Proofs.Ytiojjkadnhcdhaa
open Go.RowKit Go.Deep

theorem byS_ext_iff {a b : ByteArray} (hs : a.size = b.size) (h : ∀ i, i < a.size → byS a i = byS b i) : a = b := by
  apply ByteArray.ext
  apply Array.ext hs
  intro i h1 h2
  have := h i h1
  unfold byS at this
  rw [Array.getElem?_eq_getElem h1, Array.getElem?_eq_getElem h2] at this
  exact UInt8.toNat_inj.1 this
theorem crcB_all {r : ByteArray} {c : Nat} : ∀ {n}, crcB r c n = true ↔ ∀ i, i < n → byS r (4 + i) = c / 256 ^ i % 256
  | 0 => ⟨fun _ i hi => absurd hi (by omega), fun _ => rfl⟩
  | n + 1 => by
    simp only [crcB, Bool.and_eq_true, beq_iff_eq, crcB_all (n := n)]
    constructor
    · rintro ⟨h1, h2⟩ i hi
      by_cases e : i = n
      · subst e; exact h2
      · exact h1 i (by omega)
    · exact fun h => ⟨fun i hi => h i (by omega), h n (by omega)⟩
theorem le4_at (c i : Nat) (hi : i < 4) : byS (bytesOf (le4 c)) i = c / 256 ^ i % 256 := by
  obtain rfl | rfl | rfl | rfl : i = 0 ∨ i = 1 ∨ i = 2 ∨ i = 3 := by omega
  · show (UInt8.ofNat (c % 256)).toNat = c / 256 ^ 0 % 256
    simp
  · show (UInt8.ofNat (c / 256 % 256)).toNat = c / 256 ^ 1 % 256
    simp
  · show (UInt8.ofNat (c / 65536 % 256)).toNat = c / 256 ^ 2 % 256
    simp
  · show (UInt8.ofNat (c / 16777216 % 256)).toNat = c / 256 ^ 3 % 256
    simp
theorem ba_toList {a b : ByteArray} (h : a ≠ b) : (a.toList == b.toList) = false := by
  rw [beq_eq_false_iff_ne]
  intro e
  rw [ByteArray.toList_eq, ByteArray.toList_eq] at e
  exact h (ByteArray.ext (Array.toList_inj.1 e))
theorem sum_test {r q : ByteArray} {c : Nat} (hs : q.size = 4) (hq : ∀ i, i < 4 → byS q i = byS r (4 + i)) : ((bytesOf (le4 c)).toList == q.toList) = crcB r c 4 := by
  cases h : crcB r c 4 with
  | true =>
    have h' := crcB_all.1 h
    have e : bytesOf (le4 c) = q := byS_ext_iff (by rw [hs]; rfl) fun i hi => by
      have hi4 : i < 4 := hi
      rw [le4_at c i hi4, hq i hi4, h' i hi4]
    rw [e]; simp
  | false =>
    have hne : bytesOf (le4 c) ≠ q := by
      intro e
      have : crcB r c 4 = true := crcB_all.2 fun i hi => by rw [← hq i hi, ← e, le4_at c i hi]
      rw [h] at this; cases this
    exact ba_toList hne

/-- A region that draws its order, walked once, its operations quiet in a class of worlds. -/
theorem region_classF {P : Program} {C : World → Prop} {id : Nat} {Q : Exit → Act → World → Prop} {a : Act} {w : World} {l : List Oper} (hm : P.follows .mixedOrders = true) (hB : Region.lexB .any l.toArray = true) (hC : C w.drew)
    (h : wpQuiet P l.toArray C (fun a' => ∀ w', C w' → Q .normal a' w') l a) : (Code.region id l.toArray true).wp P Q a w :=
  wp_region_quiet (C := C) hm hB hC (by simpa using h)

set_option maxRecDepth 100000 in
set_option maxHeartbeats 4000000 in
theorem sTakeFrames_any (s : ByteArray) (w : World) (hs : s.size ≤ 4194304) :
    Calls Try.prog 9 #[.string s] w fun e w' => ∃ (k : Nat) (L : List ByteArray) (p : Nat) (A : Option Addr) (c : Nat),
      e = .returned (.tuple #[.slice A L.length c, .int .i64 p]) ∧ tkN s k = (L, p) ∧ tkEnd s k ∧ p ≤ s.size ∧ w'.ownsRow w.heap.size 9 1 (.slice A L.length c) L.length (strV L) ∧ Below w.heap.size w w' := by
  go_enter Try.func9, Try.ntmps9
  go_wp2_with fail
  go_loopw [4, 5] (fun o a wr => ∃ (k : Nat) (L : List ByteArray) (p : Nat) (A : Option Addr) (c : Nat), o = .slice A L.length c ∧ a = .int .i64 p ∧ Hid (tkN s k = (L, p)) ∧ p ≤ s.size ∧ wr.ownsRow w.heap.size 9 1 (.slice A L.length c) L.length (strV L) ∧ Below w.heap.size w wr)
    (fun _ a _ => s.size - (intOf a).toNat)
  case atStart => exact ⟨0, [], 0, _, _, rfl, rfl, rfl, by omega, World.ownsRow_made w #[] 0 (Nat.le_refl _) (by unfold maxLen; omega) rfl, (Below.refl _ _).alloc (Nat.le_refl _) _⟩
  case round =>
    obtain ⟨k, L, p, A, c, rfl, rfl, hT, hp, hown, hbl⟩ := hrel
    by_cases h8 : (p : Int) + 8 ≤ (s.size : Int)
    · go_wp2_with fail
      go_loop [6, 7] (fun n i => ∃ j : Nat, j ≤ 4 ∧ n = .int .i64 (lenTo (restS s p) j : Nat) ∧ i = .int .i64 j)
        (fun _ i => 4 - (intOf i).toNat)
      case atStart => exact ⟨0, by omega, rfl, rfl⟩
      case round =>
        obtain ⟨j, hj, rfl, rfl⟩ := hrel
        by_cases hl4 : j < 4
        · have hl : lenTo (restS s p) j < 16777216 := lenTo_lt3 _ (by omega)
          have i1 : ((p : Int) + (j : Int)).toNat = p + j := by omega
          have i2 : (p : Int) + (j : Int) < (s.size : Int) := by omega
          have i3 : (0 : Int) ≤ (p : Int) + (j : Int) := by omega
          have hbb := byS_get (r := s) (i := p + j) (by omega)
          have hb := byS_lt s (p + j)
          go_wp2_with fail
          have HL := hid (show (256 * (lenTo (restS s p) j : Int) + (byS s (p + j) : Int)) = (lenTo (restS s p) (j + 1) : Nat) by
            show _ = ((lenTo (restS s p) j * 256 + byS (restS s p) j : Nat) : Int)
            rw [byS_rest]; omega)
          go_round
          case rel => exact ⟨j + 1, by omega, i64_eq HL.out, by go_num⟩
          case measure => simp [intOf]; omega
        · have e4 : j = 4 := by omega
          subst e4
          have hl := lenTo_lt (restS s p) 4
          obtain ⟨n, hn, HN⟩ : ∃ n : Nat, n < 4294967296 ∧ Hid (n = lenTo (restS s p) 4) := ⟨_, hl, hid rfl⟩
          rw [← HN.out]
          clear hl
          have hrs := hid (restS_size s p)
          have v1 : IntKind.i64.wrap ((p : Int) + 8) = (p : Int) + 8 := IntWalk.i64_in _ (by omega)
          have v2 : IntKind.i64.wrap ((p : Int) + 8 + (n : Int)) = (p : Int) + 8 + (n : Int) := IntWalk.i64_in _ (by omega)
          by_cases hbig : (100000 : Int) < (n : Int)
          · go_wp2_with fail
            go_quiet (fail)
            go_wp2_with fail
            go_ret2
            refine ⟨k, L, p, A, c, rfl, hT.out, tkN_end hT.out ?_, hp, hown, below_drewN hbl _⟩
            exact headB_long (by have := HN.out; omega)
          have gbig : decide ((100000 : Int) < (n : Int)) = false := by simpa using hbig
          have gbig2 : (n : Int) ≤ 100000 := by omega
          by_cases hpast : (s.size : Int) < (p : Int) + 8 + (n : Int)
          · have gp : decide ((s.size : Int) < (p : Int) + 8 + (n : Int)) = true := by simpa using hpast
            go_wp2_with fail
            go_quiet (fail)
            go_wp2_with fail
            go_ret2
            refine ⟨k, L, p, A, c, rfl, hT.out, tkN_end hT.out ?_, hp, hown, below_drewN hbl _⟩
            exact headB_past (by have := HN.out; have := hrs.out; omega)
          · have gp : decide ((s.size : Int) < (p : Int) + 8 + (n : Int)) = false := by simpa using hpast
            obtain ⟨d, hd, hds, HD⟩ : ∃ d, s.extract (p + 8) (p + 8 + n) = d ∧ d.size = n ∧ Hid (d = dataOf (restS s p)) :=
              ⟨_, rfl, by rw [ByteArray.size_extract]; omega, hid (by rw [dataOf, ← HN.out]; unfold restS; rw [ByteArray.extract_extract]; congr 1; omega)⟩
            obtain ⟨q, hq, HQ⟩ : ∃ q, s.extract (p + 4) (p + 8) = q ∧ Hid (q.size = 4 ∧ ∀ i, i < 4 → byS q i = byS (restS s p) (4 + i)) :=
              ⟨_, rfl, hid ⟨by rw [ByteArray.size_extract]; omega, fun i hi => by rw [byS_ext _ _ _ _ (by omega), byS_rest]; congr 1; omega⟩⟩
            have HDS := hid hds
            have hdl : d.size ≤ 4194304 := by omega
            clear hds
            obtain ⟨c0, hc0, HC⟩ : ∃ c0 : Nat, c0 < 4294967296 ∧ Hid (c0 = crcS d) := ⟨_, crcS_lt d, hid rfl⟩
            have cS : ∀ w : World, Calls Try.prog 22 #[.string d] w fun e w' => e = .returned (.string (bytesOf (le4 c0))) ∧ Below w.heap.size w w' := fun w => by
              rw [HC.out]; exact Sum_any d w hdl
            have hcm := sum_test (r := restS s p) (c := c0) HQ.out.1 HQ.out.2
            have t1 : ((p : Int) + 8).toNat = p + 8 := by omega
            have t2 : ((p : Int) + 8 + (n : Int)).toNat = p + 8 + n := by omega
            have t3 : ((p : Int) + 4).toNat = p + 4 := by omega
            have v3 : IntKind.i64.wrap ((p : Int) + 4) = (p : Int) + 4 := IntWalk.i64_in _ (by omega)
            have g1 : (0 : Int) ≤ (p : Int) + 8 + (n : Int) := by omega
            have g2 : (0 : Int) ≤ (p : Int) + 8 := by omega
            have g3 : (p : Int) + 8 ≤ (p : Int) + 8 + (n : Int) := by omega
            have g4 : (0 : Int) ≤ (p : Int) + 4 := by omega
            have g5 : (p : Int) + 4 ≤ (p : Int) + 8 := by omega
            by_cases hcr : crcB (restS s p) c0 4 = true
            · rw [hcr] at hcm
              have HCR := hid hcr
              clear hcr
              go_wp2_with fail
              have D0 := hid ((Below.refl wr.heap.size wr).drew)
              have HBL := hid hbl
              have HOWN := hid hown
              clear hbl hown
              refine region_classF (C := fun W => Below wr.heap.size wr W) (by kernel_rfl) (by kernel_rfl) D0.out ?_
              repeat
                with_reducible refine wpQuiet_step (fun K hK => ?_)
                first
                  | (rw [if_pos (by rfl)]; apply Exists.intro; refine ⟨fun W hW => ?_, hK _ ?_⟩; (first
                      | (go_simp <;> with_reducible rfl)
                      | (go_simp; go_at_call 22; with_reducible refine Calls.mono (cS W) ?_; rintro e w5 ⟨rfl, hb5⟩; exact ⟨rfl, hW.trans (hb5.mono hW.size)⟩)); clear hK K; (try simp only [Act.put, List.setIfInBounds_toArray, List.set_cons_zero, List.set_cons_succ]))
                  | (refine Eq.mpr (if_neg ?_) (hK _ ?_); exact (fun h => Bool.false_ne_true h); clear hK K; (try simp only [Act.put, List.setIfInBounds_toArray, List.set_cons_zero, List.set_cons_succ]))
              refine wpQuiet_nil ?_
              intro WZ hZ'
              have hZ : Below wr.heap.size wr WZ := hZ'
              clear hZ'
              have hblZ := HBL.out.trans (hZ.mono HBL.out.size)
              have hownZ := own_belowS HOWN.out hZ
              clear hZ
              obtain ⟨i0, hi0, hz0, hz1, hz2⟩ := info_str_parts
              have hLs : L.length ≤ s.size := tk_len hT.out
              have hszZ := hblZ.size
              go_wp2_with (at_builtin; refine wpList_append_own _ rfl (.tmp 56) (.tmp 65) 25 rfl w.heap.size 9 i0 (.string ByteArray.empty) 1 16 Try.underlying25 hi0 hz0 hz1 hz2 rfl (by decide) _ L.length _ rfl (hownZ.alloc _) ⟨WZ.heap.size, 0, none⟩ 1 1 [.string d] rfl rfl (cell_one_newS _ _ _) (by intro u hu; simp at hu; subst hu; rfl) (by unfold maxLen; omega) (by omega) (by simp; omega) ?_)
              clear hi0 hz0 hz1 hz2
              intro v' w5 hown5 hg5 _
              have hbl5 : Below w.heap.size w w5 := (hblZ.alloc hblZ.size _).grown hg5 (by simp; omega) (fun x hx => (hownZ.lt x hx).1)
              obtain ⟨A5, c5, rfl⟩ := own_formS hown5
              have hNT := tkN_next hT.out (headB_yes (by have := hrs.out; omega) (by have := HN.out; omega) (by have := HN.out; have := hrs.out; omega) (by rw [← HD.out, ← HC.out]; exact HCR.out))
              rw [← HN.out, ← HD.out] at hNT
              have HNT := hid hNT
              clear hNT hg5 hownZ hblZ
              go_wp2_with fail
              go_roundw
              case rel =>
                have hL : (L ++ [d]).length = L.length + 1 := by simp
                exact ⟨k + 1, L ++ [d], p + 8 + n, A5, c5, by rw [hL], by go_num, HNT.out, by omega, by rw [hL, strV_snoc]; exact hown5, hbl5⟩
              case measure => simp [intOf]; omega
            · rw [(Bool.not_eq_true _).mp hcr] at hcm
              have HCR := hid hcr
              clear hcr
              go_wp2_with fail
              have D0 := hid ((Below.refl wr.heap.size wr).drew)
              have HBL := hid hbl
              have HOWN := hid hown
              clear hbl hown
              refine region_classF (C := fun W => Below wr.heap.size wr W) (by kernel_rfl) (by kernel_rfl) D0.out ?_
              repeat
                with_reducible refine wpQuiet_step (fun K hK => ?_)
                first
                  | (rw [if_pos (by rfl)]; apply Exists.intro; refine ⟨fun W hW => ?_, hK _ ?_⟩; (first
                      | (go_simp <;> with_reducible rfl)
                      | (go_simp; go_at_call 22; with_reducible refine Calls.mono (cS W) ?_; rintro e w5 ⟨rfl, hb5⟩; exact ⟨rfl, hW.trans (hb5.mono hW.size)⟩)); clear hK K; (try simp only [Act.put, List.setIfInBounds_toArray, List.set_cons_zero, List.set_cons_succ]))
                  | (refine Eq.mpr (if_neg ?_) (hK _ ?_); exact (fun h => Bool.false_ne_true h); clear hK K; (try simp only [Act.put, List.setIfInBounds_toArray, List.set_cons_zero, List.set_cons_succ]))
              refine wpQuiet_nil ?_
              intro WZ hZ'
              have hZ : Below wr.heap.size wr WZ := hZ'
              clear hZ'
              have hblZ := HBL.out.trans (hZ.mono HBL.out.size)
              have hownZ := own_belowS HOWN.out hZ
              clear hZ
              go_wp2_with fail
              go_ret2
              refine ⟨k, L, p, A, c, rfl, hT.out, tkN_end hT.out ?_, hp, hownZ, hblZ⟩
              exact headB_torn (k := 4) (by omega) (by rw [← HD.out, ← HC.out]; exact (Bool.not_eq_true _).mp HCR.out)
    · go_wp2_with fail
      go_ret2
      refine ⟨k, L, p, A, c, rfl, hT.out, tkN_end hT.out ?_, hp, hown, hbl⟩
      exact headB_short (by have := restS_size s p; omega)
end Go.Proofs.Ytiojjkadnhcdhaa
