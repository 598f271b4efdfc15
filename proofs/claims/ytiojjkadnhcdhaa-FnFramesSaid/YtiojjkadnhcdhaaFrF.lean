/- Frames taken, of the program. -/
import Derived.Test.YtiojjkadnhcdhaaFrD
import Derived.Test.YtiojjkadnhcdhaaFrE
import Derived.WalkMore
import Derived.IntWalk
import Derived.Deep.LoopGhost
namespace Go.Proofs.Ytiojjkadnhcdhaa
open Go.RowKit Go.Deep

def strV (L : List ByteArray) : List Value := L.map Value.string
theorem strV_len (L : List ByteArray) : (strV L).length = L.length * 1 := by simp [strV]
theorem strV_one (L : List ByteArray) : ∀ u ∈ strV L, u.oneCell' = true := by
  intro u hu
  obtain ⟨x, _, rfl⟩ := List.mem_map.1 hu
  rfl
theorem strV_snoc (L : List ByteArray) (x : ByteArray) : strV (L ++ [x]) = strV L ++ [.string x] := by simp [strV]
def strLen : Value → Nat
  | .string b => b.size
  | _ => 0
theorem info_str : (Try.prog.info? 9).map (fun i => (i.zero, i.size, i.bytes)) = some (some (.string ByteArray.empty), 1, 16) := by kernel_rfl

theorem orW (n b : Nat) (hn : n < 16777216) (hb : b < 256) : bits .or .i64 ((n : Int) * 256) (b : Int) = ((n * 256 + b : Nat) : Int) := by
  have e0 : ((n : Int) * 256) = ((n * 256 : Nat) : Int) := by omega
  rw [e0]
  show IntKind.i64.wrap ((BitVec.ofInt 64 ((n * 256 : Nat) : Int) ||| BitVec.ofInt 64 (b : Int)).toNat : Int) = _
  rw [BitVec.toNat_or, ofInt_u64 _ (by omega), ofInt_u64 _ (by omega)]
  have h := Nat.two_pow_add_eq_or_of_lt (i := 8) (b := b) (by omega) n
  have e2 : n * 256 ||| b = n * 256 + b := by
    rw [show n * 256 = 2 ^ 8 * n by omega]
    exact h.symm
  rw [e2, IntKind.wrap_i64]
  omega
theorem ret_two {a b x y : Value} (h1 : a = x) (h2 : b = y) : Ending.returned (.tuple #[a, b]) = .returned (.tuple #[x, y]) := by rw [h1, h2]
theorem i64_eq {a b : Int} (h : a = b) : Value.int .i64 a = .int .i64 b := by rw [h]

theorem own_belowS {w w' : World} {base : Nat} {e : TypeId} {size : Nat} {v : Value} {n : Nat} {xs : List Value} (h : w.ownsRow base e size v n xs) (hb : Below w.heap.size w w') : w'.ownsRow base e size v n xs :=
  h.kept (row := none) ⟨hb.os, hb.tape, hb.output, hb.size, fun i hi _ => hb.block i hi⟩ (by cases hv : v.ownBlock <;> simp)
theorem info_str_parts : ∃ i0, Try.prog.info? 9 = some i0 ∧ i0.zero = some (.string ByteArray.empty) ∧ i0.size = 1 ∧ i0.bytes = 16 := by
  obtain ⟨i0, hi, hx⟩ := Option.map_eq_some_iff.1 info_str
  simp only [Prod.mk.injEq] at hx
  exact ⟨i0, hi, hx.1, hx.2.1, hx.2.2⟩
theorem own_formS {w : World} {base : Nat} {e : TypeId} {size : Nat} {v : Value} {n : Nat} {xs : List Value} (h : w.ownsRow base e size v n xs) : ∃ A c, v = .slice A n c := by
  rcases h.2 with ⟨rfl, rfl⟩ | ⟨g, cap, cur, rfl, _⟩
  · exact ⟨_, _, rfl⟩
  · exact ⟨_, _, rfl⟩
theorem cell_one_newS (w : World) (x : Value) (t : TypeId) : ∀ j u, [x][j]? = some u → (w.alloc (.cells #[x] t)).cell? ((⟨w.heap.size, 0, none⟩ : Addr).add j) = some u := fun j u hj => by
  obtain rfl : j = 0 := by rcases j with _ | j <;> simp_all
  simp at hj
  subst hj
  rw [Addr.add_lit]
  exact (Blk.new w t #[x]).cell 0
theorem crc_int (c j : Nat) : ((c : Int) / 2 ^ (8 * j) % 256) = ((c / 256 ^ j % 256 : Nat) : Int) := by
  rw [show (2 : Int) ^ (8 * j) = ((256 ^ j : Nat) : Int) by rw [Int.pow_mul]; simp]
  omega
theorem byS_get {r : ByteArray} {i : Nat} (h : i < r.size) : (r[i].toNat : Int) = (byS r i : Nat) := by
  unfold byS
  rw [Array.getElem?_eq_getElem h]
  rfl
theorem crc_torn {r : ByteArray} {c j : Nat} (h : 4 + j < r.size) (_hB : crcB r c j = true) (ht : ((r[4 + j].toNat : Int) != (c : Int) / 2 ^ (8 * j) % 256) = true) : crcB r c (j + 1) = false := by
  rw [byS_get h, crc_int] at ht
  have hne : byS r (4 + j) ≠ c / 256 ^ j % 256 := by
    intro e
    rw [e] at ht
    simp at ht
  simp [crcB, hne]
theorem crc_more {r : ByteArray} {c j : Nat} (h : 4 + j < r.size) (hB : crcB r c j = true) (ht : ((r[4 + j].toNat : Int) != (c : Int) / 2 ^ (8 * j) % 256) = false) : crcB r c (j + 1) = true := by
  rw [byS_get h, crc_int] at ht
  have he : byS r (4 + j) = c / 256 ^ j % 256 := by
    simp only [bne_eq_false_iff_eq] at ht
    omega
  simp [crcB, he, hB]

set_option maxRecDepth 100000 in
set_option maxHeartbeats 4000000 in
theorem TakeFrames_any (s : ByteArray) (w : World) (hs : s.size ≤ 4194304) :
    Calls Try.prog 8 #[.string s] w fun e w' => ∃ (k : Nat) (L : List ByteArray) (p : Nat) (A : Option Addr) (c : Nat),
      e = .returned (.tuple #[.slice A L.length c, .int .i64 p]) ∧ tkN s k = (L, p) ∧ tkEnd s k ∧ p ≤ s.size ∧ w'.ownsRow w.heap.size 9 1 (.slice A L.length c) L.length (strV L) ∧ Below w.heap.size w w' := by
  go_enter Try.func8, Try.ntmps8
  go_wp2_with fail
  go_step3
  go_wp2_with fail
  go_step3
  go_wp2_with fail
  go_loopw [4, 5] (fun o r wr => ∃ (k : Nat) (L : List ByteArray) (p : Nat) (A : Option Addr) (c : Nat), o = .slice A L.length c ∧ r = .string (restS s p) ∧ Hid (tkN s k = (L, p)) ∧ p ≤ s.size ∧ wr.ownsRow w.heap.size 9 1 (.slice A L.length c) L.length (strV L) ∧ Below w.heap.size w wr)
    (fun _ r _ => strLen r)
  case atStart => exact ⟨0, [], 0, none, 0, rfl, by rw [restS_zero], rfl, by omega, World.ownsRow_nil _ _ _ _, Below.refl _ _⟩
  case round =>
    obtain ⟨k, L, p, A, c, rfl, rfl, hT, hp, hown, hbl⟩ := hrel
    have hrs := restS_size s p
    obtain ⟨r, hr⟩ : ∃ r, Hid (r = restS s p) := ⟨_, hid rfl⟩
    rw [← hr.out] at hrs ⊢
    have hrl : r.size ≤ 4194304 := by omega
    have hrs2 : r.size ≤ s.size := by omega
    have HP := hid hrs
    clear hrs
    by_cases h8 : 8 ≤ r.size
    · have h8' : (8 : Int) ≤ (r.size : Int) := by omega
      obtain ⟨q, hq, hqs, HQ⟩ : ∃ q : ByteArray, r.extract 0 4 = q ∧ q.size = 4 ∧ Hid (∀ i, i < 4 → byS q i = byS r i) :=
        ⟨_, rfl, by simp; omega, fun i hi => by rw [byS_ext _ _ _ _ (by omega), Nat.zero_add]⟩
      have kb := fun (w : World) => run_bytes_of_string (P := Try.prog) w 9 22 5 q Try.underlying9 Try.underlying22 Try.underlying5
      go_wp2_with fail
      clear kb
      go_loopw [6, 20] (fun n i wx => ∃ j : Nat, j ≤ 4 ∧ n = .int .i64 (lenTo r j : Nat) ∧ i = .int .i64 j ∧ SByt wx wr.heap.size q ∧ wx.ownsRow w.heap.size 9 1 (.slice A L.length c) L.length (strV L) ∧ Below w.heap.size w wx)
        (fun _ i _ => 4 - (intOf i).toNat)
      case atStart => exact ⟨0, by omega, rfl, rfl, sByt_new _ _ _ _ _ _ rfl, hown.alloc _, (hbl.alloc hbl.size _).drew⟩
      case round =>
        obtain ⟨j, hj, rfl, rfl, hS, hown2, hbl2⟩ := hrel
        by_cases hl4 : j < 4
        · have hcq := hS j (by omega)
          have hl : lenTo r j < 16777216 := lenTo_lt3 r (by omega)
          have hb := byS_lt q j
          have HO := hid (orW (lenTo r j) (byS q j) hl hb)
          go_wp2_with fail
          go_roundw
          case rel => exact ⟨j + 1, by omega, i64_eq (by rw [HO.out, HQ.out j hl4]; rfl), by go_num, hS, hown2, hbl2⟩
          case measure => simp [intOf]; omega
        · have e4 : j = 4 := by omega
          subst e4
          clear hS hq hqs
          have hl := lenTo_lt r 4
          obtain ⟨n, hn, HN⟩ : ∃ n : Nat, n < 4294967296 ∧ Hid (n = lenTo r 4) := ⟨_, hl, hid rfl⟩
          rw [← HN.out]
          clear hl
          by_cases hbig : (100000 : Int) < (n : Int)
          · go_wp2_with fail
            rw [Exit.noGoto_ret]
            go_ret2
            refine ⟨k, L, p, A, c, ret_two rfl (i64_eq (by have := HP.out; omega)), hT.out, tkN_end hT.out ?_, hp, hown2, hbl2⟩
            rw [← hr.out]
            exact headB_long (by have := HN.out; omega)
          by_cases hpast : (r.size : Int) - 8 < (n : Int)
          · go_wp2_with fail
            go_ret2
            refine ⟨k, L, p, A, c, ret_two rfl (i64_eq (by have := HP.out; omega)), hT.out, tkN_end hT.out ?_, hp, hown2, hbl2⟩
            rw [← hr.out]
            exact headB_past (by have := HN.out; omega)
          · obtain ⟨d, hd, hds, HD⟩ : ∃ d, r.extract 8 (8 + n) = d ∧ d.size = n ∧ Hid (d = dataOf r) := by
              rw [HN.out]
              exact ⟨_, rfl, dataOf_size (by have := HN.out; omega), hid rfl⟩
            have HDS := hid hds
            have hdl : d.size ≤ 4194304 := by omega
            clear hds
            go_wp2_with fail
            refine (crcOf_any d _ hdl).mono ?_
            rintro e w1 ⟨rfl, hb1⟩
            have hown3 := own_belowS hown2 hb1
            have hbl3 := hbl2.trans (hb1.mono hbl2.size)
            clear hb1 hown2 hbl2
            obtain ⟨c0, hc0, HC⟩ : ∃ c0 : Nat, c0 < 4294967296 ∧ Hid (c0 = crcS d) := ⟨_, crcS_lt d, hid rfl⟩
            rw [← HC.out]
            go_wp2_with fail
            go_loopw [45] (fun i wx => ∃ (j m : Nat), j ≤ 4 ∧ i = .int .i64 j ∧ Hid (crcB r c0 j = true) ∧ wx = w1.drewN m) (fun i _ => 4 - (intOf i).toNat)
            case atStart => exact ⟨0, 0, by omega, rfl, rfl, rfl⟩
            case round =>
              obtain ⟨j, m, hj, rfl, HB, rfl⟩ := hrel
              by_cases hl4 : j < 4
              · have i1 : IntKind.i64.wrap (4 + (j : Int)) = 4 + (j : Int) := IntWalk.i64_in _ (by omega)
                have i2 : IntKind.i64.wrap (8 * (j : Int)) = 8 * (j : Int) := IntWalk.i64_in _ (by omega)
                have i3 : (4 + (j : Int)).toNat = 4 + j := by omega
                have i4 : 4 + (j : Int) < (r.size : Int) := by omega
                have i5 : 0 ≤ 4 + (j : Int) := by omega
                go_wp2_with fail
                go_quiet (fail)
                go_wp2_with fail
                · rw [Exit.noGoto_ret]
                  go_ret2
                  refine ⟨k, L, p, A, c, ret_two rfl (i64_eq (by have := HP.out; omega)), hT.out, tkN_end hT.out ?_, hp, hown3, below_drewN hbl3 _⟩
                  have ht := crc_torn (by omega) HB.out ‹_›
                  rw [HC.out, HD.out] at ht
                  rw [← hr.out]
                  exact headB_torn (by omega) ht
                · go_roundw
                  case rel => exact ⟨j + 1, m + nq, by omega, by go_num, crc_more (by omega) HB.out ‹_›, rfl⟩
                  case measure => simp [intOf]; omega
              · have e4 : j = 4 := by omega
                subst e4
                obtain ⟨i0, hi0, hz0, hz1, hz2⟩ := info_str_parts
                have hLs : L.length ≤ s.size := tk_len hT.out
                have hown4 : (w1.drewN m).ownsRow w.heap.size 9 1 (.slice A L.length c) L.length (strV L) := hown3
                have hbl4 := below_drewN hbl3 m
                have hsz4 := hbl3.size
                go_wp2_with (at_builtin; refine wpList_append_own _ rfl (.tmp 59) (.tmp 61) 25 rfl w.heap.size 9 i0 (.string ByteArray.empty) 1 16 Try.underlying25 hi0 hz0 hz1 hz2 rfl (by decide) _ L.length _ rfl (hown4.alloc _) ⟨w1.heap.size, 0, none⟩ 1 1 [.string d] rfl rfl (cell_one_newS _ _ _) (by intro u hu; simp at hu; subst hu; rfl) (by unfold maxLen; omega) (by omega) (by simp; omega) ?_)
                clear hi0 hz0 hz1 hz2
                intro v' w5 hown5 hg5 _
                have hbl5 : Below w.heap.size w w5 := (hbl4.alloc hbl4.size _).grown hg5 (by simp; omega) (fun x hx => (hown4.lt x hx).1)
                obtain ⟨A5, c5, rfl⟩ := own_formS hown5
                have hNT := tkN_next hT.out (by rw [← hr.out]; exact headB_yes h8 (by have := HN.out; omega) (by have := HN.out; omega) (by rw [← HD.out, ← HC.out]; exact HB.out))
                rw [← hr.out, ← HN.out, ← HD.out] at hNT
                have HNT := hid hNT
                have hre : r.extract (8 + n) r.size = restS s (p + 8 + n) := by
                  have := restS_rest s p (8 + n)
                  rw [← hr.out] at this
                  rw [this, Nat.add_assoc]
                have HRE := hid hre
                clear hNT hre hg5 hown4 hbl4 hown3 hbl3 hown hbl
                go_wp2_with fail
                go_roundw
                case rel =>
                  have hL : (L ++ [d]).length = L.length + 1 := by simp
                  exact ⟨k + 1, L ++ [d], p + 8 + n, A5, c5, by rw [hL], by rw [HRE.out], HNT.out, by have := HP.out; omega, by rw [hL, strV_snoc]; exact hown5, hbl5⟩
                case measure =>
                  show (r.extract (8 + n) r.size).size < r.size
                  rw [ByteArray.size_extract]
                  omega
    · go_wp2_with fail
      first | rw [Exit.noGoto_ret] | skip
      go_ret2
      refine ⟨k, L, p, A, c, ret_two rfl (i64_eq (by have := HP.out; omega)), hT.out, tkN_end hT.out ?_, hp, hown, hbl⟩
      rw [← hr.out]
      exact headB_short h8
end Go.Proofs.Ytiojjkadnhcdhaa
