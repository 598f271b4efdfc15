/- Strings joined, in plain words. -/
import Derived.Test.YtmkipdhappikhaaGreatDoorTxA
import Derived.Test.YtmkipdhappikhaaGreatDoorK2
import Derived.Lib.Join
namespace Go.Proofs.YtmkipdhappikhaaGreatDoor
open Go.RowKit Go.Deep

def joinTo (f : Nat → ByteArray) (sep : ByteArray) : Nat → ByteArray
  | 0 => ByteArray.empty
  | k + 1 => (if 0 < k then joinTo f sep k ++ sep else joinTo f sep k) ++ f k
theorem join_snoc (l : List (List UInt8)) (x sep : List UInt8) : Lib.join (l ++ [x]) sep = (if l = [] then x else Lib.join l sep ++ sep ++ x) := by
  cases l with
  | nil => rw [List.nil_append, Lib.join_one, if_pos rfl]
  | cons y r =>
    rw [if_neg (by simp), List.cons_append, Lib.join_cons, Lib.join_cons]
    simp [Lib.joinTail, List.append_assoc]
theorem join_is (f : Nat → ByteArray) (sep : ByteArray) : ∀ n, (⟨(Lib.join (((List.range n).map f).map (·.data.toList)) sep.data.toList).toArray⟩ : ByteArray) = joinTo f sep n
  | 0 => rfl
  | n + 1 => by
    have ih := join_is f sep n
    rw [List.range_succ, List.map_append, List.map_append, List.map_cons, List.map_nil, List.map_cons, List.map_nil, join_snoc]
    show _ = (if 0 < n then joinTo f sep n ++ sep else joinTo f sep n) ++ f n
    by_cases h0 : 0 < n
    · rw [if_neg (by simp; omega), if_pos h0, ← ih]
      apply ByteArray.ext
      rw [ByteArray.data_append, ByteArray.data_append]
      apply Array.ext'
      simp
    · obtain rfl : n = 0 := by omega
      rw [if_pos (by simp), if_neg (by omega)]
      apply ByteArray.ext
      rw [ByteArray.data_append]
      apply Array.ext'
      simp [joinTo]
theorem joinTo_size {f : Nat → ByteArray} {sep : ByteArray} {M : Nat} : ∀ n, (∀ i, i < n → (f i).size ≤ M) → (joinTo f sep n).size ≤ n * (M + sep.size)
  | 0, _ => by show 0 ≤ _; omega
  | n + 1, h => by
    have ih := joinTo_size (f := f) (sep := sep) (M := M) n (fun i hi => h i (by omega))
    have h1 := h n (by omega)
    show ((if 0 < n then joinTo f sep n ++ sep else joinTo f sep n) ++ f n).size ≤ _
    rw [ByteArray.size_append, Nat.add_mul]
    split
    · rw [ByteArray.size_append]; omega
    · omega
theorem join_len {f : Nat → ByteArray} {sep : ByteArray} {n M : Nat} (h : (joinTo f sep n).size ≤ M) : (Lib.join (((List.range n).map f).map (·.data.toList)) sep.data.toList).length ≤ M := by
  rw [← join_is] at h
  have e : (Lib.join (((List.range n).map f).map (·.data.toList)) sep.data.toList).toArray.size ≤ M := h
  rwa [List.size_toArray] at e

def numS (x : Int) : ByteArray := if x = 9999999 then ⟨#[45]⟩ else decS x
def docS (n : Nat) (z : Nat → Int) : ByteArray := if docB n z = true then joinTo (fun i => numS (z i)) ⟨#[44]⟩ n else ByteArray.empty
theorem decS_size {x : Int} (h0 : -9223372036854775808 ≤ x) (h1 : x ≤ 9223372036854775807) : (decS x).size ≤ 21 := by
  show (Lib.itoa x).toArray.size ≤ 21
  rw [List.size_toArray]
  exact Lib.itoa_length_le x h0 h1
theorem may_bd {x : Int} (h : may x = true) : -1000000 ≤ x ∧ x ≤ 9999999 := by
  simp only [may, Bool.or_eq_true, Bool.and_eq_true, decide_eq_true_eq, beq_iff_eq] at h
  omega
theorem numS_size {x : Int} (h : may x = true) : (numS x).size ≤ 21 := by
  have := may_bd h
  unfold numS
  split
  · decide
  · exact decS_size (by omega) (by omega)

theorem numText_any (x : Int) (w : World) (h : may x = true) (hp : Hid (Lib.TabIs Tryz.prog w "internal/strconv.uint64pow10" .u64 Lib.pow10Tab)) :
    Calls Tryz.prog 81 #[.int .i64 x] w fun e w' => e = .returned (.string (numS x)) ∧ Below w.heap.size w w' := by
  have hb := may_bd h
  have HB := hid hb
  clear hb h
  by_cases e : x = 9999999
  · subst e
    go_enter Tryz.func81, Tryz.ntmps81
    go_wp2_with fail
    go_ret
    exact ⟨rfl, Below.refl _ _⟩
  · have e2 : (x == 9999999) = false := by simpa using e
    go_enter Tryz.func81, Tryz.ntmps81
    go_wp2_with fail
    refine (decimal_any x _ (by have := HB.out; omega) (by have := HB.out; omega) hp).mono ?_
    rintro e w1 ⟨rfl, hb1⟩
    go_wp2_with fail
    go_ret
    exact ⟨ret_strT (by unfold numS; rw [if_neg (by assumption)]), hb1⟩

theorem docC_at2 (z : Nat → Int) (n : Int) {k : Nat} (h : k < 6) : (docC z n)[k]? = some (.int .i64 (z k)) := by
  obtain rfl | rfl | rfl | rfl | rfl | rfl : k = 0 ∨ k = 1 ∨ k = 2 ∨ k = 3 ∨ k = 4 ∨ k = 5 := by omega
  all_goals rfl
theorem info_strT : (Tryz.prog.info? 9).map (fun i => (i.zero, i.size, i.bytes)) = some (some (.string ByteArray.empty), 1, 16) := by kernel_rfl

set_option maxRecDepth 100000 in
set_option maxHeartbeats 2000000 in
theorem iDocText_any (A : Option Addr) (n cap : Nat) (z : Nat → Int) (w : World) (h : Rd w w.heap.size A n z) (hn : n ≤ 4194304) (hp : Hid (Pow w w.heap.size)) :
    Calls Tryz.prog 42 #[.slice A n cap] w fun e w' => e = .returned (.string (docS n z)) ∧ Below w.heap.size w w' := by
  cases hd : docB n z
  · have e0 : docS n z = ⟨#[]⟩ := by unfold docS; rw [hd]; rfl
    rw [e0]
    have HD := hid hd
    clear hd e0
    go_enter Tryz.func42, Tryz.ntmps42
    go_wp2_with fail
    refine (docOf_nope A n cap z _ h hn HD.out).mono ?_
    rintro e w1 ⟨rfl, hb1⟩
    go_wp2_with fail
    go_ret
    exact ⟨rfl, hb1.alloc hb1.size _⟩
  · obtain ⟨h1, h6, hall⟩ := docB_true hd
    have e0 : docS n z = joinTo (fun i => numS (z i)) ⟨#[44]⟩ n := by unfold docS; rw [hd]; rfl
    have HE := hid e0
    have HD := hid hd
    have HALL := hid hall
    have hmk := run_make_row' (P := Tryz.prog) 44 9 (.string ByteArray.empty) 16 Tryz.underlying44 info_strT rfl .i64 .i64 n (by omega) (by omega)
    clear hd e0 hall
    go_enter Tryz.func42, Tryz.ntmps42
    go_wp2_with fail
    refine (docOf_yes A n cap z _ h HD.out).mono ?_
    rintro e w1 ⟨rfl, hb1⟩
    go_wp2_with fail
    go_loopw [19] (fun i wr => ∃ (k : Nat) (cs : Array Value), k ≤ n ∧ i = .int .i64 k ∧ Blk wr (w1.heap.size + 1) 9 cs ∧ cs.size = n ∧ Hid (∀ j, j < k → cs[j]? = some (.string (numS (z j)))) ∧ Blk wr w1.heap.size 111 (docC (pad n z) n) ∧ Hid (Below w.heap.size w wr))
      (fun i _ => n - (intOf i).toNat)
    case atStart => exact ⟨0, _, Nat.zero_le _, rfl, Blk.new2 _ _ _ _, by simp [madeCells], fun j hj => by omega, (Blk.new _ _ _).alloc _, (hb1.alloc hb1.size _).alloc (by simp; have := hb1.size; omega) _⟩
    case round =>
      obtain ⟨k, cs, hk, rfl, hB, hsz, hcs, hD, hbl⟩ := hrel
      by_cases hlt : k < n
      · have hz : wr.cell? ⟨w1.heap.size, k, none⟩ = some (.int .i64 (z k)) := by rw [hD.cell, docC_at2 _ _ (show k < 6 by omega)]; unfold pad; rw [if_pos hlt]
        have i1 : (k : Int) < (n : Int) := by omega
        have i2 : (k : Int) < 6 := by omega
        have i3 : (0 : Int) ≤ (k : Int) := by omega
        have hm := HALL.out k hlt
        have hpw := hid (hp.out wr hbl.out)
        have hsw := hb1.size
        have hwr := hB.lt
        have HM := hid hm
        clear hm
        go_wp2_with fail
        refine (numText_any (z k) _ HM.out hpw).mono ?_
        rintro e w5 ⟨rfl, hb5⟩
        have hB5 := hB.below hb5 hB.lt
        have hD5 := hD.below hb5 hD.lt
        have hbl5 := hid (hbl.out.trans (hb5.mono hbl.out.size))
        have hc2 : w5.cell? ⟨w1.heap.size + 1, k, none⟩ = some (cs[k]'(by omega)) := by rw [hB5.cell, Array.getElem?_eq_getElem]
        have hf2 := hB5.frozen k
        clear hB hD hb5 hz
        go_wp2_with fail
        go_roundw
        case rel =>
          refine ⟨k + 1, _, by omega, by go_num, hB5.set_ k _, by simpa using hsz, hid (fun j hj => ?_), hD5.far (by simp) _, hid (hbl5.out.setCell (by simp; omega) _)⟩
          by_cases e : j = k
          · subst e; rw [Array.getElem?_setIfInBounds_self_of_lt (by omega)]
          · rw [Array.getElem?_setIfInBounds_ne (by omega)]; exact hcs.out j (by omega)
        case measure => simp [intOf]; omega
      · have e : k = n := by omega
        subst e
        have hjs := joinTo_size (f := fun i => numS (z i)) (sep := ⟨#[44]⟩) (M := 21) k (fun i hi => numS_size (HALL.out i hi))
        have hj2 : (joinTo (fun i => numS (z i)) ⟨#[44]⟩ k).size ≤ 140737488355328 := by
          have e1 : (⟨#[44]⟩ : ByteArray).size = 1 := rfl
          rw [e1] at hjs; omega
        have hlx : ((List.range k).map (fun i => numS (z i))).length = k := by simp
        have hJ := strings_Join (w1.heap.size + 1) 0 k ((List.range k).map (fun i => numS (z i))) ⟨#[44]⟩ wr (fun j x hx => by
          rw [Nat.zero_add, hB.cell]
          have hjk : j < k := by
            have := (List.getElem?_eq_some_iff.1 hx).1
            simpa using this
          rw [hcs.out j hjk]
          simp [hjk] at hx
          rw [hx]) hB.lt (by rw [hlx]; omega) (by rw [hlx]; exact Nat.le_refl _) (join_len hj2)
        rw [hlx, join_is] at hJ
        have HJ := hid hJ
        clear hJ hlx hj2 hjs hcs hB hD
        go_wp2_with fail
        refine HJ.out.mono ?_
        rintro e w6 ⟨rfl, hb6⟩
        have hfin := hbl.out.trans (hb6.mono hbl.out.size)
        go_wp2_with fail
        go_ret
        exact ⟨ret_strT HE.out.symm, hfin⟩
end Go.Proofs.YtmkipdhappikhaaGreatDoor
