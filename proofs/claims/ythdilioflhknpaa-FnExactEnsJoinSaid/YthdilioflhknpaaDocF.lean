/- DocWith of the program. -/
import Derived.Test.YthdilioflhknpaaDocE
namespace Go.Proofs.Ythdilioflhknpaa
open Go.RowKit Go.Deep

def upd (z : Nat → Int) (i : Nat) (x : Int) : Nat → Int := fun j => if j = i then x else z j
theorem upd_all_true {n i : Nat} {z : Nat → Int} {x : Int} (hd : docB n z = true) (hx : may x = true) : allTo (upd (pad n z) i x) 6 = true := by
  have h := docB_true hd
  refine allTo_of fun k _ => ?_
  unfold upd pad
  split
  · exact hx
  · split
    · rename_i hk; exact h.2.2 k hk
    · rfl
theorem upd_all_false {n i : Nat} {z : Nat → Int} {x : Int} (hi : i < 6) (hx : may x = false) : allTo (upd (pad n z) i x) 6 = false :=
  allTo_false hi (by unfold upd; rw [if_pos rfl]; exact hx)

/-- Does DocWith accept? -/
def withB (n : Nat) (z : Nat → Int) (i x : Int) : Bool := docB n z && ((decide (0 ≤ i) && decide (i < n)) && may x)

set_option maxHeartbeats 4000000 in
theorem iWith_yes (A : Option Addr) (n cap i : Nat) (z : Nat → Int) (x : Int) (w : World) (h : Rd w w.heap.size A n z) (hd : docB n z = true) (hi : i < n) (hx : may x = true) :
    Calls Try.prog 31 #[.slice A n cap, .int .i64 i, .int .i64 x] w fun e w' =>
      ∃ b, e = .returned (.tuple #[.slice (some ⟨b, 0, none⟩) n n, .bool true]) ∧ w.heap.size ≤ b ∧ Row w' 2 b n (upd z i x) ∧ Below w.heap.size w w' := by
  have hn6 := (docB_true hd).2.1
  have hlt : (i : Int) < (n : Int) := by omega
  have C := inRange_is (upd (pad n z) i x) n true (upd_all_true hd hx)
  have L := fun wx => list_any (upd (pad n z) i x) n wx hn6
  have hfin : ∀ j, j < n → upd (pad n z) i x j = upd z i x j := by
    intro j hj
    unfold upd pad
    rw [if_pos hj]
  have HD := hid hd
  have HF := hid hfin
  clear hd hx hfin
  obtain rfl | rfl | rfl | rfl | rfl | rfl : i = 0 ∨ i = 1 ∨ i = 2 ∨ i = 3 ∨ i = 4 ∨ i = 5 := by omega
  all_goals
    simp only [docV, upd, reduceIte, Nat.reduceEqDiff, Nat.one_ne_zero, Nat.zero_ne_one] at C L
    have HC := hid C
    have HL := hid L
    clear C L
    go_enter Try.func31, Try.ntmps31
    go_wp2_with fail
    refine (docOf_yes _ _ _ z _ h HD.out).mono ?_
    rintro e w1 ⟨rfl, hb⟩
    go_wp2_with fail
    refine (HC.out _).mono ?_
    rintro e w2 ⟨rfl, hb2⟩
    have hD := Blk.below (Blk.new w1 _ _) hb2 (by simp)
    have d0 := hD.cell 0; have d1 := hD.cell 1; have d2 := hD.cell 2; have d3 := hD.cell 3; have d4 := hD.cell 4; have d5 := hD.cell 5; have d6 := hD.cell 6
    simp at d0 d1 d2 d3 d4 d5 d6
    have hb3 := (hb.alloc hb.size _).trans (hb2.mono (hb.alloc hb.size _).size)
    clear hb hb2 hD
    go_wp2_with fail
    refine (HL.out _).mono ?_
    rintro e w3 ⟨b, rfl, hb4, hr, hb5⟩
    go_wp2_with fail
    go_ret2
    exact ⟨b, rfl, Nat.le_trans hb3.size hb4, hr.congr HF.out, hb3.trans (hb5.mono hb3.size)⟩

set_option maxHeartbeats 4000000 in
theorem iWith_bad (A : Option Addr) (n cap i : Nat) (z : Nat → Int) (x : Int) (w : World) (h : Rd w w.heap.size A n z) (hd : docB n z = true) (hi : i < n) (hx : may x = false) :
    Calls Try.prog 31 #[.slice A n cap, .int .i64 i, .int .i64 x] w fun e w' =>
      e = .returned (.tuple #[.slice none 0 0, .bool false]) ∧ Below w.heap.size w w' := by
  have hn6 := (docB_true hd).2.1
  have hlt : (i : Int) < (n : Int) := by omega
  have C := inRange_is (upd (pad n z) i x) n false (upd_all_false (by omega) hx)
  have HD := hid hd
  clear hd hx
  obtain rfl | rfl | rfl | rfl | rfl | rfl : i = 0 ∨ i = 1 ∨ i = 2 ∨ i = 3 ∨ i = 4 ∨ i = 5 := by omega
  all_goals
    simp only [docV, upd, reduceIte, Nat.reduceEqDiff, Nat.one_ne_zero, Nat.zero_ne_one] at C
    have HC := hid C
    clear C
    go_enter Try.func31, Try.ntmps31
    go_wp2_with fail
    refine (docOf_yes _ _ _ z _ h HD.out).mono ?_
    rintro e w1 ⟨rfl, hb⟩
    go_wp2_with fail
    refine (HC.out _).mono ?_
    rintro e w2 ⟨rfl, hb2⟩
    go_wp2_with fail
    go_ret2
    exact ⟨rfl, (hb.alloc hb.size _).trans (hb2.mono (hb.alloc hb.size _).size)⟩

set_option maxHeartbeats 1000000 in
theorem iWith_no (A : Option Addr) (n cap : Nat) (z : Nat → Int) (i x : Int) (w : World) (h : Rd w w.heap.size A n z) (hm : n ≤ 4194304) (hno : withB n z i x = false) :
    Calls Try.prog 31 #[.slice A n cap, .int .i64 i, .int .i64 x] w fun e w' =>
      e = .returned (.tuple #[.slice none 0 0, .bool false]) ∧ Below w.heap.size w w' := by
  cases hd : docB n z with
  | false =>
    have HD := hid hd
    clear hd hno
    go_enter Try.func31, Try.ntmps31
    go_wp2_with fail
    refine (docOf_nope _ _ _ z _ h hm HD.out).mono ?_
    rintro e w1 ⟨rfl, hb⟩
    go_wp2_with fail
    go_ret2
    exact ⟨rfl, hb.alloc hb.size _⟩
  | true =>
    by_cases h0 : i < 0
    · have HD := hid hd
      clear hd hno
      go_enter Try.func31, Try.ntmps31
      go_wp2_with fail
      refine (docOf_yes _ _ _ z _ h HD.out).mono ?_
      rintro e w1 ⟨rfl, hb⟩
      go_wp2_with fail
      go_ret2
      exact ⟨rfl, hb.alloc hb.size _⟩
    · by_cases hn : (n : Int) ≤ i
      · have HD := hid hd
        clear hd hno
        go_enter Try.func31, Try.ntmps31
        go_wp2_with fail
        refine (docOf_yes _ _ _ z _ h HD.out).mono ?_
        rintro e w1 ⟨rfl, hb⟩
        go_wp2_with fail
        go_ret2
        exact ⟨rfl, hb.alloc hb.size _⟩
      · obtain ⟨k, rfl⟩ := Int.eq_ofNat_of_zero_le (show 0 ≤ i by omega)
        have hx : may x = false := by
          have e1 : decide (0 ≤ (k : Int)) = true := by simp
          have e2 : decide ((k : Int) < (n : Int)) = true := by simp; omega
          simp only [withB, hd, e1, e2, Bool.true_and] at hno
          exact hno
        exact iWith_bad A n cap k z x w h hd (by omega) hx

/-! ### the other side -/
theorem own_row {w : World} {base : Nat} {e : TypeId} {v : Value} {n : Nat} {z : Nat → Int} (h : w.ownsRow base e 1 v n (numsOf n z)) (hn : 0 < n) :
    ∃ g cap, v = .slice (some ⟨g, 0, none⟩) n cap ∧ base ≤ g ∧ Row w e g n z := by
  rcases h.2 with ⟨_, h0⟩ | ⟨g, cap, cur, rfl, hb, hg, hc, hm, hs, ht⟩
  · omega
  · refine ⟨g, cap, rfl, hb, cur, hg, by omega, fun i hi => ?_⟩
    have h1 : (cur.toList.take (n * 1))[i]? = (numsOf n z)[i]? := by rw [ht]
    rw [List.getElem?_take, if_pos (by omega), Array.getElem?_toList] at h1
    rw [h1]
    simp [numsOf, hi]

end Go.Proofs.Ythdilioflhknpaa
