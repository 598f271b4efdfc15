/- The walk of the exact law of DocWith. -/
import Derived.Test.YtodcalghnoiaeaaDocF
import Derived.WalkSmall
namespace Go.Proofs.Ytodcalghnoiaeaa
open Go.RowKit Go.Deep

/-- A slice of no element or over a row of one's own block. -/
theorem rd_of {w : World} {t : TypeId} {b n : Nat} {z : Nat → Int} (h : Row w t b n z) : Rd w w.heap.size (some ⟨b, 0, none⟩) n z := h.rd h.lt
theorem row_grown {w w' : World} {t : TypeId} {b b' n : Nat} {z : Nat → Int} (h : Row w t b n z) (hg : w.grownBy w' (some b')) (hne : b ≠ b') : Row w' t b n z :=
  h.keep (hg.block b h.lt (by simpa using hne))

theorem rd_none {w : World} {B : Nat} {A : Option Addr} {z : Nat → Int} : Rd w B A 0 z := fun h => absurd h (by omega)

set_option maxHeartbeats 4000000 in
theorem lawWith_no (A : Option Addr) (n cap : Nat) (z : Nat → Int) (i x : Int) (w : World) (h : Rd w w.heap.size A n z) (hm : n ≤ 1048576) (hno : withB n z i x = false) :
    Calls Try.prog 5 #[.slice A n cap, .int .i64 i, .int .i64 x] w fun e w' => e = .returned (.bool true) ∧ Below w.heap.size w w' := by
  have hn : n ≤ 4194304 := by omega
  have HN := hid hno
  clear hno
  go_enter Try.func5, Try.ntmps5
  go_wp2_with fail
  refine (toI_any A n cap z _ h hn).mono ?_
  rintro e w1 ⟨b1, rfl, _, hr1, hb1⟩
  go_wp2_with fail
  refine (sWith_no _ n n z i x _ (rd_of hr1) hn HN.out).mono ?_
  rintro e w1' ⟨rfl, rfl⟩
  go_wp2_with fail
  refine (toI_any A n cap z _ (h.to hb1 hb1.size) hn).mono ?_
  rintro e w2 ⟨b2, rfl, hl2, hr2, hb2⟩
  have hw2 := hb1.trans (hb2.mono hb1.size)
  have hl3 : w.heap.size ≤ b2 := Nat.le_trans hb1.size hl2
  clear hb1 hr1 hb2 hl2
  go_wp2_with fail
  refine (iWith_no _ n n z i x _ (rd_of hr2) hn HN.out).mono ?_
  rintro e w3 ⟨rfl, hb3⟩
  have hr3 := hr2.below hb3 hr2.lt
  have hw3 := hw2.trans (hb3.mono hw2.size)
  clear hr2 hb3 hw2
  go_wp2_with fail
  refine (eqI_any none none 0 0 0 nul nul _ rd_none rd_none (fun _ _ => rfl) (by omega)).mono ?_
  rintro e w4 ⟨rfl, m4, rfl⟩
  go_wp2_with fail
  refine (toI_any A n cap z _ (h.to (below_drewN hw3 m4) hw3.size) hn).mono ?_
  rintro e w5 ⟨b5, rfl, hl5, hr5, hb5⟩
  have hr6 : Row w5 2 b2 n z := Row.below (w := w3.drewN m4) hr3 hb5 hr3.lt
  have hw5 := (below_drewN hw3 m4).trans (hb5.mono hw3.size)
  clear hb5 hw3 hr3
  go_wp2_with fail
  refine (eqI_any _ _ n n n z z _ (rd_of hr6) (rd_of hr5) (fun _ _ => rfl) hn).mono ?_
  rintro e w6 ⟨rfl, m6, rfl⟩
  go_wp2_with fail
  refine (mark_any _ n n b2 z 1 (w5.drewN m6) (fun _ => ⟨rfl, hr6⟩) hn (by omega) (by omega)).mono ?_
  rintro e w7 ⟨rfl, hg7, _⟩
  have hw7 : Below w.heap.size w w7 := (below_drewN hw5 m6).grown hg7 hw5.size (fun k hk => by injection hk with hk; omega)
  clear hg7 hr6 hr5 hw5
  go_wp2_with fail
  refine (eqI_any none none 0 0 0 nul nul _ rd_none rd_none (fun _ _ => rfl) (by omega)).mono ?_
  rintro e w8 ⟨rfl, m8, rfl⟩
  go_wp2_with fail
  refine (mark_any none 0 0 w7.heap.size nul 1 _ (fun h => absurd h (by omega)) (by omega) (by omega) (by omega)).mono ?_
  rintro e w9 ⟨rfl, hg9, _⟩
  have hw9 : Below w.heap.size w w9 := (below_drewN hw7 m8).grown hg9 hw7.size (fun k hk => by injection hk with hk; have := hw7.size; omega)
  clear hg9 hw7
  go_wp2_with fail
  refine (held_any none 0 0 0 1 _ (fun h => absurd h (by omega)) (by omega) (by omega) (by omega)).mono ?_
  rintro e w9' ⟨rfl, rfl⟩
  go_wp2_with fail
  refine (toI_any A n cap z _ (h.to hw9 hw9.size) hn).mono ?_
  rintro e w10 ⟨b10, rfl, hl10, hr10, hb10⟩
  have hw10 := hw9.trans (hb10.mono hw9.size)
  clear hb10 hw9
  go_wp2_with fail
  refine (iWith_no _ n n z i x _ (rd_of hr10) hn HN.out).mono ?_
  rintro e w11 ⟨rfl, hb11⟩
  have hw11 := hw10.trans (hb11.mono hw10.size)
  clear hb11 hw10 hr10
  go_wp2_with fail
  refine (eqI_any none none 0 0 0 nul nul _ rd_none rd_none (fun _ _ => rfl) (by omega)).mono ?_
  rintro e w12 ⟨rfl, m12, rfl⟩
  go_wp2_with fail
  refine (held_any none 0 0 0 1 _ (fun h => absurd h (by omega)) (by omega) (by omega) (by omega)).mono ?_
  rintro e w13 ⟨rfl, rfl⟩
  go_wp2_with fail
  go_ret
  exact ⟨rfl, below_drewN hw11 m12⟩

set_option maxHeartbeats 4000000 in
theorem lawWith_yes (A : Option Addr) (n cap i : Nat) (z : Nat → Int) (x : Int) (w : World) (h : Rd w w.heap.size A n z) (hd : docB n z = true) (hi : i < n) (hx : may x = true) :
    Calls Try.prog 5 #[.slice A n cap, .int .i64 i, .int .i64 x] w fun e w' => e = .returned (.bool true) ∧ Below w.heap.size w w' := by
  have hn6 := (docB_true hd).2.1
  have hn : n ≤ 4194304 := by omega
  have hn20 : (n : Int) ≤ 1048576 := by omega
  have HD := hid hd
  have HX := hid hx
  clear hd hx
  go_enter Try.func5, Try.ntmps5
  go_wp2_with fail
  refine (toI_any A n cap z _ h hn).mono ?_
  rintro e w1 ⟨b1, rfl, _, hr1, hb1⟩
  go_wp2_with fail
  refine (sWith_yes _ n n i z x _ (rd_of hr1) HD.out hi HX.out).mono ?_
  rintro e ws ⟨s, c, rfl, hls, hrs, hbs⟩
  have hws := hb1.trans (hbs.mono hb1.size)
  clear hb1 hr1 hbs hls
  go_wp2_with fail
  refine (toI_any A n cap z _ (h.to hws hws.size) hn).mono ?_
  rintro e w2 ⟨b2, rfl, hl2, hr2, hb2⟩
  have hw2 := hws.trans (hb2.mono hws.size)
  have hl3 : w.heap.size ≤ b2 := Nat.le_trans hws.size hl2
  have hsb : s < b2 := Nat.lt_of_lt_of_le hrs.lt hl2
  have hrs2 := hrs.below hb2 hrs.lt
  clear hb2 hl2 hws hrs
  go_wp2_with fail
  refine (iWith_yes _ n n i z x _ (rd_of hr2) HD.out hi HX.out).mono ?_
  rintro e w3 ⟨b3, rfl, hlb3, hrg, hb3⟩
  have hb23 : b2 < b3 := Nat.lt_of_lt_of_le hr2.lt hlb3
  have hr3 := hr2.below hb3 hr2.lt
  have hrs3 := hrs2.below hb3 hrs2.lt
  have hw3 := hw2.trans (hb3.mono hw2.size)
  clear hr2 hb3 hw2 hrs2 hlb3
  go_wp2_with fail
  refine (eqI_any _ _ n n c (upd z i x) (upd z i x) _ (rd_of hrg) (rd_of hrs3) (fun _ _ => rfl) hn).mono ?_
  rintro e w4 ⟨rfl, m4, rfl⟩
  go_wp2_with fail
  refine (toI_any A n cap z _ (h.to (below_drewN hw3 m4) hw3.size) hn).mono ?_
  rintro e w5 ⟨b5, rfl, hl5, hr5, hb5⟩
  have hr6 : Row w5 2 b2 n z := Row.below (w := w3.drewN m4) hr3 hb5 hr3.lt
  have hrs6 : Row w5 2 s n (upd z i x) := Row.below (w := w3.drewN m4) hrs3 hb5 hrs3.lt
  have hrg6 : Row w5 2 b3 n (upd z i x) := Row.below (w := w3.drewN m4) hrg hb5 hrg.lt
  have hw5 := (below_drewN hw3 m4).trans (hb5.mono hw3.size)
  clear hb5 hw3 hr3 hrs3 hrg
  go_wp2_with fail
  refine (eqI_any _ _ n n n z z _ (rd_of hr6) (rd_of hr5) (fun _ _ => rfl) hn).mono ?_
  rintro e w6 ⟨rfl, m6, rfl⟩
  go_wp2_with fail
  refine (mark_any _ n n b2 z 1 (w5.drewN m6) (fun _ => ⟨rfl, hr6⟩) hn (by omega) (by omega)).mono ?_
  rintro e w7 ⟨rfl, hg7, _⟩
  have hw7 : Below w.heap.size w w7 := (below_drewN hw5 m6).grown hg7 hw5.size (fun k hk => by injection hk with hk; omega)
  have hrs7 : Row w7 2 s n (upd z i x) := row_grown (w := w5.drewN m6) hrs6 hg7 (by omega)
  have hrg7 : Row w7 2 b3 n (upd z i x) := row_grown (w := w5.drewN m6) hrg6 hg7 (by omega)
  clear hg7 hr6 hr5 hw5 hrs6 hrg6
  go_wp2_with fail
  refine (eqI_any _ _ n n c (upd z i x) (upd z i x) _ (rd_of hrg7) (rd_of hrs7) (fun _ _ => rfl) hn).mono ?_
  rintro e w8 ⟨rfl, m8, rfl⟩
  go_wp2_with fail
  refine (mark_any _ n n b3 (upd z i x) 1 (w7.drewN m8) (fun _ => ⟨rfl, hrg7⟩) hn (by omega) (by omega)).mono ?_
  rintro e w9 ⟨rfl, hg9, hk9⟩
  have hw9 : Below w.heap.size w w9 := (below_drewN hw7 m8).grown hg9 hw7.size (fun k hk => by injection hk with hk; omega)
  have hrs9 : Row w9 2 s n (upd z i x) := row_grown (w := w7.drewN m8) hrs7 hg9 (by omega)
  have hrk9 := hk9 (by omega)
  clear hg9 hw7 hrs7 hrg7 hk9
  go_wp2_with fail
  refine (held_any _ n n b3 1 _ (fun _ => ⟨rfl, hrk9⟩) hn (by omega) (by omega)).mono ?_
  rintro e w9' ⟨rfl, rfl⟩
  go_wp2_with fail
  refine (toI_any A n cap z _ (h.to hw9 hw9.size) hn).mono ?_
  rintro e w10 ⟨b10, rfl, hl10, hr10, hb10⟩
  have hw10 := hw9.trans (hb10.mono hw9.size)
  have hrs10 := hrs9.below hb10 hrs9.lt
  have hrk10 := hrk9.below hb10 hrk9.lt
  clear hb10 hw9 hrs9 hrk9
  go_wp2_with fail
  refine (iWith_yes _ n n i z x _ (rd_of hr10) HD.out hi HX.out).mono ?_
  rintro e w11 ⟨b11, rfl, hl11, hr11, hb11⟩
  have hw11 := hw10.trans (hb11.mono hw10.size)
  have hrs11 := hrs10.below hb11 hrs10.lt
  have hrk11 := hrk10.below hb11 hrk10.lt
  clear hb11 hw10 hr10 hrs10 hrk10
  go_wp2_with fail
  refine (eqI_any _ _ n n c (upd z i x) (upd z i x) _ (rd_of hr11) (rd_of hrs11) (fun _ _ => rfl) hn).mono ?_
  rintro e w12 ⟨rfl, m12, rfl⟩
  go_wp2_with fail
  refine (held_any _ n n b3 1 (w11.drewN m12) (fun _ => ⟨rfl, hrk11⟩) hn (by omega) (by omega)).mono ?_
  rintro e w13 ⟨rfl, rfl⟩
  go_wp2_with fail
  go_ret
  exact ⟨rfl, below_drewN hw11 m12⟩

theorem lawDocWith (A : Option Addr) (n cap : Nat) (z : Nat → Int) (i x : Int) (w : World) (h : Rd w w.heap.size A n z) :
    Calls Try.prog 5 #[.slice A n cap, .int .i64 i, .int .i64 x] w fun e w' => e = .returned (.bool true) ∧ Below w.heap.size w w' := by
  by_cases hbig : (1048576 : Int) < (n : Int)
  · go_enter Try.func5, Try.ntmps5
    go_wp2_with fail
    go_ret
    exact ⟨rfl, Below.refl _ _⟩
  · cases hno : withB n z i x with
    | false => exact lawWith_no A n cap z i x w h (by omega) hno
    | true =>
      simp only [withB, Bool.and_eq_true, decide_eq_true_eq] at hno
      obtain ⟨hd, ⟨h0, hi⟩, hx⟩ := hno
      obtain ⟨k, rfl⟩ := Int.eq_ofNat_of_zero_le h0
      exact lawWith_yes A n cap k z x w h hd (by omega) hx
end Go.Proofs.Ytodcalghnoiaeaa
