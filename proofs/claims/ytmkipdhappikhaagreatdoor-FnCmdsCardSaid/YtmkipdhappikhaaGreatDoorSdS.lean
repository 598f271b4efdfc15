/- Strings drawn by a code, on the base of the trees. -/
import Derived.Test.YtmkipdhappikhaaGreatDoorK6
import Derived.Test.YtmkipdhappikhaaGreatDoorTxA
import Derived.Laws.OwnMore
import Derived.WalkMore
import Derived.IntWalk
import Derived.Laws.Concat
import Derived.LoopN
import Derived.Deep.RegionWith
namespace Go.Proofs.YtmkipdhappikhaaGreatDoor
open Go.RowKit Go.Deep

theorem cell_one_newD (w : World) (x : Value) (t : TypeId) : ∀ j u, [x][j]? = some u → (w.alloc (.cells #[x] t)).cell? ((⟨w.heap.size, 0, none⟩ : Addr).add j) = some u := fun j u hj => by
  obtain rfl : j = 0 := by rcases j with _ | j <;> simp_all
  simp at hj
  subst hj
  rw [Addr.add_lit]
  exact (Blk.new w t #[x]).cell 0
theorem belowN_any (R n cap : Nat) (A : Option Addr) (m : Int) (w : World) (h : Rs w R A n cap) (hm : m ≤ 256) :
    Calls Tryz.prog 29 #[.pointer (some ⟨R, 0, none⟩), .int .i64 m] w fun e w' =>
      ∃ x : Nat, e = .returned (.int .i64 (x : Int)) ∧ (0 < m → (x : Int) < m) ∧ Rs w' R A n cap ∧ w.grownBy w' (some R) := by
  by_cases hm1 : 1 < m
  · refine (below_draw R n cap A m w h hm1 hm).mono ?_
    rintro e w1 ⟨x, rfl, h0, h1, hR, hg⟩
    obtain ⟨x, rfl⟩ := Int.eq_ofNat_of_zero_le h0
    exact ⟨x, rfl, fun _ => h1, hR, hg⟩
  · go_enter Tryz.func29, Tryz.ntmps29
    go_wp2_with fail
    go_ret
    exact ⟨0, rfl, fun h => h, h, World.grownBy.refl w _⟩

/-- A string of at most m bytes is drawn. -/
def DrawnS (R n cap : Nat) (A : Option Addr) (m : Nat) (w : World) (e : Ending) (w' : World) : Prop :=
  ∃ s : ByteArray, e = .returned (.string s) ∧ s.size ≤ m ∧ Rs w' R A n cap ∧ w.grownBy w' (some R)

def bytesOf (l : List Nat) : ByteArray := ⟨(l.map UInt8.ofNat).toArray⟩
theorem bytesOf_size (l : List Nat) : (bytesOf l).size = l.length := by
  show ((l.map UInt8.ofNat).toArray).size = _
  simp
def byteV (l : List Nat) : List Value := l.map fun (d : Nat) => Value.int .u8 (d : Int)
theorem byteV_len (l : List Nat) : (byteV l).length = l.length * 1 := by simp [byteV]
theorem byteV_snoc (l : List Nat) (x : Nat) : byteV (l ++ [x]) = byteV l ++ [.int .u8 (x : Int)] := by simp [byteV]
theorem info_u8 : (Tryz.prog.info? 5).map (fun i => (i.zero, i.size, i.bytes)) = some (some (.int .u8 0), 1, 1) := by kernel_rfl
theorem u8_conv (l : List Nat) (hl : ∀ d ∈ l, d < 256) (W : World) (base g c : Nat) (h : W.ownsRow base 5 1 (.slice (some ⟨g, 0, none⟩) l.length c) l.length (byteV l)) :
    (convert 22 9 (.slice (some ⟨g, 0, none⟩) l.length c)).run Tryz.prog W = .ok (.string (bytesOf l)) W := by
  have hr := run_convert_bytes_back W 22 9 5 ⟨g, 0, none⟩ c (l.map UInt8.ofNat) Tryz.underlying22 Tryz.underlying5 Tryz.underlying9 (fun j hj => by
    have hj' : j < l.length := by simpa using hj
    rw [Addr.add_lit, Nat.zero_add, h.cellAt j (by omega)]
    simp only [byteV, List.getElem?_map, List.getElem?_eq_getElem hj', Option.map_some]
    rw [List.getElem_map]
    exact congrArg some ((u8vT (n := l[j]) (m := l[j]) (Nat.mod_eq_of_lt (hl _ (List.getElem_mem hj')))).symm))
  rw [List.length_map] at hr
  exact hr

theorem own_formGT {w : World} {base : Nat} {e : TypeId} {size : Nat} {v : Value} {n : Nat} {xs : List Value} (h : w.ownsRow base e size v n xs) (hn : 0 < n) : ∃ g c, v = .slice (some ⟨g, 0, none⟩) n c := by
  rcases h.2 with ⟨_, h0⟩ | ⟨g, cap, cur, hv, _⟩
  · omega
  · exact ⟨g, cap, hv⟩

theorem grown_drew1T (w : World) (r : Option Nat) : w.grownBy w.drew r := ⟨rfl, rfl, rfl, Nat.le_refl _, fun _ _ _ => rfl⟩
theorem hurt_pick (q : Nat) (hq : q < 4) : ∃ x : ByteArray, (#[Value.string ⟨#[0]⟩, .string ⟨#[55]⟩, .string ⟨#[255]⟩, .string ⟨#[32]⟩] : Array Value)[q]? = some (.string x) ∧ x.size = 1 := by
  obtain rfl | rfl | rfl | rfl : q = 0 ∨ q = 1 ∨ q = 2 ∨ q = 3 := by omega
  all_goals exact ⟨_, rfl, rfl⟩

set_option maxRecDepth 100000 in
set_option maxHeartbeats 4000000 in
theorem hurt_draw (R n cap : Nat) (A : Option Addr) (s : ByteArray) (w : World) (h : Rs w R A n cap) (hs : s.size ≤ 250) :
    Calls Tryz.prog 30 #[.pointer (some ⟨R, 0, none⟩), .string s] w (DrawnS R n cap A 252 w) := by
  have hRw := h.lt
  go_enter Tryz.func30, Tryz.ntmps30
  go_wp2_with fail
  refine (belowN_any R n cap A 6 _ h (by omega)).mono ?_
  rintro e w1 ⟨k, rfl, hk, hR1, hg1⟩
  have hk6 := hk (by omega)
  have hR1w := hR1.lt
  clear hk
  by_cases e1 : k = 1
  · subst e1
    go_wp2_with fail
    refine (belowN_any R n cap A ((s.size : Int) + 1) _ hR1 (by omega)).mono ?_
    rintro e w2 ⟨i, rfl, hi, hR2, hg2⟩
    have hi2 := hi (by omega)
    have i1 : (i : Int) ≤ (s.size : Int) := by omega
    have hgg := hid (grown_trans hg1 hg2)
    clear hg1 hg2 hi
    go_wp2_with fail
    go_ret
    exact ⟨_, rfl, by rw [ByteArray.size_extract]; omega, hR2, hgg.out⟩
  by_cases e2 : k = 2
  · subst e2
    by_cases hz : (0 : Int) < (s.size : Int)
    · go_wp2_with fail
      refine (belowN_any R n cap A (s.size : Int) _ hR1 (by omega)).mono ?_
      rintro e w2 ⟨i, rfl, hi, hR2, hg2⟩
      have hi2 := hi (by omega)
      have hgg := hid (grown_trans hg1 hg2)
      have hR2w := hR2.lt
      clear hg1 hg2 hi
      obtain ⟨p1, hp1, hp1s⟩ : ∃ p1, s.extract 0 i = p1 ∧ p1.size ≤ s.size := ⟨_, rfl, by rw [ByteArray.size_extract]; omega⟩
      obtain ⟨p2, hp2, hp2s⟩ : ∃ p2, s.extract (i + 1) s.size = p2 ∧ p2.size + p1.size ≤ s.size := ⟨_, rfl, by rw [← hp1, ByteArray.size_extract, ByteArray.size_extract]; omega⟩
      have v1 : IntKind.i64.wrap ((i : Int) + 1) = (i : Int) + 1 := IntWalk.i64_in _ (by omega)
      have v2 : ((i : Int) + 1).toNat = i + 1 := by omega
      have g1 : (0 : Int) ≤ (i : Int) + 1 := by omega
      have g2 : (i : Int) + 1 ≤ (s.size : Int) := by omega
      have g3 : (0 : Int) ≤ (i : Int) := by omega
      have g4 : (i : Int) ≤ (s.size : Int) := by omega
      have HS2 := hid hp2s
      clear hp1s hp2s
      have RA : Rs (w2.alloc (.cells #[.string ⟨#[0]⟩, .string ⟨#[55]⟩, .string ⟨#[255]⟩, .string ⟨#[32]⟩] 9)).drew R A n cap := hR2.alloc _
      have RB : Rs w2.drew R A n cap := hR2
      go_wp2_with fail
      go_region_with (go_at_call 29; (first | (refine (belowN_any R n cap A 4 _ RA (by omega)).mono ?_) | (refine (belowN_any R n cap A 4 _ RB (by omega)).mono ?_)); rintro e w3 ⟨q, rfl, hq, hR3, hg3⟩; have hq4 := hq (by omega); clear hq; obtain ⟨x, hx, hxs⟩ := hurt_pick q (by omega); have cB := ((Blk.new w3 9 #[.string ⟨#[0]⟩, .string ⟨#[55]⟩, .string ⟨#[255]⟩, .string ⟨#[32]⟩]).cell q).trans hx; (first | (have cA := ((Blk.grown (Blk.new w2 9 #[.string ⟨#[0]⟩, .string ⟨#[55]⟩, .string ⟨#[255]⟩, .string ⟨#[32]⟩]).drew hg3 (by simp; omega)).cell q).trans hx) | skip); have z1 : ¬ 9223372036854775807 < p1.size + x.size := (by have := HS2.out; omega); have z2 : ¬ 9223372036854775807 < p1.size + x.size + p2.size := (by have := HS2.out; omega); have q1 : (q : Int) < 4 := (by omega); clear hx)
      all_goals go_wp2_with fail
      all_goals go_ret
      · exact ⟨p1 ++ x ++ p2, rfl, by rw [ByteArray.size_append, ByteArray.size_append]; have := HS2.out; omega, hR3, grown_trans hgg.out (grown_trans (World.grownBy_alloc w2 _ (some R)) (grown_trans (grown_drew1T _ _) hg3))⟩
      · exact ⟨p1 ++ x ++ p2, rfl, by rw [ByteArray.size_append, ByteArray.size_append]; have := HS2.out; omega, hR3.alloc _, grown_trans hgg.out (grown_trans (grown_drew1T _ _) (grown_trans hg3 (World.grownBy_alloc w3 _ (some R))))⟩
    · go_wp2_with fail
      go_ret
      exact ⟨s, rfl, by omega, hR1, hg1⟩
  by_cases e3 : k = 3
  · subst e3
    go_wp2_with fail
    refine (belowN_any R n cap A 4 _ (hR1.alloc _) (by omega)).mono ?_
    rintro e w2 ⟨i, rfl, hi, hR2, hg2⟩
    have hi2 := hi (by omega)
    have hB := Blk.grown (Blk.new w1 _ _) hg2 (by simp; omega)
    have c0 := hB.cell 0; have c1 := hB.cell 1; have c2 := hB.cell 2; have c3 := hB.cell 3
    simp at c0 c1 c2 c3
    have hgg := hid (grown_trans hg1 (grown_trans (World.grownBy_alloc w1 _ (some R)) hg2))
    clear hB hg2 hg1 hi
    have z0 : ¬ 9223372036854775807 < s.size + 1 := by omega
    obtain rfl | rfl | rfl | rfl : i = 0 ∨ i = 1 ∨ i = 2 ∨ i = 3 := by omega
    all_goals
      go_wp2_with fail
      go_ret
      exact ⟨_, rfl, by rw [ByteArray.size_append]; show s.size + 1 ≤ 252; omega, hR2, hgg.out⟩
  · go_wp2_with fail
    go_ret
    exact ⟨s, rfl, by omega, hR1, hg1⟩

end Go.Proofs.YtmkipdhappikhaaGreatDoor
