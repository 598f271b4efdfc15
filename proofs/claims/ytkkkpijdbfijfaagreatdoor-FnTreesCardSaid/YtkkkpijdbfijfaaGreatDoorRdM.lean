/- A node read, of the other side: the walk. -/
import Derived.Test.YtkkkpijdbfijfaaGreatDoorRdL
import Derived.Deep.RegionHeld3
namespace Go.Proofs.YtkkkpijdbfijfaaGreatDoor
open Go.RowKit Go.Deep

def IntsN (d : Nd) : Prop := I64 d.value
set_option maxRecDepth 100000 in
set_option maxHeartbeats 4000000 in
theorem sNode_leaf (u : ByteArray) (s : ByteArray) (w : World) (hs : s.size ≤ 4194304) (hu : s = one1 108 ++ u) :
    Calls Tryz.prog 31 #[.string s] w fun e w' => ∃ d, e = .returned (ndV d) ∧ Means s d ∧ Below w.heap.size w w' := by
  have hsz : s.size = 1 + u.size := by rw [hu, ByteArray.size_append]; rfl
  have hne : s.toList.isEmpty = false := list_full (by intro e; rw [e] at hsz; have : (⟨#[]⟩ : ByteArray).size = 0 := rfl; omega)
  have hsp : 0 < s.size := by omega
  have hb0 : (s[0].toNat : Int) = 108 := by
    have h2 := byte_at s hsp
    have h3 : s.data.toList = 108 :: u.data.toList := by rw [hu, data_app]; rfl
    rw [h3] at h2
    have : (108 : UInt8) = s[0] := Option.some.inj h2
    rw [← this]; rfl
  have hcut : s.extract 1 s.size = u := by
    apply ba_ext
    rw [Lib.extract_data, ← size_len, hu, data_app]
    simp [one1]
    exact List.take_of_length_le (by rw [size_len]; exact Nat.le_refl _)
  have hu4 : u.size ≤ 4194304 := by omega
  have HU := hid hu
  have j1 : (1 : Int) ≤ (s.size : Int) := by omega
  have j0 : (0 : Int) < (s.size : Int) := by omega
  clear hu hsz
  go_enter Tryz.func31, Tryz.ntmps31
  go_wp2_with fail
  refine (num_gen u _ hu4).mono ?_
  rintro e w2 ⟨x, b, hx, hy, rfl, rfl⟩
  have HY := hid hy
  clear hy
  go_wp2_with fail
  (try simp only [Exit.inBlock, Exit.then])
  refine bodyPost_ret (results_cell_row rfl _ _ w.heap.size 42 #[.int .i64 0, .int .i64 0, .int .i64 0, .int .i64 0, .bool false, .int .i64 x] (0, 0) _ rfl (Blk.new w _ _) Tryz.underlying42 rfl size_nodeT) rfl ?_
  exact ⟨⟨0, 0, 0, 0, false, x⟩, rfl, by rw [HU.out]; exact means_leaf HY.out, (Below.refl w.heap.size w).alloc (Nat.le_refl _) _⟩
set_option maxRecDepth 100000 in
theorem sNode_empty (w : World) :
    Calls Tryz.prog 31 #[.string ⟨#[]⟩] w fun e w' => ∃ d, e = .returned (ndV d) ∧ Means ⟨#[]⟩ d ∧ Below w.heap.size w w' := by
  go_enter Tryz.func31, Tryz.ntmps31
  go_wp2_with fail
  (try simp only [Exit.inBlock, Exit.then])
  refine bodyPost_ret (results_cell_row rfl _ _ w.heap.size 42 #[.int .i64 0, .int .i64 0, .int .i64 0, .int .i64 0, .bool false, .int .i64 0] (0, 0) _ rfl (Blk.new w _ _) Tryz.underlying42 rfl size_nodeT) rfl ?_
  exact ⟨⟨0, 0, 0, 0, false, 0⟩, rfl, means_empty, (Below.refl w.heap.size w).alloc (Nat.le_refl _) _⟩
end Go.Proofs.YtkkkpijdbfijfaaGreatDoor
