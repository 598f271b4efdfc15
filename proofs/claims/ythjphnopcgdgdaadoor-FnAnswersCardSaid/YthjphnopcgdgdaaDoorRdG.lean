/- A document read, of the program. -/
import Derived.Test.YthjphnopcgdgdaaDoorRdF
namespace Go.Proofs.YthjphnopcgdgdaaDoor
open Go.RowKit Go.Deep

def NumAns (s : ByteArray) (w : World) (e : Ending) (w' : World) : Prop :=
  ((∃ x, I64 x ∧ numS x = s ∧ e = .returned (.tuple #[.int .i64 x, .bool true])) ∨ ((∀ x, I64 x → numS x ≠ s) ∧ e = .returned (.tuple #[.int .i64 0, .bool false]))) ∧ Below w.heap.size w w'
theorem i64_big : I64 9999999 := by unfold I64; omega
theorem numS_big : numS 9999999 = ⟨#[45]⟩ := by unfold numS; rw [if_pos rfl]
theorem numS_dec {x : Int} (h : x ≠ 9999999) : numS x = decS x := by unfold numS; rw [if_neg h]
/-- The words of a text, at most seven. -/
def wordsD (s : ByteArray) : List ByteArray := Lib.splitB (one1 44) 0 (min 7 (s.size + 1) - 1) s
theorem words_len (s : ByteArray) : (wordsD s).length ≤ 7 := by
  have := Lib.splitB_length_le (one1 44) 0 (min 7 (s.size + 1) - 1) s
  unfold wordsD
  omega
theorem words_pos (s : ByteArray) : 0 < (wordsD s).length := by
  unfold wordsD
  generalize min 7 (s.size + 1) - 1 = k
  cases k with
  | zero => rw [Lib.splitB_zero]; simp
  | succ k =>
    unfold Lib.splitB
    split <;> simp
theorem join_size_ge (f : Nat → ByteArray) (sep : ByteArray) (hs : sep.size = 1) : ∀ n, n ≤ (joinTo f sep n).size + 1
  | 0 => by omega
  | 1 => by omega
  | n + 2 => by
    have ih := join_size_ge f sep hs (n + 1)
    show n + 2 ≤ ((if 0 < n + 1 then joinTo f sep (n + 1) ++ sep else _) ++ f (n + 1)).size + 1
    rw [if_pos (by omega), ByteArray.size_append, ByteArray.size_append, hs]
    omega
theorem words_doc {n : Nat} {z : Nat → Int} (h : docB n z = true) : wordsD (docS n z) = (List.range n).map fun i => numS (z i) := by
  obtain ⟨h1, h6, hall⟩ := docB_true h
  obtain ⟨m, rfl⟩ : ∃ m, n = m + 1 := ⟨n - 1, by omega⟩
  have hge := join_size_ge (fun i => numS (z i)) (one1 44) rfl (m + 1)
  unfold wordsD
  rw [docS_yes h]
  exact split_join m _ (fun i => numS (z i)) (fun i _ => numS_noC _ (.inl (by decide))) (by omega)
theorem words_join (s : ByteArray) : joinTo (fun i => (wordsD s).getD i ByteArray.empty) (one1 44) (wordsD s).length = s := join_split _ s
theorem joinTo_congr {f g : Nat → ByteArray} {sep : ByteArray} : ∀ n, (∀ i, i < n → f i = g i) → joinTo f sep n = joinTo g sep n
  | 0, _ => rfl
  | n + 1, h => by
    show (if 0 < n then joinTo f sep n ++ sep else joinTo f sep n) ++ f n = (if 0 < n then joinTo g sep n ++ sep else joinTo g sep n) ++ g n
    rw [joinTo_congr n (fun i hi => h i (by omega)), h n (by omega)]
theorem words_text {s : ByteArray} {z : Nat → Int} (hz : ∀ i, i < (wordsD s).length → (wordsD s)[i]? = some (numS (z i))) (hd : docB (wordsD s).length z = true) : s = docS (wordsD s).length z := by
  rw [docS_yes hd]
  conv => lhs; rw [← words_join s]
  refine joinTo_congr _ fun i hi => ?_
  rw [List.getD_eq_getElem?_getD, hz i hi]
  rfl
theorem may_i64 {x : Int} (h : may x = true) : I64 x := by have := may_bd h; unfold I64; omega
theorem docB_congrT {n : Nat} {z y : Nat → Int} (h : ∀ i, i < n → z i = y i) : docB n z = docB n y := by
  have key : ∀ (z y : Nat → Int), (∀ i, i < n → z i = y i) → docB n z = true → docB n y = true := by
    intro z y h hd
    obtain ⟨h1, h6, hall⟩ := docB_true hd
    unfold docB
    rw [decide_eq_true h1, decide_eq_true h6, allTo_of fun i hi => by rw [← h i hi]; exact hall i hi]
    rfl
  cases hz : docB n z
  · cases hy : docB n y
    · rfl
    · have := key y z (fun i hi => (h i hi).symm) hy
      rw [this] at hz; cases hz
  · exact (key z y h hz).symm

theorem split_mem {c : UInt8} : ∀ (k : Nat) (s x : ByteArray), x ∈ Lib.splitB (one1 c) 0 k s → x.size ≤ s.size
  | 0, s, x, h => by
    rw [Lib.splitB_zero] at h
    obtain rfl : x = s := by simpa using h
    exact Nat.le_refl _
  | k + 1, s, x, h => by
    rcases part_or c s with hn | ⟨t, r, rfl, hn⟩
    · rw [split_no _ hn] at h
      obtain rfl : x = s := by simpa using h
      exact Nat.le_refl _
    · rw [split_at k hn] at h
      rw [size_app3]
      rcases List.mem_cons.1 h with rfl | h
      · omega
      · have := split_mem k r x h
        omega
theorem words_size {s x : ByteArray} {k : Nat} (h : (wordsD s)[k]? = some x) : x.size ≤ s.size := split_mem _ s x (List.mem_of_getElem? h)
theorem cells_word {L : List ByteArray} {N k : Nat} {x : ByteArray} (h : L[k]? = some x) : (Lib.cellsOf L N)[k]? = some (.string x) := by
  have hk : k < L.length := (List.getElem?_eq_some_iff.1 h).1
  unfold Lib.cellsOf
  rw [List.getElem?_toArray, List.getElem?_append_left (by rw [List.length_map]; exact hk), List.getElem?_map, h]
  rfl
/-- The library's greatest length of a search holds some number. -/
def LenOk (w : World) : Prop := ∃ m, w.cell? ⟨0, 0, none⟩ = some (.int .i64 m)
theorem LenOk.below {w w' : World} (h : LenOk w) (hb : Below w.heap.size w w') : LenOk w' := by
  obtain ⟨m, hm⟩ := h
  exact ⟨m, (hb.cell (p := ⟨0, 0, none⟩) (cell_lt hm)).trans hm⟩
def ReadAns (s : ByteArray) (w : World) (e : Ending) (w' : World) : Prop :=
  ((∃ n z b c, docB n z = true ∧ s = docS n z ∧ e = .returned (.tuple #[.slice (some ⟨b, 0, none⟩) n c, .bool true]) ∧ w.heap.size ≤ b ∧ Row w' 2 b n z) ∨
   ((∀ n z, docB n z = true → s ≠ docS n z) ∧ e = .returned (.tuple #[.slice none 0 0, .bool false]))) ∧ Below w.heap.size w w'

end Go.Proofs.YthjphnopcgdgdaaDoor
