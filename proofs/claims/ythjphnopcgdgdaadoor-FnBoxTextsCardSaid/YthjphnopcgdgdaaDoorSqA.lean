/- Drawn spans; unlike spans of a box have unlike texts; the law's walk. -/
import Derived.Test.YthjphnopcgdgdaaDoorDiA
import Derived.Test.YthjphnopcgdgdaaDoorRdL
import Derived.Test.YthjphnopcgdgdaaDoorBxT
namespace Go.Proofs.YthjphnopcgdgdaaDoor
open Go.RowKit Go.Deep

/-! ### pure -/
theorem spN_num {d : Sp} (h : d.lo ≤ d.hi) : spN d = decS d.lo ++ one1 46 ++ (one1 46 ++ decS d.hi) := by
  unfold spN
  rw [if_pos h]
  apply ba_ext
  simp only [data_app, List.append_assoc]
  rfl
theorem noC_not {c : UInt8} {a b : ByteArray} (h : NoC c (a ++ one1 c ++ b)) : False := by
  apply h
  rw [data_app, data_app]
  simp [one1]
/-- The end of a span's text tells its number and its mark. -/
theorem tail_inj {x y : Int} {p q : Bool} (hx : I64 x) (hy : I64 y) (h : (if p = true then decS x ++ one1 43 else decS x) = if q = true then decS y ++ one1 43 else decS y) : x = y ∧ p = q := by
  have nx : NoC 43 (decS x) := decS_noC _ (.inl (by decide))
  have ny : NoC 43 (decS y) := decS_noC _ (.inl (by decide))
  have ea : ∀ a : ByteArray, a ++ one1 43 = a ++ one1 43 ++ ByteArray.empty := fun a => by rw [ByteArray.append_empty]
  cases p <;> cases q
  · exact ⟨decS_inj hx hy (by simpa using h), rfl⟩
  · exfalso
    have h' : decS x = decS y ++ one1 43 := by simpa using h
    rw [h', ea] at nx
    exact noC_not nx
  · exfalso
    have h' : decS x ++ one1 43 = decS y := by simpa using h
    rw [← h', ea] at ny
    exact noC_not ny
  · have h' : decS x ++ one1 43 = decS y ++ one1 43 := by simpa using h
    rw [ea, ea (decS y)] at h'
    exact ⟨decS_inj hx hy (part_uniq nx ny h').1, rfl⟩
theorem spS_num {d : Sp} (h : d.lo ≤ d.hi) : spS d = decS d.lo ++ one1 46 ++ (one1 46 ++ if d.gone = true then decS d.hi ++ one1 43 else decS d.hi) := by
  unfold spS
  rw [spN_num h]
  split
  · apply ba_ext
    simp only [data_app, List.append_assoc]
    rfl
  · rfl
theorem spS_none {d : Sp} (h : ¬ d.lo ≤ d.hi) (hg : d.gone = true) : spS d = ⟨#[110, 111, 110, 101, 43]⟩ := by
  unfold spS spN
  rw [if_pos hg, if_neg h]
  rfl
theorem decS_dot (x : Int) : NoC 46 (decS x) := by
  intro hm
  have : (46 : UInt8) ∈ Lib.itoa x := by simpa [decS] using hm
  have := itoa_byte this
  simp at this
theorem spS_inj {a b : Sp} (ha : spanB a = true) (hb : spanB b = true) (h : spS a = spS b) : a = b := by
  have ia := span_in ha
  have ib := span_in hb
  have nn : NoC 46 (⟨#[110, 111, 110, 101, 43]⟩ : ByteArray) := by unfold NoC; decide
  obtain ⟨al, ah, ag⟩ := a
  obtain ⟨bl, bh, bg⟩ := b
  rcases spanB_iff.1 ha with ⟨a1, _, _⟩ | ⟨a1, a2, a3⟩
  · rcases spanB_iff.1 hb with ⟨b1, _, _⟩ | ⟨b1, b2, b3⟩
    · rw [spS_num a1, spS_num b1] at h
      obtain ⟨e1, e2⟩ := part_uniq (decS_dot al) (decS_dot bl) h
      obtain ⟨e3, e4⟩ := tail_inj ia.2 ib.2 (first_byte e2).2
      have e5 := decS_inj ia.1 ib.1 e1
      simp only at e3 e4 e5
      subst e3 e4 e5
      rfl
    · exfalso
      simp only at b1 b2 b3
      subst b1 b2 b3
      rw [spS_num a1, spS_none (by simp) rfl] at h
      rw [← h] at nn
      exact noC_not nn
  · simp only at a1 a2 a3
    subst a1 a2 a3
    rcases spanB_iff.1 hb with ⟨b1, _, _⟩ | ⟨b1, b2, b3⟩
    · exfalso
      rw [spS_num b1, spS_none (by simp) rfl] at h
      rw [h] at nn
      exact noC_not nn
    · simp only at b1 b2 b3
      subst b1 b2 b3
      rfl
theorem box_one (d : Sp) : boxB 1 (fun _ => d) = spanB d := by
  cases h : spanB d
  · cases h2 : boxB 1 (fun _ => d)
    · rfl
    · have := (boxB_iff.1 h2).2.2 0 (by omega)
      rw [h] at this
      cases this
  · exact boxB_iff.2 ⟨by omega, by omega, fun i hi => h⟩

/-! ### draws -/
abbrev spA (d : Sp) : Array Value := #[.int .i64 d.lo, .int .i64 d.hi, .bool d.gone]
set_option maxRecDepth 100000 in
set_option maxHeartbeats 2000000 in
theorem drawSpan (A : Option Addr) (n cap : Nat) (w : World) (h : Bs w w.heap.size A n) (hn : n ≤ 4194304) :
    Calls Tryd.prog 14 #[.slice A n cap] w fun e w' => ∃ d : Sp, e = .returned (spV d) ∧ SpIn d ∧ Below w.heap.size w w' := by
  have hb0 := (Below.refl w.heap.size w).alloc (Nat.le_refl _) (.cells #[.int .i64 0, .int .i64 0, .bool false] 32)
  have h1 := Blk.new w 32 #[.int .i64 0, .int .i64 0, .bool false]
  have hB0 : Bs (w.alloc (.cells #[.int .i64 0, .int .i64 0, .bool false] 32)) (w.alloc (.cells #[.int .i64 0, .int .i64 0, .bool false] 32)).heap.size A n := Bs.more (Bs.keep h fun _ hp => hb0.cell hp) hb0.size
  go_enter Tryd.func14, Tryd.ntmps14
  go_wp2_with fail
  generalize w.alloc (.cells #[.int .i64 0, .int .i64 0, .bool false] 32) = W0 at hb0 h1 hB0 ⊢
  refine (open_draw A n cap W0 hB0 hn).mono ?_
  rintro e w1 ⟨rfl, hR1, hb1⟩
  have hl2 := h1.lt
  have k1 := h1.below hb1 h1.lt
  have kb := hb0.trans (hb1.mono hb0.size)
  generalize W0.heap.size = R at hR1 hl2 ⊢
  clear hB0 h1 hb0 hb1 h
  go_wp2_with fail
  refine (span_draw2 R n cap A w1 hR1).mono ?_
  rintro e w2 ⟨d, rfl, hd, hR2, hg2⟩
  have m1 := k1.grown hg2 (by intro e; injection e with e; omega)
  have mb := kb.grown hg2 kb.size (fun k e => by injection e with e; omega)
  clear hg2 k1 kb hR1
  have c0 := m1.cell 0; have c1 := m1.cell 1; have c2 := m1.cell 2
  have f0 := m1.frozen 0; have f1 := m1.frozen 1; have f2 := m1.frozen 2
  go_wp2_with fail
  (try simp only [Exit.inBlock, Exit.then])
  refine bodyPost_ret (results_cell_row rfl _ _ w.heap.size 32 (spA d) (0, 0) _ rfl (((m1.set_ 0 (.int .i64 d.lo)).set_ 1 (.int .i64 d.hi)).set_ 2 (.bool d.gone)) Tryd.underlying32 rfl size_span) rfl ?_
  exact ⟨d, rfl, hd, ((mb.setCell (p := ⟨w.heap.size, 0, none⟩) (Nat.le_refl _) _).setCell (p := ⟨w.heap.size, 1, none⟩) (Nat.le_refl _) _).setCell (p := ⟨w.heap.size, 2, none⟩) (Nat.le_refl _) _⟩
end Go.Proofs.YthjphnopcgdgdaaDoor
