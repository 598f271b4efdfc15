/- What both sides answer of an ensemble's text, as the laws want it; the law of ReadEns. -/
import Derived.Test.YtmkipdhappikhaaGreatDoorImX
import Derived.Test.YtmkipdhappikhaaGreatDoorEnT
import Derived.Test.YtmkipdhappikhaaGreatDoorRdI
namespace Go.Proofs.YtmkipdhappikhaaGreatDoor
open Go.RowKit Go.Deep

theorem Laid.congr {w : World} {L H n : Nat} {A : Option Addr} {len len' : Nat → Nat} {g g' : Nat → Nat → Nd} (h : Laid w L H A n len g) (he : ∀ i, i < n → len' i = len i ∧ ∀ j, j < len i → g' i j = g i j) : Laid w L H A n len' g' := by
  obtain ⟨gg, bl, cp, h1, h2⟩ := h
  refine ⟨gg, bl, cp, fun h0 => ?_, fun i hi => ?_⟩
  · obtain ⟨a, b, c, d, e⟩ := h1 h0
    exact ⟨a, b, c, d, fun i hi => by rw [(he i hi).1]; exact e i hi⟩
  · obtain ⟨a, b, c, d⟩ := h2 i hi
    refine ⟨a, b, ?_, d⟩
    rw [(he i hi).1]
    exact RowN.congr c (fun j hj => ((he i hi).2 j hj).symm)
theorem en_formL {s : ByteArray} {w : World} {e : Ending} {w' : World} (h : EnL s w e w') : ∃ f b n len g A c m, EnIs s f b n len g m ∧ n ≤ 12 ∧ (∀ i, i < n → len i ≤ 15) ∧ e = .returned (.tuple #[enV f b A n c, .bool m]) ∧ Laid w' w.heap.size w'.heap.size A n len g ∧ Below w.heap.size w w' := by
  rcases h with ⟨⟨f, b, n, len, g, A, c, h1, h2, rfl, h3⟩ | ⟨h1, rfl⟩, hb⟩
  · exact ⟨f, b, n, len, g, A, c, true, .inl ⟨rfl, h1, h2⟩, (ens_in h1).2.2.1, fun i hi => tree_le ((ens_in h1).2.2.2 i hi), rfl, h3, hb⟩
  · exact ⟨0, 0, 0, fun _ => 0, fun _ _ => zNd, none, 0, false, .inr ⟨rfl, rfl, rfl, rfl, h1⟩, by omega, fun i hi => absurd hi (Nat.not_lt_zero i), rfl, laid_none, hb⟩
theorem en_sameL {s : ByteArray} {f b : Int} {n : Nat} {len : Nat → Nat} {g : Nat → Nat → Nd} {m : Bool} (HA : EnIs s f b n len g m) {w : World} {e : Ending} {w' : World} (h : EnL s w e w') :
    ∃ A c, e = .returned (.tuple #[enV f b A n c, .bool m]) ∧ Laid w' w.heap.size w'.heap.size A n len g ∧ Below w.heap.size w w' := by
  rcases h with ⟨⟨f', b', n', len', g', A, c, h1, h2, rfl, h3⟩ | ⟨h1, rfl⟩, hb⟩
  · rcases HA with ⟨rfl, k1, k2⟩ | ⟨rfl, rfl, rfl, rfl, k⟩
    · obtain ⟨rfl, rfl, hn, he⟩ := ens_inj h1 k1 (h2.symm.trans k2)
      subst hn
      exact ⟨A, c, rfl, h3.congr he, hb⟩
    · exact absurd h2 (k _ _ _ _ _ h1)
  · rcases HA with ⟨rfl, k1, k2⟩ | ⟨rfl, rfl, rfl, rfl, k⟩
    · exact absurd k2 (h1 _ _ _ _ _ k1)
    · exact ⟨none, 0, rfl, laid_none, hb⟩

/-- The two answers of the law, each in its box, their trees where they lie. -/
structure LE (w0 : World) (pb gb : Nat) (f b : Int) (A1 : Option Addr) (c1 : Nat) (A2 : Option Addr) (c2 n : Nat) (len : Nat → Nat) (g : Nat → Nat → Nd) (L1 H1 L2 H2 : Nat) (g2 : Nat → Nat → Nd) (W : World) : Prop where
  hp : Blk W pb 26 #[.int .i64 f, .int .i64 b, .slice A1 n c1]
  hg : Blk W gb 26 #[.int .i64 f, .int .i64 b, .slice A2 n c2]
  l1 : Laid W L1 H1 A1 n len g
  l2 : Laid W L2 H2 A2 n len g2
  s1 : H1 ≤ W.heap.size
  s2 : H2 ≤ W.heap.size
  bel : Below w0.heap.size w0 W
theorem LE.below {w0 : World} {pb gb : Nat} {f b : Int} {A1 : Option Addr} {c1 : Nat} {A2 : Option Addr} {c2 n : Nat} {len : Nat → Nat} {g : Nat → Nat → Nd} {L1 H1 L2 H2 : Nat} {g2 : Nat → Nat → Nd} {W W' : World}
    (h : LE w0 pb gb f b A1 c1 A2 c2 n len g L1 H1 L2 H2 g2 W) (hb : Below W.heap.size W W') : LE w0 pb gb f b A1 c1 A2 c2 n len g L1 H1 L2 H2 g2 W' :=
  ⟨h.hp.below hb h.hp.lt, h.hg.below hb h.hg.lt, h.l1.below hb h.s1, h.l2.below hb h.s2, Nat.le_trans h.s1 hb.size, Nat.le_trans h.s2 hb.size, h.bel.trans (hb.mono h.bel.size)⟩
theorem LE.kept {w0 : World} {pb gb : Nat} {f b : Int} {A1 : Option Addr} {c1 : Nat} {A2 : Option Addr} {c2 n : Nat} {len : Nat → Nat} {g : Nat → Nat → Nd} {L1 H1 L2 H2 : Nat} {g2 g3 : Nat → Nat → Nd} {W W' : World}
    (h : LE w0 pb gb f b A1 c1 A2 c2 n len g L1 H1 L2 H2 g2 W) (hk : KeptR L2 H2 W W') (hl : Laid W' L2 H2 A2 n len g3) (h1 : pb < L2) (h2 : H2 ≤ gb) (h3 : H1 ≤ L2) (h4 : w0.heap.size ≤ L2) : LE w0 pb gb f b A1 c1 A2 c2 n len g L1 H1 L2 H2 g3 W' :=
  ⟨h.hp.kept hk (.inl h1), h.hg.kept hk (.inr h2), h.l1.kept hk (.inl h3) h.s1, hl, Nat.le_trans h.s1 hk.2.2.2.1, Nat.le_trans h.s2 hk.2.2.2.1, hk.below h.bel h4 h.bel.size⟩

end Go.Proofs.YtmkipdhappikhaaGreatDoor
