/- Commands read by the other side: what lies in memory; names. -/
import Derived.Test.YtmkipdhappikhaaGreatDoorCmR
import Derived.Test.YtmkipdhappikhaaGreatDoorCmF
import Derived.Deep.RegionWith
namespace Go.Proofs.YtmkipdhappikhaaGreatDoor
open Go.RowKit Go.Deep
set_option linter.unusedVariables false
set_option linter.unusedSimpArgs false

abbrev zD : Array Value := cmC 0 0 0 0 none 0 0 ⟨#[]⟩
/-- What lies in memory: the answer's cell and the command's. -/
structure GS6 (w0 : World) (q : Nat) (C : Array Value) (W : World) : Prop where
  res : Blk W w0.heap.size 35 zD
  cmd : Blk W q 35 C
  lt0 : w0.heap.size < q
  bel : Below w0.heap.size w0 W
section
variable {w0 W W' w5 : World} {q : Nat} {C : Array Value}
theorem GS6.below (h : GS6 w0 q C W) (hb : Below W.heap.size W W') : GS6 w0 q C W' := ⟨h.res.below hb h.res.lt, h.cmd.below hb h.cmd.lt, h.lt0, h.bel.trans (hb.mono h.bel.size)⟩
theorem GS6.set (h : GS6 w0 q C W) (o : Nat) (v : Value) : GS6 w0 q (C.setIfInBounds o v) (W.setCell ⟨q, o, none⟩ v) :=
  ⟨h.res.far (p := ⟨q, o, none⟩) (by show w0.heap.size ≠ q; have := h.lt0; omega) _, h.cmd.set_ o _, h.lt0, h.bel.setCell (p := ⟨q, o, none⟩) (by show w0.heap.size ≤ q; have := h.lt0; omega) _⟩
theorem GS6.grown (h : GS6 w0 q C W) {ob : Option Nat} (hg : W.grownBy W' ob) (hlo : ∀ x, ob = some x → q < x) : GS6 w0 q C W' :=
  have h0 := h.lt0
  ⟨h.res.grown hg (fun e => by have := hlo _ e.symm; omega), h.cmd.grown hg (fun e => by have := hlo _ e.symm; omega), h0, h.bel.grown hg h.bel.size (fun x e => by have := hlo _ e; omega)⟩
end
/-- The slice at A reads as the texts L, and lies above block q and below block H. -/
def RwS (w : World) (q H : Nat) (A : Option Addr) (L : List ByteArray) : Prop := H ≤ w.heap.size ∧ (0 < L.length → ∃ b off, A = some ⟨b, off, none⟩ ∧ q < b ∧ b < H ∧ ∀ (i : Nat) x, L[i]? = some x → w.cell? ⟨b, off + i, none⟩ = some (.string x))
section
variable {w w' : World} {q H : Nat} {A : Option Addr} {L : List ByteArray}
theorem RwS.below (h : RwS w q H A L) (hb : Below w.heap.size w w') : RwS w' q H A L := ⟨Nat.le_trans h.1 hb.size, fun h0 => by
  obtain ⟨b, off, e, h1, h2, h3⟩ := h.2 h0
  exact ⟨b, off, e, h1, h2, fun i x hx => (hb.cell (p := ⟨b, off + i, none⟩) (Nat.lt_of_lt_of_le h2 h.1)).trans (h3 i x hx)⟩⟩
theorem RwS.set (h : RwS w q H A L) (o : Nat) (v : Value) : RwS (w.setCell ⟨q, o, none⟩ v) q H A L := ⟨by simpa [World.setCell] using h.1, fun h0 => by
  obtain ⟨b, off, e, h1, h2, h3⟩ := h.2 h0
  refine ⟨b, off, e, h1, h2, fun i x hx => ?_⟩
  rw [World.cell?_of_block (Below.heap_setCell (w := w) ⟨q, o, none⟩ v b (fun e => by have e' : b = q := e; omega))]
  exact h3 i x hx⟩
theorem RwS.at_ (h : RwS w q H A L) {i : Nat} (hi : i < L.length) : ∃ b off x, A = some ⟨b, off, none⟩ ∧ L[i]? = some x ∧ w.cell? ⟨b, off + i, none⟩ = some (.string x) := by
  obtain ⟨b, off, e, _, _, h3⟩ := h.2 (by omega)
  exact ⟨b, off, L[i], e, List.getElem?_eq_getElem hi, h3 i _ (List.getElem?_eq_getElem hi)⟩
theorem RwS.grown {ob : Option Nat} (h : RwS w q H A L) (hg : w.grownBy w' ob) (hlo : ∀ x, ob = some x → H ≤ x) : RwS w' q H A L := ⟨Nat.le_trans h.1 hg.size, fun h0 => by
  obtain ⟨b, off, e, h1, h2, h3⟩ := h.2 h0
  have hb := hg.block b (Nat.lt_of_lt_of_le h2 h.1) (fun e => by have := hlo _ e.symm; omega)
  exact ⟨b, off, e, h1, h2, fun i x hx => (World.cell?_of_block hb).trans (h3 i x hx)⟩⟩
theorem rwS_nil (hH : H ≤ w.heap.size) : RwS w q H A [] := ⟨hH, fun h => absurd h (Nat.not_lt_zero _)⟩
theorem rwS_own {B c : Nat} (h : w.ownsRow B 9 1 (.slice A L.length c) L.length (strT L)) (hB : q < B) : RwS w q w.heap.size A L := ⟨Nat.le_refl _, fun h0 => by
  obtain ⟨gb, e, h2, _, h3⟩ := own_strT h h0
  refine ⟨gb, 0, e, ?_, h2, h3⟩
  have := (h.lt gb (by rw [e]; rfl)).1
  omega⟩
theorem RwS.tail {b off : Nat} {x : ByteArray} (h : RwS w q H (some ⟨b, off, none⟩) (x :: L)) : RwS w q H (some ⟨b, off + 1, none⟩) L := ⟨h.1, fun h0 => by
  obtain ⟨b', off', e, h1, h2, h3⟩ := h.2 (Nat.succ_pos _)
  injection e with e
  injection e with e1 e2 _
  subst e1 e2
  exact ⟨b, off + 1, rfl, h1, h2, fun i y hy => by rw [Nat.add_assoc, Nat.add_comm 1 i]; exact h3 (i + 1) y hy⟩⟩
end
/-- The other side's cut at a space, in full. -/
theorem cut_any (s : ByteArray) (hs : s.size ≤ 4194304) : ∃ t r m, t.size ≤ s.size ∧ r.size ≤ s.size ∧ ((m = true ∧ s = t ++ one1 32 ++ r ∧ NoC 32 t) ∨ (m = false ∧ t = s ∧ NoC 32 s)) ∧
    ∀ w, Calls Tryz.prog 45 #[.string s, .int .u8 32] w fun e w' => e = .returned (.tuple #[.string t, .string r, .bool m]) ∧ ∃ j, w' = w.drewN j := by
  rcases part_or 32 s with h | ⟨t, r, rfl, h⟩
  · exact ⟨s, ⟨#[]⟩, false, Nat.le_refl _, Nat.zero_le _, .inr ⟨rfl, rfl, h⟩, fun w => cut_miss s 32 32 w rfl h hs⟩
  · have e := size_app3 t r 32
    exact ⟨t, r, true, by rw [e]; omega, by rw [e]; omega, .inl ⟨rfl, rfl, h⟩, fun w => cut_hit t r 32 32 w rfl h hs⟩
/-- The words behind the name. -/
def restW (m : Bool) (r : ByteArray) : List ByteArray := if m = true then allW 32 r else []
theorem rest_cmd {s t r : ByteArray} {m : Bool} (hc : (m = true ∧ s = t ++ one1 32 ++ r ∧ NoC 32 t) ∨ (m = false ∧ t = s ∧ NoC 32 s)) {k a b u : Int} {n : Nat} {len : Nat → Nat} {z : Nat → Nat → Int} {x : ByteArray}
    (h : cmdB k a b u n len z x = true) (e : s = cmdS k a b u n len z x) (hk : k ≠ 1) : restW m r = (numsL k a b u).map decS ++ docsL n len z := by
  have hw := (words_no (form_of h) hk).2
  rw [cmdS_yes h] at e
  rw [← e] at hw
  rcases hc with ⟨rfl, rfl, hn⟩ | ⟨rfl, rfl, hn⟩
  · rw [allW_at hn] at hw
    exact (List.cons.inj hw).2
  · rw [allW_no hn] at hw
    exact (List.cons.inj hw).2
theorem sRead_all (s : ByteArray) (w : World) (hs : s.size ≤ 4194304) :
    Calls Tryz.prog 47 #[.string s] w fun e w' => ∃ (A : Option Addr) (n c b : Nat) (y : Nat → Int) (m : Bool), e = .returned (.tuple #[.slice A n c, .bool m]) ∧ n ≤ 6 ∧ (0 < n → A = some ⟨b, 0, none⟩ ∧ w.heap.size ≤ b ∧ Row w' 2 b n y) ∧
      (∀ n' y', docB n' y' = true → s = docS n' y' → docB n y = true ∧ docS n y = s) ∧ Below w.heap.size w w' := by
  by_cases h : ∃ n y, docB n y = true ∧ s = docS n y
  · obtain ⟨n, y, hd, rfl⟩ := h
    refine (sRead_yes n y w hd).mono ?_
    rintro e w' ⟨b, c, rfl, hb, hr, hbl⟩
    exact ⟨_, n, c, b, y, true, rfl, (docB_true hd).2.1, fun _ => ⟨rfl, hb, hr⟩, fun _ _ _ _ => ⟨hd, rfl⟩, hbl⟩
  · refine (sRead_no s w hs fun n z hz e => h ⟨n, z, hz, e⟩).mono ?_
    rintro e w' ⟨rfl, hbl⟩
    exact ⟨none, 0, 0, 0, fun _ => 0, false, rfl, by omega, fun h0 => absurd h0 (by omega), fun n z hz e => absurd ⟨n, z, hz, e⟩ h, hbl⟩
/-- A command with the same documents. -/
theorem same_cmd {k a b t : Int} {n n' : Nat} {len len' : Nat → Nat} {z z' : Nat → Nat → Int} {x : ByteArray} (h : cmdB k a b t n' len' z' x = true) (hn : n = n') (he : ∀ i, i < n → docB (len i) (z i) = true ∧ docS (len i) (z i) = docS (len' i) (z' i)) :
    cmdB k a b t n len z x = true ∧ cmdS k a b t n len z x = cmdS k a b t n' len' z' x := by
  subst hn
  have hf := form_of h
  have hb : cmdB k a b t n len z x = true := by
    unfold cmdB docsF at h ⊢
    rw [docsB_congr (n := n) hf.2.2.1 (fun i hi => (he i hi).1)]
    exact h
  refine ⟨hb, ?_⟩
  rw [cmdS_yes hb, cmdS_yes h]
  have : docsL n len z = docsL n len' z' := List.map_congr_left fun i hi => (he i (List.mem_range.1 hi)).2
  unfold wordsC
  rw [this]

/-- What lies in memory while the documents are read. -/
structure GD6 (w0 : World) (q H : Nat) (k a b t : Int) (x : ByteArray) (D : Option Addr) (n dc : Nat) (Ad : Nat → Option Addr) (bl len cp : Nat → Nat) (z : Nat → Nat → Int) (Aw : Option Addr) (L : List ByteArray) (W : World) : Prop where
  ge : GS6 w0 q (cmC k a b t D n dc x) W
  rows : W.ownsRow H 67 1 (.slice D n dc) n (hdQ n Ad len cp)
  docs : RowsQ W H n Ad bl len z
  wds : RwS W q H Aw L
  lt1 : q < H
section
variable {w0 W W' w5 : World} {q H : Nat} {k a b t : Int} {x : ByteArray} {D A5 Aw : Option Addr} {n dc : Nat} {Ad : Nat → Option Addr} {bl len cp : Nat → Nat} {z : Nat → Nat → Int} {L : List ByteArray}
theorem GD6.below (h : GD6 w0 q H k a b t x D n dc Ad bl len cp z Aw L W) (hb : Below W.heap.size W W') : GD6 w0 q H k a b t x D n dc Ad bl len cp z Aw L W' := ⟨h.ge.below hb, own_belowT h.rows hb, h.docs.below hb, h.wds.below hb, h.lt1⟩
theorem GD6.apart (h : GD6 w0 q H k a b t x D n dc Ad bl len cp z Aw L W) {y : Nat} (hy : W.heap.size ≤ y) : ∀ i, i < n → 0 < len i → bl i ≠ y := fun i hi h0 e => by
  have := (h.docs i hi h0).2.2.1.lt
  omega
theorem GD6.next (h : GD6 w0 q H k a b t x D n dc Ad bl len cp z Aw L W) {A4 : Option Addr} {b4 m4 c4 cp5 : Nat} {y : Nat → Int} (hr : 0 < m4 → A4 = some ⟨b4, 0, none⟩ ∧ H ≤ b4 ∧ Row W 2 b4 m4 y) (hne : 0 < m4 → ∀ i, i < n → 0 < len i → bl i ≠ b4) (O : Obj)
    (hown : w5.ownsRow H 67 1 (.slice A5 (n + 1) cp5) (n + 1) (hdQ n Ad len cp ++ [.slice A4 m4 c4]))
    (hg : (W.alloc O).grownBy w5 (Value.slice D n dc).ownBlock) :
    GD6 w0 q H k a b t x A5 (n + 1) cp5 (updQ Ad n A4) (updQ bl n b4) (updQ len n m4) (updQ cp n c4) (updQ z n y) Aw L (w5.setCell ⟨q, 4, none⟩ (.slice A5 (n + 1) cp5)) := by
  have h0 := h.ge.lt0
  have h1 := h.lt1
  have hA := h.below ((Below.refl _ W).alloc (Nat.le_refl _) O)
  have hlo : ∀ x, (Value.slice D n dc).ownBlock = some x → H ≤ x := fun x hx => (hA.rows.lt x hx).1
  have hk : ∀ x, x ≠ q → (w5.setCell ⟨q, 4, none⟩ (.slice A5 (n + 1) cp5)).heap[x]? = w5.heap[x]? := fun x hx => Below.heap_setCell _ _ _ x hx
  have hg5 : GS6 w0 q (cmC k a b t D n dc x) w5 := hA.ge.grown hg fun x hx => by have := hlo x hx; omega
  have hr5 : 0 < m4 → A4 = some ⟨b4, 0, none⟩ ∧ H ≤ b4 ∧ Row w5 2 b4 m4 y := fun h4 => by
    obtain ⟨e, hb, hrw⟩ := hr h4
    obtain ⟨cs, hB, hx⟩ := (hrw.below ((Below.refl _ W).alloc (Nat.le_refl _) O) hrw.lt : Row (W.alloc O) 2 b4 m4 y)
    exact ⟨e, hb, cs, (hg.block _ hB.lt (own_ne_blk hA.rows hB (by decide))).trans hB, hx⟩
  have hd5 := RowsQ.push (hA.docs.grown hA.rows hg) (A := A4) (b := b4) (m := m4) (y := y) hr5 hne
  refine ⟨hg5.set 4 _, ?_, hd5.keep fun i hi h0' => hk _ (by have := (hd5 i hi h0').2.1; omega), (hA.wds.grown hg hlo).set 4 _, h1⟩
  rw [hdQ_push]
  exact own_keepJ hown fun x hx _ _ => hk x (by omega)
end
end Go.Proofs.YtmkipdhappikhaaGreatDoor
