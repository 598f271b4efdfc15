/- The text of an answer: the law's walk. -/
import Derived.Test.YthjphnopcgdgdaaDoorAnI
import Derived.Test.YthjphnopcgdgdaaDoorLaw
namespace Go.Proofs.YthjphnopcgdgdaaDoor
open Go.RowKit Go.Deep

set_option maxRecDepth 100000 in
set_option maxHeartbeats 2000000 in
theorem iAns_any (co : Int) (A : Option Addr) (n c : Nat) (z : Nat → Int) (B : Option Addr) (m ch : Nat) (g : Nat → Ht) (ct : Int) (w : World) (h : Rd w w.heap.size A n z) (h' : RdH w w.heap.size B m g) (hin : AnIn co n z m g) (hn : n ≤ 2097152) (hm : m ≤ 2097152) (hp : Hid (Pow w w.heap.size)) :
    Calls Tryd.prog 23 #[anV co A n c B m ch ct] w fun e w' => e = .returned (.string (ansS co n z m g)) ∧ Below w.heap.size w w' := by
  by_cases h0 : co = 0
  · subst h0
    exact iAns_ok A n c z B m ch g ct w h h' hin hn hm hp
  · have HI := hid hin
    have hw0 := (Below.refl w.heap.size w).alloc (Nat.le_refl _) (.cells (anC co A n c B m ch ct) 44)
    have HA : Hid (ansS co n z m g = ⟨#[110, 111, 32]⟩ ++ decS co) := if_neg h0
    have e0 : (co != 0) = true := by simpa using h0
    have hs := hin.1.size
    have z1 : ¬ 9223372036854775807 < 3 + (decS co).size := by omega
    have hpw := hid (hp.out _ hw0)
    clear hin h0
    go_enter Tryd.func23, Tryd.ntmps23
    go_wp2_with fail
    refine (decimal_any co _ HI.out.1.1 HI.out.1.2 hpw).mono ?_
    rintro e w5 ⟨rfl, hb5⟩
    go_wp2_with fail
    go_ret
    exact ⟨ret_strT HA.out.symm, hw0.trans (hb5.mono hw0.size)⟩

theorem size_ans : (Tryd.prog.info? 44).map (·.size) = some 4 := by kernel_rfl
end Go.Proofs.YthjphnopcgdgdaaDoor
