/- The text of a tree, both sides, and the law's walk. -/
import Derived.Test.YthdljfidcoblfaaTxT
namespace Go.Proofs.Ythdljfidcoblfaa
open Go.RowKit Go.Deep

theorem ntS_size {n : Nat} {g : Nat → Nd} (h : ∀ i, i < n → NdIn (g i)) : (ntS n g).size ≤ n * 112 :=
  joinTo_size (f := fun i => ndS (g i)) (sep := ⟨#[32]⟩) (M := 111) n (fun i hi => ndS_size (h i hi))

end Go.Proofs.Ythdljfidcoblfaa
