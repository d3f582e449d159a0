/-
  The tree that every statement looks at first is decoded from its own bytes.
-/
import Derived.Test.YtdodammplhlihaaGreatDoorBc
namespace Go.Proofs.YtdodammplhlihaaGreatDoor.Tr
open Go.RowKit
def awN : Nd := .mk 26 0 ⟨#[43]⟩ 0 [.mk 20 0 ⟨#[]⟩ 1 [], .mk 23 0 ⟨#[97]⟩ 0 []]
set_option maxRecDepth 100000 in
theorem aw_dec : (decE (mkS awN.enc) == 0 && Nd.eqB (decN (mkS awN.enc)) awN) = true := by kernel_rfl
end Go.Proofs.YtdodammplhlihaaGreatDoor.Tr
