/-
  For every script of steps (a list of kinds, numbers and two texts each), every Load and every Print of it is answered by the program as by the document's answer: the same error, the same place, a model or none; the same text: wicketlaw.Prints returns true, and the script reads afterwards as before; the package-level tables that it reads are as the program's text lays them (the card ties them).
-/
import Derived.Test.YtbkaghlklkdmkaaGreatDoorNZ4
import Derived.Test.YtbkaghlklkdmkaaGreatDoorNZ6
import Derived.Test.YtbkaghlklkdmkaaGreatDoorCards
import Derived.Test.YtbkaghlklkdmkaaGreatDoorTie
import Derived.SevenTiedAt
set_option maxRecDepth 100000
set_option maxHeartbeats 8000000
namespace Go.Proofs.YtbkaghlklkdmkaaGreatDoor
open Go
theorem prints_pre (os : Os) (started : os.Started) (H : Type) (enc : TypeId × Value → H) (F : Stop.Interp) :
  ReturnsInHanded Rows.printsRow.assume Tryz.pinned.checked os 4 .any (Rows.printsRow.pre enc Tryz.pinned.checked.prog Tryz.f4 (OpenSpec.ofChange Rows.printsSpec)) (((OpenSpec.ofChange Rows.printsSpec).at F).post enc Tryz.pinned.checked.prog Tryz.f4 Rows.printsRow.apart Rows.printsRow.fresh Rows.printsRow.handsOn Rows.printsRow.again) := by
 rw [OpenClaim.pre_eq_preRow]; exact prints_lifted os started H enc F
theorem prints_said : Rows.PrintsSaid :=
 OpenClaim.holds_of_cond 4 Tryz.f4 rfl rfl rfl rfl rfl rfl rfl ⟨rfl, rfl, rfl, rfl, rfl⟩ rfl rfl rfl rfl rfl prints_named Tryz.func4 prints_closed prints_inst prints_wrap (fun os started H enc _ F => prints_pre os started H enc F)
theorem prints_plain (f : FuncId) (fn : Func) (hf : Tryz.pinned.checked.prog.funcNamed Rows.printsRow.func = some f) (hfn : Tryz.pinned.checked.prog.funcs[f]? = some fn) :
  true = Tryz.pinned.checked.prog.looks [] ∧ ∀ (j : Nat) t, fn.params[j]? = some t → Tryz.pinned.checked.prog.wantsStandIn t = false := by
 obtain rfl : f = 4 := (Option.some.inj (prints_named.symm.trans hf)).symm; obtain rfl : fn = Tryz.f4 := (Option.some.inj (Tryz.func4.symm.trans hfn)).symm; refine ⟨by kernel_rfl, fun j t ht => ?_⟩; rw [Tryz.params4] at ht; obtain rfl : t = 22 := by simpa using Array.mem_of_getElem? ht
 exact (show Tryz.prog.wantsStandIn 22 = false by kernel_rfl)
theorem prints_card : Rows.PrintsCardSaid :=
 Claim7.holds_tied_plain_at .later [] _ _ _ _ prints_said (fun _ h => by cases h) (by kernel_rfl) (fun _ h => by cases h) prints_row_tie rfl ⟨rfl, rfl⟩ (by kernel_rfl) rfl prints_plain (by kernel_rfl)
end Go.Proofs.YtbkaghlklkdmkaaGreatDoor
