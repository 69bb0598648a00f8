/-
  For every script of steps (a list of kinds, numbers and two texts each), every Load of it is answered by the program as by the document's answer: the same error, the same place, a model or none: wicketlaw.Loads returns true, and the script reads afterwards as before; the package-level tables that it reads are as the program's text lays them (the card ties them).
-/
import Derived.Test.YtbkaghlklkdmkaaGreatDoorNL1
import Derived.Test.YtbkaghlklkdmkaaGreatDoorNL3
import Derived.Test.YtbkaghlklkdmkaaGreatDoorCards
import Derived.Test.YtbkaghlklkdmkaaGreatDoorTie
import Derived.SevenTiedAt
set_option maxRecDepth 100000
set_option maxHeartbeats 8000000
namespace Go.Proofs.YtbkaghlklkdmkaaGreatDoor
open Go
theorem loads_pre (os : Os) (started : os.Started) (H : Type) (enc : TypeId × Value → H) (F : Stop.Interp) :
  ReturnsInHanded Rows.loadsRow.assume Tryz.pinned.checked os 3 .any (Rows.loadsRow.pre enc Tryz.pinned.checked.prog Tryz.f3 (OpenSpec.ofChange Rows.loadsSpec)) (((OpenSpec.ofChange Rows.loadsSpec).at F).post enc Tryz.pinned.checked.prog Tryz.f3 Rows.loadsRow.apart Rows.loadsRow.fresh Rows.loadsRow.handsOn Rows.loadsRow.again) := by
 rw [OpenClaim.pre_eq_preRow]; exact loads_lifted os started H enc F
theorem loads_said : Rows.LoadsSaid :=
 OpenClaim.holds_of_cond 3 Tryz.f3 rfl rfl rfl rfl rfl rfl rfl ⟨rfl, rfl, rfl, rfl, rfl⟩ rfl rfl rfl rfl rfl loads_named Tryz.func3 loads_closed loads_inst loads_wrap (fun os started H enc _ F => loads_pre os started H enc F)
theorem loads_plain (f : FuncId) (fn : Func) (hf : Tryz.pinned.checked.prog.funcNamed Rows.loadsRow.func = some f) (hfn : Tryz.pinned.checked.prog.funcs[f]? = some fn) :
  true = Tryz.pinned.checked.prog.looks [] ∧ ∀ (j : Nat) t, fn.params[j]? = some t → Tryz.pinned.checked.prog.wantsStandIn t = false := by
 obtain rfl : f = 3 := (Option.some.inj (loads_named.symm.trans hf)).symm; obtain rfl : fn = Tryz.f3 := (Option.some.inj (Tryz.func3.symm.trans hfn)).symm; refine ⟨by kernel_rfl, fun j t ht => ?_⟩; rw [Tryz.params3] at ht; obtain rfl : t = 22 := by simpa using Array.mem_of_getElem? ht
 exact (show Tryz.prog.wantsStandIn 22 = false by kernel_rfl)
theorem loads_card : Rows.LoadsCardSaid :=
 Claim7.holds_tied_plain_at .later [] _ _ _ _ loads_said (fun _ h => by cases h) (by kernel_rfl) (fun _ h => by cases h) loads_row_tie rfl ⟨rfl, rfl⟩ (by kernel_rfl) rfl loads_plain (by kernel_rfl)
end Go.Proofs.YtbkaghlklkdmkaaGreatDoor
