/-
  Closed facts of the row, by the kernel.
-/
import Derived.Test.YtbkaghlklkdmkaaGreatDoorRows
import Derived.Test.YtbkaghlklkdmkaaGreatDoorProg
import Derived.JoinedCond
set_option maxRecDepth 100000
set_option maxHeartbeats 8000000
namespace Go.Proofs.YtbkaghlklkdmkaaGreatDoor
open Go
theorem loads_closed : joinedFacts Tryz.pinned.checked.prog 3 Tryz.f3 (OpenSpec.ofChange Rows.loadsSpec).bare Rows.loadsRow = true := by kernel_rfl
theorem loads_named : Tryz.pinned.checked.prog.funcNamed Rows.loadsRow.func = some 3 := by kernel_rfl
theorem loads_inst : Tryz.f3.isInstance Tryz.pinned.checked.prog Rows.loadsRow.origin Rows.loadsRow.targs := of_decide_eq_true (by kernel_rfl)
theorem loads_wrap : Tryz.f3.isWrapper Tryz.pinned.checked.prog Rows.loadsRow.wrapper Rows.loadsRow.mainSum := by
 unfold Func.isWrapper; first | (rw [if_pos (by decide +kernel)]; kernel_rfl) | (rw [if_neg (by decide +kernel)]; exact ⟨rfl, rfl⟩)
end Go.Proofs.YtbkaghlklkdmkaaGreatDoor
