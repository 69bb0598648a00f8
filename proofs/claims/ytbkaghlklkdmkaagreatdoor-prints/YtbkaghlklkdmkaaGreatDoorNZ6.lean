/-
  Closed facts of the row, by the kernel.
-/
import Derived.Test.YtbkaghlklkdmkaaGreatDoorRows
import Derived.Test.YtbkaghlklkdmkaaGreatDoorProg
import Derived.JoinedCond
set_option maxRecDepth 100000
set_option maxHeartbeats 8000000
namespace Go.Proofs.YtbkaghlklkdmkaaGreatDoor
open Go
theorem prints_closed : joinedFacts Tryz.pinned.checked.prog 4 Tryz.f4 (OpenSpec.ofChange Rows.printsSpec).bare Rows.printsRow = true := by kernel_rfl
theorem prints_named : Tryz.pinned.checked.prog.funcNamed Rows.printsRow.func = some 4 := by kernel_rfl
theorem prints_inst : Tryz.f4.isInstance Tryz.pinned.checked.prog Rows.printsRow.origin Rows.printsRow.targs := of_decide_eq_true (by kernel_rfl)
theorem prints_wrap : Tryz.f4.isWrapper Tryz.pinned.checked.prog Rows.printsRow.wrapper Rows.printsRow.mainSum := by
 unfold Func.isWrapper; first | (rw [if_pos (by decide +kernel)]; kernel_rfl) | (rw [if_neg (by decide +kernel)]; exact ⟨rfl, rfl⟩)
end Go.Proofs.YtbkaghlklkdmkaaGreatDoor
