/-
  The checker: fits, at operators. The checker: fits, at an if.
-/
import Derived.Test.YtbkaghlklkdmkaaGreatDoorMH3
set_option maxRecDepth 100000
set_option maxHeartbeats 8000000
namespace Go.Proofs.YtbkaghlklkdmkaaGreatDoor
open Go.RowKit
def ow (w : World) (iv : Value) (t : Wk.Ty) (tk io : Nat) : World := (cw w iv t).alloc (.cells #[.int .i64 (tk : Nat), .int .i64 (io : Nat)] 251)
theorem ow_at {w : World} {iv : Value} {t : Wk.Ty} {tk io : Nat} {wr : World} (hb : Below (ow w iv t tk io).heap.size (ow w iv t tk io) wr) : wr.heap[w.heap.size]? = some (.cells #[iv] 150 (0, 0)) ∧ wr.heap[w.heap.size + 1]? = some (.cells #[.int .i64 (t.1 : Nat), .int .i64 (t.2.length : Nat), .string (wd t 0), .string (wd t 1), .string (wd t 2), .string (wd t 3), .string (wd t 4), .string (wd t 5)] 69 (0, 0)) ∧ wr.heap[w.heap.size + 2]? = some (.cells #[.int .i64 (tk : Nat), .int .i64 (io : Nat)] 251 (0, 0)) ∧ Below w.heap.size w wr := by
 have hs : (cw w iv t).heap.size = w.heap.size + 1 + 1 := by simp [cw]
 have hb1 : Below (cw w iv t).heap.size (cw w iv t) wr := (ab1 (cw w iv t) _).trans (hb.mono (ab1 (cw w iv t) _).size); obtain ⟨u1, u2, hb2⟩ := cw_at hb1; refine ⟨u1, u2, ?_, hb2⟩; have e : w.heap.size + 2 = (cw w iv t).heap.size := by rw [hs]
 rw [e]; exact (hb.block _ (by unfold ow; simp)).trans (heap_alloc_new (cw w iv t) _)
theorem fits_op {w : World} (hG : Gl w) {k kind : Nat} {v : VR} {item : Int} {pv iv : Value} (h : NodeAt w k kind v item pv) (hk : kind = 3 ∨ kind = 4 ∨ kind = 5 ∨ kind = 7 ∨ kind = 8 ∨ kind = 9 ∨ kind = 10 ∨ kind = 11) {A : Bool}
  (hA : ∀ w', Below w.heap.size w w' → Calls Tryz.prog 144 #[.agg #[iv], pv, tyV (takesOf kind, [])] w' fun e w'' => e = .returned (.bool A) ∧ Below w'.heap.size w' w'') (t : Wk.Ty) :
  Calls Tryz.prog 110 #[.agg #[iv], .pointer (some ⟨k, 0, none⟩), tyV t] w fun e w' => e = .returned (.bool (t.1 == isOf kind && A)) ∧ Below w.heap.size w w' := by
 obtain ⟨c0, c1, c2, c3, c4, c5, c6⟩ := h.cells; have hl := lt_of_block h; have g1 := hG.is_ kind (by omega); have g0 := hG.takes kind (by omega); have hg0 : 0 < w.heap.size := by have := hG.size; omega
 have d0 : ((kind : Int) == 0) = false := by rw [beq_eq_false_iff_ne]; omega
 have d1 : ((kind : Int) == 1) = false := by rw [beq_eq_false_iff_ne]; omega
 have d2 : ((kind : Int) == 2) = false := by rw [beq_eq_false_iff_ne]; omega
 have d6 : ((kind : Int) == 6) = false := by rw [beq_eq_false_iff_ne]; omega
 have hk0 : (0 : Int) ≤ (kind : Int) := by omega
 have hk1 : (kind : Int) < 12 := by omega
 rw [show 2 * kind + 1 = kind * 2 + 1 by omega] at g1; rw [show 2 * kind = kind * 2 by omega] at g0; generalize isOf kind = io at *
 generalize takesOf kind = tk at *
 have HS : Hid (∀ wr, Below (ow w iv t tk io).heap.size (ow w iv t tk io) wr → wr.cell? ⟨w.heap.size, 0, none⟩ = some iv ∧ wr.cell? ⟨w.heap.size + 1, 0, none⟩ = some (.int .i64 (t.1 : Nat)) ∧ wr.cell? ⟨w.heap.size + 2, 0, none⟩ = some (.int .i64 (tk : Nat)) ∧ wr.cell? ⟨w.heap.size + 2, 1, none⟩ = some (.int .i64 (io : Nat)) ∧ wr.cell? ⟨k, 6, none⟩ = some pv) := by
  intro wr hb; obtain ⟨u1, u2, u3, hb⟩ := ow_at hb; exact ⟨blk_cell u1 rfl, blk_cell u2 rfl, blk_cell u3 rfl, blk_cell u3 rfl, (hb.cell (p := ⟨k, 6, none⟩) hl).trans c6⟩
 have HX : Hid _ := HS.out (ow w iv t tk io).drew ((Below.refl _ _).drew); have hob : Below w.heap.size w (ow w iv t tk io).drew := (ow_at ((Below.refl _ _).drew)).2.2.2; have HC : Hid _ := hA _ hob; have HBW : Hid _ := hob; clear h hG hk hA c1 c2 c3 c4 c5 hob; unfold tyV; unfold tyV at HC; cases hq : (t.1 == io) with
 | false =>
  have HE : Hid (((t.1 == io) && A) = false) := by
   show _ = _; rw [hq]; rfl
  have dq : ((t.1 : Int) == (io : Int)) = false := by rw [beq_eq_false_iff_ne] at *; omega
  clear hq; go_enter Tryz.func110, Tryz.ntmps110; go_upto_region 12 with fail; refine wp_region_ph (fun wr => wr.cell? ⟨w.heap.size, 0, none⟩ = some iv ∧ wr.cell? ⟨w.heap.size + 1, 0, none⟩ = some (.int .i64 (t.1 : Nat)) ∧ wr.cell? ⟨w.heap.size + 2, 0, none⟩ = some (.int .i64 (tk : Nat)) ∧ wr.cell? ⟨w.heap.size + 2, 1, none⟩ = some (.int .i64 (io : Nat)) ∧ wr.cell? ⟨k, 6, none⟩ = some pv) 17 17 rfl (by kernel_rfl) HX.out (fun hHeld => ?_); clear hHeld; refine PhS.t 0 86 HX.out ?_; refine PhS.t 1 87 HX.out ?_; refine PhS.t 2 88 HX.out ?_; refine PhS.t 3 89 HX.out ?_; refine PhS.t 4 90 HX.out ?_; refine PhS.t 5 91 HX.out ?_; refine PhS.sk 6 (some 92) HX.out ?_; try simp only [Act.put, sA, sZ, sS]
  refine PhS.sk 7 (some 93) HX.out ?_; try simp only [Act.put, sA, sZ, sS]
  refine PhS.sk 8 (some 94) HX.out ?_; try simp only [Act.put, sA, sZ, sS]
  refine PhS.sk 9 (some 95) HX.out ?_; try simp only [Act.put, sA, sZ, sS]
  refine PhS.sk 10 (some 96) HX.out ?_; try simp only [Act.put, sA, sZ, sS]
  refine PhS.sk 11 (some 97) HX.out ?_; try simp only [Act.put, sA, sZ, sS]
  refine PhS.sk 12 (some 98) HX.out ?_; try simp only [Act.put, sA, sZ, sS]
  refine PhS.sk 13 (some 99) HX.out ?_; try simp only [Act.put, sA, sZ, sS]
  refine PhS.sk 14 (some 100) HX.out ?_; try simp only [Act.put, sA, sZ, sS]
  refine PhS.t 15 101 HX.out ?_; refine PhS.t 16 6 HX.out ?_; refine PhS.done (by kernel_rfl) ?_ _; go_wp2_with fail; go_ret; exact ⟨rfl, HBW.out⟩
 | true =>
  have dq : ((t.1 : Int) == (io : Int)) = true := by rw [beq_iff_eq] at *; omega
  clear hq; go_enter Tryz.func110, Tryz.ntmps110; go_upto_region 12 with fail; refine wp_region_ph (fun wr => wr.cell? ⟨w.heap.size, 0, none⟩ = some iv ∧ wr.cell? ⟨w.heap.size + 1, 0, none⟩ = some (.int .i64 (t.1 : Nat)) ∧ wr.cell? ⟨w.heap.size + 2, 0, none⟩ = some (.int .i64 (tk : Nat)) ∧ wr.cell? ⟨w.heap.size + 2, 1, none⟩ = some (.int .i64 (io : Nat)) ∧ wr.cell? ⟨k, 6, none⟩ = some pv) 17 17 rfl (by kernel_rfl) HX.out (fun hHeld => ?_); clear hHeld; refine PhS.t 0 86 HX.out ?_; refine PhS.t 1 87 HX.out ?_; refine PhS.t 2 88 HX.out ?_; refine PhS.t 3 89 HX.out ?_; refine PhS.t 4 90 HX.out ?_; refine PhS.t 5 91 HX.out ?_; refine PhS.t 6 92 HX.out ?_; refine PhS.t 7 93 HX.out ?_; refine PhS.t 8 94 HX.out ?_; refine PhS.t 9 95 HX.out ?_; refine PhS.t 10 96 HX.out ?_; refine PhS.t 11 97 HX.out ?_; refine PhS.t 12 98 HX.out ?_; refine PhS.t 13 99 HX.out ?_; refine PhS.on 14 (fun K hK => ?_); go_simp; refine Calls.mono HC.out ?_; rintro e w2 ⟨rfl, hb2⟩; have hb2 : Below (ow w iv t tk io).heap.size (ow w iv t tk io) w2 := ⟨hb2.os, hb2.tape, hb2.output, hb2.size, hb2.block⟩
  have HX2 : Hid _ := HS.out w2 hb2; have HW : Hid (Below w.heap.size w w2) := (ow_at hb2).2.2.2; refine hK.out _ _ (fun _ => HX2.out) ?_; clear hK K hb2; try simp only [Act.put, sA, sZ, sS]
  refine PhS.t 15 101 HX2.out ?_; refine PhS.t 16 6 HX2.out ?_; refine PhS.done (by kernel_rfl) ?_ _; go_wp2_with fail; go_ret; exact ⟨rfl, HW.out⟩
theorem fits_if {w : World} {k : Nat} {v : VR} {item : Int} {g : Nat} {iv : Value} (h : NodeAt w k 2 v item (.slice (some ⟨g, 0, none⟩) 3 3)) {p0 p1 p2 : Value} (hr : w.heap[g]? = some (.cells #[p0, p1, p2] 70 (0, 0))) {A0 A : Bool} (t : Wk.Ty)
  (h0 : ∀ w', Below w.heap.size w w' → Calls Tryz.prog 110 #[.agg #[iv], p0, tyV (2, [])] w' fun e w'' => e = .returned (.bool A0) ∧ Below w'.heap.size w' w'')
  (hA : ∀ w', Below w.heap.size w w' → Calls Tryz.prog 144 #[.agg #[iv], .slice (some ⟨g, 1, none⟩) 2 2, tyV t] w' fun e w'' => e = .returned (.bool A) ∧ Below w'.heap.size w' w'') :
  Calls Tryz.prog 110 #[.agg #[iv], .pointer (some ⟨k, 0, none⟩), tyV t] w fun e w' => e = .returned (.bool (A0 && A)) ∧ Below w.heap.size w w' := by
 obtain ⟨c0, c1, c2, c3, c4, c5, c6⟩ := h.cells; have c0 : w.cell? ⟨k, 0, none⟩ = some (.int .i64 2) := c0; have hl := lt_of_block h; have hgl := lt_of_block hr; have HS : Hid (∀ wr, Below (cw w iv t).heap.size (cw w iv t) wr → wr.cell? ⟨w.heap.size, 0, none⟩ = some iv ∧ (wr.cell? ⟨w.heap.size + 1, 0, none⟩ = some (.int .i64 (t.1 : Nat)) ∧ wr.cell? ⟨w.heap.size + 1, 1, none⟩ = some (.int .i64 (t.2.length : Nat)) ∧ wr.cell? ⟨w.heap.size + 1, 2, none⟩ = some (.string (wd t 0)) ∧ wr.cell? ⟨w.heap.size + 1, 3, none⟩ = some (.string (wd t 1)) ∧ wr.cell? ⟨w.heap.size + 1, 4, none⟩ = some (.string (wd t 2)) ∧ wr.cell? ⟨w.heap.size + 1, 5, none⟩ = some (.string (wd t 3)) ∧ wr.cell? ⟨w.heap.size + 1, 6, none⟩ = some (.string (wd t 4)) ∧ wr.cell? ⟨w.heap.size + 1, 7, none⟩ = some (.string (wd t 5))) ∧ wr.cell? ⟨k, 6, none⟩ = some (.slice (some ⟨g, 0, none⟩) 3 3) ∧ wr.cell? ⟨g, 0, none⟩ = some p0) := by
  intro wr hb; obtain ⟨u1, u2, hb⟩ := cw_at hb; exact ⟨blk_cell u1 rfl, ty_cells u2, (hb.cell (p := ⟨k, 6, none⟩) hl).trans c6, (hb.cell (p := ⟨g, 0, none⟩) hgl).trans (blk_cell hr rfl)⟩
 have HX : Hid _ := HS.out (cw w iv t).drew ((Below.refl _ _).drew); have hob : Below w.heap.size w (cw w iv t).drew := (cw_at ((Below.refl _ _).drew)).2.2; have HC0 : Hid _ := h0 _ hob; have HA : Hid _ := hA; clear h h0 hr hA c1 c2 c3 c4 c5 hob; unfold tyV; unfold tyV at HA; rw [tyV_plain] at HC0; cases A0 with
 | false =>
  go_enter Tryz.func110, Tryz.ntmps110; go_upto_region 7 with fail; refine wp_region_ph (fun wr => wr.cell? ⟨w.heap.size, 0, none⟩ = some iv ∧ (wr.cell? ⟨w.heap.size + 1, 0, none⟩ = some (.int .i64 (t.1 : Nat)) ∧ wr.cell? ⟨w.heap.size + 1, 1, none⟩ = some (.int .i64 (t.2.length : Nat)) ∧ wr.cell? ⟨w.heap.size + 1, 2, none⟩ = some (.string (wd t 0)) ∧ wr.cell? ⟨w.heap.size + 1, 3, none⟩ = some (.string (wd t 1)) ∧ wr.cell? ⟨w.heap.size + 1, 4, none⟩ = some (.string (wd t 2)) ∧ wr.cell? ⟨w.heap.size + 1, 5, none⟩ = some (.string (wd t 3)) ∧ wr.cell? ⟨w.heap.size + 1, 6, none⟩ = some (.string (wd t 4)) ∧ wr.cell? ⟨w.heap.size + 1, 7, none⟩ = some (.string (wd t 5))) ∧ wr.cell? ⟨k, 6, none⟩ = some (.slice (some ⟨g, 0, none⟩) 3 3) ∧ wr.cell? ⟨g, 0, none⟩ = some p0) 20 20 rfl (by kernel_rfl) HX.out (fun hHeld => ?_); clear hHeld; refine PhS.t 0 36 HX.out ?_; refine PhS.t 1 37 HX.out ?_; refine PhS.t 2 38 HX.out ?_; refine PhS.t 3 39 HX.out ?_; refine PhS.t 4 40 HX.out ?_; refine PhS.t 5 41 HX.out ?_; refine PhS.t 6 42 HX.out ?_; refine PhS.t 7 43 HX.out ?_; refine PhS.on 8 (fun K hK => ?_); go_simp; refine Calls.mono HC0.out ?_; rintro e w2 ⟨rfl, hb2⟩; have hb2 : Below (cw w iv t).heap.size (cw w iv t) w2 := ⟨hb2.os, hb2.tape, hb2.output, hb2.size, hb2.block⟩
  have HX2 : Hid _ := HS.out w2 hb2; have HW : Hid (Below w.heap.size w w2) := (cw_at hb2).2.2; have HB2 : Hid _ := hb2; refine hK.out _ _ (fun _ => HX2.out) ?_; clear hK K hb2; try simp only [Act.put, sA, sZ, sS]
  refine PhS.t 9 45 HX2.out ?_; refine PhS.sk 10 (some 46) HX2.out ?_; try simp only [Act.put, sA, sZ, sS]
  refine PhS.sk 11 (some 47) HX2.out ?_; try simp only [Act.put, sA, sZ, sS]
  refine PhS.sk 12 (some 48) HX2.out ?_; try simp only [Act.put, sA, sZ, sS]
  refine PhS.sk 13 (some 49) HX2.out ?_; try simp only [Act.put, sA, sZ, sS]
  refine PhS.sk 14 (some 50) HX2.out ?_; try simp only [Act.put, sA, sZ, sS]
  refine PhS.sk 15 (some 51) HX2.out ?_; try simp only [Act.put, sA, sZ, sS]
  refine PhS.sk 16 (some 52) HX2.out ?_; try simp only [Act.put, sA, sZ, sS]
  refine PhS.sk 17 (some 53) HX2.out ?_; try simp only [Act.put, sA, sZ, sS]
  refine PhS.t 18 54 HX2.out ?_; refine PhS.t 19 6 HX2.out ?_; refine PhS.done (by kernel_rfl) ?_ _; go_wp2_with fail; go_ret; exact ⟨rfl, HW.out⟩
 | true =>
  go_enter Tryz.func110, Tryz.ntmps110; go_upto_region 7 with fail; refine wp_region_ph (fun wr => wr.cell? ⟨w.heap.size, 0, none⟩ = some iv ∧ (wr.cell? ⟨w.heap.size + 1, 0, none⟩ = some (.int .i64 (t.1 : Nat)) ∧ wr.cell? ⟨w.heap.size + 1, 1, none⟩ = some (.int .i64 (t.2.length : Nat)) ∧ wr.cell? ⟨w.heap.size + 1, 2, none⟩ = some (.string (wd t 0)) ∧ wr.cell? ⟨w.heap.size + 1, 3, none⟩ = some (.string (wd t 1)) ∧ wr.cell? ⟨w.heap.size + 1, 4, none⟩ = some (.string (wd t 2)) ∧ wr.cell? ⟨w.heap.size + 1, 5, none⟩ = some (.string (wd t 3)) ∧ wr.cell? ⟨w.heap.size + 1, 6, none⟩ = some (.string (wd t 4)) ∧ wr.cell? ⟨w.heap.size + 1, 7, none⟩ = some (.string (wd t 5))) ∧ wr.cell? ⟨k, 6, none⟩ = some (.slice (some ⟨g, 0, none⟩) 3 3) ∧ wr.cell? ⟨g, 0, none⟩ = some p0) 20 20 rfl (by kernel_rfl) HX.out (fun hHeld => ?_); clear hHeld; refine PhS.t 0 36 HX.out ?_; refine PhS.t 1 37 HX.out ?_; refine PhS.t 2 38 HX.out ?_; refine PhS.t 3 39 HX.out ?_; refine PhS.t 4 40 HX.out ?_; refine PhS.t 5 41 HX.out ?_; refine PhS.t 6 42 HX.out ?_; refine PhS.t 7 43 HX.out ?_; refine PhS.on 8 (fun K hK => ?_); go_simp; refine Calls.mono HC0.out ?_; rintro e w2 ⟨rfl, hb2⟩; have hb2 : Below (cw w iv t).heap.size (cw w iv t) w2 := ⟨hb2.os, hb2.tape, hb2.output, hb2.size, hb2.block⟩
  have HX2 : Hid _ := HS.out w2 hb2; have HW : Hid (Below w.heap.size w w2) := (cw_at hb2).2.2; have HB2 : Hid _ := hb2; refine hK.out _ _ (fun _ => HX2.out) ?_; clear hK K hb2; try simp only [Act.put, sA, sZ, sS]
  refine PhS.t 9 45 HX2.out ?_; refine PhS.t 10 46 HX2.out ?_; refine PhS.t 11 47 HX2.out ?_; refine PhS.t 12 48 HX2.out ?_; refine PhS.t 13 49 HX2.out ?_; refine PhS.t 14 50 HX2.out ?_; refine PhS.t 15 51 HX2.out ?_; refine PhS.t 16 52 HX2.out ?_; refine PhS.on 17 (fun K hK => ?_); go_simp; refine Calls.mono (HA.out w2 HW.out) ?_; rintro e w3 ⟨rfl, hb3⟩; have hb3 : Below (cw w iv t).heap.size (cw w iv t) w3 := HB2.out.trans (hb3.mono HB2.out.size); have HX3 : Hid _ := HS.out w3 hb3; have HW3 : Hid (Below w.heap.size w w3) := (cw_at hb3).2.2; refine hK.out _ _ (fun _ => HX3.out) ?_; clear hK K hb3; try simp only [Act.put, sA, sZ, sS]
  refine PhS.t 18 54 HX3.out ?_; refine PhS.t 19 6 HX3.out ?_; refine PhS.done (by kernel_rfl) ?_ _; go_wp2_with fail; go_ret; exact ⟨rfl, HW3.out⟩
end Go.Proofs.YtbkaghlklkdmkaaGreatDoor
