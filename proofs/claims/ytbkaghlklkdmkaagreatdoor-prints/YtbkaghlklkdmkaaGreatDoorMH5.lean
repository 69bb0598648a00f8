/-
  The checker: fits, at an equality. The program's nodes: what own and fits answer at each.
-/
import Derived.Test.YtbkaghlklkdmkaaGreatDoorMH4
set_option maxRecDepth 100000
set_option maxHeartbeats 8000000
namespace Go.Proofs.YtbkaghlklkdmkaaGreatDoor
open Go.RowKit
theorem setTy_at {w : World} {b : Nat} {a0 a1 a2 a3 a4 a5 a6 a7 : Value} {t : TypeId} (h : w.heap[b]? = some (.cells #[a0, a1, a2, a3, a4, a5, a6, a7] t (0, 0))) (ot : Wk.Ty) : (setTy w b ot).heap[b]? = some (.cells #[.int .i64 (ot.1 : Nat), .int .i64 (ot.2.length : Nat), .string (wd ot 0), .string (wd ot 1), .string (wd ot 2), .string (wd ot 3), .string (wd ot 4), .string (wd ot 5)] t (0, 0)) := by
 unfold setTy; have h0 : (w.setCell ⟨b, 0, none⟩ (.int .i64 (ot.1 : Nat))).heap[b]? = some (.cells #[.int .i64 (ot.1 : Nat), a1, a2, a3, a4, a5, a6, a7] t (0, 0)) := (blk_set (o := 0) (.int .i64 (ot.1 : Nat)) h).trans (by simp); have h1 : ((w.setCell ⟨b, 0, none⟩ (.int .i64 (ot.1 : Nat))).setCell ⟨b, 1, none⟩ (.int .i64 (ot.2.length : Nat))).heap[b]? = some (.cells #[.int .i64 (ot.1 : Nat), .int .i64 (ot.2.length : Nat), a2, a3, a4, a5, a6, a7] t (0, 0)) := (blk_set (o := 1) (.int .i64 (ot.2.length : Nat)) h0).trans (by simp); have h2 : (((w.setCell ⟨b, 0, none⟩ (.int .i64 (ot.1 : Nat))).setCell ⟨b, 1, none⟩ (.int .i64 (ot.2.length : Nat))).setCell ⟨b, 2, none⟩ (.string (wd ot 0))).heap[b]? = some (.cells #[.int .i64 (ot.1 : Nat), .int .i64 (ot.2.length : Nat), .string (wd ot 0), a3, a4, a5, a6, a7] t (0, 0)) := (blk_set (o := 2) (.string (wd ot 0)) h1).trans (by simp); have h3 : ((((w.setCell ⟨b, 0, none⟩ (.int .i64 (ot.1 : Nat))).setCell ⟨b, 1, none⟩ (.int .i64 (ot.2.length : Nat))).setCell ⟨b, 2, none⟩ (.string (wd ot 0))).setCell ⟨b, 3, none⟩ (.string (wd ot 1))).heap[b]? = some (.cells #[.int .i64 (ot.1 : Nat), .int .i64 (ot.2.length : Nat), .string (wd ot 0), .string (wd ot 1), a4, a5, a6, a7] t (0, 0)) := (blk_set (o := 3) (.string (wd ot 1)) h2).trans (by simp); have h4 : (((((w.setCell ⟨b, 0, none⟩ (.int .i64 (ot.1 : Nat))).setCell ⟨b, 1, none⟩ (.int .i64 (ot.2.length : Nat))).setCell ⟨b, 2, none⟩ (.string (wd ot 0))).setCell ⟨b, 3, none⟩ (.string (wd ot 1))).setCell ⟨b, 4, none⟩ (.string (wd ot 2))).heap[b]? = some (.cells #[.int .i64 (ot.1 : Nat), .int .i64 (ot.2.length : Nat), .string (wd ot 0), .string (wd ot 1), .string (wd ot 2), a5, a6, a7] t (0, 0)) := (blk_set (o := 4) (.string (wd ot 2)) h3).trans (by simp); have h5 : ((((((w.setCell ⟨b, 0, none⟩ (.int .i64 (ot.1 : Nat))).setCell ⟨b, 1, none⟩ (.int .i64 (ot.2.length : Nat))).setCell ⟨b, 2, none⟩ (.string (wd ot 0))).setCell ⟨b, 3, none⟩ (.string (wd ot 1))).setCell ⟨b, 4, none⟩ (.string (wd ot 2))).setCell ⟨b, 5, none⟩ (.string (wd ot 3))).heap[b]? = some (.cells #[.int .i64 (ot.1 : Nat), .int .i64 (ot.2.length : Nat), .string (wd ot 0), .string (wd ot 1), .string (wd ot 2), .string (wd ot 3), a6, a7] t (0, 0)) := (blk_set (o := 5) (.string (wd ot 3)) h4).trans (by simp); have h6 : (((((((w.setCell ⟨b, 0, none⟩ (.int .i64 (ot.1 : Nat))).setCell ⟨b, 1, none⟩ (.int .i64 (ot.2.length : Nat))).setCell ⟨b, 2, none⟩ (.string (wd ot 0))).setCell ⟨b, 3, none⟩ (.string (wd ot 1))).setCell ⟨b, 4, none⟩ (.string (wd ot 2))).setCell ⟨b, 5, none⟩ (.string (wd ot 3))).setCell ⟨b, 6, none⟩ (.string (wd ot 4))).heap[b]? = some (.cells #[.int .i64 (ot.1 : Nat), .int .i64 (ot.2.length : Nat), .string (wd ot 0), .string (wd ot 1), .string (wd ot 2), .string (wd ot 3), .string (wd ot 4), a7] t (0, 0)) := (blk_set (o := 6) (.string (wd ot 4)) h5).trans (by simp); have h7 : ((((((((w.setCell ⟨b, 0, none⟩ (.int .i64 (ot.1 : Nat))).setCell ⟨b, 1, none⟩ (.int .i64 (ot.2.length : Nat))).setCell ⟨b, 2, none⟩ (.string (wd ot 0))).setCell ⟨b, 3, none⟩ (.string (wd ot 1))).setCell ⟨b, 4, none⟩ (.string (wd ot 2))).setCell ⟨b, 5, none⟩ (.string (wd ot 3))).setCell ⟨b, 6, none⟩ (.string (wd ot 4))).setCell ⟨b, 7, none⟩ (.string (wd ot 5))).heap[b]? = some (.cells #[.int .i64 (ot.1 : Nat), .int .i64 (ot.2.length : Nat), .string (wd ot 0), .string (wd ot 1), .string (wd ot 2), .string (wd ot 3), .string (wd ot 4), .string (wd ot 5)] t (0, 0)) := (blk_set (o := 7) (.string (wd ot 5)) h6).trans (by simp); exact h7
theorem fits_eq {w : World} {k : Nat} {v : VR} {item : Int} {pv iv : Value} (h : NodeAt w k 6 v item pv) {ot : Wk.Ty} {A : Bool}
  (hO : ∀ w', Below w.heap.size w w' → Calls Tryz.prog 145 #[.agg #[iv], pv] w' fun e w'' => e = .returned (tyV ot) ∧ Below w'.heap.size w' w'')
  (hA : ∀ w', Below w.heap.size w w' → Calls Tryz.prog 144 #[.agg #[iv], pv, tyV ot] w' fun e w'' => e = .returned (.bool A) ∧ Below w'.heap.size w' w'') (t : Wk.Ty) :
  Calls Tryz.prog 110 #[.agg #[iv], .pointer (some ⟨k, 0, none⟩), tyV t] w fun e w' => e = .returned (.bool (t.1 == 2 && (ot.1 != 0 && A))) ∧ Below w.heap.size w w' := by
 obtain ⟨c0, c1, c2, c3, c4, c5, c6⟩ := h.cells; have c0 : w.cell? ⟨k, 0, none⟩ = some (.int .i64 6) := c0; have hl := lt_of_block h; have HS : Hid (∀ wr, Below (cw w iv t).heap.size (cw w iv t) wr → wr.cell? ⟨w.heap.size, 0, none⟩ = some iv ∧ wr.cell? ⟨k, 6, none⟩ = some pv) := by
  intro wr hb; obtain ⟨u1, u2, hb⟩ := cw_at hb; exact ⟨blk_cell u1 rfl, (hb.cell (p := ⟨k, 6, none⟩) hl).trans c6⟩
 have HX : Hid _ := HS.out (cw w iv t).drew ((Below.refl _ _).drew); have HC6 : Hid _ := c6; have HO : Hid _ := hO; have HA : Hid _ := hA; clear h hA hO c1 c2 c3 c4 c5 c6; unfold tyV; unfold tyV at HO HA; obtain ⟨R, hR⟩ : ∃ R, R = (t.1 == 2 && (ot.1 != 0 && A)) := ⟨_, rfl⟩
 rw [← hR]; have HR : Hid _ := hR; clear hR; go_enter Tryz.func110, Tryz.ntmps110; go_upto_region 9 with fail; go_cut [7] from 57 (fun v7 wc => ∃ X, v7 = .pointer (some ⟨X, 0, none⟩) ∧ Hid (Below (cw w iv t).heap.size (cw w iv t) wc) ∧ Hid (wc.heap[X]? = some (.cells #[.int .i64 (ot.1 : Nat), .int .i64 (ot.2.length : Nat), .string (wd ot 0), .string (wd ot 1), .string (wd ot 2), .string (wd ot 3), .string (wd ot 4), .string (wd ot 5)] 69 (0, 0))))
 case first =>
  refine wp_region_ph (fun wr => wr.cell? ⟨w.heap.size, 0, none⟩ = some iv ∧ wr.cell? ⟨k, 6, none⟩ = some pv) 7 8 rfl (by kernel_rfl) HX.out (fun hHeld => ?_); clear hHeld; refine PhS.t 0 57 HX.out ?_; refine PhS.t 1 58 HX.out ?_; refine PhS.t 2 59 HX.out ?_; refine PhS.t 3 60 HX.out ?_; refine PhS.t 4 61 HX.out ?_; refine PhS.twoL (i := 5) (j := 6) (by kernel_rfl) rfl rfl (fun K hK => ?_) (fun K hK => ?_)
  ·go_simp; refine Calls.mono (HO.out (cw w iv t).drew (cw_at ((Below.refl _ _).drew)).2.2) ?_; rintro e w2 ⟨rfl, hb2⟩; have hb2 : Below (cw w iv t).heap.size (cw w iv t) w2 := ⟨hb2.os, hb2.tape, hb2.output, hb2.size, hb2.block⟩
   refine hK.out _ _ (fun _ => HS.out w2 hb2) ?_; clear hK K; have HB2 : Hid _ := hb2; clear hb2; try simp only [Act.put, sA, sZ, sS]
   refine PhS.on 6 (fun K hK => ?_); go_simp; refine hK.out _ _ (fun _ => HS.out _ (HB2.out.alloc HB2.out.size _)) ?_; clear hK K; try simp only [Act.put, sA, sZ, sS]
   refine PhS.on 7 (fun K hK => ?_); go_simp; refine hK.out _ _ (fun h => absurd h (by decide)) ?_; clear hK K; refine PhS.done (by kernel_rfl) ?_ _; go_wp2_with fail; go_meet; exact ⟨_, rfl, HB2.out.alloc HB2.out.size _, heap_alloc_new _ _⟩
  ·go_simp; have HZB : Hid (∀ o, Below (cw w iv t).heap.size (cw w iv t) ((cw w iv t).alloc o).drew) := fun o => ((Below.refl _ _).alloc (Nat.le_refl _) o).drew
   have HZC : Hid ((((cw w iv t).alloc (.cells #[.int .i64 0, .int .i64 0, .string ⟨#[]⟩, .string ⟨#[]⟩, .string ⟨#[]⟩, .string ⟨#[]⟩, .string ⟨#[]⟩, .string ⟨#[]⟩] 69)).drew).heap[w.heap.size + 1 + 1]? = some (.cells #[.int .i64 0, .int .i64 0, .string ⟨#[]⟩, .string ⟨#[]⟩, .string ⟨#[]⟩, .string ⟨#[]⟩, .string ⟨#[]⟩, .string ⟨#[]⟩] 69 (0, 0))) := by
    have hs : (cw w iv t).heap.size = w.heap.size + 1 + 1 := by simp [cw]
    have := heap_alloc_new (cw w iv t) (.cells #[.int .i64 0, .int .i64 0, .string ⟨#[]⟩, .string ⟨#[]⟩, .string ⟨#[]⟩, .string ⟨#[]⟩, .string ⟨#[]⟩, .string ⟨#[]⟩] 69); rw [hs] at this; exact this
   refine hK.out _ _ (fun _ => HS.out _ (HZB.out _)) ?_; clear hK K; try simp only [Act.put, sA, sZ, sS]
   refine PhS.on 5 (fun K hK => ?_); go_simp; refine Calls.mono (HO.out ((cw w iv t).alloc (.cells #[.int .i64 0, .int .i64 0, .string ⟨#[]⟩, .string ⟨#[]⟩, .string ⟨#[]⟩, .string ⟨#[]⟩, .string ⟨#[]⟩, .string ⟨#[]⟩] 69)).drew (cw_at (HZB.out _)).2.2) ?_; rintro e w2 ⟨rfl, hb2⟩; have u := (hb2.block _ (lt_of_block HZC.out)).trans HZC.out; have HB2 : Hid (Below (cw w iv t).heap.size (cw w iv t) w2) := (HZB.out _).trans (hb2.mono (HZB.out _).size); refine hK.out _ _ (fun _ => HS.out w2 HB2.out) ?_; clear hK K hb2; have hfr := blk_free u; have y0 := bc 0 u rfl; have y1 := bc 1 u rfl; have y2 := bc 2 u rfl; have y3 := bc 3 u rfl; have y4 := bc 4 u rfl; have y5 := bc 5 u rfl; have y6 := bc 6 u rfl; have y7 := bc 7 u rfl; have HU : Hid _ := u; clear u; try simp only [Act.put, sA, sZ, sS]
   refine PhS.on 7 (fun K hK => ?_); go_simp; refine hK.out _ _ (fun h => absurd h (by decide)) ?_; clear hK K; refine PhS.done (by kernel_rfl) ?_ _; go_wp2_with fail; go_meet; refine ⟨_, rfl, ?_, setTy_at HU.out ot⟩; have hs : (cw w iv t).heap.size ≤ w.heap.size + 1 + 1 := by simp [cw]
   exact setTy_below HB2.out hs ot
 case rest =>
  obtain ⟨X, rfl, HB, HU⟩ := hcut; have HBw : Hid (Below w.heap.size w wc) := (cw_at HB.out).2.2; have HS : Hid (∀ wr, Below wc.heap.size wc wr → (wr.cell? ⟨w.heap.size, 0, none⟩ = some iv ∧ wr.cell? ⟨w.heap.size + 1, 0, none⟩ = some (.int .i64 (t.1 : Nat)) ∧ wr.cell? ⟨k, 6, none⟩ = some pv) ∧ wr.cell? ⟨X, 0, none⟩ = some (.int .i64 (ot.1 : Nat)) ∧ wr.cell? ⟨X, 1, none⟩ = some (.int .i64 (ot.2.length : Nat)) ∧ wr.cell? ⟨X, 2, none⟩ = some (.string (wd ot 0)) ∧ wr.cell? ⟨X, 3, none⟩ = some (.string (wd ot 1)) ∧ wr.cell? ⟨X, 4, none⟩ = some (.string (wd ot 2)) ∧ wr.cell? ⟨X, 5, none⟩ = some (.string (wd ot 3)) ∧ wr.cell? ⟨X, 6, none⟩ = some (.string (wd ot 4)) ∧ wr.cell? ⟨X, 7, none⟩ = some (.string (wd ot 5))) := by
   intro wr hb; have hb2 := HB.out.trans (hb.mono HB.out.size); obtain ⟨u1, u2, hb3⟩ := cw_at hb2; exact ⟨⟨blk_cell u1 rfl, blk_cell u2 rfl, (hb3.cell (p := ⟨k, 6, none⟩) hl).trans HC6.out⟩, ty_cells ((hb.block X (lt_of_block HU.out)).trans HU.out)⟩
  have HX : Hid _ := HS.out wc.drew (Below.refl _ _).drew; clear HU HB; cases h2 : (t.1 == 2) with
  | false =>
   have d2 : ((t.1 : Int) == 2) = false := by rw [beq_eq_false_iff_ne] at *; omega
   have HE : Hid (R = false) := by
    show _ = _; rw [HR.out, h2]; rfl
   clear h2 HR; go_upto_region 10 with fail; refine wp_region_ph (fun wr => (wr.cell? ⟨w.heap.size, 0, none⟩ = some iv ∧ wr.cell? ⟨w.heap.size + 1, 0, none⟩ = some (.int .i64 (t.1 : Nat)) ∧ wr.cell? ⟨k, 6, none⟩ = some pv) ∧ wr.cell? ⟨X, 0, none⟩ = some (.int .i64 (ot.1 : Nat)) ∧ wr.cell? ⟨X, 1, none⟩ = some (.int .i64 (ot.2.length : Nat)) ∧ wr.cell? ⟨X, 2, none⟩ = some (.string (wd ot 0)) ∧ wr.cell? ⟨X, 3, none⟩ = some (.string (wd ot 1)) ∧ wr.cell? ⟨X, 4, none⟩ = some (.string (wd ot 2)) ∧ wr.cell? ⟨X, 5, none⟩ = some (.string (wd ot 3)) ∧ wr.cell? ⟨X, 6, none⟩ = some (.string (wd ot 4)) ∧ wr.cell? ⟨X, 7, none⟩ = some (.string (wd ot 5))) 18 18 rfl (by kernel_rfl) HX.out (fun hHeld => ?_); clear hHeld; refine PhS.t 0 63 HX.out ?_; refine PhS.t 1 64 HX.out ?_; refine PhS.t 2 65 HX.out ?_; refine PhS.t 3 66 HX.out ?_; refine PhS.sk 4 (some 67) HX.out ?_; try simp only [Act.put, sA, sZ, sS]
   refine PhS.sk 5 (some 68) HX.out ?_; try simp only [Act.put, sA, sZ, sS]
   refine PhS.sk 6 (some 69) HX.out ?_; try simp only [Act.put, sA, sZ, sS]
   refine PhS.t 7 70 HX.out ?_; refine PhS.t 8 71 HX.out ?_; refine PhS.sk 9 (some 72) HX.out ?_; try simp only [Act.put, sA, sZ, sS]
   refine PhS.sk 10 (some 73) HX.out ?_; try simp only [Act.put, sA, sZ, sS]
   refine PhS.sk 11 (some 74) HX.out ?_; try simp only [Act.put, sA, sZ, sS]
   refine PhS.sk 12 (some 75) HX.out ?_; try simp only [Act.put, sA, sZ, sS]
   refine PhS.sk 13 (some 76) HX.out ?_; try simp only [Act.put, sA, sZ, sS]
   refine PhS.sk 14 (some 77) HX.out ?_; try simp only [Act.put, sA, sZ, sS]
   refine PhS.sk 15 (some 78) HX.out ?_; try simp only [Act.put, sA, sZ, sS]
   refine PhS.t 16 79 HX.out ?_; refine PhS.t 17 6 HX.out ?_; refine PhS.done (by kernel_rfl) ?_ _; go_wp2_with fail; go_ret; exact ⟨by rw [HE.out]; rfl, HBw.out.drew⟩
  | true =>
   have d2 : ((t.1 : Int) == 2) = true := by rw [beq_iff_eq] at *; omega
   by_cases h0 : ot.1 = 0
   ·have d0 : ((ot.1 : Int) != 0) = false := by rw [bne_eq_false_iff_eq]; omega
    have HE : Hid (R = false) := by
     show _ = _; rw [HR.out, h2, h0]; rfl
    clear h2 h0 HR; go_upto_region 10 with fail; refine wp_region_ph (fun wr => (wr.cell? ⟨w.heap.size, 0, none⟩ = some iv ∧ wr.cell? ⟨w.heap.size + 1, 0, none⟩ = some (.int .i64 (t.1 : Nat)) ∧ wr.cell? ⟨k, 6, none⟩ = some pv) ∧ wr.cell? ⟨X, 0, none⟩ = some (.int .i64 (ot.1 : Nat)) ∧ wr.cell? ⟨X, 1, none⟩ = some (.int .i64 (ot.2.length : Nat)) ∧ wr.cell? ⟨X, 2, none⟩ = some (.string (wd ot 0)) ∧ wr.cell? ⟨X, 3, none⟩ = some (.string (wd ot 1)) ∧ wr.cell? ⟨X, 4, none⟩ = some (.string (wd ot 2)) ∧ wr.cell? ⟨X, 5, none⟩ = some (.string (wd ot 3)) ∧ wr.cell? ⟨X, 6, none⟩ = some (.string (wd ot 4)) ∧ wr.cell? ⟨X, 7, none⟩ = some (.string (wd ot 5))) 18 18 rfl (by kernel_rfl) HX.out (fun hHeld => ?_); clear hHeld; refine PhS.t 0 63 HX.out ?_; refine PhS.t 1 64 HX.out ?_; refine PhS.t 2 65 HX.out ?_; refine PhS.t 3 66 HX.out ?_; refine PhS.t 4 67 HX.out ?_; refine PhS.t 5 68 HX.out ?_; refine PhS.t 6 69 HX.out ?_; refine PhS.t 7 70 HX.out ?_; refine PhS.t 8 71 HX.out ?_; refine PhS.sk 9 (some 72) HX.out ?_; try simp only [Act.put, sA, sZ, sS]
    refine PhS.sk 10 (some 73) HX.out ?_; try simp only [Act.put, sA, sZ, sS]
    refine PhS.sk 11 (some 74) HX.out ?_; try simp only [Act.put, sA, sZ, sS]
    refine PhS.sk 12 (some 75) HX.out ?_; try simp only [Act.put, sA, sZ, sS]
    refine PhS.sk 13 (some 76) HX.out ?_; try simp only [Act.put, sA, sZ, sS]
    refine PhS.sk 14 (some 77) HX.out ?_; try simp only [Act.put, sA, sZ, sS]
    refine PhS.sk 15 (some 78) HX.out ?_; try simp only [Act.put, sA, sZ, sS]
    refine PhS.t 16 79 HX.out ?_; refine PhS.t 17 6 HX.out ?_; refine PhS.done (by kernel_rfl) ?_ _; go_wp2_with fail; go_ret; exact ⟨by rw [HE.out]; rfl, HBw.out.drew⟩
   ·have d0 : ((ot.1 : Int) != 0) = true := by rw [bne_iff_ne]; omega
    have HE : Hid (R = A) := by
     show _ = _; rw [HR.out, h2, show (ot.1 != 0) = true by rw [bne_iff_ne]; exact h0]; rfl
    clear h2 h0 HR; go_upto_region 10 with fail; refine wp_region_ph (fun wr => (wr.cell? ⟨w.heap.size, 0, none⟩ = some iv ∧ wr.cell? ⟨w.heap.size + 1, 0, none⟩ = some (.int .i64 (t.1 : Nat)) ∧ wr.cell? ⟨k, 6, none⟩ = some pv) ∧ wr.cell? ⟨X, 0, none⟩ = some (.int .i64 (ot.1 : Nat)) ∧ wr.cell? ⟨X, 1, none⟩ = some (.int .i64 (ot.2.length : Nat)) ∧ wr.cell? ⟨X, 2, none⟩ = some (.string (wd ot 0)) ∧ wr.cell? ⟨X, 3, none⟩ = some (.string (wd ot 1)) ∧ wr.cell? ⟨X, 4, none⟩ = some (.string (wd ot 2)) ∧ wr.cell? ⟨X, 5, none⟩ = some (.string (wd ot 3)) ∧ wr.cell? ⟨X, 6, none⟩ = some (.string (wd ot 4)) ∧ wr.cell? ⟨X, 7, none⟩ = some (.string (wd ot 5))) 18 18 rfl (by kernel_rfl) HX.out (fun hHeld => ?_); clear hHeld; refine PhS.t 0 63 HX.out ?_; refine PhS.t 1 64 HX.out ?_; refine PhS.t 2 65 HX.out ?_; refine PhS.t 3 66 HX.out ?_; refine PhS.t 4 67 HX.out ?_; refine PhS.t 5 68 HX.out ?_; refine PhS.t 6 69 HX.out ?_; refine PhS.t 7 70 HX.out ?_; refine PhS.t 8 71 HX.out ?_; refine PhS.t 9 72 HX.out ?_; refine PhS.t 10 73 HX.out ?_; refine PhS.t 11 74 HX.out ?_; refine PhS.t 12 75 HX.out ?_; refine PhS.t 13 76 HX.out ?_; refine PhS.t 14 77 HX.out ?_; refine PhS.on 15 (fun K hK => ?_); go_simp; refine Calls.mono (HA.out wc.drew HBw.out.drew) ?_; rintro e w3 ⟨rfl, hb3⟩; have hb3 : Below wc.heap.size wc w3 := ⟨hb3.os, hb3.tape, hb3.output, hb3.size, hb3.block⟩
    have HX3 : Hid _ := HS.out w3 hb3; have HW3 : Hid (Below w.heap.size w w3) := HBw.out.trans (hb3.mono HBw.out.size); refine hK.out _ _ (fun _ => HX3.out) ?_; clear hK K hb3; try simp only [Act.put, sA, sZ, sS]
    refine PhS.t 16 79 HX3.out ?_; refine PhS.t 17 6 HX3.out ?_; refine PhS.done (by kernel_rfl) ?_ _; go_wp2_with fail; go_ret; exact ⟨by rw [HE.out]; rfl, HW3.out⟩
def PTK (ns : List Wk.Name) (w : World) (v : Value) (S : Wk.Sem) : Prop := (∀ x ∈ S.names, ns.contains x.1 = true) → PTr ns w v S
theorem PTK.keep {ns : List Wk.Name} {w w' : World} {v : Value} {S : Wk.Sem} (h : PTK ns w v S) (k : KeepN w w') : PTK ns w' v S := fun hn => (h hn).keep k
abbrev nptr (k : Nat) : Value := .pointer (some ⟨k, 0, none⟩)
theorem pt_val (ns : List Wk.Name) {w : World} {k : Nat} {v : VR} {item : Int} {pv : Value} (h : NodeAt w k 0 v item pv) {p : Wk.PVal} (hv : v.ok p) (hp : p.1 ≠ 0) : PTr ns w (nptr k) (Wk.semVal p) := by
 intro w' iv irs hk hc; have hn := h.keep hk; have e1 : litTy v = (Wk.semVal p).own (envOf irs) := by
  unfold litTy; rw [hv.1]; rfl
 refine ⟨⟨?_, ?_⟩, fun t ht => ?_⟩
 ·rw [← e1]; exact own_lit hn iv
 ·rw [← e1]; unfold litTy; split
  ·exact TyW.plain 0
  ·exact TyW.plain _
 ·have e2 : (Wk.semVal p).fits (envOf irs) t = vHolds t v := (vHolds_ok hv hp t).symm; rw [e2]; exact fits_lit hn iv t ht
theorem pt_null (ns : List Wk.Name) {w : World} {k : Nat} {v : VR} {item : Int} {pv : Value} (h : NodeAt w k 0 v item pv) (hv : v.kd = 0) : PTr ns w (nptr k) Wk.semNull := by
 intro w' iv irs hk hc; have hn := h.keep hk; have e1 : litTy v = (0, []) := by unfold litTy; rw [hv]; rfl
 refine ⟨⟨?_, TyW.plain 0⟩, fun t ht => ?_⟩
 ·show Calls _ _ _ _ (fun e w'' => e = .returned (tyV (0, [])) ∧ _); rw [← e1]; exact own_lit hn iv
 ·have e2 : vHolds t v = true := by unfold vHolds; rw [if_pos hv]
  show Calls _ _ _ _ (fun e w'' => e = .returned (.bool true) ∧ _); rw [← e2]; exact fits_lit hn iv t ht
theorem env_at {irs : List IR} {j : Nat} {y : Wk.Name × Wk.Ty} (h : (envOf irs)[j]? = some y) : ∃ r, irs[j]? = some r ∧ r.ty = y.2 := by
 unfold envOf at h; rw [List.getElem?_map] at h; cases hr : irs[j]? with
 | none => rw [hr] at h; cases h
 | some r =>
  rw [hr] at h; have e : (r.nm.data.toList, r.ty) = y := by simpa using h
  exact ⟨r, rfl, by rw [← e]⟩
theorem pt_name {ns : List Wk.Name} {w : World} {k : Nat} {v : VR} {pv : Value} {x : Wk.Name} (a : Nat) (h : NodeAt w k 1 v (Wk.idx x ns) pv) (hx : ns.contains x = true) : PTr ns w (nptr k) (Wk.semName x a) := by
 intro w' iv irs hk hc; have hn := h.keep hk; obtain ⟨j, y, hj, hy, ht⟩ := Wk.idx_tyOf (E := envOf irs) (by rw [envOf_names]; exact hc.pre) hx; obtain ⟨r, hr, hty⟩ := env_at hy; rw [hj] at hn; have e1 : Wk.tyOf (envOf irs) x = r.ty := by rw [ht, hty]
 refine ⟨⟨?_, ?_⟩, fun t _ => ?_⟩
 ·show Calls _ _ _ _ (fun e w'' => e = .returned (tyV (Wk.tyOf (envOf irs) x)) ∧ _); rw [e1]; exact pown_name hc.items hn hr
 ·show TyW (Wk.tyOf (envOf irs) x); rw [e1]; exact hc.items.tys r (List.mem_of_getElem? hr)
 ·show Calls _ _ _ _ (fun e w'' => e = .returned (.bool (Wk.tyOf (envOf irs) x == t)) ∧ _); rw [e1]; exact fits_name hc.items hn hr t
theorem parts_fit {ns : List Wk.Name} {w : World} {iv : Value} {irs : List IR} (hc : Cn ns w iv irs) {g off : Nat} {cs : Array Value} (hr : w.heap[g]? = some (.cells cs 70 (0, 0))) (ps : List (Value × Wk.Sem)) (hn : ps.length ≤ 3)
  (hps : ∀ j (p : Value × Wk.Sem), ps[j]? = some p → cs[off + j]? = some p.1) (hP : ∀ p ∈ ps, PTr ns w p.1 p.2) (t : Wk.Ty) (ht : TyW t) :
  ∀ w', Below w.heap.size w w' → Calls Tryz.prog 144 #[.agg #[iv], .slice (some ⟨g, off, none⟩) ps.length ps.length, tyV t] w' fun e w'' => e = .returned (.bool (ps.all (fun p => p.2.fits (envOf irs) t))) ∧ Below w'.heap.size w' w'' := by
 intro w' hb; have hr' := (hb.block g (lt_of_block hr)).trans hr; refine p_allFit g off ps.length ps hn (fun j p hj => blk_cell hr' (hps j p hj)) (fun p hp w'' hb2 => ?_) t ht; have hb3 : Below w.heap.size w w'' := hb.trans (hb2.mono hb.size); exact (hP p hp w'' iv irs (KeepN.below hb3) (hc.below hb3)).2
theorem parts_own {ns : List Wk.Name} {w : World} {iv : Value} {irs : List IR} (hc : Cn ns w iv irs) {g off : Nat} {cs : Array Value} (hr : w.heap[g]? = some (.cells cs 70 (0, 0))) (ps : List (Value × Wk.Sem)) (hn : ps.length ≤ 3)
  (hps : ∀ j (p : Value × Wk.Sem), ps[j]? = some p → cs[off + j]? = some p.1) (hP : ∀ p ∈ ps, PTr ns w p.1 p.2) :
  ∀ w', Below w.heap.size w w' → Calls Tryz.prog 145 #[.agg #[iv], .slice (some ⟨g, off, none⟩) ps.length ps.length] w' fun e w'' => e = .returned (tyV (firstOwnL (envOf irs) ps)) ∧ Below w'.heap.size w' w'' := by
 intro w' hb; have hr' := (hb.block g (lt_of_block hr)).trans hr; refine p_firstOwn g off ps.length ps hn (fun j p hj => blk_cell hr' (hps j p hj)) (fun p hp w'' hb2 => ?_); have hb3 : Below w.heap.size w w'' := hb.trans (hb2.mono hb.size); exact (hP p hp w'' iv irs (KeepN.below hb3) (hc.below hb3)).1
theorem two_at {cs : Array Value} {off : Nat} {p0 p1 : Value} {S0 S1 : Wk.Sem} (h0 : cs[off]? = some p0) (h1 : cs[off + 1]? = some p1) : ∀ j (p : Value × Wk.Sem), [(p0, S0), (p1, S1)][j]? = some p → cs[off + j]? = some p.1 := by
 intro j p hp
 match j, hp with
 | 0, hp => cases hp; exact h0
 | 1, hp => cases hp; exact h1
 | j + 2, hp => simp at hp
theorem two_mem {P : Value × Wk.Sem → Prop} {a b : Value × Wk.Sem} (ha : P a) (hb : P b) : ∀ p ∈ [a, b], P p := by
 intro p hp; rcases List.mem_cons.1 hp with e | e
 ·subst e; exact ha
 ·rcases List.mem_cons.1 e with e | e
  ·subst e; exact hb
  ·cases e
theorem pt_if {ns : List Wk.Name} {w : World} {k : Nat} {v : VR} {item : Int} {g : Nat} (h : NodeAt w k 2 v item (.slice (some ⟨g, 0, none⟩) 3 3)) {p0 p1 p2 : Value} (hr : w.heap[g]? = some (.cells #[p0, p1, p2] 70 (0, 0))) {c a b : Wk.Sem}
  (h0 : PTr ns w p0 c) (h1 : PTr ns w p1 a) (h2 : PTr ns w p2 b) : PTr ns w (nptr k) (Wk.semIf c a b) := by
 intro w' iv irs hk hc; have hn := h.keep hk; have hr' := hk _ _ _ _ (Or.inr rfl) hr; have g0 := h0.keep hk; have g1 := h1.keep hk; have g2 := h2.keep hk; have o1 := fun w'' (hb : Below w'.heap.size w' w'') => (g1 w'' iv irs (KeepN.below hb) (hc.below hb)).1
 have o2 := fun w'' (hb : Below w'.heap.size w' w'') => (g2 w'' iv irs (KeepN.below hb) (hc.below hb)).1
 refine ⟨⟨pown_if hn hr' o1 o2, ?_⟩, fun t ht => ?_⟩
 ·show TyW (Wk.fstOwn a b (envOf irs)); unfold Wk.fstOwn; split
  ·exact (o2 w' (Below.refl _ _)).2
  ·exact (o1 w' (Below.refl _ _)).2
 ·have e : (Wk.semIf c a b).fits (envOf irs) t = (c.fits (envOf irs) (2, []) && [(p1, a), (p2, b)].all (fun p => p.2.fits (envOf irs) t)) := by simp [Wk.semIf]
  rw [e]; exact fits_if hn hr' t (fun w'' hb => (g0 w'' iv irs (KeepN.below hb) (hc.below hb)).2 _ (TyW.plain 2)) (parts_fit hc hr' [(p1, a), (p2, b)] (by simp) (two_at rfl rfl) (two_mem g1 g2) t ht)
theorem pt_not {ns : List Wk.Name} {w : World} {k : Nat} {v : VR} {item : Int} {g : Nat} (h : NodeAt w k 5 v item (.slice (some ⟨g, 0, none⟩) 1 1)) {p0 : Value} (hr : w.heap[g]? = some (.cells #[p0] 70 (0, 0))) {a : Wk.Sem}
    (h0 : PTr ns w p0 a) : PTr ns w (nptr k) (Wk.semNot a) := by
  intro w' iv irs hk hc; have hn := h.keep hk; have hr' := hk _ _ _ _ (Or.inr rfl) hr; have g0 := h0.keep hk; refine ⟨⟨own_op hc.gl hn (by omega) iv, TyW.plain 2⟩, fun t ht => ?_⟩; have e : (Wk.semNot a).fits (envOf irs) t = (t.1 == isOf 5 && [(p0, a)].all (fun p => p.2.fits (envOf irs) (2, []))) := by simp [Wk.semNot, isOf]
  rw [e]; exact fits_op hc.gl hn (by omega) (parts_fit hc hr' [(p0, a)] (by simp) (fun j p hp => by
    match j, hp with
    | 0, hp => cases hp; rfl
    | j + 1, hp => simp at hp) (fun p hp => by rcases List.mem_cons.1 hp with e | e; · subst e; exact g0
                                               · cases e) (2, []) (TyW.plain 2)) t
def binKd (kd : Nat) : Prop := kd = 24 ∨ kd = 25 ∨ kd = 27 ∨ kd = 28 ∨ kd = 29 ∨ kd = 30 ∨ kd = 31 ∨ kd = 32
theorem pt_bin {ns : List Wk.Name} {w : World} {k kd : Nat} (hkd : binKd kd) {v : VR} {item : Int} {g : Nat} (h : NodeAt w k (opOf kd) v item (.slice (some ⟨g, 0, none⟩) 2 2)) {p0 p1 : Value} (hr : w.heap[g]? = some (.cells #[p0, p1] 70 (0, 0))) {a b : Wk.Sem}
  (h0 : PTr ns w p0 a) (h1 : PTr ns w p1 b) : PTr ns w (nptr k) (Wk.semBin kd a b) := by
 intro w' iv irs hk hc; have hn := h.keep hk; have hr' := hk _ _ _ _ (Or.inr rfl) hr; have g0 := h0.keep hk; have g1 := h1.keep hk; have hm : ∀ p ∈ [(p0, a), (p1, b)], PTr ns w' p.1 p.2 := two_mem g0 g1; have hps : ∀ j (p : Value × Wk.Sem), [(p0, a), (p1, b)][j]? = some p → #[p0, p1][0 + j]? = some p.1 := two_at rfl rfl; have op : ∀ (K tk io : Nat), opOf kd = K → takesOf K = tk → isOf K = io → (K = 3 ∨ K = 4 ∨ K = 5 ∨ K = 7 ∨ K = 8 ∨ K = 9 ∨ K = 10 ∨ K = 11) → (Wk.semBin kd a b).own (envOf irs) = (io, []) → (∀ t, (Wk.semBin kd a b).fits (envOf irs) t = (t.1 == io && [(p0, a), (p1, b)].all (fun p => p.2.fits (envOf irs) (tk, [])))) → OwnAt w' iv irs (nptr k) (Wk.semBin kd a b) ∧ FitsAt w' iv irs (nptr k) (Wk.semBin kd a b) := by
  intro K tk io e1 e2 e3 hK e4 e5; rw [e1] at hn; refine ⟨⟨?_, ?_⟩, fun t ht => ?_⟩
  ·rw [e4, ← e3]; exact own_op hc.gl hn hK iv
  ·rw [e4]; exact TyW.plain _
  ·rw [e5, ← e3]; refine fits_op hc.gl hn hK ?_ t; rw [e2]; exact parts_fit hc hr' _ (by simp) hps hm _ (TyW.plain _)
 rcases hkd with rfl | rfl | rfl | rfl | rfl | rfl | rfl | rfl
 ·exact op 3 2 2 rfl rfl rfl (by omega) rfl (fun t => by simp [Wk.semBin])
 ·exact op 4 2 2 rfl rfl rfl (by omega) rfl (fun t => by simp [Wk.semBin])
 ·exact op 8 1 1 rfl rfl rfl (by omega) rfl (fun t => by simp [Wk.semBin])
 ·exact op 9 1 1 rfl rfl rfl (by omega) rfl (fun t => by simp [Wk.semBin])
 ·exact op 10 1 1 rfl rfl rfl (by omega) rfl (fun t => by simp [Wk.semBin])
 ·exact op 11 1 1 rfl rfl rfl (by omega) rfl (fun t => by simp [Wk.semBin])
 ·have ob := (g1 w' iv irs (KeepN.refl _) hc).1.2; have oa := (g0 w' iv irs (KeepN.refl _) hc).1.2; have e2 := firstOwnL_two (E := envOf irs) (a := (p0, a)) (b := (p1, b)) ob; have hw : TyW (Wk.fstOwn a b (envOf irs)) := by
   unfold Wk.fstOwn; split
   ·exact ob
   ·exact oa
  have hO := parts_own hc hr' _ (by simp) hps hm; rw [e2] at hO; refine ⟨⟨own_eq hn iv, TyW.plain 2⟩, fun t ht => ?_⟩; have e : (Wk.semBin 31 a b).fits (envOf irs) t = (t.1 == 2 && ((Wk.fstOwn a b (envOf irs)).1 != 0 && [(p0, a), (p1, b)].all (fun p => p.2.fits (envOf irs) (Wk.fstOwn a b (envOf irs))))) := by simp [Wk.semBin]
  rw [e]; exact fits_eq hn hO (parts_fit hc hr' _ (by simp) hps hm _ hw) t
 ·exact op 7 1 2 rfl rfl rfl (by omega) rfl (fun t => by simp [Wk.semBin])
end Go.Proofs.YtbkaghlklkdmkaaGreatDoor
