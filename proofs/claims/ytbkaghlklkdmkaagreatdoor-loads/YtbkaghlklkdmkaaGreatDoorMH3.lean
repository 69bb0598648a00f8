/-
  The checker: own. The checker: fits, at a literal and at a name.
-/
import Derived.Test.YtbkaghlklkdmkaaGreatDoorMH2
import Derived.Deep.Cut
import Derived.ChangeKeysEq
set_option maxRecDepth 100000
set_option maxHeartbeats 8000000
namespace Go.Proofs.YtbkaghlklkdmkaaGreatDoor
open Go.RowKit
def NodeAt (w : World) (k kind : Nat) (v : VR) (item : Int) (pv : Value) : Prop := w.heap[k]? = some (.cells #[.int .i64 (kind : Nat), .int .i64 v.kd, .int .i64 v.no, .bool v.tr, .string v.tx, .int .i64 item, pv] 246 (0, 0))
theorem NodeAt.keep {w w' : World} {k kind : Nat} {v : VR} {item : Int} {pv : Value} (h : NodeAt w k kind v item pv) (hk : KeepN w w') : NodeAt w' k kind v item pv := hk _ _ _ _ (Or.inl rfl) h
theorem NodeAt.cells {w : World} {k kind : Nat} {v : VR} {item : Int} {pv : Value} (h : NodeAt w k kind v item pv) : w.cell? ⟨k, 0, none⟩ = some (.int .i64 (kind : Nat)) ∧ w.cell? ⟨k, 1, none⟩ = some (.int .i64 v.kd) ∧ w.cell? ⟨k, 2, none⟩ = some (.int .i64 v.no) ∧ w.cell? ⟨k, 3, none⟩ = some (.bool v.tr) ∧ w.cell? ⟨k, 4, none⟩ = some (.string v.tx) ∧ w.cell? ⟨k, 5, none⟩ = some (.int .i64 item) ∧ w.cell? ⟨k, 6, none⟩ = some pv :=
 ⟨blk_cell h rfl, blk_cell h rfl, blk_cell h rfl, blk_cell h rfl, blk_cell h rfl, blk_cell h rfl, blk_cell h rfl⟩
def litTy (v : VR) : Wk.Ty := if v.kd = 3 then (0, []) else (v.kd, [])
theorem p_ownLit2 (v : VR) (w : World) : Calls Tryz.prog 208 #[.agg #[.int .i64 v.kd, .int .i64 v.no, .bool v.tr, .string v.tx]] w fun e w' => e = .returned (tyV (litTy v)) ∧ Below w.heap.size w w' := p_ownLit v w
theorem own_lit {w : World} {k : Nat} {v : VR} {item : Int} {pv : Value} (h : NodeAt w k 0 v item pv) (iv : Value) :
  Calls Tryz.prog 178 #[.agg #[iv], .pointer (some ⟨k, 0, none⟩)] w fun e w' => e = .returned (tyV (litTy v)) ∧ Below w.heap.size w w' := by
 obtain ⟨c0, c1, c2, c3, c4, c5, c6⟩ := h.cells; have c0 : w.cell? ⟨k, 0, none⟩ = some (.int .i64 0) := c0; have hl := lt_of_block h; obtain ⟨ot, hot⟩ : ∃ ot, ot = litTy v := ⟨_, rfl⟩
 rw [← hot]; have HO : Hid _ := hot; clear h hot; go_enter Tryz.func178, Tryz.ntmps178; go_wp2_with fail; refine (p_ownLit2 v _).mono ?_; rintro e w2 ⟨rfl, hb2⟩; rw [← HO.out]; obtain ⟨-, u2, hbw⟩ := cw_at (w := w) (iv := iv) (t := (0, [])) hb2; obtain ⟨y0, y1, y2, y3, y4, y5, y6, y7⟩ := ty_cells (t := (0, [])) u2; have hfr := blk_free u2; have HW : Hid _ := hbw; clear hb2 hbw u2 c0 c1 c2 c3 c4 c5 c6; unfold tyV; go_wp2_with fail; refine bodyPost_ret (v := tyV ot) (by simp [results, Tryz.results178, go_sem, tyV, y0, y1, y2, y3, y4, y5, y6, y7]) rfl ⟨rfl, ?_⟩; exact (setTy_below HW.out (Nat.le_succ _) ot : Below w.heap.size w (setTy w2 (w.heap.size + 1) ot))
theorem own_eq {w : World} {k : Nat} {v : VR} {item : Int} {pv : Value} (h : NodeAt w k 6 v item pv) (iv : Value) :
  Calls Tryz.prog 178 #[.agg #[iv], .pointer (some ⟨k, 0, none⟩)] w fun e w' => e = .returned (tyV (2, [])) ∧ Below w.heap.size w w' := by
 obtain ⟨c0, c1, c2, c3, c4, c5, c6⟩ := h.cells; have c0 : w.cell? ⟨k, 0, none⟩ = some (.int .i64 6) := c0; have hl := lt_of_block h; clear h; go_enter Tryz.func178, Tryz.ntmps178; go_wp2_with fail; exact bodyPost_ret (v := tyV (2, [])) (by simp [results, Tryz.results178, go_sem, tyV_plain]) rfl ⟨rfl, ab2 _ _ _⟩
theorem own_op {w : World} (hG : Gl w) {k kind : Nat} {v : VR} {item : Int} {pv : Value} (h : NodeAt w k kind v item pv) (hk : kind = 3 ∨ kind = 4 ∨ kind = 5 ∨ kind = 7 ∨ kind = 8 ∨ kind = 9 ∨ kind = 10 ∨ kind = 11) (iv : Value) :
  Calls Tryz.prog 178 #[.agg #[iv], .pointer (some ⟨k, 0, none⟩)] w fun e w' => e = .returned (tyV (isOf kind, [])) ∧ Below w.heap.size w w' := by
 obtain ⟨c0, c1, c2, c3, c4, c5, c6⟩ := h.cells; have hl := lt_of_block h; have g1 := hG.is_ kind (by omega); have hg0 : 0 < w.heap.size := by have := hG.size; omega
 have d0 : ((kind : Int) == 0) = false := by rw [beq_eq_false_iff_ne]; omega
 have d1 : ((kind : Int) == 1) = false := by rw [beq_eq_false_iff_ne]; omega
 have d2 : ((kind : Int) == 2) = false := by rw [beq_eq_false_iff_ne]; omega
 have d6 : ((kind : Int) == 6) = false := by rw [beq_eq_false_iff_ne]; omega
 have hk0 : (0 : Int) ≤ (kind : Int) := by omega
 have hk1 : (kind : Int) < 12 := by omega
 rw [show 2 * kind + 1 = kind * 2 + 1 by omega] at g1; clear h hG hk; generalize isOf kind = io at *
 go_enter Tryz.func178, Tryz.ntmps178; go_wp2_with fail; exact bodyPost_ret (v := tyV (io, [])) (by simp [results, Tryz.results178, go_sem, tyV_plain]) rfl ⟨rfl, ab2 _ _ _⟩
theorem item_ty {w : World} {iv : Value} {irs : List IR} (h : ItemsAt w iv irs) {j : Nat} {r : IR} (hj : irs[j]? = some r) : ∃ g cap, iv = .slice (some ⟨g, 0, none⟩) irs.length cap ∧ irs.length ≤ cap ∧ g < w.heap.size ∧
  (w.cell? ⟨g, j * 15 + 2, none⟩ = some (.int .i64 (r.ty.1 : Nat)) ∧ w.cell? ⟨g, j * 15 + 3, none⟩ = some (.int .i64 (r.ty.2.length : Nat)) ∧ w.cell? ⟨g, j * 15 + 4, none⟩ = some (.string (wd r.ty 0)) ∧ w.cell? ⟨g, j * 15 + 5, none⟩ = some (.string (wd r.ty 1)) ∧ w.cell? ⟨g, j * 15 + 6, none⟩ = some (.string (wd r.ty 2)) ∧ w.cell? ⟨g, j * 15 + 7, none⟩ = some (.string (wd r.ty 3)) ∧ w.cell? ⟨g, j * 15 + 8, none⟩ = some (.string (wd r.ty 4)) ∧ w.cell? ⟨g, j * 15 + 9, none⟩ = some (.string (wd r.ty 5))) := by
 obtain ⟨g, cap, h1, h2, h3⟩ := h.ex; exact ⟨g, cap, h1, h2, World.block_lt_of_cell? w _ (h3 j r hj 2 _ rfl), h3 j r hj 2 _ rfl, h3 j r hj 3 _ rfl, h3 j r hj 4 _ rfl, h3 j r hj 5 _ rfl, h3 j r hj 6 _ rfl, h3 j r hj 7 _ rfl, h3 j r hj 8 _ rfl, h3 j r hj 9 _ rfl⟩
theorem pown_name {w : World} {iv : Value} {irs : List IR} (hI : ItemsAt w iv irs) {k j : Nat} {v : VR} {pv : Value} (h : NodeAt w k 1 v (j : Int) pv) {r : IR} (hj : irs[j]? = some r) :
  Calls Tryz.prog 178 #[.agg #[iv], .pointer (some ⟨k, 0, none⟩)] w fun e w' => e = .returned (tyV r.ty) ∧ Below w.heap.size w w' := by
 obtain ⟨g, cap, rfl, hcap, hgl, z0, z1, z2, z3, z4, z5, z6, z7⟩ := item_ty hI hj; obtain ⟨c0, c1, c2, c3, c4, c5, c6⟩ := h.cells; have c0 : w.cell? ⟨k, 0, none⟩ = some (.int .i64 1) := c0; have hl := lt_of_block h; have hjl : j < irs.length := (List.getElem?_eq_some_iff.1 hj).1; have hj0 : (0 : Int) ≤ (j : Int) := by omega
 have hj1 : (j : Int) < (irs.length : Int) := by omega
 have hfew := hI.few; have HS : Hid (∀ wr, Below (cw w (.slice (some ⟨g, 0, none⟩) irs.length cap) (0, [])).heap.size (cw w (.slice (some ⟨g, 0, none⟩) irs.length cap) (0, [])) wr → wr.cell? ⟨w.heap.size, 0, none⟩ = some (.slice (some ⟨g, 0, none⟩) irs.length cap) ∧ wr.cell? ⟨k, 5, none⟩ = some (.int .i64 (j : Int)) ∧ wr.cell? ⟨g, j * 15 + 2, none⟩ = some (.int .i64 (r.ty.1 : Nat)) ∧ wr.cell? ⟨g, j * 15 + 3, none⟩ = some (.int .i64 (r.ty.2.length : Nat)) ∧ wr.cell? ⟨g, j * 15 + 4, none⟩ = some (.string (wd r.ty 0)) ∧ wr.cell? ⟨g, j * 15 + 5, none⟩ = some (.string (wd r.ty 1)) ∧ wr.cell? ⟨g, j * 15 + 6, none⟩ = some (.string (wd r.ty 2)) ∧ wr.cell? ⟨g, j * 15 + 7, none⟩ = some (.string (wd r.ty 3)) ∧ wr.cell? ⟨g, j * 15 + 8, none⟩ = some (.string (wd r.ty 4)) ∧ wr.cell? ⟨g, j * 15 + 9, none⟩ = some (.string (wd r.ty 5))) := by
  intro wr hb; obtain ⟨u1, -, hb⟩ := cw_at hb; refine ⟨blk_cell u1 rfl, ?_, ?_, ?_, ?_, ?_, ?_, ?_, ?_, ?_⟩
  ·exact (hb.cell (p := ⟨k, 5, none⟩) hl).trans c5
  ·exact (hb.cell (p := ⟨g, j * 15 + 2, none⟩) hgl).trans z0
  ·exact (hb.cell (p := ⟨g, j * 15 + 3, none⟩) hgl).trans z1
  ·exact (hb.cell (p := ⟨g, j * 15 + 4, none⟩) hgl).trans z2
  ·exact (hb.cell (p := ⟨g, j * 15 + 5, none⟩) hgl).trans z3
  ·exact (hb.cell (p := ⟨g, j * 15 + 6, none⟩) hgl).trans z4
  ·exact (hb.cell (p := ⟨g, j * 15 + 7, none⟩) hgl).trans z5
  ·exact (hb.cell (p := ⟨g, j * 15 + 8, none⟩) hgl).trans z6
  ·exact (hb.cell (p := ⟨g, j * 15 + 9, none⟩) hgl).trans z7
 have HX : Hid _ := HS.out (cw w (.slice (some ⟨g, 0, none⟩) irs.length cap) (0, [])).drew ((Below.refl _ _).drew); clear h hI hj z0 z1 z2 z3 z4 z5 z6 z7; generalize r.ty = ty at *
 go_enter Tryz.func178, Tryz.ntmps178; go_upto_region 5 with fail; refine wp_region_ph (fun wr => wr.cell? ⟨w.heap.size, 0, none⟩ = some (.slice (some ⟨g, 0, none⟩) irs.length cap) ∧ wr.cell? ⟨k, 5, none⟩ = some (.int .i64 (j : Int)) ∧ wr.cell? ⟨g, j * 15 + 2, none⟩ = some (.int .i64 (ty.1 : Nat)) ∧ wr.cell? ⟨g, j * 15 + 3, none⟩ = some (.int .i64 (ty.2.length : Nat)) ∧ wr.cell? ⟨g, j * 15 + 4, none⟩ = some (.string (wd ty 0)) ∧ wr.cell? ⟨g, j * 15 + 5, none⟩ = some (.string (wd ty 1)) ∧ wr.cell? ⟨g, j * 15 + 6, none⟩ = some (.string (wd ty 2)) ∧ wr.cell? ⟨g, j * 15 + 7, none⟩ = some (.string (wd ty 3)) ∧ wr.cell? ⟨g, j * 15 + 8, none⟩ = some (.string (wd ty 4)) ∧ wr.cell? ⟨g, j * 15 + 9, none⟩ = some (.string (wd ty 5))) 9 10 rfl (by kernel_rfl) HX.out (fun hHeld => ?_); clear hHeld; refine PhS.t 0 18 HX.out ?_; refine PhS.t 1 19 HX.out ?_; refine PhS.t 2 20 HX.out ?_; refine PhS.t 3 21 HX.out ?_; refine PhS.t 4 22 HX.out ?_; refine PhS.t 5 23 HX.out ?_; refine PhS.t 6 24 HX.out ?_; refine PhS.t 7 25 HX.out ?_; refine PhS.t 8 26 HX.out ?_; refine PhS.on 9 (fun K hK => ?_); go_simp; refine hK.out _ _ (fun h => absurd h (by decide)) ?_; clear hK K; refine PhS.done (by kernel_rfl) ?_ _; go_wp2_with fail; exact bodyPost_ret (v := tyV ty) (by simp [results, Tryz.results178, go_sem, tyV]) rfl ⟨rfl, (ab2 _ _ _).drew⟩
theorem pown_if {w : World} {iv : Value} {irs : List IR} {k : Nat} {v : VR} {item : Int} {g : Nat} (h : NodeAt w k 2 v item (.slice (some ⟨g, 0, none⟩) 3 3)) {p0 p1 p2 : Value} (hr : w.heap[g]? = some (.cells #[p0, p1, p2] 70 (0, 0))) {S1 S2 : Wk.Sem}
  (h1 : ∀ w', Below w.heap.size w w' → OwnAt w' iv irs p1 S1) (h2 : ∀ w', Below w.heap.size w w' → OwnAt w' iv irs p2 S2) :
  Calls Tryz.prog 178 #[.agg #[iv], .pointer (some ⟨k, 0, none⟩)] w fun e w' => e = .returned (tyV (Wk.fstOwn S1 S2 (envOf irs))) ∧ Below w.heap.size w w' := by
 have hE := firstOwnL_two (E := envOf irs) (a := (p1, S1)) (b := (p2, S2)) (h2 w (Below.refl _ _)).2; have hE2 : Wk.fstOwn S1 S2 (envOf irs) = firstOwnL (envOf irs) [(p1, S1), (p2, S2)] := hE.symm; rw [hE2]; clear hE hE2; obtain ⟨c0, c1, c2, c3, c4, c5, c6⟩ := h.cells; have c0 : w.cell? ⟨k, 0, none⟩ = some (.int .i64 2) := c0; have hl := lt_of_block h; have hgl := lt_of_block hr; have HF : Hid (∀ w', Below w.heap.size w w' → Calls Tryz.prog 145 #[.agg #[iv], .slice (some ⟨g, 1, none⟩) 2 2] w' fun e w'' => e = .returned (tyV (firstOwnL (envOf irs) [(p1, S1), (p2, S2)])) ∧ Below w'.heap.size w' w'') := by
  intro w' hb; refine p_firstOwn (irs := irs) g 1 2 [(p1, S1), (p2, S2)] (by simp) ?_ ?_
  ·intro j p hp; have hr' := (hb.block g hgl).trans hr
   match j, hp with
   | 0, hp => cases hp; exact bc 1 hr' rfl
   | 1, hp => cases hp; exact bc 2 hr' rfl
   | j + 2, hp => simp at hp
  ·intro p hp w'' hb2; have hb3 : Below w.heap.size w w'' := hb.trans (hb2.mono hb.size); rcases List.mem_cons.1 hp with e | e
   ·subst e; exact h1 w'' hb3
   ·rcases List.mem_cons.1 e with e | e
    ·subst e; exact h2 w'' hb3
    ·cases e
 generalize firstOwnL (envOf irs) [(p1, S1), (p2, S2)] = ot at *
 have HS : Hid (∀ wr, Below (cw w iv (0, [])).heap.size (cw w iv (0, [])) wr → wr.cell? ⟨w.heap.size, 0, none⟩ = some iv ∧ wr.cell? ⟨k, 6, none⟩ = some (.slice (some ⟨g, 0, none⟩) 3 3)) := by
  intro wr hb; obtain ⟨u1, -, hb⟩ := cw_at hb; exact ⟨blk_cell u1 rfl, (hb.cell (p := ⟨k, 6, none⟩) hl).trans c6⟩
 have HX : Hid _ := HS.out (cw w iv (0, [])).drew ((Below.refl _ _).drew); have hc1 : (1 : Int) ≤ 3 := by decide
 clear h hr h1 h2; go_enter Tryz.func178, Tryz.ntmps178; go_upto_region 7 with fail; refine wp_region_ph (fun wr => wr.cell? ⟨w.heap.size, 0, none⟩ = some iv ∧ wr.cell? ⟨k, 6, none⟩ = some (.slice (some ⟨g, 0, none⟩) 3 3)) 7 8 rfl (by kernel_rfl) HX.out (fun hHeld => ?_); clear hHeld; refine PhS.t 0 29 HX.out ?_; refine PhS.t 1 30 HX.out ?_; refine PhS.t 2 31 HX.out ?_; refine PhS.t 3 32 HX.out ?_; refine PhS.t 4 33 HX.out ?_; refine PhS.t 5 34 HX.out ?_; refine PhS.on 6 (fun K hK => ?_); go_simp; refine Calls.mono (HF.out (cw w iv (0, [])).drew (ab2 _ _ _).drew) ?_; rintro e w2 ⟨rfl, hb2⟩; have hb2 : Below (cw w iv (0, [])).heap.size (cw w iv (0, [])) w2 := ⟨hb2.os, hb2.tape, hb2.output, hb2.size, hb2.block⟩
 refine hK.out _ _ (fun _ => HS.out w2 hb2) ?_; clear hK K; obtain ⟨-, u2, hbw⟩ := cw_at hb2; obtain ⟨y0, y1, y2, y3, y4, y5, y6, y7⟩ := ty_cells (t := (0, [])) u2; have hfr := blk_free u2; have HW : Hid _ := hbw; clear hb2 hbw u2; try simp only [Act.put, sA, sZ, sS]
 unfold tyV; refine PhS.on 7 (fun K hK => ?_); go_simp; refine hK.out _ _ (fun h => absurd h (by decide)) ?_; clear hK K; refine PhS.done (by kernel_rfl) ?_ _; go_wp2_with fail; refine bodyPost_ret (v := tyV ot) (by simp [results, Tryz.results178, go_sem, tyV, y0, y1, y2, y3, y4, y5, y6, y7]) rfl ⟨rfl, ?_⟩; exact (setTy_below HW.out (Nat.le_succ _) ot : Below w.heap.size w (setTy w2 (w.heap.size + 1) ot))
theorem Tryz.und67 : Tryz.prog.underlying 67 = some (.array 6 9) := by kernel_rfl
theorem Tryz.und9 : Tryz.prog.underlying 9 = some .string := by kernel_rfl
theorem Tryz.cells9 : Tryz.prog.cellsOf 9 = 1 := by kernel_rfl
def wEq (a b : Wk.Ty) : Bool := (wd a 0).toList == (wd b 0).toList && ((wd a 1).toList == (wd b 1).toList && ((wd a 2).toList == (wd b 2).toList && ((wd a 3).toList == (wd b 3).toList && ((wd a 4).toList == (wd b 4).toList && (wd a 5).toList == (wd b 5).toList))))
theorem eq67 (a b : Wk.Ty) (w : World) : (Op.equalIn 9999 67 (.agg #[.string (wd a 0), .string (wd a 1), .string (wd a 2), .string (wd a 3), .string (wd a 4), .string (wd a 5)]) (.agg #[.string (wd b 0), .string (wd b 1), .string (wd b 2), .string (wd b 3), .string (wd b 4), .string (wd b 5)])).run Tryz.prog w = .ok (wEq a b) w := by
 have h9 : (Tryz.prog.info? 9).isSome = true := by kernel_rfl
 obtain ⟨i, hi⟩ := Option.isSome_iff_exists.1 h9; rw [show (9999 : Nat) = 9998 + 1 from rfl, run_equalIn_array w 9998 _ _ Tryz.und67 hi, Tryz.cells9]; have hs : ∀ (x y : ByteArray) (w : World), (Op.equalIn 9998 9 (.string x) (.string y)).run Tryz.prog w = .ok (x.toList == y.toList) w := fun x y w => run_equalIn_string w 9997 9 x y Tryz.und9
 rw [show List.range 6 = [0, 1, 2, 3, 4, 5] from rfl]; unfold wEq; generalize wd a 0 = x0, wd a 1 = x1, wd a 2 = x2, wd a 3 = x3, wd a 4 = x4, wd a 5 = x5; generalize wd b 0 = y0, wd b 1 = y1, wd b 2 = y2, wd b 3 = y3, wd b 4 = y4, wd b 5 = y5; simp only [Op.eqItems]; simp [go_sem, hs]; repeat' split
 all_goals simp [*]
theorem ty_beq {a b : Wk.Ty} (ha : a.2.length ≤ 6) : (a == b) = (decide ((a.1 : Int) = b.1) && (decide ((a.2.length : Int) = b.2.length) && wEq a b)) := by
 rw [Bool.eq_iff_iff]; simp only [beq_iff_eq, Bool.and_eq_true, decide_eq_true_eq, wEq, ByteArray.toList_eq]; constructor
 ·rintro rfl; simp
 ·rintro ⟨h1, h2, e0, e1, e2, e3, e4, e5⟩; refine Prod.ext (by omega) (wd_inj ha (by omega) ?_); intro k hk; have hx : ∀ x y : ByteArray, x.data.toList = y.data.toList → x = y := fun x y h => by cases x; cases y; simp at h; simpa using h
  have : k = 0 ∨ k = 1 ∨ k = 2 ∨ k = 3 ∨ k = 4 ∨ k = 5 := by omega
  rcases this with rfl | rfl | rfl | rfl | rfl | rfl
  ·exact hx _ _ e0
  ·exact hx _ _ e1
  ·exact hx _ _ e2
  ·exact hx _ _ e3
  ·exact hx _ _ e4
  ·exact hx _ _ e5
theorem fits_lit {w : World} {k : Nat} {v : VR} {item : Int} {pv : Value} (h : NodeAt w k 0 v item pv) (iv : Value) (t : Wk.Ty) (ht : TyW t) :
  Calls Tryz.prog 110 #[.agg #[iv], .pointer (some ⟨k, 0, none⟩), tyV t] w fun e w' => e = .returned (.bool (vHolds t v)) ∧ Below w.heap.size w w' := by
 obtain ⟨c0, c1, c2, c3, c4, c5, c6⟩ := h.cells; have c0 : w.cell? ⟨k, 0, none⟩ = some (.int .i64 0) := c0; have hl := lt_of_block h; have HS : Hid (∀ wr, Below (cw w iv t).heap.size (cw w iv t) wr → (wr.cell? ⟨w.heap.size + 1, 0, none⟩ = some (.int .i64 (t.1 : Nat)) ∧ wr.cell? ⟨w.heap.size + 1, 1, none⟩ = some (.int .i64 (t.2.length : Nat)) ∧ wr.cell? ⟨w.heap.size + 1, 2, none⟩ = some (.string (wd t 0)) ∧ wr.cell? ⟨w.heap.size + 1, 3, none⟩ = some (.string (wd t 1)) ∧ wr.cell? ⟨w.heap.size + 1, 4, none⟩ = some (.string (wd t 2)) ∧ wr.cell? ⟨w.heap.size + 1, 5, none⟩ = some (.string (wd t 3)) ∧ wr.cell? ⟨w.heap.size + 1, 6, none⟩ = some (.string (wd t 4)) ∧ wr.cell? ⟨w.heap.size + 1, 7, none⟩ = some (.string (wd t 5))) ∧ wr.cell? ⟨k, 1, none⟩ = some (.int .i64 v.kd) ∧ wr.cell? ⟨k, 2, none⟩ = some (.int .i64 v.no) ∧ wr.cell? ⟨k, 3, none⟩ = some (.bool v.tr) ∧ wr.cell? ⟨k, 4, none⟩ = some (.string v.tx)) := by
  intro wr hb; obtain ⟨-, u2, hb⟩ := cw_at hb; exact ⟨ty_cells u2, (hb.cell (p := ⟨k, 1, none⟩) hl).trans c1, (hb.cell (p := ⟨k, 2, none⟩) hl).trans c2, (hb.cell (p := ⟨k, 3, none⟩) hl).trans c3, (hb.cell (p := ⟨k, 4, none⟩) hl).trans c4⟩
 have HX : Hid _ := HS.out (cw w iv t).drew ((Below.refl _ _).drew); have HC : Hid _ := p_Holds t ht.1 v (cw w iv t).drew; obtain ⟨R, hR⟩ : ∃ R, R = vHolds t v := ⟨_, rfl⟩
 rw [← hR]; rw [← hR] at HC; clear h c1 c2 c3 c4 hR; unfold tyV; unfold tyV VR.val at HC; go_enter Tryz.func110, Tryz.ntmps110; go_upto_region 3 with fail; refine wp_region_ph (fun wr => (wr.cell? ⟨w.heap.size + 1, 0, none⟩ = some (.int .i64 (t.1 : Nat)) ∧ wr.cell? ⟨w.heap.size + 1, 1, none⟩ = some (.int .i64 (t.2.length : Nat)) ∧ wr.cell? ⟨w.heap.size + 1, 2, none⟩ = some (.string (wd t 0)) ∧ wr.cell? ⟨w.heap.size + 1, 3, none⟩ = some (.string (wd t 1)) ∧ wr.cell? ⟨w.heap.size + 1, 4, none⟩ = some (.string (wd t 2)) ∧ wr.cell? ⟨w.heap.size + 1, 5, none⟩ = some (.string (wd t 3)) ∧ wr.cell? ⟨w.heap.size + 1, 6, none⟩ = some (.string (wd t 4)) ∧ wr.cell? ⟨w.heap.size + 1, 7, none⟩ = some (.string (wd t 5))) ∧ wr.cell? ⟨k, 1, none⟩ = some (.int .i64 v.kd) ∧ wr.cell? ⟨k, 2, none⟩ = some (.int .i64 v.no) ∧ wr.cell? ⟨k, 3, none⟩ = some (.bool v.tr) ∧ wr.cell? ⟨k, 4, none⟩ = some (.string v.tx)) 7 7 rfl (by kernel_rfl) HX.out (fun hHeld => ?_); clear hHeld; refine PhS.t 0 15 HX.out ?_; refine PhS.t 1 16 HX.out ?_; refine PhS.t 2 17 HX.out ?_; refine PhS.t 3 18 HX.out ?_; refine PhS.t 4 19 HX.out ?_; refine PhS.on 5 (fun K hK => ?_); go_simp; refine Calls.mono HC.out ?_; rintro e w2 ⟨rfl, hb2⟩; have hb2 : Below (cw w iv t).heap.size (cw w iv t) w2 := ⟨hb2.os, hb2.tape, hb2.output, hb2.size, hb2.block⟩
 have HX2 : Hid _ := HS.out w2 hb2; have HW : Hid (Below w.heap.size w w2) := (cw_at hb2).2.2; refine hK.out _ _ (fun _ => HX2.out) ?_; clear hK K hb2; try simp only [Act.put, sA, sZ, sS]
 refine PhS.t 6 6 HX2.out ?_; refine PhS.done (by kernel_rfl) ?_ _; go_wp2_with fail; go_ret; exact ⟨rfl, HW.out⟩
theorem fits_name {w : World} {iv : Value} {irs : List IR} (hI : ItemsAt w iv irs) {k j : Nat} {v : VR} {pv : Value} (h : NodeAt w k 1 v (j : Int) pv) {r : IR} (hj : irs[j]? = some r) (t : Wk.Ty) :
  Calls Tryz.prog 110 #[.agg #[iv], .pointer (some ⟨k, 0, none⟩), tyV t] w fun e w' => e = .returned (.bool (r.ty == t)) ∧ Below w.heap.size w w' := by
 have hrw := hI.tys r (List.mem_of_getElem? hj); obtain ⟨g, cap, rfl, hcap, hgl, z0, z1, z2, z3, z4, z5, z6, z7⟩ := item_ty hI hj; obtain ⟨c0, c1, c2, c3, c4, c5, c6⟩ := h.cells; have c0 : w.cell? ⟨k, 0, none⟩ = some (.int .i64 1) := c0; have hl := lt_of_block h; have hjl : j < irs.length := (List.getElem?_eq_some_iff.1 hj).1; have hj0 : (0 : Int) ≤ (j : Int) := by omega
 have hj1 : (j : Int) < (irs.length : Int) := by omega
 have hfew := hI.few; generalize hty : r.ty = ty at *
 have HX : Hid (∀ wr, Below (cw w (.slice (some ⟨g, 0, none⟩) irs.length cap) t).heap.size (cw w (.slice (some ⟨g, 0, none⟩) irs.length cap) t) wr → (wr.cell? ⟨w.heap.size + 1, 0, none⟩ = some (.int .i64 (t.1 : Nat)) ∧ wr.cell? ⟨w.heap.size + 1, 1, none⟩ = some (.int .i64 (t.2.length : Nat)) ∧ wr.cell? ⟨w.heap.size + 1, 2, none⟩ = some (.string (wd t 0)) ∧ wr.cell? ⟨w.heap.size + 1, 3, none⟩ = some (.string (wd t 1)) ∧ wr.cell? ⟨w.heap.size + 1, 4, none⟩ = some (.string (wd t 2)) ∧ wr.cell? ⟨w.heap.size + 1, 5, none⟩ = some (.string (wd t 3)) ∧ wr.cell? ⟨w.heap.size + 1, 6, none⟩ = some (.string (wd t 4)) ∧ wr.cell? ⟨w.heap.size + 1, 7, none⟩ = some (.string (wd t 5))) ∧ wr.cell? ⟨w.heap.size, 0, none⟩ = some (.slice (some ⟨g, 0, none⟩) irs.length cap) ∧ wr.cell? ⟨k, 5, none⟩ = some (.int .i64 (j : Int)) ∧ wr.cell? ⟨g, j * 15 + 2, none⟩ = some (.int .i64 (ty.1 : Nat)) ∧ wr.cell? ⟨g, j * 15 + 3, none⟩ = some (.int .i64 (ty.2.length : Nat)) ∧ wr.cell? ⟨g, j * 15 + 4, none⟩ = some (.string (wd ty 0)) ∧ wr.cell? ⟨g, j * 15 + 5, none⟩ = some (.string (wd ty 1)) ∧ wr.cell? ⟨g, j * 15 + 6, none⟩ = some (.string (wd ty 2)) ∧ wr.cell? ⟨g, j * 15 + 7, none⟩ = some (.string (wd ty 3)) ∧ wr.cell? ⟨g, j * 15 + 8, none⟩ = some (.string (wd ty 4)) ∧ wr.cell? ⟨g, j * 15 + 9, none⟩ = some (.string (wd ty 5))) := by
  intro wr hb; obtain ⟨u1, u2, hb⟩ := cw_at hb; refine ⟨ty_cells u2, blk_cell u1 rfl, ?_, ?_, ?_, ?_, ?_, ?_, ?_, ?_, ?_⟩
  ·exact (hb.cell (p := ⟨k, 5, none⟩) hl).trans c5
  ·exact (hb.cell (p := ⟨g, j * 15 + 2, none⟩) hgl).trans z0
  ·exact (hb.cell (p := ⟨g, j * 15 + 3, none⟩) hgl).trans z1
  ·exact (hb.cell (p := ⟨g, j * 15 + 4, none⟩) hgl).trans z2
  ·exact (hb.cell (p := ⟨g, j * 15 + 5, none⟩) hgl).trans z3
  ·exact (hb.cell (p := ⟨g, j * 15 + 6, none⟩) hgl).trans z4
  ·exact (hb.cell (p := ⟨g, j * 15 + 7, none⟩) hgl).trans z5
  ·exact (hb.cell (p := ⟨g, j * 15 + 8, none⟩) hgl).trans z6
  ·exact (hb.cell (p := ⟨g, j * 15 + 9, none⟩) hgl).trans z7
 have HX : Hid _ := HX.out (cw w (.slice (some ⟨g, 0, none⟩) irs.length cap) t).drew ((Below.refl _ _).drew); clear h hI hj z0 z1 z2 z3 z4 z5 z6 z7 hty; unfold tyV; go_enter Tryz.func110, Tryz.ntmps110; go_upto_region 5 with fail; refine wp_region_ph (fun wr => (wr.cell? ⟨w.heap.size + 1, 0, none⟩ = some (.int .i64 (t.1 : Nat)) ∧ wr.cell? ⟨w.heap.size + 1, 1, none⟩ = some (.int .i64 (t.2.length : Nat)) ∧ wr.cell? ⟨w.heap.size + 1, 2, none⟩ = some (.string (wd t 0)) ∧ wr.cell? ⟨w.heap.size + 1, 3, none⟩ = some (.string (wd t 1)) ∧ wr.cell? ⟨w.heap.size + 1, 4, none⟩ = some (.string (wd t 2)) ∧ wr.cell? ⟨w.heap.size + 1, 5, none⟩ = some (.string (wd t 3)) ∧ wr.cell? ⟨w.heap.size + 1, 6, none⟩ = some (.string (wd t 4)) ∧ wr.cell? ⟨w.heap.size + 1, 7, none⟩ = some (.string (wd t 5))) ∧ wr.cell? ⟨w.heap.size, 0, none⟩ = some (.slice (some ⟨g, 0, none⟩) irs.length cap) ∧ wr.cell? ⟨k, 5, none⟩ = some (.int .i64 (j : Int)) ∧ wr.cell? ⟨g, j * 15 + 2, none⟩ = some (.int .i64 (ty.1 : Nat)) ∧ wr.cell? ⟨g, j * 15 + 3, none⟩ = some (.int .i64 (ty.2.length : Nat)) ∧ wr.cell? ⟨g, j * 15 + 4, none⟩ = some (.string (wd ty 0)) ∧ wr.cell? ⟨g, j * 15 + 5, none⟩ = some (.string (wd ty 1)) ∧ wr.cell? ⟨g, j * 15 + 6, none⟩ = some (.string (wd ty 2)) ∧ wr.cell? ⟨g, j * 15 + 7, none⟩ = some (.string (wd ty 3)) ∧ wr.cell? ⟨g, j * 15 + 8, none⟩ = some (.string (wd ty 4)) ∧ wr.cell? ⟨g, j * 15 + 9, none⟩ = some (.string (wd ty 5))) 12 12 rfl (by kernel_rfl) HX.out (fun hHeld => ?_); clear hHeld; refine PhS.t 0 23 HX.out ?_; refine PhS.t 1 24 HX.out ?_; refine PhS.t 2 25 HX.out ?_; refine PhS.t 3 26 HX.out ?_; refine PhS.t 4 27 HX.out ?_; refine PhS.t 5 28 HX.out ?_; refine PhS.t 6 29 HX.out ?_; refine PhS.t 7 30 HX.out ?_; refine PhS.t 8 31 HX.out ?_; refine PhS.t 9 32 HX.out ?_; refine PhS.tk 10 (some 33) (v := .bool (ty == t)) HX.out (fun wS hSw => ?_) ?_
 ·go_simp; rw [eq67, ty_beq hrw.1]; generalize wEq ty t = W; by_cases h1 : (ty.1 : Int) = t.1
  ·by_cases h2 : (ty.2.length : Int) = t.2.length
   ·rw [if_pos h1, if_pos h2, decide_eq_true h1, decide_eq_true h2]; cases W <;> rfl
   ·rw [if_pos h1, if_neg h2, decide_eq_true h1, decide_eq_false h2]; rfl
  ·rw [if_neg h1, decide_eq_false h1]; rfl
 try simp only [Act.put, sA, sZ, sS]
 refine PhS.t 11 6 HX.out ?_; refine PhS.done (by kernel_rfl) ?_ _; go_wp2_with fail; go_ret; exact ⟨rfl, (ab2 _ _ _).drew⟩
end Go.Proofs.YtbkaghlklkdmkaaGreatDoor
