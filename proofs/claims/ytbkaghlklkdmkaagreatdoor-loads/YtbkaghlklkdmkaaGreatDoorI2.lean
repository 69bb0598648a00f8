import Derived.Test.YtbkaghlklkdmkaaGreatDoorI1
namespace Go.Proofs.YtbkaghlklkdmkaaGreatDoor
open Go.RowKit
attribute [local go_sem ↓] Go.wp_at_zero Go.wp_at_succ
structure TP (T : List Wk.Tok) : Prop where
 trim : ∀ k, k < T.length → (Wk.tokK T k).kind = 5 → Lib.trimB (Wk.tokK T k).text.data.toList 34 = Wk.unq (Wk.tokK T k).text
 size : ∀ k, k < T.length → (Wk.tokK T k).text.size ≤ 1000
theorem want_isK {T : List Wk.Tok} {q : Wk.St} {kd : Nat} (h : q.isK T kd = true) : q.want T kd = q.adv := by unfold Wk.St.want; rw [h]; rfl
theorem want_text {T : List Wk.Tok} (hT : TP T) {q : Wk.St} (hk : q.bad = none → q.k < T.length) {kd : Nat} {e : Ending} (h : wantEnd T q kd e) : ∃ (a b : Int) (tx : ByteArray), e = .returned (.agg #[.int .i64 a, .int .i64 b, .string tx]) ∧ tx.size ≤ 1000 ∧ (q.isK T kd = true → tx = (Wk.tokK T q.k).text ∧ a = (Wk.tokK T q.k).kind ∧ b = (Wk.tokK T q.k).place) := by
 unfold wantEnd at h; cases hK : q.isK T kd with
 | true => rw [hK, if_pos rfl] at h; exact ⟨_, _, _, h, hT.size _ (hk (Wk.isK_iff.1 hK).1), fun _ => ⟨rfl, rfl, rfl⟩⟩
 | false => rw [hK, if_neg (by decide)] at h; exact ⟨_, _, _, h, by decide, fun e => by cases e⟩
theorem PI.setNew {c : Cx} {wa w0 w : World} {qa q : Wk.St} {na nest : Int} {oa o : Option Nat} (h : PI c w0 w q nest o) (ha : PI c wa w0 qa na oa) {k : Nat} (hk : w0.heap.size ≤ k) (j : Nat) (v : Value) : PI c w0 (w.setCell ⟨k, j, none⟩ v) q nest o := by
 obtain ⟨ms, ma, hp, hm⟩ := h.pp; have hb := ha.blt; have htg : c.tg < w0.heap.size := cell_lt (ha.toks.cells 0 ha.toks.pos).1; have hrow : c.iv.ownBlock ≠ some k := fun e => by have := (ha.row.lt k e).2; omega
 have hF : Fr (fun i => i = k) w (w.setCell ⟨k, j, none⟩ v) := Fr.setCell (fun i => i = k) w ⟨k, j, none⟩ v rfl; refine ⟨⟨ms, ma, ⟨hp.toks.of (blk_other _ (by omega)), (blk_other _ (by omega)).trans hp.box, hp.ok, hp.ne⟩, hm⟩, powns_fr h.row hF hrow, h.few, hF.gl (fun i hi e => by have := ha.gl.size; omega) h.gl, ⟨h.fr.os, h.fr.tape, h.fr.output, ?_, fun i hi hne => (blk_other _ (by omega)).trans (h.fr.block i hi hne)⟩, h.low⟩; have := h.fr.size; simp [World.setCell]; exact this
theorem field134 (a b : Int) (tx : ByteArray) (wx : World) : (Instr.field 134 (.agg #[.int .i64 a, .int .i64 b, .string tx]) 2).run Tryz.prog wx = .ok (.string tx) wx := by
 simp [Instr.field, go_sem]; rfl
theorem isK_at' {c : Cx} {w0 w : World} {q : Wk.St} {nest : Int} {o : Option Nat} (h : PI c w0 w q nest o) (kd : Nat) (h2 : 2 ≤ kd) : (((Wk.tokK c.T (ppAt c.T q)).kind : Int) == (kd : Int)) = q.isK c.T kd := by
 rw [isK_at h.toks.shut kd h2, Bool.eq_iff_iff, beq_iff_eq, beq_iff_eq]; omega
set_option maxRecDepth 100000 in
set_option maxHeartbeats 1000000 in
theorem j_below0 {c : Cx} (hT : TP c.T) {w0 w : World} {q : Wk.St} {nest : Int} {o : Option Nat} (h : PI c w0 w q nest o) (hK : q.isK c.T 28 = true) :
  Calls Tryz.prog 270 #[nptr c.b] w fun e w' => (∃ n, e = .returned (.agg #[.int .i64 1, .int .i64 n, .bool false, .string ⟨#[]⟩])) ∧ PI c w0 w' (if q.adv.isK c.T 4 then q.adv.adv else q.adv.want c.T 3) nest o := by
 have HH : Hid (PI c w0 w q nest o) := h; have HS : Hid (PI c w w q nest o) := h.self; have hblt := h.blt; have HQ : Hid (q.want c.T 28 = q.adv) := want_isK hK; have HT : Hid _ := hT; obtain ⟨q2, hq2⟩ : ∃ q2, q2 = (if q.adv.isK c.T 4 then q.adv.adv else q.adv.want c.T 3) := ⟨_, rfl⟩
 rw [← hq2]; have HQ2 : Hid _ := hq2; clear h hK hT hq2; go_enter Tryz.func270, Tryz.ntmps270; go_wp2_with fail; refine (j_want ((HS.out.alloc _).self) 28 (by decide)).mono ?_; rintro e w1 ⟨he, hI⟩; obtain ⟨v, rfl⟩ : ∃ v, e = .returned v := ⟨_, he⟩
 rw [HQ.out] at hI; have HI1 : Hid _ := hI; clear hI he; go_wp2_with fail; refine (j_next HI1.out).mono ?_; rintro e w2 ⟨rfl, rfl⟩; have HD : Hid _ := isK_at' HI1.out 4 (by decide); have HI2 : Hid (PI c _ w1.drew q.adv nest o) := HI1.out.drew; clear HI1; generalize ((Wk.tokK c.T (ppAt c.T q.adv)).kind : Int) = nk at *
 cases h4 : q.adv.isK c.T 4; case' true =>
  rw [h4] at HD HQ2; have d4 : (nk == 4) = true := HD.out; have HW : Hid (q.adv.want c.T 4 = q2) := by
   show _ = _; rw [want_isK h4, HQ2.out]; rfl
  clear h4 HD; go_wp2_with fail; refine (j_want HI2.out 4 (by decide)).mono ?_
 case' false =>
  rw [h4] at HD HQ2; have d4 : (nk == 4) = false := HD.out; have HW : Hid (q.adv.want c.T 3 = q2) := by
   show _ = _; rw [HQ2.out]; rfl
  clear h4 HD; go_wp2_with fail; refine (j_want HI2.out 3 (by decide)).mono ?_
 all_goals (
  rintro e w3 ⟨he, hI⟩; obtain ⟨a, b', tx, rfl, hsz, -⟩ := want_text HT.out HI2.out.ok he; rw [HW.out] at hI; have HI3 : Hid _ := hI; have hfl := field134 a b' tx; clear hI he; go_wp2_with fail; refine (p_number _ (by have : (ByteArray.mk #[45] ++ tx).size = 1 + tx.size := (by simp [ByteArray.size_append]; rfl); omega) _ HI3.out.gl).mono ?_; rintro e w4 ⟨⟨n, rfl⟩, hb4⟩; have hI4 := HI3.out.below hb4; have u := hI4.blk (heap_alloc_new w _) (by omega); have c0 := blk_cell (o := 0) u rfl; have c1 := blk_cell (o := 1) u rfl; have c2 := blk_cell (o := 2) u rfl; have c3 := blk_cell (o := 3) u rfl; have cf := blk_free u; have HI4 : Hid _ := hI4; clear hI4 hb4 u; go_wp2_with fail; exact bodyPost_ret (v := .agg #[.int .i64 1, .int .i64 n, .bool false, .string ⟨#[]⟩]) (by simp [results, Tryz.results270, go_sem, c0, c1, c2, c3]) rfl ⟨⟨n, rfl⟩, HH.out.trans ((((((HS.out.alloc _).trans HI4.out).setNew HS.out (Nat.le_refl _) _ _).setNew HS.out (Nat.le_refl _) _ _).setNew HS.out (Nat.le_refl _) _ _).setNew HS.out (Nat.le_refl _) _ _)⟩)
end Go.Proofs.YtbkaghlklkdmkaaGreatDoor
namespace Go.Proofs.YtbkaghlklkdmkaaGreatDoor
open Go.RowKit
attribute [local go_sem ↓] Go.wp_at_zero Go.wp_at_succ
def valEnd (T : List Wk.Tok) (q : Wk.St) (e : Ending) : Prop := ∃ v : VR, e = .returned (.agg #[.int .i64 v.kd, .int .i64 v.no, .bool v.tr, .string v.tx]) ∧ ((Wk.pValue T q).1.bad = none → v.ok (Wk.pValue T q).2)
theorem pValue_ne (T : List Wk.Tok) (q : Wk.St) : (Wk.pValue T q).2.1 ≠ 0 := by
 unfold Wk.pValue; repeat' split
 all_goals simp
set_option maxRecDepth 100000 in
set_option maxHeartbeats 2000000 in
theorem j_value {c : Cx} (hT : TP c.T) {w0 w : World} {q : Wk.St} {nest : Int} {o : Option Nat} (h : PI c w0 w q nest o) :
  Calls Tryz.prog 258 #[nptr c.b] w fun e w' => valEnd c.T q e ∧ PI c w0 w' (Wk.pValue c.T q).1 nest o := by
 have HH : Hid (PI c w0 w q nest o) := h; have HS : Hid (PI c w w q nest o) := h.self; have hblt := h.blt; have HT : Hid _ := hT; have HD28 : Hid _ := isK_at' h 28 (by decide); have HD3 : Hid _ := isK_at' h 3 (by decide); have HD5 : Hid _ := isK_at' h 5 (by decide); clear h hT; cases K28 : q.isK c.T 28 with
 | true =>
  have HP : Hid (Wk.pValue c.T q = ((if q.adv.isK c.T 4 then q.adv.adv else q.adv.want c.T 3), (1, []))) := by
   show _ = _; unfold Wk.pValue; rw [K28]; rfl
  rw [HP.out]; have HE : Hid (∀ n : Int, valEnd c.T q (.returned (.agg #[.int .i64 1, .int .i64 n, .bool false, .string ⟨#[]⟩]))) := fun n => ⟨⟨1, n, false, ⟨#[]⟩⟩, rfl, fun _ => by rw [HP.out]; exact ⟨rfl, fun e => by cases e⟩⟩
  obtain ⟨q2, hq2⟩ : ∃ q2, q2 = (if q.adv.isK c.T 4 then q.adv.adv else q.adv.want c.T 3) := ⟨_, rfl⟩
  have HQ2 : Hid _ := hq2; rw [← hq2]; rw [K28] at HD28; have HK : Hid _ := K28; clear K28 hq2; go_enter Tryz.func258, Tryz.ntmps258; go_wp2_with fail; refine (j_next ((HS.out.alloc _).self)).mono ?_; rintro e w2 ⟨rfl, rfl⟩; generalize ((Wk.tokK c.T (ppAt c.T q)).kind : Int) = nk at *
  have d28 : (nk == 28) = true := HD28.out; go_wp2_with fail; refine (j_below0 HT.out ((HS.out.alloc _).self.drew) HK.out).mono ?_; rintro e w3 ⟨⟨n, rfl⟩, hI⟩; rw [← HQ2.out] at hI; have HI3 : Hid _ := hI; clear hI; have u := HI3.out.blk (heap_alloc_new w _) (by omega); have c0 := blk_cell (o := 0) u rfl; have c1 := blk_cell (o := 1) u rfl; have c2 := blk_cell (o := 2) u rfl; have c3 := blk_cell (o := 3) u rfl; have cf := blk_free u; clear u; go_wp2_with fail; refine bodyPost_ret (v := .agg #[.int .i64 1, .int .i64 n, .bool false, .string ⟨#[]⟩]) (by simp [results, Tryz.results258, go_sem, c0, c1, c2, c3]) rfl ⟨?_, HH.out.trans ((((((HS.out.alloc _).trans HI3.out).setNew HS.out (Nat.le_refl _) _ _).setNew HS.out (Nat.le_refl _) _ _).setNew HS.out (Nat.le_refl _) _ _).setNew HS.out (Nat.le_refl _) _ _)⟩; exact HE.out n
 | false =>
  rw [K28] at HD28; cases K3 : q.isK c.T 3 with
  | true =>
   have HP : Hid (Wk.pValue c.T q = (q.adv, (1, []))) := by
    show _ = _; unfold Wk.pValue; rw [K28, K3]; rfl
   rw [HP.out]; have HE : Hid (∀ n : Int, valEnd c.T q (.returned (.agg #[.int .i64 1, .int .i64 n, .bool false, .string ⟨#[]⟩]))) := fun n => ⟨⟨1, n, false, ⟨#[]⟩⟩, rfl, fun _ => by rw [HP.out]; exact ⟨rfl, fun e => by cases e⟩⟩
   have HW : Hid (q.want c.T 3 = q.adv) := want_isK K3; rw [K3] at HD3; clear K28 K3; go_enter Tryz.func258, Tryz.ntmps258; go_wp2_with fail; refine (j_next ((HS.out.alloc _).self)).mono ?_; rintro e w2 ⟨rfl, rfl⟩; generalize ((Wk.tokK c.T (ppAt c.T q)).kind : Int) = nk at *
   have d28 : (nk == 28) = false := HD28.out; have d3 : (nk == 3) = true := HD3.out; go_wp2_with fail; refine (j_want ((HS.out.alloc _).self.drew) 3 (by decide)).mono ?_; rintro e w3 ⟨he, hI⟩; obtain ⟨a, b', tx, rfl, hsz, -⟩ := want_text HT.out HS.out.ok he; rw [HW.out] at hI; have HI3 : Hid _ := hI; have hfl := field134 a b' tx; clear hI he; go_wp2_with fail; refine (p_number _ (by omega) _ HI3.out.gl).mono ?_; rintro e w4 ⟨⟨n, rfl⟩, hb4⟩; have HI4 : Hid _ := HI3.out.below hb4; clear hb4; have u := HI4.out.blk (heap_alloc_new w _) (by omega); have c0 := blk_cell (o := 0) u rfl; have c1 := blk_cell (o := 1) u rfl; have c2 := blk_cell (o := 2) u rfl; have c3 := blk_cell (o := 3) u rfl; have cf := blk_free u; clear u; go_wp2_with fail; refine bodyPost_ret (v := .agg #[.int .i64 1, .int .i64 n, .bool false, .string ⟨#[]⟩]) (by simp [results, Tryz.results258, go_sem, c0, c1, c2, c3]) rfl ⟨?_, HH.out.trans ((((((HS.out.alloc _).trans HI4.out).setNew HS.out (Nat.le_refl _) _ _).setNew HS.out (Nat.le_refl _) _ _).setNew HS.out (Nat.le_refl _) _ _).setNew HS.out (Nat.le_refl _) _ _)⟩; exact HE.out n
  | false =>
   rw [K3] at HD3; cases K5 : q.isK c.T 5 with
   | true =>
    have HP : Hid (Wk.pValue c.T q = (q.adv, (3, Wk.unq (Wk.tokK c.T q.k).text))) := by
     show _ = _; unfold Wk.pValue; rw [K28, K3, K5]; rfl
    rw [HP.out]; have hk5 := Wk.isK_iff.1 K5; have HTR : Hid _ := HT.out.trim q.k (HS.out.ok hk5.1) hk5.2; have HE : Hid (valEnd c.T q (.returned (.agg #[.int .i64 3, .int .i64 0, .bool false, .string ⟨(Lib.trimB (Wk.tokK c.T q.k).text.data.toList 34).toArray⟩]))) := ⟨⟨3, 0, false, ⟨(Lib.trimB (Wk.tokK c.T q.k).text.data.toList 34).toArray⟩⟩, rfl, fun _ => by rw [HP.out]; exact ⟨rfl, fun _ => by rw [HTR.out]⟩⟩
    have HW : Hid (q.want c.T 5 = q.adv) := want_isK K5; have HKK : Hid _ := K5; rw [K5] at HD5; clear K28 K3 K5 hk5 HTR; go_enter Tryz.func258, Tryz.ntmps258; go_wp2_with fail; refine (j_next ((HS.out.alloc _).self)).mono ?_; rintro e w2 ⟨rfl, rfl⟩; generalize ((Wk.tokK c.T (ppAt c.T q)).kind : Int) = nk at *
    have d28 : (nk == 28) = false := HD28.out; have d3 : (nk == 3) = false := HD3.out; have d5 : (nk == 5) = true := HD5.out; go_wp2_with fail; refine (j_want ((HS.out.alloc _).self.drew) 5 (by decide)).mono ?_; rintro e w3 ⟨he, hI⟩; obtain ⟨a, b', tx, rfl, hsz, htx⟩ := want_text HT.out HS.out.ok he; rw [← (htx HKK.out).1] at HE; rw [HW.out] at hI; have HI3 : Hid _ := hI; have hfl := field134 a b' tx; clear hI he htx; go_wp2_with fail; refine (p_unquote tx (by omega) _).mono ?_; rintro e w4 ⟨rfl, hb4⟩; have HI4 : Hid _ := HI3.out.below hb4; generalize (⟨(Lib.trimB tx.data.toList 34).toArray⟩ : ByteArray) = ty at *
    clear hb4; have u := HI4.out.blk (heap_alloc_new w _) (by omega); have c0 := blk_cell (o := 0) u rfl; have c1 := blk_cell (o := 1) u rfl; have c2 := blk_cell (o := 2) u rfl; have c3 := blk_cell (o := 3) u rfl; have cf := blk_free u; clear u; go_wp2_with fail; refine bodyPost_ret (v := .agg #[.int .i64 3, .int .i64 0, .bool false, .string ty]) (by simp [results, Tryz.results258, go_sem, c0, c1, c2, c3]) rfl ⟨?_, HH.out.trans ((((((HS.out.alloc _).trans HI4.out).setNew HS.out (Nat.le_refl _) _ _).setNew HS.out (Nat.le_refl _) _ _).setNew HS.out (Nat.le_refl _) _ _).setNew HS.out (Nat.le_refl _) _ _)⟩; exact HE.out
   | false =>
    rw [K5] at HD5; have HP : Hid (Wk.pValue c.T q = if q.isK c.T 18 then (q.adv, (2, [])) else (q.want c.T 19, (2, []))) := by
     show _ = _; unfold Wk.pValue; rw [K28, K3, K5]; rfl
    have HE : Hid (∀ b : Bool, valEnd c.T q (.returned (.agg #[.int .i64 2, .int .i64 0, .bool b, .string ⟨#[]⟩]))) := fun b => ⟨⟨2, 0, b, ⟨#[]⟩⟩, rfl, fun _ => by
     have : (Wk.pValue c.T q).2 = (2, []) := by rw [HP.out]; split <;> rfl
     rw [this]; exact ⟨rfl, fun e => by cases e⟩⟩
    obtain ⟨q2, hq2⟩ : ∃ q2, q2 = (Wk.pValue c.T q).1 := ⟨_, rfl⟩
    rw [← hq2]; have HQ : Hid _ := hq2; rw [HP.out] at HQ; clear K28 K3 K5 HP hq2; cases K18 : q.isK c.T 18 with
    | true =>
     have HKK : Hid _ := K18; have HQ2 : Hid (q.adv = q2) := by
      show _ = _; rw [HQ.out, K18]; rfl
     clear K18 HQ; go_enter Tryz.func258, Tryz.ntmps258; go_wp2_with fail; refine (j_next ((HS.out.alloc _).self)).mono ?_; rintro e w2 ⟨rfl, rfl⟩; generalize ((Wk.tokK c.T (ppAt c.T q)).kind : Int) = nk at *
     have d28 : (nk == 28) = false := HD28.out; have d3 : (nk == 3) = false := HD3.out; have d5 : (nk == 5) = false := HD5.out; go_wp2_with fail; refine (j_has ((HS.out.alloc _).self.drew) 18 (by decide)).mono ?_; rintro e w3 ⟨rfl, hI⟩; rw [HKK.out] at *
     rw [if_pos rfl, HQ2.out] at hI; have HI3 : Hid _ := hI; clear hI; have u := HI3.out.blk (heap_alloc_new w _) (by omega); have c0 := blk_cell (o := 0) u rfl; have c1 := blk_cell (o := 1) u rfl; have c2 := blk_cell (o := 2) u rfl; have c3 := blk_cell (o := 3) u rfl; have cf := blk_free u; clear u; go_wp2_with fail; refine bodyPost_ret (v := .agg #[.int .i64 2, .int .i64 0, .bool true, .string ⟨#[]⟩]) (by simp [results, Tryz.results258, go_sem, c0, c1, c2, c3]) rfl ⟨?_, HH.out.trans ((((((HS.out.alloc _).trans HI3.out).setNew HS.out (Nat.le_refl _) _ _).setNew HS.out (Nat.le_refl _) _ _).setNew HS.out (Nat.le_refl _) _ _).setNew HS.out (Nat.le_refl _) _ _)⟩; exact HE.out true
    | false =>
     have HKK : Hid _ := K18; have HQ2 : Hid (q.want c.T 19 = q2) := by
      show _ = _; rw [HQ.out, K18]; rfl
     clear K18 HQ; go_enter Tryz.func258, Tryz.ntmps258; go_wp2_with fail; refine (j_next ((HS.out.alloc _).self)).mono ?_; rintro e w2 ⟨rfl, rfl⟩; generalize ((Wk.tokK c.T (ppAt c.T q)).kind : Int) = nk at *
     have d28 : (nk == 28) = false := HD28.out; have d3 : (nk == 3) = false := HD3.out; have d5 : (nk == 5) = false := HD5.out; go_wp2_with fail; refine (j_has ((HS.out.alloc _).self.drew) 18 (by decide)).mono ?_; rintro e w3 ⟨rfl, hI⟩; rw [HKK.out] at *
     rw [if_neg (by decide)] at hI; have HI3 : Hid _ := hI; clear hI; go_wp2_with fail; refine (j_want HI3.out 19 (by decide)).mono ?_; rintro e w4 ⟨he, hI⟩; obtain ⟨v, rfl⟩ : ∃ v, e = .returned v := ⟨_, he⟩
     rw [HQ2.out] at hI; have HI4 : Hid _ := hI; clear hI he; have u := HI4.out.blk (heap_alloc_new w _) (by omega); have c0 := blk_cell (o := 0) u rfl; have c1 := blk_cell (o := 1) u rfl; have c2 := blk_cell (o := 2) u rfl; have c3 := blk_cell (o := 3) u rfl; have cf := blk_free u; clear u; go_wp2_with fail; refine bodyPost_ret (v := .agg #[.int .i64 2, .int .i64 0, .bool false, .string ⟨#[]⟩]) (by simp [results, Tryz.results258, go_sem, c0, c1, c2, c3]) rfl ⟨?_, HH.out.trans ((((((HS.out.alloc _).trans HI4.out).setNew HS.out (Nat.le_refl _) _ _).setNew HS.out (Nat.le_refl _) _ _).setNew HS.out (Nat.le_refl _) _ _).setNew HS.out (Nat.le_refl _) _ _)⟩; exact HE.out false
end Go.Proofs.YtbkaghlklkdmkaaGreatDoor
namespace Go.Proofs.YtbkaghlklkdmkaaGreatDoor
open Go.RowKit
attribute [local go_sem ↓] Go.wp_at_zero Go.wp_at_succ
def nodeEnd (c : Cx) (w' : World) (r : Wk.St × Wk.Sem) (e : Ending) : Prop := ∃ k, e = .returned (nptr k) ∧ (r.1.bad = none → PTK c.ns w' (nptr k) r.2)
def XP (c : Cx) (fn lv f : Nat) : Prop := ∀ (nest : Nat) (q : Wk.St) (w : World) (o : Option Nat), PI c w w q nest o → (q.bad = none → nest ≤ 10) → meas c.T q lv < f →
 Calls Tryz.prog fn #[nptr c.b] w fun e w' => nodeEnd c w' (Wk.pe c.T f lv nest q) e ∧ PI c w w' (Wk.pe c.T f lv nest q).1 nest (o.or (Wk.stray c.ns (Wk.pe c.T f lv nest q).2.names))
def joined (kind : Nat) (g n : Nat) : Obj := .cells #[.int .i64 (kind : Nat), .int .i64 0, .int .i64 0, .bool false, .string ⟨#[]⟩, .int .i64 0, .slice (some ⟨g, 0, none⟩) n n] 246
theorem p_join (kind g n : Nat) (w : World) : Calls Tryz.prog 170 #[.int .i64 kind, .slice (some ⟨g, 0, none⟩) n n] w fun e w' => e = .returned (nptr w.heap.size) ∧ w' = w.alloc (joined kind g n) := by
 go_enter Tryz.func170, Tryz.ntmps170; go_wp2_with fail; go_ret; exact ⟨rfl, rfl⟩
theorem joined_at {kind g n : Nat} {w : World} : NodeAt (w.alloc (joined kind g n)) w.heap.size kind ⟨0, 0, false, ⟨#[]⟩⟩ 0 (.slice (some ⟨g, 0, none⟩) n n) := heap_alloc_new w _
section
variable {c : Cx}
set_option maxHeartbeats 1000000 in
theorem x_patom_open (f nest : Nat) (hE : XP c 141 7 f) (q : Wk.St) (w : World) (o : Option Nat) (h : PI c w w q nest o) (h10 : nest ≤ 10) (hm : meas c.T q 6 < f + 1) (K34 : q.isK c.T 34 = true) :
  Calls Tryz.prog 280 #[nptr c.b] w fun e w' => nodeEnd c w' (Wk.pe c.T (f + 1) 6 nest q) e ∧ PI c w w' (Wk.pe c.T (f + 1) 6 nest q).1 nest (o.or (Wk.stray c.ns (Wk.pe c.T (f + 1) 6 nest q).2.names)) := by
 have hq := Wk.isK_iff.1 K34; have HP : Hid (Wk.pe c.T (f + 1) 6 nest q = ((Wk.pe c.T f 7 (nest + 1) (q.opens c.T nest)).1.want c.T 35, (Wk.pe c.T f 7 (nest + 1) (q.opens c.T nest)).2)) := by
  show _ = _; rw [pe_atom, K34]; rfl
 rw [HP.out]; have HM : Hid (meas c.T (q.opens c.T nest) 7 < f) := by
  show _ < _; have := meas_opens (T := c.T) hq.1 (h.ok hq.1) nest 6; omega
 have HN : Hid _ := opens_nest (T := c.T) hq.1 h10; have HD : Hid _ := isK_at' h 34 (by decide); rw [K34] at HD; have HI : Hid (PI c w w q nest o) := h; have HK : Hid _ := K34; have HE : Hid (XP c 141 7 f) := hE; have H10 : Hid _ := h10; clear h K34 hE hm hq HP; generalize hr : Wk.pe c.T f 7 (nest + 1) (q.opens c.T nest) = r; have HR : Hid _ := hr; clear hr; go_enter Tryz.func280, Tryz.ntmps280; go_wp2_with fail; refine (j_next HI.out).mono ?_; rintro e w1 ⟨rfl, rfl⟩; generalize ((Wk.tokK c.T (ppAt c.T q)).kind : Int) = nk at *
 have d34 : (nk == 34) = true := HD.out; go_wp2_with fail; refine (j_open HI.out.drew 34 (by decide) HK.out H10.out).mono ?_; rintro e w2 ⟨rfl, hI2⟩; have HI2 : Hid _ := hI2; clear hI2; go_wp2_with fail; refine (HE.out (nest + 1) _ w2 o HI2.out.self HN.out HM.out).mono ?_; rintro e w3 ⟨⟨k, rfl, ht⟩, hI3⟩; rw [HR.out] at hI3 ht; have HI3 : Hid _ := hI3; have HT3 : Hid _ := ht; clear hI3 ht; go_wp2_with fail; refine (j_want HI3.out.self 35 (by decide)).mono ?_; rintro e w4 ⟨he, hI4⟩; obtain ⟨v, rfl⟩ : ∃ v, e = .returned v := ⟨_, he⟩
 obtain ⟨c2, cf⟩ := hI4.nestc; have HI4 : Hid _ := hI4.nest (nest : Int); clear hI4 he; go_wp2_with fail; go_ret; refine ⟨⟨k, rfl, fun hb => ?_⟩, ?_⟩
 ·exact (HT3.out (pwant_bad hb)).keep (HI3.out.keepN HI4.out)
 ·exact (HI2.out.trans HI3.out).trans HI4.out
theorem or_none_ (o : Option Nat) : o.or none = o := by cases o <;> rfl
set_option maxHeartbeats 1000000 in
theorem x_patom_name (f nest : Nat) (q : Wk.St) (w : World) (o : Option Nat) (h : PI c w w q nest o) (K34 : q.isK c.T 34 = false) (K2 : q.isK c.T 2 = true) :
  Calls Tryz.prog 280 #[nptr c.b] w fun e w' => nodeEnd c w' (Wk.pe c.T (f + 1) 6 nest q) e ∧ PI c w w' (Wk.pe c.T (f + 1) 6 nest q).1 nest (o.or (Wk.stray c.ns (Wk.pe c.T (f + 1) 6 nest q).2.names)) := by
 have HP : Hid (Wk.pe c.T (f + 1) 6 nest q = (q.adv, Wk.semName (Wk.tokK c.T q.k).text.data.toList (Wk.tokK c.T q.k).place)) := by
  show _ = _; rw [pe_atom, K34, K2]; rfl
 rw [HP.out]; have HD : Hid _ := isK_at' h 34 (by decide); have HD2 : Hid _ := isK_at' h 2 (by decide); rw [K34] at HD; rw [K2] at HD2; have HI : Hid (PI c w w q nest o) := h; have HW : Hid (q.want c.T 2 = q.adv) := want_isK K2; clear h K34 K2 HP; go_enter Tryz.func280, Tryz.ntmps280; go_wp2_with fail; refine (j_next HI.out).mono ?_; rintro e w1 ⟨rfl, rfl⟩; generalize ((Wk.tokK c.T (ppAt c.T q)).kind : Int) = nk at *
 have d34 : (nk == 34) = false := HD.out; have d2 : (nk == 2) = true := HD2.out; go_wp2_with fail; refine (j_use HI.out.drew).mono ?_; rintro e w2 ⟨⟨i, rfl, hi⟩, hI2⟩; rw [HW.out] at hI2 hi; have HI2 : Hid _ := hI2; have HX : Hid _ := hi; clear hI2 hi; go_wp2_with fail; go_ret; refine ⟨⟨w2.heap.size, rfl, fun hb hn => ?_⟩, HI2.out.alloc _⟩; refine pt_name (v := ⟨0, 0, false, ⟨#[]⟩⟩) (pv := .slice none 0 0) _ ?_ (hn _ (List.mem_singleton.2 rfl)); rw [← HX.out hb]; exact heap_alloc_new w2 _
set_option maxHeartbeats 1000000 in
theorem x_patom_null (f nest : Nat) (q : Wk.St) (w : World) (o : Option Nat) (h : PI c w w q nest o) (K34 : q.isK c.T 34 = false) (K2 : q.isK c.T 2 = false) (K20 : q.isK c.T 20 = true) :
  Calls Tryz.prog 280 #[nptr c.b] w fun e w' => nodeEnd c w' (Wk.pe c.T (f + 1) 6 nest q) e ∧ PI c w w' (Wk.pe c.T (f + 1) 6 nest q).1 nest (o.or (Wk.stray c.ns (Wk.pe c.T (f + 1) 6 nest q).2.names)) := by
 have HP : Hid (Wk.pe c.T (f + 1) 6 nest q = (q.adv, Wk.semNull)) := by
  show _ = _; rw [pe_atom, K34, K2, K20]; rfl
 rw [HP.out, show Wk.semNull.names = [] from rfl, Wk.stray_nil, or_none_]; have HD : Hid _ := isK_at' h 34 (by decide); have HD2 : Hid _ := isK_at' h 2 (by decide); have HD20 : Hid _ := isK_at' h 20 (by decide); rw [K34] at HD; rw [K2] at HD2; rw [K20] at HD20; have HI : Hid (PI c w w q nest o) := h; have HW : Hid (q.want c.T 20 = q.adv) := want_isK K20; clear h K34 K2 K20 HP; go_enter Tryz.func280, Tryz.ntmps280; go_wp2_with fail; refine (j_next HI.out).mono ?_; rintro e w1 ⟨rfl, rfl⟩; generalize ((Wk.tokK c.T (ppAt c.T q)).kind : Int) = nk at *
 have d34 : (nk == 34) = false := HD.out; have d2 : (nk == 2) = false := HD2.out; have d20 : (nk == 20) = true := HD20.out; go_wp2_with fail; refine (j_want HI.out.drew 20 (by decide)).mono ?_; rintro e w2 ⟨he, hI2⟩; obtain ⟨v, rfl⟩ : ∃ v, e = .returned v := ⟨_, he⟩
 rw [HW.out] at hI2; have HI2 : Hid _ := hI2; clear hI2 he; go_wp2_with fail; go_ret; refine ⟨⟨w2.heap.size, rfl, fun hb hn => ?_⟩, HI2.out.alloc _⟩; exact pt_null (v := ⟨0, 0, false, ⟨#[]⟩⟩) (pv := .slice none 0 0) (item := 0) _ (heap_alloc_new w2 _) rfl
set_option maxHeartbeats 1000000 in
theorem x_patom_val (hT : TP c.T) (f nest : Nat) (q : Wk.St) (w : World) (o : Option Nat) (h : PI c w w q nest o) (K34 : q.isK c.T 34 = false) (K2 : q.isK c.T 2 = false) (K20 : q.isK c.T 20 = false) :
  Calls Tryz.prog 280 #[nptr c.b] w fun e w' => nodeEnd c w' (Wk.pe c.T (f + 1) 6 nest q) e ∧ PI c w w' (Wk.pe c.T (f + 1) 6 nest q).1 nest (o.or (Wk.stray c.ns (Wk.pe c.T (f + 1) 6 nest q).2.names)) := by
 have HP : Hid (Wk.pe c.T (f + 1) 6 nest q = ((Wk.pValue c.T q).1, Wk.semVal (Wk.pValue c.T q).2)) := by
  show _ = _; rw [pe_atom, K34, K2, K20]; rfl
 have HD : Hid _ := isK_at' h 34 (by decide); have HD2 : Hid _ := isK_at' h 2 (by decide); have HD20 : Hid _ := isK_at' h 20 (by decide); rw [HP.out]; show Calls _ _ _ _ (fun e w' => _ ∧ PI c w w' (Wk.pValue c.T q).1 nest (o.or none)); rw [or_none_]; rw [K34] at HD; rw [K2] at HD2; rw [K20] at HD20; have HI : Hid (PI c w w q nest o) := h; have HT : Hid _ := hT; clear h K34 K2 K20 HP hT; go_enter Tryz.func280, Tryz.ntmps280; go_wp2_with fail; refine (j_next HI.out).mono ?_; rintro e w1 ⟨rfl, rfl⟩; generalize ((Wk.tokK c.T (ppAt c.T q)).kind : Int) = nk at *
 have d34 : (nk == 34) = false := HD.out; have d2 : (nk == 2) = false := HD2.out; have d20 : (nk == 20) = false := HD20.out; go_wp2_with fail; refine (j_value HT.out HI.out.drew).mono ?_; rintro e w2 ⟨⟨v, rfl, hv⟩, hI2⟩; have HI2 : Hid _ := hI2; have HV : Hid _ := hv; clear hI2 hv; go_wp2_with fail; go_ret; refine ⟨⟨w2.heap.size, rfl, fun hb hn => ?_⟩, HI2.out.alloc _⟩; exact pt_val (v := v) (pv := .slice none 0 0) (item := 0) _ (heap_alloc_new w2 _) (HV.out hb) (pValue_ne _ _)
theorem x_patom (hT : TP c.T) (f : Nat) (hE : XP c 141 7 f) : XP c 280 6 (f + 1) := by
 intro nest q w o h hn hm; cases K34 : q.isK c.T 34 with
 | true => exact x_patom_open f nest hE q w o h (hn (Wk.isK_iff.1 K34).1) hm K34
 | false =>
  cases K2 : q.isK c.T 2 with
  | true => exact x_patom_name f nest q w o h K34 K2
  | false =>
   cases K20 : q.isK c.T 20 with
   | true => exact x_patom_null f nest q w o h K34 K2 K20
   | false => exact x_patom_val hT f nest q w o h K34 K2 K20
end
end Go.Proofs.YtbkaghlklkdmkaaGreatDoor
namespace Go.Proofs.YtbkaghlklkdmkaaGreatDoor
open Go.RowKit
attribute [local go_sem ↓] Go.wp_at_zero Go.wp_at_succ
def kdCells (l : List Nat) : Array Value := (l.map (fun kd => Value.int .i64 (kd : Nat))).toArray
theorem kd_cell {l : List Nat} {k : Nat} (h : k < l.length) : (kdCells l)[k]? = some (.int .i64 ((l[k]'h : Nat) : Int)) := by
 unfold kdCells; rw [List.getElem?_toArray, List.getElem?_map, List.getElem?_eq_getElem h]; rfl
def kdEnd (l : List Nat) (x : Nat) (e : Ending) : Prop := ∃ i : Int, e = .returned (.int .i64 i) ∧ decide (0 ≤ i) = l.contains x
set_option maxHeartbeats 1000000 in
theorem p_kindIdx {w : World} {g : Nat} {l : List Nat} (h : w.heap[g]? = some (.cells (kdCells l) 132 (0, 0))) (hl : l.length ≤ 2) (x : Nat) :
  Calls Tryz.prog 256 #[.slice (some ⟨g, 0, none⟩) l.length l.length, .int .i64 x] w fun e w' => kdEnd l x e ∧ w' = w := by
 have HH : Hid _ := h; clear h; go_enter Tryz.func256, Tryz.ntmps256; go_wp2
 go_loopg [8] l.length (fun gg s8 wr => ∃ kk : Nat, kk ≤ l.length ∧ l.length - kk ≤ gg ∧ s8 = .int .i64 kk ∧ wr = w ∧ Hid (l.contains x = (l.drop kk).contains x))
 case atStart => exact ⟨0, Nat.zero_le _, by omega, rfl, rfl, rfl⟩
 case round =>
  obtain ⟨kk, hkk, hg, rfl, rfl, HRk⟩ := hrel; by_cases hlt : kk < l.length
  ·have hc : wr.cell? ⟨g, kk, none⟩ = some (.int .i64 ((l[kk]'hlt : Nat) : Int)) := blk_cell HH.out (kd_cell hlt); have hltz : (kk : Int) < (l.length : Int) := by omega
   have hk0 : (0 : Int) ≤ (kk : Int) := by omega
   have HD : Hid (l.contains x = (x == (l[kk]'hlt) || (l.drop (kk + 1)).contains x)) := by
    show _ = _; rw [HRk.out, List.drop_eq_getElem_cons hlt, List.contains_cons]
   generalize (l[kk]'hlt) = y at *
   cases hq : (x == y) with
   | true =>
    have HE : Hid (kdEnd l x (.returned (.int .i64 (kk : Int)))) := ⟨kk, rfl, by rw [HD.out, hq]; simp⟩
    have dq : ((x : Int) == (y : Int)) = true := by rw [beq_iff_eq] at *; omega
    clear hq; go_wp2
    go_ret; exact ⟨HE.out, rfl⟩
   | false =>
    have HE : Hid (l.contains x = (l.drop (kk + 1)).contains x) := by
     show _ = _; rw [HD.out, hq]; rfl
    have dq : ((x : Int) == (y : Int)) = false := by rw [beq_eq_false_iff_ne] at *; omega
    clear hq; go_wp2
    go_roundg (l.length - (kk + 1)); case measure => omega
    case rel => exact ⟨kk + 1, by omega, by omega, by go_num, rfl, HE⟩
  ·have hltz : ¬ (kk : Int) < (l.length : Int) := by omega
   have HE : Hid (kdEnd l x (.returned (.int .i64 (-1)))) := ⟨-1, rfl, by rw [HRk.out, List.drop_eq_nil_of_le (by omega)]; rfl⟩
   go_wp2
   go_ret; exact ⟨HE.out, rfl⟩
theorem p_kindIn {w : World} {g : Nat} {l : List Nat} (h : w.heap[g]? = some (.cells (kdCells l) 132 (0, 0))) (hl : l.length ≤ 2) (x : Nat) :
  Calls Tryz.prog 228 #[.slice (some ⟨g, 0, none⟩) l.length l.length, .int .i64 x] w fun e w' => e = .returned (.bool (l.contains x)) ∧ w' = w := by
 go_enter Tryz.func228, Tryz.ntmps228; go_wp2_with fail; refine (p_kindIdx h hl x).mono ?_; rintro e w' ⟨⟨i, rfl, hi⟩, rfl⟩; have HI : Hid _ := hi; clear hi; go_wp2_with fail; go_ret; exact ⟨by rw [← HI.out]; rfl, rfl⟩
theorem isIn_at {c : Cx} {w0 w : World} {q : Wk.St} {nest : Int} {o : Option Nat} (h : PI c w0 w q nest o) {l : List Nat} (hl : ∀ kd ∈ l, 2 ≤ kd) : l.contains (Wk.tokK c.T (ppAt c.T q)).kind = q.isIn c.T l := by
 unfold Wk.St.isIn; cases hb : q.bad with
 | none => rw [ppAt_ok hb]; rfl
 | some p =>
  have hT := h.toks.shut; have e : ppAt c.T q = c.T.length - 1 := by unfold ppAt; rw [hb]; rfl
  have := hT.last (c.T.length - 1) (by have := hT.pos; omega); rw [e]; show _ = false; rw [← Bool.not_eq_true, List.contains_iff_mem]; intro hm; have := hl _ hm; omega
theorem isIn_K {T : List Wk.Tok} {q : Wk.St} {l : List Nat} (h : q.isIn T l = true) : q.isK T (Wk.tokK T q.k).kind = true := by
 have := Wk.isIn_iff.1 h; exact Wk.isK_iff.2 ⟨this.1, rfl⟩
theorem signs_bin {lv kd : Nat} (h : kd ∈ Wk.signs lv) : binKd kd := by
 unfold Wk.signs at h; unfold binKd; repeat' split at h
 all_goals (simp at h; omega)
theorem semBin_names (kd : Nat) (a b : Wk.Sem) : (Wk.semBin kd a b).names = a.names ++ b.names := by
 unfold Wk.semBin; repeat' split
 all_goals rfl
section
variable {c : Cx}
set_option maxRecDepth 100000 in
set_option maxHeartbeats 4000000 in
theorem j_row (lv g f : Nat) (hlv : lv = 0 ∨ lv = 1 ∨ lv = 4 ∨ lv = 5) (eg : ∀ args w, (callFunc g args).run Tryz.prog w = .ok (.enter g args) w) (hL : XP c g (lv + 1) f) (nest : Nat) (q : Wk.St) (w : World) (o : Option Nat) (h : PI c w w q nest o) (hn : q.bad = none → nest ≤ 10) (hm : meas c.T q (lv + 1) < f)
  (sg : Nat) (hs : w.heap[sg]? = some (.cells (kdCells (Wk.signs lv)) 132 (0, 0))) (r : Wk.St × Wk.Sem) (hr : Wk.pRow c.T (Wk.pe c.T f (lv + 1) nest) (Wk.signs lv) c.T.length (Wk.pe c.T f (lv + 1) nest q).1 (Wk.pe c.T f (lv + 1) nest q).2 = r) :
  Calls Tryz.prog 202 #[nptr c.b, .func (.func g) #[nptr c.b] #[], .slice (some ⟨sg, 0, none⟩) (Wk.signs lv).length (Wk.signs lv).length] w fun e w' => nodeEnd c w' r e ∧ PI c w w' r.1 nest (o.or (Wk.stray c.ns r.2.names)) := by
 have HT : Hid _ := h.toks.shut; have HG : Hid _ := fun q => (Wk.goes_pe h.toks.shut f (lv + 1) nest q).1
 have HL : Hid (XP c g (lv + 1) f) := hL; have HI : Hid (PI c w w q nest o) := h; have HN : Hid _ := hn; have HM : Hid _ := hm; have HSG : Hid _ := hs; have HR : Hid _ := hr; have hl2 : (Wk.signs lv).length ≤ 2 := by rcases hlv with rfl | rfl | rfl | rfl <;> decide
 have HL2 : Hid (∀ kd ∈ Wk.signs lv, 2 ≤ kd) := fun kd hk => by have := signs_bin hk; unfold binKd at this; omega
 have HSN : Hid (sg ≠ c.b) := by
  intro e; obtain ⟨cs, hb⟩ := h.box; rw [e, hb] at hs; cases hs
 clear h hL hn hm hs hr hlv; generalize hPF : Wk.pe c.T f (lv + 1) nest = pf at *
 have HPF : Hid _ := hPF; have HGL : Hid (∀ W, Gl W → ∀ kd ∈ Wk.signs lv, W.cell? ⟨8, kd, none⟩ = some (.int .i64 (opOf kd : Int)) ∧ (0 : Int) ≤ (kd : Int) ∧ (kd : Int) < 33) := by
  intro W hW kd hk; have := signs_bin hk; unfold binKd at this; exact ⟨hW.ops kd (by omega), by omega, by omega⟩
 clear hPF; go_enter Tryz.func202, Tryz.ntmps202; go_wp2_with fail; refine (HL.out nest q w o HI.out HN.out HM.out).mono ?_; rintro e w1 ⟨⟨k1, rfl, ht1⟩, hI1⟩; rw [HPF.out] at hI1 ht1; have HI1 : Hid _ := hI1; have HT1 : Hid _ := ht1; clear hI1 ht1; go_wp2_with fail; go_loopg [7] c.T.length (fun gk s7 wr => ∃ (q' : Wk.St) (a : Wk.Sem) (k : Nat), s7 = nptr k ∧ Hid (PI c w wr q' nest (o.or (Wk.stray c.ns a.names))) ∧ Hid (q'.bad = none → PTK c.ns wr (nptr k) a) ∧ Hid (Wk.pRow c.T pf (Wk.signs lv) gk q' a = r) ∧ Hid ((q'.bad = none → c.T.length - q'.k ≤ gk) ∧ q.le q'))
 case atStart => exact ⟨_, _, k1, rfl, HI1, HT1, HR, ⟨fun _ => by omega, HG.out q⟩⟩
 case round =>
  obtain ⟨q', a, k, rfl, HIr, HTr, HPR, HMS⟩ := hrel; clear HI1 HT1; have HIN : Hid _ := isIn_at HIr.out HL2.out; have HSr : Hid _ := HIr.out.blk HSG.out HSN.out; go_wp2_with fail; refine (j_next HIr.out).mono ?_; rintro e w2 ⟨rfl, rfl⟩; go_wp2_with fail; refine (p_kindIn (w := wr.drew) HSr.out hl2 _).mono ?_; rintro e w3 ⟨rfl, rfl⟩; rw [HIN.out]; cases hin : q'.isIn c.T (Wk.signs lv) with
  | false =>
   have HE : Hid (r = (q', a)) := by
    show _ = _; rw [← HPR.out]; cases gk with
    | zero => rfl
    | succ m => rw [Wk.pRow, hin]; rfl
   clear hin; go_wp2_with fail; go_ret; rw [HE.out]; exact ⟨⟨k, rfl, fun hb => (HTr.out hb).keep (KeepN.below (Below.refl _ _).drew)⟩, HIr.out.drew⟩
  | true =>
   have hbb := (Wk.isIn_iff.1 hin)
   have hkk := HIr.out.ok hbb.1; have HK : Hid _ := isIn_K hin; have HKD : Hid _ := hbb.2; have hat : ppAt c.T q' = q'.k := ppAt_ok hbb.1; have HW : Hid (q'.want c.T (Wk.tokK c.T q'.k).kind = q'.adv) := want_isK HK.out; have HBN : Hid _ := hbb.1; have HPR2 : Hid (Wk.pRow c.T pf (Wk.signs lv) (gk - 1) (pf q'.adv).1 (Wk.semBin (Wk.tokK c.T q'.k).kind a (pf q'.adv).2) = r) := by
    show _ = _; have h1 := HMS.out.1 hbb.1; rw [← HPR.out, show gk = (gk - 1) + 1 by omega, Wk.pRow, hin]; rfl
   have hgk : 0 < gk := by have := HMS.out.1 hbb.1; omega
   have HM5 : Hid (meas c.T q'.adv (lv + 1) < f) := by
    show _ < _; have h1 := meas_adv (T := c.T) hbb.1 hkk (lv + 1) (lv + 1) (by unfold rank; split <;> omega); have h2 := meas_le (T := c.T) HMS.out.2 (lv + 1); have h3 := HM.out; omega
   have HN5 : Hid (q'.adv.bad = none → nest ≤ 10) := fun _ => HN.out (HMS.out.2 HBN.out).1
   have HX5 : Hid (((pf q'.adv).1.bad = none → c.T.length - (pf q'.adv).1.k ≤ gk - 1) ∧ q.le (pf q'.adv).1) := by
    refine ⟨fun hb => ?_, Wk.St.le_trans HMS.out.2 (Wk.St.le_trans (Wk.le_adv q') (HG.out q'.adv))⟩; have h1 := HMS.out.1 HBN.out; have h2 := (HG.out q'.adv hb).2; have h3 : q'.adv.k = q'.k + 1 := by unfold Wk.St.adv; rw [HBN.out]; rfl
    omega
   rw [hat]; have HBK : Hid (binKd (Wk.tokK c.T q'.k).kind) := signs_bin HKD.out; clear hin hbb hkk HIN HPR; have hcell := HGL.out wr.drew HIr.out.drew.gl _ HKD.out; have HCW : Hid (∀ W, Gl W → W.cell? ⟨8, (Wk.tokK c.T q'.k).kind, none⟩ = some (.int .i64 (opOf (Wk.tokK c.T q'.k).kind : Int))) := fun W hW => (HGL.out W hW _ HKD.out).1
   obtain ⟨-, hkd0, hkd1⟩ := hcell; have h2k : 2 ≤ (Wk.tokK c.T q'.k).kind := HL2.out _ HKD.out; have HNX : Hid (∀ W, PI c w W q' nest (o.or (Wk.stray c.ns a.names)) → Calls Tryz.prog 108 #[nptr c.b] W fun e w' => e = .returned (.int .i64 ((Wk.tokK c.T q'.k).kind : Int)) ∧ w' = W.drew) := fun W hW => by
    have := j_next hW; rw [hat] at this; exact this
   clear hat HKD HK; generalize (Wk.tokK c.T q'.k).kind = kd at *
   go_wp2_with fail; refine (HNX.out _ HIr.out.drew).mono ?_; rintro e w4 ⟨rfl, rfl⟩; go_wp2_with fail; refine (j_want HIr.out.drew.drew.self kd h2k).mono ?_; rintro e w5 ⟨he, hI5⟩; obtain ⟨v5, rfl⟩ : ∃ v, e = .returned v := ⟨_, he⟩
   rw [HW.out] at hI5; have HT5 : Hid _ := (HTr.out HBN.out).keep (KeepN.trans (KeepN.below (w := wr) (w' := wr.drew.drew) (Below.refl _ _).drew.drew) (HIr.out.drew.drew.keepN hI5)); have HI5 : Hid _ := HIr.out.drew.drew.trans hI5; clear hI5 he; go_upto_region 5 with fail; have HX : Hid _ := HCW.out w5.drew HI5.out.drew.gl; refine wp_region_ph (fun w' => w'.cell? ⟨8, kd, none⟩ = some (.int .i64 (opOf kd : Int))) 9 9 rfl (by kernel_rfl) HX.out (fun hHeld => ?_); clear hHeld; refine PhS.t 0 20 HX.out ?_; refine PhS.t 1 21 HX.out ?_; refine PhS.t 2 22 HX.out ?_; refine PhS.t 3 23 HX.out ?_; refine PhS.t 4 24 HX.out ?_; refine PhS.on 5 (fun K hK => ?_); go_simp; refine (HL.out nest q'.adv w5.drew _ HI5.out.drew.self HN5.out HM5.out).mono ?_; rintro e w6 ⟨⟨k6, rfl, ht6⟩, hI6⟩; rw [HPF.out] at hI6 ht6; have HI6 : Hid _ := hI6; have HT6 : Hid _ := ht6; have HX6 : Hid _ := HCW.out w6 hI6.gl; refine hK.out _ _ (fun _ => HX6.out) ?_; clear hK K hI6 ht6; try simp only [Act.put, sA, sZ, sS]
   refine PhS.on 6 (fun K hK => ?_); go_simp; have HX7 : Hid (∀ x, (w6.alloc x).cell? ⟨8, kd, none⟩ = some (.int .i64 (opOf kd : Int))) := fun x => HCW.out _ (HI6.out.alloc x).gl
   refine hK.out _ _ (fun _ => HX7.out _) ?_; clear hK K; try simp only [Act.put, sA, sZ, sS]
   refine PhS.on 7 (fun K hK => ?_); go_simp; refine (p_join (opOf kd) w6.heap.size 2 _).mono ?_; rintro e w8 ⟨rfl, rfl⟩; have HX8 : Hid (∀ x y, ((w6.alloc x).alloc y).cell? ⟨8, kd, none⟩ = some (.int .i64 (opOf kd : Int))) := fun x y => HCW.out _ ((HI6.out.alloc x).alloc y).gl
   refine hK.out _ _ (fun _ => HX8.out _ _) ?_; clear hK K; try simp only [Act.put, sA, sZ, sS]
   refine PhS.t 8 7 (HX8.out _ _) ?_; refine PhS.done (by kernel_rfl) ?_ _; go_wp2_with fail; go_roundg (gk - 1); case measure => omega
   case rel =>
    have hI : PI c w ((w6.alloc (.cells #[nptr k, nptr k6] 70)).alloc (joined (opOf kd) w6.heap.size 2)) (pf q'.adv).1 nest (o.or (Wk.stray c.ns (Wk.semBin kd a (pf q'.adv).2).names)) := by
     rw [semBin_names, Wk.stray_append, ← Wk.or_assoc3]; exact HI5.out.drew.trans ((HI6.out.alloc _).alloc _)
    refine ⟨(pf q'.adv).1, Wk.semBin kd a (pf q'.adv).2, w6.heap.size + 1, rfl, hI, fun hb => ?_, HPR2, HX5⟩; have hka : KeepN w5 ((w6.alloc (.cells #[nptr k, nptr k6] 70)).alloc (joined (opOf kd) w6.heap.size 2)) := (KeepN.below (w := w5) (w' := w5.drew) (Below.refl _ _).drew).trans ((HI5.out.drew.keepN HI6.out).trans (KeepN.below (ab2 _ _ _))); have hta := PTK.keep HT5.out hka; have htb := PTK.keep (HT6.out hb) (KeepN.below (ab2 w6 (.cells #[nptr k, nptr k6] 70) (joined (opOf kd) w6.heap.size 2))); intro hn; rw [semBin_names] at hn; refine pt_bin HBK.out (v := ⟨0, 0, false, ⟨#[]⟩⟩) (item := 0) (g := w6.heap.size) ?_ (blk_alloc _ (heap_alloc_new w6 _)) (hta (fun x hx => hn x (List.mem_append_left _ hx))) (htb (fun x hx => hn x (List.mem_append_right _ hx))); have := joined_at (kind := opOf kd) (g := w6.heap.size) (n := 2) (w := w6.alloc (.cells #[nptr k, nptr k6] 70)); rw [sz_alloc] at this; exact this
end
end Go.Proofs.YtbkaghlklkdmkaaGreatDoor
