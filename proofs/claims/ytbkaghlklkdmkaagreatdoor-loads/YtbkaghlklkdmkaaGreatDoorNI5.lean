/-
  The program's parser: what stands in every item behind its first token. The program's parser: a test. The program's parser: the tests of a cell.
-/
import Derived.Test.YtbkaghlklkdmkaaGreatDoorNI3
set_option maxRecDepth 100000
set_option maxHeartbeats 8000000
namespace Go.Proofs.YtbkaghlklkdmkaaGreatDoor
open Go.RowKit
attribute [local go_sem ↓] Go.wp_at_zero Go.wp_at_succ
def setIR (w : World) (b : Nat) (r : IR) : World := ((((((((((((((w.setCell ⟨b, 0, none⟩ (.int .i64 r.kd)).setCell ⟨b, 1, none⟩ (.string r.nm)).setCell ⟨b, 2, none⟩ (.int .i64 (r.ty.1 : Nat))).setCell ⟨b, 3, none⟩ (.int .i64 (r.ty.2.length : Nat))).setCell ⟨b, 4, none⟩ (.string (wd r.ty 0))).setCell ⟨b, 5, none⟩ (.string (wd r.ty 1))).setCell ⟨b, 6, none⟩ (.string (wd r.ty 2))).setCell ⟨b, 7, none⟩ (.string (wd r.ty 3))).setCell ⟨b, 8, none⟩ (.string (wd r.ty 4))).setCell ⟨b, 9, none⟩ (.string (wd r.ty 5))).setCell ⟨b, 10, none⟩ (r.ex)).setCell ⟨b, 11, none⟩ (.int .i64 r.po)).setCell ⟨b, 12, none⟩ (r.cv)).setCell ⟨b, 13, none⟩ (r.rv)).setCell ⟨b, 14, none⟩ (r.tv)
theorem PI.setIR {c : Cx} {wa w0 w : World} {qa q : Wk.St} {na nest : Int} {oa o : Option Nat} (h : PI c w0 w q nest o) (ha : PI c wa w0 qa na oa) {k : Nat} (hk : w0.heap.size ≤ k) (r : IR) : PI c w0 (setIR w k r) q nest o :=
 ((((((((((((((h.setNew ha hk _ _).setNew ha hk _ _).setNew ha hk _ _).setNew ha hk _ _).setNew ha hk _ _).setNew ha hk _ _).setNew ha hk _ _).setNew ha hk _ _).setNew ha hk _ _).setNew ha hk _ _).setNew ha hk _ _).setNew ha hk _ _).setNew ha hk _ _).setNew ha hk _ _).setNew ha hk _ _
def blankIR (r : IR) : Prop := r.ex = .pointer none ∧ r.po = 0 ∧ r.cv = .slice none 0 0 ∧ r.rv = .slice none 0 0 ∧ r.tv = .slice none 0 0
def headEnd (c : Cx) (q : Wk.St) (kd : Nat) (e : Ending) : Prop := ∃ r : IR, e = .returned r.val ∧ (r.kd = kd ∧ blankIR r) ∧ TyW r.ty ∧ ((Wk.pType c.T (q.want c.T 2)).1.bad = none → r.nm = (Wk.tokK c.T q.k).text ∧ r.ty = (Wk.pType c.T (q.want c.T 2)).2)
def nameStray (ns : List Wk.Name) (x : Wk.Name) (p : Nat) : Option Nat := if ns.contains x then some p else none
theorem pType_bad {T : List Wk.Tok} {q : Wk.St} (h : (Wk.pType T q).1.bad = none) : q.bad = none := by
 cases hb : q.bad with
 | none => rfl
 | some p =>
  have hs : q.bad.isSome = true := by rw [hb]; rfl
  have : (Wk.pType T q).1 = q := by
   unfold Wk.pType; rw [Wk.isK_bad T hs, Wk.isK_bad T hs]; show (Wk.pWords T 6 (q.want T 11) []).1 = q; rw [Wk.want_bad T hs, Wk.pWords_bad T hs]
  rw [this, hb] at h; cases h
theorem j_head {c : Cx} (hT : TP c.T) {w0 w : World} {q : Wk.St} {nest : Int} {o : Option Nat} (h : PI c w0 w q nest o) (kd : Nat) :
  Calls Tryz.prog 139 #[nptr c.b, .int .i64 kd] w fun e w' => headEnd c q kd e ∧ PI c w0 w' (Wk.pType c.T (q.want c.T 2)).1 nest (o.or (nameStray c.ns (Wk.tokK c.T q.k).text.data.toList (Wk.tokK c.T q.k).place)) := by
 have HH : Hid (PI c w0 w q nest o) := h; have HS : Hid (PI c w w q nest o) := h.self; have hblt := h.blt; have HT : Hid _ := hT; clear h hT; cases hK : q.isK c.T 2 with
 | true =>
  have HKK : Hid _ := hK; clear hK; go_enter Tryz.func139, Tryz.ntmps139; go_wp2_with fail; refine (j_want ((HS.out.alloc _).self) 2).mono ?_; rintro e w1 ⟨he, hI⟩; unfold wantEnd at he; rw [HKK.out, if_pos rfl] at he; subst he; have HI1 : Hid _ := hI; have HZ1 : Hid _ := hI.blk (heap_alloc_new w _) (by omega); have hl1 := lt_of_block HZ1.out; have hb1 := hI.blt; clear hI; obtain ⟨tx, htx⟩ : ∃ x, x = (Wk.tokK c.T q.k).text := ⟨_, rfl⟩
  obtain ⟨pl, hpl⟩ : ∃ x, x = (Wk.tokK c.T q.k).place := ⟨_, rfl⟩
  rw [← htx, ← hpl]; have HTX : Hid _ := htx; have HPL : Hid _ := hpl; generalize (Wk.tokK c.T q.k).kind = tkd at *
  clear htx hpl; go_wp2_with fail; refine (j_find (HI1.out.alloc _) tx).mono ?_; rintro e w2 ⟨rfl, hb⟩; have u2 := (hb.block w1.heap.size (by simp)).trans (heap_alloc_new w1 _); have c0 := bc 0 u2 rfl; have c1 := bc 1 u2 rfl; have c2 := bc 2 u2 rfl; have HU2 : Hid _ := u2; have HZ2 : Hid _ := (hb.block w.heap.size (by rw [sz_alloc]; omega)).trans (blk_alloc _ HZ1.out); have HI2 : Hid _ := (HI1.out.alloc _).below hb; have HN : Hid _ := Wk.idx_neg (x := tx.data.toList) (ns := c.ns); clear hb u2; cases hc : c.ns.contains tx.data.toList; rw [hc] at HN; have hn : ¬ 0 ≤ Wk.idx tx.data.toList c.ns := by have := of_decide_eq_true HN.out; omega
  generalize Wk.idx tx.data.toList c.ns = i at *
  have HO : Hid (o.or (nameStray c.ns (Wk.tokK c.T q.k).text.data.toList (Wk.tokK c.T q.k).place) = o) := by
   show _ = _; rw [← HTX.out]; unfold nameStray; rw [hc]; exact or_none_ o
  clear hc HN; obtain ⟨w5, hw5⟩ : ∃ W, W = w2 := ⟨_, rfl⟩
  subst hw5; have HI5 : Hid _ := HI2.out; have HU5 : Hid _ := HU2.out; have HZ5 : Hid _ := HZ2.out; rotate_left; rw [hc] at HN; have hn : 0 ≤ Wk.idx tx.data.toList c.ns := by have := of_decide_eq_false HN.out; omega
  generalize Wk.idx tx.data.toList c.ns = i at *
  have HO : Hid (o.or (nameStray c.ns (Wk.tokK c.T q.k).text.data.toList (Wk.tokK c.T q.k).place) = o.or (some pl)) := by
   show _ = _; rw [← HTX.out, ← HPL.out]; unfold nameStray; rw [hc]; rfl
  clear hc HN; go_wp2_with fail; refine (j_misname HI2.out.self (tkd : Int) (pl : Int) tx pl (fun _ => rfl)).mono ?_; rintro e w5 ⟨rfl, hI3⟩; have HI5 : Hid _ := HI2.out.trans hI3; have HU5 : Hid _ := hI3.blk HU2.out (by omega); have HZ5 : Hid _ := hI3.blk HZ2.out (by omega); clear hI3 c0 c1 c2; rotate_left; all_goals (
   go_upto_region 4 with fail; have HXN : Hid (∀ W : World, W.heap[w1.heap.size]? = some (.cells #[.int .i64 (tkd : Int), .int .i64 (pl : Int), .string tx] 134 (0, 0)) → W.cell? ⟨w1.heap.size, 2, none⟩ = some (.string tx)) := fun W hW => blk_cell hW rfl
   have HX : Hid _ := HXN.out w5.drew HU5.out; refine wp_region_ph (fun w' => w'.cell? ⟨w1.heap.size, 2, none⟩ = some (.string tx)) 6 7 rfl (by kernel_rfl) HX.out (fun hHeld => ?_); clear hHeld; refine PhS.t 0 16 HX.out ?_; refine PhS.t 1 17 HX.out ?_; refine PhS.t 2 18 HX.out ?_; refine PhS.t 3 19 HX.out ?_; refine PhS.on 4 (fun K hK => ?_); go_simp; refine (j_typeOf HT.out HI5.out.drew.self).mono ?_; rintro e w6 ⟨⟨t, rfl, htw, ht⟩, hI6⟩; have HU6 : Hid _ := hI6.blk HU5.out (by omega); have HZ6 : Hid _ := hI6.blk HZ5.out (by omega); have HI6 : Hid _ := hI6; have HTW : Hid _ := htw; have HTY : Hid _ := ht; have HX6 : Hid _ := HXN.out w6 HU6.out; refine hK.out _ _ (fun _ => HX6.out) ?_; clear hK K hI6 htw ht; try simp only [Act.put, sA, sZ, sS]
   unfold tyV; refine PhS.t 5 21 HX6.out ?_; have z0 := bc 0 HZ6.out rfl; have z1 := bc 1 HZ6.out rfl; have z2 := bc 2 HZ6.out rfl; have z3 := bc 3 HZ6.out rfl; have z4 := bc 4 HZ6.out rfl; have z5 := bc 5 HZ6.out rfl; have z6 := bc 6 HZ6.out rfl; have z7 := bc 7 HZ6.out rfl; have z8 := bc 8 HZ6.out rfl; have z9 := bc 9 HZ6.out rfl; have z10 := bc 10 HZ6.out rfl; have z11 := bc 11 HZ6.out rfl; have z12 := bc 12 HZ6.out rfl; have z13 := bc 13 HZ6.out rfl; have z14 := bc 14 HZ6.out rfl; have hfr := blk_free HZ6.out; refine PhS.on 6 (fun K hK => ?_); go_simp; refine hK.out _ _ (fun h => absurd h (by decide)) ?_; clear hK K; refine PhS.done (by kernel_rfl) ?_ _; go_wp2_with fail; refine bodyPost_ret (v := IR.val ⟨kd, tx, t, .pointer none, 0, .slice none 0 0, .slice none 0 0, .slice none 0 0⟩) (by simp [results, Tryz.results139, go_sem, IR.val, z0, z1, z2, z3, z4, z5, z6, z7, z8, z9, z10, z11, z12, z13, z14]) rfl ⟨⟨_, rfl, ⟨rfl, rfl, rfl, rfl, rfl, rfl⟩, HTW.out, fun hb => ⟨HTX.out, HTY.out hb⟩⟩, ?_⟩; rw [HO.out]; exact HH.out.trans ((((HS.out.alloc _).trans HI5.out.drew).trans HI6.out).setIR HS.out (Nat.le_refl _) ⟨kd, tx, t, .pointer none, 0, .slice none 0 0, .slice none 0 0, .slice none 0 0⟩))
 | false =>
  have HKK : Hid _ := hK; have HBD : Hid ((q.want c.T 2).bad ≠ none) := fun e => by rw [want_ok e] at hK; cases hK
  have HBP : Hid ((Wk.pType c.T (q.want c.T 2)).1.bad ≠ none) := fun e => HBD.out (pType_bad e)
  clear hK; go_enter Tryz.func139, Tryz.ntmps139; go_wp2_with fail; refine (j_want ((HS.out.alloc _).self) 2).mono ?_; rintro e w1 ⟨he, hI⟩; unfold wantEnd at he; rw [HKK.out, if_neg (by decide)] at he; subst he; have HI1 : Hid _ := hI; have HZ1 : Hid _ := hI.blk (heap_alloc_new w _) (by omega); have hl1 := lt_of_block HZ1.out; have hb1 := hI.blt; clear hI; go_wp2_with fail; refine (j_find (HI1.out.alloc _) ⟨#[]⟩).mono ?_; rintro e w2 ⟨rfl, hb⟩; have u2 := (hb.block w1.heap.size (by simp)).trans (heap_alloc_new w1 _); have c0 := bc 0 u2 rfl; have c1 := bc 1 u2 rfl; have c2 := bc 2 u2 rfl; have HU2 : Hid _ := u2; have HZ2 : Hid _ := (hb.block w.heap.size (by rw [sz_alloc]; omega)).trans (blk_alloc _ HZ1.out); have HI2 : Hid _ := (HI1.out.alloc _).below hb; clear hb u2; generalize Wk.idx (ByteArray.mk #[]).data.toList c.ns = i at *
  by_cases hn : 0 ≤ i
  ·go_wp2_with fail; refine (j_misname HI2.out.self 0 0 ⟨#[]⟩ 0 (fun _ => rfl)).mono ?_; rintro e w5 ⟨rfl, hI3⟩; have HI5 : Hid _ := HI2.out.trans hI3; have HU5 : Hid _ := hI3.blk HU2.out (by omega); have HZ5 : Hid _ := hI3.blk HZ2.out (by omega); clear hI3 c0 c1 c2; go_upto_region 4 with fail; have HXN : Hid (∀ W : World, W.heap[w1.heap.size]? = some (.cells #[.int .i64 0, .int .i64 0, .string ⟨#[]⟩] 134 (0, 0)) → W.cell? ⟨w1.heap.size, 2, none⟩ = some (.string ⟨#[]⟩)) := fun W hW => blk_cell hW rfl
   have HX : Hid _ := HXN.out w5.drew HU5.out; refine wp_region_ph (fun w' => w'.cell? ⟨w1.heap.size, 2, none⟩ = some (.string ⟨#[]⟩)) 6 7 rfl (by kernel_rfl) HX.out (fun hHeld => ?_); clear hHeld; refine PhS.t 0 16 HX.out ?_; refine PhS.t 1 17 HX.out ?_; refine PhS.t 2 18 HX.out ?_; refine PhS.t 3 19 HX.out ?_; refine PhS.on 4 (fun K hK => ?_); go_simp; refine (j_typeOf HT.out HI5.out.drew.self).mono ?_; rintro e w6 ⟨⟨t, rfl, htw, ht⟩, hI6⟩; have HU6 : Hid _ := hI6.blk HU5.out (by omega); have HZ6 : Hid _ := hI6.blk HZ5.out (by omega); have HI6 : Hid _ := hI6; have HTW : Hid _ := htw; have HTY : Hid _ := ht; have HX6 : Hid _ := HXN.out w6 HU6.out; refine hK.out _ _ (fun _ => HX6.out) ?_; clear hK K hI6 htw ht; try simp only [Act.put, sA, sZ, sS]
   unfold tyV; refine PhS.t 5 21 HX6.out ?_; have z0 := bc 0 HZ6.out rfl; have z1 := bc 1 HZ6.out rfl; have z2 := bc 2 HZ6.out rfl; have z3 := bc 3 HZ6.out rfl; have z4 := bc 4 HZ6.out rfl; have z5 := bc 5 HZ6.out rfl; have z6 := bc 6 HZ6.out rfl; have z7 := bc 7 HZ6.out rfl; have z8 := bc 8 HZ6.out rfl; have z9 := bc 9 HZ6.out rfl; have z10 := bc 10 HZ6.out rfl; have z11 := bc 11 HZ6.out rfl; have z12 := bc 12 HZ6.out rfl; have z13 := bc 13 HZ6.out rfl; have z14 := bc 14 HZ6.out rfl; have hfr := blk_free HZ6.out; refine PhS.on 6 (fun K hK => ?_); go_simp; refine hK.out _ _ (fun h => absurd h (by decide)) ?_; clear hK K; refine PhS.done (by kernel_rfl) ?_ _; go_wp2_with fail; refine bodyPost_ret (v := IR.val ⟨kd, ⟨#[]⟩, t, .pointer none, 0, .slice none 0 0, .slice none 0 0, .slice none 0 0⟩) (by simp [results, Tryz.results139, go_sem, IR.val, z0, z1, z2, z3, z4, z5, z6, z7, z8, z9, z10, z11, z12, z13, z14]) rfl ⟨⟨_, rfl, ⟨rfl, rfl, rfl, rfl, rfl, rfl⟩, HTW.out, fun hb => absurd hb HBP.out⟩, ?_⟩; exact PI.any (HH.out.trans ((((HS.out.alloc _).trans HI5.out.drew).trans HI6.out).setIR HS.out (Nat.le_refl _) ⟨kd, ⟨#[]⟩, t, .pointer none, 0, .slice none 0 0, .slice none 0 0, .slice none 0 0⟩)) HBP.out _
  ·obtain ⟨w5, hw5⟩ : ∃ W, W = w2 := ⟨_, rfl⟩
   subst hw5; have HI5 : Hid _ := HI2.out; have HU5 : Hid _ := HU2.out; have HZ5 : Hid _ := HZ2.out; go_upto_region 4 with fail; have HXN : Hid (∀ W : World, W.heap[w1.heap.size]? = some (.cells #[.int .i64 0, .int .i64 0, .string ⟨#[]⟩] 134 (0, 0)) → W.cell? ⟨w1.heap.size, 2, none⟩ = some (.string ⟨#[]⟩)) := fun W hW => blk_cell hW rfl
   have HX : Hid _ := HXN.out w5.drew HU5.out; refine wp_region_ph (fun w' => w'.cell? ⟨w1.heap.size, 2, none⟩ = some (.string ⟨#[]⟩)) 6 7 rfl (by kernel_rfl) HX.out (fun hHeld => ?_); clear hHeld; refine PhS.t 0 16 HX.out ?_; refine PhS.t 1 17 HX.out ?_; refine PhS.t 2 18 HX.out ?_; refine PhS.t 3 19 HX.out ?_; refine PhS.on 4 (fun K hK => ?_); go_simp; refine (j_typeOf HT.out HI5.out.drew.self).mono ?_; rintro e w6 ⟨⟨t, rfl, htw, ht⟩, hI6⟩; have HU6 : Hid _ := hI6.blk HU5.out (by omega); have HZ6 : Hid _ := hI6.blk HZ5.out (by omega); have HI6 : Hid _ := hI6; have HTW : Hid _ := htw; have HTY : Hid _ := ht; have HX6 : Hid _ := HXN.out w6 HU6.out; refine hK.out _ _ (fun _ => HX6.out) ?_; clear hK K hI6 htw ht; try simp only [Act.put, sA, sZ, sS]
   unfold tyV; refine PhS.t 5 21 HX6.out ?_; have z0 := bc 0 HZ6.out rfl; have z1 := bc 1 HZ6.out rfl; have z2 := bc 2 HZ6.out rfl; have z3 := bc 3 HZ6.out rfl; have z4 := bc 4 HZ6.out rfl; have z5 := bc 5 HZ6.out rfl; have z6 := bc 6 HZ6.out rfl; have z7 := bc 7 HZ6.out rfl; have z8 := bc 8 HZ6.out rfl; have z9 := bc 9 HZ6.out rfl; have z10 := bc 10 HZ6.out rfl; have z11 := bc 11 HZ6.out rfl; have z12 := bc 12 HZ6.out rfl; have z13 := bc 13 HZ6.out rfl; have z14 := bc 14 HZ6.out rfl; have hfr := blk_free HZ6.out; refine PhS.on 6 (fun K hK => ?_); go_simp; refine hK.out _ _ (fun h => absurd h (by decide)) ?_; clear hK K; refine PhS.done (by kernel_rfl) ?_ _; go_wp2_with fail; refine bodyPost_ret (v := IR.val ⟨kd, ⟨#[]⟩, t, .pointer none, 0, .slice none 0 0, .slice none 0 0, .slice none 0 0⟩) (by simp [results, Tryz.results139, go_sem, IR.val, z0, z1, z2, z3, z4, z5, z6, z7, z8, z9, z10, z11, z12, z13, z14]) rfl ⟨⟨_, rfl, ⟨rfl, rfl, rfl, rfl, rfl, rfl⟩, HTW.out, fun hb => absurd hb HBP.out⟩, ?_⟩; exact PI.any (HH.out.trans ((((HS.out.alloc _).trans HI5.out.drew).trans HI6.out).setIR HS.out (Nat.le_refl _) ⟨kd, ⟨#[]⟩, t, .pointer none, 0, .slice none 0 0, .slice none 0 0, .slice none 0 0⟩)) HBP.out _
theorem none_of {q r : Wk.St} (h : q.bad.isSome = true → r = q) (hr : r.bad = none) : q.bad = none := by
 cases hb : q.bad with
 | none => rfl
 | some p => rw [h (by rw [hb]; rfl), hb] at hr; cases hr
theorem pValue_none {T : List Wk.Tok} {q : Wk.St} (h : (Wk.pValue T q).1.bad = none) : q.bad = none := none_of (fun hs => Wk.pValue_bad T hs) h
structure QR where
 op : Nat
 a : VR
 b : VR
def QR.cells (r : QR) : List Value := [.int .i64 r.op, .int .i64 r.a.kd, .int .i64 r.a.no, .bool r.a.tr, .string r.a.tx, .int .i64 r.b.kd, .int .i64 r.b.no, .bool r.b.tr, .string r.b.tx]
def QR.ok (r : QR) (p : Wk.PTest) : Prop := r.op = p.op ∧ r.a.ok p.a ∧ p.a.1 ≠ 0 ∧ (p.op = 3 → r.b.ok p.b ∧ p.b.1 ≠ 0) ∧ (p.op ≠ 3 → r.b.kd = 0)
def testEndP (T : List Wk.Tok) (q : Wk.St) (e : Ending) : Prop := ∃ r : QR, e = .returned (.agg #[.int .i64 r.op, .int .i64 r.a.kd, .int .i64 r.a.no, .bool r.a.tr, .string r.a.tx, .int .i64 r.b.kd, .int .i64 r.b.no, .bool r.b.tr, .string r.b.tx]) ∧ ((Wk.pTest T q).1.bad = none → r.ok (Wk.pTest T q).2)
theorem j_test {c : Cx} (hT : TP c.T) {w0 w : World} {q : Wk.St} {nest : Int} {o : Option Nat} (h : PI c w0 w q nest o) :
  Calls Tryz.prog 233 #[nptr c.b] w fun e w' => testEndP c.T q e ∧ PI c w0 w' (Wk.pTest c.T q).1 nest o := by
 have HH : Hid (PI c w0 w q nest o) := h; have HS : Hid (PI c w w q nest o) := h.self; have hblt := h.blt; have HT : Hid _ := hT; clear h hT; cases K32 : q.isK c.T 32 with
 | true =>
  have HP : Hid (Wk.pTest c.T q = ((Wk.pValue c.T q.adv).1, ⟨1, (Wk.pValue c.T q.adv).2, (0, [])⟩)) := by
   show _ = _; unfold Wk.pTest; rw [K32]; rfl
  have HK32 : Hid _ := K32; clear K32; go_enter Tryz.func233, Tryz.ntmps233; go_wp2_with fail; refine (j_has ((HS.out.alloc _).self) 32).mono ?_; rintro e w1 ⟨rfl, hI⟩; rw [HK32.out] at *
  rw [if_pos rfl] at hI; have HI1 : Hid _ := hI; clear hI; go_wp2_with fail; refine (j_value HT.out HI1.out).mono ?_; rintro e w2 ⟨⟨v, rfl, hv⟩, hI⟩; have HI2 : Hid _ := hI; have HV : Hid _ := hv; have u := hI.blk (heap_alloc_new w _) (by omega); have c0 := bc 0 u rfl; have c1 := bc 1 u rfl; have c2 := bc 2 u rfl; have c3 := bc 3 u rfl; have c4 := bc 4 u rfl; have c5 := bc 5 u rfl; have c6 := bc 6 u rfl; have c7 := bc 7 u rfl; have c8 := bc 8 u rfl; have cf := blk_free u; clear hI hv u; go_wp2_with fail; refine bodyPost_ret (v := .agg #[.int .i64 1, .int .i64 v.kd, .int .i64 v.no, .bool v.tr, .string v.tx, .int .i64 0, .int .i64 0, .bool false, .string ⟨#[]⟩]) (by simp [results, Tryz.results233, go_sem, c0, c1, c2, c3, c4, c5, c6, c7, c8]) rfl ⟨⟨⟨1, v, ⟨0, 0, false, ⟨#[]⟩⟩⟩, rfl, fun hb => ?_⟩, ?_⟩
  ·rw [HP.out] at hb ⊢; exact ⟨rfl, HV.out hb, pValue_ne _ _, fun e => (by cases e), fun _ => rfl⟩
  ·rw [HP.out]; exact HH.out.trans (((((((((((HS.out.alloc _).trans HI2.out).setNew HS.out (Nat.le_refl _) _ _).setNew HS.out (Nat.le_refl _) _ _).setNew HS.out (Nat.le_refl _) _ _).setNew HS.out (Nat.le_refl _) _ _).setNew HS.out (Nat.le_refl _) _ _).setNew HS.out (Nat.le_refl _) _ _).setNew HS.out (Nat.le_refl _) _ _).setNew HS.out (Nat.le_refl _) _ _).setNew HS.out (Nat.le_refl _) _ _)
 | false =>
  have HK32 : Hid _ := K32; cases K33 : q.isK c.T 33 with
  | true =>
   have HP : Hid (Wk.pTest c.T q = ((Wk.pValue c.T q.adv).1, ⟨2, (Wk.pValue c.T q.adv).2, (0, [])⟩)) := by
    show _ = _; unfold Wk.pTest; rw [K32, K33]; rfl
   have HK33 : Hid _ := K33; clear K32 K33; go_enter Tryz.func233, Tryz.ntmps233; go_wp2_with fail; refine (j_has ((HS.out.alloc _).self) 32).mono ?_; rintro e w1 ⟨rfl, hI⟩; rw [HK32.out] at *
   rw [if_neg (by decide)] at hI; have HI1 : Hid _ := hI; clear hI; go_wp2_with fail; refine (j_has HI1.out 33).mono ?_; rintro e w2 ⟨rfl, hI⟩; rw [HK33.out] at *
   rw [if_pos rfl] at hI; have HI2 : Hid _ := hI; clear hI; go_wp2_with fail; refine (j_value HT.out HI2.out).mono ?_; rintro e w3 ⟨⟨v, rfl, hv⟩, hI⟩; have HI3 : Hid _ := hI; have HV : Hid _ := hv; have u := hI.blk (heap_alloc_new w _) (by omega); have c0 := bc 0 u rfl; have c1 := bc 1 u rfl; have c2 := bc 2 u rfl; have c3 := bc 3 u rfl; have c4 := bc 4 u rfl; have c5 := bc 5 u rfl; have c6 := bc 6 u rfl; have c7 := bc 7 u rfl; have c8 := bc 8 u rfl; have cf := blk_free u; clear hI hv u; go_wp2_with fail; refine bodyPost_ret (v := .agg #[.int .i64 2, .int .i64 v.kd, .int .i64 v.no, .bool v.tr, .string v.tx, .int .i64 0, .int .i64 0, .bool false, .string ⟨#[]⟩]) (by simp [results, Tryz.results233, go_sem, c0, c1, c2, c3, c4, c5, c6, c7, c8]) rfl ⟨⟨⟨2, v, ⟨0, 0, false, ⟨#[]⟩⟩⟩, rfl, fun hb => ?_⟩, ?_⟩
   ·rw [HP.out] at hb ⊢; exact ⟨rfl, HV.out hb, pValue_ne _ _, fun e => (by cases e), fun _ => rfl⟩
   ·rw [HP.out]; exact HH.out.trans (((((((((((HS.out.alloc _).trans HI3.out).setNew HS.out (Nat.le_refl _) _ _).setNew HS.out (Nat.le_refl _) _ _).setNew HS.out (Nat.le_refl _) _ _).setNew HS.out (Nat.le_refl _) _ _).setNew HS.out (Nat.le_refl _) _ _).setNew HS.out (Nat.le_refl _) _ _).setNew HS.out (Nat.le_refl _) _ _).setNew HS.out (Nat.le_refl _) _ _).setNew HS.out (Nat.le_refl _) _ _)
  | false =>
   have HK33 : Hid _ := K33; cases K36 : q.isK c.T 36 with
   | false =>
    have HP : Hid (Wk.pTest c.T q = ((Wk.pValue c.T q).1, ⟨0, (Wk.pValue c.T q).2, (0, [])⟩)) := by
     show _ = _; unfold Wk.pTest; rw [K32, K33, K36]; rfl
    have HK36 : Hid _ := K36; clear K32 K33 K36; go_enter Tryz.func233, Tryz.ntmps233; go_wp2_with fail; refine (j_has ((HS.out.alloc _).self) 32).mono ?_; rintro e w1 ⟨rfl, hI⟩; rw [HK32.out] at *
    rw [if_neg (by decide)] at hI; have HI1 : Hid _ := hI; clear hI; go_wp2_with fail; refine (j_has HI1.out 33).mono ?_; rintro e w2 ⟨rfl, hI⟩; rw [HK33.out] at *
    rw [if_neg (by decide)] at hI; have HI2 : Hid _ := hI; clear hI; go_wp2_with fail; refine (j_has HI2.out 36).mono ?_; rintro e w3 ⟨rfl, hI⟩; rw [HK36.out] at *
    rw [if_neg (by decide)] at hI; have HI3 : Hid _ := hI; clear hI; go_wp2_with fail; refine (j_value HT.out HI3.out).mono ?_; rintro e w4 ⟨⟨v, rfl, hv⟩, hI⟩; have HI4 : Hid _ := hI; have HV : Hid _ := hv; have u := hI.blk (heap_alloc_new w _) (by omega); have c0 := bc 0 u rfl; have c1 := bc 1 u rfl; have c2 := bc 2 u rfl; have c3 := bc 3 u rfl; have c4 := bc 4 u rfl; have c5 := bc 5 u rfl; have c6 := bc 6 u rfl; have c7 := bc 7 u rfl; have c8 := bc 8 u rfl; have cf := blk_free u; clear hI hv u; go_wp2_with fail; refine bodyPost_ret (v := .agg #[.int .i64 0, .int .i64 v.kd, .int .i64 v.no, .bool v.tr, .string v.tx, .int .i64 0, .int .i64 0, .bool false, .string ⟨#[]⟩]) (by simp [results, Tryz.results233, go_sem, c0, c1, c2, c3, c4, c5, c6, c7, c8]) rfl ⟨⟨⟨0, v, ⟨0, 0, false, ⟨#[]⟩⟩⟩, rfl, fun hb => ?_⟩, ?_⟩
    ·rw [HP.out] at hb ⊢; exact ⟨rfl, HV.out hb, pValue_ne _ _, fun e => (by cases e), fun _ => rfl⟩
    ·rw [HP.out]; exact HH.out.trans (((((((((((HS.out.alloc _).trans HI4.out).setNew HS.out (Nat.le_refl _) _ _).setNew HS.out (Nat.le_refl _) _ _).setNew HS.out (Nat.le_refl _) _ _).setNew HS.out (Nat.le_refl _) _ _).setNew HS.out (Nat.le_refl _) _ _).setNew HS.out (Nat.le_refl _) _ _).setNew HS.out (Nat.le_refl _) _ _).setNew HS.out (Nat.le_refl _) _ _).setNew HS.out (Nat.le_refl _) _ _)
   | true =>
    have HP : Hid (Wk.pTest c.T q = ((Wk.pValue c.T ((Wk.pValue c.T q.adv).1.want c.T 41)).1.want c.T 37, ⟨3, (Wk.pValue c.T q.adv).2, (Wk.pValue c.T ((Wk.pValue c.T q.adv).1.want c.T 41)).2⟩)) := by
     show _ = _; unfold Wk.pTest; rw [K32, K33, K36]; rfl
    have HK36 : Hid _ := K36; clear K32 K33 K36; have HLE : Hid (((Wk.pValue c.T ((Wk.pValue c.T q.adv).1.want c.T 41)).1.want c.T 37).bad = none → (Wk.pValue c.T q.adv).1.bad = none ∧ (Wk.pValue c.T ((Wk.pValue c.T q.adv).1.want c.T 41)).1.bad = none) := fun hb => by
     have h1 := pwant_bad hb; exact ⟨pwant_bad (pValue_none h1), h1⟩
    obtain ⟨r1, hr1⟩ : ∃ r, r = Wk.pValue c.T q.adv := ⟨_, rfl⟩
    obtain ⟨r2, hr2⟩ : ∃ r, r = Wk.pValue c.T (r1.1.want c.T 41) := ⟨_, rfl⟩
    have HR1 : Hid _ := hr1; have HR2 : Hid _ := hr2; rw [← hr1, ← hr2] at HP HLE; have HN1 : Hid (r1.2.1 ≠ 0) := by rw [hr1]; exact pValue_ne _ _
    have HN2 : Hid (r2.2.1 ≠ 0) := by rw [hr2]; exact pValue_ne _ _
    clear hr1 hr2; go_enter Tryz.func233, Tryz.ntmps233; go_wp2_with fail; refine (j_has ((HS.out.alloc _).self) 32).mono ?_; rintro e w1 ⟨rfl, hI⟩; rw [HK32.out] at *
    rw [if_neg (by decide)] at hI; have HI1 : Hid _ := hI; clear hI; go_wp2_with fail; refine (j_has HI1.out 33).mono ?_; rintro e w2 ⟨rfl, hI⟩; rw [HK33.out] at *
    rw [if_neg (by decide)] at hI; have HI2 : Hid _ := hI; clear hI; go_wp2_with fail; refine (j_has HI2.out 36).mono ?_; rintro e w3 ⟨rfl, hI⟩; rw [HK36.out] at *
    rw [if_pos rfl] at hI; have HI3 : Hid _ := hI; clear hI; go_wp2_with fail; refine (j_value HT.out HI3.out).mono ?_; rintro e w4 ⟨⟨v, rfl, hv⟩, hI⟩; rw [← HR1.out] at hI hv; have HI4 : Hid _ := hI; have HV : Hid _ := hv; have hl4 := hI.blt; clear hI hv; go_wp2_with fail; refine (j_want (HI4.out.alloc _).self 41).mono ?_; rintro e w5 ⟨he, hI⟩; obtain ⟨v5, rfl⟩ : ∃ v, e = .returned v := ⟨_, he⟩
    have HI5 : Hid _ := hI; clear hI he; go_wp2_with fail; refine (j_value HT.out HI5.out).mono ?_; rintro e w6 ⟨⟨v2, rfl, hv⟩, hI⟩; rw [← HR2.out] at hI hv; have HI6 : Hid _ := hI; have HV2 : Hid _ := hv; have HU6 : Hid _ := hI.blk (heap_alloc_new w4 _) (by omega); have hl6 := lt_of_block HU6.out; clear hI hv; go_wp2_with fail; refine (j_want (HI6.out.self.alloc _).self 37).mono ?_; rintro e w7 ⟨he, hI⟩; obtain ⟨v7, rfl⟩ : ∃ v, e = .returned v := ⟨_, he⟩
    have HI7 : Hid _ := hI; have hb6 := HI6.out.blt; have ua := hI.blk (blk_alloc _ HU6.out) (by omega); have ub := hI.blk (heap_alloc_new w6 _) (by omega); have a0 := bc 0 ua rfl; have b0 := bc 0 ub rfl; have a1 := bc 1 ua rfl; have b1 := bc 1 ub rfl; have a2 := bc 2 ua rfl; have b2 := bc 2 ub rfl; have a3 := bc 3 ua rfl; have b3 := bc 3 ub rfl; have HIA : Hid (PI c w w7 (r2.1.want c.T 37) nest o) := ((((HS.out.alloc _).trans HI4.out).alloc _).trans HI6.out).alloc _ |>.trans HI7.out
    have HIZ : Hid (PI c (w.alloc (.cells #[.int .i64 0, .int .i64 0, .int .i64 0, .bool false, .string ⟨#[]⟩, .int .i64 0, .int .i64 0, .bool false, .string ⟨#[]⟩] 285)) w7 (r2.1.want c.T 37) nest o) := (((HI4.out.alloc _).trans HI6.out).alloc _).trans HI7.out; have u := HIZ.out.blk (heap_alloc_new w _) (by omega); have c0 := bc 0 u rfl; have c1 := bc 1 u rfl; have c2 := bc 2 u rfl; have c3 := bc 3 u rfl; have c4 := bc 4 u rfl; have c5 := bc 5 u rfl; have c6 := bc 6 u rfl; have c7 := bc 7 u rfl; have c8 := bc 8 u rfl; have cf := blk_free u; clear hI u ua ub he; go_wp2_with fail; refine bodyPost_ret (v := .agg #[.int .i64 3, .int .i64 v.kd, .int .i64 v.no, .bool v.tr, .string v.tx, .int .i64 v2.kd, .int .i64 v2.no, .bool v2.tr, .string v2.tx]) (by simp [results, Tryz.results233, go_sem, c0, c1, c2, c3, c4, c5, c6, c7, c8]) rfl ⟨⟨⟨3, v, v2⟩, rfl, fun hb => ?_⟩, ?_⟩
    ·rw [HP.out] at hb ⊢; exact ⟨rfl, HV.out (HLE.out hb).1, HN1.out, fun _ => ⟨HV2.out (HLE.out hb).2, HN2.out⟩, fun e => absurd rfl e⟩
    ·rw [HP.out]; exact HH.out.trans ((((((((((HIA.out).setNew HS.out (Nat.le_refl _) _ _).setNew HS.out (Nat.le_refl _) _ _).setNew HS.out (Nat.le_refl _) _ _).setNew HS.out (Nat.le_refl _) _ _).setNew HS.out (Nat.le_refl _) _ _).setNew HS.out (Nat.le_refl _) _ _).setNew HS.out (Nat.le_refl _) _ _).setNew HS.out (Nat.le_refl _) _ _).setNew HS.out (Nat.le_refl _) _ _)
def KeepS (ts : List TypeId) (w w' : World) : Prop := ∀ (k : Nat) (cs : Array Value) (t : TypeId) (fr : Nat × Nat), t ∈ ts → w.heap[k]? = some (.cells cs t fr) → w'.heap[k]? = some (.cells cs t fr)
theorem KeepS.trans {ts : List TypeId} {a b d : World} (h : KeepS ts a b) (k : KeepS ts b d) : KeepS ts a d := fun i cs t fr ht hi => k i cs t fr ht (h i cs t fr ht hi)
theorem KeepS.below {w w' : World} (h : Below w.heap.size w w') (ts : List TypeId) : KeepS ts w w' := fun k _ _ _ _ hk => (h.block k (lt_of_block hk)).trans hk
theorem KeepS.mono {ts us : List TypeId} {w w' : World} (h : KeepS ts w w') (hu : ∀ t ∈ us, t ∈ ts) : KeepS us w w' := fun k cs t fr ht hk => h k cs t fr (hu t ht) hk
theorem KeepS.grown {ts : List TypeId} {w w' : World} {base : Nat} {e : TypeId} {size : Nat} {v : Value} {n : Nat} {xs : List Value} (hown : w.ownsRow base e size v n xs) (ht : e ∉ ts) (hg : w.grownBy w' v.ownBlock) : KeepS ts w w' := fun k cs t fr htt hk =>
 (hg.block k (lt_of_block hk) (fun e' => pown_ne hown hk (fun e2 => ht (by rw [← e2]; exact htt)) e'.symm)).trans hk
theorem KeepS.set {ts : List TypeId} {w : World} {b o : Nat} {cs : Array Value} {t : TypeId} {fr : Nat × Nat} (hb : w.heap[b]? = some (.cells cs t fr)) (ht : t ∉ ts) (v : Value) : KeepS ts w (w.setCell ⟨b, o, none⟩ v) := fun k cs' t' fr' htt hk => by
 refine (blk_other _ (fun e => ?_)).trans hk; subst e; rw [hb] at hk; cases hk; exact ht htt
theorem KeepS.toN {ts : List TypeId} {w w' : World} (h : KeepS ts w w') (h1 : 246 ∈ ts) (h2 : 70 ∈ ts) : KeepN w w' := fun k cs t fr ht hk => h k cs t fr (by rcases ht with rfl | rfl <;> assumption) hk
theorem PI.keepS {c : Cx} {wa w0 w : World} {q1 q : Wk.St} {nest1 nest : Int} {o1 o : Option Nat} (h : PI c wa w0 q1 nest1 o1) (k : PI c w0 w q nest o) {ts : List TypeId} (ht : 148 ∉ ts) : KeepS ts w0 w := by
 obtain ⟨cs, hb⟩ := h.box; intro i cs' t fr htt hi; refine k.blk hi (fun e => ?_); rw [e, hb] at hi; cases hi; exact ht htt
theorem owns_keepS {ts : List TypeId} {w w' : World} {base : Nat} {e : TypeId} {size : Nat} {v : Value} {n : Nat} {xs : List Value} (h : w.ownsRow base e size v n xs) (k : KeepS ts w w') (he : e ∈ ts) : w'.ownsRow base e size v n xs := by
 rcases h with ⟨h1, h2⟩; refine ⟨h1, ?_⟩; rcases h2 with h2 | ⟨g, cap, cur, e1, e2, hgg, e3⟩
 ·exact Or.inl h2
 ·exact Or.inr ⟨g, cap, cur, e1, e2, k g cur e (0, 0) he hgg, e3⟩
theorem PI.later {c : Cx} {wa w0 w w' : World} {qa q : Wk.St} {na nest : Int} {oa o : Option Nat} (h : PI c w0 w q nest o) (ha : PI c wa w0 qa na oa) (hb : Below w0.heap.size w w') : PI c w0 w' q nest o := by
 obtain ⟨ms, ma, hp, hm⟩ := h.pp; have hbl := ha.blt; have htg : c.tg < w0.heap.size := cell_lt (ha.toks.cells 0 ha.toks.pos).1; refine ⟨⟨ms, ma, ⟨hp.toks.of (hb.block _ htg), (hb.block _ hbl).trans hp.box, hp.ok, hp.ne⟩, hm⟩, ?_, h.few, h.gl.below hb ha.gl.size, ⟨hb.os.trans h.fr.os, hb.tape.trans h.fr.tape, hb.output.trans h.fr.output, Nat.le_trans h.fr.size hb.size, fun i hi hne => (hb.block i hi).trans (h.fr.block i hi hne)⟩, h.low⟩; rcases h.row with ⟨h1, h2⟩; refine ⟨h1, ?_⟩; rcases h2 with h2 | ⟨g, cap, cur, e1, e2, hgg, e3⟩
 ·exact Or.inl h2
 ·refine Or.inr ⟨g, cap, cur, e1, e2, (hb.block g ?_).trans hgg, e3⟩; have := ha.row.lt g (by rw [e1]; rfl); exact this.2
theorem grown_below {w w' : World} {B base : Nat} {e : TypeId} {size : Nat} {v : Value} {n : Nat} {xs : List Value} (hown : w.ownsRow base e size v n xs) (hg : w.grownBy w' v.ownBlock) (hB : B ≤ base) (hs : B ≤ w.heap.size) : Below B w w' :=
 ⟨hg.os, hg.tape, hg.output, hg.size, fun k hk => hg.block k (by omega) (fun e' => by have := (hown.lt k e'.symm).1; omega)⟩
theorem j_isAny {c : Cx} {w0 w : World} {q : Wk.St} {nest : Int} {o : Option Nat} (h : PI c w0 w q nest o) :
  Calls Tryz.prog 231 #[nptr c.b] w fun e w' => e = .returned (.bool (q.isK c.T 28 && !(q.adv.isIn c.T [3, 4]))) ∧ Below w.heap.size w w' := by
 have HI : Hid (PI c w0 w q nest o) := h; have HD : Hid _ := isK_at' h 28 (by decide); cases K28 : q.isK c.T 28 with
 | false =>
  rw [K28] at HD; clear h K28; go_enter Tryz.func231, Tryz.ntmps231; go_wp2_with fail; refine (j_next HI.out).mono ?_; rintro e w1 ⟨rfl, rfl⟩; generalize ((Wk.tokK c.T (ppAt c.T q)).kind : Int) = nk at *
  have d28 : (nk != 28) = true := by rw [bne_iff_ne]; exact beq_eq_false_iff_ne.1 HD.out
  go_wp2_with fail; go_ret; exact ⟨rfl, (Below.refl _ _).drew⟩
 | true =>
  rw [K28] at HD; have hq := Wk.isK_iff.1 K28; have hk1 : q.k + 1 < c.T.length := by
   have h1 : q.adv.k < c.T.length := Wk.ok_adv h.toks.shut (h.ok hq.1) (by omega); have ha : q.adv = ⟨q.k + 1, none⟩ := by unfold Wk.St.adv; rw [hq.1]; rfl
   rw [ha] at h1; exact h1
  obtain ⟨ms, ma, hP, -⟩ := h.pp; have p0 := bc 0 hP.box rfl; have p1 := bc 1 hP.box rfl; rw [ppAt_ok hq.1] at p1; have p2 := (hP.toks.cells (q.k + 1) hk1).1; have hbl := lt_of_block hP.box; have htl := cell_lt p2; have hcp := hP.toks.cap; have HRR : Hid (q.adv.isIn c.T [3, 4] = [3, 4].contains (Wk.tokK c.T (q.k + 1)).kind) := by
   show _ = _; have ha : q.adv = ⟨q.k + 1, none⟩ := by unfold Wk.St.adv; rw [hq.1]; rfl
   rw [ha]; rfl
  rw [HRR.out, Bool.true_and]; generalize (Wk.tokK c.T (q.k + 1)).kind = bk at *
  generalize q.k = at_ at *
  have hka : (0 : Int) ≤ (at_ : Int) + 1 := by omega
  have hkb : (at_ : Int) + 1 < (c.T.length : Int) := by omega
  have hwk : IntKind.i64.wrap ((at_ : Int) + 1) = ((at_ + 1 : Nat) : Int) := by rw [Go.IntWalk.i64_in _ (by omega)]; omega
  have hka' : (0 : Int) ≤ ((at_ + 1 : Nat) : Int) := by omega
  have hkb' : ((at_ + 1 : Nat) : Int) < (c.T.length : Int) := by omega
  have HS : Hid (w.drew.drew.cell? ⟨c.b, 0, none⟩ = some (.slice (some ⟨c.tg, 0, none⟩) c.T.length c.tc) ∧ w.drew.drew.cell? ⟨c.b, 1, none⟩ = some (.int .i64 (at_ : Int)) ∧ w.drew.drew.cell? ⟨c.tg, (at_ + 1) * 3, none⟩ = some (.int .i64 (bk : Int))) := ⟨p0, p1, p2⟩
  have HRB : Hid ([3, 4].contains bk = ((bk : Int) == 3 || (bk : Int) == 4)) := by
   show _ = _; rw [Bool.eq_iff_iff]; simp; omega
  clear h K28 hq hP p0 p1 p2 HRR; go_enter Tryz.func231, Tryz.ntmps231; go_wp2_with fail; refine (j_next HI.out).mono ?_; rintro e w1 ⟨rfl, rfl⟩; generalize ((Wk.tokK c.T (ppAt c.T q)).kind : Int) = nk at *
  have d28 : (nk != 28) = false := by rw [bne_eq_false_iff_eq]; exact beq_iff_eq.1 HD.out
  go_upto_region 3 with fail; refine wp_region_ph (fun w' => w'.cell? ⟨c.b, 0, none⟩ = some (.slice (some ⟨c.tg, 0, none⟩) c.T.length c.tc) ∧ w'.cell? ⟨c.b, 1, none⟩ = some (.int .i64 (at_ : Int)) ∧ w'.cell? ⟨c.tg, (at_ + 1) * 3, none⟩ = some (.int .i64 (bk : Int))) 13 13 rfl (by kernel_rfl) HS.out (fun hHeld => ?_); clear hHeld; refine PhS.t 0 7 HS.out ?_; refine PhS.t 1 8 HS.out ?_; refine PhS.t 2 9 HS.out ?_; refine PhS.t 3 10 HS.out ?_; refine PhS.t 4 11 HS.out ?_; refine PhS.t 5 12 HS.out ?_; refine PhS.t 6 13 HS.out ?_; refine PhS.t 7 14 HS.out ?_; refine PhS.t 8 15 HS.out ?_; refine PhS.t 9 16 HS.out ?_; refine PhS.t 10 17 HS.out ?_; refine PhS.t 11 18 HS.out ?_; refine PhS.t 12 3 HS.out ?_; refine PhS.done (by kernel_rfl) ?_ _; cases h3 : ((bk : Int) == 3) with
  | true =>
   have d3 : ((bk : Int) != 3) = false := by rw [bne_eq_false_iff_eq]; exact beq_iff_eq.1 h3
   have HE : Hid ((![3, 4].contains bk) = false) := by
    show _ = _; rw [HRB.out, h3]; rfl
   clear h3; go_wp2_with fail; go_ret; exact ⟨by rw [HE.out]; rfl, (Below.refl _ _).drew.drew⟩
  | false =>
   have d3 : ((bk : Int) != 3) = true := by rw [bne_iff_ne]; exact beq_eq_false_iff_ne.1 h3
   have HE : Hid ((![3, 4].contains bk) = ((bk : Int) != 4)) := by
    show _ = _; rw [HRB.out, h3]; rfl
   clear h3; go_wp2_with fail; go_ret; exact ⟨by rw [HE.out]; rfl, (Below.refl _ _).drew.drew⟩
def QR.flat (l : List QR) : List Value := (l.map QR.cells).flatten
theorem QR.flat_snoc (l : List QR) (r : QR) : QR.flat (l ++ [r]) = QR.flat l ++ r.cells := by simp [QR.flat]
theorem Tryz.info285 : (Tryz.prog.info? 285).map (fun i => (i.zero, i.size, i.bytes)) = some (some (.agg #[.int .i64 0, .int .i64 0, .int .i64 0, .bool false, .string ⟨#[]⟩, .int .i64 0, .int .i64 0, .bool false, .string ⟨#[]⟩]), 9, 88) := by kernel_rfl
theorem Tryz.und262 : Tryz.prog.underlying 262 = some (.slice 285) := by kernel_rfl
theorem eg232 : ∀ args w, (callFunc 232 args).run Tryz.prog w = .ok (.enter 232 args) w := fun args w => by simp [go_sem]
structure CI (c : Cx) (w0 : World) (pb rb cb : Nat) (no : Bool) (nest : Int) (o : Option Nat) (n : Nat) (w : World) (s : Wk.St × List Wk.PTest) : Prop where
 inn : PI c w0 w s.1 nest o
 top : ∃ qa na oa, PI c w0 w0 qa na oa
 pbx : w.heap[pb]? = some (.cells #[nptr c.b] 209 (0, 0))
 rbx : w.heap[rb]? = some (.cells #[.bool false, .slice none 0 0] 264 (0, 0))
 cbx : ∃ ad cc rs, w.heap[cb]? = some (.cells #[.bool no, .slice ad n cc] 264 (0, 0)) ∧ w.ownsRow w0.heap.size 285 9 (.slice ad n cc) n (QR.flat rs) ∧ rs.length = n ∧ (s.1.bad = none → Pairs QR.ok rs s.2)
 len : n ≤ 4
 new : w0.heap.size ≤ pb ∧ w0.heap.size ≤ rb ∧ w0.heap.size ≤ cb ∧ pb ≠ cb ∧ rb ≠ cb
theorem CI.step {c : Cx} {w0 w w' : World} {pb rb cb n : Nat} {no : Bool} {nest : Int} {o : Option Nat} {s : Wk.St × List Wk.PTest} (h : CI c w0 pb rb cb no nest o n w s) {q' : Wk.St} (hI : PI c w w' q' nest o) (hq : q'.bad = none → s.1.bad = none) : CI c w0 pb rb cb no nest o n w' (q', s.2) := by
 obtain ⟨qa, na, oa, ht⟩ := h.top; have hb := ht.blt; obtain ⟨ad, cc, rs, h1, h2, h3, h4⟩ := h.cbx; have hn := h.new; exact ⟨h.inn.trans hI, h.top, hI.blk h.pbx (by omega), hI.blk h.rbx (by omega), ⟨ad, cc, rs, hI.blk h1 (by omega), owns_keepS h2 (h.inn.keepS (ts := [285]) hI (by decide)) (by decide), h3, fun e => h4 (hq e)⟩, h.len, h.new⟩
def testStep (T : List Wk.Tok) (s : Wk.St × List Wk.PTest) : Wk.St × List Wk.PTest := ((Wk.pTest T s.1).1, s.2 ++ [(Wk.pTest T s.1).2])
theorem pTests_run (T : List Wk.Tok) : ∀ (n : Nat) (s : Wk.St × List Wk.PTest), Wk.pTests T n s.1 s.2 = listRun (fun s => s.1.isK T 30) (testStep T) (fun s => (s.1.adv, s.2)) n s := by
 intro n; induction n with
 | zero => intro s; rfl
 | succ n ih =>
  intro s; rw [Wk.pTests, listRun]; show (if (decide (0 < n) && (testStep T s).1.isK T 30) = true then Wk.pTests T n (testStep T s).1.adv (testStep T s).2 else testStep T s) = _; split
  ·exact ih ((testStep T s).1.adv, (testStep T s).2)
  ·rfl
theorem pTest_none {T : List Wk.Tok} {q : Wk.St} (h : (Wk.pTest T q).1.bad = none) : q.bad = none := by
 refine none_of (fun hs => ?_) h; unfold Wk.pTest; rw [Wk.isK_bad T hs, Wk.isK_bad T hs, Wk.isK_bad T hs]; exact Wk.pValue_bad T hs
theorem j_testStep {c : Cx} (hT : TP c.T) {w0 w : World} {pb rb cb n : Nat} {no : Bool} {nest : Int} {o : Option Nat} {s : Wk.St × List Wk.PTest} (hn : n < 4) (h : CI c w0 pb rb cb no nest o n w s) :
  Calls Tryz.prog 232 #[nptr cb, nptr pb] w fun e w' => e = .returned (.tuple #[]) ∧ CI c w0 pb rb cb no nest o (n + 1) w' (testStep c.T s) := by
 obtain ⟨q, ts⟩ := s; obtain ⟨ad, cc, rs, hcb, hrow, hlen, hok⟩ := h.cbx; obtain ⟨qa, na, oa, hta⟩ := h.top; have hba := hta.blt; have hnw := h.new; have HH : Hid (CI c w0 pb rb cb no nest o n w (q, ts)) := h; have HTA : Hid _ := hta; have HT : Hid _ := hT; have HCB : Hid _ := hcb; have HROW : Hid (w.ownsRow w0.heap.size 285 9 (.slice ad n cc) n (QR.flat rs)) := hrow; have HOK : Hid _ := hok; have HLEN : Hid _ := hlen; have HSZ : Hid (w0.heap.size ≤ w.heap.size) := h.inn.fr.size; have HX : Hid (w.drew.cell? ⟨cb, 1, none⟩ = some (.slice ad n cc) ∧ w.drew.cell? ⟨pb, 0, none⟩ = some (nptr c.b)) := ⟨blk_cell hcb rfl, blk_cell h.pbx rfl⟩
 clear h hT hcb hrow hok hta hlen; go_enter Tryz.func232, Tryz.ntmps232; go_upto_region 0 with fail; refine wp_region_ph (fun w' => w'.cell? ⟨cb, 1, none⟩ = some (.slice ad n cc) ∧ w'.cell? ⟨pb, 0, none⟩ = some (nptr c.b)) 6 8 rfl (by kernel_rfl) HX.out (fun hHeld => ?_); clear hHeld; refine PhS.t 0 2 HX.out ?_; refine PhS.t 1 3 HX.out ?_; refine PhS.t 2 4 HX.out ?_; refine PhS.on 3 (fun K hK => ?_); go_simp; refine (j_test HT.out HH.out.inn.self.drew).mono ?_; rintro e w5 ⟨⟨r, rfl, hr⟩, hI5⟩; have HC5 : Hid (CI c w0 pb rb cb no nest o n w5 ((Wk.pTest c.T q).1, ts)) := HH.out.step hI5 pTest_none; have HR : Hid _ := hr; have HCB5 : Hid _ := hI5.blk HCB.out (by omega); have HROW5 : Hid (w5.ownsRow w0.heap.size 285 9 (.slice ad n cc) n (QR.flat rs)) := owns_keepS HROW.out (HH.out.inn.keepS (ts := [285]) hI5 (by decide)) (by decide); have hs5 : w0.heap.size ≤ w5.heap.size := HC5.out.inn.fr.size; refine hK.out _ _ (fun _ => ⟨blk_cell HCB5.out rfl, blk_cell HC5.out.pbx rfl⟩) ?_; clear hK K hI5 hr; try simp only [Act.put, sA, sZ, sS]
 refine PhS.on 4 (fun K hK => ?_); go_simp; refine hK.out _ _ (fun _ => ⟨blk_cell (blk_alloc _ HCB5.out) rfl, blk_cell (blk_alloc _ HC5.out.pbx) rfl⟩) ?_; clear hK K; try simp only [Act.put, sA, sZ, sS]
 obtain ⟨i0, hi0, hz0, hz1, hz2⟩ := info_parts Tryz.info285; refine PhS.on 5 (fun K hK => ?_); refine step_append_lies _ (by rfl) (.tmp 3) (.tmp 6) 262 (by rfl) w0.heap.size 285 i0 _ 9 88 Tryz.und262 hi0 hz0 hz1 hz2 (by rfl) (by omega) (.slice ad n cc) n (QR.flat rs) (by simp [Act.eval]) (World.ownsRow.alloc HROW5.out _) ⟨w5.heap.size, 0, none⟩ 1 1 (QR.cells r) (by simp [Act.eval]) (by rfl) (World.news_of_block (cs := (QR.cells r).toArray) (heap_alloc_new _ _)) (by intro u hu; simp [QR.cells] at hu; rcases hu with rfl | rfl | rfl | rfl | rfl | rfl | rfl | rfl | rfl <;> rfl) (by omega) (by unfold maxLen; omega) (by omega) (by rw [sz_alloc]; omega) _ rfl ?_; intro g cap w6 hown6 hgrow6 hat6 hlt6; have u1 := blk_alloc (.cells #[.int .i64 r.op, .int .i64 r.a.kd, .int .i64 r.a.no, .bool r.a.tr, .string r.a.tx, .int .i64 r.b.kd, .int .i64 r.b.no, .bool r.b.tr, .string r.b.tx] 285) HCB5.out; have u2 := blk_alloc (.cells #[.int .i64 r.op, .int .i64 r.a.kd, .int .i64 r.a.no, .bool r.a.tr, .string r.a.tx, .int .i64 r.b.kd, .int .i64 r.b.no, .bool r.b.tr, .string r.b.tx] 285) HC5.out.pbx; have u3 := blk_alloc (.cells #[.int .i64 r.op, .int .i64 r.a.kd, .int .i64 r.a.no, .bool r.a.tr, .string r.a.tx, .int .i64 r.b.kd, .int .i64 r.b.no, .bool r.b.tr, .string r.b.tx] 285) HC5.out.rbx; have hr5 := World.ownsRow.alloc HROW5.out (.cells #[.int .i64 r.op, .int .i64 r.a.kd, .int .i64 r.a.no, .bool r.a.tr, .string r.a.tx, .int .i64 r.b.kd, .int .i64 r.b.no, .bool r.b.tr, .string r.b.tx] 285); have v1 := KeepS.grown hr5 (ts := [264, 209]) (by decide) hgrow6 _ _ _ _ (by decide) u1; have v2 := KeepS.grown hr5 (ts := [264, 209]) (by decide) hgrow6 _ _ _ _ (by decide) u2; have v3 := KeepS.grown hr5 (ts := [264, 209]) (by decide) hgrow6 _ _ _ _ (by decide) u3; have HI6 : Hid (PI c w0 w6 (Wk.pTest c.T q).1 nest o) := (HC5.out.inn.alloc _).later HTA.out (grown_below hr5 hgrow6 (Nat.le_refl _) (by rw [sz_alloc]; omega)); have HV1 : Hid _ := v1; have HV2 : Hid _ := v2; have HV3 : Hid _ := v3; have HO6 : Hid (w6.ownsRow w0.heap.size 285 9 (.slice (some ⟨g, 0, none⟩) (n + 1) cap) (n + 1) (QR.flat rs ++ QR.cells r)) := hown6; have k1 := bc 1 v1 rfl; have kf := blk_free v1; refine hK.out _ _ (fun _ => ⟨blk_cell v1 rfl, blk_cell v2 rfl⟩) ?_; clear hK K hown6 hgrow6 hat6 hlt6 hz0 hz1 hz2 hi0 u1 u2 u3 v1 v2 v3 hr5; try simp only [Act.put, sA, sZ, sS]
 refine PhS.on 6 (fun K hK => ?_); go_simp; refine hK.out _ _ (fun h => absurd h (by decide)) ?_; clear hK K; try simp only [Act.put, sA, sZ, sS]
 refine PhS.on 7 (fun K hK => ?_); go_simp; refine hK.out _ _ (fun h => absurd h (by decide)) ?_; clear hK K; refine PhS.done (by kernel_rfl) ?_ _; go_wp2_with fail; go_end0
 refine ⟨rfl, ⟨HI6.out.setNew HTA.out hnw.2.2.1 _ _, ⟨_, _, _, HTA.out⟩, (blk_other _ hnw.2.2.2.1).trans HV2.out, (blk_other _ hnw.2.2.2.2).trans HV3.out, ⟨some ⟨g, 0, none⟩, cap, rs ++ [r], ?_, ?_, ?_, fun e => ?_⟩, by omega, hnw⟩⟩
 ·rw [blk_set _ HV1.out]; simp
 ·rw [QR.flat_snoc]; exact owns_other HO6.out HV1.out (by decide) _
 ·simp [HLEN.out]
 ·exact (HOK.out (pTest_none e)).snoc (HR.out e)
end Go.Proofs.YtbkaghlklkdmkaaGreatDoor
