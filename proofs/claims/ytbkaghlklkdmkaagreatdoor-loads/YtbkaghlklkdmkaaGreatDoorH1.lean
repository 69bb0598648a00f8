import Derived.Test.YtbkaghlklkdmkaaGreatDoorD3
import Derived.Test.YtbkaghlklkdmkaaGreatDoorF7
namespace Go.Proofs.YtbkaghlklkdmkaaGreatDoor
open Go.RowKit
attribute [local go_sem ↓] Go.wp_at_zero Go.wp_at_succ
def ppAt (T : List Wk.Tok) (q : Wk.St) : Nat := if q.bad.isSome then T.length - 1 else q.k
def ppBlock (T : List Wk.Tok) (q : Wk.St) (nest : Int) (tk iv : Value) (ms : Bool) (ma : Int) : Obj :=
 .cells #[tk, .int .i64 (ppAt T q : Int), .int .i64 nest, iv, .bool q.bad.isSome, .int .i64 ((q.bad.getD 0 : Nat) : Int), .bool ms, .int .i64 ma] 148 (0, 0)
structure PTk (T : List Wk.Tok) (w : World) (tg tc : Nat) : Prop where
 shut : Wk.Shut T
 pos : 0 < T.length
 cap : T.length ≤ tc ∧ T.length ≤ 1002
 cells : ∀ k, k < T.length → w.cell? ⟨tg, k * 3, none⟩ = some (.int .i64 ((Wk.tokK T k).kind : Int)) ∧ w.cell? ⟨tg, k * 3 + 1, none⟩ = some (.int .i64 ((Wk.tokK T k).place : Int)) ∧ w.cell? ⟨tg, k * 3 + 2, none⟩ = some (.string (Wk.tokK T k).text)
structure PP (T : List Wk.Tok) (w : World) (b tg tc : Nat) (q : Wk.St) (nest : Int) (iv : Value) (ms : Bool) (ma : Int) : Prop where
 toks : PTk T w tg tc
 box : w.heap[b]? = some (ppBlock T q nest (.slice (some ⟨tg, 0, none⟩) T.length tc) iv ms ma)
 ok : q.bad = none → q.k < T.length
 ne : tg ≠ b
theorem PP.lt {T : List Wk.Tok} {w : World} {b tg tc : Nat} {q : Wk.St} {nest : Int} {iv : Value} {ms : Bool} {ma : Int} (h : PP T w b tg tc q nest iv ms ma) : ppAt T q < T.length := by
 have := h.toks.pos; unfold ppAt; split
 ·omega
 ·rename_i hb; exact h.ok (by cases hx : q.bad with | none => rfl | some p => rw [hx] at hb; exact absurd rfl hb)
set_option maxRecDepth 100000 in
set_option maxHeartbeats 2000000 in
theorem p_next {T : List Wk.Tok} {w : World} {b tg tc : Nat} {q : Wk.St} {nest : Int} {iv : Value} {ms : Bool} {ma : Int} (h : PP T w b tg tc q nest iv ms ma) :
  Calls Tryz.prog 108 #[.pointer (some ⟨b, 0, none⟩)] w fun e w' => e = .returned (.int .i64 ((Wk.tokK T (ppAt T q)).kind : Int)) ∧ w' = w.drew := by
 have hlt := h.lt; have c0 := blk_cell (o := 0) h.box rfl; have c1 := blk_cell (o := 1) h.box rfl; have t0 := (h.toks.cells _ hlt).1; have hc := h.toks.cap; have hS : w.drew.cell? ⟨b, 0, none⟩ = some (.slice (some ⟨tg, 0, none⟩) T.length tc) ∧ w.drew.cell? ⟨b, 1, none⟩ = some (.int .i64 (ppAt T q : Int)) ∧ w.drew.cell? ⟨tg, ppAt T q * 3, none⟩ = some (.int .i64 ((Wk.tokK T (ppAt T q)).kind : Int)) := ⟨c0, c1, t0⟩
 have HS : Hid _ := hS; have h0 : (0 : Int) ≤ (ppAt T q : Int) := by omega
 have h1 : (ppAt T q : Int) < (T.length : Int) := by omega
 clear h c0 c1 t0 hS; generalize hk : (Wk.tokK T (ppAt T q)).kind = kd at *
 clear hk; generalize ppAt T q = at_ at *
 go_enter Tryz.func108, Tryz.ntmps108; go_upto_region 1 with fail; refine wp_region_ph (fun w' => w'.cell? ⟨b, 0, none⟩ = some (.slice (some ⟨tg, 0, none⟩) T.length tc) ∧ w'.cell? ⟨b, 1, none⟩ = some (.int .i64 (at_ : Int)) ∧ w'.cell? ⟨tg, at_ * 3, none⟩ = some (.int .i64 (kd : Int))) 12 12 rfl (by kernel_rfl) HS.out (fun hHeld => ?_); clear hHeld; refine PhS.t 0 3 HS.out ?_; refine PhS.t 1 4 HS.out ?_; refine PhS.t 2 5 HS.out ?_; refine PhS.t 3 6 HS.out ?_; refine PhS.t 4 7 HS.out ?_; refine PhS.t 5 8 HS.out ?_; refine PhS.t 6 9 HS.out ?_; refine PhS.t 7 10 HS.out ?_; refine PhS.t 8 11 HS.out ?_; refine PhS.t 9 12 HS.out ?_; refine PhS.t 10 13 HS.out ?_; refine PhS.t 11 2 HS.out ?_; refine PhS.done (by kernel_rfl) ?_ _; go_wp2_with fail; go_ret; exact ⟨rfl, rfl⟩
theorem PTk.of {T : List Wk.Tok} {w w' : World} {tg tc : Nat} (h : PTk T w tg tc) (hb : w'.heap[tg]? = w.heap[tg]?) : PTk T w' tg tc := by
 have hc : ∀ o, w'.cell? ⟨tg, o, none⟩ = w.cell? ⟨tg, o, none⟩ := fun o => World.cell?_of_block (w := w) hb
 exact ⟨h.shut, h.pos, h.cap, fun k hk => by rw [hc, hc, hc]; exact h.cells k hk⟩
theorem ppAt_ok {T : List Wk.Tok} {q : Wk.St} (h : q.bad = none) : ppAt T q = q.k := by unfold ppAt; rw [h]; rfl
theorem isK_at {T : List Wk.Tok} (hT : Wk.Shut T) {q : Wk.St} (kd : Nat) (h2 : 2 ≤ kd) : q.isK T kd = ((Wk.tokK T (ppAt T q)).kind == kd) := by
 cases hb : q.bad with
 | none => rw [ppAt_ok hb]; unfold Wk.St.isK; rw [hb]; rfl
 | some p =>
  have e : ppAt T q = T.length - 1 := by unfold ppAt; rw [hb]; rfl
  have := hT.last (T.length - 1) (by have := hT.pos; omega); rw [e]; have h1 : ((Wk.tokK T (T.length - 1)).kind == kd) = false := by rw [beq_eq_false_iff_ne]; omega
  rw [h1]; unfold Wk.St.isK; rw [hb]; rfl
set_option maxRecDepth 100000 in
set_option maxHeartbeats 2000000 in
theorem p_has {T : List Wk.Tok} {w : World} {b tg tc : Nat} {q : Wk.St} {nest : Int} {iv : Value} {ms : Bool} {ma : Int} (h : PP T w b tg tc q nest iv ms ma) (kd : Nat) (h2 : 2 ≤ kd) :
  Calls Tryz.prog 138 #[.pointer (some ⟨b, 0, none⟩), .int .i64 kd] w fun e w' => e = .returned (.bool (q.isK T kd)) ∧ PP T w' b tg tc (if q.isK T kd then q.adv else q) nest iv ms ma ∧ Fr (fun k => k = b) w w' := by
 have HH : Hid _ := h; have HIK : Hid _ := isK_at h.toks.shut (q := q) kd h2; have c1 := blk_cell (o := 1) h.box rfl; have cf := blk_free h.box; have hlt := h.lt; have hcp := h.toks.cap.2; clear h; cases hK : q.isK T kd with
 | false =>
  have hne : ((Wk.tokK T (ppAt T q)).kind == kd) = false := by rw [← HIK.out]; exact hK
  have d1 : (((Wk.tokK T (ppAt T q)).kind : Int) != (kd : Int)) = true := by
   rw [beq_eq_false_iff_ne] at hne; rw [bne_iff_ne]; omega
  have HE : Hid (PP T w.drew b tg tc q nest iv ms ma) := ⟨HH.out.toks.of rfl, HH.out.box, HH.out.ok, HH.out.ne⟩
  clear hne hK; go_enter Tryz.func138, Tryz.ntmps138; go_wp2_with fail; refine (p_next HH.out).mono ?_; rintro e w1 ⟨rfl, rfl⟩; generalize (Wk.tokK T (ppAt T q)).kind = k1 at *
  go_wp2_with fail; go_ret; exact ⟨rfl, HE.out, ⟨rfl, rfl, rfl, Nat.le_refl _, fun _ _ _ => rfl⟩⟩
 | true =>
  have hk := Wk.isK_iff.1 hK; have he : (Wk.tokK T (ppAt T q)).kind = kd := by rw [ppAt_ok hk.1]; exact hk.2
  have HE : Hid (PP T (w.drew.setCell ⟨b, 1, none⟩ (.int .i64 ((ppAt T q : Int) + 1))) b tg tc q.adv nest iv ms ma) := by
   have hb : w.drew.heap[b]? = some (ppBlock T q nest (.slice (some ⟨tg, 0, none⟩) T.length tc) iv ms ma) := HH.out.box; have ha : q.adv = ⟨q.k + 1, none⟩ := by unfold Wk.St.adv; rw [hk.1]; rfl
   refine ⟨HH.out.toks.of (blk_other _ HH.out.ne), ?_, fun _ => Wk.ok_adv HH.out.toks.shut (HH.out.ok hk.1) (by omega), HH.out.ne⟩; unfold ppBlock at hb; rw [blk_set _ hb, ppAt_ok hk.1, ha]; unfold ppBlock; rw [hk.1]; simp [ppAt]
  clear hk hK; go_enter Tryz.func138, Tryz.ntmps138; go_wp2_with fail; refine (p_next HH.out).mono ?_; rintro e w1 ⟨rfl, rfl⟩; rw [he]; generalize ppAt T q = at_ at *
  have c1 : w.drew.cell? ⟨b, 1, none⟩ = some (.int .i64 (at_ : Int)) := c1; have cf : ∀ o, w.drew.frozen? ⟨b, o, none⟩ = false := cf; go_wp2_with fail; go_ret; exact ⟨rfl, HE.out, ⟨rfl, rfl, rfl, Nat.le_of_eq (by simp [World.setCell, World.drew]), fun k _ hk => blk_other (w := w.drew) _ hk⟩⟩
set_option maxRecDepth 100000 in
set_option maxHeartbeats 2000000 in
theorem p_fail {T : List Wk.Tok} {w : World} {b tg tc : Nat} {q : Wk.St} {nest : Int} {iv : Value} {ms : Bool} {ma : Int} (h : PP T w b tg tc q nest iv ms ma) :
  Calls Tryz.prog 109 #[.pointer (some ⟨b, 0, none⟩)] w fun e w' => e = .returned (.tuple #[]) ∧ PP T w' b tg tc (q.fail T) nest iv ms ma ∧ Fr (fun k => k = b) w w' := by
 have HH : Hid _ := h; have c4 := blk_cell (o := 4) h.box rfl; cases hb : q.bad with
 | some p =>
  have hf : q.fail T = q := Wk.fail_bad T (by rw [hb]; rfl); rw [hb] at c4; rw [hf]; clear hf hb h; go_enter Tryz.func109, Tryz.ntmps109; go_wp2_with fail; refine bodyPost_ret (v := .tuple #[]) (by simp [results, Tryz.results109]) rfl ⟨rfl, HH.out, Fr.refl _ _⟩
 | none =>
  rw [hb] at c4; have hlt := h.lt; have hq : ppAt T q = q.k := ppAt_ok hb; have c0 := blk_cell (o := 0) h.box rfl; have c1 := blk_cell (o := 1) h.box rfl; have c5 := blk_cell (o := 5) h.box rfl; have cf := blk_free h.box; have t1 := (h.toks.cells _ hlt).2.1; have hc := h.toks.cap; have h0 : (0 : Int) ≤ (ppAt T q : Int) := by omega
  have h1 : (ppAt T q : Int) < (T.length : Int) := by omega
  have hp := h.toks.pos; have HPL : Hid (q.fail T = ⟨q.k, some (Wk.tokK T (ppAt T q)).place⟩) := by
   show _ = _; unfold Wk.St.fail; rw [hb, hq]; rfl
  have HB : Hid (w.heap[b]? = some (ppBlock T q nest (.slice (some ⟨tg, 0, none⟩) T.length tc) iv ms ma)) := h.box; have HBN : Hid _ := hb; have HQ : Hid _ := hq; clear h hb hq; generalize hpl : (Wk.tokK T (ppAt T q)).place = pl at *
  clear hpl; generalize ppAt T q = at_ at *
  have hS : w.drew.cell? ⟨b, 0, none⟩ = some (.slice (some ⟨tg, 0, none⟩) T.length tc) ∧ w.drew.cell? ⟨b, 1, none⟩ = some (.int .i64 (at_ : Int)) ∧ w.drew.cell? ⟨tg, at_ * 3 + 1, none⟩ = some (.int .i64 (pl : Int)) := ⟨c0, c1, t1⟩
  have HS : Hid _ := hS; clear hS; have HSS : Hid (∀ W : World, (∀ k, k ≠ b → W.heap[k]? = w.heap[k]?) → W.cell? ⟨b, 0, none⟩ = w.cell? ⟨b, 0, none⟩ → W.cell? ⟨b, 1, none⟩ = w.cell? ⟨b, 1, none⟩ → W.cell? ⟨b, 0, none⟩ = some (.slice (some ⟨tg, 0, none⟩) T.length tc) ∧ W.cell? ⟨b, 1, none⟩ = some (.int .i64 (at_ : Int)) ∧ W.cell? ⟨tg, at_ * 3 + 1, none⟩ = some (.int .i64 (pl : Int))) := fun W h3 h4 h5 => ⟨h4.trans c0, h5.trans c1, (World.cell?_of_block (w := w) (h3 tg HH.out.ne)).trans t1⟩
  have b1 := blk_set (o := 4) (.bool true) (show w.heap[b]? = some (.cells #[.slice (some ⟨tg, 0, none⟩) T.length tc, .int .i64 (ppAt T q : Int), .int .i64 nest, iv, .bool q.bad.isSome, .int .i64 ((q.bad.getD 0 : Nat) : Int), .bool ms, .int .i64 ma] 148 (0, 0)) from HB.out); have b2 := blk_set (o := 5) (.int .i64 (pl : Int)) b1; have HS15 : Hid ((w.setCell ⟨b, 4, none⟩ (.bool true)).drew.cell? ⟨b, 0, none⟩ = some (.slice (some ⟨tg, 0, none⟩) T.length tc) ∧ (w.setCell ⟨b, 4, none⟩ (.bool true)).drew.cell? ⟨b, 1, none⟩ = some (.int .i64 (at_ : Int)) ∧ (w.setCell ⟨b, 4, none⟩ (.bool true)).drew.cell? ⟨tg, at_ * 3 + 1, none⟩ = some (.int .i64 (pl : Int))) := HSS.out (w.setCell ⟨b, 4, none⟩ (.bool true)) (fun k hk => blk_other _ hk) ((blk_cell b1 rfl).trans (blk_cell HB.out rfl).symm) ((blk_cell b1 rfl).trans (blk_cell HB.out rfl).symm); have HS18 : Hid (((w.setCell ⟨b, 4, none⟩ (.bool true)).setCell ⟨b, 5, none⟩ (.int .i64 (pl : Int))).drew.cell? ⟨b, 0, none⟩ = some (.slice (some ⟨tg, 0, none⟩) T.length tc) ∧ ((w.setCell ⟨b, 4, none⟩ (.bool true)).setCell ⟨b, 5, none⟩ (.int .i64 (pl : Int))).drew.cell? ⟨b, 1, none⟩ = some (.int .i64 (at_ : Int)) ∧ ((w.setCell ⟨b, 4, none⟩ (.bool true)).setCell ⟨b, 5, none⟩ (.int .i64 (pl : Int))).drew.cell? ⟨tg, at_ * 3 + 1, none⟩ = some (.int .i64 (pl : Int))) := HSS.out ((w.setCell ⟨b, 4, none⟩ (.bool true)).setCell ⟨b, 5, none⟩ (.int .i64 (pl : Int))) (fun k hk => (blk_other _ hk).trans (blk_other _ hk)) ((blk_cell b2 rfl).trans (blk_cell HB.out rfl).symm) ((blk_cell b2 rfl).trans (blk_cell HB.out rfl).symm); have HB2 : Hid _ := b2; clear b1 b2 HSS; go_enter Tryz.func109, Tryz.ntmps109; go_upto_region 1 with fail; refine wp_region_ph (fun w' => w'.cell? ⟨b, 0, none⟩ = some (.slice (some ⟨tg, 0, none⟩) T.length tc) ∧ w'.cell? ⟨b, 1, none⟩ = some (.int .i64 (at_ : Int)) ∧ w'.cell? ⟨tg, at_ * 3 + 1, none⟩ = some (.int .i64 (pl : Int))) 19 19 rfl (by kernel_rfl) HS.out (fun hHeld => ?_); clear hHeld; refine PhS.t 0 6 HS.out ?_; refine PhS.t 1 7 HS.out ?_; refine PhS.t 2 8 HS.out ?_; refine PhS.t 3 9 HS.out ?_; refine PhS.t 4 10 HS.out ?_; refine PhS.t 5 11 HS.out ?_; refine PhS.t 6 12 HS.out ?_; refine PhS.t 7 13 HS.out ?_; refine PhS.t 8 14 HS.out ?_; refine PhS.t 9 15 HS.out ?_; refine PhS.t 10 16 HS.out ?_; refine PhS.t 11 17 HS.out ?_; refine PhS.t 12 18 HS.out ?_; refine PhS.t 13 19 HS.out ?_; refine PhS.t 14 20 HS.out ?_; refine PhS.on 15 (fun K hK => ?_); go_simp; refine hK.out _ _ (fun _ => HS15.out) ?_; clear hK K; refine PhS.t 16 21 HS15.out ?_; refine PhS.t 17 22 HS15.out ?_; refine PhS.on 18 (fun K hK => ?_); go_simp; refine hK.out _ _ (fun _ => HS18.out) ?_; clear hK K; refine PhS.done (by kernel_rfl) ?_ _; have HB3 : Hid (((w.setCell ⟨b, 4, none⟩ (.bool true)).setCell ⟨b, 5, none⟩ (.int .i64 (pl : Int))).drew.heap[b]? = _) := HB2.out; have e0 := HS18.out.1; have e1 : ((w.setCell ⟨b, 4, none⟩ (.bool true)).setCell ⟨b, 5, none⟩ (.int .i64 (pl : Int))).drew.cell? ⟨b, 1, none⟩ = some (.int .i64 (at_ : Int)) := HS18.out.2.1; have ef : ∀ o, ((w.setCell ⟨b, 4, none⟩ (.bool true)).setCell ⟨b, 5, none⟩ (.int .i64 (pl : Int))).drew.frozen? ⟨b, o, none⟩ = false := blk_free HB3.out; have HW : Hid (∀ k, k ≠ b → ((w.setCell ⟨b, 4, none⟩ (.bool true)).setCell ⟨b, 5, none⟩ (.int .i64 (pl : Int))).drew.heap[k]? = w.heap[k]?) := fun k hk => (blk_other (w := w.setCell ⟨b, 4, none⟩ (.bool true)) _ hk).trans (blk_other _ hk)
  have HZ : Hid (w.heap.size ≤ ((w.setCell ⟨b, 4, none⟩ (.bool true)).setCell ⟨b, 5, none⟩ (.int .i64 (pl : Int))).drew.heap.size) := Nat.le_of_eq (by simp [World.setCell, World.drew]); have HO3 : Hid (((w.setCell ⟨b, 4, none⟩ (.bool true)).setCell ⟨b, 5, none⟩ (.int .i64 (pl : Int))).drew.os = w.os ∧ ((w.setCell ⟨b, 4, none⟩ (.bool true)).setCell ⟨b, 5, none⟩ (.int .i64 (pl : Int))).drew.tape = w.tape ∧ ((w.setCell ⟨b, 4, none⟩ (.bool true)).setCell ⟨b, 5, none⟩ (.int .i64 (pl : Int))).drew.output = w.output) := ⟨rfl, rfl, rfl⟩
  clear HS HS15 HS18 HB2; generalize ((w.setCell ⟨b, 4, none⟩ (.bool true)).setCell ⟨b, 5, none⟩ (.int .i64 (pl : Int))).drew = W at *
  go_wp2_with fail; go_end0
  rw [HPL.out]; refine ⟨rfl, ⟨HH.out.toks.of ((blk_other _ HH.out.ne).trans (HW.out tg HH.out.ne)), ?_, (fun e => by cases e), HH.out.ne⟩, ⟨HO3.out.1, HO3.out.2.1, HO3.out.2.2, ?_, fun k _ hk => (blk_other _ hk).trans (HW.out k hk)⟩⟩
  ·rw [blk_set _ HB3.out]; unfold ppBlock ppAt; simp; omega
  ·have := HZ.out; simp [World.setCell]; omega
end Go.Proofs.YtbkaghlklkdmkaaGreatDoor
namespace Go.Proofs.YtbkaghlklkdmkaaGreatDoor
open Go.RowKit
attribute [local go_sem ↓] Go.wp_at_zero Go.wp_at_succ
def wantEnd (T : List Wk.Tok) (q : Wk.St) (kd : Nat) (e : Ending) : Prop := e = .returned (if q.isK T kd then .agg #[.int .i64 ((Wk.tokK T q.k).kind : Int), .int .i64 ((Wk.tokK T q.k).place : Int), .string (Wk.tokK T q.k).text] else .agg #[.int .i64 0, .int .i64 0, .string ⟨#[]⟩])
def ptok0 : Value := .agg #[.int .i64 0, .int .i64 0, .string ⟨#[]⟩]
theorem wrap_plain {p : Nat} (h : p ≤ 2000) : IntKind.i64.wrap (p : Int) = (p : Int) := by
 rw [Go.IntWalk.i64_in _ (by omega)]
theorem PP.below {T : List Wk.Tok} {w w' : World} {b tg tc : Nat} {q : Wk.St} {nest : Int} {iv : Value} {ms : Bool} {ma : Int} (h : PP T w b tg tc q nest iv ms ma) (hb : Below w.heap.size w w') : PP T w' b tg tc q nest iv ms ma :=
 ⟨h.toks.of (hb.block _ (cell_lt (h.toks.cells 0 h.toks.pos).1)), (hb.block _ (lt_of_block h.box)).trans h.box, h.ok, h.ne⟩
theorem PP.set3 {T : List Wk.Tok} {w : World} {b tg tc : Nat} {q : Wk.St} {nest : Int} {iv : Value} {ms : Bool} {ma : Int} (h : PP T w b tg tc q nest iv ms ma) {k : Nat} (h1 : b ≠ k) (h2 : tg ≠ k) (v0 v1 v2 : Value) : PP T (((w.setCell ⟨k, 0, none⟩ v0).setCell ⟨k, 1, none⟩ v1).setCell ⟨k, 2, none⟩ v2) b tg tc q nest iv ms ma :=
 ⟨h.toks.of (by rw [blk_other _ h2, blk_other _ h2, blk_other _ h2]), by rw [blk_other _ h1, blk_other _ h1, blk_other _ h1]; exact h.box, h.ok, h.ne⟩
theorem Fr.want3 {b n : Nat} {w w1 w2 : World} (h : Fr (fun k => k = b) w1 w2) (hb : Below w.heap.size w w1) (hn : w.heap.size ≤ n) (v0 v1 v2 : Value) : Fr (fun k => k = b) w (((w2.setCell ⟨n, 0, none⟩ v0).setCell ⟨n, 1, none⟩ v1).setCell ⟨n, 2, none⟩ v2) := by
 refine ⟨h.os.trans hb.os, h.tape.trans hb.tape, h.output.trans hb.output, ?_, fun k hk hm => ?_⟩
 ·have := h.size; have := hb.size; simp [World.setCell]; omega
 ·rw [blk_other _ (by omega), blk_other _ (by omega), blk_other _ (by omega)]; exact (h.block k (by have := hb.size; omega) hm).trans (hb.block k hk)
set_option maxRecDepth 100000 in
set_option maxHeartbeats 2000000 in
theorem p_want {T : List Wk.Tok} {w : World} {b tg tc : Nat} {q : Wk.St} {nest : Int} {iv : Value} {ms : Bool} {ma : Int} (h : PP T w b tg tc q nest iv ms ma) (kd : Nat) (h2 : 2 ≤ kd) :
  Calls Tryz.prog 140 #[.pointer (some ⟨b, 0, none⟩), .int .i64 kd] w fun e w' => wantEnd T q kd e ∧ PP T w' b tg tc (q.want T kd) nest iv ms ma ∧ Fr (fun k => k = b) w w' := by
 have HH : Hid _ := h; have hbl := lt_of_block h.box; have htl := cell_lt (h.toks.cells 0 h.toks.pos).1; clear h; have HBA : Hid (Below w.heap.size w (w.alloc (.cells #[.int .i64 0, .int .i64 0, .string ⟨#[]⟩] 134))) := (Below.refl _ _).alloc (Nat.le_refl _) _; have hA : PP T (w.alloc (.cells #[.int .i64 0, .int .i64 0, .string ⟨#[]⟩] 134)) b tg tc q nest iv ms ma := HH.out.below ((Below.refl _ _).alloc (Nat.le_refl _) _); have HA : Hid _ := hA; clear hA; go_enter Tryz.func140, Tryz.ntmps140; go_wp2_with fail; refine (p_has HA.out kd h2).mono ?_; rintro e w2 ⟨rfl, hP2, hF2⟩; have HP2 : Hid _ := hP2; have HF2 : Hid _ := hF2; have u2 : w2.heap[w.heap.size]? = some (.cells #[.int .i64 0, .int .i64 0, .string ⟨#[]⟩] 134 (0, 0)) := (hF2.block _ (by rw [sz_alloc]; omega) (by omega)).trans (heap_alloc_new _ _); have U2 : Hid _ := u2; clear hP2 hF2 u2; cases hK : q.isK T kd with
 | false =>
  rw [hK] at HP2; have HW : Hid (q.want T kd = q.fail T) := by
   show _ = _; unfold Wk.St.want; rw [hK]; rfl
  have HIK : Hid (q.isK T kd = false) := hK; clear hK; go_wp2_with fail; have hP2 : PP T w2 b tg tc q nest iv ms ma := HP2.out; refine (p_fail hP2).mono ?_; rintro e w3 ⟨rfl, hP3, hF3⟩; have u3 : w3.heap[w.heap.size]? = some (.cells #[.int .i64 0, .int .i64 0, .string ⟨#[]⟩] 134 (0, 0)) := (hF3.block _ (lt_of_block U2.out) (by omega)).trans U2.out; have c0 := blk_cell (o := 0) u3 rfl; have c1 := blk_cell (o := 1) u3 rfl; have c2 := blk_cell (o := 2) u3 rfl; have cf := blk_free u3; have HP3 : Hid _ := hP3; have HF3 : Hid _ := hF3; clear hP3 hF3 u3 hP2; go_wp2_with fail; refine bodyPost_ret (v := ptok0) (by simp [results, Tryz.results140, go_sem, ptok0, c0, c1, c2]) rfl ⟨?_, ?_, ?_⟩
  ·show _ = _; rw [HIK.out]; rfl
  ·rw [HW.out]; exact HP3.out.set3 (by omega) (by have : tg < w.heap.size := htl; omega) _ _ _
  ·exact (HF2.out.trans HF3.out).want3 HBA.out (Nat.le_refl _) _ _ _
 | true =>
  rw [hK] at HP2; have hk := Wk.isK_iff.1 hK; have ha : q.adv = ⟨q.k + 1, none⟩ := by unfold Wk.St.adv; rw [hk.1]; rfl
  have HW : Hid (q.want T kd = q.adv) := by
   show _ = _; unfold Wk.St.want; rw [hK]; rfl
  have HIK : Hid (q.isK T kd = true) := hK; have HKK : Hid ((Wk.tokK T q.k).kind = kd) := hk.2; have hP2 : PP T w2 b tg tc q.adv nest iv ms ma := HP2.out; have hkl := HH.out.ok hk.1; have d0 := blk_cell (o := 0) hP2.box rfl; have d1 : w2.cell? ⟨b, 1, none⟩ = some (.int .i64 ((q.k : Int) + 1)) := by
   have := blk_cell (o := 1) hP2.box rfl; rw [this, ha]; simp [ppAt]
  obtain ⟨t0, t1, t2⟩ := hP2.toks.cells q.k hkl; rw [hk.2] at t0; have hcp := hP2.toks.cap; have c0 := blk_cell (o := 0) U2.out rfl; have c1 := blk_cell (o := 1) U2.out rfl; have c2 := blk_cell (o := 2) U2.out rfl; have cf := blk_free U2.out; have HP : Hid (PP T w2 b tg tc q.adv nest iv ms ma) := hP2; have HE : Hid (wantEnd T q kd (.returned (.agg #[.int .i64 (kd : Int), .int .i64 ((Wk.tokK T q.k).place : Int), .string (Wk.tokK T q.k).text]))) := by
   show _ = _; rw [hK, if_pos rfl, hk.2]
  clear hK hk ha hP2 HP2; generalize (Wk.tokK T q.k).place = pl at *
  generalize (Wk.tokK T q.k).text = tx at *
  generalize q.k = k at *
  have hS : w2.drew.cell? ⟨b, 0, none⟩ = some (.slice (some ⟨tg, 0, none⟩) T.length tc) ∧ w2.drew.cell? ⟨b, 1, none⟩ = some (.int .i64 ((k : Int) + 1)) ∧ w2.drew.cell? ⟨tg, k * 3, none⟩ = some (.int .i64 (kd : Int)) ∧ w2.drew.cell? ⟨tg, k * 3 + 1, none⟩ = some (.int .i64 (pl : Int)) ∧ w2.drew.cell? ⟨tg, k * 3 + 2, none⟩ = some (.string tx) := ⟨d0, d1, t0, t1, t2⟩
  have HS : Hid _ := hS; have hk0 : (0 : Int) ≤ (k : Int) := by omega
  have hk1 : (k : Int) < (T.length : Int) := by omega
  clear hS d0 d1 t0 t1 t2; go_upto_region 4 with fail; have hwk : IntKind.i64.wrap (k : Int) = (k : Int) := wrap_plain (by omega); refine wp_region_ph (fun w' => w'.cell? ⟨b, 0, none⟩ = some (.slice (some ⟨tg, 0, none⟩) T.length tc) ∧ w'.cell? ⟨b, 1, none⟩ = some (.int .i64 ((k : Int) + 1)) ∧ w'.cell? ⟨tg, k * 3, none⟩ = some (.int .i64 (kd : Int)) ∧ w'.cell? ⟨tg, k * 3 + 1, none⟩ = some (.int .i64 (pl : Int)) ∧ w'.cell? ⟨tg, k * 3 + 2, none⟩ = some (.string tx)) 11 12 rfl (by kernel_rfl) HS.out (fun hHeld => ?_); clear hHeld; refine PhS.t 0 12 HS.out ?_; refine PhS.t 1 13 HS.out ?_; refine PhS.t 2 14 HS.out ?_; refine PhS.t 3 15 HS.out ?_; refine PhS.t 4 16 HS.out ?_; refine PhS.t 5 17 HS.out ?_; refine PhS.t 6 18 HS.out ?_; refine PhS.t 7 19 HS.out ?_; refine PhS.t 8 20 HS.out ?_; refine PhS.t 9 21 HS.out ?_; refine PhS.t 10 22 HS.out ?_; refine PhS.on 11 (fun K hK => ?_); go_simp; refine hK.out _ _ (fun h => absurd h (by decide)) ?_; clear hK K; refine PhS.done (by kernel_rfl) ?_ _; go_wp2_with fail; refine bodyPost_ret (v := .agg #[.int .i64 (kd : Int), .int .i64 (pl : Int), .string tx]) (by simp [results, Tryz.results140, go_sem, c0, c1, c2]) rfl ⟨HE.out, ?_, ?_⟩
  ·rw [HW.out]; exact (HP.out.set3 (k := w.heap.size) (by omega) (by have : tg < w.heap.size := htl; omega) (.int .i64 (kd : Int)) (.int .i64 (pl : Int)) (.string tx)).below (Below.refl _ _).drew
  ·have := HF2.out.want3 HBA.out (Nat.le_refl _) (.int .i64 (kd : Int)) (.int .i64 (pl : Int)) (.string tx); exact ⟨this.os, this.tape, this.output, this.size, this.block⟩
end Go.Proofs.YtbkaghlklkdmkaaGreatDoor
