/-
  The program's parser: the levels of an expression. The program's parser: not, comparison, a whole expression. The program's parser: a list of things. The program's parser: the words of a type. The program's parser: a type.
-/
import Derived.Test.YtbkaghlklkdmkaaGreatDoorNI1
set_option maxRecDepth 100000
set_option maxHeartbeats 8000000
namespace Go.Proofs.YtbkaghlklkdmkaaGreatDoor
open Go.RowKit
attribute [local go_sem ↓] Go.wp_at_zero Go.wp_at_succ
theorem eg203 : ∀ args w, (callFunc 203 args).run Tryz.prog w = .ok (.enter 203 args) w := fun args w => by simp [go_sem]
theorem eg229 : ∀ args w, (callFunc 229 args).run Tryz.prog w = .ok (.enter 229 args) w := fun args w => by simp [go_sem]
theorem eg275 : ∀ args w, (callFunc 275 args).run Tryz.prog w = .ok (.enter 275 args) w := fun args w => by simp [go_sem]
theorem eg280 : ∀ args w, (callFunc 280 args).run Tryz.prog w = .ok (.enter 280 args) w := fun args w => by simp [go_sem]
section
variable {c : Cx}
theorem x_por (f : Nat) (hL : XP c 203 1 f) : XP c 168 0 (f + 1) := by
 intro nest q w o h hn hm; have HP : Hid (Wk.pe c.T (f + 1) 0 nest q = Wk.pRow c.T (Wk.pe c.T f 1 nest) (Wk.signs 0) c.T.length (Wk.pe c.T f 1 nest q).1 (Wk.pe c.T f 1 nest q).2) := pe_row (T := c.T) f nest 0 (by omega) (by omega) q; have HM : Hid (meas c.T q 1 < f) := by
  show _ < _; have hr : rank 1 < rank 0 := by decide
  unfold meas at *
  omega
 have HI : Hid (PI c w w q nest o) := h; have HL : Hid (XP c 203 1 f) := hL; have HN : Hid _ := hn; generalize Wk.pe c.T (f + 1) 0 nest q = r at *
 clear h hL hn hm; go_enter Tryz.func168, Tryz.ntmps168; go_wp2_with fail; refine (j_row 0 203 f (by omega) eg203 HL.out nest q (w.alloc (.cells #[.int .i64 24] 132)) o (HI.out.alloc _).self HN.out HM.out w.heap.size (heap_alloc_new w _) r HP.out.symm).mono ?_; rintro e w1 ⟨⟨k, rfl, ht⟩, hI1⟩; have HI1 : Hid _ := hI1; have HT1 : Hid _ := ht; clear hI1 ht; go_wp2_with fail; go_ret; exact ⟨⟨k, rfl, HT1.out⟩, (HI.out.alloc _).trans HI1.out⟩
theorem x_pand (f : Nat) (hL : XP c 229 2 f) : XP c 203 1 (f + 1) := by
 intro nest q w o h hn hm; have HP : Hid (Wk.pe c.T (f + 1) 1 nest q = Wk.pRow c.T (Wk.pe c.T f 2 nest) (Wk.signs 1) c.T.length (Wk.pe c.T f 2 nest q).1 (Wk.pe c.T f 2 nest q).2) := pe_row (T := c.T) f nest 1 (by omega) (by omega) q; have HM : Hid (meas c.T q 2 < f) := by
  show _ < _; have hr : rank 2 < rank 1 := by decide
  unfold meas at *
  omega
 have HI : Hid (PI c w w q nest o) := h; have HL : Hid (XP c 229 2 f) := hL; have HN : Hid _ := hn; generalize Wk.pe c.T (f + 1) 1 nest q = r at *
 clear h hL hn hm; go_enter Tryz.func203, Tryz.ntmps203; go_wp2_with fail; refine (j_row 1 229 f (by omega) eg229 HL.out nest q (w.alloc (.cells #[.int .i64 25] 132)) o (HI.out.alloc _).self HN.out HM.out w.heap.size (heap_alloc_new w _) r HP.out.symm).mono ?_; rintro e w1 ⟨⟨k, rfl, ht⟩, hI1⟩; have HI1 : Hid _ := hI1; have HT1 : Hid _ := ht; clear hI1 ht; go_wp2_with fail; go_ret; exact ⟨⟨k, rfl, HT1.out⟩, (HI.out.alloc _).trans HI1.out⟩
theorem x_psum (f : Nat) (hL : XP c 275 5 f) : XP c 269 4 (f + 1) := by
 intro nest q w o h hn hm; have HP : Hid (Wk.pe c.T (f + 1) 4 nest q = Wk.pRow c.T (Wk.pe c.T f 5 nest) (Wk.signs 4) c.T.length (Wk.pe c.T f 5 nest q).1 (Wk.pe c.T f 5 nest q).2) := pe_row (T := c.T) f nest 4 (by omega) (by omega) q; have HM : Hid (meas c.T q 5 < f) := by
  show _ < _; have hr : rank 5 < rank 4 := by decide
  unfold meas at *
  omega
 have HI : Hid (PI c w w q nest o) := h; have HL : Hid (XP c 275 5 f) := hL; have HN : Hid _ := hn; generalize Wk.pe c.T (f + 1) 4 nest q = r at *
 clear h hL hn hm; go_enter Tryz.func269, Tryz.ntmps269; go_wp2_with fail; refine (j_row 4 275 f (by omega) eg275 HL.out nest q (w.alloc (.cells #[.int .i64 27, .int .i64 28] 132)) o (HI.out.alloc _).self HN.out HM.out w.heap.size (heap_alloc_new w _) r HP.out.symm).mono ?_; rintro e w1 ⟨⟨k, rfl, ht⟩, hI1⟩; have HI1 : Hid _ := hI1; have HT1 : Hid _ := ht; clear hI1 ht; go_wp2_with fail; go_ret; exact ⟨⟨k, rfl, HT1.out⟩, (HI.out.alloc _).trans HI1.out⟩
theorem x_pprod (f : Nat) (hL : XP c 280 6 f) : XP c 275 5 (f + 1) := by
 intro nest q w o h hn hm; have HP : Hid (Wk.pe c.T (f + 1) 5 nest q = Wk.pRow c.T (Wk.pe c.T f 6 nest) (Wk.signs 5) c.T.length (Wk.pe c.T f 6 nest q).1 (Wk.pe c.T f 6 nest q).2) := pe_row (T := c.T) f nest 5 (by omega) (by omega) q; have HM : Hid (meas c.T q 6 < f) := by
  show _ < _; have hr : rank 6 < rank 5 := by decide
  unfold meas at *
  omega
 have HI : Hid (PI c w w q nest o) := h; have HL : Hid (XP c 280 6 f) := hL; have HN : Hid _ := hn; generalize Wk.pe c.T (f + 1) 5 nest q = r at *
 clear h hL hn hm; go_enter Tryz.func275, Tryz.ntmps275; go_wp2_with fail; refine (j_row 5 280 f (by omega) eg280 HL.out nest q (w.alloc (.cells #[.int .i64 29, .int .i64 30] 132)) o (HI.out.alloc _).self HN.out HM.out w.heap.size (heap_alloc_new w _) r HP.out.symm).mono ?_; rintro e w1 ⟨⟨k, rfl, ht⟩, hI1⟩; have HI1 : Hid _ := hI1; have HT1 : Hid _ := ht; clear hI1 ht; go_wp2_with fail; go_ret; exact ⟨⟨k, rfl, HT1.out⟩, (HI.out.alloc _).trans HI1.out⟩
end
section
variable {c : Cx}
theorem x_pnot (f : Nat) (hN : XP c 229 2 f) (hC : XP c 257 3 f) : XP c 229 2 (f + 1) := by
 intro nest q w o h hn hm; have hP := pe_two (T := c.T) f nest q; have HI : Hid (PI c w w q nest o) := h; cases K26 : q.isK c.T 26 with
 | true =>
  rw [K26, if_pos rfl] at hP; have hq := Wk.isK_iff.1 K26; have HM : Hid (meas c.T q.adv 2 < f) := by
   show _ < _; have := meas_adv (T := c.T) hq.1 (h.ok hq.1) 2 2 (by decide); omega
  have HNN : Hid (q.adv.bad = none → nest ≤ 10) := fun _ => hn hq.1
  have HK : Hid _ := K26; have HX : Hid (XP c 229 2 f) := hN; rw [hP]; generalize hr : Wk.pe c.T f 2 nest q.adv = r; have HR : Hid _ := hr; clear hr hP K26 hq h hn hm hN hC; go_enter Tryz.func229, Tryz.ntmps229; go_wp2_with fail; refine (j_has HI.out 26).mono ?_; rintro e w1 ⟨rfl, hI1⟩; rw [HK.out] at *
  rw [if_pos rfl] at hI1; have HI1 : Hid _ := hI1; clear hI1; go_wp2_with fail; refine (HX.out nest q.adv w1 o HI1.out.self HNN.out HM.out).mono ?_; rintro e w2 ⟨⟨k, rfl, ht⟩, hI2⟩; rw [HR.out] at hI2 ht; have HI2 : Hid _ := hI2; have HT2 : Hid _ := ht; clear hI2 ht; go_wp2_with fail; refine (p_join 5 w2.heap.size 1 _).mono ?_; rintro e w3 ⟨rfl, rfl⟩; go_wp2_with fail; go_ret; refine ⟨⟨w2.heap.size + 1, by simp, fun hb hn => ?_⟩, HI1.out.trans ((HI2.out.alloc _).alloc _)⟩; have hta := PTK.keep (HT2.out hb) (KeepN.below (ab2 w2 (.cells #[nptr k] 70) (joined 5 w2.heap.size 1))); refine pt_not (v := ⟨0, 0, false, ⟨#[]⟩⟩) (item := 0) (g := w2.heap.size) ?_ (blk_alloc _ (heap_alloc_new w2 _)) (hta hn); have := joined_at (kind := 5) (g := w2.heap.size) (n := 1) (w := w2.alloc (.cells #[nptr k] 70)); rw [sz_alloc] at this; exact this
 | false =>
  rw [K26, if_neg (by decide)] at hP; have HM : Hid (meas c.T q 3 < f) := by
   show _ < _; have hr : rank 3 < rank 2 := by decide
   unfold meas at *
   omega
  have HNN : Hid _ := hn; have HK : Hid _ := K26; have HX : Hid (XP c 257 3 f) := hC; rw [hP]; generalize hr : Wk.pe c.T f 3 nest q = r; have HR : Hid _ := hr; clear hr hP K26 h hn hm hN hC; go_enter Tryz.func229, Tryz.ntmps229; go_wp2_with fail; refine (j_has HI.out 26).mono ?_; rintro e w1 ⟨rfl, hI1⟩; rw [HK.out] at *
  rw [if_neg (by decide)] at hI1; have HI1 : Hid _ := hI1; clear hI1; go_wp2_with fail; refine (HX.out nest q w1 o HI1.out.self HNN.out HM.out).mono ?_; rintro e w2 ⟨⟨k, rfl, ht⟩, hI2⟩; rw [HR.out] at hI2 ht; have HI2 : Hid _ := hI2; have HT2 : Hid _ := ht; clear hI2 ht; go_wp2_with fail; go_ret; exact ⟨⟨k, rfl, HT2.out⟩, HI1.out.trans HI2.out⟩
theorem x_pcmp (f : Nat) (hL : XP c 269 4 f) : XP c 257 3 (f + 1) := by
 intro nest q w o h hn hm; have HP : Hid (Wk.pe c.T (f + 1) 3 nest q = Wk.pRow c.T (Wk.pe c.T f 4 nest) (Wk.signs 3) 1 (Wk.pe c.T f 4 nest q).1 (Wk.pe c.T f 4 nest q).2) := pe_row (T := c.T) f nest 3 (by omega) (by omega) q; have HM : Hid (meas c.T q 4 < f) := by
  show _ < _; have hr : rank 4 < rank 3 := by decide
  unfold meas at *
  omega
 have HG : Hid _ := fun q => (Wk.goes_pe h.toks.shut f 4 nest q).1
 have HI : Hid (PI c w w q nest o) := h; have HL : Hid (XP c 269 4 f) := hL; have HN : Hid _ := hn; generalize Wk.pe c.T (f + 1) 3 nest q = r at *
 generalize hPF : Wk.pe c.T f 4 nest = pf at *
 have HPF : Hid _ := hPF; clear h hL hn hm hPF; go_enter Tryz.func257, Tryz.ntmps257; go_wp2_with fail; refine (HL.out nest q w o HI.out HN.out HM.out).mono ?_; rintro e w1 ⟨⟨k, rfl, ht1⟩, hI1⟩; rw [HPF.out] at hI1 ht1; have HI1 : Hid _ := hI1; have HT1 : Hid _ := ht1; clear hI1 ht1; go_wp2_with fail; refine (j_next HI1.out).mono ?_; rintro e w2 ⟨rfl, rfl⟩; have HD31 : Hid _ := isK_at' HI1.out 31 (by decide); have HD32 : Hid _ := isK_at' HI1.out 32 (by decide); generalize hq1 : (pf q).1 = q' at *
 generalize ha : (pf q).2 = a at *
 have HQ1 : Hid _ := hq1; have hsg : q'.isIn c.T (Wk.signs 3) = (q'.isK c.T 31 || q'.isK c.T 32) := by
  unfold Wk.St.isIn Wk.St.isK; show (q'.bad.isNone && [31, 32].contains _) = _; cases hbn : q'.bad.isNone
  ·simp
  ·rw [Bool.eq_iff_iff]; simp
 have HSG : Hid _ := hsg; clear hsg hq1 ha; cases hin : q'.isIn c.T (Wk.signs 3) with
 | false =>
  have HE : Hid (r = (q', a)) := by
   show _ = _; rw [HP.out, Wk.pRow, hin]; rfl
  have hb : (q'.isK c.T 31 || q'.isK c.T 32) = false := by rw [← HSG.out]; exact hin
  rw [Bool.or_eq_false_iff] at hb; rw [hb.1] at HD31; rw [hb.2] at HD32; generalize ((Wk.tokK c.T (ppAt c.T q')).kind : Int) = nk at *
  have d31 : (nk == 31) = false := HD31.out; have d32 : (nk == 32) = false := HD32.out; clear hb hin; go_wp2_with fail; go_ret; rw [HE.out]; exact ⟨⟨k, rfl, fun hb => (HT1.out hb).keep (KeepN.below (Below.refl _ _).drew)⟩, HI1.out.drew⟩
 | true =>
  have hbb := (Wk.isIn_iff.1 hin)
  have hkk := HI1.out.ok hbb.1; have HK : Hid _ := isIn_K hin; have HKD : Hid _ := hbb.2; have hat : ppAt c.T q' = q'.k := ppAt_ok hbb.1; have HW : Hid (q'.want c.T (Wk.tokK c.T q'.k).kind = q'.adv) := want_isK HK.out; have HBN : Hid _ := hbb.1; have HE : Hid (r = ((pf q'.adv).1, Wk.semBin (Wk.tokK c.T q'.k).kind a (pf q'.adv).2)) := by
   show _ = _; rw [HP.out, Wk.pRow, hin]; rfl
  have HLE : Hid (q.le q') := by rw [← HQ1.out]; exact HG.out q
  have HM5 : Hid (meas c.T q'.adv 4 < f) := by
   show _ < _; have h1 := meas_adv (T := c.T) hbb.1 hkk 4 4 (by decide); have h2 := meas_le (T := c.T) HLE.out 4; have h3 := HM.out; omega
  have HN5 : Hid (q'.adv.bad = none → nest ≤ 10) := fun _ => HN.out (HLE.out HBN.out).1
  have HBK : Hid (binKd (Wk.tokK c.T q'.k).kind) := signs_bin HKD.out; rw [hat] at HD31 HD32 ⊢; have h33 : (Wk.tokK c.T q'.k).kind = 31 ∨ (Wk.tokK c.T q'.k).kind = 32 := by
   have := hbb.2; have e : Wk.signs 3 = [31, 32] := rfl; rw [e] at this; simpa using this
  have hb : (((Wk.tokK c.T q'.k).kind : Int) == 31) = false → (((Wk.tokK c.T q'.k).kind : Int) == 32) = true := by
   intro hx; rw [beq_eq_false_iff_ne] at hx; rw [beq_iff_eq]; omega
  have HCW : Hid (∀ W, Gl W → W.cell? ⟨8, (Wk.tokK c.T q'.k).kind, none⟩ = some (.int .i64 (opOf (Wk.tokK c.T q'.k).kind : Int))) := fun W hW => hW.ops _ (by omega)
  have hkd0 : (0 : Int) ≤ ((Wk.tokK c.T q'.k).kind : Int) := by omega
  have hkd1 : ((Wk.tokK c.T q'.k).kind : Int) < 33 := by omega
  have h2k : 2 ≤ (Wk.tokK c.T q'.k).kind := by omega
  clear hin hbb hkk HP hat HKD HK HD31 HD32 h33; generalize (Wk.tokK c.T q'.k).kind = kd at *
  have hsp : ((kd : Int) == 31) = true ∨ (((kd : Int) == 31) = false ∧ ((kd : Int) == 32) = true) := by
   cases hx : ((kd : Int) == 31) with
   | true => exact Or.inl rfl
   | false => exact Or.inr ⟨rfl, hb hx⟩
  clear hb; rcases hsp with d31 | ⟨d31, d32⟩
  ·go_wp2_with fail; refine (j_want HI1.out.drew.self kd h2k).mono ?_; rintro e w5 ⟨he, hI5⟩; obtain ⟨v5, rfl⟩ : ∃ v, e = .returned v := ⟨_, he⟩
   rw [HW.out] at hI5; have HT5 : Hid _ := (HT1.out HBN.out).keep (KeepN.trans (KeepN.below (w := w1) (w' := w1.drew) (Below.refl _ _).drew) (HI1.out.drew.keepN hI5)); have HI5 : Hid _ := HI1.out.drew.trans hI5; clear hI5 he; go_upto_region 5 with fail; have HX : Hid _ := HCW.out w5.drew HI5.out.drew.gl; refine wp_region_ph (fun w' => w'.cell? ⟨8, kd, none⟩ = some (.int .i64 (opOf kd : Int))) 9 9 rfl (by kernel_rfl) HX.out (fun hHeld => ?_); clear hHeld; refine PhS.t 0 18 HX.out ?_; refine PhS.t 1 19 HX.out ?_; refine PhS.t 2 20 HX.out ?_; refine PhS.t 3 21 HX.out ?_; refine PhS.t 4 22 HX.out ?_; refine PhS.on 5 (fun K hK => ?_); go_simp; refine (HL.out nest q'.adv w5.drew _ HI5.out.drew.self HN5.out HM5.out).mono ?_; rintro e w6 ⟨⟨k6, rfl, ht6⟩, hI6⟩; rw [HPF.out] at hI6 ht6; have HI6 : Hid _ := hI6; have HT6 : Hid _ := ht6; have HX6 : Hid _ := HCW.out w6 hI6.gl; refine hK.out _ _ (fun _ => HX6.out) ?_; clear hK K hI6 ht6; try simp only [Act.put, sA, sZ, sS]
   refine PhS.on 6 (fun K hK => ?_); go_simp; have HX7 : Hid (∀ x, (w6.alloc x).cell? ⟨8, kd, none⟩ = some (.int .i64 (opOf kd : Int))) := fun x => HCW.out _ (HI6.out.alloc x).gl
   refine hK.out _ _ (fun _ => HX7.out _) ?_; clear hK K; try simp only [Act.put, sA, sZ, sS]
   refine PhS.on 7 (fun K hK => ?_); go_simp; refine (p_join (opOf kd) w6.heap.size 2 _).mono ?_; rintro e w8 ⟨rfl, rfl⟩; have HX8 : Hid (∀ x y, ((w6.alloc x).alloc y).cell? ⟨8, kd, none⟩ = some (.int .i64 (opOf kd : Int))) := fun x y => HCW.out _ ((HI6.out.alloc x).alloc y).gl
   refine hK.out _ _ (fun _ => HX8.out _ _) ?_; clear hK K; try simp only [Act.put, sA, sZ, sS]
   refine PhS.t 8 2 (HX8.out _ _) ?_; refine PhS.done (by kernel_rfl) ?_ _; go_wp2_with fail; go_ret; rw [HE.out]; refine ⟨⟨w6.heap.size + 1, rfl, fun hb => ?_⟩, ?_⟩
   ·have hka : KeepN w5 ((w6.alloc (.cells #[nptr k, nptr k6] 70)).alloc (joined (opOf kd) w6.heap.size 2)) := (KeepN.below (w := w5) (w' := w5.drew) (Below.refl _ _).drew).trans ((HI5.out.drew.keepN HI6.out).trans (KeepN.below (ab2 _ _ _))); have hta := PTK.keep HT5.out hka; have htb := PTK.keep (HT6.out hb) (KeepN.below (ab2 w6 (.cells #[nptr k, nptr k6] 70) (joined (opOf kd) w6.heap.size 2))); intro hn; rw [semBin_names] at hn; refine pt_bin HBK.out (v := ⟨0, 0, false, ⟨#[]⟩⟩) (item := 0) (g := w6.heap.size) ?_ (blk_alloc _ (heap_alloc_new w6 _)) (hta (fun x hx => hn x (List.mem_append_left _ hx))) (htb (fun x hx => hn x (List.mem_append_right _ hx))); have := joined_at (kind := opOf kd) (g := w6.heap.size) (n := 2) (w := w6.alloc (.cells #[nptr k, nptr k6] 70)); rw [sz_alloc] at this; exact this
   ·rw [semBin_names, Wk.stray_append, ← Wk.or_assoc3]; exact HI5.out.drew.trans ((HI6.out.alloc _).alloc _)
  ·go_wp2_with fail; refine (j_want HI1.out.drew.self kd h2k).mono ?_; rintro e w5 ⟨he, hI5⟩; obtain ⟨v5, rfl⟩ : ∃ v, e = .returned v := ⟨_, he⟩
   rw [HW.out] at hI5; have HT5 : Hid _ := (HT1.out HBN.out).keep (KeepN.trans (KeepN.below (w := w1) (w' := w1.drew) (Below.refl _ _).drew) (HI1.out.drew.keepN hI5)); have HI5 : Hid _ := HI1.out.drew.trans hI5; clear hI5 he; go_upto_region 5 with fail; have HX : Hid _ := HCW.out w5.drew HI5.out.drew.gl; refine wp_region_ph (fun w' => w'.cell? ⟨8, kd, none⟩ = some (.int .i64 (opOf kd : Int))) 9 9 rfl (by kernel_rfl) HX.out (fun hHeld => ?_); clear hHeld; refine PhS.t 0 18 HX.out ?_; refine PhS.t 1 19 HX.out ?_; refine PhS.t 2 20 HX.out ?_; refine PhS.t 3 21 HX.out ?_; refine PhS.t 4 22 HX.out ?_; refine PhS.on 5 (fun K hK => ?_); go_simp; refine (HL.out nest q'.adv w5.drew _ HI5.out.drew.self HN5.out HM5.out).mono ?_; rintro e w6 ⟨⟨k6, rfl, ht6⟩, hI6⟩; rw [HPF.out] at hI6 ht6; have HI6 : Hid _ := hI6; have HT6 : Hid _ := ht6; have HX6 : Hid _ := HCW.out w6 hI6.gl; refine hK.out _ _ (fun _ => HX6.out) ?_; clear hK K hI6 ht6; try simp only [Act.put, sA, sZ, sS]
   refine PhS.on 6 (fun K hK => ?_); go_simp; have HX7 : Hid (∀ x, (w6.alloc x).cell? ⟨8, kd, none⟩ = some (.int .i64 (opOf kd : Int))) := fun x => HCW.out _ (HI6.out.alloc x).gl
   refine hK.out _ _ (fun _ => HX7.out _) ?_; clear hK K; try simp only [Act.put, sA, sZ, sS]
   refine PhS.on 7 (fun K hK => ?_); go_simp; refine (p_join (opOf kd) w6.heap.size 2 _).mono ?_; rintro e w8 ⟨rfl, rfl⟩; have HX8 : Hid (∀ x y, ((w6.alloc x).alloc y).cell? ⟨8, kd, none⟩ = some (.int .i64 (opOf kd : Int))) := fun x y => HCW.out _ ((HI6.out.alloc x).alloc y).gl
   refine hK.out _ _ (fun _ => HX8.out _ _) ?_; clear hK K; try simp only [Act.put, sA, sZ, sS]
   refine PhS.t 8 2 (HX8.out _ _) ?_; refine PhS.done (by kernel_rfl) ?_ _; go_wp2_with fail; go_ret; rw [HE.out]; refine ⟨⟨w6.heap.size + 1, rfl, fun hb => ?_⟩, ?_⟩
   ·have hka : KeepN w5 ((w6.alloc (.cells #[nptr k, nptr k6] 70)).alloc (joined (opOf kd) w6.heap.size 2)) := (KeepN.below (w := w5) (w' := w5.drew) (Below.refl _ _).drew).trans ((HI5.out.drew.keepN HI6.out).trans (KeepN.below (ab2 _ _ _))); have hta := PTK.keep HT5.out hka; have htb := PTK.keep (HT6.out hb) (KeepN.below (ab2 w6 (.cells #[nptr k, nptr k6] 70) (joined (opOf kd) w6.heap.size 2))); intro hn; rw [semBin_names] at hn; refine pt_bin HBK.out (v := ⟨0, 0, false, ⟨#[]⟩⟩) (item := 0) (g := w6.heap.size) ?_ (blk_alloc _ (heap_alloc_new w6 _)) (hta (fun x hx => hn x (List.mem_append_left _ hx))) (htb (fun x hx => hn x (List.mem_append_right _ hx))); have := joined_at (kind := opOf kd) (g := w6.heap.size) (n := 2) (w := w6.alloc (.cells #[nptr k, nptr k6] 70)); rw [sz_alloc] at this; exact this
   ·rw [semBin_names, Wk.stray_append, ← Wk.or_assoc3]; exact HI5.out.drew.trans ((HI6.out.alloc _).alloc _)
theorem x_pexpr_if (f nest : Nat) (hE : XP c 141 7 f) (q : Wk.St) (w : World) (o : Option Nat) (h : PI c w w q nest o) (h10 : nest ≤ 10) (hm : meas c.T q 7 < f + 1) (K21 : q.isK c.T 21 = true) :
  Calls Tryz.prog 141 #[nptr c.b] w fun e w' => nodeEnd c w' (Wk.pe c.T (f + 1) 7 nest q) e ∧ PI c w w' (Wk.pe c.T (f + 1) 7 nest q).1 nest (o.or (Wk.stray c.ns (Wk.pe c.T (f + 1) 7 nest q).2.names)) := by
 have hT := h.toks.shut; have hP := pe_expr (T := c.T) f nest q; rw [K21, if_pos rfl] at hP; rw [hP]; clear hP; have hk := Wk.isK_iff.1 K21; have HK : Hid _ := K21; have HD : Hid _ := isK_at' h 21 (by decide); rw [K21] at HD; have hm0 := meas_opens (T := c.T) hk.1 (h.ok hk.1) nest 7; have hn0 := opens_nest (T := c.T) hk.1 h10; generalize hq0 : q.opens c.T nest = q0 at *
 have g1 : q0.le (Wk.pe c.T f 7 (nest + 1) q0).1 := (Wk.goes_pe hT f 7 (nest + 1) q0).1; generalize hr1 : Wk.pe c.T f 7 (nest + 1) q0 = r1 at *
 have g2 := Wk.St.le_trans g1 (Wk.le_want (T := c.T) r1.1 22); generalize hq1 : r1.1.want c.T 22 = q1 at *
 have g3 : q1.le (Wk.pe c.T f 7 (nest + 1) q1).1 := (Wk.goes_pe hT f 7 (nest + 1) q1).1; generalize hr2 : Wk.pe c.T f 7 (nest + 1) q1 = r2 at *
 have g4 := Wk.St.le_trans g3 (Wk.le_want (T := c.T) r2.1 23); generalize hq2 : r2.1.want c.T 23 = q2 at *
 have g5 : q2.le (Wk.pe c.T f 7 (nest + 1) q2).1 := (Wk.goes_pe hT f 7 (nest + 1) q2).1; generalize hr3 : Wk.pe c.T f 7 (nest + 1) q2 = r3 at *
 have G12 : Hid (r1.1.le q1) := by rw [← hq1]; exact Wk.le_want (T := c.T) r1.1 22
 have G23 : Hid (r2.1.le q2) := by rw [← hq2]; exact Wk.le_want (T := c.T) r2.1 23
 have HQ0 : Hid _ := hq0; have HR1 : Hid _ := hr1; have HQ1 : Hid _ := hq1; have HR2 : Hid _ := hr2; have HQ2 : Hid _ := hq2; have HR3 : Hid _ := hr3; have M0 : Hid (meas c.T q0 7 < f) := by show _ < _; omega
 have M1 : Hid (meas c.T q1 7 < f) := by have := meas_le (T := c.T) g2 7; show _ < _; omega
 have M2 : Hid (meas c.T q2 7 < f) := by have := meas_le (T := c.T) (Wk.St.le_trans g2 g4) 7; show _ < _; omega
 have N0 : Hid _ := hn0; have N1 : Hid (q1.bad = none → nest + 1 ≤ 10) := fun e => hn0 (g2 e).1
 have N2 : Hid (q2.bad = none → nest + 1 ≤ 10) := fun e => hn0 ((Wk.St.le_trans g2 g4) e).1
 have G3 : Hid _ := g3; have G5 : Hid _ := g5; have H10 : Hid _ := h10; have HI : Hid (PI c w w q nest o) := h; have HE : Hid (XP c 141 7 f) := hE; clear g1 g2 g3 g4 g5 hm0 hn0 hq0 hr1 hq1 hr2 hq2 hr3 hm hk h hE K21 hT; go_enter Tryz.func141, Tryz.ntmps141; go_wp2_with fail; refine (j_next HI.out).mono ?_; rintro e w1 ⟨rfl, rfl⟩; generalize ((Wk.tokK c.T (ppAt c.T q)).kind : Int) = nk at *
 have d21 : (nk != 21) = false := by rw [bne_eq_false_iff_eq]; exact beq_iff_eq.1 HD.out
 go_wp2_with fail; refine (j_open HI.out.drew 21 (by decide) HK.out H10.out).mono ?_; rintro e w2 ⟨rfl, hI2⟩; rw [HQ0.out] at hI2; have HI2 : Hid _ := hI2; clear hI2; go_wp2_with fail; refine (HE.out (nest + 1) q0 w2 o HI2.out.self N0.out M0.out).mono ?_; rintro e w3 ⟨⟨k1, rfl, ht⟩, hI3⟩; rw [HR1.out] at hI3 ht; have HI3 : Hid _ := hI3; have HT1 : Hid _ := ht; clear hI3 ht; go_wp2_with fail; refine (j_want HI3.out.self 22).mono ?_; rintro e w4 ⟨he, hI4⟩; obtain ⟨v4, rfl⟩ : ∃ v, e = .returned v := ⟨_, he⟩
 rw [HQ1.out] at hI4; have HI4 : Hid _ := hI4; clear hI4 he; go_wp2_with fail; refine (HE.out (nest + 1) q1 w4 _ HI4.out.self N1.out M1.out).mono ?_; rintro e w5 ⟨⟨k2, rfl, ht⟩, hI5⟩; rw [HR2.out] at hI5 ht; have HI5 : Hid _ := hI5; have HT2 : Hid _ := ht; clear hI5 ht; go_wp2_with fail; refine (j_want HI5.out.self 23).mono ?_; rintro e w6 ⟨he, hI6⟩; obtain ⟨v6, rfl⟩ : ∃ v, e = .returned v := ⟨_, he⟩
 rw [HQ2.out] at hI6; have HI6 : Hid _ := hI6; clear hI6 he; go_wp2_with fail; refine (HE.out (nest + 1) q2 w6 _ HI6.out.self N2.out M2.out).mono ?_; rintro e w7 ⟨⟨k3, rfl, ht⟩, hI7⟩; rw [HR3.out] at hI7 ht; obtain ⟨c2, cf⟩ := hI7.nestc; have HI7 : Hid _ := hI7; have HI8 : Hid _ := hI7.nest (nest : Int); have HT3 : Hid _ := ht; clear hI7 ht; go_wp2_with fail; refine (p_join 2 w7.heap.size 3 _).mono ?_; rintro e w9 ⟨rfl, rfl⟩; go_wp2_with fail; go_ret; have hs8 : (w7.setCell ⟨c.b, 2, none⟩ (.int .i64 (nest : Int))).heap.size = w7.heap.size := by simp [World.setCell]
 refine ⟨⟨w7.heap.size + 1, by simp, fun hb hn => ?_⟩, ?_⟩
 ·have b2 := (G5.out hb).1; have b2' := (G23.out b2).1; have b1 := (G3.out b2').1; have b1' := (G12.out b1).1; have kz : KeepN (w7.setCell ⟨c.b, 2, none⟩ (.int .i64 (nest : Int))) (((w7.setCell ⟨c.b, 2, none⟩ (.int .i64 (nest : Int))).alloc (.cells #[nptr k1, nptr k2, nptr k3] 70)).alloc (joined 2 w7.heap.size 3)) := KeepN.below (ab2 _ _ _); have k6 := (HI6.out.keepN HI8.out).trans kz; have k4 := (HI4.out.keepN HI5.out).trans ((HI5.out.keepN HI6.out).trans k6); have k7 : KeepN w7 (w7.setCell ⟨c.b, 2, none⟩ (.int .i64 (nest : Int))) := HI7.out.keepN (HI7.out.self.nest (nest : Int)); have t1 := PTK.keep (HT1.out b1') ((HI3.out.keepN HI4.out).trans k4); have t2 := PTK.keep (HT2.out b2') ((HI5.out.keepN HI6.out).trans k6); have t3 := PTK.keep (HT3.out hb) (k7.trans kz); have hn' : ∀ x ∈ r1.2.names ++ (r2.2.names ++ r3.2.names), c.ns.contains x.1 = true := hn; refine pt_if (v := ⟨0, 0, false, ⟨#[]⟩⟩) (item := 0) (g := w7.heap.size) ?_ (blk_alloc _ ?_) (t1 (fun x hx => hn' x (List.mem_append_left _ hx))) (t2 (fun x hx => hn' x (List.mem_append_right _ (List.mem_append_left _ hx)))) (t3 (fun x hx => hn' x (List.mem_append_right _ (List.mem_append_right _ hx))))
  ·have := joined_at (kind := 2) (g := w7.heap.size) (n := 3) (w := (w7.setCell ⟨c.b, 2, none⟩ (.int .i64 (nest : Int))).alloc (.cells #[nptr k1, nptr k2, nptr k3] 70)); rw [sz_alloc, hs8] at this; exact this
  ·have := heap_alloc_new (w7.setCell ⟨c.b, 2, none⟩ (.int .i64 (nest : Int))) (.cells #[nptr k1, nptr k2, nptr k3] 70); rw [hs8] at this; exact this
 ·show PI c w _ r3.1 nest (o.or (Wk.stray c.ns (r1.2.names ++ (r2.2.names ++ r3.2.names)))); rw [Wk.stray_append, Wk.stray_append, ← Wk.or_assoc3, ← Wk.or_assoc3]; exact ((((HI2.out.trans HI3.out).trans HI4.out).trans HI5.out).trans HI6.out).trans ((HI8.out.alloc _).alloc _)
theorem x_pexpr_no (f nest : Nat) (hL : XP c 168 0 f) (q : Wk.St) (w : World) (o : Option Nat) (h : PI c w w q nest o) (hn : q.bad = none → nest ≤ 10) (hm : meas c.T q 7 < f + 1) (K21 : q.isK c.T 21 = false) :
  Calls Tryz.prog 141 #[nptr c.b] w fun e w' => nodeEnd c w' (Wk.pe c.T (f + 1) 7 nest q) e ∧ PI c w w' (Wk.pe c.T (f + 1) 7 nest q).1 nest (o.or (Wk.stray c.ns (Wk.pe c.T (f + 1) 7 nest q).2.names)) := by
 have hP := pe_expr (T := c.T) f nest q; rw [K21, if_neg (by decide)] at hP; rw [hP]; clear hP; have HD : Hid _ := isK_at' h 21 (by decide); rw [K21] at HD; have HM : Hid (meas c.T q 0 < f) := by
  show _ < _; have hr : rank 0 < rank 7 := by decide
  unfold meas at *
  omega
 have HI : Hid (PI c w w q nest o) := h; have HL : Hid (XP c 168 0 f) := hL; have HN : Hid _ := hn; generalize hr : Wk.pe c.T f 0 nest q = r at *
 have HR : Hid _ := hr; clear h hL hn hm hr K21; go_enter Tryz.func141, Tryz.ntmps141; go_wp2_with fail; refine (j_next HI.out).mono ?_; rintro e w1 ⟨rfl, rfl⟩; generalize ((Wk.tokK c.T (ppAt c.T q)).kind : Int) = nk at *
 have d21 : (nk != 21) = true := by rw [bne_iff_ne]; exact beq_eq_false_iff_ne.1 HD.out
 go_wp2_with fail; refine (HL.out nest q _ o HI.out.drew.self HN.out HM.out).mono ?_; rintro e w2 ⟨⟨k, rfl, ht⟩, hI2⟩; rw [HR.out] at hI2 ht; have HI2 : Hid _ := hI2; have HT2 : Hid _ := ht; clear hI2 ht; go_wp2_with fail; go_ret; exact ⟨⟨k, rfl, HT2.out⟩, HI.out.drew.trans HI2.out⟩
theorem x_pall (hT : TP c.T) (f : Nat) : XP c 141 7 f ∧ XP c 168 0 f ∧ XP c 203 1 f ∧ XP c 229 2 f ∧ XP c 257 3 f ∧ XP c 269 4 f ∧ XP c 275 5 f ∧ XP c 280 6 f := by
 induction f with
 | zero => refine ⟨?_, ?_, ?_, ?_, ?_, ?_, ?_, ?_⟩ <;> (intro nest q w o _ _ hm; omega)
 | succ f ih =>
  obtain ⟨h7, h0, h1, h2, h3, h4, h5, h6⟩ := ih; refine ⟨?_, x_por f h1, x_pand f h2, x_pnot f h2 h3, x_pcmp f h4, x_psum f h5, x_pprod f h6, x_patom hT f h7⟩; intro nest q w o h hn hm; cases K21 : q.isK c.T 21 with
  | true => exact x_pexpr_if f nest h7 q w o h (hn (Wk.isK_iff.1 K21).1) hm K21
  | false => exact x_pexpr_no f nest h0 q w o h hn hm K21
theorem j_expr (hT : TP c.T) {w0 w : World} {q : Wk.St} {o : Option Nat} (h : PI c w0 w q 0 o) :
  Calls Tryz.prog 141 #[nptr c.b] w fun e w' => nodeEnd c w' (Wk.pExpr c.T q) e ∧ PI c w w' (Wk.pExpr c.T q).1 0 (o.or (Wk.stray c.ns (Wk.pExpr c.T q).2.names)) := by
 refine (x_pall hT (Wk.fuel c.T)).1 0 q w o h.self (fun _ => by omega) ?_; have hr : rank 7 = 8 := rfl; unfold meas Wk.fuel; rw [hr]; split <;> omega
end
def listRun {σ : Type} (isK : σ → Bool) (step adv : σ → σ) : Nat → σ → σ
 | 0, s => s
 | n + 1, s => if 0 < n && isK (step s) then listRun isK step adv n (adv (step s)) else step s
theorem j_list {σ : Type} {isK : σ → Bool} {step adv : σ → σ} {b fn sign most : Nat} {lb : Array Value} (eg : ∀ args w, (callFunc fn args).run Tryz.prog w = .ok (.enter fn args) w) (I : Nat → World → σ → Prop)
  (hHas : ∀ k w s, I k w s → Calls Tryz.prog 138 #[nptr b, .int .i64 sign] w fun e w' => e = .returned (.bool (isK s)) ∧ I k w' (if isK s then adv s else s))
  (hRead : ∀ k w s, k < most → I k w s → Calls Tryz.prog fn lb w fun e w' => e = .returned (.tuple #[]) ∧ I (k + 1) w' (step s)) (h1 : 1 ≤ most) (h2 : most ≤ 100) {w : World} {s : σ} (h : I 0 w s) :
  Calls Tryz.prog 172 #[nptr b, .int .i64 most, .int .i64 sign, .func (.func fn) #[] lb] w fun e w' => e = .returned (.tuple #[]) ∧ ∃ k, k ≤ most ∧ I k w' (listRun isK step adv most s) := by
 have HH : Hid _ := hHas; have HR : Hid _ := hRead; have HI : Hid _ := h; obtain ⟨FIN, hF⟩ : ∃ FIN, FIN = listRun isK step adv most s := ⟨_, rfl⟩
 rw [← hF]; have HF : Hid (FIN = if 0 < most - 1 && isK (step s) then listRun isK step adv (most - 1) (adv (step s)) else step s) := by
  show _ = _; rw [hF, show most = (most - 1) + 1 by omega, listRun]; rfl
 clear hHas hRead h hF; go_enter Tryz.func172, Tryz.ntmps172; go_wp2_with fail; refine (HR.out 0 w s (by omega) HI.out).mono ?_; rintro e w1 ⟨rfl, hI1⟩; have HI1 : Hid _ := hI1; clear hI1; go_wp2_with fail; go_loopg [8] most (fun gg s8 wr => ∃ (k : Nat) (s' : σ), 1 ≤ k ∧ k ≤ most ∧ most - k ≤ gg ∧ s8 = .int .i64 k ∧ Hid (I k wr s') ∧ Hid (FIN = if 0 < most - k && isK s' then listRun isK step adv (most - k) (adv s') else s'))
 case atStart => exact ⟨1, step s, by omega, h1, by omega, rfl, HI1, HF⟩
 case round =>
  obtain ⟨k, s', hk1, hk2, hg, rfl, HIr, HFr⟩ := hrel; clear HF; by_cases hlt : k < most
  ·have hltz : (k : Int) < (most : Int) := by omega
   cases hK : isK s' with
   | false =>
    have HKK : Hid _ := hK; have HE : Hid (FIN = s') := by
     show _ = _; rw [HFr.out, hK, Bool.and_false]; rfl
    clear hK; go_wp2_with fail; refine (HH.out k wr s' HIr.out).mono ?_; rintro e w2 ⟨rfl, hI2⟩; rw [HKK.out, if_neg (by decide)] at hI2; rw [HKK.out]; have HI2 : Hid _ := hI2; clear hI2; go_wp2_with fail; go_end0
    exact ⟨rfl, k, hk2, by rw [HE.out]; exact HI2.out⟩
   | true =>
    have HKK : Hid _ := hK; have HE : Hid (FIN = if 0 < most - (k + 1) && isK (step (adv s')) then listRun isK step adv (most - (k + 1)) (adv (step (adv s'))) else step (adv s')) := by
     show _ = _; rw [HFr.out, hK, show decide (0 < most - k) = true by rw [decide_eq_true_eq]; omega, show most - k = (most - (k + 1)) + 1 by omega, listRun]; rfl
    clear hK; go_wp2_with fail; refine (HH.out k wr s' HIr.out).mono ?_; rintro e w2 ⟨rfl, hI2⟩; rw [HKK.out, if_pos rfl] at hI2; rw [HKK.out]; have HI2 : Hid _ := hI2; clear hI2; go_wp2_with fail; refine (HR.out k w2 _ hlt HI2.out).mono ?_; rintro e w3 ⟨rfl, hI3⟩; have HI3 : Hid _ := hI3; clear hI3; go_wp2_with fail; go_roundg (most - (k + 1)); case measure => omega
    case rel => exact ⟨k + 1, step (adv s'), by omega, by omega, by omega, by go_num, HI3, HE⟩
  ·have hltz : ¬ (k : Int) < (most : Int) := by omega
   have HE : Hid (FIN = s') := by
    show _ = _; rw [HFr.out, show decide (0 < most - k) = false by rw [decide_eq_false_iff_not]; omega]; rfl
   go_wp2_with fail; go_end0
   exact ⟨rfl, k, hk2, by rw [HE.out]; exact HIr.out⟩
structure WI (c : Cx) (w0 : World) (pb rb wb : Nat) (nest : Int) (o : Option Nat) (n : Nat) (w : World) (s : Wk.St × List (List UInt8)) : Prop where
 inn : PI c w0 w s.1 nest o
 top : ∃ qa na oa, PI c w0 w0 qa na oa
 pbx : w.heap[pb]? = some (.cells #[nptr c.b] 209 (0, 0))
 rbx : w.heap[rb]? = some (.cells #[.int .i64 0, .int .i64 0, .string ⟨#[]⟩, .string ⟨#[]⟩, .string ⟨#[]⟩, .string ⟨#[]⟩, .string ⟨#[]⟩, .string ⟨#[]⟩] 69 (0, 0))
 wbx : ∃ ws, w.heap[wb]? = some (.cells #[.int .i64 (3 : Nat), .int .i64 (ws.length : Nat), .string (wd (3, ws) 0), .string (wd (3, ws) 1), .string (wd (3, ws) 2), .string (wd (3, ws) 3), .string (wd (3, ws) 4), .string (wd (3, ws) 5)] 69 (0, 0)) ∧ ws.length ≤ 6 ∧ (s.1.bad = none → ws = s.2)
 len : s.2.length = n ∧ n ≤ 6
 new : w0.heap.size ≤ pb ∧ w0.heap.size ≤ rb ∧ w0.heap.size ≤ wb ∧ pb ≠ wb ∧ rb ≠ wb
theorem WI.step {c : Cx} {w0 w w' : World} {pb rb wb n : Nat} {nest : Int} {o : Option Nat} {s : Wk.St × List (List UInt8)} (h : WI c w0 pb rb wb nest o n w s) {q' : Wk.St} (hI : PI c w w' q' nest o) (hq : q'.bad = none → s.1.bad = none) : WI c w0 pb rb wb nest o n w' (q', s.2) := by
 obtain ⟨qa, na, oa, ht⟩ := h.top; have hb := ht.blt; obtain ⟨ws, h1, h2, h3⟩ := h.wbx; have hn := h.new; exact ⟨h.inn.trans hI, h.top, hI.blk h.pbx (by omega), hI.blk h.rbx (by omega), ⟨ws, hI.blk h1 (by omega), h2, fun e => h3 (hq e)⟩, h.len, h.new⟩
theorem setTy_other {w : World} {b k : Nat} (h : k ≠ b) (t : Wk.Ty) : (setTy w b t).heap[k]? = w.heap[k]? := by
 unfold setTy; rw [blk_other _ h, blk_other _ h, blk_other _ h, blk_other _ h, blk_other _ h, blk_other _ h, blk_other _ h, blk_other _ h]
theorem PI.setTy {c : Cx} {wa w0 w : World} {qa q : Wk.St} {na nest : Int} {oa o : Option Nat} (h : PI c w0 w q nest o) (ha : PI c wa w0 qa na oa) {k : Nat} (hk : w0.heap.size ≤ k) (t : Wk.Ty) : PI c w0 (setTy w k t) q nest o :=
 (((((((h.setNew ha hk _ _).setNew ha hk _ _).setNew ha hk _ _).setNew ha hk _ _).setNew ha hk _ _).setNew ha hk _ _).setNew ha hk _ _).setNew ha hk _ _
def wordStep (T : List Wk.Tok) (s : Wk.St × List (List UInt8)) : Wk.St × List (List UInt8) :=
 ((if s.1.isK T 5 && s.2.contains (Wk.unq (Wk.tokK T s.1.k).text) then s.1.fail T else s.1).want T 5, s.2 ++ [Wk.unq (Wk.tokK T s.1.k).text])
theorem pWords_run (T : List Wk.Tok) : ∀ (n : Nat) (s : Wk.St × List (List UInt8)), Wk.pWords T n s.1 s.2 = listRun (fun s => s.1.isK T 38) (wordStep T) (fun s => (s.1.adv, s.2)) n s := by
 intro n; induction n with
 | zero => intro s; rfl
 | succ n ih =>
  intro s; rw [Wk.pWords, listRun]; show (if (decide (0 < n) && (wordStep T s).1.isK T 38) = true then Wk.pWords T n (wordStep T s).1.adv (wordStep T s).2 else wordStep T s) = _; split
  ·exact ih ((wordStep T s).1.adv, (wordStep T s).2)
  ·rfl
theorem j_word {c : Cx} (hT : TP c.T) {w0 w : World} {pb rb wb n : Nat} {nest : Int} {o : Option Nat} {s : Wk.St × List (List UInt8)} (hn : n < 6) (h : WI c w0 pb rb wb nest o n w s) :
  Calls Tryz.prog 199 #[nptr pb, nptr wb] w fun e w' => e = .returned (.tuple #[]) ∧ WI c w0 pb rb wb nest o (n + 1) w' (wordStep c.T s) := by
 obtain ⟨q, ws0⟩ := s; obtain ⟨ws, hwb, hw6, hws⟩ := h.wbx; have HH : Hid (WI c w0 pb rb wb nest o n w (q, ws0)) := h; have HT : Hid _ := hT; have HWS : Hid (q.bad = none → ws = ws0) := hws; have HD : Hid _ := isK_at' h.inn 5 (by decide); generalize ht : ((3, ws) : Wk.Ty) = t; have HTT : Hid ((3, ws) = t) := ht; have hwb' : w.heap[wb]? = some (.cells #[.int .i64 (t.1 : Nat), .int .i64 (t.2.length : Nat), .string (wd t 0), .string (wd t 1), .string (wd t 2), .string (wd t 3), .string (wd t 4), .string (wd t 5)] 69 (0, 0)) := by rw [← ht]; exact hwb
 have h6 : t.2.length ≤ 6 := by rw [← ht]; exact hw6
 have HWB : Hid _ := hwb'; have hpl := lt_of_block h.pbx; have hwl := lt_of_block hwb; have HPB : Hid _ := h.pbx; have HIN : Hid (PI c w0 w q nest o) := h.inn; have HS0 : Hid (∀ w', Below w.heap.size w w' → w'.cell? ⟨pb, 0, none⟩ = some (nptr c.b) ∧ (w'.cell? ⟨wb, 0, none⟩ = some (.int .i64 (t.1 : Nat)) ∧ w'.cell? ⟨wb, 1, none⟩ = some (.int .i64 (t.2.length : Nat)) ∧ w'.cell? ⟨wb, 2, none⟩ = some (.string (wd t 0)) ∧ w'.cell? ⟨wb, 3, none⟩ = some (.string (wd t 1)) ∧ w'.cell? ⟨wb, 4, none⟩ = some (.string (wd t 2)) ∧ w'.cell? ⟨wb, 5, none⟩ = some (.string (wd t 3)) ∧ w'.cell? ⟨wb, 6, none⟩ = some (.string (wd t 4)) ∧ w'.cell? ⟨wb, 7, none⟩ = some (.string (wd t 5)))) := by
  intro w' hb; exact ⟨blk_cell ((hb.block pb hpl).trans HPB.out) rfl, ty_cells ((hb.block wb hwl).trans HWB.out)⟩
 clear hws ht hwb hwb' hw6 h hT; go_enter Tryz.func199, Tryz.ntmps199; go_upto_region 0 with fail; go_cut [20] from 2 (fun v20 wc => ∃ fb : Bool, v20 = .bool fb ∧ Hid (Below w.heap.size w wc) ∧ Hid (fb = (q.isK c.T 5 && t.2.contains (Lib.trimB (Wk.tokK c.T q.k).text.data.toList 34))))
 case first =>
  cases K5 : q.isK c.T 5 with
  | false =>
   rw [K5] at HD; have HKF : Hid _ := K5; clear K5; have HX : Hid _ := HS0.out w.drew (Below.refl _ _).drew; refine wp_region_ph (fun w' => w'.cell? ⟨pb, 0, none⟩ = some (nptr c.b) ∧ (w'.cell? ⟨wb, 0, none⟩ = some (.int .i64 (t.1 : Nat)) ∧ w'.cell? ⟨wb, 1, none⟩ = some (.int .i64 (t.2.length : Nat)) ∧ w'.cell? ⟨wb, 2, none⟩ = some (.string (wd t 0)) ∧ w'.cell? ⟨wb, 3, none⟩ = some (.string (wd t 1)) ∧ w'.cell? ⟨wb, 4, none⟩ = some (.string (wd t 2)) ∧ w'.cell? ⟨wb, 5, none⟩ = some (.string (wd t 3)) ∧ w'.cell? ⟨wb, 6, none⟩ = some (.string (wd t 4)) ∧ w'.cell? ⟨wb, 7, none⟩ = some (.string (wd t 5)))) 19 19 rfl (by kernel_rfl) HX.out (fun hHeld => ?_); clear hHeld; refine PhS.t 0 2 HX.out ?_; refine PhS.on 1 (fun K hK => ?_); go_simp; refine (j_next HIN.out.drew).mono ?_; rintro e w2 ⟨rfl, rfl⟩; have HX2 : Hid _ := HS0.out w.drew.drew (Below.refl _ _).drew.drew; refine hK.out _ _ (fun _ => HX2.out) ?_; clear hK K; generalize ((Wk.tokK c.T (ppAt c.T q)).kind : Int) = nk at *
   have d5 : (nk == 5) = false := HD.out; try simp only [Act.put, sA, sZ, sS]
   refine PhS.t 2 4 HX2.out ?_; refine PhS.t 3 5 HX2.out ?_; refine PhS.sk 4 (some 6) HX2.out ?_; try simp only [Act.put, sA, sZ, sS]
   refine PhS.sk 5 (some 7) HX2.out ?_; try simp only [Act.put, sA, sZ, sS]
   refine PhS.sk 6 (some 8) HX2.out ?_; try simp only [Act.put, sA, sZ, sS]
   refine PhS.sk 7 (some 9) HX2.out ?_; try simp only [Act.put, sA, sZ, sS]
   refine PhS.sk 8 (some 10) HX2.out ?_; try simp only [Act.put, sA, sZ, sS]
   refine PhS.sk 9 (some 11) HX2.out ?_; try simp only [Act.put, sA, sZ, sS]
   refine PhS.sk 10 (some 12) HX2.out ?_; try simp only [Act.put, sA, sZ, sS]
   refine PhS.sk 11 (some 13) HX2.out ?_; try simp only [Act.put, sA, sZ, sS]
   refine PhS.sk 12 (some 14) HX2.out ?_; try simp only [Act.put, sA, sZ, sS]
   refine PhS.sk 13 (some 15) HX2.out ?_; try simp only [Act.put, sA, sZ, sS]
   refine PhS.sk 14 (some 16) HX2.out ?_; try simp only [Act.put, sA, sZ, sS]
   refine PhS.sk 15 (some 17) HX2.out ?_; try simp only [Act.put, sA, sZ, sS]
   refine PhS.sk 16 (some 18) HX2.out ?_; try simp only [Act.put, sA, sZ, sS]
   refine PhS.sk 17 (some 19) HX2.out ?_; try simp only [Act.put, sA, sZ, sS]
   refine PhS.t 18 20 HX2.out ?_; refine PhS.done (by kernel_rfl) ?_ _; go_wp2_with fail; go_meet; exact ⟨false, rfl, (Below.refl _ _).drew.drew, by show _ = _; rw [HKF.out]; rfl⟩
  | true =>
   rw [K5] at HD; have hk5 := Wk.isK_iff.1 K5; have hkl := HIN.out.ok hk5.1; obtain ⟨ms, ma, hP, -⟩ := HIN.out.pp; have p0 := bc 0 hP.box rfl; have p1 := bc 1 hP.box rfl; rw [ppAt_ok hk5.1] at p1; have p2 := (hP.toks.cells q.k hkl).2.2; have hbl := lt_of_block hP.box; have htl := cell_lt p2; have hcp := hP.toks.cap; have hsz := HT.out.size q.k hkl; obtain ⟨tx, htx⟩ : ∃ x, x = (Wk.tokK c.T q.k).text := ⟨_, rfl⟩
   rw [← htx] at p2 hsz; obtain ⟨at_, hat⟩ : ∃ a, a = q.k := ⟨_, rfl⟩
   rw [← hat] at p1 p2 hkl; have HTX : Hid _ := htx; have HKT : Hid _ := K5; have hk0 : (0 : Int) ≤ (at_ : Int) := by omega
   have hk1 : (at_ : Int) < (c.T.length : Int) := by omega
   have HS1 : Hid (∀ w', Below w.heap.size w w' → w'.cell? ⟨pb, 0, none⟩ = some (nptr c.b) ∧ (w'.cell? ⟨wb, 0, none⟩ = some (.int .i64 (t.1 : Nat)) ∧ w'.cell? ⟨wb, 1, none⟩ = some (.int .i64 (t.2.length : Nat)) ∧ w'.cell? ⟨wb, 2, none⟩ = some (.string (wd t 0)) ∧ w'.cell? ⟨wb, 3, none⟩ = some (.string (wd t 1)) ∧ w'.cell? ⟨wb, 4, none⟩ = some (.string (wd t 2)) ∧ w'.cell? ⟨wb, 5, none⟩ = some (.string (wd t 3)) ∧ w'.cell? ⟨wb, 6, none⟩ = some (.string (wd t 4)) ∧ w'.cell? ⟨wb, 7, none⟩ = some (.string (wd t 5))) ∧ w'.cell? ⟨c.b, 0, none⟩ = some (.slice (some ⟨c.tg, 0, none⟩) c.T.length c.tc) ∧ w'.cell? ⟨c.b, 1, none⟩ = some (.int .i64 (at_ : Int)) ∧ w'.cell? ⟨c.tg, at_ * 3 + 2, none⟩ = some (.string tx)) := by
    intro w' hb; obtain ⟨x1, x2⟩ := HS0.out w' hb; exact ⟨x1, x2, (hb.cell (p := ⟨c.b, 0, none⟩) hbl).trans p0, (hb.cell (p := ⟨c.b, 1, none⟩) hbl).trans p1, (hb.cell (p := ⟨c.tg, at_ * 3 + 2, none⟩) htl).trans p2⟩
   clear hP p0 p1 p2 hk5 htx hat K5; have HX : Hid _ := HS1.out w.drew (Below.refl _ _).drew; refine wp_region_ph (fun w' => w'.cell? ⟨pb, 0, none⟩ = some (nptr c.b) ∧ (w'.cell? ⟨wb, 0, none⟩ = some (.int .i64 (t.1 : Nat)) ∧ w'.cell? ⟨wb, 1, none⟩ = some (.int .i64 (t.2.length : Nat)) ∧ w'.cell? ⟨wb, 2, none⟩ = some (.string (wd t 0)) ∧ w'.cell? ⟨wb, 3, none⟩ = some (.string (wd t 1)) ∧ w'.cell? ⟨wb, 4, none⟩ = some (.string (wd t 2)) ∧ w'.cell? ⟨wb, 5, none⟩ = some (.string (wd t 3)) ∧ w'.cell? ⟨wb, 6, none⟩ = some (.string (wd t 4)) ∧ w'.cell? ⟨wb, 7, none⟩ = some (.string (wd t 5))) ∧ w'.cell? ⟨c.b, 0, none⟩ = some (.slice (some ⟨c.tg, 0, none⟩) c.T.length c.tc) ∧ w'.cell? ⟨c.b, 1, none⟩ = some (.int .i64 (at_ : Int)) ∧ w'.cell? ⟨c.tg, at_ * 3 + 2, none⟩ = some (.string tx)) 19 19 rfl (by kernel_rfl) HX.out (fun hHeld => ?_); clear hHeld; refine PhS.t 0 2 HX.out ?_; refine PhS.on 1 (fun K hK => ?_); go_simp; refine (j_next HIN.out.drew).mono ?_; rintro e w2 ⟨rfl, rfl⟩; have HX2 : Hid _ := HS1.out w.drew.drew (Below.refl _ _).drew.drew; refine hK.out _ _ (fun _ => HX2.out) ?_; clear hK K; generalize ((Wk.tokK c.T (ppAt c.T q)).kind : Int) = nk at *
   have d5 : (nk == 5) = true := HD.out; try simp only [Act.put, sA, sZ, sS]
   refine PhS.t 2 4 HX2.out ?_; refine PhS.t 3 5 HX2.out ?_; refine PhS.t 4 6 HX2.out ?_; refine PhS.t 5 7 HX2.out ?_; refine PhS.t 6 8 HX2.out ?_; refine PhS.t 7 9 HX2.out ?_; refine PhS.t 8 10 HX2.out ?_; refine PhS.t 9 11 HX2.out ?_; refine PhS.t 10 12 HX2.out ?_; refine PhS.t 11 13 HX2.out ?_; refine PhS.t 12 14 HX2.out ?_; refine PhS.t 13 15 HX2.out ?_; refine PhS.t 14 16 HX2.out ?_; refine PhS.t 15 17 HX2.out ?_; refine PhS.on 16 (fun K hK => ?_); go_simp; refine (p_unquote tx (by omega) _).mono ?_; rintro e w3 ⟨rfl, hb3⟩; have hb3 : Below w.heap.size w w3 := (Below.refl _ _).drew.drew.trans hb3; have HX3 : Hid _ := HS1.out w3 hb3; refine hK.out _ _ (fun _ => HX3.out) ?_; have HB3 : Hid _ := hb3; clear hK K hb3; try simp only [Act.put, sA, sZ, sS]
   refine PhS.on 17 (fun K hK => ?_); go_simp; refine (p_Has t h6 ⟨(Lib.trimB tx.data.toList 34).toArray⟩ _).mono ?_; rintro e w4 ⟨rfl, hb4⟩; have hb4 : Below w.heap.size w w4 := HB3.out.trans (hb4.mono HB3.out.size); have HX4 : Hid _ := HS1.out w4 hb4; refine hK.out _ _ (fun _ => HX4.out) ?_; have HB4 : Hid _ := hb4; clear hK K hb4; generalize hcb : t.2.contains (ByteArray.mk (Lib.trimB tx.data.toList 34).toArray).data.toList = cb at *
   have HCB : Hid _ := hcb; clear hcb; refine PhS.t 18 20 HX4.out ?_; refine PhS.done (by kernel_rfl) ?_ _; go_wp2_with fail; go_meet; exact ⟨cb, rfl, HB4, by show _ = _; rw [HKT.out, ← HTX.out, ← HCB.out]; simp⟩
 case rest =>
  obtain ⟨fb, rfl, HB, HFB⟩ := hcut; have HPB1 : Hid _ := (HB.out.block pb hpl).trans HPB.out; have HWB1 : Hid _ := (HB.out.block wb hwl).trans HWB.out; have HI1 : Hid (PI c w0 wc q nest o) := HIN.out.below HB.out; have HH1 : Hid (WI c w0 pb rb wb nest o n wc (q, ws0)) := HH.out.step (q' := q) (HIN.out.self.below HB.out) id; have cp := bc 0 HPB1.out rfl; clear HS0 HD HIN HPB HWB HH; have hbne := HI1.out.blt; have hnw := HH1.out.new; obtain ⟨qa, na, oa, hta⟩ := HH1.out.top; have hba := hta.blt; have HCD : Hid (fb = (q.isK c.T 5 && ws0.contains (Wk.unq (Wk.tokK c.T q.k).text))) := by
   show _ = _; rw [HFB.out]; cases hK : q.isK c.T 5 with
   | false => rfl
   | true =>
    have hk5 := Wk.isK_iff.1 hK; rw [HT.out.trim q.k (HI1.out.ok hk5.1) hk5.2, ← HTT.out, HWS.out hk5.1]
  cases fb with
  | true =>
   have HSTEP : Hid (wordStep c.T (q, ws0) = ((q.fail c.T).want c.T 5, ws0 ++ [Wk.unq (Wk.tokK c.T q.k).text])) := by
    show ((if q.isK c.T 5 && ws0.contains (Wk.unq (Wk.tokK c.T q.k).text) then q.fail c.T else q).want c.T 5, _) = _; rw [← HCD.out]; rfl
   clear HCD HFB; go_wp2_with fail; refine (j_fail HI1.out.self o).mono ?_; rintro e w2 ⟨rfl, hI2⟩; have HI2 : Hid _ := hI2; clear hI2; have HWBx : Hid _ := HI2.out.blk HWB1.out (by omega); have HH2 : Hid (WI c w0 pb rb wb nest o n w2 (q.fail c.T, ws0)) := HH1.out.step (q' := q.fail c.T) HI2.out (fun e => absurd e pfail_some); go_upto_region 2 with fail; have HX : Hid (w2.drew.cell? ⟨pb, 0, none⟩ = some (nptr c.b) ∧ (w2.drew.cell? ⟨wb, 0, none⟩ = some (.int .i64 (t.1 : Nat)) ∧ w2.drew.cell? ⟨wb, 1, none⟩ = some (.int .i64 (t.2.length : Nat)) ∧ w2.drew.cell? ⟨wb, 2, none⟩ = some (.string (wd t 0)) ∧ w2.drew.cell? ⟨wb, 3, none⟩ = some (.string (wd t 1)) ∧ w2.drew.cell? ⟨wb, 4, none⟩ = some (.string (wd t 2)) ∧ w2.drew.cell? ⟨wb, 5, none⟩ = some (.string (wd t 3)) ∧ w2.drew.cell? ⟨wb, 6, none⟩ = some (.string (wd t 4)) ∧ w2.drew.cell? ⟨wb, 7, none⟩ = some (.string (wd t 5)))) := ⟨blk_cell HH2.out.pbx rfl, ty_cells (w := w2) HWBx.out⟩
   refine wp_region_ph (fun w' => w'.cell? ⟨pb, 0, none⟩ = some (nptr c.b) ∧ (w'.cell? ⟨wb, 0, none⟩ = some (.int .i64 (t.1 : Nat)) ∧ w'.cell? ⟨wb, 1, none⟩ = some (.int .i64 (t.2.length : Nat)) ∧ w'.cell? ⟨wb, 2, none⟩ = some (.string (wd t 0)) ∧ w'.cell? ⟨wb, 3, none⟩ = some (.string (wd t 1)) ∧ w'.cell? ⟨wb, 4, none⟩ = some (.string (wd t 2)) ∧ w'.cell? ⟨wb, 5, none⟩ = some (.string (wd t 3)) ∧ w'.cell? ⟨wb, 6, none⟩ = some (.string (wd t 4)) ∧ w'.cell? ⟨wb, 7, none⟩ = some (.string (wd t 5)))) 6 7 rfl (by kernel_rfl) HX.out (fun hHeld => ?_); clear hHeld; refine PhS.t 0 23 HX.out ?_; refine PhS.t 1 24 HX.out ?_; refine PhS.on 2 (fun K hK => ?_); go_simp; refine (j_want HH2.out.inn.drew.self 5).mono ?_; rintro e w3 ⟨he, hI3⟩; obtain ⟨a, b', tx, rfl, hsz, htx⟩ := want_text HT.out HH2.out.inn.ok he; have HTX : Hid _ := htx; have HI3 : Hid (PI c w2 w3 ((q.fail c.T).want c.T 5) nest o) := HH2.out.inn.self.drew.trans hI3; have HH3 : Hid (WI c w0 pb rb wb nest o n w3 ((q.fail c.T).want c.T 5, ws0)) := HH2.out.step HI3.out pwant_bad; have HWB3 : Hid (w3.heap[wb]? = some (.cells #[.int .i64 (t.1 : Nat), .int .i64 (t.2.length : Nat), .string (wd t 0), .string (wd t 1), .string (wd t 2), .string (wd t 3), .string (wd t 4), .string (wd t 5)] 69 (0, 0))) := HI3.out.blk HWBx.out (by omega); have HX3 : Hid (w3.cell? ⟨pb, 0, none⟩ = some (nptr c.b) ∧ (w3.cell? ⟨wb, 0, none⟩ = some (.int .i64 (t.1 : Nat)) ∧ w3.cell? ⟨wb, 1, none⟩ = some (.int .i64 (t.2.length : Nat)) ∧ w3.cell? ⟨wb, 2, none⟩ = some (.string (wd t 0)) ∧ w3.cell? ⟨wb, 3, none⟩ = some (.string (wd t 1)) ∧ w3.cell? ⟨wb, 4, none⟩ = some (.string (wd t 2)) ∧ w3.cell? ⟨wb, 5, none⟩ = some (.string (wd t 3)) ∧ w3.cell? ⟨wb, 6, none⟩ = some (.string (wd t 4)) ∧ w3.cell? ⟨wb, 7, none⟩ = some (.string (wd t 5)))) := ⟨blk_cell HH3.out.pbx rfl, ty_cells HWB3.out⟩
   refine hK.out _ _ (fun _ => HX3.out) ?_; have hfl := field134 a b' tx; clear hK K hI3 he htx; try simp only [Act.put, sA, sZ, sS]
   refine PhS.t 3 26 HX3.out ?_; refine PhS.on 4 (fun K hK => ?_); go_simp; refine (p_unquote tx (by omega) _).mono ?_; rintro e w4 ⟨rfl, hb4⟩; have HB4 : Hid _ := hb4; have HX4 : Hid (w4.cell? ⟨pb, 0, none⟩ = some (nptr c.b) ∧ (w4.cell? ⟨wb, 0, none⟩ = some (.int .i64 (t.1 : Nat)) ∧ w4.cell? ⟨wb, 1, none⟩ = some (.int .i64 (t.2.length : Nat)) ∧ w4.cell? ⟨wb, 2, none⟩ = some (.string (wd t 0)) ∧ w4.cell? ⟨wb, 3, none⟩ = some (.string (wd t 1)) ∧ w4.cell? ⟨wb, 4, none⟩ = some (.string (wd t 2)) ∧ w4.cell? ⟨wb, 5, none⟩ = some (.string (wd t 3)) ∧ w4.cell? ⟨wb, 6, none⟩ = some (.string (wd t 4)) ∧ w4.cell? ⟨wb, 7, none⟩ = some (.string (wd t 5)))) := ⟨blk_cell ((hb4.block pb (lt_of_block HH3.out.pbx)).trans HH3.out.pbx) rfl, ty_cells ((hb4.block wb (lt_of_block HWB3.out)).trans HWB3.out)⟩
   refine hK.out _ _ (fun _ => HX4.out) ?_; clear hK K hb4; try simp only [Act.put, sA, sZ, sS]
   generalize htr : (⟨(Lib.trimB tx.data.toList 34).toArray⟩ : ByteArray) = tr at *
   have HTR : Hid (tr.data.toList = Lib.trimB tx.data.toList 34) := by
    show _ = _; rw [← htr]
   clear htr; refine PhS.on 5 (fun K hK => ?_); go_simp; refine (p_With t h6 tr _).mono ?_; rintro e w5 ⟨rfl, hb5⟩; have HB5 : Hid (Below w3.heap.size w3 w5) := HB4.out.trans (hb5.mono HB4.out.size); have HWB5 : Hid (w5.heap[wb]? = some (.cells #[.int .i64 (t.1 : Nat), .int .i64 (t.2.length : Nat), .string (wd t 0), .string (wd t 1), .string (wd t 2), .string (wd t 3), .string (wd t 4), .string (wd t 5)] 69 (0, 0))) := (HB5.out.block wb (lt_of_block HWB3.out)).trans HWB3.out; have HX5 : Hid (w5.cell? ⟨pb, 0, none⟩ = some (nptr c.b) ∧ (w5.cell? ⟨wb, 0, none⟩ = some (.int .i64 (t.1 : Nat)) ∧ w5.cell? ⟨wb, 1, none⟩ = some (.int .i64 (t.2.length : Nat)) ∧ w5.cell? ⟨wb, 2, none⟩ = some (.string (wd t 0)) ∧ w5.cell? ⟨wb, 3, none⟩ = some (.string (wd t 1)) ∧ w5.cell? ⟨wb, 4, none⟩ = some (.string (wd t 2)) ∧ w5.cell? ⟨wb, 5, none⟩ = some (.string (wd t 3)) ∧ w5.cell? ⟨wb, 6, none⟩ = some (.string (wd t 4)) ∧ w5.cell? ⟨wb, 7, none⟩ = some (.string (wd t 5)))) := ⟨blk_cell ((HB5.out.block pb (lt_of_block HH3.out.pbx)).trans HH3.out.pbx) rfl, ty_cells HWB5.out⟩
   refine hK.out _ _ (fun _ => HX5.out) ?_; clear hK K hb5; generalize ht2 : (if t.2.length < 6 then (t.1, t.2 ++ [tr.data.toList]) else t : Wk.Ty) = t2 at *
   have HT2 : Hid _ := ht2; clear ht2; obtain ⟨y0, y1, y2, y3, y4, y5, y6, y7⟩ := ty_cells HWB5.out; have hfr := blk_free HWB5.out; try simp only [Act.put, sA, sZ, sS]
   unfold tyV; refine PhS.on 6 (fun K hK => ?_); go_simp; refine hK.out _ _ (fun h => absurd h (by decide)) ?_; clear hK K; refine PhS.done (by kernel_rfl) ?_ _; go_wp2_with fail; go_end0
   have h31 : t2.1 = 3 := by rw [← HT2.out, ← HTT.out]; split <;> rfl
   have h26 : t2.2.length ≤ 6 := by
    rw [← HT2.out]; split
    ·simp; omega
    ·exact h6
   have hgood : ((q.fail c.T).want c.T 5).bad = none → t2.2 = ws0 ++ [Wk.unq (Wk.tokK c.T q.k).text] := by
    intro hb; have hK := want_ok hb; have hbq := (Wk.isK_iff.1 hK).1; exact absurd hbq pfail_some
   rw [HSTEP.out]; refine ⟨rfl, ⟨?_, HH2.out.top, ?_, ?_, ⟨t2.2, ?_, h26, hgood⟩, ⟨by simp; exact HH2.out.len.1, by omega⟩, HH2.out.new⟩⟩
   ·exact (HH3.out.inn.below HB5.out).setTy hta hnw.2.2.1 t2
   ·exact (setTy_other (w := w5) hnw.2.2.2.1 t2).trans ((HB5.out.block pb (lt_of_block HH3.out.pbx)).trans HH3.out.pbx)
   ·exact (setTy_other (w := w5) hnw.2.2.2.2 t2).trans ((HB5.out.block rb (lt_of_block HH3.out.rbx)).trans HH3.out.rbx)
   ·have := setTy_at HWB5.out t2; obtain ⟨t21, t22⟩ := t2; have h31 : t21 = 3 := h31; subst h31; exact this
  | false =>
   have HSTEP : Hid (wordStep c.T (q, ws0) = (q.want c.T 5, ws0 ++ [Wk.unq (Wk.tokK c.T q.k).text])) := by
    show ((if q.isK c.T 5 && ws0.contains (Wk.unq (Wk.tokK c.T q.k).text) then q.fail c.T else q).want c.T 5, _) = _; rw [← HCD.out]; rfl
   clear HCD HFB; have HWBx : Hid _ := HWB1.out; go_upto_region 2 with fail; have HX : Hid (wc.drew.cell? ⟨pb, 0, none⟩ = some (nptr c.b) ∧ (wc.drew.cell? ⟨wb, 0, none⟩ = some (.int .i64 (t.1 : Nat)) ∧ wc.drew.cell? ⟨wb, 1, none⟩ = some (.int .i64 (t.2.length : Nat)) ∧ wc.drew.cell? ⟨wb, 2, none⟩ = some (.string (wd t 0)) ∧ wc.drew.cell? ⟨wb, 3, none⟩ = some (.string (wd t 1)) ∧ wc.drew.cell? ⟨wb, 4, none⟩ = some (.string (wd t 2)) ∧ wc.drew.cell? ⟨wb, 5, none⟩ = some (.string (wd t 3)) ∧ wc.drew.cell? ⟨wb, 6, none⟩ = some (.string (wd t 4)) ∧ wc.drew.cell? ⟨wb, 7, none⟩ = some (.string (wd t 5)))) := ⟨blk_cell HH1.out.pbx rfl, ty_cells (w := wc) HWBx.out⟩
   refine wp_region_ph (fun w' => w'.cell? ⟨pb, 0, none⟩ = some (nptr c.b) ∧ (w'.cell? ⟨wb, 0, none⟩ = some (.int .i64 (t.1 : Nat)) ∧ w'.cell? ⟨wb, 1, none⟩ = some (.int .i64 (t.2.length : Nat)) ∧ w'.cell? ⟨wb, 2, none⟩ = some (.string (wd t 0)) ∧ w'.cell? ⟨wb, 3, none⟩ = some (.string (wd t 1)) ∧ w'.cell? ⟨wb, 4, none⟩ = some (.string (wd t 2)) ∧ w'.cell? ⟨wb, 5, none⟩ = some (.string (wd t 3)) ∧ w'.cell? ⟨wb, 6, none⟩ = some (.string (wd t 4)) ∧ w'.cell? ⟨wb, 7, none⟩ = some (.string (wd t 5)))) 6 7 rfl (by kernel_rfl) HX.out (fun hHeld => ?_); clear hHeld; refine PhS.t 0 23 HX.out ?_; refine PhS.t 1 24 HX.out ?_; refine PhS.on 2 (fun K hK => ?_); go_simp; refine (j_want HH1.out.inn.drew.self 5).mono ?_; rintro e w3 ⟨he, hI3⟩; obtain ⟨a, b', tx, rfl, hsz, htx⟩ := want_text HT.out HH1.out.inn.ok he; have HTX : Hid _ := htx; have HI3 : Hid (PI c wc w3 ((q).want c.T 5) nest o) := HH1.out.inn.self.drew.trans hI3; have HH3 : Hid (WI c w0 pb rb wb nest o n w3 ((q).want c.T 5, ws0)) := HH1.out.step HI3.out pwant_bad; have HWB3 : Hid (w3.heap[wb]? = some (.cells #[.int .i64 (t.1 : Nat), .int .i64 (t.2.length : Nat), .string (wd t 0), .string (wd t 1), .string (wd t 2), .string (wd t 3), .string (wd t 4), .string (wd t 5)] 69 (0, 0))) := HI3.out.blk HWBx.out (by omega); have HX3 : Hid (w3.cell? ⟨pb, 0, none⟩ = some (nptr c.b) ∧ (w3.cell? ⟨wb, 0, none⟩ = some (.int .i64 (t.1 : Nat)) ∧ w3.cell? ⟨wb, 1, none⟩ = some (.int .i64 (t.2.length : Nat)) ∧ w3.cell? ⟨wb, 2, none⟩ = some (.string (wd t 0)) ∧ w3.cell? ⟨wb, 3, none⟩ = some (.string (wd t 1)) ∧ w3.cell? ⟨wb, 4, none⟩ = some (.string (wd t 2)) ∧ w3.cell? ⟨wb, 5, none⟩ = some (.string (wd t 3)) ∧ w3.cell? ⟨wb, 6, none⟩ = some (.string (wd t 4)) ∧ w3.cell? ⟨wb, 7, none⟩ = some (.string (wd t 5)))) := ⟨blk_cell HH3.out.pbx rfl, ty_cells HWB3.out⟩
   refine hK.out _ _ (fun _ => HX3.out) ?_; have hfl := field134 a b' tx; clear hK K hI3 he htx; try simp only [Act.put, sA, sZ, sS]
   refine PhS.t 3 26 HX3.out ?_; refine PhS.on 4 (fun K hK => ?_); go_simp; refine (p_unquote tx (by omega) _).mono ?_; rintro e w4 ⟨rfl, hb4⟩; have HB4 : Hid _ := hb4; have HX4 : Hid (w4.cell? ⟨pb, 0, none⟩ = some (nptr c.b) ∧ (w4.cell? ⟨wb, 0, none⟩ = some (.int .i64 (t.1 : Nat)) ∧ w4.cell? ⟨wb, 1, none⟩ = some (.int .i64 (t.2.length : Nat)) ∧ w4.cell? ⟨wb, 2, none⟩ = some (.string (wd t 0)) ∧ w4.cell? ⟨wb, 3, none⟩ = some (.string (wd t 1)) ∧ w4.cell? ⟨wb, 4, none⟩ = some (.string (wd t 2)) ∧ w4.cell? ⟨wb, 5, none⟩ = some (.string (wd t 3)) ∧ w4.cell? ⟨wb, 6, none⟩ = some (.string (wd t 4)) ∧ w4.cell? ⟨wb, 7, none⟩ = some (.string (wd t 5)))) := ⟨blk_cell ((hb4.block pb (lt_of_block HH3.out.pbx)).trans HH3.out.pbx) rfl, ty_cells ((hb4.block wb (lt_of_block HWB3.out)).trans HWB3.out)⟩
   refine hK.out _ _ (fun _ => HX4.out) ?_; clear hK K hb4; try simp only [Act.put, sA, sZ, sS]
   generalize htr : (⟨(Lib.trimB tx.data.toList 34).toArray⟩ : ByteArray) = tr at *
   have HTR : Hid (tr.data.toList = Lib.trimB tx.data.toList 34) := by
    show _ = _; rw [← htr]
   clear htr; refine PhS.on 5 (fun K hK => ?_); go_simp; refine (p_With t h6 tr _).mono ?_; rintro e w5 ⟨rfl, hb5⟩; have HB5 : Hid (Below w3.heap.size w3 w5) := HB4.out.trans (hb5.mono HB4.out.size); have HWB5 : Hid (w5.heap[wb]? = some (.cells #[.int .i64 (t.1 : Nat), .int .i64 (t.2.length : Nat), .string (wd t 0), .string (wd t 1), .string (wd t 2), .string (wd t 3), .string (wd t 4), .string (wd t 5)] 69 (0, 0))) := (HB5.out.block wb (lt_of_block HWB3.out)).trans HWB3.out; have HX5 : Hid (w5.cell? ⟨pb, 0, none⟩ = some (nptr c.b) ∧ (w5.cell? ⟨wb, 0, none⟩ = some (.int .i64 (t.1 : Nat)) ∧ w5.cell? ⟨wb, 1, none⟩ = some (.int .i64 (t.2.length : Nat)) ∧ w5.cell? ⟨wb, 2, none⟩ = some (.string (wd t 0)) ∧ w5.cell? ⟨wb, 3, none⟩ = some (.string (wd t 1)) ∧ w5.cell? ⟨wb, 4, none⟩ = some (.string (wd t 2)) ∧ w5.cell? ⟨wb, 5, none⟩ = some (.string (wd t 3)) ∧ w5.cell? ⟨wb, 6, none⟩ = some (.string (wd t 4)) ∧ w5.cell? ⟨wb, 7, none⟩ = some (.string (wd t 5)))) := ⟨blk_cell ((HB5.out.block pb (lt_of_block HH3.out.pbx)).trans HH3.out.pbx) rfl, ty_cells HWB5.out⟩
   refine hK.out _ _ (fun _ => HX5.out) ?_; clear hK K hb5; generalize ht2 : (if t.2.length < 6 then (t.1, t.2 ++ [tr.data.toList]) else t : Wk.Ty) = t2 at *
   have HT2 : Hid _ := ht2; clear ht2; obtain ⟨y0, y1, y2, y3, y4, y5, y6, y7⟩ := ty_cells HWB5.out; have hfr := blk_free HWB5.out; try simp only [Act.put, sA, sZ, sS]
   unfold tyV; refine PhS.on 6 (fun K hK => ?_); go_simp; refine hK.out _ _ (fun h => absurd h (by decide)) ?_; clear hK K; refine PhS.done (by kernel_rfl) ?_ _; go_wp2_with fail; go_end0
   have h31 : t2.1 = 3 := by rw [← HT2.out, ← HTT.out]; split <;> rfl
   have h26 : t2.2.length ≤ 6 := by
    rw [← HT2.out]; split
    ·simp; omega
    ·exact h6
   have hgood : ((q).want c.T 5).bad = none → t2.2 = ws0 ++ [Wk.unq (Wk.tokK c.T q.k).text] := by
    intro hb; have hK := want_ok hb; have hbq := (Wk.isK_iff.1 hK).1
    skip
    have e1 := HWS.out hbq; have e2 := (HTX.out hK).1; have e3 := HT.out.trim q.k (HH1.out.inn.ok hbq) (Wk.isK_iff.1 hK).2; have e4 : t.2 = ws0 := by rw [← HTT.out]; exact e1
    have e5 : t.2.length = n := by rw [e4]; exact HH1.out.len.1
    rw [← HT2.out, if_pos (by omega), HTR.out, e2, e3, e4]
   rw [HSTEP.out]; refine ⟨rfl, ⟨?_, HH1.out.top, ?_, ?_, ⟨t2.2, ?_, h26, hgood⟩, ⟨by simp; exact HH1.out.len.1, by omega⟩, HH1.out.new⟩⟩
   ·exact (HH3.out.inn.below HB5.out).setTy hta hnw.2.2.1 t2
   ·exact (setTy_other (w := w5) hnw.2.2.2.1 t2).trans ((HB5.out.block pb (lt_of_block HH3.out.pbx)).trans HH3.out.pbx)
   ·exact (setTy_other (w := w5) hnw.2.2.2.2 t2).trans ((HB5.out.block rb (lt_of_block HH3.out.rbx)).trans HH3.out.rbx)
   ·have := setTy_at HWB5.out t2; obtain ⟨t21, t22⟩ := t2; have h31 : t21 = 3 := h31; subst h31; exact this
def typEndP (T : List Wk.Tok) (q : Wk.St) (e : Ending) : Prop := ∃ t : Wk.Ty, e = .returned (tyV t) ∧ TyW t ∧ ((Wk.pType T q).1.bad = none → t = (Wk.pType T q).2)
theorem eg199 : ∀ args w, (callFunc 199 args).run Tryz.prog w = .ok (.enter 199 args) w := fun args w => by simp [go_sem]
theorem j_typeOf {c : Cx} (hT : TP c.T) {w0 w : World} {q : Wk.St} {nest : Int} {o : Option Nat} (h : PI c w0 w q nest o) :
  Calls Tryz.prog 167 #[nptr c.b] w fun e w' => typEndP c.T q e ∧ PI c w0 w' (Wk.pType c.T q).1 nest o := by
 have HH : Hid (PI c w0 w q nest o) := h; have HS : Hid (PI c w w q nest o) := h.self; have hblt := h.blt; have HT : Hid _ := hT; have HPB : Hid (((w.alloc (.cells #[nptr c.b] 209)).alloc (.cells #[.int .i64 0, .int .i64 0, .string ⟨#[]⟩, .string ⟨#[]⟩, .string ⟨#[]⟩, .string ⟨#[]⟩, .string ⟨#[]⟩, .string ⟨#[]⟩] 69)).heap[w.heap.size]? = some (.cells #[nptr c.b] 209 (0, 0))) := blk_alloc _ (heap_alloc_new w _); have HRB : Hid (((w.alloc (.cells #[nptr c.b] 209)).alloc (.cells #[.int .i64 0, .int .i64 0, .string ⟨#[]⟩, .string ⟨#[]⟩, .string ⟨#[]⟩, .string ⟨#[]⟩, .string ⟨#[]⟩, .string ⟨#[]⟩] 69)).heap[w.heap.size + 1]? = some (.cells #[.int .i64 0, .int .i64 0, .string ⟨#[]⟩, .string ⟨#[]⟩, .string ⟨#[]⟩, .string ⟨#[]⟩, .string ⟨#[]⟩, .string ⟨#[]⟩] 69 (0, 0))) := by
  have := heap_alloc_new (w.alloc (.cells #[nptr c.b] 209)) (.cells #[.int .i64 0, .int .i64 0, .string ⟨#[]⟩, .string ⟨#[]⟩, .string ⟨#[]⟩, .string ⟨#[]⟩, .string ⟨#[]⟩, .string ⟨#[]⟩] 69); rw [sz_alloc] at this; exact this
 clear h hT; cases K9 : q.isK c.T 9 with
 | true =>
   have HP : Hid (Wk.pType c.T q = (q.adv, (1, []))) := by
    show _ = _; unfold Wk.pType; rw [K9]; rfl
   have HK : Hid _ := K9; clear K9; go_enter Tryz.func167, Tryz.ntmps167; go_wp2_with fail; refine (j_has (((HS.out.alloc _).alloc _).self) 9).mono ?_; rintro e w1 ⟨rfl, hI⟩; rw [HK.out] at *
   rw [if_pos rfl] at hI; have HI1 : Hid _ := hI; clear hI; have u := HI1.out.blk HRB.out (by omega); obtain ⟨y0, y1, y2, y3, y4, y5, y6, y7⟩ := ty_cells (t := (0, [])) u; have hfr := blk_free u; clear u; go_wp2_with fail; refine bodyPost_ret (v := tyV (1, [])) (by simp [results, Tryz.results167, go_sem, tyV_plain, y0, y1, y2, y3, y4, y5, y6, y7]) rfl ⟨⟨(1, []), rfl, TyW.plain 1, fun _ => by rw [HP.out]⟩, ?_⟩; rw [HP.out]; exact HH.out.trans ((((HS.out.alloc _).alloc _).trans HI1.out).setTy HS.out (Nat.le_succ _) (1, []))
 | false =>
  cases K10 : q.isK c.T 10 with
  | true =>
   have HP : Hid (Wk.pType c.T q = (q.adv, (2, []))) := by
    show _ = _; unfold Wk.pType; rw [K9, K10]; rfl
   have HK9 : Hid _ := K9; have HK : Hid _ := K10; clear K9 K10; go_enter Tryz.func167, Tryz.ntmps167; go_wp2_with fail; refine (j_has (((HS.out.alloc _).alloc _).self) 9).mono ?_; rintro e w1 ⟨rfl, hI⟩; rw [HK9.out] at *
   rw [if_neg (by decide)] at hI; have HI1 : Hid _ := hI; have c9 := bc 0 (HI1.out.blk HPB.out (by omega)) rfl; clear hI; go_wp2_with fail; refine (j_has HI1.out 10).mono ?_; rintro e w2 ⟨rfl, hI⟩; rw [HK.out] at *
   rw [if_pos rfl] at hI; have HI2 : Hid _ := hI; clear hI c9; have u := HI2.out.blk HRB.out (by omega); obtain ⟨y0, y1, y2, y3, y4, y5, y6, y7⟩ := ty_cells (t := (0, [])) u; have hfr := blk_free u; clear u; go_wp2_with fail; refine bodyPost_ret (v := tyV (2, [])) (by simp [results, Tryz.results167, go_sem, tyV_plain, y0, y1, y2, y3, y4, y5, y6, y7]) rfl ⟨⟨(2, []), rfl, TyW.plain 2, fun _ => by rw [HP.out]⟩, ?_⟩; rw [HP.out]; exact HH.out.trans ((((HS.out.alloc _).alloc _).trans HI2.out).setTy HS.out (Nat.le_succ _) (2, []))
  | false =>
   have HP : Hid (Wk.pType c.T q = ((listRun (fun s => s.1.isK c.T 38) (wordStep c.T) (fun s => (s.1.adv, s.2)) 6 (q.want c.T 11, [])).1, (3, (listRun (fun s => s.1.isK c.T 38) (wordStep c.T) (fun s => (s.1.adv, s.2)) 6 (q.want c.T 11, [])).2))) := by
    show _ = _; rw [← pWords_run]; unfold Wk.pType; rw [K9, K10]; rfl
   have HK9 : Hid _ := K9; have HK : Hid _ := K10; rw [HP.out]; obtain ⟨FIN, hFIN⟩ : ∃ FIN, FIN = listRun (fun s => s.1.isK c.T 38) (wordStep c.T) (fun s => (s.1.adv, s.2)) 6 (q.want c.T 11, []) := ⟨_, rfl⟩
   have HFIN : Hid _ := hFIN; rw [← hFIN]; rw [← hFIN] at HP; clear K9 K10 hFIN; go_enter Tryz.func167, Tryz.ntmps167; go_wp2_with fail; refine (j_has (((HS.out.alloc _).alloc _).self) 9).mono ?_; rintro e w1 ⟨rfl, hI⟩; rw [HK9.out] at *
   rw [if_neg (by decide)] at hI; have HI1 : Hid _ := hI; have c9 := bc 0 (HI1.out.blk HPB.out (by omega)) rfl; clear hI; go_wp2_with fail; refine (j_has HI1.out 10).mono ?_; rintro e w2 ⟨rfl, hI⟩; rw [HK.out] at *
   rw [if_neg (by decide)] at hI; have HI2 : Hid _ := hI; have c9' := bc 0 (HI2.out.blk HPB.out (by omega)) rfl; clear hI c9; go_wp2_with fail; refine (j_want HI2.out 11).mono ?_; rintro e w3 ⟨he, hI⟩; obtain ⟨v3, rfl⟩ : ∃ v, e = .returned v := ⟨_, he⟩
   have HI3 : Hid _ := hI; have hpb3 := HI3.out.blk HPB.out (by omega); have hrb3 := HI3.out.blk HRB.out (by omega); have hl3 := lt_of_block hrb3; have hl3' := lt_of_block hpb3; have c93 := bc 0 hpb3 rfl; have HW0 : Hid (WI c w w.heap.size (w.heap.size + 1) w3.heap.size nest o 0 (w3.alloc (.cells #[.int .i64 3, .int .i64 0, .string ⟨#[]⟩, .string ⟨#[]⟩, .string ⟨#[]⟩, .string ⟨#[]⟩, .string ⟨#[]⟩, .string ⟨#[]⟩] 69)) (q.want c.T 11, [])) := by
    refine ⟨(((HS.out.alloc _).alloc _).trans HI3.out).alloc _, ⟨_, _, _, HS.out⟩, blk_alloc _ hpb3, blk_alloc _ hrb3, ⟨[], heap_alloc_new _ _, by decide, fun _ => rfl⟩, ⟨rfl, by omega⟩, by omega, by omega, ?_, by omega, by omega⟩; have := HI3.out.fr.size; rw [sz_alloc, sz_alloc] at this; omega
   clear hI c9' he hpb3 hrb3; go_wp2_with fail; refine (j_list (b := c.b) (sign := 38) (most := 6) (isK := fun s : Wk.St × List (List UInt8) => s.1.isK c.T 38) (step := wordStep c.T) (adv := fun s => (s.1.adv, s.2)) (lb := #[nptr w.heap.size, nptr w3.heap.size]) eg199 (WI c w w.heap.size (w.heap.size + 1) w3.heap.size nest o) ?_ (fun k w' s hk hW => j_word HT.out hk hW) (by omega) (by omega) HW0.out).mono ?_
   ·intro k w' s hW; refine (j_has hW.inn.self 38).mono ?_; rintro e w'' ⟨rfl, hI''⟩; refine ⟨rfl, ?_⟩; have := hW.step hI'' (fun e => ?_)
    ·split
     ·rename_i hk; rw [if_pos hk] at this; exact this
     ·rename_i hk; rw [if_neg hk] at this; exact this
    ·cases hk : s.1.isK c.T 38 with
     | true => exact (Wk.isK_iff.1 hk).1
     | false => rw [hk] at e; exact e
   ·rintro e w4 ⟨rfl, k, hk, hW4⟩; rw [← HFIN.out] at hW4; obtain ⟨ws, hwb, h6, hws⟩ := hW4.wbx; have HW4 : Hid _ := hW4; have HWS : Hid _ := hws; have z := ty_cells (t := (3, ws)) hwb; obtain ⟨z0, z1, z2, z3, z4, z5, z6, z7⟩ := z; obtain ⟨y0, y1, y2, y3, y4, y5, y6, y7⟩ := ty_cells (t := (0, [])) hW4.rbx; have hfr := blk_free hW4.rbx; clear hW4 hws hwb; go_wp2_with fail; refine bodyPost_ret (v := tyV (3, ws)) (by simp [results, Tryz.results167, go_sem, tyV, y0, y1, y2, y3, y4, y5, y6, y7]) rfl ⟨⟨(3, ws), rfl, ⟨h6, fun e => by cases e⟩, fun hb => by rw [HP.out] at hb ⊢; rw [HWS.out hb]⟩, ?_⟩; exact HH.out.trans (HW4.out.inn.setTy HS.out (Nat.le_succ _) (3, ws))
end Go.Proofs.YtbkaghlklkdmkaaGreatDoor
