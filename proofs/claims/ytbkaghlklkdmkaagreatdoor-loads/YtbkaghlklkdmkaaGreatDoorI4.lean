import Derived.Test.YtbkaghlklkdmkaaGreatDoorI3
namespace Go.Proofs.YtbkaghlklkdmkaaGreatDoor
open Go.RowKit
attribute [local go_sem ↓] Go.wp_at_zero Go.wp_at_succ
structure WI (c : Cx) (w0 : World) (pb rb wb : Nat) (nest : Int) (o : Option Nat) (n : Nat) (w : World) (s : Wk.St × List (List UInt8)) : Prop where
 inn : PI c w0 w s.1 nest o
 top : ∃ qa na oa, PI c w0 w0 qa na oa
 pbx : w.heap[pb]? = some (.cells #[nptr c.b] 209 (0, 0))
 rbx : w.heap[rb]? = some (.cells #[.int .i64 0, .int .i64 0, .string ⟨#[]⟩, .string ⟨#[]⟩, .string ⟨#[]⟩, .string ⟨#[]⟩, .string ⟨#[]⟩, .string ⟨#[]⟩] 69 (0, 0))
 wbx : ∃ ws, w.heap[wb]? = some (.cells #[.int .i64 (3 : Nat), .int .i64 (ws.length : Nat), .string (wd (3, ws) 0), .string (wd (3, ws) 1), .string (wd (3, ws) 2), .string (wd (3, ws) 3), .string (wd (3, ws) 4), .string (wd (3, ws) 5)] 69 (0, 0)) ∧ ws.length ≤ 6 ∧ (s.1.bad = none → ws = s.2)
 len : s.2.length = n ∧ n ≤ 6
 new : w0.heap.size ≤ pb ∧ w0.heap.size ≤ rb ∧ w0.heap.size ≤ wb ∧ pb ≠ wb ∧ rb ≠ wb
theorem WI.step {c : Cx} {w0 w w' : World} {pb rb wb n : Nat} {nest : Int} {o : Option Nat} {s : Wk.St × List (List UInt8)} (h : WI c w0 pb rb wb nest o n w s) {q' : Wk.St} (hI : PI c w w' q' nest o) (hq : q'.bad = none → s.1.bad = none) : WI c w0 pb rb wb nest o n w' (q', s.2) := by
 obtain ⟨qa, na, oa, ht⟩ := h.top; have hb := ht.blt; obtain ⟨ws, h1, h2, h3⟩ := h.wbx; have hn := h.new; exact ⟨h.inn.trans hI, h.top, hI.blk h.pbx (by omega), hI.blk h.rbx (by omega), ⟨ws, hI.blk h1 (by omega), h2, fun e => h3 (hq e)⟩, h.len, h.new⟩
theorem setTy_other {w : World} {b k : Nat} (h : k ≠ b) (t : Wk.Ty) : (setTy w b t).heap[k]? = w.heap[k]? := by
 unfold setTy; rw [blk_other _ h, blk_other _ h, blk_other _ h, blk_other _ h, blk_other _ h, blk_other _ h, blk_other _ h, blk_other _ h]
theorem PI.setTy {c : Cx} {wa w0 w : World} {qa q : Wk.St} {na nest : Int} {oa o : Option Nat} (h : PI c w0 w q nest o) (ha : PI c wa w0 qa na oa) {k : Nat} (hk : w0.heap.size ≤ k) (t : Wk.Ty) : PI c w0 (setTy w k t) q nest o :=
 (((((((h.setNew ha hk _ _).setNew ha hk _ _).setNew ha hk _ _).setNew ha hk _ _).setNew ha hk _ _).setNew ha hk _ _).setNew ha hk _ _).setNew ha hk _ _
def wordStep (T : List Wk.Tok) (s : Wk.St × List (List UInt8)) : Wk.St × List (List UInt8) :=
 ((if s.1.isK T 5 && s.2.contains (Wk.unq (Wk.tokK T s.1.k).text) then s.1.fail T else s.1).want T 5, s.2 ++ [Wk.unq (Wk.tokK T s.1.k).text])
theorem pWords_run (T : List Wk.Tok) : ∀ (n : Nat) (s : Wk.St × List (List UInt8)), Wk.pWords T n s.1 s.2 = listRun (fun s => s.1.isK T 38) (wordStep T) (fun s => (s.1.adv, s.2)) n s := by
 intro n; induction n with
 | zero => intro s; rfl
 | succ n ih =>
  intro s; rw [Wk.pWords, listRun]; show (if (decide (0 < n) && (wordStep T s).1.isK T 38) = true then Wk.pWords T n (wordStep T s).1.adv (wordStep T s).2 else wordStep T s) = _; split
  ·exact ih ((wordStep T s).1.adv, (wordStep T s).2)
  ·rfl
set_option maxRecDepth 100000 in
set_option maxHeartbeats 4000000 in
theorem j_word {c : Cx} (hT : TP c.T) {w0 w : World} {pb rb wb n : Nat} {nest : Int} {o : Option Nat} {s : Wk.St × List (List UInt8)} (hn : n < 6) (h : WI c w0 pb rb wb nest o n w s) :
  Calls Tryz.prog 199 #[nptr pb, nptr wb] w fun e w' => e = .returned (.tuple #[]) ∧ WI c w0 pb rb wb nest o (n + 1) w' (wordStep c.T s) := by
 obtain ⟨q, ws0⟩ := s; obtain ⟨ws, hwb, hw6, hws⟩ := h.wbx; have HH : Hid (WI c w0 pb rb wb nest o n w (q, ws0)) := h; have HT : Hid _ := hT; have HWS : Hid (q.bad = none → ws = ws0) := hws; have HD : Hid _ := isK_at' h.inn 5 (by decide); generalize ht : ((3, ws) : Wk.Ty) = t; have HTT : Hid ((3, ws) = t) := ht; have hwb' : w.heap[wb]? = some (.cells #[.int .i64 (t.1 : Nat), .int .i64 (t.2.length : Nat), .string (wd t 0), .string (wd t 1), .string (wd t 2), .string (wd t 3), .string (wd t 4), .string (wd t 5)] 69 (0, 0)) := by rw [← ht]; exact hwb
 have h6 : t.2.length ≤ 6 := by rw [← ht]; exact hw6
 have HWB : Hid _ := hwb'; have hpl := lt_of_block h.pbx; have hwl := lt_of_block hwb; have HPB : Hid _ := h.pbx; have HIN : Hid (PI c w0 w q nest o) := h.inn; have HS0 : Hid (∀ w', Below w.heap.size w w' → w'.cell? ⟨pb, 0, none⟩ = some (nptr c.b) ∧ (w'.cell? ⟨wb, 0, none⟩ = some (.int .i64 (t.1 : Nat)) ∧ w'.cell? ⟨wb, 1, none⟩ = some (.int .i64 (t.2.length : Nat)) ∧ w'.cell? ⟨wb, 2, none⟩ = some (.string (wd t 0)) ∧ w'.cell? ⟨wb, 3, none⟩ = some (.string (wd t 1)) ∧ w'.cell? ⟨wb, 4, none⟩ = some (.string (wd t 2)) ∧ w'.cell? ⟨wb, 5, none⟩ = some (.string (wd t 3)) ∧ w'.cell? ⟨wb, 6, none⟩ = some (.string (wd t 4)) ∧ w'.cell? ⟨wb, 7, none⟩ = some (.string (wd t 5)))) := by
  intro w' hb; exact ⟨blk_cell ((hb.block pb hpl).trans HPB.out) rfl, ty_cells ((hb.block wb hwl).trans HWB.out)⟩
 clear hws ht hwb hwb' hw6 h hT; go_enter Tryz.func199, Tryz.ntmps199; go_upto_region 0 with fail; go_cut [20] from 2 (fun v20 wc => ∃ fb : Bool, v20 = .bool fb ∧ Hid (Below w.heap.size w wc) ∧ Hid (fb = (q.isK c.T 5 && t.2.contains (Lib.trimB (Wk.tokK c.T q.k).text.data.toList 34))))
 case first =>
  cases K5 : q.isK c.T 5 with
  | false =>
   rw [K5] at HD; have HKF : Hid _ := K5; clear K5; have HX : Hid _ := HS0.out w.drew (Below.refl _ _).drew; refine wp_region_ph (fun w' => w'.cell? ⟨pb, 0, none⟩ = some (nptr c.b) ∧ (w'.cell? ⟨wb, 0, none⟩ = some (.int .i64 (t.1 : Nat)) ∧ w'.cell? ⟨wb, 1, none⟩ = some (.int .i64 (t.2.length : Nat)) ∧ w'.cell? ⟨wb, 2, none⟩ = some (.string (wd t 0)) ∧ w'.cell? ⟨wb, 3, none⟩ = some (.string (wd t 1)) ∧ w'.cell? ⟨wb, 4, none⟩ = some (.string (wd t 2)) ∧ w'.cell? ⟨wb, 5, none⟩ = some (.string (wd t 3)) ∧ w'.cell? ⟨wb, 6, none⟩ = some (.string (wd t 4)) ∧ w'.cell? ⟨wb, 7, none⟩ = some (.string (wd t 5)))) 19 19 rfl (by kernel_rfl) HX.out (fun hHeld => ?_); clear hHeld; refine PhS.t 0 2 HX.out ?_; refine PhS.on 1 (fun K hK => ?_); go_simp; refine (j_next HIN.out.drew).mono ?_; rintro e w2 ⟨rfl, rfl⟩; have HX2 : Hid _ := HS0.out w.drew.drew (Below.refl _ _).drew.drew; refine hK.out _ _ (fun _ => HX2.out) ?_; clear hK K; generalize ((Wk.tokK c.T (ppAt c.T q)).kind : Int) = nk at *
   have d5 : (nk == 5) = false := HD.out; try simp only [Act.put, sA, sZ, sS]
   refine PhS.t 2 4 HX2.out ?_; refine PhS.t 3 5 HX2.out ?_; refine PhS.sk 4 (some 6) HX2.out ?_; try simp only [Act.put, sA, sZ, sS]
   refine PhS.sk 5 (some 7) HX2.out ?_; try simp only [Act.put, sA, sZ, sS]
   refine PhS.sk 6 (some 8) HX2.out ?_; try simp only [Act.put, sA, sZ, sS]
   refine PhS.sk 7 (some 9) HX2.out ?_; try simp only [Act.put, sA, sZ, sS]
   refine PhS.sk 8 (some 10) HX2.out ?_; try simp only [Act.put, sA, sZ, sS]
   refine PhS.sk 9 (some 11) HX2.out ?_; try simp only [Act.put, sA, sZ, sS]
   refine PhS.sk 10 (some 12) HX2.out ?_; try simp only [Act.put, sA, sZ, sS]
   refine PhS.sk 11 (some 13) HX2.out ?_; try simp only [Act.put, sA, sZ, sS]
   refine PhS.sk 12 (some 14) HX2.out ?_; try simp only [Act.put, sA, sZ, sS]
   refine PhS.sk 13 (some 15) HX2.out ?_; try simp only [Act.put, sA, sZ, sS]
   refine PhS.sk 14 (some 16) HX2.out ?_; try simp only [Act.put, sA, sZ, sS]
   refine PhS.sk 15 (some 17) HX2.out ?_; try simp only [Act.put, sA, sZ, sS]
   refine PhS.sk 16 (some 18) HX2.out ?_; try simp only [Act.put, sA, sZ, sS]
   refine PhS.sk 17 (some 19) HX2.out ?_; try simp only [Act.put, sA, sZ, sS]
   refine PhS.t 18 20 HX2.out ?_; refine PhS.done (by kernel_rfl) ?_ _; go_wp2_with fail; go_meet; exact ⟨false, rfl, (Below.refl _ _).drew.drew, by show _ = _; rw [HKF.out]; rfl⟩
  | true =>
   rw [K5] at HD; have hk5 := Wk.isK_iff.1 K5; have hkl := HIN.out.ok hk5.1; obtain ⟨ms, ma, hP, -⟩ := HIN.out.pp; have p0 := blk_cell (o := 0) hP.box rfl; have p1 := blk_cell (o := 1) hP.box rfl; rw [ppAt_ok hk5.1] at p1; have p2 := (hP.toks.cells q.k hkl).2.2; have hbl := lt_of_block hP.box; have htl := cell_lt p2; have hcp := hP.toks.cap; have hsz := HT.out.size q.k hkl; obtain ⟨tx, htx⟩ : ∃ x, x = (Wk.tokK c.T q.k).text := ⟨_, rfl⟩
   rw [← htx] at p2 hsz; obtain ⟨at_, hat⟩ : ∃ a, a = q.k := ⟨_, rfl⟩
   rw [← hat] at p1 p2 hkl; have HTX : Hid _ := htx; have HKT : Hid _ := K5; have hk0 : (0 : Int) ≤ (at_ : Int) := by omega
   have hk1 : (at_ : Int) < (c.T.length : Int) := by omega
   have HS1 : Hid (∀ w', Below w.heap.size w w' → w'.cell? ⟨pb, 0, none⟩ = some (nptr c.b) ∧ (w'.cell? ⟨wb, 0, none⟩ = some (.int .i64 (t.1 : Nat)) ∧ w'.cell? ⟨wb, 1, none⟩ = some (.int .i64 (t.2.length : Nat)) ∧ w'.cell? ⟨wb, 2, none⟩ = some (.string (wd t 0)) ∧ w'.cell? ⟨wb, 3, none⟩ = some (.string (wd t 1)) ∧ w'.cell? ⟨wb, 4, none⟩ = some (.string (wd t 2)) ∧ w'.cell? ⟨wb, 5, none⟩ = some (.string (wd t 3)) ∧ w'.cell? ⟨wb, 6, none⟩ = some (.string (wd t 4)) ∧ w'.cell? ⟨wb, 7, none⟩ = some (.string (wd t 5))) ∧ w'.cell? ⟨c.b, 0, none⟩ = some (.slice (some ⟨c.tg, 0, none⟩) c.T.length c.tc) ∧ w'.cell? ⟨c.b, 1, none⟩ = some (.int .i64 (at_ : Int)) ∧ w'.cell? ⟨c.tg, at_ * 3 + 2, none⟩ = some (.string tx)) := by
    intro w' hb; obtain ⟨x1, x2⟩ := HS0.out w' hb; exact ⟨x1, x2, (hb.cell (p := ⟨c.b, 0, none⟩) hbl).trans p0, (hb.cell (p := ⟨c.b, 1, none⟩) hbl).trans p1, (hb.cell (p := ⟨c.tg, at_ * 3 + 2, none⟩) htl).trans p2⟩
   clear hP p0 p1 p2 hk5 htx hat K5; have HX : Hid _ := HS1.out w.drew (Below.refl _ _).drew; refine wp_region_ph (fun w' => w'.cell? ⟨pb, 0, none⟩ = some (nptr c.b) ∧ (w'.cell? ⟨wb, 0, none⟩ = some (.int .i64 (t.1 : Nat)) ∧ w'.cell? ⟨wb, 1, none⟩ = some (.int .i64 (t.2.length : Nat)) ∧ w'.cell? ⟨wb, 2, none⟩ = some (.string (wd t 0)) ∧ w'.cell? ⟨wb, 3, none⟩ = some (.string (wd t 1)) ∧ w'.cell? ⟨wb, 4, none⟩ = some (.string (wd t 2)) ∧ w'.cell? ⟨wb, 5, none⟩ = some (.string (wd t 3)) ∧ w'.cell? ⟨wb, 6, none⟩ = some (.string (wd t 4)) ∧ w'.cell? ⟨wb, 7, none⟩ = some (.string (wd t 5))) ∧ w'.cell? ⟨c.b, 0, none⟩ = some (.slice (some ⟨c.tg, 0, none⟩) c.T.length c.tc) ∧ w'.cell? ⟨c.b, 1, none⟩ = some (.int .i64 (at_ : Int)) ∧ w'.cell? ⟨c.tg, at_ * 3 + 2, none⟩ = some (.string tx)) 19 19 rfl (by kernel_rfl) HX.out (fun hHeld => ?_); clear hHeld; refine PhS.t 0 2 HX.out ?_; refine PhS.on 1 (fun K hK => ?_); go_simp; refine (j_next HIN.out.drew).mono ?_; rintro e w2 ⟨rfl, rfl⟩; have HX2 : Hid _ := HS1.out w.drew.drew (Below.refl _ _).drew.drew; refine hK.out _ _ (fun _ => HX2.out) ?_; clear hK K; generalize ((Wk.tokK c.T (ppAt c.T q)).kind : Int) = nk at *
   have d5 : (nk == 5) = true := HD.out; try simp only [Act.put, sA, sZ, sS]
   refine PhS.t 2 4 HX2.out ?_; refine PhS.t 3 5 HX2.out ?_; refine PhS.t 4 6 HX2.out ?_; refine PhS.t 5 7 HX2.out ?_; refine PhS.t 6 8 HX2.out ?_; refine PhS.t 7 9 HX2.out ?_; refine PhS.t 8 10 HX2.out ?_; refine PhS.t 9 11 HX2.out ?_; refine PhS.t 10 12 HX2.out ?_; refine PhS.t 11 13 HX2.out ?_; refine PhS.t 12 14 HX2.out ?_; refine PhS.t 13 15 HX2.out ?_; refine PhS.t 14 16 HX2.out ?_; refine PhS.t 15 17 HX2.out ?_; refine PhS.on 16 (fun K hK => ?_); go_simp; refine (p_unquote tx (by omega) _).mono ?_; rintro e w3 ⟨rfl, hb3⟩; have hb3 : Below w.heap.size w w3 := (Below.refl _ _).drew.drew.trans hb3; have HX3 : Hid _ := HS1.out w3 hb3; refine hK.out _ _ (fun _ => HX3.out) ?_; have HB3 : Hid _ := hb3; clear hK K hb3; try simp only [Act.put, sA, sZ, sS]
   refine PhS.on 17 (fun K hK => ?_); go_simp; refine (p_Has t h6 ⟨(Lib.trimB tx.data.toList 34).toArray⟩ _).mono ?_; rintro e w4 ⟨rfl, hb4⟩; have hb4 : Below w.heap.size w w4 := HB3.out.trans (hb4.mono HB3.out.size); have HX4 : Hid _ := HS1.out w4 hb4; refine hK.out _ _ (fun _ => HX4.out) ?_; have HB4 : Hid _ := hb4; clear hK K hb4; generalize hcb : t.2.contains (ByteArray.mk (Lib.trimB tx.data.toList 34).toArray).data.toList = cb at *
   have HCB : Hid _ := hcb; clear hcb; refine PhS.t 18 20 HX4.out ?_; refine PhS.done (by kernel_rfl) ?_ _; go_wp2_with fail; go_meet; exact ⟨cb, rfl, HB4, by show _ = _; rw [HKT.out, ← HTX.out, ← HCB.out]; simp⟩
 case rest =>
  obtain ⟨fb, rfl, HB, HFB⟩ := hcut; have HPB1 : Hid _ := (HB.out.block pb hpl).trans HPB.out; have HWB1 : Hid _ := (HB.out.block wb hwl).trans HWB.out; have HI1 : Hid (PI c w0 wc q nest o) := HIN.out.below HB.out; have HH1 : Hid (WI c w0 pb rb wb nest o n wc (q, ws0)) := HH.out.step (q' := q) (HIN.out.self.below HB.out) id; have cp := blk_cell (o := 0) HPB1.out rfl; clear HS0 HD HIN HPB HWB HH; have hbne := HI1.out.blt; have hnw := HH1.out.new; obtain ⟨qa, na, oa, hta⟩ := HH1.out.top; have hba := hta.blt; have HCD : Hid (fb = (q.isK c.T 5 && ws0.contains (Wk.unq (Wk.tokK c.T q.k).text))) := by
   show _ = _; rw [HFB.out]; cases hK : q.isK c.T 5 with
   | false => rfl
   | true =>
    have hk5 := Wk.isK_iff.1 hK; rw [HT.out.trim q.k (HI1.out.ok hk5.1) hk5.2, ← HTT.out, HWS.out hk5.1]
  cases fb with
  | true =>
   have HSTEP : Hid (wordStep c.T (q, ws0) = ((q.fail c.T).want c.T 5, ws0 ++ [Wk.unq (Wk.tokK c.T q.k).text])) := by
    show ((if q.isK c.T 5 && ws0.contains (Wk.unq (Wk.tokK c.T q.k).text) then q.fail c.T else q).want c.T 5, _) = _; rw [← HCD.out]; rfl
   clear HCD HFB; go_wp2_with fail; refine (j_fail HI1.out.self o).mono ?_; rintro e w2 ⟨rfl, hI2⟩; have HI2 : Hid _ := hI2; clear hI2; have HWBx : Hid _ := HI2.out.blk HWB1.out (by omega); have HH2 : Hid (WI c w0 pb rb wb nest o n w2 (q.fail c.T, ws0)) := HH1.out.step (q' := q.fail c.T) HI2.out (fun e => absurd e pfail_some); go_upto_region 2 with fail; have HX : Hid (w2.drew.cell? ⟨pb, 0, none⟩ = some (nptr c.b) ∧ (w2.drew.cell? ⟨wb, 0, none⟩ = some (.int .i64 (t.1 : Nat)) ∧ w2.drew.cell? ⟨wb, 1, none⟩ = some (.int .i64 (t.2.length : Nat)) ∧ w2.drew.cell? ⟨wb, 2, none⟩ = some (.string (wd t 0)) ∧ w2.drew.cell? ⟨wb, 3, none⟩ = some (.string (wd t 1)) ∧ w2.drew.cell? ⟨wb, 4, none⟩ = some (.string (wd t 2)) ∧ w2.drew.cell? ⟨wb, 5, none⟩ = some (.string (wd t 3)) ∧ w2.drew.cell? ⟨wb, 6, none⟩ = some (.string (wd t 4)) ∧ w2.drew.cell? ⟨wb, 7, none⟩ = some (.string (wd t 5)))) := ⟨blk_cell HH2.out.pbx rfl, ty_cells (w := w2) HWBx.out⟩
   refine wp_region_ph (fun w' => w'.cell? ⟨pb, 0, none⟩ = some (nptr c.b) ∧ (w'.cell? ⟨wb, 0, none⟩ = some (.int .i64 (t.1 : Nat)) ∧ w'.cell? ⟨wb, 1, none⟩ = some (.int .i64 (t.2.length : Nat)) ∧ w'.cell? ⟨wb, 2, none⟩ = some (.string (wd t 0)) ∧ w'.cell? ⟨wb, 3, none⟩ = some (.string (wd t 1)) ∧ w'.cell? ⟨wb, 4, none⟩ = some (.string (wd t 2)) ∧ w'.cell? ⟨wb, 5, none⟩ = some (.string (wd t 3)) ∧ w'.cell? ⟨wb, 6, none⟩ = some (.string (wd t 4)) ∧ w'.cell? ⟨wb, 7, none⟩ = some (.string (wd t 5)))) 6 7 rfl (by kernel_rfl) HX.out (fun hHeld => ?_); clear hHeld; refine PhS.t 0 23 HX.out ?_; refine PhS.t 1 24 HX.out ?_; refine PhS.on 2 (fun K hK => ?_); go_simp; refine (j_want HH2.out.inn.drew.self 5 (by decide)).mono ?_; rintro e w3 ⟨he, hI3⟩; obtain ⟨a, b', tx, rfl, hsz, htx⟩ := want_text HT.out HH2.out.inn.ok he; have HTX : Hid _ := htx; have HI3 : Hid (PI c w2 w3 ((q.fail c.T).want c.T 5) nest o) := HH2.out.inn.self.drew.trans hI3; have HH3 : Hid (WI c w0 pb rb wb nest o n w3 ((q.fail c.T).want c.T 5, ws0)) := HH2.out.step HI3.out pwant_bad; have HWB3 : Hid (w3.heap[wb]? = some (.cells #[.int .i64 (t.1 : Nat), .int .i64 (t.2.length : Nat), .string (wd t 0), .string (wd t 1), .string (wd t 2), .string (wd t 3), .string (wd t 4), .string (wd t 5)] 69 (0, 0))) := HI3.out.blk HWBx.out (by omega); have HX3 : Hid (w3.cell? ⟨pb, 0, none⟩ = some (nptr c.b) ∧ (w3.cell? ⟨wb, 0, none⟩ = some (.int .i64 (t.1 : Nat)) ∧ w3.cell? ⟨wb, 1, none⟩ = some (.int .i64 (t.2.length : Nat)) ∧ w3.cell? ⟨wb, 2, none⟩ = some (.string (wd t 0)) ∧ w3.cell? ⟨wb, 3, none⟩ = some (.string (wd t 1)) ∧ w3.cell? ⟨wb, 4, none⟩ = some (.string (wd t 2)) ∧ w3.cell? ⟨wb, 5, none⟩ = some (.string (wd t 3)) ∧ w3.cell? ⟨wb, 6, none⟩ = some (.string (wd t 4)) ∧ w3.cell? ⟨wb, 7, none⟩ = some (.string (wd t 5)))) := ⟨blk_cell HH3.out.pbx rfl, ty_cells HWB3.out⟩
   refine hK.out _ _ (fun _ => HX3.out) ?_; have hfl := field134 a b' tx; clear hK K hI3 he htx; try simp only [Act.put, sA, sZ, sS]
   refine PhS.t 3 26 HX3.out ?_; refine PhS.on 4 (fun K hK => ?_); go_simp; refine (p_unquote tx (by omega) _).mono ?_; rintro e w4 ⟨rfl, hb4⟩; have HB4 : Hid _ := hb4; have HX4 : Hid (w4.cell? ⟨pb, 0, none⟩ = some (nptr c.b) ∧ (w4.cell? ⟨wb, 0, none⟩ = some (.int .i64 (t.1 : Nat)) ∧ w4.cell? ⟨wb, 1, none⟩ = some (.int .i64 (t.2.length : Nat)) ∧ w4.cell? ⟨wb, 2, none⟩ = some (.string (wd t 0)) ∧ w4.cell? ⟨wb, 3, none⟩ = some (.string (wd t 1)) ∧ w4.cell? ⟨wb, 4, none⟩ = some (.string (wd t 2)) ∧ w4.cell? ⟨wb, 5, none⟩ = some (.string (wd t 3)) ∧ w4.cell? ⟨wb, 6, none⟩ = some (.string (wd t 4)) ∧ w4.cell? ⟨wb, 7, none⟩ = some (.string (wd t 5)))) := ⟨blk_cell ((hb4.block pb (lt_of_block HH3.out.pbx)).trans HH3.out.pbx) rfl, ty_cells ((hb4.block wb (lt_of_block HWB3.out)).trans HWB3.out)⟩
   refine hK.out _ _ (fun _ => HX4.out) ?_; clear hK K hb4; try simp only [Act.put, sA, sZ, sS]
   generalize htr : (⟨(Lib.trimB tx.data.toList 34).toArray⟩ : ByteArray) = tr at *
   have HTR : Hid (tr.data.toList = Lib.trimB tx.data.toList 34) := by
    show _ = _; rw [← htr]
   clear htr; refine PhS.on 5 (fun K hK => ?_); go_simp; refine (p_With t h6 tr _).mono ?_; rintro e w5 ⟨rfl, hb5⟩; have HB5 : Hid (Below w3.heap.size w3 w5) := HB4.out.trans (hb5.mono HB4.out.size); have HWB5 : Hid (w5.heap[wb]? = some (.cells #[.int .i64 (t.1 : Nat), .int .i64 (t.2.length : Nat), .string (wd t 0), .string (wd t 1), .string (wd t 2), .string (wd t 3), .string (wd t 4), .string (wd t 5)] 69 (0, 0))) := (HB5.out.block wb (lt_of_block HWB3.out)).trans HWB3.out; have HX5 : Hid (w5.cell? ⟨pb, 0, none⟩ = some (nptr c.b) ∧ (w5.cell? ⟨wb, 0, none⟩ = some (.int .i64 (t.1 : Nat)) ∧ w5.cell? ⟨wb, 1, none⟩ = some (.int .i64 (t.2.length : Nat)) ∧ w5.cell? ⟨wb, 2, none⟩ = some (.string (wd t 0)) ∧ w5.cell? ⟨wb, 3, none⟩ = some (.string (wd t 1)) ∧ w5.cell? ⟨wb, 4, none⟩ = some (.string (wd t 2)) ∧ w5.cell? ⟨wb, 5, none⟩ = some (.string (wd t 3)) ∧ w5.cell? ⟨wb, 6, none⟩ = some (.string (wd t 4)) ∧ w5.cell? ⟨wb, 7, none⟩ = some (.string (wd t 5)))) := ⟨blk_cell ((HB5.out.block pb (lt_of_block HH3.out.pbx)).trans HH3.out.pbx) rfl, ty_cells HWB5.out⟩
   refine hK.out _ _ (fun _ => HX5.out) ?_; clear hK K hb5; generalize ht2 : (if t.2.length < 6 then (t.1, t.2 ++ [tr.data.toList]) else t : Wk.Ty) = t2 at *
   have HT2 : Hid _ := ht2; clear ht2; obtain ⟨y0, y1, y2, y3, y4, y5, y6, y7⟩ := ty_cells HWB5.out; have hfr := blk_free HWB5.out; try simp only [Act.put, sA, sZ, sS]
   unfold tyV; refine PhS.on 6 (fun K hK => ?_); go_simp; refine hK.out _ _ (fun h => absurd h (by decide)) ?_; clear hK K; refine PhS.done (by kernel_rfl) ?_ _; go_wp2_with fail; go_end0
   have h31 : t2.1 = 3 := by rw [← HT2.out, ← HTT.out]; split <;> rfl
   have h26 : t2.2.length ≤ 6 := by
    rw [← HT2.out]; split
    ·simp; omega
    ·exact h6
   have hgood : ((q.fail c.T).want c.T 5).bad = none → t2.2 = ws0 ++ [Wk.unq (Wk.tokK c.T q.k).text] := by
    intro hb; have hK := want_ok hb; have hbq := (Wk.isK_iff.1 hK).1; exact absurd hbq pfail_some
   rw [HSTEP.out]; refine ⟨rfl, ⟨?_, HH2.out.top, ?_, ?_, ⟨t2.2, ?_, h26, hgood⟩, ⟨by simp; exact HH2.out.len.1, by omega⟩, HH2.out.new⟩⟩
   ·exact (HH3.out.inn.below HB5.out).setTy hta hnw.2.2.1 t2
   ·exact (setTy_other (w := w5) hnw.2.2.2.1 t2).trans ((HB5.out.block pb (lt_of_block HH3.out.pbx)).trans HH3.out.pbx)
   ·exact (setTy_other (w := w5) hnw.2.2.2.2 t2).trans ((HB5.out.block rb (lt_of_block HH3.out.rbx)).trans HH3.out.rbx)
   ·have := setTy_at HWB5.out t2; obtain ⟨t21, t22⟩ := t2; have h31 : t21 = 3 := h31; subst h31; exact this
  | false =>
   have HSTEP : Hid (wordStep c.T (q, ws0) = (q.want c.T 5, ws0 ++ [Wk.unq (Wk.tokK c.T q.k).text])) := by
    show ((if q.isK c.T 5 && ws0.contains (Wk.unq (Wk.tokK c.T q.k).text) then q.fail c.T else q).want c.T 5, _) = _; rw [← HCD.out]; rfl
   clear HCD HFB; have HWBx : Hid _ := HWB1.out; go_upto_region 2 with fail; have HX : Hid (wc.drew.cell? ⟨pb, 0, none⟩ = some (nptr c.b) ∧ (wc.drew.cell? ⟨wb, 0, none⟩ = some (.int .i64 (t.1 : Nat)) ∧ wc.drew.cell? ⟨wb, 1, none⟩ = some (.int .i64 (t.2.length : Nat)) ∧ wc.drew.cell? ⟨wb, 2, none⟩ = some (.string (wd t 0)) ∧ wc.drew.cell? ⟨wb, 3, none⟩ = some (.string (wd t 1)) ∧ wc.drew.cell? ⟨wb, 4, none⟩ = some (.string (wd t 2)) ∧ wc.drew.cell? ⟨wb, 5, none⟩ = some (.string (wd t 3)) ∧ wc.drew.cell? ⟨wb, 6, none⟩ = some (.string (wd t 4)) ∧ wc.drew.cell? ⟨wb, 7, none⟩ = some (.string (wd t 5)))) := ⟨blk_cell HH1.out.pbx rfl, ty_cells (w := wc) HWBx.out⟩
   refine wp_region_ph (fun w' => w'.cell? ⟨pb, 0, none⟩ = some (nptr c.b) ∧ (w'.cell? ⟨wb, 0, none⟩ = some (.int .i64 (t.1 : Nat)) ∧ w'.cell? ⟨wb, 1, none⟩ = some (.int .i64 (t.2.length : Nat)) ∧ w'.cell? ⟨wb, 2, none⟩ = some (.string (wd t 0)) ∧ w'.cell? ⟨wb, 3, none⟩ = some (.string (wd t 1)) ∧ w'.cell? ⟨wb, 4, none⟩ = some (.string (wd t 2)) ∧ w'.cell? ⟨wb, 5, none⟩ = some (.string (wd t 3)) ∧ w'.cell? ⟨wb, 6, none⟩ = some (.string (wd t 4)) ∧ w'.cell? ⟨wb, 7, none⟩ = some (.string (wd t 5)))) 6 7 rfl (by kernel_rfl) HX.out (fun hHeld => ?_); clear hHeld; refine PhS.t 0 23 HX.out ?_; refine PhS.t 1 24 HX.out ?_; refine PhS.on 2 (fun K hK => ?_); go_simp; refine (j_want HH1.out.inn.drew.self 5 (by decide)).mono ?_; rintro e w3 ⟨he, hI3⟩; obtain ⟨a, b', tx, rfl, hsz, htx⟩ := want_text HT.out HH1.out.inn.ok he; have HTX : Hid _ := htx; have HI3 : Hid (PI c wc w3 ((q).want c.T 5) nest o) := HH1.out.inn.self.drew.trans hI3; have HH3 : Hid (WI c w0 pb rb wb nest o n w3 ((q).want c.T 5, ws0)) := HH1.out.step HI3.out pwant_bad; have HWB3 : Hid (w3.heap[wb]? = some (.cells #[.int .i64 (t.1 : Nat), .int .i64 (t.2.length : Nat), .string (wd t 0), .string (wd t 1), .string (wd t 2), .string (wd t 3), .string (wd t 4), .string (wd t 5)] 69 (0, 0))) := HI3.out.blk HWBx.out (by omega); have HX3 : Hid (w3.cell? ⟨pb, 0, none⟩ = some (nptr c.b) ∧ (w3.cell? ⟨wb, 0, none⟩ = some (.int .i64 (t.1 : Nat)) ∧ w3.cell? ⟨wb, 1, none⟩ = some (.int .i64 (t.2.length : Nat)) ∧ w3.cell? ⟨wb, 2, none⟩ = some (.string (wd t 0)) ∧ w3.cell? ⟨wb, 3, none⟩ = some (.string (wd t 1)) ∧ w3.cell? ⟨wb, 4, none⟩ = some (.string (wd t 2)) ∧ w3.cell? ⟨wb, 5, none⟩ = some (.string (wd t 3)) ∧ w3.cell? ⟨wb, 6, none⟩ = some (.string (wd t 4)) ∧ w3.cell? ⟨wb, 7, none⟩ = some (.string (wd t 5)))) := ⟨blk_cell HH3.out.pbx rfl, ty_cells HWB3.out⟩
   refine hK.out _ _ (fun _ => HX3.out) ?_; have hfl := field134 a b' tx; clear hK K hI3 he htx; try simp only [Act.put, sA, sZ, sS]
   refine PhS.t 3 26 HX3.out ?_; refine PhS.on 4 (fun K hK => ?_); go_simp; refine (p_unquote tx (by omega) _).mono ?_; rintro e w4 ⟨rfl, hb4⟩; have HB4 : Hid _ := hb4; have HX4 : Hid (w4.cell? ⟨pb, 0, none⟩ = some (nptr c.b) ∧ (w4.cell? ⟨wb, 0, none⟩ = some (.int .i64 (t.1 : Nat)) ∧ w4.cell? ⟨wb, 1, none⟩ = some (.int .i64 (t.2.length : Nat)) ∧ w4.cell? ⟨wb, 2, none⟩ = some (.string (wd t 0)) ∧ w4.cell? ⟨wb, 3, none⟩ = some (.string (wd t 1)) ∧ w4.cell? ⟨wb, 4, none⟩ = some (.string (wd t 2)) ∧ w4.cell? ⟨wb, 5, none⟩ = some (.string (wd t 3)) ∧ w4.cell? ⟨wb, 6, none⟩ = some (.string (wd t 4)) ∧ w4.cell? ⟨wb, 7, none⟩ = some (.string (wd t 5)))) := ⟨blk_cell ((hb4.block pb (lt_of_block HH3.out.pbx)).trans HH3.out.pbx) rfl, ty_cells ((hb4.block wb (lt_of_block HWB3.out)).trans HWB3.out)⟩
   refine hK.out _ _ (fun _ => HX4.out) ?_; clear hK K hb4; try simp only [Act.put, sA, sZ, sS]
   generalize htr : (⟨(Lib.trimB tx.data.toList 34).toArray⟩ : ByteArray) = tr at *
   have HTR : Hid (tr.data.toList = Lib.trimB tx.data.toList 34) := by
    show _ = _; rw [← htr]
   clear htr; refine PhS.on 5 (fun K hK => ?_); go_simp; refine (p_With t h6 tr _).mono ?_; rintro e w5 ⟨rfl, hb5⟩; have HB5 : Hid (Below w3.heap.size w3 w5) := HB4.out.trans (hb5.mono HB4.out.size); have HWB5 : Hid (w5.heap[wb]? = some (.cells #[.int .i64 (t.1 : Nat), .int .i64 (t.2.length : Nat), .string (wd t 0), .string (wd t 1), .string (wd t 2), .string (wd t 3), .string (wd t 4), .string (wd t 5)] 69 (0, 0))) := (HB5.out.block wb (lt_of_block HWB3.out)).trans HWB3.out; have HX5 : Hid (w5.cell? ⟨pb, 0, none⟩ = some (nptr c.b) ∧ (w5.cell? ⟨wb, 0, none⟩ = some (.int .i64 (t.1 : Nat)) ∧ w5.cell? ⟨wb, 1, none⟩ = some (.int .i64 (t.2.length : Nat)) ∧ w5.cell? ⟨wb, 2, none⟩ = some (.string (wd t 0)) ∧ w5.cell? ⟨wb, 3, none⟩ = some (.string (wd t 1)) ∧ w5.cell? ⟨wb, 4, none⟩ = some (.string (wd t 2)) ∧ w5.cell? ⟨wb, 5, none⟩ = some (.string (wd t 3)) ∧ w5.cell? ⟨wb, 6, none⟩ = some (.string (wd t 4)) ∧ w5.cell? ⟨wb, 7, none⟩ = some (.string (wd t 5)))) := ⟨blk_cell ((HB5.out.block pb (lt_of_block HH3.out.pbx)).trans HH3.out.pbx) rfl, ty_cells HWB5.out⟩
   refine hK.out _ _ (fun _ => HX5.out) ?_; clear hK K hb5; generalize ht2 : (if t.2.length < 6 then (t.1, t.2 ++ [tr.data.toList]) else t : Wk.Ty) = t2 at *
   have HT2 : Hid _ := ht2; clear ht2; obtain ⟨y0, y1, y2, y3, y4, y5, y6, y7⟩ := ty_cells HWB5.out; have hfr := blk_free HWB5.out; try simp only [Act.put, sA, sZ, sS]
   unfold tyV; refine PhS.on 6 (fun K hK => ?_); go_simp; refine hK.out _ _ (fun h => absurd h (by decide)) ?_; clear hK K; refine PhS.done (by kernel_rfl) ?_ _; go_wp2_with fail; go_end0
   have h31 : t2.1 = 3 := by rw [← HT2.out, ← HTT.out]; split <;> rfl
   have h26 : t2.2.length ≤ 6 := by
    rw [← HT2.out]; split
    ·simp; omega
    ·exact h6
   have hgood : ((q).want c.T 5).bad = none → t2.2 = ws0 ++ [Wk.unq (Wk.tokK c.T q.k).text] := by
    intro hb; have hK := want_ok hb; have hbq := (Wk.isK_iff.1 hK).1
    skip
    have e1 := HWS.out hbq; have e2 := (HTX.out hK).1; have e3 := HT.out.trim q.k (HH1.out.inn.ok hbq) (Wk.isK_iff.1 hK).2; have e4 : t.2 = ws0 := by rw [← HTT.out]; exact e1
    have e5 : t.2.length = n := by rw [e4]; exact HH1.out.len.1
    rw [← HT2.out, if_pos (by omega), HTR.out, e2, e3, e4]
   rw [HSTEP.out]; refine ⟨rfl, ⟨?_, HH1.out.top, ?_, ?_, ⟨t2.2, ?_, h26, hgood⟩, ⟨by simp; exact HH1.out.len.1, by omega⟩, HH1.out.new⟩⟩
   ·exact (HH3.out.inn.below HB5.out).setTy hta hnw.2.2.1 t2
   ·exact (setTy_other (w := w5) hnw.2.2.2.1 t2).trans ((HB5.out.block pb (lt_of_block HH3.out.pbx)).trans HH3.out.pbx)
   ·exact (setTy_other (w := w5) hnw.2.2.2.2 t2).trans ((HB5.out.block rb (lt_of_block HH3.out.rbx)).trans HH3.out.rbx)
   ·have := setTy_at HWB5.out t2; obtain ⟨t21, t22⟩ := t2; have h31 : t21 = 3 := h31; subst h31; exact this
end Go.Proofs.YtbkaghlklkdmkaaGreatDoor
namespace Go.Proofs.YtbkaghlklkdmkaaGreatDoor
open Go.RowKit
attribute [local go_sem ↓] Go.wp_at_zero Go.wp_at_succ
def typEndP (T : List Wk.Tok) (q : Wk.St) (e : Ending) : Prop := ∃ t : Wk.Ty, e = .returned (tyV t) ∧ TyW t ∧ ((Wk.pType T q).1.bad = none → t = (Wk.pType T q).2)
theorem eg199 : ∀ args w, (callFunc 199 args).run Tryz.prog w = .ok (.enter 199 args) w := fun args w => by simp [go_sem]
set_option maxRecDepth 100000 in
set_option maxHeartbeats 2000000 in
theorem j_typeOf {c : Cx} (hT : TP c.T) {w0 w : World} {q : Wk.St} {nest : Int} {o : Option Nat} (h : PI c w0 w q nest o) :
  Calls Tryz.prog 167 #[nptr c.b] w fun e w' => typEndP c.T q e ∧ PI c w0 w' (Wk.pType c.T q).1 nest o := by
 have HH : Hid (PI c w0 w q nest o) := h; have HS : Hid (PI c w w q nest o) := h.self; have hblt := h.blt; have HT : Hid _ := hT; have HPB : Hid (((w.alloc (.cells #[nptr c.b] 209)).alloc (.cells #[.int .i64 0, .int .i64 0, .string ⟨#[]⟩, .string ⟨#[]⟩, .string ⟨#[]⟩, .string ⟨#[]⟩, .string ⟨#[]⟩, .string ⟨#[]⟩] 69)).heap[w.heap.size]? = some (.cells #[nptr c.b] 209 (0, 0))) := blk_alloc _ (heap_alloc_new w _); have HRB : Hid (((w.alloc (.cells #[nptr c.b] 209)).alloc (.cells #[.int .i64 0, .int .i64 0, .string ⟨#[]⟩, .string ⟨#[]⟩, .string ⟨#[]⟩, .string ⟨#[]⟩, .string ⟨#[]⟩, .string ⟨#[]⟩] 69)).heap[w.heap.size + 1]? = some (.cells #[.int .i64 0, .int .i64 0, .string ⟨#[]⟩, .string ⟨#[]⟩, .string ⟨#[]⟩, .string ⟨#[]⟩, .string ⟨#[]⟩, .string ⟨#[]⟩] 69 (0, 0))) := by
  have := heap_alloc_new (w.alloc (.cells #[nptr c.b] 209)) (.cells #[.int .i64 0, .int .i64 0, .string ⟨#[]⟩, .string ⟨#[]⟩, .string ⟨#[]⟩, .string ⟨#[]⟩, .string ⟨#[]⟩, .string ⟨#[]⟩] 69); rw [sz_alloc] at this; exact this
 clear h hT; cases K9 : q.isK c.T 9 with
 | true =>
   have HP : Hid (Wk.pType c.T q = (q.adv, (1, []))) := by
    show _ = _; unfold Wk.pType; rw [K9]; rfl
   have HK : Hid _ := K9; clear K9; go_enter Tryz.func167, Tryz.ntmps167; go_wp2_with fail; refine (j_has (((HS.out.alloc _).alloc _).self) 9 (by decide)).mono ?_; rintro e w1 ⟨rfl, hI⟩; rw [HK.out] at *
   rw [if_pos rfl] at hI; have HI1 : Hid _ := hI; clear hI; have u := HI1.out.blk HRB.out (by omega); obtain ⟨y0, y1, y2, y3, y4, y5, y6, y7⟩ := ty_cells (t := (0, [])) u; have hfr := blk_free u; clear u; go_wp2_with fail; refine bodyPost_ret (v := tyV (1, [])) (by simp [results, Tryz.results167, go_sem, tyV_plain, y0, y1, y2, y3, y4, y5, y6, y7]) rfl ⟨⟨(1, []), rfl, TyW.plain 1, fun _ => by rw [HP.out]⟩, ?_⟩; rw [HP.out]; exact HH.out.trans ((((HS.out.alloc _).alloc _).trans HI1.out).setTy HS.out (Nat.le_succ _) (1, []))
 | false =>
  cases K10 : q.isK c.T 10 with
  | true =>
   have HP : Hid (Wk.pType c.T q = (q.adv, (2, []))) := by
    show _ = _; unfold Wk.pType; rw [K9, K10]; rfl
   have HK9 : Hid _ := K9; have HK : Hid _ := K10; clear K9 K10; go_enter Tryz.func167, Tryz.ntmps167; go_wp2_with fail; refine (j_has (((HS.out.alloc _).alloc _).self) 9 (by decide)).mono ?_; rintro e w1 ⟨rfl, hI⟩; rw [HK9.out] at *
   rw [if_neg (by decide)] at hI; have HI1 : Hid _ := hI; have c9 := blk_cell (o := 0) (HI1.out.blk HPB.out (by omega)) rfl; clear hI; go_wp2_with fail; refine (j_has HI1.out 10 (by decide)).mono ?_; rintro e w2 ⟨rfl, hI⟩; rw [HK.out] at *
   rw [if_pos rfl] at hI; have HI2 : Hid _ := hI; clear hI c9; have u := HI2.out.blk HRB.out (by omega); obtain ⟨y0, y1, y2, y3, y4, y5, y6, y7⟩ := ty_cells (t := (0, [])) u; have hfr := blk_free u; clear u; go_wp2_with fail; refine bodyPost_ret (v := tyV (2, [])) (by simp [results, Tryz.results167, go_sem, tyV_plain, y0, y1, y2, y3, y4, y5, y6, y7]) rfl ⟨⟨(2, []), rfl, TyW.plain 2, fun _ => by rw [HP.out]⟩, ?_⟩; rw [HP.out]; exact HH.out.trans ((((HS.out.alloc _).alloc _).trans HI2.out).setTy HS.out (Nat.le_succ _) (2, []))
  | false =>
   have HP : Hid (Wk.pType c.T q = ((listRun (fun s => s.1.isK c.T 38) (wordStep c.T) (fun s => (s.1.adv, s.2)) 6 (q.want c.T 11, [])).1, (3, (listRun (fun s => s.1.isK c.T 38) (wordStep c.T) (fun s => (s.1.adv, s.2)) 6 (q.want c.T 11, [])).2))) := by
    show _ = _; rw [← pWords_run]; unfold Wk.pType; rw [K9, K10]; rfl
   have HK9 : Hid _ := K9; have HK : Hid _ := K10; rw [HP.out]; obtain ⟨FIN, hFIN⟩ : ∃ FIN, FIN = listRun (fun s => s.1.isK c.T 38) (wordStep c.T) (fun s => (s.1.adv, s.2)) 6 (q.want c.T 11, []) := ⟨_, rfl⟩
   have HFIN : Hid _ := hFIN; rw [← hFIN]; rw [← hFIN] at HP; clear K9 K10 hFIN; go_enter Tryz.func167, Tryz.ntmps167; go_wp2_with fail; refine (j_has (((HS.out.alloc _).alloc _).self) 9 (by decide)).mono ?_; rintro e w1 ⟨rfl, hI⟩; rw [HK9.out] at *
   rw [if_neg (by decide)] at hI; have HI1 : Hid _ := hI; have c9 := blk_cell (o := 0) (HI1.out.blk HPB.out (by omega)) rfl; clear hI; go_wp2_with fail; refine (j_has HI1.out 10 (by decide)).mono ?_; rintro e w2 ⟨rfl, hI⟩; rw [HK.out] at *
   rw [if_neg (by decide)] at hI; have HI2 : Hid _ := hI; have c9' := blk_cell (o := 0) (HI2.out.blk HPB.out (by omega)) rfl; clear hI c9; go_wp2_with fail; refine (j_want HI2.out 11 (by decide)).mono ?_; rintro e w3 ⟨he, hI⟩; obtain ⟨v3, rfl⟩ : ∃ v, e = .returned v := ⟨_, he⟩
   have HI3 : Hid _ := hI; have hpb3 := HI3.out.blk HPB.out (by omega); have hrb3 := HI3.out.blk HRB.out (by omega); have hl3 := lt_of_block hrb3; have hl3' := lt_of_block hpb3; have c93 := blk_cell (o := 0) hpb3 rfl; have HW0 : Hid (WI c w w.heap.size (w.heap.size + 1) w3.heap.size nest o 0 (w3.alloc (.cells #[.int .i64 3, .int .i64 0, .string ⟨#[]⟩, .string ⟨#[]⟩, .string ⟨#[]⟩, .string ⟨#[]⟩, .string ⟨#[]⟩, .string ⟨#[]⟩] 69)) (q.want c.T 11, [])) := by
    refine ⟨(((HS.out.alloc _).alloc _).trans HI3.out).alloc _, ⟨_, _, _, HS.out⟩, blk_alloc _ hpb3, blk_alloc _ hrb3, ⟨[], heap_alloc_new _ _, by decide, fun _ => rfl⟩, ⟨rfl, by omega⟩, by omega, by omega, ?_, by omega, by omega⟩; have := HI3.out.fr.size; rw [sz_alloc, sz_alloc] at this; omega
   clear hI c9' he hpb3 hrb3; go_wp2_with fail; refine (j_list (b := c.b) (sign := 38) (most := 6) (isK := fun s : Wk.St × List (List UInt8) => s.1.isK c.T 38) (step := wordStep c.T) (adv := fun s => (s.1.adv, s.2)) (lb := #[nptr w.heap.size, nptr w3.heap.size]) eg199 (WI c w w.heap.size (w.heap.size + 1) w3.heap.size nest o) ?_ (fun k w' s hk hW => j_word HT.out hk hW) (by omega) (by omega) HW0.out).mono ?_
   ·intro k w' s hW; refine (j_has hW.inn.self 38 (by decide)).mono ?_; rintro e w'' ⟨rfl, hI''⟩; refine ⟨rfl, ?_⟩; have := hW.step hI'' (fun e => ?_)
    ·split
     ·rename_i hk; rw [if_pos hk] at this; exact this
     ·rename_i hk; rw [if_neg hk] at this; exact this
    ·cases hk : s.1.isK c.T 38 with
     | true => exact (Wk.isK_iff.1 hk).1
     | false => rw [hk] at e; exact e
   ·rintro e w4 ⟨rfl, k, hk, hW4⟩; rw [← HFIN.out] at hW4; obtain ⟨ws, hwb, h6, hws⟩ := hW4.wbx; have HW4 : Hid _ := hW4; have HWS : Hid _ := hws; have z := ty_cells (t := (3, ws)) hwb; obtain ⟨z0, z1, z2, z3, z4, z5, z6, z7⟩ := z; obtain ⟨y0, y1, y2, y3, y4, y5, y6, y7⟩ := ty_cells (t := (0, [])) hW4.rbx; have hfr := blk_free hW4.rbx; clear hW4 hws hwb; go_wp2_with fail; refine bodyPost_ret (v := tyV (3, ws)) (by simp [results, Tryz.results167, go_sem, tyV, y0, y1, y2, y3, y4, y5, y6, y7]) rfl ⟨⟨(3, ws), rfl, ⟨h6, fun e => by cases e⟩, fun hb => by rw [HP.out] at hb ⊢; rw [HWS.out hb]⟩, ?_⟩; exact HH.out.trans (HW4.out.inn.setTy HS.out (Nat.le_succ _) (3, ws))
end Go.Proofs.YtbkaghlklkdmkaaGreatDoor
