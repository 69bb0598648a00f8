/-
  The parser of the document's answer: a table.
-/
import Derived.Test.YtbkaghlklkdmkaaGreatDoorMF2
import Derived.Deep.CutBlock
import Derived.Deep.CutRange
set_option maxRecDepth 100000
set_option maxHeartbeats 8000000
namespace Go.Proofs.YtbkaghlklkdmkaaGreatDoor
open Go.RowKit
attribute [local go_sem ↓] Go.wp_at_zero Go.wp_at_succ
section
variable {B : Nat} {s : ByteArray} {T : List Wk.Tok}
theorem field87 (nk : Nat) (nt : ByteArray) (na : Nat) (wx : World) : (Instr.field 87 (.agg #[.int .u8 nk, .string nt, .int .i64 na]) 1).run Tryz.prog wx = .ok (.string nt) wx := by
 simp [Instr.field, go_sem]; rfl
def polKinds : List Nat := [12, 13, 14, 15, 16, 17]
def polWords : List (List UInt8) := polKinds.map spellOf
def polIn (T : List Wk.Tok) (q : Wk.St) (k : Nat) : Bool := q.isIn T (polKinds.take k)
theorem polIn_succ {q : Wk.St} {k : Nat} (h : k < 6) : polIn T q (k + 1) = (polIn T q k || q.isK T (12 + k)) := by
 unfold polIn; have : polKinds.take (k + 1) = polKinds.take k ++ [12 + k] := by
  have : ∀ j : Fin 6, polKinds.take (j.val + 1) = polKinds.take j.val ++ [12 + j.val] := by decide
  exact this ⟨k, h⟩
 rw [this]; unfold Wk.St.isIn Wk.St.isK; cases q.bad.isNone
 ·rfl
 ·rw [Bool.eq_iff_iff]; simp
def cellsFrom (T : List Wk.Tok) (j n : Nat) (q : Wk.St) (l : List Wk.PCell) : Wk.St × List Wk.PCell :=
 if j = 0 then Wk.pCells T (n - 1) (Wk.pCell T q).1 [(Wk.pCell T q).2] else Wk.pCells T (n - j) q l
theorem cellsFrom_bad {j n : Nat} {q : Wk.St} {l : List Wk.PCell} (h : q.bad.isSome) : (cellsFrom T j n q l).1 = q := by
 unfold cellsFrom; split
 ·have h1 := Wk.pCell_bad T h; rw [Wk.pCells_bad T (by rw [h1]; exact h), h1]
 ·exact Wk.pCells_bad T h _ _
theorem cellsFrom_step {j n : Nat} (hj : j < n) {q : Wk.St} {l : List Wk.PCell} (hl : l.length = j) :
  cellsFrom T (j + 1) n (Wk.pCell T (if j = 0 then q else q.want T 38)).1 (l ++ [(Wk.pCell T (if j = 0 then q else q.want T 38)).2]) = cellsFrom T j n q l := by
 unfold cellsFrom; rw [if_neg (by omega)]; by_cases h0 : j = 0
 ·have hl0 : l = [] := List.length_eq_zero_iff.1 (by omega); rw [if_pos h0, if_pos h0, h0, hl0]; rfl
 ·rw [if_neg h0, if_neg h0]; obtain ⟨m, hm⟩ : ∃ m, n - j = m + 1 := ⟨n - j - 1, by omega⟩
  rw [hm, show n - (j + 1) = m by omega]; rfl
theorem cellsFrom_end {n : Nat} (hn : 1 ≤ n) {q : Wk.St} {l : List Wk.PCell} : cellsFrom T n n q l = (q, l) := by
 unfold cellsFrom; rw [if_neg (by omega), Nat.sub_self]; rfl
def tableOK (w w' : World) (r : Wk.St × Wk.PItem) (pol cv rv : Value) : Prop :=
 r.1.bad = none → 12 ≤ r.2.policy ∧ r.2.policy ≤ 17 ∧ pol = .string ⟨(spellOf r.2.policy).toArray⟩ ∧ ColsIn w.heap.size w'.heap.size w' cv r.2.cols ∧ RulesIn w.heap.size w'.heap.size w' rv r.2.rules
theorem r_table (hT : Wk.Shut T) (hQ : Quoted T) {w0 w : World} (b ib : Nat) (q : Wk.St) (it : Wk.PItem) (hd : List Value) (pol0 : Value) (h : TB B s T w0 w w b ib q hd pol0 (.slice none 0 0) (.slice none 0 0) [] []) :
  Calls Tryz.prog 77 #[.pointer (some ⟨b, 0, none⟩), .pointer (some ⟨ib, 0, none⟩)] w fun e w' => e = .returned (.tuple #[]) ∧ ∃ (pol : ByteArray) (cv rv : Value) (ls : List LR) (rs : List RR), TB B s T w0 w w' b ib (Wk.pTable T q it).1 hd (.string pol) cv rv ls rs ∧ tableOK w w' (Wk.pTable T q it) (.string pol) cv rv := by
 generalize hF : Wk.pTable T q it = FIN; have HF : Hid _ := hF; have H : Hid (TB B s T w0 w w b ib q hd pol0 (.slice none 0 0) (.slice none 0 0) [] []) := h; have hlt := h.inn.blt; have hib := lt_of_block h.box; have HE : Hid (RE B s T) := h.inn.env; clear h hF; go_enter Tryz.func77, Tryz.ntmps77; go_upto_block 0 with fail; have hc : ∀ k : Nat, k < 6 → (w.alloc (Obj.cells (rowOf polWords) 9)).cell? ⟨w.heap.size, k, none⟩ = some (.string ⟨(spellOf (12 + k)).toArray⟩) := by
  intro k hk; rw [row_cell w polWords 9 k hk]; have : ∀ j : Fin 6, polWords.getD j.val [] = spellOf (12 + j.val) := by decide +kernel
  rw [this ⟨k, hk⟩]
 have T1 : Hid (TB B s T w0 w (w.alloc (Obj.cells (rowOf polWords) 9)) b ib q hd pol0 (.slice none 0 0) (.slice none 0 0) [] []) := H.out.below ((Below.refl _ _).alloc (Nat.le_refl _) _); have e : rowOf polWords = #[Value.string { data := #[117, 110, 105, 113, 117, 101] }, Value.string { data := #[102, 105, 114, 115, 116] }, Value.string { data := #[115, 117, 109] }, Value.string { data := #[99, 111, 117, 110, 116] }, Value.string { data := #[108, 101, 97, 115, 116] }, Value.string { data := #[109, 111, 115, 116] }] := rfl; rw [← e]; clear e; generalize w.alloc (Obj.cells (rowOf polWords) 9) = W1 at *
 obtain ⟨pi, hpi⟩ : ∃ x, x = q.isIn T polKinds := ⟨_, rfl⟩
 have HPI : Hid _ := hpi; clear hpi; go_cut [4] from 12 (fun v4 wc => v4 = .bool pi ∧ wc = W1)
 case first =>
  go_wp2_with fail; go_loopw [4, 6] (fun ok i wr => ∃ k : Nat, k ≤ 6 ∧ i = .int .i64 k ∧ ok = .bool (polIn T q k) ∧ wr = W1) (fun _ i _ => 6 - (intOf i).toNat)
  case atStart => exact ⟨0, by omega, rfl, by unfold polIn; simp [Wk.St.isIn], rfl⟩
  case round =>
   obtain ⟨k, hk, rfl, rfl, rfl⟩ := hrel; by_cases hlt6 : k < 6
   ·have hck := hc k hlt6; have HS : Hid _ := polIn_succ (T := T) (q := q) hlt6; generalize hgk : spellOf (12 + k) = gk at *
    have HGK : Hid (spellOf (12 + k) = gk) := hgk; clear hgk hc; have hk0 : (0 : Int) ≤ (k : Int) := by omega
    have hk1 : (k : Int) < 6 := by omega
    go_wp2_with fail; refine (i_is T1.out.inn (12 + k) ⟨gk.toArray⟩ (by omega) (by omega) (by rw [HGK.out])).mono ?_; rintro e w2 ⟨rfl, hw2⟩; rw [hw2]; clear hw2; cases hpk : polIn T q k with
    | true =>
     rw [hpk] at HS; have HS2 : Hid (polIn T q (k + 1) = true) := HS.out.trans (Bool.true_or _); go_wp2_with fail; go_roundw
     case rel => exact ⟨k + 1, by omega, by go_num, by rw [HS2.out], trivial⟩
     case measure => simp [intOf]; omega
    | false =>
     rw [hpk] at HS; have HS2 : Hid (polIn T q (k + 1) = q.isK T (12 + k)) := HS.out.trans (Bool.false_or _); go_wp2_with fail; go_roundw
     case rel => exact ⟨k + 1, by omega, by go_num, by rw [HS2.out], trivial⟩
     case measure => simp [intOf]; omega
   ·have : k = 6 := by omega
    subst this; have HP6 : Hid (polIn T q 6 = pi) := by rw [HPI.out]; rfl
    rw [HP6.out]; go_wp2_with fail; go_meet; exact ⟨rfl, rfl⟩
 case rest =>
  obtain ⟨rfl, hwc⟩ := hcut; rw [hwc]; clear hwc hc; generalize hpn : (spellOf (Wk.tokK T q.k).kind) = pn at *
  have HPN : Hid (spellOf (Wk.tokK T q.k).kind = pn) := hpn; clear hpn; go_upto_if 30 with fail; go_cut [] from 12 (fun wc => Hid (TB B s T w0 w wc b ib (if pi then q else q.fail T) hd pol0 (.slice none 0 0) (.slice none 0 0) [] []))
  case first =>
   cases pi with
   | true =>
    go_wp2_with fail; go_meet; exact T1
   | false =>
    go_wp2_with fail; refine (i_fail T1.out.inn).mono ?_; rintro e w2 ⟨rfl, hI2⟩; have T2 : Hid (TB B s T w0 w w2 b ib (q.fail T) hd pol0 (.slice none 0 0) (.slice none 0 0) [] []) := T1.out.step hI2; clear hI2; go_wp2_with fail; go_meet; exact T2
  case rest =>
   obtain ⟨W2, hW2⟩ : ∃ W, W = wc := ⟨_, rfl⟩
   subst hW2; have T2 : Hid _ := hcut; clear T1; go_wp2_with fail; refine (i_take T2.out.inn).mono ?_; rintro e w3 ⟨⟨nk3, nt3, na3, rfl, -, ht3⟩, hI3⟩; have T3 : Hid (TB B s T w0 w w3 b ib (takeS T false (if pi then q else q.fail T)) hd pol0 (.slice none 0 0) (.slice none 0 0) [] []) := T2.out.step hI3; have HQ1 : Hid (takeS T false (if pi then q else q.fail T) = (if q.isIn T [12, 13, 14, 15, 16, 17] then q.adv else q.fail T) ∧ ((if q.isIn T [12, 13, 14, 15, 16, 17] then q.adv else q.fail T).bad = none → 12 ≤ (Wk.tokK T q.k).kind ∧ (Wk.tokK T q.k).kind ≤ 17 ∧ nt3 = ⟨(spellOf (Wk.tokK T q.k).kind).toArray⟩)) := by
    have h0 : pi = q.isIn T [12, 13, 14, 15, 16, 17] := HPI.out; cases hpi : pi with
    | true =>
     rw [hpi] at ht3; rw [← h0, hpi]; simp only [if_true] at ht3 ⊢; have h1 : q.isIn T [12, 13, 14, 15, 16, 17] = true := by rw [← h0, hpi]
     have h2 := Wk.isIn_iff.1 h1; have h3 : 12 ≤ (Wk.tokK T q.k).kind ∧ (Wk.tokK T q.k).kind ≤ 17 := by
      have := h2.2; simp at this; omega
     refine ⟨takeS_adv (kd := (Wk.tokK T q.k).kind) (Wk.isK_iff.2 ⟨h2.1, rfl⟩) (by omega) (by omega) false, fun _ => ⟨h3.1, h3.2, ?_⟩⟩; have h4 := (ht3 h2.1).2.1; have hok := T2.out.inn.ok (by rw [hpi]; exact h2.1); rw [hpi] at hok; have h5 := HE.out.spelt.text q.k hok (by omega); have h6 : rtext (Wk.tokK T q.k) false = (Wk.tokK T q.k).text := by
      unfold rtext; rw [if_neg]; unfold rkind; repeat' split
      all_goals omega
     rw [h4, h6]; exact op_of (by rw [ByteArray.toList_eq]; exact h5)
    | false =>
     rw [← h0, hpi]; simp only [Bool.false_eq_true, if_false]; refine ⟨takeS_bad T false (fail_some q), fun e => ?_⟩; have := fail_some (T := T) q; rw [e] at this; cases this
   generalize hq1 : (if q.isIn T [12, 13, 14, 15, 16, 17] then q.adv else q.fail T) = q1 at *
   have HQQ : Hid _ := hq1; clear hq1; rw [HQ1.out.1] at T3; have HPL : Hid _ := HQ1.out.2; clear hI3 ht3 HQ1 T2; obtain ⟨c11, c12, c13, cf⟩ := T3.out.cells; have hfl : ∀ wx, (Instr.field 87 (.agg #[.int .u8 nk3, .string nt3, .int .i64 na3]) 1).run Tryz.prog wx = .ok (.string nt3) wx := fun wx => field87 nk3 nt3 na3 wx
   go_wp2_with fail; clear hfl; have T4 : Hid _ := T3.out.setPol (.string nt3); generalize w3.setCell ⟨ib, 11, none⟩ (.string nt3) = W4 at *
   clear c11 c12 c13 cf T3; refine (i_need T4.out.inn 34 ⟨#[40]⟩).mono ?_; rintro e w5 ⟨rfl, hI5⟩; have T5 : Hid (TB B s T w0 w w5 b ib (q1.want T 34) hd (.string nt3) (.slice none 0 0) (.slice none 0 0) [] []) := T4.out.step hI5; clear hI5 T4; generalize hFC : Wk.pCols T 3 (q1.want T 34) [] = FINC; have HFC : Hid _ := hFC; clear hFC; have HFIN : Hid (FIN = ((Wk.pRules T FINC.2.length 8 ((FINC.1.want T 35).want T 40) []).1, { it with policy := (Wk.tokK T q.k).kind, cols := FINC.2, rules := (Wk.pRules T FINC.2.length 8 ((FINC.1.want T 35).want T 40) []).2 })) := by
    show _ = _; rw [← HF.out]; unfold Wk.pTable; rw [HQQ.out]; dsimp only; rw [HFC.out]
   go_upto_block 2 with fail; go_cut [] from 12 (fun wc => ∃ cv ls, Hid (TB B s T w0 w wc b ib FINC.1 hd (.string nt3) cv (.slice none 0 0) ls []) ∧ Hid (FINC.1.bad = none → Pairs LR.ok ls FINC.2 ∧ 1 ≤ ls.length) ∧ ls.length ≤ 3)
   case first =>
    go_wp2_with fail; go_loopg [8] 3 (fun gk _ wr => ∃ (q' : Wk.St) (cols : List (Wk.Name × Nat)) (cv : Value) (ls : List LR), Hid (TB B s T w0 w wr b ib q' hd (.string nt3) cv (.slice none 0 0) ls []) ∧ Hid (Pairs LR.ok ls cols) ∧ Hid (Wk.pCols T gk q' cols = FINC) ∧ Hid (gk + ls.length = 3 ∧ 0 < gk))
    case atStart => exact ⟨_, [], _, [], T5, Pairs.nil _, HFC, ⟨rfl, by decide⟩⟩
    case round =>
     obtain ⟨q', cols, cv, ls, Tr, HPR, HPC, HGK⟩ := hrel; obtain ⟨wo, rfl⟩ : ∃ wo : World, wo = wr := ⟨_, rfl⟩
     clear T5; have hgk := HGK.out.1; have hgp := HGK.out.2; obtain ⟨ad, cc, rfl, hcc⟩ := owns_slice Tr.out.cols; have c6 := Tr.out.inn.badc; obtain ⟨c11, c12, c13, cf⟩ := Tr.out.cells; cases hb : q'.bad with
     | some pl =>
      have hsm : q'.bad.isSome := by rw [hb]; rfl
      have h0 := badI_some hsm; have HEE : Hid (FINC.1 = q') := by
       show _ = _; rw [← HPC.out]; exact Wk.pCols_bad T hsm _ _
      have HBN : Hid (FINC.1.bad = none → Pairs LR.ok ls FINC.2 ∧ 1 ≤ ls.length) := fun e => by rw [HEE.out, hb] at e; cases e
      have TE : Hid (TB B s T w0 w wo b ib FINC.1 hd (.string nt3) (.slice ad ls.length cc) (.slice none 0 0) ls []) := by
       rw [HEE.out]; exact Tr.out
      clear hb hsm; generalize badI q' = z at *
      go_wp2_with fail; go_meet; exact ⟨_, _, TE, HBN, by omega⟩
     | none =>
      rw [badI_none hb] at c6; have HB : Hid _ := hb; clear hb; go_upto_region 12 with fail; have Td : Hid (TB B s T w0 w wo.drew b ib q' hd (.string nt3) (.slice ad ls.length cc) (.slice none 0 0) ls []) := Tr.out.below (Below.refl _ _).drew; refine wp_region_ph (fun w' => w'.cell? ⟨ib, 12, none⟩ = some (.slice ad ls.length cc)) 9 12 rfl (by kernel_rfl) c12 (fun hHeld => ?_); have HS : Hid _ := hHeld; clear hHeld; refine PhS.t 0 46 HS.out ?_; refine PhS.t 1 47 HS.out ?_; refine PhS.t 2 48 HS.out ?_; refine PhS.t 3 49 HS.out ?_; refine PhS.t 4 50 HS.out ?_; refine PhS.t 5 51 HS.out ?_; refine PhS.on 6 (fun K hK => ?_); go_simp; refine (i_kind Td.out.inn 110 (Or.inr (Or.inr rfl))).mono ?_; rintro e w5 ⟨⟨nk5, nt5, na5, rfl, hz5, ht5⟩, hI5⟩; rw [kindS_name] at hI5 ht5; have Te : Hid (TB B s T w0 w w5 b ib (q'.want T 2) hd (.string nt3) (.slice ad ls.length cc) (.slice none 0 0) ls []) := Td.out.step hI5; have HT5 : Hid _ := ht5; refine hK.out _ _ (fun _ => Te.out.cells.2.1) ?_; clear hK K HS hI5 ht5 c6 c11 c12 c13 cf; refine PhS.on 7 (fun K hK => ?_); go_simp; have Tf : Hid (∀ o, TB B s T w0 w (w5.alloc o) b ib (q'.want T 2) hd (.string nt3) (.slice ad ls.length cc) (.slice none 0 0) ls []) := fun o => Te.out.below ((Below.refl _ _).alloc (Nat.le_refl _) _)
      refine hK.out _ _ (fun _ => (Tf.out _).cells.2.1) ?_; clear hK K; obtain ⟨i0, hi0, hz0, hz1, hz2⟩ := info_parts Tryz.info87; have hsw := Te.out.sz; refine PhS.on 8 (fun K hK => ?_); refine step_append_lies _ (by rfl) (.tmp 50) (.tmp 53) 83 (by rfl) w.heap.size 87 i0 _ 3 32 Tryz.und83 hi0 hz0 hz1 hz2 (by rfl) (by omega) (.slice ad ls.length cc) ls.length (LR.flat ls) (by simp [Act.eval]) (Tf.out _).cols ⟨w5.heap.size, 0, none⟩ 1 1 (LR.cells ⟨nk5, nt5, na5⟩) (by simp [Act.eval]) (by rfl) (World.news_of_block (cs := (LR.cells ⟨nk5, nt5, na5⟩).toArray) (heap_alloc_new _ _)) (by intro u hu; simp [LR.cells] at hu; rcases hu with rfl | rfl | rfl <;> rfl) (by omega) (by unfold maxLen; omega) (by omega) (by rw [sz_alloc]; omega) _ rfl ?_; intro g cap w6 hown6 hgrow6 hat6 hlt6; have hgc := (Tf.out _).growCols hgrow6 g cap ⟨nk5, nt5, na5⟩ hown6 (hat6.imp id (fun e => by rw [e]; exact Nat.le_refl _)); refine hK.out _ _ (fun _ => hgc.2.1) ?_; have Tg : Hid _ := hgc.1; have k12 := hgc.2.1; have kf := hgc.2.2; clear hK K hown6 hgrow6 hat6 hlt6 hgc hz0 hz1 hz2 hi0; try simp only [Act.put, sA, sZ, sS]
      refine PhS.on 9 (fun K hK => ?_); go_simp; refine hK.out _ _ (fun h => absurd h (by decide)) ?_; clear hK K; refine PhS.on 10 (fun K hK => ?_); go_simp; refine hK.out _ _ (fun h => absurd h (by decide)) ?_; clear hK K; refine PhS.on 11 (fun K hK => ?_); go_simp; refine hK.out _ _ (fun h => absurd h (by decide)) ?_; clear hK K; refine PhS.done (by kernel_rfl) ?_ _; generalize hW7 : w6.setCell ⟨ib, 12, none⟩ (.slice (some ⟨g, 0, none⟩) (ls.length + 1) cap) = W7 at *
      clear hW7 k12 kf Tf Te Td Tr; obtain ⟨c11, c12, c13, cf⟩ := Tg.out.cells; have HPR7 : Hid ((q'.want T 2).bad = none → Pairs LR.ok (ls ++ [⟨nk5, nt5, na5⟩]) (cols ++ [((Wk.tokK T q'.k).text.data.toList, (Wk.tokK T q'.k).place)])) := fun e => by
       have h1 := HT5.out e; exact HPR.out.snoc ⟨h1.2.2.1, h1.2.2.2⟩
      have HPC2 : Hid (Wk.pCols T gk q' cols = if 0 < gk - 1 && (q'.want T 2).isK T 38 then Wk.pCols T (gk - 1) (q'.want T 2).adv (cols ++ [((Wk.tokK T q'.k).text.data.toList, (Wk.tokK T q'.k).place)]) else (q'.want T 2, cols ++ [((Wk.tokK T q'.k).text.data.toList, (Wk.tokK T q'.k).place)])) := by
       show _ = _; rw [show gk = (gk - 1) + 1 by omega, Wk.pCols]; simp
      rw [HPC.out] at HPC2; have hrl : (ls ++ [(⟨nk5, nt5, na5⟩ : LR)]).length = ls.length + 1 := by simp
      generalize hls7 : ls ++ [(⟨nk5, nt5, na5⟩ : LR)] = ls7 at *
      clear hls7; have HRL : Hid _ := hrl; clear hrl; generalize hcl : cols ++ [((Wk.tokK T q'.k).text.data.toList, (Wk.tokK T q'.k).place)] = cols7 at *
      clear hcl; go_wp2_with fail; cases hc : (q'.want T 2).isK T 38 with
      | false =>
       rw [hc] at HPC2; have HEE : Hid (FINC = (q'.want T 2, cols7)) := by
        show _ = _; rw [HPC2.out]; simp
       refine (i_is Tg.out.inn 38 ⟨#[44]⟩).mono ?_; rintro e w7 ⟨rfl, rfl⟩; rw [hc]; go_wp2_with fail; go_meet; exact ⟨_, _, by rw [HEE.out]; exact Tg, fun e => by
        rw [HEE.out] at e ⊢; exact ⟨HPR7.out e, by rw [HRL.out]; omega⟩, by rw [HRL.out]; omega⟩
      | true =>
       have HC : Hid _ := hc; rw [hc] at HPC2; refine (i_is Tg.out.inn 38 ⟨#[44]⟩).mono ?_; rintro e w7 ⟨rfl, rfl⟩; rw [hc]; clear hc; by_cases h5 : ls.length = 2
       ·have HEE : Hid (FINC = (q'.want T 2, cols7)) := by
         show _ = _; rw [HPC2.out, show gk - 1 = 0 by omega]; simp
        have d5 : ((ls.length : Int) + 1 == 3) = true := by rw [beq_iff_eq]; omega
        clear h5; go_wp2_with fail; go_meet; exact ⟨_, _, by rw [HEE.out]; exact Tg, fun e => by
         rw [HEE.out] at e ⊢; exact ⟨HPR7.out e, by rw [HRL.out]; omega⟩, by rw [HRL.out]; omega⟩
       ·have d5 : ((ls.length : Int) + 1 == 3) = false := by rw [beq_eq_false_iff_ne]; omega
        have h1 : 0 < gk - 1 := by omega
        have HEE : Hid (Wk.pCols T (gk - 1) (q'.want T 2).adv cols7 = FINC) := by
         show _ = _; rw [HPC2.out]; simp [h1]
        clear h5; go_wp2_with fail; refine (i_take Tg.out.inn).mono ?_; rintro e w8 ⟨⟨nk8, nt8, na8, rfl, -, -⟩, hI8⟩; rw [takeS_adv HC.out (by decide) (by decide)] at hI8; have T8 : Hid _ := Tg.out.step hI8; have HP8 : Hid (Pairs LR.ok ls7 cols7) := HPR7.out (Wk.isK_iff.1 HC.out).1; have HLL : Hid (gk - 1 + ls7.length = 3 ∧ 0 < gk - 1) := ⟨by rw [HRL.out]; omega, h1⟩
        clear hI8; go_wp2_with fail; go_roundg (gk - 1); case measure => omega
        case rel => exact ⟨_, _, _, _, T8, HP8, HEE, HLL⟩
   case rest =>
    obtain ⟨W6, hW6⟩ : ∃ W, W = wc := ⟨_, rfl⟩
    subst hW6; obtain ⟨cv, ls, T6, HCOL, hls3⟩ := hcut; clear T5; obtain ⟨adc, ccc, rfl, hccc⟩ := owns_slice T6.out.cols; go_wp2_with fail; refine (i_need T6.out.inn 35 ⟨#[41]⟩).mono ?_; rintro e w7 ⟨rfl, hI7⟩; have T7 : Hid (TB B s T w0 w w7 b ib (FINC.1.want T 35) hd (.string nt3) (.slice adc ls.length ccc) (.slice none 0 0) ls []) := T6.out.step hI7; clear hI7 T6; go_wp2_with fail; refine (i_need T7.out.inn 40 ⟨#[58]⟩).mono ?_; rintro e w8 ⟨rfl, hI8⟩; have T8 : Hid (TB B s T w0 w w8 b ib ((FINC.1.want T 35).want T 40) hd (.string nt3) (.slice adc ls.length ccc) (.slice none 0 0) ls []) := T7.out.step hI8; clear hI8 T7; generalize hFR : Wk.pRules T FINC.2.length 8 ((FINC.1.want T 35).want T 40) [] = FINR at *
    have HFR : Hid _ := hFR; clear hFR; have HST : Hid (((FINC.1.want T 35).want T 40).bad = none → FINC.1.bad = none) := fun e => (Wk.le_want _ _ (Wk.le_want _ _ e).1).1
    have HLN : Hid (FINC.1.bad = none → ls.length = FINC.2.length ∧ 1 ≤ ls.length) := fun e => ⟨(HCOL.out e).1.1, (HCOL.out e).2⟩
    have HQ1 : Hid (FINC.1.bad = none → q1.bad = none) := fun e => by
     have h1 : (q1.want T 34).bad = none := by
      cases hx : (q1.want T 34).bad with
      | none => rfl
      | some p =>
       have h2 := Wk.pCols_bad T (q := q1.want T 34) (by rw [hx]; rfl) 3 []; rw [HFC.out] at h2; rw [h2, hx] at e; cases e
     exact (Wk.le_want _ _ h1).1
    have HEND : Hid (∀ (wr : World) (q' : Wk.St) (rules : List Wk.PRule) (rv : Value) (rs : List RR), TB B s T w0 w wr b ib q' hd (.string nt3) (.slice adc ls.length ccc) rv ls rs → (q'.bad = none → FINC.1.bad = none) → FINR.1 = q' → (q'.bad = none → FINR.2 = rules ∧ Pairs (RR.ok w.heap.size wr.heap.size wr) rs rules) →
      ∃ (pol : ByteArray) (cv rv : Value) (ls : List LR) (rs : List RR), TB B s T w0 w wr b ib FIN.1 hd (.string pol) cv rv ls rs ∧ tableOK w wr FIN (.string pol) cv rv) := by
     intro wr q' rules rv rs hTB hq hr1 hr2; refine ⟨nt3, .slice adc ls.length ccc, rv, ls, rs, ?_, ?_⟩
     ·rw [HFIN.out]; show TB B s T w0 w wr b ib FINR.1 hd _ _ _ _ _; rw [hr1]; exact hTB
     ·intro hbad; rw [HFIN.out] at hbad ⊢; have hb' : q'.bad = none := by rw [← hr1]; exact hbad
      have hfc := hq hb'; obtain ⟨p1, p2, p3⟩ := HPL.out (HQ1.out hfc); refine ⟨p1, p2, by rw [p3], ⟨ls, (HCOL.out hfc).1, RowIn.ofOwn hTB.cols⟩, ?_⟩; obtain ⟨r1, r2⟩ := hr2 hb'; exact ⟨rs, by show Pairs _ rs FINR.2; rw [r1]; exact r2, RowIn.ofOwn hTB.rules⟩
    clear HFIN HCOL HQ1 HPL HF; go_wp2_with fail; go_loopg [9] 8 (fun gk _ wr => ∃ (q' : Wk.St) (rules : List Wk.PRule) (rv : Value) (rs : List RR), Hid (TB B s T w0 w wr b ib q' hd (.string nt3) (.slice adc ls.length ccc) rv ls rs) ∧ Hid (Pairs (RR.ok w.heap.size wr.heap.size wr) rs rules) ∧ Hid (Wk.pRules T FINC.2.length gk q' rules = FINR) ∧ Hid (gk + rs.length = 8 ∧ 0 < gk) ∧ Hid (q'.bad = none → FINC.1.bad = none))
    case atStart => exact ⟨_, [], _, [], T8, Pairs.nil _, HFR, ⟨rfl, by decide⟩, HST⟩
    case round =>
     obtain ⟨q', rules, rv, rs, Tr, HPR, HPC, HGK, HQF⟩ := hrel; obtain ⟨wo, rfl⟩ : ∃ wo : World, wo = wr := ⟨_, rfl⟩
     clear T8 HST HFR; have hgk := HGK.out.1; have hgp := HGK.out.2; obtain ⟨ad, cc, rfl, hcc⟩ := owns_slice Tr.out.rules; have c6 := Tr.out.inn.badc; obtain ⟨c11, c12, c13, cf⟩ := Tr.out.cells; cases hb : q'.bad with
     | some pl =>
      have hsm : q'.bad.isSome := by rw [hb]; rfl
      have h0 := badI_some hsm; have HFIN : Hid _ := HEND.out wo q' rules _ rs Tr.out HQF.out (by rw [← HPC.out]; exact Wk.pRules_bad T hsm _ _ _) (fun e => by rw [hb] at e; cases e); clear hb hsm; generalize badI q' = z at *
      go_wp2_with fail; go_end0
      exact ⟨rfl, HFIN.out⟩
     | none =>
      rw [badI_none hb] at c6; have hln := HLN.out (HQF.out hb); have HB : Hid _ := hb; clear hb; generalize hn : FINC.2.length = n at *
      have HN : Hid (FINC.2.length = n) := hn; clear hn; have hsw := Tr.out.sz; go_upto_block 6 with fail; have R0 : Hid (RB B s T w0 w (wo.alloc (.cells (rBox (.slice none 0 0) ⟨#[]⟩ ⟨#[]⟩ 0 (.slice none 0 0)) 166)) b ib q' hd (.string nt3) (.slice adc ls.length ccc) (.slice ad rs.length cc) ls rs wo.heap.size rules (.slice none 0 0) ⟨#[]⟩ ⟨#[]⟩ 0 (.slice none 0 0) [] []) := by
       have hb : Below wo.heap.size wo (wo.alloc (.cells (rBox (.slice none 0 0) ⟨#[]⟩ ⟨#[]⟩ 0 (.slice none 0 0)) 166)) := (Below.refl _ _).alloc (Nat.le_refl _) _; exact ⟨Tr.out.below hb, heap_alloc_new _ _, ⟨hsw, fun g hg => (World.ownsRow.lt Tr.out.rules g hg).2⟩, HPR.out.imp (fun _ _ g => g.keep (KeepY.below hb _ _ _)), World.ownsRow_nil _ _ _ _, fun _ => Pairs.nil _⟩
      unfold rBox at R0; generalize wo.alloc (.cells #[.slice none 0 0, .string ⟨#[]⟩, .string ⟨#[]⟩, .int .i64 0, .slice none 0 0] 166) = W9 at *
      generalize hFK : cellsFrom T 0 n q' [] = FINK; have HFK : Hid _ := hFK; clear hFK; go_cut [] from 75 to 135 (fun wc => ∃ (q2 : Wk.St) (cvr : Value) (cs : List CR) (cells : List Wk.PCell), Hid (RB B s T w0 w wc b ib q2 hd (.string nt3) (.slice adc ls.length ccc) (.slice ad rs.length cc) ls rs wo.heap.size rules cvr ⟨#[]⟩ ⟨#[]⟩ 0 (.slice none 0 0) cs cells) ∧ Hid (FINK.1 = q2 ∧ (q2.bad = none → FINK.2 = cells)))
      case first =>
       go_wp2_with fail; go_loopg [10] n (fun g1 kv wr => ∃ (j : Nat) (q2 : Wk.St) (cvr : Value) (cs : List CR) (cells : List Wk.PCell), kv = .int .i64 j ∧ g1 + j = n ∧ Hid (RB B s T w0 w wr b ib q2 hd (.string nt3) (.slice adc ls.length ccc) (.slice ad rs.length cc) ls rs wo.heap.size rules cvr ⟨#[]⟩ ⟨#[]⟩ 0 (.slice none 0 0) cs cells) ∧ Hid (cs.length = j ∧ cells.length = j) ∧ Hid (cellsFrom T j n q2 cells = FINK))
       case atStart => exact ⟨0, _, _, _, _, rfl, by omega, R0, ⟨rfl, rfl⟩, HFK⟩
       case round =>
        obtain ⟨j, q2, cvr, cs, cells, rfl, hgj, Rr, HCL, HCF⟩ := hrel; obtain ⟨wp, rfl⟩ : ∃ wp : World, wp = wr := ⟨_, rfl⟩
        clear R0 HFK c6 c11 c12 c13 cf; have c6 := Rr.out.tb.inn.badc; obtain ⟨c11, c12, c13, cf⟩ := Rr.out.tb.cells; obtain ⟨adr, ccr, rfl, hccr⟩ := owns_slice Rr.out.row; by_cases hj : j < n
        ·have d1 : (j : Int) < (ls.length : Int) := by omega
         cases hb2 : q2.bad with
         | some pl =>
          have hsm : q2.bad.isSome := by rw [hb2]; rfl
          have h0 := badI_some hsm; have HEE : Hid (FINK.1 = q2 ∧ (q2.bad = none → FINK.2 = cells)) := ⟨by rw [← HCF.out]; exact cellsFrom_bad hsm, fun e => by rw [hb2] at e; cases e⟩
          clear hb2 hsm; generalize badI q2 = z at *
          go_wp2_with fail; go_meet; exact ⟨_, _, _, _, Rr, HEE⟩
         | none =>
          rw [badI_none hb2] at c6; have HB2 : Hid _ := hb2; clear hb2; go_upto_if 97 with fail; go_cut [] from 80 to 106 (fun wc => Hid (RB B s T w0 w wc b ib (if j = 0 then q2 else q2.want T 38) hd (.string nt3) (.slice adc ls.length ccc) (.slice ad rs.length cc) ls rs wo.heap.size rules (.slice adr cs.length ccr) ⟨#[]⟩ ⟨#[]⟩ 0 (.slice none 0 0) cs cells))
          case first =>
           by_cases hj0 : j = 0
           ·have d97 : ¬ (0 : Int) < (j : Int) := by omega
            have HJ0 : Hid (j = 0) := hj0; clear hj0; go_wp2_with fail; go_meet; rw [if_pos HJ0.out]; exact Rr
           ·have d97 : (0 : Int) < (j : Int) := by omega
            go_wp2_with fail; refine (i_need Rr.out.tb.inn 38 ⟨#[44]⟩).mono ?_; rintro e w10 ⟨rfl, hI10⟩; have R10 : Hid _ := Rr.out.step hI10 (fun e => (Wk.le_want _ _ e).1); clear hI10; go_wp2_with fail; go_meet; rw [if_neg hj0]; exact R10
          case rest =>
           obtain ⟨W10, hW10⟩ : ∃ W, W = wc := ⟨_, rfl⟩
           subst hW10; have R10 : Hid (RB B s T w0 w W10 b ib (if j = 0 then q2 else q2.want T 38) hd (.string nt3) (.slice adc ls.length ccc) (.slice ad rs.length cc) ls rs wo.heap.size rules (.slice adr cs.length ccr) ⟨#[]⟩ ⟨#[]⟩ 0 (.slice none 0 0) cs cells) := hcut; have HST : Hid _ := cellsFrom_step (T := T) hj (q := q2) (l := cells) HCL.out.2; rw [HCF.out] at HST; generalize (if j = 0 then q2 else q2.want T 38) = q3 at *
           clear Rr hcut c6 c11 c12 c13 cf HCF; go_upto_region 25 with fail; have Rd : Hid (RB B s T w0 w W10.drew b ib q3 hd (.string nt3) (.slice adc ls.length ccc) (.slice ad rs.length cc) ls rs wo.heap.size rules (.slice adr cs.length ccr) ⟨#[]⟩ ⟨#[]⟩ 0 (.slice none 0 0) cs cells) := R10.out.below (Below.refl _ _).drew; refine wp_region_ph (fun w' => w'.cell? ⟨wo.heap.size, 0, none⟩ = some (.slice adr cs.length ccr)) 6 8 rfl (by kernel_rfl) Rd.out.cells5.1 (fun hHeld => ?_); have HS : Hid _ := hHeld; clear hHeld; refine PhS.t 0 100 HS.out ?_; refine PhS.t 1 101 HS.out ?_; refine PhS.t 2 102 HS.out ?_; refine PhS.on 3 (fun K hK => ?_); go_simp; refine (r_cell hQ b q3 Rd.out.tb.inn.self).mono ?_; rintro e w11 ⟨⟨no, ad11, n11, c11, rfl, ht11⟩, hI11⟩; have hst3 : (Wk.pCell T q3).1.bad = none → q3.bad = none := fun e => by
            cases hx : q3.bad with
            | none => rfl
            | some p =>
             rw [Wk.pCell_bad T (by rw [hx]; rfl), hx] at e; cases e
           have Re : Hid (RB B s T w0 w w11 b ib (Wk.pCell T q3).1 hd (.string nt3) (.slice adc ls.length ccc) (.slice ad rs.length cc) ls rs wo.heap.size rules (.slice adr cs.length ccr) ⟨#[]⟩ ⟨#[]⟩ 0 (.slice none 0 0) cs cells) := Rd.out.step hI11 hst3; have hl0 : wo.heap.size + 1 ≤ W10.drew.heap.size := lt_of_block Rd.out.rb; have HT11 : Hid ((Wk.pCell T q3).1.bad = none → CR.ok (wo.heap.size + 1) w11.heap.size w11 ⟨no, .slice ad11 n11 c11⟩ (Wk.pCell T q3).2) := fun e => (ht11 e).mono hl0 (Nat.le_refl _)
           refine hK.out _ _ (fun _ => Re.out.cells5.1) ?_; clear hK K HS hI11 ht11 hst3; refine PhS.on 4 (fun K hK => ?_); go_simp; have Rf : Hid (∀ o, RB B s T w0 w (w11.alloc o) b ib (Wk.pCell T q3).1 hd (.string nt3) (.slice adc ls.length ccc) (.slice ad rs.length cc) ls rs wo.heap.size rules (.slice adr cs.length ccr) ⟨#[]⟩ ⟨#[]⟩ 0 (.slice none 0 0) cs cells) := fun o => Re.out.below ((Below.refl _ _).alloc (Nat.le_refl _) _)
           refine hK.out _ _ (fun _ => (Rf.out _).cells5.1) ?_; clear hK K; obtain ⟨i0, hi0, hz0, hz1, hz2⟩ := info_parts Tryz.info171; have hl1 : wo.heap.size + 1 ≤ w11.heap.size := lt_of_block Re.out.rb; have hcs3 : cs.length ≤ 2 := by have := HCL.out.1; omega
           refine PhS.on 5 (fun K hK => ?_); refine step_append_lies _ (by rfl) (.tmp 101) (.tmp 104) 164 (by rfl) (wo.heap.size + 1) 171 i0 _ 2 32 Tryz.und164 hi0 hz0 hz1 hz2 (by rfl) (by omega) (.slice adr cs.length ccr) cs.length (CR.flat cs) (by simp [Act.eval]) (Rf.out _).row ⟨w11.heap.size, 0, none⟩ 1 1 (CR.cells ⟨no, .slice ad11 n11 c11⟩) (by simp [Act.eval]) (by rfl) (World.news_of_block (cs := (CR.cells ⟨no, .slice ad11 n11 c11⟩).toArray) (heap_alloc_new _ _)) (by intro u hu; simp [CR.cells] at hu; rcases hu with rfl | rfl <;> rfl) (by omega) (by unfold maxLen; omega) (by omega) (by rw [sz_alloc]; omega) _ rfl ?_; intro g cap w12 hown12 hgrow12 hat12 hlt12; have hgc := (Rf.out _).growCells hgrow12 g cap ⟨no, .slice ad11 n11 c11⟩ (Wk.pCell T q3).2 hown12 (fun e => ((HT11.out e).keep (KeepY.below ((Below.refl _ _).alloc (Nat.le_refl _) _) [173] _ _) (by decide)).mono (Nat.le_refl _) (by rw [sz_alloc]; omega)); refine hK.out _ _ (fun _ => hgc.2.1) ?_; have Rg : Hid _ := hgc.1; have k0 := hgc.2.1; have kf := hgc.2.2; clear hK K hown12 hgrow12 hat12 hlt12 hgc hz0 hz1 hz2 hi0; try simp only [Act.put, sA, sZ, sS]
           refine PhS.on 6 (fun K hK => ?_); go_simp; refine hK.out _ _ (fun h => absurd h (by decide)) ?_; clear hK K; refine PhS.on 7 (fun K hK => ?_); go_simp; refine hK.out _ _ (fun h => absurd h (by decide)) ?_; clear hK K; refine PhS.done (by kernel_rfl) ?_ _; generalize hW13 : w12.setCell ⟨wo.heap.size, 0, none⟩ (.slice (some ⟨g, 0, none⟩) (cs.length + 1) cap) = W13 at *
           have HLL : Hid ((cs ++ [(⟨no, .slice ad11 n11 c11⟩ : CR)]).length = j + 1 ∧ (cells ++ [(Wk.pCell T q3).2]).length = j + 1) := ⟨by have := HCL.out.1; simp; omega, by have := HCL.out.2; simp; omega⟩
           clear hW13 k0 kf Rf Re Rd R10; go_wp2_with fail; go_roundg (gk - 1); case measure => omega
           case rel => exact ⟨j + 1, _, _, _, _, by go_num, by omega, Rg, HLL, HST⟩
        ·have hjn : j = n := by omega
         have d1 : ¬ (j : Int) < (ls.length : Int) := by omega
         have HEE : Hid (FINK.1 = q2 ∧ (q2.bad = none → FINK.2 = cells)) := by
          have h1 := HCF.out; rw [hjn, cellsFrom_end (by omega)] at h1; rw [← h1]; exact ⟨rfl, fun _ => rfl⟩
         clear hjn; generalize badI q2 = z at *
         go_wp2_with fail; go_meet; exact ⟨_, _, _, _, Rr, HEE⟩
      case rest =>
       obtain ⟨W14, hW14⟩ : ∃ W, W = wc := ⟨_, rfl⟩
       subst hW14; obtain ⟨q2, cvr, cs, cells, R14, HK2⟩ := hcut; have HRULE : Hid (Wk.pRule T n q' = ((Wk.pExpr T (q2.want T 31)).1, ⟨FINK.2, (Wk.pExpr T (q2.want T 31)).2⟩)) := by
        show _ = _; have h1 := HFK.out; unfold cellsFrom at h1; rw [if_pos rfl] at h1; unfold Wk.pRule; simp only; rw [h1, HK2.out.1]
       clear R0 HFK Tr c6 c11 c12 c13 cf HPR; obtain ⟨adr, ccr, rfl, hccr⟩ := owns_slice R14.out.row; go_wp2_with fail; refine (i_need R14.out.tb.inn 31 ⟨#[61]⟩).mono ?_; rintro e w15 ⟨rfl, hI15⟩; have R15 : Hid _ := R14.out.step hI15 (fun e => (Wk.le_want _ _ e).1); have HW31 : Hid ((q2.want T 31).bad = none → q2.bad = none) := fun e => (Wk.le_want _ _ e).1
       clear hI15 R14; generalize q2.want T 31 = q4 at *
       go_wp2_with fail; refine (r_exprI hT hQ q4 b R15.out.tb.inn.self).mono ?_; rintro e w16 ⟨⟨op, x, na, ad16, n16, c16, rfl, ht16⟩, hI16⟩; have HX4 : Hid ((Wk.pExpr T q4).1.bad = none → q4.bad = none) := fun e => by
        cases hx : q4.bad with
        | none => rfl
        | some p =>
         rw [Wk.pExpr_bad T (by rw [hx]; rfl), hx] at e; cases e
       have R16 : Hid _ := R15.out.step hI16 HX4.out; have HT16 : Hid _ := ht16; have hs15 : wo.heap.size < w15.heap.size := lt_of_block R15.out.rb; have hs16 := hI16.size; clear hI16 ht16; have HQC : Hid ((Wk.pExpr T q4).1.bad = none → FINK.2 = cells) := fun e => HK2.out.2 (HW31.out (HX4.out e))
       generalize hE4 : Wk.pExpr T q4 = E4 at *
       clear hE4 HX4 HW31 HK2 R15; obtain ⟨k0, k1, k2, k3, k4, kf⟩ := R16.out.cells5; unfold tree; go_upto_region 28 with fail; have R17 : Hid _ := R16.out.setTree op x na (.slice ad16 n16 c16); have HT17 : Hid (E4.1.bad = none → TrI w15.heap.size w16.heap.size ((((w16.setCell ⟨wo.heap.size, 1, none⟩ (.string op)).setCell ⟨wo.heap.size, 2, none⟩ (.string x)).setCell ⟨wo.heap.size, 3, none⟩ (.int .i64 na)).setCell ⟨wo.heap.size, 4, none⟩ (.slice ad16 n16 c16)) (tree op x na (.slice ad16 n16 c16)) E4.2) := fun e => by
        refine (HT16.out e).keep ?_; exact (((KeepT.set (Or.inl hs15) _).trans (KeepT.set (Or.inl hs15) _)).trans (KeepT.set (Or.inl hs15) _)).trans (KeepT.set (Or.inl hs15) _)
       have hz17 : ((((w16.setCell ⟨wo.heap.size, 1, none⟩ (.string op)).setCell ⟨wo.heap.size, 2, none⟩ (.string x)).setCell ⟨wo.heap.size, 3, none⟩ (.int .i64 na)).setCell ⟨wo.heap.size, 4, none⟩ (.slice ad16 n16 c16)).heap.size = w16.heap.size := by simp [World.setCell]
       generalize (((w16.setCell ⟨wo.heap.size, 1, none⟩ (.string op)).setCell ⟨wo.heap.size, 2, none⟩ (.string x)).setCell ⟨wo.heap.size, 3, none⟩ (.int .i64 na)).setCell ⟨wo.heap.size, 4, none⟩ (.slice ad16 n16 c16) = W17 at *
       clear k0 k1 k2 k3 k4 kf R16 HT16; have HD17 : Hid (E4.1.bad = none → Pairs (RR.ok w.heap.size W17.heap.size W17) (rs ++ [⟨.slice adr cs.length ccr, op, x, na, .slice ad16 n16 c16⟩]) (rules ++ [⟨FINK.2, E4.2⟩])) := fun e => by
        rw [HQC.out e]; exact R17.out.done HT17.out (by omega) (by omega) e
       have T17 : Hid (TB B s T w0 w W17.drew b ib E4.1 hd (.string nt3) (.slice adc ls.length ccc) (.slice ad rs.length cc) ls rs) := R17.out.tb.below (Below.refl _ _).drew; have C17 : Hid _ := R17.out.cells5; clear HT17 HQC; refine wp_region_ph (fun w' => w'.cell? ⟨ib, 13, none⟩ = some (.slice ad rs.length cc) ∧ w'.cell? ⟨wo.heap.size, 0, none⟩ = some (.slice adr cs.length ccr) ∧ w'.cell? ⟨wo.heap.size, 1, none⟩ = some (.string op) ∧ w'.cell? ⟨wo.heap.size, 2, none⟩ = some (.string x) ∧ w'.cell? ⟨wo.heap.size, 3, none⟩ = some (.int .i64 na) ∧ w'.cell? ⟨wo.heap.size, 4, none⟩ = some (.slice ad16 n16 c16)) 8 11 rfl (by kernel_rfl) ⟨T17.out.cells.2.2.1, C17.out.1, C17.out.2.1, C17.out.2.2.1, C17.out.2.2.2.1, C17.out.2.2.2.2.1⟩ (fun hHeld => ?_); have HS : Hid _ := hHeld; clear hHeld; refine PhS.t 0 112 HS.out ?_; refine PhS.t 1 113 HS.out ?_; refine PhS.t 2 114 HS.out ?_; refine PhS.t 3 115 HS.out ?_; refine PhS.t 4 116 HS.out ?_; refine PhS.t 5 117 HS.out ?_; refine PhS.on 6 (fun K hK => ?_); go_simp; have hbd : Hid (∀ o, Below W17.heap.size W17 (W17.drew.alloc o)) := fun o => (Below.refl _ _).drew.alloc (Nat.le_refl _) _
       have Tf : Hid (∀ o, TB B s T w0 w (W17.drew.alloc o) b ib E4.1 hd (.string nt3) (.slice adc ls.length ccc) (.slice ad rs.length cc) ls rs) := fun o => R17.out.tb.below (hbd.out o)
       have Cf : Hid (∀ o, (W17.drew.alloc o).heap[wo.heap.size]? = some (.cells (rBox (.slice adr cs.length ccr) op x na (.slice ad16 n16 c16)) 166 (0, 0))) := fun o => ((hbd.out o).block _ (lt_of_block R17.out.rb)).trans R17.out.rb
       refine hK.out _ _ (fun _ => ⟨(Tf.out _).cells.2.2.1, blk_cell (Cf.out _) rfl, blk_cell (Cf.out _) rfl, blk_cell (Cf.out _) rfl, blk_cell (Cf.out _) rfl, blk_cell (Cf.out _) rfl⟩) ?_; clear hK K HS; obtain ⟨i0, hi0, hz0, hz1, hz2⟩ := info_parts Tryz.info166; have hsw17 := R17.out.tb.sz; refine PhS.on 7 (fun K hK => ?_); refine step_append_lies _ (by rfl) (.tmp 116) (.tmp 118) 108 (by rfl) w.heap.size 166 i0 _ 5 88 Tryz.und108 hi0 hz0 hz1 hz2 (by rfl) (by omega) (.slice ad rs.length cc) rs.length (RR.flat rs) (by simp [Act.eval]) (Tf.out _).rules ⟨W17.heap.size, 0, none⟩ 1 1 (RR.cells ⟨.slice adr cs.length ccr, op, x, na, .slice ad16 n16 c16⟩) (by simp [Act.eval]) (by rfl) (World.news_of_block (cs := (RR.cells ⟨.slice adr cs.length ccr, op, x, na, .slice ad16 n16 c16⟩).toArray) (heap_alloc_new _ _)) (by intro u hu; simp [RR.cells] at hu; rcases hu with rfl | rfl | rfl | rfl | rfl <;> rfl) (by omega) (by unfold maxLen; omega) (by omega) (by show _ ≤ (W17.alloc _).heap.size; rw [sz_alloc]; omega) _ rfl ?_; intro g cap w18 hown18 hgrow18 hat18 hlt18; have hgc := (Tf.out _).growRules hgrow18 g cap ⟨.slice adr cs.length ccr, op, x, na, .slice ad16 n16 c16⟩ hown18; have hrb18 : w18.heap[wo.heap.size]? = some (.cells (rBox (.slice adr cs.length ccr) op x na (.slice ad16 n16 c16)) 166 (0, 0)) := by
        have h1 := Cf.out (.cells #[.slice adr cs.length ccr, .string op, .string x, .int .i64 na, .slice ad16 n16 c16] 166); refine (hgrow18.block _ (lt_of_block h1) (fun e => ?_)).trans h1; have := R17.out.lo.2 _ e.symm; omega
       refine hK.out _ _ (fun _ => ⟨hgc.2.1, blk_cell hrb18 rfl, blk_cell hrb18 rfl, blk_cell hrb18 rfl, blk_cell hrb18 rfl, blk_cell hrb18 rfl⟩) ?_; have Tg : Hid _ := hgc.1; have k13 := hgc.2.1; have kf := hgc.2.2; have HD18 : Hid (E4.1.bad = none → Pairs (RR.ok w.heap.size (w18.setCell ⟨ib, 13, none⟩ (.slice (some ⟨g, 0, none⟩) (rs.length + 1) cap)).heap.size (w18.setCell ⟨ib, 13, none⟩ (.slice (some ⟨g, 0, none⟩) (rs.length + 1) cap))) (rs ++ [⟨.slice adr cs.length ccr, op, x, na, .slice ad16 n16 c16⟩]) (rules ++ [⟨FINK.2, E4.2⟩])) := fun e => by
        have hbox18 : w18.heap[ib]? = some (.cells (itC hd (.string nt3) (.slice adc ls.length ccc) (.slice ad rs.length cc)) 110 (0, 0)) := by
         have h1 := (Tf.out (.cells #[.slice adr cs.length ccr, .string op, .string x, .int .i64 na, .slice ad16 n16 c16] 166)).box; exact (hgrow18.block _ (lt_of_block h1) (own_ne (Tf.out _).rules h1 (by decide))).trans h1
        refine rules_keep (HD17.out e) (((KeepY.below (hbd.out _) _ _ _).trans (KeepY.grown (Tf.out _).rules (by decide) hgrow18)).trans (KeepY.setTy hbox18 (by decide) _)) ?_; have h2 : (W17.alloc (.cells #[.slice adr cs.length ccr, .string op, .string x, .int .i64 na, .slice ad16 n16 c16] 166)).heap.size ≤ w18.heap.size := hgrow18.size; rw [sz_alloc] at h2; simp [World.setCell]; omega
       clear hK K hown18 hgrow18 hat18 hlt18 hgc hz0 hz1 hz2 hi0 hrb18; try simp only [Act.put, sA, sZ, sS]
       refine PhS.on 8 (fun K hK => ?_); go_simp; refine hK.out _ _ (fun h => absurd h (by decide)) ?_; clear hK K; refine PhS.on 9 (fun K hK => ?_); go_simp; refine hK.out _ _ (fun h => absurd h (by decide)) ?_; clear hK K; refine PhS.on 10 (fun K hK => ?_); go_simp; refine hK.out _ _ (fun h => absurd h (by decide)) ?_; clear hK K; refine PhS.done (by kernel_rfl) ?_ _; generalize hW19 : w18.setCell ⟨ib, 13, none⟩ (.slice (some ⟨g, 0, none⟩) (rs.length + 1) cap) = W19 at *
       clear hW19 k13 kf Tf Cf hbd T17 C17 R17 HD17; obtain ⟨c11, c12, c13, cf⟩ := Tg.out.cells; have HPC2 : Hid (Wk.pRules T n gk q' rules = if 0 < gk - 1 && E4.1.isK T 40 then Wk.pRules T n (gk - 1) E4.1.adv (rules ++ [⟨FINK.2, E4.2⟩]) else (E4.1, rules ++ [⟨FINK.2, E4.2⟩])) := by
        show _ = _; rw [show gk = (gk - 1) + 1 by omega, Wk.pRules, HRULE.out]; simp
       rw [HPC.out] at HPC2; have HQF2 : Hid (E4.1.bad = none → FINC.1.bad = none) := fun _ => HQF.out HB.out
       have hrl : (rs ++ [(⟨.slice adr cs.length ccr, op, x, na, .slice ad16 n16 c16⟩ : RR)]).length = rs.length + 1 := by simp
       generalize hrs7 : rs ++ [(⟨.slice adr cs.length ccr, op, x, na, .slice ad16 n16 c16⟩ : RR)] = rs7 at *
       clear hrs7; have HRL : Hid _ := hrl; clear hrl; generalize hcl : rules ++ [(⟨FINK.2, E4.2⟩ : Wk.PRule)] = rules7 at *
       clear hcl; go_wp2_with fail; cases hc : E4.1.isK T 40 with
       | false =>
        rw [hc] at HPC2; have HEE : Hid (FINR = (E4.1, rules7)) := by
         show _ = _; rw [HPC2.out]; simp
        have HFIN : Hid _ := HEND.out W19 E4.1 rules7 _ rs7 Tg.out HQF2.out (by rw [HEE.out]) (fun e => ⟨by rw [HEE.out], HD18.out e⟩); refine (i_is Tg.out.inn 40 ⟨#[58]⟩).mono ?_; rintro e w20 ⟨rfl, rfl⟩; rw [hc]; go_wp2_with fail; go_end0
        exact ⟨rfl, HFIN.out⟩
       | true =>
        have HC : Hid _ := hc; rw [hc] at HPC2; refine (i_is Tg.out.inn 40 ⟨#[58]⟩).mono ?_; rintro e w20 ⟨rfl, rfl⟩; rw [hc]; clear hc; by_cases h5 : rs.length = 7
        ·have HEE : Hid (FINR = (E4.1, rules7)) := by
          show _ = _; rw [HPC2.out, show gk - 1 = 0 by omega]; simp
         have HFIN : Hid _ := HEND.out _ E4.1 rules7 _ rs7 Tg.out HQF2.out (by rw [HEE.out]) (fun e => ⟨by rw [HEE.out], HD18.out e⟩); have d5 : ((rs.length : Int) + 1 == 8) = true := by rw [beq_iff_eq]; omega
         clear h5; go_wp2_with fail; go_end0
         exact ⟨rfl, HFIN.out⟩
        ·have d5 : ((rs.length : Int) + 1 == 8) = false := by rw [beq_eq_false_iff_ne]; omega
         have h1 : 0 < gk - 1 := by omega
         have HEE : Hid (Wk.pRules T n (gk - 1) E4.1.adv rules7 = FINR) := by
          show _ = _; rw [HPC2.out]; simp [h1]
         clear h5; go_wp2_with fail; refine (i_take Tg.out.inn).mono ?_; rintro e w21 ⟨⟨nk8, nt8, na8, rfl, -, -⟩, hI21⟩; rw [takeS_adv HC.out (by decide) (by decide)] at hI21; have T21 : Hid _ := Tg.out.step hI21; have HP21 : Hid _ := rules_keep (HD18.out (Wk.isK_iff.1 HC.out).1) (KeepY.frT hI21.fr.toFrT (by decide) _ _) hI21.size; have HLL : Hid (gk - 1 + rs7.length = 8 ∧ 0 < gk - 1) := ⟨by rw [HRL.out]; omega, h1⟩
         have HQF3 : Hid (E4.1.adv.bad = none → FINC.1.bad = none) := fun _ => HQF.out HB.out
         clear hI21; go_wp2_with fail; go_roundg (gk - 1); case measure => omega
         case rel => exact ⟨_, _, _, _, T21, HP21, HEE, HLL, HQF3⟩
end
end Go.Proofs.YtbkaghlklkdmkaaGreatDoor
