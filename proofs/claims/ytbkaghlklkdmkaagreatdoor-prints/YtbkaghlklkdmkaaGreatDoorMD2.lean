/-
  The program's scanner: closeRow. The program's scanner: begin, stepWord, stepPoints. The program's scanner: begin. The program's scanner: step.
-/
import Derived.Test.YtbkaghlklkdmkaaGreatDoorMD1
set_option maxRecDepth 100000
set_option maxHeartbeats 8000000
namespace Go.Proofs.YtbkaghlklkdmkaaGreatDoor
open Go.RowKit
attribute [local go_sem ↓] Go.wp_at_zero Go.wp_at_succ
structure Sc where
 l : List Wk.Tok
 st : Nat
 fr : Nat
 ru : Nat
def SPc (B : Nat) (w : World) (b : Nat) (x : ByteArray) (c : Sc) : Prop := SP B w b x c.l c.st c.fr c.ru
def endF (x : ByteArray) (c : Sc) (kd to : Nat) : Bool × Sc := if kd = 1 then (false, c) else (true, ⟨c.l ++ [Wk.mkTok x kd c.fr to], 0, c.fr, c.ru⟩)
theorem endF_fr (x : ByteArray) (c : Sc) (kd to : Nat) : (endF x c kd to).2.fr = c.fr := by unfold endF; split <;> rfl
theorem SPc.cells {B : Nat} {w : World} {b : Nat} {x : ByteArray} {c : Sc} (h : SPc B w b x c) : w.cell? ⟨b, 0, none⟩ = some (.string x) ∧ w.cell? ⟨b, 3, none⟩ = some (.int .i64 c.fr) := by
 obtain ⟨tv, g1, _⟩ := h; exact ⟨blk_cell g1 rfl, blk_cell g1 rfl⟩
theorem SPc.below {B : Nat} {w w' : World} {b : Nat} {x : ByteArray} {c : Sc} (h : SPc B w b x c) (hb : Below w.heap.size w w') : SPc B w' b x c := by
 obtain ⟨tv, g1, g2, g3, g4⟩ := h; exact ⟨tv, (hb.block b (lt_of_block g1)).trans g1, g2, owns_below g3 hb, g4⟩
theorem p_endF (B b : Nat) (x : ByteArray) (c : Sc) (w : World) (kd to : Nat) (hW : B ≤ w.heap.size) (h : SPc B w b x c) (h1 : c.fr ≤ to) (h2 : to ≤ x.size) (hx : x.size ≤ 1000) (hl : c.l.length ≤ 1001) :
  Calls Tryz.prog 135 #[.pointer (some ⟨b, 0, none⟩), .int .i64 kd, .int .i64 to] w fun e w' => e = .returned (.bool (endF x c kd to).1) ∧ SPc B w' b x (endF x c kd to).2 ∧ FrT B [205, 134] w w' := by
 by_cases hk : kd = 1
 ·subst hk; refine (p_end_bad b to w).mono ?_; rintro e w' ⟨rfl, rfl⟩; exact ⟨rfl, h, FrT.refl _ _ _⟩
 ·have e1 : endF x c kd to = (true, ⟨c.l ++ [Wk.mkTok x kd c.fr to], 0, c.fr, c.ru⟩) := if_neg hk; rw [e1]; exact p_end B b x c.l c.st c.fr c.ru w (Wk.mkTok x kd c.fr to) kd to hW h rfl rfl (by simp [Wk.mkTok, hk]) hk h1 h2 hx hl
theorem p_close1 (B b : Nat) (x : ByteArray) (c : Sc) (w : World) (to : Nat) (hW : B ≤ w.heap.size) (hG : Gl w) (h : SPc B w b x c) (hst : c.st = 1) (h1 : c.fr ≤ to) (h2 : to ≤ x.size) (hx : x.size ≤ 1000) (hl : c.l.length ≤ 1001) :
  Calls Tryz.prog 106 #[.pointer (some ⟨b, 0, none⟩), .int .i64 to] w fun e w' => e = .returned (.bool (endF x c (Wk.letterKind (x.extract c.fr to).data.toList) to).1) ∧ SPc B w' b x (endF x c (Wk.letterKind (x.extract c.fr to).data.toList) to).2 ∧ FrT B [205, 134] w w' := by
 obtain ⟨l, st, fr, ru⟩ := c; simp only at *
 subst hst; have HSP : Hid (SPc B w b x ⟨l, 1, fr, ru⟩) := h; obtain ⟨tv, g1, g2, g3, g4⟩ := h; have c0 : w.cell? ⟨b, 0, none⟩ = some (.string x) := blk_cell g1 rfl; have c2 : w.cell? ⟨b, 2, none⟩ = some (.int .i64 1) := blk_cell g1 rfl; have c3 : w.cell? ⟨b, 3, none⟩ = some (.int .i64 fr) := blk_cell g1 rfl; have hf0 : (0 : Int) ≤ (fr : Int) := by omega
 have hf1 : (fr : Int) ≤ (to : Int) := by omega
 have hf2 : (to : Int) ≤ (x.size : Int) := by omega
 have hlt := lt_of_block g1; generalize hkd : Wk.letterKind (x.extract fr to).data.toList = kd; have HKD : Hid (Wk.letterKind (x.extract fr to).data.toList = kd) := hkd; clear hkd; have HG : Hid (Gl w.drew) := hG.of (Nat.le_refl _) (fun _ _ => rfl); clear g1 g3; go_enter Tryz.func106, Tryz.ntmps106; go_upto_region 3 with fail; refine wp_region_ph (fun w' => w'.cell? ⟨b, 0, none⟩ = some (.string x) ∧ w'.cell? ⟨b, 3, none⟩ = some (.int .i64 fr)) 15 15 rfl (by kernel_rfl) ⟨c0, c3⟩ (fun hHeld => ?_); have HS : Hid _ := hHeld; clear hHeld; refine PhS.t 0 11 HS.out ?_; refine PhS.t 1 12 HS.out ?_; refine PhS.t 2 13 HS.out ?_; refine PhS.t 3 14 HS.out ?_; refine PhS.t 4 15 HS.out ?_; refine PhS.t 5 16 HS.out ?_; refine PhS.t 6 17 HS.out ?_; refine PhS.t 7 18 HS.out ?_; refine PhS.t 8 19 HS.out ?_; refine PhS.t 9 20 HS.out ?_; refine PhS.t 10 21 HS.out ?_; refine PhS.t 12 23 HS.out ?_; refine PhS.on 11 (fun K hK => ?_); go_simp; refine (p_kindOfLetters (x.extract fr to) _ HG.out).mono ?_; rintro e w2 ⟨rfl, hw2⟩; rw [HKD.out]; have hb2 : Below w.heap.size w w2 := by rw [hw2]; exact (Below.refl _ _).drew
 clear hw2; have hs2 := HSP.out.below hb2; have HB2 : Hid _ := hb2; have hz2 := hb2.size; have HSP2 : Hid (SPc B w2 b x ⟨l, 1, fr, ru⟩) := hs2; refine hK.out _ _ (fun _ => hs2.cells) ?_; have HS2 : Hid _ := hs2.cells; clear hK K HS hb2 hs2; try simp only [Act.put, sA, sZ, sS]
 refine PhS.on 13 (fun K hK => ?_); go_simp; refine (p_endF B b x ⟨l, 1, fr, ru⟩ w2 kd to (by omega) HSP2.out h1 h2 hx hl).mono ?_; rintro e w3 ⟨rfl, hs3, hf3⟩; refine hK.out _ _ (fun _ => by have := hs3.cells; rw [endF_fr] at this; exact this) ?_; have HF3 : Hid _ := hf3; have HSP3 : Hid (SPc B w3 b x (endF x ⟨l, 1, fr, ru⟩ kd to).2) := hs3; clear hK K HS2 hf3 hs3; try simp only [Act.put, sA, sZ, sS]
 refine PhS.on 14 (fun K hK => ?_); go_simp; refine hK.out _ _ (fun _ => by have := HSP3.out.cells; rw [endF_fr] at this; exact this) ?_; clear hK K; refine PhS.done (by kernel_rfl) ?_ _; go_wp2_with fail; go_ret; exact ⟨rfl, HSP3.out, (FrT.ofBelow HB2.out hW).trans HF3.out⟩
theorem p_close2 (B b : Nat) (x : ByteArray) (c : Sc) (w : World) (to : Nat) (hW : B ≤ w.heap.size) (hG : Gl w) (h : SPc B w b x c) (hst : c.st = 2) (h1 : c.fr ≤ to) (h2 : to ≤ x.size) (hx : x.size ≤ 1000) (hl : c.l.length ≤ 1001) (h3 : c.fr < to) (h4 : Wk.allDig (x.extract c.fr to).data.toList) :
  Calls Tryz.prog 106 #[.pointer (some ⟨b, 0, none⟩), .int .i64 to] w fun e w' => e = .returned (.bool (endF x c (Wk.digitKind (x.extract c.fr to).data.toList) to).1) ∧ SPc B w' b x (endF x c (Wk.digitKind (x.extract c.fr to).data.toList) to).2 ∧ FrT B [205, 134] w w' := by
 obtain ⟨l, st, fr, ru⟩ := c; simp only at *
 subst hst; have HSP : Hid (SPc B w b x ⟨l, 2, fr, ru⟩) := h; obtain ⟨tv, g1, g2, g3, g4⟩ := h; have c0 : w.cell? ⟨b, 0, none⟩ = some (.string x) := blk_cell g1 rfl; have c2 : w.cell? ⟨b, 2, none⟩ = some (.int .i64 2) := blk_cell g1 rfl; have c3 : w.cell? ⟨b, 3, none⟩ = some (.int .i64 fr) := blk_cell g1 rfl; have hf0 : (0 : Int) ≤ (fr : Int) := by omega
 have hf1 : (fr : Int) ≤ (to : Int) := by omega
 have hf2 : (to : Int) ≤ (x.size : Int) := by omega
 have hlt := lt_of_block g1; generalize hkd : Wk.digitKind (x.extract fr to).data.toList = kd; have HKD : Hid (Wk.digitKind (x.extract fr to).data.toList = kd) := hkd; clear hkd; have HG : Hid (Gl w.drew) := hG.of (Nat.le_refl _) (fun _ _ => rfl); clear g1 g3; go_enter Tryz.func106, Tryz.ntmps106; go_upto_region 5 with fail; refine wp_region_ph (fun w' => w'.cell? ⟨b, 0, none⟩ = some (.string x) ∧ w'.cell? ⟨b, 3, none⟩ = some (.int .i64 fr)) 15 15 rfl (by kernel_rfl) ⟨c0, c3⟩ (fun hHeld => ?_); have HS : Hid _ := hHeld; clear hHeld; refine PhS.t 0 27 HS.out ?_; refine PhS.t 1 28 HS.out ?_; refine PhS.t 2 29 HS.out ?_; refine PhS.t 3 30 HS.out ?_; refine PhS.t 4 31 HS.out ?_; refine PhS.t 5 32 HS.out ?_; refine PhS.t 6 33 HS.out ?_; refine PhS.t 7 34 HS.out ?_; refine PhS.t 8 35 HS.out ?_; refine PhS.t 9 36 HS.out ?_; refine PhS.t 10 37 HS.out ?_; refine PhS.t 12 39 HS.out ?_; refine PhS.on 11 (fun K hK => ?_); go_simp; refine (p_kindOfDigits (x.extract fr to) _ HG.out (by simp; omega) (by simp; omega) h4).mono ?_; rintro e w2 ⟨rfl, hb2⟩; rw [HKD.out]; have hb2 : Below w.heap.size w w2 := ⟨hb2.os, hb2.tape, hb2.output, hb2.size, hb2.block⟩
 have hs2 := HSP.out.below hb2; have HB2 : Hid _ := hb2; have hz2 := hb2.size; have HSP2 : Hid (SPc B w2 b x ⟨l, 2, fr, ru⟩) := hs2; refine hK.out _ _ (fun _ => hs2.cells) ?_; have HS2 : Hid _ := hs2.cells; clear hK K HS hb2 hs2; try simp only [Act.put, sA, sZ, sS]
 refine PhS.on 13 (fun K hK => ?_); go_simp; refine (p_endF B b x ⟨l, 2, fr, ru⟩ w2 kd to (by omega) HSP2.out h1 h2 hx hl).mono ?_; rintro e w3 ⟨rfl, hs3, hf3⟩; refine hK.out _ _ (fun _ => by have := hs3.cells; rw [endF_fr] at this; exact this) ?_; have HF3 : Hid _ := hf3; have HSP3 : Hid (SPc B w3 b x (endF x ⟨l, 2, fr, ru⟩ kd to).2) := hs3; clear hK K HS2 hf3 hs3; try simp only [Act.put, sA, sZ, sS]
 refine PhS.on 14 (fun K hK => ?_); go_simp; refine hK.out _ _ (fun _ => by have := HSP3.out.cells; rw [endF_fr] at this; exact this) ?_; clear hK K; refine PhS.done (by kernel_rfl) ?_ _; go_wp2_with fail; go_ret; exact ⟨rfl, HSP3.out, (FrT.ofBelow HB2.out hW).trans HF3.out⟩
theorem p_close0 (B b : Nat) (x : ByteArray) (c : Sc) (w : World) (to : Int) (h : SPc B w b x c) (h1 : c.st ≠ 1) (h2 : c.st ≠ 2) :
  Calls Tryz.prog 106 #[.pointer (some ⟨b, 0, none⟩), .int .i64 to] w fun e w' => e = .returned (.bool true) ∧ w' = w := by
 obtain ⟨tv, g1, g2, g3, g4⟩ := h; have c2 : w.cell? ⟨b, 2, none⟩ = some (.int .i64 c.st) := blk_cell g1 rfl; have d1 : ((c.st : Int) == 1) = false := by rw [beq_eq_false_iff_ne]; omega
 have d2 : ((c.st : Int) == 2) = false := by rw [beq_eq_false_iff_ne]; omega
 clear g1 g3 h1 h2; generalize c.st = st at *
 go_enter Tryz.func106, Tryz.ntmps106; go_wp2_with fail; go_ret; exact ⟨rfl, rfl⟩
theorem p_endI (B b : Nat) (x : ByteArray) (c : Sc) (w : World) (kd to : Nat) (zk z : Int) (hk : zk = kd) (hz : z = to) (hW : B ≤ w.heap.size) (h : SPc B w b x c) (h1 : c.fr ≤ to) (h2 : to ≤ x.size) (hx : x.size ≤ 1000) (hl : c.l.length ≤ 1001) :
  Calls Tryz.prog 135 #[.pointer (some ⟨b, 0, none⟩), .int .i64 zk, .int .i64 z] w fun e w' => e = .returned (.bool (endF x c kd to).1) ∧ SPc B w' b x (endF x c kd to).2 ∧ FrT B [205, 134] w w' := by
 subst hk; subst hz; exact p_endF B b x c w kd to hW h h1 h2 hx hl
theorem SPc.setSt {B : Nat} {w : World} {b : Nat} {x : ByteArray} {c : Sc} (h : SPc B w b x c) (n : Nat) : SPc B (w.setCell ⟨b, 2, none⟩ (.int .i64 n)) b x ⟨c.l, n, c.fr, c.ru⟩ ∧ FrT B [205, 134] w (w.setCell ⟨b, 2, none⟩ (.int .i64 n)) := by
 obtain ⟨tv, g1, g2, g3, g4⟩ := h; exact ⟨⟨tv, by rw [blk_set _ g1]; rfl, g2, owns_other g3 g1 (by decide) _, g4⟩, (FrT.refl _ _ _).setCell g1 (by simp) g2 _⟩
theorem SPc.setFr {B : Nat} {w : World} {b : Nat} {x : ByteArray} {c : Sc} (h : SPc B w b x c) (n : Nat) : SPc B (w.setCell ⟨b, 3, none⟩ (.int .i64 n)) b x ⟨c.l, c.st, n, c.ru⟩ ∧ FrT B [205, 134] w (w.setCell ⟨b, 3, none⟩ (.int .i64 n)) := by
 obtain ⟨tv, g1, g2, g3, g4⟩ := h; exact ⟨⟨tv, by rw [blk_set _ g1]; rfl, g2, owns_other g3 g1 (by decide) _, g4⟩, (FrT.refl _ _ _).setCell g1 (by simp) g2 _⟩
theorem SPc.setRu {B : Nat} {w : World} {b : Nat} {x : ByteArray} {c : Sc} (h : SPc B w b x c) (n : Nat) : SPc B (w.setCell ⟨b, 4, none⟩ (.int .i64 n)) b x ⟨c.l, c.st, c.fr, n⟩ ∧ FrT B [205, 134] w (w.setCell ⟨b, 4, none⟩ (.int .i64 n)) := by
 obtain ⟨tv, g1, g2, g3, g4⟩ := h; exact ⟨⟨tv, by rw [blk_set _ g1]; rfl, g2, owns_other g3 g1 (by decide) _, g4⟩, (FrT.refl _ _ _).setCell g1 (by simp) g2 _⟩
theorem SPc.all {B : Nat} {w : World} {b : Nat} {x : ByteArray} {c : Sc} (h : SPc B w b x c) : w.cell? ⟨b, 0, none⟩ = some (.string x) ∧ w.cell? ⟨b, 2, none⟩ = some (.int .i64 c.st) ∧ w.cell? ⟨b, 3, none⟩ = some (.int .i64 c.fr) ∧ w.cell? ⟨b, 4, none⟩ = some (.int .i64 c.ru) ∧ (∀ o, w.frozen? ⟨b, o, none⟩ = false) := by
 obtain ⟨tv, g1, _⟩ := h; exact ⟨blk_cell g1 rfl, blk_cell g1 rfl, blk_cell g1 rfl, blk_cell g1 rfl, blk_free g1⟩
def pointsF (x : ByteArray) (c : Sc) (at_ r : Nat) : Bool × Sc := if r = 46 then endF x c 41 (at_ + 1) else (false, c)
theorem p_stepPoints (B b : Nat) (x : ByteArray) (c : Sc) (w : World) (at_ r : Nat) (hW : B ≤ w.heap.size) (h : SPc B w b x c) (h1 : c.fr ≤ at_) (h2 : at_ < x.size) (hx : x.size ≤ 1000) (hl : c.l.length ≤ 1001) :
  Calls Tryz.prog 131 #[.pointer (some ⟨b, 0, none⟩), .int .i64 at_, .int .i32 r] w fun e w' => e = .returned (.bool (pointsF x c at_ r).1) ∧ SPc B w' b x (pointsF x c at_ r).2 ∧ FrT B [205, 134] w w' := by
 have H : Hid (SPc B w b x c) := h; clear h; by_cases hr : r = 46
 ·have d : ((r : Int) == 46) = true := by rw [beq_iff_eq]; omega
  have HP : Hid (pointsF x c at_ r = endF x c 41 (at_ + 1)) := if_pos hr; clear hr; go_enter Tryz.func131, Tryz.ntmps131; go_wp2_with fail; refine (p_endI B b x c _ 41 (at_ + 1) _ _ (by rfl) (by omega) hW H.out (by omega) (by omega) hx hl).mono ?_; rintro e w2 ⟨rfl, hs, hf⟩; have HS : Hid (SPc B w2 b x (endF x c 41 (at_ + 1)).2) := hs; have HF : Hid _ := hf; clear hs hf; go_wp2_with fail; go_ret; rw [HP.out]; exact ⟨rfl, HS.out, HF.out⟩
 ·have d : ((r : Int) == 46) = false := by rw [beq_eq_false_iff_ne]; omega
  have HP : Hid (pointsF x c at_ r = (false, c)) := if_neg hr; clear hr; go_enter Tryz.func131, Tryz.ntmps131; go_wp2_with fail; go_ret; rw [HP.out]; exact ⟨rfl, H.out, FrT.refl _ _ _⟩
def runeOK (x : ByteArray) (at_ r : Nat) : Bool := r != 65533 || Lib.hasPrefix (x.extract at_ x.size).data.toList [239, 191, 189]
def wordF (x : ByteArray) (c : Sc) (at_ r : Nat) : Bool × Sc :=
 if r = 34 then endF x c 5 (at_ + 1) else (decide (32 ≤ r) && (decide (c.ru + 1 ≤ 8) && runeOK x at_ r), ⟨c.l, c.st, c.fr, c.ru + 1⟩)
theorem p_stepWord (B b : Nat) (x : ByteArray) (c : Sc) (w : World) (at_ r : Nat) (hW : B ≤ w.heap.size) (h : SPc B w b x c) (h1 : c.fr ≤ at_) (h2 : at_ < x.size) (hx : x.size ≤ 1000) (hl : c.l.length ≤ 1001) (hru : c.ru ≤ 8) (hr0 : r < 2000000) :
  Calls Tryz.prog 130 #[.pointer (some ⟨b, 0, none⟩), .int .i64 at_, .int .i32 r] w fun e w' => e = .returned (.bool (wordF x c at_ r).1) ∧ SPc B w' b x (wordF x c at_ r).2 ∧ FrT B [205, 134] w w' := by
 have H : Hid (SPc B w b x c) := h; by_cases hr : r = 34
 ·have d : ((r : Int) == 34) = true := by rw [beq_iff_eq]; omega
  have HP : Hid (wordF x c at_ r = endF x c 5 (at_ + 1)) := if_pos hr; clear hr h; go_enter Tryz.func130, Tryz.ntmps130; go_wp2_with fail; refine (p_endI B b x c _ 5 (at_ + 1) _ _ (by rfl) (by omega) hW H.out (by omega) (by omega) hx hl).mono ?_; rintro e w2 ⟨rfl, hs, hf⟩; have HS : Hid (SPc B w2 b x (endF x c 5 (at_ + 1)).2) := hs; have HF : Hid _ := hf; clear hs hf; go_wp2_with fail; go_ret; rw [HP.out]; exact ⟨rfl, HS.out, HF.out⟩
 ·have d : ((r : Int) == 34) = false := by rw [beq_eq_false_iff_ne]; omega
  have HP : Hid (wordF x c at_ r = (decide (32 ≤ r) && (decide (c.ru + 1 ≤ 8) && runeOK x at_ r), ⟨c.l, c.st, c.fr, c.ru + 1⟩)) := if_neg hr; obtain ⟨c0, c2, c3, c4, cf⟩ := h.all; have HU : Hid _ := h.setRu (c.ru + 1); have hlt : b < w.heap.size := World.block_lt_of_cell? w _ c0; clear hr h; generalize hru' : c.ru = ru at *
  have HRU : Hid (c.ru = ru) := hru'; clear hru'; have hat0 : (0 : Int) ≤ (at_ : Int) := by omega
  have hat1 : (at_ : Int) ≤ (x.size : Int) := by omega
  by_cases h32 : 32 ≤ r
  ·by_cases h8 : ru + 1 ≤ 8
   ·have d8 : decide ((ru : Int) + 1 ≤ 8) = true := by simp; omega
    have d32 : decide ((32 : Int) ≤ (r : Int)) = true := by simp; omega
    obtain ⟨qv, hqv⟩ : ∃ v, v = (decide (32 ≤ r) && (decide (ru + 1 ≤ 8) && runeOK x at_ r)) := ⟨_, rfl⟩
    have HQV : Hid _ := hqv; have HQ : Hid (((r : Int) != 65533 || Lib.hasPrefix (x.extract at_ x.size).data.toList [239, 191, 189]) = qv) := by
     show _ = _; rw [hqv]; have : ((r : Int) != 65533) = (r != 65533) := by
      rw [Bool.eq_iff_iff, bne_iff_ne, bne_iff_ne]; omega
     simp only [h32, h8, decide_true, Bool.true_and, runeOK, this]
    clear h32 h8 hqv; go_enter Tryz.func130, Tryz.ntmps130; go_wp2_with fail; refine (p_isUTF8 _ _ _).mono ?_; rintro e w2 ⟨rfl, hw2⟩; rw [hw2, HQ.out]; clear hw2; go_wp2_with fail; go_ret; rw [HP.out]; refine ⟨ret_bool HQV.out, ?_, ?_⟩
    ·exact HU.out.1
    ·exact HU.out.2
   ·have d8 : decide ((ru : Int) + 1 ≤ 8) = false := by simp; omega
    have d32 : decide ((32 : Int) ≤ (r : Int)) = true := by simp; omega
    have HQ : Hid ((decide (32 ≤ r) && (decide (ru + 1 ≤ 8) && runeOK x at_ r)) = false) := by
     show _ = _; simp [h8]
    clear h8 h32; go_enter Tryz.func130, Tryz.ntmps130; go_wp2_with fail; go_ret; rw [HP.out]; refine ⟨ret_bool HQ.out.symm, ?_, ?_⟩
    ·exact HU.out.1
    ·exact HU.out.2
  ·have d32 : decide ((32 : Int) ≤ (r : Int)) = false := by simp; omega
   have HQ : Hid ((decide (32 ≤ r) && (decide (ru + 1 ≤ 8) && runeOK x at_ r)) = false) := by
    show _ = _; simp [h32]
   clear h32; go_enter Tryz.func130, Tryz.ntmps130; go_wp2_with fail; go_ret; rw [HP.out]; refine ⟨ret_bool HQ.out.symm, ?_, ?_⟩
   ·exact HU.out.1
   ·exact HU.out.2
def runeText (r : Nat) : List UInt8 := (Utf8.encode (r : Int)).data.toList
def beginF (x : ByteArray) (c : Sc) (at_ r : Nat) : Bool × Sc :=
 if r = 32 ∨ r = 10 then (true, ⟨c.l, c.st, at_, c.ru⟩)
 else if 97 ≤ r ∧ r ≤ 122 then (true, ⟨c.l, 1, at_, c.ru⟩)
 else if 48 ≤ r ∧ r ≤ 57 then (true, ⟨c.l, 2, at_, c.ru⟩)
 else if r = 34 then (true, ⟨c.l, 3, at_, 0⟩)
 else if r = 46 then (true, ⟨c.l, 4, at_, c.ru⟩)
 else endF x ⟨c.l, c.st, at_, c.ru⟩ (Wk.spelt (runeText r)) (at_ + 1)
theorem p_begin (B b : Nat) (x : ByteArray) (c : Sc) (w : World) (at_ r : Nat) (hB : 12 ≤ B) (hW : B ≤ w.heap.size) (hG : Gl w) (h : SPc B w b x c) (h2 : at_ < x.size) (hx : x.size ≤ 1000) (hl : c.l.length ≤ 1001) (hr0 : r < 2000000) :
  Calls Tryz.prog 134 #[.pointer (some ⟨b, 0, none⟩), .int .i64 at_, .int .i32 r] w fun e w' => e = .returned (.bool (beginF x c at_ r).1) ∧ SPc B w' b x (beginF x c at_ r).2 ∧ FrT B [205, 134] w w' := by
 obtain ⟨c0, c2, c3, c4, cf⟩ := h.all; have hlt : b < w.heap.size := World.block_lt_of_cell? w _ c0; have HU : Hid (SPc B (w.setCell ⟨b, 3, none⟩ (.int .i64 at_)) b x ⟨c.l, c.st, at_, c.ru⟩ ∧ FrT B [205, 134] w (w.setCell ⟨b, 3, none⟩ (.int .i64 at_))) := h.setFr at_; have HG : Hid (Gl (w.setCell ⟨b, 3, none⟩ (.int .i64 at_))) := HU.out.2.gl hB hG; clear h hG; by_cases a1 : r = 32 ∨ r = 10
 ·have HP : Hid (beginF x c at_ r = (true, ⟨c.l, c.st, at_, c.ru⟩)) := if_pos a1; by_cases a2 : r = 32
  ·have d1 : ((r : Int) == 32) = true := by rw [beq_iff_eq]; omega
   clear a1 a2; go_enter Tryz.func134, Tryz.ntmps134; go_wp2_with fail; go_ret; rw [HP.out]; exact ⟨rfl, HU.out.1, HU.out.2⟩
  ·have d1 : ((r : Int) == 32) = false := by rw [beq_eq_false_iff_ne]; omega
   have d2 : ((r : Int) == 10) = true := by rw [beq_iff_eq]; omega
   clear a1 a2; go_enter Tryz.func134, Tryz.ntmps134; go_wp2_with fail; go_ret; rw [HP.out]; exact ⟨rfl, HU.out.1, HU.out.2⟩
 ·have d1 : ((r : Int) == 32) = false := by rw [beq_eq_false_iff_ne]; omega
  have d2 : ((r : Int) == 10) = false := by rw [beq_eq_false_iff_ne]; omega
  by_cases a3 : 97 ≤ r ∧ r ≤ 122
  ·have HP : Hid (beginF x c at_ r = (true, ⟨c.l, 1, at_, c.ru⟩)) := by
    show _ = _; unfold beginF; rw [if_neg a1, if_pos a3]
   have HL : Hid (decide ((97 : Int) ≤ (r : Int) ∧ (r : Int) ≤ 122) = true) := by
    show _ = _; rw [decide_eq_true_eq]; omega
   have HV : Hid _ := HU.out.1.setSt 1; clear a1 a3; go_enter Tryz.func134, Tryz.ntmps134; go_wp2_with fail; refine (p_isLetter _ _).mono ?_; rintro e w2 ⟨rfl, hw2⟩; rw [hw2, HL.out]; clear hw2; go_wp2_with fail; go_ret; rw [HP.out]; exact ⟨rfl, HV.out.1, HU.out.2.trans HV.out.2⟩
  ·have HL : Hid (decide ((97 : Int) ≤ (r : Int) ∧ (r : Int) ≤ 122) = false) := by
    show _ = _; rw [decide_eq_false_iff_not]; omega
   by_cases a4 : 48 ≤ r ∧ r ≤ 57
   ·have HP : Hid (beginF x c at_ r = (true, ⟨c.l, 2, at_, c.ru⟩)) := by
     show _ = _; unfold beginF; rw [if_neg a1, if_neg a3, if_pos a4]
    have HD : Hid (decide ((48 : Int) ≤ (r : Int) ∧ (r : Int) ≤ 57) = true) := by
     show _ = _; rw [decide_eq_true_eq]; omega
    have HV : Hid _ := HU.out.1.setSt 2; clear a1 a3 a4; go_enter Tryz.func134, Tryz.ntmps134; go_wp2_with fail; refine (p_isLetter _ _).mono ?_; rintro e w2 ⟨rfl, hw2⟩; rw [hw2, HL.out]; clear hw2; go_wp2_with fail; refine (p_isDigit _ _).mono ?_; rintro e w2 ⟨rfl, hw2⟩; rw [hw2, HD.out]; clear hw2; go_wp2_with fail; go_ret; rw [HP.out]; exact ⟨rfl, HV.out.1, HU.out.2.trans HV.out.2⟩
   ·have HD : Hid (decide ((48 : Int) ≤ (r : Int) ∧ (r : Int) ≤ 57) = false) := by
     show _ = _; rw [decide_eq_false_iff_not]; omega
    by_cases a5 : r = 34
    ·have HP : Hid (beginF x c at_ r = (true, ⟨c.l, 3, at_, 0⟩)) := by
      show _ = _; unfold beginF; rw [if_neg a1, if_neg a3, if_neg a4, if_pos a5]
     have d3 : ((r : Int) == 34) = true := by rw [beq_iff_eq]; omega
     have HV : Hid _ := HU.out.1.setSt 3; have HY : Hid _ := HV.out.1.setRu 0; clear a1 a3 a4 a5; go_enter Tryz.func134, Tryz.ntmps134; go_wp2_with fail; refine (p_isLetter _ _).mono ?_; rintro e w2 ⟨rfl, hw2⟩; rw [hw2, HL.out]; clear hw2; go_wp2_with fail; refine (p_isDigit _ _).mono ?_; rintro e w2 ⟨rfl, hw2⟩; rw [hw2, HD.out]; clear hw2; go_wp2_with fail; go_ret; rw [HP.out]; exact ⟨rfl, HY.out.1, (HU.out.2.trans HV.out.2).trans HY.out.2⟩
    ·have d3 : ((r : Int) == 34) = false := by rw [beq_eq_false_iff_ne]; omega
     by_cases a6 : r = 46
     ·have HP : Hid (beginF x c at_ r = (true, ⟨c.l, 4, at_, c.ru⟩)) := by
       show _ = _; unfold beginF; rw [if_neg a1, if_neg a3, if_neg a4, if_neg a5, if_pos a6]
      have d4 : ((r : Int) == 46) = true := by rw [beq_iff_eq]; omega
      have HV : Hid _ := HU.out.1.setSt 4; clear a1 a3 a4 a5 a6; go_enter Tryz.func134, Tryz.ntmps134; go_wp2_with fail; refine (p_isLetter _ _).mono ?_; rintro e w2 ⟨rfl, hw2⟩; rw [hw2, HL.out]; clear hw2; go_wp2_with fail; refine (p_isDigit _ _).mono ?_; rintro e w2 ⟨rfl, hw2⟩; rw [hw2, HD.out]; clear hw2; go_wp2_with fail; go_ret; rw [HP.out]; exact ⟨rfl, HV.out.1, HU.out.2.trans HV.out.2⟩
     ·have HP : Hid (beginF x c at_ r = endF x ⟨c.l, c.st, at_, c.ru⟩ (Wk.spelt (runeText r)) (at_ + 1)) := by
       show _ = _; unfold beginF; rw [if_neg a1, if_neg a3, if_neg a4, if_neg a5, if_neg a6]
      have d4 : ((r : Int) == 46) = false := by rw [beq_eq_false_iff_ne]; omega
      clear a1 a3 a4 a5 a6; go_enter Tryz.func134, Tryz.ntmps134; go_wp2_with fail; refine (p_isLetter _ _).mono ?_; rintro e w2 ⟨rfl, hw2⟩; rw [hw2, HL.out]; clear hw2; go_wp2_with fail; refine (p_isDigit _ _).mono ?_; rintro e w2 ⟨rfl, hw2⟩; rw [hw2, HD.out]; clear hw2; go_wp2_with fail; refine (p_spelt _ _ HG.out).mono ?_; rintro e w2 ⟨rfl, hw2⟩; rw [hw2]; clear hw2; generalize hkd : Wk.spelt (Utf8.encode (r : Int)).data.toList = kd; have HKD : Hid (Wk.spelt (Utf8.encode (r : Int)).data.toList = kd) := hkd; clear hkd; go_wp2_with fail; refine (p_endI B b x ⟨c.l, c.st, at_, c.ru⟩ _ kd (at_ + 1) _ _ (by rfl) (by omega) (by simpa [World.setCell] using hW) HU.out.1 (by show at_ ≤ at_ + 1; omega) (by omega) hx hl).mono ?_; rintro e w3 ⟨rfl, hs, hf⟩; have HS : Hid (SPc B w3 b x (endF x ⟨c.l, c.st, at_, c.ru⟩ kd (at_ + 1)).2) := hs; have HF : Hid _ := hf; clear hs hf; go_wp2_with fail; go_ret; rw [HP.out]; unfold runeText; rw [HKD.out]; exact ⟨rfl, HS.out, HU.out.2.trans HF.out⟩
def closeF (x : ByteArray) (c : Sc) (to : Nat) : Bool × Sc :=
 if c.st = 1 then endF x c (Wk.letterKind (x.extract c.fr to).data.toList) to
 else if c.st = 2 then endF x c (Wk.digitKind (x.extract c.fr to).data.toList) to
 else (true, c)
theorem endF_len (x : ByteArray) (c : Sc) (kd to : Nat) : (endF x c kd to).2.l.length ≤ c.l.length + 1 := by
 unfold endF; split
 ·simp
 ·simp
theorem closeF_len (x : ByteArray) (c : Sc) (to : Nat) : (closeF x c to).2.l.length ≤ c.l.length + 1 := by
 unfold closeF; split
 ·exact endF_len _ _ _ _
 ·split
  ·exact endF_len _ _ _ _
  ·simp
def RowOK (x : ByteArray) (c : Sc) (to : Nat) : Prop := c.st = 2 → c.fr < to ∧ Wk.allDig (x.extract c.fr to).data.toList
theorem p_closeF (B b : Nat) (x : ByteArray) (c : Sc) (w : World) (to : Nat) (hW : B ≤ w.heap.size) (hG : Gl w) (h : SPc B w b x c) (h1 : c.fr ≤ to) (h2 : to ≤ x.size) (hx : x.size ≤ 1000) (hl : c.l.length ≤ 1001) (hd : RowOK x c to) :
  Calls Tryz.prog 106 #[.pointer (some ⟨b, 0, none⟩), .int .i64 to] w fun e w' => e = .returned (.bool (closeF x c to).1) ∧ SPc B w' b x (closeF x c to).2 ∧ FrT B [205, 134] w w' := by
 unfold closeF; by_cases s1 : c.st = 1
 ·rw [if_pos s1]; exact p_close1 B b x c w to hW hG h s1 h1 h2 hx hl
 ·rw [if_neg s1]; by_cases s2 : c.st = 2
  ·rw [if_pos s2]; exact p_close2 B b x c w to hW hG h s2 h1 h2 hx hl (hd s2).1 (hd s2).2
  ·rw [if_neg s2]; refine (p_close0 B b x c w to h s1 s2).mono ?_; rintro e w' ⟨rfl, rfl⟩; exact ⟨rfl, h, FrT.refl _ _ _⟩
def stepF (x : ByteArray) (c : Sc) (at_ r : Nat) : Bool × Sc :=
 if c.st = 3 then wordF x c at_ r
 else if c.st = 4 then pointsF x c at_ r
 else if (c.st = 1 ∧ 97 ≤ r ∧ r ≤ 122) ∨ (c.st = 2 ∧ 48 ≤ r ∧ r ≤ 57) then (true, c)
 else if (closeF x c at_).1 then beginF x (closeF x c at_).2 at_ r
 else (false, (closeF x c at_).2)
theorem p_step (B b : Nat) (x : ByteArray) (c : Sc) (w : World) (at_ r : Nat) (hB : 12 ≤ B) (hW : B ≤ w.heap.size) (hG : Gl w) (h : SPc B w b x c) (h1 : c.fr ≤ at_) (h2 : at_ < x.size) (hx : x.size ≤ 1000) (hl : c.l.length ≤ 1000) (hru : c.ru ≤ 8) (hr0 : r < 2000000) (hd : RowOK x c at_) :
  Calls Tryz.prog 104 #[.pointer (some ⟨b, 0, none⟩), .int .i64 at_, .int .i32 r] w fun e w' => e = .returned (.bool (stepF x c at_ r).1) ∧ SPc B w' b x (stepF x c at_ r).2 ∧ FrT B [205, 134] w w' := by
 obtain ⟨c0, c2, c3, c4, cf⟩ := h.all; have H : Hid (SPc B w b x c) := h; have HG : Hid (Gl w) := hG; have HD : Hid (RowOK x c at_) := hd; clear h hG hd c0 c3 c4 cf; by_cases s3 : c.st = 3
 ·have HP : Hid (stepF x c at_ r = wordF x c at_ r) := if_pos s3; rw [s3] at c2; clear s3; go_enter Tryz.func104, Tryz.ntmps104; go_wp2_with fail; refine (p_stepWord B b x c _ at_ r hW H.out h1 h2 hx (by omega) hru hr0).mono ?_; rintro e w2 ⟨rfl, hs, hf⟩; have HS2 : Hid (SPc B w2 b x (wordF x c at_ r).2) := hs; have HF2 : Hid _ := hf; clear hs hf; go_wp2_with fail; go_ret; rw [HP.out]; exact ⟨rfl, HS2.out, HF2.out⟩
 ·have d3 : ((c.st : Int) == 3) = false := by rw [beq_eq_false_iff_ne]; omega
  by_cases s4 : c.st = 4
  ·have HP : Hid (stepF x c at_ r = pointsF x c at_ r) := by
    show _ = _; unfold stepF; rw [if_neg s3, if_pos s4]
   have d4 : ((c.st : Int) == 4) = true := by rw [beq_iff_eq]; omega
   clear s3 s4; generalize c.st = st at *
   go_enter Tryz.func104, Tryz.ntmps104; go_wp2_with fail; refine (p_stepPoints B b x c _ at_ r hW H.out h1 h2 hx (by omega)).mono ?_; rintro e w2 ⟨rfl, hs, hf⟩; have HS2 : Hid (SPc B w2 b x (pointsF x c at_ r).2) := hs; have HF2 : Hid _ := hf; clear hs hf; go_wp2_with fail; go_ret; rw [HP.out]; exact ⟨rfl, HS2.out, HF2.out⟩
  ·have d4 : ((c.st : Int) == 4) = false := by rw [beq_eq_false_iff_ne]; omega
   by_cases s1 : c.st = 1
   ·have d1 : ((c.st : Int) == 1) = true := by rw [beq_iff_eq]; omega
    have d2 : ((c.st : Int) == 2) = false := by rw [beq_eq_false_iff_ne]; omega
    by_cases l1 : 97 ≤ r ∧ r ≤ 122
    ·have HP : Hid (stepF x c at_ r = (true, c)) := by
      show _ = _; unfold stepF; rw [if_neg s3, if_neg s4, if_pos (Or.inl ⟨s1, l1⟩)]
     have HL : Hid (decide ((97 : Int) ≤ (r : Int) ∧ (r : Int) ≤ 122) = true) := by
      show _ = _; rw [decide_eq_true_eq]; omega
     clear s3 s4 s1 l1; generalize c.st = st at *
     go_enter Tryz.func104, Tryz.ntmps104; go_wp2_with fail; refine (p_isLetter _ _).mono ?_; rintro e w2 ⟨rfl, hw2⟩; rw [hw2, HL.out]; clear hw2; go_wp2_with fail; go_ret; rw [HP.out]; exact ⟨rfl, H.out, FrT.refl _ _ _⟩
    ·have HP : Hid (stepF x c at_ r = if (closeF x c at_).1 then beginF x (closeF x c at_).2 at_ r else (false, (closeF x c at_).2)) := by
      show _ = _; unfold stepF; rw [if_neg s3, if_neg s4, if_neg (by omega)]
     have HL : Hid (decide ((97 : Int) ≤ (r : Int) ∧ (r : Int) ≤ 122) = false) := by
      show _ = _; rw [decide_eq_false_iff_not]; omega
     clear s3 s4 s1 l1; generalize c.st = st at *
     go_enter Tryz.func104, Tryz.ntmps104; go_wp2_with fail; refine (p_isLetter _ _).mono ?_; rintro e w2 ⟨rfl, hw2⟩; rw [hw2, HL.out]; clear hw2; go_wp2_with fail; refine (p_closeF B b x c _ at_ hW HG.out H.out (by omega) (by omega) hx (by omega) HD.out).mono ?_; rintro e w2 ⟨rfl, hs, hf⟩; have HS2 : Hid (SPc B w2 b x (closeF x c at_).2) := hs; have HF2 : Hid (FrT B [205, 134] w w2) := hf; have hz2 := hf.size; clear hs hf; cases hok : (closeF x c at_).1 with
     | false =>
      have HE : Hid (stepF x c at_ r = (false, (closeF x c at_).2)) := by
       have h1 := HP.out; rw [hok] at h1; exact h1
      clear hok; go_wp2_with fail; go_ret; rw [HE.out]; exact ⟨rfl, HS2.out, HF2.out⟩
     | true =>
      have HE : Hid (stepF x c at_ r = beginF x (closeF x c at_).2 at_ r) := by
       have h1 := HP.out; rw [hok] at h1; exact h1
      have hl2 : (closeF x c at_).2.l.length ≤ 1001 := by have := closeF_len x c at_; omega
      clear hok; go_wp2_with fail; refine (p_begin B b x (closeF x c at_).2 w2 at_ r hB (by omega) (HF2.out.gl hB HG.out) HS2.out h2 hx hl2 hr0).mono ?_; rintro e w3 ⟨rfl, hs, hf⟩; have HS3 : Hid (SPc B w3 b x (beginF x (closeF x c at_).2 at_ r).2) := hs; have HF3 : Hid _ := hf; clear hs hf; go_wp2_with fail; go_ret; rw [HE.out]; exact ⟨rfl, HS3.out, HF2.out.trans HF3.out⟩
   ·have d1 : ((c.st : Int) == 1) = false := by rw [beq_eq_false_iff_ne]; omega
    by_cases s2 : c.st = 2
    ·have d2 : ((c.st : Int) == 2) = true := by rw [beq_iff_eq]; omega
     by_cases l1 : 48 ≤ r ∧ r ≤ 57
     ·have HP : Hid (stepF x c at_ r = (true, c)) := by
       show _ = _; unfold stepF; rw [if_neg s3, if_neg s4, if_pos (Or.inr ⟨s2, l1⟩)]
      have HL : Hid (decide ((48 : Int) ≤ (r : Int) ∧ (r : Int) ≤ 57) = true) := by
       show _ = _; rw [decide_eq_true_eq]; omega
      clear s3 s4 s1 s2 l1; generalize c.st = st at *
      go_enter Tryz.func104, Tryz.ntmps104; go_wp2_with fail; refine (p_isDigit _ _).mono ?_; rintro e w2 ⟨rfl, hw2⟩; rw [hw2, HL.out]; clear hw2; go_wp2_with fail; go_ret; rw [HP.out]; exact ⟨rfl, H.out, FrT.refl _ _ _⟩
     ·have HP : Hid (stepF x c at_ r = if (closeF x c at_).1 then beginF x (closeF x c at_).2 at_ r else (false, (closeF x c at_).2)) := by
       show _ = _; unfold stepF; rw [if_neg s3, if_neg s4, if_neg (by omega)]
      have HL : Hid (decide ((48 : Int) ≤ (r : Int) ∧ (r : Int) ≤ 57) = false) := by
       show _ = _; rw [decide_eq_false_iff_not]; omega
      clear s3 s4 s1 s2 l1; generalize c.st = st at *
      go_enter Tryz.func104, Tryz.ntmps104; go_wp2_with fail; refine (p_isDigit _ _).mono ?_; rintro e w2 ⟨rfl, hw2⟩; rw [hw2, HL.out]; clear hw2; go_wp2_with fail; refine (p_closeF B b x c _ at_ hW HG.out H.out (by omega) (by omega) hx (by omega) HD.out).mono ?_; rintro e w2 ⟨rfl, hs, hf⟩; have HS2 : Hid (SPc B w2 b x (closeF x c at_).2) := hs; have HF2 : Hid (FrT B [205, 134] w w2) := hf; have hz2 := hf.size; clear hs hf; cases hok : (closeF x c at_).1 with
      | false =>
       have HE : Hid (stepF x c at_ r = (false, (closeF x c at_).2)) := by
        have h1 := HP.out; rw [hok] at h1; exact h1
       clear hok; go_wp2_with fail; go_ret; rw [HE.out]; exact ⟨rfl, HS2.out, HF2.out⟩
      | true =>
       have HE : Hid (stepF x c at_ r = beginF x (closeF x c at_).2 at_ r) := by
        have h1 := HP.out; rw [hok] at h1; exact h1
       have hl2 : (closeF x c at_).2.l.length ≤ 1001 := by have := closeF_len x c at_; omega
       clear hok; go_wp2_with fail; refine (p_begin B b x (closeF x c at_).2 w2 at_ r hB (by omega) (HF2.out.gl hB HG.out) HS2.out h2 hx hl2 hr0).mono ?_; rintro e w3 ⟨rfl, hs, hf⟩; have HS3 : Hid (SPc B w3 b x (beginF x (closeF x c at_).2 at_ r).2) := hs; have HF3 : Hid _ := hf; clear hs hf; go_wp2_with fail; go_ret; rw [HE.out]; exact ⟨rfl, HS3.out, HF2.out.trans HF3.out⟩
    ·have d2 : ((c.st : Int) == 2) = false := by rw [beq_eq_false_iff_ne]; omega
     have HP : Hid (stepF x c at_ r = if (closeF x c at_).1 then beginF x (closeF x c at_).2 at_ r else (false, (closeF x c at_).2)) := by
      show _ = _; unfold stepF; rw [if_neg s3, if_neg s4, if_neg (by omega)]
     clear s3 s4 s1 s2; generalize c.st = st at *
     go_enter Tryz.func104, Tryz.ntmps104; go_wp2_with fail; refine (p_closeF B b x c _ at_ hW HG.out H.out (by omega) (by omega) hx (by omega) HD.out).mono ?_; rintro e w2 ⟨rfl, hs, hf⟩; have HS2 : Hid (SPc B w2 b x (closeF x c at_).2) := hs; have HF2 : Hid (FrT B [205, 134] w w2) := hf; have hz2 := hf.size; clear hs hf; cases hok : (closeF x c at_).1 with
     | false =>
      have HE : Hid (stepF x c at_ r = (false, (closeF x c at_).2)) := by
       have h1 := HP.out; rw [hok] at h1; exact h1
      clear hok; go_wp2_with fail; go_ret; rw [HE.out]; exact ⟨rfl, HS2.out, HF2.out⟩
     | true =>
      have HE : Hid (stepF x c at_ r = beginF x (closeF x c at_).2 at_ r) := by
       have h1 := HP.out; rw [hok] at h1; exact h1
      have hl2 : (closeF x c at_).2.l.length ≤ 1001 := by have := closeF_len x c at_; omega
      clear hok; go_wp2_with fail; refine (p_begin B b x (closeF x c at_).2 w2 at_ r hB (by omega) (HF2.out.gl hB HG.out) HS2.out h2 hx hl2 hr0).mono ?_; rintro e w3 ⟨rfl, hs, hf⟩; have HS3 : Hid (SPc B w3 b x (beginF x (closeF x c at_).2 at_ r).2) := hs; have HF3 : Hid _ := hf; clear hs hf; go_wp2_with fail; go_ret; rw [HE.out]; exact ⟨rfl, HS3.out, HF2.out.trans HF3.out⟩
end Go.Proofs.YtbkaghlklkdmkaaGreatDoor
