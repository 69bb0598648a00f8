/-
  The program: letters, digits, spellings. The program: is it UTF-8. The program: what a row of digits is. The program's scanner: what it keeps; bad. The program: Clone; end of nothing. The program's scanner: end.
-/
import Derived.Test.YtbkaghlklkdmkaaGreatDoorMB
import Derived.Deep.MidRow
import Derived.Test.YtbkaghlklkdmkaaGreatDoorShelf
import Derived.Deep.DrawnRows
import Derived.Deep.RegionLaw
import Derived.Deep.RegionHeld3
import Derived.Deep.Cut
import Derived.Test.YtbkaghlklkdmkaaGreatDoorMO
set_option maxRecDepth 100000
set_option maxHeartbeats 8000000
namespace Go.Proofs.YtbkaghlklkdmkaaGreatDoor
open Go.RowKit
def spellVals : List Value := (List.range 42).map (fun k => .string ⟨(spellOf k).toArray⟩)
theorem spell_index (w : World) (k : Nat) (hk : k < 42) : (Instr.index 306 (.agg spellVals.toArray) (.int .i64 k)).run Tryz.prog w = .ok (.string ⟨(spellOf k).toArray⟩) w := by
 have hu : Tryz.prog.underlying 306 = some (.array 42 9) := by kernel_rfl
 have hi : (Tryz.prog.info? 9).map (fun i => i.size) = some 1 := by kernel_rfl
 have hv : spellVals[k]? = some (.string ⟨(spellOf k).toArray⟩) := by
  unfold spellVals; rw [List.getElem?_map, List.getElem?_range hk]; rfl
 obtain ⟨i9, hi9, hs9⟩ : ∃ i, Tryz.prog.info? 9 = some i ∧ i.size = 1 := by
  cases h : Tryz.prog.info? 9 with
  | none => rw [h] at hi; cases hi
  | some i => rw [h] at hi; exact ⟨i, rfl, by simpa using hi⟩
 have e1 : (Instr.index 306 (.agg spellVals.toArray) (.int .i64 k)).run Tryz.prog w = (part 9 spellVals.toArray k).run Tryz.prog w := by
  simp [Instr.index, run_underlying hu, asIntOf, hk]
 rw [e1]; simp [part, sizeOf, typeInfo, hi9, hs9, hv]
theorem spell_range {w : World} (h : Gl w) : w.rangeAt 5 0 spellVals := by
 intro j v hj; unfold spellVals at hj; rw [List.getElem?_map] at hj; rcases Nat.lt_or_ge j 42 with hlt | hge
 ·rw [List.getElem?_range hlt] at hj; have e : v = .string ⟨(spellOf j).toArray⟩ := by simpa using hj.symm
  rw [e, Nat.zero_add]; exact h.spell j hlt
 ·rw [List.getElem?_eq_none (by simpa using hge)] at hj; cases hj
def speltAt (l : List UInt8) (k : Nat) : Nat := Wk.speltIn l (Wk.spellings.drop (k - 6)) (if k < 6 then 6 else k)
theorem speltAt_end (l : List UInt8) : speltAt l 42 = 1 := rfl
theorem speltAt_low (l : List UInt8) {k : Nat} (h : k < 6) : speltAt l (k + 1) = speltAt l k := by
 unfold speltAt; rw [show k + 1 - 6 = 0 by omega, show k - 6 = 0 by omega, if_pos h]; split
 ·rfl
 ·rw [show k + 1 = 6 by omega]
theorem spell_get : ∀ k : Fin 42, 6 ≤ k.val → Wk.spellings[k.val - 6]? = some (spellOf k.val) := by decide
theorem speltAt_step (l : List UInt8) {k : Nat} (h6 : 6 ≤ k) (h : k < 42) : speltAt l k = if spellOf k = l then k else speltAt l (k + 1) := by
 have hg := spell_get ⟨k, h⟩ h6; have hlen : k - 6 < Wk.spellings.length := (List.getElem?_eq_some_iff.1 hg).1; have he : Wk.spellings[k - 6]'hlen = spellOf k := (List.getElem?_eq_some_iff.1 hg).2; unfold speltAt; rw [if_neg (by omega : ¬ k < 6), if_neg (by omega : ¬ k + 1 < 6), List.drop_eq_getElem_cons hlen, Wk.speltIn, he, show k - 6 + 1 = k + 1 - 6 by omega]
theorem spell_low : ∀ k : Fin 6, spellOf k.val = [] := by decide
theorem spell_high : ∀ k : Fin 42, 6 ≤ k.val → spellOf k.val ≠ [] := by decide
theorem ret_nat {a b : Nat} (h : a = b) : Ending.returned (.int .i64 (a : Int)) = .returned (.int .i64 (b : Int)) := by rw [h]
theorem p_spelt (x : ByteArray) (w : World) (hG : Gl w) :
  Calls Tryz.prog 162 #[.string x] w fun e w' => e = .returned (.int .i64 (Wk.spelt x.data.toList : Int)) ∧ w' = w := by
 have hr := spell_range hG; have HI : Hid (∀ wx k, k < 42 → (Instr.index 306 (.agg spellVals.toArray) (.int .i64 (k : Nat))).run Tryz.prog wx = .ok (.string ⟨(spellOf k).toArray⟩) wx) := fun wx k hk => spell_index wx k hk
 generalize hR : Wk.spelt x.data.toList = R; have HR : Hid (speltAt x.data.toList 0 = R) := hR; have hl : spellVals.length = 42 := by decide
 generalize hcs : spellVals = cs at *
 clear hR hG hcs; have hinfo : (Tryz.prog.info? 306).map (·.size) = some cs.length := by rw [hl]; kernel_rfl
 have hund : Tryz.prog.underlying 306 = some (.array 42 9) := by kernel_rfl
 have HU : Hid _ := hund; have HF : Hid _ := hinfo; have HRG : Hid _ := hr; clear hund hinfo hr hl; go_enter Tryz.func162, Tryz.ntmps162; go_wp2_with (refine wpList_load_mid rfl 306 _ rfl 5 0 rfl cs _ HRG.out HU.out rfl HF.out ?_); go_loop [6] (fun v => ∃ k : Nat, k ≤ 42 ∧ v = .int .i64 k ∧ Hid (speltAt x.data.toList k = R)) (fun v => 42 - (intOf v).toNat)
 case atStart => exact ⟨0, by omega, rfl, HR⟩
 case round =>
  obtain ⟨k, hk, rfl, HK⟩ := hrel; by_cases hlt : k < 42
  ·have hix := HI.out w k hlt; by_cases h6 : k < 6
   ·have e0 : spellOf k = [] := spell_low ⟨k, h6⟩; rw [e0] at hix; have HN : Hid (speltAt x.data.toList (k + 1) = R) := (speltAt_low _ h6).trans HK.out; clear e0; go_wp2
    go_round
    case rel => exact ⟨k + 1, by omega, by go_num, HN⟩
    case measure => simp [intOf]; omega
   ·have e0 : spellOf k ≠ [] := spell_high ⟨k, hlt⟩ (Nat.le_of_not_lt h6); have HS : Hid _ := speltAt_step x.data.toList (k := k) (Nat.le_of_not_lt h6) hlt; generalize spellOf k = y at *
    have e1 : y.isEmpty = false := by cases y with
     | nil => exact absurd rfl e0
     | cons a l => rfl
    clear e0; go_wp2
    ·have h1 : (y == x.toList) = true := by assumption
     go_ret; rw [beq_iff_eq, ByteArray.toList_eq] at h1; refine ⟨ret_nat ?_, rfl⟩; rw [← HK.out, HS.out, if_pos h1]
    ·have h1 : (y == x.toList) = false := by assumption
     go_round
     case rel =>
      refine ⟨k + 1, by omega, by go_num, ?_⟩; show _ = _; rw [beq_eq_false_iff_ne, ByteArray.toList_eq] at h1; rw [← HK.out, HS.out, if_neg h1]
     case measure => simp [intOf]; omega
  ·go_wp2
   go_ret; have e : k = 42 := by omega
   subst e; exact ⟨ret_nat (HK.out.symm.trans (speltAt_end _)).symm, rfl⟩
theorem p_isLetter (r : Int) (w : World) : Calls Tryz.prog 132 #[.int .i32 r] w fun e w' => e = .returned (.bool (decide (97 ≤ r ∧ r ≤ 122))) ∧ w' = w := by
 go_enter Tryz.func132, Tryz.ntmps132; go_wp2
 all_goals
  go_ret; refine ⟨ret_bool ?_, rfl⟩; rw [Bool.eq_iff_iff]; simp; omega
theorem p_isDigit (r : Int) (w : World) : Calls Tryz.prog 133 #[.int .i32 r] w fun e w' => e = .returned (.bool (decide (48 ≤ r ∧ r ≤ 57))) ∧ w' = w := by
 go_enter Tryz.func133, Tryz.ntmps133; go_wp2
 all_goals
  go_ret; refine ⟨ret_bool ?_, rfl⟩; rw [Bool.eq_iff_iff]; simp; omega
theorem p_kindOfLetters (x : ByteArray) (w : World) (hG : Gl w) :
  Calls Tryz.prog 136 #[.string x] w fun e w' => e = .returned (.int .i64 (Wk.letterKind x.data.toList : Int)) ∧ w' = w := by
 have hl : x.data.toList.length = x.size := by simp
 by_cases h8 : 8 < x.size
 ·have HK : Hid (Wk.letterKind x.data.toList = 1) := if_pos (by rw [hl]; exact h8); clear hl; go_enter Tryz.func136, Tryz.ntmps136; go_wp2_with fail; go_ret; exact ⟨ret_nat HK.out.symm, rfl⟩
 ·have HK : Hid (Wk.letterKind x.data.toList = if Wk.spelt x.data.toList = 1 then 2 else Wk.spelt x.data.toList) := if_neg (by rw [hl]; exact h8); have HP : Hid _ := p_spelt x w hG; generalize Wk.spelt x.data.toList = z at *
  clear hl; by_cases h1 : z = 1
  ·have h1' : ((z : Int) != 1) = false := by simp [h1]
   have HZ : Hid (Wk.letterKind x.data.toList = 2) := by
    show _ = _; rw [HK.out, if_pos h1]
   clear h1; go_enter Tryz.func136, Tryz.ntmps136; go_wp2_with fail; refine Calls.mono HP.out ?_; rintro e w' ⟨rfl, rfl⟩; go_wp2_with fail; go_ret; exact ⟨ret_nat HZ.out.symm, rfl⟩
  ·have h1' : ((z : Int) != 1) = true := by rw [bne_iff_ne]; omega
   have HZ : Hid (Wk.letterKind x.data.toList = z) := by
    show _ = _; rw [HK.out, if_neg h1]
   clear h1; go_enter Tryz.func136, Tryz.ntmps136; go_wp2_with fail; refine Calls.mono HP.out ?_; rintro e w' ⟨rfl, rfl⟩; go_wp2_with fail; go_ret; exact ⟨ret_nat HZ.out.symm, rfl⟩
theorem p_isUTF8 (t : ByteArray) (r : Int) (w : World) :
  Calls Tryz.prog 161 #[.string t, .int .i32 r] w fun e w' => e = .returned (.bool (r != 65533 || Lib.hasPrefix t.data.toList [239, 191, 189])) ∧ w' = w := by
 by_cases h : r = 65533
 ·have h1 : (r != 65533) = false := by simp [h]
  have HX : Hid ((r != 65533 || Lib.hasPrefix t.data.toList [239, 191, 189]) = Lib.hasPrefix t.data.toList [239, 191, 189]) := by
   show _ = _; rw [h1, Bool.false_or]
  clear h; go_enter Tryz.func161, Tryz.ntmps161; go_wp2_with fail; refine (Tryz.strings_HasPrefix _ _ _).mono ?_; rintro e w' ⟨rfl, rfl⟩; go_wp2_with fail; go_ret; exact ⟨ret_bool HX.out.symm, rfl⟩
 ·have h1 : (r != 65533) = true := by rw [bne_iff_ne]; exact h
  have HX : Hid ((r != 65533 || Lib.hasPrefix t.data.toList [239, 191, 189]) = true) := by
   show _ = _; rw [h1, Bool.true_or]
  clear h; go_enter Tryz.func161, Tryz.ntmps161; go_wp2_with fail; go_ret; exact ⟨ret_bool HX.out.symm, rfl⟩
theorem valFrom_ge (l : List UInt8) (n : Nat) : n ≤ Wk.valFrom n l := by
 rw [Wk.valFrom_split]; have h1 : 1 ≤ 10 ^ l.length := Nat.pos_of_ne_zero (by simp); have h2 : n * 1 ≤ n * 10 ^ l.length := Nat.mul_le_mul_left _ h1; omega
theorem parseUint_dig (l : List UInt8) : ∀ acc, acc ≤ 18446744073709551615 → Wk.allDig l →
  Lib.parseUintM 18446744073709551615 acc l = if Wk.valFrom acc l ≤ 18446744073709551615 then .ok (Wk.valFrom acc l) else .range := by
 induction l with
 | nil => intro acc h _; simp [Lib.parseUintM, Wk.valFrom, h]
 | cons c r ih =>
  intro acc h hd; have hc := Wk.dig_bounds (hd c (by simp)); have hr : Wk.allDig r := fun x hx => hd x (by simp [hx])
  rw [Lib.parseUintM, if_pos hc, Wk.valFrom_cons]; have hge := valFrom_ge r (10 * acc + (c.toNat - 48)); split
  ·rw [if_neg (by omega)]
  ·split
   ·rw [if_neg (by omega)]
   ·rw [show acc * 10 + (c.toNat - 48) = 10 * acc + (c.toNat - 48) by omega]; exact ih _ (by omega) hr
theorem parseInt_dig (l : List UInt8) (hd : Wk.allDig l) (hne : l ≠ []) :
  (Wk.digitsVal l ≤ 9223372036854775807 → Lib.parseIntB 64 l = .ok (Wk.digitsVal l : Int)) ∧ (9223372036854775807 < Wk.digitsVal l → Lib.parseIntB 64 l = .range) := by
 rw [Wk.digitsVal_eq]; cases l with
 | nil => exact absurd rfl hne
 | cons c r =>
  have hc := Wk.dig_bounds (hd c (by simp)); have h43 : ¬ (c.toNat = 43 ∨ c.toNat = 45) := by omega
  have h45 : ¬ c.toNat = 45 := by omega
  have hU : Lib.parseUintB 64 (c :: r) = Lib.parseUintM 18446744073709551615 0 (c :: r) := by
   unfold Lib.parseUintB; rw [if_neg (by simp)]
  have hp := parseUint_dig (c :: r) 0 (by omega) hd; have h63 : (2 : Nat) ^ (64 - 1) = 9223372036854775808 := by decide
  constructor
  ·intro hv; unfold Lib.parseIntB; simp only [h43, if_false]; rw [hU, hp, if_pos (by omega)]; simp only [h63, h45, not_false_eq_true, true_and, false_and, if_false]; rw [if_neg (by omega)]
  ·intro hv; unfold Lib.parseIntB; simp only [h43, if_false]; rw [hU, hp]; by_cases hb : Wk.valFrom 0 (c :: r) ≤ 18446744073709551615
   ·rw [if_pos hb]; show (if ¬ c.toNat = 45 ∧ 2 ^ (64 - 1) ≤ Wk.valFrom 0 (c :: r) then Lib.NumEnd.range else _) = _; rw [if_pos ⟨h45, by rw [h63]; omega⟩]
   ·rw [if_neg hb]
theorem parse_below {w w' : World} {t : TypeId} (h : w' = w ∨ ∃ x, w' = Lib.bytesWorld w t x) : Below w.heap.size w w' := by
 rcases h with rfl | ⟨x, rfl⟩
 ·exact Below.refl _ _
 ·exact Lib.bytesWorld_below _ _ _
theorem p_kindOfDigits (x : ByteArray) (w : World) (hG : Gl w) (h0 : 0 < x.size) (hs : x.size ≤ 1000) (hd : Wk.allDig x.data.toList) :
  Calls Tryz.prog 137 #[.string x] w fun e w' => e = .returned (.int .i64 (Wk.digitKind x.data.toList : Int)) ∧ Below w.heap.size w w' := by
 have hne : x.data.toList ≠ [] := by
  intro e; have : x.data.toList.length = 0 := by rw [e]; rfl
  have : x.data.toList.length = x.size := by simp
  omega
 have hl : x.data.toList.length = x.size := by simp
 by_cases hg : x.data.toList = Wk.greatText
 ·have HK : Hid (Wk.digitKind x.data.toList = 4) := if_pos hg; have hg1 : (x.toList == [57, 50, 50, 51, 51, 55, 50, 48, 51, 54, 56, 53, 52, 55, 55, 53, 56, 48, 56]) = true := by
   rw [ByteArray.toList_eq, hg]; decide
  clear hg hl hne; go_enter Tryz.func137, Tryz.ntmps137; go_wp2_with fail; go_ret; exact ⟨ret_nat HK.out.symm, Below.refl _ _⟩
 ·have hg1 : (x.toList == [57, 50, 50, 51, 51, 55, 50, 48, 51, 54, 56, 53, 52, 55, 55, 53, 56, 48, 56]) = false := by
   rw [ByteArray.toList_eq, beq_eq_false_iff_ne]; exact hg
  have hp := parseInt_dig _ hd hne; have HK : Hid (Wk.digitKind x.data.toList = if 1 < x.data.toList.length ∧ x.data.toList.head? = some 48 then 1 else if Wk.digitsVal x.data.toList ≤ 9223372036854775807 then 3 else 1) := if_neg hg; rw [hl, head_of x h0] at HK; by_cases hv : Wk.digitsVal x.data.toList ≤ 9223372036854775807
  ·have HP : Hid _ := hp.1 hv; by_cases hz : 1 < x.size ∧ (x[0]'h0).toNat = 48
   ·have HZ : Hid (Wk.digitKind x.data.toList = 1) := by
     show _ = _; rw [HK.out, if_pos]; exact ⟨hz.1, by rw [show x[0]'h0 = 48 from UInt8.toNat_inj.1 (by simpa using hz.2)]⟩
    obtain ⟨hz1, hz2⟩ := hz; have hz3 : ((x[0].toNat : Int) == 48) = true := by simp [hz2]
    clear hz2 hg hl hne hp hd HK hv; go_enter Tryz.func137, Tryz.ntmps137; go_wp2_with fail; refine (Tryz.strconv_ParseInt_10_at64_ok x (by omega) _ HP.out _).mono ?_; rintro e w' ⟨rfl, hw'⟩; have hbw : Below w.heap.size w w' := parse_below hw'; clear hw'; go_wp2_with fail; go_ret; exact ⟨ret_nat HZ.out.symm, hbw⟩
   ·have HZ : Hid (Wk.digitKind x.data.toList = 3) := by
     show _ = _; rw [HK.out, if_neg, if_pos hv]; rintro ⟨a, b⟩; apply hz; refine ⟨a, ?_⟩; have : x[0]'h0 = 48 := by simpa using b
     rw [this]; rfl
    have hz1 : 1 < x.size → ((x[0].toNat : Int) == 48) = false := fun h => by simp; omega
    clear hz hg hl hne hp hd HK hv; by_cases h1 : 1 < x.size
    ·have hz2 := hz1 h1; clear hz1; go_enter Tryz.func137, Tryz.ntmps137; go_wp2_with fail; refine (Tryz.strconv_ParseInt_10_at64_ok x (by omega) _ HP.out _).mono ?_; rintro e w' ⟨rfl, hw'⟩; have hbw : Below w.heap.size w w' := parse_below hw'; clear hw'; go_wp2_with fail; go_ret; exact ⟨ret_nat HZ.out.symm, hbw⟩
    ·clear hz1; go_enter Tryz.func137, Tryz.ntmps137; go_wp2_with fail; refine (Tryz.strconv_ParseInt_10_at64_ok x (by omega) _ HP.out _).mono ?_; rintro e w' ⟨rfl, hw'⟩; have hbw : Below w.heap.size w w' := parse_below hw'; clear hw'; go_wp2_with fail; go_ret; exact ⟨ret_nat HZ.out.symm, hbw⟩
  ·have HP : Hid _ := hp.2 (by omega); have HZ : Hid (Wk.digitKind x.data.toList = 1) := by
    show _ = _; rw [HK.out]; split
    ·rfl
    ·first | rfl | rw [if_neg hv]
   obtain ⟨te, pe, hv9⟩ := hG.errR; clear hg hl hne hp hd HK hv; go_enter Tryz.func137, Tryz.ntmps137; go_wp2_with fail; refine (Tryz.strconv_ParseInt_10_at64_range x (by omega) HP.out _ _ hv9 (Or.inr ⟨te, pe, rfl⟩)).mono ?_; rintro e w' ⟨N, rfl, -, -, hbw⟩; clear hv9; go_wp2_with fail; go_ret; exact ⟨ret_nat HZ.out.symm, hbw⟩
end Go.Proofs.YtbkaghlklkdmkaaGreatDoor
namespace Go.Proofs.YtbkaghlklkdmkaaGreatDoor
open Go.RowKit
attribute [local go_sem ↓] Go.wp_at_zero Go.wp_at_succ
def pcells (t : Wk.Tok) : List Value := [.int .i64 t.kind, .int .i64 t.place, .string t.text]
def pCells (l : List Wk.Tok) : List Value := (l.map pcells).flatten
theorem pCells_snoc (l : List Wk.Tok) (t : Wk.Tok) : pCells (l ++ [t]) = pCells l ++ pcells t := by simp [pCells]
def SP (B : Nat) (w : World) (b : Nat) (x : ByteArray) (l : List Wk.Tok) (st fr ru : Nat) : Prop :=
 ∃ tv, w.heap[b]? = some (.cells #[.string x, tv, .int .i64 st, .int .i64 fr, .int .i64 ru] 205 (0, 0)) ∧ B ≤ b ∧ w.ownsRow B 134 3 tv l.length (pCells l) ∧ l.length ≤ 1002
theorem Tryz.info134 : (Tryz.prog.info? 134).map (fun i => (i.zero, i.size, i.bytes)) = some (some (.agg #[.int .i64 0, .int .i64 0, .string ⟨#[]⟩]), 3, 32) := by kernel_rfl
theorem Tryz.und73 : Tryz.prog.underlying 73 = some (.slice 134) := by kernel_rfl
theorem p_bad (B b : Nat) (x : ByteArray) (l : List Wk.Tok) (st fr ru : Nat) (w : World) (hB : B ≤ w.heap.size) (h : SP B w b x l st fr ru) :
  Calls Tryz.prog 105 #[.pointer (some ⟨b, 0, none⟩)] w fun e w' => ∃ v, e = .returned v ∧ w'.ownsRow B 134 3 v (l.length + 1) (pCells (l ++ [⟨1, fr, ByteArray.empty, 0⟩])) ∧ FrT B [134] w w' := by
 obtain ⟨tv, h1, h2, h3, h4⟩ := h; have c1 : w.cell? ⟨b, 1, none⟩ = some tv := blk_cell h1 rfl; have c3 : w.cell? ⟨b, 3, none⟩ = some (.int .i64 fr) := blk_cell h1 rfl; have hlt := lt_of_block h1; have HO : Hid (∀ W, Below w.heap.size w W → W.ownsRow B 134 3 tv l.length (pCells l)) := fun W hb => owns_below h3 hb
 have H3 : Hid _ := h3; obtain ⟨i0, hi0, hz0, hz1, hz2⟩ := info_parts Tryz.info134; clear h1 h3; generalize hn : l.length = n at *
 have HN : Hid (l.length = n) := hn; clear hn; go_enter Tryz.func105, Tryz.ntmps105; go_wp2_with fail; go_region_law ((refine step_append_lies _ (by rfl) (.tmp 6) (.tmp 12) 73 (by rfl) B 134 i0 _ 3 32 Tryz.und73 hi0 hz0 hz1 hz2 (by rfl) (by omega) tv n (pCells l) (by simp [Act.eval]) (HO.out _ (by repeat (first | exact Below.refl _ _ | refine Below.drew ?_ | refine Below.alloc ?_ (by first | omega | (simp; omega)) _))) ⟨w.heap.size, 0, none⟩ 1 1 [.int .i64 1, .int .i64 fr, .string ⟨#[]⟩] (by simp [Act.eval]) (by rfl) (World.news_of_block (cs := #[.int .i64 1, .int .i64 fr, .string ⟨#[]⟩]) (heap_alloc_new _ _)) (by intro u hu; simp at hu; rcases hu with rfl | rfl | rfl <;> rfl) (by omega) (by unfold maxLen; omega) (by omega) (by simp; omega) (w.heap.size + 1) (by simp) ?_; intro g cap w1 hown1 hgrow hat hltg; have ko : Hid _ := hown1; have kg : Hid _ := hgrow; clear hown1 hgrow hat))
 all_goals
  go_wp2_with fail; go_ret; refine ⟨_, rfl, ?_, ?_⟩
  ·rw [pCells_snoc]; exact ko.out
  ·have hb : Below w.heap.size w (w.alloc (.cells #[.int .i64 1, .int .i64 fr, .string ⟨#[]⟩] 134)).drew := ((Below.refl _ _).alloc (Nat.le_refl _) _).drew; exact (FrT.ofBelow hb hB).grown (HO.out _ hb) kg.out (by simp) (Nat.le_trans hB hb.size)
theorem p_clone (s : ByteArray) (w : World) (hs : s.size ≤ 1000) : Calls Tryz.prog 163 #[.string s] w fun e w' => e = .returned (.string s) ∧ Below w.heap.size w w' := by
 go_enter Tryz.func163, Tryz.ntmps163; go_wp2_with fail; refine (Tryz.stringslite_Clone s _ (by omega)).mono ?_; rintro e w' ⟨rfl, hb⟩; have HB : Hid _ := hb; clear hb; go_wp2_with fail; go_ret; exact ⟨rfl, HB.out⟩
theorem p_end_bad (b : Nat) (to : Int) (w : World) : Calls Tryz.prog 135 #[.pointer (some ⟨b, 0, none⟩), .int .i64 1, .int .i64 to] w fun e w' => e = .returned (.bool false) ∧ w' = w := by
 go_enter Tryz.func135, Tryz.ntmps135; go_wp2_with fail; go_ret; exact ⟨rfl, rfl⟩
theorem grown_other5 {B : Nat} {w W w1 : World} {v : Value} {n : Nat} {xs : List Value} {e : TypeId} {size b : Nat} {cs : Array Value} {t : TypeId} {fr : Nat × Nat} (hown : w.ownsRow B e size v n xs) (hb : w.heap[b]? = some (.cells cs t fr)) (ht : t ≠ e) (hbel : Below w.heap.size w W) (hg : W.grownBy w1 v.ownBlock) : w1.heap[b]? = some (.cells cs t fr) := by
 have hlt := lt_of_block hb; have h1 : W.heap[b]? = some (.cells cs t fr) := (hbel.block b hlt).trans hb; refine (hg.block b (lt_of_block h1) ?_).trans h1; intro e'; rcases hown.2 with ⟨rfl, _⟩ | ⟨g, cap, cur, rfl, _, hgg, _⟩
 ·simp [Value.ownBlock] at e'
 ·simp [Value.ownBlock] at e'; subst e'; rw [hgg] at hb; cases hb; exact ht rfl
theorem p_end (B b : Nat) (x : ByteArray) (l : List Wk.Tok) (st fr ru : Nat) (w : World) (t : Wk.Tok) (kd to : Nat) (hB : B ≤ w.heap.size) (h : SP B w b x l st fr ru) (hk : kd = t.kind) (hp : t.place = fr) (ht : t.text = x.extract fr to) (hkd : kd ≠ 1) (h1 : fr ≤ to) (h2 : to ≤ x.size) (hx : x.size ≤ 1000) (hl : l.length ≤ 1001) :
  Calls Tryz.prog 135 #[.pointer (some ⟨b, 0, none⟩), .int .i64 kd, .int .i64 to] w fun e w' => e = .returned (.bool true) ∧ SP B w' b x (l ++ [t]) 0 fr ru ∧ FrT B [205, 134] w w' := by
 obtain ⟨tv, g1, g2, g3, g4⟩ := h; have c0 : w.cell? ⟨b, 0, none⟩ = some (.string x) := blk_cell g1 rfl; have c1 : w.cell? ⟨b, 1, none⟩ = some tv := blk_cell g1 rfl; have c3 : w.cell? ⟨b, 3, none⟩ = some (.int .i64 fr) := blk_cell g1 rfl; have hlt := lt_of_block g1; have G1 : Hid _ := g1; have G3 : Hid _ := g3; have HT : Hid (kd = t.kind ∧ t.place = fr ∧ t.text = x.extract fr to) := ⟨hk, hp, ht⟩
 have d1 : ((kd : Int) == 1) = false := by rw [beq_eq_false_iff_ne]; omega
 have hf0 : (0 : Int) ≤ (fr : Int) := by omega
 have hf1 : (fr : Int) ≤ (to : Int) := by omega
 have hf2 : (to : Int) ≤ (x.size : Int) := by omega
 clear g1 g3 hk hp ht hkd; go_enter Tryz.func135, Tryz.ntmps135; go_upto_region 3 with fail; refine wp_region_ph (fun w' => w'.cell? ⟨b, 0, none⟩ = some (.string x) ∧ w'.cell? ⟨b, 1, none⟩ = some tv ∧ w'.cell? ⟨b, 3, none⟩ = some (.int .i64 fr)) 24 27 rfl (by kernel_rfl) ⟨c0, c1, c3⟩ (fun hHeld => ?_); have HS : Hid _ := hHeld; clear hHeld; refine PhS.t 0 9 HS.out ?_; refine PhS.t 1 10 HS.out ?_; refine PhS.t 2 11 HS.out ?_; refine PhS.t 3 12 HS.out ?_; refine PhS.t 4 13 HS.out ?_; refine PhS.t 5 14 HS.out ?_; refine PhS.t 6 15 HS.out ?_; refine PhS.t 7 16 HS.out ?_; refine PhS.t 8 17 HS.out ?_; refine PhS.t 9 18 HS.out ?_; refine PhS.t 10 19 HS.out ?_; refine PhS.t 11 20 HS.out ?_; refine PhS.t 12 21 HS.out ?_; refine PhS.t 13 22 HS.out ?_; refine PhS.t 14 23 HS.out ?_; refine PhS.t 15 24 HS.out ?_; refine PhS.t 16 25 HS.out ?_; refine PhS.t 17 26 HS.out ?_; refine PhS.t 18 27 HS.out ?_; refine PhS.t 19 28 HS.out ?_; refine PhS.on 20 (fun K hK => ?_); go_simp; refine (p_clone (x.extract fr to) _ (by simp; omega)).mono ?_; rintro e w2 ⟨rfl, hb2⟩; have hb2 : Below w.heap.size w w2 := ⟨hb2.os, hb2.tape, hb2.output, hb2.size, hb2.block⟩
 have g12 := (hb2.block b hlt).trans G1.out; have HS2 : Hid (w2.cell? ⟨b, 0, none⟩ = some (.string x) ∧ w2.cell? ⟨b, 1, none⟩ = some tv ∧ w2.cell? ⟨b, 3, none⟩ = some (.int .i64 fr)) := ⟨blk_cell g12 rfl, blk_cell g12 rfl, blk_cell g12 rfl⟩
 have HB2 : Hid _ := hb2; have hz2 := hb2.size; clear hb2 g12; refine hK.out _ _ (fun _ => HS2.out) ?_; clear hK K HS; refine PhS.t 21 30 HS2.out ?_; refine PhS.on 22 (fun K hK => ?_); go_simp; have HB3 : Hid (∀ o, Below w.heap.size w (w2.alloc o)) := fun o => HB2.out.alloc hz2 o
 have HG3 : Hid (∀ o, (w2.alloc o).heap[b]? = some (.cells #[.string x, tv, .int .i64 st, .int .i64 fr, .int .i64 ru] 205 (0, 0))) := fun o => ((HB3.out o).block b hlt).trans G1.out
 refine hK.out _ _ (fun _ => ⟨blk_cell (HG3.out _) rfl, blk_cell (HG3.out _) rfl, blk_cell (HG3.out _) rfl⟩) ?_; clear hK K HS2; obtain ⟨i0, hi0, hz0, hz1, hz2⟩ := info_parts Tryz.info134; refine PhS.on 23 (fun K hK => ?_); refine step_append_lies _ (by rfl) (.tmp 13) (.tmp 31) 73 (by rfl) B 134 i0 _ 3 32 Tryz.und73 hi0 hz0 hz1 hz2 (by rfl) (by omega) tv l.length (pCells l) (by simp [Act.eval]) (owns_below G3.out (HB3.out _)) ⟨w2.heap.size, 0, none⟩ 1 1 [.int .i64 kd, .int .i64 fr, .string (x.extract fr to)] (by simp [Act.eval]) (by rfl) (World.news_of_block (cs := #[.int .i64 kd, .int .i64 fr, .string (x.extract fr to)]) (heap_alloc_new _ _)) (by intro u hu; simp at hu; rcases hu with rfl | rfl | rfl <;> rfl) (by omega) (by unfold maxLen; omega) (by omega) (Nat.le_trans hB (HB3.out _).size) _ rfl ?_; intro g cap w3 hown3 hgrow3 hat3 hlt3; have g13 : w3.heap[b]? = some (.cells #[.string x, tv, .int .i64 st, .int .i64 fr, .int .i64 ru] 205 (0, 0)) := grown_other5 G3.out G1.out (by decide) (HB3.out _) hgrow3; refine hK.out _ _ (fun _ => ⟨blk_cell g13 rfl, blk_cell g13 rfl, blk_cell g13 rfl⟩) ?_; have HF3 : Hid (FrT B [205, 134] w w3) := ((FrT.ofBelow (HB3.out _) hB).grown (owns_below G3.out (HB3.out _)) hgrow3 (by simp) (Nat.le_trans hB (HB3.out _).size))
 have HO3 : Hid _ := hown3; have HG13 : Hid _ := g13; have k1 := bc 1 g13 rfl; have kf := blk_free g13; clear hK K hown3 hgrow3 hat3 hlt3 g13 hz0 hz1 hz2 hi0 HG3 HB3 HB2; simp only [Act.put, List.setIfInBounds_toArray, List.set_cons_zero, List.set_cons_succ]; refine PhS.on 24 (fun K hK => ?_); go_simp; refine hK.out _ _ (fun h => absurd h (by decide)) ?_; clear hK K; refine PhS.on 25 (fun K hK => ?_); go_simp; refine hK.out _ _ (fun h => absurd h (by decide)) ?_; clear hK K; refine PhS.on 26 (fun K hK => ?_); go_simp; refine hK.out _ _ (fun h => absurd h (by decide)) ?_; clear hK K; refine PhS.done (by kernel_rfl) ?_ _; generalize hW : w3.setCell ⟨b, 1, none⟩ (.slice (some ⟨g, 0, none⟩) (l.length + 1) cap) = W; have HGW : Hid (W.heap[b]? = some (.cells #[.string x, .slice (some ⟨g, 0, none⟩) (l.length + 1) cap, .int .i64 st, .int .i64 fr, .int .i64 ru] 205 (0, 0))) := by
  show _ = _; rw [← hW, blk_set _ HG13.out]; rfl
 have HOW : Hid (W.ownsRow B 134 3 (.slice (some ⟨g, 0, none⟩) (l.length + 1) cap) (l.length + 1) (pCells l ++ [.int .i64 kd, .int .i64 fr, .string (x.extract fr to)])) := by
  rw [← hW]; exact owns_other HO3.out HG13.out (by decide) _
 have HFW : Hid (FrT B [205, 134] w W) := by
  rw [← hW]; exact HF3.out.setCell HG13.out (by simp) g2 _
 clear hW k1 kf HO3 HG13 HF3; have k2 := bc 2 HGW.out rfl; have kf := blk_free HGW.out; go_wp2_with fail; go_ret; refine ⟨rfl, ⟨_, by rw [blk_set _ HGW.out]; rfl, g2, ?_, by simp; omega⟩, HFW.out.setCell HGW.out (by simp) g2 _⟩; have := owns_other HOW.out HGW.out (by decide) (.int .i64 0) (o := 2); rw [List.length_append, pCells_snoc]; unfold pcells; rw [← HT.out.1, HT.out.2.1, HT.out.2.2]; exact this
end Go.Proofs.YtbkaghlklkdmkaaGreatDoor
