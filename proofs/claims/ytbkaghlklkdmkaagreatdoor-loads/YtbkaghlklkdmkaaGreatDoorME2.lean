/-
  The walk of the document's answer: one token cut out of the text.
-/
import Derived.Test.YtbkaghlklkdmkaaGreatDoorME1
import Derived.Deep.DeepFit
import Derived.Deep.QuietTactic
import Derived.BigQuiet
set_option maxRecDepth 100000
set_option maxHeartbeats 8000000
namespace Go.Proofs.YtbkaghlklkdmkaaGreatDoor
open Go.RowKit
theorem extract_len {s : ByteArray} {j k : Nat} (hk : k ≤ s.size) : (s.extract j k).data.toList.length = k - j := by
 rw [Lib.extract_data, List.length_take, List.length_drop]; have : s.data.toList.length = s.size := by simp
 omega
theorem rtok_gram {s : ByteArray} {j z : Nat} (m : Bool) (hg : isGram (s.extract j z).data.toList = true) : rtok (Wk.mkTok s (Wk.letterKind (s.extract j z).data.toList) j z) m = .agg #[.int .u8 107, .string (s.extract j z), .int .i64 j] := by
 have := letter_gram hg; refine rtok_mk m _ _ 107 ?_ (by decide); unfold rkind; rw [if_neg (by omega), if_neg (by omega), if_neg (by omega), if_neg (by omega), if_neg (by omega), if_neg (by omega), if_pos (by omega)]
theorem rtok_long {s : ByteArray} {j z : Nat} (m : Bool) (hl : 8 < (s.extract j z).data.toList.length) : rtok (Wk.mkTok s (Wk.letterKind (s.extract j z).data.toList) j z) m = .agg #[.int .u8 33, .string ByteArray.empty, .int .i64 j] ∧ (Wk.mkTok s (Wk.letterKind (s.extract j z).data.toList) j z).kind = 1 := by
 rw [letter_long hl]; exact ⟨rtok_bad m _, rfl⟩
theorem rtok_name {s : ByteArray} {j z : Nat} (m : Bool) (hg : isGram (s.extract j z).data.toList = false) (hl : (s.extract j z).data.toList.length ≤ 8) (ha : ∀ c ∈ (s.extract j z).data.toList, Wk.isLow c = true) :
  rtok (Wk.mkTok s (Wk.letterKind (s.extract j z).data.toList) j z) m = .agg #[.int .u8 110, .string (s.extract j z), .int .i64 j] := by
 refine rtok_mk m _ _ 110 ?_ (by decide); rw [letter_name hg hl ha]; rfl
theorem rtok_dig_yes {s : ByteArray} {j z : Nat} (m : Bool) (hd : Wk.allDig (s.extract j z).data.toList) (hne : (s.extract j z).data.toList ≠ []) (h : Wk.numberB (s.extract j z).data.toList m = true) :
  rtok (Wk.mkTok s (Wk.digitKind (s.extract j z).data.toList) j z) m = .agg #[.int .u8 48, .string (s.extract j z), .int .i64 j] :=
 rtok_mk m _ _ 48 (digit_yes hd hne h) (by decide)
theorem rtok_dig_no {s : ByteArray} {j z : Nat} (m : Bool) (hd : Wk.allDig (s.extract j z).data.toList) (hne : (s.extract j z).data.toList ≠ []) (h : Wk.numberB (s.extract j z).data.toList m = false) :
  rtok (Wk.mkTok s (Wk.digitKind (s.extract j z).data.toList) j z) m = .agg #[.int .u8 33, .string ByteArray.empty, .int .i64 j] :=
 rtok_shut m _ _ (digit_no hd hne h)
theorem rtok_sign_yes {s : ByteArray} {j : Nat} (m : Bool) (c : UInt8) (h : signBytes.contains c = true) : rtok (Wk.mkTok s (Wk.spelt [c]) j (j + 1)) m = .agg #[.int .u8 115, .string (s.extract j (j + 1)), .int .i64 j] := by
 have := sign_yes h; refine rtok_mk m _ _ 115 ?_ (by decide); unfold rkind; rw [if_neg (by omega), if_neg (by omega), if_neg (by omega), if_neg (by omega), if_neg (by omega), if_neg (by omega), if_neg (by omega)]
theorem rtok_sign_no {s : ByteArray} {j : Nat} (m : Bool) (c : UInt8) (h : signBytes.contains c = false) : rtok (Wk.mkTok s (Wk.spelt [c]) j (j + 1)) m = .agg #[.int .u8 33, .string ByteArray.empty, .int .i64 j] := by
 rw [sign_no h]; exact rtok_bad m _
theorem two_dots {s : ByteArray} {k : Nat} (h : k + 1 < s.size) (h1 : (s[k]'(by omega)).toNat = 46) (h2 : (s[k + 1]'h).toNat = 46) : s.extract k (k + 2) = ⟨#[46, 46]⟩ := by
 apply ByteArray.ext; apply Array.ext'; rw [Lib.extract_data, Wk.drop_at s k (by omega), Wk.drop_at s (k + 1) h]; have a : s[k]'(by omega) = 46 := UInt8.toNat_inj.1 (by simpa using h1); have b : s[k + 1]'h = 46 := UInt8.toNat_inj.1 (by simpa using h2); rw [a, b, show k + 2 - k = 2 by omega]; simp
theorem sign_at (q : Nat) (h : q < 14) : (⟨#[43, 45, 42, 47, 61, 60, 62, 40, 41, 91, 93, 44, 59, 58]⟩ : ByteArray)[q]'h = signBytes.getD q 0 := by
 have : ∀ q : Fin 14, (⟨#[43, 45, 42, 47, 61, 60, 62, 40, 41, 91, 93, 44, 59, 58]⟩ : ByteArray)[q.val]'q.isLt = signBytes.getD q.val 0 := by decide
 exact this ⟨q, h⟩
theorem sign_in (q : Nat) (h : q < 14) : signBytes.contains (signBytes.getD q 0) = true := by
 have : ∀ q : Fin 14, signBytes.contains (signBytes.getD q.val 0) = true := by decide
 exact this ⟨q, h⟩
def cutEnd (s : ByteArray) (t : Wk.Tok) (m : Bool) (e : Ending) : Prop :=
 ∃ k : Nat, k ≤ s.size + 4 ∧ (2 ≤ t.kind → k = t.stop) ∧ e = .returned (.tuple #[rtok t m, .int .i64 k])
theorem r_cut (s : ByteArray) (i : Nat) (m : Bool) (w : World) (hi : i ≤ s.size) (hs : s.size ≤ 1000) (hG : Gl w) :
  Calls Tryz.prog 45 #[.string s, .int .i64 i, .bool m] w fun e w' => cutEnd s (Wk.cut s i) m e ∧ Below w.heap.size w w' := by
 unfold Wk.cut; have hj1 := Wk.spanTo_ge Wk.isSp s i; have hj2 := Wk.spanTo_le Wk.isSp s i hi; generalize hj : Wk.spanTo Wk.isSp s i = j at *
 have HJ : Hid (Wk.spanTo Wk.isSp s i = j) := hj; clear hj; generalize ht : Wk.tokAt s j = t at *
 have HT : Hid (Wk.tokAt s j = t) := ht; clear ht; go_enter Tryz.func45, Tryz.ntmps45; go_wp2
 have hb1 : Below w.heap.size w (w.alloc (Obj.cells #[Value.int IntKind.u8 0, Value.string { data := #[] }, Value.int IntKind.i64 0] 87)) := (Below.refl _ _).alloc (Nat.le_refl _) _; have hblk : (w.alloc (Obj.cells #[Value.int IntKind.u8 0, Value.string { data := #[] }, Value.int IntKind.i64 0] 87)).heap[w.heap.size]? = some (.cells #[Value.int IntKind.u8 0, Value.string { data := #[] }, Value.int IntKind.i64 0] 87 (0, 0)) := heap_alloc_new _ _; have HG1 : Hid (Gl (w.alloc (Obj.cells #[Value.int IntKind.u8 0, Value.string { data := #[] }, Value.int IntKind.i64 0] 87))) := hG.belowAll hb1; clear hG; generalize w.alloc (Obj.cells #[Value.int IntKind.u8 0, Value.string { data := #[] }, Value.int IntKind.i64 0] 87) = W1 at *
 have hlt := lt_of_block hblk; have c0 := bc 0 hblk rfl; have c1 := bc 1 hblk rfl; have c2 := bc 2 hblk rfl; have cf := blk_free hblk; have HB1 : Hid (Below w.heap.size w W1) := hb1; have HBLK : Hid _ := hblk; have HEND : Hid (∀ a b c, Below w.heap.size w (((W1.setCell ⟨w.heap.size, 0, none⟩ a).setCell ⟨w.heap.size, 1, none⟩ b).setCell ⟨w.heap.size, 2, none⟩ c)) := fun a b c =>
   ((hb1.setCell (by simp) _).setCell (by simp) _).setCell (by simp) _
 clear hb1 hblk; go_loop [1] (fun v => ∃ k : Nat, v = .int .i64 k ∧ i ≤ k ∧ k ≤ s.size ∧ Hid (Wk.spanTo Wk.isSp s k = j)) (fun v => s.size - (intOf v).toNat)
 case atStart => exact ⟨i, rfl, by omega, hi, HJ⟩
 case round =>
  obtain ⟨k, rfl, hk1, hk2, HK⟩ := hrel; by_cases hk : k < s.size
  ·by_cases hsp : Wk.isSp (s[k]'hk) = true
   ·have hsp1 : ((s[k].toNat : Int) == 32) = true ∨ (((s[k].toNat : Int) == 32) = false ∧ ((s[k].toNat : Int) == 10) = true) := by
     simp only [Wk.isSp, Bool.or_eq_true, beq_iff_eq] at hsp; rcases hsp with h | h
     ·left; simp [h]
     ·right; simp [h]
    have HN : Hid (Wk.spanTo Wk.isSp s (k + 1) = j) := by rw [← HK.out]; exact (Wk.spanTo_yes hk hsp).symm
    clear hsp; rcases hsp1 with h1 | ⟨h1, h2⟩
    all_goals
     go_wp2
     go_round
     case rel => exact ⟨k + 1, by go_num, by omega, by omega, HN⟩
     case measure => simp [intOf]; omega
   ·have hsp1 : ((s[k].toNat : Int) == 32) = false ∧ ((s[k].toNat : Int) == 10) = false := by
     simp only [Wk.isSp, Bool.or_eq_true, beq_iff_eq, not_or] at hsp; constructor <;> simp <;> omega
    have e : k = j := by rw [← HK.out]; exact (Wk.spanTo_no hk (by simpa using hsp)).symm
    subst e; obtain ⟨hsp1, hsp2⟩ := hsp1; clear hsp HK HJ; have hrl : ∀ wx, Calls Tryz.prog 66 #[.int .u8 (s[k]'hk).toNat] wx fun e w' => e = .returned (.bool (Wk.isLow (s[k]'hk))) ∧ w' = wx := fun wx => r_isLow _ wx
    have hrd : ∀ wx, Calls Tryz.prog 68 #[.int .u8 (s[k]'hk).toNat] wx fun e w' => e = .returned (.bool (Wk.isDig (s[k]'hk))) ∧ w' = wx := fun wx => r_isDigit _ wx
    have HRL : Hid _ := hrl; have HRD : Hid _ := hrd; clear hrl hrd; cases hlow : Wk.isLow (s[k]'hk) with
    | true =>
     have HTL : Hid _ := HT.out.symm.trans (tokAt_low hk hlow); have hz1 := Wk.spanTo_gt hk hlow; have hz2 := Wk.spanTo_le Wk.isLow s k (by omega); have HLOW : Hid _ := span_list Wk.isLow s k (by omega); have HNE : Hid _ := extract_ne hz1 hz2; generalize hz : Wk.spanTo Wk.isLow s k = z at *
     have HZ : Hid (Wk.spanTo Wk.isLow s k = z) := hz; clear hz; go_wp2_with fail; refine (HRL.out _).mono ?_; rintro e w' ⟨rfl, rfl⟩; go_wp2_with fail; go_loop [8] (fun v => ∃ q : Nat, v = .int .i64 q ∧ k ≤ q ∧ q ≤ s.size ∧ Hid (Wk.spanTo Wk.isLow s q = z)) (fun v => s.size - (intOf v).toNat)
     case atStart => exact ⟨k, rfl, by omega, by omega, HZ⟩
     case round =>
      obtain ⟨q, rfl, hq1, hq2, HQ⟩ := hrel; have fin : ¬ (∃ h : q < s.size, Wk.isLow (s[q]'h) = true) → q = z := by
       intro h; rw [← HQ.out]; by_cases hq : q < s.size
       ·exact (Wk.spanTo_no hq (by cases hb : Wk.isLow (s[q]'hq) with | false => rfl | true => exact absurd ⟨hq, hb⟩ h)).symm
       ·exact (Wk.spanTo_end (by omega)).symm
      have FIN : Hid _ := fin; clear fin; by_cases hgo : ∃ h : q < s.size, Wk.isLow (s[q]'h) = true
      ·obtain ⟨hq, hlq⟩ := hgo; have HN : Hid (Wk.spanTo Wk.isLow s (q + 1) = z) := by rw [← HQ.out]; exact (Wk.spanTo_yes hq hlq).symm
       go_wp2_with (go_at_call 66; refine (r_isLow (s[q]'hq) _).mono ?_; rintro e w' ⟨rfl, rfl⟩); go_round
       case rel => exact ⟨q + 1, by go_num, by omega, by omega, HN⟩
       case measure => simp [intOf]; omega
      ·have e : q = z := FIN.out hgo; subst e; have hlq : ∀ h : q < s.size, Wk.isLow (s[q]'h) = false := fun h => by
        cases hb : Wk.isLow (s[q]'h) with
        | false => rfl
        | true => exact absurd ⟨h, hb⟩ hgo
       clear hgo FIN HQ HZ; have hes : (s.extract k q).size = q - k := by simp; omega
       have hel : (s.extract k q).data.toList.length = q - k := extract_len (by omega); have HEL : Hid _ := hel; have HES : Hid _ := hes; clear hel hes; cases hg : isGram (s.extract k q).data.toList with
       | true =>
        have HE : Hid (cutEnd s t m (.returned (.tuple #[.agg #[.int .u8 107, .string (s.extract k q), .int .i64 k], .int .i64 q]))) := ⟨q, by omega, fun _ => by rw [HTL.out]; rfl, by rw [HTL.out, rtok_gram m hg]⟩
        by_cases hq : q < s.size
        all_goals first
         | (have hlq1 := hlq hq; clear hlq; go_wp2_with (go_at_call 66; refine (r_isLow (s[q]'hq) _).mono ?_; rintro e w' ⟨rfl, rfl⟩))
         | (clear hlq; go_wp2_with fail)
        all_goals
         refine (r_grammar (s.extract k q) _).mono ?_; rintro e w1 ⟨rfl, hb⟩; rw [hg]; have q3 := (hb.block _ hlt).trans HBLK.out; have c0 := bc 0 q3 rfl; have c1 := bc 1 q3 rfl; have c2 := bc 2 q3 rfl; have cf := blk_free q3; have Q1 : Hid _ := HB1.out.trans (hb.mono (by omega)); clear q3 hb; go_wp2
         refine bodyPost_ret (v := .tuple #[.agg #[.int .u8 107, .string (s.extract k q), .int .i64 k], .int .i64 q]) (by simp [results, Tryz.results45, go_sem, c0, c1, c2]) rfl ⟨HE.out, ((Q1.out.setCell (by simp) _).setCell (by simp) _).setCell (by simp) _⟩
       | false =>
        by_cases hlen : 8 < q - k
        ·have HE : Hid (cutEnd s t m (.returned (.tuple #[.agg #[.int .u8 33, .string ByteArray.empty, .int .i64 k], .int .i64 q]))) := ⟨q, by omega, fun h => by rw [HTL.out]; rfl, by rw [HTL.out, (rtok_long m (by rw [HEL.out]; exact hlen)).1]⟩
         by_cases hq : q < s.size
         all_goals first
          | (have hlq1 := hlq hq; clear hlq; go_wp2_with (go_at_call 66; refine (r_isLow (s[q]'hq) _).mono ?_; rintro e w' ⟨rfl, rfl⟩))
          | (clear hlq; go_wp2_with fail)
         all_goals
          refine (r_grammar (s.extract k q) _).mono ?_; rintro e w1 ⟨rfl, hb⟩; rw [hg]; have q3 := (hb.block _ hlt).trans HBLK.out; have c0 := bc 0 q3 rfl; have c1 := bc 1 q3 rfl; have c2 := bc 2 q3 rfl; have cf := blk_free q3; have Q1 : Hid _ := HB1.out.trans (hb.mono (by omega)); clear q3 hb; go_wp2
          refine bodyPost_ret (v := .tuple #[.agg #[.int .u8 33, .string ByteArray.empty, .int .i64 k], .int .i64 q]) (by simp [results, Tryz.results45, go_sem, c0, c1, c2]; rfl) rfl ⟨HE.out, ((Q1.out.setCell (by simp) _).setCell (by simp) _).setCell (by simp) _⟩
        ·have HE : Hid (cutEnd s t m (.returned (.tuple #[.agg #[.int .u8 110, .string (s.extract k q), .int .i64 k], .int .i64 q]))) := ⟨q, by omega, fun h => by rw [HTL.out]; rfl, by rw [HTL.out, rtok_name m hg (by rw [HEL.out]; omega) HLOW.out]⟩
         by_cases hq : q < s.size
         all_goals first
          | (have hlq1 := hlq hq; clear hlq; go_wp2_with (go_at_call 66; refine (r_isLow (s[q]'hq) _).mono ?_; rintro e w' ⟨rfl, rfl⟩))
          | (clear hlq; go_wp2_with fail)
         all_goals
          refine (r_grammar (s.extract k q) _).mono ?_; rintro e w1 ⟨rfl, hb⟩; rw [hg]; have q3 := (hb.block _ hlt).trans HBLK.out; have c0 := bc 0 q3 rfl; have c1 := bc 1 q3 rfl; have c2 := bc 2 q3 rfl; have cf := blk_free q3; have Q1 : Hid _ := HB1.out.trans (hb.mono (by omega)); clear q3 hb; go_wp2
          refine bodyPost_ret (v := .tuple #[.agg #[.int .u8 110, .string (s.extract k q), .int .i64 k], .int .i64 q]) (by simp [results, Tryz.results45, go_sem, c0, c1, c2]) rfl ⟨HE.out, ((Q1.out.setCell (by simp) _).setCell (by simp) _).setCell (by simp) _⟩
    | false =>
     cases hdig : Wk.isDig (s[k]'hk) with
     | true =>
      have HTL : Hid _ := HT.out.symm.trans (tokAt_dig hk hlow hdig); have hz1 := Wk.spanTo_gt hk hdig; have hz2 := Wk.spanTo_le Wk.isDig s k (by omega); have HDIG : Hid (Wk.allDig _) := span_list Wk.isDig s k (by omega); have HNE : Hid _ := extract_ne hz1 hz2; generalize hz : Wk.spanTo Wk.isDig s k = z at *
      have HZ : Hid (Wk.spanTo Wk.isDig s k = z) := hz; clear hz; go_wp2_with fail; refine (HRL.out _).mono ?_; rintro e w' ⟨rfl, rfl⟩; go_wp2_with fail; refine (HRD.out _).mono ?_; rintro e w' ⟨rfl, rfl⟩; go_wp2_with fail; go_loop [8] (fun v => ∃ q : Nat, v = .int .i64 q ∧ k ≤ q ∧ q ≤ s.size ∧ Hid (Wk.spanTo Wk.isDig s q = z)) (fun v => s.size - (intOf v).toNat)
      case atStart => exact ⟨k, rfl, by omega, by omega, HZ⟩
      case round =>
       obtain ⟨q, rfl, hq1, hq2, HQ⟩ := hrel; by_cases hgo : ∃ h : q < s.size, Wk.isDig (s[q]'h) = true
       ·obtain ⟨hq, hlq⟩ := hgo; have HN : Hid (Wk.spanTo Wk.isDig s (q + 1) = z) := by rw [← HQ.out]; exact (Wk.spanTo_yes hq hlq).symm
        go_wp2_with (go_at_call 68; refine (r_isDigit (s[q]'hq) _).mono ?_; rintro e w' ⟨rfl, rfl⟩); go_round
        case rel => exact ⟨q + 1, by go_num, by omega, by omega, HN⟩
        case measure => simp [intOf]; omega
       ·have hlq : ∀ h : q < s.size, Wk.isDig (s[q]'h) = false := fun h => by
         cases hb : Wk.isDig (s[q]'h) with
         | false => rfl
         | true => exact absurd ⟨h, hb⟩ hgo
        have e : q = z := by
         rw [← HQ.out]; by_cases hq : q < s.size
         ·exact (Wk.spanTo_no hq (hlq hq)).symm
         ·exact (Wk.spanTo_end (by omega)).symm
        subst e; clear hgo HQ HZ; have HES : Hid ((s.extract k q).size = q - k) := by
         show _ = _; simp; omega
        cases hg : Wk.numberB (s.extract k q).data.toList m with
        | true =>
         have HE : Hid (cutEnd s t m (.returned (.tuple #[.agg #[.int .u8 48, .string (s.extract k q), .int .i64 k], .int .i64 q]))) := ⟨q, by omega, fun _ => by rw [HTL.out]; rfl, by rw [HTL.out, rtok_dig_yes m HDIG.out HNE.out hg]⟩
         by_cases hq : q < s.size
         all_goals first
          | (have hlq1 := hlq hq; clear hlq; go_wp2_with (go_at_call 68; refine (r_isDigit (s[q]'hq) _).mono ?_; rintro e w' ⟨rfl, rfl⟩))
          | (clear hlq; go_wp2_with fail)
         all_goals
          refine (r_number (s.extract k q) m _ (by rw [HES.out]; omega) (by rw [HES.out]; omega)).mono ?_; rintro e w1 ⟨rfl, rfl⟩; rw [hg]; go_wp2
          refine bodyPost_ret (v := .tuple #[.agg #[.int .u8 48, .string (s.extract k q), .int .i64 k], .int .i64 q]) (by simp [results, Tryz.results45, go_sem, c0, c1, c2]) rfl ⟨HE.out, HEND.out _ _ _⟩
        | false =>
         have HE : Hid (cutEnd s t m (.returned (.tuple #[.agg #[.int .u8 33, .string ByteArray.empty, .int .i64 k], .int .i64 q]))) := ⟨q, by omega, fun _ => by rw [HTL.out]; rfl, by rw [HTL.out, rtok_dig_no m HDIG.out HNE.out hg]⟩
         by_cases hq : q < s.size
         all_goals first
          | (have hlq1 := hlq hq; clear hlq; go_wp2_with (go_at_call 68; refine (r_isDigit (s[q]'hq) _).mono ?_; rintro e w' ⟨rfl, rfl⟩))
          | (clear hlq; go_wp2_with fail)
         all_goals
          refine (r_number (s.extract k q) m _ (by rw [HES.out]; omega) (by rw [HES.out]; omega)).mono ?_; rintro e w1 ⟨rfl, rfl⟩; rw [hg]; go_wp2
          refine bodyPost_ret (v := .tuple #[.agg #[.int .u8 33, .string ByteArray.empty, .int .i64 k], .int .i64 q]) (by simp [results, Tryz.results45, go_sem, c0, c1, c2]; rfl) rfl ⟨HE.out, HEND.out _ _ _⟩
     | false =>
      by_cases hquo : (s[k]'hk).toNat = 34
      ·have hquo1 : ((s[k].toNat : Int) == 34) = true := by simp [hquo]
       have HTL : Hid _ := HT.out.symm.trans (tokAt_quote hk hquo); clear hquo; go_wp2_with (first | (go_at_call 66; refine (HRL.out _).mono ?_; rintro e w' ⟨rfl, rfl⟩) | (go_at_call 68; refine (HRD.out _).mono ?_; rintro e w' ⟨rfl, rfl⟩)); refine (r_word s k _ hk hs HG1.out).mono ?_; rintro e w1 ⟨he, hb⟩; have q3 := (hb.block _ hlt).trans HBLK.out; have c0 := bc 0 q3 rfl; have c1 := bc 1 q3 rfl; have c2 := bc 2 q3 rfl; have cf := blk_free q3; have Q1 : Hid _ := HB1.out.trans (hb.mono (by omega)); clear q3 hb; cases hR : Wk.wordTo s (s.size + 1) (k + 1) 0 with
       | some z =>
        have hzz := Wk.wordTo_gt _ _ _ _ _ hR; rw [hR] at he; have e2 : t = Wk.mkTok s 5 k z := by rw [HTL.out, hR]
        have he' : e = _ := he; subst he'; have HE : Hid (cutEnd s t m (.returned (.tuple #[.agg #[.int .u8 34, .string (s.extract k z), .int .i64 k], .int .i64 z]))) := ⟨z, by omega, fun _ => by rw [e2]; rfl, by rw [e2, rtok_mk m 5 z 34 rfl (by decide)]; rfl⟩
        clear he e2 hR; go_wp2
        refine bodyPost_ret (v := .tuple #[.agg #[.int .u8 34, .string (s.extract k z), .int .i64 k], .int .i64 z]) (by simp [results, Tryz.results45, go_sem, c0, c1, c2]) rfl ⟨HE.out, ((Q1.out.setCell (by simp) _).setCell (by simp) _).setCell (by simp) _⟩
       | none =>
        rw [hR] at he; obtain ⟨z, hz, he'⟩ := he; have e2 : t = Wk.mkTok s 1 k (k + 1) := by rw [HTL.out, hR]
        subst he'; have HE : Hid (cutEnd s t m (.returned (.tuple #[.agg #[.int .u8 33, .string ByteArray.empty, .int .i64 k], .int .i64 z]))) := ⟨z, by omega, fun h => by rw [e2] at h; exact (Wk.mkTok_bad _ _ _ h).elim, by rw [e2, rtok_bad m]⟩
        clear e2 hR; go_wp2
        refine bodyPost_ret (v := .tuple #[.agg #[.int .u8 33, .string ByteArray.empty, .int .i64 k], .int .i64 z]) (by simp [results, Tryz.results45, go_sem, c0, c1, c2]) rfl ⟨HE.out, ((Q1.out.setCell (by simp) _).setCell (by simp) _).setCell (by simp) _⟩
      ·have hquo1 : ((s[k].toNat : Int) == 34) = false := by simp; omega
       by_cases hdot : (s[k]'hk).toNat = 46
       ·have hdot1 : ((s[k].toNat : Int) == 46) = true := by simp [hdot]
        have HTL : Hid _ := HT.out.symm.trans (tokAt_dot hk hdot); clear hdot hquo; by_cases hk2' : k + 1 < s.size
        ·by_cases hd2 : (s[k + 1]'hk2').toNat = 46
         ·have hd21 : ((s[k + 1].toNat : Int) == 46) = true := by simp [hd2]
          have e2 : t = Wk.mkTok s 41 k (k + 2) := by
           rw [HTL.out, if_pos]; have : s[k + 1]'hk2' = 46 := UInt8.toNat_inj.1 (by simpa using hd2); rw [← this]; exact getElem?_pos s (k + 1) hk2'
          have e3 : s.extract k (k + 2) = ⟨#[46, 46]⟩ := two_dots hk2' (by have := beq_iff_eq.1 hdot1; omega) hd2; have HE : Hid (cutEnd s t m (.returned (.tuple #[.agg #[.int .u8 115, .string ⟨#[46, 46]⟩, .int .i64 k], .int .i64 ((k + 2 : Nat) : Int)]))) := ⟨k + 2, by omega, fun _ => by rw [e2]; rfl, by rw [e2, rtok_mk m 41 _ 115 rfl (by decide), e3]; rfl⟩
          clear e2 e3 hd2; go_wp2_with (first | (go_at_call 66; refine (HRL.out _).mono ?_; rintro e w' ⟨rfl, rfl⟩) | (go_at_call 68; refine (HRD.out _).mono ?_; rintro e w' ⟨rfl, rfl⟩)); refine bodyPost_ret (v := .tuple #[.agg #[.int .u8 115, .string ⟨#[46, 46]⟩, .int .i64 k], .int .i64 ((k + 2 : Nat) : Int)]) (by simp [results, Tryz.results45, go_sem, c0, c1, c2]) rfl ⟨HE.out, HEND.out _ _ _⟩
         ·have hd21 : ((s[k + 1].toNat : Int) == 46) = false := by simp; omega
          have e2 : t = Wk.mkTok s 1 k (k + 1) := by
           rw [HTL.out, if_neg]; intro h; rw [getElem?_pos s (k + 1) hk2'] at h; simp only [Option.some.injEq] at h; apply hd2; rw [h]; rfl
          have HE : Hid (cutEnd s t m (.returned (.tuple #[.agg #[.int .u8 33, .string ByteArray.empty, .int .i64 k], .int .i64 ((k + 1 : Nat) : Int)]))) := ⟨k + 1, by omega, fun h => by rw [e2] at h; exact (Wk.mkTok_bad _ _ _ h).elim, by rw [e2, rtok_bad m]⟩
          clear e2 hd2; go_wp2_with (first | (go_at_call 66; refine (HRL.out _).mono ?_; rintro e w' ⟨rfl, rfl⟩) | (go_at_call 68; refine (HRD.out _).mono ?_; rintro e w' ⟨rfl, rfl⟩)); refine bodyPost_ret (v := .tuple #[.agg #[.int .u8 33, .string ByteArray.empty, .int .i64 k], .int .i64 ((k + 1 : Nat) : Int)]) (by simp [results, Tryz.results45, go_sem, c0, c1, c2]; rfl) rfl ⟨HE.out, HEND.out _ _ _⟩
        ·have e2 : t = Wk.mkTok s 1 k (k + 1) := by
          rw [HTL.out, if_neg]; intro h; rw [getElem?_neg s (k + 1) hk2'] at h; cases h
         have HE : Hid (cutEnd s t m (.returned (.tuple #[.agg #[.int .u8 33, .string ByteArray.empty, .int .i64 k], .int .i64 ((k + 1 : Nat) : Int)]))) := ⟨k + 1, by omega, fun h => by rw [e2] at h; exact (Wk.mkTok_bad _ _ _ h).elim, by rw [e2, rtok_bad m]⟩
         clear e2; go_wp2_with (first | (go_at_call 66; refine (HRL.out _).mono ?_; rintro e w' ⟨rfl, rfl⟩) | (go_at_call 68; refine (HRD.out _).mono ?_; rintro e w' ⟨rfl, rfl⟩)); refine bodyPost_ret (v := .tuple #[.agg #[.int .u8 33, .string ByteArray.empty, .int .i64 k], .int .i64 ((k + 1 : Nat) : Int)]) (by simp [results, Tryz.results45, go_sem, c0, c1, c2]; rfl) rfl ⟨HE.out, HEND.out _ _ _⟩
       ·have hdot1 : ((s[k].toNat : Int) == 46) = false := by simp; omega
        have HTL : Hid _ := HT.out.symm.trans (tokAt_sign hk hlow hdig hquo hdot); clear hdot hquo; go_wp2_with (first | (go_at_call 66; refine (HRL.out _).mono ?_; rintro e w' ⟨rfl, rfl⟩) | (go_at_call 68; refine (HRD.out _).mono ?_; rintro e w' ⟨rfl, rfl⟩)); clear HRL HRD; generalize hc : s[k]'hk = c at *
        rename World => W2
        go_loopw [8] (fun v wr => ∃ q nd : Nat, v = .int .i64 q ∧ q ≤ 14 ∧ Hid (∀ j, j < q → signBytes.getD j 0 ≠ c) ∧ wr = W2.drewN nd) (fun v _ => 14 - (intOf v).toNat)
        case atStart => exact ⟨0, 0, rfl, by omega, fun j h => by omega, rfl⟩
        case round =>
         obtain ⟨q, nd, rfl, hq, HQ, rfl⟩ := hrel; by_cases hq14 : q < 14
         ·have HS : Hid _ := sign_at q hq14; go_wp2
          go_quiet (fail)
          go_wp2
          ·have h1 : (((⟨#[43, 45, 42, 47, 61, 60, 62, 40, 41, 91, 93, 44, 59, 58]⟩ : ByteArray)[q]'hq14).toNat : Int) = (c.toNat : Int) := beq_iff_eq.1 (by assumption); have h2 : signBytes.contains c = true := by
            have e : signBytes.getD q 0 = c := by rw [← HS.out]; exact UInt8.toNat_inj.1 (by omega)
            rw [← e]; exact sign_in q hq14
           have HE : Hid (cutEnd s t m (.returned (.tuple #[.agg #[.int .u8 115, .string (s.extract k (k + 1)), .int .i64 k], .int .i64 ((k + 1 : Nat) : Int)]))) := ⟨k + 1, by omega, fun _ => by rw [HTL.out]; rfl, by rw [HTL.out, rtok_sign_yes m c h2]⟩
           refine bodyPost_ret (v := .tuple #[.agg #[.int .u8 115, .string (s.extract k (k + 1)), .int .i64 k], .int .i64 ((k + 1 : Nat) : Int)]) (by simp [results, Tryz.results45, go_sem, c0, c1, c2]) rfl ⟨HE.out, ?_⟩; exact (((below_drewN HB1.out _).setCell (by simp) _).setCell (by simp) _).setCell (by simp) _
          ·have h1 : ¬ (((⟨#[43, 45, 42, 47, 61, 60, 62, 40, 41, 91, 93, 44, 59, 58]⟩ : ByteArray)[q]'hq14).toNat : Int) = (c.toNat : Int) := beq_eq_false_iff_ne.1 (by assumption); go_roundw
           case rel =>
            refine ⟨q + 1, _, by go_num, by omega, ?_, rfl⟩; intro j hj; rcases Nat.lt_or_ge j q with h2 | h2
            ·exact HQ.out j h2
            ·have : j = q := by omega
             subst this; rw [← HS.out]; intro e; apply h1; rw [e]
           case measure => simp [intOf]; omega
         ·have e : q = 14 := by omega
          subst e; have h2 : signBytes.contains c = false := by
           rw [← Bool.not_eq_true, List.contains_iff_mem]; intro hm; obtain ⟨z, hz, e⟩ := List.getElem_of_mem hm; refine HQ.out z hz ?_; rw [List.getD_eq_getElem?_getD, List.getElem?_eq_getElem hz]; exact e
          have HE : Hid (cutEnd s t m (.returned (.tuple #[.agg #[.int .u8 33, .string ByteArray.empty, .int .i64 k], .int .i64 ((k + 1 : Nat) : Int)]))) := ⟨k + 1, by omega, fun _ => by rw [HTL.out]; rfl, by rw [HTL.out, rtok_sign_no m c h2]⟩
          go_wp2
          refine bodyPost_ret (v := .tuple #[.agg #[.int .u8 33, .string ByteArray.empty, .int .i64 k], .int .i64 ((k + 1 : Nat) : Int)]) (by simp [results, Tryz.results45, go_sem, c0, c1, c2]; rfl) rfl ⟨HE.out, ?_⟩; exact (((below_drewN HB1.out _).setCell (by simp) _).setCell (by simp) _).setCell (by simp) _
  ·have e : k = j := by rw [← HK.out]; exact (Wk.spanTo_end (by omega)).symm
   subst e; have e : t = _ := HT.out.symm.trans (tokAt_end (s := s) (j := k) (by omega)); subst e; go_wp2
   refine bodyPost_ret (v := .tuple #[.agg #[.int .u8 46, .string ByteArray.empty, .int .i64 s.size], .int .i64 k]) (by simp [results, Tryz.results45, go_sem, c0, c1, c2]; rfl) rfl ⟨⟨k, by omega, fun h => by simp at h, by simp [rtok, rtext, rkind]⟩, HEND.out _ _ _⟩
end Go.Proofs.YtbkaghlklkdmkaaGreatDoor
