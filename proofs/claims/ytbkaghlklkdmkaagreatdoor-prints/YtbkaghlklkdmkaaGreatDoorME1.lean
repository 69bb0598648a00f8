/-
  The walks of the document's answer: words and tokens.
-/
import Derived.Test.YtbkaghlklkdmkaaGreatDoorMB
import Derived.Test.YtbkaghlklkdmkaaGreatDoorShelf
set_option maxRecDepth 100000
set_option maxHeartbeats 8000000
namespace Go.Proofs.YtbkaghlklkdmkaaGreatDoor
open Go.RowKit
theorem decode_wide (s : ByteArray) (k : Nat) : (Utf8.decode s k).2 ≤ 4 := by
 rw [Lib.decode_at]; unfold Lib.decodeN; repeat' split
 all_goals simp
theorem wordTo_end {s : ByteArray} {f k n : Nat} (h : s.size ≤ k) : Wk.wordTo s f k n = none := by
 cases f with
 | zero => rfl
 | succ f => rw [Wk.wordTo, dif_neg (by omega)]
theorem wordTo_quote {s : ByteArray} {f k n : Nat} (hf : 1 ≤ f) (h : k < s.size) (hq : (s[k]'h).toNat = 34) : Wk.wordTo s f k n = if 8 < n then none else some (k + 1) := by
 cases f with
 | zero => omega
 | succ f => rw [Wk.wordTo, dif_pos h, if_pos hq]
theorem wordTo_bad {s : ByteArray} {f k n : Nat} (h : k < s.size) (hq : (s[k]'h).toNat ≠ 34) (hb : (Utf8.decode s k).1 < 32 ∨ ((Utf8.decode s k).1 = 65533 ∧ (Utf8.decode s k).2 = 1)) : Wk.wordTo s f k n = none := by
 cases f with
 | zero => rfl
 | succ f => rw [Wk.wordTo, dif_pos h, if_neg hq, if_pos hb]
theorem wordTo_go {s : ByteArray} {f k n : Nat} (h : k < s.size) (hq : (s[k]'h).toNat ≠ 34) (hb : ¬ ((Utf8.decode s k).1 < 32 ∨ ((Utf8.decode s k).1 = 65533 ∧ (Utf8.decode s k).2 = 1))) :
  Wk.wordTo s (f + 1) k n = Wk.wordTo s f (k + (Utf8.decode s k).2) (n + 1) := by
 rw [Wk.wordTo, dif_pos h, if_neg hq, if_neg hb]
def wordEnd (s : ByteArray) (i : Nat) (R : Option Nat) (e : Ending) : Prop :=
 match R with
 | some k => e = .returned (.tuple #[.agg #[.int .u8 34, .string (s.extract i k), .int .i64 i], .int .i64 k])
 | none => ∃ k : Nat, k ≤ s.size + 4 ∧ e = .returned (.tuple #[.agg #[.int .u8 33, .string ByteArray.empty, .int .i64 i], .int .i64 k])
theorem r_word (s : ByteArray) (i : Nat) (w : World) (hi : i < s.size) (hs : s.size ≤ 1000) (hG : Gl w) :
  Calls Tryz.prog 70 #[.string s, .int .i64 i] w fun e w' => wordEnd s i (Wk.wordTo s (s.size + 1) (i + 1) 0) e ∧ Below w.heap.size w w' := by
 generalize hR : Wk.wordTo s (s.size + 1) (i + 1) 0 = R; have HR : Hid (Wk.wordTo s (s.size + 1) (i + 1) 0 = R) := hR; clear hR; go_enter Tryz.func70, Tryz.ntmps70; go_wp2
 have hb1 : Below w.heap.size w (w.alloc (Obj.cells #[Value.int IntKind.u8 0, Value.string { data := #[] }, Value.int IntKind.i64 0] 87)) := (Below.refl _ _).alloc (Nat.le_refl _) _; have hblk : (w.alloc (Obj.cells #[Value.int IntKind.u8 0, Value.string { data := #[] }, Value.int IntKind.i64 0] 87)).heap[w.heap.size]? = some (.cells #[Value.int IntKind.u8 0, Value.string { data := #[] }, Value.int IntKind.i64 0] 87 (0, 0)) := heap_alloc_new _ _; have hsz : (w.alloc (Obj.cells #[Value.int IntKind.u8 0, Value.string { data := #[] }, Value.int IntKind.i64 0] 87)).heap.size = w.heap.size + 1 := by simp
 have HG1 : Hid (Gl (w.alloc (Obj.cells #[Value.int IntKind.u8 0, Value.string { data := #[] }, Value.int IntKind.i64 0] 87))) := hG.belowAll hb1; clear hG; generalize w.alloc (Obj.cells #[Value.int IntKind.u8 0, Value.string { data := #[] }, Value.int IntKind.i64 0] 87) = W1 at *
 have HSZ : Hid (W1.heap.size = w.heap.size + 1) := hsz; have HB1 : Hid (Below w.heap.size w W1) := hb1; have HBLK : Hid (W1.heap[w.heap.size]? = some (.cells #[Value.int IntKind.u8 0, Value.string { data := #[] }, Value.int IntKind.i64 0] 87 (0, 0))) := hblk; clear hsz hb1 hblk; go_loopw [6, 7] (fun n k wr => ∃ (n' k' f : Nat), n = .int .i64 n' ∧ k = .int .i64 k' ∧ i < k' ∧ k' ≤ s.size + 4 ∧ n' ≤ k' ∧ s.size + 1 ≤ f + k' ∧ Hid (Wk.wordTo s f k' n' = R) ∧ Below (w.heap.size + 1) W1 wr) (fun _ k _ => s.size + 4 - (intOf k).toNat)
 case atStart => exact ⟨0, i + 1, s.size + 1, rfl, by go_num, by omega, by omega, by omega, by omega, HR, Below.refl _ _⟩
 case round =>
  obtain ⟨n, k, f, rfl, rfl, h1, h2, h3, h4, HK, hbw⟩ := hrel; have HBW : Hid (Below (w.heap.size + 1) W1 wr) := hbw; have HG2 : Hid (Gl wr) := HG1.out.below hbw (by have := HG1.out.size; have := HSZ.out; omega); have hblk2 : wr.heap[w.heap.size]? = some (.cells #[Value.int IntKind.u8 0, Value.string { data := #[] }, Value.int IntKind.i64 0] 87 (0, 0)) := (hbw.block _ (by omega)).trans HBLK.out; have c0 := bc 0 hblk2 rfl; have c1 := bc 1 hblk2 rfl; have c2 := bc 2 hblk2 rfl; have cf := blk_free hblk2; have hlt := lt_of_block hblk2; have HEND : Hid (∀ a b c, Below w.heap.size w (((wr.setCell ⟨w.heap.size, 0, none⟩ a).setCell ⟨w.heap.size, 1, none⟩ b).setCell ⟨w.heap.size, 2, none⟩ c)) := fun a b c =>
   (((HB1.out.trans (hbw.mono (by omega))).setCell (by simp) _).setCell (by simp) _).setCell (by simp) _
  clear hblk2 hbw; by_cases hk : k < s.size
  ·by_cases hq : (s[k]'hk).toNat = 34
   ·have hq1 : ((s[k].toNat : Int) != 34) = false := by simp [hq]
    have HV : Hid _ := wordTo_quote (n := n) (f := f) (by omega) hk hq; clear hq; by_cases hn : 8 < n
    ·have e : R = none := by rw [← HK.out, HV.out, if_pos hn]
     subst e; go_wp2
     refine bodyPost_ret (v := .tuple #[.agg #[.int .u8 33, .string ByteArray.empty, .int .i64 i], .int .i64 k]) (by simp [results, Tryz.results70, go_sem, c0, c1, c2]; rfl) rfl ⟨⟨k, h2, rfl⟩, HEND.out _ _ _⟩
    ·have e : R = some (k + 1) := by rw [← HK.out, HV.out, if_neg hn]
     subst e; go_wp2
     refine bodyPost_ret (v := .tuple #[.agg #[.int .u8 34, .string (s.extract i (k + 1)), .int .i64 i], .int .i64 ((k + 1 : Nat) : Int)]) (by simp [results, Tryz.results70, go_sem, c0, c1, c2]) rfl ⟨rfl, HEND.out _ _ _⟩
   ·have hq1 : ((s[k].toNat : Int) != 34) = true := by rw [bne_iff_ne]; omega
    have hdl := Wk.decode_pos s k hk; have hd4 := decode_wide s k; have HBAD : Hid _ := @wordTo_bad s f k n hk hq; have HGO : Hid _ := @wordTo_go s (f - 1) k n hk hq; have hdr := decode_le s k; generalize hr : (Utf8.decode s k).1 = r at *
    generalize hw : (Utf8.decode s k).2 = d at *
    have HDEC : Hid (Lib.decodeGo (s.extract k s.size) = (r, d)) := by
     show _ = _; rw [decodeGo_tail s k hk]; exact Prod.ext hr hw
    clear hr hw hq; have hd1 : ∀ w1, Below wr.heap.size wr w1 → Below w.heap.size w w1 ∧ Below (w.heap.size + 1) W1 w1 ∧ w1.heap[w.heap.size]? = wr.heap[w.heap.size]? := fun w1 hb =>
     ⟨(HB1.out.trans (HBW.out.mono (by omega))).trans (hb.mono (by omega)), HBW.out.trans (hb.mono (by omega)), hb.block _ hlt⟩
    have HD1 : Hid _ := hd1; clear hd1; by_cases hbad : r < 32 ∨ (r = 65533 ∧ d = 1)
    ·have e : R = none := by rw [← HK.out]; exact HBAD.out hbad
     subst e; have hb1 : (decide ((r : Int) < 32) = true) ∨ (decide ((r : Int) < 32) = false ∧ ((r : Int) == 65533) = true ∧ ((d : Int) == 1) = true) := by
      rcases hbad with h | ⟨h, h'⟩
      ·left; simp; omega
      ·right; subst h; subst h'; decide
     clear hbad; go_wp2_with fail; refine (Tryz.utf8_DecodeRuneInString _ _ HG2.out.utf).mono ?_; rintro e w1 ⟨rfl, hb⟩; rw [HDEC.out]; obtain ⟨q1, q2, q3⟩ := HD1.out w1 hb; have c0 := (World.cell?_of_block (a := ⟨w.heap.size, 0, none⟩) q3).trans c0; have c1 := (World.cell?_of_block (a := ⟨w.heap.size, 1, none⟩) q3).trans c1; have c2 := (World.cell?_of_block (a := ⟨w.heap.size, 2, none⟩) q3).trans c2; have cf : ∀ o, w1.frozen? ⟨w.heap.size, o, none⟩ = false := fun o => (World.frozen?_of_block (a := ⟨w.heap.size, o, none⟩) q3).trans (cf o)
     have Q1 : Hid _ := q1; clear q1 q2 q3 hb HD1; rcases hb1 with hb1 | ⟨hb1, hb2, hb3⟩
     all_goals
      go_wp2
      refine bodyPost_ret (v := .tuple #[.agg #[.int .u8 33, .string ByteArray.empty, .int .i64 i], .int .i64 k]) (by simp [results, Tryz.results70, go_sem, c0, c1, c2]; rfl) rfl ⟨⟨k, h2, rfl⟩, ((Q1.out.setCell (by simp) _).setCell (by simp) _).setCell (by simp) _⟩
    ·have HN : Hid _ := HGO.out hbad; have hb1 : decide ((r : Int) < 32) = false := by simp; omega
     have hb2 : ((r : Int) == 65533) = false ∨ (((r : Int) == 65533) = true ∧ ((d : Int) == 1) = false) := by
      by_cases h : r = 65533
      ·right; subst h; exact ⟨rfl, by simp; omega⟩
      ·left; simp; omega
     clear hbad; go_wp2_with fail; refine (Tryz.utf8_DecodeRuneInString _ _ HG2.out.utf).mono ?_; rintro e w1 ⟨rfl, hb⟩; rw [HDEC.out]; obtain ⟨q1, q2, q3⟩ := HD1.out w1 hb; have Q2 : Hid _ := q2; clear q1 q2 q3 hb HD1; rcases hb2 with hb2 | ⟨hb2, hb3⟩
     all_goals
      go_wp2
      go_roundw
      case rel =>
       refine ⟨n + 1, k + d, f - 1, by go_num, by go_num, by omega, by omega, by omega, by omega, ?_, Q2.out⟩; show _ = _; rw [← HN.out, show f - 1 + 1 = f by omega]; exact HK.out
      case measure => simp [intOf]; omega
  ·have e : R = none := by rw [← HK.out]; exact wordTo_end (by omega)
   subst e; go_wp2
   refine bodyPost_ret (v := .tuple #[.agg #[.int .u8 33, .string ByteArray.empty, .int .i64 i], .int .i64 k]) (by simp [results, Tryz.results70, go_sem, c0, c1, c2]; rfl) rfl ⟨⟨k, h2, rfl⟩, HEND.out _ _ _⟩
def rkind (kd : Nat) (minus : Bool) : Nat :=
 if kd = 0 then 46 else if kd = 1 then 33 else if kd = 2 then 110 else if kd = 3 then 48 else if kd = 4 then (if minus then 48 else 33) else if kd = 5 then 34 else if kd ≤ 26 then 107 else 115
def rtext (t : Wk.Tok) (minus : Bool) : ByteArray := if rkind t.kind minus = 33 then ByteArray.empty else t.text
def rtok (t : Wk.Tok) (minus : Bool) : Value := .agg #[.int .u8 (rkind t.kind minus), .string (rtext t minus), .int .i64 t.place]
theorem isGram_short {l : List UInt8} (h : isGram l = true) : l.length ≤ 8 := by
 have ha : gramWords.all (fun x => decide (x.length ≤ 8)) = true := by decide
 have := List.all_eq_true.1 ha l (List.contains_iff_mem.1 h); simpa using this
theorem letter_gram {l : List UInt8} (h : isGram l = true) : 6 ≤ Wk.letterKind l ∧ Wk.letterKind l ≤ 26 := by
 have h2 := mem_spelt l; rw [show gramWords.contains l = true from h] at h2; have h3 := of_decide_eq_true h2.symm; unfold Wk.letterKind; rw [if_neg (by have := isGram_short h; omega), if_neg (by omega)]; exact h3
theorem letter_long {l : List UInt8} (h : 8 < l.length) : Wk.letterKind l = 1 := by unfold Wk.letterKind; rw [if_pos h]
theorem letter_name {l : List UInt8} (h : isGram l = false) (hl : l.length ≤ 8) (ha : ∀ c ∈ l, Wk.isLow c = true) : Wk.letterKind l = 2 := by
 have h2 := mem_spelt l; rw [show gramWords.contains l = false from h] at h2; have h3 := of_decide_eq_false h2.symm; have hs : Wk.spelt l = 1 := by
  rcases speltIn_cases l Wk.spellings 6 with ⟨_, b⟩ | ⟨a, b, c⟩
  ·exact b
  ·exfalso; have hs : Wk.spellings = Wk.spellings.take 21 ++ Wk.spellings.drop 21 := by simp
   rw [hs] at a; rcases List.mem_append.1 a with a | a
   ·have hp : gramWords.Perm (Wk.spellings.take 21) := by decide
    have : gramWords.contains l = true := List.contains_iff_mem.2 (hp.mem_iff.2 a); rw [show gramWords.contains l = false from h] at this; cases this
   ·have hd : (Wk.spellings.drop 21).all (fun x => !(x.all Wk.isLow)) = true := by decide
    have := List.all_eq_true.1 hd l a; have h4 : l.all Wk.isLow = true := List.all_eq_true.2 ha; rw [h4] at this; cases this
 unfold Wk.letterKind; rw [if_neg (by omega), if_pos hs]
def signBytes : List UInt8 := [43, 45, 42, 47, 61, 60, 62, 40, 41, 91, 93, 44, 59, 58]
theorem sign_all : ∀ n : Fin 256, (signBytes.contains (UInt8.ofNat n.val) = true → 27 ≤ Wk.spelt [UInt8.ofNat n.val]) ∧ (signBytes.contains (UInt8.ofNat n.val) = false → Wk.spelt [UInt8.ofNat n.val] = 1) := by decide +kernel
theorem sign_yes {c : UInt8} (h : signBytes.contains c = true) : 27 ≤ Wk.spelt [c] := by
 have := (sign_all ⟨c.toNat, UInt8.toNat_lt c⟩).1; simp only [UInt8.ofNat_toNat] at this; exact this h
theorem sign_no {c : UInt8} (h : signBytes.contains c = false) : Wk.spelt [c] = 1 := by
 have := (sign_all ⟨c.toNat, UInt8.toNat_lt c⟩).2; simp only [UInt8.ofNat_toNat] at this; exact this h
section
variable {s : ByteArray} {j : Nat} (m : Bool)
theorem tokAt_end (h : s.size ≤ j) : Wk.tokAt s j = ⟨0, s.size, ByteArray.empty, j⟩ := by unfold Wk.tokAt; rw [dif_neg (by omega)]
theorem tokAt_low (h : j < s.size) (hl : Wk.isLow (s[j]'h) = true) : Wk.tokAt s j = Wk.mkTok s (Wk.letterKind (s.extract j (Wk.spanTo Wk.isLow s j)).data.toList) j (Wk.spanTo Wk.isLow s j) := by
 unfold Wk.tokAt; rw [dif_pos h, if_pos hl]
theorem tokAt_dig (h : j < s.size) (hl : Wk.isLow (s[j]'h) = false) (hd : Wk.isDig (s[j]'h) = true) : Wk.tokAt s j = Wk.mkTok s (Wk.digitKind (s.extract j (Wk.spanTo Wk.isDig s j)).data.toList) j (Wk.spanTo Wk.isDig s j) := by
 unfold Wk.tokAt; rw [dif_pos h, if_neg (by simp [hl]), if_pos hd]
theorem tokAt_quote (h : j < s.size) (hq : (s[j]'h).toNat = 34) : Wk.tokAt s j = (match Wk.wordTo s (s.size + 1) (j + 1) 0 with | some k => Wk.mkTok s 5 j k | none => Wk.mkTok s 1 j (j + 1)) := by
 unfold Wk.tokAt; rw [dif_pos h, if_neg (by simp [Wk.isLow]; omega), if_neg (by simp [Wk.isDig]; omega), if_pos hq]; cases Wk.wordTo s (s.size + 1) (j + 1) 0 <;> rfl
theorem tokAt_dot (h : j < s.size) (hq : (s[j]'h).toNat = 46) : Wk.tokAt s j = (if s[j + 1]? = some 46 then Wk.mkTok s 41 j (j + 2) else Wk.mkTok s 1 j (j + 1)) := by
 unfold Wk.tokAt; rw [dif_pos h, if_neg (by simp [Wk.isLow]; omega), if_neg (by simp [Wk.isDig]; omega), if_neg (by omega), if_pos hq]
theorem tokAt_sign (h : j < s.size) (hl : Wk.isLow (s[j]'h) = false) (hd : Wk.isDig (s[j]'h) = false) (h1 : (s[j]'h).toNat ≠ 34) (h2 : (s[j]'h).toNat ≠ 46) : Wk.tokAt s j = Wk.mkTok s (Wk.spelt [s[j]'h]) j (j + 1) := by
 unfold Wk.tokAt; rw [dif_pos h, if_neg (by simp [hl]), if_neg (by simp [hd]), if_neg h1, if_neg h2]
theorem rtok_bad (k : Nat) : rtok (Wk.mkTok s 1 j k) m = .agg #[.int .u8 33, .string ByteArray.empty, .int .i64 j] := by simp [rtok, rtext, Wk.mkTok, rkind]
theorem rtok_mk (kd k x : Nat) (hx : rkind kd m = x) (h : x ≠ 33) : rtok (Wk.mkTok s kd j k) m = .agg #[.int .u8 x, .string (s.extract j k), .int .i64 j] := by
 have h1 : kd ≠ 1 := by intro e; subst e; simp [rkind] at hx; omega
 have hx' : rkind (Wk.mkTok s kd j k).kind m = x := hx; unfold rtok rtext; rw [hx', if_neg h]; simp [Wk.mkTok, h1]
theorem rtok_shut (kd k : Nat) (hx : rkind kd m = 33) : rtok (Wk.mkTok s kd j k) m = .agg #[.int .u8 33, .string ByteArray.empty, .int .i64 j] := by
 have hx' : rkind (Wk.mkTok s kd j k).kind m = 33 := hx; unfold rtok rtext; rw [hx', if_pos rfl]; simp [Wk.mkTok]
end
theorem digit_yes {l : List UInt8} {m : Bool} (hd : Wk.allDig l) (hne : l ≠ []) (h : Wk.numberB l m = true) : rkind (Wk.digitKind l) m = 48 := by
 rw [Wk.digitKind_eq l hd hne]; cases hf : Wk.numberB l false with
 | true => simp [rkind]
 | false =>
  cases m with
  | false => rw [hf] at h; cases h
  | true => simp [h, rkind]
theorem digit_no {l : List UInt8} {m : Bool} (hd : Wk.allDig l) (hne : l ≠ []) (h : Wk.numberB l m = false) : rkind (Wk.digitKind l) m = 33 := by
 rw [Wk.digitKind_eq l hd hne]; cases m with
 | false =>
  rw [h]; cases ht : Wk.numberB l true <;> simp [rkind]
 | true =>
  have hf : Wk.numberB l false = false := by
   cases hf : Wk.numberB l false with
   | false => rfl
   | true =>
    have a := (Wk.numberB_iff l false hd hne).1 hf; have : Wk.numberB l true = true := (Wk.numberB_iff l true hd hne).2 ⟨a.1, by have := a.2; simp only [Bool.false_eq_true, if_false] at this; simp only [if_true]; omega⟩; rw [h] at this; cases this
  rw [h, hf]; simp [rkind]
theorem span_list (p : UInt8 → Bool) (s : ByteArray) (j : Nat) (hj : j ≤ s.size) : ∀ c ∈ (s.extract j (Wk.spanTo p s j)).data.toList, p c = true := by
 intro c hc; rw [Lib.extract_data] at hc; obtain ⟨k, hk, e⟩ := List.getElem_of_mem hc; have h1 : k < Wk.spanTo p s j - j := by
  have := hk; rw [List.length_take] at this; omega
 have h2 := Wk.spanTo_le p s j hj; have h3 : j + k < s.size := by omega
 have := Wk.spanTo_all p s j (j + k) (by omega) (by omega) h3; rw [← e, List.getElem_take, List.getElem_drop]; exact this
theorem extract_ne {s : ByteArray} {j k : Nat} (h : j < k) (hk : k ≤ s.size) : (s.extract j k).data.toList ≠ [] := by
 intro e; have : (s.extract j k).data.toList.length = 0 := by rw [e]; rfl
 rw [Lib.extract_data, List.length_take, List.length_drop] at this; have : s.data.toList.length = s.size := by simp
 omega
end Go.Proofs.YtbkaghlklkdmkaaGreatDoor
