/-
  The program's parser: the items of a model. Plain laws: how long the tokens are; a word without its marks. The program's parser: Items. The checker: a test. The checker: the cells of a rule.
-/
import Derived.Test.YtbkaghlklkdmkaaGreatDoorNJ1
import Derived.Test.YtbkaghlklkdmkaaGreatDoorMX1
import Derived.Lib.TrimByte
set_option maxRecDepth 100000
set_option maxHeartbeats 8000000
namespace Go.Proofs.YtbkaghlklkdmkaaGreatDoor
open Go.RowKit
attribute [local go_sem ↓] Go.wp_at_zero Go.wp_at_succ
def itemsOK (T : List Wk.Tok) (b tg tc B : Nat) (iv : Value) (w : World) (irs : List IR) (l : List Wk.PItem) : Prop :=
 ∀ (j : Nat) (it : Wk.PItem), l[j]? = some it → ∃ r, irs[j]? = some r ∧ bodyOK ⟨T, b, tg, tc, B, iv, irs.take j⟩ w r it ∧ tokOK ⟨T, b, tg, tc, B, iv, irs.take j⟩ r it
structure MP (T : List Wk.Tok) (b tg tc B : Nat) (wS w : World) (q : Wk.St) (l : List Wk.PItem) (iv : Value) (irs : List IR) : Prop where
 inn : PI ⟨T, b, tg, tc, B, iv, irs⟩ w w q 0 (Wk.itemsStray [] l)
 bel : Below B wS w
 len : irs.length = l.length
 tys : ∀ r ∈ irs, TyW r.ty
 ok : q.bad = none → itemsOK T b tg tc B iv w irs l
 low : tg < B
 chain : q.bad = none → Chain T tg 0 irs q.k
theorem bodyOK.ns {c c' : Cx} {w : World} {r : IR} {it : Wk.PItem} (h : bodyOK c w r it) (e : c.ns = c'.ns) : bodyOK c' w r it := by
 refine ⟨h.kd, h.nm, h.ty, ?_, ?_, h.one⟩
 ·rw [← e]; exact h.ex
 ·unfold tabIn; rw [← e]; exact h.tb
theorem names_eq {T : List Wk.Tok} {b tg tc B : Nat} {iv : Value} {w : World} {irs : List IR} {l : List Wk.PItem} (hl : irs.length = l.length) (h : itemsOK T b tg tc B iv w irs l) : irNames irs = l.map (·.name) := by
 apply List.ext_getElem?; intro j; unfold irNames; rw [List.getElem?_map, List.getElem?_map]; cases hj : l[j]? with
 | none =>
  have : irs[j]? = none := by
   rw [List.getElem?_eq_none_iff] at hj ⊢; omega
  rw [this]; rfl
 | some it =>
  obtain ⟨r, h1, h2, -⟩ := h j it hj; rw [h1]; show some r.nm.data.toList = some it.name; rw [h2.nm]
theorem tok_lt {T : List Wk.Tok} {m : Nat} (h : (Wk.tokK T m).kind = 39) : m < T.length := by
 rcases Nat.lt_or_ge m T.length with h1 | h1
 ·exact h1
 ·unfold Wk.tokK at h; rw [List.getD_eq_getElem?_getD, List.getElem?_eq_none h1] at h; cases h
theorem MP.item {T : List Wk.Tok} {b tg tc B : Nat} {wS w w' : World} {q : Wk.St} {l : List Wk.PItem} {iv : Value} {irs : List IR} (h : MP T b tg tc B wS w q l iv irs) (he : itemEndP ⟨T, b, tg, tc, B, iv, irs⟩ w w' q (Wk.itemsStray [] l)) :
  ∃ iv' irs', MP T b tg tc B wS w' (Wk.pItem T q).1 (l ++ [(Wk.pItem T q).2]) iv' irs' := by
 obtain ⟨r, iv', hI, hB, hK, hT, hok⟩ := he; have hI : PI ⟨T, b, tg, tc, B, iv', irs ++ [r]⟩ w' w' (Wk.pItem T q).1 0 _ := hI; refine ⟨iv', irs ++ [r], ⟨?_, h.bel.trans hB, by simp [h.len], fun x hx => ?_, fun hb => ?_, h.low, fun hb => ?_⟩⟩
 ·by_cases hb : (Wk.pItem T q).1.bad = none
  ·have hq := (Wk.lt_item h.inn.toks.shut q hb).1; rw [Wk.itemsStray_snoc, List.nil_append, ← names_eq h.len (h.ok hq)]; exact hI
  ·exact hI.any hb _
 ·rcases List.mem_append.1 hx with e | e
  ·exact h.tys x e
  ·rw [List.mem_singleton.1 e]; exact hT
 ·have hq := (Wk.lt_item h.inn.toks.shut q hb).1; intro j it hj; rcases Nat.lt_or_ge j l.length with hlt | hge
  ·rw [List.getElem?_append_left hlt] at hj; obtain ⟨r1, a1, a2, a3⟩ := h.ok hq j it hj; have hlt2 : j < irs.length := by rw [h.len]; exact hlt
   refine ⟨r1, by rw [List.getElem?_append_left hlt2]; exact a1, (a2.keep hK).ns ?_, a3⟩; show irNames (irs.take j) = irNames ((irs ++ [r]).take j); rw [List.take_append_of_le_length (by omega)]
  ·rw [List.getElem?_append_right hge] at hj; have hj0 : j = l.length := by
    have := (List.getElem?_eq_some_iff.1 hj).1; simp at this; omega
   subst hj0; rw [Nat.sub_self] at hj; have e : (Wk.pItem T q).2 = it := by simpa using hj
   subst e; refine ⟨r, by rw [List.getElem?_append_right (by rw [h.len]; exact Nat.le_refl _), h.len, Nat.sub_self]; rfl, (hok hb).1.ns ?_, (hok hb).2.1⟩; show irNames irs = irNames ((irs ++ [r]).take l.length); rw [← h.len, List.take_left]
 ·have hq := (Wk.lt_item h.inn.toks.shut q hb).1; obtain ⟨m, h1, h2, h3, h4⟩ := Wk.item_semi q hb; obtain ⟨cap, hv⟩ := (hok hb).2.2; rw [h1] at hv ⊢; exact Chain.snoc ⟨m, cap, hv, h2, tok_lt h3, h3, h4, rfl⟩ (h.chain hq)
theorem MP.drew {T : List Wk.Tok} {b tg tc B : Nat} {wS w : World} {q : Wk.St} {l : List Wk.PItem} {iv : Value} {irs : List IR} (h : MP T b tg tc B wS w q l iv irs) : MP T b tg tc B wS w.drew q l iv irs := by
 refine ⟨h.inn.drew.self, h.bel.drew, h.len, h.tys, fun e j it hj => ?_, h.low, h.chain⟩; obtain ⟨r, a1, a2, a3⟩ := h.ok e j it hj; exact ⟨r, a1, a2.keep (KeepS.below (Below.refl _ _).drew _), a3⟩
def modelEnd (T : List Wk.Tok) (b tg tc B : Nat) (wS w' : World) (r : Wk.St × List Wk.PItem) : Prop := ∃ iv irs, MP T b tg tc B wS w' r.1 r.2 iv irs
theorem MP.fail {T : List Wk.Tok} {b tg tc B : Nat} {wS w w' : World} {q : Wk.St} {l : List Wk.PItem} {iv : Value} {irs : List IR} (h : MP T b tg tc B wS w q l iv irs) {o : Option Nat} (hI : PI ⟨T, b, tg, tc, B, iv, irs⟩ w w' (q.fail T) 0 o) : MP T b tg tc B wS w' (q.fail T) l iv irs := by
 refine ⟨hI.self.any pfail_some _, h.bel.trans (hI.fr.below (by have h1 := h.inn.blt; have h2 := h.inn.low; show B ≤ _; simp only [] at h1 h2; omega) (fun k hk e => ?_)), h.len, h.tys, fun e => absurd e pfail_some, h.low, fun e => absurd e pfail_some⟩; have h2 := h.inn.low; simp only [] at h2 e; omega
theorem MP.failc {T : List Wk.Tok} {b tg tc B : Nat} {wS w : World} {q : Wk.St} {l : List Wk.PItem} {iv : Value} {irs : List IR} (h : MP T b tg tc B wS w q l iv irs) : w.cell? ⟨b, 4, none⟩ = some (.bool q.bad.isSome) := by
 obtain ⟨ms, ma, hP, -⟩ := h.inn.pp; exact bc 4 hP.box rfl
theorem isK0 {T : List Wk.Tok} {q : Wk.St} (h : q.bad = none) : (((Wk.tokK T (ppAt T q)).kind : Int) != 0) = !(q.isK T 0) := by
 rw [ppAt_ok h]; unfold Wk.St.isK; rw [h]; show _ = !(true && _); rw [Bool.true_and, Bool.eq_iff_iff]; simp
theorem j_model {T : List Wk.Tok} {b tg tc B : Nat} (hTP : TP T) {wS w : World} {iv : Value} {irs : List IR} (h : MP T b tg tc B wS w ⟨0, none⟩ [] iv irs) :
  Calls Tryz.prog 64 #[nptr b] w fun e w' => e = .returned (.tuple #[]) ∧ modelEnd T b tg tc B wS w' (Wk.pModel T) := by
 have HTP : Hid _ := hTP; have HH : Hid (MP T b tg tc B wS w ⟨0, none⟩ [] iv irs) := h; obtain ⟨FIN, hF⟩ : ∃ F, F = Wk.pModel T := ⟨_, rfl⟩
 rw [← hF]; have HF : Hid (Wk.pItems T 19 (Wk.pItem T ⟨0, none⟩).1 ([] ++ [(Wk.pItem T ⟨0, none⟩).2]) = FIN) := hF.symm; have h0 : irs.length < 20 := by rw [h.len]; decide
 clear h hTP hF; go_enter Tryz.func64, Tryz.ntmps64; go_wp2_with fail; refine (j_item (c := ⟨T, b, tg, tc, B, iv, irs⟩) HTP.out HH.out.inn HH.out.low h0).mono ?_; rintro e w1 ⟨rfl, hE⟩; obtain ⟨iv1, irs1, hM1⟩ := HH.out.item hE; have HM1 : Hid _ := hM1; clear hE hM1; go_wp2_with fail; go_loopg [2] 20 (fun gg s2 wr => ∃ (k : Nat) (q : Wk.St) (l : List Wk.PItem) (iv : Value) (irs : List IR), 1 ≤ k ∧ k ≤ 20 ∧ 20 - k ≤ gg ∧ s2 = .int .i64 k ∧ Hid (l.length = k) ∧ Hid (MP T b tg tc B wS wr q l iv irs) ∧ Hid (Wk.pItems T (20 - k) q l = FIN))
 case atStart => exact ⟨1, _, _, iv1, irs1, by omega, by omega, by omega, rfl, (by show _ = _; rfl), HM1, HF⟩
 case round =>
  obtain ⟨k, q, l, iv2, irs2, hk1, hk2, hg, rfl, HL, HM, HFr⟩ := hrel; clear HM1 HF; have c4 := HM.out.failc; obtain ⟨nk, hnk⟩ : ∃ nk : Int, nk = ((Wk.tokK T (ppAt T q)).kind : Int) := ⟨_, rfl⟩
  have HNX : Hid (∀ W, MP T b tg tc B wS W q l iv2 irs2 → Calls Tryz.prog 108 #[nptr b] W fun e w' => e = .returned (.int .i64 nk) ∧ w' = W.drew) := fun W hW => by
   rw [hnk]; exact j_next hW.inn
  have HZ0 : Hid (q.bad = none → (nk != 0) = !(q.isK T 0)) := fun e => by rw [hnk]; exact isK0 e
  clear hnk; by_cases hlt : k < 20
  ·have hltz : (k : Int) < 20 := by omega
   cases hb : q.bad with
   | some p =>
    have HE : Hid (FIN = (q, l)) := by
     show _ = _; rw [← HFr.out, show 20 - k = (20 - k - 1) + 1 by omega, Wk.pItems, hb]; rfl
    have HBN : Hid (q.bad.isSome = true) := by show _ = _; rw [hb]; rfl
    rw [hb] at c4; have c4 : wr.cell? ⟨b, 4, none⟩ = some (.bool true) := c4; clear hb; go_wp2_with fail; refine (HNX.out _ HM.out).mono ?_; rintro e w2 ⟨rfl, rfl⟩; cases hz : (nk != 0) with
    | false =>
     go_wp2_with fail; go_end0
     exact ⟨rfl, iv2, irs2, by rw [HE.out]; exact HM.out.drew⟩
    | true =>
     go_wp2_with fail; refine (j_fail HM.out.drew.inn none).mono ?_; rintro e w3 ⟨rfl, hI⟩; have HM3 : Hid _ := HM.out.drew.fail hI; clear hI; go_wp2_with fail; go_end0
     refine ⟨rfl, iv2, irs2, ?_⟩; rw [HE.out]; have := HM3.out; rw [Wk.fail_bad T HBN.out] at this; exact this
   | none =>
    rw [hb] at c4; have c4 : wr.cell? ⟨b, 4, none⟩ = some (.bool false) := c4; have HZ : Hid _ := HZ0.out hb; have HBN : Hid _ := hb; cases hK : q.isK T 0 with
    | true =>
     have HE : Hid (FIN = (q, l)) := by
      show _ = _; rw [← HFr.out, show 20 - k = (20 - k - 1) + 1 by omega, Wk.pItems, hb, hK]; rfl
     rw [hK] at HZ; clear hb hK; go_wp2_with fail; refine (HNX.out _ HM.out).mono ?_; rintro e w2 ⟨rfl, rfl⟩; have hz : (nk != 0) = false := HZ.out; go_wp2_with fail; refine (HNX.out _ HM.out.drew).mono ?_; rintro e w3 ⟨rfl, rfl⟩; go_wp2_with fail; go_end0
     exact ⟨rfl, iv2, irs2, by rw [HE.out]; exact HM.out.drew.drew⟩
    | false =>
     have HE : Hid (Wk.pItems T (20 - (k + 1)) (Wk.pItem T q).1 (l ++ [(Wk.pItem T q).2]) = FIN) := by
      show _ = _; rw [← HFr.out, show 20 - k = (20 - (k + 1)) + 1 by omega, Wk.pItems, hb, hK]; rfl
     rw [hK] at HZ; clear hb hK; go_wp2_with fail; refine (HNX.out _ HM.out).mono ?_; rintro e w2 ⟨rfl, rfl⟩; have hz : (nk != 0) = true := HZ.out; have h20 : irs2.length < 20 := by have h1 := HM.out.len; have h2 := HL.out; omega
     go_wp2_with fail; refine (j_item (c := ⟨T, b, tg, tc, B, iv2, irs2⟩) HTP.out HM.out.drew.inn HM.out.low h20).mono ?_; rintro e w3 ⟨rfl, hE3⟩; obtain ⟨iv3, irs3, hM3⟩ := HM.out.drew.item hE3; have HM3 : Hid _ := hM3; have HL3 : Hid ((l ++ [(Wk.pItem T q).2]).length = k + 1) := by
      show _ = _; rw [List.length_append, HL.out]; rfl
     clear hE3 hM3; go_wp2_with fail; go_roundg (20 - (k + 1)); case measure => omega
     case rel => exact ⟨k + 1, _, _, iv3, irs3, by omega, by omega, by omega, by go_num, HL3, HM3, HE⟩
  ·have hltz : ¬ (k : Int) < 20 := by omega
   have HE : Hid (FIN = (if q.isK T 0 then q else q.fail T, l)) := by
    show _ = _; rw [← HFr.out, show 20 - k = 0 by omega]; rfl
   go_wp2_with fail; refine (HNX.out _ HM.out).mono ?_; rintro e w2 ⟨rfl, rfl⟩; by_cases hb : q.bad = none
   ·have HZ : Hid _ := HZ0.out hb; cases hK : q.isK T 0 with
    | true =>
     rw [hK] at HZ; have HE2 : Hid (FIN = (q, l)) := by
      show _ = _; rw [HE.out, hK]; rfl
     clear hb hK; have hz : (nk != 0) = false := HZ.out; go_wp2_with fail; go_end0
     exact ⟨rfl, iv2, irs2, by rw [HE2.out]; exact HM.out.drew⟩
    | false =>
     rw [hK] at HZ; have HE2 : Hid (FIN = (q.fail T, l)) := by
      show _ = _; rw [HE.out, hK]; rfl
     clear hb hK; have hz : (nk != 0) = true := HZ.out; go_wp2_with fail; refine (j_fail HM.out.drew.inn none).mono ?_; rintro e w3 ⟨rfl, hI⟩; have HM3 : Hid _ := HM.out.drew.fail hI; clear hI; go_wp2_with fail; go_end0
     exact ⟨rfl, iv2, irs2, by rw [HE2.out]; exact HM3.out⟩
   ·have hs : q.bad.isSome = true := by cases hx : q.bad with
     | none => exact absurd hx hb
     | some p => rfl
    have HE2 : Hid (FIN = (q, l)) := by
     show _ = _; rw [HE.out, Wk.isK_bad T hs, Wk.fail_bad T hs]; rfl
    have HBN : Hid _ := hs; clear hb hs; cases hz : (nk != 0) with
    | false =>
     go_wp2_with fail; go_end0
     exact ⟨rfl, iv2, irs2, by rw [HE2.out]; exact HM.out.drew⟩
    | true =>
     go_wp2_with fail; refine (j_fail HM.out.drew.inn none).mono ?_; rintro e w3 ⟨rfl, hI⟩; have HM3 : Hid _ := HM.out.drew.fail hI; clear hI; go_wp2_with fail; go_end0
     refine ⟨rfl, iv2, irs2, ?_⟩; rw [HE2.out]; have := HM3.out; rw [Wk.fail_bad T HBN.out] at this; exact this
end Go.Proofs.YtbkaghlklkdmkaaGreatDoor
namespace Go.Proofs.YtbkaghlklkdmkaaGreatDoor
theorem decodeN_tail (n b0 b1 b2 b3 : Nat) (_l0 : b0 < 256) (_l1 : b1 < 256) (_l2 : b2 < 256) (_l3 : b3 < 256) :
  ((Lib.decodeN n b0 b1 b2 b3).2 = 1) ∨ ((Lib.decodeN n b0 b1 b2 b3).2 = 0) ∨ ((Lib.decodeN n b0 b1 b2 b3).2 = 2 ∧ 128 ≤ b1) ∨ ((Lib.decodeN n b0 b1 b2 b3).2 = 3 ∧ 128 ≤ b2) ∨ ((Lib.decodeN n b0 b1 b2 b3).2 = 4 ∧ 128 ≤ b3) := by
 unfold Lib.decodeN; repeat' split
 all_goals first | (left; rfl) | (right; left; rfl) | (right; right; left; exact ⟨rfl, by omega⟩) | (right; right; right; left; exact ⟨rfl, by omega⟩) | (right; right; right; right; exact ⟨rfl, by omega⟩)
theorem get!_nat (s : ByteArray) {k : Nat} (h : k < s.size) : (s.get! k) = s[k]'h := by
 have : s.get! k = s.data[k]! := rfl; rw [this]; exact getElem!_pos s.data k h
theorem decode_last (s : ByteArray) (k : Nat) (hk : k < s.size) (h34 : (s[k]'hk).toNat ≠ 34) (hl : k + (Utf8.decode s k).2 - 1 < s.size) : (s[k + (Utf8.decode s k).2 - 1]'hl).toNat ≠ 34 := by
 have hd := Lib.decode_at s k; have ht := decodeN_tail (s.size - k) (s.get! k).toNat (s.get! (k + 1)).toNat (s.get! (k + 2)).toNat (s.get! (k + 3)).toNat (UInt8.toNat_lt _) (UInt8.toNat_lt _) (UInt8.toNat_lt _) (UInt8.toNat_lt _); rw [← hd] at ht; have hp := Wk.decode_pos s k hk; have key : ∀ d, (Utf8.decode s k).2 = d + 1 → ∀ (h' : k + d < s.size), 128 ≤ (s.get! (k + d)).toNat → (s[k + (Utf8.decode s k).2 - 1]'hl).toNat ≠ 34 := by
  intro d e h' h128; have e1 : s[k + (Utf8.decode s k).2 - 1]'hl = s[k + d]'h' := by congr 1; omega
  rw [e1, ← get!_nat s h']; omega
 rcases ht with e | e | ⟨e, h1⟩ | ⟨e, h1⟩ | ⟨e, h1⟩
 ·have e1 : s[k + (Utf8.decode s k).2 - 1]'hl = s[k]'hk := by congr 1; omega
  rw [e1]; exact h34
 ·omega
 ·exact key 1 e (by omega) h1
 ·exact key 2 e (by omega) h1
 ·exact key 3 e (by omega) h1
theorem wordTo_prev (s : ByteArray) : ∀ f k n r, Wk.wordTo s f k n = some r → k + 1 < r → ∃ h : r - 2 < s.size, (s[r - 2]'h).toNat ≠ 34 := by
 intro f; induction f with
 | zero => intro k n r h; cases h
 | succ f ih =>
  intro k n r h hlt; unfold Wk.wordTo at h; split at h
  ·rename_i hk; split at h
   ·split at h
    ·cases h
    ·cases h; omega
   ·rename_i h34; split at h
    ·cases h
    ·have hg := Wk.wordTo_gt s _ _ _ _ h; by_cases hc : k + (Utf8.decode s k).2 + 1 < r
     ·exact ih _ _ _ h hc
     ·have e : r - 2 = k + (Utf8.decode s k).2 - 1 := by omega
      have hl : k + (Utf8.decode s k).2 - 1 < s.size := by omega
      refine ⟨by rw [e]; exact hl, ?_⟩; have := decode_last s k hk h34 hl; have e2 : s[r - 2]'(by rw [e]; exact hl) = s[k + (Utf8.decode s k).2 - 1]'hl := by congr 1
      rw [e2]; exact this
  ·cases h
theorem trim_quo (m : List UInt8) (h1 : ∀ x, m.head? = some x → x ≠ 34) (h2 : ∀ x, m.getLast? = some x → x ≠ 34) : Lib.trimB (34 :: (m ++ [34])) 34 = m := by
 unfold Lib.trimB Lib.trimLeftB Lib.trimRightB; have hr : (34 :: (m ++ [34]) : List UInt8).reverse = 34 :: (m.reverse ++ [34]) := by simp
 rw [hr, List.dropWhile_cons_of_pos (by simp)]; cases m with
 | nil => rfl
 | cons a m =>
  have hlast : (a :: m).reverse ≠ [] := by simp
  obtain ⟨b, l, hb⟩ : ∃ b l, (a :: m).reverse = b :: l := by
   cases hc : (a :: m).reverse with
   | nil => exact absurd hc hlast
   | cons b l => exact ⟨b, l, rfl⟩
  have hbn : b ≠ 34 := by
   apply h2 b; rw [← List.head?_reverse, hb]; rfl
  rw [hb, List.cons_append, List.dropWhile_cons_of_neg (by simpa using hbn), ← List.cons_append, ← hb]; rw [List.reverse_append, List.reverse_reverse]; show List.dropWhile _ (34 :: (a :: m)) = _; rw [List.dropWhile_cons_of_pos (by simp), List.dropWhile_cons_of_neg (by simpa using h1 a rfl)]
theorem unq_quo {t : ByteArray} {m : List UInt8} (h : t.data.toList = 34 :: (m ++ [34])) : Wk.unq t = m := by
 unfold Wk.unq; rw [h]; simp
def TrimOK (s : ByteArray) (t : Wk.Tok) : Prop := (t.kind = 5 → Lib.trimB t.text.data.toList 34 = Wk.unq t.text) ∧ t.text.size ≤ s.size
theorem extract_size (s : ByteArray) (i k : Nat) : (s.extract i k).size ≤ s.size := by
 rw [ByteArray.size_extract]; omega
theorem mkTok_trim {s : ByteArray} {kd i k : Nat} (h : kd = 5 → Lib.trimB (s.extract i k).data.toList 34 = Wk.unq (s.extract i k)) : TrimOK s (Wk.mkTok s kd i k) := by
 unfold TrimOK Wk.mkTok; refine ⟨fun e => ?_, ?_⟩
 ·have e' : kd = 5 := e; subst e'; exact h rfl
 ·by_cases h1 : kd = 1
  ·simp only [h1, if_true]; exact Nat.zero_le _
  ·simp only [h1, if_false]; exact extract_size s i k
theorem kind_ne5 {l : List UInt8} : Wk.spelt l ≠ 5 := by
 by_cases h : Wk.spelt l = 1
 ·omega
 ·have := (spelt_spec h).1; omega
theorem tokAt_trim (s : ByteArray) (i : Nat) : TrimOK s (Wk.tokAt s i) := by
 unfold Wk.tokAt; split
 ·rename_i h; split
  ·refine mkTok_trim (fun e => ?_); exfalso; unfold Wk.letterKind at e; split at e
   ·omega
   ·split at e
    ·omega
    ·exact kind_ne5 e
  ·split
   ·refine mkTok_trim (fun e => ?_); exfalso; unfold Wk.digitKind at e; repeat' split at e
    all_goals omega
   ·split
    ·rename_i h34; split
     ·rename_i k hk; refine mkTok_trim (fun _ => ?_); obtain ⟨g1, g2⟩ := Wk.wordTo_gt s _ _ _ _ hk; obtain ⟨g3, g4⟩ := wordTo_last s _ _ _ _ hk; have hi : (s[i]'h) = 34 := UInt8.toNat_inj.1 h34; have hm : (s.extract i k).data.toList = 34 :: ((s.data.toList.take (k - 1)).drop (i + 1) ++ [34]) := by
       rw [extract_list]; exact cut_ends g1 (by rw [size_list]; exact g2) (by rw [get_list h, hi]) (by rw [get_list g3, g4])
      rw [unq_quo hm, hm]; refine trim_quo _ ?_ ?_
      ·intro x hx; have hlt : i + 1 < k - 1 := by
        rcases Nat.lt_or_ge (i + 1) (k - 1) with h' | h'
        ·exact h'
        ·rw [List.drop_eq_nil_of_le (by rw [List.length_take]; omega)] at hx; cases hx
       have h1 : i + 1 < s.size := by omega
       rw [List.head?_drop, List.getElem?_take_of_lt hlt, get_list h1] at hx; have e : (s[i + 1]'h1) = x := by simpa using hx
       rw [← e]; intro e2; unfold Wk.wordTo at hk; rw [dif_pos h1, if_pos (by rw [e2]; rfl)] at hk; split at hk
       ·cases hk
       ·cases hk; omega
      ·intro x hx; have hlt : i + 1 < k - 1 := by
        rcases Nat.lt_or_ge (i + 1) (k - 1) with h' | h'
        ·exact h'
        ·rw [List.drop_eq_nil_of_le (by rw [List.length_take]; omega)] at hx; cases hx
       obtain ⟨h1, h2⟩ := wordTo_prev s _ _ _ _ hk (by omega); have e : (s[k - 2]'h1) = x := by
        rw [List.getLast?_eq_getElem?, List.getElem?_drop, List.length_drop, List.length_take, size_list] at hx; rw [show i + 1 + (min (k - 1) s.size - (i + 1) - 1) = k - 2 by omega, List.getElem?_take_of_lt (by omega), get_list h1] at hx; simpa using hx
       rw [← e]; intro e2; exact h2 (by rw [e2]; rfl)
     ·exact mkTok_trim (fun e => absurd e (by decide))
    ·split
     ·split
      ·exact mkTok_trim (fun e => absurd e (by decide))
      ·exact mkTok_trim (fun e => absurd e (by decide))
     ·exact mkTok_trim (fun e => absurd e kind_ne5)
 ·exact ⟨fun e => (by have e' : (0 : Nat) = 5 := e; omega), Nat.zero_le _⟩
theorem tokens_trim (s : ByteArray) : ∀ k, k < (Wk.tokens s).length → TrimOK s (Wk.tokK (Wk.tokens s) k) := by
 have hF := Wk.tokens_follow s; intro k; cases k with
 | zero => intro _; rw [hF.first]; exact tokAt_trim _ _
 | succ k => intro hk; rw [hF.next k hk]; exact tokAt_trim _ _
theorem toks_len (s : ByteArray) : ∀ f i, (Wk.toks s f i).length ≤ f + 1 := by
 intro f; induction f with
 | zero => intro i; exact Nat.le_refl _
 | succ f ih =>
  intro i; unfold Wk.toks; split
  ·simp
  ·have := ih (Wk.cut s i).stop; simp; omega
theorem tokens_len (s : ByteArray) : (Wk.tokens s).length ≤ s.size + 2 := toks_len s _ 0
end Go.Proofs.YtbkaghlklkdmkaaGreatDoor
namespace Go.Proofs.YtbkaghlklkdmkaaGreatDoor
open Go.RowKit
attribute [local go_sem ↓] Go.wp_at_zero Go.wp_at_succ
theorem tokens_TP {s : ByteArray} (hs : s.size ≤ 1000) : TP (Wk.tokens s) :=
 ⟨fun k hk => (tokens_trim s k hk).1, fun k hk => Nat.le_trans (tokens_trim s k hk).2 hs⟩
theorem toks_cells {w : World} {B g cap : Nat} {T : List Wk.Tok} (h : w.ownsRow B 134 3 (.slice (some ⟨g, 0, none⟩) T.length cap) T.length (pCells T)) {k : Nat} (hk : k < T.length) :
  w.cell? ⟨g, k * 3, none⟩ = some (.int .i64 ((Wk.tokK T k).kind : Int)) ∧ w.cell? ⟨g, k * 3 + 1, none⟩ = some (.int .i64 ((Wk.tokK T k).place : Int)) ∧ w.cell? ⟨g, k * 3 + 2, none⟩ = some (.string (Wk.tokK T k).text) := by
 have ht : T[k]? = some (Wk.tokK T k) := by
  unfold Wk.tokK; rw [List.getD_eq_getElem?_getD, List.getElem?_eq_getElem hk]; rfl
 have key : ∀ i v, (pcells (Wk.tokK T k))[i]? = some v → w.cell? ⟨g, k * 3 + i, none⟩ = some v := by
  intro i v hv; have hi : i < 3 := (List.getElem?_eq_some_iff.1 hv).1; rw [h.cellAt (k * 3 + i) (by omega)]; exact flat_at pcells 3 (fun _ => rfl) T k _ ht i v hv
 exact ⟨key 0 _ rfl, key 1 _ rfl, key 2 _ rfl⟩
def itemsEnd (s : ByteArray) (wS w' : World) (e : Ending) : Prop :=
 match (Wk.pModel (Wk.tokens s)).1.bad with
 | some p => e = .returned (.tuple #[.slice none 0 0, .int .i64 2, .int .i64 (p : Nat)])
 | none =>
  match Wk.itemsStray [] (Wk.pModel (Wk.tokens s)).2 with
  | some p => e = .returned (.tuple #[.slice none 0 0, .int .i64 3, .int .i64 (p : Nat)])
  | none => ∃ b tg tc B wB iv irs, e = .returned (.tuple #[iv, .int .i64 0, .int .i64 0]) ∧ wS.heap.size ≤ B ∧ MP (Wk.tokens s) b tg tc B wB w' (Wk.pModel (Wk.tokens s)).1 (Wk.pModel (Wk.tokens s)).2 iv irs
theorem j_Items {s : ByteArray} (hs : s.size ≤ 1000) {w : World} (hG : Gl w) :
  Calls Tryz.prog 42 #[.string s] w fun e w' => itemsEnd s w w' e ∧ Below w.heap.size w w' := by
 have HG : Hid _ := hG; have HTP : Hid _ := tokens_TP hs; have HSH : Hid _ := (Wk.tokens_follow s).shut; have HLN : Hid ((Wk.tokens s).length ≤ 1002) := by have := tokens_len s; show _ ≤ _; omega
 obtain ⟨T, hT⟩ : ∃ T, T = Wk.tokens s := ⟨_, rfl⟩
 obtain ⟨FIN, hF⟩ : ∃ F, F = Wk.pModel T := ⟨_, rfl⟩
 have HSC : Hid _ := p_scan s w hs hG; rw [← hT] at HTP HSH HLN HSC; have HIE : Hid (∀ w' e, (match FIN.1.bad with
   | some p => e = .returned (.tuple #[.slice none 0 0, .int .i64 2, .int .i64 (p : Nat)])
   | none => match Wk.itemsStray [] FIN.2 with
    | some p => e = .returned (.tuple #[.slice none 0 0, .int .i64 3, .int .i64 (p : Nat)])
    | none => ∃ b tg tc B wB iv irs, e = .returned (.tuple #[iv, .int .i64 0, .int .i64 0]) ∧ w.heap.size ≤ B ∧ MP T b tg tc B wB w' FIN.1 FIN.2 iv irs) → itemsEnd s w w' e) := fun w' e h => by
  unfold itemsEnd; rw [← hT, ← hF]; exact h
 have HFF : Hid _ := hF; clear hT hF hG hs; go_enter Tryz.func42, Tryz.ntmps42; go_wp2_with fail; refine Calls.mono HSC.out ?_; rintro e w1 ⟨v, rfl, hrow, hb1⟩; have hpos := HSH.out.pos; obtain ⟨tg, tc, rfl, htc⟩ : ∃ tg tc, v = .slice (some ⟨tg, 0, none⟩) T.length tc ∧ T.length ≤ tc := by
  rcases hrow.2 with ⟨-, h0⟩ | ⟨g, cap, cur, e1, -, -, e4, -⟩
  ·omega
  ·exact ⟨g, cap, e1, e4⟩
 have htl := (hrow.lt tg rfl).2; have hs1 := hb1.size; have HROW : Hid (w1.ownsRow w.heap.size 134 3 (.slice (some ⟨tg, 0, none⟩) T.length tc) T.length (pCells T)) := hrow; have HB1 : Hid _ := hb1; have HM0 : Hid (MP T w1.heap.size tg tc w1.heap.size (w1.alloc (.cells #[.slice (some ⟨tg, 0, none⟩) T.length tc, .int .i64 0, .int .i64 0, .slice none 0 0, .bool false, .int .i64 0, .bool false, .int .i64 0] 148)) (w1.alloc (.cells #[.slice (some ⟨tg, 0, none⟩) T.length tc, .int .i64 0, .int .i64 0, .slice none 0 0, .bool false, .int .i64 0, .bool false, .int .i64 0] 148)) ⟨0, none⟩ [] (.slice none 0 0) []) := by
  refine ⟨⟨⟨false, 0, ⟨⟨HSH.out, hpos, ⟨htc, HLN.out⟩, fun k hk => ?_⟩, heap_alloc_new w1 _, fun _ => hpos, by show tg ≠ w1.heap.size; omega⟩, fun _ => ⟨fun _ => rfl, fun p e => (by cases e)⟩⟩, World.ownsRow_nil _ _ _ _, by show 0 ≤ 20; omega, ?_, Fr.refl _ _, ⟨?_, Nat.le_refl _⟩⟩, Below.refl _ _, rfl, fun r hr => (by cases hr), fun _ j it hj => (by simp at hj), htl, fun _ => rfl⟩
  ·exact toks_cells (World.ownsRow.alloc HROW.out _) hk
  ·exact HG.out.belowAll (HB1.out.alloc hs1 _)
  ·have := HG.out.size; show 12 ≤ w1.heap.size; omega
 clear hrow hb1; go_wp2_with fail; refine (j_model HTP.out HM0.out).mono ?_; rintro e w3 ⟨rfl, iv, irs, hM⟩; rw [← HFF.out] at hM; have HM : Hid (MP T w1.heap.size tg tc w1.heap.size (w1.alloc (.cells #[.slice (some ⟨tg, 0, none⟩) T.length tc, .int .i64 0, .int .i64 0, .slice none 0 0, .bool false, .int .i64 0, .bool false, .int .i64 0] 148)) w3 FIN.1 FIN.2 iv irs) := hM; have HBW : Hid (Below w.heap.size w w3) := (HB1.out.alloc hs1 _).trans (hM.bel.mono hs1); obtain ⟨ms, ma, hP, hms⟩ := hM.inn.pp; have c3 := bc 3 hP.box rfl; have c4 := bc 4 hP.box rfl; have c5 := bc 5 hP.box rfl; have c6 := bc 6 hP.box rfl; have c7 := bc 7 hP.box rfl; have HMS : Hid (FIN.1.bad = none → MS (Wk.itemsStray [] FIN.2) ms ma) := hms; clear hM hP hms; cases hb : FIN.1.bad with
 | some p =>
   rw [hb] at c4 c5; have c4 : w3.cell? ⟨w1.heap.size, 4, none⟩ = some (.bool true) := c4; have HX : Hid (w3.drew.cell? ⟨w1.heap.size, 5, none⟩ = some (.int .i64 (p : Nat))) := c5; have HE : Hid (itemsEnd s w w3.drew (.returned (.tuple #[.slice none 0 0, .int .i64 2, .int .i64 (p : Nat)]))) := HIE.out _ _ (by rw [hb]); clear hb; go_upto_region 4 with fail; refine wp_region_ph (fun w' => w'.cell? ⟨w1.heap.size, 5, none⟩ = some (.int .i64 (p : Nat))) 5 5 rfl (by kernel_rfl) HX.out (fun hHeld => ?_); clear hHeld; refine PhS.t 0 13 HX.out ?_; refine PhS.t 1 14 HX.out ?_; refine PhS.t 2 2 HX.out ?_; refine PhS.t 3 3 HX.out ?_; refine PhS.t 4 4 HX.out ?_; refine PhS.done (by kernel_rfl) ?_ _; go_wp2_with fail; exact bodyPost_ret (v := .tuple #[.slice none 0 0, .int .i64 2, .int .i64 (p : Nat)]) (by simp [results, Tryz.results42, go_sem]) rfl ⟨HE.out, HBW.out.drew⟩
 | none =>
   rw [hb] at c4; have c4 : w3.cell? ⟨w1.heap.size, 4, none⟩ = some (.bool false) := c4; have hm := HMS.out hb; cases hst : Wk.itemsStray [] FIN.2 with
   | some p =>
    rw [hst] at hm; obtain ⟨e1, e2⟩ := hm.2 p rfl; rw [e1] at c6; rw [e2] at c7; have c6 : w3.cell? ⟨w1.heap.size, 6, none⟩ = some (.bool true) := c6; have HX : Hid (w3.drew.cell? ⟨w1.heap.size, 7, none⟩ = some (.int .i64 (p : Nat))) := c7; have HE : Hid (itemsEnd s w w3.drew (.returned (.tuple #[.slice none 0 0, .int .i64 3, .int .i64 (p : Nat)]))) := HIE.out _ _ (by rw [hb, hst]); clear hb hst hm e1 e2 HMS; go_upto_region 6 with fail; refine wp_region_ph (fun w' => w'.cell? ⟨w1.heap.size, 7, none⟩ = some (.int .i64 (p : Nat))) 5 5 rfl (by kernel_rfl) HX.out (fun hHeld => ?_); clear hHeld; refine PhS.t 0 18 HX.out ?_; refine PhS.t 1 19 HX.out ?_; refine PhS.t 2 2 HX.out ?_; refine PhS.t 3 3 HX.out ?_; refine PhS.t 4 4 HX.out ?_; refine PhS.done (by kernel_rfl) ?_ _; go_wp2_with fail; exact bodyPost_ret (v := .tuple #[.slice none 0 0, .int .i64 3, .int .i64 (p : Nat)]) (by simp [results, Tryz.results42, go_sem]) rfl ⟨HE.out, HBW.out.drew⟩
   | none =>
    rw [hst] at hm; rw [hm.1 rfl] at c6; have c6 : w3.cell? ⟨w1.heap.size, 6, none⟩ = some (.bool false) := c6; have HE : Hid (itemsEnd s w w3 (.returned (.tuple #[iv, .int .i64 0, .int .i64 0]))) := HIE.out _ _ (by rw [hb, hst]; exact ⟨_, _, _, _, _, iv, irs, rfl, hs1, HM.out⟩); clear hb hst hm HMS; go_wp2_with fail; exact bodyPost_ret (v := .tuple #[iv, .int .i64 0, .int .i64 0]) (by simp [results, Tryz.results42, go_sem]) rfl ⟨HE.out, HBW.out⟩
theorem p_testFits (r : QR) (t : Wk.Ty) (ht : TyW t) (w : World) :
  Calls Tryz.prog 179 #[.agg #[.int .i64 r.op, .int .i64 r.a.kd, .int .i64 r.a.no, .bool r.a.tr, .string r.a.tx, .int .i64 r.b.kd, .int .i64 r.b.no, .bool r.b.tr, .string r.b.tx], tyV t] w fun e w' => e = .returned (.bool ((r.op == 0 || t.1 == 1) && (vHolds t r.a && vHolds t r.b))) ∧ Below w.heap.size w w' := by
 obtain ⟨R, hR⟩ : ∃ R, R = ((r.op == 0 || t.1 == 1) && (vHolds t r.a && vHolds t r.b)) := ⟨_, rfl⟩
 rw [← hR]; have HR : Hid _ := hR; have HA : Hid (Calls Tryz.prog 143 #[tyV t, r.a.val] ((w.alloc (.cells #[.int .i64 r.op, .int .i64 r.a.kd, .int .i64 r.a.no, .bool r.a.tr, .string r.a.tx, .int .i64 r.b.kd, .int .i64 r.b.no, .bool r.b.tr, .string r.b.tx] 285)).alloc (.cells #[.int .i64 (t.1 : Nat), .int .i64 (t.2.length : Nat), .string (wd t 0), .string (wd t 1), .string (wd t 2), .string (wd t 3), .string (wd t 4), .string (wd t 5)] 69)) fun e w' => e = .returned (.bool (vHolds t r.a)) ∧ Below ((w.alloc (.cells #[.int .i64 r.op, .int .i64 r.a.kd, .int .i64 r.a.no, .bool r.a.tr, .string r.a.tx, .int .i64 r.b.kd, .int .i64 r.b.no, .bool r.b.tr, .string r.b.tx] 285)).alloc (.cells #[.int .i64 (t.1 : Nat), .int .i64 (t.2.length : Nat), .string (wd t 0), .string (wd t 1), .string (wd t 2), .string (wd t 3), .string (wd t 4), .string (wd t 5)] 69)).heap.size ((w.alloc (.cells #[.int .i64 r.op, .int .i64 r.a.kd, .int .i64 r.a.no, .bool r.a.tr, .string r.a.tx, .int .i64 r.b.kd, .int .i64 r.b.no, .bool r.b.tr, .string r.b.tx] 285)).alloc (.cells #[.int .i64 (t.1 : Nat), .int .i64 (t.2.length : Nat), .string (wd t 0), .string (wd t 1), .string (wd t 2), .string (wd t 3), .string (wd t 4), .string (wd t 5)] 69)) w') := p_Holds t ht.1 r.a _; have HB : Hid (∀ W, Calls Tryz.prog 143 #[tyV t, r.b.val] W fun e w' => e = .returned (.bool (vHolds t r.b)) ∧ Below W.heap.size W w') := fun W => p_Holds t ht.1 r.b W
 clear hR ht; unfold tyV VR.val at HA HB; unfold tyV; generalize vHolds t r.a = va at *
 generalize vHolds t r.b = vb at *
 cases h0 : (r.op == 0) with
 | true =>
  have d0 : ((r.op : Int) != 0) = false := by rw [beq_iff_eq] at h0; rw [bne_eq_false_iff_eq]; omega
  have HE : Hid (R = (va && vb)) := by
   show _ = _; rw [HR.out, h0]; rfl
  clear h0; go_enter Tryz.func179, Tryz.ntmps179; go_wp2_with fail; refine Calls.mono HA.out ?_; rintro e w2 ⟨rfl, hb2⟩; have HW2 : Hid (Below w.heap.size w w2) := ab2l hb2; have u1 := (hb2.block w.heap.size (by simp; omega)).trans (blk_alloc _ (heap_alloc_new w _)); have u2 : w2.heap[w.heap.size + 1]? = some (.cells #[.int .i64 (t.1 : Nat), .int .i64 (t.2.length : Nat), .string (wd t 0), .string (wd t 1), .string (wd t 2), .string (wd t 3), .string (wd t 4), .string (wd t 5)] 69 (0, 0)) := by
   have := heap_alloc_new (w.alloc (.cells #[.int .i64 r.op, .int .i64 r.a.kd, .int .i64 r.a.no, .bool r.a.tr, .string r.a.tx, .int .i64 r.b.kd, .int .i64 r.b.no, .bool r.b.tr, .string r.b.tx] 285)) (.cells #[.int .i64 (t.1 : Nat), .int .i64 (t.2.length : Nat), .string (wd t 0), .string (wd t 1), .string (wd t 2), .string (wd t 3), .string (wd t 4), .string (wd t 5)] 69); rw [show (w.alloc (.cells #[.int .i64 r.op, .int .i64 r.a.kd, .int .i64 r.a.no, .bool r.a.tr, .string r.a.tx, .int .i64 r.b.kd, .int .i64 r.b.no, .bool r.b.tr, .string r.b.tx] 285)).heap.size = w.heap.size + 1 by simp] at this; exact (hb2.block (w.heap.size + 1) (by simp)).trans this
  obtain ⟨y0, y1, y2, y3, y4, y5, y6, y7⟩ := ty_cells u2; have q0 := bc 0 u1 rfl; have q1 := bc 1 u1 rfl; have q2 := bc 2 u1 rfl; have q3 := bc 3 u1 rfl; have q4 := bc 4 u1 rfl; have q5 := bc 5 u1 rfl; have q6 := bc 6 u1 rfl; have q7 := bc 7 u1 rfl; have q8 := bc 8 u1 rfl; clear hb2 u1 u2; cases va with
  | false =>
   go_wp2_with fail; go_ret; exact ⟨by rw [HE.out]; rfl, HW2.out⟩
  | true =>
   go_wp2_with fail; refine Calls.mono (HB.out w2) ?_; rintro e w3 ⟨rfl, hb3⟩; have HW3 : Hid (Below w.heap.size w w3) := HW2.out.trans (hb3.mono HW2.out.size); clear hb3; go_wp2_with fail; go_ret; exact ⟨by rw [HE.out]; rfl, HW3.out⟩
 | false =>
  have d0 : ((r.op : Int) != 0) = true := by rw [beq_eq_false_iff_ne] at h0; rw [bne_iff_ne]; omega
  cases h1 : (t.1 == 1) with
  | false =>
   have d1 : ((t.1 : Int) != 1) = true := by rw [beq_eq_false_iff_ne] at h1; rw [bne_iff_ne]; omega
   have HE : Hid (R = false) := by
    show _ = _; rw [HR.out, h0, h1]; rfl
   clear h0 h1; go_enter Tryz.func179, Tryz.ntmps179; go_wp2_with fail; go_ret; exact ⟨by rw [HE.out]; rfl, ab2 _ _ _⟩
  | true =>
   have d1 : ((t.1 : Int) != 1) = false := by rw [beq_iff_eq] at h1; rw [bne_eq_false_iff_eq]; omega
   have HE : Hid (R = (va && vb)) := by
    show _ = _; rw [HR.out, h0, h1]; rfl
   clear h0 h1; go_enter Tryz.func179, Tryz.ntmps179; go_wp2_with fail; refine Calls.mono HA.out ?_; rintro e w2 ⟨rfl, hb2⟩; have HW2 : Hid (Below w.heap.size w w2) := ab2l hb2; have u1 := (hb2.block w.heap.size (by simp; omega)).trans (blk_alloc _ (heap_alloc_new w _)); have u2 : w2.heap[w.heap.size + 1]? = some (.cells #[.int .i64 (t.1 : Nat), .int .i64 (t.2.length : Nat), .string (wd t 0), .string (wd t 1), .string (wd t 2), .string (wd t 3), .string (wd t 4), .string (wd t 5)] 69 (0, 0)) := by
    have := heap_alloc_new (w.alloc (.cells #[.int .i64 r.op, .int .i64 r.a.kd, .int .i64 r.a.no, .bool r.a.tr, .string r.a.tx, .int .i64 r.b.kd, .int .i64 r.b.no, .bool r.b.tr, .string r.b.tx] 285)) (.cells #[.int .i64 (t.1 : Nat), .int .i64 (t.2.length : Nat), .string (wd t 0), .string (wd t 1), .string (wd t 2), .string (wd t 3), .string (wd t 4), .string (wd t 5)] 69); rw [show (w.alloc (.cells #[.int .i64 r.op, .int .i64 r.a.kd, .int .i64 r.a.no, .bool r.a.tr, .string r.a.tx, .int .i64 r.b.kd, .int .i64 r.b.no, .bool r.b.tr, .string r.b.tx] 285)).heap.size = w.heap.size + 1 by simp] at this; exact (hb2.block (w.heap.size + 1) (by simp)).trans this
   obtain ⟨y0, y1, y2, y3, y4, y5, y6, y7⟩ := ty_cells u2; have q0 := bc 0 u1 rfl; have q1 := bc 1 u1 rfl; have q2 := bc 2 u1 rfl; have q3 := bc 3 u1 rfl; have q4 := bc 4 u1 rfl; have q5 := bc 5 u1 rfl; have q6 := bc 6 u1 rfl; have q7 := bc 7 u1 rfl; have q8 := bc 8 u1 rfl; clear hb2 u1 u2; cases va with
   | false =>
    go_wp2_with fail; go_ret; exact ⟨by rw [HE.out]; rfl, HW2.out⟩
   | true =>
    go_wp2_with fail; refine Calls.mono (HB.out w2) ?_; rintro e w3 ⟨rfl, hb3⟩; have HW3 : Hid (Below w.heap.size w w3) := HW2.out.trans (hb3.mono HW2.out.size); clear hb3; go_wp2_with fail; go_ret; exact ⟨by rw [HE.out]; rfl, HW3.out⟩
theorem test_fits {r : QR} {p : Wk.PTest} (h : r.ok p) (t : Wk.Ty) : ((r.op == 0 || t.1 == 1) && (vHolds t r.a && vHolds t r.b)) = Wk.testFits t p := by
 obtain ⟨h1, h2, h3, h4, h5⟩ := h; unfold Wk.testFits; rw [h1, vHolds_ok h2 h3]
 congr 2
 by_cases e : p.op = 3
 ·rw [vHolds_ok (h4 e).1 (h4 e).2, e]; rfl
 ·have : vHolds t r.b = true := by unfold vHolds; rw [if_pos (h5 e)]
  rw [this]; have : (p.op != 3) = true := by rw [bne_iff_ne]; exact e
  rw [this]; rfl
theorem kr_cells {w : World} {B g cap : Nat} {rs : List KR} (h : w.ownsRow B 264 2 (.slice (some ⟨g, 0, none⟩) rs.length cap) rs.length (KR.flat rs)) {k : Nat} {r : KR} (hk : rs[k]? = some r) : w.cell? ⟨g, k * 2, none⟩ = some (.bool r.no) ∧ w.cell? ⟨g, k * 2 + 1, none⟩ = some (.slice r.ad r.n r.cc) := by
 have hkl := (List.getElem?_eq_some_iff.1 hk).1; have key : ∀ i v, (KR.cells r)[i]? = some v → w.cell? ⟨g, k * 2 + i, none⟩ = some v := by
  intro i v hv; have hi : i < 2 := (List.getElem?_eq_some_iff.1 hv).1; rw [h.cellAt (k * 2 + i) (by omega)]; exact flat_at KR.cells 2 (fun _ => rfl) rs k _ hk i v hv
 exact ⟨key 0 _ rfl, key 1 _ rfl⟩
theorem qr_cells {w : World} {B g cap : Nat} {rs : List QR} (h : w.ownsRow B 285 9 (.slice (some ⟨g, 0, none⟩) rs.length cap) rs.length (QR.flat rs)) {k : Nat} {x : QR} (hk : rs[k]? = some x) : ∀ i v, (QR.cells x)[i]? = some v → w.cell? ⟨g, k * 9 + i, none⟩ = some v := by
 have hkl := (List.getElem?_eq_some_iff.1 hk).1; intro i v hv; have hi : i < 9 := (List.getElem?_eq_some_iff.1 hv).1; rw [h.cellAt (k * 9 + i) (by omega)]; exact flat_at QR.cells 9 (fun _ => rfl) rs k _ hk i v hv
theorem row_form {w : World} {B : Nat} {e : TypeId} {size n m c : Nat} {ad : Option Addr} {xs : List Value} (h : w.ownsRow B e size (.slice ad m c) n xs) : m = n ∧ (0 < n → ∃ g, ad = some ⟨g, 0, none⟩) ∧ n ≤ maxLen := by
 rcases h.2 with ⟨e1, h0⟩ | ⟨g, cap, cur, e1, -, -, e5, e6, -⟩
 ·injection e1 with a1 a2 a3; exact ⟨by omega, fun h => by omega, by rw [h0]; exact Nat.zero_le _⟩
 ·injection e1 with a1 a2 a3; exact ⟨a2, fun _ => ⟨g, a1⟩, Nat.le_trans e5 e6⟩
theorem p_cellsFit {ns : List Wk.Name} {w : World} {iv : Value} {irs : List IR} (hC : Cn ns w iv irs) {ad : Option Addr} {cc : Nat} {rs : List KR} {cs : List Wk.PCell} (hP : Pairs (KR.ok w) rs cs) (hrow : w.ownsRow 0 264 2 (.slice ad rs.length cc) rs.length (KR.flat rs)) (h3 : rs.length ≤ 3)
  {ad1 : Option Addr} {cc1 : Nat} {is : List Int} {cols : List (Wk.Name × Nat)} (hcr : w.ownsRow 0 3 1 (.slice ad1 is.length cc1) is.length (is.map (Value.int .i64))) (his : is = cols.map (fun y => Wk.idx y.1 ns)) (hkn : ∀ x ∈ cols, ns.contains x.1 = true) (hl : rs.length ≤ is.length) :
  Calls Tryz.prog 147 #[.agg #[iv], .slice ad rs.length cc, .slice ad1 is.length cc1] w fun e w' => e = .returned (.bool (Wk.cellsFit (envOf irs) cs cols)) ∧ Below w.heap.size w w' := by
 obtain ⟨R, hR⟩ : ∃ R, R = Wk.cellsFit (envOf irs) cs cols := ⟨_, rfl⟩
 rw [← hR]; have HR : Hid (R = Wk.cellsFit (envOf irs) (cs.drop 0) (cols.drop 0)) := hR; have HC : Hid (Cn ns w iv irs) := hC; have HP : Hid (Pairs (KR.ok w) rs cs) := hP; have HROW : Hid (w.ownsRow 0 264 2 (.slice ad rs.length cc) rs.length (KR.flat rs)) := hrow; have HCR : Hid (w.ownsRow 0 3 1 (.slice ad1 is.length cc1) is.length (is.map (Value.int .i64))) := hcr; have HIS : Hid _ := his; have HKN : Hid _ := hkn; have HLC : Hid (is.length = cols.length) := by show _ = _; rw [his, List.length_map]
 obtain ⟨gi, icap, hiv, hic, -⟩ := hC.items.ex; subst hiv; have hfew := hC.items.few; clear hC hP hrow hcr his hkn hR; go_enter Tryz.func147, Tryz.ntmps147; go_wp2_with fail; go_loopg [13] rs.length (fun gk s13 wr => ∃ k : Nat, k ≤ rs.length ∧ rs.length - k ≤ gk ∧ s13 = .int .i64 k ∧ Hid (Below (w.alloc (.cells #[.slice (some ⟨gi, 0, none⟩) irs.length icap] 150)).heap.size (w.alloc (.cells #[.slice (some ⟨gi, 0, none⟩) irs.length icap] 150)) wr) ∧ Hid (R = Wk.cellsFit (envOf irs) (cs.drop k) (cols.drop k)))
 case atStart => exact ⟨0, Nat.zero_le _, by omega, rfl, Below.refl _ _, HR⟩
 case round =>
  obtain ⟨k, hk, hg, rfl, HB, HRk⟩ := hrel; clear HR; have hbw : Below w.heap.size w wr := (ab1 _ _).trans (HB.out.mono (ab1 _ _).size); have HBW : Hid _ := hbw; by_cases hlt : k < rs.length
  ·have hltz : (k : Int) < (rs.length : Int) := by omega
   have hk0 : (0 : Int) ≤ (k : Int) := by omega
   have hki : (k : Int) < (is.length : Int) := by omega
   obtain ⟨gr, rfl⟩ := (row_form HROW.out).2.1 (by omega); obtain ⟨gc, rfl⟩ := (row_form HCR.out).2.1 (by omega); have hrk : rs[k]? = some (rs[k]'hlt) := List.getElem?_eq_getElem hlt; have hlc : k < cs.length := by have := HP.out.1; omega
   have hck : cs[k]? = some (cs[k]'hlc) := List.getElem?_eq_getElem hlc; have hlx : k < cols.length := by have := HLC.out; omega
   have hxk : cols[k]? = some (cols[k]'hlx) := List.getElem?_eq_getElem hlx; have hok := HP.out.2 k _ _ hrk hck; have hwl : rs.length ≤ 1000 := by omega
   obtain ⟨e0, e1⟩ := kr_cells (owns_below HROW.out hbw) hrk; obtain ⟨qs, hq1, hq2⟩ := hok.2; have hform := row_form hq2; have HQ2 : Hid (w.ownsRow 0 285 9 (.slice (rs[k]'hlt).ad (rs[k]'hlt).n (rs[k]'hlt).cc) qs.length (QR.flat qs)) := hq2; have HQ1 : Hid _ := hq1; have hic' := HKN.out _ (List.getElem_mem hlx); obtain ⟨ji, y, hji, hy, hty⟩ := Wk.idx_tyOf (E := envOf irs) (by rw [envOf_names]; exact HC.out.pre) hic'; obtain ⟨r, hr, hrt⟩ := env_at hy; have hjl : ji < irs.length := (List.getElem?_eq_some_iff.1 hr).1; have hcc : w.cell? ⟨gc, k, none⟩ = some (.int .i64 (ji : Nat)) := by
    have := HCR.out.cellAt k (by omega); rw [this, List.getElem?_map, HIS.out, List.getElem?_map, hxk]; show some (Value.int .i64 (Wk.idx (cols[k]'hlx).1 ns)) = _; rw [hji]
   obtain ⟨gi', icap', hiv', -, hgil, z0, z1, z2, z3, z4, z5, z6, z7⟩ := item_ty HC.out.items hr; injection hiv' with a1 _ a3; injection a1 with a1; injection a1 with a1; subst a1; subst a3; have hgcl := cell_lt hcc; have HTYW : Hid (TyW r.ty) := HC.out.items.tys r (List.mem_of_getElem? hr); have HRS : Hid (R = ((cs[k]'hlc).tests.all (Wk.testFits r.ty) && Wk.cellsFit (envOf irs) (cs.drop (k + 1)) (cols.drop (k + 1)))) := by
    show _ = _; rw [HRk.out, cellsFit_step (E := envOf irs) hck hxk, hty, hrt]
   have hj0 : (0 : Int) ≤ (ji : Int) := by omega
   have hj1 : (ji : Int) < (irs.length : Int) := by omega
   generalize r.ty = t at *
   generalize (rs[k]'hlt) = kr at *
   generalize (cs[k]'hlc).tests = ts at *
   obtain ⟨kno, kad, kn, kcc⟩ := kr; simp only [] at hform e1 HQ2; have hkn2 : kn = qs.length := hform.1; subst hkn2; have HFO : Hid _ := hform.2.1; have hmx : qs.length ≤ maxLen := hform.2.2; unfold maxLen at hmx; have hqe : qs.length = ts.length := HQ1.out.1; have hiw : wr.cell? ⟨w.heap.size, 0, none⟩ = some (.slice (some ⟨gi, 0, none⟩) irs.length icap) := blk_cell ((HB.out.block w.heap.size (by simp)).trans (heap_alloc_new w _)) rfl; have hiwl := cell_lt hiw; have HQE : Hid _ := hqe; have hqw : Below w.heap.size w wr := HBW.out; clear hform hqe hok hq1 hq2 hji hy hty hr hrt hck hxk hrk hic' hbw; obtain ⟨go, hgo⟩ : ∃ g : Nat, g = gk := ⟨_, rfl⟩
   subst hgo; obtain ⟨wo, hwo⟩ : ∃ W, W = wr := ⟨_, rfl⟩
   subst hwo; have HQW : Hid (Below w.heap.size w wo) := hqw; clear hqw; go_wp2_with fail; clear e0 e1 hiw; go_loopg [21] qs.length (fun g1 s21 wp => ∃ j : Nat, j ≤ qs.length ∧ qs.length - j ≤ g1 ∧ s21 = .int .i64 j ∧ Hid (Below wo.heap.size wo wp) ∧ Hid (R = ((ts.drop j).all (Wk.testFits t) && Wk.cellsFit (envOf irs) (cs.drop (k + 1)) (cols.drop (k + 1)))))
   case atStart => exact ⟨0, Nat.zero_le _, by omega, rfl, ab1 _ _, HRS⟩
   case round =>
    obtain ⟨j, hj, hgj, rfl, HBj, HRj⟩ := hrel; obtain ⟨wp, hwp⟩ : ∃ W, W = wr := ⟨_, rfl⟩
    subst hwp; clear HRS; have HWP : Hid (Below w.heap.size w wp) := HQW.out.trans (HBj.out.mono HQW.out.size); have HCP : Hid (Below (w.alloc (.cells #[.slice (some ⟨gi, 0, none⟩) irs.length icap] 150)).heap.size (w.alloc (.cells #[.slice (some ⟨gi, 0, none⟩) irs.length icap] 150)) wp) := HB.out.trans (HBj.out.mono HB.out.size); by_cases hjl2 : j < qs.length
    ·have hjz : (j : Int) < (qs.length : Int) := by omega
     have hjz0 : (0 : Int) ≤ (j : Int) := by omega
     obtain ⟨gq, rfl⟩ := HFO.out (by omega); have hqj : qs[j]? = some (qs[j]'hjl2) := List.getElem?_eq_getElem hjl2; have hjt : j < ts.length := by have := HQE.out; omega
     have htj : ts[j]? = some (ts[j]'hjt) := List.getElem?_eq_getElem hjt; have hxo := HQ1.out.2 j _ _ hqj htj; have HFT : Hid _ := test_fits hxo t; have HRJ : Hid (R = (Wk.testFits t (ts[j]'hjt) && ((ts.drop (j + 1)).all (Wk.testFits t) && Wk.cellsFit (envOf irs) (cs.drop (k + 1)) (cols.drop (k + 1))))) := by
      show _ = _; rw [HRj.out, List.drop_eq_getElem_cons hjt, List.all_cons, Bool.and_assoc]
     have qc := qr_cells (owns_below HQ2.out HWP.out) hqj; generalize hxx : (qs[j]'hjl2) = x at *
     have x0 := qc 0 _ rfl; have x1 := qc 1 _ rfl; have x2 := qc 2 _ rfl; have x3 := qc 3 _ rfl; have x4 := qc 4 _ rfl; have x5 := qc 5 _ rfl; have x6 := qc 6 _ rfl; have x7 := qc 7 _ rfl; have x8 := qc 8 _ rfl; rw [Nat.add_zero] at x0; have HTF : Hid _ := p_testFits x t HTYW.out (wp.alloc (.cells #[.int .i64 x.op, .int .i64 x.a.kd, .int .i64 x.a.no, .bool x.a.tr, .string x.a.tx, .int .i64 x.b.kd, .int .i64 x.b.no, .bool x.b.tr, .string x.b.tx] 285)).drew; rw [HFT.out] at HTF; generalize Wk.testFits t (ts[j]'hjt) = tf at *
     have HS : Hid (∀ W, Below (wp.alloc (.cells #[.int .i64 x.op, .int .i64 x.a.kd, .int .i64 x.a.no, .bool x.a.tr, .string x.a.tx, .int .i64 x.b.kd, .int .i64 x.b.no, .bool x.b.tr, .string x.b.tx] 285)).heap.size (wp.alloc (.cells #[.int .i64 x.op, .int .i64 x.a.kd, .int .i64 x.a.no, .bool x.a.tr, .string x.a.tx, .int .i64 x.b.kd, .int .i64 x.b.no, .bool x.b.tr, .string x.b.tx] 285)) W → W.cell? ⟨w.heap.size, 0, none⟩ = some (.slice (some ⟨gi, 0, none⟩) irs.length icap) ∧ W.cell? ⟨gc, k, none⟩ = some (.int .i64 (ji : Nat)) ∧ W.cell? ⟨wp.heap.size, 0, none⟩ = some (.int .i64 x.op) ∧ W.cell? ⟨wp.heap.size, 1, none⟩ = some (.int .i64 x.a.kd) ∧ W.cell? ⟨wp.heap.size, 2, none⟩ = some (.int .i64 x.a.no) ∧ W.cell? ⟨wp.heap.size, 3, none⟩ = some (.bool x.a.tr) ∧ W.cell? ⟨wp.heap.size, 4, none⟩ = some (.string x.a.tx) ∧ W.cell? ⟨wp.heap.size, 5, none⟩ = some (.int .i64 x.b.kd) ∧ W.cell? ⟨wp.heap.size, 6, none⟩ = some (.int .i64 x.b.no) ∧ W.cell? ⟨wp.heap.size, 7, none⟩ = some (.bool x.b.tr) ∧ W.cell? ⟨wp.heap.size, 8, none⟩ = some (.string x.b.tx) ∧ W.cell? ⟨gi, ji * 15 + 2, none⟩ = some (.int .i64 (t.1 : Nat)) ∧ W.cell? ⟨gi, ji * 15 + 3, none⟩ = some (.int .i64 (t.2.length : Nat)) ∧ W.cell? ⟨gi, ji * 15 + 4, none⟩ = some (.string (wd t 0)) ∧ W.cell? ⟨gi, ji * 15 + 5, none⟩ = some (.string (wd t 1)) ∧ W.cell? ⟨gi, ji * 15 + 6, none⟩ = some (.string (wd t 2)) ∧ W.cell? ⟨gi, ji * 15 + 7, none⟩ = some (.string (wd t 3)) ∧ W.cell? ⟨gi, ji * 15 + 8, none⟩ = some (.string (wd t 4)) ∧ W.cell? ⟨gi, ji * 15 + 9, none⟩ = some (.string (wd t 5))) := by
      intro W hW; have hb0 : Below w.heap.size w W := HWP.out.trans (((ab1 _ _).trans (hW.mono (ab1 _ _).size)).mono HWP.out.size); have hbc := HCP.out.trans (((ab1 wp (.cells #[.int .i64 x.op, .int .i64 x.a.kd, .int .i64 x.a.no, .bool x.a.tr, .string x.a.tx, .int .i64 x.b.kd, .int .i64 x.b.no, .bool x.b.tr, .string x.b.tx] 285)).trans (hW.mono (ab1 _ _).size)).mono HCP.out.size); have u := (hW.block wp.heap.size (by simp)).trans (heap_alloc_new wp _); refine ⟨blk_cell ((hbc.block w.heap.size (by simp)).trans (heap_alloc_new w _)) rfl, (hb0.cell (p := ⟨gc, k, none⟩) hgcl).trans hcc, blk_cell u rfl, blk_cell u rfl, blk_cell u rfl, blk_cell u rfl, blk_cell u rfl, blk_cell u rfl, blk_cell u rfl, blk_cell u rfl, blk_cell u rfl, ?_, ?_, ?_, ?_, ?_, ?_, ?_, ?_⟩
      ·exact (hb0.cell (p := ⟨gi, ji * 15 + 2, none⟩) hgil).trans z0
      ·exact (hb0.cell (p := ⟨gi, ji * 15 + 3, none⟩) hgil).trans z1
      ·exact (hb0.cell (p := ⟨gi, ji * 15 + 4, none⟩) hgil).trans z2
      ·exact (hb0.cell (p := ⟨gi, ji * 15 + 5, none⟩) hgil).trans z3
      ·exact (hb0.cell (p := ⟨gi, ji * 15 + 6, none⟩) hgil).trans z4
      ·exact (hb0.cell (p := ⟨gi, ji * 15 + 7, none⟩) hgil).trans z5
      ·exact (hb0.cell (p := ⟨gi, ji * 15 + 8, none⟩) hgil).trans z6
      ·exact (hb0.cell (p := ⟨gi, ji * 15 + 9, none⟩) hgil).trans z7
     have HX : Hid _ := HS.out (wp.alloc (.cells #[.int .i64 x.op, .int .i64 x.a.kd, .int .i64 x.a.no, .bool x.a.tr, .string x.a.tx, .int .i64 x.b.kd, .int .i64 x.b.no, .bool x.b.tr, .string x.b.tx] 285)).drew (Below.refl _ _).drew; clear qc hxx hxo hqj htj HFT hcc z0 z1 z2 z3 z4 z5 z6 z7; unfold tyV at HTF; go_wp2_with fail; clear x0 x1 x2 x3 x4 x5 x6 x7 x8; go_upto_region 7 with fail; refine wp_region_ph (fun W => W.cell? ⟨w.heap.size, 0, none⟩ = some (.slice (some ⟨gi, 0, none⟩) irs.length icap) ∧ W.cell? ⟨gc, k, none⟩ = some (.int .i64 (ji : Nat)) ∧ W.cell? ⟨wp.heap.size, 0, none⟩ = some (.int .i64 x.op) ∧ W.cell? ⟨wp.heap.size, 1, none⟩ = some (.int .i64 x.a.kd) ∧ W.cell? ⟨wp.heap.size, 2, none⟩ = some (.int .i64 x.a.no) ∧ W.cell? ⟨wp.heap.size, 3, none⟩ = some (.bool x.a.tr) ∧ W.cell? ⟨wp.heap.size, 4, none⟩ = some (.string x.a.tx) ∧ W.cell? ⟨wp.heap.size, 5, none⟩ = some (.int .i64 x.b.kd) ∧ W.cell? ⟨wp.heap.size, 6, none⟩ = some (.int .i64 x.b.no) ∧ W.cell? ⟨wp.heap.size, 7, none⟩ = some (.bool x.b.tr) ∧ W.cell? ⟨wp.heap.size, 8, none⟩ = some (.string x.b.tx) ∧ W.cell? ⟨gi, ji * 15 + 2, none⟩ = some (.int .i64 (t.1 : Nat)) ∧ W.cell? ⟨gi, ji * 15 + 3, none⟩ = some (.int .i64 (t.2.length : Nat)) ∧ W.cell? ⟨gi, ji * 15 + 4, none⟩ = some (.string (wd t 0)) ∧ W.cell? ⟨gi, ji * 15 + 5, none⟩ = some (.string (wd t 1)) ∧ W.cell? ⟨gi, ji * 15 + 6, none⟩ = some (.string (wd t 2)) ∧ W.cell? ⟨gi, ji * 15 + 7, none⟩ = some (.string (wd t 3)) ∧ W.cell? ⟨gi, ji * 15 + 8, none⟩ = some (.string (wd t 4)) ∧ W.cell? ⟨gi, ji * 15 + 9, none⟩ = some (.string (wd t 5))) 12 12 rfl (by kernel_rfl) HX.out (fun hHeld => ?_); clear hHeld; refine PhS.t 0 25 HX.out ?_; refine PhS.t 1 26 HX.out ?_; refine PhS.t 2 27 HX.out ?_; refine PhS.t 3 28 HX.out ?_; refine PhS.t 4 29 HX.out ?_; refine PhS.t 5 30 HX.out ?_; refine PhS.t 6 31 HX.out ?_; refine PhS.t 7 32 HX.out ?_; refine PhS.t 8 33 HX.out ?_; refine PhS.t 9 34 HX.out ?_; refine PhS.on 10 (fun K hK => ?_); go_simp; refine Calls.mono HTF.out ?_; rintro e w9 ⟨rfl, hb9⟩; have hb9 : Below (wp.alloc (.cells #[.int .i64 x.op, .int .i64 x.a.kd, .int .i64 x.a.no, .bool x.a.tr, .string x.a.tx, .int .i64 x.b.kd, .int .i64 x.b.no, .bool x.b.tr, .string x.b.tx] 285)).heap.size (wp.alloc (.cells #[.int .i64 x.op, .int .i64 x.a.kd, .int .i64 x.a.no, .bool x.a.tr, .string x.a.tx, .int .i64 x.b.kd, .int .i64 x.b.no, .bool x.b.tr, .string x.b.tx] 285)) w9 := ⟨hb9.os, hb9.tape, hb9.output, hb9.size, hb9.block⟩
     have HX9 : Hid _ := HS.out w9 hb9; have HB9 : Hid (Below wo.heap.size wo w9) := HBj.out.trans (((ab1 wp _).trans (hb9.mono (ab1 _ _).size)).mono HBj.out.size); refine hK.out _ _ (fun _ => HX9.out) ?_; clear hK K hb9; try simp only [Act.put, sA, sZ, sS]
     refine PhS.t 11 36 HX9.out ?_; refine PhS.done (by kernel_rfl) ?_ _; cases tf with
     | false =>
      have HE : Hid (R = false) := by
       show _ = _; rw [HRJ.out]; rfl
      go_wp2_with fail; go_ret; exact ⟨by rw [HE.out]; rfl, HQW.out.trans (HB9.out.mono HQW.out.size)⟩
     | true =>
      go_wp2_with fail; go_roundg (qs.length - (j + 1)); case measure => omega
      case rel => exact ⟨j + 1, by omega, by omega, by go_num, HB9, HRJ⟩
    ·have hjz : ¬ (j : Int) < (qs.length : Int) := by omega
     have HE : Hid (R = Wk.cellsFit (envOf irs) (cs.drop (k + 1)) (cols.drop (k + 1))) := by
      show _ = _; have hqt : qs.length = ts.length := HQE.out; rw [HRj.out, List.drop_eq_nil_of_le (by omega)]; rfl
     go_wp2_with fail; go_roundg (rs.length - (k + 1)); case measure => omega
     case rel => exact ⟨k + 1, by omega, by omega, by go_num, HCP, HE⟩
  ·have hltz : ¬ (k : Int) < (rs.length : Int) := by omega
   have HE : Hid (R = true) := by
    show _ = _; rw [HRk.out, List.drop_eq_nil_of_le (by have := HP.out.1; omega)]; unfold Wk.cellsFit; rfl
   go_wp2_with fail; go_ret; exact ⟨by rw [HE.out]; rfl, HBW.out⟩
end Go.Proofs.YtbkaghlklkdmkaaGreatDoor
