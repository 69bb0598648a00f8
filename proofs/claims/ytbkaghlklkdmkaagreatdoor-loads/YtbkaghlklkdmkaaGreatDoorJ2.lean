import Derived.Test.YtbkaghlklkdmkaaGreatDoorJ1
import Derived.Lib.TrimByte
namespace Go.Proofs.YtbkaghlklkdmkaaGreatDoor
open Go.RowKit
attribute [local go_sem ↓] Go.wp_at_zero Go.wp_at_succ
def itemsOK (T : List Wk.Tok) (b tg tc B : Nat) (iv : Value) (w : World) (irs : List IR) (l : List Wk.PItem) : Prop :=
 ∀ (j : Nat) (it : Wk.PItem), l[j]? = some it → ∃ r, irs[j]? = some r ∧ bodyOK ⟨T, b, tg, tc, B, iv, irs.take j⟩ w r it ∧ tokOK ⟨T, b, tg, tc, B, iv, irs.take j⟩ r it
structure MP (T : List Wk.Tok) (b tg tc B : Nat) (wS w : World) (q : Wk.St) (l : List Wk.PItem) (iv : Value) (irs : List IR) : Prop where
 inn : PI ⟨T, b, tg, tc, B, iv, irs⟩ w w q 0 (Wk.itemsStray [] l)
 bel : Below B wS w
 len : irs.length = l.length
 tys : ∀ r ∈ irs, TyW r.ty
 ok : q.bad = none → itemsOK T b tg tc B iv w irs l
 low : tg < B
theorem bodyOK.ns {c c' : Cx} {w : World} {r : IR} {it : Wk.PItem} (h : bodyOK c w r it) (e : c.ns = c'.ns) : bodyOK c' w r it := by
 refine ⟨h.kd, h.nm, h.ty, ?_, ?_, h.one⟩
 ·rw [← e]; exact h.ex
 ·unfold tabIn; rw [← e]; exact h.tb
theorem names_eq {T : List Wk.Tok} {b tg tc B : Nat} {iv : Value} {w : World} {irs : List IR} {l : List Wk.PItem} (hl : irs.length = l.length) (h : itemsOK T b tg tc B iv w irs l) : irNames irs = l.map (·.name) := by
 apply List.ext_getElem?; intro j; unfold irNames; rw [List.getElem?_map, List.getElem?_map]; cases hj : l[j]? with
 | none =>
  have : irs[j]? = none := by
   rw [List.getElem?_eq_none_iff] at hj ⊢; omega
  rw [this]; rfl
 | some it =>
  obtain ⟨r, h1, h2, -⟩ := h j it hj; rw [h1]; show some r.nm.data.toList = some it.name; rw [h2.nm]
theorem MP.item {T : List Wk.Tok} {b tg tc B : Nat} {wS w w' : World} {q : Wk.St} {l : List Wk.PItem} {iv : Value} {irs : List IR} (h : MP T b tg tc B wS w q l iv irs) (he : itemEndP ⟨T, b, tg, tc, B, iv, irs⟩ w w' q (Wk.itemsStray [] l)) :
  ∃ iv' irs', MP T b tg tc B wS w' (Wk.pItem T q).1 (l ++ [(Wk.pItem T q).2]) iv' irs' := by
 obtain ⟨r, iv', hI, hB, hK, hT, hok⟩ := he; have hI : PI ⟨T, b, tg, tc, B, iv', irs ++ [r]⟩ w' w' (Wk.pItem T q).1 0 _ := hI; refine ⟨iv', irs ++ [r], ⟨?_, h.bel.trans hB, by simp [h.len], fun x hx => ?_, fun hb => ?_, h.low⟩⟩
 ·by_cases hb : (Wk.pItem T q).1.bad = none
  ·have hq := (Wk.lt_item h.inn.toks.shut q hb).1; rw [Wk.itemsStray_snoc, List.nil_append, ← names_eq h.len (h.ok hq)]; exact hI
  ·exact hI.any hb _
 ·rcases List.mem_append.1 hx with e | e
  ·exact h.tys x e
  ·rw [List.mem_singleton.1 e]; exact hT
 ·have hq := (Wk.lt_item h.inn.toks.shut q hb).1; intro j it hj; rcases Nat.lt_or_ge j l.length with hlt | hge
  ·rw [List.getElem?_append_left hlt] at hj; obtain ⟨r1, a1, a2, a3⟩ := h.ok hq j it hj; have hlt2 : j < irs.length := by rw [h.len]; exact hlt
   refine ⟨r1, by rw [List.getElem?_append_left hlt2]; exact a1, (a2.keep hK).ns ?_, a3⟩; show irNames (irs.take j) = irNames ((irs ++ [r]).take j); rw [List.take_append_of_le_length (by omega)]
  ·rw [List.getElem?_append_right hge] at hj; have hj0 : j = l.length := by
    have := (List.getElem?_eq_some_iff.1 hj).1; simp at this; omega
   subst hj0; rw [Nat.sub_self] at hj; have e : (Wk.pItem T q).2 = it := by simpa using hj
   subst e; refine ⟨r, by rw [List.getElem?_append_right (by rw [h.len]; exact Nat.le_refl _), h.len, Nat.sub_self]; rfl, (hok hb).1.ns ?_, (hok hb).2⟩; show irNames irs = irNames ((irs ++ [r]).take l.length); rw [← h.len, List.take_left]
theorem MP.drew {T : List Wk.Tok} {b tg tc B : Nat} {wS w : World} {q : Wk.St} {l : List Wk.PItem} {iv : Value} {irs : List IR} (h : MP T b tg tc B wS w q l iv irs) : MP T b tg tc B wS w.drew q l iv irs := by
 refine ⟨h.inn.drew.self, h.bel.drew, h.len, h.tys, fun e j it hj => ?_, h.low⟩; obtain ⟨r, a1, a2, a3⟩ := h.ok e j it hj; exact ⟨r, a1, a2.keep (KeepS.below (Below.refl _ _).drew _), a3⟩
def modelEnd (T : List Wk.Tok) (b tg tc B : Nat) (wS w' : World) (r : Wk.St × List Wk.PItem) : Prop := ∃ iv irs, MP T b tg tc B wS w' r.1 r.2 iv irs
theorem MP.fail {T : List Wk.Tok} {b tg tc B : Nat} {wS w w' : World} {q : Wk.St} {l : List Wk.PItem} {iv : Value} {irs : List IR} (h : MP T b tg tc B wS w q l iv irs) {o : Option Nat} (hI : PI ⟨T, b, tg, tc, B, iv, irs⟩ w w' (q.fail T) 0 o) : MP T b tg tc B wS w' (q.fail T) l iv irs := by
 refine ⟨hI.self.any pfail_some _, h.bel.trans (hI.fr.below (by have h1 := h.inn.blt; have h2 := h.inn.low; show B ≤ _; simp only [] at h1 h2; omega) (fun k hk e => ?_)), h.len, h.tys, fun e => absurd e pfail_some, h.low⟩; have h2 := h.inn.low; simp only [] at h2 e; omega
theorem MP.failc {T : List Wk.Tok} {b tg tc B : Nat} {wS w : World} {q : Wk.St} {l : List Wk.PItem} {iv : Value} {irs : List IR} (h : MP T b tg tc B wS w q l iv irs) : w.cell? ⟨b, 4, none⟩ = some (.bool q.bad.isSome) := by
 obtain ⟨ms, ma, hP, -⟩ := h.inn.pp; exact blk_cell (o := 4) hP.box rfl
theorem isK0 {T : List Wk.Tok} {q : Wk.St} (h : q.bad = none) : (((Wk.tokK T (ppAt T q)).kind : Int) != 0) = !(q.isK T 0) := by
 rw [ppAt_ok h]; unfold Wk.St.isK; rw [h]; show _ = !(true && _); rw [Bool.true_and, Bool.eq_iff_iff]; simp
set_option maxRecDepth 100000 in
set_option maxHeartbeats 2000000 in
theorem j_model {T : List Wk.Tok} {b tg tc B : Nat} (hTP : TP T) {wS w : World} {iv : Value} {irs : List IR} (h : MP T b tg tc B wS w ⟨0, none⟩ [] iv irs) :
  Calls Tryz.prog 64 #[nptr b] w fun e w' => e = .returned (.tuple #[]) ∧ modelEnd T b tg tc B wS w' (Wk.pModel T) := by
 have HTP : Hid _ := hTP; have HH : Hid (MP T b tg tc B wS w ⟨0, none⟩ [] iv irs) := h; obtain ⟨FIN, hF⟩ : ∃ F, F = Wk.pModel T := ⟨_, rfl⟩
 rw [← hF]; have HF : Hid (Wk.pItems T 19 (Wk.pItem T ⟨0, none⟩).1 ([] ++ [(Wk.pItem T ⟨0, none⟩).2]) = FIN) := hF.symm; have h0 : irs.length < 20 := by rw [h.len]; decide
 clear h hTP hF; go_enter Tryz.func64, Tryz.ntmps64; go_wp2_with fail; refine (j_item (c := ⟨T, b, tg, tc, B, iv, irs⟩) HTP.out HH.out.inn HH.out.low h0).mono ?_; rintro e w1 ⟨rfl, hE⟩; obtain ⟨iv1, irs1, hM1⟩ := HH.out.item hE; have HM1 : Hid _ := hM1; clear hE hM1; go_wp2_with fail; go_loopg [2] 20 (fun gg s2 wr => ∃ (k : Nat) (q : Wk.St) (l : List Wk.PItem) (iv : Value) (irs : List IR), 1 ≤ k ∧ k ≤ 20 ∧ 20 - k ≤ gg ∧ s2 = .int .i64 k ∧ Hid (l.length = k) ∧ Hid (MP T b tg tc B wS wr q l iv irs) ∧ Hid (Wk.pItems T (20 - k) q l = FIN))
 case atStart => exact ⟨1, _, _, iv1, irs1, by omega, by omega, by omega, rfl, (by show _ = _; rfl), HM1, HF⟩
 case round =>
  obtain ⟨k, q, l, iv2, irs2, hk1, hk2, hg, rfl, HL, HM, HFr⟩ := hrel; clear HM1 HF; have c4 := HM.out.failc; obtain ⟨nk, hnk⟩ : ∃ nk : Int, nk = ((Wk.tokK T (ppAt T q)).kind : Int) := ⟨_, rfl⟩
  have HNX : Hid (∀ W, MP T b tg tc B wS W q l iv2 irs2 → Calls Tryz.prog 108 #[nptr b] W fun e w' => e = .returned (.int .i64 nk) ∧ w' = W.drew) := fun W hW => by
   rw [hnk]; exact j_next hW.inn
  have HZ0 : Hid (q.bad = none → (nk != 0) = !(q.isK T 0)) := fun e => by rw [hnk]; exact isK0 e
  clear hnk; by_cases hlt : k < 20
  ·have hltz : (k : Int) < 20 := by omega
   cases hb : q.bad with
   | some p =>
    have HE : Hid (FIN = (q, l)) := by
     show _ = _; rw [← HFr.out, show 20 - k = (20 - k - 1) + 1 by omega, Wk.pItems, hb]; rfl
    have HBN : Hid (q.bad.isSome = true) := by show _ = _; rw [hb]; rfl
    rw [hb] at c4; have c4 : wr.cell? ⟨b, 4, none⟩ = some (.bool true) := c4; clear hb; go_wp2_with fail; refine (HNX.out _ HM.out).mono ?_; rintro e w2 ⟨rfl, rfl⟩; cases hz : (nk != 0) with
    | false =>
     go_wp2_with fail; go_end0
     exact ⟨rfl, iv2, irs2, by rw [HE.out]; exact HM.out.drew⟩
    | true =>
     go_wp2_with fail; refine (j_fail HM.out.drew.inn none).mono ?_; rintro e w3 ⟨rfl, hI⟩; have HM3 : Hid _ := HM.out.drew.fail hI; clear hI; go_wp2_with fail; go_end0
     refine ⟨rfl, iv2, irs2, ?_⟩; rw [HE.out]; have := HM3.out; rw [Wk.fail_bad T HBN.out] at this; exact this
   | none =>
    rw [hb] at c4; have c4 : wr.cell? ⟨b, 4, none⟩ = some (.bool false) := c4; have HZ : Hid _ := HZ0.out hb; have HBN : Hid _ := hb; cases hK : q.isK T 0 with
    | true =>
     have HE : Hid (FIN = (q, l)) := by
      show _ = _; rw [← HFr.out, show 20 - k = (20 - k - 1) + 1 by omega, Wk.pItems, hb, hK]; rfl
     rw [hK] at HZ; clear hb hK; go_wp2_with fail; refine (HNX.out _ HM.out).mono ?_; rintro e w2 ⟨rfl, rfl⟩; have hz : (nk != 0) = false := HZ.out; go_wp2_with fail; refine (HNX.out _ HM.out.drew).mono ?_; rintro e w3 ⟨rfl, rfl⟩; go_wp2_with fail; go_end0
     exact ⟨rfl, iv2, irs2, by rw [HE.out]; exact HM.out.drew.drew⟩
    | false =>
     have HE : Hid (Wk.pItems T (20 - (k + 1)) (Wk.pItem T q).1 (l ++ [(Wk.pItem T q).2]) = FIN) := by
      show _ = _; rw [← HFr.out, show 20 - k = (20 - (k + 1)) + 1 by omega, Wk.pItems, hb, hK]; rfl
     rw [hK] at HZ; clear hb hK; go_wp2_with fail; refine (HNX.out _ HM.out).mono ?_; rintro e w2 ⟨rfl, rfl⟩; have hz : (nk != 0) = true := HZ.out; have h20 : irs2.length < 20 := by have h1 := HM.out.len; have h2 := HL.out; omega
     go_wp2_with fail; refine (j_item (c := ⟨T, b, tg, tc, B, iv2, irs2⟩) HTP.out HM.out.drew.inn HM.out.low h20).mono ?_; rintro e w3 ⟨rfl, hE3⟩; obtain ⟨iv3, irs3, hM3⟩ := HM.out.drew.item hE3; have HM3 : Hid _ := hM3; have HL3 : Hid ((l ++ [(Wk.pItem T q).2]).length = k + 1) := by
      show _ = _; rw [List.length_append, HL.out]; rfl
     clear hE3 hM3; go_wp2_with fail; go_roundg (20 - (k + 1)); case measure => omega
     case rel => exact ⟨k + 1, _, _, iv3, irs3, by omega, by omega, by omega, by go_num, HL3, HM3, HE⟩
  ·have hltz : ¬ (k : Int) < 20 := by omega
   have HE : Hid (FIN = (if q.isK T 0 then q else q.fail T, l)) := by
    show _ = _; rw [← HFr.out, show 20 - k = 0 by omega]; rfl
   go_wp2_with fail; refine (HNX.out _ HM.out).mono ?_; rintro e w2 ⟨rfl, rfl⟩; by_cases hb : q.bad = none
   ·have HZ : Hid _ := HZ0.out hb; cases hK : q.isK T 0 with
    | true =>
     rw [hK] at HZ; have HE2 : Hid (FIN = (q, l)) := by
      show _ = _; rw [HE.out, hK]; rfl
     clear hb hK; have hz : (nk != 0) = false := HZ.out; go_wp2_with fail; go_end0
     exact ⟨rfl, iv2, irs2, by rw [HE2.out]; exact HM.out.drew⟩
    | false =>
     rw [hK] at HZ; have HE2 : Hid (FIN = (q.fail T, l)) := by
      show _ = _; rw [HE.out, hK]; rfl
     clear hb hK; have hz : (nk != 0) = true := HZ.out; go_wp2_with fail; refine (j_fail HM.out.drew.inn none).mono ?_; rintro e w3 ⟨rfl, hI⟩; have HM3 : Hid _ := HM.out.drew.fail hI; clear hI; go_wp2_with fail; go_end0
     exact ⟨rfl, iv2, irs2, by rw [HE2.out]; exact HM3.out⟩
   ·have hs : q.bad.isSome = true := by cases hx : q.bad with
     | none => exact absurd hx hb
     | some p => rfl
    have HE2 : Hid (FIN = (q, l)) := by
     show _ = _; rw [HE.out, Wk.isK_bad T hs, Wk.fail_bad T hs]; rfl
    have HBN : Hid _ := hs; clear hb hs; cases hz : (nk != 0) with
    | false =>
     go_wp2_with fail; go_end0
     exact ⟨rfl, iv2, irs2, by rw [HE2.out]; exact HM.out.drew⟩
    | true =>
     go_wp2_with fail; refine (j_fail HM.out.drew.inn none).mono ?_; rintro e w3 ⟨rfl, hI⟩; have HM3 : Hid _ := HM.out.drew.fail hI; clear hI; go_wp2_with fail; go_end0
     refine ⟨rfl, iv2, irs2, ?_⟩; rw [HE2.out]; have := HM3.out; rw [Wk.fail_bad T HBN.out] at this; exact this
end Go.Proofs.YtbkaghlklkdmkaaGreatDoor
namespace Go.Proofs.YtbkaghlklkdmkaaGreatDoor
theorem decodeN_tail (n b0 b1 b2 b3 : Nat) (_l0 : b0 < 256) (_l1 : b1 < 256) (_l2 : b2 < 256) (_l3 : b3 < 256) :
  ((Lib.decodeN n b0 b1 b2 b3).2 = 1) ∨ ((Lib.decodeN n b0 b1 b2 b3).2 = 0) ∨ ((Lib.decodeN n b0 b1 b2 b3).2 = 2 ∧ 128 ≤ b1) ∨ ((Lib.decodeN n b0 b1 b2 b3).2 = 3 ∧ 128 ≤ b2) ∨ ((Lib.decodeN n b0 b1 b2 b3).2 = 4 ∧ 128 ≤ b3) := by
 unfold Lib.decodeN; repeat' split
 all_goals first | (left; rfl) | (right; left; rfl) | (right; right; left; exact ⟨rfl, by omega⟩) | (right; right; right; left; exact ⟨rfl, by omega⟩) | (right; right; right; right; exact ⟨rfl, by omega⟩)
theorem get!_nat (s : ByteArray) {k : Nat} (h : k < s.size) : (s.get! k) = s[k]'h := by
 have : s.get! k = s.data[k]! := rfl; rw [this]; exact getElem!_pos s.data k h
theorem decode_last (s : ByteArray) (k : Nat) (hk : k < s.size) (h34 : (s[k]'hk).toNat ≠ 34) (hl : k + (Utf8.decode s k).2 - 1 < s.size) : (s[k + (Utf8.decode s k).2 - 1]'hl).toNat ≠ 34 := by
 have hd := Lib.decode_at s k; have ht := decodeN_tail (s.size - k) (s.get! k).toNat (s.get! (k + 1)).toNat (s.get! (k + 2)).toNat (s.get! (k + 3)).toNat (UInt8.toNat_lt _) (UInt8.toNat_lt _) (UInt8.toNat_lt _) (UInt8.toNat_lt _); rw [← hd] at ht; have hp := Wk.decode_pos s k hk; have key : ∀ d, (Utf8.decode s k).2 = d + 1 → ∀ (h' : k + d < s.size), 128 ≤ (s.get! (k + d)).toNat → (s[k + (Utf8.decode s k).2 - 1]'hl).toNat ≠ 34 := by
  intro d e h' h128; have e1 : s[k + (Utf8.decode s k).2 - 1]'hl = s[k + d]'h' := by congr 1; omega
  rw [e1, ← get!_nat s h']; omega
 rcases ht with e | e | ⟨e, h1⟩ | ⟨e, h1⟩ | ⟨e, h1⟩
 ·have e1 : s[k + (Utf8.decode s k).2 - 1]'hl = s[k]'hk := by congr 1; omega
  rw [e1]; exact h34
 ·omega
 ·exact key 1 e (by omega) h1
 ·exact key 2 e (by omega) h1
 ·exact key 3 e (by omega) h1
theorem wordTo_prev (s : ByteArray) : ∀ f k n r, Wk.wordTo s f k n = some r → k + 1 < r → ∃ h : r - 2 < s.size, (s[r - 2]'h).toNat ≠ 34 := by
 intro f; induction f with
 | zero => intro k n r h; cases h
 | succ f ih =>
  intro k n r h hlt; unfold Wk.wordTo at h; split at h
  ·rename_i hk; split at h
   ·split at h
    ·cases h
    ·cases h; omega
   ·rename_i h34; split at h
    ·cases h
    ·have hg := Wk.wordTo_gt s _ _ _ _ h; by_cases hc : k + (Utf8.decode s k).2 + 1 < r
     ·exact ih _ _ _ h hc
     ·have e : r - 2 = k + (Utf8.decode s k).2 - 1 := by omega
      have hl : k + (Utf8.decode s k).2 - 1 < s.size := by omega
      refine ⟨by rw [e]; exact hl, ?_⟩; have := decode_last s k hk h34 hl; have e2 : s[r - 2]'(by rw [e]; exact hl) = s[k + (Utf8.decode s k).2 - 1]'hl := by congr 1
      rw [e2]; exact this
  ·cases h
theorem trim_quo (m : List UInt8) (h1 : ∀ x, m.head? = some x → x ≠ 34) (h2 : ∀ x, m.getLast? = some x → x ≠ 34) : Lib.trimB (34 :: (m ++ [34])) 34 = m := by
 unfold Lib.trimB Lib.trimLeftB Lib.trimRightB; have hr : (34 :: (m ++ [34]) : List UInt8).reverse = 34 :: (m.reverse ++ [34]) := by simp
 rw [hr, List.dropWhile_cons_of_pos (by simp)]; cases m with
 | nil => rfl
 | cons a m =>
  have hlast : (a :: m).reverse ≠ [] := by simp
  obtain ⟨b, l, hb⟩ : ∃ b l, (a :: m).reverse = b :: l := by
   cases hc : (a :: m).reverse with
   | nil => exact absurd hc hlast
   | cons b l => exact ⟨b, l, rfl⟩
  have hbn : b ≠ 34 := by
   apply h2 b; rw [← List.head?_reverse, hb]; rfl
  rw [hb, List.cons_append, List.dropWhile_cons_of_neg (by simpa using hbn), ← List.cons_append, ← hb]; rw [List.reverse_append, List.reverse_reverse]; show List.dropWhile _ (34 :: (a :: m)) = _; rw [List.dropWhile_cons_of_pos (by simp), List.dropWhile_cons_of_neg (by simpa using h1 a rfl)]
theorem unq_quo {t : ByteArray} {m : List UInt8} (h : t.data.toList = 34 :: (m ++ [34])) : Wk.unq t = m := by
 unfold Wk.unq; rw [h]; simp
def TrimOK (s : ByteArray) (t : Wk.Tok) : Prop := (t.kind = 5 → Lib.trimB t.text.data.toList 34 = Wk.unq t.text) ∧ t.text.size ≤ s.size
theorem extract_size (s : ByteArray) (i k : Nat) : (s.extract i k).size ≤ s.size := by
 rw [ByteArray.size_extract]; omega
theorem mkTok_trim {s : ByteArray} {kd i k : Nat} (h : kd = 5 → Lib.trimB (s.extract i k).data.toList 34 = Wk.unq (s.extract i k)) : TrimOK s (Wk.mkTok s kd i k) := by
 unfold TrimOK Wk.mkTok; refine ⟨fun e => ?_, ?_⟩
 ·have e' : kd = 5 := e; subst e'; exact h rfl
 ·by_cases h1 : kd = 1
  ·simp only [h1, if_true]; exact Nat.zero_le _
  ·simp only [h1, if_false]; exact extract_size s i k
theorem kind_ne5 {l : List UInt8} : Wk.spelt l ≠ 5 := by
 by_cases h : Wk.spelt l = 1
 ·omega
 ·have := (spelt_spec h).1; omega
theorem tokAt_trim (s : ByteArray) (i : Nat) : TrimOK s (Wk.tokAt s i) := by
 unfold Wk.tokAt; split
 ·rename_i h; split
  ·refine mkTok_trim (fun e => ?_); exfalso; unfold Wk.letterKind at e; split at e
   ·omega
   ·split at e
    ·omega
    ·exact kind_ne5 e
  ·split
   ·refine mkTok_trim (fun e => ?_); exfalso; unfold Wk.digitKind at e; repeat' split at e
    all_goals omega
   ·split
    ·rename_i h34; split
     ·rename_i k hk; refine mkTok_trim (fun _ => ?_); obtain ⟨g1, g2⟩ := Wk.wordTo_gt s _ _ _ _ hk; obtain ⟨g3, g4⟩ := wordTo_last s _ _ _ _ hk; have hi : (s[i]'h) = 34 := UInt8.toNat_inj.1 h34; have hm : (s.extract i k).data.toList = 34 :: ((s.data.toList.take (k - 1)).drop (i + 1) ++ [34]) := by
       rw [extract_list]; exact cut_ends g1 (by rw [size_list]; exact g2) (by rw [get_list h, hi]) (by rw [get_list g3, g4])
      rw [unq_quo hm, hm]; refine trim_quo _ ?_ ?_
      ·intro x hx; have hlt : i + 1 < k - 1 := by
        rcases Nat.lt_or_ge (i + 1) (k - 1) with h' | h'
        ·exact h'
        ·rw [List.drop_eq_nil_of_le (by rw [List.length_take]; omega)] at hx; cases hx
       have h1 : i + 1 < s.size := by omega
       rw [List.head?_drop, List.getElem?_take_of_lt hlt, get_list h1] at hx; have e : (s[i + 1]'h1) = x := by simpa using hx
       rw [← e]; intro e2; unfold Wk.wordTo at hk; rw [dif_pos h1, if_pos (by rw [e2]; rfl)] at hk; split at hk
       ·cases hk
       ·cases hk; omega
      ·intro x hx; have hlt : i + 1 < k - 1 := by
        rcases Nat.lt_or_ge (i + 1) (k - 1) with h' | h'
        ·exact h'
        ·rw [List.drop_eq_nil_of_le (by rw [List.length_take]; omega)] at hx; cases hx
       obtain ⟨h1, h2⟩ := wordTo_prev s _ _ _ _ hk (by omega); have e : (s[k - 2]'h1) = x := by
        rw [List.getLast?_eq_getElem?, List.getElem?_drop, List.length_drop, List.length_take, size_list] at hx; rw [show i + 1 + (min (k - 1) s.size - (i + 1) - 1) = k - 2 by omega, List.getElem?_take_of_lt (by omega), get_list h1] at hx; simpa using hx
       rw [← e]; intro e2; exact h2 (by rw [e2]; rfl)
     ·exact mkTok_trim (fun e => absurd e (by decide))
    ·split
     ·split
      ·exact mkTok_trim (fun e => absurd e (by decide))
      ·exact mkTok_trim (fun e => absurd e (by decide))
     ·exact mkTok_trim (fun e => absurd e kind_ne5)
 ·exact ⟨fun e => (by have e' : (0 : Nat) = 5 := e; omega), Nat.zero_le _⟩
theorem tokens_trim (s : ByteArray) : ∀ k, k < (Wk.tokens s).length → TrimOK s (Wk.tokK (Wk.tokens s) k) := by
 have hF := Wk.tokens_follow s; intro k; cases k with
 | zero => intro _; rw [hF.first]; exact tokAt_trim _ _
 | succ k => intro hk; rw [hF.next k hk]; exact tokAt_trim _ _
theorem toks_len (s : ByteArray) : ∀ f i, (Wk.toks s f i).length ≤ f + 1 := by
 intro f; induction f with
 | zero => intro i; exact Nat.le_refl _
 | succ f ih =>
  intro i; unfold Wk.toks; split
  ·simp
  ·have := ih (Wk.cut s i).stop; simp; omega
theorem tokens_len (s : ByteArray) : (Wk.tokens s).length ≤ s.size + 2 := toks_len s _ 0
end Go.Proofs.YtbkaghlklkdmkaaGreatDoor
namespace Go.Proofs.YtbkaghlklkdmkaaGreatDoor
open Go.RowKit
attribute [local go_sem ↓] Go.wp_at_zero Go.wp_at_succ
theorem tokens_TP {s : ByteArray} (hs : s.size ≤ 1000) : TP (Wk.tokens s) :=
 ⟨fun k hk => (tokens_trim s k hk).1, fun k hk => Nat.le_trans (tokens_trim s k hk).2 hs⟩
theorem toks_cells {w : World} {B g cap : Nat} {T : List Wk.Tok} (h : w.ownsRow B 134 3 (.slice (some ⟨g, 0, none⟩) T.length cap) T.length (pCells T)) {k : Nat} (hk : k < T.length) :
  w.cell? ⟨g, k * 3, none⟩ = some (.int .i64 ((Wk.tokK T k).kind : Int)) ∧ w.cell? ⟨g, k * 3 + 1, none⟩ = some (.int .i64 ((Wk.tokK T k).place : Int)) ∧ w.cell? ⟨g, k * 3 + 2, none⟩ = some (.string (Wk.tokK T k).text) := by
 have ht : T[k]? = some (Wk.tokK T k) := by
  unfold Wk.tokK; rw [List.getD_eq_getElem?_getD, List.getElem?_eq_getElem hk]; rfl
 have key : ∀ i v, (pcells (Wk.tokK T k))[i]? = some v → w.cell? ⟨g, k * 3 + i, none⟩ = some v := by
  intro i v hv; have hi : i < 3 := (List.getElem?_eq_some_iff.1 hv).1; rw [h.cellAt (k * 3 + i) (by omega)]; exact flat_at pcells 3 (fun _ => rfl) T k _ ht i v hv
 exact ⟨key 0 _ rfl, key 1 _ rfl, key 2 _ rfl⟩
def itemsEnd (s : ByteArray) (wS w' : World) (e : Ending) : Prop :=
 match (Wk.pModel (Wk.tokens s)).1.bad with
 | some p => e = .returned (.tuple #[.slice none 0 0, .int .i64 2, .int .i64 (p : Nat)])
 | none =>
  match Wk.itemsStray [] (Wk.pModel (Wk.tokens s)).2 with
  | some p => e = .returned (.tuple #[.slice none 0 0, .int .i64 3, .int .i64 (p : Nat)])
  | none => ∃ b tg tc B wB iv irs, e = .returned (.tuple #[iv, .int .i64 0, .int .i64 0]) ∧ wS.heap.size ≤ B ∧ MP (Wk.tokens s) b tg tc B wB w' (Wk.pModel (Wk.tokens s)).1 (Wk.pModel (Wk.tokens s)).2 iv irs
set_option maxRecDepth 100000 in
set_option maxHeartbeats 2000000 in
theorem j_Items {s : ByteArray} (hs : s.size ≤ 1000) {w : World} (hG : Gl w) :
  Calls Tryz.prog 42 #[.string s] w fun e w' => itemsEnd s w w' e ∧ Below w.heap.size w w' := by
 have HG : Hid _ := hG; have HTP : Hid _ := tokens_TP hs; have HSH : Hid _ := (Wk.tokens_follow s).shut; have HLN : Hid ((Wk.tokens s).length ≤ 1002) := by have := tokens_len s; show _ ≤ _; omega
 obtain ⟨T, hT⟩ : ∃ T, T = Wk.tokens s := ⟨_, rfl⟩
 obtain ⟨FIN, hF⟩ : ∃ F, F = Wk.pModel T := ⟨_, rfl⟩
 have HSC : Hid _ := p_scan s w hs hG; rw [← hT] at HTP HSH HLN HSC; have HIE : Hid (∀ w' e, (match FIN.1.bad with
   | some p => e = .returned (.tuple #[.slice none 0 0, .int .i64 2, .int .i64 (p : Nat)])
   | none => match Wk.itemsStray [] FIN.2 with
    | some p => e = .returned (.tuple #[.slice none 0 0, .int .i64 3, .int .i64 (p : Nat)])
    | none => ∃ b tg tc B wB iv irs, e = .returned (.tuple #[iv, .int .i64 0, .int .i64 0]) ∧ w.heap.size ≤ B ∧ MP T b tg tc B wB w' FIN.1 FIN.2 iv irs) → itemsEnd s w w' e) := fun w' e h => by
  unfold itemsEnd; rw [← hT, ← hF]; exact h
 have HFF : Hid _ := hF; clear hT hF hG hs; go_enter Tryz.func42, Tryz.ntmps42; go_wp2_with fail; refine Calls.mono HSC.out ?_; rintro e w1 ⟨v, rfl, hrow, hb1⟩; have hpos := HSH.out.pos; obtain ⟨tg, tc, rfl, htc⟩ : ∃ tg tc, v = .slice (some ⟨tg, 0, none⟩) T.length tc ∧ T.length ≤ tc := by
  rcases hrow.2 with ⟨-, h0⟩ | ⟨g, cap, cur, e1, -, -, e4, -⟩
  ·omega
  ·exact ⟨g, cap, e1, e4⟩
 have htl := (hrow.lt tg rfl).2; have hs1 := hb1.size; have HROW : Hid (w1.ownsRow w.heap.size 134 3 (.slice (some ⟨tg, 0, none⟩) T.length tc) T.length (pCells T)) := hrow; have HB1 : Hid _ := hb1; have HM0 : Hid (MP T w1.heap.size tg tc w1.heap.size (w1.alloc (.cells #[.slice (some ⟨tg, 0, none⟩) T.length tc, .int .i64 0, .int .i64 0, .slice none 0 0, .bool false, .int .i64 0, .bool false, .int .i64 0] 148)) (w1.alloc (.cells #[.slice (some ⟨tg, 0, none⟩) T.length tc, .int .i64 0, .int .i64 0, .slice none 0 0, .bool false, .int .i64 0, .bool false, .int .i64 0] 148)) ⟨0, none⟩ [] (.slice none 0 0) []) := by
  refine ⟨⟨⟨false, 0, ⟨⟨HSH.out, hpos, ⟨htc, HLN.out⟩, fun k hk => ?_⟩, heap_alloc_new w1 _, fun _ => hpos, by show tg ≠ w1.heap.size; omega⟩, fun _ => ⟨fun _ => rfl, fun p e => (by cases e)⟩⟩, World.ownsRow_nil _ _ _ _, by show 0 ≤ 20; omega, ?_, Fr.refl _ _, ⟨?_, Nat.le_refl _⟩⟩, Below.refl _ _, rfl, fun r hr => (by cases hr), fun _ j it hj => (by simp at hj), htl⟩
  ·exact toks_cells (World.ownsRow.alloc HROW.out _) hk
  ·exact HG.out.belowAll (HB1.out.alloc hs1 _)
  ·have := HG.out.size; show 12 ≤ w1.heap.size; omega
 clear hrow hb1; go_wp2_with fail; refine (j_model HTP.out HM0.out).mono ?_; rintro e w3 ⟨rfl, iv, irs, hM⟩; rw [← HFF.out] at hM; have HM : Hid (MP T w1.heap.size tg tc w1.heap.size (w1.alloc (.cells #[.slice (some ⟨tg, 0, none⟩) T.length tc, .int .i64 0, .int .i64 0, .slice none 0 0, .bool false, .int .i64 0, .bool false, .int .i64 0] 148)) w3 FIN.1 FIN.2 iv irs) := hM; have HBW : Hid (Below w.heap.size w w3) := (HB1.out.alloc hs1 _).trans (hM.bel.mono hs1); obtain ⟨ms, ma, hP, hms⟩ := hM.inn.pp; have c3 := blk_cell (o := 3) hP.box rfl; have c4 := blk_cell (o := 4) hP.box rfl; have c5 := blk_cell (o := 5) hP.box rfl; have c6 := blk_cell (o := 6) hP.box rfl; have c7 := blk_cell (o := 7) hP.box rfl; have HMS : Hid (FIN.1.bad = none → MS (Wk.itemsStray [] FIN.2) ms ma) := hms; clear hM hP hms; cases hb : FIN.1.bad with
 | some p =>
   rw [hb] at c4 c5; have c4 : w3.cell? ⟨w1.heap.size, 4, none⟩ = some (.bool true) := c4; have HX : Hid (w3.drew.cell? ⟨w1.heap.size, 5, none⟩ = some (.int .i64 (p : Nat))) := c5; have HE : Hid (itemsEnd s w w3.drew (.returned (.tuple #[.slice none 0 0, .int .i64 2, .int .i64 (p : Nat)]))) := HIE.out _ _ (by rw [hb]); clear hb; go_upto_region 4 with fail; refine wp_region_ph (fun w' => w'.cell? ⟨w1.heap.size, 5, none⟩ = some (.int .i64 (p : Nat))) 5 5 rfl (by kernel_rfl) HX.out (fun hHeld => ?_); clear hHeld; refine PhS.t 0 13 HX.out ?_; refine PhS.t 1 14 HX.out ?_; refine PhS.t 2 2 HX.out ?_; refine PhS.t 3 3 HX.out ?_; refine PhS.t 4 4 HX.out ?_; refine PhS.done (by kernel_rfl) ?_ _; go_wp2_with fail; exact bodyPost_ret (v := .tuple #[.slice none 0 0, .int .i64 2, .int .i64 (p : Nat)]) (by simp [results, Tryz.results42, go_sem]) rfl ⟨HE.out, HBW.out.drew⟩
 | none =>
   rw [hb] at c4; have c4 : w3.cell? ⟨w1.heap.size, 4, none⟩ = some (.bool false) := c4; have hm := HMS.out hb; cases hst : Wk.itemsStray [] FIN.2 with
   | some p =>
    rw [hst] at hm; obtain ⟨e1, e2⟩ := hm.2 p rfl; rw [e1] at c6; rw [e2] at c7; have c6 : w3.cell? ⟨w1.heap.size, 6, none⟩ = some (.bool true) := c6; have HX : Hid (w3.drew.cell? ⟨w1.heap.size, 7, none⟩ = some (.int .i64 (p : Nat))) := c7; have HE : Hid (itemsEnd s w w3.drew (.returned (.tuple #[.slice none 0 0, .int .i64 3, .int .i64 (p : Nat)]))) := HIE.out _ _ (by rw [hb, hst]); clear hb hst hm e1 e2 HMS; go_upto_region 6 with fail; refine wp_region_ph (fun w' => w'.cell? ⟨w1.heap.size, 7, none⟩ = some (.int .i64 (p : Nat))) 5 5 rfl (by kernel_rfl) HX.out (fun hHeld => ?_); clear hHeld; refine PhS.t 0 18 HX.out ?_; refine PhS.t 1 19 HX.out ?_; refine PhS.t 2 2 HX.out ?_; refine PhS.t 3 3 HX.out ?_; refine PhS.t 4 4 HX.out ?_; refine PhS.done (by kernel_rfl) ?_ _; go_wp2_with fail; exact bodyPost_ret (v := .tuple #[.slice none 0 0, .int .i64 3, .int .i64 (p : Nat)]) (by simp [results, Tryz.results42, go_sem]) rfl ⟨HE.out, HBW.out.drew⟩
   | none =>
    rw [hst] at hm; rw [hm.1 rfl] at c6; have c6 : w3.cell? ⟨w1.heap.size, 6, none⟩ = some (.bool false) := c6; have HE : Hid (itemsEnd s w w3 (.returned (.tuple #[iv, .int .i64 0, .int .i64 0]))) := HIE.out _ _ (by rw [hb, hst]; exact ⟨_, _, _, _, _, iv, irs, rfl, hs1, HM.out⟩); clear hb hst hm HMS; go_wp2_with fail; exact bodyPost_ret (v := .tuple #[iv, .int .i64 0, .int .i64 0]) (by simp [results, Tryz.results42, go_sem]) rfl ⟨HE.out, HBW.out⟩
end Go.Proofs.YtbkaghlklkdmkaaGreatDoor
