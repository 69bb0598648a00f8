/-
  The scanner's steps against the tokens of a text: plain. The program: Scan.
-/
import Derived.Test.YtbkaghlklkdmkaaGreatDoorMD2
import Derived.Laws.RangeAny
import Derived.Lib.OthersKept
import Derived.Deep.LoopGhost
import Derived.Deep.AppendLies
set_option maxRecDepth 100000
set_option maxHeartbeats 8000000
namespace Go.Proofs.YtbkaghlklkdmkaaGreatDoor
open Go.RowKit
open Wk (isSp isLow isDig spanTo tokAt cut toks tokens mkTok wordTo)
theorem decode_lt (s : ByteArray) (i : Nat) : (Utf8.decode s i).1 < 2000000 := by
 unfold Utf8.decode; simp only; repeat' split
 all_goals simp only [Utf8.runeError, Utf8.valid, Bool.and_eq_true, Bool.or_eq_true, decide_eq_true_eq, ge_iff_le] at *
 all_goals omega
theorem decode_in (s : ByteArray) (i : Nat) (h : i < s.size) : i + (Utf8.decode s i).2 ≤ s.size := by
 unfold Utf8.decode; simp only; repeat' split
 all_goals simp only [Bool.and_eq_true, decide_eq_true_eq] at *
 all_goals omega
theorem rune_byte {s : ByteArray} {i : Nat} (h : i < s.size) (hr : (Utf8.decode s i).1 < 128) : (s[i]'h).toNat = (Utf8.decode s i).1 ∧ (Utf8.decode s i).2 = 1 := by
 rcases Nat.lt_or_ge (s[i]'h).toNat 128 with ha | ha
 ·rw [decode_ascii s i h ha]; exact ⟨rfl, rfl⟩
 ·have := (decode_high s i h ha).1; omega
theorem byte_rune {s : ByteArray} {i : Nat} (h : i < s.size) (ha : (s[i]'h).toNat < 128) : (Utf8.decode s i).1 = (s[i]'h).toNat ∧ (Utf8.decode s i).2 = 1 := by
 rw [decode_ascii s i h ha]; exact ⟨rfl, rfl⟩
theorem byte_of_rune {s : ByteArray} {i : Nat} (h : i < s.size) {n : Nat} (hn : n < 128) : (Utf8.decode s i).1 = n ↔ (s[i]'h).toNat = n := by
 constructor
 ·intro e; have := (rune_byte h (by omega)).1; omega
 ·intro e; have := (byte_rune h (by omega)).1; omega
theorem low_rune {s : ByteArray} {i : Nat} (h : i < s.size) : (97 ≤ (Utf8.decode s i).1 ∧ (Utf8.decode s i).1 ≤ 122) ↔ isLow (s[i]'h) = true := by
 simp only [isLow, Bool.and_eq_true, decide_eq_true_eq]; constructor
 ·intro e; have := (rune_byte h (by omega)).1; omega
 ·intro e; have := (byte_rune h (by omega)).1; omega
theorem dig_rune {s : ByteArray} {i : Nat} (h : i < s.size) : (48 ≤ (Utf8.decode s i).1 ∧ (Utf8.decode s i).1 ≤ 57) ↔ isDig (s[i]'h) = true := by
 simp only [isDig, Bool.and_eq_true, decide_eq_true_eq]; constructor
 ·intro e; have := (rune_byte h (by omega)).1; omega
 ·intro e; have := (byte_rune h (by omega)).1; omega
theorem sp_rune {s : ByteArray} {i : Nat} (h : i < s.size) : ((Utf8.decode s i).1 = 32 ∨ (Utf8.decode s i).1 = 10) ↔ isSp (s[i]'h) = true := by
 rw [byte_of_rune h (by omega), byte_of_rune h (by omega)]; simp [isSp]
theorem spelt_one_or (l : List UInt8) : Wk.spelt l = 1 ∨ (6 ≤ Wk.spelt l ∧ Wk.spelt l ≤ 41) := by
 rcases speltIn_cases l Wk.spellings 6 with ⟨_, h⟩ | ⟨_, h1, h2⟩
 ·exact Or.inl h
 ·have : Wk.spellings.length = 36 := by decide
  rw [this] at h2; exact Or.inr ⟨h1, by unfold Wk.spelt; omega⟩
theorem letterKind_or (l : List UInt8) : Wk.letterKind l = 1 ∨ 2 ≤ Wk.letterKind l := by
 unfold Wk.letterKind; split
 ·exact Or.inl rfl
 ·split
  ·right; omega
  ·rcases spelt_one_or l with h | h
   ·contradiction
   ·right; omega
theorem digitKind_or (l : List UInt8) : Wk.digitKind l = 1 ∨ 2 ≤ Wk.digitKind l := by
 unfold Wk.digitKind; repeat' split
 all_goals omega
theorem spelt_high {l : List UInt8} {b : UInt8} (hb : b ∈ l) (h : 128 ≤ b.toNat) : Wk.spelt l = 1 := by
 rcases speltIn_cases l Wk.spellings 6 with ⟨_, h1⟩ | ⟨h1, _⟩
 ·exact h1
 ·exfalso; have ha : Wk.spellings.all (fun x => x.all (fun c => decide (c.toNat < 128))) = true := by decide +kernel
  have h2 := List.all_eq_true.1 ha l h1; have h3 := List.all_eq_true.1 h2 b hb; rw [decide_eq_true_eq] at h3; omega
theorem spelt_rune {s : ByteArray} {i : Nat} (h : i < s.size) : Wk.spelt (runeText (Utf8.decode s i).1) = Wk.spelt [s[i]'h] ∧ (128 ≤ (s[i]'h).toNat → Wk.spelt [s[i]'h] = 1) := by
 refine ⟨?_, fun ha => spelt_high (List.mem_singleton.2 rfl) ha⟩; rcases Nat.lt_or_ge (s[i]'h).toNat 128 with ha | ha
 ·rw [decode_ascii s i h ha]; have : runeText (s[i]'h).toNat = [s[i]'h] := by
   unfold runeText Utf8.encode Utf8.valid; have e1 : decide ((((s[i]'h).toNat : Nat) : Int) < 0xD800) = true := by simp; omega
   simp [e1, ha]
  rw [this]
 ·rw [spelt_high (List.mem_singleton.2 rfl) ha]; have hr := (decode_high s i h ha).1; unfold runeText Utf8.encode; generalize (Utf8.decode s i).1 = r at *
  have hc : 128 ≤ (if Utf8.valid (r : Int) = true then ((r : Int)).toNat else Utf8.runeError) := by
   split
   ·omega
   ·show 128 ≤ 65533; omega
  have hc2 : (if Utf8.valid (r : Int) = true then ((r : Int)).toNat else Utf8.runeError) < 2097152 := by
   split
   ·rename_i hv; simp only [Utf8.valid, Bool.or_eq_true, Bool.and_eq_true, decide_eq_true_eq] at hv; omega
   ·show 65533 < 2097152; omega
  simp only; generalize (if Utf8.valid (r : Int) = true then ((r : Int)).toNat else Utf8.runeError) = c at *
  rw [if_neg (by omega)]; split
  ·exact spelt_high (b := UInt8.ofNat (0xC0 + c / 64)) (by simp) (by rw [UInt8.toNat_ofNat']; omega)
  ·split
   ·exact spelt_high (b := UInt8.ofNat (0xE0 + c / 4096)) (by simp) (by rw [UInt8.toNat_ofNat']; omega)
   ·exact spelt_high (b := UInt8.ofNat (0xF0 + c / 262144)) (by simp) (by rw [UInt8.toNat_ofNat']; omega)
theorem cut_space {s : ByteArray} {i : Nat} (h : i < s.size) (hp : isSp (s[i]'h) = true) : cut s i = cut s (i + 1) := by
 unfold cut; rw [Wk.spanTo_yes h hp]
theorem cut_at {s : ByteArray} {i : Nat} (h : i < s.size) (hp : isSp (s[i]'h) = false) : cut s i = tokAt s i := by
 unfold cut; rw [Wk.spanTo_no h hp]
theorem cut_end {s : ByteArray} {i : Nat} (h : s.size ≤ i) : cut s i = ⟨0, s.size, ByteArray.empty, i⟩ := by
 unfold cut; rw [Wk.spanTo_end h]; unfold tokAt; rw [dif_neg (by omega)]
theorem toks_cut {s : ByteArray} {i j : Nat} (h : cut s i = cut s j) (f : Nat) : toks s f i = toks s f j := by
 cases f with
 | zero => unfold toks; rw [h]
 | succ f => unfold toks; rw [h]
theorem toks_bad {s : ByteArray} {i : Nat} (h : (cut s i).kind ≤ 1) (f : Nat) : toks s f i = [cut s i] := by
 cases f with
 | zero => rfl
 | succ f => unfold toks; rw [if_pos h]
theorem toks_go {s : ByteArray} {i : Nat} (h : 2 ≤ (cut s i).kind) {f : Nat} (hf : 0 < f) : toks s f i = cut s i :: toks s (f - 1) (cut s i).stop := by
 cases f with
 | zero => omega
 | succ f =>
  conv => lhs; unfold toks
  rw [if_neg (by omega)]; rfl
theorem span_eq {p : UInt8 → Bool} {s : ByteArray} {i j : Nat} (h1 : i ≤ j) (hj : j ≤ s.size) (h : ∀ k (hk : k < s.size), i ≤ k → k < j → p (s[k]'hk) = true) (hs : ∀ hk : j < s.size, p (s[j]'hk) = false) : spanTo p s i = j := by
 rw [Wk.spanTo_skip h1 hj h]; rcases Nat.lt_or_ge j s.size with hlt | hge
 ·exact Wk.spanTo_no hlt (hs hlt)
 ·exact Wk.spanTo_end hge
theorem low_not_sp {c : UInt8} (h : isLow c = true) : isSp c = false := by
 simp [isLow, isSp] at *; omega
theorem dig_not {c : UInt8} (h : isDig c = true) : isSp c = false ∧ isLow c = false := by
 simp [isDig, isSp, isLow] at *; omega
theorem tokAtP_low {s : ByteArray} {i j : Nat} (h : i < s.size) (hl : isLow (s[i]'h) = true) (hj : spanTo isLow s i = j) : cut s i = mkTok s (Wk.letterKind (s.extract i j).data.toList) i j := by
 rw [cut_at h (low_not_sp hl)]; unfold tokAt; rw [dif_pos h, if_pos hl, hj]
theorem tokAtP_dig {s : ByteArray} {i j : Nat} (h : i < s.size) (hl : isDig (s[i]'h) = true) (hj : spanTo isDig s i = j) : cut s i = mkTok s (Wk.digitKind (s.extract i j).data.toList) i j := by
 have hn := dig_not hl; rw [cut_at h hn.1]; unfold tokAt; rw [dif_pos h, if_neg (by rw [hn.2]; decide), if_pos hl, hj]
theorem tokAt_word {s : ByteArray} {i : Nat} (h : i < s.size) (hq : (s[i]'h).toNat = 34) : cut s i = (match wordTo s (s.size + 1) (i + 1) 0 with | some k => mkTok s 5 i k | none => mkTok s 1 i (i + 1)) := by
 have h1 : isSp (s[i]'h) = false := by simp [isSp]; omega
 have h2 : isLow (s[i]'h) = false := by simp [isLow]; omega
 have h3 : isDig (s[i]'h) = false := by simp [isDig]; omega
 rw [cut_at h h1]; unfold tokAt; rw [dif_pos h, if_neg (by rw [h2]; decide), if_neg (by rw [h3]; decide), if_pos hq]; cases wordTo s (s.size + 1) (i + 1) 0 <;> rfl
theorem tokAt_point {s : ByteArray} {i : Nat} (h : i < s.size) (hq : (s[i]'h).toNat = 46) : cut s i = if s[i + 1]? = some 46 then mkTok s 41 i (i + 2) else mkTok s 1 i (i + 1) := by
 have h1 : isSp (s[i]'h) = false := by simp [isSp]; omega
 have h2 : isLow (s[i]'h) = false := by simp [isLow]; omega
 have h3 : isDig (s[i]'h) = false := by simp [isDig]; omega
 rw [cut_at h h1]; unfold tokAt; rw [dif_pos h, if_neg (by rw [h2]; decide), if_neg (by rw [h3]; decide), if_neg (by omega), if_pos hq]
theorem tokAtP_sign {s : ByteArray} {i : Nat} (h : i < s.size) (h1 : isSp (s[i]'h) = false) (h2 : isLow (s[i]'h) = false) (h3 : isDig (s[i]'h) = false) (h4 : (s[i]'h).toNat ≠ 34) (h5 : (s[i]'h).toNat ≠ 46) : cut s i = mkTok s (Wk.spelt [s[i]'h]) i (i + 1) := by
 rw [cut_at h h1]; unfold tokAt; rw [dif_pos h, if_neg (by rw [h2]; decide), if_neg (by rw [h3]; decide), if_neg h4, if_neg h5]
theorem wordTo_nine (s : ByteArray) : ∀ f k n, 8 < n → wordTo s f k n = none := by
 intro f; induction f with
 | zero => intro k n _; rfl
 | succ f ih =>
  intro k n hn; unfold wordTo; split
  ·split
   ·rfl
   ·split
    ·rfl
    ·exact ih _ _ (by omega)
  ·rfl
theorem runeOK_iff {s : ByteArray} {i : Nat} : runeOK s i (Utf8.decode s i).1 = true ↔ ¬ ((Utf8.decode s i).1 = 65533 ∧ (Utf8.decode s i).2 = 1) := by
 have e : Lib.hasPrefix (s.extract i s.size).data.toList [239, 191, 189] = Wk.isFFFD s i := by
  unfold Wk.isFFFD; rw [Lib.extract_data, List.take_of_length_le (by rw [List.length_drop]; simp)]
 unfold runeOK; rw [e, Bool.or_eq_true, bne_iff_ne]; by_cases hr : (Utf8.decode s i).1 = 65533
 ·have h1 := Wk.decode_fffd s i hr; cases hf : Wk.isFFFD s i with
  | true =>
   rw [hf] at h1; simp [hr]; intro h2; have := h1.1 h2; cases this
  | false =>
   rw [hf] at h1; simp [hr, h1.2 rfl]
 ·simp [hr]
structure ScanInv (s : ByteArray) (pos : Nat) (c : Sc) : Prop where
  len : c.l.length ≤ pos
  fr : c.fr ≤ pos
  ru : c.ru ≤ 8
  le : pos ≤ s.size
  st : (c.st = 0 ∧ ∃ f, s.size < pos + f ∧ tokens s = c.l ++ toks s f pos) ∨
    (c.st ≠ 0 ∧ c.l.length ≤ c.fr ∧ c.fr < pos ∧ (∃ f, s.size < c.fr + f ∧ tokens s = c.l ++ toks s f c.fr) ∧
      ((c.st = 1 ∧ ∀ k (hk : k < s.size), c.fr ≤ k → k < pos → isLow (s[k]'hk) = true) ∨
       (c.st = 2 ∧ ∀ k (hk : k < s.size), c.fr ≤ k → k < pos → isDig (s[k]'hk) = true) ∨
       (c.st = 3 ∧ (∃ hk : c.fr < s.size, (s[c.fr]'hk).toNat = 34) ∧ ∃ F, s.size < pos + F ∧ wordTo s (s.size + 1) (c.fr + 1) 0 = wordTo s F pos c.ru) ∨
       (c.st = 4 ∧ (∃ hk : c.fr < s.size, (s[c.fr]'hk).toNat = 46) ∧ pos = c.fr + 1)))
def Failed (s : ByteArray) (c : Sc) : Prop := ∃ k, tokens s = c.l ++ [mkTok s 1 c.fr k]
theorem end_ok {s : ByteArray} {l : List Wk.Tok} {fr ru st kd to f : Nat} (hc : cut s fr = mkTok s kd fr to) (hk : kd = 1 ∨ 2 ≤ kd) (hf : s.size < fr + f) (hto : fr < to) (hts : to ≤ s.size) (hl : l.length ≤ fr) (hru : ru ≤ 8) (ht : tokens s = l ++ toks s f fr) :
  ((endF s ⟨l, st, fr, ru⟩ kd to).1 = true → ScanInv s to (endF s ⟨l, st, fr, ru⟩ kd to).2) ∧ ((endF s ⟨l, st, fr, ru⟩ kd to).1 = false → Failed s (endF s ⟨l, st, fr, ru⟩ kd to).2) := by
 unfold endF; rcases hk with hk | hk
 ·rw [if_pos hk]; refine ⟨fun h => (by cases h), fun _ => ⟨to, ?_⟩⟩; rw [ht, toks_bad (by rw [hc, hk]; exact Nat.le_refl _), hc, hk]
 ·rw [if_neg (by omega)]; refine ⟨fun _ => ⟨?_, ?_, hru, hts, Or.inl ⟨rfl, f - 1, by omega, ?_⟩⟩, fun h => (by cases h)⟩
  ·simp; omega
  ·show fr ≤ to; omega
  ·rw [ht, toks_go (by rw [hc]; exact hk) (by omega), hc]; simp [mkTok]
theorem close_ok {s : ByteArray} {pos : Nat} {c : Sc} (h : ScanInv s pos c) (h3 : c.st ≠ 3) (h4 : c.st ≠ 4) (hs1 : ∀ hk : pos < s.size, c.st = 1 → isLow (s[pos]'hk) = false) (hs2 : ∀ hk : pos < s.size, c.st = 2 → isDig (s[pos]'hk) = false) :
  ((closeF s c pos).1 = true → ScanInv s pos (closeF s c pos).2 ∧ (closeF s c pos).2.st = 0) ∧ ((closeF s c pos).1 = false → Failed s (closeF s c pos).2) := by
 obtain ⟨l, st, fr, ru⟩ := c; have hend : ∀ kd to, (endF s ⟨l, st, fr, ru⟩ kd to).1 = true → (endF s ⟨l, st, fr, ru⟩ kd to).2.st = 0 := by
  intro kd to; unfold endF; split
  ·intro h; cases h
  ·intro _; rfl
 unfold closeF; rcases h.st with ⟨h0, f, hf, ht⟩ | ⟨h0, hl, hfr, ⟨f, hf, ht⟩, hh⟩
 ·have h0' : st = 0 := h0; rw [if_neg (by simp only; omega), if_neg (by simp only; omega)]; exact ⟨fun _ => ⟨h, h0⟩, fun h => (by cases h)⟩
 ·have hp := h.le; simp only at hl hfr hf ht h3 h4 hs1 hs2; rcases hh with ⟨h1, hlow⟩ | ⟨h1, hdig⟩ | ⟨h1, _⟩ | ⟨h1, _⟩
  ·simp only at h1 hlow; rw [if_pos h1]; have hc := tokAtP_low (i := fr) (j := pos) (by omega) (hlow fr (by omega) (Nat.le_refl _) hfr) (span_eq (by omega) hp hlow (fun hk => hs1 hk h1)); have := end_ok (st := st) (ru := ru) hc (letterKind_or _) hf hfr hp hl h.ru ht; exact ⟨fun e => ⟨this.1 e, hend _ _ e⟩, this.2⟩
  ·simp only at h1 hdig; rw [if_neg (by simp only; omega), if_pos h1]; have hc := tokAtP_dig (i := fr) (j := pos) (by omega) (hdig fr (by omega) (Nat.le_refl _) hfr) (span_eq (by omega) hp hdig (fun hk => hs2 hk h1)); have := end_ok (st := st) (ru := ru) hc (digitKind_or _) hf hfr hp hl h.ru ht; exact ⟨fun e => ⟨this.1 e, hend _ _ e⟩, this.2⟩
  ·exact absurd h1 h3
  ·exact absurd h1 h4
theorem begin_ok {s : ByteArray} {pos : Nat} {c : Sc} (h : ScanInv s pos c) (h0 : c.st = 0) (hp : pos < s.size) :
  ((beginF s c pos (Utf8.decode s pos).1).1 = true → ScanInv s (pos + (Utf8.decode s pos).2) (beginF s c pos (Utf8.decode s pos).1).2) ∧ ((beginF s c pos (Utf8.decode s pos).1).1 = false → Failed s (beginF s c pos (Utf8.decode s pos).1).2) := by
 obtain ⟨l, st, fr, ru⟩ := c; rcases h.st with ⟨_, f, hf, ht⟩ | ⟨h1, _⟩
 ·have hlen := h.len; have hru := h.ru; simp only at h0 ht hlen hru; subst h0; unfold beginF; by_cases a1 : (Utf8.decode s pos).1 = 32 ∨ (Utf8.decode s pos).1 = 10
  ·rw [if_pos a1]; have hw : (Utf8.decode s pos).2 = 1 := (rune_byte hp (by omega)).2; rw [hw]; refine ⟨fun _ => ⟨by simp only; omega, by simp only; omega, hru, by omega, Or.inl ⟨rfl, f, by omega, ?_⟩⟩, fun e => (by cases e)⟩; rw [ht, toks_cut (cut_space hp ((sp_rune hp).1 a1))]
  ·rw [if_neg a1]; have hsp : isSp (s[pos]'hp) = false := by
    rw [← Bool.not_eq_true]; exact fun e => a1 ((sp_rune hp).2 e)
   by_cases a2 : 97 ≤ (Utf8.decode s pos).1 ∧ (Utf8.decode s pos).1 ≤ 122
   ·rw [if_pos a2]; have hw : (Utf8.decode s pos).2 = 1 := (rune_byte hp (by omega)).2; rw [hw]; refine ⟨fun _ => ⟨by simp only; omega, by simp only; omega, hru, by omega, Or.inr ⟨by simp, hlen, by simp only; omega, ⟨f, hf, ht⟩, Or.inl ⟨rfl, fun k hk k1 k2 => ?_⟩⟩⟩, fun e => (by cases e)⟩; simp only at k1; have : k = pos := by omega
    subst this; exact (low_rune hp).1 a2
   ·rw [if_neg a2]; have hlow : isLow (s[pos]'hp) = false := by
     rw [← Bool.not_eq_true]; exact fun e => a2 ((low_rune hp).2 e)
    by_cases a3 : 48 ≤ (Utf8.decode s pos).1 ∧ (Utf8.decode s pos).1 ≤ 57
    ·rw [if_pos a3]; have hw : (Utf8.decode s pos).2 = 1 := (rune_byte hp (by omega)).2; rw [hw]; refine ⟨fun _ => ⟨by simp only; omega, by simp only; omega, hru, by omega, Or.inr ⟨by simp, hlen, by simp only; omega, ⟨f, hf, ht⟩, Or.inr (Or.inl ⟨rfl, fun k hk k1 k2 => ?_⟩)⟩⟩, fun e => (by cases e)⟩; simp only at k1; have : k = pos := by omega
     subst this; exact (dig_rune hp).1 a3
    ·rw [if_neg a3]; have hdig : isDig (s[pos]'hp) = false := by
      rw [← Bool.not_eq_true]; exact fun e => a3 ((dig_rune hp).2 e)
     by_cases a4 : (Utf8.decode s pos).1 = 34
     ·rw [if_pos a4]; have hw : (Utf8.decode s pos).2 = 1 := (rune_byte hp (by omega)).2; rw [hw]; exact ⟨fun _ => ⟨by simp only; omega, by simp only; omega, by simp only; omega, by omega, Or.inr ⟨by simp, hlen, by simp only; omega, ⟨f, hf, ht⟩, Or.inr (Or.inr (Or.inl ⟨rfl, ⟨hp, (byte_of_rune hp (by omega)).1 a4⟩, s.size + 1, by omega, rfl⟩))⟩⟩, fun e => (by cases e)⟩
     ·rw [if_neg a4]; by_cases a5 : (Utf8.decode s pos).1 = 46
      ·rw [if_pos a5]; have hw : (Utf8.decode s pos).2 = 1 := (rune_byte hp (by omega)).2; rw [hw]; exact ⟨fun _ => ⟨by simp only; omega, by simp only; omega, hru, by omega, Or.inr ⟨by simp, hlen, by simp only; omega, ⟨f, hf, ht⟩, Or.inr (Or.inr (Or.inr ⟨rfl, ⟨hp, (byte_of_rune hp (by omega)).1 a5⟩, rfl⟩))⟩⟩, fun e => (by cases e)⟩
      ·rw [if_neg a5]; have h34 : (s[pos]'hp).toNat ≠ 34 := fun e => a4 ((byte_of_rune hp (by omega)).2 e)
       have h46 : (s[pos]'hp).toNat ≠ 46 := fun e => a5 ((byte_of_rune hp (by omega)).2 e)
       have hs := spelt_rune hp; have hc := tokAtP_sign hp hsp hlow hdig h34 h46; rw [← hs.1] at hc; have hk : Wk.spelt (runeText (Utf8.decode s pos).1) = 1 ∨ 2 ≤ Wk.spelt (runeText (Utf8.decode s pos).1) := by
        rcases spelt_one_or (runeText (Utf8.decode s pos).1) with h | h
        ·exact Or.inl h
        ·exact Or.inr (by omega)
       have he := end_ok (st := 0) (ru := ru) hc hk hf (Nat.lt_succ_self pos) hp hlen hru ht; refine ⟨fun e => ?_, he.2⟩; have hw : (Utf8.decode s pos).2 = 1 := by
        rcases Nat.lt_or_ge (s[pos]'hp).toNat 128 with ha | ha
        ·exact (byte_rune hp ha).2
        ·exfalso; have h1 := hs.2 ha; rw [← hs.1] at h1; unfold endF at e; rw [if_pos h1] at e; cases e
       rw [hw]; exact he.1 e
 ·exact absurd h0 h1
theorem word_ok {s : ByteArray} {pos : Nat} {c : Sc} (h : ScanInv s pos c) (h3 : c.st = 3) (hp : pos < s.size) :
  ((wordF s c pos (Utf8.decode s pos).1).1 = true → ScanInv s (pos + (Utf8.decode s pos).2) (wordF s c pos (Utf8.decode s pos).1).2) ∧ ((wordF s c pos (Utf8.decode s pos).1).1 = false → Failed s (wordF s c pos (Utf8.decode s pos).1).2) := by
 obtain ⟨l, st, fr, ru⟩ := c; rcases h.st with ⟨h0, _⟩ | ⟨h0, hl, hfr, ⟨f, hf, ht⟩, hh⟩
 ·rw [h0] at h3; cases h3
 ·rcases hh with ⟨h1, _⟩ | ⟨h1, _⟩ | ⟨_, ⟨hk, hq⟩, F, hF, hW⟩ | ⟨h1, _⟩
  ·rw [h1] at h3; cases h3
  ·rw [h1] at h3; cases h3
  ·have hru := h.ru; simp only at hl hfr hf ht hq hF hW hru hk h3; have hc := tokAt_word hk hq; rw [hW] at hc; have hwp : 1 ≤ (Utf8.decode s pos).2 := Wk.decode_pos s pos hp; have hwi := decode_in s pos hp; have hno : wordTo s F pos ru = none → Failed s ⟨l, st, fr, ru + 1⟩ := by
    intro e; rw [e] at hc; simp only at hc; refine ⟨fr + 1, ?_⟩; rw [ht, toks_bad (by rw [hc]; exact Nat.le_refl _), hc]
   obtain ⟨F', rfl⟩ : ∃ F', F = F' + 1 := ⟨F - 1, by omega⟩
   unfold wordF; by_cases a1 : (Utf8.decode s pos).1 = 34
   ·rw [if_pos a1]; have hb := (byte_of_rune hp (by omega)).1 a1; have hw : (Utf8.decode s pos).2 = 1 := (rune_byte hp (by omega)).2; have e : wordTo s (F' + 1) pos ru = some (pos + 1) := by
     unfold wordTo; rw [dif_pos hp, if_pos hb, if_neg (by omega)]
    rw [e] at hc; rw [hw]; exact end_ok (st := st) (ru := ru) hc (Or.inr (by omega)) hf (by omega) (by omega) hl hru ht
   ·rw [if_neg a1]; have hb : ¬ (s[pos]'hp).toNat = 34 := fun e => a1 ((byte_of_rune hp (by omega)).2 e)
    by_cases a2 : (Utf8.decode s pos).1 < 32 ∨ ((Utf8.decode s pos).1 = 65533 ∧ (Utf8.decode s pos).2 = 1)
    ·have e : wordTo s (F' + 1) pos ru = none := by
      unfold wordTo; rw [dif_pos hp, if_neg hb, if_pos a2]
     have hfalse : (decide (32 ≤ (Utf8.decode s pos).1) && (decide (ru + 1 ≤ 8) && runeOK s pos (Utf8.decode s pos).1)) = false := by
      rcases a2 with a2 | a2
      ·have : decide (32 ≤ (Utf8.decode s pos).1) = false := by simp; omega
       rw [this]; rfl
      ·have : runeOK s pos (Utf8.decode s pos).1 = false := by
        rw [← Bool.not_eq_true, runeOK_iff]; exact fun h => h a2
       rw [this]; simp
     refine ⟨fun h => ?_, fun _ => hno e⟩; simp only at h; rw [hfalse] at h; cases h
    ·have e : wordTo s (F' + 1) pos ru = wordTo s F' (pos + (Utf8.decode s pos).2) (ru + 1) := by
      conv => lhs; unfold wordTo
      rw [dif_pos hp, if_neg hb, if_neg a2]
     by_cases a3 : ru + 1 ≤ 8
     ·have hok : runeOK s pos (Utf8.decode s pos).1 = true := runeOK_iff.2 (fun h => a2 (Or.inr h)); have h32 : 32 ≤ (Utf8.decode s pos).1 := by omega
      have htrue : (decide (32 ≤ (Utf8.decode s pos).1) && (decide (ru + 1 ≤ 8) && runeOK s pos (Utf8.decode s pos).1)) = true := by
       rw [hok]; simp [h32]; omega
      refine ⟨fun _ => ⟨?_, ?_, a3, hwi, Or.inr ⟨h0, hl, ?_, ⟨f, hf, ht⟩, Or.inr (Or.inr (Or.inl ⟨h3, ⟨hk, hq⟩, F', by omega, ?_⟩))⟩⟩, fun h => ?_⟩
      ·have := h.len; simp only at this ⊢; omega
      ·simp only; omega
      ·simp only; omega
      ·rw [hW, e]
      ·simp only at h; rw [htrue] at h; cases h
     ·have hfalse : (decide (32 ≤ (Utf8.decode s pos).1) && (decide (ru + 1 ≤ 8) && runeOK s pos (Utf8.decode s pos).1)) = false := by
       simp [a3]
      refine ⟨fun h => ?_, fun _ => hno (by rw [e]; exact wordTo_nine s _ _ _ (by omega))⟩; simp only at h; rw [hfalse] at h; cases h
  ·rw [h1] at h3; cases h3
theorem points_ok {s : ByteArray} {pos : Nat} {c : Sc} (h : ScanInv s pos c) (h4 : c.st = 4) (hp : pos < s.size) :
  ((pointsF s c pos (Utf8.decode s pos).1).1 = true → ScanInv s (pos + (Utf8.decode s pos).2) (pointsF s c pos (Utf8.decode s pos).1).2) ∧ ((pointsF s c pos (Utf8.decode s pos).1).1 = false → Failed s (pointsF s c pos (Utf8.decode s pos).1).2) := by
 obtain ⟨l, st, fr, ru⟩ := c; rcases h.st with ⟨h0, _⟩ | ⟨h0, hl, hfr, ⟨f, hf, ht⟩, hh⟩
 ·rw [h0] at h4; cases h4
 ·rcases hh with ⟨h1, _⟩ | ⟨h1, _⟩ | ⟨h1, _⟩ | ⟨_, ⟨hk, hq⟩, hpos⟩
  ·rw [h1] at h4; cases h4
  ·rw [h1] at h4; cases h4
  ·rw [h1] at h4; cases h4
  ·have hru := h.ru; simp only at hl hfr hf ht hq hru hk hpos; subst hpos; have hc := tokAt_point hk hq; have hg : s[fr + 1]? = some (s[fr + 1]'hp) := getElem?_pos s (fr + 1) hp; unfold pointsF; by_cases a1 : (Utf8.decode s (fr + 1)).1 = 46
   ·rw [if_pos a1]; have hb := (byte_of_rune hp (by omega)).1 a1; have hw : (Utf8.decode s (fr + 1)).2 = 1 := (rune_byte hp (by omega)).2; have hb' : s[fr + 1]'hp = 46 := UInt8.toNat_inj.1 (by simpa using hb); rw [if_pos (by rw [hg, hb'])] at hc; rw [hw]; exact end_ok (st := st) (ru := ru) hc (Or.inr (by omega)) hf (by omega) (by omega) hl hru ht
   ·rw [if_neg a1]; have hb : ¬ s[fr + 1]'hp = 46 := fun e => a1 ((byte_of_rune hp (by omega)).2 (by rw [e]; rfl))
    rw [if_neg (by rw [hg]; simpa using hb)] at hc; refine ⟨fun e => (by cases e), fun _ => ⟨fr + 1, ?_⟩⟩; rw [ht, toks_bad (by rw [hc]; exact Nat.le_refl _), hc]
theorem step_ok {s : ByteArray} {pos : Nat} {c : Sc} (h : ScanInv s pos c) (hp : pos < s.size) :
  ((stepF s c pos (Utf8.decode s pos).1).1 = true → ScanInv s (pos + (Utf8.decode s pos).2) (stepF s c pos (Utf8.decode s pos).1).2) ∧ ((stepF s c pos (Utf8.decode s pos).1).1 = false → Failed s (stepF s c pos (Utf8.decode s pos).1).2) := by
 unfold stepF; by_cases h3 : c.st = 3
 ·rw [if_pos h3]; exact word_ok h h3 hp
 ·rw [if_neg h3]; by_cases h4 : c.st = 4
  ·rw [if_pos h4]; exact points_ok h h4 hp
  ·rw [if_neg h4]; by_cases h5 : (c.st = 1 ∧ 97 ≤ (Utf8.decode s pos).1 ∧ (Utf8.decode s pos).1 ≤ 122) ∨ (c.st = 2 ∧ 48 ≤ (Utf8.decode s pos).1 ∧ (Utf8.decode s pos).1 ≤ 57)
   ·rw [if_pos h5]; have hw : (Utf8.decode s pos).2 = 1 := (rune_byte hp (by omega)).2; rw [hw]; refine ⟨fun _ => ⟨by have := h.len; simp only; omega, by have := h.fr; simp only; omega, h.ru, by omega, ?_⟩, fun e => (by cases e)⟩; rcases h.st with ⟨h0, _⟩ | ⟨h0, hl, hfr, ht, hh⟩
    ·exfalso; omega
    ·refine Or.inr ⟨h0, hl, by simp only; omega, ht, ?_⟩; rcases hh with ⟨h1, hlow⟩ | ⟨h1, hdig⟩ | ⟨h1, _⟩ | ⟨h1, _⟩
     ·refine Or.inl ⟨h1, fun k hk k1 k2 => ?_⟩; rcases Nat.lt_or_ge k pos with k3 | k3
      ·exact hlow k hk k1 k3
      ·have : k = pos := by omega
       subst this; exact (low_rune hp).1 (by omega)
     ·refine Or.inr (Or.inl ⟨h1, fun k hk k1 k2 => ?_⟩); rcases Nat.lt_or_ge k pos with k3 | k3
      ·exact hdig k hk k1 k3
      ·have : k = pos := by omega
       subst this; exact (dig_rune hp).1 (by omega)
     ·exact absurd h1 h3
     ·exact absurd h1 h4
   ·rw [if_neg h5]; have hc := close_ok h h3 h4 (fun hk h1 => by
     rw [← Bool.not_eq_true]; exact fun e => h5 (Or.inl ⟨h1, (low_rune hk).2 e⟩)) (fun hk h1 => by
     rw [← Bool.not_eq_true]; exact fun e => h5 (Or.inr ⟨h1, (dig_rune hk).2 e⟩))
    cases hok : (closeF s c pos).1 with
    | true =>
     rw [if_pos rfl]; exact begin_ok (hc.1 hok).1 (hc.1 hok).2 hp
    | false =>
     rw [if_neg (by decide)]; exact ⟨fun e => (by cases e), fun _ => hc.2 hok⟩
theorem end_open {s : ByteArray} {c : Sc} (h : ScanInv s s.size c) (h34 : c.st = 3 ∨ c.st = 4) : Failed s c := by
 obtain ⟨l, st, fr, ru⟩ := c; rcases h.st with ⟨h0, _⟩ | ⟨h0, hl, hfr, ⟨f, hf, ht⟩, hh⟩
 ·rw [h0] at h34; omega
 ·simp only at hl hfr hf ht; rcases hh with ⟨h1, _⟩ | ⟨h1, _⟩ | ⟨_, ⟨hk, hq⟩, F, hF, hW⟩ | ⟨_, ⟨hk, hq⟩, hpos⟩
  ·rw [h1] at h34; omega
  ·rw [h1] at h34; omega
  ·simp only at hk hq hW; have hc := tokAt_word hk hq; have e : wordTo s F s.size ru = none := by
    cases F with
    | zero => rfl
    | succ F => unfold wordTo; rw [dif_neg (by omega)]
   rw [hW, e] at hc; exact ⟨fr + 1, by rw [ht, toks_bad (by rw [hc]; exact Nat.le_refl _), hc]⟩
  ·simp only at hk hq hpos; have hc := tokAt_point hk hq; rw [if_neg (by rw [getElem?_neg s (fr + 1) (by omega)]; simp)] at hc; exact ⟨fr + 1, by rw [ht, toks_bad (by rw [hc]; exact Nat.le_refl _), hc]⟩
theorem end_shut {s : ByteArray} {c : Sc} (h : ScanInv s s.size c) (h0 : c.st = 0) : ∃ k, tokens s = c.l ++ [⟨0, s.size, ByteArray.empty, k⟩] := by
 rcases h.st with ⟨_, f, hf, ht⟩ | ⟨h1, _⟩
 ·have hc := cut_end (s := s) (Nat.le_refl s.size); exact ⟨s.size, by rw [ht, toks_bad (by rw [hc]; exact Nat.zero_le _), hc]⟩
 ·exact absurd h0 h1
theorem inv_start (s : ByteArray) : ScanInv s 0 ⟨[], 0, 0, 0⟩ := ⟨Nat.le_refl _, Nat.le_refl _, by decide, Nat.zero_le _, Or.inl ⟨rfl, s.size + 1, by omega, rfl⟩⟩
theorem inv_row {s : ByteArray} {pos : Nat} {c : Sc} (h : ScanInv s pos c) : RowOK s c pos := by
 intro h2; rcases h.st with ⟨h0, _⟩ | ⟨h0, hl, hfr, _, hh⟩
 ·omega
 ·refine ⟨hfr, ?_⟩; rcases hh with ⟨h1, _⟩ | ⟨h1, hdig⟩ | ⟨h1, _⟩ | ⟨h1, _⟩
  ·omega
  ·intro x hx; rw [Lib.extract_data] at hx; obtain ⟨j, hj, e⟩ := List.getElem_of_mem hx; have hp := h.le; simp at hj; rw [List.getElem_take, List.getElem_drop] at e; rw [← e]; exact hdig (c.fr + j) (by omega) (by omega) (by omega)
  ·omega
  ·omega
end Go.Proofs.YtbkaghlklkdmkaaGreatDoor
namespace Go.Proofs.YtbkaghlklkdmkaaGreatDoor
open Go.RowKit
attribute [local go_sem ↓] Go.wp_at_zero Go.wp_at_succ
theorem pCells_stop (l : List Wk.Tok) (s : ByteArray) (fr k : Nat) : pCells (l ++ [Wk.mkTok s 1 fr k]) = pCells (l ++ [⟨1, fr, ByteArray.empty, 0⟩]) := by
 rw [pCells_snoc, pCells_snoc]; rfl
structure SW (s : ByteArray) (w wr : World) (pos : Nat) (c : Sc) : Prop where
 sp : SPc w.heap.size wr w.heap.size s c
 it : wr.heap[w.heap.size + 1]? = some (.stringIter s pos)
 fr : Below w.heap.size w wr
 inv : ScanInv s pos c
theorem SW.next {s : ByteArray} {w wr : World} {pos : Nat} {c : Sc} (h : SW s w wr pos c) (p : Nat) : SPc w.heap.size (wr.iterAt (w.heap.size + 1) s p) w.heap.size s c ∧ (wr.iterAt (w.heap.size + 1) s p).heap[w.heap.size + 1]? = some (.stringIter s p) ∧ Below w.heap.size w (wr.iterAt (w.heap.size + 1) s p) := by
 obtain ⟨tv, g1, g2, g3, g4⟩ := h.sp; refine ⟨⟨tv, ?_, g2, ?_, g4⟩, Lib.iterAt_heap wr _ s pos p h.it, ?_⟩
 ·rw [Lib.iterAt_other _ _ _ _ _ (by omega)]; exact g1
 ·refine ⟨g3.1, g3.2.imp id ?_⟩; rintro ⟨g, cap, cur, e1, e2, e3, e4⟩; refine ⟨g, cap, cur, e1, e2, ?_, e4⟩; rw [Lib.iterAt_other _ _ _ _ _ ?_]
  ·exact e3
  ·intro e; rw [e, h.it] at e3; cases e3
 ·have f := h.fr; exact ⟨f.os, f.tape, f.output, by rw [Lib.iterAt_size]; exact f.size, fun k hk => by rw [Lib.iterAt_other _ _ _ _ _ (by omega)]; exact f.block k hk⟩
theorem p_scan (s : ByteArray) (w : World) (hs : s.size ≤ 1000) (hG : Gl w) :
    Calls Tryz.prog 63 #[.string s] w fun e w' => ∃ v, e = .returned v ∧ w'.ownsRow w.heap.size 134 3 v (Wk.tokens s).length (pCells (Wk.tokens s)) ∧ Below w.heap.size w w' := by
  have HG : Hid (Gl w) := hG; have h12 := hG.size; clear hG; go_enter Tryz.func63, Tryz.ntmps63; go_wp2_with fail; have HW0 : Hid (SW s w ((w.alloc (.cells #[.string s, .slice none 0 0, .int .i64 0, .int .i64 0, .int .i64 0] 205)).iter s 0) 0 ⟨[], 0, 0, 0⟩) := by
    refine ⟨⟨.slice none 0 0, ?_, Nat.le_refl _, World.ownsRow_nil _ _ _ _, by decide⟩, ?_, ?_, inv_start s⟩
    · exact blk_alloc _ (heap_alloc_new w _)
    · have := World.iter_heap (w.alloc (.cells #[.string s, .slice none 0 0, .int .i64 0, .int .i64 0, .int .i64 0] 205)) s 0; rw [show (w.alloc (.cells #[.string s, .slice none 0 0, .int .i64 0, .int .i64 0, .int .i64 0] 205)).heap.size = w.heap.size + 1 by simp] at this; exact this
    · exact ((Below.refl _ _).alloc (Nat.le_refl _) _).alloc (by simp) _
  go_loopg [4] s.size (fun gk _ wr => ∃ (pos : Nat) (c : Sc), Hid (SW s w wr pos c) ∧ gk = s.size - pos)
  case atStart => exact ⟨0, _, HW0, by omega⟩
  case round =>
    obtain ⟨pos, c, HSW, hgk⟩ := hrel; clear HW0; have hbz := HSW.out.fr.size; have hil := lt_of_block HSW.out.it; have hle := HSW.out.inv.le; by_cases hp : pos < s.size
    · have hnx : ∀ ty, (Instr.next (.pointer (some ⟨w.heap.size + 1, 0, none⟩)) true ty).run Tryz.prog wr = _ := fun ty => Lib.run_next_any_at wr (w.heap.size + 1) s pos ty HSW.out.it hp
      have HN : Hid _ := HSW.out.next (pos + (Utf8.decode s pos).2)
      have HOK : Hid _ := step_ok HSW.out.inv hp; have hdl := decode_lt s pos; have hdp := Wk.decode_pos s pos hp; have hz : (wr.iterAt (w.heap.size + 1) s (pos + (Utf8.decode s pos).2)).heap.size = wr.heap.size := Lib.iterAt_size _ _ _ _; generalize hW1 : wr.iterAt (w.heap.size + 1) s (pos + (Utf8.decode s pos).2) = W1 at *
      generalize hrr : (Utf8.decode s pos).1 = r at *
      have HNX : Hid _ := hW1; clear hW1; have HRR : Hid ((Utf8.decode s pos).1 = r) := hrr; clear hrr; go_wp2_with fail; refine (p_step w.heap.size w.heap.size s c W1 pos r h12 (by omega) (HG.out.below HN.out.2.2 h12) HN.out.1 HSW.out.inv.fr hp hs (by have := HSW.out.inv.len; omega) HSW.out.inv.ru hdl (inv_row HSW.out.inv)).mono ?_; rintro e W2 ⟨rfl, hs2, hf2⟩; have HS2 : Hid (SPc w.heap.size W2 w.heap.size s (stepF s c pos r).2) := hs2; have HF2 : Hid (FrT w.heap.size [205, 134] W1 W2) := hf2; have HI2 : Hid (W2.heap[w.heap.size + 1]? = some (.stringIter s (pos + (Utf8.decode s pos).2))) := hf2.kept _ _ HN.out.2.1 (by simp [inTs]); have HB2 : Hid (Below w.heap.size w W2) := HN.out.2.2.trans hf2.below; clear hs2 hf2 hnx; cases hok : (stepF s c pos r).1 with
      | true =>
        have hi := HOK.out.1 hok; have HSW2 : Hid (SW s w W2 (pos + (Utf8.decode s pos).2) (stepF s c pos r).2) := ⟨HS2.out, HI2.out, HB2.out, hi⟩
        clear hi hok; go_wp2_with fail; go_roundg (s.size - (pos + (Utf8.decode s pos).2)); case measure => omega
        case rel => exact ⟨_, _, HSW2, rfl⟩
      | false =>
        have hfl := HOK.out.2 hok; have HFL : Hid _ := hfl; clear hfl hok; go_wp2_with fail; refine (p_bad w.heap.size w.heap.size s _ _ _ _ W2 (HB2.out.size) HS2.out).mono ?_; rintro e W3 ⟨v, rfl, hown, hf3⟩; have HO3 : Hid _ := hown; have HF3 : Hid _ := hf3; clear hown hf3; go_wp2_with fail; go_ret; obtain ⟨k, hk⟩ := HFL.out; refine ⟨_, rfl, ?_, HB2.out.trans HF3.out.below⟩; rw [hk, List.length_append, pCells_stop]; exact HO3.out
    · have hnx : ∀ ty, (Instr.next (.pointer (some ⟨w.heap.size + 1, 0, none⟩)) true ty).run Tryz.prog wr = _ := fun ty => Lib.run_next_end_at wr (w.heap.size + 1) s pos ty HSW.out.it hp
      have hpe : pos = s.size := by omega
      subst hpe; obtain ⟨c0, c2, c3, c4, cf⟩ := HSW.out.sp.all; obtain ⟨tv, g1, g2, g3, g4⟩ := HSW.out.sp; have hIL := HSW.out.inv.len; have HG1 : Hid _ := g1; have HG3 : Hid _ := g3; clear g1 g3 c0 c3 c4 cf; by_cases h3 : c.st = 3
      · have d3 : ((c.st : Int) == 3) = true := by rw [beq_iff_eq]; omega
        have HFL : Hid _ := end_open HSW.out.inv (Or.inl h3); clear h3; generalize c.st = st at *
        go_wp2_with fail; refine (p_bad w.heap.size w.heap.size s _ _ _ _ wr hbz HSW.out.sp).mono ?_; rintro e W3 ⟨v, rfl, hown, hf3⟩; have HO3 : Hid _ := hown; have HF3 : Hid _ := hf3; clear hown hf3; go_wp2_with fail; go_ret; obtain ⟨k, hk⟩ := HFL.out; refine ⟨_, rfl, ?_, HSW.out.fr.trans HF3.out.below⟩; rw [hk, List.length_append, pCells_stop]; exact HO3.out
      · have d3 : ((c.st : Int) == 3) = false := by rw [beq_eq_false_iff_ne]; omega
        by_cases h4 : c.st = 4
        · have d4 : ((c.st : Int) == 4) = true := by rw [beq_iff_eq]; omega
          have HFL : Hid _ := end_open HSW.out.inv (Or.inr h4); clear h3 h4; generalize c.st = st at *
          go_wp2_with fail; refine (p_bad w.heap.size w.heap.size s _ _ _ _ wr hbz HSW.out.sp).mono ?_; rintro e W3 ⟨v, rfl, hown, hf3⟩; have HO3 : Hid _ := hown; have HF3 : Hid _ := hf3; clear hown hf3; go_wp2_with fail; go_ret; obtain ⟨k, hk⟩ := HFL.out; refine ⟨_, rfl, ?_, HSW.out.fr.trans HF3.out.below⟩; rw [hk, List.length_append, pCells_stop]; exact HO3.out
        · have d4 : ((c.st : Int) == 4) = false := by rw [beq_eq_false_iff_ne]; omega
          have HC : Hid _ := close_ok HSW.out.inv h3 h4 (fun hk => absurd hk (by omega)) (fun hk => absurd hk (by omega)); clear h3 h4; generalize c.st = st at *
          go_wp2_with fail; refine (p_closeF w.heap.size w.heap.size s c wr s.size hbz (HG.out.belowAll HSW.out.fr) HSW.out.sp HSW.out.inv.fr (Nat.le_refl _) hs (by omega) (inv_row HSW.out.inv)).mono ?_; rintro e W2 ⟨rfl, hs2, hf2⟩; have HS2 : Hid (SPc w.heap.size W2 w.heap.size s (closeF s c s.size).2) := hs2; have HB2 : Hid (Below w.heap.size w W2) := HSW.out.fr.trans hf2.below; have hz2 := HB2.out.size; clear hs2 hf2 hnx; cases hok : (closeF s c s.size).1 with
          | false =>
            have hfl := HC.out.2 hok; have HFL : Hid _ := hfl; clear hfl hok; go_wp2_with fail; refine (p_bad w.heap.size w.heap.size s _ _ _ _ W2 hz2 HS2.out).mono ?_; rintro e W3 ⟨v, rfl, hown, hf3⟩; have HO3 : Hid _ := hown; have HF3 : Hid _ := hf3; clear hown hf3; go_wp2_with fail; go_ret; obtain ⟨k, hk⟩ := HFL.out; refine ⟨_, rfl, ?_, HB2.out.trans HF3.out.below⟩; rw [hk, List.length_append, pCells_stop]; exact HO3.out
          | true =>
            have HD : Hid _ := end_shut (HC.out.1 hok).1 (HC.out.1 hok).2; have hl2 : (closeF s c s.size).2.l.length ≤ 1000 := by have := (HC.out.1 hok).1.len; omega
            clear hok; obtain ⟨tv', g1', g2', g3', g4'⟩ := HS2.out; have k1 := bc 1 g1' rfl; have HG1' : Hid _ := g1'; generalize hl : (closeF s c s.size).2.l = l at *
            clear hl; have HO : Hid (∀ o, (W2.alloc o).ownsRow w.heap.size 134 3 tv' l.length (pCells l)) := fun o => owns_below g3' ((Below.refl _ _).alloc (Nat.le_refl _) _)
            have HBA : Hid (∀ o, Below w.heap.size w (W2.alloc o)) := fun o => HB2.out.alloc hz2 o
            obtain ⟨i0, hi0, hz0, hz1, hz2'⟩ := info_parts Tryz.info134; clear g1' g3' c2; go_wp2_with first
              | (at_builtin; refine wpList_append_lies _ (by rfl) (.tmp 35) (.tmp 39) 73 (by rfl) w.heap.size 134 i0 _ 3 32 Tryz.und73 hi0 hz0 hz1 hz2' (by rfl) (by omega) tv' l.length (pCells l) (by simp [Act.eval]) (HO.out _) ⟨W2.heap.size, 0, none⟩ 1 1 [.int .i64 0, .int .i64 s.size, .string ⟨#[]⟩] (by simp [Act.eval]) (by rfl) (World.news_of_block (cs := #[.int .i64 0, .int .i64 s.size, .string ⟨#[]⟩]) (heap_alloc_new _ _)) (by intro u hu; simp at hu; rcases hu with rfl | rfl | rfl <;> rfl) (by omega) (by unfold maxLen; omega) (by omega) (by have := (HBA.out (.cells #[] 0)).size; simp at this ⊢; omega) (W2.heap.size + 1) (by simp) ?_
                 intro g cap w6 hown6 hgrow6 hat6 hlt6; have HO6 : Hid _ := hown6; have HB6 : Hid (Below w.heap.size w w6) := by
                   have hb := HBA.out (.cells #[.int .i64 0, .int .i64 s.size, .string ⟨#[]⟩] 134); refine ⟨hgrow6.os.trans hb.os, hgrow6.tape.trans hb.tape, hgrow6.output.trans hb.output, Nat.le_trans hb.size hgrow6.size, fun k hk => (hgrow6.block k (by have := hb.size; omega) ?_).trans (hb.block k hk)⟩; intro e; have := (World.ownsRow.lt (HO.out (.cells #[.int .i64 0, .int .i64 s.size, .string ⟨#[]⟩] 134)) k e.symm).1; omega
                 clear hown6 hgrow6 hat6 hlt6)
              | fail
            go_ret; obtain ⟨k, hk⟩ := HD.out; refine ⟨_, rfl, ?_, HB6.out⟩; rw [hk, List.length_append, pCells_snoc]; exact HO6.out
end Go.Proofs.YtbkaghlklkdmkaaGreatDoor
