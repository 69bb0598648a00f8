/-
  The parser of the document's answer: need, kind. The parser of the document's answer: opens, minus.
-/
import Derived.Test.YtbkaghlklkdmkaaGreatDoorME3
import Derived.Deep.RegionHeld3
import Derived.Deep.DrawnRows
import Derived.Deep.Cut
set_option maxRecDepth 100000
set_option maxHeartbeats 8000000
namespace Go.Proofs.YtbkaghlklkdmkaaGreatDoor
open Go.RowKit
section
variable {B : Nat} {s : ByteArray} {T : List Wk.Tok}
theorem r_need (E : RE B s T) (b : Nat) (q : Wk.St) (nest : Int) (kd : Nat) (x : ByteArray) (w : World) (hw : RW B w) (h : RP B s T w b q nest) (h6 : 6 ≤ kd := by decide) (h41 : kd ≤ 41 := by decide) (hx : x.data.toList = spellOf kd := by decide) :
  Calls Tryz.prog 75 #[.pointer (some ⟨b, 0, none⟩), .string x] w fun e w' => e = .returned (.tuple #[]) ∧ RP B s T w' b (q.want T kd) nest ∧ FrP B b w w' := by
 have HI : Hid _ := r_is B s T E.spelt b q nest kd x w h h6 h41 hx; cases hk : q.isK T kd with
 | true =>
  have HW : Hid (q.want T kd = q.adv) := if_pos hk; have HS : Hid (takeS T false q = q.adv) := takeS_adv hk (by omega) (by omega) false; go_enter Tryz.func75, Tryz.ntmps75; go_wp2_with fail; refine (Calls.mono HI.out ?_); rintro e w' ⟨rfl, rfl⟩; rw [hk]; go_wp2_with fail; refine (r_take E b q nest _ hw h).mono ?_; rintro e w2 ⟨⟨nk, nt, na, rfl, -, -⟩, h1, h2⟩; have H1 : Hid _ := h1; have H2 : Hid _ := h2; clear h1 h2; go_wp2_with fail; go_end0
  refine ⟨rfl, ?_, H2.out⟩; rw [HW.out, ← HS.out]; exact H1.out
 | false =>
  have HW : Hid (q.want T kd = q.fail T) := if_neg (by rw [hk]; decide); have HS : Hid (takeS T false (q.fail T) = q.fail T) := takeS_bad T false (by unfold Wk.St.fail; cases hb : q.bad <;> simp [hb]); go_enter Tryz.func75, Tryz.ntmps75; go_wp2_with fail; refine (Calls.mono HI.out ?_); rintro e w' ⟨rfl, rfl⟩; rw [hk]; go_wp2_with fail; refine (r_fail B s T b q nest _ h).mono ?_; rintro e w1 ⟨rfl, h1, h2⟩; have H1 : Hid (RP B s T w1 b (q.fail T) nest) := h1; have H2 : Hid (FrP B b w' w1) := h2; clear h1 h2; go_wp2_with fail; refine (r_take E b (q.fail T) nest _ (hw.fr E.base H2.out.toFrT) H1.out).mono ?_; rintro e w2 ⟨⟨nk, nt, na, rfl, -, -⟩, h1, h2⟩; have H3 : Hid _ := h1; have H4 : Hid (FrP B b w1 w2) := h2; clear h1 h2; go_wp2_with fail; go_end0
  refine ⟨rfl, ?_, H2.out.trans H4.out⟩; rw [HW.out, ← HS.out]; exact H3.out
def kindS (T : List Wk.Tok) (mv : Bool) (c : Nat) (q : Wk.St) : Wk.St := if q.bad.isNone && rkind (Wk.tokK T q.k).kind mv == c then q.adv else q.fail T
def kindEnd (T : List Wk.Tok) (mv : Bool) (c : Nat) (q : Wk.St) (e : Ending) : Prop :=
 ∃ (nk : Nat) (nt : ByteArray) (na : Nat), e = .returned (.agg #[.int .u8 nk, .string nt, .int .i64 na]) ∧ nt.size ≤ 1000 ∧ ((kindS T mv c q).bad = none → q.bad = none ∧ rkind (Wk.tokK T q.k).kind mv = c ∧ nt = (Wk.tokK T q.k).text ∧ na = (Wk.tokK T q.k).place)
theorem rpn_box2 {w W w' : World} {b : Nat} {q : Wk.St} {nest : Int} {tv : Value} (h : RPn B s T W w' b q nest tv) (hW : w.heap.size + 1 ≤ W.heap.size) (hlt : b < w.heap.size) (hrow : ∀ g, tv.ownBlock = some g → g < w.heap.size) (x y z : Value) :
  RPn B s T w (((w'.setCell ⟨w.heap.size, 0, none⟩ x).setCell ⟨w.heap.size, 1, none⟩ y).setCell ⟨w.heap.size, 2, none⟩ z) b q nest tv := by
 obtain ⟨tv', h1, h2⟩ := h; refine ⟨tv', h1.fr (Fr.set3 _ _ _ _ _) (by omega) (fun g hg => ?_), fun g hg => (h2 g hg).imp id (fun h => by omega)⟩; rcases h2 g hg with h | h
 ·have := hrow g h; omega
 ·omega
theorem rpn_box {w w' : World} {b : Nat} {q : Wk.St} {nest : Int} {tv : Value} {o : Obj} (h : RPn B s T (w.alloc o) w' b q nest tv) (hlt : b < w.heap.size) (hrow : ∀ g, tv.ownBlock = some g → g < w.heap.size) (x y z : Value) :
  RPn B s T w (((w'.setCell ⟨w.heap.size, 0, none⟩ x).setCell ⟨w.heap.size, 1, none⟩ y).setCell ⟨w.heap.size, 2, none⟩ z) b q nest tv :=
 rpn_box2 h (by simp) hlt hrow x y z
theorem kind_told {mv : Bool} {c : Nat} {q : Wk.St} {nk : Nat} {nt : ByteArray} {na : Nat} (hc : c = 48 ∨ c = 34 ∨ c = 110)
  (ht : q.bad = none → nk = rkind (Wk.tokK T q.k).kind mv ∧ nt = rtext (Wk.tokK T q.k) mv ∧ na = (Wk.tokK T q.k).place) (he : (kindS T mv c q).bad = none) :
  q.bad = none ∧ rkind (Wk.tokK T q.k).kind mv = c ∧ nt = (Wk.tokK T q.k).text ∧ na = (Wk.tokK T q.k).place := by
 unfold kindS at he; split at he
 ·rename_i hx; simp only [Bool.and_eq_true, Option.isNone_iff_eq_none, beq_iff_eq] at hx; obtain ⟨a, b, c'⟩ := ht hx.1; refine ⟨hx.1, hx.2, ?_, c'⟩; rw [b]; unfold rtext; rw [if_neg (by omega)]
 ·exfalso; unfold Wk.St.fail at he; cases hb : q.bad <;> simp [hb] at he
theorem r_kindX (E : RE B s T) (b : Nat) (q : Wk.St) (nest : Int) (tv : Value) (mv : Bool) (c : Nat) (w : World) (hw : RW B w) (h : RPx B s T w b q nest tv mv) (hc : c = 48 ∨ c = 34 ∨ c = 110) :
  Calls Tryz.prog 73 #[.pointer (some ⟨b, 0, none⟩), .int .u8 c] w fun e w' => kindEnd T mv c q e ∧ RPn B s T w w' b (kindS T mv c q) nest tv ∧ Fr (ownX b tv) w w' := by
 have HR : Hid (RPx B s T w b q nest tv mv) := h; obtain ⟨nk, nt, na, i, n, xs, h1, h2, h3, h4, h5⟩ := h; obtain ⟨-, c1, -, -, -, -, -, -, -⟩ := rp_cells h1; have hlt := lt_of_block h1; have H3 : Hid _ := h3; have H5 : Hid _ := h5; clear h1 h3 h5; by_cases hm : nk = c
 ·have hm1 : ((nk : Int) != (c : Int)) = false := by simp [hm]
  have HS : Hid (takeS T mv q = kindS T mv c q) := by
   show _ = _; unfold kindS; cases hb : q.bad with
   | some p => rw [takeS_bad T mv (by rw [hb]; rfl)]; simp [Wk.fail_bad T (q := q) (by rw [hb]; rfl)]
   | none =>
    have hn := H5.out hb; have hk : rkind (Wk.tokK T q.k).kind mv = c := by rw [← hn.kind]; exact hm
    simp only [hk, Option.isNone_none, beq_self_eq_true, Bool.and_self, if_true]; unfold takeS; rw [if_neg]; rintro (a | ⟨a, a'⟩)
    ·have : (Wk.tokK T q.k).kind = 0 ∨ (Wk.tokK T q.k).kind = 1 := by omega
     rcases this with e | e <;> (rw [e] at hk; simp [rkind] at hk; omega)
    ·rw [a, a'] at hk; simp [rkind] at hk; omega
  clear hm; go_enter Tryz.func73, Tryz.ntmps73; go_wp2_with fail; have hb1 : Below w.heap.size w (w.alloc (Obj.cells #[Value.int IntKind.u8 0, Value.string { data := #[] }, Value.int IntKind.i64 0] 87)) := (Below.refl _ _).alloc (Nat.le_refl _) _; refine (r_takeX B s T E.fol E.len b q nest tv mv _ (hw.below hb1).gl E.base E.short (hw.below hb1).size (HR.out.below hb1)).mono ?_; rintro e w2 ⟨⟨nk2, nt2, na2, rfl, hsz2, ht⟩, hr, hf⟩; have hrb : w2.heap[w.heap.size]? = some (.cells #[.int .u8 0, .string ⟨#[]⟩, .int .i64 0] 87 (0, 0)) := by
   refine (hf.block _ (by simp) ?_).trans (heap_alloc_new _ _); rintro (e | e)
   ·omega
   ·have := (World.ownsRow.lt H3.out _ e.symm).2; omega
  have r0 := bc 0 hrb rfl; have r1 := bc 1 hrb rfl; have r2 := bc 2 hrb rfl; have rf := blk_free hrb; have HF : Hid (Fr (ownX b tv) _ w2) := hf; have HR2 : Hid (RPn B s T _ w2 b (takeS T mv q) nest tv) := hr; have HT : Hid _ := ht; have HB1 : Hid _ := hb1; clear hf hr ht hb1 hrb; go_wp2_with fail; refine bodyPost_ret (v := .agg #[.int .u8 nk2, .string nt2, .int .i64 na2]) (by simp [results, Tryz.results73, go_sem, r0, r1, r2]) rfl ⟨⟨nk2, nt2, na2, rfl, hsz2, ?_⟩, ?_, ?_⟩
  ·exact kind_told hc HT.out
  ·rw [← HS.out]; exact rpn_box HR2.out hlt (fun g hg => (World.ownsRow.lt H3.out g hg).2) _ _ _
  ·exact ((Fr.ofBelow HB1.out).then HF.out (fun k e => Or.inl e)).then (Fr.set3 _ _ _ _ _) (fun k e => Or.inr (by omega))
 ·have hm1 : ((nk : Int) != (c : Int)) = true := by rw [bne_iff_ne]; omega
  have HS : Hid (q.fail T = kindS T mv c q) := by
   show _ = _; unfold kindS; rw [if_neg]; intro hx; simp only [Bool.and_eq_true, Option.isNone_iff_eq_none, beq_iff_eq] at hx; have hn := H5.out hx.1; exact hm (by rw [hn.kind]; exact hx.2)
  have hfb : (q.fail T).bad.isSome = true := by unfold Wk.St.fail; cases hb : q.bad <;> simp [hb]
  have HFB : Hid ((q.fail T).bad.isSome = true) := hfb; clear hm hfb; go_enter Tryz.func73, Tryz.ntmps73; go_wp2_with fail; have hb1 : Below w.heap.size w (w.alloc (Obj.cells #[Value.int IntKind.u8 0, Value.string { data := #[] }, Value.int IntKind.i64 0] 87)) := (Below.refl _ _).alloc (Nat.le_refl _) _; refine (r_failX B s T b q nest tv mv _ (HR.out.below hb1)).mono ?_; rintro e w1 ⟨rfl, hr, hf⟩; have hrb : w1.heap[w.heap.size]? = some (.cells #[.int .u8 0, .string ⟨#[]⟩, .int .i64 0] 87 (0, 0)) :=
   (hf.block _ (by simp) (by omega)).trans (heap_alloc_new _ _)
  have HB1 : Hid _ := hb1; have HRB : Hid _ := hrb; have HF : Hid (Fr (fun k => k = b) _ w1) := hf; have HR1 : Hid (RPx B s T w1 b (q.fail T) nest tv mv) := hr; have hw1 : RW B w1 := ⟨hf.gl (fun k hk e => by have := E.base; omega) (hw.below hb1).gl, by have := hf.size; have := (hw.below hb1).size; omega⟩
  have HW1 : Hid _ := hw1; clear hf hr hb1 hrb hw1; go_wp2_with fail; refine (r_takeX B s T E.fol E.len b (q.fail T) nest tv mv _ HW1.out.gl E.base E.short HW1.out.size HR1.out).mono ?_; rintro e w2 ⟨⟨nk2, nt2, na2, rfl, hsz2, ht⟩, hr, hf⟩; have hrb : w2.heap[w.heap.size]? = some (.cells #[.int .u8 0, .string ⟨#[]⟩, .int .i64 0] 87 (0, 0)) := by
   refine (hf.block _ (lt_of_block HRB.out) ?_).trans HRB.out; rintro (e | e)
   ·omega
   ·have := (World.ownsRow.lt H3.out _ e.symm).2; omega
  have r0 := bc 0 hrb rfl; have r1 := bc 1 hrb rfl; have r2 := bc 2 hrb rfl; have rf := blk_free hrb; have HF2 : Hid (Fr (ownX b tv) w1 w2) := hf; have HR2 : Hid (RPn B s T w1 w2 b (takeS T mv (q.fail T)) nest tv) := hr; clear hf hr ht hrb; go_wp2_with fail; refine bodyPost_ret (v := .agg #[.int .u8 nk2, .string nt2, .int .i64 na2]) (by simp [results, Tryz.results73, go_sem, r0, r1, r2]) rfl ⟨⟨nk2, nt2, na2, rfl, hsz2, ?_⟩, ?_, ?_⟩
  ·intro e; rw [← HS.out] at e; have := HFB.out; rw [e] at this; cases this
  ·rw [← HS.out, ← takeS_bad T mv HFB.out]; exact rpn_box2 HR2.out (by have := HF.out.size; simp at this; omega) hlt (fun g hg => (World.ownsRow.lt H3.out g hg).2) _ _ _
  ·exact (((Fr.ofBelow HB1.out).then HF.out (fun k e => Or.inl (Or.inl e))).then HF2.out (fun k e => Or.inl e)).then (Fr.set3 _ _ _ _ _) (fun k e => Or.inr (by omega))
end
end Go.Proofs.YtbkaghlklkdmkaaGreatDoor
namespace Go.Proofs.YtbkaghlklkdmkaaGreatDoor
open Go.RowKit
attribute [local go_sem ↓] Go.wp_at_zero Go.wp_at_succ
section
variable {B : Nat} {s : ByteArray} {T : List Wk.Tok}
theorem RP.nestSet {w : World} {b : Nat} {q : Wk.St} {nest : Int} (h : RP B s T w b q nest) (z : Int) : RP B s T (w.setCell ⟨b, 7, none⟩ (.int .i64 z)) b q z ∧ FrP B b w (w.setCell ⟨b, 7, none⟩ (.int .i64 z)) := by
 obtain ⟨tv, nk, nt, na, i, n, xs, h1, h2, h3, h4, h5⟩ := h; refine ⟨⟨tv, nk, nt, na, i, n, xs, ?_, h2, owns_other h3 h1 (by decide) _, h4, h5⟩, (FrP.refl _ _ _).setOwn h1 h2 (by decide) _⟩; rw [blk_set _ h1]; simp [rpBlock]
theorem RP.nestCell {w : World} {b : Nat} {q : Wk.St} {nest : Int} (h : RP B s T w b q nest) : w.cell? ⟨b, 7, none⟩ = some (.int .i64 nest) ∧ (∀ o, w.frozen? ⟨b, o, none⟩ = false) := by
 obtain ⟨tv, nk, nt, na, i, n, xs, h1, h2, h3, h4, h5⟩ := h; have := rp_cells h1; exact ⟨this.2.2.2.2.2.2.2.1, this.2.2.2.2.2.2.2.2⟩
theorem r_opens (b : Nat) (q : Wk.St) (nest : Int) (w : World) (h : RP B s T w b q nest) (h0 : 0 ≤ nest) (h10 : nest ≤ 10) :
  Calls Tryz.prog 114 #[.pointer (some ⟨b, 0, none⟩)] w fun e w' => e = .returned (.tuple #[]) ∧ RP B s T w' b (if nest = 10 then q.fail T else q) (nest + 1) ∧ FrP B b w w' := by
 obtain ⟨c7, cf⟩ := h.nestCell; have H : Hid _ := h; clear h; by_cases hn : nest = 10
 ·have hn1 : (nest == 10) = true := by simp [hn]
  rw [if_pos hn]; clear hn; go_enter Tryz.func114, Tryz.ntmps114; go_wp2_with fail; refine (r_fail B s T b q nest _ H.out).mono ?_; rintro e w1 ⟨rfl, h1, h2⟩; obtain ⟨c7, cf⟩ := h1.nestCell; have H1 : Hid (RP B s T w1 b (q.fail T) nest) := h1; have H2 : Hid (FrP B b w w1) := h2; clear h1 h2; go_wp2_with fail; go_end0
  exact ⟨rfl, (H1.out.nestSet _).1, H2.out.trans (H1.out.nestSet _).2⟩
 ·have hn1 : (nest == 10) = false := by simp [hn]
  rw [if_neg hn]; clear hn; go_enter Tryz.func114, Tryz.ntmps114; go_wp2_with fail; go_end0
  exact ⟨rfl, RP.nestSet H.out _⟩
theorem taken_last {w : World} {tv : Value} {n : Nat} {xs : List Value} {k : Nat} (h3 : w.ownsRow B 87 3 tv n xs) (hn : n = k + 1) (hx : xs = takenCells T (k + 1)) :
  ∃ g cap, tv = .slice (some ⟨g, 0, none⟩) (k + 1) cap ∧ k + 1 ≤ cap ∧ w.cell? ⟨g, k * 3, none⟩ = some (.int .u8 (rkind (Wk.tokK T k).kind true)) ∧ w.cell? ⟨g, k * 3 + 1, none⟩ = some (.string (rtext (Wk.tokK T k) true)) ∧ w.cell? ⟨g, k * 3 + 2, none⟩ = some (.int .i64 (Wk.tokK T k).place) := by
 subst hn; subst hx; have hl := takenCells_len T k; rcases h3.2 with ⟨_, h⟩ | ⟨g, cap, cur, rfl, hb, hgg, hc, hm, hs, ht⟩
 ·omega
 ·refine ⟨g, cap, rfl, hc, ?_, ?_, ?_⟩; all_goals
   rw [cell_of_row w g _ cur 87 (0, 0) hgg]; have e : ∀ (j : Nat) (u : Value), (takenCells T (k + 1))[j]? = some u → cur[j]? = some u := by
    intro j u hu; rw [← ht, List.getElem?_take] at hu; split at hu
    ·simpa using hu
    ·cases hu
   apply e; rw [takenCells_succ]; first
    | (rw [List.getElem?_append_right (by omega), show k * 3 - (takenCells T k).length = 0 by omega]; rfl)
    | (rw [List.getElem?_append_right (by omega), show k * 3 + 1 - (takenCells T k).length = 1 by omega]; rfl)
    | (rw [List.getElem?_append_right (by omega), show k * 3 + 2 - (takenCells T k).length = 2 by omega]; rfl)
theorem minus_stop (E : RE B s T) {k : Nat} (hk : k < T.length) (h : (Wk.tokK T k).kind = 28) : (Wk.tokK T k).stop = (Wk.tokK T k).place + 1 := by
 have ht := E.spelt.text k hk (by omega); rw [h] at ht; have key : ∀ i, Wk.tokK T k = Wk.cut s i → (Wk.tokK T k).stop = (Wk.tokK T k).place + 1 := by
  intro i e; have hc := Wk.cut_ok s i (by rw [← e, h]; decide); rw [← e] at hc; obtain ⟨_, h2, _, h4, h5⟩ := hc; have hl : (Wk.tokK T k).text.data.toList.length = 1 := by rw [ht]; decide
  rw [h5, extract_len h2] at hl; omega
 cases k with
 | zero => exact key 0 E.fol.first
 | succ k => exact key _ (E.fol.next k hk)
theorem cutm_a (m : Bool) {s : ByteArray} {t : Wk.Tok} {wc w2 : World} {kk : Nat} (hb : Below wc.drew.heap.size wc.drew w2) (hk1 : kk ≤ s.size + 4) (hk2 : 2 ≤ t.kind → kk = t.stop) :
  ∃ nb kk' : Nat, Value.pointer (some ⟨w2.heap.size, 0, none⟩) = .pointer (some ⟨nb, 0, none⟩) ∧ Value.int .i64 kk = .int .i64 kk' ∧ kk' ≤ s.size + 4 ∧ Hid (2 ≤ t.kind → kk' = t.stop) ∧ wc.heap.size ≤ nb ∧
   Below wc.heap.size wc (w2.alloc (.cells #[.int .u8 (rkind t.kind m), .string (rtext t m), .int .i64 t.place] 87)) ∧
   (w2.alloc (.cells #[.int .u8 (rkind t.kind m), .string (rtext t m), .int .i64 t.place] 87)).heap[nb]? = some (.cells #[.int .u8 (rkind t.kind m), .string (rtext t m), .int .i64 t.place] 87 (0, 0)) := by
 have hb' : Below wc.heap.size wc w2 := ⟨hb.os, hb.tape, hb.output, hb.size, hb.block⟩
 exact ⟨w2.heap.size, kk, rfl, rfl, hk1, hk2, hb'.size, hb'.alloc hb'.size _, heap_alloc_new _ _⟩
theorem cutm_b (m : Bool) {s : ByteArray} {t : Wk.Tok} {wc w2 : World} {kk : Nat} (hb : Below (wc.alloc (.cells #[.int .u8 0, .string ⟨#[]⟩, .int .i64 0] 87)).drew.heap.size (wc.alloc (.cells #[.int .u8 0, .string ⟨#[]⟩, .int .i64 0] 87)).drew w2) (hk1 : kk ≤ s.size + 4) (hk2 : 2 ≤ t.kind → kk = t.stop) :
  ∃ nb kk' : Nat, Value.pointer (some ⟨wc.heap.size, 0, none⟩) = .pointer (some ⟨nb, 0, none⟩) ∧ Value.int .i64 kk = .int .i64 kk' ∧ kk' ≤ s.size + 4 ∧ Hid (2 ≤ t.kind → kk' = t.stop) ∧ wc.heap.size ≤ nb ∧
   Below wc.heap.size wc (((w2.setCell ⟨wc.heap.size, 0, none⟩ (.int .u8 (rkind t.kind m))).setCell ⟨wc.heap.size, 1, none⟩ (.string (rtext t m))).setCell ⟨wc.heap.size, 2, none⟩ (.int .i64 t.place)) ∧
   (((w2.setCell ⟨wc.heap.size, 0, none⟩ (.int .u8 (rkind t.kind m))).setCell ⟨wc.heap.size, 1, none⟩ (.string (rtext t m))).setCell ⟨wc.heap.size, 2, none⟩ (.int .i64 t.place)).heap[nb]? = some (.cells #[.int .u8 (rkind t.kind m), .string (rtext t m), .int .i64 t.place] 87 (0, 0)) := by
 have h1 : Below wc.heap.size wc (wc.alloc (.cells #[.int .u8 0, .string ⟨#[]⟩, .int .i64 0] 87)) := (Below.refl _ _).alloc (Nat.le_refl _) _; have hb' : Below (wc.alloc (.cells #[.int .u8 0, .string ⟨#[]⟩, .int .i64 0] 87)).heap.size (wc.alloc (.cells #[.int .u8 0, .string ⟨#[]⟩, .int .i64 0] 87)) w2 := ⟨hb.os, hb.tape, hb.output, hb.size, hb.block⟩
 have hsz : (wc.alloc (.cells #[.int .u8 0, .string ⟨#[]⟩, .int .i64 0] 87)).heap.size = wc.heap.size + 1 := by simp
 have hbk : w2.heap[wc.heap.size]? = some (.cells #[.int .u8 0, .string ⟨#[]⟩, .int .i64 0] 87 (0, 0)) := (hb'.block _ (by omega)).trans (heap_alloc_new _ _); refine ⟨wc.heap.size, kk, rfl, rfl, hk1, hk2, Nat.le_refl _, ((((h1.trans (hb'.mono (by omega))).setCell (by simp) _).setCell (by simp) _).setCell (by simp) _), ?_⟩; rw [blk_set _ (blk_set _ (blk_set _ hbk))]; simp
theorem wrap_small {p : Nat} (h : p ≤ 1000) : IntKind.i64.wrap ((p : Int) + 1) = ((p + 1 : Nat) : Int) := by
 rw [Go.IntWalk.i64_in _ (by omega)]; omega
theorem r_cutI (s : ByteArray) (i : Nat) (z : Int) (hz : z = (i : Int)) (m : Bool) (w : World) (hi : i ≤ s.size) (hs : s.size ≤ 1000) (hG : Gl w) :
  Calls Tryz.prog 45 #[.string s, .int .i64 z, .bool m] w fun e w' => cutEnd s (Wk.cut s i) m e ∧ Below w.heap.size w w' := by
 subst hz; exact r_cut s i m w hi hs hG
theorem RP.setOther {w : World} {b : Nat} {q : Wk.St} {nest : Int} (h : RP B s T w b q nest) {k o : Nat} {cs : Array Value} {t : TypeId} {fr : Nat × Nat} (hk : w.heap[k]? = some (.cells cs t fr)) (h1 : t ≠ 126) (h2 : t ≠ 87) (v : Value) : RP B s T (w.setCell ⟨k, o, none⟩ v) b q nest := by
 obtain ⟨tv, h⟩ := h; refine ⟨tv, h.fr (Fr.setCell (fun x => x = k) _ _ _ rfl) ?_ ?_⟩
 ·intro e; obtain ⟨nk, nt, na, i, n, xs, g1, _⟩ := h; rw [e, hk] at g1; simp [rpBlock] at g1; exact h1 g1.2.1
 ·intro g hg e; obtain ⟨nk, nt, na, i, n, xs, _, _, g3, _⟩ := h; rcases g3.2 with ⟨rfl, _⟩ | ⟨g', cap', cur, rfl, _, hgg, _⟩
  ·simp [Value.ownBlock] at hg
  ·simp [Value.ownBlock] at hg; rw [hg.trans e, hk] at hgg; simp at hgg; exact h2 hgg.2.1
theorem RP.alloc {w : World} {b : Nat} {q : Wk.St} {nest : Int} (h : RP B s T w b q nest) (o : Obj) : RP B s T (w.alloc o) b q nest := h.below ((Below.refl _ _).alloc (Nat.le_refl _) _)
theorem RP.tree {w : World} {b : Nat} {q : Wk.St} {nest : Int} (h : RP B s T w b q nest) {k : Nat} {cs : Array Value} (hk : w.heap[k]? = some (.cells cs 107 (0, 0))) (v0 v1 v2 v3 : Value) :
  RP B s T ((((w.setCell ⟨k, 0, none⟩ v0).setCell ⟨k, 1, none⟩ v1).setCell ⟨k, 2, none⟩ v2).setCell ⟨k, 3, none⟩ v3) b q nest :=
 (((h.setOther hk (by decide) (by decide) v0).setOther (blk_set _ hk) (by decide) (by decide) v1).setOther (blk_set _ (blk_set _ hk)) (by decide) (by decide) v2).setOther (blk_set _ (blk_set _ (blk_set _ hk))) (by decide) (by decide) v3
theorem FrP.tree {b : Nat} {w w' : World} (h : FrP B b w w') {k : Nat} (hk : w.heap.size ≤ k) (hB : B ≤ w.heap.size) (v0 v1 v2 v3 : Value) :
  FrP B b w ((((w'.setCell ⟨k, 0, none⟩ v0).setCell ⟨k, 1, none⟩ v1).setCell ⟨k, 2, none⟩ v2).setCell ⟨k, 3, none⟩ v3) :=
 (((h.setNew hk hB v0).setNew hk hB v1).setNew hk hB v2).setNew hk hB v3
theorem minus_set {w : World} {b : Nat} {q : Wk.St} {nest : Int} {tv : Value} {k kk : Nat} (hF : Wk.Follows s 0 T) (hss : s.size ≤ 1000) (h : RPx B s T w b q nest tv false) (hk : q.k = k + 1) (hb : q.bad = none) (hkk : 2 ≤ (Wk.tokK T (k + 1)).kind → kk = (Wk.tokK T (k + 1)).stop) :
  RPx B s T ((((w.setCell ⟨b, 1, none⟩ (.int .u8 (rkind (Wk.tokK T (k + 1)).kind true))).setCell ⟨b, 2, none⟩ (.string (rtext (Wk.tokK T (k + 1)) true))).setCell ⟨b, 3, none⟩ (.int .i64 (Wk.tokK T (k + 1)).place)).setCell ⟨b, 4, none⟩ (.int .i64 kk)) b q nest tv true ∧
  Fr (fun k => k = b) w ((((w.setCell ⟨b, 1, none⟩ (.int .u8 (rkind (Wk.tokK T (k + 1)).kind true))).setCell ⟨b, 2, none⟩ (.string (rtext (Wk.tokK T (k + 1)) true))).setCell ⟨b, 3, none⟩ (.int .i64 (Wk.tokK T (k + 1)).place)).setCell ⟨b, 4, none⟩ (.int .i64 kk)) := by
 have hf : Fr (fun k => k = b) w ((((w.setCell ⟨b, 1, none⟩ (.int .u8 (rkind (Wk.tokK T (k + 1)).kind true))).setCell ⟨b, 2, none⟩ (.string (rtext (Wk.tokK T (k + 1)) true))).setCell ⟨b, 3, none⟩ (.int .i64 (Wk.tokK T (k + 1)).place)).setCell ⟨b, 4, none⟩ (.int .i64 kk)) :=
  (((Fr.setCell (fun k => k = b) _ _ _ rfl).trans (Fr.setCell (fun k => k = b) _ _ _ rfl)).trans (Fr.setCell (fun k => k = b) _ _ _ rfl)).trans (Fr.setCell (fun k => k = b) _ _ _ rfl)
 obtain ⟨nk, nt, na, i, n, xs, h1, h2, h3, h4, h5⟩ := h; have hn := h5 hb; refine ⟨⟨rkind (Wk.tokK T (k + 1)).kind true, rtext (Wk.tokK T (k + 1)) true, (Wk.tokK T (k + 1)).place, kk, n, xs, ?_, h2, ?_, ⟨h4.1, rtext_le hF hss (by have := hn.lt; omega) true⟩, fun _ => ?_⟩, hf⟩
 ·rw [blk_set _ (blk_set _ (blk_set _ (blk_set _ h1)))]; simp [rpBlock]
 ·refine owns_fr h3 hf ?_; intro g hg e; rcases h3.2 with ⟨rfl, _⟩ | ⟨g', cap', cur, rfl, _, hgg, _⟩
  ·simp [Value.ownBlock] at hg
  ·simp [Value.ownBlock] at hg; have e2 : g' = b := hg.trans e; rw [e2, h1] at hgg; simp [rpBlock] at hgg
 ·exact ⟨hn.lt, by rw [hk], by rw [hk], by rw [hk], by rw [hk]; exact hkk, hn.len, hn.cells⟩
theorem r_minus (E : RE B s T) (b : Nat) (q : Wk.St) (k : Nat) (nest : Int) (w : World) (hw : RW B w) (h : RP B s T w b q nest) (hb : q.bad = none) (hk : q.k = k + 1) (h28 : (Wk.tokK T k).kind = 28) :
  Calls Tryz.prog 209 #[.pointer (some ⟨b, 0, none⟩)] w fun e w' => (∃ (x : ByteArray) (na : Nat), e = .returned (.agg #[.string ⟨#[48]⟩, .string x, .int .i64 na, .slice none 0 0])) ∧ RP B s T w' b (kindS T true 48 q) nest ∧ FrP B b w w' := by
 obtain ⟨tv, h⟩ := h; have HR : Hid (RPx B s T w b q nest tv false) := h; obtain ⟨nk, nt, na, i, n, xs, h1, h2, h3, h4, h5⟩ := h; have hn := h5 hb; obtain ⟨g, cap, rfl, hcap, g0, g1, g2⟩ := taken_last (k := k) h3 (by rw [hn.len, hk]) (by rw [hn.cells, hk]); obtain ⟨c0, c1, c2, c3, c4, c5, c6, c7, cf⟩ := rp_cells h1; rw [badI_none hb] at c6; have hlt := lt_of_block h1; have hkl : k < T.length := by have := hn.lt; omega
 have HST : Hid _ := minus_stop E hkl h28; have H28 : Hid _ := h28; clear h28; have hln := E.len; have hsh := E.short; have H1 : Hid _ := h1; have H3 : Hid _ := h3; have HN : Hid _ := hn; clear h1 h3 h5 hn; go_enter Tryz.func209, Tryz.ntmps209; go_upto_region 1 with fail; generalize hW1 : w.alloc (Obj.cells #[Value.string { data := #[] }, Value.string { data := #[] }, Value.int IntKind.i64 0, Value.slice none 0 0] 107) = W1; have hb1 : Below w.heap.size w W1 := by rw [← hW1]; exact (Below.refl _ _).alloc (Nat.le_refl _) _
 have hs1 : W1.heap.size = w.heap.size + 1 := by rw [← hW1]; simp
 have ht1 : W1.heap[w.heap.size]? = some (.cells #[.string ⟨#[]⟩, .string ⟨#[]⟩, .int .i64 0, .slice none 0 0] 107 (0, 0)) := by rw [← hW1]; exact heap_alloc_new _ _
 have hgl := (World.ownsRow.lt H3.out g rfl).2; clear hW1 c0 c1 c2 c3 c4 c5 c6 c7 cf; obtain ⟨c0, c1, c2, c3, c4, c5, c6, c7, cf⟩ := rp_cells ((hb1.block b hlt).trans H1.out); rw [badI_none hb] at c6; have g0 := (hb1.cell (p := ⟨g, k * 3, none⟩) hgl).trans g0; have g1 := (hb1.cell (p := ⟨g, k * 3 + 1, none⟩) hgl).trans g1; have g2 := (hb1.cell (p := ⟨g, k * 3 + 2, none⟩) hgl).trans g2; have HB1 : Hid _ := hb1; have HS1 : Hid _ := hs1; have HT1 : Hid _ := ht1; have HH : Hid (q.bad = none ∧ q.k = k + 1) := ⟨hb, hk⟩
 have hbW : b < W1.heap.size := by omega
 have hgW : g < W1.heap.size := by omega
 clear hb1 hs1 ht1 hb hk; go_cut [3] from 7 (fun v3 wx => ∃ nb, v3 = .pointer (some ⟨nb, 0, none⟩) ∧ W1.heap.size ≤ nb ∧ Below W1.heap.size W1 wx ∧ wx.heap[nb]? = some (.cells #[.int .u8 (rkind (Wk.tokK T k).kind true), .string (rtext (Wk.tokK T k) true), .int .i64 (Wk.tokK T k).place] 87 (0, 0)))
 case first =>
  go_region
  all_goals
   go_wp2_with fail; go_meet; exact ⟨W1.heap.size, rfl, Nat.le_refl _, ((Below.refl _ _).alloc (Nat.le_refl _) _).drew, heap_alloc_new _ _⟩
 case rest =>
  obtain ⟨W2, hW2⟩ : ∃ W, W = wc := ⟨_, rfl⟩
  subst hW2; clear c0 c1 c2 c3 c4 c5 c6 c7 cf g0 g1 g2; obtain ⟨nb, rfl, hnb, hb2, hnblk⟩ := hcut; obtain ⟨c0, -, -, -, -, -, -, -, -⟩ := rp_cells ((hb2.block b hbW).trans ((HB1.out.block b hlt).trans H1.out)); have a2 := bc 2 hnblk rfl; have hnl := lt_of_block hnblk; have HB2 : Hid (Below W1.heap.size W1 W2) := hb2; have HNB : Hid _ := hnblk; have hG2 : Hid (Gl W2) := (hw.below (HB1.out.trans (hb2.mono (by have := HS1.out; omega)))).gl; have hGd : Hid (Gl W2.drew) := hG2.out.of (Nat.le_refl _) (fun _ _ => rfl); have hGa : Hid (∀ o, Gl (W2.alloc o).drew) := fun o => hG2.out.of (by show _ ≤ (W2.alloc o).heap.size; simp) (fun k hk => Below.heap_alloc W2 o k (by have := hG2.out.size; omega))
  have hstop : Hid ((Wk.tokK T k).place + 1 ≤ s.size ∧ Wk.cut s ((Wk.tokK T k).place + 1) = Wk.tokK T (k + 1)) := by
   have := follows_stop E.fol hkl (by rw [H28.out]; decide); rw [HST.out] at this; exact this.2
  have hbW2 : b < W2.heap.size := by have := HB2.out.size; omega
  have hpl : (Wk.tokK T k).place ≤ 1000 := by have := hstop.out.1; omega
  have HWR : Hid (IntKind.i64.wrap (((Wk.tokK T k).place : Int) + 1) = (((Wk.tokK T k).place + 1 : Nat) : Int)) := wrap_small hpl; have hbn : b ≠ W2.heap.size := by omega
  have hnn : nb ≠ W2.heap.size := by omega
  clear hb2 hnblk; go_upto_region 2 with fail; go_cut [4, 5] from 19 (fun v4 v5 wx => ∃ (nc kk : Nat), v4 = .pointer (some ⟨nc, 0, none⟩) ∧ v5 = .int .i64 kk ∧ kk ≤ s.size + 4 ∧ Hid (2 ≤ (Wk.tokK T (k + 1)).kind → kk = (Wk.tokK T (k + 1)).stop) ∧ W2.heap.size ≤ nc ∧ Below W2.heap.size W2 wx ∧
   wx.heap[nc]? = some (.cells #[.int .u8 (rkind (Wk.tokK T (k + 1)).kind true), .string (rtext (Wk.tokK T (k + 1)) true), .int .i64 (Wk.tokK T (k + 1)).place] 87 (0, 0)))
  case first =>
   go_region_with ((go_at_call 45; refine (r_cutI s ((Wk.tokK T k).place + 1) _ HWR.out true _ hstop.out.1 E.short (by first | exact hGd.out | exact hG2.out | exact hGa.out _)).mono ?_; rintro e w2 ⟨⟨kk, hk1, hk2, rfl⟩, hb2⟩; rw [hstop.out.2] at hk2 ⊢; have HK2 : Hid _ := hk2; have HB2 : Hid _ := hb2; obtain ⟨hbc2, hbf2⟩ := bcell hb2; unfold rtok; clear hk2 hb2))
   all_goals
    go_wp2_with fail; go_meet; first
     | exact cutm_a true HB2.out hk1 HK2.out
     | exact cutm_b true HB2.out hk1 HK2.out
  case rest =>
   obtain ⟨W3, hW3⟩ : ∃ W, W = wc := ⟨_, rfl⟩
   subst hW3; clear c0 a2; obtain ⟨nc, kk, rfl, rfl, hk1, HK, hnc, hb3, hcblk⟩ := hcut; have hz2 := HB2.out.size; have hz1 := HS1.out; have hw3 : Below w.heap.size w W3 := (HB1.out.trans (HB2.out.mono (by omega))).trans (hb3.mono (by omega)); have t1 : W3.heap[w.heap.size]? = some (.cells #[.string ⟨#[]⟩, .string ⟨#[]⟩, .int .i64 0, .slice none 0 0] 107 (0, 0)) := (hb3.block _ (by omega)).trans ((HB2.out.block _ (by omega)).trans HT1.out); have t2 := (hb3.block _ hnl).trans HNB.out; have hr3 := HR.out.below hw3; obtain ⟨c0, c1, c2, c3, c4, c5, c6, c7, cf⟩ := rp_cells ((hw3.block b hlt).trans H1.out); rw [badI_none HH.out.1] at c6; have a0 := bc 0 hcblk rfl; have a1 := bc 1 hcblk rfl; have a2 := bc 2 hcblk rfl; have HR3 : Hid (RPx B s T W3 b q nest _ false) := hr3; have HX4 : Hid _ := minus_set E.fol E.short hr3 HH.out.2 HH.out.1 HK.out; have hlc := lt_of_block hcblk; have n1 : nc ≠ b := by omega
   have HW3 : Hid _ := hw3; have T1 : Hid _ := t1; have T2 : Hid _ := t2; have hwr3 : Hid (RW B W3) := hw.below hw3; clear hw3 t1 t2 hr3 hcblk hb3; go_wp2_with fail; refine (r_kindX E b q nest _ true 48 _ ⟨HX4.out.2.gl (fun k hk e => by have := E.base; omega) hwr3.out.gl, Nat.le_trans hwr3.out.size HX4.out.2.size⟩ HX4.out.1 (Or.inl rfl)).mono ?_; rintro e w5 ⟨⟨nk5, nt5, na5, rfl, hsz5, -⟩, hr5, hf5⟩; have hz4 := HX4.out.2.size; have hzT := lt_of_block T1.out; have hnT := lt_of_block T2.out; have u1 : w5.heap[w.heap.size]? = some (.cells #[.string ⟨#[]⟩, .string ⟨#[]⟩, .int .i64 0, .slice none 0 0] 107 (0, 0)) := by
    refine (hf5.block _ (by omega) ?_).trans ((HX4.out.2.block _ (by omega) (by omega)).trans T1.out); rintro (e | e)
    ·omega
    ·simp [Value.ownBlock] at e; omega
   have u2 := (hf5.block nb (by omega) (by
    rintro (e | e)
    ·omega
    ·simp [Value.ownBlock] at e; omega)).trans ((HX4.out.2.block nb (by omega) (by omega)).trans T2.out)
   have r0 := bc 0 u1 rfl; have r1 := bc 1 u1 rfl; have r2 := bc 2 u1 rfl; have r3 := bc 3 u1 rfl; have rf := blk_free u1; have b2 := bc 2 u2 rfl; have hlu := lt_of_block u1; have hlv := lt_of_block u2; have U1 : Hid _ := u1; have HR5 : Hid (RPn B s T _ w5 b (kindS T true 48 q) nest _) := hr5; have HF5 : Hid _ := hf5; clear u1 u2 hr5 hf5 a0 a1 a2 c0 c1 c2 c3 c4 c5 c6 c7 cf hz4; go_wp2_with fail; have f5 := ((FrP.ofBelow HW3.out hw.size).trans (frP_of_s HR3.out HX4.out.1 (HX4.out.2.mono (fun k _ e => Or.inl e)))).trans (frP_of_n HX4.out.1 HR5.out HF5.out); refine bodyPost_ret (v := .agg #[.string ⟨#[48]⟩, .string (⟨#[45]⟩ ++ nt5), .int .i64 (Wk.tokK T k).place, .slice none 0 0]) (by simp [results, Tryz.results209, go_sem, r0, r1, r2, r3, hlu]) rfl ⟨⟨_, _, rfl⟩, ?_, ?_⟩
   ·exact (HR5.out.rp.tree U1.out _ _ _ _).alloc _
   ·exact (f5.tree (Nat.le_refl _) hw.size _ _ _ _).alloc (by have := f5.size; have := hw.size; simp [World.setCell]; omega) _
end
end Go.Proofs.YtbkaghlklkdmkaaGreatDoor
