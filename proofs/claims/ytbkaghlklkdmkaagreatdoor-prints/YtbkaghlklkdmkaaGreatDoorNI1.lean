/-
  The program's parser: its state with the items so far and the first misname; next, has, want, fail; find. The program's parser: find. The program's parser: misname, use, open. The program's parser: a value. The program's parser: a value. The program's parser: an atom. The program's parser: a row of parts with signs between them.
-/
import Derived.Test.YtbkaghlklkdmkaaGreatDoorNF7
set_option maxRecDepth 100000
set_option maxHeartbeats 8000000
namespace Go.Proofs.YtbkaghlklkdmkaaGreatDoor
open Go.RowKit
attribute [local go_sem ↓] Go.wp_at_zero Go.wp_at_succ
def MS (o : Option Nat) (ms : Bool) (ma : Int) : Prop := (o = none → ms = false) ∧ ∀ p, o = some p → ms = true ∧ ma = p
structure Cx where
 T : List Wk.Tok
 b : Nat
 tg : Nat
 tc : Nat
 B : Nat
 iv : Value
 irs : List IR
def Cx.ns (c : Cx) : List Wk.Name := irNames c.irs
structure PI (c : Cx) (w0 w : World) (q : Wk.St) (nest : Int) (o : Option Nat) : Prop where
 pp : ∃ ms ma, PP c.T w c.b c.tg c.tc q nest c.iv ms ma ∧ (q.bad = none → MS o ms ma)
 row : w.ownsRow c.B 75 15 c.iv c.irs.length (IR.flat c.irs)
 few : c.irs.length ≤ 20
 gl : Gl w
 fr : Fr (fun k => k = c.b) w0 w
 low : 12 ≤ c.B ∧ c.B ≤ c.b
theorem pown_ne {w : World} {base : Nat} {e : TypeId} {size : Nat} {v : Value} {n : Nat} {xs : List Value} (h : w.ownsRow base e size v n xs) {b : Nat} {cs : Array Value} {t : TypeId} {fr : Nat × Nat} (hb : w.heap[b]? = some (.cells cs t fr)) (ht : t ≠ e) : v.ownBlock ≠ some b := by
 intro e'; rcases h.2 with ⟨rfl, _⟩ | ⟨g, cap, cur, rfl, _, hgg, _⟩
 ·simp [Value.ownBlock] at e'
 ·simp [Value.ownBlock] at e'; subst e'; rw [hgg] at hb; cases hb; exact ht rfl
theorem powns_fr {w w' : World} {base : Nat} {e : TypeId} {size : Nat} {v : Value} {n : Nat} {xs : List Value} (h : w.ownsRow base e size v n xs) {b : Nat} (hf : Fr (fun k => k = b) w w') (hne : v.ownBlock ≠ some b) : w'.ownsRow base e size v n xs :=
 h.kept (row := some b) ⟨hf.os, hf.tape, hf.output, hf.size, fun k hk hn => hf.block k hk (fun e => hn (by rw [e]))⟩ (Or.inr hne)
section
variable {c : Cx} {w0 w w' : World} {q : Wk.St} {nest : Int} {o : Option Nat}
theorem PI.box (h : PI c w0 w q nest o) : ∃ cs, w.heap[c.b]? = some (.cells cs 148 (0, 0)) := by
 obtain ⟨ms, ma, hp, -⟩ := h.pp; exact ⟨_, hp.box⟩
theorem PI.blt (h : PI c w0 w q nest o) : c.b < w.heap.size := by
 obtain ⟨cs, hb⟩ := h.box; exact lt_of_block hb
theorem PI.ok (h : PI c w0 w q nest o) (hb : q.bad = none) : q.k < c.T.length := by
 obtain ⟨ms, ma, hp, -⟩ := h.pp; exact hp.ok hb
theorem PI.toks (h : PI c w0 w q nest o) : PTk c.T w c.tg c.tc := by
 obtain ⟨ms, ma, hp, -⟩ := h.pp; exact hp.toks
theorem PI.step (h : PI c w0 w q nest o) {q' : Wk.St} {nest' : Int} {o' : Option Nat} (hF : Fr (fun k => k = c.b) w w') (hP : ∃ ms ma, PP c.T w' c.b c.tg c.tc q' nest' c.iv ms ma ∧ (q'.bad = none → MS o' ms ma)) : PI c w0 w' q' nest' o' := by
 obtain ⟨cs, hb⟩ := h.box; exact ⟨hP, powns_fr h.row hF (pown_ne h.row hb (by decide)), h.few, hF.gl (fun k hk e => by have := h.low; omega) h.gl, h.fr.trans hF, h.low⟩
theorem PI.self (h : PI c w0 w q nest o) : PI c w w q nest o := ⟨h.pp, h.row, h.few, h.gl, Fr.refl _ _, h.low⟩
theorem PI.trans {w1 : World} {q1 : Wk.St} {nest1 : Int} {o1 : Option Nat} (h : PI c w0 w1 q1 nest1 o1) (k : PI c w1 w q nest o) : PI c w0 w q nest o := ⟨k.pp, k.row, k.few, k.gl, h.fr.trans k.fr, k.low⟩
theorem PI.below (h : PI c w0 w q nest o) (hb : Below w.heap.size w w') : PI c w0 w' q nest o := by
 obtain ⟨ms, ma, hp, hm⟩ := h.pp; exact h.step (Fr.ofBelow hb) ⟨ms, ma, hp.below hb, hm⟩
theorem PI.alloc (h : PI c w0 w q nest o) (x : Obj) : PI c w0 (w.alloc x) q nest o := h.below (ab1 w x)
theorem PI.drew (h : PI c w0 w q nest o) : PI c w0 w.drew q nest o := h.below (Below.refl _ _).drew
theorem PI.keepN {q1 : Wk.St} {nest1 : Int} {o1 : Option Nat} {wa : World} (h : PI c wa w0 q1 nest1 o1) (k : PI c w0 w q nest o) : KeepN w0 w := by
 obtain ⟨cs, hb⟩ := h.box; refine KeepN.fr k.fr ?_; rintro i cs' t fr rfl hi; rw [hb] at hi; cases hi; exact ⟨by decide, by decide⟩
theorem PI.blk (k : PI c w0 w q nest o) {i : Nat} {x : Obj} (hi : w0.heap[i]? = some x) (hne : i ≠ c.b) : w.heap[i]? = some x := (k.fr.block i (lt_of_block hi) hne).trans hi
theorem j_next (h : PI c w0 w q nest o) : Calls Tryz.prog 108 #[nptr c.b] w fun e w' => e = .returned (.int .i64 ((Wk.tokK c.T (ppAt c.T q)).kind : Int)) ∧ w' = w.drew := by
 obtain ⟨ms, ma, hp, -⟩ := h.pp; exact p_next hp
theorem j_has (h : PI c w0 w q nest o) (kd : Nat) (h2 : 2 ≤ kd := by decide) : Calls Tryz.prog 138 #[nptr c.b, .int .i64 kd] w fun e w' => e = .returned (.bool (q.isK c.T kd)) ∧ PI c w0 w' (if q.isK c.T kd then q.adv else q) nest o := by
 obtain ⟨ms, ma, hp, hm⟩ := h.pp; refine (p_has hp kd h2).mono ?_; rintro e w1 ⟨rfl, hP, hF⟩; refine ⟨rfl, h.step hF ⟨ms, ma, hP, fun hb => hm ?_⟩⟩; cases hk : q.isK c.T kd with
 | true => exact (Wk.isK_iff.1 hk).1
 | false => rw [hk] at hb; exact hb
theorem pwant_bad {T : List Wk.Tok} {q : Wk.St} {kd : Nat} (h : (q.want T kd).bad = none) : q.bad = none := (Wk.isK_iff.1 (want_ok h)).1
theorem j_want (h : PI c w0 w q nest o) (kd : Nat) (h2 : 2 ≤ kd := by decide) : Calls Tryz.prog 140 #[nptr c.b, .int .i64 kd] w fun e w' => wantEnd c.T q kd e ∧ PI c w0 w' (q.want c.T kd) nest o := by
 obtain ⟨ms, ma, hp, hm⟩ := h.pp; refine (p_want hp kd h2).mono ?_; rintro e w1 ⟨he, hP, hF⟩; exact ⟨he, h.step hF ⟨ms, ma, hP, fun hb => hm (pwant_bad hb)⟩⟩
theorem pfail_some {T : List Wk.Tok} {q : Wk.St} : (q.fail T).bad ≠ none := by
 unfold Wk.St.fail; cases hb : q.bad <;> simp [hb]
theorem j_fail (h : PI c w0 w q nest o) (o' : Option Nat) : Calls Tryz.prog 109 #[nptr c.b] w fun e w' => e = .returned (.tuple #[]) ∧ PI c w0 w' (q.fail c.T) nest o' := by
 obtain ⟨ms, ma, hp, hm⟩ := h.pp; refine (p_fail hp).mono ?_; rintro e w1 ⟨he, hP, hF⟩; exact ⟨he, h.step hF ⟨ms, ma, hP, fun hb => absurd hb pfail_some⟩⟩
end
theorem p_findClo (r : IR) (x : ByteArray) {k : Nat} {w : World} (hk : w.heap[k]? = some (.cells #[.string x] 9 (0, 0))) :
  Calls Tryz.prog 198 #[r.val, nptr k] w fun e w' => e = .returned (.bool (r.nm.toList == x.toList)) ∧ Below w.heap.size w w' := by
 have c0 := bc 0 hk rfl; have hl := lt_of_block hk; clear hk; unfold IR.val; go_enter Tryz.func198, Tryz.ntmps198; go_wp2_with fail; go_ret; exact ⟨rfl, ab1 _ _⟩
theorem IR.len (r : IR) : r.cells.length = 15 := rfl
theorem item_cells {w : World} {B g cap : Nat} {irs : List IR} (h : w.ownsRow B 75 15 (.slice (some ⟨g, 0, none⟩) irs.length cap) irs.length (IR.flat irs)) {j : Nat} {r : IR} (hj : irs[j]? = some r) {i : Nat} {v : Value} (hv : r.cells[i]? = some v) : w.cell? ⟨g, j * 15 + i, none⟩ = some v := by
 have hjl := (List.getElem?_eq_some_iff.1 hj).1; have hi : i < 15 := (List.getElem?_eq_some_iff.1 hv).1; rw [h.cellAt (j * 15 + i) (by omega)]; exact flat_at IR.cells 15 IR.len irs j r hj i v hv
theorem p_index {w : World} {B : Nat} {iv : Value} {irs : List IR} (h : w.ownsRow B 75 15 iv irs.length (IR.flat irs)) (hf : irs.length ≤ 20) (x : ByteArray) {k : Nat} (hk : w.heap[k]? = some (.cells #[.string x] 9 (0, 0))) :
  Calls Tryz.prog 197 #[iv, .func (.func 198) #[] #[nptr k]] w fun e w' => e = .returned (.int .i64 (Wk.idx x.data.toList (irNames irs))) ∧ Below w.heap.size w w' := by
 rcases h.2 with ⟨rfl, h0⟩ | ⟨g, cap, cur, rfl, -, hgg, -⟩
 ·have HE : Hid (Wk.idx x.data.toList (irNames irs) = -1) := by
   show _ = _; rw [show irs = [] from List.length_eq_zero_iff.1 h0]; rfl
  clear h; go_enter Tryz.func197, Tryz.ntmps197; go_wp2
  refine wp_loop_rounds 1 ?_; rw [rounds_succ]; go_wp2
  go_ret; exact ⟨by rw [HE.out]; rfl, Below.refl _ _⟩
 ·have hgl := lt_of_block hgg; have HR : Hid _ := h; have HK : Hid _ := hk; obtain ⟨R, hR⟩ : ∃ R, R = Wk.idx x.data.toList (irNames irs) := ⟨_, rfl⟩
  rw [← hR]; have HI : Hid (R = Wk.idxF x.data.toList ((irNames irs).drop 0) 0) := hR; clear h hk hgg hR; go_enter Tryz.func197, Tryz.ntmps197; go_wp2
  go_loopg [8] irs.length (fun gg s8 wr => ∃ kk : Nat, kk ≤ irs.length ∧ irs.length - kk ≤ gg ∧ s8 = .int .i64 kk ∧ Hid (Below w.heap.size w wr) ∧ Hid (R = Wk.idxF x.data.toList ((irNames irs).drop kk) kk))
  case atStart => exact ⟨0, Nat.zero_le _, by omega, rfl, Below.refl _ _, HI⟩
  case round =>
   obtain ⟨kk, hkk, hg, rfl, HB, HRk⟩ := hrel; by_cases hlt : kk < irs.length
   ·have hj : irs[kk]? = some (irs[kk]'hlt) := List.getElem?_eq_getElem hlt; have HS : Hid (R = if (irs[kk]'hlt).nm.data.toList == x.data.toList then (kk : Int) else Wk.idxF x.data.toList ((irNames irs).drop (kk + 1)) (kk + 1)) := by
     show _ = _; have hl : kk < (irNames irs).length := by simpa [irNames] using hlt
     rw [HRk.out, List.drop_eq_getElem_cons hl, Wk.idxF]; simp [irNames]
    have hR' := (owns_below HR.out HB.out)
    have e0 := item_cells hR' hj (i := 0) rfl; have e1 := item_cells hR' hj (i := 1) rfl; have e2 := item_cells hR' hj (i := 2) rfl; have e3 := item_cells hR' hj (i := 3) rfl; have e4 := item_cells hR' hj (i := 4) rfl; have e5 := item_cells hR' hj (i := 5) rfl; have e6 := item_cells hR' hj (i := 6) rfl; have e7 := item_cells hR' hj (i := 7) rfl; have e8 := item_cells hR' hj (i := 8) rfl; have e9 := item_cells hR' hj (i := 9) rfl; have e10 := item_cells hR' hj (i := 10) rfl; have e11 := item_cells hR' hj (i := 11) rfl; have e12 := item_cells hR' hj (i := 12) rfl; have e13 := item_cells hR' hj (i := 13) rfl; have e14 := item_cells hR' hj (i := 14) rfl; rw [Nat.add_zero] at e0; have HC : Hid _ := p_findClo (irs[kk]'hlt) x ((HB.out.block k (lt_of_block HK.out)).trans HK.out); have hltz : (kk : Int) < (irs.length : Int) := by omega
    have hk0 : (0 : Int) ≤ (kk : Int) := by omega
    clear hj hR'; generalize (irs[kk]'hlt) = r at *
    unfold IR.val at HC; cases hq : (r.nm.toList == x.toList) with
    | true =>
     have HE : Hid (R = (kk : Int)) := by
      show _ = _; rw [HS.out, ← ByteArray.toList_eq, ← ByteArray.toList_eq, hq]; rfl
     rw [hq] at HC; clear hq; go_wp2_with fail; refine Calls.mono HC.out ?_; rintro e w2 ⟨rfl, hb2⟩; have HB2 : Hid (Below w.heap.size w w2) := HB.out.trans (hb2.mono HB.out.size); clear hb2; go_wp2_with fail; go_ret; exact ⟨by rw [HE.out]; rfl, HB2.out⟩
    | false =>
     have HE : Hid (R = Wk.idxF x.data.toList ((irNames irs).drop (kk + 1)) (kk + 1)) := by
      show _ = _; rw [HS.out, ← ByteArray.toList_eq, ← ByteArray.toList_eq, hq]; rfl
     rw [hq] at HC; clear hq; go_wp2_with fail; refine Calls.mono HC.out ?_; rintro e w2 ⟨rfl, hb2⟩; have HB2 : Hid (Below w.heap.size w w2) := HB.out.trans (hb2.mono HB.out.size); clear hb2; go_wp2_with fail; go_roundg (irs.length - (kk + 1)); case measure => omega
     case rel => exact ⟨kk + 1, by omega, by omega, by go_num, HB2, HE⟩
   ·have hltz : ¬ (kk : Int) < (irs.length : Int) := by omega
    have HE : Hid (R = -1) := by
     show _ = _; rw [HRk.out, List.drop_eq_nil_of_le (by simp [irNames]; omega)]; rfl
    go_wp2
    go_ret; exact ⟨by rw [HE.out]; rfl, HB.out⟩
theorem j_find {c : Cx} {w0 w : World} {q : Wk.St} {nest : Int} {o : Option Nat} (h : PI c w0 w q nest o) (x : ByteArray) :
  Calls Tryz.prog 165 #[nptr c.b, .string x] w fun e w' => e = .returned (.int .i64 (Wk.idx x.data.toList c.ns)) ∧ Below w.heap.size w w' := by
 obtain ⟨ms, ma, hp, -⟩ := h.pp; have c3 := bc 3 hp.box rfl; have hl := lt_of_block hp.box; have HC : Hid _ := p_index (h.row.alloc (.cells #[.string x] 9)) h.few x (heap_alloc_new w _); obtain ⟨R, hR⟩ : ∃ R, R = Wk.idx x.data.toList c.ns := ⟨_, rfl⟩
 rw [← hR]; have HR : Hid (Wk.idx x.data.toList (irNames c.irs) = R) := hR.symm; rw [HR.out] at HC; clear h hp hR; go_enter Tryz.func165, Tryz.ntmps165; go_wp2_with fail; refine Calls.mono HC.out ?_; rintro e w2 ⟨rfl, hb⟩; have HB : Hid (Below w.heap.size w w2) := (ab1 _ _).trans (hb.mono (ab1 _ _).size); clear hb; go_wp2_with fail; go_ret; exact ⟨rfl, HB.out⟩
theorem MS.name {o : Option Nat} {ms : Bool} {ma : Int} (h : MS o ms ma) (hm : ms = true) (p : Nat) : MS (o.or (some p)) ms ma := by
 cases o with
 | none => have := h.1 rfl; rw [hm] at this; cases this
 | some x => exact h
theorem MS.first {o : Option Nat} {ms : Bool} {ma : Int} (h : MS o ms ma) (hm : ms = false) (p : Nat) : MS (o.or (some p)) true p := by
 cases o with
 | none => exact ⟨fun e => (by cases e), fun x e => (by cases e; exact ⟨rfl, rfl⟩)⟩
 | some x => have := (h.2 x rfl).1; rw [hm] at this; cases this
theorem j_misname {c : Cx} {w0 w : World} {q : Wk.St} {nest : Int} {o : Option Nat} (h : PI c w0 w q nest o) (kd pl : Int) (tx : ByteArray) (p : Nat) (hp : q.bad = none → pl = p) :
  Calls Tryz.prog 166 #[nptr c.b, .agg #[.int .i64 kd, .int .i64 pl, .string tx]] w fun e w' => e = .returned (.tuple #[]) ∧ PI c w0 w' q nest (o.or (some p)) := by
 obtain ⟨ms, ma, hP, hm⟩ := h.pp; have c6 := bc 6 hP.box rfl; have hl := lt_of_block hP.box; cases hms : ms with
 | true =>
  rw [hms] at c6; have HE : Hid (∀ x, PI c w0 (w.alloc x) q nest (o.or (some p))) := fun x => h.step (Fr.ofBelow (ab1 _ _)) ⟨ms, ma, hP.below (ab1 _ _), fun hb => (hm hb).name hms p⟩
  clear h hP hm hms hp; go_enter Tryz.func166, Tryz.ntmps166; go_wp2_with fail; go_end0
  exact ⟨rfl, HE.out _⟩
 | false =>
  rw [hms] at c6; have c7 := bc 7 hP.box rfl; have cf := blk_free hP.box; have HB : Hid (w.heap[c.b]? = some (ppBlock c.T q nest (.slice (some ⟨c.tg, 0, none⟩) c.T.length c.tc) c.iv ms ma)) := hP.box; have HP : Hid _ := hP; have HH : Hid (PI c w0 w q nest o) := h; have HM : Hid _ := hm; have HMS : Hid _ := hms; have HPL : Hid _ := hp; have HN : Hid (∀ W : World, W.heap.size = w.heap.size → (W.alloc (.cells #[.int .i64 kd, .int .i64 pl, .string tx] 134)).drew.cell? ⟨w.heap.size, 1, none⟩ = some (.int .i64 pl)) := by
   intro W hW; have := heap_alloc_new W (.cells #[.int .i64 kd, .int .i64 pl, .string tx] 134); rw [hW] at this; exact blk_cell (w := W.alloc (.cells #[.int .i64 kd, .int .i64 pl, .string tx] 134)) this rfl
  have HS0 : Hid ((w.alloc (.cells #[.int .i64 kd, .int .i64 pl, .string tx] 134)).drew.cell? ⟨w.heap.size, 1, none⟩ = some (.int .i64 pl)) := HN.out w rfl; have HS6 : Hid (((w.setCell ⟨c.b, 6, none⟩ (.bool true)).alloc (.cells #[.int .i64 kd, .int .i64 pl, .string tx] 134)).drew.cell? ⟨w.heap.size, 1, none⟩ = some (.int .i64 pl)) := HN.out _ (by simp [World.setCell]); have HS9 : Hid ((((w.setCell ⟨c.b, 6, none⟩ (.bool true)).setCell ⟨c.b, 7, none⟩ (.int .i64 pl)).alloc (.cells #[.int .i64 kd, .int .i64 pl, .string tx] 134)).drew.cell? ⟨w.heap.size, 1, none⟩ = some (.int .i64 pl)) := HN.out _ (by simp [World.setCell]); clear h hP hm hms hp HN; go_enter Tryz.func166, Tryz.ntmps166; go_upto_region 2 with fail; refine wp_region_ph (fun w' => w'.cell? ⟨w.heap.size, 1, none⟩ = some (.int .i64 pl)) 10 10 rfl (by kernel_rfl) HS0.out (fun hHeld => ?_); clear hHeld; refine PhS.t 0 9 HS0.out ?_; refine PhS.t 1 10 HS0.out ?_; refine PhS.t 2 11 HS0.out ?_; refine PhS.t 3 12 HS0.out ?_; refine PhS.t 4 13 HS0.out ?_; refine PhS.t 5 14 HS0.out ?_; refine PhS.on 6 (fun K hK => ?_); go_simp; refine hK.out _ _ (fun _ => HS6.out) ?_; clear hK K; refine PhS.t 7 15 HS6.out ?_; refine PhS.t 8 16 HS6.out ?_; refine PhS.on 9 (fun K hK => ?_); go_simp; refine hK.out _ _ (fun _ => HS9.out) ?_; clear hK K; refine PhS.done (by kernel_rfl) ?_ _; go_wp2_with fail; go_end0
  have hF : Fr (fun k => k = c.b) w ((w.setCell ⟨c.b, 6, none⟩ (.bool true)).setCell ⟨c.b, 7, none⟩ (.int .i64 pl)) := (Fr.setCell (fun k => k = c.b) w ⟨c.b, 6, none⟩ (.bool true) rfl).trans (Fr.setCell (fun k => k = c.b) _ ⟨c.b, 7, none⟩ _ rfl); have hQ : PI c w0 ((w.setCell ⟨c.b, 6, none⟩ (.bool true)).setCell ⟨c.b, 7, none⟩ (.int .i64 pl)) q nest (o.or (some p)) := by
   refine HH.out.step hF ⟨true, pl, ⟨HP.out.toks.of ((blk_other _ HP.out.ne).trans (blk_other _ HP.out.ne)), ?_, HP.out.ok, HP.out.ne⟩, fun hb => ?_⟩
   ·have h1 := blk_set (o := 6) (.bool true) (show w.heap[c.b]? = some (.cells #[.slice (some ⟨c.tg, 0, none⟩) c.T.length c.tc, .int .i64 (ppAt c.T q : Int), .int .i64 nest, c.iv, .bool q.bad.isSome, .int .i64 ((q.bad.getD 0 : Nat) : Int), .bool ms, .int .i64 ma] 148 (0, 0)) from HB.out); exact (blk_set (o := 7) (.int .i64 pl) h1).trans (by simp [ppBlock])
   ·rw [HPL.out hb]; exact (HM.out hb).first HMS.out p
  exact ⟨rfl, (hQ.alloc _).drew⟩
theorem PI.any {c : Cx} {w0 w : World} {q : Wk.St} {nest : Int} {o : Option Nat} (h : PI c w0 w q nest o) (hb : q.bad ≠ none) (o' : Option Nat) : PI c w0 w q nest o' := by
 obtain ⟨ms, ma, hp, -⟩ := h.pp; exact ⟨⟨ms, ma, hp, fun e => absurd e hb⟩, h.row, h.few, h.gl, h.fr, h.low⟩
def useEnd (c : Cx) (q : Wk.St) (e : Ending) : Prop := ∃ i : Int, e = .returned (.int .i64 i) ∧ ((q.want c.T 2).bad = none → i = Wk.idx (Wk.tokK c.T q.k).text.data.toList c.ns)
theorem j_use {c : Cx} {w0 w : World} {q : Wk.St} {nest : Int} {o : Option Nat} (h : PI c w0 w q nest o) :
  Calls Tryz.prog 204 #[nptr c.b] w fun e w' => useEnd c q e ∧ PI c w0 w' (q.want c.T 2) nest (o.or (Wk.stray c.ns [((Wk.tokK c.T q.k).text.data.toList, (Wk.tokK c.T q.k).place)])) := by
 have HH : Hid _ := h; clear h; cases hK : q.isK c.T 2 with
 | true =>
  have hx := Wk.stray_one c.ns (Wk.tokK c.T q.k).text.data.toList (Wk.tokK c.T q.k).place; have HST : Hid _ := hx; have HKK : Hid _ := hK; clear hx hK; go_enter Tryz.func204, Tryz.ntmps204; go_wp2_with fail; refine (j_want HH.out 2).mono ?_; rintro e w1 ⟨he, hI⟩; unfold wantEnd at he; rw [HKK.out, if_pos rfl] at he; subst he; have HI1 : Hid _ := hI; clear hI; generalize htx : (Wk.tokK c.T q.k).text = tx at *
  generalize hpl : (Wk.tokK c.T q.k).place = pl at *
  generalize (Wk.tokK c.T q.k).kind = kd at *
  have HTX : Hid _ := htx; have HPLC : Hid _ := hpl; clear htx hpl; go_wp2_with fail; refine (j_find (HI1.out.alloc _) tx).mono ?_; rintro e w2 ⟨rfl, hb⟩; have u2 := (hb.block w1.heap.size (by simp)).trans (heap_alloc_new w1 _); have c0 := bc 0 u2 rfl; have c1 := bc 1 u2 rfl; have c2 := bc 2 u2 rfl; have HI2 : Hid _ := (HI1.out.alloc _).below hb; have HN : Hid _ := Wk.idx_neg (x := tx.data.toList) (ns := c.ns); have HE : Hid (useEnd c q (.returned (.int .i64 (Wk.idx tx.data.toList c.ns)))) := ⟨_, rfl, fun _ => by rw [HTX.out]⟩
  clear hb u2; cases hc : c.ns.contains tx.data.toList with
  | true =>
   rw [hc] at HN HST; have hn : ¬ Wk.idx tx.data.toList c.ns < 0 := of_decide_eq_false HN.out; have HO : Hid (o.or (Wk.stray c.ns [(tx.data.toList, pl)]) = o) := by
    show _ = _; rw [HST.out]; cases o <;> rfl
   generalize Wk.idx tx.data.toList c.ns = i at *
   clear hc HN; go_wp2_with fail; go_ret; refine ⟨HE.out, ?_⟩; rw [HTX.out, HPLC.out, HO.out]; exact HI2.out
  | false =>
   rw [hc] at HN HST; have hn : Wk.idx tx.data.toList c.ns < 0 := of_decide_eq_true HN.out; have HO : Hid (o.or (Wk.stray c.ns [(tx.data.toList, pl)]) = o.or (some pl)) := by
    show _ = _; rw [HST.out]; rfl
   generalize Wk.idx tx.data.toList c.ns = i at *
   clear hc HN; go_wp2_with fail; refine (j_misname HI2.out (kd : Int) (pl : Int) tx pl (fun _ => rfl)).mono ?_; rintro e w3 ⟨rfl, hI3⟩; have HI3 : Hid _ := hI3; clear hI3; go_wp2_with fail; go_ret; refine ⟨HE.out, ?_⟩; rw [HTX.out, HPLC.out, HO.out]; exact HI3.out
 | false =>
  have HKK : Hid _ := hK; have HBD : Hid ((q.want c.T 2).bad ≠ none) := fun e => by rw [want_ok e] at hK; cases hK
  clear hK; go_enter Tryz.func204, Tryz.ntmps204; go_wp2_with fail; refine (j_want HH.out 2).mono ?_; rintro e w1 ⟨he, hI⟩; unfold wantEnd at he; rw [HKK.out, if_neg (by decide)] at he; subst he; have HI1 : Hid _ := hI; clear hI; go_wp2_with fail; refine (j_find (HI1.out.alloc _) ⟨#[]⟩).mono ?_; rintro e w2 ⟨rfl, hb⟩; have u2 := (hb.block w1.heap.size (by simp)).trans (heap_alloc_new w1 _); have c0 := bc 0 u2 rfl; have c1 := bc 1 u2 rfl; have c2 := bc 2 u2 rfl; have HI2 : Hid _ := (HI1.out.alloc _).below hb; clear hb u2; generalize Wk.idx (ByteArray.mk #[]).data.toList c.ns = i at *
  have HE : Hid (useEnd c q (.returned (.int .i64 i))) := ⟨_, rfl, fun e => absurd e HBD.out⟩
  by_cases hn : i < 0
  ·go_wp2_with fail; refine (j_misname HI2.out 0 0 ⟨#[]⟩ 0 (fun _ => rfl)).mono ?_; rintro e w3 ⟨rfl, hI3⟩; have HI3 : Hid _ := hI3; clear hI3; go_wp2_with fail; go_ret; exact ⟨HE.out, HI3.out.any HBD.out _⟩
  ·go_wp2_with fail; go_ret; exact ⟨HE.out, HI2.out.any HBD.out _⟩
theorem PI.nest {c : Cx} {w0 w : World} {q : Wk.St} {nest : Int} {o : Option Nat} (h : PI c w0 w q nest o) (n : Int) : PI c w0 (w.setCell ⟨c.b, 2, none⟩ (.int .i64 n)) q n o := by
 obtain ⟨ms, ma, hp, hm⟩ := h.pp; refine h.step (Fr.setCell (fun k => k = c.b) w ⟨c.b, 2, none⟩ _ rfl) ⟨ms, ma, ⟨hp.toks.of (blk_other _ hp.ne), ?_, hp.ok, hp.ne⟩, hm⟩; have hb : w.heap[c.b]? = some (.cells #[.slice (some ⟨c.tg, 0, none⟩) c.T.length c.tc, .int .i64 (ppAt c.T q : Int), .int .i64 nest, c.iv, .bool q.bad.isSome, .int .i64 ((q.bad.getD 0 : Nat) : Int), .bool ms, .int .i64 ma] 148 (0, 0)) := hp.box; exact (blk_set (o := 2) (.int .i64 n) hb).trans (by simp [ppBlock])
theorem PI.nestc {c : Cx} {w0 w : World} {q : Wk.St} {nest : Int} {o : Option Nat} (h : PI c w0 w q nest o) : w.cell? ⟨c.b, 2, none⟩ = some (.int .i64 nest) ∧ ∀ o', w.frozen? ⟨c.b, o', none⟩ = false := by
 obtain ⟨ms, ma, hp, hm⟩ := h.pp; exact ⟨bc 2 hp.box rfl, blk_free hp.box⟩
theorem j_open {c : Cx} {w0 w : World} {q : Wk.St} {nest : Nat} {o : Option Nat} (h : PI c w0 w q nest o) (kd : Nat) (h2 : 2 ≤ kd) (hK : q.isK c.T kd = true) (h10 : nest ≤ 10) :
  Calls Tryz.prog 169 #[nptr c.b, .int .i64 kd] w fun e w' => e = .returned (.tuple #[]) ∧ PI c w0 w' (q.opens c.T nest) ((nest + 1 : Nat) : Int) o := by
 obtain ⟨c2, -⟩ := h.nestc; have HH : Hid (PI c w0 w q nest o) := h; clear h; by_cases hn : nest = 10
 ·subst hn; have HQ : Hid ((q.fail c.T).want c.T kd = q.opens c.T 10) := by
   show _ = _; have hs : (q.fail c.T).bad.isSome = true := fail_some q; rw [Wk.want_bad c.T hs]; rfl
  have c2 : w.cell? ⟨c.b, 2, none⟩ = some (.int .i64 10) := c2; go_enter Tryz.func169, Tryz.ntmps169; go_wp2_with fail; refine (j_fail HH.out o).mono ?_; rintro e w1 ⟨rfl, hI⟩; have HI : Hid _ := hI; clear hI; go_wp2_with fail; refine (j_want HI.out kd h2).mono ?_; rintro e w2 ⟨he, hI2⟩; obtain ⟨v, rfl⟩ : ∃ v, e = .returned v := ⟨_, he⟩
  rw [HQ.out] at hI2; obtain ⟨c3, cf⟩ := hI2.nestc; have c3 : w2.cell? ⟨c.b, 2, none⟩ = some (.int .i64 10) := c3; have HI2 : Hid _ := hI2.nest 11; clear hI2 he; go_wp2_with fail; go_end0
  exact ⟨rfl, HI2.out⟩
 ·have HQ : Hid (q.want c.T kd = q.opens c.T nest) := by
   show _ = _; unfold Wk.St.want Wk.St.opens; rw [hK, if_neg hn]; rfl
  have dn : ((nest : Int) == 10) = false := by rw [beq_eq_false_iff_ne]; omega
  have hb9 : nest ≤ 9 := by omega
  clear hn; go_enter Tryz.func169, Tryz.ntmps169; go_wp2_with fail; refine (j_want HH.out kd h2).mono ?_; rintro e w2 ⟨he, hI2⟩; obtain ⟨v, rfl⟩ : ∃ v, e = .returned v := ⟨_, he⟩
  rw [HQ.out] at hI2; obtain ⟨c3, cf⟩ := hI2.nestc; have HI2 : Hid _ := hI2.nest ((nest : Int) + 1); clear hI2 he; go_wp2_with fail; go_end0
  exact ⟨rfl, HI2.out⟩
structure TP (T : List Wk.Tok) : Prop where
 trim : ∀ k, k < T.length → (Wk.tokK T k).kind = 5 → Lib.trimB (Wk.tokK T k).text.data.toList 34 = Wk.unq (Wk.tokK T k).text
 size : ∀ k, k < T.length → (Wk.tokK T k).text.size ≤ 1000
theorem want_isK {T : List Wk.Tok} {q : Wk.St} {kd : Nat} (h : q.isK T kd = true) : q.want T kd = q.adv := by unfold Wk.St.want; rw [h]; rfl
theorem want_text {T : List Wk.Tok} (hT : TP T) {q : Wk.St} (hk : q.bad = none → q.k < T.length) {kd : Nat} {e : Ending} (h : wantEnd T q kd e) : ∃ (a b : Int) (tx : ByteArray), e = .returned (.agg #[.int .i64 a, .int .i64 b, .string tx]) ∧ tx.size ≤ 1000 ∧ (q.isK T kd = true → tx = (Wk.tokK T q.k).text ∧ a = (Wk.tokK T q.k).kind ∧ b = (Wk.tokK T q.k).place) := by
 unfold wantEnd at h; cases hK : q.isK T kd with
 | true => rw [hK, if_pos rfl] at h; exact ⟨_, _, _, h, hT.size _ (hk (Wk.isK_iff.1 hK).1), fun _ => ⟨rfl, rfl, rfl⟩⟩
 | false => rw [hK, if_neg (by decide)] at h; exact ⟨_, _, _, h, by decide, fun e => by cases e⟩
theorem PI.setNew {c : Cx} {wa w0 w : World} {qa q : Wk.St} {na nest : Int} {oa o : Option Nat} (h : PI c w0 w q nest o) (ha : PI c wa w0 qa na oa) {k : Nat} (hk : w0.heap.size ≤ k) (j : Nat) (v : Value) : PI c w0 (w.setCell ⟨k, j, none⟩ v) q nest o := by
 obtain ⟨ms, ma, hp, hm⟩ := h.pp; have hb := ha.blt; have htg : c.tg < w0.heap.size := cell_lt (ha.toks.cells 0 ha.toks.pos).1; have hrow : c.iv.ownBlock ≠ some k := fun e => by have := (ha.row.lt k e).2; omega
 have hF : Fr (fun i => i = k) w (w.setCell ⟨k, j, none⟩ v) := Fr.setCell (fun i => i = k) w ⟨k, j, none⟩ v rfl; refine ⟨⟨ms, ma, ⟨hp.toks.of (blk_other _ (by omega)), (blk_other _ (by omega)).trans hp.box, hp.ok, hp.ne⟩, hm⟩, powns_fr h.row hF hrow, h.few, hF.gl (fun i hi e => by have := ha.gl.size; omega) h.gl, ⟨h.fr.os, h.fr.tape, h.fr.output, ?_, fun i hi hne => (blk_other _ (by omega)).trans (h.fr.block i hi hne)⟩, h.low⟩; have := h.fr.size; simp [World.setCell]; exact this
theorem field134 (a b : Int) (tx : ByteArray) (wx : World) : (Instr.field 134 (.agg #[.int .i64 a, .int .i64 b, .string tx]) 2).run Tryz.prog wx = .ok (.string tx) wx := by
 simp [Instr.field, go_sem]; rfl
theorem isK_at' {c : Cx} {w0 w : World} {q : Wk.St} {nest : Int} {o : Option Nat} (h : PI c w0 w q nest o) (kd : Nat) (h2 : 2 ≤ kd) : (((Wk.tokK c.T (ppAt c.T q)).kind : Int) == (kd : Int)) = q.isK c.T kd := by
 rw [isK_at h.toks.shut kd h2, Bool.eq_iff_iff, beq_iff_eq, beq_iff_eq]; omega
theorem j_below0 {c : Cx} (hT : TP c.T) {w0 w : World} {q : Wk.St} {nest : Int} {o : Option Nat} (h : PI c w0 w q nest o) (hK : q.isK c.T 28 = true) :
  Calls Tryz.prog 270 #[nptr c.b] w fun e w' => (∃ n, e = .returned (.agg #[.int .i64 1, .int .i64 n, .bool false, .string ⟨#[]⟩])) ∧ PI c w0 w' (if q.adv.isK c.T 4 then q.adv.adv else q.adv.want c.T 3) nest o := by
 have HH : Hid (PI c w0 w q nest o) := h; have HS : Hid (PI c w w q nest o) := h.self; have hblt := h.blt; have HQ : Hid (q.want c.T 28 = q.adv) := want_isK hK; have HT : Hid _ := hT; obtain ⟨q2, hq2⟩ : ∃ q2, q2 = (if q.adv.isK c.T 4 then q.adv.adv else q.adv.want c.T 3) := ⟨_, rfl⟩
 rw [← hq2]; have HQ2 : Hid _ := hq2; clear h hK hT hq2; go_enter Tryz.func270, Tryz.ntmps270; go_wp2_with fail; refine (j_want ((HS.out.alloc _).self) 28).mono ?_; rintro e w1 ⟨he, hI⟩; obtain ⟨v, rfl⟩ : ∃ v, e = .returned v := ⟨_, he⟩
 rw [HQ.out] at hI; have HI1 : Hid _ := hI; clear hI he; go_wp2_with fail; refine (j_next HI1.out).mono ?_; rintro e w2 ⟨rfl, rfl⟩; have HD : Hid _ := isK_at' HI1.out 4 (by decide); have HI2 : Hid (PI c _ w1.drew q.adv nest o) := HI1.out.drew; clear HI1; generalize ((Wk.tokK c.T (ppAt c.T q.adv)).kind : Int) = nk at *
 generalize h4 : q.adv.isK c.T 4 = vb; revert h4; cases vb; intro h4; rw [h4] at HD HQ2; have d4 : (nk == 4) = false := HD.out; have HW : Hid (q.adv.want c.T 3 = q2) := by
  show _ = _; rw [HQ2.out]; rfl
 clear h4 HD; go_wp2_with fail; refine (j_want HI2.out 3).mono ?_; rotate_left; intro h4; rw [h4] at HD HQ2; have d4 : (nk == 4) = true := HD.out; have HW : Hid (q.adv.want c.T 4 = q2) := by
  show _ = _; rw [want_isK h4, HQ2.out]; rfl
 clear h4 HD; go_wp2_with fail; refine (j_want HI2.out 4).mono ?_; rotate_left; all_goals (
  rintro e w3 ⟨he, hI⟩; obtain ⟨a, b', tx, rfl, hsz, -⟩ := want_text HT.out HI2.out.ok he; rw [HW.out] at hI; have HI3 : Hid _ := hI; have hfl := field134 a b' tx; clear hI he; go_wp2_with fail; refine (p_number _ (by have : (ByteArray.mk #[45] ++ tx).size = 1 + tx.size := (by simp [ByteArray.size_append]; rfl); omega) _ HI3.out.gl).mono ?_; rintro e w4 ⟨⟨n, rfl⟩, hb4⟩; have hI4 := HI3.out.below hb4; have u := hI4.blk (heap_alloc_new w _) (by omega); have c0 := bc 0 u rfl; have c1 := bc 1 u rfl; have c2 := bc 2 u rfl; have c3 := bc 3 u rfl; have cf := blk_free u; have HI4 : Hid _ := hI4; clear hI4 hb4 u; go_wp2_with fail; exact bodyPost_ret (v := .agg #[.int .i64 1, .int .i64 n, .bool false, .string ⟨#[]⟩]) (by simp [results, Tryz.results270, go_sem, c0, c1, c2, c3]) rfl ⟨⟨n, rfl⟩, HH.out.trans ((((((HS.out.alloc _).trans HI4.out).setNew HS.out (Nat.le_refl _) _ _).setNew HS.out (Nat.le_refl _) _ _).setNew HS.out (Nat.le_refl _) _ _).setNew HS.out (Nat.le_refl _) _ _)⟩)
def valEnd (T : List Wk.Tok) (q : Wk.St) (e : Ending) : Prop := ∃ v : VR, e = .returned (.agg #[.int .i64 v.kd, .int .i64 v.no, .bool v.tr, .string v.tx]) ∧ ((Wk.pValue T q).1.bad = none → v.ok (Wk.pValue T q).2)
theorem pValue_ne (T : List Wk.Tok) (q : Wk.St) : (Wk.pValue T q).2.1 ≠ 0 := by
 unfold Wk.pValue; repeat' split
 all_goals simp
theorem j_value {c : Cx} (hT : TP c.T) {w0 w : World} {q : Wk.St} {nest : Int} {o : Option Nat} (h : PI c w0 w q nest o) :
  Calls Tryz.prog 258 #[nptr c.b] w fun e w' => valEnd c.T q e ∧ PI c w0 w' (Wk.pValue c.T q).1 nest o := by
 have HH : Hid (PI c w0 w q nest o) := h; have HS : Hid (PI c w w q nest o) := h.self; have hblt := h.blt; have HT : Hid _ := hT; have HD28 : Hid _ := isK_at' h 28 (by decide); have HD3 : Hid _ := isK_at' h 3 (by decide); have HD5 : Hid _ := isK_at' h 5 (by decide); clear h hT; cases K28 : q.isK c.T 28 with
 | true =>
  have HP : Hid (Wk.pValue c.T q = ((if q.adv.isK c.T 4 then q.adv.adv else q.adv.want c.T 3), (1, []))) := by
   show _ = _; unfold Wk.pValue; rw [K28]; rfl
  rw [HP.out]; have HE : Hid (∀ n : Int, valEnd c.T q (.returned (.agg #[.int .i64 1, .int .i64 n, .bool false, .string ⟨#[]⟩]))) := fun n => ⟨⟨1, n, false, ⟨#[]⟩⟩, rfl, fun _ => by rw [HP.out]; exact ⟨rfl, fun e => by cases e⟩⟩
  obtain ⟨q2, hq2⟩ : ∃ q2, q2 = (if q.adv.isK c.T 4 then q.adv.adv else q.adv.want c.T 3) := ⟨_, rfl⟩
  have HQ2 : Hid _ := hq2; rw [← hq2]; rw [K28] at HD28; have HK : Hid _ := K28; clear K28 hq2; go_enter Tryz.func258, Tryz.ntmps258; go_wp2_with fail; refine (j_next ((HS.out.alloc _).self)).mono ?_; rintro e w2 ⟨rfl, rfl⟩; generalize ((Wk.tokK c.T (ppAt c.T q)).kind : Int) = nk at *
  have d28 : (nk == 28) = true := HD28.out; go_wp2_with fail; refine (j_below0 HT.out ((HS.out.alloc _).self.drew) HK.out).mono ?_; rintro e w3 ⟨⟨n, rfl⟩, hI⟩; rw [← HQ2.out] at hI; have HI3 : Hid _ := hI; clear hI; have u := HI3.out.blk (heap_alloc_new w _) (by omega); have c0 := bc 0 u rfl; have c1 := bc 1 u rfl; have c2 := bc 2 u rfl; have c3 := bc 3 u rfl; have cf := blk_free u; clear u; go_wp2_with fail; refine bodyPost_ret (v := .agg #[.int .i64 1, .int .i64 n, .bool false, .string ⟨#[]⟩]) (by simp [results, Tryz.results258, go_sem, c0, c1, c2, c3]) rfl ⟨?_, HH.out.trans ((((((HS.out.alloc _).trans HI3.out).setNew HS.out (Nat.le_refl _) _ _).setNew HS.out (Nat.le_refl _) _ _).setNew HS.out (Nat.le_refl _) _ _).setNew HS.out (Nat.le_refl _) _ _)⟩; exact HE.out n
 | false =>
  rw [K28] at HD28; cases K3 : q.isK c.T 3 with
  | true =>
   have HP : Hid (Wk.pValue c.T q = (q.adv, (1, []))) := by
    show _ = _; unfold Wk.pValue; rw [K28, K3]; rfl
   rw [HP.out]; have HE : Hid (∀ n : Int, valEnd c.T q (.returned (.agg #[.int .i64 1, .int .i64 n, .bool false, .string ⟨#[]⟩]))) := fun n => ⟨⟨1, n, false, ⟨#[]⟩⟩, rfl, fun _ => by rw [HP.out]; exact ⟨rfl, fun e => by cases e⟩⟩
   have HW : Hid (q.want c.T 3 = q.adv) := want_isK K3; rw [K3] at HD3; clear K28 K3; go_enter Tryz.func258, Tryz.ntmps258; go_wp2_with fail; refine (j_next ((HS.out.alloc _).self)).mono ?_; rintro e w2 ⟨rfl, rfl⟩; generalize ((Wk.tokK c.T (ppAt c.T q)).kind : Int) = nk at *
   have d28 : (nk == 28) = false := HD28.out; have d3 : (nk == 3) = true := HD3.out; go_wp2_with fail; refine (j_want ((HS.out.alloc _).self.drew) 3).mono ?_; rintro e w3 ⟨he, hI⟩; obtain ⟨a, b', tx, rfl, hsz, -⟩ := want_text HT.out HS.out.ok he; rw [HW.out] at hI; have HI3 : Hid _ := hI; have hfl := field134 a b' tx; clear hI he; go_wp2_with fail; refine (p_number _ (by omega) _ HI3.out.gl).mono ?_; rintro e w4 ⟨⟨n, rfl⟩, hb4⟩; have HI4 : Hid _ := HI3.out.below hb4; clear hb4; have u := HI4.out.blk (heap_alloc_new w _) (by omega); have c0 := bc 0 u rfl; have c1 := bc 1 u rfl; have c2 := bc 2 u rfl; have c3 := bc 3 u rfl; have cf := blk_free u; clear u; go_wp2_with fail; refine bodyPost_ret (v := .agg #[.int .i64 1, .int .i64 n, .bool false, .string ⟨#[]⟩]) (by simp [results, Tryz.results258, go_sem, c0, c1, c2, c3]) rfl ⟨?_, HH.out.trans ((((((HS.out.alloc _).trans HI4.out).setNew HS.out (Nat.le_refl _) _ _).setNew HS.out (Nat.le_refl _) _ _).setNew HS.out (Nat.le_refl _) _ _).setNew HS.out (Nat.le_refl _) _ _)⟩; exact HE.out n
  | false =>
   rw [K3] at HD3; cases K5 : q.isK c.T 5 with
   | true =>
    have HP : Hid (Wk.pValue c.T q = (q.adv, (3, Wk.unq (Wk.tokK c.T q.k).text))) := by
     show _ = _; unfold Wk.pValue; rw [K28, K3, K5]; rfl
    rw [HP.out]; have hk5 := Wk.isK_iff.1 K5; have HTR : Hid _ := HT.out.trim q.k (HS.out.ok hk5.1) hk5.2; have HE : Hid (valEnd c.T q (.returned (.agg #[.int .i64 3, .int .i64 0, .bool false, .string ⟨(Lib.trimB (Wk.tokK c.T q.k).text.data.toList 34).toArray⟩]))) := ⟨⟨3, 0, false, ⟨(Lib.trimB (Wk.tokK c.T q.k).text.data.toList 34).toArray⟩⟩, rfl, fun _ => by rw [HP.out]; exact ⟨rfl, fun _ => by rw [HTR.out]⟩⟩
    have HW : Hid (q.want c.T 5 = q.adv) := want_isK K5; have HKK : Hid _ := K5; rw [K5] at HD5; clear K28 K3 K5 hk5 HTR; go_enter Tryz.func258, Tryz.ntmps258; go_wp2_with fail; refine (j_next ((HS.out.alloc _).self)).mono ?_; rintro e w2 ⟨rfl, rfl⟩; generalize ((Wk.tokK c.T (ppAt c.T q)).kind : Int) = nk at *
    have d28 : (nk == 28) = false := HD28.out; have d3 : (nk == 3) = false := HD3.out; have d5 : (nk == 5) = true := HD5.out; go_wp2_with fail; refine (j_want ((HS.out.alloc _).self.drew) 5).mono ?_; rintro e w3 ⟨he, hI⟩; obtain ⟨a, b', tx, rfl, hsz, htx⟩ := want_text HT.out HS.out.ok he; rw [← (htx HKK.out).1] at HE; rw [HW.out] at hI; have HI3 : Hid _ := hI; have hfl := field134 a b' tx; clear hI he htx; go_wp2_with fail; refine (p_unquote tx (by omega) _).mono ?_; rintro e w4 ⟨rfl, hb4⟩; have HI4 : Hid _ := HI3.out.below hb4; generalize (⟨(Lib.trimB tx.data.toList 34).toArray⟩ : ByteArray) = ty at *
    clear hb4; have u := HI4.out.blk (heap_alloc_new w _) (by omega); have c0 := bc 0 u rfl; have c1 := bc 1 u rfl; have c2 := bc 2 u rfl; have c3 := bc 3 u rfl; have cf := blk_free u; clear u; go_wp2_with fail; refine bodyPost_ret (v := .agg #[.int .i64 3, .int .i64 0, .bool false, .string ty]) (by simp [results, Tryz.results258, go_sem, c0, c1, c2, c3]) rfl ⟨?_, HH.out.trans ((((((HS.out.alloc _).trans HI4.out).setNew HS.out (Nat.le_refl _) _ _).setNew HS.out (Nat.le_refl _) _ _).setNew HS.out (Nat.le_refl _) _ _).setNew HS.out (Nat.le_refl _) _ _)⟩; exact HE.out
   | false =>
    rw [K5] at HD5; have HP : Hid (Wk.pValue c.T q = if q.isK c.T 18 then (q.adv, (2, [])) else (q.want c.T 19, (2, []))) := by
     show _ = _; unfold Wk.pValue; rw [K28, K3, K5]; rfl
    have HE : Hid (∀ b : Bool, valEnd c.T q (.returned (.agg #[.int .i64 2, .int .i64 0, .bool b, .string ⟨#[]⟩]))) := fun b => ⟨⟨2, 0, b, ⟨#[]⟩⟩, rfl, fun _ => by
     have : (Wk.pValue c.T q).2 = (2, []) := by rw [HP.out]; split <;> rfl
     rw [this]; exact ⟨rfl, fun e => by cases e⟩⟩
    obtain ⟨q2, hq2⟩ : ∃ q2, q2 = (Wk.pValue c.T q).1 := ⟨_, rfl⟩
    rw [← hq2]; have HQ : Hid _ := hq2; rw [HP.out] at HQ; clear K28 K3 K5 HP hq2; cases K18 : q.isK c.T 18 with
    | true =>
     have HKK : Hid _ := K18; have HQ2 : Hid (q.adv = q2) := by
      show _ = _; rw [HQ.out, K18]; rfl
     clear K18 HQ; go_enter Tryz.func258, Tryz.ntmps258; go_wp2_with fail; refine (j_next ((HS.out.alloc _).self)).mono ?_; rintro e w2 ⟨rfl, rfl⟩; generalize ((Wk.tokK c.T (ppAt c.T q)).kind : Int) = nk at *
     have d28 : (nk == 28) = false := HD28.out; have d3 : (nk == 3) = false := HD3.out; have d5 : (nk == 5) = false := HD5.out; go_wp2_with fail; refine (j_has ((HS.out.alloc _).self.drew) 18).mono ?_; rintro e w3 ⟨rfl, hI⟩; rw [HKK.out] at *
     rw [if_pos rfl, HQ2.out] at hI; have HI3 : Hid _ := hI; clear hI; have u := HI3.out.blk (heap_alloc_new w _) (by omega); have c0 := bc 0 u rfl; have c1 := bc 1 u rfl; have c2 := bc 2 u rfl; have c3 := bc 3 u rfl; have cf := blk_free u; clear u; go_wp2_with fail; refine bodyPost_ret (v := .agg #[.int .i64 2, .int .i64 0, .bool true, .string ⟨#[]⟩]) (by simp [results, Tryz.results258, go_sem, c0, c1, c2, c3]) rfl ⟨?_, HH.out.trans ((((((HS.out.alloc _).trans HI3.out).setNew HS.out (Nat.le_refl _) _ _).setNew HS.out (Nat.le_refl _) _ _).setNew HS.out (Nat.le_refl _) _ _).setNew HS.out (Nat.le_refl _) _ _)⟩; exact HE.out true
    | false =>
     have HKK : Hid _ := K18; have HQ2 : Hid (q.want c.T 19 = q2) := by
      show _ = _; rw [HQ.out, K18]; rfl
     clear K18 HQ; go_enter Tryz.func258, Tryz.ntmps258; go_wp2_with fail; refine (j_next ((HS.out.alloc _).self)).mono ?_; rintro e w2 ⟨rfl, rfl⟩; generalize ((Wk.tokK c.T (ppAt c.T q)).kind : Int) = nk at *
     have d28 : (nk == 28) = false := HD28.out; have d3 : (nk == 3) = false := HD3.out; have d5 : (nk == 5) = false := HD5.out; go_wp2_with fail; refine (j_has ((HS.out.alloc _).self.drew) 18).mono ?_; rintro e w3 ⟨rfl, hI⟩; rw [HKK.out] at *
     rw [if_neg (by decide)] at hI; have HI3 : Hid _ := hI; clear hI; go_wp2_with fail; refine (j_want HI3.out 19).mono ?_; rintro e w4 ⟨he, hI⟩; obtain ⟨v, rfl⟩ : ∃ v, e = .returned v := ⟨_, he⟩
     rw [HQ2.out] at hI; have HI4 : Hid _ := hI; clear hI he; have u := HI4.out.blk (heap_alloc_new w _) (by omega); have c0 := bc 0 u rfl; have c1 := bc 1 u rfl; have c2 := bc 2 u rfl; have c3 := bc 3 u rfl; have cf := blk_free u; clear u; go_wp2_with fail; refine bodyPost_ret (v := .agg #[.int .i64 2, .int .i64 0, .bool false, .string ⟨#[]⟩]) (by simp [results, Tryz.results258, go_sem, c0, c1, c2, c3]) rfl ⟨?_, HH.out.trans ((((((HS.out.alloc _).trans HI4.out).setNew HS.out (Nat.le_refl _) _ _).setNew HS.out (Nat.le_refl _) _ _).setNew HS.out (Nat.le_refl _) _ _).setNew HS.out (Nat.le_refl _) _ _)⟩; exact HE.out false
def nodeEnd (c : Cx) (w' : World) (r : Wk.St × Wk.Sem) (e : Ending) : Prop := ∃ k, e = .returned (nptr k) ∧ (r.1.bad = none → PTK c.ns w' (nptr k) r.2)
def XP (c : Cx) (fn lv f : Nat) : Prop := ∀ (nest : Nat) (q : Wk.St) (w : World) (o : Option Nat), PI c w w q nest o → (q.bad = none → nest ≤ 10) → meas c.T q lv < f →
 Calls Tryz.prog fn #[nptr c.b] w fun e w' => nodeEnd c w' (Wk.pe c.T f lv nest q) e ∧ PI c w w' (Wk.pe c.T f lv nest q).1 nest (o.or (Wk.stray c.ns (Wk.pe c.T f lv nest q).2.names))
def joined (kind : Nat) (g n : Nat) : Obj := .cells #[.int .i64 (kind : Nat), .int .i64 0, .int .i64 0, .bool false, .string ⟨#[]⟩, .int .i64 0, .slice (some ⟨g, 0, none⟩) n n] 246
theorem p_join (kind g n : Nat) (w : World) : Calls Tryz.prog 170 #[.int .i64 kind, .slice (some ⟨g, 0, none⟩) n n] w fun e w' => e = .returned (nptr w.heap.size) ∧ w' = w.alloc (joined kind g n) := by
 go_enter Tryz.func170, Tryz.ntmps170; go_wp2_with fail; go_ret; exact ⟨rfl, rfl⟩
theorem joined_at {kind g n : Nat} {w : World} : NodeAt (w.alloc (joined kind g n)) w.heap.size kind ⟨0, 0, false, ⟨#[]⟩⟩ 0 (.slice (some ⟨g, 0, none⟩) n n) := heap_alloc_new w _
section
variable {c : Cx}
theorem x_patom_open (f nest : Nat) (hE : XP c 141 7 f) (q : Wk.St) (w : World) (o : Option Nat) (h : PI c w w q nest o) (h10 : nest ≤ 10) (hm : meas c.T q 6 < f + 1) (K34 : q.isK c.T 34 = true) :
  Calls Tryz.prog 280 #[nptr c.b] w fun e w' => nodeEnd c w' (Wk.pe c.T (f + 1) 6 nest q) e ∧ PI c w w' (Wk.pe c.T (f + 1) 6 nest q).1 nest (o.or (Wk.stray c.ns (Wk.pe c.T (f + 1) 6 nest q).2.names)) := by
 have hq := Wk.isK_iff.1 K34; have HP : Hid (Wk.pe c.T (f + 1) 6 nest q = ((Wk.pe c.T f 7 (nest + 1) (q.opens c.T nest)).1.want c.T 35, (Wk.pe c.T f 7 (nest + 1) (q.opens c.T nest)).2)) := by
  show _ = _; rw [pe_atom, K34]; rfl
 rw [HP.out]; have HM : Hid (meas c.T (q.opens c.T nest) 7 < f) := by
  show _ < _; have := meas_opens (T := c.T) hq.1 (h.ok hq.1) nest 6; omega
 have HN : Hid _ := opens_nest (T := c.T) hq.1 h10; have HD : Hid _ := isK_at' h 34 (by decide); rw [K34] at HD; have HI : Hid (PI c w w q nest o) := h; have HK : Hid _ := K34; have HE : Hid (XP c 141 7 f) := hE; have H10 : Hid _ := h10; clear h K34 hE hm hq HP; generalize hr : Wk.pe c.T f 7 (nest + 1) (q.opens c.T nest) = r; have HR : Hid _ := hr; clear hr; go_enter Tryz.func280, Tryz.ntmps280; go_wp2_with fail; refine (j_next HI.out).mono ?_; rintro e w1 ⟨rfl, rfl⟩; generalize ((Wk.tokK c.T (ppAt c.T q)).kind : Int) = nk at *
 have d34 : (nk == 34) = true := HD.out; go_wp2_with fail; refine (j_open HI.out.drew 34 (by decide) HK.out H10.out).mono ?_; rintro e w2 ⟨rfl, hI2⟩; have HI2 : Hid _ := hI2; clear hI2; go_wp2_with fail; refine (HE.out (nest + 1) _ w2 o HI2.out.self HN.out HM.out).mono ?_; rintro e w3 ⟨⟨k, rfl, ht⟩, hI3⟩; rw [HR.out] at hI3 ht; have HI3 : Hid _ := hI3; have HT3 : Hid _ := ht; clear hI3 ht; go_wp2_with fail; refine (j_want HI3.out.self 35).mono ?_; rintro e w4 ⟨he, hI4⟩; obtain ⟨v, rfl⟩ : ∃ v, e = .returned v := ⟨_, he⟩
 obtain ⟨c2, cf⟩ := hI4.nestc; have HI4 : Hid _ := hI4.nest (nest : Int); clear hI4 he; go_wp2_with fail; go_ret; refine ⟨⟨k, rfl, fun hb => ?_⟩, ?_⟩
 ·exact (HT3.out (pwant_bad hb)).keep (HI3.out.keepN HI4.out)
 ·exact (HI2.out.trans HI3.out).trans HI4.out
theorem or_none_ (o : Option Nat) : o.or none = o := by cases o <;> rfl
theorem x_patom_name (f nest : Nat) (q : Wk.St) (w : World) (o : Option Nat) (h : PI c w w q nest o) (K34 : q.isK c.T 34 = false) (K2 : q.isK c.T 2 = true) :
  Calls Tryz.prog 280 #[nptr c.b] w fun e w' => nodeEnd c w' (Wk.pe c.T (f + 1) 6 nest q) e ∧ PI c w w' (Wk.pe c.T (f + 1) 6 nest q).1 nest (o.or (Wk.stray c.ns (Wk.pe c.T (f + 1) 6 nest q).2.names)) := by
 have HP : Hid (Wk.pe c.T (f + 1) 6 nest q = (q.adv, Wk.semName (Wk.tokK c.T q.k).text.data.toList (Wk.tokK c.T q.k).place)) := by
  show _ = _; rw [pe_atom, K34, K2]; rfl
 rw [HP.out]; have HD : Hid _ := isK_at' h 34 (by decide); have HD2 : Hid _ := isK_at' h 2 (by decide); rw [K34] at HD; rw [K2] at HD2; have HI : Hid (PI c w w q nest o) := h; have HW : Hid (q.want c.T 2 = q.adv) := want_isK K2; clear h K34 K2 HP; go_enter Tryz.func280, Tryz.ntmps280; go_wp2_with fail; refine (j_next HI.out).mono ?_; rintro e w1 ⟨rfl, rfl⟩; generalize ((Wk.tokK c.T (ppAt c.T q)).kind : Int) = nk at *
 have d34 : (nk == 34) = false := HD.out; have d2 : (nk == 2) = true := HD2.out; go_wp2_with fail; refine (j_use HI.out.drew).mono ?_; rintro e w2 ⟨⟨i, rfl, hi⟩, hI2⟩; rw [HW.out] at hI2 hi; have HI2 : Hid _ := hI2; have HX : Hid _ := hi; clear hI2 hi; go_wp2_with fail; go_ret; refine ⟨⟨w2.heap.size, rfl, fun hb hn => ?_⟩, HI2.out.alloc _⟩; refine pt_name (v := ⟨0, 0, false, ⟨#[]⟩⟩) (pv := .slice none 0 0) _ ?_ (hn _ (List.mem_singleton.2 rfl)); rw [← HX.out hb]; exact heap_alloc_new w2 _
theorem x_patom_null (f nest : Nat) (q : Wk.St) (w : World) (o : Option Nat) (h : PI c w w q nest o) (K34 : q.isK c.T 34 = false) (K2 : q.isK c.T 2 = false) (K20 : q.isK c.T 20 = true) :
  Calls Tryz.prog 280 #[nptr c.b] w fun e w' => nodeEnd c w' (Wk.pe c.T (f + 1) 6 nest q) e ∧ PI c w w' (Wk.pe c.T (f + 1) 6 nest q).1 nest (o.or (Wk.stray c.ns (Wk.pe c.T (f + 1) 6 nest q).2.names)) := by
 have HP : Hid (Wk.pe c.T (f + 1) 6 nest q = (q.adv, Wk.semNull)) := by
  show _ = _; rw [pe_atom, K34, K2, K20]; rfl
 rw [HP.out, show Wk.semNull.names = [] from rfl, Wk.stray_nil, or_none_]; have HD : Hid _ := isK_at' h 34 (by decide); have HD2 : Hid _ := isK_at' h 2 (by decide); have HD20 : Hid _ := isK_at' h 20 (by decide); rw [K34] at HD; rw [K2] at HD2; rw [K20] at HD20; have HI : Hid (PI c w w q nest o) := h; have HW : Hid (q.want c.T 20 = q.adv) := want_isK K20; clear h K34 K2 K20 HP; go_enter Tryz.func280, Tryz.ntmps280; go_wp2_with fail; refine (j_next HI.out).mono ?_; rintro e w1 ⟨rfl, rfl⟩; generalize ((Wk.tokK c.T (ppAt c.T q)).kind : Int) = nk at *
 have d34 : (nk == 34) = false := HD.out; have d2 : (nk == 2) = false := HD2.out; have d20 : (nk == 20) = true := HD20.out; go_wp2_with fail; refine (j_want HI.out.drew 20).mono ?_; rintro e w2 ⟨he, hI2⟩; obtain ⟨v, rfl⟩ : ∃ v, e = .returned v := ⟨_, he⟩
 rw [HW.out] at hI2; have HI2 : Hid _ := hI2; clear hI2 he; go_wp2_with fail; go_ret; refine ⟨⟨w2.heap.size, rfl, fun hb hn => ?_⟩, HI2.out.alloc _⟩; exact pt_null (v := ⟨0, 0, false, ⟨#[]⟩⟩) (pv := .slice none 0 0) (item := 0) _ (heap_alloc_new w2 _) rfl
theorem x_patom_val (hT : TP c.T) (f nest : Nat) (q : Wk.St) (w : World) (o : Option Nat) (h : PI c w w q nest o) (K34 : q.isK c.T 34 = false) (K2 : q.isK c.T 2 = false) (K20 : q.isK c.T 20 = false) :
  Calls Tryz.prog 280 #[nptr c.b] w fun e w' => nodeEnd c w' (Wk.pe c.T (f + 1) 6 nest q) e ∧ PI c w w' (Wk.pe c.T (f + 1) 6 nest q).1 nest (o.or (Wk.stray c.ns (Wk.pe c.T (f + 1) 6 nest q).2.names)) := by
 have HP : Hid (Wk.pe c.T (f + 1) 6 nest q = ((Wk.pValue c.T q).1, Wk.semVal (Wk.pValue c.T q).2)) := by
  show _ = _; rw [pe_atom, K34, K2, K20]; rfl
 have HD : Hid _ := isK_at' h 34 (by decide); have HD2 : Hid _ := isK_at' h 2 (by decide); have HD20 : Hid _ := isK_at' h 20 (by decide); rw [HP.out]; show Calls _ _ _ _ (fun e w' => _ ∧ PI c w w' (Wk.pValue c.T q).1 nest (o.or none)); rw [or_none_]; rw [K34] at HD; rw [K2] at HD2; rw [K20] at HD20; have HI : Hid (PI c w w q nest o) := h; have HT : Hid _ := hT; clear h K34 K2 K20 HP hT; go_enter Tryz.func280, Tryz.ntmps280; go_wp2_with fail; refine (j_next HI.out).mono ?_; rintro e w1 ⟨rfl, rfl⟩; generalize ((Wk.tokK c.T (ppAt c.T q)).kind : Int) = nk at *
 have d34 : (nk == 34) = false := HD.out; have d2 : (nk == 2) = false := HD2.out; have d20 : (nk == 20) = false := HD20.out; go_wp2_with fail; refine (j_value HT.out HI.out.drew).mono ?_; rintro e w2 ⟨⟨v, rfl, hv⟩, hI2⟩; have HI2 : Hid _ := hI2; have HV : Hid _ := hv; clear hI2 hv; go_wp2_with fail; go_ret; refine ⟨⟨w2.heap.size, rfl, fun hb hn => ?_⟩, HI2.out.alloc _⟩; exact pt_val (v := v) (pv := .slice none 0 0) (item := 0) _ (heap_alloc_new w2 _) (HV.out hb) (pValue_ne _ _)
theorem x_patom (hT : TP c.T) (f : Nat) (hE : XP c 141 7 f) : XP c 280 6 (f + 1) := by
 intro nest q w o h hn hm; cases K34 : q.isK c.T 34 with
 | true => exact x_patom_open f nest hE q w o h (hn (Wk.isK_iff.1 K34).1) hm K34
 | false =>
  cases K2 : q.isK c.T 2 with
  | true => exact x_patom_name f nest q w o h K34 K2
  | false =>
   cases K20 : q.isK c.T 20 with
   | true => exact x_patom_null f nest q w o h K34 K2 K20
   | false => exact x_patom_val hT f nest q w o h K34 K2 K20
end
def kdCells (l : List Nat) : Array Value := (l.map (fun kd => Value.int .i64 (kd : Nat))).toArray
theorem kd_cell {l : List Nat} {k : Nat} (h : k < l.length) : (kdCells l)[k]? = some (.int .i64 ((l[k]'h : Nat) : Int)) := by
 unfold kdCells; rw [List.getElem?_toArray, List.getElem?_map, List.getElem?_eq_getElem h]; rfl
def kdEnd (l : List Nat) (x : Nat) (e : Ending) : Prop := ∃ i : Int, e = .returned (.int .i64 i) ∧ decide (0 ≤ i) = l.contains x
theorem p_kindIdx {w : World} {g : Nat} {l : List Nat} (h : w.heap[g]? = some (.cells (kdCells l) 132 (0, 0))) (hl : l.length ≤ 2) (x : Nat) :
  Calls Tryz.prog 256 #[.slice (some ⟨g, 0, none⟩) l.length l.length, .int .i64 x] w fun e w' => kdEnd l x e ∧ w' = w := by
 have HH : Hid _ := h; clear h; go_enter Tryz.func256, Tryz.ntmps256; go_wp2
 go_loopg [8] l.length (fun gg s8 wr => ∃ kk : Nat, kk ≤ l.length ∧ l.length - kk ≤ gg ∧ s8 = .int .i64 kk ∧ wr = w ∧ Hid (l.contains x = (l.drop kk).contains x))
 case atStart => exact ⟨0, Nat.zero_le _, by omega, rfl, rfl, rfl⟩
 case round =>
  obtain ⟨kk, hkk, hg, rfl, rfl, HRk⟩ := hrel; by_cases hlt : kk < l.length
  ·have hc : wr.cell? ⟨g, kk, none⟩ = some (.int .i64 ((l[kk]'hlt : Nat) : Int)) := blk_cell HH.out (kd_cell hlt); have hltz : (kk : Int) < (l.length : Int) := by omega
   have hk0 : (0 : Int) ≤ (kk : Int) := by omega
   have HD : Hid (l.contains x = (x == (l[kk]'hlt) || (l.drop (kk + 1)).contains x)) := by
    show _ = _; rw [HRk.out, List.drop_eq_getElem_cons hlt, List.contains_cons]
   generalize (l[kk]'hlt) = y at *
   cases hq : (x == y) with
   | true =>
    have HE : Hid (kdEnd l x (.returned (.int .i64 (kk : Int)))) := ⟨kk, rfl, by rw [HD.out, hq]; simp⟩
    have dq : ((x : Int) == (y : Int)) = true := by rw [beq_iff_eq] at *; omega
    clear hq; go_wp2
    go_ret; exact ⟨HE.out, rfl⟩
   | false =>
    have HE : Hid (l.contains x = (l.drop (kk + 1)).contains x) := by
     show _ = _; rw [HD.out, hq]; rfl
    have dq : ((x : Int) == (y : Int)) = false := by rw [beq_eq_false_iff_ne] at *; omega
    clear hq; go_wp2
    go_roundg (l.length - (kk + 1)); case measure => omega
    case rel => exact ⟨kk + 1, by omega, by omega, by go_num, rfl, HE⟩
  ·have hltz : ¬ (kk : Int) < (l.length : Int) := by omega
   have HE : Hid (kdEnd l x (.returned (.int .i64 (-1)))) := ⟨-1, rfl, by rw [HRk.out, List.drop_eq_nil_of_le (by omega)]; rfl⟩
   go_wp2
   go_ret; exact ⟨HE.out, rfl⟩
theorem p_kindIn {w : World} {g : Nat} {l : List Nat} (h : w.heap[g]? = some (.cells (kdCells l) 132 (0, 0))) (hl : l.length ≤ 2) (x : Nat) :
  Calls Tryz.prog 228 #[.slice (some ⟨g, 0, none⟩) l.length l.length, .int .i64 x] w fun e w' => e = .returned (.bool (l.contains x)) ∧ w' = w := by
 go_enter Tryz.func228, Tryz.ntmps228; go_wp2_with fail; refine (p_kindIdx h hl x).mono ?_; rintro e w' ⟨⟨i, rfl, hi⟩, rfl⟩; have HI : Hid _ := hi; clear hi; go_wp2_with fail; go_ret; exact ⟨by rw [← HI.out]; rfl, rfl⟩
theorem isIn_at {c : Cx} {w0 w : World} {q : Wk.St} {nest : Int} {o : Option Nat} (h : PI c w0 w q nest o) {l : List Nat} (hl : ∀ kd ∈ l, 2 ≤ kd) : l.contains (Wk.tokK c.T (ppAt c.T q)).kind = q.isIn c.T l := by
 unfold Wk.St.isIn; cases hb : q.bad with
 | none => rw [ppAt_ok hb]; rfl
 | some p =>
  have hT := h.toks.shut; have e : ppAt c.T q = c.T.length - 1 := by unfold ppAt; rw [hb]; rfl
  have := hT.last (c.T.length - 1) (by have := hT.pos; omega); rw [e]; show _ = false; rw [← Bool.not_eq_true, List.contains_iff_mem]; intro hm; have := hl _ hm; omega
theorem isIn_K {T : List Wk.Tok} {q : Wk.St} {l : List Nat} (h : q.isIn T l = true) : q.isK T (Wk.tokK T q.k).kind = true := by
 have := Wk.isIn_iff.1 h; exact Wk.isK_iff.2 ⟨this.1, rfl⟩
theorem signs_bin {lv kd : Nat} (h : kd ∈ Wk.signs lv) : binKd kd := by
 unfold Wk.signs at h; unfold binKd; repeat' split at h
 all_goals (simp at h; omega)
theorem semBin_names (kd : Nat) (a b : Wk.Sem) : (Wk.semBin kd a b).names = a.names ++ b.names := by
 unfold Wk.semBin; repeat' split
 all_goals rfl
section
variable {c : Cx}
theorem j_row (lv g f : Nat) (hlv : lv = 0 ∨ lv = 1 ∨ lv = 4 ∨ lv = 5) (eg : ∀ args w, (callFunc g args).run Tryz.prog w = .ok (.enter g args) w) (hL : XP c g (lv + 1) f) (nest : Nat) (q : Wk.St) (w : World) (o : Option Nat) (h : PI c w w q nest o) (hn : q.bad = none → nest ≤ 10) (hm : meas c.T q (lv + 1) < f)
  (sg : Nat) (hs : w.heap[sg]? = some (.cells (kdCells (Wk.signs lv)) 132 (0, 0))) (r : Wk.St × Wk.Sem) (hr : Wk.pRow c.T (Wk.pe c.T f (lv + 1) nest) (Wk.signs lv) c.T.length (Wk.pe c.T f (lv + 1) nest q).1 (Wk.pe c.T f (lv + 1) nest q).2 = r) :
  Calls Tryz.prog 202 #[nptr c.b, .func (.func g) #[nptr c.b] #[], .slice (some ⟨sg, 0, none⟩) (Wk.signs lv).length (Wk.signs lv).length] w fun e w' => nodeEnd c w' r e ∧ PI c w w' r.1 nest (o.or (Wk.stray c.ns r.2.names)) := by
 have HT : Hid _ := h.toks.shut; have HG : Hid _ := fun q => (Wk.goes_pe h.toks.shut f (lv + 1) nest q).1
 have HL : Hid (XP c g (lv + 1) f) := hL; have HI : Hid (PI c w w q nest o) := h; have HN : Hid _ := hn; have HM : Hid _ := hm; have HSG : Hid _ := hs; have HR : Hid _ := hr; have hl2 : (Wk.signs lv).length ≤ 2 := by rcases hlv with rfl | rfl | rfl | rfl <;> decide
 have HL2 : Hid (∀ kd ∈ Wk.signs lv, 2 ≤ kd) := fun kd hk => by have := signs_bin hk; unfold binKd at this; omega
 have HSN : Hid (sg ≠ c.b) := by
  intro e; obtain ⟨cs, hb⟩ := h.box; rw [e, hb] at hs; cases hs
 clear h hL hn hm hs hr hlv; generalize hPF : Wk.pe c.T f (lv + 1) nest = pf at *
 have HPF : Hid _ := hPF; have HGL : Hid (∀ W, Gl W → ∀ kd ∈ Wk.signs lv, W.cell? ⟨8, kd, none⟩ = some (.int .i64 (opOf kd : Int)) ∧ (0 : Int) ≤ (kd : Int) ∧ (kd : Int) < 33) := by
  intro W hW kd hk; have := signs_bin hk; unfold binKd at this; exact ⟨hW.ops kd (by omega), by omega, by omega⟩
 clear hPF; go_enter Tryz.func202, Tryz.ntmps202; go_wp2_with fail; refine (HL.out nest q w o HI.out HN.out HM.out).mono ?_; rintro e w1 ⟨⟨k1, rfl, ht1⟩, hI1⟩; rw [HPF.out] at hI1 ht1; have HI1 : Hid _ := hI1; have HT1 : Hid _ := ht1; clear hI1 ht1; go_wp2_with fail; go_loopg [7] c.T.length (fun gk s7 wr => ∃ (q' : Wk.St) (a : Wk.Sem) (k : Nat), s7 = nptr k ∧ Hid (PI c w wr q' nest (o.or (Wk.stray c.ns a.names))) ∧ Hid (q'.bad = none → PTK c.ns wr (nptr k) a) ∧ Hid (Wk.pRow c.T pf (Wk.signs lv) gk q' a = r) ∧ Hid ((q'.bad = none → c.T.length - q'.k ≤ gk) ∧ q.le q'))
 case atStart => exact ⟨_, _, k1, rfl, HI1, HT1, HR, ⟨fun _ => by omega, HG.out q⟩⟩
 case round =>
  obtain ⟨q', a, k, rfl, HIr, HTr, HPR, HMS⟩ := hrel; clear HI1 HT1; have HIN : Hid _ := isIn_at HIr.out HL2.out; have HSr : Hid _ := HIr.out.blk HSG.out HSN.out; go_wp2_with fail; refine (j_next HIr.out).mono ?_; rintro e w2 ⟨rfl, rfl⟩; go_wp2_with fail; refine (p_kindIn (w := wr.drew) HSr.out hl2 _).mono ?_; rintro e w3 ⟨rfl, rfl⟩; rw [HIN.out]; cases hin : q'.isIn c.T (Wk.signs lv) with
  | false =>
   have HE : Hid (r = (q', a)) := by
    show _ = _; rw [← HPR.out]; cases gk with
    | zero => rfl
    | succ m => rw [Wk.pRow, hin]; rfl
   clear hin; go_wp2_with fail; go_ret; rw [HE.out]; exact ⟨⟨k, rfl, fun hb => (HTr.out hb).keep (KeepN.below (Below.refl _ _).drew)⟩, HIr.out.drew⟩
  | true =>
   have hbb := (Wk.isIn_iff.1 hin)
   have hkk := HIr.out.ok hbb.1; have HK : Hid _ := isIn_K hin; have HKD : Hid _ := hbb.2; have hat : ppAt c.T q' = q'.k := ppAt_ok hbb.1; have HW : Hid (q'.want c.T (Wk.tokK c.T q'.k).kind = q'.adv) := want_isK HK.out; have HBN : Hid _ := hbb.1; have HPR2 : Hid (Wk.pRow c.T pf (Wk.signs lv) (gk - 1) (pf q'.adv).1 (Wk.semBin (Wk.tokK c.T q'.k).kind a (pf q'.adv).2) = r) := by
    show _ = _; have h1 := HMS.out.1 hbb.1; rw [← HPR.out, show gk = (gk - 1) + 1 by omega, Wk.pRow, hin]; rfl
   have hgk : 0 < gk := by have := HMS.out.1 hbb.1; omega
   have HM5 : Hid (meas c.T q'.adv (lv + 1) < f) := by
    show _ < _; have h1 := meas_adv (T := c.T) hbb.1 hkk (lv + 1) (lv + 1) (by unfold rank; split <;> omega); have h2 := meas_le (T := c.T) HMS.out.2 (lv + 1); have h3 := HM.out; omega
   have HN5 : Hid (q'.adv.bad = none → nest ≤ 10) := fun _ => HN.out (HMS.out.2 HBN.out).1
   have HX5 : Hid (((pf q'.adv).1.bad = none → c.T.length - (pf q'.adv).1.k ≤ gk - 1) ∧ q.le (pf q'.adv).1) := by
    refine ⟨fun hb => ?_, Wk.St.le_trans HMS.out.2 (Wk.St.le_trans (Wk.le_adv q') (HG.out q'.adv))⟩; have h1 := HMS.out.1 HBN.out; have h2 := (HG.out q'.adv hb).2; have h3 : q'.adv.k = q'.k + 1 := by unfold Wk.St.adv; rw [HBN.out]; rfl
    omega
   rw [hat]; have HBK : Hid (binKd (Wk.tokK c.T q'.k).kind) := signs_bin HKD.out; clear hin hbb hkk HIN HPR; have hcell := HGL.out wr.drew HIr.out.drew.gl _ HKD.out; have HCW : Hid (∀ W, Gl W → W.cell? ⟨8, (Wk.tokK c.T q'.k).kind, none⟩ = some (.int .i64 (opOf (Wk.tokK c.T q'.k).kind : Int))) := fun W hW => (HGL.out W hW _ HKD.out).1
   obtain ⟨-, hkd0, hkd1⟩ := hcell; have h2k : 2 ≤ (Wk.tokK c.T q'.k).kind := HL2.out _ HKD.out; have HNX : Hid (∀ W, PI c w W q' nest (o.or (Wk.stray c.ns a.names)) → Calls Tryz.prog 108 #[nptr c.b] W fun e w' => e = .returned (.int .i64 ((Wk.tokK c.T q'.k).kind : Int)) ∧ w' = W.drew) := fun W hW => by
    have := j_next hW; rw [hat] at this; exact this
   clear hat HKD HK; generalize (Wk.tokK c.T q'.k).kind = kd at *
   go_wp2_with fail; refine (HNX.out _ HIr.out.drew).mono ?_; rintro e w4 ⟨rfl, rfl⟩; go_wp2_with fail; refine (j_want HIr.out.drew.drew.self kd h2k).mono ?_; rintro e w5 ⟨he, hI5⟩; obtain ⟨v5, rfl⟩ : ∃ v, e = .returned v := ⟨_, he⟩
   rw [HW.out] at hI5; have HT5 : Hid _ := (HTr.out HBN.out).keep (KeepN.trans (KeepN.below (w := wr) (w' := wr.drew.drew) (Below.refl _ _).drew.drew) (HIr.out.drew.drew.keepN hI5)); have HI5 : Hid _ := HIr.out.drew.drew.trans hI5; clear hI5 he; go_upto_region 5 with fail; have HX : Hid _ := HCW.out w5.drew HI5.out.drew.gl; refine wp_region_ph (fun w' => w'.cell? ⟨8, kd, none⟩ = some (.int .i64 (opOf kd : Int))) 9 9 rfl (by kernel_rfl) HX.out (fun hHeld => ?_); clear hHeld; refine PhS.t 0 20 HX.out ?_; refine PhS.t 1 21 HX.out ?_; refine PhS.t 2 22 HX.out ?_; refine PhS.t 3 23 HX.out ?_; refine PhS.t 4 24 HX.out ?_; refine PhS.on 5 (fun K hK => ?_); go_simp; refine (HL.out nest q'.adv w5.drew _ HI5.out.drew.self HN5.out HM5.out).mono ?_; rintro e w6 ⟨⟨k6, rfl, ht6⟩, hI6⟩; rw [HPF.out] at hI6 ht6; have HI6 : Hid _ := hI6; have HT6 : Hid _ := ht6; have HX6 : Hid _ := HCW.out w6 hI6.gl; refine hK.out _ _ (fun _ => HX6.out) ?_; clear hK K hI6 ht6; try simp only [Act.put, sA, sZ, sS]
   refine PhS.on 6 (fun K hK => ?_); go_simp; have HX7 : Hid (∀ x, (w6.alloc x).cell? ⟨8, kd, none⟩ = some (.int .i64 (opOf kd : Int))) := fun x => HCW.out _ (HI6.out.alloc x).gl
   refine hK.out _ _ (fun _ => HX7.out _) ?_; clear hK K; try simp only [Act.put, sA, sZ, sS]
   refine PhS.on 7 (fun K hK => ?_); go_simp; refine (p_join (opOf kd) w6.heap.size 2 _).mono ?_; rintro e w8 ⟨rfl, rfl⟩; have HX8 : Hid (∀ x y, ((w6.alloc x).alloc y).cell? ⟨8, kd, none⟩ = some (.int .i64 (opOf kd : Int))) := fun x y => HCW.out _ ((HI6.out.alloc x).alloc y).gl
   refine hK.out _ _ (fun _ => HX8.out _ _) ?_; clear hK K; try simp only [Act.put, sA, sZ, sS]
   refine PhS.t 8 7 (HX8.out _ _) ?_; refine PhS.done (by kernel_rfl) ?_ _; go_wp2_with fail; go_roundg (gk - 1); case measure => omega
   case rel =>
    have hI : PI c w ((w6.alloc (.cells #[nptr k, nptr k6] 70)).alloc (joined (opOf kd) w6.heap.size 2)) (pf q'.adv).1 nest (o.or (Wk.stray c.ns (Wk.semBin kd a (pf q'.adv).2).names)) := by
     rw [semBin_names, Wk.stray_append, ← Wk.or_assoc3]; exact HI5.out.drew.trans ((HI6.out.alloc _).alloc _)
    refine ⟨(pf q'.adv).1, Wk.semBin kd a (pf q'.adv).2, w6.heap.size + 1, rfl, hI, fun hb => ?_, HPR2, HX5⟩; have hka : KeepN w5 ((w6.alloc (.cells #[nptr k, nptr k6] 70)).alloc (joined (opOf kd) w6.heap.size 2)) := (KeepN.below (w := w5) (w' := w5.drew) (Below.refl _ _).drew).trans ((HI5.out.drew.keepN HI6.out).trans (KeepN.below (ab2 _ _ _))); have hta := PTK.keep HT5.out hka; have htb := PTK.keep (HT6.out hb) (KeepN.below (ab2 w6 (.cells #[nptr k, nptr k6] 70) (joined (opOf kd) w6.heap.size 2))); intro hn; rw [semBin_names] at hn; refine pt_bin HBK.out (v := ⟨0, 0, false, ⟨#[]⟩⟩) (item := 0) (g := w6.heap.size) ?_ (blk_alloc _ (heap_alloc_new w6 _)) (hta (fun x hx => hn x (List.mem_append_left _ hx))) (htb (fun x hx => hn x (List.mem_append_right _ hx))); have := joined_at (kind := opOf kd) (g := w6.heap.size) (n := 2) (w := w6.alloc (.cells #[nptr k, nptr k6] 70)); rw [sz_alloc] at this; exact this
end
end Go.Proofs.YtbkaghlklkdmkaaGreatDoor
