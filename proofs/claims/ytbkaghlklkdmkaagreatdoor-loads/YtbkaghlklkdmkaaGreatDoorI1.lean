import Derived.Test.YtbkaghlklkdmkaaGreatDoorH1
import Derived.Test.YtbkaghlklkdmkaaGreatDoorH5
namespace Go.Proofs.YtbkaghlklkdmkaaGreatDoor
open Go.RowKit
attribute [local go_sem ↓] Go.wp_at_zero Go.wp_at_succ
def MS (o : Option Nat) (ms : Bool) (ma : Int) : Prop := (o = none → ms = false) ∧ ∀ p, o = some p → ms = true ∧ ma = p
structure Cx where
 T : List Wk.Tok
 b : Nat
 tg : Nat
 tc : Nat
 B : Nat
 iv : Value
 irs : List IR
def Cx.ns (c : Cx) : List Wk.Name := irNames c.irs
structure PI (c : Cx) (w0 w : World) (q : Wk.St) (nest : Int) (o : Option Nat) : Prop where
 pp : ∃ ms ma, PP c.T w c.b c.tg c.tc q nest c.iv ms ma ∧ (q.bad = none → MS o ms ma)
 row : w.ownsRow c.B 75 15 c.iv c.irs.length (IR.flat c.irs)
 few : c.irs.length ≤ 20
 gl : Gl w
 fr : Fr (fun k => k = c.b) w0 w
 low : 12 ≤ c.B ∧ c.B ≤ c.b
theorem pown_ne {w : World} {base : Nat} {e : TypeId} {size : Nat} {v : Value} {n : Nat} {xs : List Value} (h : w.ownsRow base e size v n xs) {b : Nat} {cs : Array Value} {t : TypeId} {fr : Nat × Nat} (hb : w.heap[b]? = some (.cells cs t fr)) (ht : t ≠ e) : v.ownBlock ≠ some b := by
 intro e'; rcases h.2 with ⟨rfl, _⟩ | ⟨g, cap, cur, rfl, _, hgg, _⟩
 ·simp [Value.ownBlock] at e'
 ·simp [Value.ownBlock] at e'; subst e'; rw [hgg] at hb; cases hb; exact ht rfl
theorem powns_fr {w w' : World} {base : Nat} {e : TypeId} {size : Nat} {v : Value} {n : Nat} {xs : List Value} (h : w.ownsRow base e size v n xs) {b : Nat} (hf : Fr (fun k => k = b) w w') (hne : v.ownBlock ≠ some b) : w'.ownsRow base e size v n xs :=
 h.kept (row := some b) ⟨hf.os, hf.tape, hf.output, hf.size, fun k hk hn => hf.block k hk (fun e => hn (by rw [e]))⟩ (Or.inr hne)
section
variable {c : Cx} {w0 w w' : World} {q : Wk.St} {nest : Int} {o : Option Nat}
theorem PI.box (h : PI c w0 w q nest o) : ∃ cs, w.heap[c.b]? = some (.cells cs 148 (0, 0)) := by
 obtain ⟨ms, ma, hp, -⟩ := h.pp; exact ⟨_, hp.box⟩
theorem PI.blt (h : PI c w0 w q nest o) : c.b < w.heap.size := by
 obtain ⟨cs, hb⟩ := h.box; exact lt_of_block hb
theorem PI.ok (h : PI c w0 w q nest o) (hb : q.bad = none) : q.k < c.T.length := by
 obtain ⟨ms, ma, hp, -⟩ := h.pp; exact hp.ok hb
theorem PI.toks (h : PI c w0 w q nest o) : PTk c.T w c.tg c.tc := by
 obtain ⟨ms, ma, hp, -⟩ := h.pp; exact hp.toks
theorem PI.step (h : PI c w0 w q nest o) {q' : Wk.St} {nest' : Int} {o' : Option Nat} (hF : Fr (fun k => k = c.b) w w') (hP : ∃ ms ma, PP c.T w' c.b c.tg c.tc q' nest' c.iv ms ma ∧ (q'.bad = none → MS o' ms ma)) : PI c w0 w' q' nest' o' := by
 obtain ⟨cs, hb⟩ := h.box; exact ⟨hP, powns_fr h.row hF (pown_ne h.row hb (by decide)), h.few, hF.gl (fun k hk e => by have := h.low; omega) h.gl, h.fr.trans hF, h.low⟩
theorem PI.self (h : PI c w0 w q nest o) : PI c w w q nest o := ⟨h.pp, h.row, h.few, h.gl, Fr.refl _ _, h.low⟩
theorem PI.trans {w1 : World} {q1 : Wk.St} {nest1 : Int} {o1 : Option Nat} (h : PI c w0 w1 q1 nest1 o1) (k : PI c w1 w q nest o) : PI c w0 w q nest o := ⟨k.pp, k.row, k.few, k.gl, h.fr.trans k.fr, k.low⟩
theorem PI.below (h : PI c w0 w q nest o) (hb : Below w.heap.size w w') : PI c w0 w' q nest o := by
 obtain ⟨ms, ma, hp, hm⟩ := h.pp; exact h.step (Fr.ofBelow hb) ⟨ms, ma, hp.below hb, hm⟩
theorem PI.alloc (h : PI c w0 w q nest o) (x : Obj) : PI c w0 (w.alloc x) q nest o := h.below (ab1 w x)
theorem PI.drew (h : PI c w0 w q nest o) : PI c w0 w.drew q nest o := h.below (Below.refl _ _).drew
theorem PI.keepN {q1 : Wk.St} {nest1 : Int} {o1 : Option Nat} {wa : World} (h : PI c wa w0 q1 nest1 o1) (k : PI c w0 w q nest o) : KeepN w0 w := by
 obtain ⟨cs, hb⟩ := h.box; refine KeepN.fr k.fr ?_; rintro i cs' t fr rfl hi; rw [hb] at hi; cases hi; exact ⟨by decide, by decide⟩
theorem PI.blk (k : PI c w0 w q nest o) {i : Nat} {x : Obj} (hi : w0.heap[i]? = some x) (hne : i ≠ c.b) : w.heap[i]? = some x := (k.fr.block i (lt_of_block hi) hne).trans hi
theorem j_next (h : PI c w0 w q nest o) : Calls Tryz.prog 108 #[nptr c.b] w fun e w' => e = .returned (.int .i64 ((Wk.tokK c.T (ppAt c.T q)).kind : Int)) ∧ w' = w.drew := by
 obtain ⟨ms, ma, hp, -⟩ := h.pp; exact p_next hp
theorem j_has (h : PI c w0 w q nest o) (kd : Nat) (h2 : 2 ≤ kd) : Calls Tryz.prog 138 #[nptr c.b, .int .i64 kd] w fun e w' => e = .returned (.bool (q.isK c.T kd)) ∧ PI c w0 w' (if q.isK c.T kd then q.adv else q) nest o := by
 obtain ⟨ms, ma, hp, hm⟩ := h.pp; refine (p_has hp kd h2).mono ?_; rintro e w1 ⟨rfl, hP, hF⟩; refine ⟨rfl, h.step hF ⟨ms, ma, hP, fun hb => hm ?_⟩⟩; cases hk : q.isK c.T kd with
 | true => exact (Wk.isK_iff.1 hk).1
 | false => rw [hk] at hb; exact hb
theorem pwant_bad {T : List Wk.Tok} {q : Wk.St} {kd : Nat} (h : (q.want T kd).bad = none) : q.bad = none := (Wk.isK_iff.1 (want_ok h)).1
theorem j_want (h : PI c w0 w q nest o) (kd : Nat) (h2 : 2 ≤ kd) : Calls Tryz.prog 140 #[nptr c.b, .int .i64 kd] w fun e w' => wantEnd c.T q kd e ∧ PI c w0 w' (q.want c.T kd) nest o := by
 obtain ⟨ms, ma, hp, hm⟩ := h.pp; refine (p_want hp kd h2).mono ?_; rintro e w1 ⟨he, hP, hF⟩; exact ⟨he, h.step hF ⟨ms, ma, hP, fun hb => hm (pwant_bad hb)⟩⟩
theorem pfail_some {T : List Wk.Tok} {q : Wk.St} : (q.fail T).bad ≠ none := by
 unfold Wk.St.fail; cases hb : q.bad <;> simp [hb]
theorem j_fail (h : PI c w0 w q nest o) (o' : Option Nat) : Calls Tryz.prog 109 #[nptr c.b] w fun e w' => e = .returned (.tuple #[]) ∧ PI c w0 w' (q.fail c.T) nest o' := by
 obtain ⟨ms, ma, hp, hm⟩ := h.pp; refine (p_fail hp).mono ?_; rintro e w1 ⟨he, hP, hF⟩; exact ⟨he, h.step hF ⟨ms, ma, hP, fun hb => absurd hb pfail_some⟩⟩
end
set_option maxHeartbeats 400000 in
theorem p_findClo (r : IR) (x : ByteArray) {k : Nat} {w : World} (hk : w.heap[k]? = some (.cells #[.string x] 9 (0, 0))) :
  Calls Tryz.prog 198 #[r.val, nptr k] w fun e w' => e = .returned (.bool (r.nm.toList == x.toList)) ∧ Below w.heap.size w w' := by
 have c0 := blk_cell (o := 0) hk rfl; have hl := lt_of_block hk; clear hk; unfold IR.val; go_enter Tryz.func198, Tryz.ntmps198; go_wp2_with fail; go_ret; exact ⟨rfl, ab1 _ _⟩
end Go.Proofs.YtbkaghlklkdmkaaGreatDoor
namespace Go.Proofs.YtbkaghlklkdmkaaGreatDoor
open Go.RowKit
attribute [local go_sem ↓] Go.wp_at_zero Go.wp_at_succ
theorem IR.len (r : IR) : r.cells.length = 15 := rfl
theorem item_cells {w : World} {B g cap : Nat} {irs : List IR} (h : w.ownsRow B 75 15 (.slice (some ⟨g, 0, none⟩) irs.length cap) irs.length (IR.flat irs)) {j : Nat} {r : IR} (hj : irs[j]? = some r) {i : Nat} {v : Value} (hv : r.cells[i]? = some v) : w.cell? ⟨g, j * 15 + i, none⟩ = some v := by
 have hjl := (List.getElem?_eq_some_iff.1 hj).1; have hi : i < 15 := (List.getElem?_eq_some_iff.1 hv).1; rw [h.cellAt (j * 15 + i) (by omega)]; exact flat_at IR.cells 15 IR.len irs j r hj i v hv
set_option maxRecDepth 100000 in
set_option maxHeartbeats 2000000 in
theorem p_index {w : World} {B : Nat} {iv : Value} {irs : List IR} (h : w.ownsRow B 75 15 iv irs.length (IR.flat irs)) (hf : irs.length ≤ 20) (x : ByteArray) {k : Nat} (hk : w.heap[k]? = some (.cells #[.string x] 9 (0, 0))) :
  Calls Tryz.prog 197 #[iv, .func (.func 198) #[] #[nptr k]] w fun e w' => e = .returned (.int .i64 (Wk.idx x.data.toList (irNames irs))) ∧ Below w.heap.size w w' := by
 rcases h.2 with ⟨rfl, h0⟩ | ⟨g, cap, cur, rfl, -, hgg, -⟩
 ·have HE : Hid (Wk.idx x.data.toList (irNames irs) = -1) := by
   show _ = _; rw [show irs = [] from List.length_eq_zero_iff.1 h0]; rfl
  clear h; go_enter Tryz.func197, Tryz.ntmps197; go_wp2
  refine wp_loop_rounds 1 ?_; rw [rounds_succ]; go_wp2
  go_ret; exact ⟨by rw [HE.out]; rfl, Below.refl _ _⟩
 ·have hgl := lt_of_block hgg; have HR : Hid _ := h; have HK : Hid _ := hk; obtain ⟨R, hR⟩ : ∃ R, R = Wk.idx x.data.toList (irNames irs) := ⟨_, rfl⟩
  rw [← hR]; have HI : Hid (R = Wk.idxF x.data.toList ((irNames irs).drop 0) 0) := hR; clear h hk hgg hR; go_enter Tryz.func197, Tryz.ntmps197; go_wp2
  go_loopg [8] irs.length (fun gg s8 wr => ∃ kk : Nat, kk ≤ irs.length ∧ irs.length - kk ≤ gg ∧ s8 = .int .i64 kk ∧ Hid (Below w.heap.size w wr) ∧ Hid (R = Wk.idxF x.data.toList ((irNames irs).drop kk) kk))
  case atStart => exact ⟨0, Nat.zero_le _, by omega, rfl, Below.refl _ _, HI⟩
  case round =>
   obtain ⟨kk, hkk, hg, rfl, HB, HRk⟩ := hrel; by_cases hlt : kk < irs.length
   ·have hj : irs[kk]? = some (irs[kk]'hlt) := List.getElem?_eq_getElem hlt; have HS : Hid (R = if (irs[kk]'hlt).nm.data.toList == x.data.toList then (kk : Int) else Wk.idxF x.data.toList ((irNames irs).drop (kk + 1)) (kk + 1)) := by
     show _ = _; have hl : kk < (irNames irs).length := by simpa [irNames] using hlt
     rw [HRk.out, List.drop_eq_getElem_cons hl, Wk.idxF]; simp [irNames]
    have hR' := (owns_below HR.out HB.out)
    have e0 := item_cells hR' hj (i := 0) rfl; have e1 := item_cells hR' hj (i := 1) rfl; have e2 := item_cells hR' hj (i := 2) rfl; have e3 := item_cells hR' hj (i := 3) rfl; have e4 := item_cells hR' hj (i := 4) rfl; have e5 := item_cells hR' hj (i := 5) rfl; have e6 := item_cells hR' hj (i := 6) rfl; have e7 := item_cells hR' hj (i := 7) rfl; have e8 := item_cells hR' hj (i := 8) rfl; have e9 := item_cells hR' hj (i := 9) rfl; have e10 := item_cells hR' hj (i := 10) rfl; have e11 := item_cells hR' hj (i := 11) rfl; have e12 := item_cells hR' hj (i := 12) rfl; have e13 := item_cells hR' hj (i := 13) rfl; have e14 := item_cells hR' hj (i := 14) rfl; rw [Nat.add_zero] at e0; have HC : Hid _ := p_findClo (irs[kk]'hlt) x ((HB.out.block k (lt_of_block HK.out)).trans HK.out); have hltz : (kk : Int) < (irs.length : Int) := by omega
    have hk0 : (0 : Int) ≤ (kk : Int) := by omega
    clear hj hR'; generalize (irs[kk]'hlt) = r at *
    unfold IR.val at HC; cases hq : (r.nm.toList == x.toList) with
    | true =>
     have HE : Hid (R = (kk : Int)) := by
      show _ = _; rw [HS.out, ← ByteArray.toList_eq, ← ByteArray.toList_eq, hq]; rfl
     rw [hq] at HC; clear hq; go_wp2_with fail; refine Calls.mono HC.out ?_; rintro e w2 ⟨rfl, hb2⟩; have HB2 : Hid (Below w.heap.size w w2) := HB.out.trans (hb2.mono HB.out.size); clear hb2; go_wp2_with fail; go_ret; exact ⟨by rw [HE.out]; rfl, HB2.out⟩
    | false =>
     have HE : Hid (R = Wk.idxF x.data.toList ((irNames irs).drop (kk + 1)) (kk + 1)) := by
      show _ = _; rw [HS.out, ← ByteArray.toList_eq, ← ByteArray.toList_eq, hq]; rfl
     rw [hq] at HC; clear hq; go_wp2_with fail; refine Calls.mono HC.out ?_; rintro e w2 ⟨rfl, hb2⟩; have HB2 : Hid (Below w.heap.size w w2) := HB.out.trans (hb2.mono HB.out.size); clear hb2; go_wp2_with fail; go_roundg (irs.length - (kk + 1)); case measure => omega
     case rel => exact ⟨kk + 1, by omega, by omega, by go_num, HB2, HE⟩
   ·have hltz : ¬ (kk : Int) < (irs.length : Int) := by omega
    have HE : Hid (R = -1) := by
     show _ = _; rw [HRk.out, List.drop_eq_nil_of_le (by simp [irNames]; omega)]; rfl
    go_wp2
    go_ret; exact ⟨by rw [HE.out]; rfl, HB.out⟩
set_option maxHeartbeats 400000 in
theorem j_find {c : Cx} {w0 w : World} {q : Wk.St} {nest : Int} {o : Option Nat} (h : PI c w0 w q nest o) (x : ByteArray) :
  Calls Tryz.prog 165 #[nptr c.b, .string x] w fun e w' => e = .returned (.int .i64 (Wk.idx x.data.toList c.ns)) ∧ Below w.heap.size w w' := by
 obtain ⟨ms, ma, hp, -⟩ := h.pp; have c3 := blk_cell (o := 3) hp.box rfl; have hl := lt_of_block hp.box; have HC : Hid _ := p_index (h.row.alloc (.cells #[.string x] 9)) h.few x (heap_alloc_new w _); obtain ⟨R, hR⟩ : ∃ R, R = Wk.idx x.data.toList c.ns := ⟨_, rfl⟩
 rw [← hR]; have HR : Hid (Wk.idx x.data.toList (irNames c.irs) = R) := hR.symm; rw [HR.out] at HC; clear h hp hR; go_enter Tryz.func165, Tryz.ntmps165; go_wp2_with fail; refine Calls.mono HC.out ?_; rintro e w2 ⟨rfl, hb⟩; have HB : Hid (Below w.heap.size w w2) := (ab1 _ _).trans (hb.mono (ab1 _ _).size); clear hb; go_wp2_with fail; go_ret; exact ⟨rfl, HB.out⟩
end Go.Proofs.YtbkaghlklkdmkaaGreatDoor
namespace Go.Proofs.YtbkaghlklkdmkaaGreatDoor
open Go.RowKit
attribute [local go_sem ↓] Go.wp_at_zero Go.wp_at_succ
theorem MS.name {o : Option Nat} {ms : Bool} {ma : Int} (h : MS o ms ma) (hm : ms = true) (p : Nat) : MS (o.or (some p)) ms ma := by
 cases o with
 | none => have := h.1 rfl; rw [hm] at this; cases this
 | some x => exact h
theorem MS.first {o : Option Nat} {ms : Bool} {ma : Int} (h : MS o ms ma) (hm : ms = false) (p : Nat) : MS (o.or (some p)) true p := by
 cases o with
 | none => exact ⟨fun e => (by cases e), fun x e => (by cases e; exact ⟨rfl, rfl⟩)⟩
 | some x => have := (h.2 x rfl).1; rw [hm] at this; cases this
set_option maxRecDepth 100000 in
set_option maxHeartbeats 2000000 in
theorem j_misname {c : Cx} {w0 w : World} {q : Wk.St} {nest : Int} {o : Option Nat} (h : PI c w0 w q nest o) (kd pl : Int) (tx : ByteArray) (p : Nat) (hp : q.bad = none → pl = p) :
  Calls Tryz.prog 166 #[nptr c.b, .agg #[.int .i64 kd, .int .i64 pl, .string tx]] w fun e w' => e = .returned (.tuple #[]) ∧ PI c w0 w' q nest (o.or (some p)) := by
 obtain ⟨ms, ma, hP, hm⟩ := h.pp; have c6 := blk_cell (o := 6) hP.box rfl; have hl := lt_of_block hP.box; cases hms : ms with
 | true =>
  rw [hms] at c6; have HE : Hid (∀ x, PI c w0 (w.alloc x) q nest (o.or (some p))) := fun x => h.step (Fr.ofBelow (ab1 _ _)) ⟨ms, ma, hP.below (ab1 _ _), fun hb => (hm hb).name hms p⟩
  clear h hP hm hms hp; go_enter Tryz.func166, Tryz.ntmps166; go_wp2_with fail; go_end0
  exact ⟨rfl, HE.out _⟩
 | false =>
  rw [hms] at c6; have c7 := blk_cell (o := 7) hP.box rfl; have cf := blk_free hP.box; have HB : Hid (w.heap[c.b]? = some (ppBlock c.T q nest (.slice (some ⟨c.tg, 0, none⟩) c.T.length c.tc) c.iv ms ma)) := hP.box; have HP : Hid _ := hP; have HH : Hid (PI c w0 w q nest o) := h; have HM : Hid _ := hm; have HMS : Hid _ := hms; have HPL : Hid _ := hp; have HN : Hid (∀ W : World, W.heap.size = w.heap.size → (W.alloc (.cells #[.int .i64 kd, .int .i64 pl, .string tx] 134)).drew.cell? ⟨w.heap.size, 1, none⟩ = some (.int .i64 pl)) := by
   intro W hW; have := heap_alloc_new W (.cells #[.int .i64 kd, .int .i64 pl, .string tx] 134); rw [hW] at this; exact blk_cell (w := W.alloc (.cells #[.int .i64 kd, .int .i64 pl, .string tx] 134)) this rfl
  have HS0 : Hid ((w.alloc (.cells #[.int .i64 kd, .int .i64 pl, .string tx] 134)).drew.cell? ⟨w.heap.size, 1, none⟩ = some (.int .i64 pl)) := HN.out w rfl; have HS6 : Hid (((w.setCell ⟨c.b, 6, none⟩ (.bool true)).alloc (.cells #[.int .i64 kd, .int .i64 pl, .string tx] 134)).drew.cell? ⟨w.heap.size, 1, none⟩ = some (.int .i64 pl)) := HN.out _ (by simp [World.setCell]); have HS9 : Hid ((((w.setCell ⟨c.b, 6, none⟩ (.bool true)).setCell ⟨c.b, 7, none⟩ (.int .i64 pl)).alloc (.cells #[.int .i64 kd, .int .i64 pl, .string tx] 134)).drew.cell? ⟨w.heap.size, 1, none⟩ = some (.int .i64 pl)) := HN.out _ (by simp [World.setCell]); clear h hP hm hms hp HN; go_enter Tryz.func166, Tryz.ntmps166; go_upto_region 2 with fail; refine wp_region_ph (fun w' => w'.cell? ⟨w.heap.size, 1, none⟩ = some (.int .i64 pl)) 10 10 rfl (by kernel_rfl) HS0.out (fun hHeld => ?_); clear hHeld; refine PhS.t 0 9 HS0.out ?_; refine PhS.t 1 10 HS0.out ?_; refine PhS.t 2 11 HS0.out ?_; refine PhS.t 3 12 HS0.out ?_; refine PhS.t 4 13 HS0.out ?_; refine PhS.t 5 14 HS0.out ?_; refine PhS.on 6 (fun K hK => ?_); go_simp; refine hK.out _ _ (fun _ => HS6.out) ?_; clear hK K; refine PhS.t 7 15 HS6.out ?_; refine PhS.t 8 16 HS6.out ?_; refine PhS.on 9 (fun K hK => ?_); go_simp; refine hK.out _ _ (fun _ => HS9.out) ?_; clear hK K; refine PhS.done (by kernel_rfl) ?_ _; go_wp2_with fail; go_end0
  have hF : Fr (fun k => k = c.b) w ((w.setCell ⟨c.b, 6, none⟩ (.bool true)).setCell ⟨c.b, 7, none⟩ (.int .i64 pl)) := (Fr.setCell (fun k => k = c.b) w ⟨c.b, 6, none⟩ (.bool true) rfl).trans (Fr.setCell (fun k => k = c.b) _ ⟨c.b, 7, none⟩ _ rfl); have hQ : PI c w0 ((w.setCell ⟨c.b, 6, none⟩ (.bool true)).setCell ⟨c.b, 7, none⟩ (.int .i64 pl)) q nest (o.or (some p)) := by
   refine HH.out.step hF ⟨true, pl, ⟨HP.out.toks.of ((blk_other _ HP.out.ne).trans (blk_other _ HP.out.ne)), ?_, HP.out.ok, HP.out.ne⟩, fun hb => ?_⟩
   ·have h1 := blk_set (o := 6) (.bool true) (show w.heap[c.b]? = some (.cells #[.slice (some ⟨c.tg, 0, none⟩) c.T.length c.tc, .int .i64 (ppAt c.T q : Int), .int .i64 nest, c.iv, .bool q.bad.isSome, .int .i64 ((q.bad.getD 0 : Nat) : Int), .bool ms, .int .i64 ma] 148 (0, 0)) from HB.out); exact (blk_set (o := 7) (.int .i64 pl) h1).trans (by simp [ppBlock])
   ·rw [HPL.out hb]; exact (HM.out hb).first HMS.out p
  exact ⟨rfl, (hQ.alloc _).drew⟩
theorem PI.any {c : Cx} {w0 w : World} {q : Wk.St} {nest : Int} {o : Option Nat} (h : PI c w0 w q nest o) (hb : q.bad ≠ none) (o' : Option Nat) : PI c w0 w q nest o' := by
 obtain ⟨ms, ma, hp, -⟩ := h.pp; exact ⟨⟨ms, ma, hp, fun e => absurd e hb⟩, h.row, h.few, h.gl, h.fr, h.low⟩
def useEnd (c : Cx) (q : Wk.St) (e : Ending) : Prop := ∃ i : Int, e = .returned (.int .i64 i) ∧ ((q.want c.T 2).bad = none → i = Wk.idx (Wk.tokK c.T q.k).text.data.toList c.ns)
set_option maxHeartbeats 1000000 in
theorem j_use {c : Cx} {w0 w : World} {q : Wk.St} {nest : Int} {o : Option Nat} (h : PI c w0 w q nest o) :
  Calls Tryz.prog 204 #[nptr c.b] w fun e w' => useEnd c q e ∧ PI c w0 w' (q.want c.T 2) nest (o.or (Wk.stray c.ns [((Wk.tokK c.T q.k).text.data.toList, (Wk.tokK c.T q.k).place)])) := by
 have HH : Hid _ := h; clear h; cases hK : q.isK c.T 2 with
 | true =>
  have hx := Wk.stray_one c.ns (Wk.tokK c.T q.k).text.data.toList (Wk.tokK c.T q.k).place; have HST : Hid _ := hx; have HKK : Hid _ := hK; clear hx hK; go_enter Tryz.func204, Tryz.ntmps204; go_wp2_with fail; refine (j_want HH.out 2 (by decide)).mono ?_; rintro e w1 ⟨he, hI⟩; unfold wantEnd at he; rw [HKK.out, if_pos rfl] at he; subst he; have HI1 : Hid _ := hI; clear hI; generalize htx : (Wk.tokK c.T q.k).text = tx at *
  generalize hpl : (Wk.tokK c.T q.k).place = pl at *
  generalize (Wk.tokK c.T q.k).kind = kd at *
  have HTX : Hid _ := htx; have HPLC : Hid _ := hpl; clear htx hpl; go_wp2_with fail; refine (j_find (HI1.out.alloc _) tx).mono ?_; rintro e w2 ⟨rfl, hb⟩; have u2 := (hb.block w1.heap.size (by simp)).trans (heap_alloc_new w1 _); have c0 := blk_cell (o := 0) u2 rfl; have c1 := blk_cell (o := 1) u2 rfl; have c2 := blk_cell (o := 2) u2 rfl; have HI2 : Hid _ := (HI1.out.alloc _).below hb; have HN : Hid _ := Wk.idx_neg (x := tx.data.toList) (ns := c.ns); have HE : Hid (useEnd c q (.returned (.int .i64 (Wk.idx tx.data.toList c.ns)))) := ⟨_, rfl, fun _ => by rw [HTX.out]⟩
  clear hb u2; cases hc : c.ns.contains tx.data.toList with
  | true =>
   rw [hc] at HN HST; have hn : ¬ Wk.idx tx.data.toList c.ns < 0 := of_decide_eq_false HN.out; have HO : Hid (o.or (Wk.stray c.ns [(tx.data.toList, pl)]) = o) := by
    show _ = _; rw [HST.out]; cases o <;> rfl
   generalize Wk.idx tx.data.toList c.ns = i at *
   clear hc HN; go_wp2_with fail; go_ret; refine ⟨HE.out, ?_⟩; rw [HTX.out, HPLC.out, HO.out]; exact HI2.out
  | false =>
   rw [hc] at HN HST; have hn : Wk.idx tx.data.toList c.ns < 0 := of_decide_eq_true HN.out; have HO : Hid (o.or (Wk.stray c.ns [(tx.data.toList, pl)]) = o.or (some pl)) := by
    show _ = _; rw [HST.out]; rfl
   generalize Wk.idx tx.data.toList c.ns = i at *
   clear hc HN; go_wp2_with fail; refine (j_misname HI2.out (kd : Int) (pl : Int) tx pl (fun _ => rfl)).mono ?_; rintro e w3 ⟨rfl, hI3⟩; have HI3 : Hid _ := hI3; clear hI3; go_wp2_with fail; go_ret; refine ⟨HE.out, ?_⟩; rw [HTX.out, HPLC.out, HO.out]; exact HI3.out
 | false =>
  have HKK : Hid _ := hK; have HBD : Hid ((q.want c.T 2).bad ≠ none) := fun e => by rw [want_ok e] at hK; cases hK
  clear hK; go_enter Tryz.func204, Tryz.ntmps204; go_wp2_with fail; refine (j_want HH.out 2 (by decide)).mono ?_; rintro e w1 ⟨he, hI⟩; unfold wantEnd at he; rw [HKK.out, if_neg (by decide)] at he; subst he; have HI1 : Hid _ := hI; clear hI; go_wp2_with fail; refine (j_find (HI1.out.alloc _) ⟨#[]⟩).mono ?_; rintro e w2 ⟨rfl, hb⟩; have u2 := (hb.block w1.heap.size (by simp)).trans (heap_alloc_new w1 _); have c0 := blk_cell (o := 0) u2 rfl; have c1 := blk_cell (o := 1) u2 rfl; have c2 := blk_cell (o := 2) u2 rfl; have HI2 : Hid _ := (HI1.out.alloc _).below hb; clear hb u2; generalize Wk.idx (ByteArray.mk #[]).data.toList c.ns = i at *
  have HE : Hid (useEnd c q (.returned (.int .i64 i))) := ⟨_, rfl, fun e => absurd e HBD.out⟩
  by_cases hn : i < 0
  ·go_wp2_with fail; refine (j_misname HI2.out 0 0 ⟨#[]⟩ 0 (fun _ => rfl)).mono ?_; rintro e w3 ⟨rfl, hI3⟩; have HI3 : Hid _ := hI3; clear hI3; go_wp2_with fail; go_ret; exact ⟨HE.out, HI3.out.any HBD.out _⟩
  ·go_wp2_with fail; go_ret; exact ⟨HE.out, HI2.out.any HBD.out _⟩
theorem PI.nest {c : Cx} {w0 w : World} {q : Wk.St} {nest : Int} {o : Option Nat} (h : PI c w0 w q nest o) (n : Int) : PI c w0 (w.setCell ⟨c.b, 2, none⟩ (.int .i64 n)) q n o := by
 obtain ⟨ms, ma, hp, hm⟩ := h.pp; refine h.step (Fr.setCell (fun k => k = c.b) w ⟨c.b, 2, none⟩ _ rfl) ⟨ms, ma, ⟨hp.toks.of (blk_other _ hp.ne), ?_, hp.ok, hp.ne⟩, hm⟩; have hb : w.heap[c.b]? = some (.cells #[.slice (some ⟨c.tg, 0, none⟩) c.T.length c.tc, .int .i64 (ppAt c.T q : Int), .int .i64 nest, c.iv, .bool q.bad.isSome, .int .i64 ((q.bad.getD 0 : Nat) : Int), .bool ms, .int .i64 ma] 148 (0, 0)) := hp.box; exact (blk_set (o := 2) (.int .i64 n) hb).trans (by simp [ppBlock])
theorem PI.nestc {c : Cx} {w0 w : World} {q : Wk.St} {nest : Int} {o : Option Nat} (h : PI c w0 w q nest o) : w.cell? ⟨c.b, 2, none⟩ = some (.int .i64 nest) ∧ ∀ o', w.frozen? ⟨c.b, o', none⟩ = false := by
 obtain ⟨ms, ma, hp, hm⟩ := h.pp; exact ⟨blk_cell (o := 2) hp.box rfl, blk_free hp.box⟩
set_option maxHeartbeats 1000000 in
theorem j_open {c : Cx} {w0 w : World} {q : Wk.St} {nest : Nat} {o : Option Nat} (h : PI c w0 w q nest o) (kd : Nat) (h2 : 2 ≤ kd) (hK : q.isK c.T kd = true) (h10 : nest ≤ 10) :
  Calls Tryz.prog 169 #[nptr c.b, .int .i64 kd] w fun e w' => e = .returned (.tuple #[]) ∧ PI c w0 w' (q.opens c.T nest) ((nest + 1 : Nat) : Int) o := by
 obtain ⟨c2, -⟩ := h.nestc; have HH : Hid (PI c w0 w q nest o) := h; clear h; by_cases hn : nest = 10
 ·subst hn; have HQ : Hid ((q.fail c.T).want c.T kd = q.opens c.T 10) := by
   show _ = _; have hs : (q.fail c.T).bad.isSome = true := fail_some q; rw [Wk.want_bad c.T hs]; rfl
  have c2 : w.cell? ⟨c.b, 2, none⟩ = some (.int .i64 10) := c2; go_enter Tryz.func169, Tryz.ntmps169; go_wp2_with fail; refine (j_fail HH.out o).mono ?_; rintro e w1 ⟨rfl, hI⟩; have HI : Hid _ := hI; clear hI; go_wp2_with fail; refine (j_want HI.out kd h2).mono ?_; rintro e w2 ⟨he, hI2⟩; obtain ⟨v, rfl⟩ : ∃ v, e = .returned v := ⟨_, he⟩
  rw [HQ.out] at hI2; obtain ⟨c3, cf⟩ := hI2.nestc; have c3 : w2.cell? ⟨c.b, 2, none⟩ = some (.int .i64 10) := c3; have HI2 : Hid _ := hI2.nest 11; clear hI2 he; go_wp2_with fail; go_end0
  exact ⟨rfl, HI2.out⟩
 ·have HQ : Hid (q.want c.T kd = q.opens c.T nest) := by
   show _ = _; unfold Wk.St.want Wk.St.opens; rw [hK, if_neg hn]; rfl
  have dn : ((nest : Int) == 10) = false := by rw [beq_eq_false_iff_ne]; omega
  have hb9 : nest ≤ 9 := by omega
  clear hn; go_enter Tryz.func169, Tryz.ntmps169; go_wp2_with fail; refine (j_want HH.out kd h2).mono ?_; rintro e w2 ⟨he, hI2⟩; obtain ⟨v, rfl⟩ : ∃ v, e = .returned v := ⟨_, he⟩
  rw [HQ.out] at hI2; obtain ⟨c3, cf⟩ := hI2.nestc; have HI2 : Hid _ := hI2.nest ((nest : Int) + 1); clear hI2 he; go_wp2_with fail; go_end0
  exact ⟨rfl, HI2.out⟩
end Go.Proofs.YtbkaghlklkdmkaaGreatDoor
