/-
  The parser of the document's answer: an item: what is kept. The document's answer: the items of a model in memory; which name is at fault. The document's answer: names.
-/
import Derived.Test.YtbkaghlklkdmkaaGreatDoorMF2
import Derived.Deep.CutBlock
import Derived.Deep.CutRange
import Derived.Deep.LoopGhost
import Derived.Deep.QuietTactic
import Derived.BigQuiet
set_option maxRecDepth 100000
set_option maxHeartbeats 8000000
namespace Go.Proofs.YtbkaghlklkdmkaaGreatDoor
open Go.RowKit
attribute [local go_sem ↓] Go.wp_at_zero Go.wp_at_succ
structure ItR where
 what : ByteArray
 nk : Nat
 nt : ByteArray
 na : Nat
 at_ : Nat
 tk : Nat
 tw : Value
 eo : ByteArray
 ex : ByteArray
 en : Nat
 ek : Value
 pol : Value
 cv : Value
 rv : Value
def ItR.hd (r : ItR) : List Value := [.string r.what, .int .u8 r.nk, .string r.nt, .int .i64 r.na, .int .i64 r.at_, .int .u8 r.tk, r.tw, .string r.eo, .string r.ex, .int .i64 r.en, r.ek]
def ItR.cells (r : ItR) : Array Value := itC r.hd r.pol r.cv r.rv
def zeroIt (what : ByteArray) (at_ : Nat) : ItR := ⟨what, 0, ⟨#[]⟩, 0, at_, 0, .slice none 0 0, ⟨#[]⟩, ⟨#[]⟩, 0, .slice none 0 0, .string ⟨#[]⟩, .slice none 0 0, .slice none 0 0⟩
def whatText (n : Nat) : ByteArray := ⟨(spellOf (6 + n)).toArray⟩
structure itemOK (lo hi : Nat) (w : World) (r : ItR) (it : Wk.PItem) : Prop where
 what : it.what ≤ 2 ∧ r.what = whatText it.what
 name : r.nt = ⟨it.name.toArray⟩ ∧ r.na = it.nameAt
 place : r.at_ = it.place
 ty : TyK w (.agg #[.int .u8 r.tk, r.tw]) it.ty
 expr : (it.what = 1 → TrI lo hi w (tree r.eo r.ex r.en r.ek) it.expr) ∧ (it.what ≠ 1 → it.expr.names = [] ∧ r.eo = ⟨#[]⟩ ∧ r.ek = .slice none 0 0)
 table : it.what = 2 → 12 ≤ it.policy ∧ it.policy ≤ 17 ∧ r.pol = .string ⟨(spellOf it.policy).toArray⟩
 cols : ColsIn lo hi w r.cv it.cols
 rules : RulesIn lo hi w r.rv it.rules
section
variable {B : Nat} {s : ByteArray} {T : List Wk.Tok}
def itemEnd (w w' : World) (b : Nat) (r : Wk.St × Wk.PItem) (e : Ending) : Prop :=
 ∃ R : ItR, e = .returned (.agg R.cells) ∧ Sep w' b R.cv ∧ (∃ a1 n1 c1 a2 n2 c2 a3 n3 c3 a4 n4 c4 p, R.tw = .slice a1 n1 c1 ∧ R.ek = .slice a2 n2 c2 ∧ R.cv = .slice a3 n3 c3 ∧ R.rv = .slice a4 n4 c4 ∧ R.pol = .string p) ∧ (r.1.bad = none → itemOK w.heap.size w'.heap.size w' R r.2)
structure IB (B : Nat) (s : ByteArray) (T : List Wk.Tok) (w wr : World) (b : Nat) (q : Wk.St) (r : ItR) : Prop where
 inn : IN B s T w wr b q 0
 res : wr.heap[w.heap.size]? = some (.cells (zeroIt ⟨#[]⟩ 0).cells 110 (0, 0))
 box : wr.heap[w.heap.size + 1]? = some (.cells r.cells 110 (0, 0))
variable {w wr wr' : World} {b : Nat} {q q' : Wk.St} {r r' : ItR}
theorem IB.step (h : IB B s T w wr b q r) (hI : IN B s T wr wr' b q' 0) : IB B s T w wr' b q' r :=
 ⟨h.inn.trans hI, hI.box h.res (by decide) (by decide), hI.box h.box (by decide) (by decide)⟩
theorem IB.set (h : IB B s T w wr b q r) (o : Nat) (v : Value) (hv : r.cells.setIfInBounds o v = r'.cells) : IB B s T w (wr.setCell ⟨w.heap.size + 1, o, none⟩ v) b q r' :=
 ⟨h.inn.set h.box (by decide) (by decide) (by omega) v, by rw [blk_other v (by omega)]; exact h.res, by rw [blk_set _ h.box, hv]⟩
theorem IB.cells14 (h : IB B s T w wr b q r) : wr.cell? ⟨w.heap.size + 1, 0, none⟩ = some (.string r.what) ∧ wr.cell? ⟨w.heap.size + 1, 1, none⟩ = some (.int .u8 r.nk) ∧ wr.cell? ⟨w.heap.size + 1, 2, none⟩ = some (.string r.nt) ∧ wr.cell? ⟨w.heap.size + 1, 3, none⟩ = some (.int .i64 r.na) ∧ wr.cell? ⟨w.heap.size + 1, 4, none⟩ = some (.int .i64 r.at_) ∧ wr.cell? ⟨w.heap.size + 1, 5, none⟩ = some (.int .u8 r.tk) ∧ wr.cell? ⟨w.heap.size + 1, 6, none⟩ = some r.tw ∧ wr.cell? ⟨w.heap.size + 1, 7, none⟩ = some (.string r.eo) ∧ wr.cell? ⟨w.heap.size + 1, 8, none⟩ = some (.string r.ex) ∧ wr.cell? ⟨w.heap.size + 1, 9, none⟩ = some (.int .i64 r.en) ∧ wr.cell? ⟨w.heap.size + 1, 10, none⟩ = some r.ek ∧ wr.cell? ⟨w.heap.size + 1, 11, none⟩ = some r.pol ∧ wr.cell? ⟨w.heap.size + 1, 12, none⟩ = some r.cv ∧ wr.cell? ⟨w.heap.size + 1, 13, none⟩ = some r.rv ∧ (∀ o, wr.frozen? ⟨w.heap.size + 1, o, none⟩ = false) :=
 ⟨blk_cell h.box rfl, blk_cell h.box rfl, blk_cell h.box rfl, blk_cell h.box rfl, blk_cell h.box rfl, blk_cell h.box rfl, blk_cell h.box rfl, blk_cell h.box rfl, blk_cell h.box rfl, blk_cell h.box rfl, blk_cell h.box rfl, blk_cell h.box rfl, blk_cell h.box rfl, blk_cell h.box rfl, blk_free h.box⟩
theorem IB.res14 (h : IB B s T w wr b q r) : wr.cell? ⟨w.heap.size, 0, none⟩ = some (.string ⟨#[]⟩) ∧ wr.cell? ⟨w.heap.size, 1, none⟩ = some (.int .u8 0) ∧ wr.cell? ⟨w.heap.size, 2, none⟩ = some (.string ⟨#[]⟩) ∧ wr.cell? ⟨w.heap.size, 3, none⟩ = some (.int .i64 0) ∧ wr.cell? ⟨w.heap.size, 4, none⟩ = some (.int .i64 0) ∧ wr.cell? ⟨w.heap.size, 5, none⟩ = some (.int .u8 0) ∧ wr.cell? ⟨w.heap.size, 6, none⟩ = some (.slice none 0 0) ∧ wr.cell? ⟨w.heap.size, 7, none⟩ = some (.string ⟨#[]⟩) ∧ wr.cell? ⟨w.heap.size, 8, none⟩ = some (.string ⟨#[]⟩) ∧ wr.cell? ⟨w.heap.size, 9, none⟩ = some (.int .i64 0) ∧ wr.cell? ⟨w.heap.size, 10, none⟩ = some (.slice none 0 0) ∧ wr.cell? ⟨w.heap.size, 11, none⟩ = some (.string ⟨#[]⟩) ∧ wr.cell? ⟨w.heap.size, 12, none⟩ = some (.slice none 0 0) ∧ wr.cell? ⟨w.heap.size, 13, none⟩ = some (.slice none 0 0) ∧ (∀ o, wr.frozen? ⟨w.heap.size, o, none⟩ = false) :=
 ⟨blk_cell h.res rfl, blk_cell h.res rfl, blk_cell h.res rfl, blk_cell h.res rfl, blk_cell h.res rfl, blk_cell h.res rfl, blk_cell h.res rfl, blk_cell h.res rfl, blk_cell h.res rfl, blk_cell h.res rfl, blk_cell h.res rfl, blk_cell h.res rfl, blk_cell h.res rfl, blk_cell h.res rfl, blk_free h.res⟩
theorem ib_start (h : IN B s T w w b q 0) (nt : ByteArray) (na : Nat) : IB B s T w (((w.alloc (.cells (zeroIt ⟨#[]⟩ 0).cells 110)).alloc (.cells (zeroIt nt na).cells 110)).drew) b q (zeroIt nt na) := by
 have h2 := heap_alloc_new (w.alloc (.cells (zeroIt ⟨#[]⟩ 0).cells 110)) (.cells (zeroIt nt na).cells 110); rw [sz_alloc] at h2; exact ⟨((h.alloc _).alloc _).below (Below.refl _ _).drew, blk_alloc _ (heap_alloc_new w _), h2⟩
def set14 (w : World) (k : Nat) (r : ItR) : World :=
 (((((((((((((w.setCell ⟨k, 0, none⟩ (.string r.what)).setCell ⟨k, 1, none⟩ (.int .u8 r.nk)).setCell ⟨k, 2, none⟩ (.string r.nt)).setCell ⟨k, 3, none⟩ (.int .i64 r.na)).setCell ⟨k, 4, none⟩ (.int .i64 r.at_)).setCell ⟨k, 5, none⟩ (.int .u8 r.tk)).setCell ⟨k, 6, none⟩ r.tw).setCell ⟨k, 7, none⟩ (.string r.eo)).setCell ⟨k, 8, none⟩ (.string r.ex)).setCell ⟨k, 9, none⟩ (.int .i64 r.en)).setCell ⟨k, 10, none⟩ r.ek).setCell ⟨k, 11, none⟩ r.pol).setCell ⟨k, 12, none⟩ r.cv).setCell ⟨k, 13, none⟩ r.rv
theorem IN.set14 {w0 w : World} {b : Nat} {q : Wk.St} (h : IN B s T w0 w b q 0) {k : Nat} {cs : Array Value} (hk : w.heap[k]? = some (.cells cs 110 (0, 0))) (h0 : w0.heap.size ≤ k) (r : ItR) : IN B s T w0 (set14 w k r) b q 0 := by
 have st : ∀ {w : World} {cs : Array Value} (o : Nat) (v : Value), IN B s T w0 w b q 0 ∧ w.heap[k]? = some (.cells cs 110 (0, 0)) → IN B s T w0 (w.setCell ⟨k, o, none⟩ v) b q 0 ∧ (w.setCell ⟨k, o, none⟩ v).heap[k]? = some (.cells (cs.setIfInBounds o v) 110 (0, 0)) :=
  fun o v h => ⟨h.1.set h.2 (by decide) (by decide) h0 v, blk_set _ h.2⟩
 have a0 := st 0 (.string r.what) ⟨h, hk⟩; have a1 := st 1 (.int .u8 r.nk) a0; have a2 := st 2 (.string r.nt) a1; have a3 := st 3 (.int .i64 r.na) a2; have a4 := st 4 (.int .i64 r.at_) a3; have a5 := st 5 (.int .u8 r.tk) a4; have a6 := st 6 r.tw a5; have a7 := st 7 (.string r.eo) a6; have a8 := st 8 (.string r.ex) a7; have a9 := st 9 (.int .i64 r.en) a8; have a10 := st 10 r.ek a9; have a11 := st 11 r.pol a10; have a12 := st 12 r.cv a11; have a13 := st 13 r.rv a12; exact a13.1
theorem set14_block (w : World) (k j : Nat) (r : ItR) (h : j ≠ k) : (set14 w k r).heap[j]? = w.heap[j]? := by
 unfold set14; simp only [blk_other _ h]
theorem set14_size (w : World) (k : Nat) (r : ItR) : (set14 w k r).heap.size = w.heap.size := by simp [set14, World.setCell]
theorem itemOK.keep {lo hi hi' : Nat} {w w' : World} {r : ItR} {it : Wk.PItem} (h : itemOK lo hi w r it) (h9 : Keep9 w w') (hk : KeepY [173, 171, 107, 166] lo hi w w') (hc : ColsIn lo hi w r.cv it.cols → ColsIn lo hi w' r.cv it.cols) (hh : hi ≤ hi') : itemOK lo hi' w' r it :=
 ⟨h.what, h.name, h.place, h.ty.keep h9, ⟨fun e => ((h.expr.1 e).keep (hk.toT (by decide))).mono (Nat.le_refl _) hh, h.expr.2⟩, h.table, (hc h.cols).mono (Nat.le_refl _) hh, (h.rules.keep hk).mono (Nat.le_refl _) hh⟩
theorem colsIn_step {w0 w : World} {b : Nat} {q : Wk.St} {nest : Int} (h : IN B s T w0 w b q nest) (h0 : ∃ tv, w0.cell? ⟨b, 5, none⟩ = some tv) {lo hi : Nat} {cv : Value} {cols : List (Wk.Name × Nat)} (hc : ColsIn lo hi w0 cv cols) (hs : Sep w0 b cv) : ColsIn lo hi w cv cols := by
 obtain ⟨ls, p1, p2⟩ := hc; exact ⟨ls, p1, (cols_step h h0 p2.1 hs).1, p2.2⟩
theorem KeepX.nine {ib : Nat} {w w' : World} (h : KeepX ib w w') {cs : Array Value} {fr : Nat × Nat} (hb : w.heap[ib]? = some (.cells cs 110 fr)) : Keep9 w w' := by
 intro k cs' fr' hk; refine h k _ ?_ hk (by simp [inTs]); intro e; rw [e, hb] at hk; simp at hk
theorem ib_end (h : IB B s T w wr b q r) (hsep : Sep wr b r.cv) (hform : ∃ a1 n1 c1 a2 n2 c2 a3 n3 c3 a4 n4 c4 p, r.tw = .slice a1 n1 c1 ∧ r.ek = .slice a2 n2 c2 ∧ r.cv = .slice a3 n3 c3 ∧ r.rv = .slice a4 n4 c4 ∧ r.pol = .string p) {lo : Nat} (hlo : w.heap.size < lo) (rr : Wk.St × Wk.PItem) (hr : rr.1 = q) (hok : q.bad = none → itemOK lo wr.heap.size wr r rr.2) :
  itemEnd w (set14 wr w.heap.size r) b rr (.returned (.agg r.cells)) ∧ IN B s T w (set14 wr w.heap.size r) b rr.1 0 := by
 have hI := h.inn.set14 h.res (Nat.le_refl _) r; have hkb : ∀ j, j ≠ w.heap.size → (set14 wr w.heap.size r).heap[j]? = wr.heap[j]? := fun j hj => set14_block wr _ j r hj
 have hz := set14_size wr w.heap.size r; generalize set14 wr w.heap.size r = W at *
 refine ⟨⟨r, rfl, ?_, hform, fun hb => ?_⟩, by rw [hr]; exact hI⟩
 ·have hbne : b ≠ w.heap.size := by
   intro e; obtain ⟨tv', nk, nt, na, i, n', xs', g1, _⟩ := h.inn.rp; rw [e, h.res] at g1; simp [rpBlock] at g1
  intro tv g hc; rw [World.cell?_of_block (w := wr) (a := ⟨b, 5, none⟩) (hkb b hbne)] at hc; exact hsep tv g hc
 ·have ho := hok (by rw [← hr]; exact hb); rw [hz]; have h1 : itemOK lo wr.heap.size W r rr.2 := by
   refine ho.keep ?_ ?_ ?_ (Nat.le_refl _)
   ·intro k cs fr hk; rw [hkb k ?_]
    ·exact hk
    ·intro e; rw [e, h.res] at hk; simp at hk
   ·intro k cs t fr k1 _ _ k4; rw [hkb k (by omega)]; exact k4
   ·rintro ⟨ls, p1, p2⟩; refine ⟨ls, p1, ⟨p2.1.1, p2.1.2.imp id ?_⟩, p2.2⟩; rintro ⟨g, cap, cur, e1, e2, e3, e4⟩; exact ⟨g, cap, cur, e1, e2, by rw [hkb g (by omega)]; exact e3, e4⟩
  exact ⟨h1.what, h1.name, h1.place, h1.ty, ⟨fun e => (h1.expr.1 e).mono (by omega) (Nat.le_refl _), h1.expr.2⟩, h1.table, h1.cols.mono (by omega) (Nat.le_refl _), h1.rules.mono (by omega) (Nat.le_refl _)⟩
end
def optI : Option Nat → Int
 | none => -1
 | some p => p
theorem optI_or (a c : Option Nat) : optI (a.or c) = if optI a < 0 then optI c else optI a := by
 cases a with
 | none => rfl
 | some p =>
  show (p : Int) = if (p : Int) < 0 then optI c else (p : Int)
  rw [if_neg (by omega)]
theorem findFrom_neg (x : List UInt8) : ∀ (ns : List ByteArray) (k : Nat), findFrom x ns k < 0 ↔ (ns.map (·.data.toList)).contains x = false := by
 intro ns; induction ns with
 | nil => intro k; simp [findFrom]
 | cons y ns ih =>
  intro k; unfold findFrom; by_cases h : y.data.toList = x
  ·rw [if_pos h]; simp [h]
  ·rw [if_neg h, ih]; have h' : (x == y.data.toList) = false := by rw [beq_eq_false_iff_ne]; exact fun e => h e.symm
   simp only [List.map_cons, List.contains_cons, h', Bool.false_or]
theorem strayM_inc (ns : List ByteArray) : ∀ (l : List (Wk.Name × Nat)), Inc l → strayM ns l = optI (Wk.stray (ns.map (·.data.toList)) l) := by
 intro l; induction l with
 | nil => intro _; rfl
 | cons x l ih =>
  intro hi; have h1 := List.pairwise_cons.1 hi; have h2 := ih h1.2; show leastI (strayOne ns x) (strayM ns l) = _; rw [h2]; unfold strayOne; by_cases hf : findFrom x.1 ns 0 < 0
  ·rw [if_pos hf]; have hc := (findFrom_neg x.1 ns 0).1 hf; have e : Wk.stray (ns.map (·.data.toList)) (x :: l) = some x.2 := by
    unfold Wk.stray; rw [List.find?_cons_of_pos (by rw [hc]; rfl)]; rfl
   rw [e]; have hlt : optI (Wk.stray (ns.map (·.data.toList)) l) < 0 ∨ (x.2 : Int) < optI (Wk.stray (ns.map (·.data.toList)) l) := by
    cases hs : Wk.stray (ns.map (·.data.toList)) l with
    | none => left; decide
    | some p =>
     right; unfold Wk.stray at hs; cases hf2 : l.find? (fun y => !(ns.map (·.data.toList)).contains y.1) with
     | none => rw [hf2] at hs; cases hs
     | some y =>
      rw [hf2] at hs; have hy := List.mem_of_find?_eq_some hf2; have : y.2 = p := by simpa using hs
      have h3 := h1.1 y hy; simp only [optI]; omega
   generalize optI (Wk.stray (ns.map (·.data.toList)) l) = z at *
   show leastI (x.2 : Int) z = (x.2 : Int); unfold leastI; rw [if_neg (by omega)]
  ·rw [if_neg hf]; have hc : (ns.map (·.data.toList)).contains x.1 = true := by
    cases h : (ns.map (·.data.toList)).contains x.1 with
    | true => rfl
    | false => exact absurd ((findFrom_neg x.1 ns 0).2 h) hf
   have e : Wk.stray (ns.map (·.data.toList)) (x :: l) = Wk.stray (ns.map (·.data.toList)) l := by
    unfold Wk.stray; rw [List.find?_cons_of_neg (by rw [hc]; simp)]
   rw [e]; exact nil_leastI _
def RowAt (w : World) (g o : Nat) (R : ItR) : Prop :=
 w.cell? ⟨g, o, none⟩ = some (.string R.what) ∧ w.cell? ⟨g, o + 1, none⟩ = some (.int .u8 R.nk) ∧ w.cell? ⟨g, o + 2, none⟩ = some (.string R.nt) ∧ w.cell? ⟨g, o + 3, none⟩ = some (.int .i64 R.na) ∧ w.cell? ⟨g, o + 4, none⟩ = some (.int .i64 R.at_) ∧ w.cell? ⟨g, o + 5, none⟩ = some (.int .u8 R.tk) ∧ w.cell? ⟨g, o + 6, none⟩ = some R.tw ∧ w.cell? ⟨g, o + 7, none⟩ = some (.string R.eo) ∧ w.cell? ⟨g, o + 8, none⟩ = some (.string R.ex) ∧ w.cell? ⟨g, o + 9, none⟩ = some (.int .i64 R.en) ∧ w.cell? ⟨g, o + 10, none⟩ = some R.ek ∧ w.cell? ⟨g, o + 11, none⟩ = some R.pol ∧ w.cell? ⟨g, o + 12, none⟩ = some R.cv ∧ w.cell? ⟨g, o + 13, none⟩ = some R.rv
theorem RowAt.below {w w' : World} {g o : Nat} {R : ItR} (h : RowAt w g o R) (hb : Below w.heap.size w w') : RowAt w' g o R := by
 obtain ⟨h0, h1, h2, h3, h4, h5, h6, h7, h8, h9, h10, h11, h12, h13⟩ := h; have hl := cell_blt h0; exact ⟨(hb.cell (p := ⟨g, o, none⟩) hl).trans h0, (hb.cell (p := ⟨g, o + 1, none⟩) hl).trans h1, (hb.cell (p := ⟨g, o + 2, none⟩) hl).trans h2, (hb.cell (p := ⟨g, o + 3, none⟩) hl).trans h3, (hb.cell (p := ⟨g, o + 4, none⟩) hl).trans h4, (hb.cell (p := ⟨g, o + 5, none⟩) hl).trans h5, (hb.cell (p := ⟨g, o + 6, none⟩) hl).trans h6, (hb.cell (p := ⟨g, o + 7, none⟩) hl).trans h7, (hb.cell (p := ⟨g, o + 8, none⟩) hl).trans h8, (hb.cell (p := ⟨g, o + 9, none⟩) hl).trans h9, (hb.cell (p := ⟨g, o + 10, none⟩) hl).trans h10, (hb.cell (p := ⟨g, o + 11, none⟩) hl).trans h11, (hb.cell (p := ⟨g, o + 12, none⟩) hl).trans h12, (hb.cell (p := ⟨g, o + 13, none⟩) hl).trans h13⟩
def Form (R : ItR) : Prop := ∃ a1 n1 c1 a2 n2 c2 a3 n3 c3 a4 n4 c4 p, R.tw = .slice a1 n1 c1 ∧ R.ek = .slice a2 n2 c2 ∧ R.cv = .slice a3 n3 c3 ∧ R.rv = .slice a4 n4 c4 ∧ R.pol = .string p
structure MI (w : World) (mb g cap lo hi : Nat) (Rs : List ItR) (its : List Wk.PItem) : Prop where
 model : w.cell? ⟨mb, 0, none⟩ = some (.slice (some ⟨g, 0, none⟩) Rs.length cap)
 cap : Rs.length ≤ cap ∧ Rs.length ≤ 20
 rows : ∀ (i : Nat) (R : ItR), Rs[i]? = some R → RowAt w g (i * 14) R
 ok : Pairs (itemOK lo hi w) Rs its
 hi : hi ≤ w.heap.size
 forms : ∀ R ∈ Rs, Form R
theorem ColsIn.below {lo hi : Nat} {w w' : World} {v : Value} {l : List (Wk.Name × Nat)} (h : ColsIn lo hi w v l) (hb : Below w.heap.size w w') : ColsIn lo hi w' v l := by
 obtain ⟨ls, p1, p2⟩ := h; exact ⟨ls, p1, owns_below p2.1 hb, p2.2⟩
theorem itemOK.below {lo hi : Nat} {w w' : World} {r : ItR} {it : Wk.PItem} (h : itemOK lo hi w r it) (hb : Below w.heap.size w w') : itemOK lo hi w' r it :=
 h.keep (Keep9.below hb) (KeepY.below hb _ _ _) (fun c => c.below hb) (Nat.le_refl _)
theorem MI.below {w w' : World} {mb g cap lo hi : Nat} {Rs : List ItR} {its : List Wk.PItem} (h : MI w mb g cap lo hi Rs its) (hb : Below w.heap.size w w') : MI w' mb g cap lo hi Rs its :=
 ⟨(hb.cell (p := ⟨mb, 0, none⟩) (cell_blt h.model)).trans h.model, h.cap, fun i R hR => (h.rows i R hR).below hb, h.ok.imp (fun _ _ x => x.below hb), Nat.le_trans h.hi hb.size, h.forms⟩
def itNames (Rs : List ItR) : List ByteArray := Rs.map (·.nt)
theorem MI.names {w : World} {mb g cap lo hi : Nat} {Rs : List ItR} {its : List Wk.PItem} (h : MI w mb g cap lo hi Rs its) : NamesAt w mb (itNames Rs) := by
 refine ⟨g, cap, by simpa [itNames] using h.model, fun j hj => ?_⟩; have hj' : j < Rs.length := by simpa [itNames] using hj
 have := (h.rows j _ (List.getElem?_eq_getElem hj')).2.2.1; rw [this]; simp [itNames, List.getD_eq_getElem?_getD, List.getElem?_eq_getElem hj']
theorem MI.plain {w : World} {mb g cap lo hi : Nat} {Rs : List ItR} {its : List Wk.PItem} (h : MI w mb g cap lo hi Rs its) (i : Nat) : ((itNames Rs).take i).map (·.data.toList) = (its.take i).map (·.name) := by
 have hl := h.ok.1; apply List.ext_getElem?; intro j; unfold itNames; rw [List.getElem?_map, List.getElem?_map, List.getElem?_take, List.getElem?_take, List.getElem?_map]; by_cases hj : j < i
 ·rw [if_pos hj, if_pos hj]; by_cases hj2 : j < Rs.length
  ·rw [List.getElem?_eq_getElem hj2, List.getElem?_eq_getElem (by omega : j < its.length)]; have := (h.ok.2 j _ _ (List.getElem?_eq_getElem hj2) (List.getElem?_eq_getElem (by omega : j < its.length))).name.1; simp [this]
  ·rw [List.getElem?_eq_none (by omega), List.getElem?_eq_none (by omega)]; rfl
 ·rw [if_neg hj, if_neg hj]; rfl
def itEnv (its : List Wk.PItem) : Wk.Env := its.map (fun it => (it.name, it.ty))
theorem MI.modelAt {w : World} {mb g cap lo hi : Nat} {Rs : List ItR} {its : List Wk.PItem} (h : MI w mb g cap lo hi Rs its) : ModelAt w mb (itEnv its) := by
 have hl := h.ok.1; have hle : (itEnv its).length = Rs.length := by simp [itEnv, hl]
 refine ⟨by rw [hle]; have := h.cap.2; omega, g, cap, by rw [hle]; exact h.model, by rw [hle]; exact h.cap.1, fun j x hx => ?_⟩; have hj : j < Rs.length := by
  have := (List.getElem?_eq_some_iff.1 hx).1; omega
 have hR := List.getElem?_eq_getElem hj; have hI := List.getElem?_eq_getElem (by omega : j < its.length); have ho := h.ok.2 j _ _ hR hI; have hr := h.rows j _ hR; have hx' : x = ((its[j]'(by omega)).name, (its[j]'(by omega)).ty) := by
  unfold itEnv at hx; rw [List.getElem?_map, hI] at hx; exact (Option.some.inj hx).symm
 subst hx'; obtain ⟨h0, h1, h2, h3, h4, h5, h6, h7, h8, h9, h10, h11, h12, h13⟩ := hr; have ht := ho.ty.at; obtain ⟨t1, t2, t3, ws, t4, t5⟩ := ht; have e1 : (Rs[j]'hj).tk = rk (its[j]'(by omega)).ty.1 := by
  simp at t4; omega
 have e2 : (Rs[j]'hj).tw = ws := by simp at t4; exact t4.2
 refine ⟨by rw [h2, ho.name.1], ws, by rw [h5, e1], by rw [h6, e2], ⟨t1, t2, t3, ws, rfl, t5⟩⟩
theorem col_cell {w : World} {base : Nat} {ad : Option Addr} {n c : Nat} {ls : List LR} (h : w.ownsRow base 87 3 (.slice ad n c) n (LR.flat ls)) (hn : ls.length = n) {k : Nat} {L : LR} (hk : ls[k]? = some L) : ∃ g, ad = some ⟨g, 0, none⟩ ∧ w.cell? ⟨g, k * 3 + 1, none⟩ = some (.string L.nt) ∧ w.cell? ⟨g, k * 3 + 2, none⟩ = some (.int .i64 L.na) := by
 have hlt : k < ls.length := (List.getElem?_eq_some_iff.1 hk).1; have hL : ls[k]'hlt = L := (List.getElem?_eq_some_iff.1 hk).2; have hget : ∀ (l : List LR) (k : Nat) (h : k < l.length), (LR.flat l)[k * 3 + 1]? = some (.string (l[k]'h).nt) ∧ (LR.flat l)[k * 3 + 2]? = some (.int .i64 (l[k]'h).na) := by
  intro l; induction l with
  | nil => intro k h; simp at h
  | cons x l ih =>
   intro k h; cases k with
   | zero => exact ⟨rfl, rfl⟩
   | succ k =>
    have h' : k < l.length := by simpa using h
    have := ih k h'; have e : LR.flat (x :: l) = x.cells ++ LR.flat l := rfl; have hx : x.cells.length = 3 := rfl; rw [e, List.getElem?_append_right (by rw [hx]; omega), List.getElem?_append_right (by rw [hx]; omega), hx]; rw [show (k + 1) * 3 + 1 - 3 = k * 3 + 1 by omega, show (k + 1) * 3 + 2 - 3 = k * 3 + 2 by omega]; exact this
 rcases h.2 with ⟨e, h0⟩ | ⟨g, cap, cur, e, hb, hgg, h1, h2, h3, h4⟩
 ·omega
 ·cases e; refine ⟨g, rfl, ?_, ?_⟩
  ·have := World.ownsRow.cellAt h (k * 3 + 1) (by omega); rw [this, (hget ls k hlt).1, hL]
  ·have := World.ownsRow.cellAt h (k * 3 + 2) (by omega); rw [this, (hget ls k hlt).2, hL]
theorem rule_cell {w : World} {base : Nat} {ad : Option Addr} {n c : Nat} {rs : List RR} (h : w.ownsRow base 166 5 (.slice ad n c) n (RR.flat rs)) (hn : rs.length = n) {k : Nat} {L : RR} (hk : rs[k]? = some L) : ∃ g, ad = some ⟨g, 0, none⟩ ∧ w.cell? ⟨g, k * 5, none⟩ = some L.cv ∧ w.cell? ⟨g, k * 5 + 1, none⟩ = some (.string L.op) ∧ w.cell? ⟨g, k * 5 + 2, none⟩ = some (.string L.x) ∧ w.cell? ⟨g, k * 5 + 3, none⟩ = some (.int .i64 L.na) ∧ w.cell? ⟨g, k * 5 + 4, none⟩ = some L.kv := by
 have hlt : k < rs.length := (List.getElem?_eq_some_iff.1 hk).1; have hL : rs[k]'hlt = L := (List.getElem?_eq_some_iff.1 hk).2; have hget : ∀ (l : List RR) (k : Nat) (h : k < l.length) (j : Nat), j < 5 → (RR.flat l)[k * 5 + j]? = (l[k]'h).cells[j]? := by
  intro l; induction l with
  | nil => intro k h; simp at h
  | cons x l ih =>
   intro k h j hj; have e : RR.flat (x :: l) = x.cells ++ RR.flat l := rfl; have hx : x.cells.length = 5 := rfl; cases k with
   | zero =>
    rw [e, List.getElem?_append_left (by rw [hx]; omega)]; simp
   | succ k =>
    have h' : k < l.length := by simpa using h
    have := ih k h' j hj; rw [e, List.getElem?_append_right (by rw [hx]; omega), hx]; rw [show (k + 1) * 5 + j - 5 = k * 5 + j by omega]; exact this
 rcases h.2 with ⟨e, h0⟩ | ⟨g, cap, cur, e, hb, hgg, h1, h2, h3, h4⟩
 ·omega
 ·cases e; have hc : ∀ j, j < 5 → w.cell? ⟨g, k * 5 + j, none⟩ = L.cells[j]? := by
   intro j hj; have := World.ownsRow.cellAt h (k * 5 + j) (by omega); rw [this, hget rs k hlt j hj, hL]
  exact ⟨g, rfl, hc 0 (by omega), hc 1 (by omega), hc 2 (by omega), hc 3 (by omega), hc 4 (by omega)⟩
theorem stray_app (ns : List Wk.Name) (l m : List (Wk.Name × Nat)) : Wk.stray ns (l ++ m) = (Wk.stray ns l).or (Wk.stray ns m) := by
 unfold Wk.stray; rw [List.find?_append]; cases l.find? (fun x => !ns.contains x.1) <;> rfl
def strayTo (ns : List Wk.Name) (it : Wk.PItem) (k : Nat) : Option Nat := (Wk.stray ns it.expr.names).or (Wk.stray ns ((it.rules.take k).map (·.out.names)).flatten)
theorem strayTo_succ {ns : List Wk.Name} {it : Wk.PItem} {k : Nat} {r : Wk.PRule} (h : it.rules[k]? = some r) : strayTo ns it (k + 1) = (strayTo ns it k).or (Wk.stray ns r.out.names) := by
 have hlt : k < it.rules.length := (List.getElem?_eq_some_iff.1 h).1; have hr : it.rules[k]'hlt = r := (List.getElem?_eq_some_iff.1 h).2; unfold strayTo; rw [List.take_succ_eq_append_getElem hlt, hr, List.map_append, List.flatten_append, stray_app]; simp [Option.or_assoc]
theorem strayTo_all {ns : List Wk.Name} {it : Wk.PItem} {k : Nat} (h : it.rules.length ≤ k) : strayTo ns it k = (Wk.stray ns it.expr.names).or (Wk.stray ns (it.rules.map (·.out.names)).flatten) := by
 unfold strayTo; rw [List.take_of_length_le h]
theorem strayTo_stays {ns : List Wk.Name} {it : Wk.PItem} {k : Nat} (h : 0 ≤ optI (strayTo ns it k)) : (Wk.stray ns it.expr.names).or (Wk.stray ns (it.rules.map (·.out.names)).flatten) = strayTo ns it k := by
 have e : (it.rules.map (·.out.names)).flatten = ((it.rules.take k).map (·.out.names)).flatten ++ ((it.rules.drop k).map (·.out.names)).flatten := by
  rw [← List.flatten_append, ← List.map_append, List.take_append_drop]
 rw [e, stray_app, ← Option.or_assoc]; change (strayTo ns it k).or _ = _; cases hs : strayTo ns it k with
 | none => rw [hs] at h; exact absurd h (by decide)
 | some p => rfl
theorem strayCols_step {ns : List Wk.Name} {cols : List (Wk.Name × Nat)} {k : Nat} {x : Wk.Name × Nat} (hx : cols[k]? = some x) : Wk.strayCols ns ((cols.take k).map (·.1)) (cols.drop k) = if !ns.contains x.1 || ((cols.take k).map (·.1)).contains x.1 then some x.2 else Wk.strayCols ns ((cols.take (k + 1)).map (·.1)) (cols.drop (k + 1)) := by
 have hlt : k < cols.length := (List.getElem?_eq_some_iff.1 hx).1; have hX : cols[k]'hlt = x := (List.getElem?_eq_some_iff.1 hx).2; rw [List.drop_eq_getElem_cons hlt, hX, Wk.strayCols, List.take_succ_eq_append_getElem hlt, hX]; simp
theorem seen_no {cols : List (Wk.Name × Nat)} {k : Nat} {x : Wk.Name} (h : ∀ m y, m < k → cols[m]? = some y → y.1 ≠ x) : ((cols.take k).map (·.1)).contains x = false := by
 rw [← Bool.not_eq_true, List.contains_iff_mem]; intro hm; obtain ⟨y, hy, e⟩ := List.mem_map.1 hm; obtain ⟨m, hm2, e2⟩ := List.getElem_of_mem hy; rw [List.getElem_take] at e2; rw [List.length_take] at hm2; exact h m y (by omega) (by rw [← e2]; exact List.getElem?_eq_getElem _) e
theorem seen_yes {cols : List (Wk.Name × Nat)} {k m : Nat} {x y : Wk.Name × Nat} (hm : m < k) (hy : cols[m]? = some y) (e : y.1 = x.1) : ((cols.take k).map (·.1)).contains x.1 = true := by
 rw [List.contains_iff_mem, ← e]; refine List.mem_map.2 ⟨y, ?_, rfl⟩; exact List.mem_of_getElem? (i := m) (by rw [List.getElem?_take, if_pos hm]; exact hy)
theorem r_names {w : World} {mb g cap lo hi : Nat} {Rs : List ItR} {its : List Wk.PItem} (h : MI w mb g cap lo hi Rs its) (i : Nat) (R : ItR) (it : Wk.PItem) (hR : Rs[i]? = some R) (hI : its[i]? = some it) :
  Calls Tryz.prog 48 #[.pointer (some ⟨mb, 0, none⟩), .int .i64 i] w fun e w' => e = .returned (.int .i64 (optI (Wk.itemStray ((its.take i).map (·.name)) it))) ∧ Below w.heap.size w w' := by
 have HM : Hid _ := h; obtain ⟨a1, n1, c1, a2, n2, c2, a3, n3, c3, a4, n4, c4, p, e1, e2, e3, e4, e5⟩ := h.forms R (List.mem_of_getElem? hR); obtain ⟨what, nk, nt, na, at_, tk, tw, eo, ex, en, ek, pol, cv, rv⟩ := R; simp only at e1 e2 e3 e4 e5; subst e1; subst e2; subst e3; subst e4; subst e5; have hil : i < Rs.length := (List.getElem?_eq_some_iff.1 hR).1; have hok := h.ok.2 i _ it hR hI; have c0 := h.model; obtain ⟨h0, h1, h2, h3, h4, h5, h6, h7, h8, h9, h10, h11, h12, h13⟩ := h.rows i _ hR; have hcap := h.cap; have hc20 := hcap.2; have hcc := hcap.1; simp only at h0 h1 h2 h3 h4 h5 h6 h7 h8 h9 h10 h11 h12 h13; have hi0 : (0 : Int) ≤ (i : Int) := by omega
 have hi1 : (i : Int) < (Rs.length : Int) := by omega
 have HPL : Hid _ := h.plain i; generalize hns : (its.take i).map (·.name) = ns at *
 have HNS : Hid _ := hns; clear hns; have HOK : Hid _ := hok; have hgl : g < w.heap.size := cell_blt h0; have hml : mb < w.heap.size := cell_blt c0; clear h hR hI hok; go_enter Tryz.func48, Tryz.ntmps48; go_wp2_with fail; have HB1 : Hid (Below w.heap.size w (w.alloc (.cells #[.string what, .int .u8 nk, .string nt, .int .i64 na, .int .i64 at_, .int .u8 tk, .slice a1 n1 c1, .string eo, .string ex, .int .i64 en, .slice a2 n2 c2, .string p, .slice a3 n3 c3, .slice a4 n4 c4] 110))) := (Below.refl _ _).alloc (Nat.le_refl _) _; have HX1 : Hid ((w.alloc (.cells #[.string what, .int .u8 nk, .string nt, .int .i64 na, .int .i64 at_, .int .u8 tk, .slice a1 n1 c1, .string eo, .string ex, .int .i64 en, .slice a2 n2 c2, .string p, .slice a3 n3 c3, .slice a4 n4 c4] 110)).heap[w.heap.size]? = some (.cells #[.string what, .int .u8 nk, .string nt, .int .i64 na, .int .i64 at_, .int .u8 tk, .slice a1 n1 c1, .string eo, .string ex, .int .i64 en, .slice a2 n2 c2, .string p, .slice a3 n3 c3, .slice a4 n4 c4] 110 (0, 0))) := heap_alloc_new _ _; generalize w.alloc (.cells #[.string what, .int .u8 nk, .string nt, .int .i64 na, .int .i64 at_, .int .u8 tk, .slice a1 n1 c1, .string eo, .string ex, .int .i64 en, .slice a2 n2 c2, .string p, .slice a3 n3 c3, .slice a4 n4 c4] 110) = W1 at *
 have HM1 : Hid (MI W1 mb g cap lo hi Rs its) := HM.out.below HB1.out; have HOK1 : Hid _ := HOK.out.below HB1.out; clear h0 h1 h2 h3 h4 h5 h6 h7 h8 h9 h10 h11 h12 h13 c0 HM HOK; have hnl : (itNames Rs).length = Rs.length := by simp [itNames]
 refine (r_find mb (itNames Rs) nt i W1 HM1.out.names (by omega) (by omega)).mono ?_; rintro e w2 ⟨rfl, hw2⟩; rw [hw2]; clear hw2; have HZ : Hid (findFrom nt.data.toList ((itNames Rs).take i) 0 < 0 ↔ ns.contains it.name = false) := by
  have h1 := findFrom_neg nt.data.toList ((itNames Rs).take i) 0; rw [HPL.out] at h1; have h2 : nt.data.toList = it.name := by
   have := HOK1.out.name.1; simp only at this; rw [this]
  rw [h2] at h1 ⊢; exact h1
 generalize findFrom nt.data.toList ((itNames Rs).take i) 0 = z at *
 obtain ⟨ls, hpl, hrow⟩ := HOK1.out.cols; have hn3 : n3 = ls.length := by
  obtain ⟨ad', c', e', -⟩ := owns_slice hrow.1; simp only at e'; cases e'; rfl
 subst hn3; have HPC : Hid (Pairs LR.ok ls it.cols) := hpl; have HRC : Hid (W1.ownsRow lo 87 3 (.slice a3 ls.length c3) ls.length (LR.flat ls)) := hrow.1; have hc3 : ls.length ≤ c3 := by
  obtain ⟨ad', c', e', h'⟩ := owns_slice hrow.1; cases e'; exact h'
 have hmx : ls.length ≤ maxLen := by
  rcases hrow.1.2 with ⟨-, h0⟩ | ⟨g', cap', cur', e', -, -, h1, h2, -⟩
  ·rw [h0]; exact Nat.zero_le _
  ·exact Nat.le_trans h1 h2
 unfold maxLen at hmx; have HLC : Hid (ls.length = it.cols.length) := hpl.1; clear hpl hrow; have k2 := bc 2 HX1.out rfl; have k3 := bc 3 HX1.out rfl; by_cases hz : z < 0
 ·have HC0 : Hid (Wk.itemStray ns it = (Wk.strayCols ns [] it.cols).or ((Wk.stray ns it.expr.names).or (Wk.stray ns (it.rules.map (·.out.names)).flatten))) := by
   show _ = _; unfold Wk.itemStray; rw [HZ.out.1 hz]; rfl
  clear HZ; go_upto_block 0 with fail; go_cut [] from 10 (fun wc => Hid (Below W1.heap.size W1 wc) ∧ Hid (Wk.strayCols ns [] it.cols = none))
  case first =>
   clear k2 k3; go_wp2_with fail; go_loopg [6] ls.length (fun gk kv wr => ∃ k : Nat, kv = .int .i64 k ∧ gk + k = ls.length ∧ Hid (Below W1.heap.size W1 wr) ∧ Hid (Wk.strayCols ns [] it.cols = Wk.strayCols ns ((it.cols.take k).map (·.1)) (it.cols.drop k)))
   case atStart => exact ⟨0, rfl, by omega, Below.refl _ _, rfl⟩
   case round =>
    obtain ⟨k, rfl, hgk, HBr, HSC⟩ := hrel; have hx := (HBr.out.block w.heap.size (lt_of_block HX1.out)).trans HX1.out; have k12 := bc 12 hx rfl; clear hx; by_cases hk : k < ls.length
    ·have HGK : Hid (gk + k = ls.length ∧ k < ls.length) := ⟨hgk, hk⟩
     have hk0 : (0 : Int) ≤ (k : Int) := by omega
     have hk1 : (k : Int) < (ls.length : Int) := by omega
     have hL := List.getElem?_eq_getElem hk; have hC := List.getElem?_eq_getElem (l := it.cols) (i := k) (by have := HLC.out; omega); have hok := HPC.out.2 k _ _ hL hC; have HST : Hid _ := strayCols_step (ns := ns) hC; obtain ⟨gc, rfl, e1, e2⟩ := col_cell (owns_below HRC.out HBr.out) rfl hL; generalize (ls[k]'hk) = L at *
     generalize (it.cols[k]'_) = X at *
     rw [hok.2] at e2; have HNX : Hid (L.nt = ⟨X.1.toArray⟩) := hok.1; have HLk : Hid (ls[k]? = some L) := hL; have HCk : Hid (it.cols[k]? = some X) := hC; clear hL hC hok; go_wp2_with fail; have HMr : Hid (MI wr mb g cap lo hi Rs its) := HM1.out.below HBr.out; refine (r_find mb (itNames Rs) L.nt i wr HMr.out.names (by omega) (by omega)).mono ?_; rintro e w3 ⟨rfl, hw3⟩; rw [hw3]; clear hw3; have HZ : Hid (findFrom L.nt.data.toList ((itNames Rs).take i) 0 < 0 ↔ ns.contains X.1 = false) := by
      have h1 := findFrom_neg L.nt.data.toList ((itNames Rs).take i) 0; rw [HPL.out] at h1; have h2 : L.nt.data.toList = X.1 := by rw [HNX.out]
      rw [h2] at h1 ⊢; exact h1
     generalize findFrom L.nt.data.toList ((itNames Rs).take i) 0 = y at *
     by_cases hy : y < 0
     ·have HE : Hid (optI (Wk.itemStray ns it) = (X.2 : Int)) := by
       show _ = _; rw [HC0.out, HSC.out, HST.out, HZ.out.1 hy]; rfl
      go_wp2_with fail; go_ret; exact ⟨ret_int HE.out.symm, HB1.out.trans (HBr.out.mono (by have := HB1.out.size; omega))⟩
     ·have hy' : 0 ≤ y := by omega
      have HCT : Hid (ns.contains X.1 = true) := by
       cases hx : ns.contains X.1 with
       | true => rfl
       | false => exact absurd (HZ.out.2 hx) hy
      clear hy HZ; go_wp2_with fail; go_loopw [7] (fun jv wr => ∃ j : Nat, jv = .int .i64 j ∧ j ≤ k ∧ Hid (Below W1.heap.size W1 wr) ∧ Hid (∀ m y, m < j → it.cols[m]? = some y → y.1 ≠ X.1)) (fun jv _ => k - (intOf jv).toNat)
      case atStart => exact ⟨0, rfl, by omega, HBr, fun m y hm => by omega⟩
      case round =>
       obtain ⟨j, rfl, hj, HBs, HNO⟩ := hrel; clear k12 e1 e2; have hx := (HBs.out.block w.heap.size (lt_of_block HX1.out)).trans HX1.out; have k12 := bc 12 hx rfl; clear hx; obtain ⟨gc', hgc', e1, e2⟩ := col_cell (owns_below HRC.out HBs.out) rfl HLk.out; cases hgc'; by_cases hjk : j < k
       ·have HJK : Hid (j + 1 ≤ k) := hjk; have hjl : j < ls.length := by omega
        have hL := List.getElem?_eq_getElem hjl; have hC := List.getElem?_eq_getElem (l := it.cols) (i := j) (by have := HLC.out; omega); have hok := HPC.out.2 j _ _ hL hC; obtain ⟨gc'', hgc'', e3, e4⟩ := col_cell (owns_below HRC.out HBs.out) rfl hL; cases hgc''; generalize (ls[j]'hjl) = L2 at *
        generalize (it.cols[j]'_) = X2 at *
        have HN2 : Hid (L2.nt = ⟨X2.1.toArray⟩) := hok.1; have HC2 : Hid (it.cols[j]? = some X2) := hC; have hj0 : (0 : Int) ≤ (j : Int) := by omega
        have hj1 : (j : Int) < (ls.length : Int) := by omega
        have hj2 : (j : Int) < (k : Int) := by omega
        have hat : (L.na : Int) = (X.2 : Int) := by
         have := (HPC.out.2 k _ _ HLk.out HCk.out).2; omega
        rw [hat] at e2; clear hok hL hC e4 hat; by_cases heq : L2.nt.toList = L.nt.toList
        ·have deq : (L2.nt.toList == L.nt.toList) = true := by rw [beq_iff_eq]; exact heq
         have HE : Hid (optI (Wk.itemStray ns it) = (X.2 : Int)) := by
          show _ = _; have h1 : X2.1 = X.1 := by
           rw [ByteArray.toList_eq, ByteArray.toList_eq, HN2.out, HNX.out] at heq; simpa using heq
          rw [HC0.out, HSC.out, HST.out, seen_yes hjk HC2.out h1]; simp [optI]
         clear heq; go_wp2_with fail; go_quiet (fail)
         obtain ⟨k12', e2'⟩ : (wr.drewN nq).cell? ⟨w.heap.size, 12, none⟩ = some (.slice (some ⟨gc, 0, none⟩) ls.length c3) ∧ (wr.drewN nq).cell? ⟨gc, k * 3 + 2, none⟩ = some (.int .i64 X.2) := ⟨k12, e2⟩
         go_wp2_with fail; go_ret; exact ⟨ret_int HE.out.symm, (HB1.out.trans (HBs.out.mono (by have := HB1.out.size; omega))).trans ((below_drewN wr nq).mono (by have := HB1.out.size; have := HBs.out.size; omega))⟩
        ·have deq : (L2.nt.toList == L.nt.toList) = false := by rw [beq_eq_false_iff_ne]; exact heq
         have HNO2 : Hid (∀ m y, m < j + 1 → it.cols[m]? = some y → y.1 ≠ X.1) := by
          intro m y hm hy e; rcases Nat.lt_or_ge m j with h1 | h1
          ·exact HNO.out m y h1 hy e
          ·have : m = j := by omega
           subst this; rw [HC2.out] at hy; cases hy; apply heq; rw [HN2.out, HNX.out, e]
         clear heq; go_wp2_with fail; go_quiet (fail)
         go_wp2_with fail; have HBn : Hid (Below W1.heap.size W1 (wr.drewN nq)) := HBs.out.trans ((below_drewN wr nq).mono (by have := HBs.out.size; omega)); go_roundw
         case rel => exact ⟨j + 1, by go_num, HJK.out, HBn, HNO2⟩
         case measure =>
          have := HJK.out; simp [intOf]; omega
       ·have hj2 : ¬ (j : Int) < (k : Int) := by omega
        have hjk' : j = k := by omega
        have HS2 : Hid (Wk.strayCols ns [] it.cols = Wk.strayCols ns ((it.cols.take (k + 1)).map (·.1)) (it.cols.drop (k + 1))) := by
         show _ = _; have h1 := HNO.out; rw [hjk'] at h1; rw [HSC.out, HST.out, seen_no h1, HCT.out]; rfl
        clear hjk'; go_wp2_with fail; go_roundg (gk - 1); case measure =>
         have := HGK.out; omega
        case rel => exact ⟨k + 1, by go_num, by have := HGK.out; omega, HBs, HS2⟩
    ·have hk1 : ¬ (k : Int) < (ls.length : Int) := by omega
     have HSN : Hid (Wk.strayCols ns [] it.cols = none) := by
      show _ = _; rw [HSC.out, List.drop_eq_nil_of_le (by have := HLC.out; omega)]; rfl
     go_wp2_with fail; go_meet; exact ⟨HBr, HSN⟩
  case rest =>
   obtain ⟨W2, hW2⟩ : ∃ W, W = wc := ⟨_, rfl⟩
   subst hW2; obtain ⟨HB2, HSN⟩ := hcut; clear k2 k3 HPC HRC HLC hc3; have HTOT : Hid (Wk.itemStray ns it = (Wk.stray ns it.expr.names).or (Wk.stray ns (it.rules.map (·.out.names)).flatten)) := by
    show _ = _; rw [HC0.out, HSN.out]; rfl
   clear HC0 HSN; have HSE : Hid (∀ wr, Below W1.heap.size W1 wr → StrayOK wr (tree eo ex en (.slice a2 n2 c2)) it.expr.names ∧ Inc it.expr.names) := by
    intro wr hb; by_cases hw : it.what = 1
    ·have h1 := HOK1.out.expr.1 hw; exact ⟨(h1.1 wr (KeepT.below hb _ _)).1, h1.2.1⟩
    ·obtain ⟨h1, h2, h3⟩ := HOK1.out.expr.2 hw; simp only at h2 h3; rw [h1, h2, h3]; refine ⟨?_, List.Pairwise.nil⟩; have := s_node wr ⟨#[]⟩ ex en (.slice none 0 0) [] ⟨by simp, Or.inl ⟨rfl, rfl⟩⟩ (fun p hp => by cases hp); simpa [selfName] using this
   obtain ⟨rs, hpr, hrow⟩ := HOK1.out.rules; have hn4 : n4 = rs.length := by
    obtain ⟨ad', c', e', -⟩ := owns_slice hrow.1; simp only at e'; cases e'; rfl
   subst hn4; have HPR : Hid (Pairs (RR.ok lo hi W1) rs it.rules) := hpr; have HRR : Hid (W1.ownsRow lo 166 5 (.slice a4 rs.length c4) rs.length (RR.flat rs)) := hrow.1; have hmr : rs.length ≤ maxLen := by
    rcases hrow.1.2 with ⟨-, h0⟩ | ⟨g', cap', cur', e', -, -, h1, h2, -⟩
    ·rw [h0]; exact Nat.zero_le _
    ·exact Nat.le_trans h1 h2
   unfold maxLen at hmr; have hc4 : rs.length ≤ c4 := by
    obtain ⟨ad', c', e', h'⟩ := owns_slice hrow.1; cases e'; exact h'
   clear hpr hrow; have hx := (HB2.out.block w.heap.size (lt_of_block HX1.out)).trans HX1.out; have k7 := bc 7 hx rfl; have k8 := bc 8 hx rfl; have k9 := bc 9 hx rfl; have k10 := bc 10 hx rfl; clear hx; go_wp2_with fail; refine ((HSE.out W2 HB2.out).1 mb (itNames Rs) i (HM1.out.below HB2.out).names (by omega) (by omega)).mono ?_; rintro e w3 ⟨rfl, hb3⟩; have HB3 : Hid (Below W1.heap.size W1 w3) := HB2.out.trans (hb3.mono HB2.out.size); have HZ3 : Hid (strayM ((itNames Rs).take i) it.expr.names = optI (strayTo ns it 0)) := by
    show _ = _; rw [strayM_inc _ _ (HSE.out W2 HB2.out).2, HPL.out]; unfold strayTo; simp [Wk.stray]
   rw [HZ3.out]; clear hb3 k7 k8 k9 k10 HSE; obtain ⟨z0, hz0⟩ : ∃ z, z = optI (strayTo ns it 0) := ⟨_, rfl⟩
   rw [← hz0]; have HZ0 : Hid (z0 = optI (strayTo ns it 0)) := hz0; clear hz0 HZ3; go_wp2_with fail; go_loopg [8, 9] rs.length (fun gk ov kv wr => ∃ (k : Nat) (y : Int), kv = .int .i64 k ∧ ov = .int .i64 y ∧ gk + k = rs.length ∧ Hid (Below W1.heap.size W1 wr) ∧ Hid (y = optI (strayTo ns it k)))
   case atStart => exact ⟨0, z0, rfl, rfl, by omega, HB3, HZ0⟩
   case round =>
    obtain ⟨k, y, rfl, rfl, hgk, HBr, HY⟩ := hrel; have hx := (HBr.out.block w.heap.size (lt_of_block HX1.out)).trans HX1.out; have k13 := bc 13 hx rfl; clear hx; by_cases hk : k < rs.length
    ·have HGK : Hid (gk + k = rs.length ∧ k < rs.length) := ⟨hgk, hk⟩
     have hk0 : (0 : Int) ≤ (k : Int) := by omega
     have hk1 : (k : Int) < (rs.length : Int) := by omega
     by_cases hy : y < 0
     ·have hL := List.getElem?_eq_getElem hk; have hC := List.getElem?_eq_getElem (l := it.rules) (i := k) (by have := HPR.out.1; omega); have hok := HPR.out.2 k _ _ hL hC; have HST : Hid _ := strayTo_succ (ns := ns) hC; obtain ⟨gr, rfl, e0, e1, e2, e3, e4⟩ := rule_cell (owns_below HRR.out HBr.out) rfl hL; generalize (rs[k]'hk) = L at *
      generalize (it.rules[k]'_) = X at *
      have HTR : Hid (TrI lo hi W1 (tree L.op L.x L.na L.kv) X.out) := hok.2; clear hL hC hok e0; obtain ⟨lcv, lop, lx, lna, lkv⟩ := L; simp only at e1 e2 e3 e4; go_wp2_with fail; refine ((HTR.out.1 wr (KeepT.below HBr.out _ _)).1 mb (itNames Rs) i (HM1.out.below HBr.out).names (by omega) (by omega)).mono ?_; rintro e w4 ⟨rfl, hb4⟩; have HB4 : Hid (Below W1.heap.size W1 w4) := HBr.out.trans (hb4.mono HBr.out.size); have HY4 : Hid (strayM ((itNames Rs).take i) X.out.names = optI (strayTo ns it (k + 1))) := by
       show _ = _; rw [strayM_inc _ _ HTR.out.2.1, HPL.out, HST.out, optI_or, ← HY.out, if_pos hy]
      obtain ⟨y2, hy2⟩ : ∃ y, y = strayM ((itNames Rs).take i) X.out.names := ⟨_, rfl⟩
      rw [← hy2]; have HY5 : Hid (y2 = optI (strayTo ns it (k + 1))) := hy2.trans HY4.out; clear hy2 HY4 hb4 hy HY; go_wp2_with fail; go_roundg (gk - 1); case measure =>
       have := HGK.out; omega
      case rel => exact ⟨k + 1, y2, by go_num, rfl, by have := HGK.out; omega, HB4, HY5⟩
     ·have HE : Hid (optI (Wk.itemStray ns it) = y) := by
       show _ = _; rw [HTOT.out, strayTo_stays (k := k) (by rw [← HY.out]; omega), HY.out]
      go_wp2_with fail; go_ret; exact ⟨ret_int HE.out.symm, HB1.out.trans (HBr.out.mono (by have := HB1.out.size; omega))⟩
    ·have hk1 : ¬ (k : Int) < (rs.length : Int) := by omega
     have HE : Hid (optI (Wk.itemStray ns it) = y) := by
      show _ = _; rw [HTOT.out, HY.out, strayTo_all (by have := HPR.out.1; omega)]
     go_wp2_with fail; go_ret; exact ⟨ret_int HE.out.symm, HB1.out.trans (HBr.out.mono (by have := HB1.out.size; omega))⟩
 ·have hz' : 0 ≤ z := by omega
  have HE : Hid (optI (Wk.itemStray ns it) = (na : Int)) := by
   show _ = _; have h1 : ns.contains it.name = true := by
    cases hx : ns.contains it.name with
    | true => rfl
    | false => exact absurd (HZ.out.2 hx) hz
   unfold Wk.itemStray; rw [if_pos h1]; have := HOK1.out.name.2; simp only at this; rw [this]; rfl
  clear hz HZ; go_wp2_with fail; go_ret; exact ⟨ret_int HE.out.symm, HB1.out⟩
end Go.Proofs.YtbkaghlklkdmkaaGreatDoor
