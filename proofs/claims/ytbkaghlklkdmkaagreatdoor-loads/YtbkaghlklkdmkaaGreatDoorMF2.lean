/-
  The parser of the document's answer: what a table's reading keeps.
-/
import Derived.Test.YtbkaghlklkdmkaaGreatDoorMF1
set_option maxRecDepth 100000
set_option maxHeartbeats 8000000
namespace Go.Proofs.YtbkaghlklkdmkaaGreatDoor
open Go.RowKit
def KeepX (ib : Nat) (w w' : World) : Prop := ∀ (k : Nat) (o : Obj), k ≠ ib → w.heap[k]? = some o → ¬ inTs [126, 87] o → w'.heap[k]? = some o
theorem KeepX.refl (ib : Nat) (w : World) : KeepX ib w w := fun _ _ _ h _ => h
theorem KeepX.trans {ib : Nat} {a b c : World} (h : KeepX ib a b) (k : KeepX ib b c) : KeepX ib a c := fun i o h1 h2 h3 => k i o h1 (h i o h1 h2 h3) h3
def itC (hd : List Value) (pol cv rv : Value) : Array Value := (hd ++ [pol, cv, rv]).toArray
theorem itC_get {hd : List Value} (h : hd.length = 11) (pol cv rv : Value) : (itC hd pol cv rv)[11]? = some pol ∧ (itC hd pol cv rv)[12]? = some cv ∧ (itC hd pol cv rv)[13]? = some rv := by
 unfold itC; refine ⟨?_, ?_, ?_⟩; all_goals
  rw [List.getElem?_toArray, List.getElem?_append_right (by omega)]; simp [h]
theorem itC_set {hd : List Value} (h : hd.length = 11) (pol cv rv x : Value) : (itC hd pol cv rv).setIfInBounds 11 x = itC hd x cv rv ∧ (itC hd pol cv rv).setIfInBounds 12 x = itC hd pol x rv ∧ (itC hd pol cv rv).setIfInBounds 13 x = itC hd pol cv x := by
 unfold itC; refine ⟨?_, ?_, ?_⟩; all_goals
  rw [List.setIfInBounds_toArray, List.set_append_right _ _ (by omega)]; simp [h]
section
variable {B : Nat} {s : ByteArray} {T : List Wk.Tok}
def Sep (w : World) (b : Nat) (cv : Value) : Prop := ∀ tv g, w.cell? ⟨b, 5, none⟩ = some tv → tv.ownBlock = some g → cv.ownBlock ≠ some g
theorem IN.keepX {w0 w : World} {b : Nat} {q : Wk.St} {nest : Int} (h : IN B s T w0 w b q nest) (ib : Nat) : KeepX ib w0 w := fun k o _ h2 h3 => h.fr.kept k o h2 h3
theorem IN.cell5 {w0 w : World} {b : Nat} {q : Wk.St} {nest : Int} (h : IN B s T w0 w b q nest) : ∃ tv, w.cell? ⟨b, 5, none⟩ = some tv := by
 obtain ⟨tv, nk, nt, na, i, n, xs, h1, _⟩ := h.rp; exact ⟨tv, blk_cell h1 rfl⟩
theorem cols_step {w0 w : World} {b : Nat} {q : Wk.St} {nest : Int} (h : IN B s T w0 w b q nest) (h0 : ∃ tv, w0.cell? ⟨b, 5, none⟩ = some tv) {base : Nat} {cv : Value} {n : Nat} {xs : List Value} (ho : w0.ownsRow base 87 3 cv n xs) (hs : Sep w0 b cv) : w.ownsRow base 87 3 cv n xs ∧ Sep w b cv := by
 obtain ⟨tv0, h0⟩ := h0; obtain ⟨⟨tv1, h1, hg⟩, hr⟩ := h.fr.k7 tv0 h0; constructor
 ·refine ⟨ho.1, ho.2.imp id ?_⟩; rintro ⟨g, cap, cur, e1, e2, e3, e4⟩; refine ⟨g, cap, cur, e1, e2, hr g cur (0, 0) e3 (fun e => hs tv0 g h0 e (by rw [e1]; rfl)), e4⟩
 ·intro tv g hc hown e; rw [h1] at hc; cases hc; rcases hg g hown with hx | hx
  ·exact hs tv0 g h0 hx e
  ·have := (World.ownsRow.lt ho g e).2; omega
structure TB (B : Nat) (s : ByteArray) (T : List Wk.Tok) (w0 w wr : World) (b ib : Nat) (q : Wk.St) (hd : List Value) (pol cv rv : Value) (ls : List LR) (rs : List RR) : Prop where
 inn : IN B s T w0 wr b q 0
 lo : w0.heap.size ≤ ib ∧ ib < w.heap.size ∧ hd.length = 11 ∧ w0.heap.size ≤ w.heap.size
 box : wr.heap[ib]? = some (.cells (itC hd pol cv rv) 110 (0, 0))
 keep : KeepX ib w wr
 sz : w.heap.size ≤ wr.heap.size
 cols : wr.ownsRow w.heap.size 87 3 cv ls.length (LR.flat ls)
 sep : Sep wr b cv
 rules : wr.ownsRow w.heap.size 166 5 rv rs.length (RR.flat rs)
variable {w0 w wr wr' : World} {b ib : Nat} {q q' : Wk.St} {hd : List Value} {pol cv rv : Value} {ls : List LR} {rs : List RR}
theorem owns_in {w0 w : World} {b : Nat} {q : Wk.St} {nest : Int} (h : IN B s T w0 w b q nest) {base : Nat} {e : TypeId} {size : Nat} {v : Value} {n : Nat} {xs : List Value} (ho : w0.ownsRow base e size v n xs) (h1 : e ≠ 126) (h2 : e ≠ 87) : w.ownsRow base e size v n xs := by
 refine ⟨ho.1, ho.2.imp id ?_⟩; rintro ⟨g, cap, cur, e1, e2, e3, e4⟩; exact ⟨g, cap, cur, e1, e2, h.box e3 h1 h2, e4⟩
theorem TB.step (h : TB B s T w0 w wr b ib q hd pol cv rv ls rs) (hI : IN B s T wr wr' b q' 0) : TB B s T w0 w wr' b ib q' hd pol cv rv ls rs := by
 have hc := cols_step hI h.inn.cell5 h.cols h.sep; exact ⟨h.inn.trans hI, h.lo, hI.box h.box (by decide) (by decide), h.keep.trans (hI.keepX ib), Nat.le_trans h.sz hI.size, hc.1, hc.2, owns_in hI h.rules (by decide) (by decide)⟩
theorem TB.below (h : TB B s T w0 w wr b ib q hd pol cv rv ls rs) (hb : Below wr.heap.size wr wr') : TB B s T w0 w wr' b ib q hd pol cv rv ls rs := by
 refine ⟨h.inn.below hb, h.lo, (hb.block _ (lt_of_block h.box)).trans h.box, h.keep.trans (fun k o _ h2 _ => (hb.block k (lt_of_block h2)).trans h2), Nat.le_trans h.sz hb.size, owns_below h.cols hb, ?_, owns_below h.rules hb⟩; intro tv g hc hown; obtain ⟨tv0, h0⟩ := h.inn.cell5; have h1 : wr'.cell? ⟨b, 5, none⟩ = some tv0 := (hb.cell (p := ⟨b, 5, none⟩) (cell_blt h0)).trans h0; rw [h1] at hc; cases hc; exact h.sep _ g h0 hown
theorem TB.cells (h : TB B s T w0 w wr b ib q hd pol cv rv ls rs) : wr.cell? ⟨ib, 11, none⟩ = some pol ∧ wr.cell? ⟨ib, 12, none⟩ = some cv ∧ wr.cell? ⟨ib, 13, none⟩ = some rv ∧ (∀ o, wr.frozen? ⟨ib, o, none⟩ = false) := by
 have e := itC_get h.lo.2.2.1 pol cv rv; exact ⟨blk_cell h.box e.1, blk_cell h.box e.2.1, blk_cell h.box e.2.2, blk_free h.box⟩
theorem TB.setBox (h : TB B s T w0 w wr b ib q hd pol cv rv ls rs) {k o : Nat} {cs : Array Value} {t : TypeId} {fr : Nat × Nat} (hk : wr.heap[k]? = some (.cells cs t fr)) (h1 : t ≠ 126) (h2 : t ≠ 87) (h0 : w.heap.size ≤ k) (hr : some k ≠ rv.ownBlock) (v : Value) : TB B s T w0 w (wr.setCell ⟨k, o, none⟩ v) b ib q hd pol cv rv ls rs := by
 have hki : k ≠ ib := by have := h.lo.2.1; omega
 refine ⟨h.inn.set hk h1 h2 (by have := h.lo; omega) v, h.lo, ?_, ?_, ?_, ?_, ?_, ?_⟩
 ·rw [blk_other v (Ne.symm hki)]; exact h.box
 ·intro j x hj hx hn; have := lt_of_block hx; rw [blk_other v (by omega)]; exact h.keep j x hj hx hn
 ·simpa [World.setCell] using h.sz
 ·exact owns_other h.cols hk h2 v
 ·intro tv g hc; rw [World.cell?_of_block (w := wr) (blk_other v ?_)] at hc
  ·exact h.sep tv g hc
  ·intro e; obtain ⟨tv', nk, nt, na, i, n', xs', g1, _⟩ := h.inn.rp; have e' : b = k := e; rw [e', hk] at g1; simp [rpBlock] at g1; exact h1 g1.2.1
 ·exact ownsRow_setCell_other h.rules (fun e => hr e.symm) v
theorem TB.setItem (h : TB B s T w0 w wr b ib q hd pol cv rv ls rs) (o : Nat) (v : Value) :
  IN B s T w0 (wr.setCell ⟨ib, o, none⟩ v) b q 0 ∧ KeepX ib w (wr.setCell ⟨ib, o, none⟩ v) ∧ (wr.setCell ⟨ib, o, none⟩ v).ownsRow w.heap.size 87 3 cv ls.length (LR.flat ls) ∧ Sep (wr.setCell ⟨ib, o, none⟩ v) b cv ∧ (wr.setCell ⟨ib, o, none⟩ v).ownsRow w.heap.size 166 5 rv rs.length (RR.flat rs) := by
 refine ⟨h.inn.set h.box (by decide) (by decide) h.lo.1 v, ?_, owns_other h.cols h.box (by decide) v, ?_, owns_other h.rules h.box (by decide) v⟩
 ·intro j x hj hx hn; rw [blk_other v hj]; exact h.keep j x hj hx hn
 ·intro tv g hc; rw [World.cell?_of_block (w := wr) (blk_other v ?_)] at hc
  ·exact h.sep tv g hc
  ·intro e; obtain ⟨tv', nk, nt, na, i, n', xs', g1, _⟩ := h.inn.rp; have e' : b = ib := e; rw [e', h.box] at g1; simp [rpBlock] at g1
theorem TB.setPol (h : TB B s T w0 w wr b ib q hd pol cv rv ls rs) (v : Value) : TB B s T w0 w (wr.setCell ⟨ib, 11, none⟩ v) b ib q hd v cv rv ls rs := by
 obtain ⟨h1, h2, h3, h4, h5⟩ := h.setItem 11 v; exact ⟨h1, h.lo, by rw [blk_set _ h.box, (itC_set h.lo.2.2.1 pol cv rv v).1], h2, by simpa [World.setCell] using h.sz, h3, h4, h5⟩
theorem TB.growCols {w6 : World} (h : TB B s T w0 w wr b ib q hd pol cv rv ls rs) (hg : wr.grownBy w6 cv.ownBlock) (g cap : Nat) (r : LR) (ho : w6.ownsRow w.heap.size 87 3 (.slice (some ⟨g, 0, none⟩) (ls.length + 1) cap) (ls.length + 1) (LR.flat ls ++ r.cells)) (hgg : cv.ownBlock = some g ∨ wr.heap.size ≤ g) :
  TB B s T w0 w (w6.setCell ⟨ib, 12, none⟩ (.slice (some ⟨g, 0, none⟩) (ls.length + 1) cap)) b ib q hd pol (.slice (some ⟨g, 0, none⟩) (ls.length + 1) cap) rv (ls ++ [r]) rs ∧ w6.cell? ⟨ib, 12, none⟩ = some cv ∧ (∀ o, w6.frozen? ⟨ib, o, none⟩ = false) := by
 have hib := lt_of_block h.box; have hbox : w6.heap[ib]? = some (.cells (itC hd pol cv rv) 110 (0, 0)) := (hg.block ib hib (own_ne h.cols h.box (by decide))).trans h.box; have hI : IN B s T w0 w6 b q 0 := h.inn.grownX (owns_mono h.cols h.lo.2.2.2) (by decide) (fun tv g' hc hown => h.sep tv g' hc hown) hg; have hk : KeepX ib w w6 := by
  intro j x hj hx hn; have h1 := h.keep j x hj hx hn; refine (hg.block j (lt_of_block h1) ?_).trans h1; intro e; have := (World.ownsRow.lt h.cols j e.symm).1; have := lt_of_block hx; omega
 have hr : w6.ownsRow w.heap.size 166 5 rv rs.length (RR.flat rs) := by
  refine h.rules.kept hg ?_; rcases h.rules.2 with ⟨rfl, _⟩ | ⟨g', cap', cur, rfl, _, hgg', _⟩
  ·exact Or.inl rfl
  ·exact Or.inr (own_ne h.cols hgg' (by decide))
 have hb5 : w6.cell? ⟨b, 5, none⟩ = wr.cell? ⟨b, 5, none⟩ := by
  refine World.cell?_of_block (w := wr) (hg.block b h.inn.blt ?_); obtain ⟨tv', nk, nt, na, i, n', xs', g1, _⟩ := h.inn.rp; exact own_ne h.cols g1 (by decide)
 have hsep : Sep w6 b (.slice (some ⟨g, 0, none⟩) (ls.length + 1) cap) := by
  intro tv g' hc hown e; rw [hb5] at hc; have e' : g = g' := by simpa [Value.ownBlock] using e
  subst e'; rcases hgg with h1 | h1
  ·exact h.sep tv g hc hown h1
  ·obtain ⟨tv', nk, nt, na, i, n', xs', g1, _, g3, _⟩ := h.inn.rp; have e5 : wr.cell? ⟨b, 5, none⟩ = some tv' := blk_cell g1 rfl; rw [e5] at hc; cases hc; have := (World.ownsRow.lt g3 g hown).2; omega
 have e := itC_get h.lo.2.2.1 pol cv rv; refine ⟨⟨hI.set hbox (by decide) (by decide) h.lo.1 _, h.lo, by rw [blk_set _ hbox, (itC_set h.lo.2.2.1 pol cv rv _).2.1], ?_, ?_, ?_, ?_, owns_other hr hbox (by decide) _⟩, blk_cell hbox e.2.1, blk_free hbox⟩
 ·intro j x hj hx hn; rw [blk_other _ hj]; exact hk j x hj hx hn
 ·have := hg.size; have := h.sz; simp [World.setCell]; omega
 ·rw [List.length_append, LR.flat_snoc]; exact owns_other ho hbox (by decide) _
 ·intro tv g' hc; rw [World.cell?_of_block (w := w6) (blk_other _ ?_)] at hc
  ·exact hsep tv g' hc
  ·intro e; obtain ⟨tv', nk, nt, na, i, n', xs', g1, _⟩ := hI.rp; have e' : b = ib := e; rw [e', hbox] at g1; simp [rpBlock] at g1
theorem TB.growRules {w6 : World} (h : TB B s T w0 w wr b ib q hd pol cv rv ls rs) (hg : wr.grownBy w6 rv.ownBlock) (g cap : Nat) (r : RR) (ho : w6.ownsRow w.heap.size 166 5 (.slice (some ⟨g, 0, none⟩) (rs.length + 1) cap) (rs.length + 1) (RR.flat rs ++ r.cells)) :
  TB B s T w0 w (w6.setCell ⟨ib, 13, none⟩ (.slice (some ⟨g, 0, none⟩) (rs.length + 1) cap)) b ib q hd pol cv (.slice (some ⟨g, 0, none⟩) (rs.length + 1) cap) ls (rs ++ [r]) ∧ w6.cell? ⟨ib, 13, none⟩ = some rv ∧ (∀ o, w6.frozen? ⟨ib, o, none⟩ = false) := by
 have hib := lt_of_block h.box; have hbox : w6.heap[ib]? = some (.cells (itC hd pol cv rv) 110 (0, 0)) := (hg.block ib hib (own_ne h.rules h.box (by decide))).trans h.box; have hI : IN B s T w0 w6 b q 0 := h.inn.grown (owns_mono h.rules h.lo.2.2.2) (by decide) (by decide) hg; have hk : KeepX ib w w6 := by
  intro j x hj hx hn; have h1 := h.keep j x hj hx hn; refine (hg.block j (lt_of_block h1) ?_).trans h1; intro e; have := (World.ownsRow.lt h.rules j e.symm).1; have := lt_of_block hx; omega
 have hc6 : w6.ownsRow w.heap.size 87 3 cv ls.length (LR.flat ls) := by
  refine h.cols.kept hg ?_; rcases h.cols.2 with ⟨rfl, _⟩ | ⟨g', cap', cur, rfl, _, hgg', _⟩
  ·exact Or.inl rfl
  ·exact Or.inr (own_ne h.rules hgg' (by decide))
 have hb5 : w6.cell? ⟨b, 5, none⟩ = wr.cell? ⟨b, 5, none⟩ := by
  refine World.cell?_of_block (w := wr) (hg.block b h.inn.blt ?_); obtain ⟨tv', nk, nt, na, i, n', xs', g1, _⟩ := h.inn.rp; exact own_ne h.rules g1 (by decide)
 have e := itC_get h.lo.2.2.1 pol cv rv; refine ⟨⟨hI.set hbox (by decide) (by decide) h.lo.1 _, h.lo, by rw [blk_set _ hbox, (itC_set h.lo.2.2.1 pol cv rv _).2.2], ?_, ?_, owns_other hc6 hbox (by decide) _, ?_, ?_⟩, blk_cell hbox e.2.2, blk_free hbox⟩
 ·intro j x hj hx hn; rw [blk_other _ hj]; exact hk j x hj hx hn
 ·have := hg.size; have := h.sz; simp [World.setCell]; omega
 ·intro tv g' hc; rw [World.cell?_of_block (w := w6) (blk_other _ ?_), hb5] at hc
  ·exact h.sep tv g' hc
  ·intro e; obtain ⟨tv', nk, nt, na, i, n', xs', g1, _⟩ := hI.rp; have e' : b = ib := e; rw [e', hbox] at g1; simp [rpBlock] at g1
 ·rw [List.length_append, RR.flat_snoc]; exact owns_other ho hbox (by decide) _
theorem TB.grow {w6 : World} (h : TB B s T w0 w wr b ib q hd pol cv rv ls rs) {base : Nat} {e : TypeId} {size : Nat} {v : Value} {n : Nat} {xs : List Value} (hown : wr.ownsRow base e size v n xs) (hbase : w.heap.size ≤ base) (e1 : e ≠ 126) (e2 : e ≠ 87) (e3 : e ≠ 110) (e4 : e ≠ 166) (hg : wr.grownBy w6 v.ownBlock) :
  TB B s T w0 w w6 b ib q hd pol cv rv ls rs := by
 have hib := lt_of_block h.box; have hbox : w6.heap[ib]? = some (.cells (itC hd pol cv rv) 110 (0, 0)) := (hg.block ib hib (own_ne hown h.box (fun x => e3 x.symm))).trans h.box; have hI : IN B s T w0 w6 b q 0 := h.inn.grown (owns_mono hown (Nat.le_trans h.lo.2.2.2 hbase)) e1 e2 hg; have hk : ∀ {base' : Nat} {t : TypeId} {sz : Nat} {u : Value} {m : Nat} {ys : List Value}, wr.ownsRow base' t sz u m ys → t ≠ e → w6.ownsRow base' t sz u m ys := by
  intro base' t sz u m ys ho hte; refine ho.kept hg ?_; rcases ho.2 with ⟨rfl, _⟩ | ⟨g', cap', cur, rfl, _, hgg', _⟩
  ·exact Or.inl rfl
  ·exact Or.inr (own_ne hown hgg' hte)
 have hb5 : w6.cell? ⟨b, 5, none⟩ = wr.cell? ⟨b, 5, none⟩ := by
  refine World.cell?_of_block (w := wr) (hg.block b h.inn.blt ?_); obtain ⟨tv', nk, nt, na, i, n', xs', g1, _⟩ := h.inn.rp; exact own_ne hown g1 (fun x => e1 x.symm)
 refine ⟨hI, h.lo, hbox, ?_, Nat.le_trans h.sz hg.size, hk h.cols (fun x => e2 x.symm), fun tv g' hc => by rw [hb5] at hc; exact h.sep tv g' hc, hk h.rules (fun x => e4 x.symm)⟩; intro j x hj hx hn; have h1 := h.keep j x hj hx hn; refine (hg.block j (lt_of_block h1) ?_).trans h1; intro e'; have := (World.ownsRow.lt hown j e'.symm).1; have := lt_of_block hx; omega
def rBox (cvr : Value) (op x : ByteArray) (na : Nat) (kv : Value) : Array Value := #[cvr, .string op, .string x, .int .i64 na, kv]
structure RB (B : Nat) (s : ByteArray) (T : List Wk.Tok) (w0 w wr : World) (b ib : Nat) (q : Wk.St) (hd : List Value) (pol cv rv : Value) (ls : List LR) (rs : List RR) (h0 : Nat) (rules : List Wk.PRule) (cvr : Value) (op x : ByteArray) (na : Nat) (kv : Value) (cs : List CR) (cells : List Wk.PCell) : Prop where
 tb : TB B s T w0 w wr b ib q hd pol cv rv ls rs
 rb : wr.heap[h0]? = some (.cells (rBox cvr op x na kv) 166 (0, 0))
 lo : w.heap.size ≤ h0 ∧ ∀ g, rv.ownBlock = some g → g < h0
 old : Pairs (RR.ok w.heap.size h0 wr) rs rules
 row : wr.ownsRow (h0 + 1) 171 2 cvr cs.length (CR.flat cs)
 new : q.bad = none → Pairs (CR.ok (h0 + 1) wr.heap.size wr) cs cells
variable {h0 : Nat} {rules : List Wk.PRule} {cvr kv : Value} {op x : ByteArray} {na : Nat} {cs : List CR} {cells : List Wk.PCell}
theorem RB.step (h : RB B s T w0 w wr b ib q hd pol cv rv ls rs h0 rules cvr op x na kv cs cells) (hI : IN B s T wr wr' b q' 0) (hq : q'.bad = none → q.bad = none) : RB B s T w0 w wr' b ib q' hd pol cv rv ls rs h0 rules cvr op x na kv cs cells := by
 refine ⟨h.tb.step hI, hI.box h.rb (by decide) (by decide), h.lo, h.old.imp (fun _ _ g => g.keep (KeepY.frT hI.fr.toFrT (by decide) _ _)), owns_in hI h.row (by decide) (by decide), fun hb => (h.new (hq hb)).imp (fun _ _ g => (g.keep (KeepY.frT (ts := [173]) hI.fr.toFrT (by decide) _ _) (by decide)).mono (Nat.le_refl _) hI.size)⟩
theorem RB.below (h : RB B s T w0 w wr b ib q hd pol cv rv ls rs h0 rules cvr op x na kv cs cells) (hb : Below wr.heap.size wr wr') : RB B s T w0 w wr' b ib q hd pol cv rv ls rs h0 rules cvr op x na kv cs cells :=
 ⟨h.tb.below hb, (hb.block _ (lt_of_block h.rb)).trans h.rb, h.lo, h.old.imp (fun _ _ g => g.keep (KeepY.below hb _ _ _)), owns_below h.row hb, fun e => (h.new e).imp (fun _ _ g => (g.keep (KeepY.below hb [173] _ _) (by decide)).mono (Nat.le_refl _) hb.size)⟩
theorem RB.cells5 (h : RB B s T w0 w wr b ib q hd pol cv rv ls rs h0 rules cvr op x na kv cs cells) : wr.cell? ⟨h0, 0, none⟩ = some cvr ∧ wr.cell? ⟨h0, 1, none⟩ = some (.string op) ∧ wr.cell? ⟨h0, 2, none⟩ = some (.string x) ∧ wr.cell? ⟨h0, 3, none⟩ = some (.int .i64 na) ∧ wr.cell? ⟨h0, 4, none⟩ = some kv ∧ (∀ o, wr.frozen? ⟨h0, o, none⟩ = false) :=
 ⟨blk_cell h.rb rfl, blk_cell h.rb rfl, blk_cell h.rb rfl, blk_cell h.rb rfl, blk_cell h.rb rfl, blk_free h.rb⟩
theorem RB.setBox (h : RB B s T w0 w wr b ib q hd pol cv rv ls rs h0 rules cvr op x na kv cs cells) (o : Nat) (v : Value) :
  TB B s T w0 w (wr.setCell ⟨h0, o, none⟩ v) b ib q hd pol cv rv ls rs ∧ Pairs (RR.ok w.heap.size h0 (wr.setCell ⟨h0, o, none⟩ v)) rs rules ∧ (wr.setCell ⟨h0, o, none⟩ v).ownsRow (h0 + 1) 171 2 cvr cs.length (CR.flat cs) ∧
  (q.bad = none → Pairs (CR.ok (h0 + 1) (wr.setCell ⟨h0, o, none⟩ v).heap.size (wr.setCell ⟨h0, o, none⟩ v)) cs cells) := by
 have hz : (wr.setCell ⟨h0, o, none⟩ v).heap.size = wr.heap.size := by simp [World.setCell]
 refine ⟨h.tb.setBox h.rb (by decide) (by decide) h.lo.1 (fun e => by have := h.lo.2 h0 e.symm; omega) v, h.old.imp (fun _ _ g => g.keep (KeepY.setTy h.rb (by decide) v)), owns_other h.row h.rb (by decide) v, fun e => ?_⟩; rw [hz]; exact (h.new e).imp (fun _ _ g => g.keep (KeepY.setTy (ts := [173]) h.rb (by decide) v) (by decide))
theorem RB.growCells {w6 : World} (h : RB B s T w0 w wr b ib q hd pol cv rv ls rs h0 rules cvr op x na kv cs cells) (hg : wr.grownBy w6 cvr.ownBlock) (g cap : Nat) (r : CR) (c : Wk.PCell) (ho : w6.ownsRow (h0 + 1) 171 2 (.slice (some ⟨g, 0, none⟩) (cs.length + 1) cap) (cs.length + 1) (CR.flat cs ++ r.cells)) (hc : q.bad = none → CR.ok (h0 + 1) wr.heap.size wr r c) :
  RB B s T w0 w (w6.setCell ⟨h0, 0, none⟩ (.slice (some ⟨g, 0, none⟩) (cs.length + 1) cap)) b ib q hd pol cv rv ls rs h0 rules (.slice (some ⟨g, 0, none⟩) (cs.length + 1) cap) op x na kv (cs ++ [r]) (cells ++ [c]) ∧ w6.cell? ⟨h0, 0, none⟩ = some cvr ∧ (∀ o, w6.frozen? ⟨h0, o, none⟩ = false) := by
 have hrb : w6.heap[h0]? = some (.cells (rBox cvr op x na kv) 166 (0, 0)) := (hg.block h0 (lt_of_block h.rb) (own_ne h.row h.rb (by decide))).trans h.rb; have htb : TB B s T w0 w w6 b ib q hd pol cv rv ls rs := h.tb.grow h.row (by have := h.lo.1; omega) (by decide) (by decide) (by decide) (by decide) hg; have hlo : ∀ k, cvr.ownBlock = some k → h0 + 1 ≤ k := fun k e => (World.ownsRow.lt h.row k e).1
 have hkold : KeepY [173, 171, 107] w.heap.size h0 wr w6 := by
  intro k cs' t fr _ h2 _ h4; refine (hg.block k (lt_of_block h4) (fun e => ?_)).trans h4; have := hlo k e.symm; omega
 have hknew : KeepY [173] (h0 + 1) wr.heap.size wr w6 := KeepY.grown h.row (by decide) hg; have hz : (w6.setCell ⟨h0, 0, none⟩ (.slice (some ⟨g, 0, none⟩) (cs.length + 1) cap)).heap.size = w6.heap.size := by simp [World.setCell]
 have hne : some h0 ≠ rv.ownBlock := fun e => by have := h.lo.2 h0 e.symm; omega
 refine ⟨⟨htb.setBox hrb (by decide) (by decide) h.lo.1 hne _, by rw [blk_set _ hrb]; rfl, h.lo, ?_, ?_, fun e => ?_⟩, blk_cell hrb rfl, blk_free hrb⟩
 ·exact h.old.imp (fun _ _ g => (g.keep hkold).keep (KeepY.setTy hrb (by decide) _))
 ·rw [List.length_append, CR.flat_snoc]; exact owns_other ho hrb (by decide) _
 ·rw [hz]; have hs : KeepY [173] (h0 + 1) w6.heap.size w6 (w6.setCell ⟨h0, 0, none⟩ (.slice (some ⟨g, 0, none⟩) (cs.length + 1) cap)) := KeepY.setTy hrb (by decide) _; exact ((h.new e).snoc (hc e)).imp (fun _ _ y => (((y.keep hknew (by decide)).mono (Nat.le_refl _) hg.size).keep hs (by decide)))
theorem RB.set1 (h : RB B s T w0 w wr b ib q hd pol cv rv ls rs h0 rules cvr op x na kv cs cells) (o : Nat) (v : Value) {op' x' : ByteArray} {na' : Nat} {kv' : Value} (hv : (rBox cvr op x na kv).setIfInBounds o v = rBox cvr op' x' na' kv') :
  RB B s T w0 w (wr.setCell ⟨h0, o, none⟩ v) b ib q hd pol cv rv ls rs h0 rules cvr op' x' na' kv' cs cells := by
 obtain ⟨h1, h2, h3, h4⟩ := h.setBox o v; exact ⟨h1, by rw [blk_set _ h.rb, hv], h.lo, h2, h3, h4⟩
theorem RB.setTree (h : RB B s T w0 w wr b ib q hd pol cv rv ls rs h0 rules cvr op x na kv cs cells) (op' x' : ByteArray) (na' : Nat) (kv' : Value) :
  RB B s T w0 w ((((wr.setCell ⟨h0, 1, none⟩ (.string op')).setCell ⟨h0, 2, none⟩ (.string x')).setCell ⟨h0, 3, none⟩ (.int .i64 na')).setCell ⟨h0, 4, none⟩ kv') b ib q hd pol cv rv ls rs h0 rules cvr op' x' na' kv' cs cells :=
 (((h.set1 1 (.string op') rfl).set1 2 (.string x') rfl).set1 3 (.int .i64 na') rfl).set1 4 kv' rfl
theorem RB.done (h : RB B s T w0 w wr b ib q hd pol cv rv ls rs h0 rules cvr op x na kv cs cells) {sem : Wk.Sem} {lo hi : Nat} (ht : q.bad = none → TrI lo hi wr (tree op x na kv) sem) (hlo : w.heap.size ≤ lo) (hhi : hi ≤ wr.heap.size) (hb : q.bad = none) :
  Pairs (RR.ok w.heap.size wr.heap.size wr) (rs ++ [⟨cvr, op, x, na, kv⟩]) (rules ++ [⟨cells, sem⟩]) := by
 have hh : h0 ≤ wr.heap.size := Nat.le_of_lt (lt_of_block h.rb); have hl := h.lo.1; refine (h.old.imp (fun _ _ g => g.mono (Nat.le_refl _) hh)).snoc ⟨⟨cs, (h.new hb).imp (fun _ _ g => g.mono (by omega) (Nat.le_refl _)), ?_⟩, (ht hb).mono hlo hhi⟩; exact (RowIn.ofOwn h.row).mono (by omega) (Nat.le_refl _)
theorem rules_keep {lo hi hi' : Nat} {wr wr' : World} (h : Pairs (RR.ok lo hi wr) rs rules) (k : KeepY [173, 171, 107] lo hi wr wr') (hh : hi ≤ hi') : Pairs (RR.ok lo hi' wr') rs rules :=
 h.imp (fun _ _ g => (g.keep k).mono (Nat.le_refl _) hh)
end
end Go.Proofs.YtbkaghlklkdmkaaGreatDoor
