/-
  What Print needs of the program's model. The document's answer: Load: plain laws; where the reading of a model stands. The document's answer: Load. The tokens of a text: how they are spelt. The program's parser: what it keeps; next, has. The program's parser: want.
-/
import Derived.Test.YtbkaghlklkdmkaaGreatDoorMH5
import Derived.Test.YtbkaghlklkdmkaaGreatDoorNF5
import Derived.Test.YtbkaghlklkdmkaaGreatDoorMD3
set_option maxRecDepth 100000
set_option maxHeartbeats 8000000
namespace Go.Proofs.YtbkaghlklkdmkaaGreatDoor
open Go.RowKit
def TkC (T : List Wk.Tok) (tg : Nat) (w : World) : Prop := ∀ k, k < T.length → w.cell? ⟨tg, k * 3, none⟩ = some (.int .i64 ((Wk.tokK T k).kind : Int)) ∧ w.cell? ⟨tg, k * 3 + 1, none⟩ = some (.int .i64 ((Wk.tokK T k).place : Int)) ∧ w.cell? ⟨tg, k * 3 + 2, none⟩ = some (.string (Wk.tokK T k).text)
theorem cell_same {w w' : World} {b o : Nat} {v : Value} (h : w.cell? ⟨b, o, none⟩ = some v) (e : w'.heap[b]? = w.heap[b]?) : w'.cell? ⟨b, o, none⟩ = some v := by
 rw [← h]; simp [World.cell?, e]
theorem TkC.same {T : List Wk.Tok} {tg : Nat} {w w' : World} (h : TkC T tg w) (e : w'.heap[tg]? = w.heap[tg]?) : TkC T tg w' := fun k hk => by
 obtain ⟨h1, h2, h3⟩ := h k hk; exact ⟨cell_same h1 e, cell_same h2 e, cell_same h3 e⟩
theorem TkC.below {T : List Wk.Tok} {tg : Nat} {w w' : World} (h : TkC T tg w) (hb : Below w.heap.size w w') : TkC T tg w' := fun k hk =>
 (h.same (hb.block tg (cell_lt (h k hk).1))) k hk
def Chain (T : List Wk.Tok) (tg : Nat) : Nat → List IR → Nat → Prop
 | a, [], z => a = z
 | a, r :: l, z => ∃ m cap, r.tv = .slice (some ⟨tg, a * 3, none⟩) (m + 1 - a) cap ∧ a ≤ m ∧ m < T.length ∧ (Wk.tokK T m).kind = 39 ∧ (∀ k, a ≤ k → k < m → (Wk.tokK T k).kind ≠ 39) ∧ Chain T tg (m + 1) l z
theorem Chain.le {T : List Wk.Tok} {tg : Nat} : ∀ {l : List IR} {a z : Nat}, Chain T tg a l z → a ≤ z
 | [], _, _, h => Nat.le_of_eq h
 | _ :: _, _, _, ⟨_, _, _, h1, _, _, _, h2⟩ => by have := Chain.le h2; omega
theorem Chain.snoc {T : List Wk.Tok} {tg : Nat} {r : IR} {z z' : Nat} (hr : Chain T tg z [r] z') : ∀ {l : List IR} {a : Nat}, Chain T tg a l z → Chain T tg a (l ++ [r]) z'
 | [], _, h => by rw [show _ = z from h]; exact hr
 | _ :: _, _, ⟨m, cap, h1, h2, h3, h4, h5, h6⟩ => ⟨m, cap, h1, h2, h3, h4, h5, Chain.snoc hr h6⟩
theorem Chain.most {T : List Wk.Tok} {tg : Nat} : ∀ {l : List IR} {a z : Nat}, Chain T tg a l z → a ≤ T.length → z ≤ T.length
 | [], _, _, h, k => by rw [← show _ = _ from h]; exact k
 | _ :: _, _, _, ⟨_, _, _, _, h1, _, _, h2⟩, _ => h2.most h1
def PM (T : List Wk.Tok) (K : Nat) (w : World) (p : Nat) : Prop := ∃ (g cap tg : Nat) (irs : List IR), w.heap[p]? = some (.cells #[.slice (some ⟨g, 0, none⟩) irs.length cap] 64 (0, 0)) ∧ (1 ≤ irs.length ∧ irs.length ≤ 20 ∧ 1 ≤ T.length) ∧
 (∀ (j : Nat) (r : IR), irs[j]? = some r → (r.ex.oneCell' = true ∧ r.cv.oneCell' = true ∧ r.rv.oneCell' = true ∧ r.tv.oneCell' = true) ∧ ∀ i v, r.cells[i]? = some v → w.cell? ⟨g, j * 15 + i, none⟩ = some v) ∧ Chain T tg 0 irs K ∧ TkC T tg w
theorem PM.same {T : List Wk.Tok} {K p : Nat} {w w' : World} (h : PM T K w p) (e : ∀ k, (∀ cs fr, w.heap[k]? = some (.cells cs 64 fr) → w'.heap[k]? = w.heap[k]?) ∧ ∀ z, w.cell? ⟨k, 0, none⟩ = some (.int .i64 z) → w'.heap[k]? = w.heap[k]?) : PM T K w' p := by
 obtain ⟨g, cap, tg, irs, h1, h2, h3, h4, h5⟩ := h; obtain ⟨r, hr⟩ : ∃ r, irs[0]? = some r := ⟨_, List.getElem?_eq_getElem (by omega)⟩
 have eg := (e g).2 _ (by have := (h3 0 r hr).2 0 _ rfl; simpa using this); have et := (e tg).2 _ (by have := (h5 0 (by omega)).1; simpa using this); exact ⟨g, cap, tg, irs, ((e p).1 _ _ h1).trans h1, h2, fun j r hj => ⟨(h3 j r hj).1, fun i v hv => cell_same ((h3 j r hj).2 i v hv) eg⟩, h4, h5.same et⟩
theorem PM.below {T : List Wk.Tok} {K p : Nat} {w w' : World} (h : PM T K w p) (hb : Below w.heap.size w w') : PM T K w' p :=
 h.same (fun k => ⟨fun _ _ hk => hb.block k (lt_of_block hk), fun _ hz => hb.block k (cell_lt hz)⟩)
def RM (T : List Wk.Tok) (K : Nat) (w : World) (mb : Nat) : Prop := ∃ vv tv B, w.heap[mb]? = some (.cells #[vv, tv] 85 (0, 0)) ∧ w.ownsRow B 87 3 tv K (takenCells T K)
theorem RM.below {T : List Wk.Tok} {K mb : Nat} {w w' : World} (h : RM T K w mb) (hb : Below w.heap.size w w') : RM T K w' mb := by
 obtain ⟨vv, tv, B, h1, h2⟩ := h; exact ⟨vv, tv, B, (hb.block mb (lt_of_block h1)).trans h1, owns_below h2 hb⟩
def leads (M : Nat → Prop) (e : Ending) : Prop := ∀ v x y, e = .returned (.tuple #[.pointer (some v), x, y]) → ∃ b, v = ⟨b, 0, none⟩ ∧ M b
theorem leads_none {M : Nat → Prop} {x y : Value} : leads M (.returned (.tuple #[.pointer none, x, y])) := fun v x y e => by simp at e
theorem leads_some {M : Nat → Prop} {b : Nat} {x y : Value} (h : M b) : leads M (.returned (.tuple #[.pointer (some ⟨b, 0, none⟩), x, y])) := fun v x y e => by
 simp at e; exact ⟨b, e.1.symm, h⟩
end Go.Proofs.YtbkaghlklkdmkaaGreatDoor
namespace Go.Proofs.YtbkaghlklkdmkaaGreatDoor
open Go.RowKit
attribute [local go_sem ↓] Go.wp_at_zero Go.wp_at_succ
theorem pCells_length (T : List Wk.Tok) : ∀ (n : Nat) (q : Wk.St) (l : List Wk.PCell), (Wk.pCells T n q l).2.length = l.length + n := by
 intro n; induction n with
 | zero => intro q l; rfl
 | succ n ih =>
  intro q l; unfold Wk.pCells; simp only; rw [ih]; simp; omega
theorem pRule_length (T : List Wk.Tok) (n : Nat) (hn : 1 ≤ n) (q : Wk.St) : (Wk.pRule T n q).2.cells.length = n := by
 unfold Wk.pRule; simp only; rw [pCells_length]; simp; omega
theorem pRules_length (T : List Wk.Tok) (c : Nat) (hc : 1 ≤ c) : ∀ (n : Nat) (q : Wk.St) (l : List Wk.PRule), (∀ r ∈ l, r.cells.length = c) → ∀ r ∈ (Wk.pRules T c n q l).2, r.cells.length = c := by
 intro n; induction n with
 | zero => intro q l h; exact h
 | succ n ih =>
  intro q l h; have h2 : ∀ r ∈ l ++ [(Wk.pRule T c q).2], r.cells.length = c := by
   intro r hr; rcases List.mem_append.1 hr with h1 | h1
   ·exact h r h1
   ·rw [List.mem_singleton] at h1; rw [h1]; exact pRule_length T c hc q
  unfold Wk.pRules; simp only; split
  ·exact ih _ _ h2
  ·exact h2
theorem pCols_pos (T : List Wk.Tok) : ∀ (n : Nat) (q : Wk.St) (l : List (Wk.Name × Nat)), l.length + 1 ≤ (Wk.pCols T (n + 1) q l).2.length := by
 intro n; induction n with
 | zero =>
  intro q l; unfold Wk.pCols; simp
 | succ n ih =>
  intro q l; unfold Wk.pCols; simp only; split
  ·refine Nat.le_trans ?_ (ih _ _); simp
  ·simp
theorem pItem_rules (T : List Wk.Tok) (q : Wk.St) : ∀ r ∈ (Wk.pItem T q).2.rules, r.cells.length = (Wk.pItem T q).2.cols.length := by
 unfold Wk.pItem; simp only; split
 ·intro r hr; simp [Wk.pHead] at hr
 ·split
  ·intro r hr; simp [Wk.pHead] at hr
  ·split
   ·unfold Wk.pTable; simp only; exact pRules_length T _ (by have := pCols_pos T 2 (Wk.St.want T (if Wk.St.isIn T (Wk.pHead T 2 (Wk.tokK T q.k).place q.adv).fst [12, 13, 14, 15, 16, 17] = true then (Wk.pHead T 2 (Wk.tokK T q.k).place q.adv).fst.adv else Wk.St.fail T (Wk.pHead T 2 (Wk.tokK T q.k).place q.adv).fst) 34) []; simpa using this) _ _ _ (fun r hr => by simp at hr)
   ·intro r hr; simp at hr
theorem itemsStray_step {its : List Wk.PItem} {i : Nat} {it : Wk.PItem} (h : its[i]? = some it) :
  Wk.itemsStray ((its.take i).map (·.name)) (its.drop i) = (Wk.itemStray ((its.take i).map (·.name)) it).or (Wk.itemsStray ((its.take (i + 1)).map (·.name)) (its.drop (i + 1))) := by
 have hlt : i < its.length := (List.getElem?_eq_some_iff.1 h).1; have hX : its[i]'hlt = it := (List.getElem?_eq_some_iff.1 h).2; rw [List.drop_eq_getElem_cons hlt, hX, List.take_add_one, h]; simp [Wk.itemsStray]
theorem find_step {α : Type} {l : List α} {i : Nat} {x : α} (h : l[i]? = some x) (p : α → Bool) : (l.drop i).find? p = if p x then some x else (l.drop (i + 1)).find? p := by
 have hlt : i < l.length := (List.getElem?_eq_some_iff.1 h).1; have hX : l[i]'hlt = x := (List.getElem?_eq_some_iff.1 h).2; rw [List.drop_eq_getElem_cons hlt, hX, List.find?_cons]; cases p x <;> rfl
theorem itemsStray_none {its : List Wk.PItem} (h : Wk.itemsStray [] its = none) : ∀ (i : Nat) (it : Wk.PItem), its[i]? = some it → Wk.itemStray ((its.take i).map (·.name)) it = none := by
 have gen : ∀ i, i ≤ its.length → Wk.itemsStray ((its.take i).map (·.name)) (its.drop i) = none := by
  intro i; induction i with
  | zero => intro _; simpa using h
  | succ i ih =>
   intro hi; have h1 := ih (by omega); rw [itemsStray_step (List.getElem?_eq_getElem (by omega : i < its.length))] at h1; exact (Option.or_eq_none_iff.1 h1).2
 intro i it hi; have hlt : i < its.length := (List.getElem?_eq_some_iff.1 hi).1; have h1 := gen i (by omega); rw [itemsStray_step hi] at h1; exact (Option.or_eq_none_iff.1 h1).1
theorem stray_none {ns : List Wk.Name} {l : List (Wk.Name × Nat)} (h : Wk.stray ns l = none) : ∀ x ∈ l, x.1 ∈ ns := by
 unfold Wk.stray at h; rw [Option.map_eq_none_iff, List.find?_eq_none] at h; intro x hx; have := h x hx; simpa using this
theorem strayCols_none {ns : List Wk.Name} : ∀ (l : List (Wk.Name × Nat)) (seen : List Wk.Name), Wk.strayCols ns seen l = none → ∀ x ∈ l, x.1 ∈ ns := by
 intro l; induction l with
 | nil => intro _ _ x hx; cases hx
 | cons y l ih =>
  intro seen h x hx; unfold Wk.strayCols at h; split at h
  ·cases h
  ·rename_i hc; rcases List.mem_cons.1 hx with e | e
   ·subst e; simp at hc; exact hc.1
   ·exact ih _ h x e
theorem typeOK_of {its : List Wk.PItem} (hn : Wk.itemsStray [] its = none) (hr : ∀ it ∈ its, ∀ r ∈ it.rules, r.cells.length = it.cols.length) {i : Nat} {it : Wk.PItem} (hi : its[i]? = some it) : TypeOK (itEnv its) it := by
 have h0 := itemsStray_none hn i it hi; have hsub : ∀ x ∈ (its.take i).map (·.name), x ∈ (itEnv its).map (·.1) := by
  intro x hx; rw [List.mem_map] at hx; obtain ⟨y, hy, e⟩ := hx; unfold itEnv; rw [List.map_map, List.mem_map]; exact ⟨y, List.mem_of_mem_take hy, e⟩
 unfold Wk.itemStray at h0; split at h0
 ·cases h0
 ·rw [Option.or_eq_none_iff, Option.or_eq_none_iff] at h0; obtain ⟨h1, h2, h3⟩ := h0; refine ⟨fun x hx => hsub _ (stray_none h2 x hx), fun r hr' x hx => hsub _ (stray_none h3 x ?_), fun x hx => hsub _ (strayCols_none _ _ h1 x hx), hr it (List.mem_of_getElem? hi)⟩; rw [List.mem_flatten]; exact ⟨r.out.names, List.mem_map.2 ⟨r, hr', rfl⟩, hx⟩
def modelSpec (its : List Wk.PItem) : Nat × Nat :=
 match Wk.itemsStray [] its with
 | some p => (3, p)
 | none => match its.find? (fun it => !Wk.itemFits (itEnv its) it) with
  | some it => (4, it.place)
  | none => (0, 0)
def ItR.flat (l : List ItR) : List Value := (l.map (fun r => r.cells.toList)).flatten
theorem ItR.flat_snoc (l : List ItR) (r : ItR) : ItR.flat (l ++ [r]) = ItR.flat l ++ r.cells.toList := by simp [ItR.flat]
theorem it_row {w : World} {base : Nat} {ad : Option Addr} {n c : Nat} {cs : List ItR} (h : w.ownsRow base 110 14 (.slice ad n c) n (ItR.flat cs)) (hn : cs.length = n) (h0 : 0 < n) : ∃ g, ad = some ⟨g, 0, none⟩ ∧ ∀ (k : Nat) (L : ItR), cs[k]? = some L → RowAt w g (k * 14) L := by
 have hget : ∀ (l : List ItR) (k : Nat) (h : k < l.length) (j : Nat), j < 14 → (ItR.flat l)[k * 14 + j]? = (l[k]'h).cells.toList[j]? := by
  intro l; induction l with
  | nil => intro k h; simp at h
  | cons x l ih =>
   intro k h j hj; have e : ItR.flat (x :: l) = x.cells.toList ++ ItR.flat l := rfl; have hx : x.cells.toList.length = 14 := rfl; cases k with
   | zero =>
    rw [e, List.getElem?_append_left (by rw [hx]; omega)]; simp
   | succ k =>
    have h' : k < l.length := by simpa using h
    have := ih k h' j hj; rw [e, List.getElem?_append_right (by rw [hx]; omega), hx]; rw [show (k + 1) * 14 + j - 14 = k * 14 + j by omega]; exact this
 rcases h.2 with ⟨e, h0'⟩ | ⟨g, cap, cur, e, hb, hgg, h1, h2, h3, h4⟩
 ·omega
 ·cases e; refine ⟨g, rfl, fun k L hk => ?_⟩; have hlt : k < cs.length := (List.getElem?_eq_some_iff.1 hk).1; have hL : cs[k]'hlt = L := (List.getElem?_eq_some_iff.1 hk).2; have hc : ∀ j, j < 14 → w.cell? ⟨g, k * 14 + j, none⟩ = L.cells.toList[j]? := by
   intro j hj; have := World.ownsRow.cellAt h (k * 14 + j) (by omega); rw [this, hget cs k hlt j hj, hL]
  exact ⟨hc 0 (by omega), hc 1 (by omega), hc 2 (by omega), hc 3 (by omega), hc 4 (by omega), hc 5 (by omega), hc 6 (by omega), hc 7 (by omega), hc 8 (by omega), hc 9 (by omega), hc 10 (by omega), hc 11 (by omega), hc 12 (by omega), hc 13 (by omega)⟩
def KeepL (w w' : World) : Prop := ∀ (k : Nat) (cs : Array Value) (t : TypeId) (fr : Nat × Nat), t ≠ 110 → t ≠ 85 → w.heap[k]? = some (.cells cs t fr) → w'.heap[k]? = some (.cells cs t fr)
theorem KeepL.trans {a b c : World} (h : KeepL a b) (k : KeepL b c) : KeepL a c := fun i cs t fr h1 h2 h3 => k i cs t fr h1 h2 (h i cs t fr h1 h2 h3)
theorem KeepL.below {w w' : World} (h : Below w.heap.size w w') : KeepL w w' := fun k _ _ _ _ _ h3 => (h.block k (lt_of_block h3)).trans h3
theorem KeepL.cols {w w' : World} (h : KeepL w w') {lo hi : Nat} {cv : Value} {cols : List (Wk.Name × Nat)} (hc : ColsIn lo hi w cv cols) : ColsIn lo hi w' cv cols := by
 obtain ⟨ls, p1, p2⟩ := hc; refine ⟨ls, p1, ⟨p2.1.1, p2.1.2.imp id ?_⟩, p2.2⟩; rintro ⟨g, cap, cur, e1, e2, e3, e4⟩; exact ⟨g, cap, cur, e1, e2, h g _ _ _ (by decide) (by decide) e3, e4⟩
theorem KeepL.item {w w' : World} (h : KeepL w w') {lo hi hi' : Nat} {r : ItR} {it : Wk.PItem} (k : itemOK lo hi w r it) (hh : hi ≤ hi') : itemOK lo hi' w' r it := by
 refine k.keep ?_ ?_ (fun c => h.cols c) hh
 ·exact fun i cs fr h3 => h i cs 9 fr (by decide) (by decide) h3
 ·intro i cs t fr _ _ h3 h4; refine h i cs t fr ?_ ?_ h4
  ·rintro rfl; revert h3; decide
  ·rintro rfl; revert h3; decide
section
variable {B : Nat} {s : ByteArray} {T : List Wk.Tok}
theorem KeepL.sep {w0 w w' : World} (h : KeepL w w') {b : Nat} {q : Wk.St} {nest : Int} (hI : IN B s T w0 w b q nest) {cv : Value} (hs : Sep w b cv) : Sep w' b cv := by
 obtain ⟨tv, nk, nt, na, i, n, xs, h1, _⟩ := hI.rp; intro tv' g hc hg; have h2 := h b _ _ _ (by decide) (by decide) h1; have c5 : w.cell? ⟨b, 5, none⟩ = some tv := blk_cell h1 rfl; have c5' : w'.cell? ⟨b, 5, none⟩ = some tv := blk_cell h2 rfl; rw [c5'] at hc; cases hc; exact hs _ g c5 hg
structure LB (B : Nat) (s : ByteArray) (T : List Wk.Tok) (w0 wr : World) (b mb : Nat) (q : Wk.St) (vv : Value) (Rs : List ItR) (its : List Wk.PItem) : Prop where
 inn : IN B s T w0 wr b q 0
 lo : w0.heap.size ≤ mb
 box : wr.heap[mb]? = some (.cells #[vv, .slice none 0 0] 85 (0, 0))
 row : wr.ownsRow w0.heap.size 110 14 vv Rs.length (ItR.flat Rs)
 forms : ∀ R ∈ Rs, Form R
 ok : q.bad = none → Pairs (itemOK w0.heap.size wr.heap.size wr) Rs its ∧ ∀ R ∈ Rs, Sep wr b R.cv
variable {w0 wr wr' : World} {b mb : Nat} {q q' : Wk.St} {vv : Value} {Rs : List ItR} {its : List Wk.PItem}
theorem LB.step (h : LB B s T w0 wr b mb q vv Rs its) (hI : IN B s T wr wr' b q' 0) (hq : q'.bad = none → q.bad = none) : LB B s T w0 wr' b mb q' vv Rs its := by
 refine ⟨h.inn.trans hI, h.lo, hI.box h.box (by decide) (by decide), owns_in hI h.row (by decide) (by decide), h.forms, fun e => ?_⟩; obtain ⟨h1, h2⟩ := h.ok (hq e); refine ⟨⟨h1.1, fun i R it a c => ?_⟩, fun R hR => ?_⟩
 ·have h3 := h1.2 i R it a c; exact h3.keep (Keep9.frT hI.fr.toFrT (by decide)) (KeepY.frT hI.fr.toFrT (by decide) _ _) (fun cc => colsIn_step hI h.inn.cell5 cc (h2 R (List.mem_of_getElem? a))) hI.size
 ·obtain ⟨i, hi⟩ := List.getElem?_of_mem hR; have hlt : i < its.length := by
   have := (List.getElem?_eq_some_iff.1 hi).1; have := h1.1; omega
  have h3 := h1.2 i R _ hi (List.getElem?_eq_getElem hlt); obtain ⟨ls, p1, p2⟩ := h3.cols; exact (cols_step hI h.inn.cell5 p2.1 (h2 R hR)).2
theorem LB.below (h : LB B s T w0 wr b mb q vv Rs its) (hb : Below wr.heap.size wr wr') : LB B s T w0 wr' b mb q vv Rs its := by
 refine ⟨h.inn.below hb, h.lo, (hb.block _ (lt_of_block h.box)).trans h.box, owns_below h.row hb, h.forms, fun e => ?_⟩; obtain ⟨h1, h2⟩ := h.ok e; exact ⟨h1.imp (fun _ _ k => (KeepL.below hb).item k hb.size), fun R hR => (KeepL.below hb).sep h.inn (h2 R hR)⟩
theorem LB.cell (h : LB B s T w0 wr b mb q vv Rs its) : wr.cell? ⟨mb, 0, none⟩ = some vv ∧ wr.cell? ⟨mb, 1, none⟩ = some (.slice none 0 0) ∧ (∀ o, wr.frozen? ⟨mb, o, none⟩ = false) := ⟨blk_cell h.box rfl, blk_cell h.box rfl, blk_free h.box⟩
theorem LB.grow {w6 : World} (h : LB B s T w0 wr b mb q vv Rs its) (hg : wr.grownBy w6 vv.ownBlock) (g cap : Nat) (R : ItR) (it : Wk.PItem) (ho : w6.ownsRow w0.heap.size 110 14 (.slice (some ⟨g, 0, none⟩) (Rs.length + 1) cap) (Rs.length + 1) (ItR.flat Rs ++ R.cells.toList)) (hf : Form R) (hok : q.bad = none → itemOK w0.heap.size wr.heap.size wr R it ∧ Sep wr b R.cv) :
  LB B s T w0 (w6.setCell ⟨mb, 0, none⟩ (.slice (some ⟨g, 0, none⟩) (Rs.length + 1) cap)) b mb q (.slice (some ⟨g, 0, none⟩) (Rs.length + 1) cap) (Rs ++ [R]) (its ++ [it]) ∧ w6.cell? ⟨mb, 0, none⟩ = some vv ∧ (∀ o, w6.frozen? ⟨mb, o, none⟩ = false) := by
 have hb6 : w6.heap[mb]? = some (.cells #[vv, .slice none 0 0] 85 (0, 0)) := (hg.block mb (lt_of_block h.box) (own_ne h.row h.box (by decide))).trans h.box; have hk : KeepL wr w6 := fun k cs t fr h1 _ h3 => (hg.block k (lt_of_block h3) (own_ne h.row h3 h1)).trans h3
 have hk2 : KeepL w6 (w6.setCell ⟨mb, 0, none⟩ (.slice (some ⟨g, 0, none⟩) (Rs.length + 1) cap)) := by
  intro k cs t fr _ h2 h3; rw [blk_other]
  ·exact h3
  ·rintro rfl; rw [hb6] at h3; simp at h3; exact h2 h3.2.1.symm
 have hk3 := hk.trans hk2; have hsz : wr.heap.size ≤ (w6.setCell ⟨mb, 0, none⟩ (.slice (some ⟨g, 0, none⟩) (Rs.length + 1) cap)).heap.size := by
  have : (w6.setCell ⟨mb, 0, none⟩ (.slice (some ⟨g, 0, none⟩) (Rs.length + 1) cap)).heap.size = w6.heap.size := by simp [World.setCell]
  rw [this]; exact hg.size
 have hI6 := h.inn.grown h.row (by decide) (by decide) hg; refine ⟨⟨hI6.set hb6 (by decide) (by decide) h.lo _, h.lo, by rw [blk_set _ hb6]; rfl, ?_, ?_, fun e => ?_⟩, blk_cell hb6 rfl, blk_free hb6⟩
 ·rw [ItR.flat_snoc]; simp only [List.length_append, List.length_singleton]; refine ⟨ho.1, ho.2.imp id ?_⟩; rintro ⟨g', cap', cur, e1, e2, e3, e4⟩; refine ⟨g', cap', cur, e1, e2, ?_, e4⟩; rw [blk_other]
  ·exact e3
  ·rintro rfl; rw [hb6] at e3; simp at e3
 ·intro R' hR'; rcases List.mem_append.1 hR' with h1 | h1
  ·exact h.forms R' h1
  ·rw [List.mem_singleton] at h1; rw [h1]; exact hf
 ·obtain ⟨h1, h2⟩ := h.ok e; obtain ⟨k1, k2⟩ := hok e; refine ⟨(h1.imp (fun _ _ k => hk3.item k hsz)).snoc (hk3.item k1 hsz), fun R' hR' => ?_⟩; rcases List.mem_append.1 hR' with h3 | h3
  ·exact hk3.sep h.inn (h2 R' h3)
  ·rw [List.mem_singleton] at h3; rw [h3]; exact hk3.sep h.inn k2
theorem LB.mi (h : LB B s T w0 wr b mb q vv Rs its) (hb : q.bad = none) (h0 : 0 < Rs.length) (h20 : Rs.length ≤ 20) : ∃ g cap, vv = .slice (some ⟨g, 0, none⟩) Rs.length cap ∧ MI wr mb g cap w0.heap.size wr.heap.size Rs its := by
 obtain ⟨ad, c, rfl, hc⟩ := owns_slice h.row; obtain ⟨g, rfl, hr⟩ := it_row h.row rfl h0; exact ⟨g, c, rfl, h.cell.1, ⟨hc, h20⟩, hr, (h.ok hb).1, Nat.le_refl _, h.forms⟩
end
theorem Tryz.info110 : (Tryz.prog.info? 110).map (fun i => (i.zero, i.size, i.bytes)) = some (some (.agg (zeroIt ⟨#[]⟩ 0).cells), 14, 216) := by kernel_rfl
theorem Tryz.und82 : Tryz.prog.underlying 82 = some (.slice 110) := by kernel_rfl
def mFrom (T : List Wk.Tok) (q : Wk.St) (its : List Wk.PItem) : Wk.St × List Wk.PItem :=
 if its.length = 0 then Wk.pItems T 19 (Wk.pItem T q).1 [(Wk.pItem T q).2] else Wk.pItems T (20 - its.length) q its
theorem mFrom_step {T : List Wk.Tok} {q : Wk.St} {its : List Wk.PItem} (h : its.length < 20) (hq : its.length = 0 ∨ (q.bad.isSome || q.isK T 0) = false) : mFrom T q its = mFrom T (Wk.pItem T q).1 (its ++ [(Wk.pItem T q).2]) := by
 unfold mFrom; rw [if_neg (c := (its ++ [(Wk.pItem T q).2]).length = 0) (by simp)]; by_cases h0 : its.length = 0
 ·rw [if_pos h0]; have : its = [] := List.length_eq_zero_iff.1 h0; rw [this]; rfl
 ·rw [if_neg h0]; rcases hq with hq | hq
  ·exact absurd hq h0
  ·obtain ⟨n, hn⟩ : ∃ n, 20 - its.length = n + 1 := ⟨19 - its.length, by omega⟩
   rw [hn]; have e : 20 - (its ++ [(Wk.pItem T q).2]).length = n := by simp; omega
   rw [e]; show (if (q.bad.isSome || q.isK T 0) = true then _ else _) = _; rw [if_neg (by rw [hq]; simp)]
theorem mFrom_end {T : List Wk.Tok} {q : Wk.St} {its : List Wk.PItem} (h0 : its.length ≠ 0) (hq : (q.bad.isSome || q.isK T 0) = true) : mFrom T q its = (q, its) := by
 unfold mFrom; rw [if_neg h0]; cases hn : 20 - its.length with
 | zero =>
  show (if q.isK T 0 = true then q else q.fail T, its) = _; split
  ·rfl
  ·rename_i hk; rw [Wk.fail_bad T (by simpa [hk] using hq)]
 | succ n =>
  show (if (q.bad.isSome || q.isK T 0) = true then (q, its) else _) = _; rw [if_pos hq]
theorem mFrom_full {T : List Wk.Tok} {q : Wk.St} {its : List Wk.PItem} (h0 : its.length = 20) (hq : q.isK T 0 = false) : mFrom T q its = (q.fail T, its) := by
 unfold mFrom; rw [if_neg (by omega), h0]; show (if q.isK T 0 = true then q else q.fail T, its) = _; rw [if_neg (by rw [hq]; simp)]
def loadEnd (s : ByteArray) (e : Ending) : Prop :=
 ∃ p, e = .returned (.tuple #[.pointer p, .int .i64 ((Wk.loadSpec s).1 : Int), .int .i64 ((Wk.loadSpec s).2 : Int)]) ∧ (p = none ↔ (Wk.loadSpec s).1 ≠ 0)
theorem load_start {w w2 : World} {s : ByteArray} {kk : Nat} (hS : Spelt (Wk.tokens s)) (hG : Gl w) (hs : s.size ≤ 1000)
  (hk : 2 ≤ (Wk.cut s 0).kind → kk = (Wk.cut s 0).stop) (hb : Below (w.heap.size + 1) (w.alloc (.cells #[.string s, .int .u8 0, .string ⟨#[]⟩, .int .i64 0, .int .i64 0, .slice none 0 0, .int .i64 (-1), .int .i64 0] 126)) w2) :
  IN w.heap.size s (Wk.tokens s) (((((w2.setCell ⟨w.heap.size, 1, none⟩ (.int .u8 (rkind (Wk.cut s 0).kind false))).setCell ⟨w.heap.size, 2, none⟩ (.string (rtext (Wk.cut s 0) false))).setCell ⟨w.heap.size, 3, none⟩ (.int .i64 (Wk.cut s 0).place))).setCell ⟨w.heap.size, 4, none⟩ (.int .i64 kk))
   (((((w2.setCell ⟨w.heap.size, 1, none⟩ (.int .u8 (rkind (Wk.cut s 0).kind false))).setCell ⟨w.heap.size, 2, none⟩ (.string (rtext (Wk.cut s 0) false))).setCell ⟨w.heap.size, 3, none⟩ (.int .i64 (Wk.cut s 0).place))).setCell ⟨w.heap.size, 4, none⟩ (.int .i64 kk)) w.heap.size ⟨0, none⟩ 0 ∧
  Below w.heap.size w (((((w2.setCell ⟨w.heap.size, 1, none⟩ (.int .u8 (rkind (Wk.cut s 0).kind false))).setCell ⟨w.heap.size, 2, none⟩ (.string (rtext (Wk.cut s 0) false))).setCell ⟨w.heap.size, 3, none⟩ (.int .i64 (Wk.cut s 0).place))).setCell ⟨w.heap.size, 4, none⟩ (.int .i64 kk)) := by
 have hF := Wk.tokens_follow s; have hl : 0 < (Wk.tokens s).length := by
  unfold Wk.tokens Wk.toks; split
  ·simp
  ·simp
 have h0 : Wk.tokK (Wk.tokens s) 0 = Wk.cut s 0 := hF.first
 have b0 : w2.heap[w.heap.size]? = some (.cells #[.string s, .int .u8 0, .string ⟨#[]⟩, .int .i64 0, .int .i64 0, .slice none 0 0, .int .i64 (-1), .int .i64 0] 126 (0, 0)) := (hb.block _ (by omega)).trans (heap_alloc_new _ _); have hbw : Below w.heap.size w w2 := ((Below.refl _ _).alloc (Nat.le_refl _) _).trans (hb.mono (by omega)); have hb4 : Below w.heap.size w ((((w2.setCell ⟨w.heap.size, 1, none⟩ (.int .u8 (rkind (Wk.cut s 0).kind false))).setCell ⟨w.heap.size, 2, none⟩ (.string (rtext (Wk.cut s 0) false))).setCell ⟨w.heap.size, 3, none⟩ (.int .i64 (Wk.cut s 0).place)).setCell ⟨w.heap.size, 4, none⟩ (.int .i64 kk)) := (((hbw.setCell (Nat.le_refl _) _).setCell (Nat.le_refl _) _).setCell (Nat.le_refl _) _).setCell (Nat.le_refl _) _; have b4 := blk_set (o := 4) (.int .i64 kk) (blk_set (o := 3) (.int .i64 (Wk.cut s 0).place) (blk_set (o := 2) (.string (rtext (Wk.cut s 0) false)) (blk_set (o := 1) (.int .u8 (rkind (Wk.cut s 0).kind false)) b0))); generalize ((((w2.setCell ⟨w.heap.size, 1, none⟩ (.int .u8 (rkind (Wk.cut s 0).kind false))).setCell ⟨w.heap.size, 2, none⟩ (.string (rtext (Wk.cut s 0) false))).setCell ⟨w.heap.size, 3, none⟩ (.int .i64 (Wk.cut s 0).place)).setCell ⟨w.heap.size, 4, none⟩ (.int .i64 kk)) = W at *
 refine ⟨IN.refl ⟨.slice none 0 0, rkind (Wk.cut s 0).kind false, rtext (Wk.cut s 0) false, (Wk.cut s 0).place, kk, 0, [], ?_, Nat.le_refl _, World.ownsRow_nil _ _ _ _, ⟨Nat.zero_le _, ?_⟩, fun _ => ⟨hl, by rw [h0], by rw [h0], by rw [h0], fun h => ?_, rfl, rfl⟩⟩ ⟨hG.belowAll hb4, hb4.size⟩ ⟨hF, hS, ?_, hG.size, hs⟩, hb4⟩
 ·rw [b4]; rfl
 ·have := rtext_le hF hs hl false; rw [h0] at this; exact this
 ·have h' : 2 ≤ (Wk.cut s 0).kind := by rw [← h0]; exact h
  show kk = (Wk.tokK (Wk.tokens s) 0).stop; rw [h0]; exact hk h'
 ·exact toks_short s _ _
theorem itemOK.mono {lo lo' hi : Nat} {w : World} {r : ItR} {it : Wk.PItem} (h : itemOK lo hi w r it) (h1 : lo' ≤ lo) : itemOK lo' hi w r it :=
 ⟨h.what, h.name, h.place, h.ty, ⟨fun e => (h.expr.1 e).mono h1 (Nat.le_refl _), h.expr.2⟩, h.table, h.cols.mono h1 (Nat.le_refl _), h.rules.mono h1 (Nat.le_refl _)⟩
theorem rkind_46 {kd : Nat} : rkind kd false = 46 ↔ kd = 0 := by
 unfold rkind; constructor
 ·intro h; repeat' split at h
  all_goals first | assumption | (exfalso; simp at h)
 ·intro h; rw [if_pos h]
theorem RowAt.block {w w' : World} {g o : Nat} {R : ItR} (h : RowAt w g o R) (hb : w'.heap[g]? = w.heap[g]?) : RowAt w' g o R := by
 have hc : ∀ o, w'.cell? ⟨g, o, none⟩ = w.cell? ⟨g, o, none⟩ := fun o => World.cell?_of_block (w := w) hb
 unfold RowAt; simp only [hc]; exact h
theorem LB.mi2 {B : Nat} {s : ByteArray} {T : List Wk.Tok} {w0 wr : World} {b mb : Nat} {q : Wk.St} {vv : Value} {Rs : List ItR} {its : List Wk.PItem} (h : LB B s T w0 wr b mb q vv Rs its) (hb : q.bad = none) (h0 : 0 < Rs.length) (h20 : Rs.length ≤ 20) (v : Value) :
  ∃ g cap, vv = .slice (some ⟨g, 0, none⟩) Rs.length cap ∧ MI (wr.setCell ⟨mb, 1, none⟩ v) mb g cap w0.heap.size wr.heap.size Rs its := by
 obtain ⟨g, cap, e, hM⟩ := h.mi hb h0 h20; have hk : KeepL wr (wr.setCell ⟨mb, 1, none⟩ v) := by
  intro k cs t fr _ h2 h3; rw [blk_other]
  ·exact h3
  ·rintro rfl; rw [h.box] at h3; simp at h3; exact h2 h3.2.1.symm
 have hg : g ≠ mb := by
  rintro rfl; have h1 := h.row; rw [e] at h1; exact own_ne h1 h.box (by decide) rfl
 have hz : (wr.setCell ⟨mb, 1, none⟩ v).heap.size = wr.heap.size := by simp [World.setCell]
 refine ⟨g, cap, e, ?_, hM.cap, fun i R hR => (hM.rows i R hR).block (blk_other _ hg), hM.ok.imp (fun _ _ k => hk.item k (Nat.le_refl _)), by rw [hz]; exact Nat.le_refl _, hM.forms⟩; have := blk_set (o := 1) v h.box; have h2 := bc 0 this rfl; rw [h2, ← e]; rfl
theorem r_load {w : World} {s : ByteArray} (hS : Spelt (Wk.tokens s)) (hQ : Quoted (Wk.tokens s)) (hG : Gl w) (hz : s.size < 2 ^ 62) :
  Calls Tryz.prog 19 #[.string s] w fun e w' => (loadEnd s e ∧ leads (RM (Wk.tokens s) (Wk.pModel (Wk.tokens s)).1.k w') e) ∧ Below w.heap.size w w' := by
 by_cases h1000 : 1000 < s.size
 ·have HE : Hid (loadEnd s (.returned (.tuple #[.pointer none, .int .i64 1, .int .i64 0]))) := by
   have : Wk.loadSpec s = (1, 0) := by unfold Wk.loadSpec; rw [if_pos h1000]
   exact ⟨none, by rw [this]; rfl, by rw [this]; simp⟩
  have d1 : (1000 : Int) < (s.size : Int) := by omega
  clear hS hQ hG; go_enter Tryz.func19, Tryz.ntmps19; go_wp2_with fail; refine bodyPost_ret (v := .tuple #[.pointer none, .int .i64 1, .int .i64 0]) (by simp [results, Tryz.results19, go_sem]) rfl ⟨⟨HE.out, leads_none⟩, Below.refl _ _⟩
 ·have hs : s.size ≤ 1000 := by omega
  have d1 : ¬ (1000 : Int) < (s.size : Int) := by omega
  have HG : Hid _ := hG; have HSP : Hid _ := hS; have HQ : Hid _ := hQ; clear hS hQ hG; go_enter Tryz.func19, Tryz.ntmps19; go_wp2_with fail; have hGA : Gl (w.alloc (.cells #[.string s, .int .u8 0, .string ⟨#[]⟩, .int .i64 0, .int .i64 0, .slice none 0 0, .int .i64 (-1), .int .i64 0] 126)) := HG.out.belowAll ((Below.refl _ _).alloc (Nat.le_refl _) _); refine (r_cutI s 0 0 rfl false _ (Nat.zero_le _) hs hGA).mono ?_; rintro e w2 ⟨⟨kk, hk1, hk2, rfl⟩, hb2⟩; rw [sz_alloc] at hb2; have hst := load_start HSP.out HG.out hs hk2 hb2; have b0 : w2.heap[w.heap.size]? = some (.cells #[.string s, .int .u8 0, .string ⟨#[]⟩, .int .i64 0, .int .i64 0, .slice none 0 0, .int .i64 (-1), .int .i64 0] 126 (0, 0)) := (hb2.block _ (by omega)).trans (heap_alloc_new _ _); have HST : Hid _ := hst; have c1 := bc 1 b0 rfl; have c2 := bc 2 b0 rfl; have c3 := bc 3 b0 rfl; have c4 := bc 4 b0 rfl; have cf := blk_free b0; clear hst hb2 b0 hk2 hGA; unfold rtok; go_upto_block 0 with fail; have hsz : ((((w2.setCell ⟨w.heap.size, 1, none⟩ (.int .u8 (rkind (Wk.cut s 0).kind false))).setCell ⟨w.heap.size, 2, none⟩ (.string (rtext (Wk.cut s 0) false))).setCell ⟨w.heap.size, 3, none⟩ (.int .i64 (Wk.cut s 0).place)).setCell ⟨w.heap.size, 4, none⟩ (.int .i64 kk)).heap.size = w2.heap.size := by simp [World.setCell]
  have L0 : Hid (LB w.heap.size s (Wk.tokens s) ((((w2.setCell ⟨w.heap.size, 1, none⟩ (.int .u8 (rkind (Wk.cut s 0).kind false))).setCell ⟨w.heap.size, 2, none⟩ (.string (rtext (Wk.cut s 0) false))).setCell ⟨w.heap.size, 3, none⟩ (.int .i64 (Wk.cut s 0).place)).setCell ⟨w.heap.size, 4, none⟩ (.int .i64 kk)) (((((w2.setCell ⟨w.heap.size, 1, none⟩ (.int .u8 (rkind (Wk.cut s 0).kind false))).setCell ⟨w.heap.size, 2, none⟩ (.string (rtext (Wk.cut s 0) false))).setCell ⟨w.heap.size, 3, none⟩ (.int .i64 (Wk.cut s 0).place)).setCell ⟨w.heap.size, 4, none⟩ (.int .i64 kk)).alloc (.cells #[.slice none 0 0, .slice none 0 0] 85)) w.heap.size w2.heap.size ⟨0, none⟩ (.slice none 0 0) [] []) := by
   refine ⟨HST.out.1.alloc _, by rw [hsz]; exact Nat.le_refl _, by rw [← hsz]; exact heap_alloc_new _ _, World.ownsRow_nil _ _ _ _, (fun R h => by cases h), fun _ => ⟨Pairs.nil _, (fun R h => by cases h)⟩⟩
  have HBW : Hid _ := HST.out.2; clear hsz c1 c2 c3 c4 cf HST; generalize ((((w2.setCell ⟨w.heap.size, 1, none⟩ (.int .u8 (rkind (Wk.cut s 0).kind false))).setCell ⟨w.heap.size, 2, none⟩ (.string (rtext (Wk.cut s 0) false))).setCell ⟨w.heap.size, 3, none⟩ (.int .i64 (Wk.cut s 0).place)).setCell ⟨w.heap.size, 4, none⟩ (.int .i64 kk)) = w4 at *
  generalize (w4.alloc (.cells #[.slice none 0 0, .slice none 0 0] 85)) = W5 at *
  generalize hmb : w2.heap.size = mb at *
  generalize hB : w.heap.size = B at *
  have HFO : Hid _ := Wk.tokens_follow s; generalize hT : Wk.tokens s = T at *
  have HT : Hid (Wk.tokens s = T) := hT; clear hmb hT; go_cut [] from 11 (fun wc => ∃ (q : Wk.St) (vv : Value) (Rs : List ItR) (its : List Wk.PItem), Hid (LB B s T w4 wc B mb q vv Rs its) ∧ Hid (Wk.pModel T = (q, its)) ∧ Hid (1 ≤ Rs.length ∧ Rs.length ≤ 20 ∧ Rs.length = its.length) ∧ Hid (∀ it ∈ its, ∀ r ∈ it.rules, r.cells.length = it.cols.length))
  case first =>
   go_wp2_with fail; go_loopg [30] 21 (fun gk _ wr => ∃ (q : Wk.St) (vv : Value) (Rs : List ItR) (its : List Wk.PItem), Hid (LB B s T w4 wr B mb q vv Rs its) ∧ Hid (Wk.pModel T = mFrom T q its) ∧ Hid (gk + Rs.length = 21 ∧ Rs.length = its.length ∧ 0 < gk ∧ (its.length = 0 → q.bad = none)) ∧ Hid (∀ it ∈ its, ∀ r ∈ it.rules, r.cells.length = it.cols.length))
   case atStart => exact ⟨_, _, _, _, L0, rfl, ⟨rfl, rfl, by decide, fun _ => rfl⟩, fun it h => by cases h⟩
   case round =>
    obtain ⟨q, vv, Rs, its, L1, HMF, HLN, HRL⟩ := hrel; obtain ⟨wo, hwo⟩ : ∃ wo : World, wo = wr := ⟨_, rfl⟩
    subst hwo; clear L0; have c6 := L1.out.inn.badc; obtain ⟨nk, nt, na, c1, -, -, hn⟩ := L1.out.inn.nextc; obtain ⟨ad, cc, rfl, hcc⟩ := owns_slice L1.out.row; have m0 := L1.out.cell.1; have HN : Hid _ := hn; clear hn; obtain ⟨gs, hgs⟩ : ∃ x, x = (q.bad.isNone && ((Wk.tokK T q.k).kind != 0 || Rs.length == 0)) := ⟨_, rfl⟩
    go_upto_region 6 with fail; go_cut [50] from 30 to 69 (fun v wc => v = .bool gs ∧ wc = wo)
    case first =>
     cases hb : q.bad with
     | some pl =>
      have hsm : q.bad.isSome := by rw [hb]; rfl
      have h0 := badI_some hsm; have HV : Hid (gs = false) := by rw [hgs, hb]; rfl
      clear hb hsm hgs; generalize badI q = z at *
      go_wp2_with fail; go_meet; exact ⟨by rw [HV.out], rfl⟩
     | none =>
      rw [badI_none hb] at c6; have hnk := (HN.out hb).1; by_cases hk0 : (Wk.tokK T q.k).kind = 0
      ·rw [hk0] at hnk; have hnk2 : nk = 46 := hnk; subst hnk2; by_cases hr0 : Rs.length = 0
       ·have e0 : ((Rs.length : Int) == 0) = true := by rw [beq_iff_eq]; omega
        have HV : Hid (gs = true) := by rw [hgs, hb, hk0, hr0]; rfl
        clear hb hgs hk0 hnk; go_wp2_with fail; go_meet; exact ⟨by rw [HV.out]; try rw [e0], rfl⟩
       ·have e0 : ((Rs.length : Int) == 0) = false := by rw [beq_eq_false_iff_ne]; omega
        have HV : Hid (gs = false) := by
         show _ = _; have : (Rs.length == 0) = false := by rw [beq_eq_false_iff_ne]; exact hr0
         rw [hgs, hb, hk0, this]; rfl
        clear hb hgs hk0 hnk; go_wp2_with fail; go_meet; exact ⟨by rw [HV.out]; try rw [e0], rfl⟩
      ·have hne : nk ≠ 46 := by rw [hnk]; exact fun e => hk0 (rkind_46.1 e)
       have e1 : ((nk : Int) != 46) = true := by rw [bne_iff_ne]; omega
       have HV : Hid (gs = true) := by
        show _ = _; have : ((Wk.tokK T q.k).kind != 0) = true := by rw [bne_iff_ne]; exact hk0
        rw [hgs, hb, this]; rfl
       clear hb hgs hk0 hnk; go_wp2_with fail; go_meet; exact ⟨by rw [HV.out]; try rw [e1], rfl⟩
    case rest =>
     obtain ⟨hv, hwc⟩ := hcut; subst hv; rw [hwc]; clear hwc; cases gs with
     | false =>
      have hE : Wk.pModel T = (q, its) ∧ Rs.length ≠ 0 := by
       have hl := HLN.out; rw [HMF.out]; cases hb : q.bad with
       | some pl =>
        have h0 : its.length ≠ 0 := fun e => by
         rw [hl.2.2.2 e] at hb; cases hb
        exact ⟨mFrom_end h0 (by rw [hb]; rfl), by omega⟩
       | none =>
        rw [hb] at hgs; have hx : (Wk.tokK T q.k).kind = 0 ∧ Rs.length ≠ 0 := by simpa using hgs
        exact ⟨mFrom_end (by omega) (by rw [Wk.isK_iff.2 ⟨hb, hx.1⟩]; simp), hx.2⟩
      have HEE : Hid (Wk.pModel T = (q, its)) := hE.1; have HL3 : Hid (1 ≤ Rs.length ∧ Rs.length ≤ 20 ∧ Rs.length = its.length) := by
       have hl := HLN.out; have := hE.2; exact ⟨by omega, by omega, hl.2.1⟩
      clear hgs hE; go_wp2_with fail; go_meet; exact ⟨q, _, Rs, its, L1, HEE, HL3, HRL⟩
     | true =>
      have hb : q.bad = none ∧ ((Wk.tokK T q.k).kind ≠ 0 ∨ Rs.length = 0) := by
       cases hb : q.bad with
       | some pl => rw [hb] at hgs; simp at hgs
       | none =>
        rw [hb] at hgs; refine ⟨rfl, ?_⟩; have : ((Wk.tokK T q.k).kind != 0 || Rs.length == 0) = true := by simpa using hgs.symm
        simpa using this
      have HBN : Hid (q.bad = none) := hb.1; have HKN : Hid ((Wk.tokK T q.k).kind ≠ 0 ∨ Rs.length = 0) := hb.2; have HGO : Hid (its.length = 0 ∨ (q.bad.isSome || q.isK T 0) = false) := by
       have hl := HLN.out; rcases HKN.out with h | h
       ·right; cases hk : q.isK T 0 with
        | true => exact absurd (Wk.isK_iff.1 hk).2 h
        | false => rw [HBN.out]; rfl
       ·left; omega
      clear hgs hb; by_cases h20 : Rs.length = 20
      ·have e20 : ((Rs.length : Int) == 20) = true := by rw [beq_iff_eq]; omega
       have HEE : Hid (Wk.pModel T = (q.fail T, its)) := by
        show _ = _; have hl := HLN.out; rw [HMF.out]; refine mFrom_full (by omega) ?_; cases hk : q.isK T 0 with
        | true =>
         rcases HKN.out with h | h
         ·exact absurd (Wk.isK_iff.1 hk).2 h
         ·omega
        | false => rfl
       have HL3 : Hid (1 ≤ Rs.length ∧ Rs.length ≤ 20 ∧ Rs.length = its.length) := by
        have hl := HLN.out; exact ⟨by omega, by omega, hl.2.1⟩
       clear h20; go_wp2_with fail; refine (i_fail L1.out.inn).mono ?_; rintro e w7 ⟨rfl, hI7⟩; have L7 : Hid _ := L1.out.step hI7 (fun _ => HBN.out); clear hI7 L1 m0 c1 c6; go_wp2_with fail; go_meet; exact ⟨_, _, Rs, its, L7, HEE, HL3, HRL⟩
      ·have e20 : ((Rs.length : Int) == 20) = false := by rw [beq_eq_false_iff_ne]; omega
       have HN20 : Hid (Rs.length ≠ 20) := h20; have hr20 : Rs.length ≤ 20 := by have := HLN.out; omega
       clear h20; go_upto_region 9 with fail; have Ld : Hid (LB B s T w4 wo.drew B mb q (.slice ad Rs.length cc) Rs its) := L1.out.below (Below.refl _ _).drew; clear L1 m0 c1 c6; have HS : Hid _ := Ld.out.cell.1; refine wp_region_ph (fun w' => w'.cell? ⟨mb, 0, none⟩ = some (.slice ad Rs.length cc)) 9 12 rfl (by kernel_rfl) HS.out (fun hHeld => ?_); clear hHeld; refine PhS.t 0 59 HS.out ?_; refine PhS.t 1 60 HS.out ?_; refine PhS.t 2 61 HS.out ?_; refine PhS.t 3 62 HS.out ?_; refine PhS.t 4 63 HS.out ?_; refine PhS.t 5 64 HS.out ?_; refine PhS.on 6 (fun K hK => ?_); go_simp; refine (r_item HFO.out.shut HQ.out B q Ld.out.inn.self).mono ?_; rintro e w11 ⟨⟨R, rfl, hsep, hform, hit⟩, hI11⟩; obtain ⟨a1, n1, c1, a2, n2, c2, a3, n3, c3, a4, n4, c4, pp, e1, e2, e3, e4, e5⟩ := hform; have hst3 : (Wk.pItem T q).1.bad = none → q.bad = none := fun _ => HBN.out
       have Le : Hid (LB B s T w4 w11 B mb (Wk.pItem T q).1 (.slice ad Rs.length cc) Rs its) := Ld.out.step hI11 hst3; have hl0 : w4.heap.size ≤ wo.drew.heap.size := Ld.out.inn.size; have HIT : Hid ((Wk.pItem T q).1.bad = none → itemOK w4.heap.size w11.heap.size w11 R (Wk.pItem T q).2 ∧ Sep w11 B R.cv) := fun e => ⟨(hit e).mono hl0, hsep⟩
       obtain ⟨what, nk5, nt5, na5, at_, tk, tw, eo, ex, en, ek, pol, cv, rv⟩ := R; simp only at e1 e2 e3 e4 e5; subst e1; subst e2; subst e3; subst e4; subst e5; have HFM : Hid (Form ⟨what, nk5, nt5, na5, at_, tk, .slice a1 n1 c1, eo, ex, en, .slice a2 n2 c2, .string pp, .slice a3 n3 c3, .slice a4 n4 c4⟩) := ⟨a1, n1, c1, a2, n2, c2, a3, n3, c3, a4, n4, c4, pp, rfl, rfl, rfl, rfl, rfl⟩
       have ec : (ItR.cells ⟨what, nk5, nt5, na5, at_, tk, .slice a1 n1 c1, eo, ex, en, .slice a2 n2 c2, .string pp, .slice a3 n3 c3, .slice a4 n4 c4⟩) = #[.string what, .int .u8 nk5, .string nt5, .int .i64 na5, .int .i64 at_, .int .u8 tk, .slice a1 n1 c1, .string eo, .string ex, .int .i64 en, .slice a2 n2 c2, .string pp, .slice a3 n3 c3, .slice a4 n4 c4] := rfl; rw [ec]; refine hK.out _ _ (fun _ => Le.out.cell.1) ?_; clear hK K HS hI11 hit hst3 hsep ec; refine PhS.on 7 (fun K hK => ?_); go_simp; have Lf : Hid (∀ o, LB B s T w4 (w11.alloc o) B mb (Wk.pItem T q).1 (.slice ad Rs.length cc) Rs its) := fun o => Le.out.below ((Below.refl _ _).alloc (Nat.le_refl _) _)
       refine hK.out _ _ (fun _ => (Lf.out _).cell.1) ?_; clear hK K; obtain ⟨i0, hi0, hz0, hz1, hz2⟩ := info_parts Tryz.info110; have hl1 : w4.heap.size ≤ w11.heap.size := Le.out.inn.size; refine PhS.on 8 (fun K hK => ?_); refine step_append_lies _ (by rfl) (.tmp 63) (.tmp 66) 82 (by rfl) w4.heap.size 110 i0 _ 14 216 Tryz.und82 hi0 hz0 hz1 hz2 (by rfl) (by omega) (.slice ad Rs.length cc) Rs.length (ItR.flat Rs) (by simp [Act.eval]) (Lf.out _).row ⟨w11.heap.size, 0, none⟩ 1 1 #[.string what, .int .u8 nk5, .string nt5, .int .i64 na5, .int .i64 at_, .int .u8 tk, .slice a1 n1 c1, .string eo, .string ex, .int .i64 en, .slice a2 n2 c2, .string pp, .slice a3 n3 c3, .slice a4 n4 c4].toList (by simp [Act.eval]) (by rfl) (World.news_of_block (cs := #[.string what, .int .u8 nk5, .string nt5, .int .i64 na5, .int .i64 at_, .int .u8 tk, .slice a1 n1 c1, .string eo, .string ex, .int .i64 en, .slice a2 n2 c2, .string pp, .slice a3 n3 c3, .slice a4 n4 c4]) (heap_alloc_new _ _)) (by intro u hu; simp at hu; rcases hu with rfl | rfl | rfl | rfl | rfl | rfl | rfl | rfl | rfl | rfl | rfl | rfl | rfl | rfl <;> rfl) (by omega) (by unfold maxLen; omega) (by omega) (by rw [sz_alloc]; omega) _ rfl ?_; intro g cap w12 hown12 hgrow12 hat12 hlt12; have hgc := (Lf.out _).grow hgrow12 g cap ⟨what, nk5, nt5, na5, at_, tk, .slice a1 n1 c1, eo, ex, en, .slice a2 n2 c2, .string pp, .slice a3 n3 c3, .slice a4 n4 c4⟩ (Wk.pItem T q).2 hown12 HFM.out (fun e => ⟨(KeepL.below ((Below.refl _ _).alloc (Nat.le_refl _) _)).item (HIT.out e).1 (by rw [sz_alloc]; omega), (KeepL.below ((Below.refl _ _).alloc (Nat.le_refl _) _)).sep Le.out.inn (HIT.out e).2⟩); refine hK.out _ _ (fun _ => hgc.2.1) ?_; have Lg : Hid _ := hgc.1; have k0 := hgc.2.1; have kf := hgc.2.2; clear hK K hown12 hgrow12 hat12 hlt12 hgc hz0 hz1 hz2 hi0; try simp only [Act.put, sA, sZ, sS]
       refine PhS.on 9 (fun K hK => ?_); go_simp; refine hK.out _ _ (fun h => absurd h (by decide)) ?_; clear hK K; refine PhS.on 10 (fun K hK => ?_); go_simp; refine hK.out _ _ (fun h => absurd h (by decide)) ?_; clear hK K; refine PhS.on 11 (fun K hK => ?_); go_simp; refine hK.out _ _ (fun h => absurd h (by decide)) ?_; clear hK K; refine PhS.done (by kernel_rfl) ?_ _; have HNX : Hid (Wk.pModel T = mFrom T (Wk.pItem T q).1 (its ++ [(Wk.pItem T q).2])) := by
        show _ = _; rw [HMF.out]; exact mFrom_step (by have := HLN.out; have := HN20.out; omega) HGO.out
       have HLN2 : Hid (gk - 1 + (Rs ++ [(⟨what, nk5, nt5, na5, at_, tk, .slice a1 n1 c1, eo, ex, en, .slice a2 n2 c2, .string pp, .slice a3 n3 c3, .slice a4 n4 c4⟩ : ItR)]).length = 21 ∧ (Rs ++ [(⟨what, nk5, nt5, na5, at_, tk, .slice a1 n1 c1, eo, ex, en, .slice a2 n2 c2, .string pp, .slice a3 n3 c3, .slice a4 n4 c4⟩ : ItR)]).length = (its ++ [(Wk.pItem T q).2]).length ∧ 0 < gk - 1 ∧ ((its ++ [(Wk.pItem T q).2]).length = 0 → (Wk.pItem T q).1.bad = none)) := by
        have := HLN.out; have := HN20.out; refine ⟨by simp; omega, by simp; omega, by omega, fun e => by simp at e⟩
       have HRL2 : Hid (∀ it ∈ its ++ [(Wk.pItem T q).2], ∀ r ∈ it.rules, r.cells.length = it.cols.length) := by
        intro it hit; rcases List.mem_append.1 hit with h | h
        ·exact HRL.out it h
        ·rw [List.mem_singleton] at h; rw [h]; exact pItem_rules T q
       generalize hW13 : w12.setCell ⟨mb, 0, none⟩ (.slice (some ⟨g, 0, none⟩) (Rs.length + 1) cap) = W13 at *
       clear hW13 k0 kf Lf Le Ld; go_wp2_with fail; go_roundg (gk - 1); case measure => have := HLN.out; omega
       case rel => exact ⟨_, _, _, _, Lg, HNX, HLN2, HRL2⟩
  case rest =>
   obtain ⟨W6, hW6⟩ : ∃ W, W = wc := ⟨_, rfl⟩
   subst hW6; obtain ⟨q, vv, Rs, its, L6, HPM, HL3, HRL⟩ := hcut; clear L0; have c6 := L6.out.inn.badc; have HFB : Hid (Below B w W6) := by
    have hf := L6.out.inn.fr.toFrT; have h4 : Below B w w4 := HBW.out; exact h4.trans ⟨hf.os, hf.tape, hf.output, hf.size, hf.old⟩
   have HB0 : Hid (w.heap.size = B) := hB; have HBZ : Hid (B ≤ w4.heap.size ∧ w4.heap.size ≤ mb ∧ B ≤ W6.heap.size) := ⟨L6.out.inn.w0.size, L6.out.lo, L6.out.inn.rw.size⟩
   have HLS : Hid (Wk.loadSpec s = match q.bad with | some p => (2, p) | none => modelSpec its) := by
    show _ = _; unfold Wk.loadSpec; rw [if_neg h1000, HT.out, HPM.out]; rfl
   clear hB HBW; cases hb : q.bad with
   | some pl =>
    rw [hb] at HLS; have hbp : badI q = (pl : Int) := by unfold badI; rw [hb]
    rw [hbp] at c6; have HE : Hid (loadEnd s (.returned (.tuple #[.pointer none, .int .i64 2, .int .i64 (pl : Int)]))) := by
     have : Wk.loadSpec s = (2, pl) := HLS.out; exact ⟨none, by rw [this]; rfl, by rw [this]; simp⟩
    have d6 : (0 : Int) ≤ (pl : Int) := by omega
    clear hbp hb; go_upto_region 11 with fail; go_region
    all_goals
     go_wp2_with fail; refine bodyPost_ret (v := .tuple #[.pointer none, .int .i64 2, .int .i64 (pl : Int)]) (by simp [results, Tryz.results19, go_sem]) rfl ⟨⟨HE.out, leads_none⟩, by rw [HB0.out]; first | exact HFB.out | exact HFB.out.drew⟩
   | none =>
    rw [badI_none hb] at c6; have HLS2 : Hid (Wk.loadSpec s = modelSpec its) := by
     show _ = _; rw [HLS.out, hb]
    clear HLS; obtain ⟨tv, nk, nt, na, i5, n5, xs5, g1, _, g3, _, g5⟩ := L6.out.inn.rp; obtain ⟨adt, cct, rfl, hcct⟩ := owns_slice g3; have HRM0 : Hid (RM T q.k (W6.setCell ⟨mb, 1, none⟩ (.slice adt n5 cct)) mb) := by
     have g6 := g5 hb; have hbx := L6.out.box; refine ⟨vv, .slice adt n5 cct, B, (blk_set (o := 1) _ hbx).trans (by simp), ?_⟩; have g7 := owns_other (o := 1) g3 hbx (by decide) (.slice adt n5 cct); rw [g6.len, g6.cells] at g7; rw [g6.len]; exact g7
    clear g5; have c5 := (rp_cells g1).2.2.2.2.2.1; clear g1 g3; obtain ⟨k0, k1, kf⟩ := L6.out.cell; obtain ⟨g, cap, rfl, hM⟩ := L6.out.mi2 hb (by have := HL3.out; omega) HL3.out.2.1 (.slice adt n5 cct); have HM : Hid _ := hM; have HFB7 : Hid (Below B w (W6.setCell ⟨mb, 1, none⟩ (.slice adt n5 cct))) := HFB.out.setCell (by have := HBZ.out; simp; omega) _; have HZ7 : Hid (B ≤ (W6.setCell ⟨mb, 1, none⟩ (.slice adt n5 cct)).heap.size) := by
     have hz : (W6.setCell ⟨mb, 1, none⟩ (.slice adt n5 cct)).heap.size = W6.heap.size := by simp [World.setCell]
     show _ ≤ _; rw [hz]; exact HBZ.out.2.2
    have hmn : Rs.length ≤ 20 := HL3.out.2.1; clear hM hb; go_upto_block 2 with fail; generalize (W6.setCell ⟨mb, 1, none⟩ (.slice adt n5 cct)) = W7 at *
    clear c5 c6 k0 k1 kf L6 HFB hcct; have HRM : Hid (∀ wr, Below W7.heap.size W7 wr → RM (Wk.tokens s) (Wk.pModel (Wk.tokens s)).1.k wr mb) := fun wr hb => by
     have h := HRM0.out.below hb; rw [HT.out, HPM.out]; exact h
    have HFN : Hid (∀ wr, Below W7.heap.size W7 wr → Below w.heap.size w wr) := fun wr hb => by rw [HB0.out]; exact HFB7.out.trans (hb.mono HZ7.out)
    go_cut [] from 11 (fun wc => Hid (Below W7.heap.size W7 wc) ∧ Hid (Wk.itemsStray [] its = none))
    case first =>
     go_wp2_with fail; go_loopg [7] Rs.length (fun gk kv wr => ∃ k : Nat, kv = .int .i64 k ∧ gk + k = Rs.length ∧ Hid (Below W7.heap.size W7 wr) ∧ Hid (Wk.itemsStray [] its = Wk.itemsStray ((its.take k).map (·.name)) (its.drop k)))
     case atStart => exact ⟨0, rfl, by omega, Below.refl _ _, rfl⟩
     case round =>
      obtain ⟨k, rfl, hgk, HBr, HSI⟩ := hrel; have m0 := (HM.out.below HBr.out).model; by_cases hk : k < Rs.length
      ·have HGK : Hid (gk + k = Rs.length ∧ k < Rs.length) := ⟨hgk, hk⟩
       have hk0 : (0 : Int) ≤ (k : Int) := by omega
       have hk1 : (k : Int) < (Rs.length : Int) := by omega
       have hR := List.getElem?_eq_getElem hk; have hI := List.getElem?_eq_getElem (l := its) (i := k) (by have := HL3.out; omega); have HST : Hid _ := itemsStray_step hI; have HCA : Hid _ := r_names (HM.out.below HBr.out) k _ _ hR hI; generalize (its[k]'_) = it at *
       clear hR hI; go_wp2_with fail; refine Calls.mono HCA.out ?_; rintro e w8 ⟨rfl, hb8⟩; have HB8 : Hid (Below W7.heap.size W7 w8) := HBr.out.trans (hb8.mono HBr.out.size); clear hb8 HCA m0; cases hsx : Wk.itemStray ((its.take k).map (·.name)) it with
       | some pl =>
        have HE : Hid (loadEnd s (.returned (.tuple #[.pointer none, .int .i64 3, .int .i64 (pl : Int)]))) := by
         have h1 : Wk.itemsStray [] its = some pl := by rw [HSI.out, HST.out, hsx]; rfl
         have h2 : Wk.loadSpec s = (3, pl) := by rw [HLS2.out]; unfold modelSpec; rw [h1]
         exact ⟨none, by rw [h2]; rfl, by rw [h2]; simp⟩
        have e8 : optI (some pl) = (pl : Int) := rfl; rw [e8]; have d8 : (0 : Int) ≤ (pl : Int) := by omega
        clear e8 hsx; go_wp2_with fail; refine bodyPost_ret (v := .tuple #[.pointer none, .int .i64 3, .int .i64 (pl : Int)]) (by simp [results, Tryz.results19, go_sem]) rfl ⟨⟨HE.out, leads_none⟩, HFN.out _ HB8.out⟩
       | none =>
        have HNX : Hid (Wk.itemsStray [] its = Wk.itemsStray ((its.take (k + 1)).map (·.name)) (its.drop (k + 1))) := by
         show _ = _; rw [HSI.out, HST.out, hsx]; rfl
        have e8 : optI none = -1 := rfl; rw [e8]; clear e8 hsx; go_wp2_with fail; go_roundg (gk - 1); case measure =>
         have := HGK.out; omega
        case rel => exact ⟨k + 1, by go_num, by have := HGK.out; omega, HB8, HNX⟩
      ·have hk1 : ¬ (k : Int) < (Rs.length : Int) := by omega
       have HNN : Hid (Wk.itemsStray [] its = none) := by
        show _ = _; rw [HSI.out, List.drop_eq_nil_of_le (by have := HL3.out; omega)]; rfl
       go_wp2_with fail; go_meet; exact ⟨HBr, HNN⟩
    case rest =>
     obtain ⟨W9, hW9⟩ : ∃ W, W = wc := ⟨_, rfl⟩
     subst hW9; obtain ⟨HB9, HNN⟩ := hcut; go_wp2_with fail; go_loopg [9] Rs.length (fun gk kv wr => ∃ k : Nat, kv = .int .i64 k ∧ gk + k = Rs.length ∧ Hid (Below W7.heap.size W7 wr) ∧ Hid (its.find? (fun it => !Wk.itemFits (itEnv its) it) = (its.drop k).find? (fun it => !Wk.itemFits (itEnv its) it)))
     case atStart => exact ⟨0, rfl, by omega, HB9, rfl⟩
     case round =>
      obtain ⟨k, rfl, hgk, HBr, HFI⟩ := hrel; have m0 := (HM.out.below HBr.out).model; have hcap := HM.out.cap.1; by_cases hk : k < Rs.length
      ·have HGK : Hid (gk + k = Rs.length ∧ k < Rs.length) := ⟨hgk, hk⟩
       have hk0 : (0 : Int) ≤ (k : Int) := by omega
       have hk1 : (k : Int) < (Rs.length : Int) := by omega
       have hR := List.getElem?_eq_getElem hk; have hI := List.getElem?_eq_getElem (l := its) (i := k) (by have := HL3.out; omega); have HST : Hid _ := find_step hI (fun it => !Wk.itemFits (itEnv its) it); have hca := r_types (HM.out.below HBr.out) k _ _ hR hI (typeOK_of HNN.out HRL.out hI); have hrw := (HM.out.below HBr.out).rows k _ hR; have hfo := HM.out.forms _ (List.mem_of_getElem? hR); have hat := (HM.out.ok.2 k _ _ hR hI).place; generalize (its[k]'_) = it at *
       generalize (Rs[k]'hk) = R at *
       obtain ⟨a1, n1, c1, a2, n2, c2, a3, n3, c3, a4, n4, c4, pp, e1, e2, e3, e4, e5⟩ := hfo; obtain ⟨what, nk5, nt5, na5, at_, tk, tw, eo, ex, en, ek, pol, cv, rv⟩ := R; simp only at e1 e2 e3 e4 e5 hat; subst e1; subst e2; subst e3; subst e4; subst e5; have ec : (ItR.cells ⟨what, nk5, nt5, na5, at_, tk, .slice a1 n1 c1, eo, ex, en, .slice a2 n2 c2, .string pp, .slice a3 n3 c3, .slice a4 n4 c4⟩) = #[.string what, .int .u8 nk5, .string nt5, .int .i64 na5, .int .i64 at_, .int .u8 tk, .slice a1 n1 c1, .string eo, .string ex, .int .i64 en, .slice a2 n2 c2, .string pp, .slice a3 n3 c3, .slice a4 n4 c4] := rfl; rw [ec] at hca; have HCA : Hid _ := hca; unfold RowAt at hrw; obtain ⟨f0, f1, f2, f3, f4, f5, f6, f7, f8, f9, f10, f11, f12, f13⟩ := hrw; simp only at f0 f1 f2 f3 f4 f5 f6 f7 f8 f9 f10 f11 f12 f13; have HAT : Hid (at_ = it.place) := hat; clear hR hI hca ec hat; go_wp2_with fail; refine Calls.mono HCA.out ?_; rintro e w8 ⟨rfl, hb8⟩; have HB8 : Hid (Below W7.heap.size W7 w8) := HBr.out.trans (hb8.mono HBr.out.size); have m8 := (hb8.cell (p := ⟨mb, 0, none⟩) (cell_lt m0)).trans m0; have f48 := (hb8.cell (p := ⟨g, _, none⟩) (cell_lt f4)).trans f4; clear hb8 HCA m0 f0 f1 f2 f3 f4 f5 f6 f7 f8 f9 f10 f11 f12 f13; obtain ⟨fx, hfx⟩ : ∃ x, x = Wk.itemFits (itEnv its) it := ⟨_, rfl⟩
       rw [← hfx]; cases fx with
       | false =>
        have HE : Hid (loadEnd s (.returned (.tuple #[.pointer none, .int .i64 4, .int .i64 (at_ : Int)]))) := by
         have h1 : its.find? (fun it => !Wk.itemFits (itEnv its) it) = some it := by
          rw [HFI.out, HST.out, ← hfx]; rfl
         have h2 : Wk.loadSpec s = (4, at_) := by rw [HLS2.out]; unfold modelSpec; rw [HNN.out, h1, HAT.out]
         exact ⟨none, by rw [h2]; rfl, by rw [h2]; simp⟩
        clear hfx; go_upto_region 24 with fail; go_region
        all_goals
         go_wp2_with fail; refine bodyPost_ret (v := .tuple #[.pointer none, .int .i64 4, .int .i64 (at_ : Int)]) (by simp [results, Tryz.results19, go_sem]) rfl ⟨⟨HE.out, leads_none⟩, by first | exact HFN.out _ HB8.out | exact HFN.out _ HB8.out.drew⟩
       | true =>
        have HNX : Hid (its.find? (fun it => !Wk.itemFits (itEnv its) it) = (its.drop (k + 1)).find? (fun it => !Wk.itemFits (itEnv its) it)) := by
         show _ = _; rw [HFI.out, HST.out, ← hfx]; rfl
        clear hfx m8 f48; go_wp2_with fail; go_roundg (gk - 1); case measure =>
         have := HGK.out; omega
        case rel => exact ⟨k + 1, by go_num, by have := HGK.out; omega, HB8, HNX⟩
      ·have hk1 : ¬ (k : Int) < (Rs.length : Int) := by omega
       have HE : Hid (loadEnd s (.returned (.tuple #[.pointer (some ⟨mb, 0, none⟩), .int .i64 0, .int .i64 0]))) := by
        have h1 : its.find? (fun it => !Wk.itemFits (itEnv its) it) = none := by
         rw [HFI.out, List.drop_eq_nil_of_le (by have := HL3.out; omega)]; rfl
        have h2 : Wk.loadSpec s = (0, 0) := by rw [HLS2.out]; unfold modelSpec; rw [HNN.out, h1]
        exact ⟨some ⟨mb, 0, none⟩, by rw [h2]; rfl, by rw [h2]; simp⟩
       go_wp2_with fail; refine bodyPost_ret (v := .tuple #[.pointer (some ⟨mb, 0, none⟩), .int .i64 0, .int .i64 0]) (by simp [results, Tryz.results19, go_sem]) rfl ⟨⟨HE.out, leads_some (HRM.out _ HBr.out)⟩, HFN.out _ HBr.out⟩
end Go.Proofs.YtbkaghlklkdmkaaGreatDoor
namespace Go.Proofs.YtbkaghlklkdmkaaGreatDoor
open Go.RowKit
theorem speltIn_spec (l : List UInt8) : ∀ (xs : List (List UInt8)) (k : Nat), Wk.speltIn l xs k ≠ 1 → k ≤ Wk.speltIn l xs k ∧ Wk.speltIn l xs k < k + xs.length ∧ xs[Wk.speltIn l xs k - k]? = some l := by
 intro xs; induction xs with
 | nil => intro k h; exact absurd rfl h
 | cons x xs ih =>
  intro k h; unfold Wk.speltIn at h ⊢; by_cases hx : x = l
  ·rw [if_pos hx]; exact ⟨Nat.le_refl _, by simp, by simp [hx]⟩
  ·rw [if_neg hx] at h ⊢; obtain ⟨h1, h2, h3⟩ := ih (k + 1) h; refine ⟨by omega, by simp; omega, ?_⟩; rw [show Wk.speltIn l xs (k + 1) - k = (Wk.speltIn l xs (k + 1) - (k + 1)) + 1 by omega]; simpa using h3
theorem spelt_spec {l : List UInt8} (h : Wk.spelt l ≠ 1) : 6 ≤ Wk.spelt l ∧ Wk.spelt l ≤ 41 ∧ spellOf (Wk.spelt l) = l := by
 unfold Wk.spelt at h ⊢; obtain ⟨h1, h2, h3⟩ := speltIn_spec l _ _ h; have h2' : Wk.speltIn l Wk.spellings 6 < 6 + 36 := h2; refine ⟨h1, by omega, ?_⟩; unfold spellOf; rw [if_neg (by omega), List.getD_eq_getElem?_getD, h3]; rfl
def TokOK (t : Wk.Tok) : Prop := (6 ≤ t.kind → t.text.data.toList = spellOf t.kind) ∧ t.kind ≤ 41 ∧ (t.kind = 5 → t.text = quo (Wk.unq t.text))
theorem quo_unq {t : ByteArray} {m : List UInt8} (h : t.data.toList = 34 :: (m ++ [34])) : t = quo (Wk.unq t) := by
 have e : Wk.unq t = m := by
  unfold Wk.unq; rw [h]; simp
 rw [e]; unfold quo; rw [← h]
theorem wordTo_last (s : ByteArray) : ∀ f k n r, Wk.wordTo s f k n = some r → ∃ h : r - 1 < s.size, (s[r - 1]'h) = 34 := by
 intro f; induction f with
 | zero => intro k n r h; cases h
 | succ f ih =>
  intro k n r h; unfold Wk.wordTo at h; split at h
  ·rename_i hk; split at h
   ·rename_i h34; split at h
    ·cases h
    ·cases h; refine ⟨by simpa using hk, ?_⟩; have : (s[k]'hk) = 34 := UInt8.toNat_inj.1 h34; simpa using this
   ·split at h
    ·cases h
    ·exact ih _ _ _ h
  ·cases h
theorem extract_list (s : ByteArray) (i k : Nat) : (s.extract i k).data.toList = (s.data.toList.take k).drop i := by
 rw [ByteArray.data_extract, Array.toList_extract, List.extract_eq_take_drop]; rw [List.drop_take]
theorem get_list {s : ByteArray} {i : Nat} (h : i < s.size) : s.data.toList[i]? = some (s[i]'h) := by
 have := congrArg List.head? (Wk.drop_at s i h); rw [List.head?_drop] at this; simpa using this
theorem size_list (s : ByteArray) : s.data.toList.length = s.size := rfl
theorem cut_ends {l : List UInt8} {i r : Nat} {a b : UInt8} (h1 : i + 1 < r) (h2 : r ≤ l.length) (ha : l[i]? = some a) (hb : l[r - 1]? = some b) : (l.take r).drop i = a :: ((l.take (r - 1)).drop (i + 1) ++ [b]) := by
 obtain ⟨m, rfl⟩ : ∃ m, r = m + 1 := ⟨r - 1, by omega⟩
 simp only [Nat.add_sub_cancel] at hb ⊢; rw [List.take_add_one, hb, List.drop_append_of_le_length (by rw [List.length_take]; omega)]; have hlt : i < (l.take m).length := by rw [List.length_take]; omega
 rw [List.drop_eq_getElem_cons hlt]; have : (l.take m)[i]'hlt = a := by
  have h3 := List.getElem?_eq_getElem hlt; rw [List.getElem?_take, if_pos (by omega), ha] at h3; exact (Option.some.inj h3).symm
 rw [this]; rfl
theorem cut_one {l : List UInt8} {i : Nat} {a : UInt8} (ha : l[i]? = some a) : (l.take (i + 1)).drop i = [a] := by
 have hlt : i < l.length := (List.getElem?_eq_some_iff.1 ha).1; rw [List.take_add_one, ha, List.drop_append_of_le_length (by rw [List.length_take]; omega), List.drop_eq_nil_of_le (by rw [List.length_take]; omega)]; rfl
theorem mkTok_TokOK {s : ByteArray} {kd i k : Nat} (h : kd ≤ 4 ∨ (kd = 5 ∧ ∃ m, (s.extract i k).data.toList = 34 :: (m ++ [34])) ∨ (6 ≤ kd ∧ kd ≤ 41 ∧ (s.extract i k).data.toList = spellOf kd)) : TokOK (Wk.mkTok s kd i k) := by
 unfold TokOK Wk.mkTok; simp only; refine ⟨fun h6 => ?_, by omega, fun h5 => ?_⟩
 ·rw [if_neg (by omega)]; rcases h with h | h | h
  ·omega
  ·omega
  ·exact h.2.2
 ·rw [if_neg (by omega)]; rcases h with h | h | h
  ·omega
  ·obtain ⟨m, hm⟩ := h.2; exact quo_unq hm
  ·omega
theorem spelt_TokOK {s : ByteArray} {i k : Nat} {l : List UInt8} (hl : (s.extract i k).data.toList = l) : TokOK (Wk.mkTok s (Wk.spelt l) i k) := by
 refine mkTok_TokOK ?_; by_cases h : Wk.spelt l = 1
 ·left; omega
 ·right; right; obtain ⟨h1, h2, h3⟩ := spelt_spec h; exact ⟨h1, h2, by rw [h3]; exact hl⟩
theorem tokAt_TokOK (s : ByteArray) (i : Nat) : TokOK (Wk.tokAt s i) := by
 unfold Wk.tokAt; split
 ·rename_i h; split
  ·unfold Wk.letterKind; split
   ·exact mkTok_TokOK (Or.inl (by decide))
   ·split
    ·exact mkTok_TokOK (Or.inl (by decide))
    ·exact spelt_TokOK rfl
  ·split
   ·refine mkTok_TokOK (Or.inl ?_); unfold Wk.digitKind; repeat' split
    all_goals decide
   ·split
    ·rename_i h34; split
     ·rename_i k hk; obtain ⟨g1, g2⟩ := Wk.wordTo_gt s _ _ _ _ hk; obtain ⟨g3, g4⟩ := wordTo_last s _ _ _ _ hk; refine mkTok_TokOK (Or.inr (Or.inl ⟨rfl, ?_⟩)); rw [extract_list]; have hi : (s[i]'h) = 34 := UInt8.toNat_inj.1 h34; exact ⟨_, cut_ends g1 (by rw [size_list]; exact g2) (by rw [get_list h, hi]) (by rw [get_list g3, g4])⟩
     ·exact mkTok_TokOK (Or.inl (by decide))
    ·split
     ·rename_i h46; split
      ·rename_i h1; refine mkTok_TokOK (Or.inr (Or.inr ⟨by decide, by decide, ?_⟩)); have hi : (s[i]'h) = 46 := UInt8.toNat_inj.1 h46; have hlt : i + 1 < s.size := by
        rcases Nat.lt_or_ge (i + 1) s.size with h' | h'
        ·exact h'
        ·rw [getElem?_neg s (i + 1) (by omega)] at h1; cases h1
       have h2 : (s[i + 1]'hlt) = 46 := by
        rw [getElem?_pos s (i + 1) hlt] at h1; exact Option.some.inj h1
       rw [extract_list, cut_ends (by omega) (by rw [size_list]; omega) (by rw [get_list h, hi]) (by rw [show i + 2 - 1 = i + 1 by omega, get_list hlt, h2])]; rw [show i + 2 - 1 = i + 1 by omega, List.drop_eq_nil_of_le (by rw [List.length_take]; omega)]; rfl
      ·exact mkTok_TokOK (Or.inl (by decide))
     ·refine spelt_TokOK ?_; rw [extract_list]; exact cut_one (get_list h)
 ·unfold TokOK; simp only; exact ⟨fun h => by omega, by omega, fun h => by omega⟩
theorem tokens_TokOK (s : ByteArray) : ∀ k, k < (Wk.tokens s).length → TokOK (Wk.tokK (Wk.tokens s) k) := by
 have hF := Wk.tokens_follow s; intro k; cases k with
 | zero => intro _; rw [hF.first]; exact tokAt_TokOK _ _
 | succ k => intro hk; rw [hF.next k hk]; exact tokAt_TokOK _ _
theorem tokens_spelt (s : ByteArray) : Spelt (Wk.tokens s) := ⟨fun k hk => (tokens_TokOK s k hk).1, fun k hk => (tokens_TokOK s k hk).2.1⟩
theorem tokens_quoted (s : ByteArray) : Quoted (Wk.tokens s) := fun k hk => (tokens_TokOK s k hk).2.2
theorem r_Load {w : World} (s : ByteArray) (hG : Gl w) (hz : s.size < 2 ^ 62) :
  Calls Tryz.prog 19 #[.string s] w fun e w' => (loadEnd s e ∧ leads (RM (Wk.tokens s) (Wk.pModel (Wk.tokens s)).1.k w') e) ∧ Below w.heap.size w w' := r_load (tokens_spelt s) (tokens_quoted s) hG hz
end Go.Proofs.YtbkaghlklkdmkaaGreatDoor
namespace Go.Proofs.YtbkaghlklkdmkaaGreatDoor
open Go.RowKit
attribute [local go_sem ↓] Go.wp_at_zero Go.wp_at_succ
def ppAt (T : List Wk.Tok) (q : Wk.St) : Nat := if q.bad.isSome then T.length - 1 else q.k
def ppBlock (T : List Wk.Tok) (q : Wk.St) (nest : Int) (tk iv : Value) (ms : Bool) (ma : Int) : Obj :=
 .cells #[tk, .int .i64 (ppAt T q : Int), .int .i64 nest, iv, .bool q.bad.isSome, .int .i64 ((q.bad.getD 0 : Nat) : Int), .bool ms, .int .i64 ma] 148 (0, 0)
structure PTk (T : List Wk.Tok) (w : World) (tg tc : Nat) : Prop where
 shut : Wk.Shut T
 pos : 0 < T.length
 cap : T.length ≤ tc ∧ T.length ≤ 1002
 cells : ∀ k, k < T.length → w.cell? ⟨tg, k * 3, none⟩ = some (.int .i64 ((Wk.tokK T k).kind : Int)) ∧ w.cell? ⟨tg, k * 3 + 1, none⟩ = some (.int .i64 ((Wk.tokK T k).place : Int)) ∧ w.cell? ⟨tg, k * 3 + 2, none⟩ = some (.string (Wk.tokK T k).text)
structure PP (T : List Wk.Tok) (w : World) (b tg tc : Nat) (q : Wk.St) (nest : Int) (iv : Value) (ms : Bool) (ma : Int) : Prop where
 toks : PTk T w tg tc
 box : w.heap[b]? = some (ppBlock T q nest (.slice (some ⟨tg, 0, none⟩) T.length tc) iv ms ma)
 ok : q.bad = none → q.k < T.length
 ne : tg ≠ b
theorem PP.lt {T : List Wk.Tok} {w : World} {b tg tc : Nat} {q : Wk.St} {nest : Int} {iv : Value} {ms : Bool} {ma : Int} (h : PP T w b tg tc q nest iv ms ma) : ppAt T q < T.length := by
 have := h.toks.pos; unfold ppAt; split
 ·omega
 ·rename_i hb; exact h.ok (by cases hx : q.bad with | none => rfl | some p => rw [hx] at hb; exact absurd rfl hb)
theorem p_next {T : List Wk.Tok} {w : World} {b tg tc : Nat} {q : Wk.St} {nest : Int} {iv : Value} {ms : Bool} {ma : Int} (h : PP T w b tg tc q nest iv ms ma) :
  Calls Tryz.prog 108 #[.pointer (some ⟨b, 0, none⟩)] w fun e w' => e = .returned (.int .i64 ((Wk.tokK T (ppAt T q)).kind : Int)) ∧ w' = w.drew := by
 have hlt := h.lt; have c0 := bc 0 h.box rfl; have c1 := bc 1 h.box rfl; have t0 := (h.toks.cells _ hlt).1; have hc := h.toks.cap; have hS : w.drew.cell? ⟨b, 0, none⟩ = some (.slice (some ⟨tg, 0, none⟩) T.length tc) ∧ w.drew.cell? ⟨b, 1, none⟩ = some (.int .i64 (ppAt T q : Int)) ∧ w.drew.cell? ⟨tg, ppAt T q * 3, none⟩ = some (.int .i64 ((Wk.tokK T (ppAt T q)).kind : Int)) := ⟨c0, c1, t0⟩
 have HS : Hid _ := hS; have h0 : (0 : Int) ≤ (ppAt T q : Int) := by omega
 have h1 : (ppAt T q : Int) < (T.length : Int) := by omega
 clear h c0 c1 t0 hS; generalize hk : (Wk.tokK T (ppAt T q)).kind = kd at *
 clear hk; generalize ppAt T q = at_ at *
 go_enter Tryz.func108, Tryz.ntmps108; go_upto_region 1 with fail; refine wp_region_ph (fun w' => w'.cell? ⟨b, 0, none⟩ = some (.slice (some ⟨tg, 0, none⟩) T.length tc) ∧ w'.cell? ⟨b, 1, none⟩ = some (.int .i64 (at_ : Int)) ∧ w'.cell? ⟨tg, at_ * 3, none⟩ = some (.int .i64 (kd : Int))) 12 12 rfl (by kernel_rfl) HS.out (fun hHeld => ?_); clear hHeld; refine PhS.t 0 3 HS.out ?_; refine PhS.t 1 4 HS.out ?_; refine PhS.t 2 5 HS.out ?_; refine PhS.t 3 6 HS.out ?_; refine PhS.t 4 7 HS.out ?_; refine PhS.t 5 8 HS.out ?_; refine PhS.t 6 9 HS.out ?_; refine PhS.t 7 10 HS.out ?_; refine PhS.t 8 11 HS.out ?_; refine PhS.t 9 12 HS.out ?_; refine PhS.t 10 13 HS.out ?_; refine PhS.t 11 2 HS.out ?_; refine PhS.done (by kernel_rfl) ?_ _; go_wp2_with fail; go_ret; exact ⟨rfl, rfl⟩
theorem PTk.of {T : List Wk.Tok} {w w' : World} {tg tc : Nat} (h : PTk T w tg tc) (hb : w'.heap[tg]? = w.heap[tg]?) : PTk T w' tg tc := by
 have hc : ∀ o, w'.cell? ⟨tg, o, none⟩ = w.cell? ⟨tg, o, none⟩ := fun o => World.cell?_of_block (w := w) hb
 exact ⟨h.shut, h.pos, h.cap, fun k hk => by rw [hc, hc, hc]; exact h.cells k hk⟩
theorem ppAt_ok {T : List Wk.Tok} {q : Wk.St} (h : q.bad = none) : ppAt T q = q.k := by unfold ppAt; rw [h]; rfl
theorem isK_at {T : List Wk.Tok} (hT : Wk.Shut T) {q : Wk.St} (kd : Nat) (h2 : 2 ≤ kd) : q.isK T kd = ((Wk.tokK T (ppAt T q)).kind == kd) := by
 cases hb : q.bad with
 | none => rw [ppAt_ok hb]; unfold Wk.St.isK; rw [hb]; rfl
 | some p =>
  have e : ppAt T q = T.length - 1 := by unfold ppAt; rw [hb]; rfl
  have := hT.last (T.length - 1) (by have := hT.pos; omega); rw [e]; have h1 : ((Wk.tokK T (T.length - 1)).kind == kd) = false := by rw [beq_eq_false_iff_ne]; omega
  rw [h1]; unfold Wk.St.isK; rw [hb]; rfl
theorem p_has {T : List Wk.Tok} {w : World} {b tg tc : Nat} {q : Wk.St} {nest : Int} {iv : Value} {ms : Bool} {ma : Int} (h : PP T w b tg tc q nest iv ms ma) (kd : Nat) (h2 : 2 ≤ kd) :
  Calls Tryz.prog 138 #[.pointer (some ⟨b, 0, none⟩), .int .i64 kd] w fun e w' => e = .returned (.bool (q.isK T kd)) ∧ PP T w' b tg tc (if q.isK T kd then q.adv else q) nest iv ms ma ∧ Fr (fun k => k = b) w w' := by
 have HH : Hid _ := h; have HIK : Hid _ := isK_at h.toks.shut (q := q) kd h2; have c1 := bc 1 h.box rfl; have cf := blk_free h.box; have hlt := h.lt; have hcp := h.toks.cap.2; clear h; cases hK : q.isK T kd with
 | false =>
  have hne : ((Wk.tokK T (ppAt T q)).kind == kd) = false := by rw [← HIK.out]; exact hK
  have d1 : (((Wk.tokK T (ppAt T q)).kind : Int) != (kd : Int)) = true := by
   rw [beq_eq_false_iff_ne] at hne; rw [bne_iff_ne]; omega
  have HE : Hid (PP T w.drew b tg tc q nest iv ms ma) := ⟨HH.out.toks.of rfl, HH.out.box, HH.out.ok, HH.out.ne⟩
  clear hne hK; go_enter Tryz.func138, Tryz.ntmps138; go_wp2_with fail; refine (p_next HH.out).mono ?_; rintro e w1 ⟨rfl, rfl⟩; generalize (Wk.tokK T (ppAt T q)).kind = k1 at *
  go_wp2_with fail; go_ret; exact ⟨rfl, HE.out, ⟨rfl, rfl, rfl, Nat.le_refl _, fun _ _ _ => rfl⟩⟩
 | true =>
  have hk := Wk.isK_iff.1 hK; have he : (Wk.tokK T (ppAt T q)).kind = kd := by rw [ppAt_ok hk.1]; exact hk.2
  have HE : Hid (PP T (w.drew.setCell ⟨b, 1, none⟩ (.int .i64 ((ppAt T q : Int) + 1))) b tg tc q.adv nest iv ms ma) := by
   have hb : w.drew.heap[b]? = some (ppBlock T q nest (.slice (some ⟨tg, 0, none⟩) T.length tc) iv ms ma) := HH.out.box; have ha : q.adv = ⟨q.k + 1, none⟩ := by unfold Wk.St.adv; rw [hk.1]; rfl
   refine ⟨HH.out.toks.of (blk_other _ HH.out.ne), ?_, fun _ => Wk.ok_adv HH.out.toks.shut (HH.out.ok hk.1) (by omega), HH.out.ne⟩; unfold ppBlock at hb; rw [blk_set _ hb, ppAt_ok hk.1, ha]; unfold ppBlock; rw [hk.1]; simp [ppAt]
  clear hk hK; go_enter Tryz.func138, Tryz.ntmps138; go_wp2_with fail; refine (p_next HH.out).mono ?_; rintro e w1 ⟨rfl, rfl⟩; rw [he]; generalize ppAt T q = at_ at *
  have c1 : w.drew.cell? ⟨b, 1, none⟩ = some (.int .i64 (at_ : Int)) := c1; have cf : ∀ o, w.drew.frozen? ⟨b, o, none⟩ = false := cf; go_wp2_with fail; go_ret; exact ⟨rfl, HE.out, ⟨rfl, rfl, rfl, Nat.le_of_eq (by simp [World.setCell, World.drew]), fun k _ hk => blk_other (w := w.drew) _ hk⟩⟩
theorem p_fail {T : List Wk.Tok} {w : World} {b tg tc : Nat} {q : Wk.St} {nest : Int} {iv : Value} {ms : Bool} {ma : Int} (h : PP T w b tg tc q nest iv ms ma) :
  Calls Tryz.prog 109 #[.pointer (some ⟨b, 0, none⟩)] w fun e w' => e = .returned (.tuple #[]) ∧ PP T w' b tg tc (q.fail T) nest iv ms ma ∧ Fr (fun k => k = b) w w' := by
 have HH : Hid _ := h; have c4 := bc 4 h.box rfl; cases hb : q.bad with
 | some p =>
  have hf : q.fail T = q := Wk.fail_bad T (by rw [hb]; rfl); rw [hb] at c4; rw [hf]; clear hf hb h; go_enter Tryz.func109, Tryz.ntmps109; go_wp2_with fail; refine bodyPost_ret (v := .tuple #[]) (by simp [results, Tryz.results109]) rfl ⟨rfl, HH.out, Fr.refl _ _⟩
 | none =>
  rw [hb] at c4; have hlt := h.lt; have hq : ppAt T q = q.k := ppAt_ok hb; have c0 := bc 0 h.box rfl; have c1 := bc 1 h.box rfl; have c5 := bc 5 h.box rfl; have cf := blk_free h.box; have t1 := (h.toks.cells _ hlt).2.1; have hc := h.toks.cap; have h0 : (0 : Int) ≤ (ppAt T q : Int) := by omega
  have h1 : (ppAt T q : Int) < (T.length : Int) := by omega
  have hp := h.toks.pos; have HPL : Hid (q.fail T = ⟨q.k, some (Wk.tokK T (ppAt T q)).place⟩) := by
   show _ = _; unfold Wk.St.fail; rw [hb, hq]; rfl
  have HB : Hid (w.heap[b]? = some (ppBlock T q nest (.slice (some ⟨tg, 0, none⟩) T.length tc) iv ms ma)) := h.box; have HBN : Hid _ := hb; have HQ : Hid _ := hq; clear h hb hq; generalize hpl : (Wk.tokK T (ppAt T q)).place = pl at *
  clear hpl; generalize ppAt T q = at_ at *
  have hS : w.drew.cell? ⟨b, 0, none⟩ = some (.slice (some ⟨tg, 0, none⟩) T.length tc) ∧ w.drew.cell? ⟨b, 1, none⟩ = some (.int .i64 (at_ : Int)) ∧ w.drew.cell? ⟨tg, at_ * 3 + 1, none⟩ = some (.int .i64 (pl : Int)) := ⟨c0, c1, t1⟩
  have HS : Hid _ := hS; clear hS; have HSS : Hid (∀ W : World, (∀ k, k ≠ b → W.heap[k]? = w.heap[k]?) → W.cell? ⟨b, 0, none⟩ = w.cell? ⟨b, 0, none⟩ → W.cell? ⟨b, 1, none⟩ = w.cell? ⟨b, 1, none⟩ → W.cell? ⟨b, 0, none⟩ = some (.slice (some ⟨tg, 0, none⟩) T.length tc) ∧ W.cell? ⟨b, 1, none⟩ = some (.int .i64 (at_ : Int)) ∧ W.cell? ⟨tg, at_ * 3 + 1, none⟩ = some (.int .i64 (pl : Int))) := fun W h3 h4 h5 => ⟨h4.trans c0, h5.trans c1, (World.cell?_of_block (w := w) (h3 tg HH.out.ne)).trans t1⟩
  have b1 := blk_set (o := 4) (.bool true) (show w.heap[b]? = some (.cells #[.slice (some ⟨tg, 0, none⟩) T.length tc, .int .i64 (ppAt T q : Int), .int .i64 nest, iv, .bool q.bad.isSome, .int .i64 ((q.bad.getD 0 : Nat) : Int), .bool ms, .int .i64 ma] 148 (0, 0)) from HB.out); have b2 := blk_set (o := 5) (.int .i64 (pl : Int)) b1; have HS15 : Hid ((w.setCell ⟨b, 4, none⟩ (.bool true)).drew.cell? ⟨b, 0, none⟩ = some (.slice (some ⟨tg, 0, none⟩) T.length tc) ∧ (w.setCell ⟨b, 4, none⟩ (.bool true)).drew.cell? ⟨b, 1, none⟩ = some (.int .i64 (at_ : Int)) ∧ (w.setCell ⟨b, 4, none⟩ (.bool true)).drew.cell? ⟨tg, at_ * 3 + 1, none⟩ = some (.int .i64 (pl : Int))) := HSS.out (w.setCell ⟨b, 4, none⟩ (.bool true)) (fun k hk => blk_other _ hk) ((blk_cell b1 rfl).trans (blk_cell HB.out rfl).symm) ((blk_cell b1 rfl).trans (blk_cell HB.out rfl).symm); have HS18 : Hid (((w.setCell ⟨b, 4, none⟩ (.bool true)).setCell ⟨b, 5, none⟩ (.int .i64 (pl : Int))).drew.cell? ⟨b, 0, none⟩ = some (.slice (some ⟨tg, 0, none⟩) T.length tc) ∧ ((w.setCell ⟨b, 4, none⟩ (.bool true)).setCell ⟨b, 5, none⟩ (.int .i64 (pl : Int))).drew.cell? ⟨b, 1, none⟩ = some (.int .i64 (at_ : Int)) ∧ ((w.setCell ⟨b, 4, none⟩ (.bool true)).setCell ⟨b, 5, none⟩ (.int .i64 (pl : Int))).drew.cell? ⟨tg, at_ * 3 + 1, none⟩ = some (.int .i64 (pl : Int))) := HSS.out ((w.setCell ⟨b, 4, none⟩ (.bool true)).setCell ⟨b, 5, none⟩ (.int .i64 (pl : Int))) (fun k hk => (blk_other _ hk).trans (blk_other _ hk)) ((blk_cell b2 rfl).trans (blk_cell HB.out rfl).symm) ((blk_cell b2 rfl).trans (blk_cell HB.out rfl).symm); have HB2 : Hid _ := b2; clear b1 b2 HSS; go_enter Tryz.func109, Tryz.ntmps109; go_upto_region 1 with fail; refine wp_region_ph (fun w' => w'.cell? ⟨b, 0, none⟩ = some (.slice (some ⟨tg, 0, none⟩) T.length tc) ∧ w'.cell? ⟨b, 1, none⟩ = some (.int .i64 (at_ : Int)) ∧ w'.cell? ⟨tg, at_ * 3 + 1, none⟩ = some (.int .i64 (pl : Int))) 19 19 rfl (by kernel_rfl) HS.out (fun hHeld => ?_); clear hHeld; refine PhS.t 0 6 HS.out ?_; refine PhS.t 1 7 HS.out ?_; refine PhS.t 2 8 HS.out ?_; refine PhS.t 3 9 HS.out ?_; refine PhS.t 4 10 HS.out ?_; refine PhS.t 5 11 HS.out ?_; refine PhS.t 6 12 HS.out ?_; refine PhS.t 7 13 HS.out ?_; refine PhS.t 8 14 HS.out ?_; refine PhS.t 9 15 HS.out ?_; refine PhS.t 10 16 HS.out ?_; refine PhS.t 11 17 HS.out ?_; refine PhS.t 12 18 HS.out ?_; refine PhS.t 13 19 HS.out ?_; refine PhS.t 14 20 HS.out ?_; refine PhS.on 15 (fun K hK => ?_); go_simp; refine hK.out _ _ (fun _ => HS15.out) ?_; clear hK K; refine PhS.t 16 21 HS15.out ?_; refine PhS.t 17 22 HS15.out ?_; refine PhS.on 18 (fun K hK => ?_); go_simp; refine hK.out _ _ (fun _ => HS18.out) ?_; clear hK K; refine PhS.done (by kernel_rfl) ?_ _; have HB3 : Hid (((w.setCell ⟨b, 4, none⟩ (.bool true)).setCell ⟨b, 5, none⟩ (.int .i64 (pl : Int))).drew.heap[b]? = _) := HB2.out; have e0 := HS18.out.1; have e1 : ((w.setCell ⟨b, 4, none⟩ (.bool true)).setCell ⟨b, 5, none⟩ (.int .i64 (pl : Int))).drew.cell? ⟨b, 1, none⟩ = some (.int .i64 (at_ : Int)) := HS18.out.2.1; have ef : ∀ o, ((w.setCell ⟨b, 4, none⟩ (.bool true)).setCell ⟨b, 5, none⟩ (.int .i64 (pl : Int))).drew.frozen? ⟨b, o, none⟩ = false := blk_free HB3.out; have HW : Hid (∀ k, k ≠ b → ((w.setCell ⟨b, 4, none⟩ (.bool true)).setCell ⟨b, 5, none⟩ (.int .i64 (pl : Int))).drew.heap[k]? = w.heap[k]?) := fun k hk => (blk_other (w := w.setCell ⟨b, 4, none⟩ (.bool true)) _ hk).trans (blk_other _ hk)
  have HZ : Hid (w.heap.size ≤ ((w.setCell ⟨b, 4, none⟩ (.bool true)).setCell ⟨b, 5, none⟩ (.int .i64 (pl : Int))).drew.heap.size) := Nat.le_of_eq (by simp [World.setCell, World.drew]); have HO3 : Hid (((w.setCell ⟨b, 4, none⟩ (.bool true)).setCell ⟨b, 5, none⟩ (.int .i64 (pl : Int))).drew.os = w.os ∧ ((w.setCell ⟨b, 4, none⟩ (.bool true)).setCell ⟨b, 5, none⟩ (.int .i64 (pl : Int))).drew.tape = w.tape ∧ ((w.setCell ⟨b, 4, none⟩ (.bool true)).setCell ⟨b, 5, none⟩ (.int .i64 (pl : Int))).drew.output = w.output) := ⟨rfl, rfl, rfl⟩
  clear HS HS15 HS18 HB2; generalize ((w.setCell ⟨b, 4, none⟩ (.bool true)).setCell ⟨b, 5, none⟩ (.int .i64 (pl : Int))).drew = W at *
  go_wp2_with fail; go_end0
  rw [HPL.out]; refine ⟨rfl, ⟨HH.out.toks.of ((blk_other _ HH.out.ne).trans (HW.out tg HH.out.ne)), ?_, (fun e => by cases e), HH.out.ne⟩, ⟨HO3.out.1, HO3.out.2.1, HO3.out.2.2, ?_, fun k _ hk => (blk_other _ hk).trans (HW.out k hk)⟩⟩
  ·rw [blk_set _ HB3.out]; unfold ppBlock ppAt; simp; omega
  ·have := HZ.out; simp [World.setCell]; omega
def wantEnd (T : List Wk.Tok) (q : Wk.St) (kd : Nat) (e : Ending) : Prop := e = .returned (if q.isK T kd then .agg #[.int .i64 ((Wk.tokK T q.k).kind : Int), .int .i64 ((Wk.tokK T q.k).place : Int), .string (Wk.tokK T q.k).text] else .agg #[.int .i64 0, .int .i64 0, .string ⟨#[]⟩])
def ptok0 : Value := .agg #[.int .i64 0, .int .i64 0, .string ⟨#[]⟩]
theorem wrap_plain {p : Nat} (h : p ≤ 2000) : IntKind.i64.wrap (p : Int) = (p : Int) := by
 rw [Go.IntWalk.i64_in _ (by omega)]
theorem PP.below {T : List Wk.Tok} {w w' : World} {b tg tc : Nat} {q : Wk.St} {nest : Int} {iv : Value} {ms : Bool} {ma : Int} (h : PP T w b tg tc q nest iv ms ma) (hb : Below w.heap.size w w') : PP T w' b tg tc q nest iv ms ma :=
 ⟨h.toks.of (hb.block _ (cell_lt (h.toks.cells 0 h.toks.pos).1)), (hb.block _ (lt_of_block h.box)).trans h.box, h.ok, h.ne⟩
theorem PP.set3 {T : List Wk.Tok} {w : World} {b tg tc : Nat} {q : Wk.St} {nest : Int} {iv : Value} {ms : Bool} {ma : Int} (h : PP T w b tg tc q nest iv ms ma) {k : Nat} (h1 : b ≠ k) (h2 : tg ≠ k) (v0 v1 v2 : Value) : PP T (((w.setCell ⟨k, 0, none⟩ v0).setCell ⟨k, 1, none⟩ v1).setCell ⟨k, 2, none⟩ v2) b tg tc q nest iv ms ma :=
 ⟨h.toks.of (by rw [blk_other _ h2, blk_other _ h2, blk_other _ h2]), by rw [blk_other _ h1, blk_other _ h1, blk_other _ h1]; exact h.box, h.ok, h.ne⟩
theorem Fr.want3 {b n : Nat} {w w1 w2 : World} (h : Fr (fun k => k = b) w1 w2) (hb : Below w.heap.size w w1) (hn : w.heap.size ≤ n) (v0 v1 v2 : Value) : Fr (fun k => k = b) w (((w2.setCell ⟨n, 0, none⟩ v0).setCell ⟨n, 1, none⟩ v1).setCell ⟨n, 2, none⟩ v2) := by
 refine ⟨h.os.trans hb.os, h.tape.trans hb.tape, h.output.trans hb.output, ?_, fun k hk hm => ?_⟩
 ·have := h.size; have := hb.size; simp [World.setCell]; omega
 ·rw [blk_other _ (by omega), blk_other _ (by omega), blk_other _ (by omega)]; exact (h.block k (by have := hb.size; omega) hm).trans (hb.block k hk)
theorem p_want {T : List Wk.Tok} {w : World} {b tg tc : Nat} {q : Wk.St} {nest : Int} {iv : Value} {ms : Bool} {ma : Int} (h : PP T w b tg tc q nest iv ms ma) (kd : Nat) (h2 : 2 ≤ kd) :
  Calls Tryz.prog 140 #[.pointer (some ⟨b, 0, none⟩), .int .i64 kd] w fun e w' => wantEnd T q kd e ∧ PP T w' b tg tc (q.want T kd) nest iv ms ma ∧ Fr (fun k => k = b) w w' := by
 have HH : Hid _ := h; have hbl := lt_of_block h.box; have htl := cell_lt (h.toks.cells 0 h.toks.pos).1; clear h; have HBA : Hid (Below w.heap.size w (w.alloc (.cells #[.int .i64 0, .int .i64 0, .string ⟨#[]⟩] 134))) := (Below.refl _ _).alloc (Nat.le_refl _) _; have hA : PP T (w.alloc (.cells #[.int .i64 0, .int .i64 0, .string ⟨#[]⟩] 134)) b tg tc q nest iv ms ma := HH.out.below ((Below.refl _ _).alloc (Nat.le_refl _) _); have HA : Hid _ := hA; clear hA; go_enter Tryz.func140, Tryz.ntmps140; go_wp2_with fail; refine (p_has HA.out kd h2).mono ?_; rintro e w2 ⟨rfl, hP2, hF2⟩; have HP2 : Hid _ := hP2; have HF2 : Hid _ := hF2; have u2 : w2.heap[w.heap.size]? = some (.cells #[.int .i64 0, .int .i64 0, .string ⟨#[]⟩] 134 (0, 0)) := (hF2.block _ (by rw [sz_alloc]; omega) (by omega)).trans (heap_alloc_new _ _); have U2 : Hid _ := u2; clear hP2 hF2 u2; cases hK : q.isK T kd with
 | false =>
  rw [hK] at HP2; have HW : Hid (q.want T kd = q.fail T) := by
   show _ = _; unfold Wk.St.want; rw [hK]; rfl
  have HIK : Hid (q.isK T kd = false) := hK; clear hK; go_wp2_with fail; have hP2 : PP T w2 b tg tc q nest iv ms ma := HP2.out; refine (p_fail hP2).mono ?_; rintro e w3 ⟨rfl, hP3, hF3⟩; have u3 : w3.heap[w.heap.size]? = some (.cells #[.int .i64 0, .int .i64 0, .string ⟨#[]⟩] 134 (0, 0)) := (hF3.block _ (lt_of_block U2.out) (by omega)).trans U2.out; have c0 := bc 0 u3 rfl; have c1 := bc 1 u3 rfl; have c2 := bc 2 u3 rfl; have cf := blk_free u3; have HP3 : Hid _ := hP3; have HF3 : Hid _ := hF3; clear hP3 hF3 u3 hP2; go_wp2_with fail; refine bodyPost_ret (v := ptok0) (by simp [results, Tryz.results140, go_sem, ptok0, c0, c1, c2]) rfl ⟨?_, ?_, ?_⟩
  ·show _ = _; rw [HIK.out]; rfl
  ·rw [HW.out]; exact HP3.out.set3 (by omega) (by have : tg < w.heap.size := htl; omega) _ _ _
  ·exact (HF2.out.trans HF3.out).want3 HBA.out (Nat.le_refl _) _ _ _
 | true =>
  rw [hK] at HP2; have hk := Wk.isK_iff.1 hK; have ha : q.adv = ⟨q.k + 1, none⟩ := by unfold Wk.St.adv; rw [hk.1]; rfl
  have HW : Hid (q.want T kd = q.adv) := by
   show _ = _; unfold Wk.St.want; rw [hK]; rfl
  have HIK : Hid (q.isK T kd = true) := hK; have HKK : Hid ((Wk.tokK T q.k).kind = kd) := hk.2; have hP2 : PP T w2 b tg tc q.adv nest iv ms ma := HP2.out; have hkl := HH.out.ok hk.1; have d0 := bc 0 hP2.box rfl; have d1 : w2.cell? ⟨b, 1, none⟩ = some (.int .i64 ((q.k : Int) + 1)) := by
   have := bc 1 hP2.box rfl; rw [this, ha]; simp [ppAt]
  obtain ⟨t0, t1, t2⟩ := hP2.toks.cells q.k hkl; rw [hk.2] at t0; have hcp := hP2.toks.cap; have c0 := bc 0 U2.out rfl; have c1 := bc 1 U2.out rfl; have c2 := bc 2 U2.out rfl; have cf := blk_free U2.out; have HP : Hid (PP T w2 b tg tc q.adv nest iv ms ma) := hP2; have HE : Hid (wantEnd T q kd (.returned (.agg #[.int .i64 (kd : Int), .int .i64 ((Wk.tokK T q.k).place : Int), .string (Wk.tokK T q.k).text]))) := by
   show _ = _; rw [hK, if_pos rfl, hk.2]
  clear hK hk ha hP2 HP2; generalize (Wk.tokK T q.k).place = pl at *
  generalize (Wk.tokK T q.k).text = tx at *
  generalize q.k = k at *
  have hS : w2.drew.cell? ⟨b, 0, none⟩ = some (.slice (some ⟨tg, 0, none⟩) T.length tc) ∧ w2.drew.cell? ⟨b, 1, none⟩ = some (.int .i64 ((k : Int) + 1)) ∧ w2.drew.cell? ⟨tg, k * 3, none⟩ = some (.int .i64 (kd : Int)) ∧ w2.drew.cell? ⟨tg, k * 3 + 1, none⟩ = some (.int .i64 (pl : Int)) ∧ w2.drew.cell? ⟨tg, k * 3 + 2, none⟩ = some (.string tx) := ⟨d0, d1, t0, t1, t2⟩
  have HS : Hid _ := hS; have hk0 : (0 : Int) ≤ (k : Int) := by omega
  have hk1 : (k : Int) < (T.length : Int) := by omega
  clear hS d0 d1 t0 t1 t2; go_upto_region 4 with fail; have hwk : IntKind.i64.wrap (k : Int) = (k : Int) := wrap_plain (by omega); refine wp_region_ph (fun w' => w'.cell? ⟨b, 0, none⟩ = some (.slice (some ⟨tg, 0, none⟩) T.length tc) ∧ w'.cell? ⟨b, 1, none⟩ = some (.int .i64 ((k : Int) + 1)) ∧ w'.cell? ⟨tg, k * 3, none⟩ = some (.int .i64 (kd : Int)) ∧ w'.cell? ⟨tg, k * 3 + 1, none⟩ = some (.int .i64 (pl : Int)) ∧ w'.cell? ⟨tg, k * 3 + 2, none⟩ = some (.string tx)) 11 12 rfl (by kernel_rfl) HS.out (fun hHeld => ?_); clear hHeld; refine PhS.t 0 12 HS.out ?_; refine PhS.t 1 13 HS.out ?_; refine PhS.t 2 14 HS.out ?_; refine PhS.t 3 15 HS.out ?_; refine PhS.t 4 16 HS.out ?_; refine PhS.t 5 17 HS.out ?_; refine PhS.t 6 18 HS.out ?_; refine PhS.t 7 19 HS.out ?_; refine PhS.t 8 20 HS.out ?_; refine PhS.t 9 21 HS.out ?_; refine PhS.t 10 22 HS.out ?_; refine PhS.on 11 (fun K hK => ?_); go_simp; refine hK.out _ _ (fun h => absurd h (by decide)) ?_; clear hK K; refine PhS.done (by kernel_rfl) ?_ _; go_wp2_with fail; refine bodyPost_ret (v := .agg #[.int .i64 (kd : Int), .int .i64 (pl : Int), .string tx]) (by simp [results, Tryz.results140, go_sem, c0, c1, c2]) rfl ⟨HE.out, ?_, ?_⟩
  ·rw [HW.out]; exact (HP.out.set3 (k := w.heap.size) (by omega) (by have : tg < w.heap.size := htl; omega) (.int .i64 (kd : Int)) (.int .i64 (pl : Int)) (.string tx)).below (Below.refl _ _).drew
  ·have := HF2.out.want3 HBA.out (Nat.le_refl _) (.int .i64 (kd : Int)) (.int .i64 (pl : Int)) (.string tx); exact ⟨this.os, this.tape, this.output, this.size, this.block⟩
end Go.Proofs.YtbkaghlklkdmkaaGreatDoor
