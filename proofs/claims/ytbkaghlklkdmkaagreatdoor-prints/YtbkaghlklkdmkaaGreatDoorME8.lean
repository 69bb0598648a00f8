/-
  The parser of the document's answer: a type.
-/
import Derived.Test.YtbkaghlklkdmkaaGreatDoorME7
import Derived.Deep.AppendLies
set_option maxRecDepth 100000
set_option maxHeartbeats 8000000
namespace Go.Proofs.YtbkaghlklkdmkaaGreatDoor
open Go.RowKit
def Keep9 (w w' : World) : Prop := ∀ (k : Nat) (cs : Array Value) (fr : Nat × Nat), w.heap[k]? = some (.cells cs 9 fr) → w'.heap[k]? = some (.cells cs 9 fr)
theorem Keep9.refl (w : World) : Keep9 w w := fun _ _ _ h => h
theorem Keep9.trans {a b c : World} (h : Keep9 a b) (k : Keep9 b c) : Keep9 a c := fun i cs fr h1 => k i cs fr (h i cs fr h1)
theorem Keep9.below {w w' : World} (h : Below w.heap.size w w') : Keep9 w w' := fun k _ _ h3 => (h.block k (lt_of_block h3)).trans h3
theorem Keep9.frT {B : Nat} {ts : List TypeId} {w w' : World} (h : FrT B ts w w') (ht : 9 ∉ ts) : Keep9 w w' := fun k cs fr h3 => h.kept k _ h3 (by simp only [inTs]; exact ht)
theorem Keep9.set {w : World} {b o : Nat} {cs : Array Value} {t : TypeId} {fr : Nat × Nat} (hb : w.heap[b]? = some (.cells cs t fr)) (ht : t ≠ 9) (v : Value) : Keep9 w (w.setCell ⟨b, o, none⟩ v) := by
 intro k cs' fr' h; rw [blk_other]
 ·exact h
 ·intro e; rw [e, hb] at h; simp at h; exact ht h.2.1
def TyK (w : World) (v : Value) (t : Wk.Ty) : Prop := ∀ w', Keep9 w w' → TyAt w' v t
theorem TyK.keep {w w' : World} {v : Value} {t : Wk.Ty} (h : TyK w v t) (k : Keep9 w w') : TyK w' v t := fun w'' h2 => h w'' (k.trans h2)
theorem TyK.at {w : World} {v : Value} {t : Wk.Ty} (h : TyK w v t) : TyAt w v t := h w (Keep9.refl w)
theorem tyK_plain (w : World) {n : Nat} (h : n ≤ 2) : TyK w (.agg #[.int .u8 (rk n), .slice none 0 0]) (n, []) := fun w' _ => tyAt_plain w' h
theorem tyK_words {w : World} {base : Nat} {v : Value} {ws : List (List UInt8)} (h : w.ownsRow base 9 1 v ws.length (ws.map (fun x => Value.string (quo x)))) (h6 : ws.length ≤ 6) : TyK w (.agg #[.int .u8 (rk 3), v]) (3, ws) := by
 intro w' hk; refine ⟨Nat.le_refl _, h6, fun e => absurd rfl e, v, rfl, ?_⟩; rcases h.2 with ⟨rfl, h0⟩ | ⟨g, cap, cur, rfl, _, hgg, hc, hm, hs, ht⟩
 ·have : ws = [] := List.length_eq_zero_iff.1 h0; subst this; exact Or.inl ⟨rfl, none, 0, rfl⟩
 ·refine Or.inr ⟨g, 0, cap, by simp, fun j hj => ?_⟩; have hb := hk g cur (0, 0) hgg; rw [cell_of_row w' g _ cur 9 (0, 0) hb]; have hj' : j < ws.length := by simpa using hj
  have e : (ws.map (fun x => Value.string (quo x)))[j]? = some (.string (quo (ws[j]'hj'))) := by
   rw [List.getElem?_map, List.getElem?_eq_getElem hj']; rfl
  rw [← ht, List.getElem?_take, if_pos (by omega)] at e; simp only [Nat.zero_add]; rw [← Array.getElem?_toList, e, List.getD_eq_getElem?_getD, List.getElem?_map, List.getElem?_eq_getElem hj']; rfl
theorem Tryz.info9 : (Tryz.prog.info? 9).map (fun i => (i.zero, i.size, i.bytes)) = some (some (.string ⟨#[]⟩), 1, 16) := by kernel_rfl
theorem Tryz.und50 : Tryz.prog.underlying 50 = some (.slice 9) := by kernel_rfl
section
variable {B : Nat} {s : ByteArray} {T : List Wk.Tok}
def typEnd (w' : World) (r : Wk.St × Wk.Ty) (e : Ending) : Prop :=
 ∃ (k : Nat) (ad : Option Addr) (n c : Nat), e = .returned (.agg #[.int .u8 k, .slice ad n c]) ∧ (r.1.bad = none → TyK w' (.agg #[.int .u8 k, .slice ad n c]) r.2)
theorem IN.ybox {w0 w : World} {b : Nat} {q : Wk.St} {nest : Int} (h : IN B s T w0 w b q nest) {k : Nat} {cs : Array Value} (hk : w0.heap[k]? = some (.cells cs 104 (0, 0))) : w.heap[k]? = some (.cells cs 104 (0, 0)) := h.box hk (by decide) (by decide)
theorem IN.set2 {w0 w : World} {b : Nat} {q : Wk.St} {nest : Int} (h : IN B s T w0 w b q nest) {k : Nat} {cs : Array Value} (hk : w.heap[k]? = some (.cells cs 104 (0, 0))) (h0 : w0.heap.size ≤ k) (v0 v1 : Value) :
  IN B s T w0 ((w.setCell ⟨k, 0, none⟩ v0).setCell ⟨k, 1, none⟩ v1) b q nest :=
 (h.set hk (by decide) (by decide) h0 v0).set (blk_set _ hk) (by decide) (by decide) h0 v1
theorem r_typ_int {w0 w : World} (b : Nat) (q : Wk.St) (h : IN B s T w0 w b q 0) (K9 : q.isK T 9 = true) :
  Calls Tryz.prog 74 #[.pointer (some ⟨b, 0, none⟩)] w fun e w' => typEnd w' (Wk.pType T q) e ∧ IN B s T w w' b (Wk.pType T q).1 0 := by
 have hk := Wk.isK_iff.1 K9; have K10 : q.isK T 10 = false := by rw [isK_of hk.1 hk.2]; decide
 have HP : Hid (Wk.pType T q = (q.adv, (1, []))) := by
  show _ = _; unfold Wk.pType; rw [K9]; rfl
 have HK : Hid _ := K9; have HI : Hid (IN B s T w w b q 0) := h.self; clear h hk; go_enter Tryz.func74, Tryz.ntmps74; go_wp2_with fail; refine (i_is (HI.out.alloc _) 9 ⟨#[105, 110, 116]⟩).mono ?_; rintro e w1 ⟨rfl, hw1⟩; rw [hw1, K9]; clear hw1; go_wp2_with fail; refine (i_is (HI.out.alloc _) 10 ⟨#[98, 111, 111, 108]⟩).mono ?_; rintro e w1 ⟨rfl, hw1⟩; rw [hw1, K10]; clear hw1; go_wp2_with fail; refine (i_take (HI.out.alloc _)).mono ?_; rintro e w3 ⟨⟨nk5, nt5, na5, rfl, -, -⟩, hI3⟩; rw [takeS_adv HK.out (by decide) (by decide)] at hI3; have u0 := hI3.ybox (heap_alloc_new w _); have y0 := bc 0 u0 rfl; have y1 := bc 1 u0 rfl; have yf := blk_free u0; have V0 : Hid _ := u0; have HI3 : Hid (IN B s T w w3 b q.adv 0) := (HI.out.alloc _).trans hI3; clear u0 hI3; go_wp2_with fail; refine bodyPost_ret (v := .agg #[.int .u8 105, .slice none 0 0]) (by simp [results, Tryz.results74, go_sem, y0, y1]) rfl ⟨?_, ?_⟩
 ·rw [HP.out]; exact ⟨105, none, 0, 0, rfl, fun _ => tyK_plain _ (n := 1) (by decide)⟩
 ·rw [HP.out]; exact HI3.out.set2 V0.out (Nat.le_refl _) _ _
theorem r_typ_bool {w0 w : World} (b : Nat) (q : Wk.St) (h : IN B s T w0 w b q 0) (K10 : q.isK T 10 = true) :
  Calls Tryz.prog 74 #[.pointer (some ⟨b, 0, none⟩)] w fun e w' => typEnd w' (Wk.pType T q) e ∧ IN B s T w w' b (Wk.pType T q).1 0 := by
 have hk := Wk.isK_iff.1 K10; have K9 : q.isK T 9 = false := by rw [isK_of hk.1 hk.2]; decide
 have HP : Hid (Wk.pType T q = (q.adv, (2, []))) := by
  show _ = _; unfold Wk.pType; rw [K9, K10]; rfl
 have HK : Hid _ := K10; have HI : Hid (IN B s T w w b q 0) := h.self; clear h hk; go_enter Tryz.func74, Tryz.ntmps74; go_wp2_with fail; refine (i_is (HI.out.alloc _) 9 ⟨#[105, 110, 116]⟩).mono ?_; rintro e w1 ⟨rfl, hw1⟩; rw [hw1, K9]; clear hw1; go_wp2_with fail; refine (i_is (HI.out.alloc _) 10 ⟨#[98, 111, 111, 108]⟩).mono ?_; rintro e w1 ⟨rfl, hw1⟩; rw [hw1, K10]; clear hw1; go_wp2_with fail; refine (i_take (HI.out.alloc _)).mono ?_; rintro e w3 ⟨⟨nk5, nt5, na5, rfl, -, -⟩, hI3⟩; rw [takeS_adv HK.out (by decide) (by decide)] at hI3; have u0 := hI3.ybox (heap_alloc_new w _); have y0 := bc 0 u0 rfl; have y1 := bc 1 u0 rfl; have yf := blk_free u0; have V0 : Hid _ := u0; have HI3 : Hid (IN B s T w w3 b q.adv 0) := (HI.out.alloc _).trans hI3; clear u0 hI3; go_wp2_with fail; refine bodyPost_ret (v := .agg #[.int .u8 98, .slice none 0 0]) (by simp [results, Tryz.results74, go_sem, y0, y1]) rfl ⟨?_, ?_⟩
 ·rw [HP.out]; exact ⟨98, none, 0, 0, rfl, fun _ => tyK_plain _ (n := 2) (by decide)⟩
 ·rw [HP.out]; exact HI3.out.set2 V0.out (Nat.le_refl _) _ _
theorem own_ne {w : World} {base : Nat} {e : TypeId} {size : Nat} {v : Value} {n : Nat} {xs : List Value} (h : w.ownsRow base e size v n xs) {k : Nat} {cs : Array Value} {t : TypeId} {fr : Nat × Nat} (hk : w.heap[k]? = some (.cells cs t fr)) (ht : t ≠ e) : some k ≠ v.ownBlock := by
 intro e'; rcases h.2 with ⟨rfl, _⟩ | ⟨g, cap, cur, rfl, _, hgg, _⟩
 ·simp [Value.ownBlock] at e'
 ·simp [Value.ownBlock] at e'; subst e'; rw [hgg] at hk; cases hk; exact ht rfl
theorem IN.grownX {w0 w w' : World} {b : Nat} {q : Wk.St} {nest : Int} (h : IN B s T w0 w b q nest) {e : TypeId} {size : Nat} {v : Value} {n : Nat} {xs : List Value} (hown : w.ownsRow w0.heap.size e size v n xs) (h1 : e ≠ 126)
  (h2 : ∀ tv g, w.cell? ⟨b, 5, none⟩ = some tv → tv.ownBlock = some g → v.ownBlock ≠ some g) (hg : w.grownBy w' v.ownBlock) : IN B s T w0 w' b q nest := by
 have hF : Fr (fun k => some k = v.ownBlock) w w' := ⟨hg.os, hg.tape, hg.output, hg.size, fun k hk hm => hg.block k hk hm⟩
 have hlo : ∀ k, some k = v.ownBlock → w0.heap.size ≤ k := fun k e' => (World.ownsRow.lt hown k e'.symm).1
 refine ⟨?_, ⟨?_, ?_⟩, h.w0, h.env⟩
 ·obtain ⟨tv, hx⟩ := h.rp; refine ⟨tv, hx.fr hF ?_ ?_⟩
  ·obtain ⟨nk, nt, na, i, n', xs', g1, _⟩ := hx; exact own_ne hown g1 (fun e => h1 e.symm)
  ·intro g hg' e'; obtain ⟨nk, nt, na, i, n', xs', g1, _, g3, _⟩ := hx; exact h2 tv g (blk_cell g1 rfl) hg' e'.symm
 ·have f := h.fr; refine ⟨hg.os.trans f.os, hg.tape.trans f.tape, hg.output.trans f.output, Nat.le_trans f.size hg.size, fun k hk => ?_, fun k o ho hn => ?_⟩
  ·have hb := h.w0.size; have hs := f.size; exact (hg.block k (by omega) (fun e' => by have := hlo k e'; omega)).trans (f.old k hk)
  ·have hl := lt_of_block ho; have hs := f.size; exact (hg.block k (by omega) (fun e' => by have := hlo k e'; omega)).trans (f.kept k o ho hn)
 ·intro tv hc; obtain ⟨⟨tv', hc', g'⟩, r⟩ := h.fr.k7 tv hc; have hs := h.fr.size; refine ⟨⟨tv', ?_, g'⟩, fun k cs fr hk hn => (hg.block k (by have := lt_of_block hk; omega) (fun e' => by have := hlo k e'; have := lt_of_block hk; omega)).trans (r k cs fr hk hn)⟩; have hb := cell_blt hc; rw [World.cell?_of_block (w := w) (hg.block b (by omega) (fun e' => by have := hlo b e'; omega))]; exact hc'
theorem IN.grown {w0 w w' : World} {b : Nat} {q : Wk.St} {nest : Int} (h : IN B s T w0 w b q nest) {e : TypeId} {size : Nat} {v : Value} {n : Nat} {xs : List Value} (hown : w.ownsRow w0.heap.size e size v n xs) (h1 : e ≠ 126) (h2 : e ≠ 87) (hg : w.grownBy w' v.ownBlock) : IN B s T w0 w' b q nest := by
 refine h.grownX hown h1 (fun tv g hc hg' => ?_) hg; obtain ⟨tv', nk, nt, na, i, n', xs', g1, _, g3, _⟩ := h.rp; have e' : w.cell? ⟨b, 5, none⟩ = some tv' := blk_cell g1 rfl; rw [e'] at hc; cases hc; rcases g3.2 with ⟨rfl, _⟩ | ⟨g', cap', cur, rfl, _, hgg, _⟩
 ·simp [Value.ownBlock] at hg'
 ·simp [Value.ownBlock] at hg'; subst hg'; exact fun e => own_ne hown hgg (fun e => h2 e.symm) e.symm
theorem owns_slice {w : World} {base : Nat} {e : TypeId} {size : Nat} {v : Value} {n : Nat} {xs : List Value} (h : w.ownsRow base e size v n xs) : ∃ ad c, v = .slice ad n c ∧ n ≤ c := by
 rcases h.2 with ⟨rfl, rfl⟩ | ⟨g, cap, cur, rfl, _, _, hc, _⟩
 ·exact ⟨none, 0, rfl, Nat.le_refl _⟩
 ·exact ⟨_, cap, rfl, hc⟩
theorem owns_word {w : World} {base : Nat} {ws : List (List UInt8)} {ad : Option Addr} {n c : Nat} (h : w.ownsRow base 9 1 (.slice ad n c) n (ws.map (fun x => Value.string (quo x)))) {k : Nat} (hk : k < ws.length) : ∃ g, ad = some ⟨g, 0, none⟩ ∧ w.cell? ⟨g, k, none⟩ = some (.string (quo (ws[k]'hk))) := by
 have hl := h.1; rw [List.length_map] at hl; rcases h.2 with ⟨_, h0⟩ | ⟨g, cap, cur, hv, _, hgg, hc, hm, hs, ht⟩
 ·omega
 ·cases hv; refine ⟨g, rfl, ?_⟩; have e : (ws.map (fun x => Value.string (quo x)))[k]? = some (.string (quo (ws[k]'hk))) := by
   rw [List.getElem?_map, List.getElem?_eq_getElem hk]; rfl
  rw [← ht, List.getElem?_take, if_pos (by omega)] at e; rw [cell_of_row w g _ cur 9 (0, 0) hgg, ← Array.getElem?_toList, e]
theorem rtext_word {t : Wk.Tok} (h : t.kind = 5) : rtext t false = t.text := by unfold rtext; rw [h]; rfl
theorem fail_some (q : Wk.St) : (q.fail T).bad.isSome = true := by unfold Wk.St.fail; cases hb : q.bad <;> simp [hb]
def dupK (T : List Wk.Tok) (q : Wk.St) (ws : List (List UInt8)) (k : Nat) : Bool := q.isK T 5 && (ws.take k).contains (Wk.unq (Wk.tokK T q.k).text)
theorem contains_snoc (l : List (List UInt8)) (x y : List UInt8) : (l ++ [x]).contains y = (l.contains y || y == x) := by
 rw [Bool.eq_iff_iff]; simp
theorem dup_step {q : Wk.St} (hb : q.bad = none) {ws : List (List UInt8)} {k : Nat} (hk : k < ws.length) {qq : Wk.St} (hqq : qq = if dupK T q ws k then q.fail T else q) (hit : Bool) (hh : qq.bad = none → hit = (q.isK T 5 && (Wk.unq (Wk.tokK T q.k).text == ws[k]'hk))) :
  (if hit then qq.fail T else qq) = if dupK T q ws (k + 1) then q.fail T else q := by
 have hd : dupK T q ws (k + 1) = (dupK T q ws k || (q.isK T 5 && (Wk.unq (Wk.tokK T q.k).text == ws[k]'hk))) := by
  unfold dupK; rw [List.take_succ_eq_append_getElem hk, contains_snoc]; cases q.isK T 5 <;> rfl
 rw [hd]; cases hx : dupK T q ws k with
 | true =>
  rw [hx] at hqq; simp only [if_true] at hqq; subst hqq; rw [Wk.fail_bad T (fail_some q)]; simp
 | false =>
  rw [hx] at hqq; simp only [Bool.false_eq_true, if_false] at hqq; subst hqq; rw [hh hb]; rfl
structure WW (B : Nat) (s : ByteArray) (T : List Wk.Tok) (w wr : World) (b : Nat) (q : Wk.St) (X : Nat) (tv : Value) (ws : List (List UInt8)) : Prop where
 inn : IN B s T w wr b q 0
 res : wr.heap[w.heap.size]? = some (.cells #[.int .u8 0, .slice none 0 0] 104 (0, 0))
 box : wr.heap[X]? = some (.cells #[.int .u8 119, tv] 104 (0, 0))
 row : wr.ownsRow w.heap.size 9 1 tv ws.length (ws.map (fun x => Value.string (quo x)))
 lo : w.heap.size < X
theorem WW.below {w wr wr' : World} {b : Nat} {q : Wk.St} {X : Nat} {tv : Value} {ws : List (List UInt8)} (h : WW B s T w wr b q X tv ws) (hb : Below wr.heap.size wr wr') : WW B s T w wr' b q X tv ws :=
 ⟨h.inn.below hb, (hb.block _ (lt_of_block h.res)).trans h.res, (hb.block _ (lt_of_block h.box)).trans h.box, owns_below h.row hb, h.lo⟩
theorem below_drewN (w : World) (n : Nat) : Below w.heap.size w (w.drewN n) := ⟨rfl, rfl, rfl, Nat.le_refl _, fun _ _ => rfl⟩
theorem WW.fail {w wr wr' : World} {b : Nat} {q q' : Wk.St} {X : Nat} {tv : Value} {ws : List (List UInt8)} (h : WW B s T w wr b q X tv ws) (hI : IN B s T wr wr' b q' 0) : WW B s T w wr' b q' X tv ws := by
 refine ⟨h.inn.trans hI, hI.ybox h.res, hI.ybox h.box, ?_, h.lo⟩; rcases h.row with ⟨h1, h2⟩; refine ⟨h1, h2.imp id ?_⟩; rintro ⟨g, cap, cur, e1, e2, e3, e4⟩; exact ⟨g, cap, cur, e1, e2, hI.box e3 (by decide) (by decide), e4⟩
theorem ww_end {w wr : World} {b : Nat} {q : Wk.St} {ad : Option Addr} {n c : Nat} {ws : List (List UInt8)} (hI : IN B s T w wr b q 0) (hres : wr.heap[w.heap.size]? = some (.cells #[.int .u8 0, .slice none 0 0] 104 (0, 0)))
  (hrow : q.bad = none → wr.ownsRow w.heap.size 9 1 (.slice ad n c) ws.length (ws.map (fun x => Value.string (quo x))) ∧ ws.length ≤ 6) (r : Wk.St × List (List UInt8)) (hr : r.1 = q) (hr2 : q.bad = none → r.2 = ws) (v0 v1 : Value) :
  typEnd ((wr.setCell ⟨w.heap.size, 0, none⟩ v0).setCell ⟨w.heap.size, 1, none⟩ v1) (r.1, (3, r.2)) (.returned (.agg #[.int .u8 119, .slice ad n c])) ∧ IN B s T w ((wr.setCell ⟨w.heap.size, 0, none⟩ v0).setCell ⟨w.heap.size, 1, none⟩ v1) b r.1 0 := by
 constructor
 ·refine ⟨119, ad, n, c, rfl, fun hb => ?_⟩; have hb' : q.bad = none := by rw [← hr]; exact hb
  obtain ⟨h1, h2⟩ := hrow hb'; rw [hr2 hb']; exact (tyK_words h1 h2).keep ((Keep9.set hres (by decide) _).trans (Keep9.set (blk_set _ hres) (by decide) _))
 ·rw [hr]; exact hI.set2 hres (Nat.le_refl _) _ _
theorem r_typ_words (hQ : Quoted T) {w0 w : World} (b : Nat) (q : Wk.St) (h : IN B s T w0 w b q 0) (K9 : q.isK T 9 = false) (K10 : q.isK T 10 = false) :
    Calls Tryz.prog 74 #[.pointer (some ⟨b, 0, none⟩)] w fun e w' => typEnd w' (Wk.pType T q) e ∧ IN B s T w w' b (Wk.pType T q).1 0 := by
  generalize hF : Wk.pWords T 6 (q.want T 11) [] = FIN; have HF : Hid _ := hF; have HP : Hid (Wk.pType T q = (FIN.1, (3, FIN.2))) := by
    show _ = _; unfold Wk.pType; rw [K9, K10, ← hF]; rfl
  have HI : Hid (IN B s T w w b q 0) := h.self; clear h hF; go_enter Tryz.func74, Tryz.ntmps74; go_wp2_with fail; refine (i_is (HI.out.alloc _) 9 ⟨#[105, 110, 116]⟩).mono ?_; rintro e w1 ⟨rfl, hw1⟩; rw [hw1, K9]; clear hw1; go_wp2_with fail; refine (i_is (HI.out.alloc _) 10 ⟨#[98, 111, 111, 108]⟩).mono ?_; rintro e w1 ⟨rfl, hw1⟩; rw [hw1, K10]; clear hw1; go_wp2_with fail; refine (i_need (HI.out.alloc _) 11 ⟨#[111, 102]⟩).mono ?_; rintro e w3 ⟨rfl, hI3⟩; have HI3 : Hid (IN B s T w w3 b (q.want T 11) 0) := (HI.out.alloc _).trans hI3; have V0 : Hid _ := hI3.ybox (heap_alloc_new w _); have hl0 : w.heap.size < w3.heap.size := lt_of_block V0.out; clear hI3; go_wp2_with fail; have WW0 : Hid (WW B s T w (w3.alloc (.cells #[.int .u8 119, .slice none 0 0] 104)) b (q.want T 11) w3.heap.size (.slice none 0 0) []) :=
    ⟨HI3.out.alloc _, blk_alloc _ V0.out, heap_alloc_new _ _, ⟨rfl, Or.inl ⟨rfl, rfl⟩⟩, hl0⟩
  go_loopg [6] 6 (fun gk _ wr => ∃ (q' : Wk.St) (ws : List (List UInt8)) (tv : Value), Hid (WW B s T w wr b q' w3.heap.size tv ws) ∧ Hid (Wk.pWords T gk q' ws = FIN) ∧ Hid (gk + ws.length = 6 ∧ 0 < gk))
  case atStart => exact ⟨_, _, _, WW0, HF, ⟨rfl, by decide⟩⟩
  case round =>
    obtain ⟨q', ws, tv, WWr, HPW, HGK⟩ := hrel; obtain ⟨wo, rfl⟩ : ∃ wo : World, wo = wr := ⟨_, rfl⟩
    clear WW0; have hgk := HGK.out.1; have hgp := HGK.out.2; obtain ⟨ad, cc, rfl, hcc⟩ := owns_slice WWr.out.row; have c6 := WWr.out.inn.badc; have r0 := bc 0 WWr.out.res rfl; have r1 := bc 1 WWr.out.res rfl; have rf := blk_free WWr.out.res; have x0 := bc 0 WWr.out.box rfl; have x1 := bc 1 WWr.out.box rfl; have xf := blk_free WWr.out.box; cases hb : q'.bad with
    | some pl =>
      have hsm : q'.bad.isSome := by rw [hb]; rfl
      have h0 := badI_some hsm; have HE : Hid (FIN.1 = q' ∧ (q'.bad = none → FIN.2 = ws)) := by
        refine ⟨?_, fun e => ?_⟩
        · rw [← HPW.out]; exact Wk.pWords_bad T hsm _ _
        · rw [hb] at e; cases e
      have HBN : Hid (q'.bad = none → False) := fun e => by rw [hb] at e; cases e
      clear hb hsm; generalize badI q' = z at *
      go_wp2_with fail; refine bodyPost_ret (v := .agg #[.int .u8 119, .slice ad ws.length cc]) (by simp [results, Tryz.results74, go_sem, r0, r1]) rfl ?_; rw [HP.out]; exact ww_end (ws := ws) WWr.out.inn WWr.out.res (fun e => (HBN.out e).elim) FIN HE.out.1 HE.out.2 _ _
    | none =>
      rw [badI_none hb] at c6; have HB : Hid _ := hb; clear hb; go_wp2_with fail; have hl6 : ws.length ≤ 6 := by omega
      have HIK : Hid _ := WWr.out.inn.ok HB.out; go_loopw [6] (fun i wr => ∃ (k : Nat) (qq : Wk.St), k ≤ ws.length ∧ i = .int .i64 k ∧ Hid (WW B s T w wr b qq w3.heap.size (.slice ad ws.length cc) ws) ∧ Hid (qq = if dupK T q' ws k then q'.fail T else q')) (fun i _ => ws.length - (intOf i).toNat)
      case atStart => exact ⟨0, q', by omega, rfl, WWr, by show _ = _; simp [dupK]⟩
      case round =>
        obtain ⟨k, qq, hk, rfl, WWi, HQQ⟩ := hrel; clear c6 r0 r1 rf x0 x1 xf; have x0 := bc 0 WWi.out.box rfl; have x1 := bc 1 WWi.out.box rfl; have xf := blk_free WWi.out.box; by_cases hlt : k < ws.length
        · obtain ⟨nk, nt, na, c1, c2, c3, hnx⟩ := WWi.out.inn.nextc; obtain ⟨gw, hgw, gc⟩ := owns_word WWi.out.row hlt; subst hgw; have HNX : Hid _ := hnx; have HK1 : Hid (k + 1 ≤ ws.length) := hlt; have hk0 : (0 : Int) ≤ (k : Int) := by omega
          have hk1 : (k : Int) < (ws.length : Int) := by omega
          have HST : Hid (∀ hit, (qq.bad = none → hit = (q'.isK T 5 && (Wk.unq (Wk.tokK T q'.k).text == ws[k]'hlt))) → (if hit then qq.fail T else qq) = if dupK T q' ws (k + 1) then q'.fail T else q') := fun hit hh => dup_step HB.out hlt HQQ.out hit hh
          have HQN : Hid (qq.bad = none → qq = q') := by
            intro e; have h1 := HQQ.out; cases hx : dupK T q' ws k with
            | true =>
              rw [hx] at h1; have h2 := fail_some (T := T) q'; have h3 : qq = q'.fail T := h1; rw [← h3, e] at h2; cases h2
            | false => rw [hx] at h1; exact h1
          clear hnx; by_cases h34 : nk = 34
          · by_cases heq : nt.toList = (quo (ws[k]'hlt)).toList
            · have d34 : ((nk : Int) == 34) = true := by rw [beq_iff_eq]; omega
              have deq : (nt.toList == (quo (ws[k]'hlt)).toList) = true := by rw [beq_iff_eq]; exact heq
              have HQE : Hid _ := HST.out true (fun e => by
                have h1 := HNX.out e; rw [HQN.out e] at h1; have h5 : (Wk.tokK T q'.k).kind = 5 := rkind34 (by rw [← h1.1]; exact h34); have hx : nt = quo (Wk.unq (Wk.tokK T q'.k).text) := by
                  rw [h1.2.1, rtext_word h5]; exact hQ _ HIK.out h5
                rw [isK_of HB.out h5]; rw [hx, ByteArray.toList_eq, ByteArray.toList_eq] at heq; rw [quo_inj heq]; simp)
              clear h34 heq; go_wp2_with fail; go_quiet (fail)
              go_wp2_with fail; refine (i_fail (WWi.out.below (below_drewN wr nq)).inn).mono ?_; rintro e w5 ⟨rfl, hI5⟩; have WW5 : Hid _ := (WWi.out.below (below_drewN wr nq)).fail hI5; clear hI5; go_wp2_with fail; go_roundw
              case rel => exact ⟨k + 1, _, HK1.out, by go_num, WW5, HQE⟩
              case measure =>
                have := HK1.out; simp [intOf]; omega
            · have d34 : ((nk : Int) == 34) = true := by rw [beq_iff_eq]; omega
              have deq : (nt.toList == (quo (ws[k]'hlt)).toList) = false := by rw [beq_eq_false_iff_ne]; exact heq
              have HQE : Hid _ := HST.out false (fun e => by
                have h1 := HNX.out e; rw [HQN.out e] at h1; have h5 : (Wk.tokK T q'.k).kind = 5 := rkind34 (by rw [← h1.1]; exact h34); have hx : nt = quo (Wk.unq (Wk.tokK T q'.k).text) := by
                  rw [h1.2.1, rtext_word h5]; exact hQ _ HIK.out h5
                have : (Wk.unq (Wk.tokK T q'.k).text == ws[k]'hlt) = false := by
                  rw [beq_eq_false_iff_ne]; intro e'; apply heq; rw [hx, e']
                rw [this]; simp)
              clear h34 heq; go_wp2_with fail; go_quiet (fail)
              go_wp2_with fail; have WW5 : Hid _ := WWi.out.below (below_drewN wr nq); go_roundw
              case rel => exact ⟨k + 1, _, HK1.out, by go_num, WW5, HQE⟩
              case measure =>
                have := HK1.out; simp [intOf]; omega
          · have d34 : ((nk : Int) == 34) = false := by rw [beq_eq_false_iff_ne]; omega
            have HQE : Hid _ := HST.out false (fun e => by
              have h1 := HNX.out e; rw [HQN.out e] at h1; have : q'.isK T 5 = false := by
                rw [isK_of HB.out rfl, decide_eq_false_iff_not]; intro e5; apply h34; rw [h1.1, e5]; rfl
              rw [this]; rfl)
            clear h34; go_wp2_with fail; go_quiet (fail)
            go_wp2_with fail; have WW5 : Hid _ := WWi.out.below (below_drewN wr nq); go_roundw
            case rel => exact ⟨k + 1, _, HK1.out, by go_num, WW5, HQE⟩
            case measure =>
              have := HK1.out; simp [intOf]; omega
        · have hkl : k = ws.length := by omega
          have HQ1 : Hid (qq = if q'.isK T 5 && ws.contains (Wk.unq (Wk.tokK T q'.k).text) then q'.fail T else q') := by
            have h1 := HQQ.out; rw [hkl] at h1; unfold dupK at h1; rw [List.take_length] at h1; exact h1
          clear hkl HQQ; go_wp2_with fail; refine (i_kind WWi.out.inn 34 (Or.inr (Or.inl rfl))).mono ?_; rintro e w5 ⟨⟨nk5, nt5, na5, rfl, hz5, ht5⟩, hI5⟩; rw [kindS_word] at hI5 ht5; have WW5 : Hid (WW B s T w w5 b (qq.want T 5) w3.heap.size (.slice ad ws.length cc) ws) := WWi.out.fail hI5; have HT5 : Hid _ := ht5; clear hI5 ht5 x0 x1 xf; have x0 := bc 0 WW5.out.box rfl; have x1 := bc 1 WW5.out.box rfl; have xf := blk_free WW5.out.box; have lX : w3.heap.size < w5.heap.size := lt_of_block WW5.out.box; have lr : w.heap.size < w5.heap.size := lt_of_block WW5.out.res; have lb : b < w5.heap.size := WW5.out.inn.blt; obtain ⟨i0, hi0, hz0, hz1, hz2⟩ := info_parts Tryz.info9; have HOW : Hid (∀ o o', ((w5.alloc o).alloc o').ownsRow w.heap.size 9 1 (.slice ad ws.length cc) ws.length (ws.map (fun x => Value.string (quo x)))) := fun o o' => owns_below WW5.out.row (two_bel w5 o o')
          have HNB : Hid (∀ o o', ((w5.alloc o).alloc o').heap[w5.heap.size + 1]? = some o') := fun o o' => (below_two (Below.refl _ ((w5.alloc o).alloc o'))).2.2.1
          have HXX : Hid (∀ o o' w6, ((w5.alloc o).alloc o').grownBy w6 (Value.slice ad ws.length cc).ownBlock → IN B s T w w6 b (qq.want T 5) 0 ∧ w6.heap[w.heap.size]? = some (.cells #[.int .u8 0, .slice none 0 0] 104 (0, 0)) ∧ w6.heap[w3.heap.size]? = some (.cells #[.int .u8 119, .slice ad ws.length cc] 104 (0, 0)) ∧ w5.heap.size < w6.heap.size) := by
            intro o o' w6 hg; have hw := two_bel w5 o o'; have h2 := WW5.out.below hw; refine ⟨h2.inn.grown (HOW.out o o') (by decide) (by decide) hg, ?_, ?_, ?_⟩
            · exact (hg.block _ (lt_of_block h2.res) (own_ne (HOW.out o o') h2.res (by decide))).trans h2.res
            · exact (hg.block _ (lt_of_block h2.box) (own_ne (HOW.out o o') h2.box (by decide))).trans h2.box
            · have := hg.size; rw [sz_alloc, sz_alloc] at this; omega
          go_wp2_with first
            | (at_builtin; refine wpList_append_lies _ (by rfl) (.tmp 62) (.tmp 65) 50 (by rfl) w.heap.size 9 i0 _ 1 16 Tryz.und50 hi0 hz0 hz1 hz2 (by rfl) (by omega) (.slice ad ws.length cc) ws.length (ws.map (fun x => Value.string (quo x))) (by simp [Act.eval]) (HOW.out _ _) ⟨w5.heap.size + 1, 0, none⟩ 1 1 [.string nt5] (by simp [Act.eval]) (by rfl) (World.news_of_block (cs := #[.string nt5]) (HNB.out _ _)) (by intro u hu; simp at hu; subst hu; rfl) (by omega) (by unfold maxLen; omega) (by omega) (by simp; omega) (w5.heap.size + 2) (by simp) ?_
               intro g cap w6 hown6 hgrow6 hat6 hlt6; obtain ⟨hI6, hr6, hx6, hs6⟩ := HXX.out _ _ _ hgrow6; have r0 := bc 0 hr6 rfl; have r1 := bc 1 hr6 rfl; have rf := blk_free hr6; have y0 := bc 0 hx6 rfl; have y1 := bc 1 hx6 rfl; have yf := blk_free hx6; have HI6 : Hid _ := hI6; have HR6 : Hid _ := hr6; have HX6 : Hid _ := hx6; have HO6 : Hid _ := hown6; clear hown6 hgrow6 hat6 hlt6 hI6 hr6 hx6)
            | fail
          generalize hW6 : w6.setCell ⟨w3.heap.size, 1, none⟩ (.slice (some ⟨g, 0, none⟩) (ws.length + 1) cap) = W6; have hnX : w.heap.size ≠ w3.heap.size := by omega
          have I7 : Hid (IN B s T w W6 b (qq.want T 5) 0) := by rw [← hW6]; exact HI6.out.set HX6.out (by decide) (by decide) (by omega) _
          have R7 : Hid (W6.heap[w.heap.size]? = some (.cells #[.int .u8 0, .slice none 0 0] 104 (0, 0))) := by rw [← hW6, blk_other _ hnX]; exact HR6.out
          have X7 : Hid (W6.heap[w3.heap.size]? = some (.cells #[.int .u8 119, .slice (some ⟨g, 0, none⟩) (ws.length + 1) cap] 104 (0, 0))) := by rw [← hW6, blk_set _ HX6.out]; rfl
          have O7 : Hid (W6.ownsRow w.heap.size 9 1 (.slice (some ⟨g, 0, none⟩) (ws.length + 1) cap) (ws.length + 1) (ws.map (fun x => Value.string (quo x)) ++ [.string nt5])) := by rw [← hW6]; exact owns_other HO6.out HX6.out (by decide) _
          clear hW6 HI6 HR6 HX6 HO6 r0 r1 rf y0 y1 yf x0 x1 xf HOW HXX HNB hz0 hz1 hz2 hi0; have r0 := bc 0 R7.out rfl; have r1 := bc 1 R7.out rfl; have rf := blk_free R7.out; have x0 := bc 0 X7.out rfl; have x1 := bc 1 X7.out rfl; have HRW : Hid ((qq.want T 5).bad = none → W6.ownsRow w.heap.size 9 1 (.slice (some ⟨g, 0, none⟩) (ws.length + 1) cap) (ws ++ [Wk.unq (Wk.tokK T q'.k).text]).length ((ws ++ [Wk.unq (Wk.tokK T q'.k).text]).map (fun x => Value.string (quo x))) ∧ (ws ++ [Wk.unq (Wk.tokK T q'.k).text]).length ≤ 6) := by
            intro e; have h1 := HT5.out e; have hqq : qq = q' := by
              have h2 := HQ1.out; split at h2
              · have h3 := fail_some (T := T) q'; rw [← h2, h1.1] at h3; cases h3
              · exact h2
            have h5 : (Wk.tokK T q'.k).kind = 5 := rkind34 (by rw [← hqq]; exact h1.2.1); have hx : nt5 = quo (Wk.unq (Wk.tokK T q'.k).text) := by
              rw [h1.2.2.1, hqq]; exact hQ _ HIK.out h5
            rw [List.length_append, List.map_append]; refine ⟨?_, by simp; omega⟩; have := O7.out; rw [hx] at this; exact this
          have HPW2 : Hid (Wk.pWords T gk q' ws = if 0 < gk - 1 && (qq.want T 5).isK T 38 then Wk.pWords T (gk - 1) (qq.want T 5).adv (ws ++ [Wk.unq (Wk.tokK T q'.k).text]) else (qq.want T 5, ws ++ [Wk.unq (Wk.tokK T q'.k).text])) := by
            have h2 := HQ1.out; show _ = _; rw [show gk = (gk - 1) + 1 by omega, Wk.pWords, ← h2]; simp
          rw [HPW.out] at HPW2; cases hc : (qq.want T 5).isK T 38 with
          | false =>
            rw [hc] at HPW2; have HE : Hid (FIN = (qq.want T 5, ws ++ [Wk.unq (Wk.tokK T q'.k).text])) := by
              show _ = _; rw [HPW2.out]; simp
            refine (i_is I7.out 38 ⟨#[44]⟩).mono ?_; rintro e w7 ⟨rfl, rfl⟩; rw [hc]; go_wp2_with fail; refine bodyPost_ret (v := .agg #[.int .u8 119, .slice (some ⟨g, 0, none⟩) (ws.length + 1) cap]) (by simp [results, Tryz.results74, go_sem, r0, r1]) rfl ?_; rw [HP.out]; exact ww_end I7.out R7.out HRW.out FIN (by rw [HE.out]) (fun _ => by rw [HE.out]) _ _
          | true =>
            have HC : Hid _ := hc; rw [hc] at HPW2; refine (i_is I7.out 38 ⟨#[44]⟩).mono ?_; rintro e w7 ⟨rfl, rfl⟩; rw [hc]; clear hc; by_cases h5 : ws.length = 5
            · have HE : Hid (FIN = (qq.want T 5, ws ++ [Wk.unq (Wk.tokK T q'.k).text])) := by
                show _ = _; rw [HPW2.out, show gk - 1 = 0 by omega]; simp
              have d5 : ((ws.length : Int) + 1 == 6) = true := by rw [beq_iff_eq]; omega
              clear h5; go_wp2_with fail; refine bodyPost_ret (v := .agg #[.int .u8 119, .slice (some ⟨g, 0, none⟩) (ws.length + 1) cap]) (by simp [results, Tryz.results74, go_sem, r0, r1]) rfl ?_; rw [HP.out]; exact ww_end I7.out R7.out HRW.out FIN (by rw [HE.out]) (fun _ => by rw [HE.out]) _ _
            · have d5 : ((ws.length : Int) + 1 == 6) = false := by rw [beq_eq_false_iff_ne]; omega
              have h1 : 0 < gk - 1 := by omega
              have HE : Hid (Wk.pWords T (gk - 1) (qq.want T 5).adv (ws ++ [Wk.unq (Wk.tokK T q'.k).text]) = FIN) := by
                show _ = _; rw [HPW2.out]; simp [h1]
              clear h5; go_wp2_with fail; refine (i_take I7.out).mono ?_; rintro e w8 ⟨⟨nk8, nt8, na8, rfl, -, -⟩, hI8⟩; rw [takeS_adv HC.out (by decide) (by decide)] at hI8; have hrow := HRW.out (Wk.isK_iff.1 HC.out).1; have WW8 : Hid (WW B s T w w8 b (qq.want T 5).adv w3.heap.size (.slice (some ⟨g, 0, none⟩) (ws.length + 1) cap) (ws ++ [Wk.unq (Wk.tokK T q'.k).text])) :=
                WW.fail ⟨I7.out, R7.out, X7.out, hrow.1, hl0⟩ hI8
              have HLL : Hid (gk - 1 + (ws ++ [Wk.unq (Wk.tokK T q'.k).text]).length = 6 ∧ 0 < gk - 1) := ⟨by rw [List.length_append]; simp; omega, h1⟩
              clear hI8 hrow; go_wp2_with fail; go_roundg (gk - 1); case measure => omega
              case rel => exact ⟨_, _, _, WW8, HE, HLL⟩
theorem r_typ (hQ : Quoted T) {w0 w : World} (b : Nat) (q : Wk.St) (h : IN B s T w0 w b q 0) :
  Calls Tryz.prog 74 #[.pointer (some ⟨b, 0, none⟩)] w fun e w' => typEnd w' (Wk.pType T q) e ∧ IN B s T w w' b (Wk.pType T q).1 0 := by
 cases K9 : q.isK T 9 with
 | true => exact r_typ_int b q h K9
 | false =>
  cases K10 : q.isK T 10 with
  | true => exact r_typ_bool b q h K10
  | false => exact r_typ_words hQ b q h K9 K10
end
end Go.Proofs.YtbkaghlklkdmkaaGreatDoor
