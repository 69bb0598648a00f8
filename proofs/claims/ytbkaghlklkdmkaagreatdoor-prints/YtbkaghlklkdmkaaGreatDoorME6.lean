/-
  The parser of the document's answer: expressions: what is claimed; an atom. The parser of the document's answer: an atom. The parser of the document's answer: an expression.
-/
import Derived.Test.YtbkaghlklkdmkaaGreatDoorME5
import Derived.Test.YtbkaghlklkdmkaaGreatDoorMC3
set_option maxRecDepth 100000
set_option maxHeartbeats 8000000
namespace Go.Proofs.YtbkaghlklkdmkaaGreatDoor
open Go.RowKit
def Quoted (T : List Wk.Tok) : Prop := ∀ k, k < T.length → (Wk.tokK T k).kind = 5 → (Wk.tokK T k).text = quo (Wk.unq (Wk.tokK T k).text)
def treeEnd (w w' : World) (r : Wk.St × Wk.Sem) (e : Ending) : Prop :=
 ∃ (op x : ByteArray) (na : Nat) (ad : Option Addr) (n c : Nat), e = .returned (tree op x na (.slice ad n c)) ∧ (r.1.bad = none → Tr w.heap.size w'.heap.size w' (tree op x na (.slice ad n c)) r.2)
def rank (level : Nat) : Nat := if level = 7 then 8 else 7 - level
def meas (T : List Wk.Tok) (q : Wk.St) (level : Nat) : Nat := (if q.bad.isSome then 0 else 9 * (T.length - q.k)) + rank level
def XC (B : Nat) (s : ByteArray) (T : List Wk.Tok) (fn : Nat) (args : Nat → Array Value) (lv f : Nat) : Prop :=
 ∀ (nest : Nat) (q : Wk.St) (w : World) (b : Nat), IN B s T w w b q nest → (q.bad = none → nest ≤ 10) → meas T q lv < f →
  Calls Tryz.prog fn (args b) w fun e w' => treeEnd w w' (Wk.pe T f lv nest q) e ∧ IN B s T w w' b (Wk.pe T f lv nest q).1 nest
def CE (B : Nat) (s : ByteArray) (T : List Wk.Tok) (f : Nat) : Prop := XC B s T 76 (fun b => #[.pointer (some ⟨b, 0, none⟩)]) 7 f
def CL (B : Nat) (s : ByteArray) (T : List Wk.Tok) (lv f : Nat) : Prop := XC B s T 113 (fun b => #[.pointer (some ⟨b, 0, none⟩), .int .i64 lv]) lv f
def CA (B : Nat) (s : ByteArray) (T : List Wk.Tok) (f : Nat) : Prop := XC B s T 150 (fun b => #[.pointer (some ⟨b, 0, none⟩)]) 6 f
section
variable {B : Nat} {s : ByteArray} {T : List Wk.Tok} {w0 w w1 ws : World} {b : Nat} {q q' : Wk.St} {nest nest' : Int}
theorem meas_le {q r : Wk.St} (h : q.le r) (lv : Nat) : meas T r lv ≤ meas T q lv := by
 unfold meas; cases hr : r.bad with
 | some p => simp
 | none =>
  have := h hr; rw [this.1]; simp; omega
theorem meas_adv {q : Wk.St} (hb : q.bad = none) (hk : q.k < T.length) (lv lv' : Nat) (hl : rank lv' ≤ 8) : meas T q.adv lv' < meas T q lv := by
 unfold meas; have : q.adv = ⟨q.k + 1, none⟩ := by simp [Wk.St.adv, hb]
 rw [this, hb]; simp; omega
theorem IN.ok (h : IN B s T w0 w b q nest) (hb : q.bad = none) : q.k < T.length := by
 obtain ⟨tv, nk, nt, na, i, n, xs, h1, _, _, _, h5⟩ := h.rp; exact (h5 hb).lt
theorem i_take_new (h : IN B s T ws ws b q nest) (hb : Below ws.heap.size ws w) :
  Calls Tryz.prog 72 #[.pointer (some ⟨b, 0, none⟩)] w fun e w' => takeEnd T false q e ∧ IN B s T w w' b (takeS T false q) nest ∧ ∀ k, ws.heap.size ≤ k → k < w.heap.size → w'.heap[k]? = w.heap[k]? := by
 have h' := (h.below hb).self; obtain ⟨tv, hx⟩ := h.rp; have hx' := hx.below hb; have hlt := h.blt; refine (r_takeX B s T h.env.fol h.env.len b q nest tv false w h'.rw.gl h.env.base h.env.short h'.rw.size hx').mono ?_; rintro e w' ⟨h1, h2, h3⟩; refine ⟨h1, ⟨h2.rp, frP_of_n hx' h2 h3, h'.rw, h.env⟩, fun k hk hk2 => h3.block k hk2 ?_⟩; obtain ⟨nk, nt, na, i, n, xs, g1, g2, g3, _⟩ := hx; rintro (e | e)
 ·omega
 ·have := (World.ownsRow.lt g3 k e.symm).2; omega
theorem i_kind_new (h : IN B s T ws ws b q nest) (hb : Below ws.heap.size ws w) (c : Nat) (hc : c = 48 ∨ c = 34 ∨ c = 110) :
  Calls Tryz.prog 73 #[.pointer (some ⟨b, 0, none⟩), .int .u8 c] w fun e w' => kindEnd T false c q e ∧ IN B s T w w' b (kindS T false c q) nest ∧ ∀ k, ws.heap.size ≤ k → k < w.heap.size → w'.heap[k]? = w.heap[k]? := by
 have h' := (h.below hb).self; obtain ⟨tv, hx⟩ := h.rp; have hx' := hx.below hb; have hlt := h.blt; refine (r_kindX h.env b q nest tv false c w h'.rw hx' hc).mono ?_; rintro e w' ⟨h1, h2, h3⟩; refine ⟨h1, ⟨h2.rp, frP_of_n hx' h2 h3, h'.rw, h.env⟩, fun k hk hk2 => h3.block k hk2 ?_⟩; obtain ⟨nk, nt, na, i, n, xs, g1, g2, g3, _⟩ := hx; rintro (e | e)
 ·omega
 ·have := (World.ownsRow.lt g3 k e.symm).2; omega
theorem IN.nextc (h : IN B s T w0 w b q nest) : ∃ (nk : Nat) (nt : ByteArray) (na : Nat), w.cell? ⟨b, 1, none⟩ = some (.int .u8 (nk : Int)) ∧ w.cell? ⟨b, 2, none⟩ = some (.string nt) ∧ w.cell? ⟨b, 3, none⟩ = some (.int .i64 (na : Int)) ∧
  (q.bad = none → nk = rkind (Wk.tokK T q.k).kind false ∧ nt = rtext (Wk.tokK T q.k) false ∧ na = (Wk.tokK T q.k).place) := by
 obtain ⟨tv, nk, nt, na, i, n, xs, h1, _, _, _, h5⟩ := h.rp; obtain ⟨-, c1, c2, c3, -, -, -, -, -⟩ := rp_cells h1; exact ⟨nk, nt, na, c1, c2, c3, fun hb => ⟨(h5 hb).kind, (h5 hb).text, (h5 hb).place⟩⟩
theorem takeS_opens {nest : Nat} (h : q.isK T 34 = true ∨ q.isK T 21 = true) : takeS T false (if (nest : Int) = 10 then q.fail T else q) = q.opens T nest := by
 unfold Wk.St.opens; by_cases hn : nest = 10
 ·rw [if_pos (by omega), if_pos hn]; exact takeS_bad T false (by unfold Wk.St.fail; cases hb : q.bad <;> simp [hb])
 ·rw [if_neg (by omega), if_neg hn]; rcases h with h | h
  ·exact takeS_adv h (by decide) (by decide) false
  ·exact takeS_adv h (by decide) (by decide) false
theorem tr_val (hQ : Quoted T) {v : Wk.PVal} {t : Value} (h : valTree (T := T) v t) (lo hi : Nat) (w : World) : ∃ op x na, t = tree op x na (.slice none 0 0) ∧ Tr lo hi w t (Wk.semVal v) := by
 obtain ⟨op, x, na, rfl, h⟩ := h; refine ⟨op, x, na, rfl, ?_⟩; rcases h with ⟨h1, rfl⟩ | ⟨h1, h2⟩ | ⟨h1, rfl, h2, k, hk, hk5, rfl⟩
 ·exact tr_const lo hi w _ x na 1 v (Or.inl rfl) h1 (by simp [opsOf]) (by rw [ByteArray.toList_eq]; simp [partOps]) (by simp)
 ·rcases h2 with rfl | rfl
  ·exact tr_const lo hi w _ x na 2 v (Or.inr rfl) h1 (by simp [opsOf]) (by rw [ByteArray.toList_eq]; simp [partOps]) (by simp)
  ·exact tr_const lo hi w _ x na 2 v (Or.inr rfl) h1 (by simp [opsOf]) (by rw [ByteArray.toList_eq]; simp [partOps]) (by simp)
 ·have := tr_word lo hi w na v h1; have e := hQ k hk hk5; rw [← h2] at e; rw [e]; exact this
end
section
variable {B : Nat} {s : ByteArray} {T : List Wk.Tok}
theorem pe_atom (f nest : Nat) (q : Wk.St) : Wk.pe T (f + 1) 6 nest q =
  if q.isK T 34 then ((Wk.pe T f 7 (nest + 1) (q.opens T nest)).1.want T 35, (Wk.pe T f 7 (nest + 1) (q.opens T nest)).2)
  else if q.isK T 2 then (q.adv, Wk.semName (Wk.tokK T q.k).text.data.toList (Wk.tokK T q.k).place)
  else if q.isK T 20 then (q.adv, Wk.semNull) else ((Wk.pValue T q).1, Wk.semVal (Wk.pValue T q).2) := by
 rw [Wk.pe]; simp
theorem two_bel (w : World) : ∀ x y, Below w.heap.size w ((w.alloc x).alloc y) := fun x y => ((Below.refl _ _).alloc (Nat.le_refl _) _).alloc (by simp) _
theorem IN.tbox {w0 w : World} {b : Nat} {q : Wk.St} {nest : Int} (h : IN B s T w0 w b q nest) {k : Nat} {cs : Array Value} (hk : w0.heap[k]? = some (.cells cs 107 (0, 0))) : w.heap[k]? = some (.cells cs 107 (0, 0)) := h.box hk (by decide) (by decide)
theorem x_atom_val (hQ : Quoted T) (f nest : Nat) (q : Wk.St) (w : World) (b : Nat) (h : IN B s T w w b q nest) (hV : isVal T q = true) :
  Calls Tryz.prog 150 #[.pointer (some ⟨b, 0, none⟩)] w fun e w' => treeEnd w w' (Wk.pe T (f + 1) 6 nest q) e ∧ IN B s T w w' b (Wk.pe T (f + 1) 6 nest q).1 nest := by
 have hm := Wk.isIn_iff.1 hV; have K20 : q.isK T 20 = false := by
  rw [isK_of hm.1 rfl, decide_eq_false_iff_not]; intro e; have := hm.2; rw [e] at this; revert this; decide
 have K34 : q.isK T 34 = false := by
  rw [isK_of hm.1 rfl, decide_eq_false_iff_not]; intro e; have := hm.2; rw [e] at this; revert this; decide
 have K2 : q.isK T 2 = false := by
  rw [isK_of hm.1 rfl, decide_eq_false_iff_not]; intro e; have := hm.2; rw [e] at this; revert this; decide
 have HP : Hid (Wk.pe T (f + 1) 6 nest q = ((Wk.pValue T q).1, Wk.semVal (Wk.pValue T q).2)) := by
  show _ = _; rw [pe_atom, K34, K2, K20]; rfl
 have HVS : Hid (valueS T q = (Wk.pValue T q).1) := if_pos hV; have HVV : Hid _ := hV; clear hm K2; obtain ⟨nk, nt, na, c1, c2, c3, -⟩ := h.nextc; have hlt := h.blt; have HI : Hid (IN B s T w w b q nest) := h; have HBEL : Hid _ := two_bel w; clear h; go_enter Tryz.func150, Tryz.ntmps150; go_wp2_with fail; refine (i_is (HI.out.below (HBEL.out _ _)) 20 ⟨#[110, 117, 108, 108]⟩).mono ?_; rintro e w1 ⟨rfl, hw1⟩; rw [hw1, K20]; clear hw1; go_wp2_with fail; refine (i_is (HI.out.below (HBEL.out _ _)) 34 ⟨#[40]⟩).mono ?_; rintro e w1 ⟨rfl, hw1⟩; rw [hw1, K34]; clear hw1; go_wp2_with fail; refine (i_value (HI.out.below (HBEL.out _ _))).mono ?_; rintro e w3 ⟨⟨t, rfl, ⟨op, x, na3, rfl⟩, ht⟩, hI3, -⟩; rw [hV]; have u0 := hI3.tbox (blk_alloc _ (heap_alloc_new w _)); have y0 := bc 0 u0 rfl; have y1 := bc 1 u0 rfl; have y2 := bc 2 u0 rfl; have y3 := bc 3 u0 rfl; have yf := blk_free u0; have hsz := hI3.size; rw [sz_alloc, sz_alloc] at hsz; have hl0 : w.heap.size < w3.heap.size := by omega
 have HI3 : Hid (IN B s T _ w3 b (valueS T q) nest) := hI3; have HT3 : Hid _ := ht; have U0 : Hid _ := u0; clear hI3 ht u0 hV; unfold leaf; go_wp2_with fail; refine bodyPost_ret (v := tree op x na3 (.slice none 0 0)) (by simp [results, Tryz.results150, go_sem, tree, y0, y1, y2, y3, hl0]) rfl ⟨?_, ?_⟩
 ·rw [HP.out]; refine ⟨op, x, na3, none, 0, 0, rfl, fun hb => ?_⟩; obtain ⟨_, _, _, _, h⟩ := tr_val hQ (HT3.out HVV.out hb) w.heap.size _ _; exact h
 ·rw [HP.out, ← HVS.out]; exact (((HI.out.below (HBEL.out _ _)).trans HI3.out).tree U0.out (Nat.le_refl _) _ _ _ _).alloc _
theorem want_ok {q : Wk.St} {kd : Nat} (h : (q.want T kd).bad = none) : q.isK T kd = true := by
 unfold Wk.St.want at h; split at h
 ·assumption
 ·unfold Wk.St.fail at h; cases hb : q.bad <;> simp [hb] at h
theorem rtext_name {t : Wk.Tok} (h : t.kind = 2) : rtext t false = t.text := by unfold rtext; rw [h]; rfl
theorem meas_opens {q : Wk.St} (hb : q.bad = none) (hq : q.k < T.length) (nest lv : Nat) : meas T (q.opens T nest) 7 < meas T q lv := by
 by_cases hn : nest = 10
 ·have e : q.opens T nest = ⟨q.k, some (Wk.tokK T q.k).place⟩ := by simp [Wk.St.opens, hn, Wk.St.fail, hb]
  rw [e]; unfold meas; rw [hb]; simp [rank]; omega
 ·have e : q.opens T nest = ⟨q.k + 1, none⟩ := by simp [Wk.St.opens, hn, Wk.St.adv, hb]
  rw [e]; unfold meas; rw [hb]; simp [rank]; omega
theorem opens_nest {q : Wk.St} (hb : q.bad = none) {nest : Nat} (h : nest ≤ 10) : (q.opens T nest).bad = none → nest + 1 ≤ 10 := by
 by_cases hn : nest = 10
 ·simp [Wk.St.opens, hn, Wk.St.fail, hb]
 ·intro _; omega
theorem want_name {f nest : Nat} {q : Wk.St} (hV : isVal T q = false) (K34 : q.isK T 34 = false) (K20 : q.isK T 20 = false) : (Wk.pe T (f + 1) 6 nest q).1 = q.want T 2 ∧ (q.isK T 2 = true → (Wk.pe T (f + 1) 6 nest q).2 = Wk.semName (Wk.tokK T q.k).text.data.toList (Wk.tokK T q.k).place) := by
 rw [pe_atom, K34, K20]; cases h2 : q.isK T 2 with
 | true => simp [Wk.St.want, h2]
 | false =>
  simp only [Bool.false_eq_true, if_false, false_implies, and_true]; have hz : ∀ kd, kd ∈ [28, 3, 5, 18, 19] → q.isK T kd = false := by
   intro kd hk; cases hx : q.isK T kd with
   | false => rfl
   | true =>
    have e := Wk.isK_iff.1 hx; have : isVal T q = true := Wk.isIn_iff.2 ⟨e.1, by rw [e.2]; exact hk⟩; rw [this] at hV; cases hV
  unfold Wk.pValue; rw [hz 28 (by decide), hz 3 (by decide), hz 5 (by decide), hz 18 (by decide)]; simp [Wk.St.want, hz 19 (by decide), h2]
theorem x_atom_name (f nest : Nat) (q : Wk.St) (w : World) (b : Nat) (h : IN B s T w w b q nest) (hV : isVal T q = false) (K34 : q.isK T 34 = false) (K20 : q.isK T 20 = false) :
  Calls Tryz.prog 150 #[.pointer (some ⟨b, 0, none⟩)] w fun e w' => treeEnd w w' (Wk.pe T (f + 1) 6 nest q) e ∧ IN B s T w w' b (Wk.pe T (f + 1) 6 nest q).1 nest := by
 have HP : Hid _ := want_name (f := f) (nest := nest) hV K34 K20; obtain ⟨nk, nt, na, c1, c2, c3, hnx⟩ := h.nextc; have HNX : Hid _ := hnx; have hlt := h.blt; have HI : Hid (IN B s T w w b q nest) := h; have HBEL : Hid _ := two_bel w; clear h hnx; go_enter Tryz.func150, Tryz.ntmps150; go_wp2_with fail; refine (i_is (HI.out.below (HBEL.out _ _)) 20 ⟨#[110, 117, 108, 108]⟩).mono ?_; rintro e w1 ⟨rfl, hw1⟩; rw [hw1, K20]; clear hw1; go_wp2_with fail; refine (i_is (HI.out.below (HBEL.out _ _)) 34 ⟨#[40]⟩).mono ?_; rintro e w1 ⟨rfl, hw1⟩; rw [hw1, K34]; clear hw1; go_wp2_with fail; refine (i_value (HI.out.below (HBEL.out _ _))).mono ?_; rintro e w3 ⟨⟨t, rfl, ⟨op, x, na3, rfl⟩, ht⟩, hI3, hb3⟩; have hb3 := hb3 hV; rw [hV]; obtain ⟨hb4, u0, u1, hsz⟩ := below_two hb3; have hl0 : w.heap.size < w3.heap.size := by omega
 have hl1 : w.heap.size + 1 < w3.heap.size := by omega
 have HB4 : Hid _ := hb4; have U0 : Hid _ := u0; have U1 : Hid _ := u1; clear hI3 ht u0 u1 hV hb3 hb4 c1 c2 c3; unfold leaf; go_wp2_with fail; have hb5 : ∀ o, Below w.heap.size w (w3.alloc o) := fun o => HB4.out.alloc (by omega) _
 refine (i_kind_new HI.out (hb5 _) 110 (Or.inr (Or.inr rfl))).mono ?_; rintro e w5 ⟨⟨nk5, nt5, na5, rfl, -, ht5⟩, hI5, hk5⟩; rw [kindS_name] at hI5; have u0 := (hk5 w.heap.size (Nat.le_refl _) (by simp; omega)).trans (blk_alloc _ U0.out); have u1 := (hk5 (w.heap.size + 1) (by omega) (by simp; omega)).trans (blk_alloc _ U1.out); have y0 := bc 0 u0 rfl; have y1 := bc 1 u0 rfl; have y2 := bc 2 u0 rfl; have y3 := bc 3 u0 rfl; have yf := blk_free u0; have z1 := bc 1 u1 rfl; have z2 := bc 2 u1 rfl; have HI5 : Hid (IN B s T _ w5 b (q.want T 2) nest) := hI5; have V0 : Hid _ := u0; have HB5 : Hid _ := hb5; clear hI5 hk5 ht5 u0 u1 hb5; go_wp2_with fail; refine bodyPost_ret (v := tree ⟨#[110]⟩ nt na (.slice none 0 0)) (by simp [results, Tryz.results150, go_sem, tree, y0, y1, y2, y3]) rfl ⟨?_, ?_⟩
 ·refine ⟨_, nt, na, none, 0, 0, rfl, fun hb => ?_⟩; rw [HP.out.1] at hb; have hk := want_ok hb; have hx := HNX.out (Wk.isK_iff.1 hk).1; rw [HP.out.2 hk, hx.2.2, hx.2.1, rtext_name (Wk.isK_iff.1 hk).2]; exact tr_name _ _ _ _ _
 ·rw [HP.out.1]; exact (((HI.out.below (HB5.out _)).trans HI5.out).tree V0.out (Nat.le_refl _) _ _ _ _)
theorem x_atom_null (f nest : Nat) (q : Wk.St) (w : World) (b : Nat) (h : IN B s T w w b q nest) (K20 : q.isK T 20 = true) :
  Calls Tryz.prog 150 #[.pointer (some ⟨b, 0, none⟩)] w fun e w' => treeEnd w w' (Wk.pe T (f + 1) 6 nest q) e ∧ IN B s T w w' b (Wk.pe T (f + 1) 6 nest q).1 nest := by
 have hk := Wk.isK_iff.1 K20; have K34 : q.isK T 34 = false := by rw [isK_of hk.1 hk.2]; decide
 have K2 : q.isK T 2 = false := by rw [isK_of hk.1 hk.2]; decide
 have hV : isVal T q = false := by
  unfold isVal; cases hx : q.isIn T [28, 3, 5, 18, 19] with
  | false => rfl
  | true => have := (Wk.isIn_iff.1 hx).2; rw [hk.2] at this; revert this; decide
 have HP : Hid (Wk.pe T (f + 1) 6 nest q = (q.adv, Wk.semNull)) := by
  show _ = _; rw [pe_atom, K34, K2, K20]; rfl
 have HK : Hid _ := K20; clear hk K2; obtain ⟨nk, nt, na, c1, c2, c3, -⟩ := h.nextc; have hlt := h.blt; have HI : Hid (IN B s T w w b q nest) := h; have HBEL : Hid _ := two_bel w; clear h; go_enter Tryz.func150, Tryz.ntmps150; go_wp2_with fail; refine (i_is (HI.out.below (HBEL.out _ _)) 20 ⟨#[110, 117, 108, 108]⟩).mono ?_; rintro e w1 ⟨rfl, hw1⟩; rw [hw1, K20]; clear hw1; go_wp2_with fail; refine (i_is (HI.out.below (HBEL.out _ _)) 34 ⟨#[40]⟩).mono ?_; rintro e w1 ⟨rfl, hw1⟩; rw [hw1, K34]; clear hw1; go_wp2_with fail; refine (i_value (HI.out.below (HBEL.out _ _))).mono ?_; rintro e w3 ⟨⟨t, rfl, ⟨op, x, na3, rfl⟩, ht⟩, hI3, hb3⟩; have hb3 := hb3 hV; rw [hV]; obtain ⟨hb4, u0, u1, hsz⟩ := below_two hb3; have hl0 : w.heap.size < w3.heap.size := by omega
 have hl1 : w.heap.size + 1 < w3.heap.size := by omega
 have HB4 : Hid _ := hb4; have U0 : Hid _ := u0; have U1 : Hid _ := u1; clear hI3 ht u0 u1 hV hb3 hb4 c1 c2 c3; unfold leaf; go_wp2_with fail; have hb5 : ∀ o, Below w.heap.size w (w3.alloc o) := fun o => HB4.out.alloc (by omega) _
 refine (i_take_new HI.out (hb5 _)).mono ?_; rintro e w5 ⟨⟨nk5, nt5, na5, rfl, -, -⟩, hI5, hk5⟩; rw [takeS_adv HK.out (by decide) (by decide)] at hI5; have u0 := (hk5 w.heap.size (Nat.le_refl _) (by simp; omega)).trans (blk_alloc _ U0.out); have u1 := (hk5 (w.heap.size + 1) (by omega) (by simp; omega)).trans (blk_alloc _ U1.out); have y0 := bc 0 u0 rfl; have y1 := bc 1 u0 rfl; have y2 := bc 2 u0 rfl; have y3 := bc 3 u0 rfl; have yf := blk_free u0; have z2 := bc 2 u1 rfl; have HI5 : Hid (IN B s T _ w5 b q.adv nest) := hI5; have V0 : Hid _ := u0; have HB5 : Hid _ := hb5; clear hI5 hk5 u0 u1 hb5; go_wp2_with fail; refine bodyPost_ret (v := tree ⟨#[110, 117, 108, 108]⟩ ⟨#[]⟩ na (.slice none 0 0)) (by simp [results, Tryz.results150, go_sem, tree, y0, y1, y2, y3]) rfl ⟨?_, ?_⟩
 ·rw [HP.out]; exact ⟨_, _, na, none, 0, 0, rfl, fun _ => tr_null _ _ _ _ _⟩
 ·rw [HP.out]; exact (((HI.out.below (HB5.out _)).trans HI5.out).tree V0.out (Nat.le_refl _) _ _ _ _)
theorem x_atom_open (f nest : Nat) (hE : CE B s T f) (q : Wk.St) (w : World) (b : Nat) (h : IN B s T w w b q nest) (h10 : nest ≤ 10) (hm : meas T q 6 < f + 1) (K34 : q.isK T 34 = true) :
  Calls Tryz.prog 150 #[.pointer (some ⟨b, 0, none⟩)] w fun e w' => treeEnd w w' (Wk.pe T (f + 1) 6 nest q) e ∧ IN B s T w w' b (Wk.pe T (f + 1) 6 nest q).1 nest := by
 have hk := Wk.isK_iff.1 K34; have K20 : q.isK T 20 = false := by rw [isK_of hk.1 hk.2]; decide
 have hV : isVal T q = false := by
  unfold isVal; cases hx : q.isIn T [28, 3, 5, 18, 19] with
  | false => rfl
  | true => have := (Wk.isIn_iff.1 hx).2; rw [hk.2] at this; revert this; decide
 have HP : Hid (Wk.pe T (f + 1) 6 nest q = ((Wk.pe T f 7 (nest + 1) (q.opens T nest)).1.want T 35, (Wk.pe T f 7 (nest + 1) (q.opens T nest)).2)) := by
  show _ = _; rw [pe_atom, K34]; rfl
 have HK : Hid _ := K34; have HM : Hid (meas T (q.opens T nest) 7 < f) := by
  have h1 := meas_opens hk.1 (h.ok hk.1) nest 6; show _ < _; omega
 have HN : Hid ((q.opens T nest).bad = none → nest + 1 ≤ 10) := by
  exact opens_nest hk.1 h10
 clear hk hm; obtain ⟨nk, nt, na, c1, c2, c3, -⟩ := h.nextc; have hlt := h.blt; have HI : Hid (IN B s T w w b q nest) := h; have HBEL : Hid _ := two_bel w; clear h; go_enter Tryz.func150, Tryz.ntmps150; go_wp2_with fail; refine (i_is (HI.out.below (HBEL.out _ _)) 20 ⟨#[110, 117, 108, 108]⟩).mono ?_; rintro e w1 ⟨rfl, hw1⟩; rw [hw1, K20]; clear hw1; go_wp2_with fail; refine (i_is (HI.out.below (HBEL.out _ _)) 34 ⟨#[40]⟩).mono ?_; rintro e w1 ⟨rfl, hw1⟩; rw [hw1, K34]; clear hw1; go_wp2_with fail; refine (i_value (HI.out.below (HBEL.out _ _))).mono ?_; rintro e w3 ⟨⟨t, rfl, ⟨op, x, na3, rfl⟩, ht⟩, hI3, hb3⟩; have hb3 := hb3 hV; rw [hV]; obtain ⟨hb4, u0, u1, hsz⟩ := below_two hb3; have hl0 : w.heap.size < w3.heap.size := by omega
 have HB4 : Hid _ := hb4; have U0 : Hid _ := u0; clear hI3 ht u0 u1 hV hb3 hb4 c1 c2 c3; unfold leaf; go_wp2_with fail; have hb5 : ∀ o, Below w.heap.size w (w3.alloc o) := fun o => HB4.out.alloc (by omega) _
 refine (i_opens (HI.out.below (hb5 _)) (by omega) (by omega)).mono ?_; rintro e w5 ⟨rfl, hI5⟩; have HI5 : Hid (IN B s T w w5 b (if (nest : Int) = 10 then q.fail T else q) (nest + 1)) := (HI.out.below (hb5 _)).trans hI5; have V5 : Hid _ := hI5.tbox (blk_alloc _ U0.out); clear hI5 hb5; go_wp2_with fail; refine (i_take HI5.out).mono ?_; rintro e w6 ⟨⟨nk5, nt5, na5, rfl, -, -⟩, hI6⟩; rw [takeS_opens (Or.inl HK.out)] at hI6; have HI6 : Hid (IN B s T w w6 b (q.opens T nest) (nest + 1)) := HI5.out.trans hI6; have V6 : Hid _ := hI6.tbox V5.out; clear hI6; go_wp2_with fail; refine (hE (nest + 1) (q.opens T nest) w6 b HI6.out.self HN.out HM.out).mono ?_; rintro e w7 ⟨⟨op7, x7, na7, ad7, n7, c7, rfl, ht7⟩, hI7⟩; have HI7 : Hid (IN B s T w w7 b (Wk.pe T f 7 (nest + 1) (q.opens T nest)).1 ((nest + 1 : Nat) : Int)) := HI6.out.trans hI7; have V7 : Hid _ := hI7.tbox V6.out; have HT7 : Hid _ := ht7; have HS7 : Hid _ := hI7.size; clear hI7 ht7; unfold tree; go_wp2_with fail; refine (i_need (HI7.out.alloc _) 35 ⟨#[41]⟩).mono ?_; rintro e w8 ⟨rfl, hI8⟩; have u0 := hI8.tbox (blk_alloc _ V7.out); have u8 := hI8.tbox (heap_alloc_new _ _); have hs8 := hI8.size; rw [sz_alloc] at hs8; obtain ⟨c7', cf⟩ := hI8.rp.nestCell; have y0 := bc 0 u0 rfl; have y1 := bc 1 u0 rfl; have y2 := bc 2 u0 rfl; have y3 := bc 3 u0 rfl; have yf := blk_free u0; have z0 := bc 0 u8 rfl; have z1 := bc 1 u8 rfl; have z2 := bc 2 u8 rfl; have z3 := bc 3 u8 rfl; have HI8 : Hid (IN B s T w w8 b ((Wk.pe T f 7 (nest + 1) (q.opens T nest)).1.want T 35) ((nest + 1 : Nat) : Int)) := (HI7.out.alloc _).trans hI8; have V8 : Hid _ := u0; have hn1 : w.heap.size ≠ b := by omega
 have hn2 : w7.heap.size ≠ b := by have := HS7.out; have := HI6.out.size; omega
 have HK8 : Hid (KeepT w6.heap.size w7.heap.size w7 w8) := (KeepT.below ((Below.refl _ _).alloc (Nat.le_refl _) _) _ _).trans (KeepT.frT hI8.fr.toFrT (by decide) _ _); clear hI8 u0 u8; go_wp2_with fail; have hs6 := HI6.out.size; have hs7 := HS7.out; have hs67 : w.heap.size < w6.heap.size := lt_of_block V6.out; have hfin : ∀ (v0 v1 v2 v3 v4 : Value), ((((((w8.setCell ⟨b, 7, none⟩ v0).setCell ⟨w.heap.size, 0, none⟩ v1).setCell ⟨w.heap.size, 1, none⟩ v2).setCell ⟨w.heap.size, 2, none⟩ v3).setCell ⟨w.heap.size, 3, none⟩ v4)).heap.size = w8.heap.size := by
  intros; simp [World.setCell]
 refine bodyPost_ret (v := tree op7 x7 na7 (.slice ad7 n7 c7)) (by simp [results, Tryz.results150, go_sem, tree, y0, y1, y2, y3]) rfl ⟨?_, ?_⟩
 ·rw [HP.out]; refine ⟨op7, x7, na7, ad7, n7, c7, rfl, fun hb => ?_⟩; have ht := HT7.out ((Wk.le_want _ _ hb).1); rw [hfin]; refine ((ht.keep HK8.out).keep ?_).mono (by omega) (by omega); exact ((((KeepT.set (Or.inl (by omega)) _).trans (KeepT.set (Or.inl hs67) _)).trans (KeepT.set (Or.inl hs67) _)).trans (KeepT.set (Or.inl hs67) _)).trans (KeepT.set (Or.inl hs67) _)
 ·rw [HP.out]; exact (HI8.out.nestSet _).tree (by rw [blk_other _ hn1]; exact V8.out) (Nat.le_refl _) _ _ _ _
theorem x_atom (hQ : Quoted T) (f : Nat) (hE : CE B s T f) : CA B s T (f + 1) := by
 intro nest q w b h hn hm; cases hV : isVal T q with
 | true => exact x_atom_val hQ f nest q w b h hV
 | false =>
  cases K34 : q.isK T 34 with
  | true => exact x_atom_open f nest hE q w b h (hn (Wk.isK_iff.1 K34).1) hm K34
  | false =>
   cases K20 : q.isK T 20 with
   | true => exact x_atom_null f nest q w b h K20
   | false => exact x_atom_name f nest q w b h hV K34 K20
end
section
variable {B : Nat} {s : ByteArray} {T : List Wk.Tok}
theorem pe_expr (f nest : Nat) (q : Wk.St) : Wk.pe T (f + 1) 7 nest q =
  if q.isK T 21 then
   ((Wk.pe T f 7 (nest + 1) ((Wk.pe T f 7 (nest + 1) ((Wk.pe T f 7 (nest + 1) (q.opens T nest)).1.want T 22)).1.want T 23)).1,
    Wk.semIf (Wk.pe T f 7 (nest + 1) (q.opens T nest)).2 (Wk.pe T f 7 (nest + 1) ((Wk.pe T f 7 (nest + 1) (q.opens T nest)).1.want T 22)).2
     (Wk.pe T f 7 (nest + 1) ((Wk.pe T f 7 (nest + 1) ((Wk.pe T f 7 (nest + 1) (q.opens T nest)).1.want T 22)).1.want T 23)).2)
  else Wk.pe T f 0 nest q := by
 rw [Wk.pe]; simp
theorem KeepT.set4 {w : World} {lo hi k : Nat} (h : k < lo ∨ hi ≤ k) (v0 v1 v2 v3 : Value) : KeepT lo hi w ((((w.setCell ⟨k, 0, none⟩ v0).setCell ⟨k, 1, none⟩ v1).setCell ⟨k, 2, none⟩ v2).setCell ⟨k, 3, none⟩ v3) :=
 (((KeepT.set h _).trans (KeepT.set h _)).trans (KeepT.set h _)).trans (KeepT.set h _)
theorem size_set4 (w : World) (k : Nat) (v0 v1 v2 v3 : Value) : (((((w.setCell ⟨k, 0, none⟩ v0).setCell ⟨k, 1, none⟩ v1).setCell ⟨k, 2, none⟩ v2).setCell ⟨k, 3, none⟩ v3)).heap.size = w.heap.size := by simp [World.setCell]
theorem IN.keepT {w0 w : World} {b : Nat} {q : Wk.St} {nest : Int} (h : IN B s T w0 w b q nest) (lo hi : Nat) : KeepT lo hi w0 w := KeepT.frT h.fr.toFrT (by decide) lo hi
theorem x_expr_no (f nest : Nat) (hL : CL B s T 0 f) (q : Wk.St) (w : World) (b : Nat) (h : IN B s T w w b q nest) (hn : q.bad = none → nest ≤ 10) (hm : meas T q 7 < f + 1) (K21 : q.isK T 21 = false) :
  Calls Tryz.prog 76 #[.pointer (some ⟨b, 0, none⟩)] w fun e w' => treeEnd w w' (Wk.pe T (f + 1) 7 nest q) e ∧ IN B s T w w' b (Wk.pe T (f + 1) 7 nest q).1 nest := by
 have HP : Hid (Wk.pe T (f + 1) 7 nest q = Wk.pe T f 0 nest q) := by
  show _ = _; rw [pe_expr, K21]; rfl
 have HM : Hid (meas T q 0 < f) := by
  show _ < _; unfold meas rank at *; simp at *; omega
 have HN : Hid _ := hn; obtain ⟨nk, nt, na, -, -, c3, -⟩ := h.nextc; have hlt := h.blt; have HI : Hid (IN B s T w w b q nest) := h; clear h hm hn; go_enter Tryz.func76, Tryz.ntmps76; go_wp2_with fail; refine (i_is (HI.out.alloc _) 21 ⟨#[105, 102]⟩).mono ?_; rintro e w1 ⟨rfl, hw1⟩; rw [hw1, K21]; clear hw1; go_wp2_with fail; refine (hL nest q _ b (HI.out.alloc _).self HN.out HM.out).mono ?_; rintro e w7 ⟨⟨op7, x7, na7, ad7, n7, c7, rfl, ht7⟩, hI7⟩; have u0 := hI7.tbox (heap_alloc_new w _); have y0 := bc 0 u0 rfl; have y1 := bc 1 u0 rfl; have y2 := bc 2 u0 rfl; have y3 := bc 3 u0 rfl; have yf := blk_free u0; have V0 : Hid _ := u0; have HI7 : Hid (IN B s T w w7 b (Wk.pe T f 0 nest q).1 nest) := (HI.out.alloc _).trans hI7; have HT7 : Hid _ := ht7; have hs := hI7.size; rw [sz_alloc] at hs; clear u0 hI7 ht7; unfold tree; go_wp2_with fail; refine bodyPost_ret (v := tree op7 x7 na7 (.slice ad7 n7 c7)) (by simp [results, Tryz.results76, go_sem, tree, y0, y1, y2, y3]) rfl ⟨?_, ?_⟩
 ·rw [HP.out]; refine ⟨op7, x7, na7, ad7, n7, c7, rfl, fun hb => ?_⟩; have ht := HT7.out hb; rw [sz_alloc] at ht; rw [size_set4]; exact (ht.keep (KeepT.set4 (Or.inl (by omega)) _ _ _ _)).mono (by omega) (Nat.le_refl _)
 ·rw [HP.out]; exact HI7.out.tree V0.out (Nat.le_refl _) _ _ _ _
theorem x_expr_if (hT : Wk.Shut T) (f nest : Nat) (hE : CE B s T f) (q : Wk.St) (w : World) (b : Nat) (h : IN B s T w w b q nest) (h10 : nest ≤ 10) (hm : meas T q 7 < f + 1) (K21 : q.isK T 21 = true) :
  Calls Tryz.prog 76 #[.pointer (some ⟨b, 0, none⟩)] w fun e w' => treeEnd w w' (Wk.pe T (f + 1) 7 nest q) e ∧ IN B s T w w' b (Wk.pe T (f + 1) 7 nest q).1 nest := by
 have HP : Hid _ := pe_expr (T := T) f nest q; rw [K21] at HP; have hk := Wk.isK_iff.1 K21; have HK : Hid _ := K21; have hm0 := meas_opens hk.1 (h.ok hk.1) nest 7; have hn0 := opens_nest (T := T) hk.1 h10; generalize hq0 : q.opens T nest = q0 at *
 have g1 : q0.le (Wk.pe T f 7 (nest + 1) q0).1 := (Wk.goes_pe hT f 7 (nest + 1) q0).1; generalize hr1 : Wk.pe T f 7 (nest + 1) q0 = r1 at *
 have g2 := Wk.St.le_trans g1 (Wk.le_want (T := T) r1.1 22); generalize hq1 : r1.1.want T 22 = q1 at *
 have g3 : q1.le (Wk.pe T f 7 (nest + 1) q1).1 := (Wk.goes_pe hT f 7 (nest + 1) q1).1; generalize hr2 : Wk.pe T f 7 (nest + 1) q1 = r2 at *
 have g4 := Wk.St.le_trans g3 (Wk.le_want (T := T) r2.1 23); generalize hq2 : r2.1.want T 23 = q2 at *
 have g5 : q2.le (Wk.pe T f 7 (nest + 1) q2).1 := (Wk.goes_pe hT f 7 (nest + 1) q2).1; have G12 : Hid (r1.1.le q1) := by rw [← hq1]; exact Wk.le_want (T := T) r1.1 22
 have G23 : Hid (r2.1.le q2) := by rw [← hq2]; exact Wk.le_want (T := T) r2.1 23
 have HQ0 : Hid _ := hq0; have HR1 : Hid _ := hr1; have HQ1 : Hid _ := hq1; have HR2 : Hid _ := hr2; have HQ2 : Hid _ := hq2; have M0 : Hid (meas T q0 7 < f) := by show _ < _; omega
 have M1 : Hid (meas T q1 7 < f) := by have := meas_le (T := T) g2 7; show _ < _; omega
 have M2 : Hid (meas T q2 7 < f) := by have := meas_le (T := T) (Wk.St.le_trans g2 g4) 7; show _ < _; omega
 have N0 : Hid _ := hn0; have N1 : Hid (q1.bad = none → nest + 1 ≤ 10) := fun e => hn0 (g2 e).1
 have N2 : Hid (q2.bad = none → nest + 1 ≤ 10) := fun e => hn0 ((Wk.St.le_trans g2 g4) e).1
 have G3 : Hid _ := g3; have G5 : Hid _ := g5; clear g1 g2 g3 g4 g5 hm0 hn0 hq0 hr1 hq1 hr2 hq2 hm hk; obtain ⟨nk, nt, na, -, -, c3, -⟩ := h.nextc; have hlt := h.blt; have HI : Hid (IN B s T w w b q nest) := h; clear h; go_enter Tryz.func76, Tryz.ntmps76; go_wp2_with fail; refine (i_is (HI.out.alloc _) 21 ⟨#[105, 102]⟩).mono ?_; rintro e w1 ⟨rfl, hw1⟩; rw [hw1, K21]; clear hw1; go_wp2_with fail; refine (i_opens (HI.out.alloc _) (by omega) (by omega)).mono ?_; rintro e w2 ⟨rfl, hI2⟩; have HI2 : Hid (IN B s T w w2 b (if (nest : Int) = 10 then q.fail T else q) (nest + 1)) := (HI.out.alloc _).trans hI2; have V2 : Hid _ := hI2.tbox (heap_alloc_new w _); clear hI2 c3; go_wp2_with fail; refine (i_take HI2.out).mono ?_; rintro e w3 ⟨⟨nk5, nt5, na5, rfl, -, -⟩, hI3⟩; rw [takeS_opens (Or.inr HK.out), HQ0.out] at hI3; have HI3 : Hid (IN B s T w w3 b q0 (nest + 1)) := HI2.out.trans hI3; have V3 : Hid _ := hI3.tbox V2.out; clear hI3; go_wp2_with fail; refine (hE (nest + 1) q0 w3 b HI3.out.self N0.out M0.out).mono ?_; rintro e w4 ⟨⟨opA, xA, naA, adA, nA, cA, rfl, htA⟩, hI4⟩; rw [HR1.out] at hI4 htA; have HI4 : Hid (IN B s T w w4 b r1.1 ((nest + 1 : Nat) : Int)) := HI3.out.trans hI4; have V4 : Hid _ := hI4.tbox V3.out; have HTA : Hid _ := htA; have S4 : Hid _ := hI4.size; clear hI4 htA; unfold tree; go_wp2_with fail; refine (i_need (HI4.out.alloc _) 22 ⟨#[116, 104, 101, 110]⟩).mono ?_; rintro e w5 ⟨rfl, hI5⟩; rw [HQ1.out] at hI5; have HI5 : Hid (IN B s T w w5 b q1 ((nest + 1 : Nat) : Int)) := (HI4.out.alloc _).trans hI5; have V5 : Hid _ := hI5.tbox (blk_alloc _ V4.out); have A5 : Hid _ := hI5.tbox (heap_alloc_new _ _); have KA5 : Hid (KeepT w3.heap.size w4.heap.size w4 w5) := (KeepT.below ((Below.refl _ _).alloc (Nat.le_refl _) _) _ _).trans (hI5.keepT _ _); have S5 : Hid _ := hI5.size; clear hI5; go_wp2_with fail; refine (hE (nest + 1) q1 w5 b HI5.out.self N1.out M1.out).mono ?_; rintro e w6 ⟨⟨opB, xB, naB, adB, nB, cB, rfl, htB⟩, hI6⟩; rw [HR2.out] at hI6 htB; have HI6 : Hid (IN B s T w w6 b r2.1 ((nest + 1 : Nat) : Int)) := HI5.out.trans hI6; have V6 : Hid _ := hI6.tbox V5.out; have A6 : Hid _ := hI6.tbox A5.out; have KA6 : Hid (KeepT w3.heap.size w4.heap.size w4 w6) := KA5.out.trans (hI6.keepT _ _); have HTB : Hid _ := htB; have S6 : Hid _ := hI6.size; clear hI6 htB; unfold tree; go_wp2_with fail; refine (i_need (HI6.out.alloc _) 23 ⟨#[101, 108, 115, 101]⟩).mono ?_; rintro e w7 ⟨rfl, hI7⟩; rw [HQ2.out] at hI7; have HI7 : Hid (IN B s T w w7 b q2 ((nest + 1 : Nat) : Int)) := (HI6.out.alloc _).trans hI7; have V7 : Hid _ := hI7.tbox (blk_alloc _ V6.out); have A7 : Hid _ := hI7.tbox (blk_alloc _ A6.out); have B7 : Hid _ := hI7.tbox (heap_alloc_new _ _); have KA7 : Hid (KeepT w3.heap.size w4.heap.size w4 w7) := (KA6.out.trans (KeepT.below ((Below.refl _ _).alloc (Nat.le_refl _) _) _ _)).trans (hI7.keepT _ _); have KB7 : Hid (KeepT w5.heap.size w6.heap.size w6 w7) := (KeepT.below ((Below.refl _ _).alloc (Nat.le_refl _) _) _ _).trans (hI7.keepT _ _); have S7 : Hid _ := hI7.size; clear hI7; go_wp2_with fail; refine (hE (nest + 1) q2 w7 b HI7.out.self N2.out M2.out).mono ?_; rintro e w8 ⟨⟨opC, xC, naC, adC, nC, cC, rfl, htC⟩, hI8⟩; have HI8 : Hid (IN B s T w w8 b (Wk.pe T f 7 (nest + 1) q2).1 ((nest + 1 : Nat) : Int)) := HI7.out.trans hI8; have V8 : Hid _ := hI8.tbox V7.out; have A8 : Hid _ := hI8.tbox A7.out; have B8 : Hid _ := hI8.tbox B7.out; have KA8 : Hid (KeepT w3.heap.size w4.heap.size w4 w8) := KA7.out.trans (hI8.keepT _ _); have KB8 : Hid (KeepT w5.heap.size w6.heap.size w6 w8) := KB7.out.trans (hI8.keepT _ _); have HTC : Hid _ := htC; have S8 : Hid _ := hI8.size; obtain ⟨cn, cf⟩ := hI8.rp.nestCell; have y0 := bc 0 V8.out rfl; have y1 := bc 1 V8.out rfl; have y2 := bc 2 V8.out rfl; have y3 := bc 3 V8.out rfl; have yf := blk_free V8.out; have a0 := bc 0 A8.out rfl; have a1 := bc 1 A8.out rfl; have a2 := bc 2 A8.out rfl; have a3 := bc 3 A8.out rfl; have b0 := bc 0 B8.out rfl; have b1 := bc 1 B8.out rfl; have b2 := bc 2 B8.out rfl; have b3 := bc 3 B8.out rfl; have s3 := HI3.out.size; have s4 := S4.out; have s5 := S5.out; have s6 := S6.out; have s7 := S7.out; have s8 := S8.out; rw [sz_alloc] at s5 s7; have l3 : w.heap.size < w3.heap.size := lt_of_block V3.out; have n1 : w.heap.size ≠ b := by omega
 have n2 : w4.heap.size ≠ b := by omega
 have n3 : w6.heap.size ≠ b := by omega
 have n4 : w8.heap.size ≠ b := by omega
 have m1 : w.heap.size < w8.heap.size := by omega
 have m2 : w4.heap.size < w8.heap.size := by omega
 have m3 : w6.heap.size < w8.heap.size := by omega
 have m4 : b < w8.heap.size := by omega
 clear hI8 htC; unfold tree; go_wp2_with fail; refine bodyPost_ret (v := tree ⟨#[105, 102]⟩ ⟨#[]⟩ na (.slice (some ⟨w8.heap.size + 1, 0, none⟩) 3 3)) (by simp [results, Tryz.results76, go_sem, tree, y0, y1, y2, y3, m1]) rfl ⟨?_, ?_⟩
 ·rw [HP.out]; refine ⟨_, _, na, _, 3, 3, rfl, fun hb => ?_⟩; have hb2 : r2.1.bad = none := (G23.out (G5.out hb).1).1; have hb1 : r1.1.bad = none := (G12.out (G3.out hb2).1).1; have tA := HTA.out hb1; have tB := HTB.out hb2; have tC := HTC.out hb; rw [sz_alloc, sz_alloc, size_set4]; have hX : (w8.setCell ⟨b, 7, none⟩ (.int .i64 nest)).heap.size = w8.heap.size := by simp [World.setCell]
  rw [hX]; generalize hY : ((((w8.setCell ⟨b, 7, none⟩ (.int .i64 nest)).setCell ⟨w.heap.size, 0, none⟩ (.string ⟨#[105, 102]⟩)).setCell ⟨w.heap.size, 1, none⟩ (.string ⟨#[]⟩)).setCell ⟨w.heap.size, 2, none⟩ (.int .i64 na)).setCell ⟨w.heap.size, 3, none⟩ (.slice (some ⟨w8.heap.size + 1, 0, none⟩) 3 3) = Y; have hYs : Y.heap.size = w8.heap.size := by rw [← hY, size_set4, hX]
  have KY : ∀ lo hi, w3.heap.size ≤ lo → KeepT lo hi w8 Y := by
   intro lo hi h; rw [← hY]; exact (KeepT.set (Or.inl (by omega)) _).trans (KeepT.set4 (Or.inl (by omega)) _ _ _ _)
  have KF : ∀ lo hi o o', w3.heap.size ≤ lo → KeepT lo hi w8 ((Y.alloc o).alloc o') := fun lo hi o o' h => (KY lo hi h).trans (KeepT.below (two_bel Y o o') lo hi)
  have hrow := (below_two (Below.refl _ ((Y.alloc (Obj.cells #[Value.string opC, Value.string xC, Value.int IntKind.i64 naC, Value.slice adC nC cC] 107)).alloc (Obj.cells #[Value.string opA, Value.string xA, Value.int IntKind.i64 naA, Value.slice adA nA cA, Value.string opB, Value.string xB, Value.int IntKind.i64 naB, Value.slice adB nB cB, Value.string opC, Value.string xC, Value.int IntKind.i64 naC, Value.slice adC nC cC] 107)))).2.2.1; rw [hYs] at hrow; refine tr_if _ _ _ _ _ _ _ _ _ _ _ _ (kids3 hrow (by omega) (by omega)) ?_ ?_ ?_
  ·exact ((tA.keep KA8.out).keep (KF _ _ _ _ (Nat.le_refl _))).mono (by omega) (by omega)
  ·exact ((tB.keep KB8.out).keep (KF _ _ _ _ (by omega))).mono (by omega) (by omega)
  ·exact (tC.keep (KF _ _ _ _ (by omega))).mono (by omega) (by omega)
 ·rw [HP.out]; exact (((HI8.out.nestSet _).tree (by rw [blk_other _ n1]; exact V8.out) (Nat.le_refl _) _ _ _ _).alloc _).alloc _
theorem x_expr (hT : Wk.Shut T) (f : Nat) (hE : CE B s T f) (hL : CL B s T 0 f) : CE B s T (f + 1) := by
 intro nest q w b h hn hm; cases K21 : q.isK T 21 with
 | true => exact x_expr_if hT f nest hE q w b h (hn (Wk.isK_iff.1 K21).1) hm K21
 | false => exact x_expr_no f nest hL q w b h hn hm K21
end
end Go.Proofs.YtbkaghlklkdmkaaGreatDoor
