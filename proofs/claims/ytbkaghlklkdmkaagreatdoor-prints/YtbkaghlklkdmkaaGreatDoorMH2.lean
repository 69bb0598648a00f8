/-
  The program's values, types and items in memory. The program's types: Has, With, Holds; unquote; number. The program's expressions, by what own and fits answer at them; allFit, firstOwn. The checker: firstOwn, own.
-/
import Derived.Test.YtbkaghlklkdmkaaGreatDoorMB
import Derived.Test.YtbkaghlklkdmkaaGreatDoorMO
import Derived.Test.YtbkaghlklkdmkaaGreatDoorShelf
import Derived.Deep.LoopGhost
set_option maxRecDepth 100000
set_option maxHeartbeats 8000000
namespace Go.Proofs.YtbkaghlklkdmkaaGreatDoor
open Go.RowKit
def wd (t : Wk.Ty) (k : Nat) : ByteArray := ⟨(t.2.getD k []).toArray⟩
def tyCells (t : Wk.Ty) : List Value := [.int .i64 (t.1 : Nat), .int .i64 (t.2.length : Nat), .string (wd t 0), .string (wd t 1), .string (wd t 2), .string (wd t 3), .string (wd t 4), .string (wd t 5)]
def tyV (t : Wk.Ty) : Value := .agg #[.int .i64 (t.1 : Nat), .int .i64 (t.2.length : Nat), .string (wd t 0), .string (wd t 1), .string (wd t 2), .string (wd t 3), .string (wd t 4), .string (wd t 5)]
structure VR where
 kd : Nat
 no : Int
 tr : Bool
 tx : ByteArray
def VR.val (v : VR) : Value := .agg #[.int .i64 v.kd, .int .i64 v.no, .bool v.tr, .string v.tx]
def VR.ok (v : VR) (p : Wk.PVal) : Prop := v.kd = p.1 ∧ (p.1 = 3 → v.tx.data.toList = p.2)
structure IR where
 kd : Nat
 nm : ByteArray
 ty : Wk.Ty
 ex : Value
 po : Nat
 cv : Value
 rv : Value
 tv : Value
def IR.cells (r : IR) : List Value := [.int .i64 r.kd, .string r.nm, .int .i64 (r.ty.1 : Nat), .int .i64 (r.ty.2.length : Nat), .string (wd r.ty 0), .string (wd r.ty 1), .string (wd r.ty 2), .string (wd r.ty 3), .string (wd r.ty 4), .string (wd r.ty 5), r.ex, .int .i64 r.po, r.cv, r.rv, r.tv]
def IR.val (r : IR) : Value := .agg #[.int .i64 r.kd, .string r.nm, .int .i64 (r.ty.1 : Nat), .int .i64 (r.ty.2.length : Nat), .string (wd r.ty 0), .string (wd r.ty 1), .string (wd r.ty 2), .string (wd r.ty 3), .string (wd r.ty 4), .string (wd r.ty 5), r.ex, .int .i64 r.po, r.cv, r.rv, r.tv]
def IR.flat (l : List IR) : List Value := (l.map IR.cells).flatten
theorem IR.flat_snoc (l : List IR) (r : IR) : IR.flat (l ++ [r]) = IR.flat l ++ r.cells := by simp [IR.flat]
def irNames (l : List IR) : List Wk.Name := l.map (fun r => r.nm.data.toList)
theorem flat_at {α : Type} (f : α → List Value) (k : Nat) (hk : ∀ x, (f x).length = k) : ∀ (l : List α) (j : Nat) (x : α), l[j]? = some x → ∀ i v, (f x)[i]? = some v → ((l.map f).flatten)[j * k + i]? = some v := by
 intro l; induction l with
 | nil => intro j x h; simp at h
 | cons y l ih =>
  intro j x hj i v hi; rw [List.map_cons, List.flatten_cons]; cases j with
  | zero =>
   have e : y = x := by simpa using hj
   subst e; rw [Nat.zero_mul, Nat.zero_add, List.getElem?_append_left (List.getElem?_eq_some_iff.1 hi).1]; exact hi
  | succ j =>
   rw [List.getElem?_append_right (by rw [hk, Nat.succ_mul]; omega), hk, show (j + 1) * k + i - k = j * k + i by rw [Nat.succ_mul]; omega]; exact ih j x (by simpa using hj) i v hi
theorem wd_inj {a b : Wk.Ty} (ha : a.2.length ≤ 6) (hl : a.2.length = b.2.length) (h : ∀ k, k < 6 → wd a k = wd b k) : a.2 = b.2 := by
 apply List.ext_getElem hl; intro k h1 h2; have := h k (by omega); unfold wd at this; have h3 := congrArg (fun x : ByteArray => x.data.toList) this; simpa [List.getD_eq_getElem?_getD, h1, h2] using h3
theorem tyV_plain (k : Nat) : tyV (k, []) = .agg #[.int .i64 k, .int .i64 0, .string ⟨#[]⟩, .string ⟨#[]⟩, .string ⟨#[]⟩, .string ⟨#[]⟩, .string ⟨#[]⟩, .string ⟨#[]⟩] := rfl
theorem p_ownLit (v : VR) (w : World) : Calls Tryz.prog 208 #[.agg #[.int .i64 v.kd, .int .i64 v.no, .bool v.tr, .string v.tx]] w fun e w' => e = .returned (tyV (if v.kd = 3 then (0, []) else (v.kd, []))) ∧ Below w.heap.size w w' := by
 have HB : Hid (∀ o1 o2, Below w.heap.size w ((w.alloc o1).alloc o2)) := fun _ _ => ((Below.refl _ _).alloc (Nat.le_refl _) _).alloc (by simp) _
 by_cases h : v.kd = 3
 ·have d1 : ((v.kd : Int) == 3) = true := by rw [beq_iff_eq]; omega
  rw [if_pos h]; clear h; go_enter Tryz.func208, Tryz.ntmps208; go_wp2_with fail; exact bodyPost_ret (v := .agg #[.int .i64 0, .int .i64 0, .string ⟨#[]⟩, .string ⟨#[]⟩, .string ⟨#[]⟩, .string ⟨#[]⟩, .string ⟨#[]⟩, .string ⟨#[]⟩]) (by simp [results, Tryz.results208, go_sem]) rfl ⟨rfl, HB.out _ _⟩
 ·have d1 : ((v.kd : Int) == 3) = false := by rw [beq_eq_false_iff_ne]; omega
  rw [if_neg h]; clear h; go_enter Tryz.func208, Tryz.ntmps208; go_wp2_with fail; exact bodyPost_ret (v := .agg #[.int .i64 v.kd, .int .i64 0, .string ⟨#[]⟩, .string ⟨#[]⟩, .string ⟨#[]⟩, .string ⟨#[]⟩, .string ⟨#[]⟩, .string ⟨#[]⟩]) (by simp [results, Tryz.results208, go_sem]) rfl ⟨rfl, HB.out _ _⟩
theorem p_needsInt (p : Nat) (w : World) : Calls Tryz.prog 146 #[.int .i64 p] w fun e w' => e = .returned (.bool (!(p == 0 || p == 1))) ∧ w' = w := by
 have h0 : ((p : Int) != 0) = !(p == 0) := by rw [Bool.eq_iff_iff]; simp
 have h1 : ((p : Int) != 1) = !(p == 1) := by rw [Bool.eq_iff_iff]; simp; omega
 cases h : (p == 0) with
 | true =>
  rw [h] at h0; go_enter Tryz.func146, Tryz.ntmps146; go_wp2_with fail; go_ret; exact ⟨rfl, rfl⟩
 | false =>
  rw [h] at h0; go_enter Tryz.func146, Tryz.ntmps146; go_wp2_with fail; go_ret; exact ⟨rfl, rfl⟩
def wds (t : Wk.Ty) : List ByteArray := [wd t 0, wd t 1, wd t 2, wd t 3, wd t 4, wd t 5]
theorem wds_take {t : Wk.Ty} (ht : t.2.length ≤ 6) : (wds t).take t.2.length = t.2.map (fun l => (⟨l.toArray⟩ : ByteArray)) := by
 obtain ⟨k, ws⟩ := t; rcases ws with _ | ⟨a, _ | ⟨b, _ | ⟨c, _ | ⟨d, _ | ⟨e, _ | ⟨f, _ | ⟨g, r⟩⟩⟩⟩⟩⟩⟩ <;> first | rfl | (simp at ht)
theorem wds_contains {t : Wk.Ty} (ht : t.2.length ≤ 6) (x : ByteArray) : Lib.containsS ((wds t).take t.2.length) x = t.2.contains x.data.toList := by
 rw [Bool.eq_iff_iff, Lib.containsS_iff, wds_take ht, List.mem_map, List.contains_iff_mem]; constructor
 ·rintro ⟨l, hl, rfl⟩; simpa using hl
 ·intro h; exact ⟨_, h, by cases x; simp⟩
theorem p_Has (t : Wk.Ty) (ht : t.2.length ≤ 6) (x : ByteArray) (w : World) : Calls Tryz.prog 177 #[tyV t, .string x] w fun e w' => e = .returned (.bool (t.2.contains x.data.toList)) ∧ Below w.heap.size w w' := by
 have HB : Hid (∀ o1, Below w.heap.size w (w.alloc o1)) := fun _ => (Below.refl _ _).alloc (Nat.le_refl _) _
 have hu := heap_alloc_new w (.cells (tyCells t).toArray 69); have HC : Hid (∀ j, j < (wds t).length → (w.alloc (.cells (tyCells t).toArray 69)).cell? ⟨w.heap.size, 2 + j, none⟩ = some (.string ((wds t).getD j ByteArray.empty))) := by
  intro j hj; refine blk_cell (o := 2 + j) (t := 69) hu ?_; have hj : j < 6 := hj; have : j = 0 ∨ j = 1 ∨ j = 2 ∨ j = 3 ∨ j = 4 ∨ j = 5 := by omega
  rcases this with rfl | rfl | rfl | rfl | rfl | rfl <;> rfl
 have HW : Hid _ := wds_contains ht x; have h0 : (0 : Int) ≤ (t.2.length : Int) := by omega
 have h1 : (t.2.length : Int) ≤ 6 := by omega
 clear hu; unfold tyV; unfold tyCells at HC; go_enter Tryz.func177, Tryz.ntmps177; go_wp2_with fail; refine (Tryz.slices_Contains_string w.heap.size 2 t.2.length 6 (wds t) x _ (by show _ ≤ 6; omega) (by omega) HC.out).mono ?_; rintro e w' ⟨rfl, rfl⟩; go_wp2_with fail; go_ret; exact ⟨by rw [HW.out]; rfl, HB.out _⟩
theorem p_With (t : Wk.Ty) (ht : t.2.length ≤ 6) (x : ByteArray) (w : World) : Calls Tryz.prog 201 #[tyV t, .string x] w fun e w' => e = .returned (tyV (if t.2.length < 6 then (t.1, t.2 ++ [x.data.toList]) else t)) ∧ Below w.heap.size w w' := by
  have HB : Hid (∀ o1 o2, Below w.heap.size w ((w.alloc o1).alloc o2)) := fun _ _ => ((Below.refl _ _).alloc (Nat.le_refl _) _).alloc (by simp) _
  obtain ⟨x⟩ := x; obtain ⟨x⟩ := x; obtain ⟨k, ws⟩ := t; rcases ws with _ | ⟨a, _ | ⟨b, _ | ⟨c, _ | ⟨d, _ | ⟨e, _ | ⟨f, _ | ⟨g, r⟩⟩⟩⟩⟩⟩⟩
  all_goals first
    | (exfalso; simp at ht; done)
    | (clear ht
       unfold tyV; simp only [List.length_nil, List.length_cons, Nat.reduceAdd, Nat.reduceLT, if_true, if_false, List.nil_append, List.cons_append, wd, List.getD_cons_zero, List.getD_cons_succ, List.getD_nil]; go_enter Tryz.func201, Tryz.ntmps201; go_wp2_with fail; exact bodyPost_ret (by simp [results, Tryz.results201, go_sem]) rfl ⟨rfl, HB.out _ _⟩)
def vHolds (t : Wk.Ty) (v : VR) : Bool := if v.kd = 0 then true else if v.kd = 3 then t.1 == 3 && t.2.contains v.tx.data.toList else t.1 == v.kd
theorem vHolds_ok {v : VR} {p : Wk.PVal} (h : v.ok p) (hp : p.1 ≠ 0) (t : Wk.Ty) : vHolds t v = Wk.holds t p := by
 unfold vHolds Wk.holds; rw [h.1, if_neg hp]; by_cases h3 : p.1 = 3
 ·rw [if_pos h3, if_pos h3, h.2 h3]
 ·rw [if_neg h3, if_neg h3]
theorem p_Holds (t : Wk.Ty) (ht : t.2.length ≤ 6) (v : VR) (w : World) : Calls Tryz.prog 143 #[tyV t, v.val] w fun e w' => e = .returned (.bool (vHolds t v)) ∧ Below w.heap.size w w' := by
 have HB : Hid (∀ o1 o2, Below w.heap.size w ((w.alloc o1).alloc o2)) := fun _ _ => ((Below.refl _ _).alloc (Nat.le_refl _) _).alloc (by simp) _
 have HT : Hid _ := ht; clear ht; obtain ⟨kd, no, tr, tx⟩ := v; by_cases h0 : kd = 0
 ·subst h0; unfold tyV VR.val; go_enter Tryz.func143, Tryz.ntmps143; go_wp2_with fail; go_ret; exact ⟨rfl, HB.out _ _⟩
 ·have d0 : ((kd : Int) == 0) = false := by rw [beq_eq_false_iff_ne]; omega
  by_cases h3 : kd = 3
  ·subst h3; clear d0 h0; cases hk : (t.1 == 3) with
   | false =>
    have d3 : ((t.1 : Int) == 3) = false := by rw [beq_eq_false_iff_ne] at *; omega
    have HE : Hid (vHolds t ⟨3, no, tr, tx⟩ = false) := by
     show _ = _; unfold vHolds; simp [hk]
    clear hk; unfold tyV VR.val; go_enter Tryz.func143, Tryz.ntmps143; go_wp2_with fail; go_ret; exact ⟨by rw [HE.out]; rfl, HB.out _ _⟩
   | true =>
    have d3 : ((t.1 : Int) == 3) = true := by rw [beq_iff_eq] at *; omega
    have HE : Hid (vHolds t ⟨3, no, tr, tx⟩ = t.2.contains tx.data.toList) := by
     show _ = _; unfold vHolds; simp [hk]
    clear hk; unfold tyV VR.val; go_enter Tryz.func143, Tryz.ntmps143; go_wp2_with fail; refine (p_Has t HT.out tx _).mono ?_; rintro e w' ⟨rfl, hb⟩; generalize t.2.contains tx.data.toList = cb at *
    go_wp2_with fail; go_ret; exact ⟨by rw [HE.out]; rfl, (HB.out _ _).trans (hb.mono (HB.out _ _).size)⟩
  ·have d3 : ((kd : Int) == 3) = false := by rw [beq_eq_false_iff_ne]; omega
   have HE : Hid (vHolds t ⟨kd, no, tr, tx⟩ = ((t.1 : Int) == (kd : Int))) := by
    show _ = _; unfold vHolds; rw [if_neg h0, if_neg h3, Bool.eq_iff_iff, beq_iff_eq, beq_iff_eq]; show t.1 = kd ↔ _; omega
   clear h0 h3; unfold tyV VR.val; go_enter Tryz.func143, Tryz.ntmps143; go_wp2_with fail; go_ret; exact ⟨by rw [HE.out]; rfl, HB.out _ _⟩
def drewish (w w' : World) : Prop := w' = w ∨ w' = w.drew
theorem drewish.below {w w' : World} (h : drewish w w') : Below w.heap.size w w' := by
 rcases h with rfl | rfl
 ·exact Below.refl _ _
 ·exact (Below.refl _ _).drew
theorem p_unquote (s : ByteArray) (hs : s.size ≤ 2000) (w : World) : Calls Tryz.prog 200 #[.string s] w fun e w' => e = .returned (.string ⟨(Lib.trimB s.data.toList 34).toArray⟩) ∧ Below w.heap.size w w' := by
 go_enter Tryz.func200, Tryz.ntmps200; go_wp2_with fail; refine (Tryz.strings_Trim_one s 34 (by decide) _ (by omega)).mono ?_; rintro e w' ⟨rfl, hw⟩; have HW : Hid (Below w.heap.size w w') := drewish.below hw; clear hw; go_wp2_with fail; go_ret; exact ⟨rfl, HW.out⟩
theorem p_parse (s : ByteArray) (hs : s.size ≤ 2000) (w : World) (hG : Gl w) : Calls Tryz.prog 164 #[.string s, .int .i64 10, .int .i64 64] w fun e w' => ∃ n ev, e = .returned (.tuple #[.int .i64 n, ev]) ∧ Below w.heap.size w w' := by
 cases h : Lib.parseIntB 64 s.data.toList
 ·rename_i v; refine (Tryz.strconv_ParseInt_10_at64_ok s (by omega) v h w).mono ?_; rintro e w' ⟨rfl, hw⟩; refine ⟨v, .nilIface, rfl, ?_⟩; rcases hw with rfl | ⟨x, rfl⟩
  ·exact Below.refl _ _
  ·exact Lib.bytesWorld_below _ _ _
 ·obtain ⟨t, v, he⟩ := hG.errS; refine (Any.strconv_ParseInt_10_at64_syntax Tryz.laysC174 s (by omega) h _ w he (Or.inr ⟨_, _, rfl⟩)).mono ?_; rintro e w' ⟨n, rfl, -, -, hb⟩; exact ⟨_, _, rfl, hb⟩
 ·obtain ⟨t, v, he⟩ := hG.errR; refine (Tryz.strconv_ParseInt_10_at64_range s (by omega) h _ w he (Or.inr ⟨_, _, rfl⟩)).mono ?_; rintro e w' ⟨n, rfl, -, -, hb⟩; exact ⟨_, _, rfl, hb⟩
theorem p_number (s : ByteArray) (hs : s.size ≤ 2000) (w : World) (hG : Gl w) : Calls Tryz.prog 271 #[.string s] w fun e w' => (∃ n, e = .returned (.agg #[.int .i64 1, .int .i64 n, .bool false, .string ⟨#[]⟩])) ∧ Below w.heap.size w w' := by
 have HG : Hid (∀ o, Gl (w.alloc o)) := fun o => hG.belowAll ((Below.refl _ _).alloc (Nat.le_refl _) _)
 have HB : Hid (∀ o1, Below w.heap.size w (w.alloc o1)) := fun _ => (Below.refl _ _).alloc (Nat.le_refl _) _
 clear hG; go_enter Tryz.func271, Tryz.ntmps271; go_wp2_with fail; refine (p_parse s hs _ (HG.out _)).mono ?_; rintro e w' ⟨n, ev, rfl, hb⟩; have u := (hb.block w.heap.size (by simp)).trans (heap_alloc_new w _); have cf := blk_free u; have HW : Hid (Below w.heap.size w w') := (HB.out _).trans (hb.mono (HB.out _).size); have c0 := bc 0 u rfl; have c1 := bc 1 u rfl; have c2 := bc 2 u rfl; have c3 := bc 3 u rfl; clear hb u; go_wp2_with fail; exact bodyPost_ret (v := .agg #[.int .i64 1, .int .i64 n, .bool false, .string ⟨#[]⟩]) (by simp [results, Tryz.results271, go_sem, c0, c1, c2, c3]) rfl ⟨⟨n, rfl⟩, (((HW.out.setCell (by simp) _).setCell (by simp) _).setCell (by simp) _).setCell (by simp) _⟩
def KeepN (w w' : World) : Prop := ∀ (k : Nat) (cs : Array Value) (t : TypeId) (fr : Nat × Nat), t = 246 ∨ t = 70 → w.heap[k]? = some (.cells cs t fr) → w'.heap[k]? = some (.cells cs t fr)
theorem KeepN.refl (w : World) : KeepN w w := fun _ _ _ _ _ h => h
theorem KeepN.trans {a b c : World} (h : KeepN a b) (k : KeepN b c) : KeepN a c := fun i cs t fr ht hi => k i cs t fr ht (h i cs t fr ht hi)
theorem KeepN.below {w w' : World} (h : Below w.heap.size w w') : KeepN w w' := fun k _ _ _ _ hk => (h.block k (lt_of_block hk)).trans hk
theorem KeepN.fr {M : Nat → Prop} {w w' : World} (h : Fr M w w') (hm : ∀ k cs t fr, M k → w.heap[k]? = some (.cells cs t fr) → t ≠ 246 ∧ t ≠ 70) : KeepN w w' := fun k cs t fr ht hk => by
 refine (h.block k (lt_of_block hk) (fun hM => ?_)).trans hk; have := hm k cs t fr hM hk; rcases ht with e | e
 ·exact this.1 e
 ·exact this.2 e
def TyW (t : Wk.Ty) : Prop := t.2.length ≤ 6 ∧ (t.1 = 0 → t.2 = [])
theorem TyW.plain (k : Nat) : TyW (k, []) := ⟨Nat.zero_le _, fun _ => rfl⟩
theorem TyW.zero {t : Wk.Ty} (h : TyW t) (h0 : t.1 = 0) : t = (0, []) := Prod.ext h0 (h.2 h0)
def envOf (irs : List IR) : Wk.Env := irs.map (fun r => (r.nm.data.toList, r.ty))
theorem envOf_names (irs : List IR) : (envOf irs).map (·.1) = irNames irs := by simp [envOf, irNames]
structure ItemsAt (w : World) (iv : Value) (irs : List IR) : Prop where
 ex : ∃ g cap, iv = .slice (some ⟨g, 0, none⟩) irs.length cap ∧ irs.length ≤ cap ∧ ∀ j r, irs[j]? = some r → ∀ i v, r.cells[i]? = some v → w.cell? ⟨g, j * 15 + i, none⟩ = some v
 few : irs.length ≤ 20
 tys : ∀ r ∈ irs, TyW r.ty
theorem ItemsAt.below {w w' : World} {iv : Value} {irs : List IR} (h : ItemsAt w iv irs) (hb : Below w.heap.size w w') : ItemsAt w' iv irs := by
 obtain ⟨g, cap, h1, h2, h3⟩ := h.ex; exact ⟨⟨g, cap, h1, h2, fun j r hj i v hv => (hb.cell (p := ⟨g, j * 15 + i, none⟩) (World.block_lt_of_cell? w _ (h3 j r hj i v hv))).trans (h3 j r hj i v hv)⟩, h.few, h.tys⟩
structure Cn (ns : List Wk.Name) (w : World) (iv : Value) (irs : List IR) : Prop where
 gl : Gl w
 items : ItemsAt w iv irs
 pre : ns <+: irNames irs
theorem Cn.below {ns : List Wk.Name} {w w' : World} {iv : Value} {irs : List IR} (h : Cn ns w iv irs) (hb : Below w.heap.size w w') : Cn ns w' iv irs := ⟨h.gl.belowAll hb, h.items.below hb, h.pre⟩
def OwnAt (w : World) (iv : Value) (irs : List IR) (v : Value) (S : Wk.Sem) : Prop :=
 Calls Tryz.prog 178 #[.agg #[iv], v] w (fun e w' => e = .returned (tyV (S.own (envOf irs))) ∧ Below w.heap.size w w') ∧ TyW (S.own (envOf irs))
def FitsAt (w : World) (iv : Value) (irs : List IR) (v : Value) (S : Wk.Sem) : Prop :=
 ∀ t, TyW t → Calls Tryz.prog 110 #[.agg #[iv], v, tyV t] w fun e w' => e = .returned (.bool (S.fits (envOf irs) t)) ∧ Below w.heap.size w w'
def PTr (ns : List Wk.Name) (w : World) (v : Value) (S : Wk.Sem) : Prop := ∀ w' iv irs, KeepN w w' → Cn ns w' iv irs → OwnAt w' iv irs v S ∧ FitsAt w' iv irs v S
theorem PTr.keep {ns : List Wk.Name} {w w' : World} {v : Value} {S : Wk.Sem} (h : PTr ns w v S) (k : KeepN w w') : PTr ns w' v S := fun w'' iv irs h2 hc => h w'' iv irs (k.trans h2) hc
theorem ab2 (w : World) (o1 o2 : Obj) : Below w.heap.size w ((w.alloc o1).alloc o2) := ((Below.refl _ _).alloc (Nat.le_refl _) _).alloc (by simp) _
theorem ab1 (w : World) (o1 : Obj) : Below w.heap.size w (w.alloc o1) := (Below.refl _ _).alloc (Nat.le_refl _) _
theorem ab2l {w w' : World} {o1 o2 : Obj} (h : Below ((w.alloc o1).alloc o2).heap.size ((w.alloc o1).alloc o2) w') : Below w.heap.size w w' := (ab2 w o1 o2).trans (h.mono (ab2 w o1 o2).size)
theorem ty_cells {w : World} {b : Nat} {t : Wk.Ty} (h : w.heap[b]? = some (.cells #[.int .i64 (t.1 : Nat), .int .i64 (t.2.length : Nat), .string (wd t 0), .string (wd t 1), .string (wd t 2), .string (wd t 3), .string (wd t 4), .string (wd t 5)] 69 (0, 0))) :
  w.cell? ⟨b, 0, none⟩ = some (.int .i64 (t.1 : Nat)) ∧ w.cell? ⟨b, 1, none⟩ = some (.int .i64 (t.2.length : Nat)) ∧ w.cell? ⟨b, 2, none⟩ = some (.string (wd t 0)) ∧ w.cell? ⟨b, 3, none⟩ = some (.string (wd t 1)) ∧ w.cell? ⟨b, 4, none⟩ = some (.string (wd t 2)) ∧ w.cell? ⟨b, 5, none⟩ = some (.string (wd t 3)) ∧ w.cell? ⟨b, 6, none⟩ = some (.string (wd t 4)) ∧ w.cell? ⟨b, 7, none⟩ = some (.string (wd t 5)) :=
 ⟨blk_cell h rfl, blk_cell h rfl, blk_cell h rfl, blk_cell h rfl, blk_cell h rfl, blk_cell h rfl, blk_cell h rfl, blk_cell h rfl⟩
def cw (w : World) (iv : Value) (t : Wk.Ty) : World := (w.alloc (.cells #[iv] 150)).alloc (.cells #[.int .i64 (t.1 : Nat), .int .i64 (t.2.length : Nat), .string (wd t 0), .string (wd t 1), .string (wd t 2), .string (wd t 3), .string (wd t 4), .string (wd t 5)] 69)
theorem cw_at {w : World} {iv : Value} {t : Wk.Ty} {wr : World} (hb : Below (cw w iv t).heap.size (cw w iv t) wr) : wr.heap[w.heap.size]? = some (.cells #[iv] 150 (0, 0)) ∧ wr.heap[w.heap.size + 1]? = some (.cells #[.int .i64 (t.1 : Nat), .int .i64 (t.2.length : Nat), .string (wd t 0), .string (wd t 1), .string (wd t 2), .string (wd t 3), .string (wd t 4), .string (wd t 5)] 69 (0, 0)) ∧ Below w.heap.size w wr := by
 have hs : (cw w iv t).heap.size = w.heap.size + 1 + 1 := by simp [cw]
 refine ⟨(hb.block _ (by omega)).trans (blk_alloc _ (heap_alloc_new w _)), (hb.block _ (by omega)).trans ?_, ab2l hb⟩; have := heap_alloc_new (w.alloc (.cells #[iv] 150)) (.cells #[.int .i64 (t.1 : Nat), .int .i64 (t.2.length : Nat), .string (wd t 0), .string (wd t 1), .string (wd t 2), .string (wd t 3), .string (wd t 4), .string (wd t 5)] 69); rw [show (w.alloc (.cells #[iv] 150)).heap.size = w.heap.size + 1 by simp] at this; exact this
theorem p_allFit {iv : Value} {irs : List IR} {w : World} (g off c : Nat) (ps : List (Value × Wk.Sem)) (hn : ps.length ≤ 3) (hc : ∀ j (p : Value × Wk.Sem), ps[j]? = some p → w.cell? ⟨g, off + j, none⟩ = some p.1)
  (hF : ∀ p ∈ ps, ∀ w', Below w.heap.size w w' → FitsAt w' iv irs p.1 p.2) (t : Wk.Ty) (ht : TyW t) :
  Calls Tryz.prog 144 #[.agg #[iv], .slice (some ⟨g, off, none⟩) ps.length c, tyV t] w fun e w' => e = .returned (.bool (ps.all (fun p => p.2.fits (envOf irs) t))) ∧ Below w.heap.size w w' := by
 have HF : Hid _ := hF; have HC : Hid _ := hc; have HT : Hid (TyW t) := ht; obtain ⟨R, hR⟩ : ∃ R, R = ps.all (fun p => p.2.fits (envOf irs) t) := ⟨_, rfl⟩
 rw [← hR]; have HR : Hid _ := hR; clear hR hF hc ht; unfold tyV; go_enter Tryz.func144, Tryz.ntmps144; go_wp2_with fail; go_loopg [11] ps.length (fun gg s11 wr => ∃ k : Nat, k ≤ ps.length ∧ ps.length - k ≤ gg ∧ s11 = .int .i64 k ∧ Hid (Below (cw w iv t).heap.size (cw w iv t) wr) ∧ Hid (R = (ps.drop k).all (fun p => p.2.fits (envOf irs) t)))
 case atStart => exact ⟨0, Nat.zero_le _, by omega, rfl, Below.refl _ _, HR⟩
 case round =>
  obtain ⟨k, hk, hg, rfl, HB, HRk⟩ := hrel; obtain ⟨u1, u2, hbw⟩ := cw_at HB.out; have HW : Hid _ := hbw; by_cases hlt : k < ps.length
  ·have HFk : Hid _ := HF.out _ (List.getElem_mem hlt) wr hbw t HT.out; have HS : Hid (R = ((ps[k]'hlt).2.fits (envOf irs) t && (ps.drop (k + 1)).all (fun p => p.2.fits (envOf irs) t))) := by
    show _ = _; rw [HRk.out, List.drop_eq_getElem_cons hlt, List.all_cons]
   have hck : wr.cell? ⟨g, off + k, none⟩ = some (ps[k]'hlt).1 := by
    have := HC.out k _ (List.getElem?_eq_getElem hlt); exact (hbw.cell (p := ⟨g, off + k, none⟩) (World.block_lt_of_cell? w _ this)).trans this
   have hltz : (k : Int) < (ps.length : Int) := by omega
   have ci := bc 0 u1 rfl; obtain ⟨y0, y1, y2, y3, y4, y5, y6, y7⟩ := ty_cells u2; generalize (ps[k]'hlt).1 = pv at *
   generalize hfv : (ps[k]'hlt).2.fits (envOf irs) t = fv at *
   clear hbw u1 u2 hfv; cases fv with
   | true =>
    go_wp2_with fail; refine Calls.mono HFk.out ?_; rintro e w2 ⟨rfl, hb2⟩; have HB2 : Hid (Below (cw w iv t).heap.size (cw w iv t) w2) := HB.out.trans (hb2.mono HB.out.size); clear hb2; go_wp2_with fail; go_roundg (ps.length - (k + 1)); case measure => omega
    case rel => exact ⟨k + 1, by omega, by omega, by go_num, HB2, HS⟩
   | false =>
    go_wp2_with fail; refine Calls.mono HFk.out ?_; rintro e w2 ⟨rfl, hb2⟩; have HB2 : Hid (Below w.heap.size w w2) := HW.out.trans (hb2.mono HW.out.size); clear hb2; go_wp2_with fail; go_ret; exact ⟨by rw [HS.out]; rfl, HB2.out⟩
  ·have hltz : ¬ (k : Int) < (ps.length : Int) := by omega
   have HE : Hid (R = true) := by
    show _ = _; rw [HRk.out, List.drop_eq_nil_of_le (by omega)]; rfl
   go_wp2_with fail; go_ret; exact ⟨by rw [HE.out]; rfl, HW.out⟩
def firstOwnL (E : Wk.Env) : List (Value × Wk.Sem) → Wk.Ty
 | [] => (0, [])
 | p :: r => if (p.2.own E).1 = 0 then firstOwnL E r else p.2.own E
theorem firstOwnL_two {E : Wk.Env} {a b : Value × Wk.Sem} (hb : TyW (b.2.own E)) : firstOwnL E [a, b] = Wk.fstOwn a.2 b.2 E := by
 unfold firstOwnL Wk.fstOwn; split
 ·unfold firstOwnL firstOwnL; split
  ·rename_i h; exact (hb.zero h).symm
  ·rfl
 ·rfl
def setTy (w : World) (b : Nat) (t : Wk.Ty) : World := (((((((w.setCell ⟨b, 0, none⟩ (.int .i64 (t.1 : Nat))).setCell ⟨b, 1, none⟩ (.int .i64 (t.2.length : Nat))).setCell ⟨b, 2, none⟩ (.string (wd t 0))).setCell ⟨b, 3, none⟩ (.string (wd t 1))).setCell ⟨b, 4, none⟩ (.string (wd t 2))).setCell ⟨b, 5, none⟩ (.string (wd t 3))).setCell ⟨b, 6, none⟩ (.string (wd t 4))).setCell ⟨b, 7, none⟩ (.string (wd t 5))
theorem setTy_below {B b : Nat} {a w : World} (h : Below B a w) (hb : B ≤ b) (t : Wk.Ty) : Below B a (setTy w b t) :=
 (((((((h.setCell hb _).setCell hb _).setCell hb _).setCell hb _).setCell hb _).setCell hb _).setCell hb _).setCell hb _
theorem p_firstOwn {iv : Value} {irs : List IR} {w : World} (g off c : Nat) (ps : List (Value × Wk.Sem)) (hn : ps.length ≤ 3) (hc : ∀ j (p : Value × Wk.Sem), ps[j]? = some p → w.cell? ⟨g, off + j, none⟩ = some p.1)
  (hO : ∀ p ∈ ps, ∀ w', Below w.heap.size w w' → OwnAt w' iv irs p.1 p.2) :
  Calls Tryz.prog 145 #[.agg #[iv], .slice (some ⟨g, off, none⟩) ps.length c] w fun e w' => e = .returned (tyV (firstOwnL (envOf irs) ps)) ∧ Below w.heap.size w w' := by
 have HO : Hid _ := hO; have HC : Hid _ := hc; obtain ⟨R, hR⟩ : ∃ R, R = firstOwnL (envOf irs) ps := ⟨_, rfl⟩
 rw [← hR]; have HR : Hid _ := hR; clear hR hO hc; go_enter Tryz.func145, Tryz.ntmps145; go_wp2_with fail; go_loopg [10] ps.length (fun gg s10 wr => ∃ k : Nat, k ≤ ps.length ∧ ps.length - k ≤ gg ∧ s10 = .int .i64 k ∧ Hid (Below (cw w iv (0, [])).heap.size (cw w iv (0, [])) wr) ∧ Hid (R = firstOwnL (envOf irs) (ps.drop k)))
 case atStart => exact ⟨0, Nat.zero_le _, by omega, rfl, Below.refl _ _, HR⟩
 case round =>
  obtain ⟨k, hk, hg, rfl, HB, HRk⟩ := hrel; obtain ⟨u1, u2, hbw⟩ := cw_at HB.out; have HW : Hid _ := hbw; obtain ⟨y0, y1, y2, y3, y4, y5, y6, y7⟩ := ty_cells (t := (0, [])) u2; have hfr := blk_free u2; have hl1 := lt_of_block u2; by_cases hlt : k < ps.length
  ·have HOk : Hid (OwnAt wr iv irs (ps[k]'hlt).1 (ps[k]'hlt).2) := HO.out _ (List.getElem_mem hlt) wr hbw; have HS : Hid (R = if ((ps[k]'hlt).2.own (envOf irs)).1 = 0 then firstOwnL (envOf irs) (ps.drop (k + 1)) else (ps[k]'hlt).2.own (envOf irs)) := by
    show _ = _; rw [HRk.out, List.drop_eq_getElem_cons hlt, firstOwnL]
   have hck : wr.cell? ⟨g, off + k, none⟩ = some (ps[k]'hlt).1 := by
    have := HC.out k _ (List.getElem?_eq_getElem hlt); exact (hbw.cell (p := ⟨g, off + k, none⟩) (World.block_lt_of_cell? w _ this)).trans this
   have hltz : (k : Int) < (ps.length : Int) := by omega
   have ci := bc 0 u1 rfl; have HCa : Hid (Calls Tryz.prog 178 #[.agg #[iv], (ps[k]'hlt).1] wr (fun e w' => e = .returned (tyV ((ps[k]'hlt).2.own (envOf irs))) ∧ Below wr.heap.size wr w')) := HOk.out.1; generalize (ps[k]'hlt).1 = pv at *
   generalize hfv : (ps[k]'hlt).2.own (envOf irs) = ot at *
   have U2 : Hid _ := u2; clear hbw u1 u2 hfv HOk y0 y1 y2 y3 y4 y5 y6 y7 hfr; by_cases h0 : ot.1 = 0
   ·have d0 : ((ot.1 : Int) != 0) = false := by rw [bne_eq_false_iff_eq]; omega
    have HE : Hid (R = firstOwnL (envOf irs) (ps.drop (k + 1))) := by
     show _ = _; rw [HS.out, if_pos h0]
    clear h0; go_wp2_with fail; refine Calls.mono HCa.out ?_; rintro e w2 ⟨rfl, hb2⟩; have HB2 : Hid (∀ o, Below (cw w iv (0, [])).heap.size (cw w iv (0, [])) (w2.alloc o)) := fun o => (HB.out.trans (hb2.mono HB.out.size)).alloc (by have := HB.out.size; have := hb2.size; omega) o
    clear hb2; unfold tyV; go_wp2_with fail; go_roundg (ps.length - (k + 1)); case measure => omega
    case rel => exact ⟨k + 1, by omega, by omega, by go_num, HB2.out _, HE⟩
   ·have d0 : ((ot.1 : Int) != 0) = true := by rw [bne_iff_ne]; omega
    have HE : Hid (R = ot) := by
     show _ = _; rw [HS.out, if_neg h0]
    clear h0; go_wp2_with fail; refine Calls.mono HCa.out ?_; rintro e w2 ⟨rfl, hb2⟩; have v2 := (hb2.block _ hl1).trans U2.out; have HB2 : Hid (Below w.heap.size w w2) := HW.out.trans (hb2.mono HW.out.size); obtain ⟨y0, y1, y2, y3, y4, y5, y6, y7⟩ := ty_cells (t := (0, [])) v2; have hfr := blk_free v2; have hl2 := lt_of_block v2; clear hb2 v2; unfold tyV; go_wp2_with fail; refine bodyPost_ret (v := tyV ot) (by simp [results, Tryz.results145, go_sem, tyV, y0, y1, y2, y3, y4, y5, y6, y7, hl2]) rfl ⟨by rw [HE.out], ?_⟩; have HX : Below w.heap.size w (setTy w2 (w.heap.size + 1) ot) := setTy_below HB2.out (Nat.le_succ _) ot; exact HX.alloc HX.size _
  ·have hltz : ¬ (k : Int) < (ps.length : Int) := by omega
   have HE : Hid (R = (0, [])) := by
    show _ = _; rw [HRk.out, List.drop_eq_nil_of_le (by omega)]; rfl
   go_wp2_with fail; refine bodyPost_ret (v := tyV (0, [])) (by simp [results, Tryz.results145, go_sem, tyV_plain, y0, y1, y2, y3, y4, y5, y6, y7]) rfl ⟨by rw [HE.out], ?_⟩; iterate 8 refine Below.setCell ?_ (Nat.le_succ _) _
   exact HW.out
end Go.Proofs.YtbkaghlklkdmkaaGreatDoor
