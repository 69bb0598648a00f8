/-
  The trees of the document's answer: fits, of 'if' and of '='. The trees of the document's answer: each kind of node says what it must.
-/
import Derived.Test.YtbkaghlklkdmkaaGreatDoorMC2
set_option maxRecDepth 100000
set_option maxHeartbeats 8000000
namespace Go.Proofs.YtbkaghlklkdmkaaGreatDoor
open Go.RowKit
theorem f_if (w : World) (x : ByteArray) (na : Nat) (kv : Value) (k0 k1 k2 : Value) (S0 S1 S2 : Wk.Sem) (hK : Kids w kv [k0, k1, k2]) (h0 : ∀ w', Below w.heap.size w w' → FitsOK w' k0 S0) (h1 : ∀ w', Below w.heap.size w w' → FitsOK w' k1 S1) (h2 : ∀ w', Below w.heap.size w w' → FitsOK w' k2 S2)
    (mb : Nat) (E : Wk.Env) (hM : ModelAt w mb E) (n0 : known E S0.names) (n1 : known E S1.names) (n2 : known E S2.names) (tv : Value) (t : Wk.Ty) (hT : TyAt w tv t) :
    Calls Tryz.prog 79 #[.pointer (some ⟨mb, 0, none⟩), tree ⟨#[105, 102]⟩ x na kv, tv] w fun e w' => e = .returned (.bool (S0.fits E (2, []) && (S1.fits E t && S2.fits E t))) ∧ Below w.heap.size w w' := by
  have HT : Hid (∀ w', Below w.heap.size w w' → TyAt w' tv t) := fun w' hb => hT.below hb
  have HM : Hid (∀ w', Below w.heap.size w w' → ModelAt w' mb E) := fun w' hb => hM.below hb
  obtain ⟨-, h6, -, ws, rfl, hws⟩ := hT; obtain ⟨ad, c, rfl⟩ := hws.form; clear hws h6; generalize (t.2.map quo).length = ln at *
  obtain ⟨ad1, c1, hkv⟩ := hK.slice; subst hkv; obtain ⟨g, op0, x0, na0, kv0, hg, -, hc, rfl, a0, a1, a2, a3⟩ := hK.at (j := 0) rfl; obtain ⟨g', op1, x1, na1, kv1, hg', -, -, rfl, b0, b1, b2, b3⟩ := hK.at (j := 1) rfl; obtain ⟨g'', op2, x2, na2, kv2, hg'', -, -, rfl, e0, e1, e2, e3⟩ := hK.at (j := 2) rfl; subst hg; cases hg'; cases hg''; have HG : Hid (∀ (w1 : World) o, Below w.heap.size w w1 → w1.cell? ⟨g, o, none⟩ = w.cell? ⟨g, o, none⟩) := fun w1 o hb => hb.cell (p := ⟨g, o, none⟩) (cell_lt a0)
  simp only [List.length_cons, List.length_nil, Nat.zero_add, Nat.reduceAdd, Nat.reduceMul, Nat.zero_mul] at hc a0 a1 a2 a3 b0 b1 b2 b3 e0 e1 e2 e3; have HC0 : Hid _ := fun w' (hb : Below w.heap.size w w') => h0 w' hb mb E _ (2, []) (HM.out w' hb) n0 (tyAt_plain w' (by decide))
  have HC1 : Hid _ := fun w' (hb : Below w.heap.size w w') => h1 w' hb mb E _ t (HM.out w' hb) n1 (HT.out w' hb)
  have HC2 : Hid _ := fun w' (hb : Below w.heap.size w w') => h2 w' hb mb E _ t (HM.out w' hb) n2 (HT.out w' hb)
  unfold tree at HC0 HC1 HC2; have A0 : Hid _ := a0; have A1 : Hid _ := a1; have A2 : Hid _ := a2; have A3 : Hid _ := a3; have B0 : Hid _ := b0; have B1 : Hid _ := b1; have B2 : Hid _ := b2; have B3 : Hid _ := b3; have E0 : Hid _ := e0; have E1 : Hid _ := e1; have E2 : Hid _ := e2; have E3 : Hid _ := e3; clear h0 h1 h2 hM hK n0 n1 n2 a0 a1 a2 a3 b0 b1 b2 b3 e0 e1 e2 e3; unfold tree; simp only [List.length_cons, List.length_nil, Nat.zero_add, Nat.reduceAdd]; generalize hR : (S0.fits E (2, []) && (S1.fits E t && S2.fits E t)) = R; have HR : Hid _ := hR; clear hR; have HFB : Hid _ := FB.first w ⟨#[105, 102]⟩ x na (.slice (some ⟨g, 0, none⟩) 3 c1) (rk t.1) ad ln c
  go_enter Tryz.func79, Tryz.ntmps79; go_upto_region 9 with fail; obtain ⟨W, hW⟩ : ∃ W, W = (((w.alloc (Obj.cells #[.string ⟨#[105, 102]⟩, .string x, .int .i64 na, .slice (some ⟨g, 0, none⟩) 3 c1] 107)).alloc (Obj.cells #[.int .u8 (rk t.1), .slice ad ln c] 104)).alloc (Obj.cells #[.int .u8 105, .slice none 0 0] 104)).alloc (Obj.cells #[.int .u8 98, .slice none 0 0] 104) := ⟨_, rfl⟩
  rw [← hW] at HFB ⊢; have FB0 : Hid (FB w W ⟨#[105, 102]⟩ x na (.slice (some ⟨g, 0, none⟩) 3 c1) (rk t.1) ad ln c) := HFB; clear HFB hW; have s03 := bc 3 FB0.out.b0 rfl; have s0a := bc 0 FB0.out.b3 rfl; have s0b := bc 1 FB0.out.b3 rfl; have g00 := (HG.out _ _ FB0.out.below).trans A0.out; have g01 := (HG.out _ _ FB0.out.below).trans A1.out; have g02 := (HG.out _ _ FB0.out.below).trans A2.out; have g03 := (HG.out _ _ FB0.out.below).trans A3.out; have HX0 : Hid (∀ u, Below W.heap.size W u → FB w u ⟨#[105, 102]⟩ x na (.slice (some ⟨g, 0, none⟩) 3 c1) (rk t.1) ad ln c) := fun u hb => FB0.out.next hb
  have HXd0 : Hid (∀ u, Below W.drew.heap.size W.drew u → Below W.heap.size W u) := fun u hb => ⟨hb.os, hb.tape, hb.output, hb.size, hb.block⟩
  go_region_held3 (fun w' => w'.cell? ⟨w.heap.size, 3, none⟩ = some (.slice (some ⟨g, 0, none⟩) 3 c1) ∧ w'.cell? ⟨g, 0, none⟩ = some (.string op0) ∧ w'.cell? ⟨g, 1, none⟩ = some (.string x0) ∧ w'.cell? ⟨g, 2, none⟩ = some (.int .i64 na0) ∧ w'.cell? ⟨g, 3, none⟩ = some kv0 ∧ w'.cell? ⟨w.heap.size + 3, 0, none⟩ = some (.int .u8 98) ∧ w'.cell? ⟨w.heap.size + 3, 1, none⟩ = some (.slice none 0 0)) (go_keep)
    (first
      | (go_at_call 79; refine (HC0.out _ (by first | exact FB0.out.below | exact FB0.out.below.drew)).mono ?_; rintro e w1 ⟨rfl, hb1⟩
         have hb2 : Below W.heap.size W w1 := by first | exact hb1 | exact HXd0.out _ hb1
         have FB1 : Hid (FB w w1 ⟨#[105, 102]⟩ x na (.slice (some ⟨g, 0, none⟩) 3 c1) (rk t.1) ad ln c) := HX0.out _ hb2; have z3 := bc 3 FB1.out.b0 rfl; have v0 := bc 0 FB1.out.b3 rfl; have v1 := bc 1 FB1.out.b3 rfl; have d0 := (HG.out _ _ FB1.out.below).trans A0.out; have d1 := (HG.out _ _ FB1.out.below).trans A1.out; have d2 := (HG.out _ _ FB1.out.below).trans A2.out; have d3 := (HG.out _ _ FB1.out.below).trans A3.out; clear hb1 hb2))
  clear s03 s0a s0b g00 g01 g02 g03 HX0 HXd0 z3 v0 v1 d0 d1 d2 d3; go_wp2_with fail; have s13 := bc 3 FB1.out.b0 rfl; have s1a := bc 0 FB1.out.b1 rfl; have s1b := bc 1 FB1.out.b1 rfl; have g10 := (HG.out _ _ FB1.out.below).trans B0.out; have g11 := (HG.out _ _ FB1.out.below).trans B1.out; have g12 := (HG.out _ _ FB1.out.below).trans B2.out; have g13 := (HG.out _ _ FB1.out.below).trans B3.out; have HX1 : Hid (∀ u, Below w1.heap.size w1 u → FB w u ⟨#[105, 102]⟩ x na (.slice (some ⟨g, 0, none⟩) 3 c1) (rk t.1) ad ln c) := fun u hb => FB1.out.next hb
  have HXd1 : Hid (∀ u, Below w1.drew.heap.size w1.drew u → Below w1.heap.size w1 u) := fun u hb => ⟨hb.os, hb.tape, hb.output, hb.size, hb.block⟩
  go_region_held3 (fun w' => w'.cell? ⟨w.heap.size, 3, none⟩ = some (.slice (some ⟨g, 0, none⟩) 3 c1) ∧ w'.cell? ⟨g, 4, none⟩ = some (.string op1) ∧ w'.cell? ⟨g, 5, none⟩ = some (.string x1) ∧ w'.cell? ⟨g, 6, none⟩ = some (.int .i64 na1) ∧ w'.cell? ⟨g, 7, none⟩ = some kv1 ∧ w'.cell? ⟨w.heap.size + 1, 0, none⟩ = some (.int .u8 (rk t.1)) ∧ w'.cell? ⟨w.heap.size + 1, 1, none⟩ = some (.slice ad ln c)) (go_keep)
    (first
      | (go_at_call 79; refine (HC1.out _ (by first | exact FB1.out.below | exact FB1.out.below.drew)).mono ?_; rintro e w2 ⟨rfl, hb1⟩
         have hb2 : Below w1.heap.size w1 w2 := by first | exact hb1 | exact HXd1.out _ hb1
         have FB2 : Hid (FB w w2 ⟨#[105, 102]⟩ x na (.slice (some ⟨g, 0, none⟩) 3 c1) (rk t.1) ad ln c) := HX1.out _ hb2; have z3 := bc 3 FB2.out.b0 rfl; have v0 := bc 0 FB2.out.b1 rfl; have v1 := bc 1 FB2.out.b1 rfl; have d0 := (HG.out _ _ FB2.out.below).trans B0.out; have d1 := (HG.out _ _ FB2.out.below).trans B1.out; have d2 := (HG.out _ _ FB2.out.below).trans B2.out; have d3 := (HG.out _ _ FB2.out.below).trans B3.out; clear hb1 hb2))
  clear s13 s1a s1b g10 g11 g12 g13 HX1 HXd1 z3 v0 v1 d0 d1 d2 d3; go_wp2_with fail; have s23 := bc 3 FB2.out.b0 rfl; have s2a := bc 0 FB2.out.b1 rfl; have s2b := bc 1 FB2.out.b1 rfl; have g20 := (HG.out _ _ FB2.out.below).trans E0.out; have g21 := (HG.out _ _ FB2.out.below).trans E1.out; have g22 := (HG.out _ _ FB2.out.below).trans E2.out; have g23 := (HG.out _ _ FB2.out.below).trans E3.out; have HX2 : Hid (∀ u, Below w2.heap.size w2 u → FB w u ⟨#[105, 102]⟩ x na (.slice (some ⟨g, 0, none⟩) 3 c1) (rk t.1) ad ln c) := fun u hb => FB2.out.next hb
  have HXd2 : Hid (∀ u, Below w2.drew.heap.size w2.drew u → Below w2.heap.size w2 u) := fun u hb => ⟨hb.os, hb.tape, hb.output, hb.size, hb.block⟩
  go_region_held3 (fun w' => w'.cell? ⟨w.heap.size, 3, none⟩ = some (.slice (some ⟨g, 0, none⟩) 3 c1) ∧ w'.cell? ⟨g, 8, none⟩ = some (.string op2) ∧ w'.cell? ⟨g, 9, none⟩ = some (.string x2) ∧ w'.cell? ⟨g, 10, none⟩ = some (.int .i64 na2) ∧ w'.cell? ⟨g, 11, none⟩ = some kv2 ∧ w'.cell? ⟨w.heap.size + 1, 0, none⟩ = some (.int .u8 (rk t.1)) ∧ w'.cell? ⟨w.heap.size + 1, 1, none⟩ = some (.slice ad ln c)) (go_keep)
    (first
      | (go_at_call 79; refine (HC2.out _ (by first | exact FB2.out.below | exact FB2.out.below.drew)).mono ?_; rintro e w3 ⟨rfl, hb1⟩
         have hb2 : Below w2.heap.size w2 w3 := by first | exact hb1 | exact HXd2.out _ hb1
         have FB3 : Hid (FB w w3 ⟨#[105, 102]⟩ x na (.slice (some ⟨g, 0, none⟩) 3 c1) (rk t.1) ad ln c) := HX2.out _ hb2; have z3 := bc 3 FB3.out.b0 rfl; have v0 := bc 0 FB3.out.b1 rfl; have v1 := bc 1 FB3.out.b1 rfl; have d0 := (HG.out _ _ FB3.out.below).trans E0.out; have d1 := (HG.out _ _ FB3.out.below).trans E1.out; have d2 := (HG.out _ _ FB3.out.below).trans E2.out; have d3 := (HG.out _ _ FB3.out.below).trans E3.out; clear hb1 hb2))
  clear s23 s2a s2b g20 g21 g22 g23 HX2 HXd2 z3 v0 v1 d0 d1 d2 d3; generalize S0.fits E (2, []) = r0 at *
  generalize S1.fits E t = r1 at *
  generalize S2.fits E t = r2 at *
  cases r0 <;> cases r1
  all_goals
    go_wp2
    go_ret; refine ⟨ret_bool ?_, FB3.out.below⟩; rw [← HR.out]; rfl
theorem FB.set4 {w W : World} {op x : ByteArray} {na : Nat} {kv : Value} {k : Int} {ad : Option Addr} {n c : Nat} (h : FB w W op x na kv k ad n c) (o : Nat) (v : Value) : FB w (W.setCell ⟨w.heap.size + 4, o, none⟩ v) op x na kv k ad n c :=
 ⟨h.below.setCell (by simp) _, by have := h.size; simp [World.setCell]; omega, by rw [blk_other _ (by omega)]; exact h.b0, by rw [blk_other _ (by omega)]; exact h.b1, by rw [blk_other _ (by omega)]; exact h.b2, by rw [blk_other _ (by omega)]; exact h.b3⟩
theorem take_allG {α : Type} {l : List α} {k : Nat} (h : k < l.length) (f : α → Bool) (o : Bool) : (o && (l.take (k + 1)).all f) = ((o && (l.take k).all f) && f (l[k]'h)) := by
 rw [List.take_succ_eq_append_getElem h, List.all_append, Bool.and_assoc]; simp
def Box4 (w W : World) (k : Nat) (ad : Option Addr) (n c : Nat) : Prop := w.heap.size + 5 ≤ W.heap.size ∧ W.heap[w.heap.size + 4]? = some (.cells #[.int .u8 k, .slice ad n c] 104 (0, 0))
theorem Box4.next {w W W' : World} {k : Nat} {ad : Option Addr} {n c : Nat} (h : Box4 w W k ad n c) (hb : Below W.heap.size W W') : Box4 w W' k ad n c :=
 ⟨by have := hb.size; have := h.1; omega, (hb.block _ (lt_of_block h.2)).trans h.2⟩
theorem Box4.set {w W : World} {k k' : Nat} {ad ad' : Option Addr} {n n' c c' : Nat} (h : Box4 w W k ad n c) : Box4 w ((W.setCell ⟨w.heap.size + 4, 0, none⟩ (.int .u8 k')).setCell ⟨w.heap.size + 4, 1, none⟩ (.slice ad' n' c')) k' ad' n' c' := by
 refine ⟨by have := h.1; simp [World.setCell]; omega, ?_⟩; rw [blk_set _ (blk_set _ h.2)]; rfl
theorem rk_zero {n : Nat} (h : n ≤ 3) : ((rk n : Int) == 0) = decide (n = 0) := by
 unfold rk; repeat' split
 all_goals first | (subst_vars; rfl) | (have : n = 0 := by omega); (subst this; rfl)
theorem f_eq (w : World) (x : ByteArray) (na : Nat) (kv : Value) (k0 k1 : Value) (S0 S1 : Wk.Sem) (hK : Kids w kv [k0, k1]) (h0 : ∀ w', Below w.heap.size w w' → FitsOK w' k0 S0) (h1 : ∀ w', Below w.heap.size w w' → FitsOK w' k1 S1)
    (o0 : ∀ w', Below w.heap.size w w' → OwnOK w' k0 S0) (o1 : ∀ w', Below w.heap.size w w' → OwnOK w' k1 S1)
    (mb : Nat) (E : Wk.Env) (hM : ModelAt w mb E) (n0 : known E S0.names) (n1 : known E S1.names) (tv : Value) (t : Wk.Ty) (hT : TyAt w tv t) :
    Calls Tryz.prog 79 #[.pointer (some ⟨mb, 0, none⟩), tree ⟨#[61]⟩ x na kv, tv] w fun e w' => e = .returned (.bool (((Wk.fstOwn S0 S1 E).1 != 0) && (((2, []) == t) && (S0.fits E (Wk.fstOwn S0 S1 E) && S1.fits E (Wk.fstOwn S0 S1 E))))) ∧ Below w.heap.size w w' := by
  have HT : Hid (∀ w', Below w.heap.size w w' → TyAt w' tv t) := fun w' hb => hT.below hb
  have HM : Hid (∀ w', Below w.heap.size w w' → ModelAt w' mb E) := fun w' hb => hM.below hb
  obtain ⟨-, h6, -, ws, rfl, hws⟩ := hT; obtain ⟨ad, c, rfl⟩ := hws.form; clear hws h6; generalize (t.2.map quo).length = ln at *
  obtain ⟨ad1, c1, hkv⟩ := hK.slice; subst hkv; obtain ⟨g, op0, x0, na0, kv0, hg, -, hc, rfl, a0, a1, a2, a3⟩ := hK.at (j := 0) rfl; obtain ⟨g', op1, x1, na1, kv1, hg', -, -, rfl, b0, b1, b2, b3⟩ := hK.at (j := 1) rfl; subst hg; cases hg'; have HG : Hid (∀ (w1 : World) o, Below w.heap.size w w1 → w1.cell? ⟨g, o, none⟩ = w.cell? ⟨g, o, none⟩) := fun w1 o hb => hb.cell (p := ⟨g, o, none⟩) (cell_lt a0)
  simp only [List.length_cons, List.length_nil, Nat.zero_add, Nat.reduceAdd, Nat.reduceMul, Nat.zero_mul] at hc a0 a1 a2 a3 b0 b1 b2 b3; have hgl := cell_lt a0; have HO0 : Hid _ := fun w' (hb : Below w.heap.size w w') => o0 w' hb mb E (HM.out w' hb) n0
  have HO1 : Hid _ := fun w' (hb : Below w.heap.size w w') => o1 w' hb mb E (HM.out w' hb) n1
  have HOW : Hid (∀ w', Calls Tryz.prog 80 #[.pointer (some ⟨mb, 0, none⟩), tree ⟨#[61]⟩ x na (.slice (some ⟨g, 0, none⟩) 2 c1)] w' fun e w'' => ownEnd w'' (2, []) e ∧ Below w'.heap.size w' w'') := fun w' => own_const w' _ _ _ _ _ 2 (by decide) (by simp [opsOf])
  have HC0 : Hid _ := fun w' (hb : Below w.heap.size w w') tv pt (ht : TyAt w' tv pt) => h0 w' hb mb E tv pt (HM.out w' hb) n0 ht
  have HC1 : Hid _ := fun w' (hb : Below w.heap.size w w') tv pt (ht : TyAt w' tv pt) => h1 w' hb mb E tv pt (HM.out w' hb) n1 ht
  unfold tree at HC0 HC1 HO0 HO1 HOW; have A0 : Hid _ := a0; have A1 : Hid _ := a1; have A2 : Hid _ := a2; have A3 : Hid _ := a3; have B0 : Hid _ := b0; have B1 : Hid _ := b1; have B2 : Hid _ := b2; have B3 : Hid _ := b3; clear h0 h1 o0 o1 hM hK n0 n1 b0 b1 b2 b3; unfold tree; simp only [List.length_cons, List.length_nil, Nat.zero_add, Nat.reduceAdd]; generalize hR : (((Wk.fstOwn S0 S1 E).1 != 0) && (((2, []) == t) && (S0.fits E (Wk.fstOwn S0 S1 E) && S1.fits E (Wk.fstOwn S0 S1 E)))) = R; have HR : Hid _ := hR; clear hR; have HFB : Hid _ := FB.first w ⟨#[61]⟩ x na (.slice (some ⟨g, 0, none⟩) 2 c1) (rk t.1) ad ln c
  go_enter Tryz.func79, Tryz.ntmps79; go_upto_region 22 with fail; obtain ⟨W, hW⟩ : ∃ W, W = ((((w.alloc (Obj.cells #[.string ⟨#[61]⟩, .string x, .int .i64 na, .slice (some ⟨g, 0, none⟩) 2 c1] 107)).alloc (Obj.cells #[.int .u8 (rk t.1), .slice ad ln c] 104)).alloc (Obj.cells #[.int .u8 105, .slice none 0 0] 104)).alloc (Obj.cells #[.int .u8 98, .slice none 0 0] 104)).alloc (Obj.cells #[.int .u8 98, .slice none 0 0] 104) := ⟨_, rfl⟩
  rw [← hW]; obtain ⟨hb5, u4, hs4⟩ := below_one (Below.refl _ (((((w.alloc (Obj.cells #[.string ⟨#[61]⟩, .string x, .int .i64 na, .slice (some ⟨g, 0, none⟩) 2 c1] 107)).alloc (Obj.cells #[.int .u8 (rk t.1), .slice ad ln c] 104)).alloc (Obj.cells #[.int .u8 105, .slice none 0 0] 104)).alloc (Obj.cells #[.int .u8 98, .slice none 0 0] 104)).alloc (Obj.cells #[.int .u8 98, .slice none 0 0] 104))); have FB0 : Hid (FB w W ⟨#[61]⟩ x na (.slice (some ⟨g, 0, none⟩) 2 c1) (rk t.1) ad ln c) := by rw [hW]; exact HFB.out.next hb5
  rw [← hW] at hs4 u4; rw [sz_alloc, sz_alloc, sz_alloc, sz_alloc] at u4 hs4; have BX0 : Hid (Box4 w W 98 none 0 0) := ⟨hs4, u4⟩
  clear hb5 u4 hs4 hW HFB; have s3 := bc 3 FB0.out.b0 rfl; have a0 := (HG.out _ _ FB0.out.below).trans A0.out; have a1 := (HG.out _ _ FB0.out.below).trans A1.out; have a2 := (HG.out _ _ FB0.out.below).trans A2.out; have a3 := (HG.out _ _ FB0.out.below).trans A3.out; go_wp2_with fail; refine (HO0.out _ FB0.out.below).mono ?_; rintro e w1 ⟨⟨ov, rfl, hov⟩, hb1⟩; have FB1 : Hid (FB w w1 ⟨#[61]⟩ x na (.slice (some ⟨g, 0, none⟩) 2 c1) (rk t.1) ad ln c) := FB0.out.next hb1
  have BX1 : Hid (Box4 w w1 98 none 0 0) := BX0.out.next hb1
  clear s3; obtain ⟨t3, t6, t0, ws, rfl, hws⟩ := hov; have HT1 : Hid (TyAt w1 (.agg #[.int .u8 (rk (S0.own E).1), ws]) (S0.own E)) := ⟨t3, t6, t0, ws, rfl, hws⟩
  obtain ⟨ad4, c4, rfl⟩ := hws.form; generalize ((S0.own E).2.map quo).length = ln4 at *
  have y0 := bc 0 BX1.out.2 rfl; have y1 := bc 1 BX1.out.2 rfl; have yf := blk_free BX1.out.2; have s3 := bc 3 FB1.out.b0 rfl; have b0 := (HG.out _ _ FB1.out.below).trans B0.out; have b1 := (HG.out _ _ FB1.out.below).trans B1.out; have b2 := (HG.out _ _ FB1.out.below).trans B2.out; have b3 := (HG.out _ _ FB1.out.below).trans B3.out; have hz := rk_zero t3; have hne : g ≠ w.heap.size + 4 := by omega
  clear hb1 hws a0 a1 a2 a3; have HT1s : Hid (TyAt ((w1.setCell ⟨w.heap.size + 4, 0, none⟩ (.int .u8 (rk (S0.own E).1))).setCell ⟨w.heap.size + 4, 1, none⟩ (.slice ad4 ln4 c4)) (.agg #[.int .u8 (rk (S0.own E).1), .slice ad4 ln4 c4]) (S0.own E)) := HT1.out.set2 BX1.out.2; have FB2 : Hid (FB w ((w1.setCell ⟨w.heap.size + 4, 0, none⟩ (.int .u8 (rk (S0.own E).1))).setCell ⟨w.heap.size + 4, 1, none⟩ (.slice ad4 ln4 c4)) ⟨#[61]⟩ x na (.slice (some ⟨g, 0, none⟩) 2 c1) (rk t.1) ad ln c) := (FB1.out.set4 _ _).set4 _ _; have BX2 : Hid (Box4 w ((w1.setCell ⟨w.heap.size + 4, 0, none⟩ (.int .u8 (rk (S0.own E).1))).setCell ⟨w.heap.size + 4, 1, none⟩ (.slice ad4 ln4 c4)) (rk (S0.own E).1) ad4 ln4 c4) := BX1.out.set; by_cases hz0 : (S0.own E).1 = 0
  rw [decide_eq_true hz0] at hz; have HF : Hid (Wk.fstOwn S0 S1 E = S1.own E) := if_pos hz0; clear hz0; go_wp2_with fail; refine (HO1.out _ FB2.out.below).mono ?_; rintro e w2 ⟨⟨ov, rfl, hov⟩, hb1⟩; have FB3 : Hid (FB w w2 ⟨#[61]⟩ x na (.slice (some ⟨g, 0, none⟩) 2 c1) (rk t.1) ad ln c) := FB2.out.next hb1
  have BX3 : Hid (Box4 w w2 (rk (S0.own E).1) ad4 ln4 c4) := BX2.out.next hb1
  obtain ⟨t3', t6', t0', ws, rfl, hws⟩ := hov; have HT2 : Hid (TyAt w2 (.agg #[.int .u8 (rk (S1.own E).1), ws]) (S1.own E)) := ⟨t3', t6', t0', ws, rfl, hws⟩
  obtain ⟨ad5, c5, rfl⟩ := hws.form; generalize ((S1.own E).2.map quo).length = ln5 at *
  have hz2 := rk_zero t3'; clear y0 y1 yf s3 b0 b1 b2 b3; have y0 := bc 0 BX3.out.2 rfl; have y1 := bc 1 BX3.out.2 rfl; have yf := blk_free BX3.out.2; have HT3s : Hid (TyAt ((w2.setCell ⟨w.heap.size + 4, 0, none⟩ (.int .u8 (rk (S1.own E).1))).setCell ⟨w.heap.size + 4, 1, none⟩ (.slice ad5 ln5 c5)) (.agg #[.int .u8 (rk (S1.own E).1), .slice ad5 ln5 c5]) (S1.own E)) := HT2.out.set2 BX3.out.2; have FB4 : Hid (FB w ((w2.setCell ⟨w.heap.size + 4, 0, none⟩ (.int .u8 (rk (S1.own E).1))).setCell ⟨w.heap.size + 4, 1, none⟩ (.slice ad5 ln5 c5)) ⟨#[61]⟩ x na (.slice (some ⟨g, 0, none⟩) 2 c1) (rk t.1) ad ln c) := (FB3.out.set4 _ _).set4 _ _; have BX4 : Hid (Box4 w ((w2.setCell ⟨w.heap.size + 4, 0, none⟩ (.int .u8 (rk (S1.own E).1))).setCell ⟨w.heap.size + 4, 1, none⟩ (.slice ad5 ln5 c5)) (rk (S1.own E).1) ad5 ln5 c5) := BX3.out.set; clear hws hb1; by_cases hz1 : (S1.own E).1 = 0
  · rw [decide_eq_true hz1] at hz2; have HNZ : Hid (((Wk.fstOwn S0 S1 E).1 != 0) = false) := by
      show _ = _; rw [HF.out, hz1]; rfl
    clear hz1; go_wp2_with fail; go_ret; refine ⟨ret_bool ?_, FB4.out.below⟩; have h := HR.out; rw [HNZ.out] at h; rw [← h]; rfl
  rw [decide_eq_false hz1] at hz2; have HNZ' : Hid (((S1.own E).1 != 0) = true) := by
    show _ = _; rw [bne_iff_ne]; exact hz1
  clear hz1; go_upto_region 27 with fail; generalize hW' : ((w2.setCell ⟨w.heap.size + 1 + 1 + 1 + 1, 0, none⟩ (.int .u8 (rk (S1.own E).1))).setCell ⟨w.heap.size + 1 + 1 + 1 + 1, 1, none⟩ (.slice ad5 ln5 c5)) = W'; have FBW : Hid (FB w W' ⟨#[61]⟩ x na (.slice (some ⟨g, 0, none⟩) 2 c1) (rk t.1) ad ln c) := by rw [← hW']; exact FB4.out
  have B4 : Hid (Box4 w W' (rk (S1.own E).1) ad5 ln5 c5) := by rw [← hW']; exact BX4.out
  have HPT : Hid (TyAt W' (.agg #[.int .u8 (rk (S1.own E).1), .slice ad5 ln5 c5]) (S1.own E)) := by rw [← hW']; exact HT3s.out
  have HPE : Hid (S1.own E = Wk.fstOwn S0 S1 E) := HF.out.symm; have HNZ : Hid (((S1.own E).1 != 0) = true) := HNZ'; clear hW' FB4 BX4 HT3s y0 y1 yf; generalize S1.own E = pt at *
  generalize ad5 = adp at *
  generalize ln5 = lp at *
  generalize c5 = cp at *
  rotate_left; rw [decide_eq_false hz0] at hz; have HPE' : Hid (S0.own E = Wk.fstOwn S0 S1 E) := (if_neg hz0).symm; have HNZ' : Hid (((S0.own E).1 != 0) = true) := by
    show _ = _; rw [bne_iff_ne]; exact hz0
  clear hz0; go_upto_region 27 with fail; generalize hW' : ((w1.setCell ⟨w.heap.size + 1 + 1 + 1 + 1, 0, none⟩ (.int .u8 (rk (S0.own E).1))).setCell ⟨w.heap.size + 1 + 1 + 1 + 1, 1, none⟩ (.slice ad4 ln4 c4)) = W'; have FBW : Hid (FB w W' ⟨#[61]⟩ x na (.slice (some ⟨g, 0, none⟩) 2 c1) (rk t.1) ad ln c) := by rw [← hW']; exact FB2.out
  have B4 : Hid (Box4 w W' (rk (S0.own E).1) ad4 ln4 c4) := by rw [← hW']; exact BX2.out
  have HPT : Hid (TyAt W' (.agg #[.int .u8 (rk (S0.own E).1), .slice ad4 ln4 c4]) (S0.own E)) := by rw [← hW']; exact HT1s.out
  have HPE : Hid (S0.own E = Wk.fstOwn S0 S1 E) := HPE'; have HNZ : Hid (((S0.own E).1 != 0) = true) := HNZ'; clear hW' FB2 BX2 HT1s y0 y1 yf; generalize S0.own E = pt at *
  generalize ad4 = adp at *
  generalize ln4 = lp at *
  generalize c4 = cp at *
  rotate_left; all_goals (
    have x0' := bc 0 FBW.out.b0 rfl; have x1' := bc 1 FBW.out.b0 rfl; have x2' := bc 2 FBW.out.b0 rfl; have x3' := bc 3 FBW.out.b0 rfl; have y0' := bc 0 FBW.out.b1 rfl; have y1' := bc 1 FBW.out.b1 rfl; have HX : Hid (∀ u, Below W'.heap.size W' u → FB w u ⟨#[61]⟩ x na (.slice (some ⟨g, 0, none⟩) 2 c1) (rk t.1) ad ln c) := fun u hb => FBW.out.next hb
    have HXd : Hid (∀ u, Below W'.drew.heap.size W'.drew u → Below W'.heap.size W' u) := fun u hb => ⟨hb.os, hb.tape, hb.output, hb.size, hb.block⟩
    go_region_held3 (fun w' => w'.cell? ⟨w.heap.size, 0, none⟩ = some (.string ⟨#[61]⟩) ∧ w'.cell? ⟨w.heap.size, 1, none⟩ = some (.string x) ∧ w'.cell? ⟨w.heap.size, 2, none⟩ = some (.int .i64 na) ∧ w'.cell? ⟨w.heap.size, 3, none⟩ = some (.slice (some ⟨g, 0, none⟩) 2 c1) ∧ w'.cell? ⟨w.heap.size + 1, 0, none⟩ = some (.int .u8 (rk t.1)) ∧ w'.cell? ⟨w.heap.size + 1, 1, none⟩ = some (.slice ad ln c)) (go_keep)
      (first
        | (go_at_call 80; refine (HOW.out _).mono ?_; rintro e w5 ⟨⟨ov, rfl, hov⟩, hb1⟩
           have hb2 : Below W'.heap.size W' w5 := by first | exact hb1 | exact HXd.out _ hb1
           have FB5 : Hid (FB w w5 ⟨#[61]⟩ x na (.slice (some ⟨g, 0, none⟩) 2 c1) (rk t.1) ad ln c) := HX.out _ hb2; have z0 := bc 0 FB5.out.b0 rfl; have z1 := bc 1 FB5.out.b0 rfl; have z2 := bc 2 FB5.out.b0 rfl; have z3 := bc 3 FB5.out.b0 rfl; have v0 := bc 0 FB5.out.b1 rfl; have v1 := bc 1 FB5.out.b1 rfl; have HOV : Hid (TyAt w5 ov (2, [])) := hov; have HB2 : Hid _ := hb2; clear hov hb1 hb2)
        | (go_at_call 117; refine (r_sameType _ _ (2, []) t _ HOV.out (HT.out _ FB5.out.below)).mono ?_; rintro e w6 ⟨rfl, hb3⟩
           have FB6 : Hid (FB w w6 ⟨#[61]⟩ x na (.slice (some ⟨g, 0, none⟩) 2 c1) (rk t.1) ad ln c) := FB5.out.next hb3
           have z0 := bc 0 FB6.out.b0 rfl; have z1 := bc 1 FB6.out.b0 rfl; have z2 := bc 2 FB6.out.b0 rfl; have z3 := bc 3 FB6.out.b0 rfl; have v0 := bc 0 FB6.out.b1 rfl; have v1 := bc 1 FB6.out.b1 rfl; have B46 : Hid _ := (B4.out.next HB2.out).next hb3
           have HPT6 : Hid _ := (HPT.out.below HB2.out).below hb3; clear hb3))
    go_wp2_with fail; go_loopw [13, 14] (fun o i wr => ∃ (k : Nat) (z : Bool), k ≤ 2 ∧ i = .int .i64 k ∧ o = .bool z ∧ Hid (z = ((((2, []) : Wk.Ty) == t) && (([((0 : Nat), S0), (1, S1)] : List (Nat × Wk.Sem)).take k).all (fun p => p.2.fits E pt))) ∧ Hid (FB w wr ⟨#[61]⟩ x na (.slice (some ⟨g, 0, none⟩) 2 c1) (rk t.1) ad ln c) ∧ Hid (Box4 w wr (rk pt.1) adp lp cp) ∧ Hid (TyAt wr (.agg #[.int .u8 (rk pt.1), .slice adp lp cp]) pt)) (fun _ i _ => 2 - (intOf i).toNat)
    case atStart =>
      refine ⟨0, _, by omega, rfl, rfl, ?_, FB6, B46, HPT6⟩; show _ = _; simp
    case round =>
      clear x0' x1' x2' x3' y0' y1' HX HXd FB6 FB5 HOV HB2 B46 HPT6 FBW B4 HPT; obtain ⟨k, z, hk, rfl, rfl, HZ, FBW, B4, HPT⟩ := hrel; have x3' := bc 3 FBW.out.b0 rfl; have b0' := bc 0 B4.out.2 rfl; have b1' := bc 1 B4.out.2 rfl; have HX : Hid (∀ u, Below wr.heap.size wr u → FB w u ⟨#[61]⟩ x na (.slice (some ⟨g, 0, none⟩) 2 c1) (rk t.1) ad ln c) := fun u hb => FBW.out.next hb
      have HXd : Hid (∀ u, Below wr.drew.heap.size wr.drew u → Below wr.heap.size wr u) := fun u hb => ⟨hb.os, hb.tape, hb.output, hb.size, hb.block⟩
      have HPTd : Hid (TyAt wr.drew (.agg #[.int .u8 (rk pt.1), .slice adp lp cp]) pt) := HPT.out.below ((Below.refl _ _).drew); have hk3 : k = 0 ∨ k = 1 ∨ k = 2 := by omega
      rcases hk3 with rfl | rfl | rfl
      · have a0 := (HG.out _ _ FBW.out.below).trans A0.out; have a1 := (HG.out _ _ FBW.out.below).trans A1.out; have a2 := (HG.out _ _ FBW.out.below).trans A2.out; have a3 := (HG.out _ _ FBW.out.below).trans A3.out; cases z; all_goals
          go_wp2_with fail; go_region_held3 (fun w' => w'.cell? ⟨w.heap.size, 3, none⟩ = some (.slice (some ⟨g, 0, none⟩) 2 c1) ∧ w'.cell? ⟨g, 0, none⟩ = some (.string op0) ∧ w'.cell? ⟨g, 1, none⟩ = some (.string x0) ∧ w'.cell? ⟨g, 2, none⟩ = some (.int .i64 na0) ∧ w'.cell? ⟨g, 3, none⟩ = some kv0 ∧ w'.cell? ⟨w.heap.size + 4, 0, none⟩ = some (.int .u8 (rk pt.1)) ∧ w'.cell? ⟨w.heap.size + 4, 1, none⟩ = some (.slice adp lp cp)) (go_keep)
            (first
              | (go_at_call 79; refine (HC0.out _ (by first | exact FBW.out.below | exact FBW.out.below.drew) _ pt (by first | exact HPT.out | exact HPTd.out)).mono ?_; rintro e w7 ⟨rfl, hb1⟩
                 have hb2 : Below wr.heap.size wr w7 := by first | exact hb1 | exact HXd.out _ hb1
                 have FB7 : Hid (FB w w7 ⟨#[61]⟩ x na (.slice (some ⟨g, 0, none⟩) 2 c1) (rk t.1) ad ln c) := HX.out _ hb2; have z3 := bc 3 FB7.out.b0 rfl; have B47 : Hid _ := B4.out.next hb2
                 have v0 := bc 0 B47.out.2 rfl; have v1 := bc 1 B47.out.2 rfl; have HPT7 : Hid _ := HPT.out.below hb2; have d0 := (HG.out _ _ FB7.out.below).trans A0.out; have d1 := (HG.out _ _ FB7.out.below).trans A1.out; have d2 := (HG.out _ _ FB7.out.below).trans A2.out; have d3 := (HG.out _ _ FB7.out.below).trans A3.out; clear hb1 hb2))
          go_wp2_with fail; go_roundw
          case rel =>
            refine ⟨1, _, by omega, by go_num, rfl, ?_, FB7, B47, HPT7⟩; show _ = _; rw [take_allG (by simp), ← HZ.out]; rfl
          case measure => simp [intOf]
      · have a0 := (HG.out _ _ FBW.out.below).trans B0.out; have a1 := (HG.out _ _ FBW.out.below).trans B1.out; have a2 := (HG.out _ _ FBW.out.below).trans B2.out; have a3 := (HG.out _ _ FBW.out.below).trans B3.out; cases z; all_goals
          go_wp2_with fail; go_region_held3 (fun w' => w'.cell? ⟨w.heap.size, 3, none⟩ = some (.slice (some ⟨g, 0, none⟩) 2 c1) ∧ w'.cell? ⟨g, 4, none⟩ = some (.string op1) ∧ w'.cell? ⟨g, 5, none⟩ = some (.string x1) ∧ w'.cell? ⟨g, 6, none⟩ = some (.int .i64 na1) ∧ w'.cell? ⟨g, 7, none⟩ = some kv1 ∧ w'.cell? ⟨w.heap.size + 4, 0, none⟩ = some (.int .u8 (rk pt.1)) ∧ w'.cell? ⟨w.heap.size + 4, 1, none⟩ = some (.slice adp lp cp)) (go_keep)
            (first
              | (go_at_call 79; refine (HC1.out _ (by first | exact FBW.out.below | exact FBW.out.below.drew) _ pt (by first | exact HPT.out | exact HPTd.out)).mono ?_; rintro e w7 ⟨rfl, hb1⟩
                 have hb2 : Below wr.heap.size wr w7 := by first | exact hb1 | exact HXd.out _ hb1
                 have FB7 : Hid (FB w w7 ⟨#[61]⟩ x na (.slice (some ⟨g, 0, none⟩) 2 c1) (rk t.1) ad ln c) := HX.out _ hb2; have z3 := bc 3 FB7.out.b0 rfl; have B47 : Hid _ := B4.out.next hb2
                 have v0 := bc 0 B47.out.2 rfl; have v1 := bc 1 B47.out.2 rfl; have HPT7 : Hid _ := HPT.out.below hb2; have d0 := (HG.out _ _ FB7.out.below).trans B0.out; have d1 := (HG.out _ _ FB7.out.below).trans B1.out; have d2 := (HG.out _ _ FB7.out.below).trans B2.out; have d3 := (HG.out _ _ FB7.out.below).trans B3.out; clear hb1 hb2))
          go_wp2_with fail; go_roundw
          case rel =>
            refine ⟨2, _, by omega, by go_num, rfl, ?_, FB7, B47, HPT7⟩; show _ = _; rw [take_allG (by simp), ← HZ.out]; rfl
          case measure => simp [intOf]
      · go_wp2
        go_ret; refine ⟨ret_bool ?_, FBW.out.below⟩; have h := HR.out; rw [← HPE.out, HNZ.out] at h; rw [HZ.out, ← h]; simp)
theorem beq_ty {n : Nat} {t : Wk.Ty} {w : World} {tv : Value} (h : TyAt w tv t) (hn : n ≠ 3) : (((n, []) : Wk.Ty) == t) = (t.1 == n) := by
 obtain ⟨h1, h2, h3, _⟩ := h; rw [Bool.eq_iff_iff, beq_iff_eq, beq_iff_eq]; constructor
 ·intro e; rw [← e]
 ·intro e; have : t.2 = [] := h3 (by omega); rw [← e, ← this]
theorem tr_const (lo hi : Nat) (w : World) (op x : ByteArray) (na n : Nat) (v : Wk.PVal) (hn : n = 1 ∨ n = 2) (hv : v.1 = n) (h1 : op ∈ opsOf n) (h2 : op.toList ∈ partOps 2) (h3 : op ≠ ⟨#[110]⟩) : Tr lo hi w (tree op x na (.slice none 0 0)) (Wk.semVal v) := by
 intro w' _; have hK : Kids w' (.slice none 0 0) ([] : List Value) := ⟨by simp, Or.inl ⟨rfl, rfl⟩⟩
 refine ⟨?_, ?_, ?_⟩
 ·have h := s_node w' op x na (.slice none 0 0) [] hK (fun p hp => by cases hp); have e : selfName op x na ++ (([] : List (Value × List (Wk.Name × Nat))).map (·.2)).flatten = [] := by simp [selfName, h3]
  rw [e] at h; exact h
 ·intro mb E _ _; have e : (Wk.semVal v).own E = (n, []) := by
   simp only [Wk.semVal, hv]; rw [if_neg (by omega)]
  rw [e]; exact own_const w' op x na _ mb n (by omega) h1
 ·intro mb E tv t hM _ hT; refine (f_node w' op x na (.slice none 0 0) 2 (Or.inr rfl) h2 [] hK (fun p hp => by cases hp) mb E hM (fun p hp => by cases hp) (n, []) (fun w2 _ => own_const w2 op x na _ mb n (by omega) h1) tv t hT).mono ?_; rintro e w2 ⟨rfl, hb⟩; refine ⟨ret_bool ?_, hb⟩; rw [beq_ty hT (by omega)]; simp [Wk.semVal, Wk.holds, hv]; intro h; omega
theorem tr_null (lo hi : Nat) (w : World) (x : ByteArray) (na : Nat) : Tr lo hi w (tree ⟨#[110, 117, 108, 108]⟩ x na (.slice none 0 0)) Wk.semNull := by
 intro w' _; have hK : Kids w' (.slice none 0 0) ([] : List Value) := ⟨by simp, Or.inl ⟨rfl, rfl⟩⟩
 refine ⟨?_, ?_, ?_⟩
 ·have h := s_node w' ⟨#[110, 117, 108, 108]⟩ x na (.slice none 0 0) [] hK (fun p hp => by cases hp); exact h
 ·intro mb E _ _; exact own_const w' _ x na _ mb 0 (by omega) (by simp [opsOf])
 ·intro mb E tv t _ _ hT; exact f_null w' x na _ mb tv t hT
theorem tr_word (lo hi : Nat) (w : World) (na : Nat) (v : Wk.PVal) (hv : v.1 = 3) : Tr lo hi w (tree ⟨#[119]⟩ (quo v.2) na (.slice none 0 0)) (Wk.semVal v) := by
 intro w' _; have hK : Kids w' (.slice none 0 0) ([] : List Value) := ⟨by simp, Or.inl ⟨rfl, rfl⟩⟩
 refine ⟨?_, ?_, ?_⟩
 ·have h := s_node w' ⟨#[119]⟩ (quo v.2) na (.slice none 0 0) [] hK (fun p hp => by cases hp); exact h
 ·intro mb E _ _; have e : (Wk.semVal v).own E = (0, []) := by simp [Wk.semVal, hv]
  rw [e]; exact own_const w' _ _ na _ mb 0 (by omega) (by simp [opsOf])
 ·intro mb E tv t _ _ hT; refine (f_word w' (quo v.2) na _ mb tv t hT).mono ?_; rintro e w2 ⟨rfl, hb⟩; refine ⟨ret_bool ?_, hb⟩; have e : (Wk.semVal v).fits E t = (t.1 == 3 && t.2.contains v.2) := by simp [Wk.semVal, Wk.holds, hv]
  rw [e]; obtain ⟨_, _, h0, _⟩ := hT; have key : ∀ l : List (List UInt8), (l.map quo).any (fun y => y.data.toList == (quo v.2).data.toList) = l.contains v.2 := by
   intro l; induction l with
   | nil => rfl
   | cons a l ih =>
    rw [List.map_cons, List.any_cons, ih, List.contains_cons]
    congr 1
    rw [Bool.eq_iff_iff, beq_iff_eq, beq_iff_eq]; exact ⟨fun h => (quo_inj h).symm, fun h => by rw [h]⟩
  rw [key]; by_cases h3 : t.1 = 3
  ·rw [h3]; rfl
  ·rw [h0 h3]; simp
theorem tr_name (lo hi : Nat) (w : World) (x : ByteArray) (na : Nat) : Tr lo hi w (tree ⟨#[110]⟩ x na (.slice none 0 0)) (Wk.semName x.data.toList na) := by
 intro w' _; have hK : Kids w' (.slice none 0 0) ([] : List Value) := ⟨by simp, Or.inl ⟨rfl, rfl⟩⟩
 refine ⟨?_, ?_, ?_⟩
 ·have h := s_node w' ⟨#[110]⟩ x na (.slice none 0 0) [] hK (fun p hp => by cases hp); exact h
 ·intro mb E hM hn; exact own_name w' x na _ mb E hM (hn (x.data.toList, na) (by simp [Wk.semName]))
 ·intro mb E tv t hM hn hT; have hx := hn (x.data.toList, na) (by simp [Wk.semName]); refine (f_node w' ⟨#[110]⟩ x na (.slice none 0 0) 2 (Or.inr rfl) (by rw [ByteArray.toList_eq]; simp [partOps]) [] hK (fun p hp => by cases hp) mb E hM (fun p hp => by cases hp) _ (fun w2 hb => own_name w2 x na _ mb E (hM.below hb) hx) tv t hT).mono ?_; rintro e w2 ⟨rfl, hb⟩; refine ⟨ret_bool ?_, hb⟩; simp [Wk.semName]
theorem tr_op (lo hi : Nat) (w : World) (op x : ByteArray) (na n pn : Nat) (kv : Value) (ks : List (Value × Wk.Sem)) (hn : n = 1 ∨ n = 2) (hp : pn = 1 ∨ pn = 2) (h1 : op ∈ opsOf n) (h2 : op.toList ∈ partOps pn) (h3 : op ≠ ⟨#[110]⟩)
  (hK : ∀ w', KeepT lo hi w w' → Kids w' kv (ks.map (·.1))) (hT : ∀ p ∈ ks, Tr lo hi w p.1 p.2) :
  Tr lo hi w (tree op x na kv) ⟨(ks.map (·.2.names)).flatten, fun _ => (n, []), fun E t => t.1 == n && ks.all (fun p => p.2.fits E (pn, []))⟩ := by
 intro w' hk; have kk : ∀ w2, Below w'.heap.size w' w2 → KeepT lo hi w w2 := fun w2 hb => hk.trans (KeepT.below hb lo hi)
 refine ⟨?_, ?_, ?_⟩
 ·have h := s_node w' op x na kv (ks.map (fun p => (p.1, p.2.names))) (by rw [List.map_map]; exact hK w' hk) (fun p hp w2 hb => by
   obtain ⟨q, hq, rfl⟩ := List.mem_map.1 hp; exact (hT q hq w2 (kk w2 hb)).1)
  have e : selfName op x na ++ ((ks.map (fun p => (p.1, p.2.names))).map (·.2)).flatten = (ks.map (·.2.names)).flatten := by
   rw [List.map_map]; simp [selfName, h3]; rfl
  rw [e] at h; exact h
 ·intro mb E _ _; exact own_const w' op x na _ mb n (by omega) h1
 ·intro mb E tv t hM hkn hTy; refine (f_node w' op x na kv pn hp h2 ks (hK w' hk) (fun p hp w2 hb => (hT p hp w2 (kk w2 hb)).2.2) mb E hM (fun p hp y hy => hkn y (by
   simp only [List.mem_flatten, List.mem_map]; exact ⟨_, ⟨p, hp, rfl⟩, hy⟩)) (n, []) (fun w2 _ => own_const w2 op x na _ mb n (by omega) h1) tv t hTy).mono ?_
  rintro e w2 ⟨rfl, hb⟩; refine ⟨ret_bool ?_, hb⟩; rw [beq_ty hTy (by omega)]
theorem tr_if (lo hi : Nat) (w : World) (x : ByteArray) (na : Nat) (kv k0 k1 k2 : Value) (S0 S1 S2 : Wk.Sem)
  (hK : ∀ w', KeepT lo hi w w' → Kids w' kv [k0, k1, k2]) (h0 : Tr lo hi w k0 S0) (h1 : Tr lo hi w k1 S1) (h2 : Tr lo hi w k2 S2) :
  Tr lo hi w (tree ⟨#[105, 102]⟩ x na kv) (Wk.semIf S0 S1 S2) := by
 intro w' hk; have kk : ∀ w2, Below w'.heap.size w' w2 → KeepT lo hi w w2 := fun w2 hb => hk.trans (KeepT.below hb lo hi)
 have m0 : ∀ {E : Wk.Env}, known E (Wk.semIf S0 S1 S2).names → known E S0.names ∧ known E S1.names ∧ known E S2.names := fun h =>
  ⟨fun y hy => h y (List.mem_append_left _ hy), fun y hy => h y (List.mem_append_right _ (List.mem_append_left _ hy)), fun y hy => h y (List.mem_append_right _ (List.mem_append_right _ hy))⟩
 refine ⟨?_, ?_, ?_⟩
 ·have h := s_node w' ⟨#[105, 102]⟩ x na kv [(k0, S0.names), (k1, S1.names), (k2, S2.names)] (hK w' hk) (fun p hp w2 hb => by
   simp only [List.mem_cons, List.mem_nil_iff, or_false] at hp; rcases hp with rfl | rfl | rfl
   ·exact (h0 w2 (kk w2 hb)).1
   ·exact (h1 w2 (kk w2 hb)).1
   ·exact (h2 w2 (kk w2 hb)).1)
  have e : selfName ⟨#[105, 102]⟩ x na ++ (([(k0, S0.names), (k1, S1.names), (k2, S2.names)] : List (Value × List (Wk.Name × Nat))).map (·.2)).flatten = (Wk.semIf S0 S1 S2).names := by
   simp [selfName, Wk.semIf]
  rw [e] at h; exact h
 ·intro mb E hM hkn; obtain ⟨_, n1, n2⟩ := m0 hkn; exact own_if w' x na kv k0 k1 k2 S1 S2 (hK w' hk) (fun w2 hb => (h1 w2 (kk w2 hb)).2.1) (fun w2 hb => (h2 w2 (kk w2 hb)).2.1) mb E hM n1 n2
 ·intro mb E tv t hM hkn hTy; obtain ⟨n0, n1, n2⟩ := m0 hkn; exact f_if w' x na kv k0 k1 k2 S0 S1 S2 (hK w' hk) (fun w2 hb => (h0 w2 (kk w2 hb)).2.2) (fun w2 hb => (h1 w2 (kk w2 hb)).2.2) (fun w2 hb => (h2 w2 (kk w2 hb)).2.2) mb E hM n0 n1 n2 tv t hTy
theorem kids1 {lo hi g : Nat} {w : World} {op x : ByteArray} {na : Nat} {kv : Value} (h : w.heap[g]? = some (.cells #[.string op, .string x, .int .i64 na, kv] 107 (0, 0))) (h1 : lo ≤ g) (h2 : g < hi) :
  ∀ w', KeepT lo hi w w' → Kids w' (.slice (some ⟨g, 0, none⟩) 1 1) [tree op x na kv] := by
 intro w' hk; have hb := hk g _ h1 h2 h rfl; refine ⟨by simp, Or.inr ⟨g, 1, rfl, by simp, fun j v hv => ?_⟩⟩
 match j, hv with
 | 0, hv => cases hv; exact ⟨op, x, na, kv, rfl, blk_cell hb rfl, blk_cell hb rfl, blk_cell hb rfl, blk_cell hb rfl⟩
theorem kids3 {lo hi g : Nat} {w : World} {op x op' x' op'' x'' : ByteArray} {na na' na'' : Nat} {kv kv' kv'' : Value} (h : w.heap[g]? = some (.cells #[.string op, .string x, .int .i64 na, kv, .string op', .string x', .int .i64 na', kv', .string op'', .string x'', .int .i64 na'', kv''] 107 (0, 0))) (h1 : lo ≤ g) (h2 : g < hi) :
  ∀ w', KeepT lo hi w w' → Kids w' (.slice (some ⟨g, 0, none⟩) 3 3) [tree op x na kv, tree op' x' na' kv', tree op'' x'' na'' kv''] := by
 intro w' hk; have hb := hk g _ h1 h2 h rfl; refine ⟨by simp, Or.inr ⟨g, 3, rfl, by simp, fun j v hv => ?_⟩⟩
 match j, hv with
 | 0, hv => cases hv; exact ⟨op, x, na, kv, rfl, blk_cell hb rfl, blk_cell hb rfl, blk_cell hb rfl, blk_cell hb rfl⟩
 | 1, hv => cases hv; exact ⟨op', x', na', kv', rfl, blk_cell hb rfl, blk_cell hb rfl, blk_cell hb rfl, blk_cell hb rfl⟩
 | 2, hv => cases hv; exact ⟨op'', x'', na'', kv'', rfl, blk_cell hb rfl, blk_cell hb rfl, blk_cell hb rfl, blk_cell hb rfl⟩
theorem tr_not {lo hi g : Nat} {w : World} {op x : ByteArray} {na : Nat} {kv : Value} {a : Wk.Sem} (h : w.heap[g]? = some (.cells #[.string op, .string x, .int .i64 na, kv] 107 (0, 0))) (h1 : lo ≤ g) (h2 : g < hi) (ha : Tr lo hi w (tree op x na kv) a) (x' : ByteArray) (na' : Nat) :
  Tr lo hi w (tree ⟨#[110, 111, 116]⟩ x' na' (.slice (some ⟨g, 0, none⟩) 1 1)) (Wk.semNot a) := by
 have k := tr_op lo hi w ⟨#[110, 111, 116]⟩ x' na' 2 2 (.slice (some ⟨g, 0, none⟩) 1 1) [(tree op x na kv, a)] (Or.inr rfl) (Or.inr rfl) (by simp [opsOf]) (by rw [ByteArray.toList_eq]; simp [partOps]) (by simp) (kids1 h h1 h2) (fun p hp => by
  simp only [List.mem_singleton] at hp; subst hp; exact ha)
 have e : Wk.semNot a = ⟨([(tree op x na kv, a)].map (·.2.names)).flatten, fun _ => (2, []), fun E t => t.1 == 2 && [(tree op x na kv, a)].all (fun p => p.2.fits E (2, []))⟩ := by
  simp [Wk.semNot]
 rw [e]; exact k
def binOps : List Nat := [24, 25, 27, 28, 29, 30, 31, 32]
end Go.Proofs.YtbkaghlklkdmkaaGreatDoor
