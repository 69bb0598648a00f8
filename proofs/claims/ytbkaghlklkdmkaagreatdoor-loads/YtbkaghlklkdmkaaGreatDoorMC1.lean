/-
  The trees of the document's answer, by what stray, own and fits answer at them. The trees of the document's answer: stray. The trees of the document's answer: own.
-/
import Derived.Test.YtbkaghlklkdmkaaGreatDoorMB
import Derived.Deep.Cut
import Derived.Deep.RegionHeld3
set_option maxRecDepth 100000
set_option maxHeartbeats 8000000
namespace Go.Proofs.YtbkaghlklkdmkaaGreatDoor
open Go.RowKit
def strayOne (ns : List ByteArray) (x : Wk.Name × Nat) : Int := if findFrom x.1 ns 0 < 0 then (x.2 : Int) else -1
def strayM (ns : List ByteArray) : List (Wk.Name × Nat) → Int
 | [] => -1
 | x :: l => leastI (strayOne ns x) (strayM ns l)
theorem leastI_assoc (a b c : Int) : leastI (leastI a b) c = leastI a (leastI b c) := by
 unfold leastI; repeat' split
 all_goals first | rfl | omega
theorem strayOne_ge (ns : List ByteArray) (x : Wk.Name × Nat) : -1 ≤ strayOne ns x := by unfold strayOne; split <;> omega
theorem leastI_nil {a : Int} (h : -1 ≤ a) : leastI a (-1) = a := by unfold leastI; split <;> omega
theorem nil_leastI (a : Int) : leastI (-1) a = a := by unfold leastI; simp
theorem strayM_append (ns : List ByteArray) (l m : List (Wk.Name × Nat)) : strayM ns (l ++ m) = leastI (strayM ns l) (strayM ns m) := by
 induction l with
 | nil => exact (nil_leastI _).symm
 | cons x l ih => show leastI _ (strayM ns (l ++ m)) = leastI (leastI _ _) _; rw [ih, leastI_assoc]
def isTr : Obj → Prop
 | .cells _ t _ => t = 107
 | _ => False
def KeepT (lo hi : Nat) (w w' : World) : Prop := ∀ (k : Nat) (o : Obj), lo ≤ k → k < hi → w.heap[k]? = some o → isTr o → w'.heap[k]? = some o
theorem KeepT.refl (lo hi : Nat) (w : World) : KeepT lo hi w w := fun _ _ _ _ h _ => h
theorem KeepT.trans {lo hi : Nat} {a b c : World} (h : KeepT lo hi a b) (k : KeepT lo hi b c) : KeepT lo hi a c := fun i o h1 h2 h3 h4 => k i o h1 h2 (h i o h1 h2 h3 h4) h4
theorem KeepT.mono {lo hi lo' hi' : Nat} {a b : World} (h : KeepT lo hi a b) (h1 : lo ≤ lo') (h2 : hi' ≤ hi) : KeepT lo' hi' a b := fun i o g1 g2 g3 g4 => h i o (by omega) (by omega) g3 g4
theorem KeepT.frT {B : Nat} {ts : List TypeId} {w w' : World} (h : FrT B ts w w') (ht : 107 ∉ ts) (lo hi : Nat) : KeepT lo hi w w' := by
 intro k o _ _ h3 h4; refine h.kept k o h3 ?_; cases o with
 | cells cs t fr => intro hx; simp only [isTr] at h4; simp only [inTs] at hx; rw [h4] at hx; exact ht hx
 | _ => simp [isTr] at h4
theorem KeepT.below {w w' : World} (h : Below w.heap.size w w') (lo hi : Nat) : KeepT lo hi w w' := fun k _ _ _ h3 _ => (h.block k (lt_of_block h3)).trans h3
theorem KeepT.set {w : World} {lo hi b o : Nat} (h : b < lo ∨ hi ≤ b) (v : Value) : KeepT lo hi w (w.setCell ⟨b, o, none⟩ v) := by
 intro k x h1 h2 h3 _; rw [blk_other _ (by omega)]; exact h3
def ModelAt (w : World) (mb : Nat) (E : Wk.Env) : Prop :=
 E.length ≤ 1000 ∧ ∃ ib cap, w.cell? ⟨mb, 0, none⟩ = some (.slice (some ⟨ib, 0, none⟩) E.length cap) ∧ E.length ≤ cap ∧
  ∀ j (x : Wk.Name × Wk.Ty), E[j]? = some x → w.cell? ⟨ib, j * 14 + 2, none⟩ = some (.string ⟨x.1.toArray⟩) ∧
   ∃ ws, w.cell? ⟨ib, j * 14 + 5, none⟩ = some (.int .u8 (rk x.2.1)) ∧ w.cell? ⟨ib, j * 14 + 6, none⟩ = some ws ∧ TyAt w (.agg #[.int .u8 (rk x.2.1), ws]) x.2
def envNames (E : Wk.Env) : List ByteArray := E.map (fun e => ⟨e.1.toArray⟩)
theorem ModelAt.names {w : World} {mb : Nat} {E : Wk.Env} (h : ModelAt w mb E) : NamesAt w mb (envNames E) := by
 obtain ⟨_, ib, cap, h1, _, h2⟩ := h; refine ⟨ib, cap, by simpa [envNames] using h1, fun j hj => ?_⟩; have hj' : j < E.length := by simpa [envNames] using hj
 rw [(h2 j _ (List.getElem?_eq_getElem hj')).1]; simp [envNames, List.getD_eq_getElem?_getD, List.getElem?_eq_getElem hj']
theorem TyAt.below {w w' : World} {v : Value} {t : Wk.Ty} (h : TyAt w v t) (hb : Below w.heap.size w w') : TyAt w' v t := by
 obtain ⟨h1, h2, h3, ws, rfl, h4⟩ := h; exact ⟨h1, h2, h3, ws, rfl, h4.below hb⟩
theorem ModelAt.below {w w' : World} {mb : Nat} {E : Wk.Env} (h : ModelAt w mb E) (hb : Below w.heap.size w w') : ModelAt w' mb E := by
 obtain ⟨h0, ib, cap, h1, hc, h2⟩ := h; refine ⟨h0, ib, cap, (hb.cell (p := ⟨mb, 0, none⟩) (cell_lt h1)).trans h1, hc, fun j x hx => ?_⟩; obtain ⟨a, ws, b, c, d⟩ := h2 j x hx; exact ⟨(hb.cell (p := ⟨ib, _, none⟩) (cell_lt a)).trans a, ws, (hb.cell (p := ⟨ib, _, none⟩) (cell_lt b)).trans b, (hb.cell (p := ⟨ib, _, none⟩) (cell_lt c)).trans c, d.below hb⟩
theorem NamesAt.below {w w' : World} {mb : Nat} {ns : List ByteArray} (h : NamesAt w mb ns) (hb : Below w.heap.size w w') : NamesAt w' mb ns := by
 obtain ⟨ib, cap, h1, h2⟩ := h; exact ⟨ib, cap, (hb.cell (p := ⟨mb, 0, none⟩) (cell_lt h1)).trans h1, fun j hj => (hb.cell (p := ⟨ib, _, none⟩) (cell_lt (h2 j hj))).trans (h2 j hj)⟩
theorem findFrom_tyOf (x : Wk.Name) : ∀ (E : Wk.Env) (k : Nat), x ∈ E.map (·.1) → ∃ j y, E[j]? = some y ∧ findFrom x (envNames E) k = ((k + j : Nat) : Int) ∧ y.2 = Wk.tyOf E x := by
 intro E; induction E with
 | nil => intro k h; cases h
 | cons e E ih =>
  intro k h; by_cases he : e.1 = x
  ·refine ⟨0, e, rfl, ?_, ?_⟩
   ·simp [envNames, findFrom, he]
   ·simp [Wk.tyOf, he]
  ·have h' : x ∈ E.map (·.1) := by
    simp only [List.map_cons, List.mem_cons] at h; exact h.resolve_left (fun e' => he e'.symm)
   obtain ⟨j, y, h1, h2, h3⟩ := ih (k + 1) h'; refine ⟨j + 1, y, h1, ?_, ?_⟩
   ·have : findFrom x (envNames (e :: E)) k = findFrom x (envNames E) (k + 1) := by
     simp [envNames, findFrom, he]
    rw [this, h2]; omega
   ·rw [h3]; unfold Wk.tyOf; rw [List.find?_cons_of_neg (by simpa using he)]
def known (E : Wk.Env) (l : List (Wk.Name × Nat)) : Prop := ∀ x ∈ l, x.1 ∈ E.map (·.1)
def StrayOK (w : World) (v : Value) (l : List (Wk.Name × Nat)) : Prop :=
 ∀ (mb : Nat) (ns : List ByteArray) (i : Nat), NamesAt w mb ns → i ≤ ns.length → ns.length ≤ 1000 →
  Calls Tryz.prog 78 #[.pointer (some ⟨mb, 0, none⟩), v, .int .i64 i] w fun e w' => e = .returned (.int .i64 (strayM (ns.take i) l)) ∧ Below w.heap.size w w'
def ownEnd (w' : World) (t : Wk.Ty) (e : Ending) : Prop := ∃ tv, e = .returned tv ∧ TyAt w' tv t
def OwnOK (w : World) (v : Value) (S : Wk.Sem) : Prop :=
 ∀ (mb : Nat) (E : Wk.Env), ModelAt w mb E → known E S.names →
  Calls Tryz.prog 80 #[.pointer (some ⟨mb, 0, none⟩), v] w fun e w' => ownEnd w' (S.own E) e ∧ Below w.heap.size w w'
def FitsOK (w : World) (v : Value) (S : Wk.Sem) : Prop :=
 ∀ (mb : Nat) (E : Wk.Env) (tv : Value) (t : Wk.Ty), ModelAt w mb E → known E S.names → TyAt w tv t →
  Calls Tryz.prog 79 #[.pointer (some ⟨mb, 0, none⟩), v, tv] w fun e w' => e = .returned (.bool (S.fits E t)) ∧ Below w.heap.size w w'
def Tr (lo hi : Nat) (w : World) (v : Value) (S : Wk.Sem) : Prop :=
 ∀ w', KeepT lo hi w w' → StrayOK w' v S.names ∧ OwnOK w' v S ∧ FitsOK w' v S
theorem Tr.keep {lo hi : Nat} {w w' : World} {v : Value} {S : Wk.Sem} (h : Tr lo hi w v S) (k : KeepT lo hi w w') : Tr lo hi w' v S := fun w'' h2 => h w'' (k.trans h2)
theorem Tr.mono {lo hi lo' hi' : Nat} {w : World} {v : Value} {S : Wk.Sem} (h : Tr lo hi w v S) (h1 : lo' ≤ lo) (h2 : hi ≤ hi') : Tr lo' hi' w v S := fun w'' k => h w'' (k.mono h1 h2)
def tree (op x : ByteArray) (na : Nat) (kv : Value) : Value := .agg #[.string op, .string x, .int .i64 na, kv]
structure Kids (w : World) (kv : Value) (ks : List Value) : Prop where
 len : ks.length ≤ 3
 form : (ks = [] ∧ kv = .slice none 0 0) ∨ ∃ g c, kv = .slice (some ⟨g, 0, none⟩) ks.length c ∧ ks.length ≤ c ∧
  ∀ j v, ks[j]? = some v → ∃ op x na kv', v = tree op x na kv' ∧ w.cell? ⟨g, j * 4, none⟩ = some (.string op) ∧ w.cell? ⟨g, j * 4 + 1, none⟩ = some (.string x) ∧ w.cell? ⟨g, j * 4 + 2, none⟩ = some (.int .i64 (na : Int)) ∧ w.cell? ⟨g, j * 4 + 3, none⟩ = some kv'
def selfName (op x : ByteArray) (na : Nat) : List (Wk.Name × Nat) := if op = ⟨#[110]⟩ then [(x.data.toList, na)] else []
theorem Kids.below {w w' : World} {kv : Value} {ks : List Value} (h : Kids w kv ks) (hb : Below w.heap.size w w') : Kids w' kv ks := by
 refine ⟨h.len, h.form.imp id ?_⟩; rintro ⟨g, c, h1, h2, h3⟩; refine ⟨g, c, h1, h2, fun j v hv => ?_⟩; obtain ⟨op, x, na, kv', e, a, b, c', d⟩ := h3 j v hv; exact ⟨op, x, na, kv', e, (hb.cell (p := ⟨g, _, none⟩) (cell_lt a)).trans a, (hb.cell (p := ⟨g, _, none⟩) (cell_lt b)).trans b, (hb.cell (p := ⟨g, _, none⟩) (cell_lt c')).trans c', (hb.cell (p := ⟨g, _, none⟩) (cell_lt d)).trans d⟩
theorem Kids.slice {w : World} {kv : Value} {ks : List Value} (h : Kids w kv ks) : ∃ ad c, kv = .slice ad ks.length c := by
 rcases h.form with ⟨rfl, rfl⟩ | ⟨g, c, h, _⟩
 ·exact ⟨none, 0, rfl⟩
 ·exact ⟨_, c, h⟩
theorem Kids.at {w : World} {ks : List Value} {ad : Option Addr} {n c : Nat} (h : Kids w (.slice ad n c) ks) {j : Nat} {v : Value} (hv : ks[j]? = some v) :
  ∃ g op x na kv', ad = some ⟨g, 0, none⟩ ∧ n = ks.length ∧ n ≤ c ∧ v = tree op x na kv' ∧ w.cell? ⟨g, j * 4, none⟩ = some (.string op) ∧ w.cell? ⟨g, j * 4 + 1, none⟩ = some (.string x) ∧ w.cell? ⟨g, j * 4 + 2, none⟩ = some (.int .i64 (na : Int)) ∧ w.cell? ⟨g, j * 4 + 3, none⟩ = some kv' := by
 rcases h.form with ⟨rfl, _⟩ | ⟨g, c', h1, h2, h3⟩
 ·cases hv
 ·cases h1; obtain ⟨op, x, na, kv', e, r⟩ := h3 j v hv; exact ⟨g, op, x, na, kv', rfl, rfl, h2, e, r⟩
theorem op_of {op : ByteArray} {l : List UInt8} (h : op.toList = l) : op = ⟨l.toArray⟩ := by
 rw [ByteArray.toList_eq] at h; cases op with
 | mk d => cases d with
  | mk m => simp at h; rw [h]
theorem self_a {op x : ByteArray} {na : Nat} {ns : List ByteArray} (h1 : op.toList = [110]) (h2 : findFrom x.data.toList ns 0 < 0) : strayM ns (selfName op x na) = na := by
 rw [op_of h1]; show leastI (strayOne _ _) (-1) = _; rw [leastI_nil (strayOne_ge _ _)]; exact if_pos h2
theorem self_b {op x : ByteArray} {na : Nat} {ns : List ByteArray} (h1 : op.toList = [110]) (h2 : 0 ≤ findFrom x.data.toList ns 0) : strayM ns (selfName op x na) = -1 := by
 rw [op_of h1]; show leastI (strayOne _ _) (-1) = _; rw [leastI_nil (strayOne_ge _ _)]; exact if_neg (by show ¬ findFrom x.data.toList ns 0 < 0; omega)
theorem self_c {op x : ByteArray} {na : Nat} {ns : List ByteArray} (h1 : ¬ op.toList = [110]) : strayM ns (selfName op x na) = -1 := by
 unfold selfName; rw [if_neg (fun e => h1 (by rw [e, ByteArray.toList_eq]))]; rfl
theorem kid_get {ks : List (Value × List (Wk.Name × Nat))} {k : Nat} (h : k < ks.length) : (ks.map (·.1))[k]? = some (ks[k]'h).1 := by
 rw [List.getElem?_map, List.getElem?_eq_getElem h]; rfl
theorem take_flat {ks : List (Value × List (Wk.Name × Nat))} {k : Nat} (h : k < ks.length) : ((ks.take (k + 1)).map (·.2)).flatten = ((ks.take k).map (·.2)).flatten ++ (ks[k]'h).2 := by
 rw [List.take_succ_eq_append_getElem h, List.map_append, List.flatten_append]; simp
theorem s_node (w : World) (op x : ByteArray) (na : Nat) (kv : Value) (ks : List (Value × List (Wk.Name × Nat))) (hK : Kids w kv (ks.map (·.1))) (hs : ∀ p ∈ ks, ∀ w', Below w.heap.size w w' → StrayOK w' p.1 p.2) :
  StrayOK w (tree op x na kv) (selfName op x na ++ (ks.map (·.2)).flatten) := by
 intro mb ns i hN hi hl; obtain ⟨ad, c, hkv⟩ := hK.slice; have hlen : (ks.map (·.1)).length = ks.length := List.length_map _; rw [hlen] at hkv; subst hkv; have hl3 := hK.len; rw [hlen] at hl3; have HN : Hid (∀ w', Below w.heap.size w w' → NamesAt w' mb ns) := fun w' hb => hN.below hb
 have HK : Hid (∀ w', Below w.heap.size w w' → Kids w' (.slice ad ks.length c) (ks.map (·.1))) := fun w' hb => hK.below hb
 have HS : Hid _ := hs; generalize hR : strayM (ns.take i) (selfName op x na ++ (ks.map (·.2)).flatten) = R; have HR : Hid _ := hR; clear hR hs hN hK hlen; have hbel : ∀ o, Below w.heap.size w (w.alloc o) := fun o => (Below.refl _ _).alloc (Nat.le_refl _) _
 have HBEL : Hid _ := hbel; clear hbel; have HF : Hid (∀ o, Calls Tryz.prog 52 #[.pointer (some ⟨mb, 0, none⟩), .string x, .int .i64 i] (w.alloc o) fun e w' => e = .returned (.int .i64 (findFrom x.data.toList (ns.take i) 0)) ∧ w' = w.alloc o) :=
  fun o => r_find mb ns x i _ (HN.out _ (HBEL.out o)) hi hl
 unfold tree; go_enter Tryz.func78, Tryz.ntmps78; go_wp2_with first | (go_at_call 52; refine (HF.out _).mono ?_; rintro e w' ⟨rfl, rfl⟩) | fail
 all_goals
  try simp only [show decide (findFrom x.data.toList (ns.take i) 0 < 0) = true from decide_eq_true (by assumption)]
  go_loopw [7, 8] (fun o i' wr => ∃ (k : Nat) (z : Int), k ≤ ks.length ∧ i' = .int .i64 k ∧ o = .int .i64 z ∧ Hid (z = strayM (ns.take i) (selfName op x na ++ ((ks.take k).map (·.2)).flatten)) ∧ Hid (Below w.heap.size w wr) ∧ Hid (wr.heap[w.heap.size]? = some (.cells #[.string op, .string x, .int .i64 na, .slice ad ks.length c] 107 (0, 0)))) (fun _ i' _ => ks.length - (intOf i').toNat)
  case atStart =>
   refine ⟨0, _, by omega, rfl, rfl, ?_, HBEL.out _, heap_alloc_new _ _⟩; show _ = _; rw [List.take_zero, List.map_nil, List.flatten_nil, List.append_nil]; first
    | rw [self_a (by assumption) (by assumption)]
    | rw [self_b (by assumption) (by assumption)]
    | rw [self_c (by assumption)]
  case round =>
   obtain ⟨k, z, hk, rfl, rfl, HZ, HB, HX⟩ := hrel; have x3 := bc 3 HX.out rfl; by_cases hlt : k < ks.length
   ·obtain ⟨g, op', x', na', kv', hg, -, hc, hv, a0, a1, a2, a3⟩ := (HK.out _ HB.out).at (kid_get hlt); subst hg; have HC : Hid _ := HS.out (ks[k]'hlt) (List.getElem_mem hlt) wr HB.out mb ns i (HN.out _ HB.out) hi hl; rw [hv] at HC; unfold tree at HC; clear hv; go_wp2_with first | (go_at_call 78; refine Calls.mono HC.out ?_; rintro e w1 ⟨rfl, hb1⟩; have HB1 : Hid _ := hb1; clear hb1) | (go_at_call 116; refine (r_least _ _ _).mono ?_; rintro e w' ⟨rfl, rfl⟩) | fail
    go_roundw
    case rel =>
     have HA : Hid (leastI z (strayM (ns.take i) (ks[k]'hlt).2) = strayM (ns.take i) (selfName op x na ++ ((ks.take (k + 1)).map (·.2)).flatten)) := by
      show _ = _; rw [take_flat hlt, ← List.append_assoc, strayM_append _ (_ ++ _), ← HZ.out]
     have HB2 : Hid _ := HB.out.trans (HB1.out.mono HB.out.size); have HX2 : Hid _ := (HB1.out.block _ (lt_of_block HX.out)).trans HX.out; first
      | exact ⟨k + 1, _, by omega, by go_num, rfl, HA, HB2, HX2⟩
      | ((repeat apply Exists.intro); refine ⟨⟨k + 1, _, by omega, ?_, rfl, HA, HB2, HX2⟩, rfl⟩; go_num)
    case measure => simp [intOf]; omega
   ·go_wp2
    go_ret; refine ⟨ret_int ?_, HB.out⟩; rw [HZ.out, ← HR.out, show ks.take k = ks from List.take_of_length_le (by omega)]
theorem sz_alloc (w : World) (o : Obj) : (w.alloc o).heap.size = w.heap.size + 1 := by simp
theorem below_one {w w1 : World} {o : Obj} (hb : Below (w.alloc o).heap.size (w.alloc o) w1) : Below w.heap.size w w1 ∧ w1.heap[w.heap.size]? = some o ∧ w.heap.size + 1 ≤ w1.heap.size := by
 have h := hb.size; rw [sz_alloc] at h; exact ⟨((Below.refl _ _).alloc (Nat.le_refl _) _).trans (hb.mono (by simp)), (hb.block _ (by simp)).trans (heap_alloc_new _ _), h⟩
theorem below_two {w w1 : World} {o p : Obj} (hb : Below ((w.alloc o).alloc p).heap.size ((w.alloc o).alloc p) w1) : Below w.heap.size w w1 ∧ w1.heap[w.heap.size]? = some o ∧ w1.heap[w.heap.size + 1]? = some p ∧ w.heap.size + 2 ≤ w1.heap.size := by
 obtain ⟨h1, h2, h3⟩ := below_one hb; obtain ⟨k1, k2, k3⟩ := below_one h1; rw [sz_alloc] at h2 h3; exact ⟨k1, k2, h2, h3⟩
theorem StrsAt.set {w : World} {v : Value} {l : List ByteArray} (h : StrsAt w v l) {b o : Nat} {cs : Array Value} {t : TypeId} (hb : w.heap[b]? = some (.cells cs t (0, 0))) (hn : ∀ (j : Nat) (x : ByteArray), cs[j]? ≠ some (.string x)) (u : Value) : StrsAt (w.setCell ⟨b, o, none⟩ u) v l := by
 rcases h with h | ⟨g, o', c, rfl, hc⟩
 ·exact Or.inl h
 ·refine Or.inr ⟨g, o', c, rfl, fun j hj => ?_⟩; have hne : g ≠ b := by
   intro e; subst e; have := hc j hj; rw [cell_of_row w g _ cs t (0, 0) hb] at this; exact hn _ _ this
  rw [World.cell?_of_block (w := w) (blk_other _ hne)]; exact hc j hj
theorem TyAt.set2 {w : World} {v : Value} {t : Wk.Ty} (h : TyAt w v t) {b : Nat} {k : IntKind} {a a' : Int} {ad ad' : Option Addr} {n n' c c' : Nat} (hb : w.heap[b]? = some (.cells #[.int k a, .slice ad n c] 104 (0, 0))) :
  TyAt ((w.setCell ⟨b, 0, none⟩ (.int k a')).setCell ⟨b, 1, none⟩ (.slice ad' n' c')) v t := by
 obtain ⟨h1, h2, h3, ws, rfl, h4⟩ := h; have no : ∀ (x y : Int) (ad : Option Addr) (n c : Nat) (j : Nat) (z : ByteArray), (#[Value.int k x, Value.slice ad n c] : Array Value)[j]? ≠ some (.string z) := by
  intro x _ ad n c j z
  match j with
  | 0 => simp
  | 1 => simp
  | j + 2 => simp
 refine ⟨h1, h2, h3, ws, rfl, (h4.set hb (no a a ad n c) _).set (blk_set _ hb) ?_ _⟩; have e : (#[Value.int k a, Value.slice ad n c] : Array Value).setIfInBounds 0 (.int k a') = #[Value.int k a', Value.slice ad n c] := rfl; rw [e]; exact no a' a ad n c
theorem tyAt_plain (w : World) {n : Nat} (h : n ≤ 2) : TyAt w (.agg #[.int .u8 (rk n), .slice none 0 0]) (n, []) :=
 ⟨by show n ≤ 3; omega, by simp, fun _ => rfl, _, rfl, Or.inl ⟨rfl, none, 0, rfl⟩⟩
def opsOf (n : Nat) : List ByteArray :=
 if n = 0 then [⟨#[119]⟩, ⟨#[110, 117, 108, 108]⟩] else if n = 1 then [⟨#[48]⟩, ⟨#[43]⟩, ⟨#[45]⟩, ⟨#[42]⟩, ⟨#[47]⟩]
 else [⟨#[116]⟩, ⟨#[102]⟩, ⟨#[111, 114]⟩, ⟨#[97, 110, 100]⟩, ⟨#[110, 111, 116]⟩, ⟨#[61]⟩, ⟨#[60]⟩]
theorem own_end {w' : World} {n : Nat} {v : Value} (h : n ≤ 2) (hv : v = .agg #[.int .u8 (rk n), .slice none 0 0]) : ownEnd w' (n, []) (.returned v) := ⟨v, rfl, by rw [hv]; exact tyAt_plain w' h⟩
theorem own_const (w : World) (op x : ByteArray) (na : Nat) (kv : Value) (mb n : Nat) (hn : n ≤ 2) (h : op ∈ opsOf n) :
  Calls Tryz.prog 80 #[.pointer (some ⟨mb, 0, none⟩), tree op x na kv] w fun e w' => ownEnd w' (n, []) e ∧ Below w.heap.size w w' := by
 have hbel : ∀ o p, Below w.heap.size w ((w.alloc o).alloc p) := fun o p => ((Below.refl _ _).alloc (Nat.le_refl _) _).alloc (by simp) _
 have HB : Hid _ := hbel; clear hbel; have hn3 : n = 0 ∨ n = 1 ∨ n = 2 := by omega
 unfold tree; rcases hn3 with rfl | rfl | rfl
 ·simp [opsOf] at h; rcases h with rfl | rfl
  all_goals
   go_enter Tryz.func80, Tryz.ntmps80; go_wp2
   refine bodyPost_ret (v := .agg #[.int .u8 (rk 0), .slice none 0 0]) (by simp [results, Tryz.results80, go_sem, rk]) rfl ⟨own_end (by decide) rfl, HB.out _ _⟩
 ·simp [opsOf] at h; rcases h with rfl | rfl | rfl | rfl | rfl
  all_goals
   go_enter Tryz.func80, Tryz.ntmps80; go_wp2
   refine bodyPost_ret (v := .agg #[.int .u8 (rk 1), .slice none 0 0]) (by simp [results, Tryz.results80, go_sem, rk]) rfl ⟨own_end (by decide) rfl, HB.out _ _⟩
 ·simp [opsOf] at h; rcases h with rfl | rfl | rfl | rfl | rfl | rfl | rfl
  all_goals
   go_enter Tryz.func80, Tryz.ntmps80; go_wp2
   refine bodyPost_ret (v := .agg #[.int .u8 (rk 2), .slice none 0 0]) (by simp [results, Tryz.results80, go_sem, rk]) rfl ⟨own_end (by decide) rfl, HB.out _ _⟩
theorem own_if (w : World) (x : ByteArray) (na : Nat) (kv : Value) (k0 k1 k2 : Value) (S1 S2 : Wk.Sem) (hK : Kids w kv [k0, k1, k2]) (h1 : ∀ w', Below w.heap.size w w' → OwnOK w' k1 S1) (h2 : ∀ w', Below w.heap.size w w' → OwnOK w' k2 S2)
  (mb : Nat) (E : Wk.Env) (hM : ModelAt w mb E) (n1 : known E S1.names) (n2 : known E S2.names) :
  Calls Tryz.prog 80 #[.pointer (some ⟨mb, 0, none⟩), tree ⟨#[105, 102]⟩ x na kv] w fun e w' => ownEnd w' (Wk.fstOwn S1 S2 E) e ∧ Below w.heap.size w w' := by
 obtain ⟨ad, c, hkv⟩ := hK.slice; subst hkv; have hbel : ∀ o p, Below w.heap.size w ((w.alloc o).alloc p) := fun o p => ((Below.refl _ _).alloc (Nat.le_refl _) _).alloc (by simp) _
 obtain ⟨g, op1, x1, na1, kv1, hg, -, hc, rfl, a0, a1, a2, a3⟩ := hK.at (j := 1) rfl; obtain ⟨g', op2, x2, na2, kv2, hg', -, -, rfl, b0, b1, b2, b3⟩ := hK.at (j := 2) rfl; subst hg; cases hg'; have hgl := cell_lt a0; simp only [List.length_cons, List.length_nil, Nat.zero_add, Nat.reduceAdd, Nat.reduceMul] at *
 have H1 : Hid _ := fun o p => h1 _ (hbel o p) mb E (hM.below (hbel o p)) n1
 have HH2 : Hid _ := h2; have HM : Hid _ := hM; have HB : Hid _ := hbel; unfold tree at H1; clear h1 h2 hM hbel hK; unfold tree; go_enter Tryz.func80, Tryz.ntmps80; go_wp2_with fail; refine (Calls.mono (H1.out _ _) ?_); rintro e w1 ⟨⟨tv, rfl, ht⟩, hb1⟩; obtain ⟨hb0, u0, u1, hsz⟩ := below_two hb1; obtain ⟨t3, t6, t0, ws, rfl, hws⟩ := ht; have HT : Hid (TyAt w1 (.agg #[.int .u8 (rk (S1.own E).1), ws]) (S1.own E)) := ⟨t3, t6, t0, ws, rfl, hws⟩
 obtain ⟨ad', c', rfl⟩ := hws.form; generalize ((S1.own E).2.map quo).length = ln at *
 have x3 := bc 3 u0 rfl; have y0 := bc 0 u1 rfl; have y1 := bc 1 u1 rfl; have yf := blk_free u1; have b0 := (hb0.cell (p := ⟨g, 8, none⟩) hgl).trans b0; have b1 := (hb0.cell (p := ⟨g, 9, none⟩) hgl).trans b1; have b2 := (hb0.cell (p := ⟨g, 10, none⟩) hgl).trans b2; have b3 := (hb0.cell (p := ⟨g, 11, none⟩) hgl).trans b3; have HB0 : Hid _ := hb0; have U1 : Hid _ := u1; have hl0 : w.heap.size < w1.heap.size := by omega
 have hl1 : w.heap.size + 1 < w1.heap.size := by omega
 have hl2 : g < w1.heap.size := by omega
 clear hb1 hb0 u0 u1 hws a0 a1 a2 a3; by_cases hz : (S1.own E).1 = 0
 ·have hz1 : ((rk (S1.own E).1 : Int) != 0) = false := by rw [hz]; rfl
  have HF : Hid (Wk.fstOwn S1 S2 E = S2.own E) := if_pos hz; clear hz; have hb0' : ∀ o, Below w.heap.size w (w1.alloc o) := fun o => HB0.out.alloc (by omega) _
  have HC : Hid _ := fun o => HH2.out _ (hb0' o) mb E (ModelAt.below HM.out (hb0' o)) n2
  unfold tree at HC; clear hb0'; go_wp2_with fail; refine (Calls.mono (HC.out _) ?_); rintro e w2 ⟨⟨tv, rfl, ht⟩, hb2⟩; obtain ⟨hb3, u2, hs3⟩ := below_one hb2; obtain ⟨q3, q6, q0, ws, rfl, hws⟩ := ht; have HT2 : Hid (TyAt w2 (.agg #[.int .u8 (rk (S2.own E).1), ws]) (S2.own E)) := ⟨q3, q6, q0, ws, rfl, hws⟩
  obtain ⟨ad2, c2, rfl⟩ := hws.form; generalize ((S2.own E).2.map quo).length = ln2 at *
  have u1 := (hb3.block _ hl1).trans U1.out; have y0 := bc 0 u1 rfl; have y1 := bc 1 u1 rfl; have yf := blk_free u1; have HB3 : Hid _ := hb3; have U2 : Hid _ := u1; clear hb2 hb3 hws u1 u2; go_wp2_with fail; have hbb : Below w.heap.size w w2 := HB0.out.trans (HB3.out.mono (by omega)); refine bodyPost_ret (v := .agg #[.int .u8 (rk (S2.own E).1), .slice ad2 ln2 c2]) (by simp [results, Tryz.results80, go_sem, y0, y1]) rfl ⟨⟨_, rfl, ?_⟩, (hbb.setCell (by simp) _).setCell (by simp) _⟩; rw [HF.out]; exact HT2.out.set2 U2.out
 ·have hz1 : ((rk (S1.own E).1 : Int) != 0) = true := by
   have h3 := HT.out.1; rw [bne_iff_ne]; unfold rk; repeat' split
   all_goals omega
  have HF : Hid (Wk.fstOwn S1 S2 E = S1.own E) := if_neg hz; clear hz; go_wp2_with fail; refine bodyPost_ret (v := .agg #[.int .u8 (rk (S1.own E).1), .slice ad' ln c']) (by simp [results, Tryz.results80, go_sem, y0, y1, hl1]) rfl ⟨⟨_, rfl, ?_⟩, ((HB0.out.setCell (by simp) _).setCell (by simp) _).alloc (by simp [World.setCell]; omega) _⟩; rw [HF.out]; exact (HT.out.set2 U1.out).below ((Below.refl _ _).alloc (Nat.le_refl _) _)
theorem own_name_find {w : World} {mb : Nat} {E : Wk.Env} (h : ModelAt w mb E) {x : ByteArray} (hx : x.data.toList ∈ E.map (·.1)) :
  ∃ (ib cap j : Nat) (ad : Option Addr) (ln c : Nat), w.cell? ⟨mb, 0, none⟩ = some (.slice (some ⟨ib, 0, none⟩) E.length cap) ∧ E.length ≤ cap ∧ j < E.length ∧ E.length ≤ 1000 ∧
   w.cell? ⟨ib, j * 14 + 5, none⟩ = some (.int .u8 (rk (Wk.tyOf E x.data.toList).1)) ∧ w.cell? ⟨ib, j * 14 + 6, none⟩ = some (.slice ad ln c) ∧ TyAt w (.agg #[.int .u8 (rk (Wk.tyOf E x.data.toList).1), .slice ad ln c]) (Wk.tyOf E x.data.toList) ∧
   (∀ w', Below w.heap.size w w' → Calls Tryz.prog 52 #[.pointer (some ⟨mb, 0, none⟩), .string x, .int .i64 (E.length : Int)] w' fun e w'' => e = .returned (.int .i64 (j : Int)) ∧ w'' = w') := by
 have hN := h.names; obtain ⟨j, y, hj, hf, hy⟩ := findFrom_tyOf x.data.toList E 0 hx; have hjl : j < E.length := (List.getElem?_eq_some_iff.1 hj).1; obtain ⟨h0, ib, cap, h1, hc, h2⟩ := h; obtain ⟨-, ws, a, b, c⟩ := h2 j y hj; rw [hy] at a c; have hf2 := c; obtain ⟨-, -, -, ws', e, hws⟩ := hf2; simp at e; subst e; obtain ⟨ad, cc, rfl⟩ := hws.form; refine ⟨ib, cap, j, ad, _, cc, h1, hc, hjl, h0, a, b, c, fun w' hb => ?_⟩; have hl : (envNames E).length = E.length := by simp [envNames]
 refine (r_find mb (envNames E) x E.length w' (hN.below hb) (by omega) (by omega)).mono ?_; rintro e w'' ⟨rfl, rfl⟩; rw [List.take_of_length_le (by omega), hf]; simp
theorem own_name (w : World) (x : ByteArray) (na : Nat) (kv : Value) (mb : Nat) (E : Wk.Env) (hM : ModelAt w mb E) (hx : x.data.toList ∈ E.map (·.1)) :
  Calls Tryz.prog 80 #[.pointer (some ⟨mb, 0, none⟩), tree ⟨#[110]⟩ x na kv] w fun e w' => ownEnd w' (Wk.tyOf E x.data.toList) e ∧ Below w.heap.size w w' := by
 obtain ⟨ib, cap, j, ad, ln, c, m0, hcap, hj, hE, i5, i6, ht, hf⟩ := own_name_find hM hx; have HT : Hid _ := ht; have HF : Hid _ := hf; have hl1 := cell_lt m0; have hl2 := cell_lt i5; generalize Wk.tyOf E x.data.toList = t at *
 clear ht hf hM hx; unfold tree; go_enter Tryz.func80, Tryz.ntmps80; go_upto_region 6 with fail; generalize hW : (w.alloc (Obj.cells #[Value.string { data := #[110] }, Value.string x, Value.int IntKind.i64 na, kv] 107)).alloc (Obj.cells #[Value.int IntKind.u8 0, Value.slice none 0 0] 104) = W; have hb : Below w.heap.size w W := by rw [← hW]; exact ((Below.refl _ _).alloc (Nat.le_refl _) _).alloc (by simp) _
 have u0 : W.heap[w.heap.size]? = some (.cells #[.string ⟨#[110]⟩, .string x, .int .i64 na, kv] 107 (0, 0)) := by rw [← hW]; exact blk_alloc _ (heap_alloc_new w _)
 have u1 : W.heap[w.heap.size + 1]? = some (.cells #[.int .u8 0, .slice none 0 0] 104 (0, 0)) := by
  rw [← hW]; have := heap_alloc_new (w.alloc (Obj.cells #[Value.string { data := #[110] }, Value.string x, Value.int IntKind.i64 na, kv] 107)) (Obj.cells #[Value.int IntKind.u8 0, Value.slice none 0 0] 104); rw [sz_alloc] at this; exact this
 have x1 := bc 1 u0 rfl; have y0 := bc 0 u1 rfl; have y1 := bc 1 u1 rfl; have yf := blk_free u1; have m0 := (hb.cell (p := ⟨mb, 0, none⟩) hl1).trans m0; have i5 := (hb.cell (p := ⟨ib, _, none⟩) hl2).trans i5; have i6 := (hb.cell (p := ⟨ib, _, none⟩) hl2).trans i6; have HB : Hid _ := hb; have U1 : Hid _ := u1; have hlW : ib < W.heap.size := by have := hb.size; omega
 have n1 : mb ≠ w.heap.size + 1 := by omega
 have n2 : ib ≠ w.heap.size + 1 := by omega
 have n3 := n1.symm; have n4 := n2.symm; clear hW hb u0 u1 hl1 hl2; go_region_held3 (fun w' => w'.cell? ⟨mb, 0, none⟩ = some (.slice (some ⟨ib, 0, none⟩) E.length cap) ∧ w'.cell? ⟨w.heap.size, 1, none⟩ = some (.string x) ∧ w'.cell? ⟨ib, j * 14 + 5, none⟩ = some (.int .u8 (rk t.1)) ∧ w'.cell? ⟨ib, j * 14 + 6, none⟩ = some (.slice ad ln c)) (go_keep)
  (first | (go_at_call 52; refine (HF.out _ (by first | exact HB.out | exact HB.out.drew)).mono ?_; rintro e w' ⟨rfl, rfl⟩))
 all_goals
  go_wp2_with fail; refine bodyPost_ret (v := .agg #[.int .u8 (rk t.1), .slice ad ln c]) (by simp [results, Tryz.results80, go_sem, y0, y1]) rfl ⟨⟨_, rfl, ?_⟩, ((HB.out.setCell (by simp) _).setCell (by simp) _).drew⟩; have h2 := (TyAt.below HT.out HB.out).set2 (a' := (rk t.1 : Int)) (ad' := ad) (n' := ln) (c' := c) U1.out; exact h2.below ((Below.refl _ _).drew)
end Go.Proofs.YtbkaghlklkdmkaaGreatDoor
