/-
  The parser of the document's answer: the levels of operators. Trees, with what they hang on as a set of blocks. The parser of the document's answer: what stands on a level.
-/
import Derived.Test.YtbkaghlklkdmkaaGreatDoorME6
import Derived.Deep.LoopGhost
set_option maxRecDepth 100000
set_option maxHeartbeats 8000000
namespace Go.Proofs.YtbkaghlklkdmkaaGreatDoor
open Go.RowKit
section
variable {B : Nat} {s : ByteArray} {T : List Wk.Tok}
def lvCells (lv : Nat) : Array Value := ((Wk.signs lv).map (fun kd => Value.string ⟨(spellOf kd).toArray⟩)).toArray
def levelsEnd (w w' : World) (lv : Nat) (e : Ending) : Prop :=
 ∃ g n, e = .returned (.slice (some ⟨g, 0, none⟩) n n) ∧ n = (Wk.signs lv).length ∧ w.heap.size ≤ g ∧ w'.heap[g]? = some (.cells (lvCells lv) 9 (0, 0))
theorem seven (w : World) (o1 o2 o3 o4 o5 o6 o7 : Obj) :
  let F := ((((((w.alloc o1).alloc o2).alloc o3).alloc o4).alloc o5).alloc o6).alloc o7
  Below w.heap.size w F ∧ F.heap[w.heap.size]? = some o1 ∧ F.heap[w.heap.size + 1]? = some o2 ∧ F.heap[w.heap.size + 1 + 1 + 1]? = some o4 ∧ F.heap[w.heap.size + 1 + 1 + 1 + 1]? = some o5 ∧ F.heap[w.heap.size + 1 + 1 + 1 + 1 + 1]? = some o6 := by
 intro F; obtain ⟨a1, a2, _⟩ := below_one (Below.refl _ F); obtain ⟨b1, b2, _⟩ := below_one a1; obtain ⟨c1, c2, _⟩ := below_one b1; obtain ⟨d1, d2, _⟩ := below_one c1; obtain ⟨e1, _, _⟩ := below_one d1; obtain ⟨f1, f2, _⟩ := below_one e1; obtain ⟨g1, g2, _⟩ := below_one f1; rw [sz_alloc] at f2; rw [sz_alloc, sz_alloc, sz_alloc] at d2; rw [sz_alloc, sz_alloc, sz_alloc, sz_alloc] at c2; rw [sz_alloc, sz_alloc, sz_alloc, sz_alloc, sz_alloc] at b2; exact ⟨g1, g2, f2, d2, c2, b2⟩
theorem r_levels (lv : Nat) (h : lv = 0 ∨ lv = 1 ∨ lv = 3 ∨ lv = 4 ∨ lv = 5) (w : World) :
  Calls Tryz.prog 151 #[.int .i64 lv] w fun e w' => levelsEnd w w' lv e ∧ Below w.heap.size w w' := by
 rcases h with rfl | rfl | rfl | rfl | rfl
 ·go_enter Tryz.func151, Tryz.ntmps151; go_wp2
  go_ret; exact ⟨⟨_, _, rfl, rfl, Nat.le_refl _, (seven w _ _ _ _ _ _ _).2.1⟩, (seven w _ _ _ _ _ _ _).1⟩
 ·go_enter Tryz.func151, Tryz.ntmps151; go_wp2
  go_ret; exact ⟨⟨_, _, rfl, rfl, by omega, (seven w _ _ _ _ _ _ _).2.2.1⟩, (seven w _ _ _ _ _ _ _).1⟩
 ·go_enter Tryz.func151, Tryz.ntmps151; go_wp2
  go_ret; exact ⟨⟨_, _, rfl, rfl, by omega, (seven w _ _ _ _ _ _ _).2.2.2.1⟩, (seven w _ _ _ _ _ _ _).1⟩
 ·go_enter Tryz.func151, Tryz.ntmps151; go_wp2
  go_ret; exact ⟨⟨_, _, rfl, rfl, by omega, (seven w _ _ _ _ _ _ _).2.2.2.2.1⟩, (seven w _ _ _ _ _ _ _).1⟩
 ·go_enter Tryz.func151, Tryz.ntmps151; go_wp2
  go_ret; exact ⟨⟨_, _, rfl, rfl, by omega, (seven w _ _ _ _ _ _ _).2.2.2.2.2⟩, (seven w _ _ _ _ _ _ _).1⟩
end
def KeepF (F : Nat → Prop) (w w' : World) : Prop := ∀ (k : Nat) (o : Obj), F k → w.heap[k]? = some o → isTr o → w'.heap[k]? = some o
theorem KeepF.trans {F : Nat → Prop} {a b c : World} (h : KeepF F a b) (k : KeepF F b c) : KeepF F a c := fun i o h1 h3 h4 => k i o h1 (h i o h1 h3 h4) h4
theorem KeepF.mono {F G : Nat → Prop} {a b : World} (h : KeepF F a b) (hg : ∀ k, G k → F k) : KeepF G a b := fun i o g1 g3 g4 => h i o (hg i g1) g3 g4
theorem KeepF.frT {B : Nat} {ts : List TypeId} {w w' : World} (h : FrT B ts w w') (ht : 107 ∉ ts) (F : Nat → Prop) : KeepF F w w' :=
 fun k o _ h3 h4 => KeepT.frT h ht k (k + 1) k o (Nat.le_refl _) (Nat.lt_succ_self _) h3 h4
theorem KeepF.below {w w' : World} (h : Below w.heap.size w w') (F : Nat → Prop) : KeepF F w w' := fun k _ _ h3 _ => (h.block k (lt_of_block h3)).trans h3
theorem KeepF.set {F : Nat → Prop} {w : World} {b o : Nat} (h : ¬ F b) (v : Value) : KeepF F w (w.setCell ⟨b, o, none⟩ v) := by
 intro k x h1 h3 _; rw [blk_other _ (fun e => h (by rw [← e]; exact h1))]; exact h3
theorem KeepF.set4 {F : Nat → Prop} {w : World} {k : Nat} (h : ¬ F k) (v0 v1 v2 v3 : Value) : KeepF F w ((((w.setCell ⟨k, 0, none⟩ v0).setCell ⟨k, 1, none⟩ v1).setCell ⟨k, 2, none⟩ v2).setCell ⟨k, 3, none⟩ v3) :=
 (((KeepF.set h _).trans (KeepF.set h _)).trans (KeepF.set h _)).trans (KeepF.set h _)
def TrF (F : Nat → Prop) (w : World) (v : Value) (S : Wk.Sem) : Prop :=
 ∀ w', KeepF F w w' → StrayOK w' v S.names ∧ OwnOK w' v S ∧ FitsOK w' v S
theorem TrF.keep {F : Nat → Prop} {w w' : World} {v : Value} {S : Wk.Sem} (h : TrF F w v S) (k : KeepF F w w') : TrF F w' v S := fun w'' h2 => h w'' (k.trans h2)
theorem TrF.mono {F G : Nat → Prop} {w : World} {v : Value} {S : Wk.Sem} (h : TrF F w v S) (hg : ∀ k, F k → G k) : TrF G w v S := fun w'' k => h w'' (k.mono hg)
theorem Tr.toF {lo hi : Nat} {w : World} {v : Value} {S : Wk.Sem} (h : Tr lo hi w v S) : TrF (fun k => lo ≤ k ∧ k < hi) w v S := fun w' k => h w' (fun i o h1 h2 h3 h4 => k i o ⟨h1, h2⟩ h3 h4)
theorem TrF.toI {lo hi : Nat} {F : Nat → Prop} {w : World} {v : Value} {S : Wk.Sem} (h : TrF F w v S) (hf : ∀ k, F k → lo ≤ k ∧ k < hi) : Tr lo hi w v S := fun w' k => h w' (fun i o h1 h3 h4 => k i o (hf i h1).1 (hf i h1).2 h3 h4)
theorem trF_op (F : Nat → Prop) (w : World) (op x : ByteArray) (na n pn : Nat) (kv : Value) (ks : List (Value × Wk.Sem)) (hn : n = 1 ∨ n = 2) (hp : pn = 1 ∨ pn = 2) (h1 : op ∈ opsOf n) (h2 : op.toList ∈ partOps pn) (h3 : op ≠ ⟨#[110]⟩)
  (hK : ∀ w', KeepF F w w' → Kids w' kv (ks.map (·.1))) (hT : ∀ p ∈ ks, TrF F w p.1 p.2) :
  TrF F w (tree op x na kv) ⟨(ks.map (·.2.names)).flatten, fun _ => (n, []), fun E t => t.1 == n && ks.all (fun p => p.2.fits E (pn, []))⟩ := by
 intro w' hk; have kk : ∀ w2, Below w'.heap.size w' w2 → KeepF F w w2 := fun w2 hb => hk.trans (KeepF.below hb F)
 refine ⟨?_, ?_, ?_⟩
 ·have h := s_node w' op x na kv (ks.map (fun p => (p.1, p.2.names))) (by rw [List.map_map]; exact hK w' hk) (fun p hp w2 hb => by
   obtain ⟨q, hq, rfl⟩ := List.mem_map.1 hp; exact (hT q hq w2 (kk w2 hb)).1)
  have e : selfName op x na ++ ((ks.map (fun p => (p.1, p.2.names))).map (·.2)).flatten = (ks.map (·.2.names)).flatten := by
   rw [List.map_map]; simp [selfName, h3]; rfl
  rw [e] at h; exact h
 ·intro mb E _ _; exact own_const w' op x na _ mb n (by omega) h1
 ·intro mb E tv t hM hkn hTy; refine (f_node w' op x na kv pn hp h2 ks (hK w' hk) (fun p hp w2 hb => (hT p hp w2 (kk w2 hb)).2.2) mb E hM (fun p hp y hy => hkn y (by
   simp only [List.mem_flatten, List.mem_map]; exact ⟨_, ⟨p, hp, rfl⟩, hy⟩)) (n, []) (fun w2 _ => own_const w2 op x na _ mb n (by omega) h1) tv t hTy).mono ?_
  rintro e w2 ⟨rfl, hb⟩; refine ⟨ret_bool ?_, hb⟩; rw [beq_ty hTy (by omega)]
theorem trF_eq (F : Nat → Prop) (w : World) (x : ByteArray) (na : Nat) (kv k0 k1 : Value) (S0 S1 : Wk.Sem)
  (hK : ∀ w', KeepF F w w' → Kids w' kv [k0, k1]) (h0 : TrF F w k0 S0) (h1 : TrF F w k1 S1) :
  TrF F w (tree ⟨#[61]⟩ x na kv) (Wk.semBin 31 S0 S1) := by
 intro w' hk; have kk : ∀ w2, Below w'.heap.size w' w2 → KeepF F w w2 := fun w2 hb => hk.trans (KeepF.below hb F)
 have e : Wk.semBin 31 S0 S1 = ⟨S0.names ++ S1.names, fun _ => (2, []), fun E t => t.1 == 2 && ((Wk.fstOwn S0 S1 E).1 != 0 && (S0.fits E (Wk.fstOwn S0 S1 E) && S1.fits E (Wk.fstOwn S0 S1 E)))⟩ := rfl; rw [e]; refine ⟨?_, ?_, ?_⟩
 ·have h := s_node w' ⟨#[61]⟩ x na kv [(k0, S0.names), (k1, S1.names)] (hK w' hk) (fun p hp w2 hb => by
   simp only [List.mem_cons, List.mem_nil_iff, or_false] at hp; rcases hp with rfl | rfl
   ·exact (h0 w2 (kk w2 hb)).1
   ·exact (h1 w2 (kk w2 hb)).1)
  have e : selfName ⟨#[61]⟩ x na ++ (([(k0, S0.names), (k1, S1.names)] : List (Value × List (Wk.Name × Nat))).map (·.2)).flatten = S0.names ++ S1.names := by
   simp [selfName]
  rw [e] at h; exact h
 ·intro mb E _ _; exact own_const w' _ x na _ mb 2 (by omega) (by simp [opsOf])
 ·intro mb E tv t hM hkn hTy; refine (f_eq w' x na kv k0 k1 S0 S1 (hK w' hk) (fun w2 hb => (h0 w2 (kk w2 hb)).2.2) (fun w2 hb => (h1 w2 (kk w2 hb)).2.2) (fun w2 hb => (h0 w2 (kk w2 hb)).2.1) (fun w2 hb => (h1 w2 (kk w2 hb)).2.1) mb E hM
   (fun y hy => hkn y (List.mem_append_left _ hy)) (fun y hy => hkn y (List.mem_append_right _ hy)) tv t hTy).mono ?_
  rintro e w2 ⟨rfl, hb⟩; refine ⟨ret_bool ?_, hb⟩; rw [beq_ty hTy (by omega)]; show _ = (t.1 == 2 && ((Wk.fstOwn S0 S1 E).1 != 0 && (S0.fits E (Wk.fstOwn S0 S1 E) && S1.fits E (Wk.fstOwn S0 S1 E)))); cases ((Wk.fstOwn S0 S1 E).1 != 0) <;> cases (t.1 == 2) <;> rfl
theorem kidsF2 {F : Nat → Prop} {g : Nat} {w : World} {op x op' x' : ByteArray} {na na' : Nat} {kv kv' : Value} (h : w.heap[g]? = some (.cells #[.string op, .string x, .int .i64 na, kv, .string op', .string x', .int .i64 na', kv'] 107 (0, 0))) (h1 : F g) :
  ∀ w', KeepF F w w' → Kids w' (.slice (some ⟨g, 0, none⟩) 2 2) [tree op x na kv, tree op' x' na' kv'] := by
 intro w' hk; have hb := hk g _ h1 h rfl; refine ⟨by simp, Or.inr ⟨g, 2, rfl, by simp, fun j v hv => ?_⟩⟩
 match j, hv with
 | 0, hv => cases hv; exact ⟨op, x, na, kv, rfl, blk_cell hb rfl, blk_cell hb rfl, blk_cell hb rfl, blk_cell hb rfl⟩
 | 1, hv => cases hv; exact ⟨op', x', na', kv', rfl, blk_cell hb rfl, blk_cell hb rfl, blk_cell hb rfl, blk_cell hb rfl⟩
theorem trF_bin {F : Nat → Prop} {g : Nat} {w : World} {op x op' x' : ByteArray} {na na' : Nat} {kv kv' : Value} {a b : Wk.Sem} (h : w.heap[g]? = some (.cells #[.string op, .string x, .int .i64 na, kv, .string op', .string x', .int .i64 na', kv'] 107 (0, 0))) (h1 : F g)
  (ha : TrF F w (tree op x na kv) a) (hb : TrF F w (tree op' x' na' kv') b) {kd : Nat} (hkd : kd ∈ binOps) (s : ByteArray) (hs : s.data.toList = spellOf kd) (y : ByteArray) (n' : Nat) :
  TrF F w (tree s y n' (.slice (some ⟨g, 0, none⟩) 2 2)) (Wk.semBin kd a b) := by
 have hK := kidsF2 h h1; have hs' : s = ⟨(spellOf kd).toArray⟩ := op_of (by rw [ByteArray.toList_eq]; exact hs); subst hs'; have all2 : ∀ p ∈ [(tree op x na kv, a), (tree op' x' na' kv', b)], TrF F w p.1 p.2 := by
  intro p hp; simp only [List.mem_cons, List.mem_nil_iff, or_false] at hp; rcases hp with rfl | rfl
  ·exact ha
  ·exact hb
 simp only [binOps, List.mem_cons, List.mem_nil_iff, or_false] at hkd; rcases hkd with rfl | rfl | rfl | rfl | rfl | rfl | rfl | rfl
 ·have k := trF_op F w ⟨#[111, 114]⟩ y n' 2 2 (.slice (some ⟨g, 0, none⟩) 2 2) [(tree op x na kv, a), (tree op' x' na' kv', b)] (Or.inr rfl) (Or.inr rfl) (by simp [opsOf]) (by rw [ByteArray.toList_eq]; simp [partOps]) (by simp) hK all2; simpa [Wk.semBin, spellOf, Wk.spellings] using k
 ·have k := trF_op F w ⟨#[97, 110, 100]⟩ y n' 2 2 (.slice (some ⟨g, 0, none⟩) 2 2) [(tree op x na kv, a), (tree op' x' na' kv', b)] (Or.inr rfl) (Or.inr rfl) (by simp [opsOf]) (by rw [ByteArray.toList_eq]; simp [partOps]) (by simp) hK all2; simpa [Wk.semBin, spellOf, Wk.spellings] using k
 ·have k := trF_op F w ⟨#[43]⟩ y n' 1 1 (.slice (some ⟨g, 0, none⟩) 2 2) [(tree op x na kv, a), (tree op' x' na' kv', b)] (Or.inl rfl) (Or.inl rfl) (by simp [opsOf]) (by rw [ByteArray.toList_eq]; simp [partOps]) (by simp) hK all2; simpa [Wk.semBin, spellOf, Wk.spellings] using k
 ·have k := trF_op F w ⟨#[45]⟩ y n' 1 1 (.slice (some ⟨g, 0, none⟩) 2 2) [(tree op x na kv, a), (tree op' x' na' kv', b)] (Or.inl rfl) (Or.inl rfl) (by simp [opsOf]) (by rw [ByteArray.toList_eq]; simp [partOps]) (by simp) hK all2; simpa [Wk.semBin, spellOf, Wk.spellings] using k
 ·have k := trF_op F w ⟨#[42]⟩ y n' 1 1 (.slice (some ⟨g, 0, none⟩) 2 2) [(tree op x na kv, a), (tree op' x' na' kv', b)] (Or.inl rfl) (Or.inl rfl) (by simp [opsOf]) (by rw [ByteArray.toList_eq]; simp [partOps]) (by simp) hK all2; simpa [Wk.semBin, spellOf, Wk.spellings] using k
 ·have k := trF_op F w ⟨#[47]⟩ y n' 1 1 (.slice (some ⟨g, 0, none⟩) 2 2) [(tree op x na kv, a), (tree op' x' na' kv', b)] (Or.inl rfl) (Or.inl rfl) (by simp [opsOf]) (by rw [ByteArray.toList_eq]; simp [partOps]) (by simp) hK all2; simpa [Wk.semBin, spellOf, Wk.spellings] using k
 ·exact trF_eq F w y n' _ _ _ a b hK ha hb
 ·have k := trF_op F w ⟨#[60]⟩ y n' 2 1 (.slice (some ⟨g, 0, none⟩) 2 2) [(tree op x na kv, a), (tree op' x' na' kv', b)] (Or.inr rfl) (Or.inl rfl) (by simp [opsOf]) (by rw [ByteArray.toList_eq]; simp [partOps]) (by simp) hK all2; simpa [Wk.semBin, spellOf, Wk.spellings] using k
section
variable {B : Nat} {s : ByteArray} {T : List Wk.Tok}
theorem pe_two (f nest : Nat) (q : Wk.St) : Wk.pe T (f + 1) 2 nest q = if q.isK T 26 then ((Wk.pe T f 2 nest q.adv).1, Wk.semNot (Wk.pe T f 2 nest q.adv).2) else Wk.pe T f 3 nest q := by
 rw [Wk.pe]; simp
def rowN (T : List Wk.Tok) (lv : Nat) : Nat := if lv = 3 then 1 else T.length
theorem pe_row (f nest lv : Nat) (h : lv ≠ 2) (h5 : lv ≤ 5) (q : Wk.St) : Wk.pe T (f + 1) lv nest q = Wk.pRow T (Wk.pe T f (lv + 1) nest) (Wk.signs lv) (rowN T lv) (Wk.pe T f (lv + 1) nest q).1 (Wk.pe T f (lv + 1) nest q).2 := by
 rw [Wk.pe]; by_cases h3 : lv = 3
 ·subst h3; simp [rowN, Wk.pRow]
 ·rw [if_neg h, if_neg h3, if_pos (by omega)]; simp [rowN, h3]
theorem x_left6 (f : Nat) (hA : CA B s T f) : CL B s T 6 f := by
 intro nest q w b h hn hm; have HA : Hid _ := hA; have HI : Hid (IN B s T w w b q nest) := h; have HN : Hid _ := hn; have HM : Hid _ := hm; clear h hn hm hA; go_enter Tryz.func113, Tryz.ntmps113; go_wp2_with fail; refine (HA.out nest q _ b (HI.out.alloc _).self HN.out HM.out).mono ?_; rintro e w7 ⟨⟨op7, x7, na7, ad7, n7, c7, rfl, ht7⟩, hI7⟩; have u0 := hI7.tbox (heap_alloc_new w _); have y0 := bc 0 u0 rfl; have y1 := bc 1 u0 rfl; have y2 := bc 2 u0 rfl; have y3 := bc 3 u0 rfl; have yf := blk_free u0; have V0 : Hid _ := u0; have HI7 : Hid (IN B s T w w7 b (Wk.pe T f 6 nest q).1 nest) := (HI.out.alloc _).trans hI7; have HT7 : Hid _ := ht7; have hs := hI7.size; rw [sz_alloc] at hs; clear u0 hI7 ht7; unfold tree; go_wp2_with fail; refine bodyPost_ret (v := tree op7 x7 na7 (.slice ad7 n7 c7)) (by simp [results, Tryz.results113, go_sem, tree, y0, y1, y2, y3]) rfl ⟨?_, ?_⟩
 ·refine ⟨op7, x7, na7, ad7, n7, c7, rfl, fun hb => ?_⟩; have ht := HT7.out hb; rw [sz_alloc] at ht; rw [size_set4]; exact (ht.keep (KeepT.set4 (Or.inl (by omega)) _ _ _ _)).mono (by omega) (Nat.le_refl _)
 ·exact HI7.out.tree V0.out (Nat.le_refl _) _ _ _ _
theorem x_left2_no (f nest : Nat) (hL : CL B s T 3 f) (q : Wk.St) (w : World) (b : Nat) (h : IN B s T w w b q nest) (hn : q.bad = none → nest ≤ 10) (hm : meas T q 2 < f + 1) (K26 : q.isK T 26 = false) :
  Calls Tryz.prog 113 #[.pointer (some ⟨b, 0, none⟩), .int .i64 (2 : Nat)] w fun e w' => treeEnd w w' (Wk.pe T (f + 1) 2 nest q) e ∧ IN B s T w w' b (Wk.pe T (f + 1) 2 nest q).1 nest := by
 have HP : Hid (Wk.pe T (f + 1) 2 nest q = Wk.pe T f 3 nest q) := by
  show _ = _; rw [pe_two, K26]; rfl
 have HM : Hid (meas T q 3 < f) := by
  show _ < _; unfold meas rank at *; simp at *; omega
 have HN : Hid _ := hn; have HL : Hid _ := hL; obtain ⟨nk, nt, na, -, -, c3, -⟩ := h.nextc; have hlt := h.blt; have HI : Hid (IN B s T w w b q nest) := h; clear h hm hn hL; go_enter Tryz.func113, Tryz.ntmps113; go_wp2_with fail; refine (i_is (HI.out.alloc _) 26 ⟨#[110, 111, 116]⟩).mono ?_; rintro e w1 ⟨rfl, hw1⟩; rw [hw1, K26]; clear hw1; go_wp2_with fail; refine (HL.out nest q _ b (HI.out.alloc _).self HN.out HM.out).mono ?_; rintro e w7 ⟨⟨op7, x7, na7, ad7, n7, c7, rfl, ht7⟩, hI7⟩; have u0 := hI7.tbox (heap_alloc_new w _); have y0 := bc 0 u0 rfl; have y1 := bc 1 u0 rfl; have y2 := bc 2 u0 rfl; have y3 := bc 3 u0 rfl; have yf := blk_free u0; have V0 : Hid _ := u0; have HI7 : Hid (IN B s T w w7 b (Wk.pe T f 3 nest q).1 nest) := (HI.out.alloc _).trans hI7; have HT7 : Hid _ := ht7; have hs := hI7.size; rw [sz_alloc] at hs; clear u0 hI7 ht7; unfold tree; go_wp2_with fail; refine bodyPost_ret (v := tree op7 x7 na7 (.slice ad7 n7 c7)) (by simp [results, Tryz.results113, go_sem, tree, y0, y1, y2, y3]) rfl ⟨?_, ?_⟩
 ·rw [HP.out]; refine ⟨op7, x7, na7, ad7, n7, c7, rfl, fun hb => ?_⟩; have ht := HT7.out hb; rw [sz_alloc] at ht; rw [size_set4]; exact (ht.keep (KeepT.set4 (Or.inl (by omega)) _ _ _ _)).mono (by omega) (Nat.le_refl _)
 ·rw [HP.out]; exact HI7.out.tree V0.out (Nat.le_refl _) _ _ _ _
theorem x_left2_not (f nest : Nat) (hL : CL B s T 2 f) (q : Wk.St) (w : World) (b : Nat) (h : IN B s T w w b q nest) (hn : nest ≤ 10) (hm : meas T q 2 < f + 1) (K26 : q.isK T 26 = true) :
  Calls Tryz.prog 113 #[.pointer (some ⟨b, 0, none⟩), .int .i64 (2 : Nat)] w fun e w' => treeEnd w w' (Wk.pe T (f + 1) 2 nest q) e ∧ IN B s T w w' b (Wk.pe T (f + 1) 2 nest q).1 nest := by
 have HP : Hid (Wk.pe T (f + 1) 2 nest q = ((Wk.pe T f 2 nest q.adv).1, Wk.semNot (Wk.pe T f 2 nest q.adv).2)) := by
  show _ = _; rw [pe_two, K26]; rfl
 have hk := Wk.isK_iff.1 K26; have HM : Hid (meas T q.adv 2 < f) := by
  have := meas_adv (T := T) hk.1 (h.ok hk.1) 2 2 (by decide); show _ < _; omega
 have HK : Hid _ := K26; have HL : Hid _ := hL; obtain ⟨nk, nt, na, -, -, c3, -⟩ := h.nextc; have hlt := h.blt; have HI : Hid (IN B s T w w b q nest) := h; clear h hm hL hk; go_enter Tryz.func113, Tryz.ntmps113; go_wp2_with fail; refine (i_is (HI.out.alloc _) 26 ⟨#[110, 111, 116]⟩).mono ?_; rintro e w1 ⟨rfl, hw1⟩; rw [hw1, K26]; clear hw1; go_wp2_with fail; refine (i_take (HI.out.alloc _)).mono ?_; rintro e w3 ⟨⟨nk5, nt5, na5, rfl, -, -⟩, hI3⟩; rw [takeS_adv HK.out (by decide) (by decide)] at hI3; have HI3 : Hid (IN B s T w w3 b q.adv nest) := (HI.out.alloc _).trans hI3; have V3 : Hid _ := hI3.tbox (heap_alloc_new w _); clear hI3 c3; go_wp2_with fail; refine (HL.out nest q.adv w3 b HI3.out.self (fun _ => hn) HM.out).mono ?_; rintro e w8 ⟨⟨opA, xA, naA, adA, nA, cA, rfl, htA⟩, hI8⟩; have HI8 : Hid (IN B s T w w8 b (Wk.pe T f 2 nest q.adv).1 nest) := HI3.out.trans hI8; have V8 : Hid _ := hI8.tbox V3.out; have HTA : Hid _ := htA; have s8 := hI8.size; have y0 := bc 0 V8.out rfl; have y1 := bc 1 V8.out rfl; have y2 := bc 2 V8.out rfl; have y3 := bc 3 V8.out rfl; have yf := blk_free V8.out; have l3 : w.heap.size < w3.heap.size := lt_of_block V3.out; have m1 : w.heap.size < w8.heap.size := by omega
 clear hI8 htA; unfold tree; go_wp2_with fail; refine bodyPost_ret (v := tree ⟨#[110, 111, 116]⟩ ⟨#[]⟩ na (.slice (some ⟨w8.heap.size + 1, 0, none⟩) 1 1)) (by simp [results, Tryz.results113, go_sem, tree, y0, y1, y2, y3, m1]) rfl ⟨?_, ?_⟩
 ·rw [HP.out]; refine ⟨_, _, na, _, 1, 1, rfl, fun hb => ?_⟩; have tA := HTA.out hb; rw [sz_alloc, sz_alloc, size_set4]; generalize hY : (((w8.setCell ⟨w.heap.size, 0, none⟩ (.string ⟨#[110, 111, 116]⟩)).setCell ⟨w.heap.size, 1, none⟩ (.string ⟨#[]⟩)).setCell ⟨w.heap.size, 2, none⟩ (.int .i64 na)).setCell ⟨w.heap.size, 3, none⟩ (.slice (some ⟨w8.heap.size + 1, 0, none⟩) 1 1) = Y; have hYs : Y.heap.size = w8.heap.size := by rw [← hY, size_set4]
  have KY : KeepT w3.heap.size w8.heap.size w8 Y := by
   rw [← hY]; exact KeepT.set4 (Or.inl (by omega)) _ _ _ _
  have hrow := (below_two (Below.refl _ ((Y.alloc (Obj.cells #[Value.string opA, Value.string xA, Value.int IntKind.i64 naA, Value.slice adA nA cA] 107)).alloc (Obj.cells #[Value.string opA, Value.string xA, Value.int IntKind.i64 naA, Value.slice adA nA cA] 107)))).2.2.1; rw [hYs] at hrow; exact tr_not hrow (by omega) (by omega) (((tA.keep KY).keep (KeepT.below (two_bel Y _ _) _ _)).mono (by omega) (by omega)) _ _
 ·rw [HP.out]; exact ((HI8.out.tree V8.out (Nat.le_refl _) _ _ _ _).alloc _).alloc _
def pickS (T : List Wk.Tok) (q : Wk.St) (l : List Nat) : ByteArray := if q.isIn T l then ⟨(spellOf (Wk.tokK T q.k).kind).toArray⟩ else ⟨#[]⟩
theorem pickS_step {q : Wk.St} {l : List Nat} {kd : Nat} : pickS T q (l ++ [kd]) = if q.isK T kd then ⟨(spellOf kd).toArray⟩ else pickS T q l := by
 unfold pickS; by_cases hk : q.isK T kd = true
 ·have h := Wk.isK_iff.1 hk; have : q.isIn T (l ++ [kd]) = true := Wk.isIn_iff.2 ⟨h.1, by rw [h.2]; simp⟩; rw [this, hk, h.2]; rfl
 ·have e : q.isIn T (l ++ [kd]) = q.isIn T l := by
   rw [Bool.eq_iff_iff, Wk.isIn_iff, Wk.isIn_iff]; constructor
   ·rintro ⟨h1, h2⟩; refine ⟨h1, ?_⟩; rcases List.mem_append.1 h2 with h | h
    ·exact h
    ·simp at h; exact absurd (Wk.isK_iff.2 ⟨h1, h⟩) hk
   ·rintro ⟨h1, h2⟩; exact ⟨h1, List.mem_append_left _ h2⟩
  rw [e, if_neg hk]
theorem signs_facts {lv : Nat} (h : lv = 0 ∨ lv = 1 ∨ lv = 3 ∨ lv = 4 ∨ lv = 5) : (Wk.signs lv).length ≤ 2 ∧ ∀ kd ∈ Wk.signs lv, 6 ≤ kd ∧ kd ≤ 41 ∧ kd ∈ binOps := by
 rcases h with rfl | rfl | rfl | rfl | rfl <;> decide
theorem lv_cell {lv k : Nat} (h : k < (Wk.signs lv).length) : (lvCells lv)[k]? = some (.string ⟨(spellOf ((Wk.signs lv)[k]'h)).toArray⟩) := by
 unfold lvCells; rw [List.getElem?_toArray, List.getElem?_map, List.getElem?_eq_getElem h]; rfl
structure LW (B : Nat) (s : ByteArray) (T : List Wk.Tok) (w wr : World) (b : Nat) (q : Wk.St) (nest : Int) (lv X g : Nat) (a : Wk.Sem) (op x : ByteArray) (na : Nat) (ad : Option Addr) (n c : Nat) : Prop where
 inn : IN B s T w wr b q nest
 res : wr.heap[w.heap.size]? = some (.cells #[.string ⟨#[]⟩, .string ⟨#[]⟩, .int .i64 0, .slice none 0 0] 107 (0, 0))
 box : wr.heap[X]? = some (.cells #[.string op, .string x, .int .i64 na, .slice ad n c] 107 (0, 0))
 row : wr.heap[g]? = some (.cells (lvCells lv) 9 (0, 0))
 tr : q.bad = none → TrF (fun k => w.heap.size < k ∧ k < wr.heap.size ∧ k ≠ X) wr (tree op x na (.slice ad n c)) a
 lo : w.heap.size < X
theorem lw_end {w wr : World} {b : Nat} {q : Wk.St} {nest : Int} {lv X g : Nat} {a : Wk.Sem} {op x : ByteArray} {na : Nat} {ad : Option Addr} {n c : Nat} (h : LW B s T w wr b q nest lv X g a op x na ad n c) (v0 v1 v2 v3 : Value) (r : Wk.St × Wk.Sem) (hr : r.1 = q) (hr2 : q.bad = none → r.2 = a) :
  treeEnd w ((((wr.setCell ⟨w.heap.size, 0, none⟩ v0).setCell ⟨w.heap.size, 1, none⟩ v1).setCell ⟨w.heap.size, 2, none⟩ v2).setCell ⟨w.heap.size, 3, none⟩ v3) r (.returned (tree op x na (.slice ad n c))) ∧
  IN B s T w ((((wr.setCell ⟨w.heap.size, 0, none⟩ v0).setCell ⟨w.heap.size, 1, none⟩ v1).setCell ⟨w.heap.size, 2, none⟩ v2).setCell ⟨w.heap.size, 3, none⟩ v3) b r.1 nest := by
 constructor
 ·refine ⟨op, x, na, ad, n, c, rfl, fun hb => ?_⟩; rw [hr] at hb; rw [hr2 hb, size_set4]; exact ((h.tr hb).keep (KeepF.set4 (by omega) _ _ _ _)).toI (fun k hk => ⟨by omega, hk.2.1⟩)
 ·rw [hr]; exact h.inn.tree h.res (Nat.le_refl _) _ _ _ _
theorem node_tr {w w5 Y : World} {X : Nat} {a y : Wk.Sem} {op x opY xY z e' : ByteArray} {na' naY na : Nat} {ad adY : Option Addr} {n c nY cY : Nat} {o : Obj} {lo4 hi4 : Nat} (hw : w.heap.size < w5.heap.size) (hX : X < w5.heap.size) (hlo : w.heap.size < lo4) (hX4 : X < lo4) (hh : hi4 ≤ w5.heap.size)
  (ta : TrF (fun k => w.heap.size < k ∧ k < w5.heap.size ∧ k ≠ X) w5 (tree op x na' (.slice ad n c)) a) (ty : Tr lo4 hi4 w5 (tree opY xY naY (.slice adY nY cY)) y)
  (hYs : Y.heap.size = w5.heap.size) (hK : KeepF (fun k => w.heap.size < k ∧ k < w5.heap.size ∧ k ≠ X) w5 Y) {kd : Nat} (hkd : kd ∈ binOps) (hz : z.data.toList = spellOf kd) :
  TrF (fun k => w.heap.size < k ∧ k < w5.heap.size + 2 ∧ k ≠ X) ((Y.alloc o).alloc (.cells #[.string op, .string x, .int .i64 na', .slice ad n c, .string opY, .string xY, .int .i64 naY, .slice adY nY cY] 107)) (tree z e' na (.slice (some ⟨w5.heap.size + 1, 0, none⟩) 2 2)) (Wk.semBin kd a y) := by
 have hrow := (below_two (Below.refl _ ((Y.alloc o).alloc (.cells #[.string op, .string x, .int .i64 na', .slice ad n c, .string opY, .string xY, .int .i64 naY, .slice adY nY cY] 107)))).2.2.1; rw [hYs] at hrow; refine trF_bin (F := fun k => w.heap.size < k ∧ k < w5.heap.size + 2 ∧ k ≠ X) hrow ⟨by omega, by omega, by omega⟩ ?_ ?_ hkd z hz e' na
 ·exact ((ta.keep hK).keep (KeepF.below (two_bel Y _ _) _)).mono (fun k hk => ⟨hk.1, by omega, hk.2.2⟩)
 ·exact ((ty.toF.keep (hK.mono (fun k (hk : lo4 ≤ k ∧ k < hi4) => ⟨by omega, by omega, by omega⟩))).keep (KeepF.below (two_bel Y _ _) _)).mono (fun k (hk : lo4 ≤ k ∧ k < hi4) => ⟨by omega, by omega, by omega⟩)
theorem spell_pos {kd : Nat} (h6 : 6 ≤ kd) (h41 : kd ≤ 41) : spellOf kd ≠ [] := by
 have : ∀ k : Fin 42, 6 ≤ k.val → spellOf k.val ≠ [] := by decide +kernel
 exact this ⟨kd, by omega⟩ h6
theorem x_leftR (hT : Wk.Shut T) (lv f : Nat) (hlv : lv = 0 ∨ lv = 1 ∨ lv = 3 ∨ lv = 4 ∨ lv = 5) (hL : CL B s T (lv + 1) f) : CL B s T lv (f + 1) := by
 intro nest q w b h hn hm; have HP : Hid _ := pe_row (T := T) f nest lv (by omega) (by omega) q; have HM : Hid (meas T q (lv + 1) < f) := by
  show _ < _; have hr : rank (lv + 1) < rank lv := by rcases hlv with rfl | rfl | rfl | rfl | rfl <;> decide
  unfold meas at *
  omega
 have HG : Hid _ := fun q => (Wk.goes_pe hT f (lv + 1) nest q).1
 generalize hPF : Wk.pe T f (lv + 1) nest = pf at *
 have HPF : Hid _ := hPF; have HN : Hid _ := hn; have HL : Hid (∀ (nest : Nat) (q : Wk.St) (w : World) (b : Nat), IN B s T w w b q nest → (q.bad = none → nest ≤ 10) → meas T q (lv + 1) < f →
   Calls Tryz.prog 113 #[.pointer (some ⟨b, 0, none⟩), .int .i64 ((lv : Int) + 1)] w fun e w' => treeEnd w w' (Wk.pe T f (lv + 1) nest q) e ∧ IN B s T w w' b (Wk.pe T f (lv + 1) nest q).1 nest) := hL
 have SF : Hid _ := signs_facts hlv; have l2 : ((lv : Int) == 2) = false := by rw [beq_eq_false_iff_ne]; omega
 have l6 : ((lv : Int) == 6) = false := by rw [beq_eq_false_iff_ne]; omega
 have l5 : lv ≤ 5 := by omega
 have HLV : Hid _ := hlv; obtain ⟨nk, nt, na, -, -, c3, -⟩ := h.nextc; have hlt := h.blt; have HI : Hid (IN B s T w w b q nest) := h; clear h hm hL hn hlv hPF; go_enter Tryz.func113, Tryz.ntmps113; go_wp2_with fail; refine (HL.out nest q _ b (HI.out.alloc _).self HN.out HM.out).mono ?_; rintro e w2 ⟨⟨opA, xA, naA, adA, nA, cA, rfl, htA⟩, hI2⟩; rw [HPF.out] at hI2 htA; have HI2 : Hid (IN B s T w w2 b (pf q).1 nest) := (HI.out.alloc _).trans hI2; have V2 : Hid _ := hI2.tbox (heap_alloc_new w _); have HTA : Hid _ := htA; have s2 := hI2.size; rw [sz_alloc] at s2; clear hI2 htA c3; unfold tree; go_wp2_with fail; refine (r_levels lv HLV.out _).mono ?_; rintro e w3 ⟨⟨g, nn, rfl, hnn, hg, hrow⟩, hb3⟩; obtain ⟨hb3', u3, s3⟩ := below_one hb3; rw [sz_alloc] at hg; have hl0 : w.heap.size < w2.heap.size := by omega
 have LW0 : Hid (LW B s T w w3 b (pf q).1 nest lv w2.heap.size g (pf q).2 opA xA naA adA nA cA) := by
  refine ⟨HI2.out.below hb3', (hb3'.block _ hl0).trans V2.out, u3, hrow, fun hb => ?_, hl0⟩; have := (HTA.out hb).toF.keep (KeepF.below hb3' _); rw [sz_alloc] at this; refine this.mono (fun k hk => ⟨by omega, by omega, by omega⟩)
 have HNN : Hid _ := hnn; have hnn2 : nn ≤ 2 := by rw [hnn]; exact SF.out.1
 clear hb3 hb3' u3 hrow hnn; go_wp2_with fail; generalize hFIN : Wk.pRow T pf (Wk.signs lv) (rowN T lv) (pf q).1 (pf q).2 = FIN at *
 have HFIN : Hid _ := hFIN; clear hFIN; go_loopg [10] (rowN T lv) (fun gk _ wr => ∃ (q' : Wk.St) (a : Wk.Sem) (op x : ByteArray) (na' : Nat) (ad : Option Addr) (n c : Nat), Hid (LW B s T w wr b q' nest lv w2.heap.size g a op x na' ad n c) ∧ Hid (Wk.pRow T pf (Wk.signs lv) gk q' a = FIN) ∧ Hid (((lv = 3 → gk = 1) ∧ (lv ≠ 3 → q'.bad = none → T.length - q'.k ≤ gk)) ∧ q.le q'))
 case atStart =>
  refine ⟨_, _, _, _, _, _, _, _, LW0, HFIN, ⟨⟨fun e => by unfold rowN; rw [if_pos e], fun e _ => by unfold rowN; rw [if_neg e]; omega⟩, ?_⟩⟩; exact HG.out q
 case round =>
  obtain ⟨q', a, op, x, na', ad, n, c, LWr, HPR, HMS⟩ := hrel; clear LW0; have c6 := LWr.out.inn.badc; have r0 := bc 0 LWr.out.res rfl; have r1 := bc 1 LWr.out.res rfl; have r2 := bc 2 LWr.out.res rfl; have r3 := bc 3 LWr.out.res rfl; have rf := blk_free LWr.out.res; have x0 := bc 0 LWr.out.box rfl; have x1 := bc 1 LWr.out.box rfl; have x2 := bc 2 LWr.out.box rfl; have x3 := bc 3 LWr.out.box rfl; have xf := blk_free LWr.out.box; cases hb : q'.bad with
  | some pl =>
   have hsm : q'.bad.isSome := by rw [hb]; rfl
   have h0 := badI_some hsm; have HE : Hid (FIN.1 = q' ∧ (q'.bad = none → FIN.2 = a)) := by
    refine ⟨?_, fun e => ?_⟩
    ·rw [← HPR.out]; exact Wk.pRow_bad T hsm _ _ _ _
    ·rw [hb] at e; cases e
   clear hb hsm; generalize badI q' = z at *
   go_wp2_with fail; refine bodyPost_ret (v := tree op x na' (.slice ad n c)) (by simp [results, Tryz.results113, go_sem, tree, r0, r1, r2, r3]) rfl ?_; rw [HP.out]; exact lw_end LWr.out _ _ _ _ FIN HE.out.1 HE.out.2
  | none =>
   rw [badI_none hb] at c6; have HB : Hid _ := hb; clear hb; go_wp2_with fail; go_loop [10, 11] (fun v i => ∃ (k : Nat) (z : ByteArray), k ≤ nn ∧ i = .int .i64 k ∧ v = .string z ∧ Hid (z = pickS T q' ((Wk.signs lv).take k))) (fun _ i => nn - (intOf i).toNat)
   case atStart => exact ⟨0, _, by omega, rfl, rfl, by show _ = _; simp [pickS, Wk.St.isIn]⟩
   case round =>
    obtain ⟨k, z, hk, rfl, rfl, HZ⟩ := hrel; by_cases hlt : k < nn
    ·have hk2 : k < (Wk.signs lv).length := by rw [← HNN.out]; exact hlt
     have gc := blk_cell (o := k) LWr.out.row (lv_cell hk2); have HKD : Hid _ := SF.out.2 _ (List.getElem_mem hk2); have HTK : Hid ((Wk.signs lv).take (k + 1) = (Wk.signs lv).take k ++ [(Wk.signs lv)[k]]) := List.take_succ_eq_append_getElem hk2; obtain ⟨kd, hkd⟩ : ∃ kd, kd = (Wk.signs lv)[k]'hk2 := ⟨_, rfl⟩
     rw [← hkd] at gc HKD HTK; have HK1 : Hid (k + 1 ≤ nn) := hlt; clear hkd hk2; have HIS : Hid _ := i_is LWr.out.inn kd ⟨(spellOf kd).toArray⟩ HKD.out.1 HKD.out.2.1 (by simp); cases hK : q'.isK T kd with
     | true =>
      rw [hK] at HIS; go_wp2_with fail; refine (Calls.mono HIS.out ?_); rintro e w' ⟨rfl, rfl⟩; go_wp2_with fail; go_round
      case rel =>
       refine ⟨k + 1, _, HK1.out, by go_num, rfl, ?_⟩; show _ = _; rw [HTK.out, pickS_step, hK]; rfl
      case measure =>
       have := HK1.out; simp [intOf]; omega
     | false =>
      rw [hK] at HIS; go_wp2_with fail; refine (Calls.mono HIS.out ?_); rintro e w' ⟨rfl, rfl⟩; go_wp2_with fail; go_round
      case rel =>
       refine ⟨k + 1, _, HK1.out, by go_num, rfl, ?_⟩; show _ = _; rw [HTK.out, pickS_step, hK, HZ.out]; rfl
      case measure =>
       have := HK1.out; simp [intOf]; omega
    ·have hz : z = pickS T q' (Wk.signs lv) := by rw [HZ.out, show (Wk.signs lv).take k = Wk.signs lv from List.take_of_length_le (by rw [← HNN.out]; omega)]
     clear HZ; cases hin : q'.isIn T (Wk.signs lv) with
     | false =>
      have hz2 : z = ⟨#[]⟩ := by rw [hz, pickS, hin]; rfl
      have HE : Hid (FIN.1 = q' ∧ (q'.bad = none → FIN.2 = a)) := by
       have : Wk.pRow T pf (Wk.signs lv) gk q' a = (q', a) := by
        cases gk with
        | zero => rfl
        | succ m => rw [Wk.pRow, hin]; rfl
       rw [← HPR.out, this]; exact ⟨rfl, fun _ => rfl⟩
      clear hz hin; subst hz2; go_wp2_with fail; refine bodyPost_ret (v := tree op x na' (.slice ad n c)) (by simp [results, Tryz.results113, go_sem, tree, r0, r1, r2, r3]) rfl ?_; rw [HP.out]; exact lw_end LWr.out _ _ _ _ FIN HE.out.1 HE.out.2
     | true =>
      have hz2 : z = ⟨(spellOf (Wk.tokK T q'.k).kind).toArray⟩ := by rw [hz, pickS, hin]; rfl
      have HIN : Hid _ := hin; have HKD : Hid _ := SF.out.2 _ (Wk.isIn_iff.1 hin).2; have hne : (z.toList == []) = false := by
       rw [beq_eq_false_iff_ne, hz2, ByteArray.toList_eq]; simpa using spell_pos HKD.out.1 HKD.out.2.1
      have HZ2 : Hid _ := hz2; clear hz hin hz2; go_wp2_with fail; refine (i_take LWr.out.inn).mono ?_; rintro e w4 ⟨⟨nk5, nt5, na5, rfl, -, -⟩, hI4⟩; have hts : takeS T false q' = q'.adv := by
       have h6 := HKD.out.1; exact takeS_adv (Wk.isK_iff.2 ⟨HB.out, rfl⟩) (by omega) (by omega) false
      rw [hts] at hI4; have HI4 : Hid (IN B s T w w4 b q'.adv nest) := LWr.out.inn.trans hI4; have R4 : Hid _ := hI4.tbox LWr.out.res; have X4 : Hid _ := hI4.tbox LWr.out.box; have G4 : Hid _ := hI4.box LWr.out.row (by decide) (by decide); have T4 : Hid (TrF (fun k => w.heap.size < k ∧ k < wr.heap.size ∧ k ≠ w2.heap.size) w4 (tree op x na' (.slice ad n c)) a) := (LWr.out.tr HB.out).keep (KeepF.frT hI4.fr.toFrT (by decide) _); have S4 : Hid _ := hI4.size; clear hI4 hts; have HM5 : Hid (meas T q'.adv (lv + 1) < f) := by
       have h1 := meas_adv (T := T) HB.out (LWr.out.inn.ok HB.out) (lv + 1) (lv + 1) (by unfold rank; split <;> omega); have h2 := meas_le (T := T) HMS.out.2 (lv + 1); have h3 := HM.out; show _ < _; omega
      have HN5 : Hid (q'.adv.bad = none → nest ≤ 10) := fun _ => HN.out (HMS.out.2 HB.out).1
      clear r0 r1 r2 r3 rf x0 x1 x2 x3 xf c6; go_wp2_with fail; refine (HL.out nest q'.adv w4 b HI4.out.self HN5.out HM5.out).mono ?_; rintro e w5 ⟨⟨opY, xY, naY, adY, nY, cY, rfl, htY⟩, hI5⟩; rw [HPF.out] at hI5 htY; have HI5 : Hid (IN B s T w w5 b (pf q'.adv).1 nest) := HI4.out.trans hI5; have R5 : Hid _ := hI5.tbox R4.out; have X5 : Hid _ := hI5.tbox X4.out; have G5 : Hid _ := hI5.box G4.out (by decide) (by decide); have T5 : Hid (TrF (fun k => w.heap.size < k ∧ k < wr.heap.size ∧ k ≠ w2.heap.size) w5 (tree op x na' (.slice ad n c)) a) := T4.out.keep (KeepF.frT hI5.fr.toFrT (by decide) _); have HTY : Hid _ := htY; have S5 : Hid _ := hI5.size; have r0 := bc 0 R5.out rfl; have r1 := bc 1 R5.out rfl; have r2 := bc 2 R5.out rfl; have r3 := bc 3 R5.out rfl; have rf := blk_free R5.out; have x0 := bc 0 X5.out rfl; have x1 := bc 1 X5.out rfl; have x2 := bc 2 X5.out rfl; have x3 := bc 3 X5.out rfl; have xf := blk_free X5.out; have m1 : w2.heap.size < w5.heap.size := lt_of_block X5.out; have m2 : w.heap.size < w5.heap.size := by omega
      have m3 : w.heap.size ≠ w2.heap.size := by omega
      clear hI5 htY; unfold tree; have HZL : Hid (z.data.toList = spellOf (Wk.tokK T q'.k).kind) := by
       show _ = _; rw [HZ2.out]
      have s4 := S4.out; have s5 := S5.out; have sr : w2.heap.size < wr.heap.size := lt_of_block LWr.out.box; have T5' : Hid (TrF (fun k => w.heap.size < k ∧ k < w5.heap.size ∧ k ≠ w2.heap.size) w5 (tree op x na' (.slice ad n c)) a) := T5.out.mono (fun k hk => ⟨hk.1, by omega, hk.2.2⟩); by_cases h3 : lv = 3
      ·have l3 : ((lv : Int) == 3) = true := by rw [beq_iff_eq]; omega
       have HE : Hid (FIN = ((pf q'.adv).1, Wk.semBin (Wk.tokK T q'.k).kind a (pf q'.adv).2)) := by
        show _ = _; rw [← HPR.out, HMS.out.1.1 h3, Wk.pRow, HIN.out]; rfl
       clear h3; go_wp2_with fail; refine bodyPost_ret (v := tree z ⟨#[]⟩ na (.slice (some ⟨w5.heap.size + 1, 0, none⟩) 2 2)) (by simp [results, Tryz.results113, go_sem, tree, r0, r1, r2, r3, m2]) rfl ?_; rw [HP.out, HE.out]; constructor
       ·refine ⟨_, _, na, _, 2, 2, rfl, fun hb => ?_⟩; rw [sz_alloc, sz_alloc, size_set4, size_set4]; refine (node_tr m2 m1 (by omega) (by omega) (Nat.le_refl _) T5'.out (HTY.out hb) (by rw [size_set4, size_set4]) ((KeepF.set4 (by omega) _ _ _ _).trans (KeepF.set4 (by omega) _ _ _ _)) HKD.out.2.2 HZL.out).toI (fun k hk => ⟨by omega, by omega⟩)
       ·refine (((HI5.out.tree X5.out (by omega) _ _ _ _).tree (cs := #[.string ⟨#[]⟩, .string ⟨#[]⟩, .int .i64 0, .slice none 0 0]) ?_ (Nat.le_refl _) _ _ _ _).alloc _).alloc _; rw [blk_other _ m3, blk_other _ m3, blk_other _ m3, blk_other _ m3]; exact R5.out
      ·have l3 : ((lv : Int) == 3) = false := by rw [beq_eq_false_iff_ne]; omega
       have hgk : T.length - q'.k ≤ gk := HMS.out.1.2 h3 HB.out; have hlq : q'.k < T.length := LWr.out.inn.ok HB.out; have HH3 : Hid _ := h3; clear h3; go_wp2_with fail; go_roundg (gk - 1); case measure => omega
       case rel =>
        refine ⟨(pf q'.adv).1, Wk.semBin (Wk.tokK T q'.k).kind a (pf q'.adv).2, z, ⟨#[]⟩, na, some ⟨w5.heap.size + 1, 0, none⟩, 2, 2, ?_, ?_, ?_⟩
        ·refine ⟨((HI5.out.tree X5.out (by omega) _ _ _ _).alloc _).alloc _, ?_, ?_, ?_, fun hb => ?_, LWr.out.lo⟩
         ·refine blk_alloc _ (blk_alloc _ ?_); rw [blk_other _ m3, blk_other _ m3, blk_other _ m3, blk_other _ m3]; exact R5.out
         ·refine blk_alloc _ (blk_alloc _ ?_); rw [blk_set _ (blk_set _ (blk_set _ (blk_set _ X5.out)))]; rfl
         ·refine blk_alloc _ (blk_alloc _ ?_); have hgX : g ≠ w2.heap.size := by
           intro e; have h1 := G5.out; rw [e, X5.out] at h1; simp at h1
          rw [blk_other _ hgX, blk_other _ hgX, blk_other _ hgX, blk_other _ hgX]; exact G5.out
         ·rw [sz_alloc, sz_alloc, size_set4]; exact node_tr m2 m1 (by omega) (by omega) (Nat.le_refl _) T5'.out (HTY.out hb) (size_set4 _ _ _ _ _ _) (KeepF.set4 (by omega) _ _ _ _) HKD.out.2.2 HZL.out
        ·show _ = _; rw [← HPR.out, show gk = (gk - 1) + 1 by omega, Wk.pRow, HIN.out]; rfl
        ·refine ⟨⟨fun e => absurd e HH3.out, fun _ hb => ?_⟩, ?_⟩
         ·have h1 := (HG.out q'.adv hb).2; have h2 : q'.adv.k = q'.k + 1 := Wk.adv_k HB.out; omega
         ·exact Wk.St.le_trans HMS.out.2 (Wk.St.le_trans (Wk.le_adv q') (HG.out q'.adv))
theorem x_all (hT : Wk.Shut T) (hQ : Quoted T) (f : Nat) : CE B s T f ∧ (∀ lv, lv ≤ 6 → CL B s T lv f) ∧ CA B s T f := by
 induction f with
 | zero =>
  refine ⟨?_, ?_, ?_⟩
  ·intro nest q w b _ _ hm; omega
  ·intro lv _ nest q w b _ _ hm; omega
  ·intro nest q w b _ _ hm; omega
 | succ f ih =>
  obtain ⟨hE, hL, hA⟩ := ih; have hA' := x_atom hQ f hE; refine ⟨x_expr hT f hE (hL 0 (by omega)), fun lv hlv => ?_, hA'⟩; by_cases h6 : lv = 6
  ·subst h6; exact x_left6 (f + 1) hA'
  ·by_cases h2 : lv = 2
   ·subst h2; intro nest q w b h hn hm; cases K26 : q.isK T 26 with
    | true => exact x_left2_not f nest (hL 2 (by omega)) q w b h (hn (Wk.isK_iff.1 K26).1) hm K26
    | false => exact x_left2_no f nest (hL 3 (by omega)) q w b h hn hm K26
   ·exact x_leftR hT lv f (by omega) (hL (lv + 1) (by omega))
theorem r_expr (hT : Wk.Shut T) (hQ : Quoted T) (q : Wk.St) {w0 w : World} (b : Nat) (h : IN B s T w0 w b q 0) :
  Calls Tryz.prog 76 #[.pointer (some ⟨b, 0, none⟩)] w fun e w' => treeEnd w w' (Wk.pExpr T q) e ∧ IN B s T w w' b (Wk.pExpr T q).1 0 := by
 refine (x_all hT hQ (Wk.fuel T)).1 0 q w b h.self (fun _ => by omega) ?_; have hr : rank 7 = 8 := rfl; unfold meas Wk.fuel; rw [hr]; split <;> omega
end
end Go.Proofs.YtbkaghlklkdmkaaGreatDoor
