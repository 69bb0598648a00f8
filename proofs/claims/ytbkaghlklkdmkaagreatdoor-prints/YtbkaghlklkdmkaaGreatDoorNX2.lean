/-
  The builder of texts: what its calls do. Tokens written in a row: Join. The document's answer: Print. The program: Print of a model.
-/
import Derived.Test.YtbkaghlklkdmkaaGreatDoorShelf2
import Derived.Lib.Builder
import Derived.Lib.OthersKept
import Derived.Lib.AppendStr
import Derived.Laws.Externs
import Derived.Test.YtbkaghlklkdmkaaGreatDoorMX1
import Derived.Test.YtbkaghlklkdmkaaGreatDoorNF7
import Derived.Deep.Cut
import Derived.Deep.LoopGhost
import Derived.Lib.AppendIntMem
set_option maxRecDepth 100000
set_option maxHeartbeats 8000000
namespace Go.Proofs.YtbkaghlklkdmkaaGreatDoor
open Go.RowKit
theorem Tryz.infoB5 : (Tryz.prog.info? 5).map (fun i => (i.zero, i.size, i.bytes)) = some (some (.int .u8 0), 1, 1) := by kernel_rfl
theorem Tryz.size61 : (Tryz.prog.info? 61).map (fun i => i.size) = some 2 := by kernel_rfl
theorem Tryz.lies61 : liesAt Tryz.prog Tryz.prog.depth 61 (2 / Tryz.prog.cellsOf 61) 0 61 1 = true := by kernel_rfl
theorem b_check (B b : Nat) (bs : List Value) (w : World) (h : Lib.IsBuilder 61 5 B b bs w) :
  Calls Tryz.prog 50 #[.pointer (some ⟨b, 0, none⟩)] w fun e w' => e = .returned (.tuple #[]) ∧ Lib.BuilderAt 61 5 B b (.pointer (some ⟨b, 0, none⟩)) bs w' ∧ Below B w w' ∧ Lib.OthersKept 5 (some b) w w' := by
 obtain ⟨j, hj, hjs⟩ := Option.map_eq_some_iff.1 Tryz.size61; rcases h with h | h
 ·have h0 := h.cell0; have hf := h.frozen0; have hT : (convert 58 174 (.pointer (some ⟨b, 0, none⟩))).run Tryz.prog w = .ok (.pointer (some ⟨b, 0, none⟩)) w := Lib.run_to_unsafe w ⟨b, 0, none⟩ Tryz.underlying58 Tryz.underlying174 hj (by rw [hjs]; decide) h.shape (Nat.zero_lt_succ 1); have hN : ∀ x, (callFunc 81 #[x]).run Tryz.prog w = (Result.ok (.value x) w) := fun x => by
   rw [run_callFunc_extern Tryz.func81 (by kernel_rfl) (by kernel_rfl) (by kernel_rfl) (e := Extern.AbiNoEscape.same) (by kernel_rfl), Lib.run_noEscape]; rfl
  have hF : (convert 174 58 (.pointer (some ⟨b, 0, none⟩))).run Tryz.prog w = .ok (.pointer (some ⟨b, 0, none⟩)) w := Lib.run_from_unsafe w ⟨b, 0, none⟩ Tryz.underlying174 Tryz.underlying58 hj h.shape Tryz.lies61; have HE : Hid _ := h.used (.pointer (some ⟨b, 0, none⟩)); have HB : Hid (Below B w (w.setCell ⟨b, 0, none⟩ (.pointer (some ⟨b, 0, none⟩)))) := (Below.refl B w).setCell (p := ⟨b, 0, none⟩) h.1 _; clear h; go_enter Tryz.func50, Tryz.ntmps50; go_wp2_with fail; go_end0
  exact ⟨rfl, HE.out, HB.out, (Lib.OthersKept.refl _ _ _).setCell ⟨b, 0, none⟩ rfl _⟩
 ·have h0 := h.cell0; have hn : (binOp .neq 58 (.pointer (some ⟨b, 0, none⟩)) (.pointer (some ⟨b, 0, none⟩))).run Tryz.prog w = .ok (.bool false) w := Lib.run_neq_ptr_same w _ Tryz.underlying58 hj; have HE : Hid _ := h; clear h; go_enter Tryz.func50, Tryz.ntmps50; go_wp2_with fail; go_end0
  exact ⟨rfl, HE.out, Below.refl _ _, Lib.OthersKept.refl _ _ _⟩
theorem own_type {w : World} {B : Nat} {v : Value} {n : Nat} {xs : List Value} (h : w.ownsRow B 5 1 v n xs) : ∀ g, v.ownBlock = some g → ∃ c fz, w.heap[g]? = some (.cells c 5 fz) := by
 intro g e; rcases h.2 with ⟨rfl, _⟩ | ⟨g', cap, cur, rfl, _, hgg, _⟩
 ·simp [Value.ownBlock] at e
 ·simp [Value.ownBlock] at e; subst e; exact ⟨_, _, hgg⟩
theorem b_lt {w : World} {b : Nat} {o : Obj} (h : w.heap[b]? = some o) : b < w.heap.size := (Array.getElem?_eq_some_iff.1 h).1
theorem b_byte (B b : Nat) (bs : List Value) (c : Int) (w : World) (h : Lib.IsBuilder 61 5 B b bs w) (hlen : bs.length + 1 ≤ 140737488355328) (hBw : B ≤ w.heap.size) :
  Calls Tryz.prog 22 #[.pointer (some ⟨b, 0, none⟩), .int .u8 c] w fun e w' => e = .returned .nilIface ∧ Lib.IsBuilder 61 5 B b (bs ++ [.int .u8 c]) w' ∧ Below B w w' ∧ Lib.OthersKept 5 (some b) w w' := by
 obtain ⟨i0, hi, hz0, hz1, hz2⟩ := info_parts Tryz.infoB5; have HC : Hid _ := b_check B b bs w h; clear h; go_enter Tryz.func22, Tryz.ntmps22; go_wp2_with fail; refine Calls.mono HC.out ?_; rintro e w1 ⟨rfl, ⟨hB, v, hbk, hown, hne⟩, hb1, ho1⟩; have c1 : w1.cell? ⟨b, 1, none⟩ = some v := by rw [Lib.cell_of_heap hbk]; rfl
 have hs1 := hb1.size; have hlt := b_lt hbk; clear HC; go_wp2_with first
  | (at_builtin; refine wpList_append_own _ rfl _ _ 59 rfl B 5 i0 (.int .u8 0) 1 1 Tryz.underlying59 hi hz0 hz1 hz2 rfl (by decide) _ _ _ rfl (hown.alloc _) ⟨w1.heap.size, 0, none⟩ 1 1 [.int .u8 c] rfl rfl ?c1 ?c2 ?c3 ?c4 ?c5 ?_)
  | fail
 case c1 =>
  intro j u hj
  match j, hj with
  | 0, hj => simp at hj; subst hj; simp [Addr.add]
 case c2 => intro u hu; simp at hu; subst hu; rfl
 case c3 => unfold maxLen; omega
 case c4 => omega
 case c5 => simp; omega
 intro v' w2 hown' hgrow _; have hb2 : w2.heap[b]? = some (.cells #[.pointer (some ⟨b, 0, none⟩), v] 61 (0, 0)) := by
  rw [hgrow.block b (by simp; omega) (fun e => hne e.symm), Lib.alloc_old w1 _ b hlt]; exact hbk
 have d1 : w2.cell? ⟨b, 1, none⟩ = some v := by rw [Lib.cell_of_heap hb2]; rfl
 have f1 : w2.frozen? ⟨b, 1, none⟩ = false := Lib.frozen_of_heap hb2 1; obtain ⟨g, cap, rfl⟩ : ∃ g cap, v' = .slice (some ⟨g, 0, none⟩) (bs.length + 1) cap := by
  rcases hown'.2 with ⟨_, h0⟩ | ⟨g, cap, cur, hv, _⟩
  ·omega
  ·exact ⟨g, cap, hv⟩
 have HE : Hid _ := Lib.BuilderAt.put (T := 61) (e := 5) hB hb2 (bs' := bs ++ [.int .u8 c]) (by simpa using hown') (by decide); have HO : Hid (Lib.OthersKept 5 (some b) w (w2.setCell ⟨b, 1, none⟩ (.slice (some ⟨g, 0, none⟩) (bs.length + 1) cap))) := ((ho1.alloc _).grown hgrow (own_type (hown.alloc _))).setCell ⟨b, 1, none⟩ rfl _; have HB : Hid (Below B w (w2.setCell ⟨b, 1, none⟩ (.slice (some ⟨g, 0, none⟩) (bs.length + 1) cap))) := ((hb1.alloc (by omega) _).grown hgrow (by simp; omega) (fun k hk => (hown.lt k hk).1)).setCell (p := ⟨b, 1, none⟩) hB _; clear hown hown' hgrow hb1 hbk hb2 c1 ho1; go_wp2_with fail; go_ret; exact ⟨rfl, Or.inr HE.out, HB.out, HO.out⟩
theorem b_text (B b : Nat) (bs : List Value) (s : ByteArray) (w : World) (h : Lib.IsBuilder 61 5 B b bs w) (hlen : bs.length + s.size ≤ 140737488355328) (hBw : B ≤ w.heap.size) :
  Calls Tryz.prog 20 #[.pointer (some ⟨b, 0, none⟩), .string s] w fun e w' => e = .returned (.tuple #[.int .i64 s.size, .nilIface]) ∧ Lib.IsBuilder 61 5 B b (bs ++ Lib.strCells s) w' ∧ Below B w w' ∧ Lib.OthersKept 5 (some b) w w' := by
 obtain ⟨i0, hi, hz0, hz1, hz2⟩ := info_parts Tryz.infoB5; have HC : Hid _ := b_check B b bs w h; clear h; go_enter Tryz.func20, Tryz.ntmps20; go_wp2_with fail; refine Calls.mono HC.out ?_; rintro e w1 ⟨rfl, ⟨hB, v, hbk, hown, hne⟩, hb1, ho1⟩; have c1 : w1.cell? ⟨b, 1, none⟩ = some v := by rw [Lib.cell_of_heap hbk]; rfl
 have hs1 := hb1.size; have hlt := b_lt hbk; clear HC; go_wp2_with first
  | (at_builtin; refine Lib.wpList_append_own_string _ rfl _ _ 59 9 rfl B 5 i0 Tryz.underlying59 Tryz.underlying9 hi hz0 hz1 hz2 _ _ _ rfl hown s rfl ?c3 ?c4 ?c5 ?_)
  | fail
 case c3 => unfold maxLen; omega
 case c4 => omega
 case c5 => omega
 intro v' w2 hown' hgrow _; have hb2 : w2.heap[b]? = some (.cells #[.pointer (some ⟨b, 0, none⟩), v] 61 (0, 0)) := by
  rw [hgrow.block b hlt (fun e => hne e.symm)]; exact hbk
 have d1 : w2.cell? ⟨b, 1, none⟩ = some v := by rw [Lib.cell_of_heap hb2]; rfl
 have f1 : w2.frozen? ⟨b, 1, none⟩ = false := Lib.frozen_of_heap hb2 1; obtain ⟨ao, n', cap, rfl⟩ : ∃ ao n' cap, v' = .slice ao n' cap := by
  rcases hown'.2 with ⟨hv, _⟩ | ⟨g, cap, cur, hv, _⟩
  ·exact ⟨_, _, _, hv⟩
  ·exact ⟨_, _, _, hv⟩
 have HE : Hid _ := Lib.BuilderAt.put (T := 61) (e := 5) hB hb2 (bs' := bs ++ Lib.strCells s) (by simpa [Lib.strCells_length] using hown') (by decide); have HO : Hid (Lib.OthersKept 5 (some b) w (w2.setCell ⟨b, 1, none⟩ (.slice ao n' cap))) := (ho1.grown hgrow (own_type hown)).setCell ⟨b, 1, none⟩ rfl _; have HB : Hid (Below B w (w2.setCell ⟨b, 1, none⟩ (.slice ao n' cap))) := (hb1.grown hgrow (by omega) (fun k hk => (hown.lt k hk).1)).setCell (p := ⟨b, 1, none⟩) hB _; clear hown hown' hgrow hb1 hbk hb2 c1 ho1; go_wp2_with fail; go_ret2
 exact ⟨rfl, Or.inr HE.out, HB.out, HO.out⟩
end Go.Proofs.YtbkaghlklkdmkaaGreatDoor
namespace Go.Proofs.YtbkaghlklkdmkaaGreatDoor
open Go.RowKit
attribute [local go_sem ↓] Go.wp_at_zero Go.wp_at_succ
theorem joinL_len (T : List Wk.Tok) (hs : ∀ k, k < T.length → (Wk.tokK T k).text.size ≤ 1000) : ∀ n a b, a + n ≤ T.length → (Wk.joinL T n a b).length ≤ n * 1001 := by
 intro n; induction n with
 | zero => intro a b _; exact Nat.zero_le _
 | succ n ih =>
  intro a b h; have h1 := ih (a + 1) false (by omega); have h2 := hs a (by omega); have h3 : (Wk.tokK T a).text.data.toList.length = (Wk.tokK T a).text.size := rfl; rw [Wk.joinL, List.length_append, List.length_append, h3]; have h4 : (if b || Wk.tight (Wk.tokK T a) then ([] : List UInt8) else [32]).length ≤ 1 := by split <;> simp
  omega
theorem j_ways (i kd : Nat) : (¬ (0 : Int) < (i : Int) ∧ (i == 0) = true) ∨ ((0 : Int) < (i : Int) ∧ ((kd : Int) != 39) = false) ∨ ((0 : Int) < (i : Int) ∧ ((kd : Int) != 39) = true ∧ ((kd : Int) != 38) = false) ∨ ((0 : Int) < (i : Int) ∧ ((kd : Int) != 39) = true ∧ ((kd : Int) != 38) = true) := by
 by_cases h : i = 0
 ·left; subst h; exact ⟨by omega, rfl⟩
 ·right; have h1 : (0 : Int) < (i : Int) := by omega
  cases h2 : ((kd : Int) != 39) with
  | false => exact Or.inl ⟨h1, rfl⟩
  | true =>
   cases h3 : ((kd : Int) != 38) with
   | false => exact Or.inr (Or.inl ⟨h1, rfl, rfl⟩)
   | true => exact Or.inr (Or.inr ⟨h1, rfl, rfl⟩)
theorem b_alloc {B b : Nat} {p : Value} {bs : List Value} {w : World} (h : Lib.BuilderAt 61 5 B b p bs w) (x : Obj) : Lib.BuilderAt 61 5 B b p bs (w.alloc x) := by
 obtain ⟨h1, v, h2, h3, h4⟩ := h; exact ⟨h1, v, blk_alloc x h2, World.ownsRow.alloc h3 x, h4⟩
theorem p_Join {T : List Wk.Tok} {tg : Nat} {w : World} (hc : TkC T tg w) (hs : ∀ k, k < T.length → (Wk.tokK T k).text.size ≤ 1000) (hl : T.length ≤ 1002) (a n cap : Nat) (hn : a + n ≤ T.length) :
  Calls Tryz.prog 21 #[.slice (some ⟨tg, a * 3, none⟩) n cap] w fun e w' => e = .returned (.string ⟨(Wk.joinL T n a true).toArray⟩) ∧ Below w.heap.size w w' := by
 have HC : Hid (∀ W, Below w.heap.size w W → TkC T tg W) := fun W hb => hc.below hb
 have HLEN : Hid _ := joinL_len T hs n a true hn; obtain ⟨R, hR⟩ : ∃ R, R = Wk.joinL T n a true := ⟨_, rfl⟩
 rw [← hR] at HLEN ⊢; have HR : Hid (R = [] ++ Wk.joinL T (n - 0) (a + 0) (0 == 0)) := hR; have HB0 : Hid (Lib.IsBuilder 61 5 w.heap.size w.heap.size (Lib.byteCells []) (w.alloc (.cells #[.pointer none, .slice none 0 0] 61))) := Or.inl ⟨Nat.le_refl _, .slice none 0 0, heap_alloc_new w _, World.ownsRow_nil _ _ _ _, by simp [Value.ownBlock]⟩; clear hc hR hs; go_enter Tryz.func21, Tryz.ntmps21; go_wp2_with fail; go_loopg [8] n (fun gk s8 wr => ∃ (i : Nat) (D : List UInt8), i ≤ n ∧ n - i ≤ gk ∧ s8 = .int .i64 i ∧ Hid (Lib.IsBuilder 61 5 w.heap.size w.heap.size (Lib.byteCells D) wr) ∧ Hid (Below w.heap.size w wr) ∧ Hid (R = D ++ Wk.joinL T (n - i) (a + i) (i == 0)))
 case atStart => exact ⟨0, [], Nat.zero_le _, by omega, rfl, HB0, ab1 w _, HR⟩
 case round =>
  obtain ⟨i, D, hi, hg, rfl, HB, HW, HRi⟩ := hrel; by_cases hlt : i < n
  ·have hltz : (i : Int) < (n : Int) := by omega
   obtain ⟨c0, c1, c2⟩ := HC.out _ HW.out (a + i) (by omega); have e0 : a * 3 + i * 3 = (a + i) * 3 := by omega
   obtain ⟨t, ht⟩ : ∃ t, t = Wk.tokK T (a + i) := ⟨_, rfl⟩
   obtain ⟨kd, hkd⟩ : ∃ kd, kd = t.kind := ⟨_, rfl⟩
   rw [← ht] at c0 c1 c2; rw [← hkd] at c0; have HJ : Hid (R = D ++ ((if (i == 0) || Wk.tight t then [] else [32]) ++ (t.text.data.toList ++ Wk.joinL T (n - (i + 1)) (a + (i + 1)) ((i + 1) == 0)))) := by
    show _ = _; rw [HRi.out, show n - i = (n - (i + 1)) + 1 by omega, Wk.joinL, ← ht]; rfl
   have hsm : t.text.size ≤ R.length := by
    have := congrArg List.length HJ.out; simp only [List.length_append] at this; have h3 : t.text.data.toList.length = t.text.size := rfl; omega
   have hdm : D.length ≤ R.length := by
    have := congrArg List.length HRi.out; simp only [List.length_append] at this; omega
   have hrm : R.length ≤ 1003002 := Nat.le_trans HLEN.out (by omega); have HT : Hid _ := ht; have HKD : Hid _ := hkd; have hwz := HW.out.size; have HB1 : Hid (∀ x, Lib.IsBuilder 61 5 w.heap.size w.heap.size (Lib.byteCells D) (wr.alloc x)) := fun x => (HB.out).imp (fun h => b_alloc h x) (fun h => b_alloc h x)
   clear ht hkd HC; obtain ⟨pl, hpl⟩ : ∃ pl, pl = t.place := ⟨_, rfl⟩
   obtain ⟨tx, htx⟩ : ∃ tx, tx = t.text := ⟨_, rfl⟩
   rw [← hpl] at c1; rw [← htx] at c2 HJ hsm; clear hpl htx; have HWL : Hid (w.heap.size < wr.heap.size) := HB.out.elim (fun h => h.lt) (fun h => h.lt); have HTG : Hid (∀ k : Nat, ((k : Int) != 39) = false ∨ ((k : Int) != 38) = false → k = t.kind → Wk.tight t = true) := fun k h e => by
    unfold Wk.tight; rw [← e, Bool.or_eq_true, beq_iff_eq, beq_iff_eq]; rcases h with h | h
    ·left; rw [bne_eq_false_iff_eq] at h; omega
    ·right; rw [bne_eq_false_iff_eq] at h; omega
   rcases j_ways i kd with ⟨z1, z2⟩ | ⟨z1, z2⟩ | ⟨z1, z2, z3⟩ | ⟨z1, z2, z3⟩
   have HJ2 : Hid (R = D ++ (tx.data.toList ++ Wk.joinL T (n - (i + 1)) (a + (i + 1)) ((i + 1) == 0))) := by
    show _ = _; rw [HJ.out, z2]; rfl
   have HB2 : Hid (Lib.IsBuilder 61 5 w.heap.size w.heap.size (Lib.byteCells D) (wr.alloc (.cells #[.int .i64 kd, .int .i64 pl, .string tx] 134))) := HB1.out _; have HW2 : Hid (Below w.heap.size w (wr.alloc (.cells #[.int .i64 kd, .int .i64 pl, .string tx] 134))) := HW.out.alloc HW.out.size _; clear z2 HJ HTG; go_wp2_with fail; rotate_left; have HJ2 : Hid (R = D ++ (tx.data.toList ++ Wk.joinL T (n - (i + 1)) (a + (i + 1)) ((i + 1) == 0))) := by
    show _ = _; rw [HJ.out, HTG.out kd (Or.inl z2) HKD.out, Bool.or_true]; rfl
   have HB2 : Hid (Lib.IsBuilder 61 5 w.heap.size w.heap.size (Lib.byteCells D) (wr.alloc (.cells #[.int .i64 kd, .int .i64 pl, .string tx] 134))) := HB1.out _; have HW2 : Hid (Below w.heap.size w (wr.alloc (.cells #[.int .i64 kd, .int .i64 pl, .string tx] 134))) := HW.out.alloc HW.out.size _; clear HKD HJ HTG; go_wp2_with fail; rotate_left; have HJ2 : Hid (R = D ++ (tx.data.toList ++ Wk.joinL T (n - (i + 1)) (a + (i + 1)) ((i + 1) == 0))) := by
    show _ = _; rw [HJ.out, HTG.out kd (Or.inr z3) HKD.out, Bool.or_true]; rfl
   have HB2 : Hid (Lib.IsBuilder 61 5 w.heap.size w.heap.size (Lib.byteCells D) (wr.alloc (.cells #[.int .i64 kd, .int .i64 pl, .string tx] 134))) := HB1.out _; have HW2 : Hid (Below w.heap.size w (wr.alloc (.cells #[.int .i64 kd, .int .i64 pl, .string tx] 134))) := HW.out.alloc HW.out.size _; clear HKD HJ HTG; go_wp2_with fail; rotate_left; have HJ2 : Hid (R = (D ++ [32]) ++ (tx.data.toList ++ Wk.joinL T (n - (i + 1)) (a + (i + 1)) ((i + 1) == 0))) := by
    show _ = _; have h1 : (i == 0) = false := by rw [beq_eq_false_iff_ne]; omega
    have h2 : Wk.tight t = false := by
     unfold Wk.tight; rw [← HKD.out, Bool.or_eq_false_iff, beq_eq_false_iff_ne, beq_eq_false_iff_ne]; rw [bne_iff_ne] at z2 z3; exact ⟨by omega, by omega⟩
    rw [HJ.out, h1, h2, List.append_assoc]; rfl
   clear HJ HTG HKD; go_wp2_with fail; refine (b_byte w.heap.size w.heap.size _ 32 _ (HB1.out _) (by rw [Lib.byteCells_length]; omega) (by simp; omega)).mono ?_; rintro e w2 ⟨rfl, hb2, hB2, ho2⟩; have hbx : w2.heap[wr.heap.size]? = some (.cells #[.int .i64 kd, .int .i64 pl, .string tx] 134 (0, 0)) := ho2 _ _ (heap_alloc_new wr _) (fun e => by have := HWL.out; injection e; omega) (fun c fz e => by cases e); have d2 := bc 2 hbx rfl; have HB2 : Hid (Lib.IsBuilder 61 5 w.heap.size w.heap.size (Lib.byteCells (D ++ [32])) w2) := by
    rw [Lib.byteCells_append]; exact hb2
   have HW2 : Hid (Below w.heap.size w w2) := (HW.out.alloc HW.out.size _).trans hB2; clear hb2 hB2 ho2 hbx; go_wp2_with fail; rotate_left; all_goals (
    refine (b_text w.heap.size w.heap.size _ tx _ HB2.out (by rw [Lib.byteCells_length]; first | omega | (rw [List.length_append, List.length_singleton]; omega)) HW2.out.size).mono ?_; rintro e w3 ⟨rfl, hb3, hB3, -⟩; have HW3 : Hid (Below w.heap.size w w3) := HW2.out.trans hB3; rw [Lib.strCells_eq, ← Lib.byteCells_append] at hb3; rw [← List.append_assoc] at HJ2; have HB3 : Hid _ := hb3; clear hb3 hB3 HB2 HW2; go_wp2_with fail; go_roundg (n - (i + 1)); case measure => omega
    case rel => exact ⟨i + 1, _, by omega, by omega, by go_num, HB3, HW3, HJ2⟩)
  ·have hltz : ¬ (i : Int) < (n : Int) := by omega
   have HE : Hid (R = D) := by
    show _ = _; rw [HRi.out, show n - i = 0 by omega]; exact List.append_nil _
   have HS : Hid _ := Tryz.Builder_String_any w.heap.size w.heap.size D wr HB.out HW.out.size; rw [← HE.out] at HS; go_wp2_with fail; refine Calls.mono HS.out ?_; rintro e w3 ⟨rfl, hb3⟩; have HB3 : Hid (Below w.heap.size w w3) := HW.out.trans hb3; clear hb3; go_wp2_with fail; go_ret; exact ⟨rfl, HB3.out⟩
def RkC (T : List Wk.Tok) (K g : Nat) (w : World) : Prop := ∀ k, k < K → w.cell? ⟨g, k * 3, none⟩ = some (.int .u8 (rkind (Wk.tokK T k).kind true)) ∧ w.cell? ⟨g, k * 3 + 1, none⟩ = some (.string (rtext (Wk.tokK T k) true))
theorem refL_len (T : List Wk.Tok) (hs : ∀ k, k < T.length → (Wk.tokK T k).text.size ≤ 1000) : ∀ n a b, a + n ≤ T.length → (Wk.refL T n a b).length ≤ n * 1002 := by
 intro n; induction n with
 | zero => intro a b _; exact Nat.zero_le _
 | succ n ih =>
  intro a b h; have h1 := ih (a + 1) ((Wk.tokK T a).kind == 39) (by omega); have h2 := hs a (by omega); have h3 : (Wk.tokK T a).text.data.toList.length = (Wk.tokK T a).text.size := rfl; rw [Wk.refL, List.length_append, List.length_append, List.length_append, h3]; have h4 : (if b || Wk.tight (Wk.tokK T a) then ([] : List UInt8) else [32]).length ≤ 1 := by split <;> simp
  have h5 : (if (Wk.tokK T a).kind == 39 then [10] else ([] : List UInt8)).length ≤ 1 := by split <;> simp
  omega
theorem str_mk (l : List UInt8) (t : ByteArray) : (⟨l.toArray⟩ : ByteArray) ++ t = ⟨(l ++ t.data.toList).toArray⟩ := by
 apply ByteArray.ext; simp
theorem str2 (l : List UInt8) (t : ByteArray) : (⟨l.toArray⟩ : ByteArray) ++ t ++ (⟨#[10]⟩ : ByteArray) = ⟨(l ++ (t.data.toList ++ [10])).toArray⟩ := by
 rw [str_mk, str_mk, List.append_assoc]
theorem str3 (l : List UInt8) (t : ByteArray) : (⟨l.toArray⟩ : ByteArray) ++ (⟨#[32]⟩ : ByteArray) ++ t = ⟨(l ++ ([32] ++ t.data.toList)).toArray⟩ := by
 rw [str_mk, str_mk, List.append_assoc]
theorem sign_spell : ∀ kd, kd < 42 → 26 < kd → ((spellOf kd == [59]) = (kd == 39) ∧ (spellOf kd == [44]) = (kd == 38)) := by decide
theorem r_ways {T : List Wk.Tok} (hS : Spelt T) {k : Nat} (hk : k < T.length) :
  (((rkind (Wk.tokK T k).kind true : Nat) : Int) == 115) = decide (26 < (Wk.tokK T k).kind) ∧ (26 < (Wk.tokK T k).kind → ((Wk.tokK T k).text.toList == [59]) = ((Wk.tokK T k).kind == 39) ∧ ((Wk.tokK T k).text.toList == [44]) = ((Wk.tokK T k).kind == 38)) := by
 have h1 := hS.text k hk; have h2 := hS.le k hk; generalize Wk.tokK T k = t at h1 h2 ⊢; refine ⟨?_, fun h => ?_⟩
 ·rw [Bool.eq_iff_iff, beq_iff_eq, decide_eq_true_eq]; unfold rkind; repeat' split
  all_goals first | omega | (rename_i hx; exact absurd rfl hx)
 ·rw [ByteArray.toList_eq, h1 (by omega)]; exact sign_spell _ (by omega) h
theorem r_print {T : List Wk.Tok} {w : World} {mb g cap K : Nat} {vv : Value} (hm : w.heap[mb]? = some (.cells #[vv, .slice (some ⟨g, 0, none⟩) K cap] 85 (0, 0))) (hc : RkC T K g w) (hS : Spelt T) (hk : K ≤ T.length) (hl : T.length ≤ 1002) (h2 : ∀ k, k < K → 2 ≤ (Wk.tokK T k).kind) (hs : ∀ k, k < T.length → (Wk.tokK T k).text.size ≤ 1000) :
  Calls Tryz.prog 12 #[.pointer (some ⟨mb, 0, none⟩)] w fun e w' => e = .returned (.string ⟨(Wk.refL T K 0 true).toArray⟩) ∧ Below w.heap.size w w' := by
 have m1 := bc 1 hm rfl; have HLEN : Hid _ := refL_len T hs K 0 true (by omega); obtain ⟨R, hR⟩ : ∃ R, R = Wk.refL T K 0 true := ⟨_, rfl⟩
 rw [← hR] at HLEN ⊢; have HR : Hid (R = [] ++ Wk.refL T (K - 0) 0 true) := hR; have HC : Hid _ := hc; clear hm hR hc; go_enter Tryz.func12, Tryz.ntmps12; go_wp2_with fail; go_loopg [3, 4, 5] K (fun gk s3 s4 s5 wr => ∃ (i : Nat) (D : List UInt8) (b : Bool), i ≤ K ∧ K - i ≤ gk ∧ s3 = .string ⟨D.toArray⟩ ∧ s4 = .bool b ∧ s5 = .int .i64 i ∧ wr = w ∧ Hid (R = D ++ Wk.refL T (K - i) i b))
 case atStart => exact ⟨0, [], true, Nat.zero_le _, by omega, rfl, rfl, rfl, rfl, HR⟩
 case round =>
  obtain ⟨i, D, b, hi, hg, rfl, rfl, rfl, rfl, HRi⟩ := hrel; by_cases hlt : i < K
  ·have hltz : (i : Int) < (K : Int) := by omega
   obtain ⟨c0, c1⟩ := HC.out i hlt; obtain ⟨t, ht⟩ : ∃ t, t = Wk.tokK T i := ⟨_, rfl⟩
   rw [← ht] at c0 c1; have HJ : Hid (R = D ++ ((if b || Wk.tight t then [] else [32]) ++ (t.text.data.toList ++ ((if t.kind == 39 then [10] else []) ++ Wk.refL T (K - (i + 1)) (i + 1) (t.kind == 39))))) := by
    show _ = _; rw [HRi.out, show K - i = (K - (i + 1)) + 1 by omega, Wk.refL, ← ht]
   have hdm : D.length ≤ R.length := by
    have := congrArg List.length HRi.out; simp only [List.length_append] at this; omega
   have hsm : D.length + t.text.size + 2 ≤ R.length + 2 := by
    have := congrArg List.length HJ.out; simp only [List.length_append] at this; have h3 : t.text.data.toList.length = t.text.size := rfl; omega
   have hrm : R.length ≤ 1004004 := Nat.le_trans HLEN.out (by omega); have h2k := h2 i hlt; rw [← ht] at h2k; have HTT : Hid (rtext t true = t.text) := by
    show _ = _; unfold rtext; rw [if_neg]; unfold rkind; repeat' split
    all_goals first | omega | (rename_i hx; exact absurd rfl hx)
   rw [HTT.out] at c1; obtain ⟨y1, y2⟩ := r_ways hS (show i < T.length by omega); rw [← ht] at y1 y2; obtain ⟨tx, htx⟩ : ∃ tx, tx = t.text := ⟨_, rfl⟩
   obtain ⟨rk, hrk⟩ : ∃ rk, rk = rkind t.kind true := ⟨_, rfl⟩
   rw [← htx] at c1 HJ hsm y2; rw [← hrk] at c0 y1; obtain ⟨kd, hkd⟩ : ∃ kd, kd = t.kind := ⟨_, rfl⟩
   unfold Wk.tight at HJ; rw [← hkd] at HJ y1 y2; clear HC ht htx hrk hkd HTT h2k; by_cases k26 : 26 < kd
   ·obtain ⟨y3, y4⟩ := y2 k26; rw [decide_eq_true k26] at y1; clear y2 k26; by_cases k39 : kd = 39
    ·subst k39; replace y3 : (tx.toList == [59]) = true := y3; clear y4; have HJ2 : Hid (R = (D ++ (tx.data.toList ++ [10])) ++ Wk.refL T (K - (i + 1)) (i + 1) true) := by
      show _ = _; rw [HJ.out]; cases b <;> simp
     clear HJ; cases b; all_goals (
      go_wp2_with fail; go_roundg (K - (i + 1)); case measure => omega
      case rel => exact ⟨i + 1, _, true, by omega, by omega, by rw [str2], rfl, by go_num, rfl, HJ2⟩)
    ·replace y3 : (tx.toList == [59]) = false := y3.trans (by rw [beq_eq_false_iff_ne]; exact k39); have e39 : (kd == 39) = false := by rw [beq_eq_false_iff_ne]; exact k39
     rw [e39] at HJ; by_cases k38 : kd = 38
     ·subst k38; replace y4 : (tx.toList == [44]) = true := y4; have HJ2 : Hid (R = (D ++ tx.data.toList) ++ Wk.refL T (K - (i + 1)) (i + 1) false) := by
       show _ = _; rw [HJ.out]; cases b <;> simp
      clear HJ e39 k39; cases b; all_goals (
       go_wp2_with fail; go_roundg (K - (i + 1)); case measure => omega
       case rel => exact ⟨i + 1, _, false, by omega, by omega, by rw [str_mk], rfl, by go_num, rfl, HJ2⟩)
     ·have e38 : (kd == 38) = false := by rw [beq_eq_false_iff_ne]; exact k38
      replace y4 : (tx.toList == [44]) = false := y4.trans e38; rw [e38] at HJ; clear e38 e39 k38 k39; cases b
      ·have HJ2 : Hid (R = (D ++ ([32] ++ tx.data.toList)) ++ Wk.refL T (K - (i + 1)) (i + 1) false) := by
        show _ = _; rw [HJ.out]; simp
       clear HJ; go_wp2_with fail; go_roundg (K - (i + 1)); case measure => omega
       case rel => exact ⟨i + 1, _, false, by omega, by omega, by rw [str3], rfl, by go_num, rfl, HJ2⟩
      ·have HJ2 : Hid (R = (D ++ tx.data.toList) ++ Wk.refL T (K - (i + 1)) (i + 1) false) := by
        show _ = _; rw [HJ.out]; simp
       clear HJ; go_wp2_with fail; go_roundg (K - (i + 1)); case measure => omega
       case rel => exact ⟨i + 1, _, false, by omega, by omega, by rw [str_mk], rfl, by go_num, rfl, HJ2⟩
   ·rw [decide_eq_false k26] at y1; have e39 : (kd == 39) = false := by rw [beq_eq_false_iff_ne]; omega
    have e38 : (kd == 38) = false := by rw [beq_eq_false_iff_ne]; omega
    rw [e39, e38] at HJ; clear y2 k26 e38 e39; cases b
    ·have HJ2 : Hid (R = (D ++ ([32] ++ tx.data.toList)) ++ Wk.refL T (K - (i + 1)) (i + 1) false) := by
      show _ = _; rw [HJ.out]; simp
     clear HJ; go_wp2_with fail; go_roundg (K - (i + 1)); case measure => omega
     case rel => exact ⟨i + 1, _, false, by omega, by omega, by rw [str3], rfl, by go_num, rfl, HJ2⟩
    ·have HJ2 : Hid (R = (D ++ tx.data.toList) ++ Wk.refL T (K - (i + 1)) (i + 1) false) := by
      show _ = _; rw [HJ.out]; simp
     clear HJ; go_wp2_with fail; go_roundg (K - (i + 1)); case measure => omega
     case rel => exact ⟨i + 1, _, false, by omega, by omega, by rw [str_mk], rfl, by go_num, rfl, HJ2⟩
  ·have hltz : ¬ (i : Int) < (K : Int) := by omega
   have HE : Hid (R = D) := by
    show _ = _; rw [HRi.out, show K - i = 0 by omega]; exact List.append_nil _
   go_wp2_with fail; go_ret; exact ⟨by rw [HE.out]; rfl, Below.refl _ _⟩
theorem b_below {B b : Nat} {bs : List Value} {w w' : World} (h : Lib.IsBuilder 61 5 B b bs w) (hb : Below w.heap.size w w') : Lib.IsBuilder 61 5 B b bs w' :=
 h.imp (fun ⟨h1, v, h2, h3, h4⟩ => ⟨h1, v, (hb.block b (b_lt h2)).trans h2, owns_below h3 hb, h4⟩) (fun ⟨h1, v, h2, h3, h4⟩ => ⟨h1, v, (hb.block b (b_lt h2)).trans h2, owns_below h3 hb, h4⟩)
theorem p_print {T : List Wk.Tok} {K : Nat} {w : World} {p : Nat} (h : PM T K w p) (hs : ∀ k, k < T.length → (Wk.tokK T k).text.size ≤ 1000) (hl : T.length ≤ 1002) (hRl : (Wk.refL T K 0 true).length ≤ 1004004) :
  Calls Tryz.prog 11 #[.pointer (some ⟨p, 0, none⟩)] w fun e w' => e = .returned (.string ⟨(Wk.refL T K 0 true).toArray⟩) ∧ Below w.heap.size w w' := by
 obtain ⟨g, cap, tg, irs, hm, ⟨-, hfew, -⟩, hit, hch, htk⟩ := h; have m0 := bc 0 hm rfl; have mlt := b_lt hm; have HC : Hid (∀ W, Below w.heap.size w W → TkC T tg W) := fun W hb => htk.below hb
 have HI : Hid _ := hit; have HS : Hid _ := hs; obtain ⟨R, hR⟩ : ∃ R, R = Wk.refL T K 0 true := ⟨_, rfl⟩
 rw [← hR] at hRl ⊢; have HR : Hid (R = [] ++ Wk.refL T (K - 0) 0 true) := hR; have HCH : Hid (Chain T tg 0 (irs.drop 0) K) := hch; have HB0 : Hid (Lib.IsBuilder 61 5 w.heap.size w.heap.size (Lib.byteCells []) (w.alloc (.cells #[.pointer none, .slice none 0 0] 61))) := Or.inl ⟨Nat.le_refl _, .slice none 0 0, heap_alloc_new w _, World.ownsRow_nil _ _ _ _, by simp [Value.ownBlock]⟩; clear hm hR hch htk hit hs; go_enter Tryz.func11, Tryz.ntmps11; go_wp2_with fail; go_loopg [13] irs.length (fun gk s13 wr => ∃ (j a : Nat) (D : List UInt8), j ≤ irs.length ∧ irs.length - j ≤ gk ∧ s13 = .int .i64 j ∧ Hid (Lib.IsBuilder 61 5 w.heap.size w.heap.size (Lib.byteCells D) wr) ∧ Hid (Below w.heap.size w wr) ∧ Hid (Chain T tg a (irs.drop j) K) ∧ Hid (R = D ++ Wk.refL T (K - a) a true))
 case atStart => exact ⟨0, 0, [], Nat.zero_le _, by omega, rfl, HB0, ab1 w _, HCH, HR⟩
 case round =>
  obtain ⟨j, a, D, hj, hg, rfl, HB, HW, HCj, HRj⟩ := hrel; clear HR HCH HB0; by_cases hlt : j < irs.length
  ·have hltz : (j : Int) < (irs.length : Int) := by omega
   have hj0 : (0 : Int) ≤ (j : Int) := by omega
   obtain ⟨r, hr⟩ : ∃ r, irs[j]? = some r := ⟨_, List.getElem?_eq_getElem hlt⟩
   obtain ⟨hone, hcell⟩ := HI.out j r hr; have hdr : irs.drop j = r :: irs.drop (j + 1) := by
    rw [List.drop_eq_getElem_cons hlt]; rw [List.getElem?_eq_getElem hlt] at hr; rw [Option.some.inj hr]
   have hc1 := HCj.out; rw [hdr] at hc1; obtain ⟨m, cp, htv, ham, hmT, hm39, hmin, hcn⟩ := hc1; have hmK := hcn.le; have HRn : Hid (R = D ++ (Wk.joinL T (m + 1 - a) a true ++ (10 :: Wk.refL T (K - (m + 1)) (m + 1) true))) := by
    show _ = _; have e := Wk.refL_item T (K - (m + 1)) (m - a) a true (fun k h1 h2 => hmin k h1 (by omega)) (by rw [show a + (m - a) = m by omega]; exact hm39); rw [show m - a + 1 + (K - (m + 1)) = K - a by omega, show m - a + 1 = m + 1 - a by omega, show a + (m - a) + 1 = m + 1 by omega] at e; rw [HRj.out, e]
   have HCN : Hid (Chain T tg (m + 1) (irs.drop (j + 1)) K) := hcn; have s10 : ∀ (w : World) (p : Addr), Sem.run Tryz.prog (store p r.ex) w = stored Tryz.prog w p r.ex .plain := fun w p => run_store _ _ _ _ _ hone.1
   have s12 : ∀ (w : World) (p : Addr), Sem.run Tryz.prog (store p r.cv) w = stored Tryz.prog w p r.cv .plain := fun w p => run_store _ _ _ _ _ hone.2.1
   have s13 : ∀ (w : World) (p : Addr), Sem.run Tryz.prog (store p r.rv) w = stored Tryz.prog w p r.rv .plain := fun w p => run_store _ _ _ _ _ hone.2.2.1
   have s14 : ∀ (w : World) (p : Addr), Sem.run Tryz.prog (store p r.tv) w = stored Tryz.prog w p r.tv .plain := fun w p => run_store _ _ _ _ _ hone.2.2.2
   have cells : ∀ i v, r.cells[i]? = some v → wr.cell? ⟨g, j * 15 + i, none⟩ = some v := fun i v hv => by
    have := hcell i v hv; exact (HW.out.cell (p := ⟨g, j * 15 + i, none⟩) (cell_lt this)).trans this
   have c0 := cells 0 _ rfl; have c1 := cells 1 _ rfl; have c2 := cells 2 _ rfl; have c3 := cells 3 _ rfl; have c4 := cells 4 _ rfl; have c5 := cells 5 _ rfl; have c6 := cells 6 _ rfl; have c7 := cells 7 _ rfl; have c8 := cells 8 _ rfl; have c9 := cells 9 _ rfl; have c10 := cells 10 _ rfl; have c11 := cells 11 _ rfl; have c12 := cells 12 _ rfl; have c13 := cells 13 _ rfl; have c14 := cells 14 _ rfl; rw [Nat.add_zero] at c0; have HTV : Hid _ := htv; have hJ : ∀ x, Calls Tryz.prog 21 #[.slice (some ⟨tg, a * 3, none⟩) (m + 1 - a) cp] (wr.alloc x) _ := fun x => p_Join (HC.out _ (HW.out.alloc HW.out.size x)) HS.out hl a (m + 1 - a) cp (by omega)
   rw [← htv] at hJ; have HJ : Hid _ := hJ; clear hcell hcn hmin hdr cells hr hone htv hJ; obtain ⟨JT, hJT⟩ : ∃ x, x = Wk.joinL T (m + 1 - a) a true := ⟨_, rfl⟩
   rw [← hJT] at HJ HRn; have hlen : D.length + (JT.length + 1) ≤ R.length := by
    have := congrArg List.length HRn.out; simp only [List.length_append, List.length_cons] at this; omega
   have HWA : Hid (∀ x, Below w.heap.size w (wr.alloc x)) := fun x => HW.out.alloc HW.out.size x
   have HBA : Hid (∀ x, Lib.IsBuilder 61 5 w.heap.size w.heap.size (Lib.byteCells D) (wr.alloc x)) := fun x => b_below HB.out (ab1 wr x)
   have HRN : Hid (R = (D ++ (JT ++ [10])) ++ Wk.refL T (K - (m + 1)) (m + 1) true) := by
    show _ = _; rw [HRn.out]; simp
   clear hJT HRn; go_wp2_with fail; refine Calls.mono (HJ.out _) ?_; rintro e w2 ⟨rfl, hb2⟩; have HW2 : Hid (Below w.heap.size w w2) := (HWA.out _).trans (hb2.mono (HWA.out _).size); have HB2 : Hid (Lib.IsBuilder 61 5 w.heap.size w.heap.size (Lib.byteCells D) w2) := b_below (HBA.out _) hb2; have hjs : (ByteArray.mk JT.toArray).size = JT.length := rfl; clear hb2 HWA HBA HJ; go_wp2_with fail; refine (b_text w.heap.size w.heap.size _ ⟨JT.toArray⟩ _ HB2.out (by rw [Lib.byteCells_length, hjs]; omega) HW2.out.size).mono ?_; rintro e w3 ⟨rfl, hb3, hB3, -⟩; rw [Lib.strCells_toArray, ← Lib.byteCells_append] at hb3; have HW3 : Hid (Below w.heap.size w w3) := HW2.out.trans hB3; have HB3 : Hid _ := hb3; clear hb3 hB3 HB2; go_wp2_with fail; refine (b_byte w.heap.size w.heap.size _ 10 _ HB3.out (by rw [Lib.byteCells_length, List.length_append]; omega) HW3.out.size).mono ?_; rintro e w4 ⟨rfl, hb4, hB4, -⟩; have HW4 : Hid (Below w.heap.size w w4) := HW3.out.trans hB4; have HB4 : Hid (Lib.IsBuilder 61 5 w.heap.size w.heap.size (Lib.byteCells (D ++ (JT ++ [10]))) w4) := by
    rw [← List.append_assoc, Lib.byteCells_append]; exact hb4
   clear hb4 hB4 HB3; go_wp2_with fail; go_roundg (irs.length - (j + 1)); case measure => omega
   case rel => exact ⟨j + 1, m + 1, _, by omega, by omega, by go_num, HB4, HW4, HCN, HRN⟩
  ·have hltz : ¬ (j : Int) < (irs.length : Int) := by omega
   have HE : Hid (R = D) := by
    show _ = _; have hc := HCj.out; rw [List.drop_eq_nil_of_le (by omega)] at hc; have hc : a = K := hc; rw [HRj.out, hc, Nat.sub_self]; exact List.append_nil _
   have HST : Hid _ := Tryz.Builder_String_any w.heap.size w.heap.size D wr HB.out HW.out.size; rw [← HE.out] at HST; go_wp2_with fail; refine Calls.mono HST.out ?_; rintro e w3 ⟨rfl, hb3⟩; have HB3 : Hid (Below w.heap.size w w3) := HW.out.trans hb3; clear hb3; go_wp2_with fail; go_ret; exact ⟨rfl, HB3.out⟩
end Go.Proofs.YtbkaghlklkdmkaaGreatDoor
