/-
  The parser of the document's answer: what it keeps; fail, is; what take does. The parser of the document's answer: take.
-/
import Derived.Deep.RegionHeld3
import Derived.Deep.DrawnRows
import Derived.Deep.Cut
import Derived.Test.YtbkaghlklkdmkaaGreatDoorME2
set_option maxRecDepth 100000
set_option maxHeartbeats 8000000
namespace Go.Proofs.YtbkaghlklkdmkaaGreatDoor
open Go.RowKit
def badI (q : Wk.St) : Int := match q.bad with | none => -1 | some p => (p : Int)
def rcells (t : Wk.Tok) : List Value := [.int .u8 (rkind t.kind true), .string (rtext t true), .int .i64 t.place]
def takenCells (T : List Wk.Tok) (k : Nat) : List Value := ((List.range k).map (fun j => rcells (Wk.tokK T j))).flatten
theorem takenCells_succ (T : List Wk.Tok) (k : Nat) : takenCells T (k + 1) = takenCells T k ++ rcells (Wk.tokK T k) := by
 simp [takenCells, List.range_succ]
theorem takenCells_len (T : List Wk.Tok) (k : Nat) : (takenCells T k).length = k * 3 := by
 induction k with
 | zero => rfl
 | succ k ih => rw [takenCells_succ, List.length_append, ih]; simp [rcells]; omega
structure RN (T : List Wk.Tok) (q : Wk.St) (mv : Bool) (nk : Nat) (nt : ByteArray) (na i n : Nat) (xs : List Value) : Prop where
 lt : q.k < T.length
 kind : nk = rkind (Wk.tokK T q.k).kind mv
 text : nt = rtext (Wk.tokK T q.k) mv
 place : na = (Wk.tokK T q.k).place
 stop : 2 ≤ (Wk.tokK T q.k).kind → i = (Wk.tokK T q.k).stop
 len : n = q.k
 cells : xs = takenCells T q.k
def rpBlock (s : ByteArray) (q : Wk.St) (nest : Int) (nk : Nat) (nt : ByteArray) (na i : Nat) (tv : Value) : Obj :=
 .cells #[.string s, .int .u8 nk, .string nt, .int .i64 na, .int .i64 i, tv, .int .i64 (badI q), .int .i64 nest] 126 (0, 0)
def RPx (B : Nat) (s : ByteArray) (T : List Wk.Tok) (w : World) (b : Nat) (q : Wk.St) (nest : Int) (tv : Value) (mv : Bool) : Prop :=
 ∃ (nk : Nat) (nt : ByteArray) (na i : Nat) (n : Nat) (xs : List Value),
  w.heap[b]? = some (rpBlock s q nest nk nt na i tv) ∧ B ≤ b ∧ w.ownsRow B 87 3 tv n xs ∧ (n ≤ T.length ∧ nt.size ≤ 1000) ∧ (q.bad = none → RN T q mv nk nt na i n xs)
def RP (B : Nat) (s : ByteArray) (T : List Wk.Tok) (w : World) (b : Nat) (q : Wk.St) (nest : Int) : Prop := ∃ tv, RPx B s T w b q nest tv false
theorem RPx.rp {B : Nat} {s : ByteArray} {T : List Wk.Tok} {w : World} {b : Nat} {q : Wk.St} {nest : Int} {tv : Value} (h : RPx B s T w b q nest tv false) : RP B s T w b q nest := ⟨tv, h⟩
def ownX (b : Nat) (tv : Value) (k : Nat) : Prop := k = b ∨ some k = tv.ownBlock
theorem frT_of_x {B : Nat} {s : ByteArray} {T : List Wk.Tok} {w w' : World} {b : Nat} {q : Wk.St} {nest : Int} {tv : Value} {mv : Bool} (h : RPx B s T w b q nest tv mv) (hf : Fr (ownX b tv) w w') : FrT B [126, 87] w w' := by
 obtain ⟨nk, nt, na, i, n, xs, h1, h2, h3, h4, h5⟩ := h; refine ⟨hf.os, hf.tape, hf.output, hf.size, fun k hk => ?_, fun k o ho hn => (hf.block k (lt_of_block ho) ?_).trans ho⟩
 ·rcases Nat.lt_or_ge k w.heap.size with hlt | hge
  ·refine hf.block k hlt ?_; rintro (e | e)
   ·omega
   ·have := (h3.lt k e.symm).1; omega
  ·exfalso; have := lt_of_block h1; omega
 ·rintro (e | e)
  ·subst e; rw [h1] at ho; cases ho; exact hn (by simp [inTs, rpBlock])
  ·rcases h3.2 with ⟨rfl, _⟩ | ⟨g, cap, cur, rfl, _, hgg, _⟩
   ·simp [Value.ownBlock] at e
   ·simp [Value.ownBlock] at e; subst e; rw [hgg] at ho; cases ho; exact hn (by simp [inTs])
def K87 (b : Nat) (w w' : World) : Prop := ∀ tv, w.cell? ⟨b, 5, none⟩ = some tv →
 (∃ tv', w'.cell? ⟨b, 5, none⟩ = some tv' ∧ ∀ g, tv'.ownBlock = some g → tv.ownBlock = some g ∨ w.heap.size ≤ g) ∧
 ∀ (k : Nat) (cs : Array Value) (fr : Nat × Nat), w.heap[k]? = some (.cells cs 87 fr) → tv.ownBlock ≠ some k → w'.heap[k]? = some (.cells cs 87 fr)
theorem cell_blt {w : World} {b o : Nat} {v : Value} (h : w.cell? ⟨b, o, none⟩ = some v) : b < w.heap.size := World.block_lt_of_cell? w _ h
theorem K87.refl (b : Nat) (w : World) : K87 b w w := fun tv h => ⟨⟨tv, h, fun _ h => Or.inl h⟩, fun _ _ _ h _ => h⟩
theorem K87.trans {b : Nat} {w w1 w2 : World} (hs : w.heap.size ≤ w1.heap.size) (h : K87 b w w1) (k : K87 b w1 w2) : K87 b w w2 := by
 intro tv hc; obtain ⟨⟨tv1, hc1, g1⟩, r1⟩ := h tv hc; obtain ⟨⟨tv2, hc2, g2⟩, r2⟩ := k tv1 hc1; refine ⟨⟨tv2, hc2, fun g hg => ?_⟩, fun j cs fr hj hn => r2 j cs fr (r1 j cs fr hj hn) ?_⟩
 ·rcases g2 g hg with h1 | h1
  ·exact g1 g h1
  ·right; omega
 ·intro e; rcases g1 j e with h1 | h1
  ·exact hn h1
  ·have := lt_of_block hj; omega
theorem K87.ofBelow {b : Nat} {w w' : World} (h : Below w.heap.size w w') : K87 b w w' := fun tv hc =>
 ⟨⟨tv, (h.cell (p := ⟨b, 5, none⟩) (cell_blt hc)).trans hc, fun _ h => Or.inl h⟩, fun k _ _ hk _ => (h.block k (lt_of_block hk)).trans hk⟩
structure FrP (B b : Nat) (w w' : World) : Prop extends FrT B [126, 87] w w' where
 k7 : K87 b w w'
theorem FrP.refl (B b : Nat) (w : World) : FrP B b w w := ⟨FrT.refl _ _ _, K87.refl _ _⟩
theorem FrP.trans {B b : Nat} {w w1 w2 : World} (h : FrP B b w w1) (k : FrP B b w1 w2) : FrP B b w w2 := ⟨h.toFrT.trans k.toFrT, h.k7.trans h.size k.k7⟩
theorem FrP.ofBelow {B b : Nat} {w w' : World} (h : Below w.heap.size w w') (hB : B ≤ w.heap.size) : FrP B b w w' := ⟨FrT.ofBelow h hB, K87.ofBelow h⟩
theorem FrP.alloc {B b : Nat} {w w' : World} (h : FrP B b w w') (hB : B ≤ w'.heap.size) (o : Obj) : FrP B b w (w'.alloc o) :=
 h.trans (FrP.ofBelow ((Below.refl _ _).alloc (Nat.le_refl _) _) hB)
theorem FrP.setNew {B b : Nat} {w w' : World} (h : FrP B b w w') {k o : Nat} (hk : w.heap.size ≤ k) (hB : B ≤ w.heap.size) (v : Value) : FrP B b w (w'.setCell ⟨k, o, none⟩ v) := by
 refine ⟨h.toFrT.setNew hk hB v, fun tv hc => ?_⟩; obtain ⟨⟨tv', hc', g⟩, r⟩ := h.k7 tv hc; have hb := cell_blt hc; refine ⟨⟨tv', ?_, g⟩, fun j cs fr hj hn => ?_⟩
 ·rw [World.cell?_of_block (w := w') (blk_other v (by omega : b ≠ k))]; exact hc'
 ·have := lt_of_block hj; rw [blk_other v (by omega : j ≠ k)]; exact r j cs fr hj hn
theorem FrP.setOwn {B b : Nat} {w w' : World} (h : FrP B b w w') {o : Nat} {cs : Array Value} {fr : Nat × Nat} (hb : w'.heap[b]? = some (.cells cs 126 fr)) (hB : B ≤ b) (ho : o ≠ 5) (v : Value) : FrP B b w (w'.setCell ⟨b, o, none⟩ v) := by
 refine ⟨h.toFrT.setCell hb (by decide) hB v, fun tv hc => ?_⟩; obtain ⟨⟨tv', hc', g⟩, r⟩ := h.k7 tv hc; refine ⟨⟨tv', ?_, g⟩, fun j cs' fr' hj hn => ?_⟩
 ·rw [World.cell?_setCell_other _ _ _ _ (fun e => ho (congrArg Addr.off e))]; exact hc'
 ·have h1 := r j cs' fr' hj hn; have : j ≠ b := by
   intro e; subst e; rw [hb] at h1; simp at h1
  rw [blk_other v this]; exact h1
theorem frP_of_x {B : Nat} {s : ByteArray} {T : List Wk.Tok} {w w' : World} {b : Nat} {q : Wk.St} {nest : Int} {tv : Value} {mv : Bool} (h : RPx B s T w b q nest tv mv) (hf : Fr (ownX b tv) w w')
  (h5 : ∃ tv', w'.cell? ⟨b, 5, none⟩ = some tv' ∧ ∀ g, tv'.ownBlock = some g → tv.ownBlock = some g ∨ w.heap.size ≤ g) : FrP B b w w' := by
 refine ⟨frT_of_x h hf, fun tv0 hc => ?_⟩; obtain ⟨nk, nt, na, i, n, xs, h1, h2, h3, h4, _⟩ := h; have e : w.cell? ⟨b, 5, none⟩ = some tv := blk_cell h1 rfl; rw [e] at hc; cases hc; refine ⟨h5, fun k cs fr hk hn => (hf.block k (lt_of_block hk) ?_).trans hk⟩; rintro (e | e)
 ·subst e; rw [h1] at hk; simp [rpBlock] at hk
 ·exact hn e.symm
theorem Fr.then {M N : Nat → Prop} {a b c : World} (h : Fr M a b) (k : Fr N b c) (hn : ∀ i, N i → M i ∨ a.heap.size ≤ i) : Fr M a c :=
 ⟨k.os.trans h.os, k.tape.trans h.tape, k.output.trans h.output, Nat.le_trans h.size k.size, fun i hi hm => (k.block i (Nat.lt_of_lt_of_le hi h.size) (fun x => (hn i x).elim hm (by omega))).trans (h.block i hi hm)⟩
theorem owns_fr {M : Nat → Prop} {w w' : World} {base : Nat} {e : TypeId} {size : Nat} {v : Value} {n : Nat} {xs : List Value} (h : w.ownsRow base e size v n xs) (hf : Fr M w w') (hm : ∀ g, v.ownBlock = some g → ¬ M g) : w'.ownsRow base e size v n xs := by
 refine ⟨h.1, ?_⟩; rcases h.2 with hn | ⟨g, cap, cur, rfl, hb, hgg, rest⟩
 ·exact .inl hn
 ·exact .inr ⟨g, cap, cur, rfl, hb, (hf.block g (lt_of_block hgg) (hm g rfl)).trans hgg, rest⟩
theorem RPx.fr {M : Nat → Prop} {B : Nat} {s : ByteArray} {T : List Wk.Tok} {w w' : World} {b : Nat} {q : Wk.St} {nest : Int} {tv : Value} {mv : Bool} (h : RPx B s T w b q nest tv mv) (hf : Fr M w w') (hb : ¬ M b) (hm : ∀ g, tv.ownBlock = some g → ¬ M g) : RPx B s T w' b q nest tv mv := by
 obtain ⟨nk, nt, na, i, n, xs, h1, h2, h3, h4, h5⟩ := h; exact ⟨nk, nt, na, i, n, xs, (hf.block b (lt_of_block h1) hb).trans h1, h2, owns_fr h3 hf hm, h4, h5⟩
theorem Fr.set3 (w : World) (b : Nat) (x y z : Value) : Fr (fun k => k = b) w (((w.setCell ⟨b, 0, none⟩ x).setCell ⟨b, 1, none⟩ y).setCell ⟨b, 2, none⟩ z) :=
 ((Fr.setCell (fun k => k = b) _ _ _ rfl).trans (Fr.setCell (fun k => k = b) _ _ _ rfl)).trans (Fr.setCell (fun k => k = b) _ _ _ rfl)
theorem RPx.below {B : Nat} {s : ByteArray} {T : List Wk.Tok} {w w' : World} {b : Nat} {q : Wk.St} {nest : Int} {tv : Value} {mv : Bool} (h : RPx B s T w b q nest tv mv) (hb : Below w.heap.size w w') : RPx B s T w' b q nest tv mv := by
 obtain ⟨nk, nt, na, i, n, xs, h1, h2, h3, h4, h5⟩ := h; exact ⟨nk, nt, na, i, n, xs, (hb.block b (lt_of_block h1)).trans h1, h2, owns_below h3 hb, h4, h5⟩
theorem RP.below {B : Nat} {s : ByteArray} {T : List Wk.Tok} {w w' : World} {b : Nat} {q : Wk.St} {nest : Int} (h : RP B s T w b q nest) (hb : Below w.heap.size w w') : RP B s T w' b q nest := by
 obtain ⟨tv, h⟩ := h; exact ⟨tv, h.below hb⟩
theorem rp_cells {w : World} {b : Nat} {s : ByteArray} {q : Wk.St} {nest : Int} {nk : Nat} {nt : ByteArray} {na i : Nat} {tv : Value} (h : w.heap[b]? = some (rpBlock s q nest nk nt na i tv)) :
  w.cell? ⟨b, 0, none⟩ = some (.string s) ∧ w.cell? ⟨b, 1, none⟩ = some (.int .u8 nk) ∧ w.cell? ⟨b, 2, none⟩ = some (.string nt) ∧ w.cell? ⟨b, 3, none⟩ = some (.int .i64 na) ∧ w.cell? ⟨b, 4, none⟩ = some (.int .i64 i) ∧
  w.cell? ⟨b, 5, none⟩ = some tv ∧ w.cell? ⟨b, 6, none⟩ = some (.int .i64 (badI q)) ∧ w.cell? ⟨b, 7, none⟩ = some (.int .i64 nest) ∧ (∀ o, w.frozen? ⟨b, o, none⟩ = false) :=
 ⟨blk_cell h rfl, blk_cell h rfl, blk_cell h rfl, blk_cell h rfl, blk_cell h rfl, blk_cell h rfl, blk_cell h rfl, blk_cell h rfl, blk_free h⟩
theorem rp_bad {B : Nat} {s : ByteArray} {T : List Wk.Tok} {w : World} {b : Nat} {q : Wk.St} {nest : Int} {tv : Value} {mv : Bool} (hb : q.bad.isSome) (h : RPx B s T w b q nest tv mv) : RPx B s T w b q nest tv false := by
 obtain ⟨nk, nt, na, i, n, xs, h1, h2, h3, h4, h5⟩ := h; exact ⟨nk, nt, na, i, n, xs, h1, h2, h3, h4, fun e => by rw [e] at hb; cases hb⟩
def RPn (B : Nat) (s : ByteArray) (T : List Wk.Tok) (w w' : World) (b : Nat) (q : Wk.St) (nest : Int) (tv : Value) : Prop :=
 ∃ tv', RPx B s T w' b q nest tv' false ∧ (∀ g, tv'.ownBlock = some g → tv.ownBlock = some g ∨ w.heap.size ≤ g)
theorem RPn.rp {B : Nat} {s : ByteArray} {T : List Wk.Tok} {w w' : World} {b : Nat} {q : Wk.St} {nest : Int} {tv : Value} (h : RPn B s T w w' b q nest tv) : RP B s T w' b q nest := by
 obtain ⟨tv', h1, _⟩ := h; exact ⟨tv', h1⟩
theorem badI_none {q : Wk.St} (h : q.bad = none) : badI q = -1 := by simp [badI, h]
theorem badI_some {q : Wk.St} (h : q.bad.isSome) : 0 ≤ badI q := by
 unfold badI; cases hb : q.bad with
 | none => rw [hb] at h; cases h
 | some p => simp
theorem badI_fail {T : List Wk.Tok} {q : Wk.St} (h : q.bad = none) : badI (q.fail T) = (Wk.tokK T q.k).place := by
 simp [Wk.St.fail, badI, h]
theorem frP_of_n {B : Nat} {s : ByteArray} {T : List Wk.Tok} {w w' : World} {b : Nat} {q q' : Wk.St} {nest nest' : Int} {tv : Value} {mv : Bool} (h : RPx B s T w b q nest tv mv) (hn : RPn B s T w w' b q' nest' tv) (hf : Fr (ownX b tv) w w') : FrP B b w w' := by
 obtain ⟨tv', ⟨nk, nt, na, i, n, xs, h1, _⟩, g⟩ := hn; exact frP_of_x h hf ⟨tv', blk_cell h1 rfl, g⟩
theorem frP_of_s {B : Nat} {s : ByteArray} {T : List Wk.Tok} {w w' : World} {b : Nat} {q q' : Wk.St} {nest nest' : Int} {tv : Value} {mv mv' : Bool} (h : RPx B s T w b q nest tv mv) (hn : RPx B s T w' b q' nest' tv mv') (hf : Fr (ownX b tv) w w') : FrP B b w w' := by
 obtain ⟨nk, nt, na, i, n, xs, h1, _⟩ := hn; exact frP_of_x h hf ⟨tv, blk_cell h1 rfl, fun _ h => Or.inl h⟩
theorem r_failX (B : Nat) (s : ByteArray) (T : List Wk.Tok) (b : Nat) (q : Wk.St) (nest : Int) (tv : Value) (mv : Bool) (w : World) (h : RPx B s T w b q nest tv mv) :
  Calls Tryz.prog 46 #[.pointer (some ⟨b, 0, none⟩)] w fun e w' => e = .returned (.tuple #[]) ∧ RPx B s T w' b (q.fail T) nest tv mv ∧ Fr (fun k => k = b) w w' := by
 obtain ⟨nk, nt, na, i, n, xs, h1, h2, h3, h4, h5⟩ := h; obtain ⟨-, -, -, c3, -, -, c6, -, cf⟩ := rp_cells h1; have H1 : Hid _ := h1; have H3 : Hid _ := h3; have H5 : Hid _ := h5; clear h1 h3 h5; cases hb : q.bad with
 | none =>
  have hn := H5.out hb; rw [badI_none hb] at c6; have e3 : na = (Wk.tokK T q.k).place := hn.place; have HX : Hid (RPx B s T (w.setCell ⟨b, 6, none⟩ (.int .i64 na)) b (q.fail T) nest tv mv ∧ Fr (fun k => k = b) w (w.setCell ⟨b, 6, none⟩ (.int .i64 na))) := by
   refine ⟨⟨nk, nt, na, i, n, xs, ?_, h2, owns_other H3.out H1.out (by decide) _, h4, fun hx => ?_⟩, Fr.setCell _ _ _ _ rfl⟩
   ·rw [blk_set _ H1.out]; simp [rpBlock, badI_fail hb, e3]
   ·simp [Wk.St.fail, hb] at hx
  clear e3 hn hb; go_enter Tryz.func46, Tryz.ntmps46; go_wp2
  go_end0
  exact ⟨rfl, HX.out⟩
 | some p =>
  have hs : q.bad.isSome := by rw [hb]; rfl
  have h0 := badI_some hs; have HX : Hid (RPx B s T w b (q.fail T) nest tv mv) := by
   show RPx B s T w b (q.fail T) nest tv mv; rw [Wk.fail_bad T hs]; exact ⟨nk, nt, na, i, n, xs, H1.out, h2, H3.out, h4, H5.out⟩
  clear hb hs H1; generalize badI q = z at *
  go_enter Tryz.func46, Tryz.ntmps46; go_wp2
  go_end0
  exact ⟨rfl, HX.out, Fr.refl _ _⟩
theorem r_fail (B : Nat) (s : ByteArray) (T : List Wk.Tok) (b : Nat) (q : Wk.St) (nest : Int) (w : World) (h : RP B s T w b q nest) :
  Calls Tryz.prog 46 #[.pointer (some ⟨b, 0, none⟩)] w fun e w' => e = .returned (.tuple #[]) ∧ RP B s T w' b (q.fail T) nest ∧ FrP B b w w' := by
 obtain ⟨tv, h⟩ := h; refine (r_failX B s T b q nest tv false w h).mono ?_; rintro e w' ⟨rfl, h1, h2⟩; exact ⟨rfl, h1.rp, frP_of_s h h1 (h2.mono (fun k _ e => Or.inl e))⟩
structure Spelt (T : List Wk.Tok) : Prop where
 text : ∀ k, k < T.length → 6 ≤ (Wk.tokK T k).kind → (Wk.tokK T k).text.data.toList = spellOf (Wk.tokK T k).kind
 le : ∀ k, k < T.length → (Wk.tokK T k).kind ≤ 41
theorem spell_inj : ∀ a : Fin 42, ∀ b : Fin 42, 6 ≤ a.val → 6 ≤ b.val → spellOf a.val = spellOf b.val → a.val = b.val := by decide +kernel
theorem isK_text {T : List Wk.Tok} (hT : Spelt T) {k kd : Nat} (hk : k < T.length) (h6 : 6 ≤ kd) (h41 : kd ≤ 41) :
  ((rkind (Wk.tokK T k).kind false = 115 ∨ rkind (Wk.tokK T k).kind false = 107) ∧ (rtext (Wk.tokK T k) false).data.toList = spellOf kd) ↔ (Wk.tokK T k).kind = kd := by
 have hle := hT.le k hk; have htx := hT.text k hk; unfold rtext; generalize Wk.tokK T k = t at *
 constructor
 ·rintro ⟨h1, h2⟩; have h3 : 6 ≤ t.kind := by
   unfold rkind at h1; rcases Nat.lt_or_ge t.kind 6 with h | h
   ·exfalso; repeat' split at h1
    all_goals omega
   ·exact h
  rw [if_neg (by omega)] at h2; rw [htx h3] at h2; exact spell_inj ⟨t.kind, by omega⟩ ⟨kd, by omega⟩ h3 h6 h2
 ·intro e; subst e; have h1 : rkind t.kind false = 115 ∨ rkind t.kind false = 107 := by
   unfold rkind; repeat' split
   all_goals first | omega | simp
  refine ⟨h1, ?_⟩; rw [if_neg (by omega)]; exact htx h6
theorem r_is (B : Nat) (s : ByteArray) (T : List Wk.Tok) (hT : Spelt T) (b : Nat) (q : Wk.St) (nest : Int) (kd : Nat) (x : ByteArray) (w : World) (h : RP B s T w b q nest) (h6 : 6 ≤ kd := by decide) (h41 : kd ≤ 41 := by decide) (hx : x.data.toList = spellOf kd := by decide) :
  Calls Tryz.prog 71 #[.pointer (some ⟨b, 0, none⟩), .string x] w fun e w' => e = .returned (.bool (q.isK T kd)) ∧ w' = w := by
 obtain ⟨tv, nk, nt, na, i, n, xs, h1, h2, h3, h4, h5⟩ := h; obtain ⟨-, c1, c2, -, -, -, c6, -, -⟩ := rp_cells h1; clear h1 h3; cases hb : q.bad with
 | none =>
  have hn := h5 hb; rw [badI_none hb] at c6; have hiff := isK_text hT hn.lt h6 h41; rw [← hn.kind, ← hn.text, ← hx] at hiff; have hK : q.isK T kd = decide ((nk = 115 ∨ nk = 107) ∧ nt.data.toList = x.data.toList) := by
   rw [Bool.eq_iff_iff, Wk.isK_iff, decide_eq_true_eq]; exact ⟨fun h => hiff.2 h.2, fun h => ⟨hb, hiff.1 h⟩⟩
  have HK : Hid _ := hK; clear hK hiff hn h5 hb hx; go_enter Tryz.func71, Tryz.ntmps71; go_wp2
  all_goals
   go_ret; refine ⟨ret_bool ?_, rfl⟩; rw [HK.out]
  all_goals first
   | (rw [ByteArray.toList_eq, ByteArray.toList_eq, Bool.eq_iff_iff, beq_iff_eq, decide_eq_true_eq]; exact ⟨fun e => ⟨by omega, e⟩, fun e => e.2⟩)
   | (symm; rw [decide_eq_false_iff_not]; rintro ⟨h, _⟩; omega)
 | some p =>
  have hs : q.bad.isSome := by rw [hb]; rfl
  have h0 := badI_some hs; have HX : Hid (q.isK T kd = false) := Wk.isK_bad T hs kd; clear hb hs h5; generalize badI q = z at *
  go_enter Tryz.func71, Tryz.ntmps71; go_wp2
  go_ret; exact ⟨ret_bool HX.out.symm, rfl⟩
theorem Tryz.info87 : (Tryz.prog.info? 87).map (fun i => (i.zero, i.size, i.bytes)) = some (some (.agg #[.int .u8 0, .string ⟨#[]⟩, .int .i64 0]), 3, 32) := by kernel_rfl
theorem Tryz.und83 : Tryz.prog.underlying 83 = some (.slice 87) := by kernel_rfl
theorem grown_other {B : Nat} {w W w1 : World} {v : Value} {n : Nat} {xs : List Value} {e : TypeId} {size b : Nat} {cs : Array Value} {t : TypeId} {fr : Nat × Nat} (hown : w.ownsRow B e size v n xs) (hb : w.heap[b]? = some (.cells cs t fr)) (ht : t ≠ e) (hbel : Below w.heap.size w W) (hg : W.grownBy w1 v.ownBlock) : w1.heap[b]? = some (.cells cs t fr) := by
 have hlt := lt_of_block hb; have h1 : W.heap[b]? = some (.cells cs t fr) := (hbel.block b hlt).trans hb; refine (hg.block b (lt_of_block h1) ?_).trans h1; intro e'; rcases hown.2 with ⟨rfl, _⟩ | ⟨g, cap, cur, rfl, _, hgg, _⟩
 ·simp [Value.ownBlock] at e'
 ·simp [Value.ownBlock] at e'; subst e'; rw [hgg] at hb; cases hb; exact ht rfl
theorem toks_short (s : ByteArray) : ∀ f i, (Wk.toks s f i).length ≤ f + 1 := by
  intro f; induction f with
  | zero => intro i; simp [Wk.toks]
  | succ f ih => intro i; unfold Wk.toks; split
                 · simp
                 · have := ih (Wk.cut s i).stop; simp; omega
def takeS (T : List Wk.Tok) (mv : Bool) (q : Wk.St) : Wk.St :=
 if (Wk.tokK T q.k).kind ≤ 1 ∨ ((Wk.tokK T q.k).kind = 4 ∧ mv = false) then q.fail T else q.adv
theorem takeS_bad (T : List Wk.Tok) (mv : Bool) {q : Wk.St} (h : q.bad.isSome) : takeS T mv q = q := by
 unfold takeS; split
 ·exact Wk.fail_bad T h
 ·exact Wk.adv_bad h
theorem ownX_ge {B b k : Nat} {w : World} {tv : Value} {n : Nat} {xs : List Value} (h2 : B ≤ b) (h3 : w.ownsRow B 87 3 tv n xs) (h : ownX b tv k) : B ≤ k := by
 rcases h with h | h
 ·omega
 ·exact (h3.lt k h.symm).1
theorem follows_stop {s : ByteArray} {T : List Wk.Tok} (hF : Wk.Follows s 0 T) {k : Nat} (hk : k < T.length) (h2 : 2 ≤ (Wk.tokK T k).kind) : k + 1 < T.length ∧ (Wk.tokK T k).stop ≤ s.size ∧ Wk.cut s (Wk.tokK T k).stop = Wk.tokK T (k + 1) := by
 have h1 : k + 1 < T.length := by
  rcases Nat.lt_or_ge (k + 1) T.length with h | h
  ·exact h
  ·have := hF.shut.last k (by omega); omega
 refine ⟨h1, ?_, (hF.next k h1).symm⟩; cases k with
 | zero => rw [hF.first] at h2 ⊢; exact (Wk.cut_ok s _ h2).2.1
 | succ k => rw [hF.next k hk] at h2 ⊢; exact (Wk.cut_ok s _ h2).2.1
def TookA (B : Nat) (s : ByteArray) (w : World) (b : Nat) (q : Wk.St) (nest : Int) (nk : Nat) (nt : ByteArray) (na i : Nat) (tv : Value) (n : Nat) (xs : List Value) (wx : World) : Prop :=
 ∃ g cap, wx.heap[b]? = some (rpBlock s q nest nk nt na i (.slice (some ⟨g, 0, none⟩) (n + 1) cap)) ∧
  wx.ownsRow B 87 3 (.slice (some ⟨g, 0, none⟩) (n + 1) cap) (n + 1) (xs ++ [.int .u8 nk, .string nt, .int .i64 na]) ∧ Fr (ownX b tv) w wx ∧
  wx.heap[w.heap.size]? = some (.cells #[.int .u8 0, .string ⟨#[]⟩, .int .i64 0] 87 (0, 0)) ∧
  wx.heap[w.heap.size + 1]? = some (.cells #[.int .u8 nk, .string nt, .int .i64 na] 87 (0, 0)) ∧ g ≠ w.heap.size ∧ (tv.ownBlock = some g ∨ w.heap.size ≤ g)
theorem took_a {B : Nat} {s : ByteArray} {w : World} {b : Nat} {q : Wk.St} {nest : Int} {nk : Nat} {nt : ByteArray} {na i : Nat} {tv : Value} {n : Nat} {xs : List Value} {W w1 : World} {g cap H : Nat}
  (h3 : w.ownsRow B 87 3 tv n xs) (hlt : b < w.heap.size) (hW : Below w.heap.size w W)
  (t1 : W.heap[w.heap.size]? = some (.cells #[.int .u8 0, .string ⟨#[]⟩, .int .i64 0] 87 (0, 0))) (t2 : W.heap[w.heap.size + 1]? = some (.cells #[.int .u8 nk, .string nt, .int .i64 na] 87 (0, 0)))
  (ko : w1.ownsRow B 87 3 (.slice (some ⟨g, 0, none⟩) (n + 1) cap) (n + 1) (xs ++ [.int .u8 nk, .string nt, .int .i64 na])) (kg : W.grownBy w1 tv.ownBlock) (ka : tv.ownBlock = some g ∨ g = H) (hH : w.heap.size + 2 ≤ H)
  (kb : w1.heap[b]? = some (rpBlock s q nest nk nt na i tv)) :
  TookA B s w b q nest nk nt na i tv n xs (w1.setCell ⟨b, 5, none⟩ (.slice (some ⟨g, 0, none⟩) (n + 1) cap)) := by
 have hrow : ∀ k, tv.ownBlock = some k → k < w.heap.size := fun k hk => (World.ownsRow.lt h3 k hk).2
 have hnew : ∀ k, w.heap.size ≤ k → some k ≠ tv.ownBlock := fun k hk e => by have := hrow k e.symm; omega
 have hg2 : g ≠ w.heap.size ∧ g ≠ w.heap.size + 1 := by
  rcases ka with h | h
  ·have := hrow g h; omega
  ·omega
 refine ⟨g, cap, ?_, owns_other ko kb (by decide) _, ?_, ?_, ?_, hg2.1, ka.imp id (fun h => by omega)⟩
 ·rw [blk_set _ kb]; simp [rpBlock]
 ·have f1 : Fr (ownX b tv) w w1 := by
   refine ⟨kg.os.trans hW.os, kg.tape.trans hW.tape, kg.output.trans hW.output, Nat.le_trans hW.size kg.size, fun k hk hm => ?_⟩; exact (kg.block k (by have := hW.size; omega) (fun e => hm (Or.inr e))).trans (hW.block k hk)
  exact f1.trans (Fr.setCell _ _ _ _ (Or.inl rfl))
 ·rw [blk_other _ (by omega)]; exact (kg.block _ (lt_of_block t1) (hnew _ (by omega))).trans t1
 ·rw [blk_other _ (by omega)]; exact (kg.block _ (lt_of_block t2) (hnew _ (by omega))).trans t2
def takeEnd (T : List Wk.Tok) (mv : Bool) (q : Wk.St) (e : Ending) : Prop :=
 ∃ (nk : Nat) (nt : ByteArray) (na : Nat), e = .returned (.agg #[.int .u8 nk, .string nt, .int .i64 na]) ∧ nt.size ≤ 1000 ∧ (q.bad = none → nk = rkind (Wk.tokK T q.k).kind mv ∧ nt = rtext (Wk.tokK T q.k) mv ∧ na = (Wk.tokK T q.k).place)
theorem cut_a {s : ByteArray} {t : Wk.Tok} {wc w2 : World} {kk : Nat} (hb : Below wc.drew.heap.size wc.drew w2) (hk1 : kk ≤ s.size + 4) (hk2 : 2 ≤ t.kind → kk = t.stop) :
  ∃ nb kk' : Nat, Value.pointer (some ⟨w2.heap.size, 0, none⟩) = .pointer (some ⟨nb, 0, none⟩) ∧ Value.int .i64 kk = .int .i64 kk' ∧ kk' ≤ s.size + 4 ∧ Hid (2 ≤ t.kind → kk' = t.stop) ∧ wc.heap.size ≤ nb ∧
   Below wc.heap.size wc (w2.alloc (.cells #[.int .u8 (rkind t.kind false), .string (rtext t false), .int .i64 t.place] 87)) ∧
   (w2.alloc (.cells #[.int .u8 (rkind t.kind false), .string (rtext t false), .int .i64 t.place] 87)).heap[nb]? = some (.cells #[.int .u8 (rkind t.kind false), .string (rtext t false), .int .i64 t.place] 87 (0, 0)) := by
 have hb' : Below wc.heap.size wc w2 := ⟨hb.os, hb.tape, hb.output, hb.size, hb.block⟩
 exact ⟨w2.heap.size, kk, rfl, rfl, hk1, hk2, hb'.size, hb'.alloc hb'.size _, heap_alloc_new _ _⟩
theorem cut_b {s : ByteArray} {t : Wk.Tok} {wc w2 : World} {kk : Nat} (hb : Below (wc.alloc (.cells #[.int .u8 0, .string ⟨#[]⟩, .int .i64 0] 87)).drew.heap.size (wc.alloc (.cells #[.int .u8 0, .string ⟨#[]⟩, .int .i64 0] 87)).drew w2) (hk1 : kk ≤ s.size + 4) (hk2 : 2 ≤ t.kind → kk = t.stop) :
  ∃ nb kk' : Nat, Value.pointer (some ⟨wc.heap.size, 0, none⟩) = .pointer (some ⟨nb, 0, none⟩) ∧ Value.int .i64 kk = .int .i64 kk' ∧ kk' ≤ s.size + 4 ∧ Hid (2 ≤ t.kind → kk' = t.stop) ∧ wc.heap.size ≤ nb ∧
   Below wc.heap.size wc (((w2.setCell ⟨wc.heap.size, 0, none⟩ (.int .u8 (rkind t.kind false))).setCell ⟨wc.heap.size, 1, none⟩ (.string (rtext t false))).setCell ⟨wc.heap.size, 2, none⟩ (.int .i64 t.place)) ∧
   (((w2.setCell ⟨wc.heap.size, 0, none⟩ (.int .u8 (rkind t.kind false))).setCell ⟨wc.heap.size, 1, none⟩ (.string (rtext t false))).setCell ⟨wc.heap.size, 2, none⟩ (.int .i64 t.place)).heap[nb]? = some (.cells #[.int .u8 (rkind t.kind false), .string (rtext t false), .int .i64 t.place] 87 (0, 0)) := by
 have h1 : Below wc.heap.size wc (wc.alloc (.cells #[.int .u8 0, .string ⟨#[]⟩, .int .i64 0] 87)) := (Below.refl _ _).alloc (Nat.le_refl _) _; have hb' : Below (wc.alloc (.cells #[.int .u8 0, .string ⟨#[]⟩, .int .i64 0] 87)).heap.size (wc.alloc (.cells #[.int .u8 0, .string ⟨#[]⟩, .int .i64 0] 87)) w2 := ⟨hb.os, hb.tape, hb.output, hb.size, hb.block⟩
 have hsz : (wc.alloc (.cells #[.int .u8 0, .string ⟨#[]⟩, .int .i64 0] 87)).heap.size = wc.heap.size + 1 := by simp
 have hbk : w2.heap[wc.heap.size]? = some (.cells #[.int .u8 0, .string ⟨#[]⟩, .int .i64 0] 87 (0, 0)) := (hb'.block _ (by omega)).trans (heap_alloc_new _ _); refine ⟨wc.heap.size, kk, rfl, rfl, hk1, hk2, Nat.le_refl _, ((((h1.trans (hb'.mono (by omega))).setCell (by simp) _).setCell (by simp) _).setCell (by simp) _), ?_⟩; rw [blk_set _ (blk_set _ (blk_set _ hbk))]; simp
theorem rkind_free {k : Nat} {m : Bool} (h : ¬ (k = 4 ∧ m = false)) : rkind k m = rkind k true := by
 cases m with
 | true => rfl
 | false =>
  have h4 : k ≠ 4 := fun e => h ⟨e, rfl⟩
  unfold rkind; simp [h4]
theorem rtext_free {t : Wk.Tok} {m : Bool} (h : ¬ (t.kind = 4 ∧ m = false)) : rtext t m = rtext t true := by unfold rtext; rw [rkind_free h]
theorem tok_text_le {s : ByteArray} {T : List Wk.Tok} (hF : Wk.Follows s 0 T) {k : Nat} (hk : k < T.length) : (Wk.tokK T k).text.size ≤ s.size := by
 have key : ∀ i, (Wk.cut s i).text.size ≤ s.size := by
  intro i; rcases Nat.lt_or_ge (Wk.cut s i).kind 2 with h | h
  ·have h' : (Wk.cut s i).text = ByteArray.empty := by
    revert h; unfold Wk.cut Wk.tokAt; have mk : ∀ kd j k', kd < 2 → kd = 1 → (Wk.mkTok s kd j k').text = ByteArray.empty := by
     intro kd j k' _ e; subst e; rfl
    have mk1 : ∀ kd j k', (Wk.mkTok s kd j k').kind < 2 → kd ≠ 0 → (Wk.mkTok s kd j k').text = ByteArray.empty := by
     intro kd j k' h h0; have h' : kd < 2 := h; exact mk kd j k' h' (by omega)
    split
    ·split
     ·intro h; refine mk1 _ _ _ h ?_; unfold Wk.letterKind; split
      ·decide
      ·split
       ·decide
       ·rename_i h1 h2; rcases speltIn_cases (s.extract (Wk.spanTo Wk.isSp s i) (Wk.spanTo Wk.isLow s (Wk.spanTo Wk.isSp s i))).data.toList Wk.spellings 6 with ⟨_, b⟩ | ⟨_, b, _⟩
        ·exact absurd b h2
        ·have : 6 ≤ Wk.spelt (s.extract (Wk.spanTo Wk.isSp s i) (Wk.spanTo Wk.isLow s (Wk.spanTo Wk.isSp s i))).data.toList := b; omega
     ·split
      ·intro h; refine mk1 _ _ _ h ?_; unfold Wk.digitKind; repeat' split
       all_goals decide
      ·split
       ·split
        ·intro h; exact mk1 _ _ _ h (by decide)
        ·intro h; exact mk1 _ _ _ h (by decide)
       ·split
        ·split
         ·intro h; exact mk1 _ _ _ h (by decide)
         ·intro h; exact mk1 _ _ _ h (by decide)
        ·rename_i hi _ _ _ _; intro h; refine mk1 _ _ _ h ?_; rcases speltIn_cases [s[Wk.spanTo Wk.isSp s i]'hi] Wk.spellings 6 with ⟨_, b⟩ | ⟨_, b, _⟩
         ·have : Wk.spelt [s[Wk.spanTo Wk.isSp s i]'hi] = 1 := b; omega
         ·have : 6 ≤ Wk.spelt [s[Wk.spanTo Wk.isSp s i]'hi] := b; omega
    ·intro _; rfl
   rw [h']; exact Nat.zero_le _
  ·have hc := Wk.cut_ok s i h; rw [hc.2.2.2.2]; simp; omega
 cases k with
 | zero => rw [hF.first]; exact key 0
 | succ k => rw [hF.next k hk]; exact key _
theorem rtext_le {s : ByteArray} {T : List Wk.Tok} (hF : Wk.Follows s 0 T) (hs : s.size ≤ 1000) {k : Nat} (hk : k < T.length) (m : Bool) : (rtext (Wk.tokK T k) m).size ≤ 1000 := by
 unfold rtext; split
 ·exact Nat.zero_le _
 ·have := tok_text_le hF hk; omega
theorem took_end {B : Nat} {s : ByteArray} {T : List Wk.Tok} {w W wx : World} {b : Nat} {q : Wk.St} {nest : Int} {nk : Nat} {nt : ByteArray} {na i : Nat} {tv : Value} {n : Nat} {xs : List Value} {g cap kk : Nat} {mv : Bool}
  (hF : Wk.Follows s 0 T) (hss : s.size ≤ 1000) (hn : RN T q mv nk nt na i n xs) (hq : q.bad = none) (hk2 : 2 ≤ (Wk.tokK T q.k).kind) (hk4 : ¬ ((Wk.tokK T q.k).kind = 4 ∧ mv = false)) (h2 : B ≤ b) (hlt : b < w.heap.size)
  (kb : W.heap[b]? = some (rpBlock s q nest nk nt na i (.slice (some ⟨g, 0, none⟩) (n + 1) cap)))
  (ko : W.ownsRow B 87 3 (.slice (some ⟨g, 0, none⟩) (n + 1) cap) (n + 1) (xs ++ [.int .u8 nk, .string nt, .int .i64 na])) (kf : Fr (ownX b tv) w W) (hg : g ≠ w.heap.size) (hgn : tv.ownBlock = some g ∨ w.heap.size ≤ g)
  (hbx : Below W.heap.size W wx) (hK : 2 ≤ (Wk.tokK T (q.k + 1)).kind → kk = (Wk.tokK T (q.k + 1)).stop) (x0 x1 x2 : Value) :
  RPn B s T w (((((((wx.setCell ⟨b, 1, none⟩ (.int .u8 (rkind (Wk.tokK T (q.k + 1)).kind false))).setCell ⟨b, 2, none⟩ (.string (rtext (Wk.tokK T (q.k + 1)) false))).setCell ⟨b, 3, none⟩ (.int .i64 (Wk.tokK T (q.k + 1)).place)).setCell ⟨b, 4, none⟩ (.int .i64 kk)).setCell ⟨w.heap.size, 0, none⟩ x0).setCell ⟨w.heap.size, 1, none⟩ x1).setCell ⟨w.heap.size, 2, none⟩ x2) b q.adv nest tv ∧
  Fr (ownX b tv) w (((((((wx.setCell ⟨b, 1, none⟩ (.int .u8 (rkind (Wk.tokK T (q.k + 1)).kind false))).setCell ⟨b, 2, none⟩ (.string (rtext (Wk.tokK T (q.k + 1)) false))).setCell ⟨b, 3, none⟩ (.int .i64 (Wk.tokK T (q.k + 1)).place)).setCell ⟨b, 4, none⟩ (.int .i64 kk)).setCell ⟨w.heap.size, 0, none⟩ x0).setCell ⟨w.heap.size, 1, none⟩ x1).setCell ⟨w.heap.size, 2, none⟩ x2) := by
 have hbw := lt_of_block kb; have kb' : wx.heap[b]? = _ := (hbx.block b hbw).trans kb; have hne : b ≠ w.heap.size := by omega
 have hgb : g ≠ b := by
  intro e; rcases ko.2 with ⟨h, _⟩ | ⟨g', cap', cur, h, _, hgg, _⟩
  ·cases h
  ·cases h; rw [e, kb] at hgg; simp [rpBlock] at hgg
 have hfs : Fr (fun k => k = b ∨ k = w.heap.size) wx (((((((wx.setCell ⟨b, 1, none⟩ (.int .u8 (rkind (Wk.tokK T (q.k + 1)).kind false))).setCell ⟨b, 2, none⟩ (.string (rtext (Wk.tokK T (q.k + 1)) false))).setCell ⟨b, 3, none⟩ (.int .i64 (Wk.tokK T (q.k + 1)).place)).setCell ⟨b, 4, none⟩ (.int .i64 kk)).setCell ⟨w.heap.size, 0, none⟩ x0).setCell ⟨w.heap.size, 1, none⟩ x1).setCell ⟨w.heap.size, 2, none⟩ x2) :=
  ((((((Fr.setCell _ _ _ _ (Or.inl rfl)).trans (Fr.setCell _ _ _ _ (Or.inl rfl))).trans (Fr.setCell _ _ _ _ (Or.inl rfl))).trans (Fr.setCell _ _ _ _ (Or.inl rfl))).trans (Fr.setCell _ _ _ _ (Or.inr rfl))).trans (Fr.setCell _ _ _ _ (Or.inr rfl))).trans (Fr.setCell _ _ _ _ (Or.inr rfl))
 have hadv : q.adv = ⟨q.k + 1, none⟩ := by simp [Wk.St.adv, hq]
 have hfo := follows_stop hF hn.lt hk2; constructor
 ·refine ⟨.slice (some ⟨g, 0, none⟩) (n + 1) cap, ⟨rkind (Wk.tokK T (q.k + 1)).kind false, rtext (Wk.tokK T (q.k + 1)) false, (Wk.tokK T (q.k + 1)).place, kk, n + 1, xs ++ [.int .u8 nk, .string nt, .int .i64 na], ?_, h2, ?_, ?_, ?_⟩, fun g' hg' => by simp [Value.ownBlock] at hg'; subst hg'; exact hgn⟩
  ·rw [blk_other _ hne, blk_other _ hne, blk_other _ hne, blk_set _ (blk_set _ (blk_set _ (blk_set _ kb')))]; simp [rpBlock, badI_none hq, hadv, show badI ⟨q.k + 1, none⟩ = -1 from rfl]
  ·refine owns_fr (owns_below ko hbx) hfs ?_; intro g' hg'; simp [Value.ownBlock] at hg'; subst hg'; rintro (e | e)
   ·exact hgb e
   ·exact hg e
  ·exact ⟨by rw [hn.len]; omega, rtext_le hF hss hfo.1 false⟩
  ·intro _; rw [hadv]; refine ⟨hfo.1, rfl, rfl, rfl, hK, by rw [hn.len], ?_⟩; show _ = takenCells T (q.k + 1); rw [takenCells_succ, hn.cells]; unfold rcells; rw [hn.kind, hn.text, hn.place, rkind_free hk4, rtext_free hk4]
 ·exact (kf.then (Fr.ofBelow (M := fun _ => False) hbx) (fun k e => e.elim)).then hfs (fun k e => e.elim (fun e => Or.inl (Or.inl e)) (fun e => Or.inr (by omega)))
end Go.Proofs.YtbkaghlklkdmkaaGreatDoor
namespace Go.Proofs.YtbkaghlklkdmkaaGreatDoor
open Go.RowKit
attribute [local go_sem ↓] Go.wp_at_zero Go.wp_at_succ
theorem r_takeX (B : Nat) (s : ByteArray) (T : List Wk.Tok) (hF : Wk.Follows s 0 T) (hT1 : T.length ≤ s.size + 2) (b : Nat) (q : Wk.St) (nest : Int) (tv : Value) (mv : Bool) (w : World) (hG : Gl w) (hB : 12 ≤ B) (hs : s.size ≤ 1000) (hB2 : B ≤ w.heap.size) (h : RPx B s T w b q nest tv mv) :
  Calls Tryz.prog 72 #[.pointer (some ⟨b, 0, none⟩)] w fun e w' => takeEnd T mv q e ∧ RPn B s T w w' b (takeS T mv q) nest tv ∧ Fr (ownX b tv) w w' := by
 have h' := h; obtain ⟨nk, nt, na, i, n, xs, h1, h2, h3, h4, h5⟩ := h; obtain ⟨c0, c1, c2, c3, c4, c5, c6, c7, cf⟩ := rp_cells h1; have hlt := lt_of_block h1; have H1 : Hid _ := h1; have H3 : Hid _ := h3; have H5 : Hid _ := h5; have HR : Hid (RPx B s T w b q nest tv mv) := h'; clear h1 h3 h5 h'; cases hb : q.bad with
 | some p =>
  have hsm : q.bad.isSome := by rw [hb]; rfl
  have h0 := badI_some hsm; have HX : Hid (RPx B s T w b (takeS T mv q) nest tv false) := by
   show RPx B s T w b (takeS T mv q) nest tv false; rw [takeS_bad T mv hsm]; exact rp_bad hsm HR.out
  have HE : Hid (takeEnd T mv q (.returned (.agg #[.int .u8 nk, .string nt, .int .i64 na]))) := ⟨nk, nt, na, rfl, h4.2, fun hx => by rw [hb] at hx; cases hx⟩
  clear hb hsm H1; generalize badI q = z at *
  go_enter Tryz.func72, Tryz.ntmps72; go_wp2
  have hbel : ∀ x y, Below w.heap.size w ((w.alloc x).alloc y) := fun x y => ((Below.refl _ _).alloc (Nat.le_refl _) _).alloc (by simp) _
  refine bodyPost_ret (v := .agg #[.int .u8 nk, .string nt, .int .i64 na]) (by simp [results, Tryz.results72, go_sem]) rfl ⟨HE.out, ⟨tv, HX.out.below (hbel _ _), fun g hg => Or.inl hg⟩, Fr.ofBelow (hbel _ _)⟩
 | none =>
  have hn := H5.out hb; rw [badI_none hb] at c6; have hlk := hn.lt; have HE : Hid (takeEnd T mv q (.returned (.agg #[.int .u8 nk, .string nt, .int .i64 na]))) := ⟨nk, nt, na, rfl, h4.2, fun _ => ⟨hn.kind, hn.text, hn.place⟩⟩
  by_cases hkd : (Wk.tokK T q.k).kind ≤ 1 ∨ ((Wk.tokK T q.k).kind = 4 ∧ mv = false)
  ·have hnk : nk = 33 ∨ nk = 46 := by
    rw [hn.kind]; unfold rkind; rcases hkd with h | h
    ·have : (Wk.tokK T q.k).kind = 0 ∨ (Wk.tokK T q.k).kind = 1 := by omega
     rcases this with h | h <;> simp [h]
    ·simp [h.1, h.2]
   have HS : Hid (takeS T mv q = q.fail T) := by unfold takeS; exact if_pos hkd
   have hnk1 : (((nk : Int) == 33) = true) ∨ (((nk : Int) == 33) = false ∧ ((nk : Int) == 46) = true) := by
    rcases hnk with h | h <;> subst h <;> simp
   have HN : Hid _ := hn; have hfb : (q.fail T).bad.isSome = true := by unfold Wk.St.fail; simp [hb]
   have HFB : Hid ((q.fail T).bad.isSome = true) := hfb; clear hfb; clear hb hn hkd hnk; rcases hnk1 with hk1 | ⟨hk1, hk2⟩
   all_goals
    go_enter Tryz.func72, Tryz.ntmps72; go_wp2_with fail; refine (r_failX B s T b q nest tv mv _ (HR.out.below (((Below.refl _ _).alloc (Nat.le_refl _) _).alloc (by simp) _))).mono ?_; rintro e w2 ⟨rfl, hr2, hf2⟩; have t1 : w2.heap[w.heap.size]? = some (.cells #[.int .u8 0, .string ⟨#[]⟩, .int .i64 0] 87 (0, 0)) := (hf2.block _ (by simp; omega) (by omega)).trans (blk_alloc _ (heap_alloc_new w _)); have t2 : w2.heap[w.heap.size + 1]? = some (.cells #[.int .u8 nk, .string nt, .int .i64 na] 87 (0, 0)) := (hf2.block _ (by simp) (by omega)).trans (by
     have := heap_alloc_new (w.alloc (.cells #[.int .u8 0, .string ⟨#[]⟩, .int .i64 0] 87)) (.cells #[.int .u8 nk, .string nt, .int .i64 na] 87); simpa using this)
    have d0 := bc 0 t1 rfl; have d1 := bc 1 t1 rfl; have d2 := bc 2 t1 rfl; have df := blk_free t1; have e0 := bc 0 t2 rfl; have e1 := bc 1 t2 rfl; have e2 := bc 2 t2 rfl; have HF : Hid _ := hf2; have HR2 : Hid (RPx B s T w2 b (q.fail T) nest tv mv) := hr2; have T1 : Hid _ := t1; clear hf2 hr2 t1 t2 c0 c1 c2 c3 c4 c5 c6 c7 cf; go_wp2
    refine bodyPost_ret (v := .agg #[.int .u8 nk, .string nt, .int .i64 na]) (by simp [results, Tryz.results72, go_sem, d0, d1, d2]) rfl ⟨HE.out, ?_, ?_⟩
    ·rw [HS.out]; exact ⟨tv, rp_bad HFB.out (HR2.out.fr (Fr.set3 _ _ _ _ _) (by omega) (fun g hg => by have := (World.ownsRow.lt H3.out g hg).2; omega)), fun g hg => Or.inl hg⟩
    ·refine ((Fr.ofBelow (((Below.refl _ _).alloc (Nat.le_refl _) _).alloc (by simp) _)).then HF.out (fun k e => Or.inl (Or.inl e))).then (Fr.set3 _ _ _ _ _) (fun k e => Or.inr (by omega))
  ·have HS : Hid (takeS T mv q = q.adv) := by unfold takeS; exact if_neg hkd
   have hk2 : 2 ≤ (Wk.tokK T q.k).kind := by omega
   have hk4 : ¬ ((Wk.tokK T q.k).kind = 4 ∧ mv = false) := fun e => hkd (Or.inr e)
   have hnk1 : ((nk : Int) == 33) = false ∧ ((nk : Int) == 46) = false := by
    rw [hn.kind, rkind_free hk4]; generalize (Wk.tokK T q.k).kind = z at *
    unfold rkind; constructor; all_goals
     repeat' split
     all_goals first | rfl | omega | simp_all
   obtain ⟨hk33, hk46⟩ := hnk1; have hi := hn.stop hk2; have HN : Hid _ := hn; have HI : Hid _ := hi; have HQ : Hid _ := hb; clear hb hn hkd hi; obtain ⟨i0, hi0, hz0, hz1, hz2⟩ := info_parts Tryz.info87; go_enter Tryz.func72, Tryz.ntmps72; go_upto_region 7 with fail; have HO : Hid (∀ W, Below w.heap.size w W → W.ownsRow B 87 3 tv n xs) := fun W hb => owns_below H3.out hb
   have HGB : Hid (∀ W w1, Below w.heap.size w W → W.grownBy w1 tv.ownBlock → w1.heap[b]? = some (rpBlock s q nest nk nt na i tv)) := fun W w1 hb hg => grown_other H3.out H1.out (by decide) hb hg
   have HGN : Hid (∀ (W w1 : World) (k : Nat) (o : Obj), w.heap.size ≤ k → W.heap[k]? = some o → W.grownBy w1 tv.ownBlock → w1.heap[k]? = some o) := fun W w1 k o hk hw hg =>
    (hg.block k (lt_of_block hw) (fun e => by have := (World.ownsRow.lt H3.out k e.symm).2; omega)).trans hw
   have hln : n ≤ 1002 := by
    have := hT1; omega
   have hsz2 : ∀ x y, ((w.alloc x).alloc y).heap.size = w.heap.size + 2 := by intro x y; simp
   generalize hW2 : (w.alloc (Obj.cells #[Value.int IntKind.u8 0, Value.string { data := #[] }, Value.int IntKind.i64 0] 87)).alloc (Obj.cells #[Value.int IntKind.u8 nk, Value.string nt, Value.int IntKind.i64 na] 87) = W2; have hwb : Below w.heap.size w W2 := by rw [← hW2]; exact ((Below.refl _ _).alloc (Nat.le_refl _) _).alloc (by simp) _
   have hws : W2.heap.size = w.heap.size + 2 := by rw [← hW2]; simp
   have t1 : W2.heap[w.heap.size]? = some (.cells #[.int .u8 0, .string ⟨#[]⟩, .int .i64 0] 87 (0, 0)) := by rw [← hW2]; exact blk_alloc _ (heap_alloc_new w _)
   have t2 : W2.heap[w.heap.size + 1]? = some (.cells #[.int .u8 nk, .string nt, .int .i64 na] 87 (0, 0)) := by
    rw [← hW2]; have := heap_alloc_new (w.alloc (.cells #[.int .u8 0, .string ⟨#[]⟩, .int .i64 0] 87)) (.cells #[.int .u8 nk, .string nt, .int .i64 na] 87); simpa using this
   clear hW2 hsz2 c0 c1 c2 c3 c4 c5 c6 c7 cf; obtain ⟨c0, c1, c2, c3, c4, c5, c6, c7, cf⟩ := rp_cells ((hwb.block b hlt).trans H1.out); have e0 := bc 0 t2 rfl; have e1 := bc 1 t2 rfl; have e2 := bc 2 t2 rfl; have HWB : Hid _ := hwb; have HWS : Hid _ := hws; have T1 : Hid _ := t1; have T2 : Hid _ := t2; have hw3 : w.heap.size < W2.heap.size := by omega
   have hbW : b < W2.heap.size := by omega
   clear hwb hws t1 t2; go_cut [] from 27 (fun wx => TookA B s w b q nest nk nt na i tv n xs wx)
   case first =>
    go_region_law ((refine step_append_lies _ (by rfl) (.tmp 31) (.tmp 33) 83 (by rfl) B 87 i0 _ 3 32 Tryz.und83 hi0 hz0 hz1 hz2 (by rfl) (by omega) tv n xs (by simp [Act.eval]) (HO.out _ (HWB.out.trans (by repeat (first | exact Below.refl _ _ | refine Below.drew ?_ | refine Below.alloc ?_ (by first | omega | (simp; omega)) _)))) ⟨W2.heap.size, 0, none⟩ 1 1 [.int .u8 nk, .string nt, .int .i64 na] (by simp [Act.eval]) (by rfl) (World.news_of_block (cs := #[.int .u8 nk, .string nt, .int .i64 na]) (heap_alloc_new _ _)) (by intro u hu; simp at hu; rcases hu with rfl | rfl | rfl <;> rfl) (by omega) (by unfold maxLen; omega) (by omega) (by simp; omega) (W2.heap.size + 1) (by simp) ?_; intro g cap w1 hown1 hgrow hat hltg; have kb := HGB.out _ _ (HWB.out.trans (by repeat (first | exact Below.refl _ _ | refine Below.drew ?_ | refine Below.alloc ?_ (by first | omega | (simp; omega)) _))) hgrow; obtain ⟨k0, -, -, -, k4, k5, -, -, kf⟩ := rp_cells kb; have KB : Hid (w1.heap[b]? = some (rpBlock s q nest nk nt na i tv)) := kb; have ko : Hid _ := hown1; have kg : Hid _ := hgrow; have ka : Hid _ := hat; clear hown1 hgrow kb hat))
    all_goals
     go_wp2_with fail; go_meet; exact took_a (W := (W2.alloc (Obj.cells #[Value.int IntKind.u8 nk, Value.string nt, Value.int IntKind.i64 na] 87)).drew) H3.out hlt (HWB.out.trans ((Below.refl _ _).alloc (by omega) _).drew) (blk_alloc _ T1.out) (blk_alloc _ T2.out) ko.out kg.out ka.out (by have := HWS.out; omega) KB.out
   case rest =>
    clear c0 c1 c2 c3 c4 c5 c6 c7 cf e0 e1 e2 HO HGB HGN hi0 hz0 hz1 hz2; obtain ⟨W3, hW3⟩ : ∃ W, W = wc := ⟨_, rfl⟩
    subst hW3; obtain ⟨g, cap, kb, ko, kf, t1, t2, hg1, hg2⟩ := hcut; obtain ⟨c0, c1, c2, c3, c4, c5, c6, c7, cf⟩ := rp_cells kb; have hbc := lt_of_block kb; have KB : Hid _ := kb; have KO : Hid _ := ko; have KF : Hid (Fr (ownX b tv) w W3) := kf; have T1 : Hid _ := t1; have T2 : Hid _ := t2; clear kb ko kf t1 t2; have hGc : Hid (Gl W3) := KF.out.gl (fun k hk e => by have := ownX_ge h2 H3.out e; omega) hG; have hGd : Hid (Gl W3.drew) := hGc.out.of (Nat.le_refl _) (fun _ _ => rfl); have hGa : Hid (∀ o, Gl (W3.alloc o).drew) := fun o => hGc.out.of (by show _ ≤ (W3.alloc o).heap.size; simp) (fun k hk => Below.heap_alloc W3 o k (by have := hGc.out.size; omega))
    have hstop : Hid (i ≤ s.size ∧ Wk.cut s i = Wk.tokK T (q.k + 1)) := by
     have := follows_stop hF HN.out.lt hk2; rw [HI.out]; exact this.2
    go_upto_region 8 with fail; go_cut [4, 5] from 37 (fun v4 v5 wx => ∃ (nb kk : Nat), v4 = .pointer (some ⟨nb, 0, none⟩) ∧ v5 = .int .i64 kk ∧ kk ≤ s.size + 4 ∧ Hid (2 ≤ (Wk.tokK T (q.k + 1)).kind → kk = (Wk.tokK T (q.k + 1)).stop) ∧ W3.heap.size ≤ nb ∧ Below W3.heap.size W3 wx ∧
     wx.heap[nb]? = some (.cells #[.int .u8 (rkind (Wk.tokK T (q.k + 1)).kind false), .string (rtext (Wk.tokK T (q.k + 1)) false), .int .i64 (Wk.tokK T (q.k + 1)).place] 87 (0, 0)))
    case first =>
     go_region_with ((go_at_call 45; refine (r_cut s i false _ hstop.out.1 hs (by first | exact hGd.out | exact hGc.out | exact hGa.out _)).mono ?_; rintro e w2 ⟨⟨kk, hk1, hk2, rfl⟩, hb2⟩; rw [hstop.out.2] at hk2 ⊢; have HK2 : Hid _ := hk2; have HB2 : Hid _ := hb2; obtain ⟨hbc2, hbf2⟩ := bcell hb2; unfold rtok; clear hk2 hb2))
     all_goals
      go_wp2_with fail; go_meet; first
       | exact cut_a HB2.out hk1 HK2.out
       | exact cut_b HB2.out hk1 HK2.out
    case rest =>
     clear c0 c1 c2 c3 c4 c5 c6 c7 cf; obtain ⟨nb, kk, rfl, rfl, hk1, HK, hnb, hbx, hnblk⟩ := hcut; have d1 := (hbx.block _ (lt_of_block T1.out)).trans T1.out; have d2 := (hbx.block _ (lt_of_block T2.out)).trans T2.out; have db := (hbx.block _ hbc).trans KB.out; have a0 := bc 0 hnblk rfl; have a1 := bc 1 hnblk rfl; have a2 := bc 2 hnblk rfl; have r0 := bc 0 d1 rfl; have r1 := bc 1 d1 rfl; have r2 := bc 2 d1 rfl; have rf := blk_free d1; have b0 := bc 0 d2 rfl; have b1 := bc 1 d2 rfl; have b2 := bc 2 d2 rfl; obtain ⟨-, c1, c2, c3, c4, -, -, -, cf⟩ := rp_cells db; have HX : Hid _ := took_end hF hs HN.out HQ.out hk2 hk4 h2 hlt KB.out KO.out KF.out hg1 hg2 hbx HK.out (.int .u8 nk) (.string nt) (.int .i64 na); have n1 : nb ≠ b := by omega
     have n2 : nb ≠ w.heap.size := by have := lt_of_block T1.out; omega
     have n3 : w.heap.size ≠ b := by omega
     have n4 : w.heap.size + 1 ≠ b := by omega
     clear hbx hnblk d1 d2 db; go_wp2_with fail; refine bodyPost_ret (v := .agg #[.int .u8 nk, .string nt, .int .i64 na]) (by simp [results, Tryz.results72, go_sem, r0, r1, r2]) rfl ⟨HE.out, ?_, ?_⟩
     ·rw [HS.out]; exact HX.out.1
     ·exact HX.out.2
structure RE (B : Nat) (s : ByteArray) (T : List Wk.Tok) : Prop where
 fol : Wk.Follows s 0 T
 spelt : Spelt T
 len : T.length ≤ s.size + 2
 base : 12 ≤ B
 short : s.size ≤ 1000
structure RW (B : Nat) (w : World) : Prop where
 gl : Gl w
 size : B ≤ w.heap.size
theorem RW.fr {B : Nat} {ts : List TypeId} {w w' : World} (h : RW B w) (hB : 12 ≤ B) (f : FrT B ts w w') : RW B w' := ⟨f.gl hB h.gl, Nat.le_trans h.size f.size⟩
theorem RW.below {B : Nat} {w w' : World} (h : RW B w) (f : Below w.heap.size w w') : RW B w' := ⟨h.gl.belowAll f, Nat.le_trans h.size f.size⟩
theorem r_take {B : Nat} {s : ByteArray} {T : List Wk.Tok} (E : RE B s T) (b : Nat) (q : Wk.St) (nest : Int) (w : World) (hw : RW B w) (h : RP B s T w b q nest) :
  Calls Tryz.prog 72 #[.pointer (some ⟨b, 0, none⟩)] w fun e w' => takeEnd T false q e ∧ RP B s T w' b (takeS T false q) nest ∧ FrP B b w w' := by
 obtain ⟨tv, h⟩ := h; refine (r_takeX B s T E.fol E.len b q nest tv false w hw.gl E.base E.short hw.size h).mono ?_; rintro e w' ⟨h1, h2, h3⟩; exact ⟨h1, h2.rp, frP_of_n h h2 h3⟩
theorem takeS_adv {T : List Wk.Tok} {q : Wk.St} {kd : Nat} (h : q.isK T kd = true) (h2 : 2 ≤ kd) (h4 : kd ≠ 4) (mv : Bool) : takeS T mv q = q.adv := by
 have hk := (Wk.isK_iff.1 h).2; unfold takeS; rw [hk, if_neg]; rintro (a | ⟨a, _⟩) <;> omega
end Go.Proofs.YtbkaghlklkdmkaaGreatDoor
