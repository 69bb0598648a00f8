/-
  The walks of the document's answer: letters, digits, the grammar's own words, numbers. What the walks share: what the package-level tables hold ('Gl'), what a call leaves as it was ('Fr'), small laws on worlds and strings. What a call leaves as it was, by the types of the blocks ('FrT'). The document's answer: small functions on places, lists of words, names. The document's answer: two types are the same.
-/
import Derived.Test.YtbkaghlklkdmkaaGreatDoorProg
import Derived.Test.YtbkaghlklkdmkaaGreatDoorMA
import Derived.WalkKit
import Derived.WalkSpells
import Derived.WalkLawsBesides
import Derived.Shelf.Unicode.DecodeSlow
import Derived.Deep.AppendLies
import Derived.Deep.QuietTactic
import Derived.BigQuiet
set_option maxRecDepth 100000
set_option maxHeartbeats 8000000
namespace Go.Proofs.YtbkaghlklkdmkaaGreatDoor
open Go.RowKit
def gramWords : List (List UInt8) :=
 [[97, 115, 107], [108, 101, 116], [116, 97, 98, 108, 101], [105, 110, 116], [98, 111, 111, 108], [111, 102], [117, 110, 105, 113, 117, 101], [102, 105, 114, 115, 116], [115, 117, 109], [99, 111, 117, 110, 116], [108, 101, 97, 115, 116], [109, 111, 115, 116], [110, 111, 116], [116, 114, 117, 101], [102, 97, 108, 115, 101], [105, 102], [116, 104, 101, 110], [101, 108, 115, 101], [111, 114], [97, 110, 100], [110, 117, 108, 108]]
def rowOf (l : List (List UInt8)) : Array Value := (l.map (fun x => Value.string ⟨x.toArray⟩)).toArray
theorem row_cell (w : World) (l : List (List UInt8)) (e : TypeId) (k : Nat) (h : k < l.length) :
  (w.alloc (Obj.cells (rowOf l) e)).cell? ⟨w.heap.size, k, none⟩ = some (.string ⟨(l.getD k []).toArray⟩) := by
 rw [cell_of_row _ _ _ _ _ _ (heap_alloc_new w _)]; simp [rowOf, h]
theorem speltIn_app (l : List UInt8) (ys : List (List UInt8)) : ∀ (xs : List (List UInt8)) (k : Nat), Wk.speltIn l (xs ++ ys) k = if l ∈ xs then Wk.speltIn l xs k else Wk.speltIn l ys (k + xs.length) := by
 intro xs; induction xs with
 | nil => intro k; simp
 | cons x xs ih =>
  intro k; by_cases h : x = l
  ·subst h; simp [Wk.speltIn]
  ·have h' : ¬ l = x := fun e => h e.symm
   rw [List.cons_append, Wk.speltIn, if_neg h, ih, Wk.speltIn, if_neg h]; have e : k + (x :: xs).length = k + 1 + xs.length := by rw [List.length_cons]; omega
   rw [e]; simp [h']
theorem speltIn_cases (l : List UInt8) : ∀ (xs : List (List UInt8)) (k : Nat), (l ∉ xs ∧ Wk.speltIn l xs k = 1) ∨ (l ∈ xs ∧ k ≤ Wk.speltIn l xs k ∧ Wk.speltIn l xs k < k + xs.length) := by
 intro xs; induction xs with
 | nil => intro k; left; simp [Wk.speltIn]
 | cons x xs ih =>
  intro k; by_cases h : x = l
  ·right; subst h; simp [Wk.speltIn]
  ·have h' : ¬ l = x := fun e => h e.symm
   rw [Wk.speltIn, if_neg h]; rcases ih (k + 1) with ⟨a, b⟩ | ⟨a, b, c⟩
   ·left; exact ⟨by simp [h', a], b⟩
   ·right; exact ⟨by simp [a], by omega, by rw [List.length_cons]; omega⟩
theorem mem_spelt (l : List UInt8) : gramWords.contains l = decide (6 ≤ Wk.spelt l ∧ Wk.spelt l ≤ 26) := by
 have hp : gramWords.Perm (Wk.spellings.take 21) := by decide
 have hs : Wk.spellings = Wk.spellings.take 21 ++ Wk.spellings.drop 21 := by simp
 have hl : (Wk.spellings.take 21).length = 21 := by decide
 have e : gramWords.contains l = decide (l ∈ Wk.spellings.take 21) := by
  rw [← List.elem_eq_contains, List.elem_eq_mem]; exact decide_eq_decide.2 hp.mem_iff
 rw [e]; apply decide_eq_decide.2; unfold Wk.spelt; rw [hs, speltIn_app, hl, ← hs]; split
 ·rename_i h; rcases speltIn_cases l (Wk.spellings.take 21) 6 with ⟨a, b⟩ | ⟨a, b, c⟩
  ·exact absurd h a
  ·rw [hl] at c; exact ⟨fun _ => by omega, fun _ => h⟩
 ·rename_i h; rcases speltIn_cases l (Wk.spellings.drop 21) (6 + 21) with ⟨a, b⟩ | ⟨a, b, c⟩
  ·rw [b]; exact ⟨fun x => absurd x h, fun x => by omega⟩
  ·exact ⟨fun x => absurd x h, fun x => by omega⟩
def isGram (l : List UInt8) : Bool := gramWords.contains l
theorem isGram_yes {l : List UInt8} {k : Nat} (hk : k < 21) (h : gramWords.getD k [] = l) : isGram l = true := by
 unfold isGram; have hk' : k < gramWords.length := hk; rw [List.contains_iff_mem, ← h, List.getD_eq_getElem?_getD, List.getElem?_eq_getElem hk']; exact List.getElem_mem hk'
theorem isGram_no {l : List UInt8} (h : ∀ j, j < 21 → gramWords.getD j [] ≠ l) : isGram l = false := by
 unfold isGram; rw [← Bool.not_eq_true, List.contains_iff_mem]; intro hm; obtain ⟨k, hk, e⟩ := List.getElem_of_mem hm; refine h k hk ?_; rw [List.getD_eq_getElem?_getD, List.getElem?_eq_getElem hk]; exact e
theorem ret_bool {a b : Bool} (h : a = b) : Ending.returned (.bool a) = .returned (.bool b) := by rw [h]
theorem r_grammar (s : ByteArray) (w : World) :
  Calls Tryz.prog 67 #[.string s] w fun e w' => e = .returned (.bool (isGram s.data.toList)) ∧ Below w.heap.size w w' := by
 go_enter Tryz.func67, Tryz.ntmps67; go_wp2
 have hc : ∀ k : Nat, k < 21 → (w.alloc (Obj.cells (rowOf gramWords) 9)).cell? ⟨w.heap.size, k, none⟩ = some (.string ⟨(gramWords.getD k []).toArray⟩) := fun k h => row_cell w gramWords 9 k h
 have hb : Below w.heap.size w (w.alloc (Obj.cells (rowOf gramWords) 9)) := (Below.refl _ _).alloc (Nat.le_refl _) _; have e : rowOf gramWords = #[Value.string { data := #[97, 115, 107] }, Value.string { data := #[108, 101, 116] }, Value.string { data := #[116, 97, 98, 108, 101] }, Value.string { data := #[105, 110, 116] }, Value.string { data := #[98, 111, 111, 108] }, Value.string { data := #[111, 102] }, Value.string { data := #[117, 110, 105, 113, 117, 101] }, Value.string { data := #[102, 105, 114, 115, 116] }, Value.string { data := #[115, 117, 109] }, Value.string { data := #[99, 111, 117, 110, 116] }, Value.string { data := #[108, 101, 97, 115, 116] }, Value.string { data := #[109, 111, 115, 116] }, Value.string { data := #[110, 111, 116] }, Value.string { data := #[116, 114, 117, 101] }, Value.string { data := #[102, 97, 108, 115, 101] }, Value.string { data := #[105, 102] }, Value.string { data := #[116, 104, 101, 110] }, Value.string { data := #[101, 108, 115, 101] }, Value.string { data := #[111, 114] }, Value.string { data := #[97, 110, 100] }, Value.string { data := #[110, 117, 108, 108] }] := rfl; rw [← e]; clear e; generalize w.alloc (Obj.cells (rowOf gramWords) 9) = W1 at *
 go_loop [4] (fun i => ∃ k : Nat, k ≤ 21 ∧ i = .int .i64 k ∧ Hid (∀ j, j < k → gramWords.getD j [] ≠ s.data.toList)) (fun i => 21 - (intOf i).toNat)
 case atStart => exact ⟨0, by omega, rfl, fun j h => by omega⟩
 case round =>
  obtain ⟨k, hk, rfl, hno⟩ := hrel; by_cases hlt : k < 21
  ·have hck := hc k hlt; clear hc; generalize hg : gramWords.getD k [] = g at *
   have HG : Hid (gramWords.getD k [] = g) := hg; clear hg; go_wp2
   ·have h1 : (g == s.toList) = true := by assumption
    go_ret; refine ⟨ret_bool ?_, hb⟩; rw [beq_iff_eq, ByteArray.toList_eq] at h1; exact (isGram_yes hlt (HG.out.trans h1)).symm
   ·have h1 : (g == s.toList) = false := by assumption
    go_round
    case rel =>
     refine ⟨k + 1, by omega, by go_num, ?_⟩; rw [beq_eq_false_iff_ne, ByteArray.toList_eq] at h1; intro j hj; rcases Nat.lt_or_ge j k with h2 | h2
     ·exact hno.out j h2
     ·have : j = k := by omega
      subst this; rw [HG.out]; exact h1
    case measure => simp [intOf]; omega
  ·go_wp2
   go_ret; have : k = 21 := by omega
   subst this; exact ⟨ret_bool (isGram_no hno.out).symm, hb⟩
theorem r_isLow (c : UInt8) (w : World) :
  Calls Tryz.prog 66 #[.int .u8 c.toNat] w fun e w' => e = .returned (.bool (Wk.isLow c)) ∧ w' = w := by
 go_enter Tryz.func66, Tryz.ntmps66; go_wp2
 all_goals
  go_ret; refine ⟨ret_bool ?_, rfl⟩; unfold Wk.isLow; rw [Bool.eq_iff_iff]; simp; omega
theorem r_isDigit (c : UInt8) (w : World) :
  Calls Tryz.prog 68 #[.int .u8 c.toNat] w fun e w' => e = .returned (.bool (Wk.isDig c)) ∧ w' = w := by
 go_enter Tryz.func68, Tryz.ntmps68; go_wp2
 all_goals
  go_ret; refine ⟨ret_bool ?_, rfl⟩; unfold Wk.isDig; rw [Bool.eq_iff_iff]; simp; omega
theorem head_of (s : ByteArray) (h : 0 < s.size) : s.data.toList.head? = some (s[0]'h) := by
 rw [List.head?_eq_getElem?, List.getElem?_eq_getElem (by simpa using h)]; rfl
theorem num_yes (s : ByteArray) (m : Bool) (hs : 0 < s.size) (h1 : 1 < s.size) (h2 : (s[0]'hs).toNat = 48) : Wk.numberB s.data.toList m = false := by
 unfold Wk.numberB; have hl : s.data.toList.length = s.size := by simp
 have : s[0]'hs = 48 := UInt8.toNat_inj.1 (by simpa using h2); rw [hl, head_of s hs, this, if_pos ⟨h1, rfl⟩]
theorem num_no (s : ByteArray) (m : Bool) (hs : 0 < s.size) (h : ¬ (1 < s.size ∧ (s[0]'hs).toNat = 48)) :
  Wk.numberB s.data.toList m = (decide (s.size < 19) || (decide (s.size = 19) && (Op.bytesLess s.toList (if m then Wk.greatText else Wk.mostText) || s.toList == (if m then Wk.greatText else Wk.mostText)))) := by
 unfold Wk.numberB; have hl : s.data.toList.length = s.size := by simp
 rw [ByteArray.toList_eq, hl, head_of s hs]; rw [if_neg]; rintro ⟨a, b⟩; refine h ⟨a, ?_⟩; have : s[0]'hs = 48 := by simpa using b
 rw [this]; rfl
theorem r_number (s : ByteArray) (m : Bool) (w : World) (hs : 0 < s.size) (hs2 : s.size ≤ 1000) :
  Calls Tryz.prog 69 #[.string s, .bool m] w fun e w' => e = .returned (.bool (Wk.numberB s.data.toList m)) ∧ w' = w := by
 by_cases hz : 1 < s.size ∧ (s[0]'hs).toNat = 48
 ·obtain ⟨h1, h2⟩ := hz; have h3 : ((s[0].toNat : Int) == 48) = true := beq_iff_eq.2 (by omega); have HN : Hid (Wk.numberB s.data.toList m = false) := num_yes s m hs h1 h2; clear h2; go_enter Tryz.func69, Tryz.ntmps69; go_wp2
  go_ret; exact ⟨ret_bool HN.out.symm, rfl⟩
 ·have HN : Hid (_ = _) := num_no s m hs hz; have hz2 : 1 < s.size → ((s[0].toNat : Int) == 48) = false := fun h => beq_eq_false_iff_ne.2 (by omega)
  clear hz; have key : ∀ b : Bool, (s.size < 19 → b = true) → (19 < s.size → b = false) → (s.size = 19 → b = (Op.bytesLess s.toList (if m then Wk.greatText else Wk.mostText) || s.toList == (if m then Wk.greatText else Wk.mostText))) → b = Wk.numberB s.data.toList m := by
   intro b h1 h2 h3; rw [HN.out]; rcases Nat.lt_trichotomy s.size 19 with h | h | h
   ·rw [h1 h]; simp [h]
   ·rw [h3 h]; simp [h]
   ·rw [h2 h]; have a : ¬ s.size < 19 := by omega
    have b : ¬ s.size = 19 := by omega
    simp [a, b]
  have KEY : Hid _ := key; clear key HN; rcases Nat.lt_or_ge 1 s.size with h1 | h1
  ·have h2 := hz2 h1; clear hz2; cases m; all_goals
    go_enter Tryz.func69, Tryz.ntmps69; go_wp2
    all_goals
     go_ret; refine ⟨ret_bool (KEY.out _ ?_ ?_ ?_), rfl⟩; all_goals intro hh
     all_goals first | rfl | (exfalso; omega) | (simp; omega)
  ·clear hz2; cases m; all_goals
    go_enter Tryz.func69, Tryz.ntmps69; go_wp2
    all_goals
     go_ret; refine ⟨ret_bool (KEY.out _ ?_ ?_ ?_), rfl⟩; all_goals intro hh
     all_goals first | rfl | (exfalso; omega) | (simp; omega)
def spellOf (k : Nat) : List UInt8 := if k < 6 then [] else Wk.spellings.getD (k - 6) []
def opOf (k : Nat) : Nat := [0, 0, 0, 0, 0, 0, 0, 0, 0, 0, 0, 0, 0, 0, 0, 0, 0, 0, 0, 0, 0, 0, 0, 0, 3, 4, 0, 8, 9, 10, 11, 6, 7].getD k 0
def takesOf (k : Nat) : Nat := [0, 0, 0, 2, 2, 2, 0, 1, 1, 1, 1, 1].getD k 0
def isOf (k : Nat) : Nat := [0, 0, 0, 2, 2, 2, 0, 2, 1, 1, 1, 1].getD k 0
structure Gl (w : World) : Prop where
 size : 12 ≤ w.heap.size
 utf : Lib.Utf8Tabs 1 2 w
 spell : ∀ k, k < 42 → w.cell? ⟨5, k, none⟩ = some (.string ⟨(spellOf k).toArray⟩)
 pol : ∀ k, k < 6 → w.cell? ⟨6, k, none⟩ = some (.int .i64 ((12 + k : Nat) : Int))
 ops : ∀ k, k < 33 → w.cell? ⟨8, k, none⟩ = some (.int .i64 (opOf k : Int))
 takes : ∀ k, k < 12 → w.cell? ⟨0, 2 * k, none⟩ = some (.int .i64 (takesOf k : Int))
 is_ : ∀ k, k < 12 → w.cell? ⟨0, 2 * k + 1, none⟩ = some (.int .i64 (isOf k : Int))
 errS : ∃ t v, w.cell? ⟨9, 0, none⟩ = some (.iface t v)
 errR : ∃ t v, w.cell? ⟨10, 0, none⟩ = some (.iface t v)
theorem Gl.of {w w' : World} (h : Gl w) (hs : w.heap.size ≤ w'.heap.size) (hb : ∀ k, k < 12 → w'.heap[k]? = w.heap[k]?) : Gl w' := by
 have hc : ∀ b o, b < 12 → w'.cell? ⟨b, o, none⟩ = w.cell? ⟨b, o, none⟩ := fun b o hlt => World.cell?_of_block (w := w) (hb b hlt)
 refine ⟨Nat.le_trans h.size hs, ⟨fun c hlt => (hc _ _ (by decide)).trans (h.utf.1 c hlt), fun i hlt => ⟨(hc _ _ (by decide)).trans (h.utf.2 i hlt).1, (hc _ _ (by decide)).trans (h.utf.2 i hlt).2⟩⟩,
  fun k hk => (hc _ _ (by decide)).trans (h.spell k hk), fun k hk => (hc _ _ (by decide)).trans (h.pol k hk), fun k hk => (hc _ _ (by decide)).trans (h.ops k hk),
  fun k hk => (hc _ _ (by decide)).trans (h.takes k hk), fun k hk => (hc _ _ (by decide)).trans (h.is_ k hk), ?_, ?_⟩
 ·obtain ⟨t, v, e⟩ := h.errS; exact ⟨t, v, (hc _ _ (by decide)).trans e⟩
 ·obtain ⟨t, v, e⟩ := h.errR; exact ⟨t, v, (hc _ _ (by decide)).trans e⟩
theorem Gl.below {w w' : World} {B : Nat} (h : Gl w) (hb : Below B w w') (hB : 12 ≤ B) : Gl w' := h.of hb.size (fun k hk => hb.block k (by omega))
theorem Gl.belowAll {w w' : World} (h : Gl w) (hb : Below w.heap.size w w') : Gl w' := h.below hb h.size
structure Fr (M : Nat → Prop) (w w' : World) : Prop where
 os : w'.os = w.os
 tape : w'.tape = w.tape
 output : w'.output = w.output
 size : w.heap.size ≤ w'.heap.size
 block : ∀ k, k < w.heap.size → ¬ M k → w'.heap[k]? = w.heap[k]?
theorem Fr.refl (M : Nat → Prop) (w : World) : Fr M w w := ⟨rfl, rfl, rfl, Nat.le_refl _, fun _ _ _ => rfl⟩
theorem Fr.trans {M : Nat → Prop} {a b c : World} (h : Fr M a b) (k : Fr M b c) : Fr M a c :=
 ⟨k.os.trans h.os, k.tape.trans h.tape, k.output.trans h.output, Nat.le_trans h.size k.size, fun i hi hm => (k.block i (Nat.lt_of_lt_of_le hi h.size) hm).trans (h.block i hi hm)⟩
theorem Fr.mono {M N : Nat → Prop} {w w' : World} (h : Fr M w w') (hm : ∀ k, k < w.heap.size → M k → N k) : Fr N w w' :=
 ⟨h.os, h.tape, h.output, h.size, fun k hk hn => h.block k hk (fun x => hn (hm k hk x))⟩
theorem Fr.ofBelow {M : Nat → Prop} {w w' : World} (h : Below w.heap.size w w') : Fr M w w' := ⟨h.os, h.tape, h.output, h.size, fun k hk _ => h.block k hk⟩
theorem Fr.below {M : Nat → Prop} {w w' : World} {B : Nat} (h : Fr M w w') (hB : B ≤ w.heap.size) (hm : ∀ k, k < B → ¬ M k) : Below B w w' :=
 ⟨h.os, h.tape, h.output, h.size, fun k hk => h.block k (by omega) (hm k hk)⟩
theorem Fr.setCell (M : Nat → Prop) (w : World) (a : Addr) (v : Value) (h : M a.block) : Fr M w (w.setCell a v) :=
 ⟨rfl, rfl, rfl, by simp [World.setCell], fun k _ hn => Below.heap_setCell _ _ _ _ (fun e => hn (by rw [e]; exact h))⟩
theorem Fr.gl {M : Nat → Prop} {w w' : World} (h : Fr M w w') (hm : ∀ k, k < 12 → ¬ M k) (g : Gl w) : Gl w' :=
 g.of h.size (fun k hk => h.block k (Nat.lt_of_lt_of_le hk g.size) (hm k hk))
theorem blk_cell {w : World} {b o : Nat} {cs : Array Value} {t : TypeId} {v : Value} (h : w.heap[b]? = some (.cells cs t (0, 0))) (hv : cs[o]? = some v) : w.cell? ⟨b, o, none⟩ = some v :=
 (cell_of_row w b o cs t (0, 0) h).trans hv
theorem bc {w : World} {b : Nat} (o : Nat) {cs : Array Value} {t : TypeId} {v : Value} (h : w.heap[b]? = some (.cells cs t (0, 0))) (hv : cs[o]? = some v) : w.cell? ⟨b, o, none⟩ = some v := blk_cell h hv
theorem blk_free {w : World} {b : Nat} {cs : Array Value} {t : TypeId} (h : w.heap[b]? = some (.cells cs t (0, 0))) (o : Nat) : w.frozen? ⟨b, o, none⟩ = false := by
 simp [World.frozen?, h]
theorem blk_set {w : World} {b o : Nat} {cs : Array Value} {t : TypeId} (u : Value) (h : w.heap[b]? = some (.cells cs t (0, 0))) : (w.setCell ⟨b, o, none⟩ u).heap[b]? = some (.cells (cs.setIfInBounds o u) t (0, 0)) := by
 simp [World.setCell, Array.getElem?_modify, h]
theorem blk_other {w : World} {b c o : Nat} (u : Value) (h : b ≠ c) : (w.setCell ⟨c, o, none⟩ u).heap[b]? = w.heap[b]? := Below.heap_setCell _ _ _ _ h
theorem blk_alloc {w : World} {b : Nat} {x : Obj} (o : Obj) (h : w.heap[b]? = some x) : (w.alloc o).heap[b]? = some x :=
 (Below.heap_alloc w o b (lt_of_block h)).trans h
theorem decode_tail (s : ByteArray) (k : Nat) : Utf8.decode (s.extract k s.size) 0 = Utf8.decode s k := by
 have g : ∀ j, (s.extract k s.size).get! j = s.get! (k + j) := by
  intro j; rw [Wk.get_list, Wk.get_list, Lib.extract_data]; have e : s.size = s.data.toList.length := by simp
  rw [e, List.take_of_length_le (by rw [List.length_drop]; omega)]; simp [List.getD_eq_getElem?_getD]
 have hz : (s.extract k s.size).size = s.size - k := by simp
 rw [Lib.decode_at, Lib.decode_at, g, g, g, g, hz]; simp
theorem decodeGo_tail (s : ByteArray) (k : Nat) (h : k < s.size) : Lib.decodeGo (s.extract k s.size) = Utf8.decode s k := by
 unfold Lib.decodeGo; have hz : (s.extract k s.size).size = s.size - k := by simp
 rw [hz, if_neg (by omega), decode_tail]
theorem bcell {W w1 : World} (hb : Below W.heap.size W w1) : (∀ b o, b < W.heap.size → w1.cell? ⟨b, o, none⟩ = W.cell? ⟨b, o, none⟩) ∧ (∀ b o, b < W.heap.size → w1.frozen? ⟨b, o, none⟩ = W.frozen? ⟨b, o, none⟩) :=
 ⟨fun b o h => hb.cell (p := ⟨b, o, none⟩) h, fun b o h => hb.frozen (p := ⟨b, o, none⟩) h⟩
def inTs (ts : List TypeId) : Obj → Prop
 | .cells _ t _ => t ∈ ts
 | _ => False
structure FrT (B : Nat) (ts : List TypeId) (w w' : World) : Prop where
 os : w'.os = w.os
 tape : w'.tape = w.tape
 output : w'.output = w.output
 size : w.heap.size ≤ w'.heap.size
 old : ∀ k, k < B → w'.heap[k]? = w.heap[k]?
 kept : ∀ (k : Nat) (o : Obj), w.heap[k]? = some o → ¬ inTs ts o → w'.heap[k]? = some o
theorem FrT.refl (B : Nat) (ts : List TypeId) (w : World) : FrT B ts w w := ⟨rfl, rfl, rfl, Nat.le_refl _, fun _ _ => rfl, fun _ _ h _ => h⟩
theorem FrT.trans {B : Nat} {ts : List TypeId} {a b c : World} (h : FrT B ts a b) (k : FrT B ts b c) : FrT B ts a c :=
 ⟨k.os.trans h.os, k.tape.trans h.tape, k.output.trans h.output, Nat.le_trans h.size k.size, fun i hi => (k.old i hi).trans (h.old i hi), fun i o ho hn => k.kept i o (h.kept i o ho hn) hn⟩
theorem FrT.ofBelow {B : Nat} {ts : List TypeId} {w w' : World} (h : Below w.heap.size w w') (hB : B ≤ w.heap.size) : FrT B ts w w' :=
 ⟨h.os, h.tape, h.output, h.size, fun k hk => h.block k (by omega), fun k o ho _ => (h.block k (lt_of_block ho)).trans ho⟩
theorem FrT.below {B : Nat} {ts : List TypeId} {w w' : World} (h : FrT B ts w w') : Below B w w' := ⟨h.os, h.tape, h.output, h.size, h.old⟩
theorem FrT.setCell {B : Nat} {ts : List TypeId} {w w' : World} (h : FrT B ts w w') {b o : Nat} {cs : Array Value} {t : TypeId} {fr : Nat × Nat} (hb : w'.heap[b]? = some (.cells cs t fr)) (ht : t ∈ ts) (hB : B ≤ b) (v : Value) : FrT B ts w (w'.setCell ⟨b, o, none⟩ v) := by
 refine h.trans ⟨rfl, rfl, rfl, by simp [World.setCell], fun k hk => Below.heap_setCell _ _ _ _ (by simp; omega), fun k x hx hn => ?_⟩; refine (Below.heap_setCell _ _ _ _ ?_).trans hx; intro e; apply hn; have e' : k = b := e; subst e'; rw [hb] at hx; cases hx; exact ht
theorem FrT.setNew {B : Nat} {ts : List TypeId} {w w' : World} (h : FrT B ts w w') {b o : Nat} (hb : w.heap.size ≤ b) (hB : B ≤ w.heap.size) (v : Value) : FrT B ts w (w'.setCell ⟨b, o, none⟩ v) := by
 refine ⟨h.os, h.tape, h.output, ?_, fun k hk => ?_, fun k x hx hn => ?_⟩
 ·have := h.size; simp [World.setCell]; exact this
 ·exact (Below.heap_setCell _ _ _ _ (by simp; omega)).trans (h.old k hk)
 ·have := lt_of_block hx; exact (Below.heap_setCell _ _ _ _ (by simp; omega)).trans (h.kept k x hx hn)
theorem FrT.grown {B : Nat} {ts : List TypeId} {w w' w'' : World} (h : FrT B ts w w') {e : TypeId} {size : Nat} {v : Value} {n : Nat} {xs : List Value} (hown : w'.ownsRow B e size v n xs) (hg : w'.grownBy w'' v.ownBlock) (he : e ∈ ts) (hB : B ≤ w'.heap.size) : FrT B ts w w'' := by
 refine h.trans ⟨hg.os, hg.tape, hg.output, hg.size, fun k hk => hg.block k (by omega) ?_, fun k o ho hn => (hg.block k (lt_of_block ho) ?_).trans ho⟩
 ·intro e'; have := (hown.lt k e'.symm).1; omega
 ·intro e'; rcases hown.2 with ⟨rfl, _⟩ | ⟨g, cap, cur, rfl, _, hgg, _⟩
  ·simp [Value.ownBlock] at e'
  ·simp [Value.ownBlock] at e'; subst e'; rw [hgg] at ho; cases ho; exact hn he
theorem FrT.gl {B : Nat} {ts : List TypeId} {w w' : World} (h : FrT B ts w w') (hB : 12 ≤ B) (g : Gl w) : Gl w' := g.of h.size (fun k hk => h.old k (by omega))
theorem owns_other {w : World} {base : Nat} {e : TypeId} {size : Nat} {v : Value} {n : Nat} {xs : List Value} (h : w.ownsRow base e size v n xs) {b o : Nat} {cs : Array Value} {t : TypeId} {fr : Nat × Nat} (hb : w.heap[b]? = some (.cells cs t fr)) (ht : t ≠ e) (u : Value) : (w.setCell ⟨b, o, none⟩ u).ownsRow base e size v n xs := by
 refine ownsRow_setCell_other h ?_ u; intro e'; rcases h.2 with ⟨rfl, _⟩ | ⟨g, cap, cur, rfl, _, hgg, _⟩
 ·simp [Value.ownBlock] at e'
 ·simp [Value.ownBlock] at e'; subst e'; rw [hgg] at hb; cases hb; exact ht rfl
theorem owns_below {w w' : World} {base : Nat} {e : TypeId} {size : Nat} {v : Value} {n : Nat} {xs : List Value} (h : w.ownsRow base e size v n xs) (hb : Below w.heap.size w w') : w'.ownsRow base e size v n xs := by
 refine h.kept (row := none) ⟨hb.os, hb.tape, hb.output, hb.size, fun k hk _ => hb.block k hk⟩ ?_; cases hv : v.ownBlock <;> simp
def leastI (a b : Int) : Int := if a < 0 ∨ (0 ≤ b ∧ b < a) then b else a
theorem ret_int {k : IntKind} {a b : Int} (h : a = b) : Ending.returned (.int k a) = .returned (.int k b) := by rw [h]
theorem r_least (a b : Int) (w : World) :
  Calls Tryz.prog 116 #[.int .i64 a, .int .i64 b] w fun e w' => e = .returned (.int .i64 (leastI a b)) ∧ w' = w := by
 by_cases h1 : a < 0
 ·have HX : Hid (leastI a b = b) := if_pos (Or.inl h1); go_enter Tryz.func116, Tryz.ntmps116; go_wp2
  all_goals
   go_ret; exact ⟨ret_int HX.out.symm, rfl⟩
 ·by_cases h2 : 0 ≤ b
  ·by_cases h3 : b < a
   ·have HX : Hid (leastI a b = b) := if_pos (Or.inr ⟨h2, h3⟩); go_enter Tryz.func116, Tryz.ntmps116; go_wp2
    all_goals
     go_ret; exact ⟨ret_int HX.out.symm, rfl⟩
   ·have HX : Hid (leastI a b = a) := if_neg (by omega); go_enter Tryz.func116, Tryz.ntmps116; go_wp2
    all_goals
     go_ret; exact ⟨ret_int HX.out.symm, rfl⟩
  ·have HX : Hid (leastI a b = a) := if_neg (by omega); go_enter Tryz.func116, Tryz.ntmps116; go_wp2
   all_goals
    go_ret; exact ⟨ret_int HX.out.symm, rfl⟩
def StrsAt (w : World) (v : Value) (l : List ByteArray) : Prop :=
 (l = [] ∧ ∃ ad c, v = .slice ad 0 c) ∨ (∃ g o c, v = .slice (some ⟨g, o, none⟩) l.length c ∧ ∀ j, j < l.length → w.cell? ⟨g, o + j, none⟩ = some (.string (l.getD j ByteArray.empty)))
theorem r_within (v : Value) (l : List ByteArray) (x : ByteArray) (w : World) (h : StrsAt w v l) (hl : l.length ≤ 1000) :
  Calls Tryz.prog 92 #[v, .string x] w fun e w' => e = .returned (.bool (l.any (fun y => y.data.toList == x.data.toList))) ∧ w' = w := by
 rcases h with ⟨rfl, ad, c, rfl⟩ | ⟨g, o, c, rfl, hc⟩
 ·go_enter Tryz.func92, Tryz.ntmps92; go_wp2
  refine wp_loop_rounds 1 ?_; rw [rounds_succ]; go_wp2
  go_ret; exact ⟨ret_bool rfl, rfl⟩
 ·generalize hR : l.any (fun y => y.data.toList == x.data.toList) = R; have HR : Hid (l.any (fun y => y.data.toList == x.data.toList) = R) := hR; clear hR; go_enter Tryz.func92, Tryz.ntmps92; go_wp2
  go_loop [5] (fun i => ∃ k : Nat, k ≤ l.length ∧ i = .int .i64 k ∧ Hid ((l.drop k).any (fun y => y.data.toList == x.data.toList) = R)) (fun i => l.length - (intOf i).toNat)
  case atStart => exact ⟨0, by omega, rfl, HR⟩
  case round =>
   obtain ⟨k, hk, rfl, HK⟩ := hrel; by_cases hlt : k < l.length
   ·have hck := hc k hlt; have HD : Hid ((l.drop k).any (fun y => y.data.toList == x.data.toList) = ((l.getD k ByteArray.empty).data.toList == x.data.toList || (l.drop (k + 1)).any (fun y => y.data.toList == x.data.toList))) := by
     show _ = _; rw [List.drop_eq_getElem_cons hlt, List.any_cons, List.getD_eq_getElem?_getD, List.getElem?_eq_getElem hlt]; rfl
    clear hc; generalize l.getD k ByteArray.empty = y at *
    go_wp2
    ·have h1 : (y.toList == x.toList) = true := by assumption
     go_ret; refine ⟨ret_bool ?_, rfl⟩; rw [← HK.out, HD.out, ← ByteArray.toList_eq, ← ByteArray.toList_eq, h1]; rfl
    ·have h1 : (y.toList == x.toList) = false := by assumption
     go_round
     case rel =>
      refine ⟨k + 1, by omega, by go_num, ?_⟩; show _ = _; rw [← HK.out, HD.out, ← ByteArray.toList_eq y, ← ByteArray.toList_eq x, h1, Bool.false_or]
     case measure => simp [intOf]; omega
   ·go_wp2
    go_ret; refine ⟨ret_bool ?_, rfl⟩; rw [← HK.out, List.drop_eq_nil_of_le (by omega)]; rfl
def findFrom (x : List UInt8) : List ByteArray → Nat → Int
 | [], _ => -1
 | y :: l, k => if y.data.toList = x then (k : Int) else findFrom x l (k + 1)
def NamesAt (w : World) (mb : Nat) (ns : List ByteArray) : Prop :=
 ∃ ib cap, w.cell? ⟨mb, 0, none⟩ = some (.slice (some ⟨ib, 0, none⟩) ns.length cap) ∧ ∀ j, j < ns.length → w.cell? ⟨ib, j * 14 + 2, none⟩ = some (.string (ns.getD j ByteArray.empty))
theorem r_find (mb : Nat) (ns : List ByteArray) (x : ByteArray) (n : Nat) (w : World) (h : NamesAt w mb ns) (hn : n ≤ ns.length) (hl : ns.length ≤ 1000) :
  Calls Tryz.prog 52 #[.pointer (some ⟨mb, 0, none⟩), .string x, .int .i64 n] w fun e w' => e = .returned (.int .i64 (findFrom x.data.toList (ns.take n) 0)) ∧ w' = w := by
 obtain ⟨ib, cap, hm, hc⟩ := h; generalize hR : findFrom x.data.toList (ns.take n) 0 = R; have HR : Hid (findFrom x.data.toList (ns.take n) 0 = R) := hR; clear hR; go_enter Tryz.func52, Tryz.ntmps52; go_wp2
 go_loop [7] (fun i => ∃ k : Nat, k ≤ n ∧ i = .int .i64 k ∧ Hid (findFrom x.data.toList ((ns.take n).drop k) k = R)) (fun i => n - (intOf i).toNat)
 case atStart => exact ⟨0, by omega, rfl, HR⟩
 case round =>
  obtain ⟨k, hk, rfl, HK⟩ := hrel; by_cases hlt : k < n
  ·have hkl : k < ns.length := by omega
   have hck := hc k hkl; have HD : Hid (findFrom x.data.toList ((ns.take n).drop k) k = if (ns.getD k ByteArray.empty).data.toList = x.data.toList then (k : Int) else findFrom x.data.toList ((ns.take n).drop (k + 1)) (k + 1)) := by
    show _ = _; have hlt2 : k < (ns.take n).length := by rw [List.length_take]; omega
    rw [List.drop_eq_getElem_cons hlt2, findFrom, List.getElem_take, List.getD_eq_getElem?_getD, List.getElem?_eq_getElem hkl]; rfl
   clear hc; generalize ns.getD k ByteArray.empty = y at *
   go_wp2
   ·have h1 : (y.toList == x.toList) = true := by assumption
    go_ret; refine ⟨ret_int ?_, rfl⟩; rw [beq_iff_eq, ByteArray.toList_eq, ByteArray.toList_eq] at h1; rw [← HK.out, HD.out, if_pos h1]
   ·have h1 : (y.toList == x.toList) = false := by assumption
    go_round
    case rel =>
     refine ⟨k + 1, by omega, by go_num, ?_⟩; show _ = _; rw [beq_eq_false_iff_ne, ByteArray.toList_eq, ByteArray.toList_eq] at h1; rw [← HK.out, HD.out, if_neg h1]
    case measure => simp [intOf]; omega
  ·go_wp2
   go_ret; refine ⟨ret_int ?_, rfl⟩; rw [← HK.out, List.drop_eq_nil_of_le (by rw [List.length_take]; omega)]; rfl
def rk (n : Nat) : Nat := if n = 1 then 105 else if n = 2 then 98 else if n = 3 then 119 else 0
def quo (x : List UInt8) : ByteArray := ⟨(34 :: (x ++ [34])).toArray⟩
theorem quo_inj {x y : List UInt8} (h : (quo x).data.toList = (quo y).data.toList) : x = y := by
 simp [quo] at h; exact h
def TyAt (w : World) (v : Value) (t : Wk.Ty) : Prop :=
 t.1 ≤ 3 ∧ t.2.length ≤ 6 ∧ (t.1 ≠ 3 → t.2 = []) ∧ ∃ ws, v = .agg #[.int .u8 (rk t.1), ws] ∧ StrsAt w ws (t.2.map quo)
theorem rk_inj {a b : Nat} (ha : a ≤ 3) (hb : b ≤ 3) (h : rk a = rk b) : a = b := by
 unfold rk at h; repeat' split at h
 all_goals omega
theorem cell_lt {w : World} {b o : Nat} {v : Value} (h : w.cell? ⟨b, o, none⟩ = some v) : b < w.heap.size := World.block_lt_of_cell? w _ h
theorem StrsAt.below {w w' : World} {v : Value} {l : List ByteArray} (h : StrsAt w v l) (hb : Below w.heap.size w w') : StrsAt w' v l := by
 rcases h with h | ⟨g, o, c, rfl, hc⟩
 ·exact Or.inl h
 ·exact Or.inr ⟨g, o, c, rfl, fun j hj => (hb.cell (p := ⟨g, o + j, none⟩) (cell_lt (hc j hj))).trans (hc j hj)⟩
def sameL : List ByteArray → List ByteArray → Bool
 | [], [] => true
 | x :: a, y :: b => (x.data.toList == y.data.toList) && sameL a b
 | _, _ => false
theorem sameL_iff (a : List (List UInt8)) : ∀ b, sameL (a.map quo) (b.map quo) = (a == b) := by
 induction a with
 | nil => intro b; cases b <;> rfl
 | cons x a ih =>
  intro b; cases b with
  | nil => rfl
  | cons y b =>
   simp only [List.map_cons, sameL, ih]; have e : ((quo x).data.toList == (quo y).data.toList) = (x == y) := by
    rw [Bool.eq_iff_iff, beq_iff_eq, beq_iff_eq]; exact ⟨quo_inj, fun h => by rw [h]⟩
   rw [e]; rfl
def sameFrom (a b : List ByteArray) (k : Nat) : Bool := sameL (a.drop k) (b.drop k)
theorem sameFrom_step {a b : List ByteArray} {k : Nat} (ha : k < a.length) (hb : k < b.length) :
  sameFrom a b k = (((a.getD k ByteArray.empty).data.toList == (b.getD k ByteArray.empty).data.toList) && sameFrom a b (k + 1)) := by
 unfold sameFrom; rw [List.drop_eq_getElem_cons ha, List.drop_eq_getElem_cons hb, List.getD_eq_getElem?_getD, List.getElem?_eq_getElem ha, List.getD_eq_getElem?_getD, List.getElem?_eq_getElem hb]; rfl
theorem sameFrom_end {a b : List ByteArray} {k : Nat} (ha : a.length ≤ k) (hb : b.length ≤ k) : sameFrom a b k = true := by
 unfold sameFrom; rw [List.drop_eq_nil_of_le ha, List.drop_eq_nil_of_le hb]; rfl
theorem r_same_loop (ka kb : Nat) (g1 o1 c1 g2 o2 c2 : Nat) (a b : List ByteArray) (w : World) (hk : ka = kb) (hl : a.length = b.length) (h0 : 0 < a.length) (h6 : a.length ≤ 6)
  (hc1 : ∀ j, j < a.length → w.cell? ⟨g1, o1 + j, none⟩ = some (.string (a.getD j ByteArray.empty))) (hc2 : ∀ j, j < b.length → w.cell? ⟨g2, o2 + j, none⟩ = some (.string (b.getD j ByteArray.empty))) :
  Calls Tryz.prog 117 #[.agg #[.int .u8 ka, .slice (some ⟨g1, o1, none⟩) a.length c1], .agg #[.int .u8 kb, .slice (some ⟨g2, o2, none⟩) b.length c2]] w fun e w' => e = .returned (.bool (sameFrom a b 0)) ∧ Below w.heap.size w w' := by
 have hg1 := cell_lt (hc1 0 h0); have hg2 := cell_lt (hc2 0 (by omega)); generalize hR : sameFrom a b 0 = R; have HR : Hid (sameFrom a b 0 = R) := hR; have hkk : ((ka : Int) != (kb : Int)) = false := by simp [hk]
 have HL : Hid (a.length = b.length) := hl; generalize hn2 : b.length = n at *
 have HN : Hid (a.length = n) := hl; have HN2 : Hid (b.length = n) := hn2; subst hk; clear hR hn2 HL; generalize hn1 : a.length = m at *
 have e : m = n := hl; subst e; have HN1 : Hid (a.length = m) := hn1; clear hl hn1 HN; go_enter Tryz.func117, Tryz.ntmps117; go_wp2
 have hbel : Below w.heap.size w ((w.alloc (Obj.cells #[Value.int IntKind.u8 ka, Value.slice (some { block := g1, off := o1 }) m c1] 104)).alloc (Obj.cells #[Value.int IntKind.u8 ka, Value.slice (some { block := g2, off := o2 }) m c2] 104)) := ((Below.refl _ _).alloc (Nat.le_refl _) _).alloc (by simp) _; have t1 : ((w.alloc (Obj.cells #[Value.int IntKind.u8 ka, Value.slice (some { block := g1, off := o1 }) m c1] 104)).alloc (Obj.cells #[Value.int IntKind.u8 ka, Value.slice (some { block := g2, off := o2 }) m c2] 104)).heap[w.heap.size]? = some (.cells #[.int .u8 ka, .slice (some ⟨g1, o1, none⟩) m c1] 104 (0, 0)) := blk_alloc _ (heap_alloc_new w _); have t2 : ((w.alloc (Obj.cells #[Value.int IntKind.u8 ka, Value.slice (some { block := g1, off := o1 }) m c1] 104)).alloc (Obj.cells #[Value.int IntKind.u8 ka, Value.slice (some { block := g2, off := o2 }) m c2] 104)).heap[w.heap.size + 1]? = some (.cells #[.int .u8 ka, .slice (some ⟨g2, o2, none⟩) m c2] 104 (0, 0)) := by
  have := heap_alloc_new (w.alloc (Obj.cells #[Value.int IntKind.u8 ka, Value.slice (some { block := g1, off := o1 }) m c1] 104)) (Obj.cells #[Value.int IntKind.u8 ka, Value.slice (some { block := g2, off := o2 }) m c2] 104); simpa using this
 generalize (w.alloc (Obj.cells #[Value.int IntKind.u8 ka, Value.slice (some { block := g1, off := o1 }) m c1] 104)).alloc (Obj.cells #[Value.int IntKind.u8 ka, Value.slice (some { block := g2, off := o2 }) m c2] 104) = W at *
 have d1 := bc 1 t1 rfl; have d2 := bc 1 t2 rfl; have hd1 : ∀ j, j < m → W.cell? ⟨g1, o1 + j, none⟩ = some (.string (a.getD j ByteArray.empty)) := fun j hj => (hbel.cell (p := ⟨g1, o1 + j, none⟩) hg1).trans (hc1 j hj)
 have hd2 : ∀ j, j < m → W.cell? ⟨g2, o2 + j, none⟩ = some (.string (b.getD j ByteArray.empty)) := fun j hj => (hbel.cell (p := ⟨g2, o2 + j, none⟩) hg2).trans (hc2 j hj)
 have HBEL : Hid _ := hbel; clear hc1 hc2 hbel t1 t2; go_loopw [5] (fun i wr => ∃ k nd : Nat, k ≤ m ∧ i = .int .i64 k ∧ wr = W.drewN nd ∧ Hid (sameFrom a b k = R)) (fun i _ => m - (intOf i).toNat)
 case atStart => exact ⟨0, 0, by omega, rfl, rfl, HR⟩
 case round =>
  obtain ⟨k, nd, hk, rfl, rfl, HK⟩ := hrel; by_cases hlt : k < m
  ·have e1 := hd1 k hlt; have e2 := hd2 k hlt; have HD : Hid _ := sameFrom_step (a := a) (b := b) (k := k) (by rw [HN1.out]; exact hlt) (by rw [HN2.out]; exact hlt); clear hd1 hd2; generalize a.getD k ByteArray.empty = x at *
   generalize b.getD k ByteArray.empty = y at *
   go_wp2
   go_quiet (fail)
   go_wp2
   ·have h1 : (!x.toList == y.toList) = true := by assumption
    go_ret; refine ⟨ret_bool ?_, below_drewN (below_drewN HBEL.out _) _⟩; have h2 : (x.data.toList == y.data.toList) = false := by rw [← ByteArray.toList_eq, ← ByteArray.toList_eq]; simpa using h1
    rw [← HK.out, HD.out, h2]; rfl
   ·have h1 : (!x.toList == y.toList) = false := by assumption
    go_roundw
    case rel =>
     refine ⟨k + 1, _, by omega, by go_num, rfl, ?_⟩; show _ = _; have h2 : (x.data.toList == y.data.toList) = true := by rw [← ByteArray.toList_eq, ← ByteArray.toList_eq]; simpa using h1
     rw [← HK.out, HD.out, h2, Bool.true_and]
    case measure => simp [intOf]; omega
  ·go_wp2
   go_ret; refine ⟨ret_bool ?_, below_drewN HBEL.out _⟩; rw [← HK.out, sameFrom_end (by rw [HN1.out]; omega) (by rw [HN2.out]; omega)]
theorem r_same_no (ka kb : Nat) (a1 a2 : Option Addr) (n1 n2 c1 c2 : Nat) (w : World) (h : ka ≠ kb ∨ n1 ≠ n2) :
  Calls Tryz.prog 117 #[.agg #[.int .u8 ka, .slice a1 n1 c1], .agg #[.int .u8 kb, .slice a2 n2 c2]] w fun e w' => e = .returned (.bool false) ∧ Below w.heap.size w w' := by
 have hbel : ∀ x y, Below w.heap.size w ((w.alloc x).alloc y) := fun x y => ((Below.refl _ _).alloc (Nat.le_refl _) _).alloc (by simp) _
 have HBEL : Hid _ := hbel; clear hbel; by_cases hk : ka = kb
 ·have hk1 : ((ka : Int) != (kb : Int)) = false := by simp [hk]
  have hn1 : ((n1 : Int) != (n2 : Int)) = true := by
   rw [bne_iff_ne]; rcases h with h | h
   ·exact absurd hk h
   ·omega
  clear h hk; go_enter Tryz.func117, Tryz.ntmps117; go_wp2
  go_ret; exact ⟨rfl, HBEL.out _ _⟩
 ·have hk1 : ((ka : Int) != (kb : Int)) = true := by rw [bne_iff_ne]; omega
  clear h hk; go_enter Tryz.func117, Tryz.ntmps117; go_wp2
  go_ret; exact ⟨rfl, HBEL.out _ _⟩
theorem r_same_none (ka kb : Nat) (a1 a2 : Option Addr) (c1 c2 : Nat) (w : World) (hk : ka = kb) :
  Calls Tryz.prog 117 #[.agg #[.int .u8 ka, .slice a1 0 c1], .agg #[.int .u8 kb, .slice a2 0 c2]] w fun e w' => e = .returned (.bool true) ∧ Below w.heap.size w w' := by
 have hbel : ∀ x y, Below w.heap.size w ((w.alloc x).alloc y) := fun x y => ((Below.refl _ _).alloc (Nat.le_refl _) _).alloc (by simp) _
 have HBEL : Hid _ := hbel; have hk1 : ((ka : Int) != (kb : Int)) = false := by simp [hk]
 clear hbel hk; go_enter Tryz.func117, Tryz.ntmps117; go_wp2
 refine wp_loop_rounds 1 ?_; rw [rounds_succ]; go_wp2
 go_ret; exact ⟨rfl, HBEL.out _ _⟩
theorem StrsAt.form {w : World} {v : Value} {l : List ByteArray} (h : StrsAt w v l) : ∃ ad c, v = .slice ad l.length c := by
 rcases h with ⟨rfl, ad, c, rfl⟩ | ⟨g, o, c, rfl, _⟩
 ·exact ⟨ad, c, rfl⟩
 ·exact ⟨_, c, rfl⟩
theorem r_sameType (va vb : Value) (a b : Wk.Ty) (w : World) (ha : TyAt w va a) (hb : TyAt w vb b) :
  Calls Tryz.prog 117 #[va, vb] w fun e w' => e = .returned (.bool (a == b)) ∧ Below w.heap.size w w' := by
 obtain ⟨ha3, ha6, _, wa, rfl, hwa⟩ := ha; obtain ⟨hb3, hb6, _, wb, rfl, hwb⟩ := hb; have hla : (a.2.map quo).length = a.2.length := List.length_map _; have hlb : (b.2.map quo).length = b.2.length := List.length_map _; by_cases hk : a.1 = b.1
 ·by_cases hl : a.2.length = b.2.length
  ·have hfin : (a == b) = sameFrom (a.2.map quo) (b.2.map quo) 0 := by
    show (a == b) = sameL (a.2.map quo) (b.2.map quo); rw [sameL_iff]; show (a.1 == b.1 && a.2 == b.2) = _; rw [hk]; simp
   rw [hfin]; by_cases h0 : 0 < a.2.length
   ·rcases hwa with ⟨e, _⟩ | ⟨g1, o1, c1, rfl, hc1⟩
    ·rw [e] at hla; simp at hla; omega
    ·rcases hwb with ⟨e, _⟩ | ⟨g2, o2, c2, rfl, hc2⟩
     ·rw [e] at hlb; simp at hlb; omega
     ·exact r_same_loop (rk a.1) (rk b.1) g1 o1 c1 g2 o2 c2 _ _ w (by rw [hk]) (by omega) (by omega) (by omega) hc1 hc2
   ·have e1 : a.2 = [] := List.length_eq_zero_iff.1 (by omega); have e2 : b.2 = [] := List.length_eq_zero_iff.1 (by omega); obtain ⟨ad, c, rfl⟩ := hwa.form; obtain ⟨bd, d, rfl⟩ := hwb.form; rw [e1, e2]; exact r_same_none (rk a.1) (rk b.1) ad bd c d w (by rw [hk])
  ·have hfin : (a == b) = false := by
    rw [beq_eq_false_iff_ne]; intro e; rw [e] at hl; exact hl rfl
   rw [hfin]; obtain ⟨ad, c, rfl⟩ := hwa.form; obtain ⟨bd, d, rfl⟩ := hwb.form; exact r_same_no (rk a.1) (rk b.1) ad bd _ _ c d w (Or.inr (by omega))
 ·have hfin : (a == b) = false := by
   rw [beq_eq_false_iff_ne]; intro e; rw [e] at hk; exact hk rfl
  rw [hfin]; obtain ⟨ad, c, rfl⟩ := hwa.form; obtain ⟨bd, d, rfl⟩ := hwb.form; exact r_same_no (rk a.1) (rk b.1) ad bd _ _ c d w (Or.inl (fun e => hk (rk_inj ha3 hb3 e)))
end Go.Proofs.YtbkaghlklkdmkaaGreatDoor
