/-
  The parser of the document's answer: value. The parser of the document's answer: what a step leaves, in one word ('IN').
-/
import Derived.Test.YtbkaghlklkdmkaaGreatDoorME4
set_option maxRecDepth 100000
set_option maxHeartbeats 8000000
namespace Go.Proofs.YtbkaghlklkdmkaaGreatDoor
open Go.RowKit
section
variable {B : Nat} {s : ByteArray} {T : List Wk.Tok}
def isVal (T : List Wk.Tok) (q : Wk.St) : Bool := q.isIn T [28, 3, 5, 18, 19]
def leaf (op x : ByteArray) (na : Nat) : Value := .agg #[.string op, .string x, .int .i64 na, .slice none 0 0]
def valTree (v : Wk.PVal) (t : Value) : Prop :=
 ∃ (op x : ByteArray) (na : Nat), t = leaf op x na ∧
  ((v.1 = 1 ∧ op = ⟨#[48]⟩) ∨ (v.1 = 2 ∧ (op = ⟨#[116]⟩ ∨ op = ⟨#[102]⟩)) ∨ (v.1 = 3 ∧ op = ⟨#[119]⟩ ∧ v.2 = Wk.unq x ∧ ∃ k, k < T.length ∧ (Wk.tokK T k).kind = 5 ∧ x = (Wk.tokK T k).text))
def valueEnd (T : List Wk.Tok) (q : Wk.St) (e : Ending) : Prop :=
 ∃ t, e = .returned (.tuple #[t, .bool (isVal T q)]) ∧ (∃ op x na, t = leaf op x na) ∧ (isVal T q = true → (Wk.pValue T q).1.bad = none → valTree (T := T) (Wk.pValue T q).2 t)
def valueS (T : List Wk.Tok) (q : Wk.St) : Wk.St := if isVal T q then (Wk.pValue T q).1 else q
theorem r_value_bad (E : RE B s T) (b : Nat) (q : Wk.St) (nest : Int) (w : World) (h : RP B s T w b q nest) (hb : q.bad.isSome) :
  Calls Tryz.prog 180 #[.pointer (some ⟨b, 0, none⟩)] w fun e w' => valueEnd T q e ∧ RP B s T w' b (valueS T q) nest ∧ Below w.heap.size w w' := by
 have hV : isVal T q = false := Wk.isIn_bad T hb _; have HE : Hid (valueEnd T q (.returned (.tuple #[leaf ⟨#[]⟩ ⟨#[]⟩ 0, .bool false]))) := ⟨_, by rw [hV], ⟨_, _, _, rfl⟩, fun h => by rw [hV] at h; cases h⟩
 have HS : Hid (valueS T q = q) := by unfold valueS; rw [hV]; rfl
 have K28 := Wk.isK_bad T hb 28; have K18 := Wk.isK_bad T hb 18; have K19 := Wk.isK_bad T hb 19; have HR : Hid (RP B s T w b q nest) := h; obtain ⟨tv, nk, nt, na, i, n, xs, h1, h2, h3, h4, h5⟩ := h; obtain ⟨-, c1, c2, c3, -, -, c6, -, -⟩ := rp_cells h1; have h0 := badI_some hb; have hlt := lt_of_block h1; clear h1 h3 h5 hV; generalize badI q = z at *
 go_enter Tryz.func180, Tryz.ntmps180; go_wp2_with fail; have hbel : ∀ x y, Below w.heap.size w ((w.alloc x).alloc y) := fun x y => ((Below.refl _ _).alloc (Nat.le_refl _) _).alloc (by simp) _
 refine (r_is B s T E.spelt b q nest 28 ⟨#[45]⟩ _ (HR.out.below (hbel _ _)) (by decide) (by decide) (by decide)).mono ?_; rintro e w1 ⟨rfl, hw1⟩; rw [hw1, K28]; go_wp2_with fail; refine (r_is B s T E.spelt b q nest 18 ⟨#[116, 114, 117, 101]⟩ _ (HR.out.below (hbel _ _)) (by decide) (by decide) (by decide)).mono ?_; rintro e w2 ⟨rfl, hw2⟩; rw [hw2, K18]; go_wp2_with fail; refine (r_is B s T E.spelt b q nest 19 ⟨#[102, 97, 108, 115, 101]⟩ _ (HR.out.below (hbel _ _)) (by decide) (by decide) (by decide)).mono ?_; rintro e w3 ⟨rfl, hw3⟩; rw [hw3, K19]; go_wp2_with fail; refine bodyPost_ret (v := .tuple #[leaf ⟨#[]⟩ ⟨#[]⟩ 0, .bool false]) (by simp [results, Tryz.results180, go_sem, leaf]) rfl ⟨HE.out, ?_, hbel _ _⟩; rw [HS.out]; exact HR.out.below (hbel _ _)
theorem isK_of {q : Wk.St} {z kd : Nat} (hb : q.bad = none) (hz : (Wk.tokK T q.k).kind = z) : q.isK T kd = decide (z = kd) := by
 simp [Wk.St.isK, hb, hz]; rfl
theorem rkind48 {k : Nat} (h : rkind k false = 48) : k = 3 := by
 unfold rkind at h; repeat' split at h
 all_goals first | omega | simp_all
theorem rkind34 {k : Nat} (h : rkind k false = 34) : k = 5 := by
 unfold rkind at h; repeat' split at h
 all_goals first | omega | simp_all
theorem r_value_no (E : RE B s T) (b : Nat) (q : Wk.St) (nest : Int) (w : World) (h : RP B s T w b q nest) (hb : q.bad = none) (hz : isVal T q = false) :
  Calls Tryz.prog 180 #[.pointer (some ⟨b, 0, none⟩)] w fun e w' => valueEnd T q e ∧ RP B s T w' b (valueS T q) nest ∧ Below w.heap.size w w' := by
 have hzz : ∀ kd, kd ∈ [28, 3, 5, 18, 19] → q.isK T kd = false := by
  intro kd hk; cases hx : q.isK T kd with
  | false => rfl
  | true =>
   have := Wk.isK_iff.1 hx; have : isVal T q = true := Wk.isIn_iff.2 ⟨hb, by rw [this.2]; exact hk⟩; rw [hz] at this; cases this
 have K28 := hzz 28 (by decide); have K18 := hzz 18 (by decide); have K19 := hzz 19 (by decide); have N3 := hzz 3 (by decide); have N5 := hzz 5 (by decide); have HE : Hid (valueEnd T q (.returned (.tuple #[leaf ⟨#[]⟩ ⟨#[]⟩ 0, .bool false]))) := ⟨_, by rw [hz], ⟨_, _, _, rfl⟩, fun h => by rw [hz] at h; cases h⟩
 have HS : Hid (valueS T q = q) := by unfold valueS; rw [hz]; rfl
 clear hzz hz; obtain ⟨tv, h⟩ := h; have HR : Hid (RPx B s T w b q nest tv false) := h; obtain ⟨nk, nt, na, i, n, xs, h1, h2, h3, h4, h5⟩ := h; have hn := h5 hb; obtain ⟨-, c1, c2, c3, -, -, c6, -, -⟩ := rp_cells h1; rw [badI_none hb] at c6; have hlt := lt_of_block h1; have hk48 : ((nk : Int) == 48) = false := by
  rw [hn.kind, beq_eq_false_iff_ne]; intro e; have e' := rkind48 (by omega : rkind (Wk.tokK T q.k).kind false = 48); rw [Wk.isK_iff.2 ⟨hb, e'⟩] at N3; cases N3
 have hk34 : ((nk : Int) == 34) = false := by
  rw [hn.kind, beq_eq_false_iff_ne]; intro e; have e' := rkind34 (by omega : rkind (Wk.tokK T q.k).kind false = 34); rw [Wk.isK_iff.2 ⟨hb, e'⟩] at N5; cases N5
 clear N3 N5; have HN : Hid _ := hn; have HB : Hid _ := hb; have H3 : Hid _ := h3; clear h1 h3 h5 hn hb; go_enter Tryz.func180, Tryz.ntmps180; go_wp2_with fail; have hbel : ∀ x y, Below w.heap.size w ((w.alloc x).alloc y) := fun x y => ((Below.refl _ _).alloc (Nat.le_refl _) _).alloc (by simp) _
 have HBEL : Hid _ := hbel; clear hbel; refine (r_is B s T E.spelt b q nest 28 ⟨#[45]⟩ _ (HR.out.below (HBEL.out _ _)).rp).mono ?_; rintro e w1 ⟨rfl, hw1⟩; rw [hw1, K28]; clear hw1; go_wp2_with fail; refine (r_is B s T E.spelt b q nest 18 ⟨#[116, 114, 117, 101]⟩ _ (HR.out.below (HBEL.out _ _)).rp).mono ?_; rintro e w2 ⟨rfl, hw2⟩; rw [hw2, K18]; clear hw2; go_wp2_with fail; refine (r_is B s T E.spelt b q nest 19 ⟨#[102, 97, 108, 115, 101]⟩ _ (HR.out.below (HBEL.out _ _)).rp).mono ?_; rintro e w3 ⟨rfl, hw3⟩; rw [hw3, K19]; clear hw3; go_wp2_with fail; refine bodyPost_ret (v := .tuple #[leaf ⟨#[]⟩ ⟨#[]⟩ 0, .bool false]) (by simp [results, Tryz.results180, go_sem, leaf]) rfl ⟨HE.out, ?_, HBEL.out _ _⟩; rw [HS.out]; exact (HR.out.below (HBEL.out _ _)).rp
theorem r_value_num (E : RE B s T) (b : Nat) (q : Wk.St) (nest : Int) (w : World) (hw : RW B w) (h : RP B s T w b q nest) (hb : q.bad = none) (hz : (Wk.tokK T q.k).kind = 3) :
  Calls Tryz.prog 180 #[.pointer (some ⟨b, 0, none⟩)] w fun e w' => valueEnd T q e ∧ RP B s T w' b (valueS T q) nest ∧ FrP B b w w' := by
 have K28 : q.isK T 28 = false := by rw [isK_of hb hz]; decide
 have K18 : q.isK T 18 = false := by rw [isK_of hb hz]; decide
 have K19 : q.isK T 19 = false := by rw [isK_of hb hz]; decide
 have KZ : Hid (q.isK T 3 = true) := by
  show _ = _; rw [isK_of hb hz]; decide
 have hV : isVal T q = true := Wk.isIn_iff.2 ⟨hb, by rw [hz]; decide⟩; have hP : (Wk.pValue T q) = (q.adv, (1, [])) := by
  unfold Wk.pValue; rw [isK_of hb hz, isK_of hb hz, isK_of hb hz, isK_of hb hz]; simp
 have HS : Hid (valueS T q = q.adv) := by unfold valueS; rw [hV, hP]; rfl
 have HZ : Hid _ := hz; obtain ⟨tv, h⟩ := h; have HR : Hid (RPx B s T w b q nest tv false) := h; obtain ⟨nk, nt, na, i, n, xs, h1, h2, h3, h4, h5⟩ := h; have hn := h5 hb; obtain ⟨-, c1, c2, c3, -, -, c6, -, -⟩ := rp_cells h1; rw [badI_none hb] at c6; have hlt := lt_of_block h1; have hk48 : ((nk : Int) == 48) = true := by rw [hn.kind, hz]; decide
 have hk34 : ((nk : Int) == 34) = false := by rw [hn.kind, hz]; decide
 have hpl := hn.place; have htx : nt = (Wk.tokK T q.k).text := by rw [hn.text]; unfold rtext; rw [hz]; rfl
 have HE : Hid (valueEnd T q (.returned (.tuple #[leaf ⟨#[48]⟩ nt na, .bool true]))) := ⟨_, by rw [hV], ⟨_, _, _, rfl⟩, fun _ _ => by
  rw [hP]; exact ⟨_, _, _, rfl, Or.inl ⟨rfl, rfl⟩⟩⟩
 clear hpl htx hP hV hz; have HN : Hid _ := hn; have HB : Hid _ := hb; have H3 : Hid _ := h3; clear h1 h3 h5 hn hb; go_enter Tryz.func180, Tryz.ntmps180; go_wp2_with fail; have hbel : ∀ x y, Below w.heap.size w ((w.alloc x).alloc y) := fun x y => ((Below.refl _ _).alloc (Nat.le_refl _) _).alloc (by simp) _
 have HBEL : Hid _ := hbel; clear hbel; refine (r_is B s T E.spelt b q nest 28 ⟨#[45]⟩ _ (HR.out.below (HBEL.out _ _)).rp).mono ?_; rintro e w1 ⟨rfl, hw1⟩; rw [hw1, K28]; clear hw1; go_wp2_with fail; refine (r_is B s T E.spelt b q nest 18 ⟨#[116, 114, 117, 101]⟩ _ (HR.out.below (HBEL.out _ _)).rp).mono ?_; rintro e w2 ⟨rfl, hw2⟩; rw [hw2, K18]; clear hw2; go_wp2_with fail; refine (r_is B s T E.spelt b q nest 19 ⟨#[102, 97, 108, 115, 101]⟩ _ (HR.out.below (HBEL.out _ _)).rp).mono ?_; rintro e w3 ⟨rfl, hw3⟩; rw [hw3, K19]; clear hw3; go_wp2_with fail; refine (r_takeX B s T E.fol E.len b q nest tv false _ (hw.below (HBEL.out _ _)).gl E.base E.short (hw.below (HBEL.out _ _)).size (HR.out.below (HBEL.out _ _))).mono ?_; rintro e w4 ⟨⟨nk4, nt4, na4, rfl, -, -⟩, hr, hf⟩; have hrow : ∀ g, tv.ownBlock = some g → g < w.heap.size := fun g hg => (World.ownsRow.lt H3.out g hg).2
 have hnx : ∀ j, w.heap.size ≤ j → ¬ ownX b tv j := by
  rintro j hj (e | e)
  ·omega
  ·have := hrow j e.symm; omega
 have u1 : w4.heap[w.heap.size]? = some (.cells #[.string ⟨#[]⟩, .string ⟨#[]⟩, .int .i64 0, .slice none 0 0] 107 (0, 0)) := (hf.block _ (by simp; omega) (hnx _ (Nat.le_refl _))).trans (blk_alloc _ (heap_alloc_new w _)); have u2 : w4.heap[w.heap.size + 1]? = some (.cells #[.int .u8 nk, .string nt, .int .i64 na] 87 (0, 0)) := (hf.block _ (by simp) (hnx _ (by omega))).trans (by
  have := heap_alloc_new (w.alloc (.cells #[.string ⟨#[]⟩, .string ⟨#[]⟩, .int .i64 0, .slice none 0 0] 107)) (.cells #[.int .u8 nk, .string nt, .int .i64 na] 87); simpa using this)
 have r0 := bc 0 u1 rfl; have r1 := bc 1 u1 rfl; have r2 := bc 2 u1 rfl; have r3 := bc 3 u1 rfl; have rf := blk_free u1; have b1 := bc 1 u2 rfl; have b2 := bc 2 u2 rfl; have HF := (FrP.ofBelow (HBEL.out _ _) hw.size).trans (frP_of_n (HR.out.below (HBEL.out _ _)) hr hf); have HF4 : Hid _ := HF; have HR4 : Hid (RP B s T w4 b (takeS T false q) nest) := hr.rp; have U1 : Hid _ := u1; clear hf hr u1 u2 HF hrow hnx c1 c2 c3 c6; go_wp2_with fail; refine bodyPost_ret (v := .tuple #[leaf ⟨#[48]⟩ nt na, .bool true]) (by simp [results, Tryz.results180, go_sem, leaf, r0, r1, r2, r3]) rfl ⟨HE.out, ?_, ?_⟩
 ·rw [HS.out, ← takeS_adv KZ.out (by decide) (by decide) false]; exact HR4.out.tree U1.out _ _ _ _
 ·exact HF4.out.tree (Nat.le_refl _) hw.size _ _ _ _
theorem r_value_word (E : RE B s T) (b : Nat) (q : Wk.St) (nest : Int) (w : World) (hw : RW B w) (h : RP B s T w b q nest) (hb : q.bad = none) (hz : (Wk.tokK T q.k).kind = 5) :
  Calls Tryz.prog 180 #[.pointer (some ⟨b, 0, none⟩)] w fun e w' => valueEnd T q e ∧ RP B s T w' b (valueS T q) nest ∧ FrP B b w w' := by
 have K28 : q.isK T 28 = false := by rw [isK_of hb hz]; decide
 have K18 : q.isK T 18 = false := by rw [isK_of hb hz]; decide
 have K19 : q.isK T 19 = false := by rw [isK_of hb hz]; decide
 have KZ : Hid (q.isK T 5 = true) := by
  show _ = _; rw [isK_of hb hz]; decide
 have hV : isVal T q = true := Wk.isIn_iff.2 ⟨hb, by rw [hz]; decide⟩; have hP : (Wk.pValue T q) = (q.adv, (3, Wk.unq (Wk.tokK T q.k).text)) := by
  unfold Wk.pValue; rw [isK_of hb hz, isK_of hb hz, isK_of hb hz, isK_of hb hz]; simp
 have HS : Hid (valueS T q = q.adv) := by unfold valueS; rw [hV, hP]; rfl
 have HZ : Hid _ := hz; obtain ⟨tv, h⟩ := h; have HR : Hid (RPx B s T w b q nest tv false) := h; obtain ⟨nk, nt, na, i, n, xs, h1, h2, h3, h4, h5⟩ := h; have hn := h5 hb; obtain ⟨-, c1, c2, c3, -, -, c6, -, -⟩ := rp_cells h1; rw [badI_none hb] at c6; have hlt := lt_of_block h1; have hk48 : ((nk : Int) == 48) = false := by rw [hn.kind, hz]; decide
 have hk34 : ((nk : Int) == 34) = true := by rw [hn.kind, hz]; decide
 have hpl := hn.place; have htx : nt = (Wk.tokK T q.k).text := by rw [hn.text]; unfold rtext; rw [hz]; rfl
 have HE : Hid (valueEnd T q (.returned (.tuple #[leaf ⟨#[119]⟩ nt na, .bool true]))) := ⟨_, by rw [hV], ⟨_, _, _, rfl⟩, fun _ _ => by
  rw [hP]; exact ⟨_, _, _, rfl, Or.inr (Or.inr ⟨rfl, rfl, by rw [htx], q.k, hn.lt, hz, htx⟩)⟩⟩
 clear hpl htx hP hV hz; have HN : Hid _ := hn; have HB : Hid _ := hb; have H3 : Hid _ := h3; clear h1 h3 h5 hn hb; go_enter Tryz.func180, Tryz.ntmps180; go_wp2_with fail; have hbel : ∀ x y, Below w.heap.size w ((w.alloc x).alloc y) := fun x y => ((Below.refl _ _).alloc (Nat.le_refl _) _).alloc (by simp) _
 have HBEL : Hid _ := hbel; clear hbel; refine (r_is B s T E.spelt b q nest 28 ⟨#[45]⟩ _ (HR.out.below (HBEL.out _ _)).rp).mono ?_; rintro e w1 ⟨rfl, hw1⟩; rw [hw1, K28]; clear hw1; go_wp2_with fail; refine (r_is B s T E.spelt b q nest 18 ⟨#[116, 114, 117, 101]⟩ _ (HR.out.below (HBEL.out _ _)).rp).mono ?_; rintro e w2 ⟨rfl, hw2⟩; rw [hw2, K18]; clear hw2; go_wp2_with fail; refine (r_is B s T E.spelt b q nest 19 ⟨#[102, 97, 108, 115, 101]⟩ _ (HR.out.below (HBEL.out _ _)).rp).mono ?_; rintro e w3 ⟨rfl, hw3⟩; rw [hw3, K19]; clear hw3; go_wp2_with fail; refine (r_takeX B s T E.fol E.len b q nest tv false _ (hw.below (HBEL.out _ _)).gl E.base E.short (hw.below (HBEL.out _ _)).size (HR.out.below (HBEL.out _ _))).mono ?_; rintro e w4 ⟨⟨nk4, nt4, na4, rfl, -, -⟩, hr, hf⟩; have hrow : ∀ g, tv.ownBlock = some g → g < w.heap.size := fun g hg => (World.ownsRow.lt H3.out g hg).2
 have hnx : ∀ j, w.heap.size ≤ j → ¬ ownX b tv j := by
  rintro j hj (e | e)
  ·omega
  ·have := hrow j e.symm; omega
 have u1 : w4.heap[w.heap.size]? = some (.cells #[.string ⟨#[]⟩, .string ⟨#[]⟩, .int .i64 0, .slice none 0 0] 107 (0, 0)) := (hf.block _ (by simp; omega) (hnx _ (Nat.le_refl _))).trans (blk_alloc _ (heap_alloc_new w _)); have u2 : w4.heap[w.heap.size + 1]? = some (.cells #[.int .u8 nk, .string nt, .int .i64 na] 87 (0, 0)) := (hf.block _ (by simp) (hnx _ (by omega))).trans (by
  have := heap_alloc_new (w.alloc (.cells #[.string ⟨#[]⟩, .string ⟨#[]⟩, .int .i64 0, .slice none 0 0] 107)) (.cells #[.int .u8 nk, .string nt, .int .i64 na] 87); simpa using this)
 have r0 := bc 0 u1 rfl; have r1 := bc 1 u1 rfl; have r2 := bc 2 u1 rfl; have r3 := bc 3 u1 rfl; have rf := blk_free u1; have b1 := bc 1 u2 rfl; have b2 := bc 2 u2 rfl; have HF := (FrP.ofBelow (HBEL.out _ _) hw.size).trans (frP_of_n (HR.out.below (HBEL.out _ _)) hr hf); have HF4 : Hid _ := HF; have HR4 : Hid (RP B s T w4 b (takeS T false q) nest) := hr.rp; have U1 : Hid _ := u1; clear hf hr u1 u2 HF hrow hnx c1 c2 c3 c6; go_wp2_with fail; refine bodyPost_ret (v := .tuple #[leaf ⟨#[119]⟩ nt na, .bool true]) (by simp [results, Tryz.results180, go_sem, leaf, r0, r1, r2, r3]) rfl ⟨HE.out, ?_, ?_⟩
 ·rw [HS.out, ← takeS_adv KZ.out (by decide) (by decide) false]; exact HR4.out.tree U1.out _ _ _ _
 ·exact HF4.out.tree (Nat.le_refl _) hw.size _ _ _ _
theorem r_value_true (E : RE B s T) (b : Nat) (q : Wk.St) (nest : Int) (w : World) (hw : RW B w) (h : RP B s T w b q nest) (hb : q.bad = none) (hz : (Wk.tokK T q.k).kind = 18) :
  Calls Tryz.prog 180 #[.pointer (some ⟨b, 0, none⟩)] w fun e w' => valueEnd T q e ∧ RP B s T w' b (valueS T q) nest ∧ FrP B b w w' := by
 have K28 : q.isK T 28 = false := by rw [isK_of hb hz]; decide
 have K18 : q.isK T 18 = true := by rw [isK_of hb hz]; decide
 have K19 : q.isK T 19 = false := by rw [isK_of hb hz]; decide
 have KZ : Hid (q.isK T 18 = true) := by
  show _ = _; rw [isK_of hb hz]; decide
 have hV : isVal T q = true := Wk.isIn_iff.2 ⟨hb, by rw [hz]; decide⟩; have hP : (Wk.pValue T q) = (q.adv, (2, [])) := by
  unfold Wk.pValue; rw [isK_of hb hz, isK_of hb hz, isK_of hb hz, isK_of hb hz]; simp
 have HS : Hid (valueS T q = q.adv) := by unfold valueS; rw [hV, hP]; rfl
 have HZ : Hid _ := hz; obtain ⟨tv, h⟩ := h; have HR : Hid (RPx B s T w b q nest tv false) := h; obtain ⟨nk, nt, na, i, n, xs, h1, h2, h3, h4, h5⟩ := h; have hn := h5 hb; obtain ⟨-, c1, c2, c3, -, -, c6, -, -⟩ := rp_cells h1; rw [badI_none hb] at c6; have hlt := lt_of_block h1; have hk48 : ((nk : Int) == 48) = false := by rw [hn.kind, hz]; decide
 have hk34 : ((nk : Int) == 34) = false := by rw [hn.kind, hz]; decide
 have hpl := hn.place; have htx : nt = (Wk.tokK T q.k).text := by rw [hn.text]; unfold rtext; rw [hz]; rfl
 have HE : Hid (valueEnd T q (.returned (.tuple #[leaf ⟨#[116]⟩ ⟨#[]⟩ na, .bool true]))) := ⟨_, by rw [hV], ⟨_, _, _, rfl⟩, fun _ _ => by
  rw [hP]; exact ⟨_, _, _, rfl, Or.inr (Or.inl ⟨rfl, Or.inl rfl⟩)⟩⟩
 clear hpl htx hP hV hz; have HN : Hid _ := hn; have HB : Hid _ := hb; have H3 : Hid _ := h3; clear h1 h3 h5 hn hb; go_enter Tryz.func180, Tryz.ntmps180; go_wp2_with fail; have hbel : ∀ x y, Below w.heap.size w ((w.alloc x).alloc y) := fun x y => ((Below.refl _ _).alloc (Nat.le_refl _) _).alloc (by simp) _
 have HBEL : Hid _ := hbel; clear hbel; refine (r_is B s T E.spelt b q nest 28 ⟨#[45]⟩ _ (HR.out.below (HBEL.out _ _)).rp).mono ?_; rintro e w1 ⟨rfl, hw1⟩; rw [hw1, K28]; clear hw1; go_wp2_with fail; refine (r_is B s T E.spelt b q nest 18 ⟨#[116, 114, 117, 101]⟩ _ (HR.out.below (HBEL.out _ _)).rp).mono ?_; rintro e w2 ⟨rfl, hw2⟩; rw [hw2, K18]; clear hw2; go_wp2_with fail; refine (r_is B s T E.spelt b q nest 19 ⟨#[102, 97, 108, 115, 101]⟩ _ (HR.out.below (HBEL.out _ _)).rp).mono ?_; rintro e w3 ⟨rfl, hw3⟩; rw [hw3, K19]; clear hw3; go_wp2_with fail; refine (r_takeX B s T E.fol E.len b q nest tv false _ (hw.below (HBEL.out _ _)).gl E.base E.short (hw.below (HBEL.out _ _)).size (HR.out.below (HBEL.out _ _))).mono ?_; rintro e w4 ⟨⟨nk4, nt4, na4, rfl, -, -⟩, hr, hf⟩; have hrow : ∀ g, tv.ownBlock = some g → g < w.heap.size := fun g hg => (World.ownsRow.lt H3.out g hg).2
 have hnx : ∀ j, w.heap.size ≤ j → ¬ ownX b tv j := by
  rintro j hj (e | e)
  ·omega
  ·have := hrow j e.symm; omega
 have u1 : w4.heap[w.heap.size]? = some (.cells #[.string ⟨#[]⟩, .string ⟨#[]⟩, .int .i64 0, .slice none 0 0] 107 (0, 0)) := (hf.block _ (by simp; omega) (hnx _ (Nat.le_refl _))).trans (blk_alloc _ (heap_alloc_new w _)); have u2 : w4.heap[w.heap.size + 1]? = some (.cells #[.int .u8 nk, .string nt, .int .i64 na] 87 (0, 0)) := (hf.block _ (by simp) (hnx _ (by omega))).trans (by
  have := heap_alloc_new (w.alloc (.cells #[.string ⟨#[]⟩, .string ⟨#[]⟩, .int .i64 0, .slice none 0 0] 107)) (.cells #[.int .u8 nk, .string nt, .int .i64 na] 87); simpa using this)
 have r0 := bc 0 u1 rfl; have r1 := bc 1 u1 rfl; have r2 := bc 2 u1 rfl; have r3 := bc 3 u1 rfl; have rf := blk_free u1; have b1 := bc 1 u2 rfl; have b2 := bc 2 u2 rfl; have HF := (FrP.ofBelow (HBEL.out _ _) hw.size).trans (frP_of_n (HR.out.below (HBEL.out _ _)) hr hf); have HF4 : Hid _ := HF; have HR4 : Hid (RP B s T w4 b (takeS T false q) nest) := hr.rp; have U1 : Hid _ := u1; clear hf hr u1 u2 HF hrow hnx c1 c2 c3 c6; go_wp2_with fail; refine bodyPost_ret (v := .tuple #[leaf ⟨#[116]⟩ ⟨#[]⟩ na, .bool true]) (by simp [results, Tryz.results180, go_sem, leaf, r0, r1, r2, r3]) rfl ⟨HE.out, ?_, ?_⟩
 ·rw [HS.out, ← takeS_adv KZ.out (by decide) (by decide) false]; exact HR4.out.tree U1.out _ _ _ _
 ·exact HF4.out.tree (Nat.le_refl _) hw.size _ _ _ _
theorem r_value_false (E : RE B s T) (b : Nat) (q : Wk.St) (nest : Int) (w : World) (hw : RW B w) (h : RP B s T w b q nest) (hb : q.bad = none) (hz : (Wk.tokK T q.k).kind = 19) :
  Calls Tryz.prog 180 #[.pointer (some ⟨b, 0, none⟩)] w fun e w' => valueEnd T q e ∧ RP B s T w' b (valueS T q) nest ∧ FrP B b w w' := by
 have K28 : q.isK T 28 = false := by rw [isK_of hb hz]; decide
 have K18 : q.isK T 18 = false := by rw [isK_of hb hz]; decide
 have K19 : q.isK T 19 = true := by rw [isK_of hb hz]; decide
 have KZ : Hid (q.isK T 19 = true) := by
  show _ = _; rw [isK_of hb hz]; decide
 have hV : isVal T q = true := Wk.isIn_iff.2 ⟨hb, by rw [hz]; decide⟩; have hP : (Wk.pValue T q) = (q.adv, (2, [])) := by
  unfold Wk.pValue; rw [isK_of hb hz, isK_of hb hz, isK_of hb hz, isK_of hb hz]; simp [Wk.St.want, isK_of hb hz]
 have HS : Hid (valueS T q = q.adv) := by unfold valueS; rw [hV, hP]; rfl
 have HZ : Hid _ := hz; obtain ⟨tv, h⟩ := h; have HR : Hid (RPx B s T w b q nest tv false) := h; obtain ⟨nk, nt, na, i, n, xs, h1, h2, h3, h4, h5⟩ := h; have hn := h5 hb; obtain ⟨-, c1, c2, c3, -, -, c6, -, -⟩ := rp_cells h1; rw [badI_none hb] at c6; have hlt := lt_of_block h1; have hk48 : ((nk : Int) == 48) = false := by rw [hn.kind, hz]; decide
 have hk34 : ((nk : Int) == 34) = false := by rw [hn.kind, hz]; decide
 have hpl := hn.place; have htx : nt = (Wk.tokK T q.k).text := by rw [hn.text]; unfold rtext; rw [hz]; rfl
 have HE : Hid (valueEnd T q (.returned (.tuple #[leaf ⟨#[102]⟩ ⟨#[]⟩ na, .bool true]))) := ⟨_, by rw [hV], ⟨_, _, _, rfl⟩, fun _ _ => by
  rw [hP]; exact ⟨_, _, _, rfl, Or.inr (Or.inl ⟨rfl, Or.inr rfl⟩)⟩⟩
 clear hpl htx hP hV hz; have HN : Hid _ := hn; have HB : Hid _ := hb; have H3 : Hid _ := h3; clear h1 h3 h5 hn hb; go_enter Tryz.func180, Tryz.ntmps180; go_wp2_with fail; have hbel : ∀ x y, Below w.heap.size w ((w.alloc x).alloc y) := fun x y => ((Below.refl _ _).alloc (Nat.le_refl _) _).alloc (by simp) _
 have HBEL : Hid _ := hbel; clear hbel; refine (r_is B s T E.spelt b q nest 28 ⟨#[45]⟩ _ (HR.out.below (HBEL.out _ _)).rp).mono ?_; rintro e w1 ⟨rfl, hw1⟩; rw [hw1, K28]; clear hw1; go_wp2_with fail; refine (r_is B s T E.spelt b q nest 18 ⟨#[116, 114, 117, 101]⟩ _ (HR.out.below (HBEL.out _ _)).rp).mono ?_; rintro e w2 ⟨rfl, hw2⟩; rw [hw2, K18]; clear hw2; go_wp2_with fail; refine (r_is B s T E.spelt b q nest 19 ⟨#[102, 97, 108, 115, 101]⟩ _ (HR.out.below (HBEL.out _ _)).rp).mono ?_; rintro e w3 ⟨rfl, hw3⟩; rw [hw3, K19]; clear hw3; go_wp2_with fail; refine (r_takeX B s T E.fol E.len b q nest tv false _ (hw.below (HBEL.out _ _)).gl E.base E.short (hw.below (HBEL.out _ _)).size (HR.out.below (HBEL.out _ _))).mono ?_; rintro e w4 ⟨⟨nk4, nt4, na4, rfl, -, -⟩, hr, hf⟩; have hrow : ∀ g, tv.ownBlock = some g → g < w.heap.size := fun g hg => (World.ownsRow.lt H3.out g hg).2
 have hnx : ∀ j, w.heap.size ≤ j → ¬ ownX b tv j := by
  rintro j hj (e | e)
  ·omega
  ·have := hrow j e.symm; omega
 have u1 : w4.heap[w.heap.size]? = some (.cells #[.string ⟨#[]⟩, .string ⟨#[]⟩, .int .i64 0, .slice none 0 0] 107 (0, 0)) := (hf.block _ (by simp; omega) (hnx _ (Nat.le_refl _))).trans (blk_alloc _ (heap_alloc_new w _)); have u2 : w4.heap[w.heap.size + 1]? = some (.cells #[.int .u8 nk, .string nt, .int .i64 na] 87 (0, 0)) := (hf.block _ (by simp) (hnx _ (by omega))).trans (by
  have := heap_alloc_new (w.alloc (.cells #[.string ⟨#[]⟩, .string ⟨#[]⟩, .int .i64 0, .slice none 0 0] 107)) (.cells #[.int .u8 nk, .string nt, .int .i64 na] 87); simpa using this)
 have r0 := bc 0 u1 rfl; have r1 := bc 1 u1 rfl; have r2 := bc 2 u1 rfl; have r3 := bc 3 u1 rfl; have rf := blk_free u1; have b1 := bc 1 u2 rfl; have b2 := bc 2 u2 rfl; have HF := (FrP.ofBelow (HBEL.out _ _) hw.size).trans (frP_of_n (HR.out.below (HBEL.out _ _)) hr hf); have HF4 : Hid _ := HF; have HR4 : Hid (RP B s T w4 b (takeS T false q) nest) := hr.rp; have U1 : Hid _ := u1; clear hf hr u1 u2 HF hrow hnx c1 c2 c3 c6; go_wp2_with fail; refine bodyPost_ret (v := .tuple #[leaf ⟨#[102]⟩ ⟨#[]⟩ na, .bool true]) (by simp [results, Tryz.results180, go_sem, leaf, r0, r1, r2, r3]) rfl ⟨HE.out, ?_, ?_⟩
 ·rw [HS.out, ← takeS_adv KZ.out (by decide) (by decide) false]; exact HR4.out.tree U1.out _ _ _ _
 ·exact HF4.out.tree (Nat.le_refl _) hw.size _ _ _ _
theorem minus_state {q : Wk.St} (hb : q.bad = none) : (if q.isK T 4 = true then q.adv else q.want T 3) = kindS T true 48 q := by
 unfold kindS Wk.St.want; by_cases h4 : (Wk.tokK T q.k).kind = 4
 ·have a : q.isK T 4 = true := Wk.isK_iff.2 ⟨hb, h4⟩; rw [if_pos a, h4, hb]; rfl
 ·have a : ¬ q.isK T 4 = true := fun h => h4 (Wk.isK_iff.1 h).2
  rw [if_neg a]; by_cases h3 : (Wk.tokK T q.k).kind = 3
  ·have c : q.isK T 3 = true := Wk.isK_iff.2 ⟨hb, h3⟩; rw [if_pos c, h3, hb]; rfl
  ·have c : ¬ q.isK T 3 = true := fun h => h3 (Wk.isK_iff.1 h).2
   rw [if_neg c, if_neg]; rw [hb]; simp only [Option.isNone_none, Bool.true_and, beq_iff_eq]; generalize (Wk.tokK T q.k).kind = z at *
   unfold rkind; repeat' split
   all_goals first | omega | simp_all
theorem r_value_minus (E : RE B s T) (b : Nat) (q : Wk.St) (nest : Int) (w : World) (hw : RW B w) (h : RP B s T w b q nest) (hb : q.bad = none) (hz : (Wk.tokK T q.k).kind = 28) :
  Calls Tryz.prog 180 #[.pointer (some ⟨b, 0, none⟩)] w fun e w' => valueEnd T q e ∧ RP B s T w' b (valueS T q) nest ∧ FrP B b w w' := by
 have K28 : q.isK T 28 = true := by rw [isK_of hb hz]; decide
 have K18 : q.isK T 18 = false := by rw [isK_of hb hz]; decide
 have K19 : q.isK T 19 = false := by rw [isK_of hb hz]; decide
 have hV : isVal T q = true := Wk.isIn_iff.2 ⟨hb, by rw [hz]; decide⟩; have hadv : q.adv = ⟨q.k + 1, none⟩ := by simp [Wk.St.adv, hb]
 have hP1 : (Wk.pValue T q).1 = kindS T true 48 q.adv := by
  unfold Wk.pValue; rw [if_pos K28]; exact minus_state (by rw [hadv])
 have hP2 : (Wk.pValue T q).2 = (1, []) := by
  unfold Wk.pValue; rw [if_pos K28]
 have HS : Hid (valueS T q = kindS T true 48 q.adv) := by
  show _ = _; unfold valueS; rw [hV, ← hP1]; rfl
 have HZ : Hid _ := hz; have HADV : Hid _ := hadv; have KZ : Hid (q.isK T 28 = true) := K28; have HV : Hid _ := hV; have HP2 : Hid _ := hP2; clear hP1 hadv hV hP2; obtain ⟨tv, h⟩ := h; have HR : Hid (RPx B s T w b q nest tv false) := h; obtain ⟨nk, nt, na, i, n, xs, h1, h2, h3, h4, h5⟩ := h; have hn := h5 hb; obtain ⟨-, c1, c2, c3, -, -, c6, -, -⟩ := rp_cells h1; rw [badI_none hb] at c6; have hlt := lt_of_block h1; clear hz; have HN : Hid _ := hn; have HB : Hid _ := hb; have H3 : Hid _ := h3; clear h1 h3 h5 hn hb; go_enter Tryz.func180, Tryz.ntmps180; go_wp2_with fail; have hbel : ∀ x y, Below w.heap.size w ((w.alloc x).alloc y) := fun x y => ((Below.refl _ _).alloc (Nat.le_refl _) _).alloc (by simp) _
 have HBEL : Hid _ := hbel; clear hbel; refine (r_is B s T E.spelt b q nest 28 ⟨#[45]⟩ _ (HR.out.below (HBEL.out _ _)).rp).mono ?_; rintro e w1 ⟨rfl, hw1⟩; rw [hw1, K28]; clear hw1; go_wp2_with fail; refine (r_is B s T E.spelt b q nest 18 ⟨#[116, 114, 117, 101]⟩ _ (HR.out.below (HBEL.out _ _)).rp).mono ?_; rintro e w2 ⟨rfl, hw2⟩; rw [hw2, K18]; clear hw2; go_wp2_with fail; refine (r_is B s T E.spelt b q nest 19 ⟨#[102, 97, 108, 115, 101]⟩ _ (HR.out.below (HBEL.out _ _)).rp).mono ?_; rintro e w3 ⟨rfl, hw3⟩; rw [hw3, K19]; clear hw3; go_wp2_with fail; refine (r_take E b q nest _ (hw.below (HBEL.out _ _)) (HR.out.below (HBEL.out _ _)).rp).mono ?_; rintro e w4 ⟨⟨nk4, nt4, na4, rfl, -, -⟩, hr, hf⟩; rw [takeS_adv KZ.out (by decide) (by decide) false] at hr; have hsz : ∀ x y, ((w.alloc x).alloc y).heap.size = w.heap.size + 2 := fun x y => by simp
 have u1 : w4.heap[w.heap.size]? = some (.cells #[.string ⟨#[]⟩, .string ⟨#[]⟩, .int .i64 0, .slice none 0 0] 107 (0, 0)) := hf.kept _ _ (blk_alloc _ (heap_alloc_new w _)) (by simp [inTs]); have HF4 : Hid _ := (FrP.ofBelow (HBEL.out _ _) hw.size).trans hf; have HR4 : Hid (RP B s T w4 b q.adv nest) := hr; have U1 : Hid _ := u1; clear hf hr u1 c1 c2 c3 c6 hsz; go_wp2_with fail; refine (r_minus E b q.adv q.k nest _ (hw.fr E.base HF4.out.toFrT) HR4.out (by rw [HADV.out]) (by rw [HADV.out]) HZ.out).mono ?_; rintro e w5 ⟨⟨x5, na5, rfl⟩, hr, hf⟩; have u1 := hf.kept _ _ U1.out (by simp [inTs]); have r0 := bc 0 u1 rfl; have r1 := bc 1 u1 rfl; have r2 := bc 2 u1 rfl; have r3 := bc 3 u1 rfl; have rf := blk_free u1; have HF5 : Hid _ := HF4.out.trans hf; have HR5 : Hid (RP B s T w5 b (kindS T true 48 q.adv) nest) := hr; have V1 : Hid _ := u1; have HE : Hid (valueEnd T q (.returned (.tuple #[leaf ⟨#[48]⟩ x5 na5, .bool true]))) := ⟨_, by rw [HV.out], ⟨_, _, _, rfl⟩, fun _ _ => by
  rw [HP2.out]; exact ⟨_, _, _, rfl, Or.inl ⟨rfl, rfl⟩⟩⟩
 clear hf hr u1; go_wp2_with fail; refine bodyPost_ret (v := .tuple #[leaf ⟨#[48]⟩ x5 na5, .bool true]) (by simp [results, Tryz.results180, go_sem, leaf, r0, r1, r2, r3]) rfl ⟨HE.out, ?_, ?_⟩
 ·rw [HS.out]; exact HR5.out.tree V1.out _ _ _ _
 ·exact HF5.out.tree (Nat.le_refl _) hw.size _ _ _ _
theorem r_value (E : RE B s T) (b : Nat) (q : Wk.St) (nest : Int) (w : World) (hw : RW B w) (h : RP B s T w b q nest) :
  Calls Tryz.prog 180 #[.pointer (some ⟨b, 0, none⟩)] w fun e w' => valueEnd T q e ∧ RP B s T w' b (valueS T q) nest ∧ FrP B b w w' ∧ (isVal T q = false → Below w.heap.size w w') := by
 cases hb : q.bad with
 | some p =>
  refine (r_value_bad E b q nest w h (by rw [hb]; rfl)).mono ?_; rintro e w' ⟨h1, h2, h3⟩; exact ⟨h1, h2, FrP.ofBelow h3 hw.size, fun _ => h3⟩
 | none =>
  cases hV : isVal T q with
  | false =>
   refine (r_value_no E b q nest w h hb hV).mono ?_; rintro e w' ⟨h1, h2, h3⟩; exact ⟨h1, h2, FrP.ofBelow h3 hw.size, fun _ => h3⟩
  | true =>
   have hm := (Wk.isIn_iff.1 hV).2; simp only [List.mem_cons, List.mem_nil_iff, or_false] at hm; have fin : ∀ {e : Ending} {w' : World}, valueEnd T q e ∧ RP B s T w' b (valueS T q) nest ∧ FrP B b w w' → valueEnd T q e ∧ RP B s T w' b (valueS T q) nest ∧ FrP B b w w' ∧ (true = false → Below w.heap.size w w') :=
    fun h => ⟨h.1, h.2.1, h.2.2, fun e => by cases e⟩
   rcases hm with hz | hz | hz | hz | hz
   ·exact (r_value_minus E b q nest w hw h hb hz).mono (fun e w' h => fin h)
   ·exact (r_value_num E b q nest w hw h hb hz).mono (fun e w' h => fin h)
   ·exact (r_value_word E b q nest w hw h hb hz).mono (fun e w' h => fin h)
   ·exact (r_value_true E b q nest w hw h hb hz).mono (fun e w' h => fin h)
   ·exact (r_value_false E b q nest w hw h hb hz).mono (fun e w' h => fin h)
end
structure IN (B : Nat) (s : ByteArray) (T : List Wk.Tok) (w0 w : World) (b : Nat) (q : Wk.St) (nest : Int) : Prop where
 rp : RP B s T w b q nest
 fr : FrP B b w0 w
 w0 : RW B w0
 env : RE B s T
section
variable {B : Nat} {s : ByteArray} {T : List Wk.Tok} {w0 w w1 : World} {b : Nat} {q q' : Wk.St} {nest nest' : Int}
theorem IN.rw (h : IN B s T w0 w b q nest) : RW B w := h.w0.fr h.env.base h.fr.toFrT
theorem IN.trans (h : IN B s T w0 w b q nest) (k : IN B s T w w1 b q' nest') : IN B s T w0 w1 b q' nest' := ⟨k.rp, h.fr.trans k.fr, h.w0, h.env⟩
theorem IN.refl (h : RP B s T w b q nest) (hw : RW B w) (E : RE B s T) : IN B s T w w b q nest := ⟨h, FrP.refl _ _ _, hw, E⟩
theorem IN.self (h : IN B s T w0 w b q nest) : IN B s T w w b q nest := IN.refl h.rp h.rw h.env
theorem IN.alloc (h : IN B s T w0 w b q nest) (o : Obj) : IN B s T w0 (w.alloc o) b q nest := ⟨h.rp.alloc o, h.fr.alloc h.rw.size o, h.w0, h.env⟩
theorem IN.below (h : IN B s T w0 w b q nest) (hb : Below w.heap.size w w1) : IN B s T w0 w1 b q nest := ⟨h.rp.below hb, h.fr.trans (FrP.ofBelow hb h.rw.size), h.w0, h.env⟩
theorem IN.set (h : IN B s T w0 w b q nest) {k o : Nat} {cs : Array Value} {t : TypeId} {fr : Nat × Nat} (hk : w.heap[k]? = some (.cells cs t fr)) (h1 : t ≠ 126) (h2 : t ≠ 87) (h0 : w0.heap.size ≤ k) (v : Value) : IN B s T w0 (w.setCell ⟨k, o, none⟩ v) b q nest :=
 ⟨h.rp.setOther hk h1 h2 v, h.fr.setNew h0 h.w0.size v, h.w0, h.env⟩
theorem IN.tree (h : IN B s T w0 w b q nest) {k : Nat} {cs : Array Value} (hk : w.heap[k]? = some (.cells cs 107 (0, 0))) (h0 : w0.heap.size ≤ k) (v0 v1 v2 v3 : Value) :
  IN B s T w0 ((((w.setCell ⟨k, 0, none⟩ v0).setCell ⟨k, 1, none⟩ v1).setCell ⟨k, 2, none⟩ v2).setCell ⟨k, 3, none⟩ v3) b q nest :=
 ⟨h.rp.tree hk _ _ _ _, h.fr.tree h0 h.w0.size _ _ _ _, h.w0, h.env⟩
theorem IN.box (h : IN B s T w0 w b q nest) {k : Nat} {cs : Array Value} {t : TypeId} {fr : Nat × Nat} (hk : w0.heap[k]? = some (.cells cs t fr)) (h1 : t ≠ 126) (h2 : t ≠ 87) : w.heap[k]? = some (.cells cs t fr) :=
 h.fr.kept k _ hk (by simp only [inTs]; simp; exact ⟨h1, h2⟩)
theorem IN.size (h : IN B s T w0 w b q nest) : w0.heap.size ≤ w.heap.size := h.fr.size
theorem IN.blt (h : IN B s T w0 w b q nest) : b < w.heap.size := by
 obtain ⟨tv, nk, nt, na, i, n, xs, h1, _⟩ := h.rp; exact lt_of_block h1
theorem IN.badc (h : IN B s T w0 w b q nest) : w.cell? ⟨b, 6, none⟩ = some (.int .i64 (badI q)) := by
 obtain ⟨tv, nk, nt, na, i, n, xs, h1, _⟩ := h.rp; obtain ⟨-, -, -, -, -, -, c6, -, -⟩ := rp_cells h1; exact c6
theorem i_is (h : IN B s T w0 w b q nest) (kd : Nat) (x : ByteArray) (h6 : 6 ≤ kd := by decide) (h41 : kd ≤ 41 := by decide) (hx : x.data.toList = spellOf kd := by decide) :
  Calls Tryz.prog 71 #[.pointer (some ⟨b, 0, none⟩), .string x] w fun e w' => e = .returned (.bool (q.isK T kd)) ∧ w' = w :=
 r_is B s T h.env.spelt b q nest kd x w h.rp h6 h41 hx
theorem i_fail (h : IN B s T w0 w b q nest) :
  Calls Tryz.prog 46 #[.pointer (some ⟨b, 0, none⟩)] w fun e w' => e = .returned (.tuple #[]) ∧ IN B s T w w' b (q.fail T) nest :=
 (r_fail B s T b q nest w h.rp).mono (fun _ _ k => ⟨k.1, k.2.1, k.2.2, h.rw, h.env⟩)
theorem i_take (h : IN B s T w0 w b q nest) :
  Calls Tryz.prog 72 #[.pointer (some ⟨b, 0, none⟩)] w fun e w' => takeEnd T false q e ∧ IN B s T w w' b (takeS T false q) nest :=
 (r_take h.env b q nest w h.rw h.rp).mono (fun _ _ k => ⟨k.1, k.2.1, k.2.2, h.rw, h.env⟩)
theorem i_need (h : IN B s T w0 w b q nest) (kd : Nat) (x : ByteArray) (h6 : 6 ≤ kd := by decide) (h41 : kd ≤ 41 := by decide) (hx : x.data.toList = spellOf kd := by decide) :
  Calls Tryz.prog 75 #[.pointer (some ⟨b, 0, none⟩), .string x] w fun e w' => e = .returned (.tuple #[]) ∧ IN B s T w w' b (q.want T kd) nest :=
 (r_need h.env b q nest kd x w h.rw h.rp h6 h41 hx).mono (fun _ _ k => ⟨k.1, k.2.1, k.2.2, h.rw, h.env⟩)
theorem i_kind (h : IN B s T w0 w b q nest) (c : Nat) (hc : c = 48 ∨ c = 34 ∨ c = 110) :
  Calls Tryz.prog 73 #[.pointer (some ⟨b, 0, none⟩), .int .u8 c] w fun e w' => kindEnd T false c q e ∧ IN B s T w w' b (kindS T false c q) nest := by
 obtain ⟨tv, hx⟩ := h.rp; refine (r_kindX h.env b q nest tv false c w h.rw hx hc).mono ?_; rintro e w' ⟨h1, h2, h3⟩; exact ⟨h1, h2.rp, frP_of_n hx h2 h3, h.rw, h.env⟩
theorem i_opens (h : IN B s T w0 w b q nest) (h0 : 0 ≤ nest) (h10 : nest ≤ 10) :
  Calls Tryz.prog 114 #[.pointer (some ⟨b, 0, none⟩)] w fun e w' => e = .returned (.tuple #[]) ∧ IN B s T w w' b (if nest = 10 then q.fail T else q) (nest + 1) :=
 (r_opens b q nest w h.rp h0 h10).mono (fun _ _ k => ⟨k.1, k.2.1, k.2.2, h.rw, h.env⟩)
theorem i_value (h : IN B s T w0 w b q nest) :
  Calls Tryz.prog 180 #[.pointer (some ⟨b, 0, none⟩)] w fun e w' => valueEnd T q e ∧ IN B s T w w' b (valueS T q) nest ∧ (isVal T q = false → Below w.heap.size w w') :=
 (r_value h.env b q nest w h.rw h.rp).mono (fun _ _ k => ⟨k.1, ⟨k.2.1, k.2.2.1, h.rw, h.env⟩, k.2.2.2⟩)
theorem IN.nestSet (h : IN B s T w0 w b q nest) (z : Int) : IN B s T w0 (w.setCell ⟨b, 7, none⟩ (.int .i64 z)) b q z :=
 ⟨(h.rp.nestSet z).1, h.fr.trans (h.rp.nestSet z).2, h.w0, h.env⟩
theorem kindS_name {q : Wk.St} : kindS T false 110 q = q.want T 2 := by
 unfold kindS Wk.St.want Wk.St.isK; cases hb : q.bad with
 | some p => rfl
 | none =>
  have : (rkind (Wk.tokK T q.k).kind false == 110) = ((Wk.tokK T q.k).kind == 2) := by
   generalize (Wk.tokK T q.k).kind = z; unfold rkind; rw [Bool.eq_iff_iff, beq_iff_eq, beq_iff_eq]; repeat' split
   all_goals first | omega | simp_all
  rw [this]
theorem kindS_word {q : Wk.St} : kindS T false 34 q = q.want T 5 := by
 unfold kindS Wk.St.want Wk.St.isK; cases hb : q.bad with
 | some p => rfl
 | none =>
  have : (rkind (Wk.tokK T q.k).kind false == 34) = ((Wk.tokK T q.k).kind == 5) := by
   generalize (Wk.tokK T q.k).kind = z; unfold rkind; rw [Bool.eq_iff_iff, beq_iff_eq, beq_iff_eq]; repeat' split
   all_goals first | omega | simp_all
  rw [this]
end
end Go.Proofs.YtbkaghlklkdmkaaGreatDoor
