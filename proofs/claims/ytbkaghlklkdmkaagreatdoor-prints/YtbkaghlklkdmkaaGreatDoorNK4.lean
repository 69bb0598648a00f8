/-
  The law: one Load by both. The law: one step that loads; what was let out. A script in memory. The script that came in, as the walk wants it. The package-level tables, out of the row's own condition.
-/
import Derived.Test.YtbkaghlklkdmkaaGreatDoorNK2
import Derived.Deep.SlicePairs
import Derived.SizedLaws
import Derived.Test.YtbkaghlklkdmkaaGreatDoorRows
import Derived.OpenShut
import Derived.Lib.LaidU8
set_option maxRecDepth 100000
set_option maxHeartbeats 8000000
namespace Go.Proofs.YtbkaghlklkdmkaaGreatDoor
open Go.RowKit
attribute [local go_sem ↓] Go.wp_at_zero Go.wp_at_succ
theorem Tryz.info39 : (Tryz.prog.info? 39).map (fun i => (i.zero, i.size, i.bytes)) = some (some (.agg #[.pointer none, .pointer none]), 2, 16) := by kernel_rfl
theorem Tryz.und27 : Tryz.prog.underlying 27 = some (.slice 39) := by kernel_rfl
theorem RM.keep {T : List Wk.Tok} {K mb : Nat} {w w' : World} (h : RM T K w mb) (k : KeepS [64, 85, 87] w w') : RM T K w' mb := by
 obtain ⟨vv, tv, B, h1, h2⟩ := h; exact ⟨vv, tv, B, k mb _ 85 _ (by decide) h1, owns_keepS h2 k (by decide)⟩
def Md (w : World) (a1 a2 : Nat) : Prop := ∃ s : ByteArray, s.size ≤ 1000 ∧ PM (Wk.tokens s) (Wk.pModel (Wk.tokens s)).1.k w a1 ∧ RM (Wk.tokens s) (Wk.pModel (Wk.tokens s)).1.k w a2
theorem Md.below {w w' : World} {a1 a2 : Nat} (h : Md w a1 a2) (hb : Below w.heap.size w w') : Md w' a1 a2 := by
 obtain ⟨s, h1, h2, h3⟩ := h; exact ⟨s, h1, h2.below hb, h3.below hb⟩
structure LawW (B b : Nat) (w : World) (n : Nat) : Prop where
 box : ∃ mv xs, w.heap[b]? = some (.cells #[mv, .slice none 0 0, .slice none 0 0] 31 (0, 0)) ∧ w.ownsRow B 39 2 mv n xs ∧ (n = 0 → mv.ownBlock = none) ∧ ∀ j, j < n → ∃ a1 a2, xs[j * 2]? = some (nptr a1) ∧ xs[j * 2 + 1]? = some (nptr a2) ∧ Md w a1 a2
 gl : Gl w
 low : 12 ≤ B ∧ B ≤ b
theorem LawW.below {B b n : Nat} {w w' : World} (h : LawW B b w n) (hb : Below w.heap.size w w') : LawW B b w' n := by
 obtain ⟨mv, xs, h1, h2, h3, h4⟩ := h.box; refine ⟨⟨mv, xs, (hb.block b (lt_of_block h1)).trans h1, owns_below h2 hb, h3, fun j hj => ?_⟩, h.gl.belowAll hb, h.low⟩; obtain ⟨a1, a2, g1, g2, g3⟩ := h4 j hj; exact ⟨a1, a2, g1, g2, g3.below hb⟩
theorem LawW.lt {B b n : Nat} {w : World} (h : LawW B b w n) : b < w.heap.size := by
 obtain ⟨mv, xs, h1, h2⟩ := h.box; exact lt_of_block h1
theorem LawW.more {B b n g cap a1 a2 : Nat} {w w9 : World} {mv : Value} {xs : List Value} {x : Obj} (hl : 12 ≤ B ∧ B ≤ b) (hG : Gl w) (h1 : w.heap[b]? = some (.cells #[mv, .slice none 0 0, .slice none 0 0] 31 (0, 0))) (h2 : w.ownsRow B 39 2 mv n xs)
  (h0 : n = 0 → mv.ownBlock = none) (h4 : ∀ j, j < n → ∃ a1 a2, xs[j * 2]? = some (nptr a1) ∧ xs[j * 2 + 1]? = some (nptr a2) ∧ Md w a1 a2) (hm : Md w a1 a2)
  (hown : w9.ownsRow B 39 2 (.slice (some ⟨g, 0, none⟩) (n + 1) cap) (n + 1) (xs ++ [nptr a1, nptr a2])) (hg : (w.alloc x).grownBy w9 mv.ownBlock) :
  LawW B b (w9.setCell ⟨b, 0, none⟩ (.slice (some ⟨g, 0, none⟩) (n + 1) cap)) (n + 1) ∧ Below B w (w9.setCell ⟨b, 0, none⟩ (.slice (some ⟨g, 0, none⟩) (n + 1) cap)) ∧ w9.heap[b]? = some (.cells #[mv, .slice none 0 0, .slice none 0 0] 31 (0, 0)) := by
 have hr := World.ownsRow.alloc h2 x; have hbs := lt_of_block h1; have hb9 : Below B (w.alloc x) w9 := grown_below hr hg (Nat.le_refl _) (by rw [sz_alloc]; omega); have u := blk_alloc x h1; have hbb : w9.heap[b]? = some (.cells #[mv, .slice none 0 0, .slice none 0 0] 31 (0, 0)) := (hg.block b (lt_of_block u) (fun e => pown_ne hr u (by decide) e.symm)).trans u; have hB : Below B w w9 := ((ab1 w x).mono (by omega)).trans hb9; have hxl : xs.length = n * 2 := h2.1; have hK : KeepS [64, 85, 87] w (w9.setCell ⟨b, 0, none⟩ (.slice (some ⟨g, 0, none⟩) (n + 1) cap)) := ((KeepS.below (ab1 w x) _).trans (KeepS.grown hr (by decide) hg)).trans (KeepS.set hbb (by decide) _); have hS : ∀ k, k < w.heap.size → k ≠ b → some k ≠ mv.ownBlock → (w9.setCell ⟨b, 0, none⟩ (.slice (some ⟨g, 0, none⟩) (n + 1) cap)).heap[k]? = w.heap[k]? := fun k hk hkb hko => by
  rw [blk_other _ hkb, hg.block k (by rw [sz_alloc]; omega) hko]; exact (ab1 w x).block k hk
 have hM : ∀ a1 a2, Md w a1 a2 → Md (w9.setCell ⟨b, 0, none⟩ (.slice (some ⟨g, 0, none⟩) (n + 1) cap)) a1 a2 := fun a1 a2 ⟨s, g1, g2, g3⟩ => by
  refine ⟨s, g1, g2.same (fun k => ⟨fun cs fr hk => (hK k cs 64 fr (by decide) hk).trans hk.symm, fun z hz => ?_⟩), g3.keep hK⟩; refine hS k (cell_lt hz) (fun e => ?_) (fun e => ?_)
  ·subst e; have := bc 0 h1 rfl; rw [hz] at this; rcases h2.2 with ⟨rfl, _⟩ | ⟨g', cap', cur, rfl, _⟩ <;> cases this
  ·rcases Nat.eq_zero_or_pos n with hn | hn
   ·rw [h0 hn] at e; cases e
   ·obtain ⟨b1, b2, f1, -, -⟩ := h4 0 hn; rcases h2.2 with ⟨rfl, hn0⟩ | ⟨g', cap', cur, rfl, _⟩
    ·omega
    ·have e : k = g' := by simpa [Value.ownBlock] using e
     subst e; have hc := h2.cellAt 0 (by omega); rw [show (⟨k, 0, none⟩ : Addr) = ⟨k, 0, none⟩ from rfl, hz] at hc; have f1 : xs[0]? = some (nptr b1) := by simpa using f1
     rw [f1] at hc; cases hc
 refine ⟨⟨⟨_, _, (blk_set (o := 0) _ hbb).trans (by simp), owns_other hown hbb (by decide) _, fun e => absurd e (by omega), fun j hj => ?_⟩, hG.below (hB.setCell hl.2 _) hl.1, hl⟩, hB.setCell hl.2 _, hbb⟩; rcases Nat.lt_or_ge j n with hlt | hge
 ·obtain ⟨b1, b2, f1, f2, f3⟩ := h4 j hlt; exact ⟨b1, b2, by rw [List.getElem?_append_left (by omega)]; exact f1, by rw [List.getElem?_append_left (by omega)]; exact f2, hM _ _ f3⟩
 ·obtain rfl : j = n := by omega
  exact ⟨a1, a2, by rw [List.getElem?_append_right (by omega), hxl, Nat.sub_self]; rfl, by rw [List.getElem?_append_right (by omega), hxl, show j * 2 + 1 - j * 2 = 1 by omega]; rfl, hM _ _ hm⟩
theorem spec_small {s : ByteArray} (h : (Wk.loadSpec s).1 = 0) : s.size ≤ 1000 := by
 unfold Wk.loadSpec at h; split at h
 ·cases h
 ·omega
theorem p_both {B b n : Nat} {w : World} (hL : LawW B b w n) (hn : (n + 1) * 16 ≤ 140737488355328) {k a : Int} {s t : ByteArray} (hz : s.size < 2 ^ 62) :
    Calls Tryz.prog 9 #[.pointer (some ⟨b, 0, none⟩), .agg #[.int .i64 k, .int .i64 a, .string s, .string t]] w fun e w' => e = .returned (.bool true) ∧ (∃ n', LawW B b w' n' ∧ n' ≤ n + 1 ∧ ((Wk.loadSpec s).1 = 0 → n' = n + 1)) ∧ Below B w w' := by
  obtain ⟨o, ho⟩ : ∃ o : Obj, o = .cells #[.int .i64 k, .int .i64 a, .string s, .string t] 34 := ⟨_, rfl⟩
  have HL : Hid (LawW B b w n) := hL; have h1 : Below w.heap.size w (w.alloc o) := ab1 w o; have HL1 : Hid (LawW B b (w.alloc o) n) := hL.below h1; have HP : Hid _ := p_Load s (HL1.out.gl) hz; have HR : Hid (∀ w', Gl w' → _) := fun w' h => r_Load (w := w') s h hz
  unfold loadEnd at HP HR; have HBB : Hid (Below B w (w.alloc o)) := h1.mono (by have := hL.low; have := hL.lt; omega); have hBw : B ≤ w.heap.size := by have := hL.low; have := hL.lt; omega
  obtain ⟨L1, hL1⟩ : ∃ L, L = (Wk.loadSpec s).1 := ⟨_, rfl⟩
  have HSM : Hid (L1 = 0 → s.size ≤ 1000) := fun e => spec_small (by rw [← hL1]; exact e)
  obtain ⟨L2, hL2⟩ : ∃ L, L = (Wk.loadSpec s).2 := ⟨_, rfl⟩
  rw [← hL1] at HP HR ⊢; rw [← hL2] at HP HR; rw [ho] at HP HL1 HBB; clear hL hL1 hL2 h1 ho; go_enter Tryz.func9, Tryz.ntmps9; go_wp2_with fail; refine Calls.mono HP.out ?_; rintro e w2 ⟨⟨⟨p1, rfl, hp1⟩, hM1⟩, hb2⟩; have HL2 : Hid (LawW B b w2 n) := HL1.out.below hb2; have HBB2 : Hid (Below B w w2) := HBB.out.trans (hb2.mono (by rw [sz_alloc]; omega)); have HU2 : Hid (w2.heap[w.heap.size]? = some (.cells #[.int .i64 k, .int .i64 a, .string s, .string t] 34 (0, 0))) := (hb2.block _ (by rw [sz_alloc]; omega)).trans (heap_alloc_new w _); have HP1 : Hid _ := hp1; have HM1 : Hid (∀ a1, p1 = some a1 → ∃ k, a1 = ⟨k, 0, none⟩ ∧ ∀ w', Below w2.heap.size w2 w' → PM (Wk.tokens s) (Wk.pModel (Wk.tokens s)).1.k w' k) := fun a1 e => by
    subst e; obtain ⟨k, h1, h2⟩ := hM1 a1 _ _ rfl; exact ⟨k, h1, fun w' hb => h2.below hb⟩
  clear hb2 hp1 hM1; have c2 := bc 2 HU2.out rfl; go_wp2_with fail; refine Calls.mono (HR.out _ HL2.out.gl) ?_; rintro e w3 ⟨⟨⟨p2, rfl, hp2⟩, hM2⟩, hb3⟩; have HL3 : Hid (LawW B b w3 n) := HL2.out.below hb3; have HBB3 : Hid (Below B w w3) := HBB2.out.trans (hb3.mono (by have := HBB2.out.size; omega)); have HP2 : Hid _ := hp2; have HM3 : Hid (∀ a1 a2, p1 = some a1 → p2 = some a2 → ∃ k1 k2, a1 = ⟨k1, 0, none⟩ ∧ a2 = ⟨k2, 0, none⟩ ∧ (s.size ≤ 1000 → Md w3 k1 k2)) := fun a1 a2 e1 e2 => by
    obtain ⟨k1, h1, h2⟩ := HM1.out a1 e1; subst e2; obtain ⟨k2, h3, h4⟩ := hM2 a2 _ _ rfl; exact ⟨k1, k2, h1, h3, fun hs => ⟨s, hs, h2 _ hb3, h4⟩⟩
  clear hb3 hp2 hM2 c2 HU2 HR HP HM1; by_cases hz0 : L1 = 0
  · obtain ⟨a1, rfl⟩ : ∃ a1, p1 = some a1 := by
      cases p1 with
      | none => exact absurd hz0 (HP1.out.1 rfl)
      | some a1 => exact ⟨a1, rfl⟩
    obtain ⟨a2, rfl⟩ : ∃ a2, p2 = some a2 := by
      cases p2 with
      | none => exact absurd hz0 (HP2.out.1 rfl)
      | some a2 => exact ⟨a2, rfl⟩
    obtain ⟨k1, k2, rfl, rfl, hmd⟩ := HM3.out a1 a2 rfl rfl; have HMD : Hid _ := hmd (HSM.out hz0); obtain ⟨mv, xs, hbx, hrow, hn0, hall⟩ := HL3.out.box; have HN0 : Hid _ := hn0; have HALL : Hid _ := hall; clear hmd hn0 hall; have c0 := bc 0 hbx rfl; have cf := blk_free (o := 0) hbx; have hblt := lt_of_block hbx; have HBX : Hid _ := hbx; have HROW : Hid (w3.ownsRow B 39 2 mv n xs) := hrow; have HZ : Hid _ := hz0; have HLOW : Hid _ := HL3.out.low; have hs3 : B ≤ w3.heap.size := by have := HL3.out.low; omega
    have HROW3 : Hid (∀ x, (w3.alloc x).ownsRow B 39 2 mv n xs) := fun x => World.ownsRow.alloc HROW.out x
    clear hbx hrow hz0; obtain ⟨i0, hi0, hz0, hz1, hz2⟩ := info_parts Tryz.info39; go_wp2_with first
      | (at_builtin; refine wpList_append_lies _ (by rfl) (.tmp 46) (.tmp 50) 27 (by rfl) B 39 i0 _ 2 16 Tryz.und27 hi0 hz0 hz1 hz2 (by rfl) (by omega) mv n xs (by simp [Act.eval]) (HROW3.out _) ⟨w3.heap.size, 0, none⟩ 1 1 [.pointer (some ⟨k1, 0, none⟩), .pointer (some ⟨k2, 0, none⟩)] (by simp [Act.eval]) (by rfl) (World.news_of_block (cs := #[.pointer (some ⟨k1, 0, none⟩), .pointer (some ⟨k2, 0, none⟩)]) (heap_alloc_new _ _)) (by intro u hu; simp at hu; rcases hu with rfl | rfl <;> rfl) (by omega) (by unfold maxLen; omega) (by omega) (by rw [sz_alloc]; omega) (w3.heap.size + 1) (by simp) ?_
         intro g cap w9 hown9 hgrow9 hat9 hlt9; have HM9 : Hid _ := LawW.more HLOW.out HL3.out.gl HBX.out HROW.out HN0.out HALL.out HMD.out hown9 hgrow9; have c9 := bc 0 HM9.out.2.2 rfl; have f9 := blk_free (o := 0) HM9.out.2.2; clear hown9 hgrow9 hat9 hlt9)
      | fail
    go_ret; exact ⟨rfl, ⟨n + 1, HM9.out.1, Nat.le_refl _, fun _ => rfl⟩, HBB3.out.trans HM9.out.2.1⟩
  · obtain rfl : p1 = none := HP1.out.2 hz0; obtain rfl : p2 = none := HP2.out.2 hz0; have HZ : Hid _ := hz0; clear hz0; go_wp2_with fail; go_ret; exact ⟨rfl, ⟨n, HL3.out, by omega, fun h => absurd h HZ.out⟩, HBB3.out⟩
theorem p_lawStep {B b n : Nat} {w : World} (hL : LawW B b w n) (hn : (n + 1) * 16 ≤ 140737488355328) {a : Int} {s t : ByteArray} (hz : s.size < 2 ^ 62) :
  Calls Tryz.prog 7 #[.pointer (some ⟨b, 0, none⟩), .agg #[.int .i64 1, .int .i64 a, .string s, .string t]] w fun e w' => e = .returned (.bool true) ∧ (∃ n', LawW B b w' n' ∧ n' ≤ n + 1 ∧ ((Wk.loadSpec s).1 = 0 → n' = n + 1)) ∧ Below B w w' := by
 obtain ⟨o, ho⟩ : ∃ o : Obj, o = .cells #[.int .i64 1, .int .i64 a, .string s, .string t] 34 := ⟨_, rfl⟩
 have h1 : Below w.heap.size w (w.alloc o) := ab1 w o; have HP : Hid _ := p_both (hL.below h1) hn (k := 1) (a := a) (t := t) hz; have HBB : Hid (Below B w (w.alloc o)) := h1.mono (by have := hL.low; have := hL.lt; omega); obtain ⟨L1, hL1⟩ : ∃ L, L = (Wk.loadSpec s).1 := ⟨_, rfl⟩
 rw [← hL1] at HP ⊢; rw [ho] at HP HBB; clear hL hL1 h1 ho; go_enter Tryz.func7, Tryz.ntmps7; go_wp2_with fail; refine Calls.mono HP.out ?_; rintro e w2 ⟨rfl, hl2, hb2⟩; have HL2 : Hid _ := hl2; have HB2 : Hid (Below B w w2) := HBB.out.trans hb2; clear hl2 hb2; go_wp2_with fail; go_ret; exact ⟨rfl, HL2.out, HB2.out⟩
theorem p_lawLooks {B b n : Nat} {w : World} (hL : LawW B b w n) :
  Calls Tryz.prog 8 #[.pointer (some ⟨b, 0, none⟩)] w fun e w' => e = .returned (.bool true) ∧ w' = w := by
 obtain ⟨mv, xs, h1, h2, -⟩ := hL.box; have c2 := bc 2 h1 rfl; have hlt := lt_of_block h1; clear hL h1 h2; go_enter Tryz.func8, Tryz.ntmps8; go_wp2_with fail; go_loopg [3, 4] 0 (fun gk s3 s4 wr => s3 = .bool true ∧ s4 = .int .i64 0 ∧ wr = w)
 case atStart => exact ⟨rfl, rfl, rfl⟩
 case round =>
  obtain ⟨rfl, rfl, rfl⟩ := hrel; go_wp2_with fail; go_ret; exact ⟨rfl, rfl⟩
end Go.Proofs.YtbkaghlklkdmkaaGreatDoor
namespace Go.Proofs.YtbkaghlklkdmkaaGreatDoor
open Go.RowKit
def firstText : ByteArray := ⟨#[97, 115, 107, 32, 110, 32, 105, 110, 116, 59, 32, 108, 101, 116, 32, 109, 32, 105, 110, 116, 32, 61, 32, 110, 32, 43, 32, 49, 59]⟩
theorem firstText_loads : Wk.loadSpec firstText = (0, 0) := by decide +kernel
theorem firstText_size : firstText.size < 2 ^ 62 := by decide +kernel
structure Stp where
 k : Int
 a : Int
 s : ByteArray
 t : ByteArray
def StepsAt (w : World) (v : Value) (l : List Stp) : Prop :=
 ∃ ad cap, v = .slice ad l.length cap ∧ (0 < l.length → ∃ g o, ad = some ⟨g, o, none⟩ ∧ ∀ j x, l[j]? = some x → w.cell? ⟨g, o + j * 4, none⟩ = some (.int .i64 x.k) ∧ w.cell? ⟨g, o + j * 4 + 1, none⟩ = some (.int .i64 x.a) ∧ w.cell? ⟨g, o + j * 4 + 2, none⟩ = some (.string x.s) ∧ w.cell? ⟨g, o + j * 4 + 3, none⟩ = some (.string x.t))
theorem StepsAt.below {w w' : World} {v : Value} {l : List Stp} (h : StepsAt w v l) (hb : Below w.heap.size w w') : StepsAt w' v l := by
 obtain ⟨ad, cap, h1, h2⟩ := h; refine ⟨ad, cap, h1, fun hp => ?_⟩; obtain ⟨g, o, h3, h4⟩ := h2 hp; refine ⟨g, o, h3, fun j x hj => ?_⟩; obtain ⟨a, b, c, d⟩ := h4 j x hj; exact ⟨(hb.cell (p := ⟨g, o + j * 4, none⟩) (cell_lt a)).trans a, (hb.cell (p := ⟨g, o + j * 4 + 1, none⟩) (cell_lt b)).trans b, (hb.cell (p := ⟨g, o + j * 4 + 2, none⟩) (cell_lt c)).trans c, (hb.cell (p := ⟨g, o + j * 4 + 3, none⟩) (cell_lt d)).trans d⟩
end Go.Proofs.YtbkaghlklkdmkaaGreatDoor
namespace Go.Proofs.YtbkaghlklkdmkaaGreatDoor
open Go.ChangeShapes Go.WideShapes Go.RowKit Go.Deep
theorem Tryz.cells34 : Tryz.prog.cellsOf 34 = 4 := by kernel_rfl
theorem Tryz.bytes34 : Tryz.prog.bytesOf 34 = 48 := by kernel_rfl
theorem Tryz.cellsOf3 : Tryz.prog.cellsOf 3 = 1 := by kernel_rfl
theorem Tryz.cellsOf9 : Tryz.prog.cellsOf 9 = 1 := by kernel_rfl
def Stp.data {H : Type} (y : Stp) : DataW H := .agg [.lit (.int .i64 y.k), .lit (.int .i64 y.a), .lit (.string y.s.data.toList), .lit (.string y.t.data.toList)]
theorem wf64 {n : Int} (h : (Lit.int .i64 n).wf = true) : -9223372036854775808 ≤ n ∧ n ≤ 9223372036854775807 := by
 have h : (decide (IntKind.min .i64 ≤ n) && decide (n ≤ IntKind.max .i64)) = true := h; rw [Bool.and_eq_true, decide_eq_true_eq, decide_eq_true_eq] at h; exact h
theorem open_step {H : Type} {enc : TypeId × Value → H} {W : World} {sp : Nat → Bool} {n : Nat} {cs : List Value} {x : DataW H × List MemPlace} (h : DataW.trod enc Tryz.prog W 0 sp true n 34 cs = some x) (hl : cs.length = 4) :
  ∃ y : Stp, cs = [.int .i64 y.k, .int .i64 y.a, .string y.s, .string y.t] ∧ x.1 = y.data ∧ -9223372036854775808 ≤ y.a ∧ y.a ≤ 9223372036854775807 := by
 obtain ⟨xs, k, hk, hxy, _, hxl, hf⟩ := DataW.trod_struct Tryz.underlying34 h; have hxl : xs.length = 4 := hxl
 match xs, hxl, cs, hl with
 | [y0, y1, y2, y3], _, [v0, v1, v2, v3], _ =>
  have g0 := hf 0 _ rfl; have g1 := hf 1 _ rfl; have g2 := hf 2 _ rfl; have g3 := hf 3 _ rfl; simp [Tryz.cellsOf3, Tryz.cellsOf9] at g0 g1 g2 g3; obtain ⟨z0, e0, f0, _⟩ := DataW.trod_int Tryz.underlying3 g0; obtain ⟨z1, e1, f1, wf1⟩ := DataW.trod_int Tryz.underlying3 g1; obtain ⟨z2, e2, f2, _⟩ := DataW.trod_string Tryz.underlying9 g2; obtain ⟨z3, e3, f3, _⟩ := DataW.trod_string Tryz.underlying9 g3; simp only [List.cons.injEq, and_true] at e0 e1 e2 e3; subst e0 e1 e2 e3 f0 f1 f2 f3; exact ⟨⟨z0, z1, z2, z3⟩, rfl, by rw [hxy]; rfl, wf64 wf1⟩
theorem weight_all {H : Type} {e : TypeId} {d : DataW H} {l : List (DataW H)} (h : d ∈ l) : ∀ n ∈ d.weights Tryz.prog e, n ∈ DataW.weightsAll Tryz.prog e l := by
 induction l with
 | nil => cases h
 | cons x r ih =>
  intro n hn; simp only [DataW.weightsAll, List.mem_append]; rcases List.mem_cons.1 h with rfl | h
  ·exact Or.inl hn
  ·exact Or.inr (ih h n hn)
theorem open_script {H : Type} {enc : TypeId × Value → H} {W : World} {a0 : Option Addr} {len cap fuel : Nat} {x : DataW H × List MemPlace}
  (hf : DataW.trod enc Tryz.prog W 0 (fun _ => true) true fuel 22 [.slice a0 len cap] = some x)
  (hsz : (DataW.weightsEach Tryz.prog [22] [x.1]).all (· ≤ reachBytes) = true) :
  ∃ l : List Stp, StepsAt W (.slice a0 len cap) l ∧ (l.length + 2) * 16 ≤ 140737488355328 ∧ ∀ y ∈ l, y.s.size < 2 ^ 62 ∧ -9223372036854775808 ≤ y.a ∧ y.a ≤ 9223372036854775807 := by
 rcases open_slice Tryz.underlying22 hf with ⟨hc, hx⟩ | ⟨a, len', cap', m, n, D, Pl, hcs, _, hl, hm, hmm, hx, hall⟩
 ·simp at hc; obtain ⟨rfl, rfl, rfl⟩ := hc; exact ⟨[], ⟨none, 0, rfl, fun h => absurd h (by decide)⟩, by decide, fun y h => absurd h (by simp)⟩
 ·simp at hcs; obtain ⟨rfl, rfl, rfl⟩ := hcs; simp only [if_true] at hmm; subst hmm; have each : ∀ i, i < m → ∃ y : Stp, (W.cell? (a.add (i * 4)) = some (.int .i64 y.k) ∧ W.cell? (a.add (i * 4 + 1)) = some (.int .i64 y.a) ∧ W.cell? (a.add (i * 4 + 2)) = some (.string y.s) ∧ W.cell? (a.add (i * 4 + 3)) = some (.string y.t)) ∧ D i = y.data ∧ -9223372036854775808 ≤ y.a ∧ y.a ≤ 9223372036854775807 := by
   intro i hi; obtain ⟨cs', h1, h2⟩ := hall i hi; rw [Tryz.cells34] at h1; obtain ⟨_, hlen, hcell⟩ := World.cells?_some h1; obtain ⟨y, rfl, hy, hya⟩ := open_step h2 hlen; have e0 := hcell 0 (by omega); have e1 := hcell 1 (by omega); have e2 := hcell 2 (by omega); have e3 := hcell 3 (by omega); rw [add_add] at e0 e1 e2 e3; exact ⟨y, ⟨e0, e1, e2, e3⟩, hy, hya⟩
  have : Inhabited Stp := ⟨⟨0, 0, .empty, .empty⟩⟩
  obtain ⟨q, hq⟩ := choose_lt each; have hlen16 := sized_slice hsz (j := 0) (t := 22) (e := 34) rfl (by rw [hx]; rfl) Tryz.underlying22; rw [Tryz.bytes34] at hlen16; simp only [List.length_map, List.length_range, reachBytes] at hlen16; refine ⟨(List.range len).map q, ⟨some a, m, by simp, fun hp => ?_⟩, by simp; omega, fun y hy => ?_⟩
  ·have hp : 0 < len := by simpa using hp
   obtain ⟨b, off, spot⟩ := a; have hspot : spot = none := by simpa [Addr.add] using World.cell?_spot (hq 0 (by omega)).1.1
   subst hspot; refine ⟨b, off, rfl, fun j y hj => ?_⟩; have hjl : j < len := by have := (List.getElem?_eq_some_iff.1 hj).1; simpa using this
   have hy : q j = y := by
    rw [List.getElem?_map, List.getElem?_range hjl] at hj; simpa using hj
   subst hy; have h4 := (hq j (by omega)).1; simp only [add_plain] at h4; exact h4
  ·obtain ⟨i, hi, rfl⟩ := List.mem_map.1 hy; have hi := List.mem_range.1 hi; have hD := (hq i (by omega)).2.1; refine ⟨?_, (hq i (by omega)).2.2⟩; have hmem : D i ∈ (List.range len).map D := List.mem_map.2 ⟨i, List.mem_range.2 hi, rfl⟩; have hw : (q i).s.data.toList.length ∈ (D i).weights Tryz.prog 34 := by
    rw [hD]; simp [Stp.data, DataW.weights, Tryz.underlying34, DataW.weightsEach]
   have hall2 : (q i).s.data.toList.length ∈ DataW.weightsEach Tryz.prog [22] [x.1] := by
    rw [hx]; simp only [DataW.weightsEach, DataW.weights, Tryz.underlying22, List.append_nil]; exact List.mem_cons_of_mem _ (List.mem_append.2 (Or.inl (weight_all hmem _ hw)))
   have := List.all_eq_true.1 hsz _ hall2; have h5 : (q i).s.data.toList.length ≤ reachBytes := by simpa using this
   have h6 : (q i).s.data.toList.length = (q i).s.size := by rw [Array.length_toList]; rfl
   rw [h6] at h5; have := reachBytes_lt; omega
end Go.Proofs.YtbkaghlklkdmkaaGreatDoor
namespace Go.Proofs.YtbkaghlklkdmkaaGreatDoor
open Go.ChangeShapes Go.WideShapes Go.RowKit Go.Deep Go.Lib
theorem tab_int {W : World} {name : String} {g t e n : Nat} {k : IntKind} {zs : List Int} (hg : Tryz.prog.globalNamed name = some g) (hty : (Tryz.prog.globals[g]?).map (·.type) = some t) (ht : Tryz.prog.underlying t = some (.array n e)) (he : Tryz.prog.underlying e = some (.int k)) (hce : Tryz.prog.cellsOf e = 1) (hct : Tryz.prog.cellsOf t = n)
  (h : VarReads Tryz.prog W name (tabData k zs)) : ∀ (i : Nat) z, zs[i]? = some z → W.cell? ⟨g, i, none⟩ = some (.int k z) := by
 obtain ⟨g', t', cs, fuel, p, hg', hty', hvar, hd⟩ := h; obtain rfl := Option.some.inj (hg.symm.trans hg'); obtain rfl := Option.some.inj (hty.symm.trans hty'); intro i z hz; rw [World.var?_cell hg hvar i, ← Array.getElem?_toList, cells_of_tab ht he hce hct hd]; simp [hz]
theorem tab_string {W : World} {name : String} {g t e n : Nat} {ss : List (List UInt8)} (hg : Tryz.prog.globalNamed name = some g) (hty : (Tryz.prog.globals[g]?).map (·.type) = some t) (ht : Tryz.prog.underlying t = some (.array n e)) (he : Tryz.prog.underlying e = some .string) (hce : Tryz.prog.cellsOf e = 1)
  (h : VarReads Tryz.prog W name (.agg (ss.map fun b => .lit (.string b)))) : ∀ (i : Nat) b, ss[i]? = some b → W.cell? ⟨g, i, none⟩ = some (.string ⟨b.toArray⟩) := by
 obtain ⟨g', t', cs, fuel, p, hg', hty', hvar, hd⟩ := h; obtain rfl := Option.some.inj (hg.symm.trans hg'); obtain rfl := Option.some.inj (hty.symm.trans hty'); intro i b hb; obtain ⟨xs, m, _, hx, _, hxl, hall⟩ := DataW.trod_array ht hd; simp only [Prod.mk.injEq, DataW.agg.injEq] at hx; have hi : i < n := by
  have h1 := (List.getElem?_eq_some_iff.1 hb).1; have h2 := congrArg List.length hx.1; simp at h2; omega
 have h3 := hall i hi; have hix : i < xs.length := by omega
 rw [List.getElem?_eq_getElem hix, hce, Nat.mul_one] at h3; obtain ⟨s, e1, e2, _⟩ := DataW.trod_string he h3; have h4 := congrArg (·[i]?) hx.1; simp only [List.getElem?_map, hb, List.getElem?_eq_getElem hix, Option.map_some, Option.some.injEq, e2, DataW.lit.injEq, Lit.string.injEq] at h4; rw [World.var?_cell hg hvar i, ← Array.getElem?_toList]; have h5 := congrArg (·[0]?) e1; simp [List.getElem?_drop] at h5; rw [Array.getElem?_toList, h5, h4]
theorem tab_pair {W : World} {name : String} {g t e q n : Nat} {f0 f1 : Field} {k : IntKind} {ps : List (Int × Int)} (hg : Tryz.prog.globalNamed name = some g) (hty : (Tryz.prog.globals[g]?).map (·.type) = some t) (ht : Tryz.prog.underlying t = some (.array n e)) (he : Tryz.prog.underlying e = some (.struct #[f0, f1])) (hce : Tryz.prog.cellsOf e = 2)
  (t0 : f0.type = q) (t1 : f1.type = q) (o0 : f0.offset = 0) (o1 : f1.offset = 1) (hq : Tryz.prog.underlying q = some (.int k)) (hcq : Tryz.prog.cellsOf q = 1)
  (h : VarReads Tryz.prog W name (.agg (ps.map fun b => .agg [.lit (.int k b.1), .lit (.int k b.2)]))) : ∀ (i : Nat) b, ps[i]? = some b → W.cell? ⟨g, 2 * i, none⟩ = some (.int k b.1) ∧ W.cell? ⟨g, 2 * i + 1, none⟩ = some (.int k b.2) := by
 obtain ⟨g', t', cs, fuel, p, hg', hty', hvar, hd⟩ := h; obtain rfl := Option.some.inj (hg.symm.trans hg'); obtain rfl := Option.some.inj (hty.symm.trans hty'); intro i b hb; obtain ⟨xs, m, _, hx, _, hxl, hall⟩ := DataW.trod_array ht hd; simp only [Prod.mk.injEq, DataW.agg.injEq] at hx; have hi : i < n := by
  have h1 := (List.getElem?_eq_some_iff.1 hb).1; have h2 := congrArg List.length hx.1; simp at h2; omega
 have h3 := hall i hi; have hix : i < xs.length := by omega
 rw [List.getElem?_eq_getElem hix, hce] at h3; obtain ⟨ys, k2, _, hy, _, hyl, hf⟩ := DataW.trod_struct he h3; have hyl : ys.length = 2 := hyl; have h4 := congrArg (·[i]?) hx.1; simp only [List.getElem?_map, hb, List.getElem?_eq_getElem hix, Option.map_some, Option.some.injEq, hy, DataW.agg.injEq] at h4
 match ys, hyl with
 | [y0, y1], _ =>
  have g0 := hf 0 f0 rfl; have g1 := hf 1 f1 rfl; simp only [t0, t1, o0, o1, hcq, List.drop_zero] at g0 g1; obtain ⟨z0, e0, x0, _⟩ := DataW.trod_int hq g0; obtain ⟨z1, e1, x1, _⟩ := DataW.trod_int hq g1; subst x0 x1; simp at h4; have h5 := congrArg (·[0]?) e0; have h6 := congrArg (·[0]?) e1; simp [List.getElem?_drop] at h5 h6; rw [World.var?_cell hg hvar (2 * i), World.var?_cell hg hvar (2 * i + 1), Nat.mul_comm 2 i]; rw [h5, h6, h4.1, h4.2]; exact ⟨rfl, rfl⟩
theorem tab_iface {W : World} {name nm : String} {g t : Nat} {ms : Array (String × TypeId)} {d : DataW Unit} (hg : Tryz.prog.globalNamed name = some g) (hty : (Tryz.prog.globals[g]?).map (·.type) = some t) (ht : Tryz.prog.underlying t = some (.interface ms))
  (h : VarReads Tryz.prog W name (.iface nm d)) : ∃ u v, W.cell? ⟨g, 0, none⟩ = some (.iface u v) := by
 obtain ⟨g', t', cs, fuel, p, hg', hty', hvar, hd⟩ := h; obtain rfl := Option.some.inj (hg.symm.trans hg'); obtain rfl := Option.some.inj (hty.symm.trans hty'); obtain ⟨_, u, v, e, _⟩ := iface_of_trod ht hd; exact ⟨u, v, by rw [World.var?_cell hg hvar 0, ← Array.getElem?_toList, e]; rfl⟩
theorem range_at {α : Type} {n k : Nat} (f : Nat → α) (h : k < n) : ((List.range n).map f)[k]? = some (f k) := by simp [h]
theorem data_spell : (Rows.laid_wicket_token_spellings : DataW Unit) = .agg (((List.range 42).map spellOf).map fun b => .lit (.string b)) := by kernel_rfl
theorem data_pol : (Rows.laid_wicket_parse_policies : DataW Unit) = tabData .i64 ((List.range 6).map fun k => ((12 + k : Nat) : Int)) := by kernel_rfl
theorem data_ops : (Rows.laid_wicket_parse_operations : DataW Unit) = tabData .i64 ((List.range 33).map fun k => (opOf k : Int)) := by kernel_rfl
theorem data_sig : (Rows.laid_wicket_typing_signatures : DataW Unit) = .agg (((List.range 12).map fun k => ((takesOf k : Int), (isOf k : Int))).map fun b => .agg [.lit (.int .i64 b.1), .lit (.int .i64 b.2)]) := by kernel_rfl
theorem data_acc : (Rows.laid_unicode_utf8_acceptRanges : DataW Unit) = .agg (((List.range 16).map fun i => ((accLo i : Int), (accHi i : Int))).map fun b => .agg [.lit (.int .u8 b.1), .lit (.int .u8 b.2)]) := by kernel_rfl
theorem data_first : Rows.laid_unicode_utf8_first = tabData .u8 firstTab := by kernel_rfl
theorem gl_of_laid {W : World} (hs : 12 ≤ W.heap.size) (h : laidMet Tryz.prog Rows.loadsRow.laid W) : Gl W := by
 have hsp := Go.Lib.laidMet.reads h (n := "wicket/token.spellings") (d := Rows.laid_wicket_token_spellings) (by simp [Rows.loadsRow]); have hpo := Go.Lib.laidMet.reads h (n := "wicket/parse.policies") (d := Rows.laid_wicket_parse_policies) (by simp [Rows.loadsRow]); have hop := Go.Lib.laidMet.reads h (n := "wicket/parse.operations") (d := Rows.laid_wicket_parse_operations) (by simp [Rows.loadsRow]); have hsi := Go.Lib.laidMet.reads h (n := "wicket/typing.signatures") (d := Rows.laid_wicket_typing_signatures) (by simp [Rows.loadsRow]); have hac := Go.Lib.laidMet.reads h (n := "unicode/utf8.acceptRanges") (d := Rows.laid_unicode_utf8_acceptRanges) (by simp [Rows.loadsRow]); have hfi := Go.Lib.laidMet.reads h (n := "unicode/utf8.first") (d := Rows.laid_unicode_utf8_first) (by simp [Rows.loadsRow]); have her := Go.Lib.laidMet.reads h (n := "strconv.ErrRange") (d := Rows.laid_strconv_ErrRange) (by simp [Rows.loadsRow]); have hes := Go.Lib.laidMet.reads h (n := "strconv.ErrSyntax") (d := Rows.laid_strconv_ErrSyntax) (by simp [Rows.loadsRow]); clear h; rw [data_spell] at hsp; rw [data_pol] at hpo; rw [data_ops] at hop; rw [data_sig] at hsi; rw [data_acc] at hac; rw [data_first] at hfi; have kfi := tab_int (g := 1) (t := 287) (n := 256) (e := 5) (by kernel_rfl) (by kernel_rfl) Tryz.underlying287 Tryz.underlying5 (by kernel_rfl) (by kernel_rfl) hfi; have kac := tab_pair (g := 2) (t := 290) (n := 16) (e := 289) (q := 5) (by kernel_rfl) (by kernel_rfl) Tryz.underlying290 Tryz.underlying289 (by kernel_rfl) rfl rfl rfl rfl Tryz.underlying5 (by kernel_rfl) hac; have ksp := tab_string (g := 5) (t := 306) (n := 42) (e := 9) (by kernel_rfl) (by kernel_rfl) Tryz.underlying306 Tryz.underlying9 (by kernel_rfl) hsp; have kpo := tab_int (g := 6) (t := 311) (n := 6) (e := 132) (by kernel_rfl) (by kernel_rfl) Tryz.underlying311 (by kernel_rfl) (by kernel_rfl) (by kernel_rfl) hpo; have kop := tab_int (g := 8) (t := 331) (n := 33) (e := 243) (by kernel_rfl) (by kernel_rfl) Tryz.underlying331 (by kernel_rfl) (by kernel_rfl) (by kernel_rfl) hop; have ksi := tab_pair (g := 0) (t := 252) (n := 12) (e := 251) (q := 66) (by kernel_rfl) (by kernel_rfl) Tryz.underlying252 Tryz.underlying251 (by kernel_rfl) rfl rfl rfl rfl (by kernel_rfl) (by kernel_rfl) hsi; have ker := tab_iface (g := 10) (t := 77) (by kernel_rfl) (by kernel_rfl) Tryz.underlying77 her; have kes := tab_iface (g := 9) (t := 77) (by kernel_rfl) (by kernel_rfl) Tryz.underlying77 hes; refine ⟨hs, ⟨fun c hc => ?_, fun i hi => ?_⟩, fun k hk => ?_, fun k hk => ?_, fun k hk => ?_, fun k hk => ?_, fun k hk => ?_, kes, ker⟩
 ·exact kfi c _ (range_at _ hc)
 ·exact kac i _ (range_at _ hi)
 ·exact ksp k _ (range_at _ hk)
 ·exact kpo k _ (range_at _ hk)
 ·exact kop k _ (range_at _ hk)
 ·exact (ksi k _ (range_at _ hk)).1
 ·exact (ksi k _ (range_at _ hk)).2
end Go.Proofs.YtbkaghlklkdmkaaGreatDoor
