import Derived.Test.YtbkaghlklkdmkaaGreatDoorK3
namespace Go.Proofs.YtbkaghlklkdmkaaGreatDoor
open Go.RowKit
attribute [local go_sem ↓] Go.wp_at_zero Go.wp_at_succ
theorem Tryz.info39 : (Tryz.prog.info? 39).map (fun i => (i.zero, i.size, i.bytes)) = some (some (.agg #[.pointer none, .pointer none]), 2, 16) := by kernel_rfl
theorem Tryz.und27 : Tryz.prog.underlying 27 = some (.slice 39) := by kernel_rfl
structure LawW (B b : Nat) (w : World) (n : Nat) : Prop where
 box : ∃ mv xs, w.heap[b]? = some (.cells #[mv, .slice none 0 0, .slice none 0 0] 31 (0, 0)) ∧ w.ownsRow B 39 2 mv n xs
 gl : Gl w
 low : 12 ≤ B ∧ B ≤ b
theorem LawW.below {B b n : Nat} {w w' : World} (h : LawW B b w n) (hb : Below w.heap.size w w') : LawW B b w' n := by
 obtain ⟨mv, xs, h1, h2⟩ := h.box; exact ⟨⟨mv, xs, (hb.block b (lt_of_block h1)).trans h1, owns_below h2 hb⟩, h.gl.belowAll hb, h.low⟩
theorem LawW.lt {B b n : Nat} {w : World} (h : LawW B b w n) : b < w.heap.size := by
 obtain ⟨mv, xs, h1, h2⟩ := h.box; exact lt_of_block h1
theorem LawW.more {B b n g cap : Nat} {w w9 : World} {mv : Value} {xs ys : List Value} {x : Obj} (hl : 12 ≤ B ∧ B ≤ b) (hG : Gl w) (h1 : w.heap[b]? = some (.cells #[mv, .slice none 0 0, .slice none 0 0] 31 (0, 0))) (h2 : w.ownsRow B 39 2 mv n xs)
  (hown : w9.ownsRow B 39 2 (.slice (some ⟨g, 0, none⟩) (n + 1) cap) (n + 1) ys) (hg : (w.alloc x).grownBy w9 mv.ownBlock) :
  LawW B b (w9.setCell ⟨b, 0, none⟩ (.slice (some ⟨g, 0, none⟩) (n + 1) cap)) (n + 1) ∧ Below B w (w9.setCell ⟨b, 0, none⟩ (.slice (some ⟨g, 0, none⟩) (n + 1) cap)) ∧ w9.heap[b]? = some (.cells #[mv, .slice none 0 0, .slice none 0 0] 31 (0, 0)) := by
 have hr := World.ownsRow.alloc h2 x; have hbs := lt_of_block h1; have hb9 : Below B (w.alloc x) w9 := grown_below hr hg (Nat.le_refl _) (by rw [sz_alloc]; omega); have u := blk_alloc x h1; have hbb : w9.heap[b]? = some (.cells #[mv, .slice none 0 0, .slice none 0 0] 31 (0, 0)) := (hg.block b (lt_of_block u) (fun e => pown_ne hr u (by decide) e.symm)).trans u; have hB : Below B w w9 := ((ab1 w x).mono (by omega)).trans hb9; refine ⟨⟨⟨_, ys, (blk_set (o := 0) _ hbb).trans (by simp), owns_other hown hbb (by decide) _⟩, hG.below (hB.setCell hl.2 _) hl.1, hl⟩, hB.setCell hl.2 _, hbb⟩
set_option maxRecDepth 100000 in
set_option maxHeartbeats 4000000 in
theorem p_both {B b n : Nat} {w : World} (hL : LawW B b w n) (hn : (n + 1) * 16 ≤ 140737488355328) {k a : Int} {s t : ByteArray} (hz : s.size < 2 ^ 62) :
    Calls Tryz.prog 9 #[.pointer (some ⟨b, 0, none⟩), .agg #[.int .i64 k, .int .i64 a, .string s, .string t]] w fun e w' => e = .returned (.bool true) ∧ (∃ n', LawW B b w' n' ∧ n' ≤ n + 1 ∧ ((Wk.loadSpec s).1 = 0 → n' = n + 1)) ∧ Below B w w' := by
  obtain ⟨o, ho⟩ : ∃ o : Obj, o = .cells #[.int .i64 k, .int .i64 a, .string s, .string t] 34 := ⟨_, rfl⟩
  have HL : Hid (LawW B b w n) := hL; have h1 : Below w.heap.size w (w.alloc o) := ab1 w o; have HL1 : Hid (LawW B b (w.alloc o) n) := hL.below h1; have HP : Hid _ := p_Load s (HL1.out.gl) hz; have HR : Hid (∀ w', Gl w' → _) := fun w' h => r_Load (w := w') s h hz
  unfold loadEnd at HP HR; have HBB : Hid (Below B w (w.alloc o)) := h1.mono (by have := hL.low; have := hL.lt; omega); have hBw : B ≤ w.heap.size := by have := hL.low; have := hL.lt; omega
  obtain ⟨L1, hL1⟩ : ∃ L, L = (Wk.loadSpec s).1 := ⟨_, rfl⟩
  obtain ⟨L2, hL2⟩ : ∃ L, L = (Wk.loadSpec s).2 := ⟨_, rfl⟩
  rw [← hL1] at HP HR ⊢; rw [← hL2] at HP HR; rw [ho] at HP HL1 HBB; clear hL hL1 hL2 h1 ho; go_enter Tryz.func9, Tryz.ntmps9; go_wp2_with fail; refine Calls.mono HP.out ?_; rintro e w2 ⟨⟨p1, rfl, hp1⟩, hb2⟩; have HL2 : Hid (LawW B b w2 n) := HL1.out.below hb2; have HBB2 : Hid (Below B w w2) := HBB.out.trans (hb2.mono (by rw [sz_alloc]; omega)); have HU2 : Hid (w2.heap[w.heap.size]? = some (.cells #[.int .i64 k, .int .i64 a, .string s, .string t] 34 (0, 0))) := (hb2.block _ (by rw [sz_alloc]; omega)).trans (heap_alloc_new w _); have HP1 : Hid _ := hp1; clear hb2 hp1; have c2 := blk_cell (o := 2) HU2.out rfl; go_wp2_with fail; refine Calls.mono (HR.out _ HL2.out.gl) ?_; rintro e w3 ⟨⟨p2, rfl, hp2⟩, hb3⟩; have HL3 : Hid (LawW B b w3 n) := HL2.out.below hb3; have HBB3 : Hid (Below B w w3) := HBB2.out.trans (hb3.mono (by have := HBB2.out.size; omega)); have HP2 : Hid _ := hp2; clear hb3 hp2 c2 HU2 HR HP; by_cases hz0 : L1 = 0
  · obtain ⟨a1, rfl⟩ : ∃ a1, p1 = some a1 := by
      cases p1 with
      | none => exact absurd hz0 (HP1.out.1 rfl)
      | some a1 => exact ⟨a1, rfl⟩
    obtain ⟨a2, rfl⟩ : ∃ a2, p2 = some a2 := by
      cases p2 with
      | none => exact absurd hz0 (HP2.out.1 rfl)
      | some a2 => exact ⟨a2, rfl⟩
    obtain ⟨mv, xs, hbx, hrow⟩ := HL3.out.box; have c0 := blk_cell (o := 0) hbx rfl; have cf := blk_free (o := 0) hbx; have hblt := lt_of_block hbx; have HBX : Hid _ := hbx; have HROW : Hid (w3.ownsRow B 39 2 mv n xs) := hrow; have HZ : Hid _ := hz0; have HLOW : Hid _ := HL3.out.low; have hs3 : B ≤ w3.heap.size := by have := HL3.out.low; omega
    have HROW3 : Hid (∀ x, (w3.alloc x).ownsRow B 39 2 mv n xs) := fun x => World.ownsRow.alloc HROW.out x
    clear hbx hrow hz0; obtain ⟨i0, hi0, hz0, hz1, hz2⟩ := info_parts Tryz.info39; go_wp2_with first
      | (at_builtin; refine wpList_append_lies _ (by rfl) (.tmp 46) (.tmp 50) 27 (by rfl) B 39 i0 _ 2 16 Tryz.und27 hi0 hz0 hz1 hz2 (by rfl) (by omega) mv n xs (by simp [Act.eval]) (HROW3.out _) ⟨w3.heap.size, 0, none⟩ 1 1 [.pointer (some a1), .pointer (some a2)] (by simp [Act.eval]) (by rfl) (World.news_of_block (cs := #[.pointer (some a1), .pointer (some a2)]) (heap_alloc_new _ _)) (by intro u hu; simp at hu; rcases hu with rfl | rfl <;> rfl) (by omega) (by unfold maxLen; omega) (by omega) (by rw [sz_alloc]; omega) (w3.heap.size + 1) (by simp) ?_
         intro g cap w9 hown9 hgrow9 hat9 hlt9; have HM9 : Hid _ := LawW.more HLOW.out HL3.out.gl HBX.out HROW.out hown9 hgrow9; have c9 := blk_cell (o := 0) HM9.out.2.2 rfl; have f9 := blk_free (o := 0) HM9.out.2.2; clear hown9 hgrow9 hat9 hlt9)
      | fail
    go_ret; exact ⟨rfl, ⟨n + 1, HM9.out.1, Nat.le_refl _, fun _ => rfl⟩, HBB3.out.trans HM9.out.2.1⟩
  · obtain rfl : p1 = none := HP1.out.2 hz0; obtain rfl : p2 = none := HP2.out.2 hz0; have HZ : Hid _ := hz0; clear hz0; go_wp2_with fail; go_ret; exact ⟨rfl, ⟨n, HL3.out, by omega, fun h => absurd h HZ.out⟩, HBB3.out⟩
end Go.Proofs.YtbkaghlklkdmkaaGreatDoor
namespace Go.Proofs.YtbkaghlklkdmkaaGreatDoor
open Go.RowKit
attribute [local go_sem ↓] Go.wp_at_zero Go.wp_at_succ
set_option maxRecDepth 100000 in
set_option maxHeartbeats 4000000 in
theorem p_lawStep {B b n : Nat} {w : World} (hL : LawW B b w n) (hn : (n + 1) * 16 ≤ 140737488355328) {a : Int} {s t : ByteArray} (hz : s.size < 2 ^ 62) :
  Calls Tryz.prog 7 #[.pointer (some ⟨b, 0, none⟩), .agg #[.int .i64 1, .int .i64 a, .string s, .string t]] w fun e w' => e = .returned (.bool true) ∧ (∃ n', LawW B b w' n' ∧ n' ≤ n + 1 ∧ ((Wk.loadSpec s).1 = 0 → n' = n + 1)) ∧ Below B w w' := by
 obtain ⟨o, ho⟩ : ∃ o : Obj, o = .cells #[.int .i64 1, .int .i64 a, .string s, .string t] 34 := ⟨_, rfl⟩
 have h1 : Below w.heap.size w (w.alloc o) := ab1 w o; have HP : Hid _ := p_both (hL.below h1) hn (k := 1) (a := a) (t := t) hz; have HBB : Hid (Below B w (w.alloc o)) := h1.mono (by have := hL.low; have := hL.lt; omega); obtain ⟨L1, hL1⟩ : ∃ L, L = (Wk.loadSpec s).1 := ⟨_, rfl⟩
 rw [← hL1] at HP ⊢; rw [ho] at HP HBB; clear hL hL1 h1 ho; go_enter Tryz.func7, Tryz.ntmps7; go_wp2_with fail; refine Calls.mono HP.out ?_; rintro e w2 ⟨rfl, hl2, hb2⟩; have HL2 : Hid _ := hl2; have HB2 : Hid (Below B w w2) := HBB.out.trans hb2; clear hl2 hb2; go_wp2_with fail; go_ret; exact ⟨rfl, HL2.out, HB2.out⟩
set_option maxRecDepth 100000 in
set_option maxHeartbeats 4000000 in
theorem p_lawLooks {B b n : Nat} {w : World} (hL : LawW B b w n) :
  Calls Tryz.prog 8 #[.pointer (some ⟨b, 0, none⟩)] w fun e w' => e = .returned (.bool true) ∧ w' = w := by
 obtain ⟨mv, xs, h1, h2⟩ := hL.box; have c2 := blk_cell (o := 2) h1 rfl; have hlt := lt_of_block h1; clear hL h1 h2; go_enter Tryz.func8, Tryz.ntmps8; go_wp2_with fail; go_loopg [3, 4] 0 (fun gk s3 s4 wr => s3 = .bool true ∧ s4 = .int .i64 0 ∧ wr = w)
 case atStart => exact ⟨rfl, rfl, rfl⟩
 case round =>
  obtain ⟨rfl, rfl, rfl⟩ := hrel; go_wp2_with fail; go_ret; exact ⟨rfl, rfl⟩
end Go.Proofs.YtbkaghlklkdmkaaGreatDoor
namespace Go.Proofs.YtbkaghlklkdmkaaGreatDoor
open Go.RowKit
attribute [local go_sem ↓] Go.wp_at_zero Go.wp_at_succ
def firstText : ByteArray := ⟨#[97, 115, 107, 32, 110, 32, 105, 110, 116, 59, 32, 108, 101, 116, 32, 109, 32, 105, 110, 116, 32, 61, 32, 110, 32, 43, 32, 49, 59]⟩
theorem firstText_loads : Wk.loadSpec firstText = (0, 0) := by decide +kernel
theorem firstText_size : firstText.size < 2 ^ 62 := by decide +kernel
structure Stp where
 k : Int
 a : Int
 s : ByteArray
 t : ByteArray
def StepsAt (w : World) (v : Value) (l : List Stp) : Prop :=
 ∃ ad cap, v = .slice ad l.length cap ∧ (0 < l.length → ∃ g o, ad = some ⟨g, o, none⟩ ∧ ∀ j x, l[j]? = some x → w.cell? ⟨g, o + j * 4, none⟩ = some (.int .i64 x.k) ∧ w.cell? ⟨g, o + j * 4 + 1, none⟩ = some (.int .i64 x.a) ∧ w.cell? ⟨g, o + j * 4 + 2, none⟩ = some (.string x.s) ∧ w.cell? ⟨g, o + j * 4 + 3, none⟩ = some (.string x.t))
set_option maxRecDepth 100000 in
set_option maxHeartbeats 8000000 in
theorem p_plays {w : World} (hG : Gl w) {sv : Value} {l : List Stp} (hS : StepsAt w sv l) (hlen : (l.length + 2) * 16 ≤ 140737488355328) (hzs : ∀ x ∈ l, x.s.size < 2 ^ 62) {kg : Nat} (hk : w.cell? ⟨kg, 0, none⟩ = some (.int .i64 1)) :
  Calls Tryz.prog 6 #[sv, .slice (some ⟨kg, 0, none⟩) 1 1] w fun e w' => e = .returned (.bool true) ∧ Below w.heap.size w w' := by
 obtain ⟨ad, cap, rfl, hcell⟩ := hS; obtain ⟨o, ho⟩ : ∃ o : Obj, o = .cells #[.slice none 0 0, .slice none 0 0, .slice none 0 0] 31 := ⟨_, rfl⟩
 have h12 := hG.size; have hb1 : Below w.heap.size w (w.alloc o) := ab1 w o; have HB1 : Hid _ := hb1; have hL1 : LawW w.heap.size w.heap.size (w.alloc o) 0 := by
  refine ⟨⟨.slice none 0 0, [], ?_, World.ownsRow_nil _ _ _ _⟩, hG.belowAll hb1, h12, Nat.le_refl _⟩; rw [ho]; exact heap_alloc_new w _
 have HP1 : Hid _ := p_lawStep hL1 (by decide) (a := 0) (t := ⟨#[]⟩) firstText_size; have HSP : Hid _ := firstText_loads; have HC : Hid _ := hcell; have HZS : Hid _ := hzs; have HK : Hid _ := hk; have hkl := cell_lt hk; rw [ho] at HP1 HB1; clear hcell hzs hk hb1 hL1 ho hG; unfold firstText at HP1 HSP; go_enter Tryz.func6, Tryz.ntmps6; go_wp2_with fail; refine Calls.mono HP1.out ?_; rintro e w2 ⟨rfl, ⟨n', hl2, -, hn1⟩, hb2⟩; have hn1 := hn1 (by rw [HSP.out]); subst hn1; have HB2 : Hid (Below w.heap.size w w2) := HB1.out.trans hb2; have HL2 : Hid _ := hl2; obtain ⟨mv, xs, hbx, hrow⟩ := hl2.box; obtain ⟨g1, cap1, rfl⟩ : ∃ g cap, mv = .slice (some ⟨g, 0, none⟩) 1 cap := by
  rcases hrow.2 with ⟨_, h0⟩ | ⟨g, cap, cur, hv, _⟩
  ·exact absurd h0 (by decide)
  ·exact ⟨g, cap, hv⟩
 have c0 := blk_cell (o := 0) hbx rfl; have cl := lt_of_block hbx; clear hl2 hb2 hbx hrow HP1 HSP; go_wp2_with fail; clear c0 cl; go_loopg [7] l.length (fun gk s7 wr => ∃ k n : Nat, k ≤ l.length ∧ l.length - k ≤ gk ∧ s7 = .int .i64 k ∧ n ≤ k + 1 ∧ Hid (LawW w.heap.size w.heap.size wr n) ∧ Hid (Below w.heap.size w wr))
 case atStart => exact ⟨0, 1, Nat.zero_le _, by omega, rfl, by omega, HL2, HB2⟩
 case round =>
  obtain ⟨k, n, hkl2, hgk, rfl, hnk, HLr, HBr⟩ := hrel; clear HL2 HB2; by_cases hlt : k < l.length
  ·have hltz : (k : Int) < (l.length : Int) := by omega
   have hk0 : (0 : Int) ≤ (k : Int) := by omega
   obtain ⟨g, o, rfl, hcs⟩ := HC.out (by omega); have hcx := hcs k _ (List.getElem?_eq_getElem hlt); have hzx := HZS.out _ (List.getElem_mem hlt); generalize (l[k]'hlt) = x at *
   have HCX : Hid _ := hcx; have HZX : Hid _ := hzx; have hgl := cell_lt hcx.1; obtain ⟨go, hgo⟩ : ∃ g : Nat, g = gk := ⟨_, rfl⟩
   subst hgo; obtain ⟨wo, hwo⟩ : ∃ W, W = wr := ⟨_, rfl⟩
   subst hwo; clear hcs hcx hzx; go_wp2_with fail; go_loopg [8, 9] 1 (fun g1 s8 s9 wp => ∃ j : Nat, j ≤ 1 ∧ 1 - j ≤ g1 ∧ s9 = .int .i64 j ∧ s8 = .bool (j == 1 && x.k == 1) ∧ Hid (Below wo.heap.size wo wp))
   case atStart => exact ⟨0, by omega, by omega, rfl, rfl, Below.refl _ _⟩
   case round =>
    obtain ⟨j, hj, hgj, rfl, rfl, HBj⟩ := hrel; obtain ⟨wp, hwp⟩ : ∃ W, W = wr := ⟨_, rfl⟩
    subst hwp; have HBW : Hid (Below w.heap.size w wp) := HBr.out.trans (HBj.out.mono HBr.out.size); have HLW : Hid _ := HLr.out.below HBj.out; rcases Nat.lt_or_ge j 1 with hj1 | hj1
    ·obtain rfl : j = 0 := by omega
     have x0 : wp.cell? ⟨g, o + k * 4, none⟩ = some (.int .i64 x.k) := (HBW.out.cell (p := ⟨g, o + k * 4, none⟩) hgl).trans HCX.out.1; have y0 : wp.cell? ⟨kg, 0, none⟩ = some (.int .i64 1) := (HBW.out.cell (p := ⟨kg, 0, none⟩) hkl).trans HK.out; have hb0 : ((0 : Nat) == 1 && x.k == 1) = false := rfl; rw [hb0]; have hg1 : 1 ≤ gk := by omega
     clear hj hgj hb0; go_wp2_with fail; go_quiet (fail)
     go_wp2_with fail; have HBn : Hid (Below wo.heap.size wo (wp.drewN nq)) := HBj.out.trans ((below_drewN wp nq).mono (by have := HBj.out.size; omega)); go_roundg 0; case measure => omega
     case rel => exact ⟨1, by omega, by omega, by go_num, by simp, HBn⟩
    ·obtain rfl : j = 1 := by omega
     have hb0 : ((1 : Nat) == 1 && x.k == 1) = (x.k == 1) := rfl; rw [hb0]; clear hj hgj hb0 hj1; by_cases hx : x.k = 1
     ·have d1 : (x.k == 1) = true := by rw [beq_iff_eq]; exact hx
      have x0 : wp.cell? ⟨g, o + k * 4, none⟩ = some (.int .i64 1) := (HBW.out.cell (p := ⟨g, o + k * 4, none⟩) hgl).trans (by rw [← hx]; exact HCX.out.1); have x1 : wp.cell? ⟨g, o + k * 4 + 1, none⟩ = some (.int .i64 x.a) := (HBW.out.cell (p := ⟨g, o + k * 4 + 1, none⟩) hgl).trans HCX.out.2.1; have x2 : wp.cell? ⟨g, o + k * 4 + 2, none⟩ = some (.string x.s) := (HBW.out.cell (p := ⟨g, o + k * 4 + 2, none⟩) hgl).trans HCX.out.2.2.1; have x3 : wp.cell? ⟨g, o + k * 4 + 3, none⟩ = some (.string x.t) := (HBW.out.cell (p := ⟨g, o + k * 4 + 3, none⟩) hgl).trans HCX.out.2.2.2; have HST : Hid _ := p_lawStep HLW.out (by omega) (a := x.a) (t := x.t) HZX.out; rw [d1]; clear hx d1; go_wp2_with fail; refine Calls.mono HST.out ?_; rintro e w5 ⟨rfl, ⟨n5, hl5, hn5, -⟩, hb5⟩; have HL5 : Hid _ := hl5; have HB5 : Hid (Below w.heap.size w w5) := HBW.out.trans hb5; clear hl5 hb5 x0 x1 x2 x3; go_wp2_with fail; refine Calls.mono (p_lawLooks HL5.out) ?_; rintro e w6 ⟨rfl, rfl⟩; go_wp2_with fail; go_roundg (l.length - (k + 1)); case measure => omega
      case rel => exact ⟨k + 1, n5, by omega, by omega, by go_num, by omega, HL5, HB5⟩
     ·have d1 : (x.k == 1) = false := by rw [beq_eq_false_iff_ne]; exact hx
      rw [d1]; clear hx d1; go_wp2_with fail; go_roundg (l.length - (k + 1)); case measure => omega
      case rel => exact ⟨k + 1, n, by omega, by omega, by go_num, by omega, HLW, HBW⟩
  ·have hltz : ¬ (k : Int) < (l.length : Int) := by omega
   go_wp2_with fail; go_ret; exact ⟨rfl, HBr.out⟩
end Go.Proofs.YtbkaghlklkdmkaaGreatDoor
namespace Go.Proofs.YtbkaghlklkdmkaaGreatDoor
open Go.RowKit
attribute [local go_sem ↓] Go.wp_at_zero Go.wp_at_succ
theorem StepsAt.below {w w' : World} {v : Value} {l : List Stp} (h : StepsAt w v l) (hb : Below w.heap.size w w') : StepsAt w' v l := by
 obtain ⟨ad, cap, h1, h2⟩ := h; refine ⟨ad, cap, h1, fun hp => ?_⟩; obtain ⟨g, o, h3, h4⟩ := h2 hp; refine ⟨g, o, h3, fun j x hj => ?_⟩; obtain ⟨a, b, c, d⟩ := h4 j x hj; exact ⟨(hb.cell (p := ⟨g, o + j * 4, none⟩) (cell_lt a)).trans a, (hb.cell (p := ⟨g, o + j * 4 + 1, none⟩) (cell_lt b)).trans b, (hb.cell (p := ⟨g, o + j * 4 + 2, none⟩) (cell_lt c)).trans c, (hb.cell (p := ⟨g, o + j * 4 + 3, none⟩) (cell_lt d)).trans d⟩
set_option maxRecDepth 100000 in
set_option maxHeartbeats 2000000 in
theorem p_Loads {w : World} (hG : Gl w) {sv : Value} {l : List Stp} (hS : StepsAt w sv l) (hlen : (l.length + 2) * 16 ≤ 140737488355328) (hzs : ∀ x ∈ l, x.s.size < 2 ^ 62) :
  Calls Tryz.prog 3 #[sv] w fun e w' => e = .returned (.bool true) ∧ Below w.heap.size w w' := by
 have h1 := ab1 w (.cells #[.int .i64 1] 3); have HP : Hid _ := p_plays (hG.belowAll h1) (hS.below h1) hlen hzs (kg := w.heap.size) (blk_cell (o := 0) (heap_alloc_new w _) rfl); have HB : Hid _ := h1; clear hG hS hlen hzs h1; go_enter Tryz.func3, Tryz.ntmps3; go_wp2_with fail; refine Calls.mono HP.out ?_; rintro e w2 ⟨rfl, hb2⟩; have HB2 : Hid (Below w.heap.size w w2) := HB.out.trans (hb2.mono HB.out.size); clear hb2; go_wp2_with fail; go_ret; exact ⟨rfl, HB2.out⟩
end Go.Proofs.YtbkaghlklkdmkaaGreatDoor
