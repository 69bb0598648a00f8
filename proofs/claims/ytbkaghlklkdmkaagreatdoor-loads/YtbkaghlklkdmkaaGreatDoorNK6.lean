/-
  The law: a script of which the steps that load are played. The law whole: Loads.
-/
import Derived.Test.YtbkaghlklkdmkaaGreatDoorNK4
set_option maxRecDepth 100000
set_option maxHeartbeats 8000000
namespace Go.Proofs.YtbkaghlklkdmkaaGreatDoor
open Go.RowKit
attribute [local go_sem ↓] Go.wp_at_zero Go.wp_at_succ
theorem p_plays {w : World} (hG : Gl w) {sv : Value} {l : List Stp} (hS : StepsAt w sv l) (hlen : (l.length + 2) * 16 ≤ 140737488355328) (hzs : ∀ x ∈ l, x.s.size < 2 ^ 62) {kg : Nat} (hk : w.cell? ⟨kg, 0, none⟩ = some (.int .i64 1)) :
  Calls Tryz.prog 6 #[sv, .slice (some ⟨kg, 0, none⟩) 1 1] w fun e w' => e = .returned (.bool true) ∧ Below w.heap.size w w' := by
 obtain ⟨ad, cap, rfl, hcell⟩ := hS; obtain ⟨o, ho⟩ : ∃ o : Obj, o = .cells #[.slice none 0 0, .slice none 0 0, .slice none 0 0] 31 := ⟨_, rfl⟩
 have h12 := hG.size; have hb1 : Below w.heap.size w (w.alloc o) := ab1 w o; have HB1 : Hid _ := hb1; have hL1 : LawW w.heap.size w.heap.size (w.alloc o) 0 := by
  refine ⟨⟨.slice none 0 0, [], ?_, World.ownsRow_nil _ _ _ _, fun _ => rfl, fun j hj => absurd hj (Nat.not_lt_zero _)⟩, hG.belowAll hb1, h12, Nat.le_refl _⟩; rw [ho]; exact heap_alloc_new w _
 have HP1 : Hid _ := p_lawStep hL1 (by decide) (a := 0) (t := ⟨#[]⟩) firstText_size; have HSP : Hid _ := firstText_loads; have HC : Hid _ := hcell; have HZS : Hid _ := hzs; have HK : Hid _ := hk; have hkl := cell_lt hk; rw [ho] at HP1 HB1; clear hcell hzs hk hb1 hL1 ho hG; unfold firstText at HP1 HSP; go_enter Tryz.func6, Tryz.ntmps6; go_wp2_with fail; refine Calls.mono HP1.out ?_; rintro e w2 ⟨rfl, ⟨n', hl2, -, hn1⟩, hb2⟩; have hn1 := hn1 (by rw [HSP.out]); subst hn1; have HB2 : Hid (Below w.heap.size w w2) := HB1.out.trans hb2; have HL2 : Hid _ := hl2; obtain ⟨mv, xs, hbx, hrow, -⟩ := hl2.box; obtain ⟨g1, cap1, rfl⟩ : ∃ g cap, mv = .slice (some ⟨g, 0, none⟩) 1 cap := by
  rcases hrow.2 with ⟨_, h0⟩ | ⟨g, cap, cur, hv, _⟩
  ·exact absurd h0 (by decide)
  ·exact ⟨g, cap, hv⟩
 have c0 := bc 0 hbx rfl; have cl := lt_of_block hbx; clear hl2 hb2 hbx hrow HP1 HSP; go_wp2_with fail; clear c0 cl; go_loopg [7] l.length (fun gk s7 wr => ∃ k n : Nat, k ≤ l.length ∧ l.length - k ≤ gk ∧ s7 = .int .i64 k ∧ n ≤ k + 1 ∧ Hid (LawW w.heap.size w.heap.size wr n) ∧ Hid (Below w.heap.size w wr))
 case atStart => exact ⟨0, 1, Nat.zero_le _, by omega, rfl, by omega, HL2, HB2⟩
 case round =>
  obtain ⟨k, n, hkl2, hgk, rfl, hnk, HLr, HBr⟩ := hrel; clear HL2 HB2; by_cases hlt : k < l.length
  ·have hltz : (k : Int) < (l.length : Int) := by omega
   have hk0 : (0 : Int) ≤ (k : Int) := by omega
   obtain ⟨g, o, rfl, hcs⟩ := HC.out (by omega); have hcx := hcs k _ (List.getElem?_eq_getElem hlt); have hzx := HZS.out _ (List.getElem_mem hlt); generalize (l[k]'hlt) = x at *
   have HCX : Hid _ := hcx; have HZX : Hid _ := hzx; have hgl := cell_lt hcx.1; obtain ⟨go, hgo⟩ : ∃ g : Nat, g = gk := ⟨_, rfl⟩
   subst hgo; obtain ⟨wo, hwo⟩ : ∃ W, W = wr := ⟨_, rfl⟩
   subst hwo; clear hcs hcx hzx; go_wp2_with fail; go_loopg [8, 9] 1 (fun g1 s8 s9 wp => ∃ j : Nat, j ≤ 1 ∧ 1 - j ≤ g1 ∧ s9 = .int .i64 j ∧ s8 = .bool (j == 1 && x.k == 1) ∧ Hid (Below wo.heap.size wo wp))
   case atStart => exact ⟨0, by omega, by omega, rfl, rfl, Below.refl _ _⟩
   case round =>
    obtain ⟨j, hj, hgj, rfl, rfl, HBj⟩ := hrel; obtain ⟨wp, hwp⟩ : ∃ W, W = wr := ⟨_, rfl⟩
    subst hwp; have HBW : Hid (Below w.heap.size w wp) := HBr.out.trans (HBj.out.mono HBr.out.size); have HLW : Hid _ := HLr.out.below HBj.out; rcases Nat.lt_or_ge j 1 with hj1 | hj1
    ·obtain rfl : j = 0 := by omega
     have x0 : wp.cell? ⟨g, o + k * 4, none⟩ = some (.int .i64 x.k) := (HBW.out.cell (p := ⟨g, o + k * 4, none⟩) hgl).trans HCX.out.1; have y0 : wp.cell? ⟨kg, 0, none⟩ = some (.int .i64 1) := (HBW.out.cell (p := ⟨kg, 0, none⟩) hkl).trans HK.out; have hb0 : ((0 : Nat) == 1 && x.k == 1) = false := rfl; rw [hb0]; have hg1 : 1 ≤ gk := by omega
     clear hj hgj hb0; go_wp2_with fail; go_quiet (fail)
     go_wp2_with fail; have HBn : Hid (Below wo.heap.size wo (wp.drewN nq)) := HBj.out.trans ((below_drewN wp nq).mono (by have := HBj.out.size; omega)); go_roundg 0; case measure => omega
     case rel => exact ⟨1, by omega, by omega, by go_num, by simp, HBn⟩
    ·obtain rfl : j = 1 := by omega
     have hb0 : ((1 : Nat) == 1 && x.k == 1) = (x.k == 1) := rfl; rw [hb0]; clear hj hgj hb0 hj1; by_cases hx : x.k = 1
     ·have d1 : (x.k == 1) = true := by rw [beq_iff_eq]; exact hx
      have x0 : wp.cell? ⟨g, o + k * 4, none⟩ = some (.int .i64 1) := (HBW.out.cell (p := ⟨g, o + k * 4, none⟩) hgl).trans (by rw [← hx]; exact HCX.out.1); have x1 : wp.cell? ⟨g, o + k * 4 + 1, none⟩ = some (.int .i64 x.a) := (HBW.out.cell (p := ⟨g, o + k * 4 + 1, none⟩) hgl).trans HCX.out.2.1; have x2 : wp.cell? ⟨g, o + k * 4 + 2, none⟩ = some (.string x.s) := (HBW.out.cell (p := ⟨g, o + k * 4 + 2, none⟩) hgl).trans HCX.out.2.2.1; have x3 : wp.cell? ⟨g, o + k * 4 + 3, none⟩ = some (.string x.t) := (HBW.out.cell (p := ⟨g, o + k * 4 + 3, none⟩) hgl).trans HCX.out.2.2.2; have HST : Hid _ := p_lawStep HLW.out (by omega) (a := x.a) (t := x.t) HZX.out; rw [d1]; clear hx d1; go_wp2_with fail; refine Calls.mono HST.out ?_; rintro e w5 ⟨rfl, ⟨n5, hl5, hn5, -⟩, hb5⟩; have HL5 : Hid _ := hl5; have HB5 : Hid (Below w.heap.size w w5) := HBW.out.trans hb5; clear hl5 hb5 x0 x1 x2 x3; go_wp2_with fail; refine Calls.mono (p_lawLooks HL5.out) ?_; rintro e w6 ⟨rfl, rfl⟩; go_wp2_with fail; go_roundg (l.length - (k + 1)); case measure => omega
      case rel => exact ⟨k + 1, n5, by omega, by omega, by go_num, by omega, HL5, HB5⟩
     ·have d1 : (x.k == 1) = false := by rw [beq_eq_false_iff_ne]; exact hx
      rw [d1]; clear hx d1; go_wp2_with fail; go_roundg (l.length - (k + 1)); case measure => omega
      case rel => exact ⟨k + 1, n, by omega, by omega, by go_num, by omega, HLW, HBW⟩
  ·have hltz : ¬ (k : Int) < (l.length : Int) := by omega
   go_wp2_with fail; go_ret; exact ⟨rfl, HBr.out⟩
theorem p_Loads {w : World} (hG : Gl w) {sv : Value} {l : List Stp} (hS : StepsAt w sv l) (hlen : (l.length + 2) * 16 ≤ 140737488355328) (hzs : ∀ x ∈ l, x.s.size < 2 ^ 62) :
  Calls Tryz.prog 3 #[sv] w fun e w' => e = .returned (.bool true) ∧ Below w.heap.size w w' := by
 have h1 := ab1 w (.cells #[.int .i64 1] 3); have HP : Hid _ := p_plays (hG.belowAll h1) (hS.below h1) hlen hzs (kg := w.heap.size) (bc 0 (heap_alloc_new w _) rfl); have HB : Hid _ := h1; clear hG hS hlen hzs h1; go_enter Tryz.func3, Tryz.ntmps3; go_wp2_with fail; refine Calls.mono HP.out ?_; rintro e w2 ⟨rfl, hb2⟩; have HB2 : Hid (Below w.heap.size w w2) := HB.out.trans (hb2.mono HB.out.size); clear hb2; go_wp2_with fail; go_ret; exact ⟨rfl, HB2.out⟩
end Go.Proofs.YtbkaghlklkdmkaaGreatDoor
