/-
  The law: which model a step speaks of. The law: one step that prints. The law: a script of which the steps that load and those that print are played. The law whole: Prints.
-/
import Derived.Test.YtbkaghlklkdmkaaGreatDoorNK4
import Derived.Test.YtbkaghlklkdmkaaGreatDoorNX2
import Derived.Deep.Slices
set_option maxRecDepth 100000
set_option maxHeartbeats 8000000
namespace Go.Proofs.YtbkaghlklkdmkaaGreatDoor
open Go.RowKit
theorem pick_at {c : Int} {n : Nat} (hn : 1 ≤ n) : ∃ k : Nat, k < n ∧ c % (n : Int) = (k : Int) := by
 have h1 := Int.emod_nonneg c (show (n : Int) ≠ 0 by omega); have h2 := Int.emod_lt_of_pos c (show (0 : Int) < (n : Int) by omega); exact ⟨(c % (n : Int)).toNat, by omega, by omega⟩
theorem p_pick {c : Int} (hc : -9223372036854775808 ≤ c ∧ c ≤ 9223372036854775807) {n : Nat} (hn : 1 ≤ n) (hn2 : n ≤ 9223372036854775807) (w : World) :
  Calls Tryz.prog 10 #[.int .i64 c, .int .i64 n] w fun e w' => (∃ k : Nat, k < n ∧ e = .returned (.int .i64 (k : Int))) ∧ w' = w := by
 obtain ⟨h1, h2⟩ := hc; have hz : (n : Int) ≠ 0 := by omega
 by_cases h : c < 0
 ·have hw : -9223372036854775808 ≤ c + 1 ∧ c + 1 ≤ 9223372036854775807 := by omega
  have hv : -9223372036854775808 ≤ -(c + 1) ∧ -(c + 1) ≤ 9223372036854775807 := by omega
  obtain ⟨k, hk, e⟩ := pick_at (c := -(c + 1)) hn; have HE : Hid (-((c + 1).tmod (n : Int)) = (k : Int)) := by
   show _ = _; rw [← e, ← Int.tmod_eq_emod_of_nonneg (by omega), Int.neg_tmod]
  clear e; go_enter Tryz.func10, Tryz.ntmps10; go_wp2_with fail; go_ret; exact ⟨⟨k, hk, by rw [← HE.out]; rfl⟩, rfl⟩
 ·have h3 : ¬ c < 0 := h; obtain ⟨k, hk, e⟩ := pick_at (c := c) hn; have HE : Hid _ := e; clear e; go_enter Tryz.func10, Tryz.ntmps10; go_wp2_with fail; go_ret; exact ⟨⟨k, hk, by rw [← HE.out]; rfl⟩, rfl⟩
end Go.Proofs.YtbkaghlklkdmkaaGreatDoor
namespace Go.Proofs.YtbkaghlklkdmkaaGreatDoor
open Go.RowKit
attribute [local go_sem ↓] Go.wp_at_zero Go.wp_at_succ
theorem Chain.end {T : List Wk.Tok} {tg : Nat} : ∀ {l : List IR} {a z : Nat}, Chain T tg a l z → l ≠ [] → (Wk.tokK T (z - 1)).kind = 39 ∧ 1 ≤ z
 | [], _, _, _, h => absurd rfl h
 | [_], _, _, ⟨m, _, _, _, _, h1, _, h2⟩, _ => by
  have h2 : m + 1 = _ := h2; rw [← h2]; exact ⟨h1, by omega⟩
 | _ :: _ :: _, _, _, ⟨_, _, _, _, _, _, _, h2⟩, _ => h2.end (by simp)
theorem Md.prints {w : World} {a1 a2 : Nat} (h : Md w a1 a2) : ∃ R : ByteArray, (∀ w', Below w.heap.size w w' → Calls Tryz.prog 11 #[nptr a1] w' fun e w'' => e = .returned (.string R) ∧ Below w'.heap.size w' w'') ∧ ∀ w', Below w.heap.size w w' → Calls Tryz.prog 12 #[nptr a2] w' fun e w'' => e = .returned (.string R) ∧ Below w'.heap.size w' w'' := by
 obtain ⟨s, hs, h1, h2⟩ := h; have hTP := tokens_TP hs; have hl : (Wk.tokens s).length ≤ 1002 := by have := tokens_len s; omega
 have hsh := (Wk.tokens_follow s).shut; obtain ⟨g, cap, tg, irs, p1, p2, p3, p4, p5⟩ := h1; have hK := p4.most (Nat.zero_le _); have hR : (Wk.refL (Wk.tokens s) (Wk.pModel (Wk.tokens s)).1.k 0 true).length ≤ 1004004 := Nat.le_trans (refL_len _ hTP.size _ 0 true (by omega)) (Nat.le_trans (Nat.mul_le_mul_right 1002 (Nat.le_trans hK hl)) (by decide)); refine ⟨⟨(Wk.refL (Wk.tokens s) (Wk.pModel (Wk.tokens s)).1.k 0 true).toArray⟩, fun w' hb => p_print (PM.below ⟨g, cap, tg, irs, p1, p2, p3, p4, p5⟩ hb) hTP.size hl hR, fun w' hb => ?_⟩; obtain ⟨vv, tv, B, r1, r2⟩ := h2.below hb; have hz := p4.end (fun e => by rw [e] at p2; exact absurd p2.1 (by decide)); rcases r2.2 with ⟨rfl, h0⟩ | ⟨g', cap', cur, rfl, -⟩
 ·omega
 ·refine r_print r1 (fun k hk => ?_) (tokens_spelt s) hK hl (fun k hk => ?_) hTP.size
  ·have hlk : (List.range (Wk.pModel (Wk.tokens s)).1.k)[k]? = some k := List.getElem?_range hk; have key : ∀ i v, (rcells (Wk.tokK (Wk.tokens s) k))[i]? = some v → w'.cell? ⟨g', k * 3 + i, none⟩ = some v := fun i v hv => by
    have hi : i < 3 := (List.getElem?_eq_some_iff.1 hv).1; rw [r2.cellAt (k * 3 + i) (by omega)]; exact flat_at (fun j => rcells (Wk.tokK (Wk.tokens s) j)) 3 (fun _ => rfl) _ k k hlk i v hv
   exact ⟨key 0 _ rfl, key 1 _ rfl⟩
  ·rcases Nat.lt_or_ge (k + 1) (Wk.tokens s).length with h' | h'
   ·exact hsh.inner k h'
   ·rw [show k = (Wk.pModel (Wk.tokens s)).1.k - 1 by omega, hz.1]; decide
theorem p_lawPrint {B b n : Nat} {w : World} (hL : LawW B b w n) (hn : n ≤ 140737488355328) {a : Int} (ha : -9223372036854775808 ≤ a ∧ a ≤ 9223372036854775807) {s t : ByteArray} :
  Calls Tryz.prog 7 #[.pointer (some ⟨b, 0, none⟩), .agg #[.int .i64 2, .int .i64 a, .string s, .string t]] w fun e w' => e = .returned (.bool true) ∧ Below w.heap.size w w' := by
 obtain ⟨mv, xs, h1, h2, -, h4⟩ := hL.box; have hbs := lt_of_block h1; obtain ⟨ad, mc, rfl, hmc⟩ := owns_slice h2; rcases Nat.eq_zero_or_pos n with hn0 | hn1
 ·subst hn0; have c0 := bc 0 h1 rfl; clear hL h1 h2 h4; go_enter Tryz.func7, Tryz.ntmps7; go_wp2_with fail; go_ret; exact ⟨rfl, ab1 _ _⟩
 ·obtain ⟨g, rfl⟩ : ∃ g, ad = some ⟨g, 0, none⟩ := by
   rcases h2.2 with ⟨_, h0⟩ | ⟨g, cap', cur, hv, _⟩
   ·omega
   ·injection hv with hv; exact ⟨g, hv⟩
  have HCA : Hid (∀ W, Below w.heap.size w W → W.cell? ⟨b, 0, none⟩ = some (.slice (some ⟨g, 0, none⟩) n mc) ∧ ∀ j, j < n → ∃ a1 a2, W.cell? ⟨g, j * 2, none⟩ = some (nptr a1) ∧ W.cell? ⟨g, j * 2 + 1, none⟩ = some (nptr a2) ∧ Md W a1 a2) := fun W hb => by
   refine ⟨cell_same (bc 0 h1 rfl) (hb.block b hbs), fun j hj => ?_⟩; obtain ⟨a1, a2, f1, f2, f3⟩ := h4 j hj; have e1 := h2.cellAt (j * 2) (by omega); have e2 := h2.cellAt (j * 2 + 1) (by omega); rw [f1] at e1; rw [f2] at e2; exact ⟨a1, a2, cell_same e1 (hb.block g (cell_lt e1)), cell_same e2 (hb.block g (cell_lt e2)), f3.below hb⟩
  obtain ⟨f, hf⟩ := Go.Deep.choose_lt (α := Nat × Nat) (n := n) (p := fun j x => w.cell? ⟨g, j * 2, none⟩ = some (nptr x.1) ∧ w.cell? ⟨g, j * 2 + 1, none⟩ = some (nptr x.2) ∧ Md w x.1 x.2) (fun j hj => by
   obtain ⟨a1, a2, q⟩ := (HCA.out w (Below.refl _ _)).2 j hj; exact ⟨(a1, a2), q⟩)
  have HPK : Hid _ := fun W => p_pick ha hn1 (by omega) W
  have c0 := (HCA.out w (Below.refl _ _)).1; have hnz : ((n : Int) == 0) = false := by rw [beq_eq_false_iff_ne]; omega
  obtain ⟨o, ho⟩ : ∃ o : Obj, o = .cells #[.int .i64 2, .int .i64 a, .string s, .string t] 34 := ⟨_, rfl⟩
  have HB1 : Hid (Below w.heap.size w (w.alloc o)) := ab1 w o; have HS : Hid (∀ W, Below (w.alloc o).heap.size (w.alloc o) W → W.cell? ⟨b, 0, none⟩ = some (.slice (some ⟨g, 0, none⟩) n mc) ∧ W.cell? ⟨w.heap.size, 1, none⟩ = some (.int .i64 a) ∧ ∀ j, j < n → W.cell? ⟨g, j * 2, none⟩ = some (nptr (f j).1) ∧ W.cell? ⟨g, j * 2 + 1, none⟩ = some (nptr (f j).2)) := fun W hb => by
   have hbw : Below w.heap.size w W := HB1.out.trans (hb.mono HB1.out.size); refine ⟨cell_same c0 (hbw.block b hbs), ?_, fun j hj => ?_⟩
   ·have u : (w.alloc o).cell? ⟨w.heap.size, 1, none⟩ = some (.int .i64 a) := by rw [ho]; exact bc 1 (heap_alloc_new w _) rfl
    exact cell_same u (hb.block _ (by rw [sz_alloc]; omega))
   ·obtain ⟨q1, q2, -⟩ := hf j hj; exact ⟨cell_same q1 (hbw.block g (cell_lt q1)), cell_same q2 (hbw.block g (cell_lt q2))⟩
  have HO : Hid (∀ W, Below (w.alloc o).heap.size (w.alloc o) W → W.cell? ⟨w.heap.size, 0, none⟩ = some (.int .i64 2)) := fun W hb => by
   have u : (w.alloc o).cell? ⟨w.heap.size, 0, none⟩ = some (.int .i64 2) := by rw [ho]; exact bc 0 (heap_alloc_new w _) rfl
   exact cell_same u (hb.block _ (by rw [sz_alloc]; omega))
  have HMD : Hid (∀ j, j < n → Md w (f j).1 (f j).2) := fun j hj => (hf j hj).2.2
  rw [ho] at HS HB1 HO; clear hL h1 h2 h4 HCA hf ho; go_enter Tryz.func7, Tryz.ntmps7; go_upto_region 9 with fail; clear c0; generalize hW1 : w.alloc (.cells #[.int .i64 2, .int .i64 a, .string s, .string t] 34) = W1 at *
  go_cut [5] from 10 (fun v5 wc => ∃ x j : Nat, v5 = .pointer (some ⟨x, 0, none⟩) ∧ Hid (j < n) ∧ Hid (wc.heap[x]? = some (.cells #[nptr (f j).1, nptr (f j).2] 39 (0, 0))) ∧ Hid (Below W1.heap.size W1 wc))
  case first =>
   refine wp_region_ph (fun W => W.cell? ⟨b, 0, none⟩ = some (.slice (some ⟨g, 0, none⟩) n mc) ∧ W.cell? ⟨w.heap.size, 1, none⟩ = some (.int .i64 a) ∧ ∀ j, j < n → W.cell? ⟨g, j * 2, none⟩ = some (nptr (f j).1) ∧ W.cell? ⟨g, j * 2 + 1, none⟩ = some (nptr (f j).2)) 15 16 rfl (by kernel_rfl) (HS.out _ (Below.refl _ _).drew) (fun hHeld => ?_); have HX : Hid _ := hHeld; clear hHeld; refine PhS.t 0 25 HX.out ?_; refine PhS.t 1 26 HX.out ?_; refine PhS.t 2 27 HX.out ?_; refine PhS.t 3 28 HX.out ?_; refine PhS.t 4 29 HX.out ?_; refine PhS.t 5 30 HX.out ?_; refine PhS.t 6 31 HX.out ?_; refine PhS.t 7 32 HX.out ?_; refine PhS.t 8 33 HX.out ?_; refine PhS.t 9 34 HX.out ?_; refine PhS.t 10 35 HX.out ?_; have HBA : Hid (∀ x, Below W1.heap.size W1 (W1.drew.alloc x)) := fun x => (Below.refl W1.heap.size W1).drew.alloc (Nat.le_refl _) x
   refine PhS.twoL (i := 11) (j := 14) (by kernel_rfl) rfl rfl (fun K hK => ?_) (fun K hK => ?_)
   ·go_simp; refine (HPK.out _).mono ?_; rintro e w8 ⟨⟨k, hk, rfl⟩, rfl⟩; refine hK.out _ _ (fun _ => HX.out) ?_; clear hK K; try simp only [Act.put, sA, sZ, sS]
    have hkz : (k : Int) < (n : Int) := by omega
    have hk0 : (0 : Int) ≤ (k : Int) := by omega
    refine PhS.t 12 37 HX.out ?_; refine PhS.tk 13 (some 38) (v := .agg #[nptr (f k).1, nptr (f k).2]) HX.out (fun wS hSw => ?_) ?_
    ·obtain ⟨q1, q2⟩ := hSw.2.2 k hk; clear hSw; go_simp
    try simp only [Act.put, sA, sZ, sS]
    refine PhS.on 14 (fun K hK => ?_); go_simp; refine hK.out _ _ (fun _ => HS.out _ (HBA.out _)) ?_; clear hK K; try simp only [Act.put, sA, sZ, sS]
    refine PhS.on 15 (fun K hK => ?_); unfold nptr; go_simp; refine hK.out _ _ (fun h => absurd h (by decide)) ?_; clear hK K; refine PhS.done (by kernel_rfl) ?_ _; go_wp2_with fail; go_meet; exact ⟨_, k, rfl, hk, heap_alloc_new _ _, HBA.out _⟩
   ·go_simp; refine hK.out _ _ (fun _ => HS.out _ (HBA.out _)) ?_; clear hK K; try simp only [Act.put, sA, sZ, sS]
    refine PhS.on 11 (fun K hK => ?_); go_simp; refine (HPK.out _).mono ?_; rintro e w8 ⟨⟨k, hk, rfl⟩, rfl⟩; refine hK.out _ _ (fun _ => HS.out _ (HBA.out _)) ?_; clear hK K; try simp only [Act.put, sA, sZ, sS]
    have hkz : (k : Int) < (n : Int) := by omega
    have hk0 : (0 : Int) ≤ (k : Int) := by omega
    refine PhS.t 12 37 (HS.out _ (HBA.out _)) ?_; refine PhS.tk 13 (some 38) (v := .agg #[nptr (f k).1, nptr (f k).2]) (HS.out _ (HBA.out _)) (fun wS hSw => ?_) ?_
    ·obtain ⟨q1, q2⟩ := hSw.2.2 k hk; clear hSw; go_simp
    try simp only [Act.put, sA, sZ, sS]
    refine PhS.on 15 (fun K hK => ?_); unfold nptr; go_simp; refine hK.out _ _ (fun h => absurd h (by decide)) ?_; clear hK K; refine PhS.done (by kernel_rfl) ?_ _; go_wp2_with fail; go_meet; exact ⟨_, k, rfl, hk, heap_alloc_new _ _, HBA.out _⟩
  case rest =>
   obtain ⟨x, j, rfl, HJ, HX, HBc⟩ := hcut; obtain ⟨W2, hW2⟩ : ∃ W, W = wc := ⟨_, rfl⟩
   subst hW2; obtain ⟨R, hp, hr⟩ := (HMD.out j HJ.out).prints; have HB2 : Hid (Below w.heap.size w W2) := HB1.out.trans (HBc.out.mono HB1.out.size); have HP : Hid _ := hp W2 HB2.out; have HR : Hid _ := hr; have o0 := HO.out W2 HBc.out; have x0 := bc 0 HX.out rfl; clear hp hr HMD HS HPK; go_wp2_with fail; refine Calls.mono HP.out ?_; rintro e w3 ⟨rfl, hb3⟩; have HX3 : Hid (w3.heap[x]? = some (.cells #[nptr (f j).1, nptr (f j).2] 39 (0, 0))) := (hb3.block x (lt_of_block HX.out)).trans HX.out; have HB3 : Hid (Below w.heap.size w w3) := HB2.out.trans (hb3.mono HB2.out.size); have y1 := bc 1 HX3.out rfl; clear hb3 o0 x0; go_wp2_with fail; refine Calls.mono (HR.out w3 HB3.out) ?_; rintro e w4 ⟨rfl, hb4⟩; have HB4 : Hid (Below w.heap.size w w4) := HB3.out.trans (hb4.mono HB3.out.size); clear hb4; go_wp2_with fail; go_ret; exact ⟨rfl, HB4.out⟩
def inK (x : Int) : Nat → Bool
 | 0 => false
 | 1 => x == 1
 | _ => x == 1 || x == 2
theorem p_playsP {w : World} (hG : Gl w) {sv : Value} {l : List Stp} (hS : StepsAt w sv l) (hlen : (l.length + 2) * 16 ≤ 140737488355328) (hzs : ∀ x ∈ l, x.s.size < 2 ^ 62 ∧ -9223372036854775808 ≤ x.a ∧ x.a ≤ 9223372036854775807) {kg : Nat} (hk : w.cell? ⟨kg, 0, none⟩ = some (.int .i64 1)) (hk2 : w.cell? ⟨kg, 1, none⟩ = some (.int .i64 2)) :
  Calls Tryz.prog 6 #[sv, .slice (some ⟨kg, 0, none⟩) 2 2] w fun e w' => e = .returned (.bool true) ∧ Below w.heap.size w w' := by
 obtain ⟨ad, cap, rfl, hcell⟩ := hS; obtain ⟨o, ho⟩ : ∃ o : Obj, o = .cells #[.slice none 0 0, .slice none 0 0, .slice none 0 0] 31 := ⟨_, rfl⟩
 have h12 := hG.size; have hb1 : Below w.heap.size w (w.alloc o) := ab1 w o; have HB1 : Hid _ := hb1; have hL1 : LawW w.heap.size w.heap.size (w.alloc o) 0 := by
  refine ⟨⟨.slice none 0 0, [], ?_, World.ownsRow_nil _ _ _ _, fun _ => rfl, fun j hj => absurd hj (Nat.not_lt_zero _)⟩, hG.belowAll hb1, h12, Nat.le_refl _⟩; rw [ho]; exact heap_alloc_new w _
 have HP1 : Hid _ := p_lawStep hL1 (by decide) (a := 0) (t := ⟨#[]⟩) firstText_size; have HSP : Hid _ := firstText_loads; have HC : Hid _ := hcell; have HZS : Hid _ := hzs; have HK : Hid _ := hk; have HK2 : Hid _ := hk2; have hkl := cell_lt hk; rw [ho] at HP1 HB1; clear hcell hzs hk hk2 hb1 hL1 ho hG; unfold firstText at HP1 HSP; go_enter Tryz.func6, Tryz.ntmps6; go_wp2_with fail; refine Calls.mono HP1.out ?_; rintro e w2 ⟨rfl, ⟨n', hl2, -, hn1⟩, hb2⟩; have hn1 := hn1 (by rw [HSP.out]); subst hn1; have HB2 : Hid (Below w.heap.size w w2) := HB1.out.trans hb2; have HL2 : Hid _ := hl2; obtain ⟨mv, xs, hbx, hrow, -⟩ := hl2.box; obtain ⟨g1, cap1, rfl⟩ : ∃ g cap, mv = .slice (some ⟨g, 0, none⟩) 1 cap := by
  rcases hrow.2 with ⟨_, h0⟩ | ⟨g, cap, cur, hv, _⟩
  ·exact absurd h0 (by decide)
  ·exact ⟨g, cap, hv⟩
 have c0 := bc 0 hbx rfl; have cl := lt_of_block hbx; clear hl2 hb2 hbx hrow HP1 HSP; go_wp2_with fail; clear c0 cl; go_loopg [7] l.length (fun gk s7 wr => ∃ k n : Nat, k ≤ l.length ∧ l.length - k ≤ gk ∧ s7 = .int .i64 k ∧ n ≤ k + 1 ∧ Hid (LawW w.heap.size w.heap.size wr n) ∧ Hid (Below w.heap.size w wr))
 case atStart => exact ⟨0, 1, Nat.zero_le _, by omega, rfl, by omega, HL2, HB2⟩
 case round =>
  obtain ⟨k, n, hkl2, hgk, rfl, hnk, HLr, HBr⟩ := hrel; clear HL2 HB2; by_cases hlt : k < l.length
  ·have hltz : (k : Int) < (l.length : Int) := by omega
   have hk0 : (0 : Int) ≤ (k : Int) := by omega
   obtain ⟨g, o, rfl, hcs⟩ := HC.out (by omega); have hcx := hcs k _ (List.getElem?_eq_getElem hlt); have hzx := HZS.out _ (List.getElem_mem hlt); generalize (l[k]'hlt) = x at *
   have HCX : Hid _ := hcx; have HZX : Hid _ := hzx; have hgl := cell_lt hcx.1; obtain ⟨go, hgo⟩ : ∃ g : Nat, g = gk := ⟨_, rfl⟩
   subst hgo; obtain ⟨wo, hwo⟩ : ∃ W, W = wr := ⟨_, rfl⟩
   subst hwo; clear hcs hcx hzx; go_wp2_with fail; go_loopg [8, 9] 2 (fun g1 s8 s9 wp => ∃ j : Nat, j ≤ 2 ∧ 2 - j ≤ g1 ∧ s9 = .int .i64 j ∧ s8 = .bool (inK x.k j) ∧ Hid (Below wo.heap.size wo wp))
   case atStart => exact ⟨0, by omega, by omega, rfl, rfl, Below.refl _ _⟩
   case round =>
    obtain ⟨j, hj, hgj, rfl, rfl, HBj⟩ := hrel; obtain ⟨wp, hwp⟩ : ∃ W, W = wr := ⟨_, rfl⟩
    subst hwp; have HBW : Hid (Below w.heap.size w wp) := HBr.out.trans (HBj.out.mono HBr.out.size); have HLW : Hid _ := HLr.out.below HBj.out; have x0 : wp.cell? ⟨g, o + k * 4, none⟩ = some (.int .i64 x.k) := (HBW.out.cell (p := ⟨g, o + k * 4, none⟩) hgl).trans HCX.out.1; rcases (show j = 0 ∨ j = 1 ∨ j = 2 by omega) with rfl | rfl | rfl
    ·have y0 : wp.cell? ⟨kg, 0, none⟩ = some (.int .i64 1) := (HBW.out.cell (p := ⟨kg, 0, none⟩) hkl).trans HK.out; have hb0 : inK x.k 0 = false := rfl; rw [hb0]; have hg1 : 2 ≤ gk := by omega
     clear hj hgj hb0; go_wp2_with fail; go_quiet (fail)
     go_wp2_with fail; have HBn : Hid (Below wo.heap.size wo (wp.drewN nq)) := HBj.out.trans ((below_drewN wp nq).mono (by have := HBj.out.size; omega)); go_roundg 1; case measure => omega
     case rel => exact ⟨1, by omega, by omega, by go_num, by simp [inK], HBn⟩
    ·have y0 : wp.cell? ⟨kg, 1, none⟩ = some (.int .i64 2) := (HBW.out.cell (p := ⟨kg, 1, none⟩) hkl).trans HK2.out; have hb0 : inK x.k 1 = (x.k == 1) := rfl; rw [hb0]; have hg1 : 1 ≤ gk := by omega
     clear hj hgj hb0; cases d1 : (x.k == 1) with
     | true =>
      have HD : Hid _ := d1; clear d1; go_wp2_with fail; go_quiet (fail)
      go_wp2_with fail; have HBn : Hid (Below wo.heap.size wo (wp.drewN nq)) := HBj.out.trans ((below_drewN wp nq).mono (by have := HBj.out.size; omega)); go_roundg 0; case measure => omega
      case rel => exact ⟨2, by omega, by omega, by go_num, by simp [inK, HD.out], HBn⟩
     | false =>
      have HD : Hid _ := d1; clear d1; go_wp2_with fail; go_quiet (fail)
      go_wp2_with fail; have HBn : Hid (Below wo.heap.size wo (wp.drewN nq)) := HBj.out.trans ((below_drewN wp nq).mono (by have := HBj.out.size; omega)); go_roundg 0; case measure => omega
      case rel => exact ⟨2, by omega, by omega, by go_num, by simp [inK, HD.out], HBn⟩
    ·have hb0 : inK x.k 2 = (x.k == 1 || x.k == 2) := rfl; rw [hb0]; clear hj hgj hb0 x0; have x1 : wp.cell? ⟨g, o + k * 4 + 1, none⟩ = some (.int .i64 x.a) := (HBW.out.cell (p := ⟨g, o + k * 4 + 1, none⟩) hgl).trans HCX.out.2.1; have x2 : wp.cell? ⟨g, o + k * 4 + 2, none⟩ = some (.string x.s) := (HBW.out.cell (p := ⟨g, o + k * 4 + 2, none⟩) hgl).trans HCX.out.2.2.1; have x3 : wp.cell? ⟨g, o + k * 4 + 3, none⟩ = some (.string x.t) := (HBW.out.cell (p := ⟨g, o + k * 4 + 3, none⟩) hgl).trans HCX.out.2.2.2; by_cases hx : x.k = 1
     ·have d1 : (x.k == 1 || x.k == 2) = true := by rw [hx]; rfl
      have x0 : wp.cell? ⟨g, o + k * 4, none⟩ = some (.int .i64 1) := (HBW.out.cell (p := ⟨g, o + k * 4, none⟩) hgl).trans (by rw [← hx]; exact HCX.out.1); have HST : Hid _ := p_lawStep HLW.out (by omega) (a := x.a) (t := x.t) HZX.out.1; rw [d1]; clear hx d1; go_wp2_with fail; refine Calls.mono HST.out ?_; rintro e w5 ⟨rfl, ⟨n5, hl5, hn5, -⟩, hb5⟩; have HL5 : Hid _ := hl5; have HB5 : Hid (Below w.heap.size w w5) := HBW.out.trans hb5; clear hl5 hb5 x0 x1 x2 x3; go_wp2_with fail; refine Calls.mono (p_lawLooks HL5.out) ?_; rintro e w6 ⟨rfl, rfl⟩; go_wp2_with fail; go_roundg (l.length - (k + 1)); case measure => omega
      case rel => exact ⟨k + 1, n5, by omega, by omega, by go_num, by omega, HL5, HB5⟩
     ·by_cases hx2 : x.k = 2
      ·have d1 : (x.k == 1 || x.k == 2) = true := by rw [hx2]; rfl
       have x0 : wp.cell? ⟨g, o + k * 4, none⟩ = some (.int .i64 2) := (HBW.out.cell (p := ⟨g, o + k * 4, none⟩) hgl).trans (by rw [← hx2]; exact HCX.out.1); have HST : Hid _ := p_lawPrint HLW.out (by omega) HZX.out.2 (s := x.s) (t := x.t); rw [d1]; clear hx hx2 d1; go_wp2_with fail; refine Calls.mono HST.out ?_; rintro e w5 ⟨rfl, hb5⟩; have HL5 : Hid _ := HLW.out.below hb5; have HB5 : Hid (Below w.heap.size w w5) := HBW.out.trans (hb5.mono HBW.out.size); clear hb5 x0 x1 x2 x3; go_wp2_with fail; refine Calls.mono (p_lawLooks HL5.out) ?_; rintro e w6 ⟨rfl, rfl⟩; go_wp2_with fail; go_roundg (l.length - (k + 1)); case measure => omega
       case rel => exact ⟨k + 1, n, by omega, by omega, by go_num, by omega, HL5, HB5⟩
      ·have d1 : (x.k == 1 || x.k == 2) = false := by
        rw [Bool.or_eq_false_iff, beq_eq_false_iff_ne, beq_eq_false_iff_ne]; exact ⟨hx, hx2⟩
       rw [d1]; clear hx hx2 d1 x1 x2 x3; go_wp2_with fail; go_roundg (l.length - (k + 1)); case measure => omega
       case rel => exact ⟨k + 1, n, by omega, by omega, by go_num, by omega, HLW, HBW⟩
  ·have hltz : ¬ (k : Int) < (l.length : Int) := by omega
   go_wp2_with fail; go_ret; exact ⟨rfl, HBr.out⟩
theorem p_Prints {w : World} (hG : Gl w) {sv : Value} {l : List Stp} (hS : StepsAt w sv l) (hlen : (l.length + 2) * 16 ≤ 140737488355328) (hzs : ∀ x ∈ l, x.s.size < 2 ^ 62 ∧ -9223372036854775808 ≤ x.a ∧ x.a ≤ 9223372036854775807) :
  Calls Tryz.prog 4 #[sv] w fun e w' => e = .returned (.bool true) ∧ Below w.heap.size w w' := by
 have h1 := ab1 w (.cells #[.int .i64 1, .int .i64 2] 3); have HP : Hid _ := p_playsP (hG.belowAll h1) (hS.below h1) hlen hzs (kg := w.heap.size) (bc 0 (heap_alloc_new w _) rfl) (bc 1 (heap_alloc_new w _) rfl); have HB : Hid _ := h1; clear hG hS hlen hzs h1; go_enter Tryz.func4, Tryz.ntmps4; go_wp2_with fail; refine Calls.mono HP.out ?_; rintro e w2 ⟨rfl, hb2⟩; have HB2 : Hid (Below w.heap.size w w2) := HB.out.trans (hb2.mono HB.out.size); clear hb2; go_wp2_with fail; go_ret; exact ⟨rfl, HB2.out⟩
end Go.Proofs.YtbkaghlklkdmkaaGreatDoor
