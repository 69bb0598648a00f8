/-
  The checker: the output of a rule. The checker: a table. The checker: an item; the first fault. Load whole: the place of an item, the checker over a read model.
-/
import Derived.Test.YtbkaghlklkdmkaaGreatDoorNJ2
set_option maxRecDepth 100000
set_option maxHeartbeats 8000000
namespace Go.Proofs.YtbkaghlklkdmkaaGreatDoor
open Go.RowKit
attribute [local go_sem ↓] Go.wp_at_zero Go.wp_at_succ
def iw (w : World) (iv : Value) (r : IR) : World := (w.alloc (.cells #[iv] 150)).alloc (.cells #[.int .i64 r.kd, .string r.nm, .int .i64 (r.ty.1 : Nat), .int .i64 (r.ty.2.length : Nat), .string (wd r.ty 0), .string (wd r.ty 1), .string (wd r.ty 2), .string (wd r.ty 3), .string (wd r.ty 4), .string (wd r.ty 5), r.ex, .int .i64 r.po, r.cv, r.rv, r.tv] 75)
theorem iw_at {w : World} {iv : Value} {r : IR} {wr : World} (hb : Below (iw w iv r).heap.size (iw w iv r) wr) : wr.heap[w.heap.size]? = some (.cells #[iv] 150 (0, 0)) ∧ wr.heap[w.heap.size + 1]? = some (.cells #[.int .i64 r.kd, .string r.nm, .int .i64 (r.ty.1 : Nat), .int .i64 (r.ty.2.length : Nat), .string (wd r.ty 0), .string (wd r.ty 1), .string (wd r.ty 2), .string (wd r.ty 3), .string (wd r.ty 4), .string (wd r.ty 5), r.ex, .int .i64 r.po, r.cv, r.rv, r.tv] 75 (0, 0)) ∧ Below w.heap.size w wr := by
 have hs : (iw w iv r).heap.size = w.heap.size + 1 + 1 := by simp [iw]
 refine ⟨(hb.block _ (by omega)).trans (blk_alloc _ (heap_alloc_new w _)), (hb.block _ (by omega)).trans ?_, ab2l hb⟩; have := heap_alloc_new (w.alloc (.cells #[iv] 150)) (.cells #[.int .i64 r.kd, .string r.nm, .int .i64 (r.ty.1 : Nat), .int .i64 (r.ty.2.length : Nat), .string (wd r.ty 0), .string (wd r.ty 1), .string (wd r.ty 2), .string (wd r.ty 3), .string (wd r.ty 4), .string (wd r.ty 5), r.ex, .int .i64 r.po, r.cv, r.rv, r.tv] 75); rw [show (w.alloc (.cells #[iv] 150)).heap.size = w.heap.size + 1 by simp] at this; exact this
def outB (E : Wk.Env) (po : Nat) (ty : Wk.Ty) (S : Wk.Sem) : Bool := if po = 3 then (S.own E).1 != 0 && S.fits E (S.own E) else S.fits E ty
theorem p_outFits {ns : List Wk.Name} {w : World} {iv : Value} {irs : List IR} (hC : Cn ns w iv irs) {k : Nat} {S : Wk.Sem} (hT : PTr ns w (nptr k) S) (r : IR) (hty : TyW r.ty) :
  Calls Tryz.prog 148 #[.agg #[iv], nptr k, .agg #[.int .i64 r.kd, .string r.nm, .int .i64 (r.ty.1 : Nat), .int .i64 (r.ty.2.length : Nat), .string (wd r.ty 0), .string (wd r.ty 1), .string (wd r.ty 2), .string (wd r.ty 3), .string (wd r.ty 4), .string (wd r.ty 5), r.ex, .int .i64 r.po, r.cv, r.rv, r.tv]] w fun e w' => e = .returned (.bool (outB (envOf irs) r.po r.ty S)) ∧ Below w.heap.size w w' := by
 have HF : Hid (∀ w', Below w.heap.size w w' → FitsAt w' iv irs (nptr k) S) := fun w' hb => (hT w' iv irs (KeepN.below hb) (hC.below hb)).2
 have HO : Hid (∀ w', Below w.heap.size w w' → OwnAt w' iv irs (nptr k) S) := fun w' hb => (hT w' iv irs (KeepN.below hb) (hC.below hb)).1
 have HTY : Hid _ := hty; obtain ⟨u1, u2, hbw⟩ := iw_at (w := w) (iv := iv) (r := r) (Below.refl _ _); have HBW : Hid _ := hbw; clear hC hT hty hbw; by_cases h3 : r.po = 3
 ·have d3 : ((r.po : Int) != 3) = false := by rw [bne_eq_false_iff_eq]; omega
  obtain ⟨ot, hot⟩ : ∃ o, o = S.own (envOf irs) := ⟨_, rfl⟩
  obtain ⟨R, hR⟩ : ∃ R, R = outB (envOf irs) r.po r.ty S := ⟨_, rfl⟩
  rw [← hR]; have HR : Hid (R = (ot.1 != 0 && S.fits (envOf irs) ot)) := by
   show _ = _; rw [hR, hot]; unfold outB; rw [if_pos h3]
  have hown := HO.out _ HBW.out; unfold OwnAt at hown; rw [← hot] at hown; have HOW : Hid _ := hown.1; have HOT : Hid (TyW ot) := hown.2; clear hR hot hown h3 u1 u2; generalize hfv : S.fits (envOf irs) ot = fv at *
  have HFV : Hid _ := hfv; clear hfv; unfold iw at HOW; go_enter Tryz.func148, Tryz.ntmps148; go_wp2_with fail; refine Calls.mono HOW.out ?_; rintro e w2 ⟨rfl, hb2⟩; have hb2 : Below (iw w iv r).heap.size (iw w iv r) w2 := hb2; obtain ⟨u1, u2, hbw2⟩ := iw_at hb2; have HB2 : Hid _ := hbw2; have c0 := bc 0 u1 rfl; have hl2 := lt_of_block u1; clear hb2 hbw2 u1 u2; unfold tyV; by_cases h0 : ot.1 = 0
  ·have d0 : ((ot.1 : Int) != 0) = false := by rw [bne_eq_false_iff_eq]; omega
   have HE : Hid (R = false) := by
    show _ = _; rw [HR.out, h0]; rfl
   clear h0; go_wp2_with fail; go_ret; exact ⟨by rw [HE.out]; rfl, HB2.out.alloc HB2.out.size _⟩
  ·have d0 : ((ot.1 : Int) != 0) = true := by rw [bne_iff_ne]; omega
   have HE : Hid (R = fv) := by
    show _ = _; rw [HR.out, show (ot.1 != 0) = true by rw [bne_iff_ne]; exact h0]; rfl
   have HFC : Hid (∀ x, Calls Tryz.prog 110 #[.agg #[iv], nptr k, tyV ot] (w2.alloc x) fun e w' => e = .returned (.bool fv) ∧ Below (w2.alloc x).heap.size (w2.alloc x) w') := fun x => by
    have := HF.out (w2.alloc x) (HB2.out.alloc HB2.out.size x) ot HOT.out; rw [HFV.out] at this; exact this
   unfold tyV at HFC; clear h0; go_wp2_with fail; refine Calls.mono (HFC.out _) ?_; rintro e w3 ⟨rfl, hb3⟩; have HB3 : Hid (Below w.heap.size w w3) := (HB2.out.alloc HB2.out.size _).trans (hb3.mono (HB2.out.alloc HB2.out.size _).size); clear hb3; go_wp2_with fail; go_ret; exact ⟨by rw [HE.out]; rfl, HB3.out⟩
 ·have d3 : ((r.po : Int) != 3) = true := by rw [bne_iff_ne]; omega
  obtain ⟨R, hR⟩ : ∃ R, R = outB (envOf irs) r.po r.ty S := ⟨_, rfl⟩
  rw [← hR]; have HR : Hid (S.fits (envOf irs) r.ty = R) := by
   show _ = _; rw [hR]; unfold outB; rw [if_neg h3]
  have HFC : Hid _ := HF.out _ HBW.out r.ty HTY.out; rw [HR.out] at HFC; clear hR h3 u1 u2; unfold iw tyV at HFC; go_enter Tryz.func148, Tryz.ntmps148; go_wp2_with fail; refine Calls.mono HFC.out ?_; rintro e w2 ⟨rfl, hb2⟩; have hb2 : Below (iw w iv r).heap.size (iw w iv r) w2 := hb2; have HB2 : Hid (Below w.heap.size w w2) := (iw_at hb2).2.2; clear hb2; go_wp2_with fail; go_ret; exact ⟨rfl, HB2.out⟩
theorem ur_cells {w : World} {B g cap : Nat} {rs : List UR} (h : w.ownsRow B 256 2 (.slice (some ⟨g, 0, none⟩) rs.length cap) rs.length (UR.flat rs)) {k : Nat} {r : UR} (hk : rs[k]? = some r) : w.cell? ⟨g, k * 2, none⟩ = some (.slice r.ad r.n r.cc) ∧ w.cell? ⟨g, k * 2 + 1, none⟩ = some (nptr r.k) := by
 have hkl := (List.getElem?_eq_some_iff.1 hk).1; have key : ∀ i v, (UR.cells r)[i]? = some v → w.cell? ⟨g, k * 2 + i, none⟩ = some v := by
  intro i v hv; have hi : i < 2 := (List.getElem?_eq_some_iff.1 hv).1; rw [h.cellAt (k * 2 + i) (by omega)]; exact flat_at UR.cells 2 (fun _ => rfl) rs k _ hk i v hv
 exact ⟨key 0 _ rfl, key 1 _ rfl⟩
def ruleB (E : Wk.Env) (po : Nat) (ty : Wk.Ty) (cols : List (Wk.Name × Nat)) (ru : Wk.PRule) : Bool := Wk.cellsFit E ru.cells cols && outB E po ty ru.out
theorem tf_ways (a b : Bool) : (a = false ∧ b = false) ∨ (a = false ∧ b = true) ∨ a = true := by cases a <;> cases b <;> simp
theorem p_tableFits {ns : List Wk.Name} {w : World} {iv : Value} {irs : List IR} (hC : Cn ns w iv irs) (r : IR) (hty : TyW r.ty) {ad1 : Option Addr} {cc1 : Nat} {is : List Int} {ad2 : Option Addr} {cc2 : Nat} {us : List UR} {rules : List Wk.PRule} {cols : List (Wk.Name × Nat)} (hcv : r.cv = .slice ad1 is.length cc1) (hrv : r.rv = .slice ad2 us.length cc2)
  (hcr : w.ownsRow 0 3 1 (.slice ad1 is.length cc1) is.length (is.map (Value.int .i64))) (his : is = cols.map (fun y => Wk.idx y.1 ns)) (hkn : ∀ x ∈ cols, ns.contains x.1 = true)
  (hrr : w.ownsRow 0 256 2 (.slice ad2 us.length cc2) us.length (UR.flat us)) (hus : us.length ≤ 8) (hP : Pairs (UR.ok ns w) us rules) (hkr : ∀ ru ∈ rules, (∀ x ∈ ru.out.names, ns.contains x.1 = true) ∧ ru.cells.length ≤ cols.length ∧ ru.cells.length ≤ 3) :
  Calls Tryz.prog 111 #[.agg #[iv], .agg #[.int .i64 r.kd, .string r.nm, .int .i64 (r.ty.1 : Nat), .int .i64 (r.ty.2.length : Nat), .string (wd r.ty 0), .string (wd r.ty 1), .string (wd r.ty 2), .string (wd r.ty 3), .string (wd r.ty 4), .string (wd r.ty 5), r.ex, .int .i64 r.po, r.cv, r.rv, r.tv]] w fun e w' => e = .returned (.bool ((r.po == 0 || r.po == 1 || r.ty.1 == 1) && rules.all (ruleB (envOf irs) r.po r.ty cols))) ∧ Below w.heap.size w w' := by
 obtain ⟨kd, nm, ty, ex, po, cv, rv, tv⟩ := r; simp only [] at hcv hrv hty; subst hcv; subst hrv; simp only []; obtain ⟨R, hR⟩ : ∃ R, R = ((po == 0 || po == 1 || ty.1 == 1) && rules.all (ruleB (envOf irs) po ty cols)) := ⟨_, rfl⟩
 rw [← hR]; have HR : Hid _ := hR; have HC : Hid (Cn ns w iv irs) := hC; have HTY : Hid (TyW ty) := hty; have HCR : Hid (w.ownsRow 0 3 1 (.slice ad1 is.length cc1) is.length (is.map (Value.int .i64))) := hcr; have HRR : Hid (w.ownsRow 0 256 2 (.slice ad2 us.length cc2) us.length (UR.flat us)) := hrr; have HP : Hid (Pairs (UR.ok ns w) us rules) := hP; have HIS : Hid _ := his; have HLC : Hid (is.length = cols.length) := by show _ = _; rw [his, List.length_map]
 have HKN : Hid _ := hkn; have HKR : Hid _ := hkr; have HAT : Hid (∀ wr, Below (iw w iv (⟨kd, nm, ty, ex, po, .slice ad1 is.length cc1, .slice ad2 us.length cc2, tv⟩ : IR)).heap.size (iw w iv (⟨kd, nm, ty, ex, po, .slice ad1 is.length cc1, .slice ad2 us.length cc2, tv⟩ : IR)) wr → wr.cell? ⟨w.heap.size, 0, none⟩ = some iv ∧ (∀ i v, (#[.int .i64 kd, .string nm, .int .i64 (ty.1 : Nat), .int .i64 (ty.2.length : Nat), .string (wd ty 0), .string (wd ty 1), .string (wd ty 2), .string (wd ty 3), .string (wd ty 4), .string (wd ty 5), ex, .int .i64 po, .slice ad1 is.length cc1, .slice ad2 us.length cc2, tv] : Array Value)[i]? = some v → wr.cell? ⟨w.heap.size + 1, i, none⟩ = some v) ∧ Below w.heap.size w wr) := fun wr hb => by
  obtain ⟨u1, u2, h3⟩ := iw_at hb; exact ⟨blk_cell u1 rfl, fun i v hv => blk_cell u2 hv, h3⟩
 clear hC hty hcr hrr hP his hkn hkr hR; rcases tf_ways (po == 0 || po == 1) (ty.1 == 1) with ⟨hni, h1⟩ | ⟨hni, h1⟩ | hni
 ·have HE : Hid (R = false) := by
   show _ = _; rw [HR.out, hni, h1]; rfl
  have d1 : ((ty.1 : Int) != 1) = true := by rw [beq_eq_false_iff_ne] at h1; rw [bne_iff_ne]; omega
  have HNI : Hid _ := hni; clear hni h1; go_enter Tryz.func111, Tryz.ntmps111; go_wp2_with fail; refine (p_needsInt po _).mono ?_; rintro e w2 ⟨rfl, rfl⟩; rw [HNI.out]; go_wp2_with fail; go_ret; exact ⟨by rw [HE.out]; rfl, ab2 _ _ _⟩
 have HE : Hid (R = (rules.drop 0).all (ruleB (envOf irs) po ty cols)) := by
  show _ = _; rw [HR.out, hni, h1]; rfl
 have d1 : ((ty.1 : Int) != 1) = false := by rw [beq_iff_eq] at h1; rw [bne_eq_false_iff_eq]; omega
 have HNI : Hid _ := hni; clear hni h1; rotate_left; have HE : Hid (R = (rules.drop 0).all (ruleB (envOf irs) po ty cols)) := by
  show _ = _; rw [HR.out, hni]; rfl
 have HNI : Hid _ := hni; clear hni; rotate_left; all_goals (
  go_enter Tryz.func111, Tryz.ntmps111; go_wp2_with fail; refine (p_needsInt po _).mono ?_; rintro e w2 ⟨rfl, rfl⟩; rw [HNI.out]; go_wp2_with fail; go_loopg [19] us.length (fun gk s19 wr => ∃ k : Nat, k ≤ us.length ∧ us.length - k ≤ gk ∧ s19 = .int .i64 k ∧ Hid (Below (iw w iv (⟨kd, nm, ty, ex, po, .slice ad1 is.length cc1, .slice ad2 us.length cc2, tv⟩ : IR)).heap.size (iw w iv (⟨kd, nm, ty, ex, po, .slice ad1 is.length cc1, .slice ad2 us.length cc2, tv⟩ : IR)) wr) ∧ Hid (R = (rules.drop k).all (ruleB (envOf irs) po ty cols)))
  case atStart => exact ⟨0, Nat.zero_le _, by omega, rfl, Below.refl _ _, HE⟩
  case round =>
   obtain ⟨k, hk, hg, rfl, HB, HRk⟩ := hrel; clear HE; obtain ⟨ci, ca, hbw⟩ := HAT.out wr HB.out; have HBW : Hid (Below w.heap.size w wr) := hbw; by_cases hlt : k < us.length
   ·have hltz : (k : Int) < (us.length : Int) := by omega
    have hk0 : (0 : Int) ≤ (k : Int) := by omega
    obtain ⟨gu, rfl⟩ := (row_form HRR.out).2.1 (by omega); have huk : us[k]? = some (us[k]'hlt) := List.getElem?_eq_getElem hlt; have hlr : k < rules.length := by have := HP.out.1; omega
    have hrk : rules[k]? = some (rules[k]'hlr) := List.getElem?_eq_getElem hlr; have hok := HP.out.2 k _ _ huk hrk; have hkk := HKR.out _ (List.getElem_mem hlr); obtain ⟨e0, e1⟩ := ur_cells (owns_below HRR.out hbw) huk; have HRS : Hid (R = (ruleB (envOf irs) po ty cols (rules[k]'hlr) && (rules.drop (k + 1)).all (ruleB (envOf irs) po ty cols))) := by
     show _ = _; rw [HRk.out, List.drop_eq_getElem_cons hlr, List.all_cons]
    obtain ⟨⟨rs, hr1, hr2⟩, hnode⟩ := hok; have hfm := row_form hr2; have HCF : Hid (∀ W, Below w.heap.size w W → Calls Tryz.prog 147 #[.agg #[iv], .slice (us[k]'hlt).ad (us[k]'hlt).n (us[k]'hlt).cc, .slice ad1 is.length cc1] W fun e w' => e = .returned (.bool (Wk.cellsFit (envOf irs) (rules[k]'hlr).cells cols)) ∧ Below W.heap.size W w') := fun W hW => by
     rw [hfm.1]; rw [hfm.1] at hr2; have hl1 : rs.length = (rules[k]'hlr).cells.length := hr1.1; have hl2 := HLC.out; exact p_cellsFit (HC.out.below hW) (hr1.imp (fun _ _ x => x.keep (us := [285]) (KeepS.below hW _) (by decide))) (owns_below hr2 hW) (by omega) (owns_below HCR.out hW) HIS.out HKN.out (by omega)
    have HOF : Hid (∀ W, Below w.heap.size w W → Calls Tryz.prog 148 #[.agg #[iv], nptr (us[k]'hlt).k, .agg #[.int .i64 kd, .string nm, .int .i64 (ty.1 : Nat), .int .i64 (ty.2.length : Nat), .string (wd ty 0), .string (wd ty 1), .string (wd ty 2), .string (wd ty 3), .string (wd ty 4), .string (wd ty 5), ex, .int .i64 po, .slice ad1 is.length cc1, .slice (some ⟨gu, 0, none⟩) us.length cc2, tv]] W fun e w' => e = .returned (.bool (outB (envOf irs) po ty (rules[k]'hlr).out)) ∧ Below W.heap.size W w') := fun W hW =>
     p_outFits (HC.out.below hW) ((hnode hkk.1).keep (KeepN.below hW)) (⟨kd, nm, ty, ex, po, .slice ad1 is.length cc1, .slice (some ⟨gu, 0, none⟩) us.length cc2, tv⟩ : IR) HTY.out
    unfold ruleB at HRS; generalize Wk.cellsFit (envOf irs) (rules[k]'hlr).cells cols = cf at *
    generalize outB (envOf irs) po ty (rules[k]'hlr).out = of at *
    generalize (us[k]'hlt) = u at *
    have a0 := ca 0 _ rfl; have a1 := ca 1 _ rfl; have a2 := ca 2 _ rfl; have a3 := ca 3 _ rfl; have a4 := ca 4 _ rfl; have a5 := ca 5 _ rfl; have a6 := ca 6 _ rfl; have a7 := ca 7 _ rfl; have a8 := ca 8 _ rfl; have a9 := ca 9 _ rfl; have a10 := ca 10 _ rfl; have a11 := ca 11 _ rfl; have a12 := ca 12 _ rfl; have a13 := ca 13 _ rfl; have a14 := ca 14 _ rfl; have hiwl := cell_lt ci; have hial := cell_lt a0; clear ca hr1 hr2 hnode hfm hkk huk hrk hbw; cases cf with
    | false =>
     have HEE : Hid (R = false) := by
      show _ = _; rw [HRS.out]; rfl
     go_wp2_with fail; refine Calls.mono (HCF.out _ (HBW.out.alloc HBW.out.size _)) ?_; rintro e w5 ⟨rfl, hb5⟩; have HB5 : Hid (Below w.heap.size w w5) := (HBW.out.alloc HBW.out.size _).trans (hb5.mono (HBW.out.alloc HBW.out.size _).size); clear hb5; go_wp2_with fail; go_ret; exact ⟨by rw [HEE.out]; rfl, HB5.out⟩
    | true =>
     go_wp2_with fail; refine Calls.mono (HCF.out _ (HBW.out.alloc HBW.out.size _)) ?_; rintro e w5 ⟨rfl, hb5⟩; have hB5 : Below (iw w iv (⟨kd, nm, ty, ex, po, .slice ad1 is.length cc1, .slice (some ⟨gu, 0, none⟩) us.length cc2, tv⟩ : IR)).heap.size (iw w iv (⟨kd, nm, ty, ex, po, .slice ad1 is.length cc1, .slice (some ⟨gu, 0, none⟩) us.length cc2, tv⟩ : IR)) w5 := (HB.out.alloc HB.out.size _).trans (hb5.mono (HB.out.alloc HB.out.size _).size); have HB5 : Hid _ := hB5; obtain ⟨ci5, ca5, hbw5⟩ := HAT.out w5 hB5; have HBW5 : Hid (Below w.heap.size w w5) := hbw5; have ub := (hb5.block wr.heap.size (by simp)).trans (heap_alloc_new wr _); have b0 := bc 0 ub rfl; have b1 := bc 1 ub rfl; have d0 := ca5 0 _ rfl; have d1 := ca5 1 _ rfl; have d2 := ca5 2 _ rfl; have d3 := ca5 3 _ rfl; have d4 := ca5 4 _ rfl; have d5 := ca5 5 _ rfl; have d6 := ca5 6 _ rfl; have d7 := ca5 7 _ rfl; have d8 := ca5 8 _ rfl; have d9 := ca5 9 _ rfl; have d10 := ca5 10 _ rfl; have d11 := ca5 11 _ rfl; have d12 := ca5 12 _ rfl; have d13 := ca5 13 _ rfl; have d14 := ca5 14 _ rfl; clear hb5 hB5 ca5 hbw5 ub; cases of with
     | false =>
      have HEE : Hid (R = false) := by
       show _ = _; rw [HRS.out]; rfl
      go_wp2_with fail; refine Calls.mono (HOF.out _ HBW5.out) ?_; rintro e w6 ⟨rfl, hb6⟩; have HB6 : Hid (Below w.heap.size w w6) := HBW5.out.trans (hb6.mono HBW5.out.size); clear hb6; go_wp2_with fail; go_ret; exact ⟨by rw [HEE.out]; rfl, HB6.out⟩
     | true =>
      go_wp2_with fail; refine Calls.mono (HOF.out _ HBW5.out) ?_; rintro e w6 ⟨rfl, hb6⟩; have HB6 : Hid (Below (iw w iv (⟨kd, nm, ty, ex, po, .slice ad1 is.length cc1, .slice (some ⟨gu, 0, none⟩) us.length cc2, tv⟩ : IR)).heap.size (iw w iv (⟨kd, nm, ty, ex, po, .slice ad1 is.length cc1, .slice (some ⟨gu, 0, none⟩) us.length cc2, tv⟩ : IR)) w6) := HB5.out.trans (hb6.mono HB5.out.size); clear hb6; go_wp2_with fail; go_roundg (us.length - (k + 1)); case measure => omega
      case rel => exact ⟨k + 1, by omega, by omega, by go_num, HB6, HRS⟩
   ·have hltz : ¬ (k : Int) < (us.length : Int) := by omega
    have HEE : Hid (R = true) := by
     show _ = _; rw [HRk.out, List.drop_eq_nil_of_le (by have := HP.out.1; omega)]; rfl
    go_wp2_with fail; go_ret; exact ⟨by rw [HEE.out]; rfl, HBW.out⟩)
def shortRules (it : Wk.PItem) : Prop := ∀ ru ∈ it.rules, ru.cells.length ≤ it.cols.length ∧ ru.cells.length ≤ 3
theorem stray_flat {ns : List Wk.Name} {l : List Wk.PRule} (h : Wk.stray ns (l.map (·.out.names)).flatten = none) : ∀ ru ∈ l, ∀ x ∈ ru.out.names, ns.contains x.1 = true := by
 intro ru hru x hx; exact Wk.stray_none h x (List.mem_flatten.2 ⟨_, List.mem_map.2 ⟨ru, hru, rfl⟩, hx⟩)
theorem p_itemFits {c : Cx} {w : World} {iv : Value} {irs : List IR} (hC : Cn c.ns w iv irs) {r : IR} {it : Wk.PItem} (hok : bodyOK c w r it) (hst : Wk.itemStray c.ns it = none) (hsh : shortRules it) (hty : TyW r.ty) (hwt : it.what ≤ 2) :
  Calls Tryz.prog 65 #[.agg #[iv], .agg #[.int .i64 r.kd, .string r.nm, .int .i64 (r.ty.1 : Nat), .int .i64 (r.ty.2.length : Nat), .string (wd r.ty 0), .string (wd r.ty 1), .string (wd r.ty 2), .string (wd r.ty 3), .string (wd r.ty 4), .string (wd r.ty 5), r.ex, .int .i64 r.po, r.cv, r.rv, r.tv]] w fun e w' => e = .returned (.bool (Wk.itemFits (envOf irs) it)) ∧ Below w.heap.size w w' := by
 rw [Wk.itemStray_eq] at hst; have h1 := (Wk.or_none hst).2; have h2 := Wk.or_none h1; have h3 := Wk.or_none h2.2; have hbw : Below w.heap.size w (iw w iv r) := (iw_at (Below.refl _ _)).2.2; have HBW : Hid _ := hbw; have hkd := hok.kd; obtain ⟨R, hR⟩ : ∃ R, R = Wk.itemFits (envOf irs) it := ⟨_, rfl⟩
 rw [← hR]; by_cases w1 : it.what = 1
 ·obtain ⟨k, hex, hnode⟩ := hok.ex w1; have hpt := hnode (Wk.stray_none h3.1); have hf := (hpt (iw w iv r) iv irs (KeepN.below hbw) (hC.below hbw)).2 r.ty hty; have he : it.expr.fits (envOf irs) r.ty = R := by
   rw [hR, hok.ty]; unfold Wk.itemFits; rw [if_neg (by omega), if_pos w1]
  rw [he, ← hex] at hf; have HF : Hid (Calls Tryz.prog 110 #[.agg #[iv], r.ex, tyV r.ty] (iw w iv r) fun e w' => e = .returned (.bool R) ∧ Below (iw w iv r).heap.size (iw w iv r) w') := hf; have d1 : ((r.kd : Int) == 1) = true := by rw [beq_iff_eq]; omega
  clear hC hok hst h1 h2 h3 hsh hbw hR hkd hwt w1 hnode hpt hf he hty hex; unfold iw tyV at HF; go_enter Tryz.func65, Tryz.ntmps65; go_wp2_with fail; refine Calls.mono HF.out ?_; rintro e w2 ⟨rfl, hb2⟩; have HB2 : Hid (Below w.heap.size w w2) := (iw_at (w := w) (iv := iv) (r := r) hb2).2.2; clear hb2; go_wp2_with fail; go_ret; exact ⟨rfl, HB2.out⟩
 ·have d1 : ((r.kd : Int) == 1) = false := by rw [beq_eq_false_iff_ne]; omega
  by_cases w2 : it.what = 2
  ·obtain ⟨ad1, cc1, is, ad2, cc2, us, a1, a2, a3, a4, a5, a6, a7, a8, a9, a10, a11⟩ := hok.tb w2; have hcols := a7 h2.1; have HF : Hid _ := p_tableFits (hC.below hbw) r hty a1 a2 (owns_below a9 hbw) hcols (Wk.strayCols_none h2.1) (owns_below a10 hbw) a4 (a11.imp (fun _ _ x => x.keep (us := [285, 264, 246, 70]) (KeepS.below hbw _) (by decide) (by decide) (by decide) (by decide))) (fun ru hru => ⟨stray_flat h3.2 ru hru, hsh ru hru⟩); have he : ((r.po == 0 || r.po == 1 || r.ty.1 == 1) && it.rules.all (ruleB (envOf irs) r.po r.ty it.cols)) = R := by
    rw [hR, hok.ty]; unfold Wk.itemFits; rw [if_neg (by omega), if_neg w1]
    congr 1
    ·rw [a5]
     congr 1
     congr 1
     ·rw [Bool.eq_iff_iff, beq_iff_eq, beq_iff_eq]; omega
     ·rw [Bool.eq_iff_iff, beq_iff_eq, beq_iff_eq]; omega
    ·congr 1
     funext ru
     unfold ruleB outB Wk.outFits
     congr 1
     by_cases h3 : r.po = 3
     ·rw [if_pos h3, if_pos (by omega)]
     ·rw [if_neg h3, if_neg (by omega)]
   rw [he] at HF; have d2 : ((r.kd : Int) == 2) = true := by rw [beq_iff_eq]; omega
   clear hC hok hst h1 h2 h3 hsh hbw hR hkd hwt w1 w2 he hty a1 a2 a3 a4 a5 a6 a7 a8 a9 a10 a11 hcols; unfold iw at HF; go_enter Tryz.func65, Tryz.ntmps65; go_wp2_with fail; refine Calls.mono HF.out ?_; rintro e w2 ⟨rfl, hb2⟩; have HB2 : Hid (Below w.heap.size w w2) := (iw_at (w := w) (iv := iv) (r := r) hb2).2.2; clear hb2; go_wp2_with fail; go_ret; exact ⟨rfl, HB2.out⟩
  ·have d2 : ((r.kd : Int) == 2) = false := by rw [beq_eq_false_iff_ne]; omega
   have HE : Hid (R = true) := by
    show _ = _; rw [hR]; unfold Wk.itemFits; rw [if_pos (by omega)]
   clear hC hok hst h1 h2 h3 hsh hbw hR hkd hwt w1 w2 hty; go_enter Tryz.func65, Tryz.ntmps65; go_wp2_with fail; go_ret; exact ⟨by rw [HE.out]; rfl, ab2 _ _ _⟩
def ffFrom (E : Wk.Env) : List Wk.PItem → Nat → Int
 | [], _ => -1
 | it :: l, k => if Wk.itemFits E it then ffFrom E l (k + 1) else (k : Int)
theorem p_firstFault {w : World} {iv : Value} {irs : List IR} (hI : ItemsAt w iv irs) {items : List Wk.PItem} (hl : irs.length = items.length)
  (hF : ∀ (j : Nat) (it : Wk.PItem), items[j]? = some it → ∃ r, irs[j]? = some r ∧ (r.ex.oneCell' = true ∧ r.cv.oneCell' = true ∧ r.rv.oneCell' = true ∧ r.tv.oneCell' = true) ∧ ∀ w', Below w.heap.size w w' → Calls Tryz.prog 65 #[.agg #[iv], .agg #[.int .i64 r.kd, .string r.nm, .int .i64 (r.ty.1 : Nat), .int .i64 (r.ty.2.length : Nat), .string (wd r.ty 0), .string (wd r.ty 1), .string (wd r.ty 2), .string (wd r.ty 3), .string (wd r.ty 4), .string (wd r.ty 5), r.ex, .int .i64 r.po, r.cv, r.rv, r.tv]] w' fun e w'' => e = .returned (.bool (Wk.itemFits (envOf irs) it)) ∧ Below w'.heap.size w' w'') :
  Calls Tryz.prog 43 #[iv] w fun e w' => e = .returned (.int .i64 (ffFrom (envOf irs) items 0)) ∧ Below w.heap.size w w' := by
 obtain ⟨gi, icap, hiv, hic, hcell⟩ := hI.ex; subst hiv; obtain ⟨R, hR⟩ : ∃ R, R = ffFrom (envOf irs) items 0 := ⟨_, rfl⟩
 rw [← hR]; have HR : Hid (R = ffFrom (envOf irs) (items.drop 0) 0) := hR; have HF : Hid _ := hF; have HC : Hid _ := hcell; have HL : Hid _ := hl; have hfew := hI.few; clear hI hF hcell hl hR; go_enter Tryz.func43, Tryz.ntmps43; go_wp2_with fail; go_loopg [10] irs.length (fun gk s10 wr => ∃ k : Nat, k ≤ irs.length ∧ irs.length - k ≤ gk ∧ s10 = .int .i64 k ∧ Hid (Below (w.alloc (.cells #[.slice (some ⟨gi, 0, none⟩) irs.length icap] 150)).heap.size (w.alloc (.cells #[.slice (some ⟨gi, 0, none⟩) irs.length icap] 150)) wr) ∧ Hid (R = ffFrom (envOf irs) (items.drop k) k))
 case atStart => exact ⟨0, Nat.zero_le _, by omega, rfl, Below.refl _ _, HR⟩
 case round =>
  obtain ⟨k, hk, hg, rfl, HB, HRk⟩ := hrel; clear HR; have hbw : Below w.heap.size w wr := (ab1 _ _).trans (HB.out.mono (ab1 _ _).size); have HBW : Hid (Below w.heap.size w wr) := hbw; by_cases hlt : k < irs.length
  ·have hltz : (k : Int) < (irs.length : Int) := by omega
   have hk0 : (0 : Int) ≤ (k : Int) := by omega
   have hli : k < items.length := by have := HL.out; omega
   obtain ⟨r, hr, hone, hfit⟩ := HF.out k _ (List.getElem?_eq_getElem hli); have s10 : ∀ (w : World) (p : Addr), Sem.run Tryz.prog (store p r.ex) w = stored Tryz.prog w p r.ex .plain := fun w p => run_store _ _ _ _ _ hone.1
   have s12 : ∀ (w : World) (p : Addr), Sem.run Tryz.prog (store p r.cv) w = stored Tryz.prog w p r.cv .plain := fun w p => run_store _ _ _ _ _ hone.2.1
   have s13 : ∀ (w : World) (p : Addr), Sem.run Tryz.prog (store p r.rv) w = stored Tryz.prog w p r.rv .plain := fun w p => run_store _ _ _ _ _ hone.2.2.1
   have s14 : ∀ (w : World) (p : Addr), Sem.run Tryz.prog (store p r.tv) w = stored Tryz.prog w p r.tv .plain := fun w p => run_store _ _ _ _ _ hone.2.2.2
   have cells : ∀ i v, r.cells[i]? = some v → wr.cell? ⟨gi, k * 15 + i, none⟩ = some v := fun i v hv => by
    have := HC.out k r hr i v hv; exact (hbw.cell (p := ⟨gi, k * 15 + i, none⟩) (cell_lt this)).trans this
   have c0 := cells 0 _ rfl; have c1 := cells 1 _ rfl; have c2 := cells 2 _ rfl; have c3 := cells 3 _ rfl; have c4 := cells 4 _ rfl; have c5 := cells 5 _ rfl; have c6 := cells 6 _ rfl; have c7 := cells 7 _ rfl; have c8 := cells 8 _ rfl; have c9 := cells 9 _ rfl; have c10 := cells 10 _ rfl; have c11 := cells 11 _ rfl; have c12 := cells 12 _ rfl; have c13 := cells 13 _ rfl; have c14 := cells 14 _ rfl; rw [Nat.add_zero] at c0; have ci : wr.cell? ⟨w.heap.size, 0, none⟩ = some (.slice (some ⟨gi, 0, none⟩) irs.length icap) := blk_cell ((HB.out.block w.heap.size (by simp)).trans (heap_alloc_new w _)) rfl; have hiwl := cell_lt ci; have HFIT : Hid _ := hfit; have HRS : Hid (R = if Wk.itemFits (envOf irs) (items[k]'hli) then ffFrom (envOf irs) (items.drop (k + 1)) (k + 1) else (k : Int)) := by
    show _ = _; rw [HRk.out, List.drop_eq_getElem_cons hli, ffFrom]
   generalize Wk.itemFits (envOf irs) (items[k]'hli) = fb at *
   clear cells hr hfit hbw hone; cases fb with
   | true =>
    have HE : Hid (R = ffFrom (envOf irs) (items.drop (k + 1)) (k + 1)) := HRS.out; go_wp2_with fail; refine Calls.mono (HFIT.out _ (HBW.out.alloc HBW.out.size _)) ?_; rintro e w5 ⟨rfl, hb5⟩; have HB5 : Hid (Below (w.alloc (.cells #[.slice (some ⟨gi, 0, none⟩) irs.length icap] 150)).heap.size (w.alloc (.cells #[.slice (some ⟨gi, 0, none⟩) irs.length icap] 150)) w5) := (HB.out.alloc HB.out.size _).trans (hb5.mono (HB.out.alloc HB.out.size _).size); clear hb5; go_wp2_with fail; go_roundg (irs.length - (k + 1)); case measure => omega
    case rel => exact ⟨k + 1, by omega, by omega, by go_num, HB5, HE⟩
   | false =>
    have HE : Hid (R = (k : Int)) := HRS.out; go_wp2_with fail; refine Calls.mono (HFIT.out _ (HBW.out.alloc HBW.out.size _)) ?_; rintro e w5 ⟨rfl, hb5⟩; have HB5 : Hid (Below w.heap.size w w5) := (HBW.out.alloc HBW.out.size _).trans (hb5.mono (HBW.out.alloc HBW.out.size _).size); clear hb5; go_wp2_with fail; go_ret; exact ⟨by rw [HE.out]; rfl, HB5.out⟩
  ·have hltz : ¬ (k : Int) < (irs.length : Int) := by omega
   have HE : Hid (R = -1) := by
    show _ = _; rw [HRk.out, List.drop_eq_nil_of_le (by have := HL.out; omega)]; rfl
   go_wp2_with fail; go_ret; exact ⟨by rw [HE.out]; rfl, HBW.out⟩
theorem p_place {c : Cx} {w : World} {r : IR} {it : Wk.PItem} (ht : PTk c.T w c.tg c.tc) (hk : tokOK c r it) :
  Calls Tryz.prog 44 #[.agg #[.int .i64 r.kd, .string r.nm, .int .i64 (r.ty.1 : Nat), .int .i64 (r.ty.2.length : Nat), .string (wd r.ty 0), .string (wd r.ty 1), .string (wd r.ty 2), .string (wd r.ty 3), .string (wd r.ty 4), .string (wd r.ty 5), r.ex, .int .i64 r.po, r.cv, r.rv, r.tv]] w fun e w' => e = .returned (.int .i64 (it.place : Nat)) ∧ Below w.heap.size w w' := by
 obtain ⟨fr, n, cap, htv, h1, h2, h3, h4⟩ := hk; have c1 := (ht.cells fr h3).2.1; have ctl := cell_lt c1; rw [h4] at c1; rw [htv]; have hn : (0 : Int) < (n : Int) := by omega
 clear ht htv h1 h2 h3 h4; go_enter Tryz.func44, Tryz.ntmps44; go_wp2_with fail; go_ret; exact ⟨rfl, ab1 _ _⟩
theorem ffFrom_find (E : Wk.Env) : ∀ (l : List Wk.PItem) (k : Nat), (ffFrom E l k = -1 ∧ l.find? (fun it => !Wk.itemFits E it) = none) ∨ ∃ (j : Nat) (it : Wk.PItem), ffFrom E l k = ((k + j : Nat) : Int) ∧ l[j]? = some it ∧ l.find? (fun it => !Wk.itemFits E it) = some it := by
 intro l; induction l with
 | nil => intro k; exact Or.inl ⟨rfl, rfl⟩
 | cons it l ih =>
  intro k; rw [ffFrom, List.find?_cons]; cases h : Wk.itemFits E it with
  | true =>
   simp only [if_true, Bool.not_true]; rcases ih (k + 1) with h1 | ⟨j, it', h1, h2, h3⟩
   ·exact Or.inl h1
   ·exact Or.inr ⟨j + 1, it', by rw [h1]; congr 1; omega, h2, h3⟩
  | false => exact Or.inr ⟨0, it, rfl, rfl, rfl⟩
theorem env_eq {T : List Wk.Tok} {b tg tc B : Nat} {iv : Value} {w : World} {irs : List IR} {l : List Wk.PItem} (hl : irs.length = l.length) (h : itemsOK T b tg tc B iv w irs l) : envOf irs = l.map (fun it => (it.name, it.ty)) := by
 apply List.ext_getElem?; intro j; unfold envOf; rw [List.getElem?_map, List.getElem?_map]; cases hj : l[j]? with
 | none =>
  have : irs[j]? = none := by
   rw [List.getElem?_eq_none_iff] at hj ⊢; omega
  rw [this]; rfl
 | some it =>
  obtain ⟨r, h1, h2, -⟩ := h j it hj; rw [h1]; show some (r.nm.data.toList, r.ty) = some (it.name, it.ty); rw [h2.nm, h2.ty]
theorem pModel_one (T : List Wk.Tok) : 1 ≤ (Wk.pModel T).2.length := by
 have : ∀ n (q : Wk.St) (l : List Wk.PItem), l.length ≤ (Wk.pItems T n q l).2.length := by
  intro n; induction n with
  | zero => intro q l; exact Nat.le_refl _
  | succ n ih =>
   intro q l; rw [Wk.pItems]; split
   ·exact Nat.le_refl _
   ·have := ih (Wk.pItem T q).1 (l ++ [(Wk.pItem T q).2]); rw [List.length_append, List.length_singleton] at this; show _ ≤ (Wk.pItems T n (Wk.pItem T q).1 (l ++ [(Wk.pItem T q).2])).2.length; omega
 exact this 19 _ [_]
theorem MP.at {T : List Wk.Tok} {b tg tc B : Nat} {wS w : World} {q : Wk.St} {l : List Wk.PItem} {iv : Value} {irs : List IR} (h : MP T b tg tc B wS w q l iv irs) (h1 : 1 ≤ l.length) : ItemsAt w iv irs := by
 have hr := h.inn.row; have hl := h.len; rcases hr.2 with ⟨_, h0⟩ | ⟨g, cap, cur, hv, _, _, hc, _⟩
 ·have h0 : irs.length = 0 := h0; omega
 ·have hv : iv = .slice (some ⟨g, 0, none⟩) irs.length cap := hv; subst hv; exact ⟨⟨g, cap, rfl, hc, fun j r hj i v hv => item_cells hr hj hv⟩, h.inn.few, h.tys⟩
theorem fits_each {T : List Wk.Tok} {b tg tc B : Nat} {wS w : World} {q : Wk.St} {iv : Value} {irs : List IR} (h : MP T b tg tc B wS w q (Wk.pModel T).2 iv irs) (hq : q.bad = none) (hs : Wk.itemsStray [] (Wk.pModel T).2 = none) :
  ∀ (j : Nat) (it : Wk.PItem), (Wk.pModel T).2[j]? = some it → ∃ r, irs[j]? = some r ∧ (r.ex.oneCell' = true ∧ r.cv.oneCell' = true ∧ r.rv.oneCell' = true ∧ r.tv.oneCell' = true) ∧ ∀ w', Below w.heap.size w w' → Calls Tryz.prog 65 #[.agg #[iv], .agg #[.int .i64 r.kd, .string r.nm, .int .i64 (r.ty.1 : Nat), .int .i64 (r.ty.2.length : Nat), .string (wd r.ty 0), .string (wd r.ty 1), .string (wd r.ty 2), .string (wd r.ty 3), .string (wd r.ty 4), .string (wd r.ty 5), r.ex, .int .i64 r.po, r.cv, r.rv, r.tv]] w' fun e w'' => e = .returned (.bool (Wk.itemFits (envOf irs) it)) ∧ Below w'.heap.size w' w'' := by
 intro j it hj; have hok := h.ok hq; obtain ⟨r, h1, h2, fr, n, cap, h3, -⟩ := hok j it hj; have hsd := Wk.sound_model it (List.mem_of_getElem? hj); have hns : (Cx.mk T b tg tc B iv (irs.take j)).ns = ((Wk.pModel T).2.take j).map (·.name) := by
  show irNames (irs.take j) = _; rw [List.map_take, ← names_eq h.len hok]; simp [irNames, List.map_take]
 have hst := Wk.itemsStray_none hs j it hj; rw [List.nil_append, ← hns] at hst; refine ⟨r, h1, ⟨h2.one.1, h2.one.2.1, h2.one.2.2, by rw [h3]; rfl⟩, fun w' hb => ?_⟩; have hC : Cn (Cx.mk T b tg tc B iv (irs.take j)).ns w' iv irs := by
  refine Cn.below ⟨h.inn.gl, h.at (pModel_one T), ?_⟩ hb; show irNames (irs.take j) <+: _; have : irNames (irs.take j) = (irNames irs).take j := by simp [irNames, List.map_take]
  rw [this]; exact List.take_prefix _ _
 exact p_itemFits hC (h2.keep (KeepS.below hb _)) hst (fun ru hru => by have := hsd.2 ru hru; omega) (h.tys r (List.mem_of_getElem? h1)) hsd.1
theorem pm_of {T : List Wk.Tok} {b tg tc B : Nat} {wS w w' : World} {iv : Value} {irs : List IR} {g cap : Nat} (h : MP T b tg tc B wS w (Wk.pModel T).1 (Wk.pModel T).2 iv irs) (hq : (Wk.pModel T).1.bad = none)
  (hcell : ∀ (j : Nat) (r : IR), irs[j]? = some r → ∀ i v, r.cells[i]? = some v → w.cell? ⟨g, j * 15 + i, none⟩ = some v) (hb : Below w.heap.size w w') :
  PM T (Wk.pModel T).1.k (w'.alloc (.cells #[.slice (some ⟨g, 0, none⟩) irs.length cap] 64)) w'.heap.size := by
 have hb2 : Below w.heap.size w (w'.alloc (.cells #[.slice (some ⟨g, 0, none⟩) irs.length cap] 64)) := hb.alloc hb.size _; refine ⟨g, cap, tg, irs, heap_alloc_new w' _, ⟨by rw [h.len]; exact pModel_one T, h.inn.few, h.inn.toks.pos⟩, fun j r hj => ⟨?_, fun i v hv => cell_same (hcell j r hj i v hv) (hb2.block g (cell_lt (hcell j r hj i v hv)))⟩, h.chain hq, TkC.below (w := w) h.inn.toks.cells hb2⟩; have hl : j < (Wk.pModel T).2.length := by rw [← h.len]; exact (List.getElem?_eq_some_iff.1 hj).1
 obtain ⟨r', h1, h2, fr, n, cp, h3, -⟩ := h.ok hq j _ (List.getElem?_eq_getElem hl); rw [hj] at h1; cases h1; exact ⟨h2.one.1, h2.one.2.1, h2.one.2.2, by rw [h3]; rfl⟩
theorem p_Load {w : World} (s : ByteArray) (hG : Gl w) (hz : s.size < 2 ^ 62) :
  Calls Tryz.prog 18 #[.string s] w fun e w' => (loadEnd s e ∧ leads (PM (Wk.tokens s) (Wk.pModel (Wk.tokens s)).1.k w') e) ∧ Below w.heap.size w w' := by
 unfold loadEnd; by_cases hbig : 1000 < s.size
 ·have HSP : Hid (Wk.loadSpec s = (1, 0)) := by
   show _ = _; unfold Wk.loadSpec; rw [if_pos hbig]
  have hbz : (1000 : Int) < (s.size : Int) := by omega
  obtain ⟨L, hL⟩ : ∃ L, L = Wk.loadSpec s := ⟨_, rfl⟩
  rw [← hL] at HSP ⊢; clear hG hbig hL; go_enter Tryz.func18, Tryz.ntmps18; go_wp2_with fail; exact bodyPost_ret (v := .tuple #[.pointer none, .int .i64 1, .int .i64 0]) (by simp [results, Tryz.results18, go_sem]) rfl ⟨⟨⟨none, by rw [HSP.out]; rfl, by rw [HSP.out]; simp⟩, leads_none⟩, Below.refl _ _⟩
 ·have hs : s.size ≤ 1000 := by omega
  have hbz : ¬ (1000 : Int) < (s.size : Int) := by omega
  have HJ : Hid _ := j_Items hs hG; unfold itemsEnd at HJ; have HSPEC : Hid (Wk.loadSpec s = match (Wk.pModel (Wk.tokens s)).1.bad with
   | some p => (2, p)
   | none =>
    match Wk.itemsStray [] (Wk.pModel (Wk.tokens s)).2 with
    | some p => (3, p)
    | none =>
     match (Wk.pModel (Wk.tokens s)).2.find? (fun it => !Wk.itemFits ((Wk.pModel (Wk.tokens s)).2.map (fun it => (it.name, it.ty))) it) with
     | some it => (4, it.place)
     | none => (0, 0)) := by
   show _ = _; unfold Wk.loadSpec; rw [if_neg hbig]; rfl
  obtain ⟨L, hL⟩ : ∃ L, L = Wk.loadSpec s := ⟨_, rfl⟩
  rw [← hL] at HSPEC ⊢; obtain ⟨T, hT⟩ : ∃ T, T = Wk.tokens s := ⟨_, rfl⟩
  rw [← hT] at HJ HSPEC ⊢; clear hG hbig hL hs hT; cases hbad : (Wk.pModel T).1.bad with
  | some p =>
   rw [hbad] at HJ HSPEC; simp only [] at HJ HSPEC; clear hbad; go_enter Tryz.func18, Tryz.ntmps18; go_wp2_with fail; refine Calls.mono HJ.out ?_; rintro e w2 ⟨rfl, hb2⟩; have HB2 : Hid _ := hb2; clear hb2; go_wp2_with fail; exact bodyPost_ret (v := .tuple #[.pointer none, .int .i64 2, .int .i64 (p : Nat)]) (by simp [results, Tryz.results18, go_sem]) rfl ⟨⟨⟨none, by rw [HSPEC.out]; rfl, by rw [HSPEC.out]; simp⟩, leads_none⟩, HB2.out⟩
  | none =>
   cases hstr : Wk.itemsStray [] (Wk.pModel T).2 with
   | some p =>
    rw [hbad, hstr] at HJ HSPEC; simp only [] at HJ HSPEC; clear hbad hstr; go_enter Tryz.func18, Tryz.ntmps18; go_wp2_with fail; refine Calls.mono HJ.out ?_; rintro e w2 ⟨rfl, hb2⟩; have HB2 : Hid _ := hb2; clear hb2; go_wp2_with fail; exact bodyPost_ret (v := .tuple #[.pointer none, .int .i64 3, .int .i64 (p : Nat)]) (by simp [results, Tryz.results18, go_sem]) rfl ⟨⟨⟨none, by rw [HSPEC.out]; rfl, by rw [HSPEC.out]; simp⟩, leads_none⟩, HB2.out⟩
   | none =>
    rw [hbad, hstr] at HJ HSPEC; simp only [] at HJ HSPEC; have HBAD : Hid _ := hbad; have HSTR : Hid _ := hstr; clear hbad hstr; go_enter Tryz.func18, Tryz.ntmps18; go_wp2_with fail; refine Calls.mono HJ.out ?_; rintro e w2 ⟨⟨b, tg, tc, B, wB, iv, irs, rfl, hsB, hMP⟩, hb2⟩; have HB2 : Hid (Below w.heap.size w w2) := hb2; have hff := p_firstFault (hMP.at (pModel_one T)) hMP.len (fits_each hMP HBAD.out HSTR.out); obtain ⟨g, cap, hiv, hc, hcell⟩ := (hMP.at (pModel_one T)).ex; have hfew := hMP.inn.few; have hEE := env_eq hMP.len (hMP.ok HBAD.out); rcases ffFrom_find (envOf irs) (Wk.pModel T).2 0 with ⟨h1, h2⟩ | ⟨j, it, h1, h2, h3⟩
    ·rw [h1] at hff; rw [hEE] at h2; rw [h2] at HSPEC; simp only [] at HSPEC; have HFF : Hid _ := hff; have HPM : Hid (∀ w', Below w2.heap.size w2 w' → PM T (Wk.pModel T).1.k (w'.alloc (.cells #[.slice (some ⟨g, 0, none⟩) irs.length cap] 64)) w'.heap.size) := fun w' hb => pm_of hMP HBAD.out hcell hb
     rw [hiv] at HFF; rw [hiv]; clear hff h1 h2 hEE hfew hc hcell hiv hMP hsB hb2 HBAD HSTR; go_wp2_with fail; refine Calls.mono HFF.out ?_; rintro e w3 ⟨rfl, hb3⟩; have HB3 : Hid (Below w.heap.size w w3) := HB2.out.trans (hb3.mono HB2.out.size); have HPM3 : Hid _ := HPM.out _ hb3; clear hb3 HPM; go_wp2_with fail; exact bodyPost_ret (v := .tuple #[.pointer (some ⟨w3.heap.size, 0, none⟩), .int .i64 0, .int .i64 0]) (by simp [results, Tryz.results18, go_sem]) rfl ⟨⟨⟨some ⟨w3.heap.size, 0, none⟩, by rw [HSPEC.out]; rfl, by rw [HSPEC.out]; simp⟩, leads_some HPM3.out⟩, HB3.out.alloc HB3.out.size _⟩
    ·rw [h1] at hff; rw [hEE] at h3; rw [h3] at HSPEC; simp only [] at HSPEC; obtain ⟨r, hr, hbo, hto⟩ := hMP.ok HBAD.out j it h2; have hjl : j < irs.length := (List.getElem?_eq_some_iff.1 hr).1; have hjz : (j : Int) < (irs.length : Int) := by omega
     have hj0 : (0 : Int) ≤ (j : Int) := by omega
     rw [Nat.zero_add] at hff; have HFF : Hid _ := hff; have HPTK : Hid (PTk T w2 tg tc) := hMP.inn.toks; have HTGL : Hid (tg < w2.heap.size) := by
      have h1 := hMP.low; have h2 : B ≤ b := hMP.inn.low.2; have h3 : b < w2.heap.size := hMP.inn.blt; show _ < _; omega
     have HTO : Hid _ := hto; have HCELL : Hid (∀ i v, r.cells[i]? = some v → w2.cell? ⟨g, j * 15 + i, none⟩ = some v) := hcell j r hr; have HON : Hid _ := hbo.one; rw [hiv] at HFF; rw [hiv]; clear hff h1 h2 h3 hEE hfew hc hcell hiv hMP hsB hb2 HBAD HSTR hr hbo hto hjl; go_wp2_with fail; refine Calls.mono HFF.out ?_; rintro e w3 ⟨rfl, hb3⟩; have HB3 : Hid (Below w.heap.size w w3) := HB2.out.trans (hb3.mono HB2.out.size); have cells : ∀ i v, r.cells[i]? = some v → w3.cell? ⟨g, j * 15 + i, none⟩ = some v := fun i v hv => by
      have := HCELL.out i v hv; exact (hb3.cell (p := ⟨g, j * 15 + i, none⟩) (cell_lt this)).trans this
     have HPL : Hid _ := p_place (c := ⟨T, b, tg, tc, B, iv, irs.take j⟩) (HPTK.out.of (hb3.block tg HTGL.out)) HTO.out; have c0 := cells 0 _ rfl; have c1 := cells 1 _ rfl; have c2 := cells 2 _ rfl; have c3 := cells 3 _ rfl; have c4 := cells 4 _ rfl; have c5 := cells 5 _ rfl; have c6 := cells 6 _ rfl; have c7 := cells 7 _ rfl; have c8 := cells 8 _ rfl; have c9 := cells 9 _ rfl; have c10 := cells 10 _ rfl; have c11 := cells 11 _ rfl; have c12 := cells 12 _ rfl; have c13 := cells 13 _ rfl; have c14 := cells 14 _ rfl; rw [Nat.add_zero] at c0; clear hb3 cells; go_wp2_with fail; refine Calls.mono HPL.out ?_; rintro e w4 ⟨rfl, hb4⟩; have HB4 : Hid (Below w.heap.size w w4) := HB3.out.trans (hb4.mono HB3.out.size); clear hb4; go_wp2_with fail; exact bodyPost_ret (v := .tuple #[.pointer none, .int .i64 4, .int .i64 (it.place : Nat)]) (by simp [results, Tryz.results18, go_sem]) rfl ⟨⟨⟨none, by rw [HSPEC.out]; rfl, by rw [HSPEC.out]; simp⟩, leads_none⟩, HB4.out⟩
end Go.Proofs.YtbkaghlklkdmkaaGreatDoor
