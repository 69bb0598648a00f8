import Derived.Test.YtbkaghlklkdmkaaGreatDoorK1
namespace Go.Proofs.YtbkaghlklkdmkaaGreatDoor
open Go.RowKit
attribute [local go_sem ↓] Go.wp_at_zero Go.wp_at_succ
def iw (w : World) (iv : Value) (r : IR) : World := (w.alloc (.cells #[iv] 150)).alloc (.cells #[.int .i64 r.kd, .string r.nm, .int .i64 (r.ty.1 : Nat), .int .i64 (r.ty.2.length : Nat), .string (wd r.ty 0), .string (wd r.ty 1), .string (wd r.ty 2), .string (wd r.ty 3), .string (wd r.ty 4), .string (wd r.ty 5), r.ex, .int .i64 r.po, r.cv, r.rv, r.tv] 75)
theorem iw_at {w : World} {iv : Value} {r : IR} {wr : World} (hb : Below (iw w iv r).heap.size (iw w iv r) wr) : wr.heap[w.heap.size]? = some (.cells #[iv] 150 (0, 0)) ∧ wr.heap[w.heap.size + 1]? = some (.cells #[.int .i64 r.kd, .string r.nm, .int .i64 (r.ty.1 : Nat), .int .i64 (r.ty.2.length : Nat), .string (wd r.ty 0), .string (wd r.ty 1), .string (wd r.ty 2), .string (wd r.ty 3), .string (wd r.ty 4), .string (wd r.ty 5), r.ex, .int .i64 r.po, r.cv, r.rv, r.tv] 75 (0, 0)) ∧ Below w.heap.size w wr := by
 have hs : (iw w iv r).heap.size = w.heap.size + 1 + 1 := by simp [iw]
 refine ⟨(hb.block _ (by omega)).trans (blk_alloc _ (heap_alloc_new w _)), (hb.block _ (by omega)).trans ?_, ab2l hb⟩; have := heap_alloc_new (w.alloc (.cells #[iv] 150)) (.cells #[.int .i64 r.kd, .string r.nm, .int .i64 (r.ty.1 : Nat), .int .i64 (r.ty.2.length : Nat), .string (wd r.ty 0), .string (wd r.ty 1), .string (wd r.ty 2), .string (wd r.ty 3), .string (wd r.ty 4), .string (wd r.ty 5), r.ex, .int .i64 r.po, r.cv, r.rv, r.tv] 75); rw [show (w.alloc (.cells #[iv] 150)).heap.size = w.heap.size + 1 by simp] at this; exact this
def outB (E : Wk.Env) (po : Nat) (ty : Wk.Ty) (S : Wk.Sem) : Bool := if po = 3 then (S.own E).1 != 0 && S.fits E (S.own E) else S.fits E ty
set_option maxRecDepth 100000 in
set_option maxHeartbeats 2000000 in
theorem p_outFits {ns : List Wk.Name} {w : World} {iv : Value} {irs : List IR} (hC : Cn ns w iv irs) {k : Nat} {S : Wk.Sem} (hT : PTr ns w (nptr k) S) (r : IR) (hty : TyW r.ty) :
  Calls Tryz.prog 148 #[.agg #[iv], nptr k, .agg #[.int .i64 r.kd, .string r.nm, .int .i64 (r.ty.1 : Nat), .int .i64 (r.ty.2.length : Nat), .string (wd r.ty 0), .string (wd r.ty 1), .string (wd r.ty 2), .string (wd r.ty 3), .string (wd r.ty 4), .string (wd r.ty 5), r.ex, .int .i64 r.po, r.cv, r.rv, r.tv]] w fun e w' => e = .returned (.bool (outB (envOf irs) r.po r.ty S)) ∧ Below w.heap.size w w' := by
 have HF : Hid (∀ w', Below w.heap.size w w' → FitsAt w' iv irs (nptr k) S) := fun w' hb => (hT w' iv irs (KeepN.below hb) (hC.below hb)).2
 have HO : Hid (∀ w', Below w.heap.size w w' → OwnAt w' iv irs (nptr k) S) := fun w' hb => (hT w' iv irs (KeepN.below hb) (hC.below hb)).1
 have HTY : Hid _ := hty; obtain ⟨u1, u2, hbw⟩ := iw_at (w := w) (iv := iv) (r := r) (Below.refl _ _); have HBW : Hid _ := hbw; clear hC hT hty hbw; by_cases h3 : r.po = 3
 ·have d3 : ((r.po : Int) != 3) = false := by rw [bne_eq_false_iff_eq]; omega
  obtain ⟨ot, hot⟩ : ∃ o, o = S.own (envOf irs) := ⟨_, rfl⟩
  obtain ⟨R, hR⟩ : ∃ R, R = outB (envOf irs) r.po r.ty S := ⟨_, rfl⟩
  rw [← hR]; have HR : Hid (R = (ot.1 != 0 && S.fits (envOf irs) ot)) := by
   show _ = _; rw [hR, hot]; unfold outB; rw [if_pos h3]
  have hown := HO.out _ HBW.out; unfold OwnAt at hown; rw [← hot] at hown; have HOW : Hid _ := hown.1; have HOT : Hid (TyW ot) := hown.2; clear hR hot hown h3 u1 u2; generalize hfv : S.fits (envOf irs) ot = fv at *
  have HFV : Hid _ := hfv; clear hfv; unfold iw at HOW; go_enter Tryz.func148, Tryz.ntmps148; go_wp2_with fail; refine Calls.mono HOW.out ?_; rintro e w2 ⟨rfl, hb2⟩; have hb2 : Below (iw w iv r).heap.size (iw w iv r) w2 := hb2; obtain ⟨u1, u2, hbw2⟩ := iw_at hb2; have HB2 : Hid _ := hbw2; have c0 := blk_cell (o := 0) u1 rfl; have hl2 := lt_of_block u1; clear hb2 hbw2 u1 u2; unfold tyV; by_cases h0 : ot.1 = 0
  ·have d0 : ((ot.1 : Int) != 0) = false := by rw [bne_eq_false_iff_eq]; omega
   have HE : Hid (R = false) := by
    show _ = _; rw [HR.out, h0]; rfl
   clear h0; go_wp2_with fail; go_ret; exact ⟨by rw [HE.out]; rfl, HB2.out.alloc HB2.out.size _⟩
  ·have d0 : ((ot.1 : Int) != 0) = true := by rw [bne_iff_ne]; omega
   have HE : Hid (R = fv) := by
    show _ = _; rw [HR.out, show (ot.1 != 0) = true by rw [bne_iff_ne]; exact h0]; rfl
   have HFC : Hid (∀ x, Calls Tryz.prog 110 #[.agg #[iv], nptr k, tyV ot] (w2.alloc x) fun e w' => e = .returned (.bool fv) ∧ Below (w2.alloc x).heap.size (w2.alloc x) w') := fun x => by
    have := HF.out (w2.alloc x) (HB2.out.alloc HB2.out.size x) ot HOT.out; rw [HFV.out] at this; exact this
   unfold tyV at HFC; clear h0; go_wp2_with fail; refine Calls.mono (HFC.out _) ?_; rintro e w3 ⟨rfl, hb3⟩; have HB3 : Hid (Below w.heap.size w w3) := (HB2.out.alloc HB2.out.size _).trans (hb3.mono (HB2.out.alloc HB2.out.size _).size); clear hb3; go_wp2_with fail; go_ret; exact ⟨by rw [HE.out]; rfl, HB3.out⟩
 ·have d3 : ((r.po : Int) != 3) = true := by rw [bne_iff_ne]; omega
  obtain ⟨R, hR⟩ : ∃ R, R = outB (envOf irs) r.po r.ty S := ⟨_, rfl⟩
  rw [← hR]; have HR : Hid (S.fits (envOf irs) r.ty = R) := by
   show _ = _; rw [hR]; unfold outB; rw [if_neg h3]
  have HFC : Hid _ := HF.out _ HBW.out r.ty HTY.out; rw [HR.out] at HFC; clear hR h3 u1 u2; unfold iw tyV at HFC; go_enter Tryz.func148, Tryz.ntmps148; go_wp2_with fail; refine Calls.mono HFC.out ?_; rintro e w2 ⟨rfl, hb2⟩; have hb2 : Below (iw w iv r).heap.size (iw w iv r) w2 := hb2; have HB2 : Hid (Below w.heap.size w w2) := (iw_at hb2).2.2; clear hb2; go_wp2_with fail; go_ret; exact ⟨rfl, HB2.out⟩
end Go.Proofs.YtbkaghlklkdmkaaGreatDoor
namespace Go.Proofs.YtbkaghlklkdmkaaGreatDoor
open Go.RowKit
attribute [local go_sem ↓] Go.wp_at_zero Go.wp_at_succ
theorem ur_cells {w : World} {B g cap : Nat} {rs : List UR} (h : w.ownsRow B 256 2 (.slice (some ⟨g, 0, none⟩) rs.length cap) rs.length (UR.flat rs)) {k : Nat} {r : UR} (hk : rs[k]? = some r) : w.cell? ⟨g, k * 2, none⟩ = some (.slice r.ad r.n r.cc) ∧ w.cell? ⟨g, k * 2 + 1, none⟩ = some (nptr r.k) := by
 have hkl := (List.getElem?_eq_some_iff.1 hk).1; have key : ∀ i v, (UR.cells r)[i]? = some v → w.cell? ⟨g, k * 2 + i, none⟩ = some v := by
  intro i v hv; have hi : i < 2 := (List.getElem?_eq_some_iff.1 hv).1; rw [h.cellAt (k * 2 + i) (by omega)]; exact flat_at UR.cells 2 (fun _ => rfl) rs k _ hk i v hv
 exact ⟨key 0 _ rfl, key 1 _ rfl⟩
def ruleB (E : Wk.Env) (po : Nat) (ty : Wk.Ty) (cols : List (Wk.Name × Nat)) (ru : Wk.PRule) : Bool := Wk.cellsFit E ru.cells cols && outB E po ty ru.out
set_option maxRecDepth 100000 in
set_option maxHeartbeats 4000000 in
theorem p_tableFits {ns : List Wk.Name} {w : World} {iv : Value} {irs : List IR} (hC : Cn ns w iv irs) (r : IR) (hty : TyW r.ty) {ad1 : Option Addr} {cc1 : Nat} {is : List Int} {ad2 : Option Addr} {cc2 : Nat} {us : List UR} {rules : List Wk.PRule} {cols : List (Wk.Name × Nat)} (hcv : r.cv = .slice ad1 is.length cc1) (hrv : r.rv = .slice ad2 us.length cc2)
  (hcr : w.ownsRow 0 3 1 (.slice ad1 is.length cc1) is.length (is.map (Value.int .i64))) (his : is = cols.map (fun y => Wk.idx y.1 ns)) (hkn : ∀ x ∈ cols, ns.contains x.1 = true)
  (hrr : w.ownsRow 0 256 2 (.slice ad2 us.length cc2) us.length (UR.flat us)) (hus : us.length ≤ 8) (hP : Pairs (UR.ok ns w) us rules) (hkr : ∀ ru ∈ rules, (∀ x ∈ ru.out.names, ns.contains x.1 = true) ∧ ru.cells.length ≤ cols.length ∧ ru.cells.length ≤ 3) :
  Calls Tryz.prog 111 #[.agg #[iv], .agg #[.int .i64 r.kd, .string r.nm, .int .i64 (r.ty.1 : Nat), .int .i64 (r.ty.2.length : Nat), .string (wd r.ty 0), .string (wd r.ty 1), .string (wd r.ty 2), .string (wd r.ty 3), .string (wd r.ty 4), .string (wd r.ty 5), r.ex, .int .i64 r.po, r.cv, r.rv, r.tv]] w fun e w' => e = .returned (.bool ((r.po == 0 || r.po == 1 || r.ty.1 == 1) && rules.all (ruleB (envOf irs) r.po r.ty cols))) ∧ Below w.heap.size w w' := by
 obtain ⟨kd, nm, ty, ex, po, cv, rv, tv⟩ := r; simp only [] at hcv hrv hty; subst hcv; subst hrv; simp only []; obtain ⟨R, hR⟩ : ∃ R, R = ((po == 0 || po == 1 || ty.1 == 1) && rules.all (ruleB (envOf irs) po ty cols)) := ⟨_, rfl⟩
 rw [← hR]; have HR : Hid _ := hR; have HC : Hid (Cn ns w iv irs) := hC; have HTY : Hid (TyW ty) := hty; have HCR : Hid (w.ownsRow 0 3 1 (.slice ad1 is.length cc1) is.length (is.map (Value.int .i64))) := hcr; have HRR : Hid (w.ownsRow 0 256 2 (.slice ad2 us.length cc2) us.length (UR.flat us)) := hrr; have HP : Hid (Pairs (UR.ok ns w) us rules) := hP; have HIS : Hid _ := his; have HLC : Hid (is.length = cols.length) := by show _ = _; rw [his, List.length_map]
 have HKN : Hid _ := hkn; have HKR : Hid _ := hkr; have HAT : Hid (∀ wr, Below (iw w iv (⟨kd, nm, ty, ex, po, .slice ad1 is.length cc1, .slice ad2 us.length cc2, tv⟩ : IR)).heap.size (iw w iv (⟨kd, nm, ty, ex, po, .slice ad1 is.length cc1, .slice ad2 us.length cc2, tv⟩ : IR)) wr → wr.cell? ⟨w.heap.size, 0, none⟩ = some iv ∧ (∀ i v, (#[.int .i64 kd, .string nm, .int .i64 (ty.1 : Nat), .int .i64 (ty.2.length : Nat), .string (wd ty 0), .string (wd ty 1), .string (wd ty 2), .string (wd ty 3), .string (wd ty 4), .string (wd ty 5), ex, .int .i64 po, .slice ad1 is.length cc1, .slice ad2 us.length cc2, tv] : Array Value)[i]? = some v → wr.cell? ⟨w.heap.size + 1, i, none⟩ = some v) ∧ Below w.heap.size w wr) := fun wr hb => by
  obtain ⟨u1, u2, h3⟩ := iw_at hb; exact ⟨blk_cell u1 rfl, fun i v hv => blk_cell u2 hv, h3⟩
 clear hC hty hcr hrr hP his hkn hkr hR; cases hni : (po == 0 || po == 1) with
 | false =>
  cases h1 : (ty.1 == 1) with
  | false =>
   have HE : Hid (R = false) := by
    show _ = _; rw [HR.out, hni, h1]; rfl
   have d1 : ((ty.1 : Int) != 1) = true := by rw [beq_eq_false_iff_ne] at h1; rw [bne_iff_ne]; omega
   have HNI : Hid _ := hni; clear hni h1; go_enter Tryz.func111, Tryz.ntmps111; go_wp2_with fail; refine (p_needsInt po _).mono ?_; rintro e w2 ⟨rfl, rfl⟩; rw [HNI.out]; go_wp2_with fail; go_ret; exact ⟨by rw [HE.out]; rfl, ab2 _ _ _⟩
  | true =>
   have HE : Hid (R = (rules.drop 0).all (ruleB (envOf irs) po ty cols)) := by
    show _ = _; rw [HR.out, hni, h1]; rfl
   have d1 : ((ty.1 : Int) != 1) = false := by rw [beq_iff_eq] at h1; rw [bne_eq_false_iff_eq]; omega
   have HNI : Hid _ := hni; clear hni h1; go_enter Tryz.func111, Tryz.ntmps111; go_wp2_with fail; refine (p_needsInt po _).mono ?_; rintro e w2 ⟨rfl, rfl⟩; rw [HNI.out]; go_wp2_with fail; go_loopg [19] us.length (fun gk s19 wr => ∃ k : Nat, k ≤ us.length ∧ us.length - k ≤ gk ∧ s19 = .int .i64 k ∧ Hid (Below (iw w iv (⟨kd, nm, ty, ex, po, .slice ad1 is.length cc1, .slice ad2 us.length cc2, tv⟩ : IR)).heap.size (iw w iv (⟨kd, nm, ty, ex, po, .slice ad1 is.length cc1, .slice ad2 us.length cc2, tv⟩ : IR)) wr) ∧ Hid (R = (rules.drop k).all (ruleB (envOf irs) po ty cols)))
   case atStart => exact ⟨0, Nat.zero_le _, by omega, rfl, Below.refl _ _, HE⟩
   case round =>
    obtain ⟨k, hk, hg, rfl, HB, HRk⟩ := hrel; clear HE; obtain ⟨ci, ca, hbw⟩ := HAT.out wr HB.out; have HBW : Hid (Below w.heap.size w wr) := hbw; by_cases hlt : k < us.length
    ·have hltz : (k : Int) < (us.length : Int) := by omega
     have hk0 : (0 : Int) ≤ (k : Int) := by omega
     obtain ⟨gu, rfl⟩ := (row_form HRR.out).2.1 (by omega); have huk : us[k]? = some (us[k]'hlt) := List.getElem?_eq_getElem hlt; have hlr : k < rules.length := by have := HP.out.1; omega
     have hrk : rules[k]? = some (rules[k]'hlr) := List.getElem?_eq_getElem hlr; have hok := HP.out.2 k _ _ huk hrk; have hkk := HKR.out _ (List.getElem_mem hlr); obtain ⟨e0, e1⟩ := ur_cells (owns_below HRR.out hbw) huk; have HRS : Hid (R = (ruleB (envOf irs) po ty cols (rules[k]'hlr) && (rules.drop (k + 1)).all (ruleB (envOf irs) po ty cols))) := by
      show _ = _; rw [HRk.out, List.drop_eq_getElem_cons hlr, List.all_cons]
     obtain ⟨⟨rs, hr1, hr2⟩, hnode⟩ := hok; have hfm := row_form hr2; have HCF : Hid (∀ W, Below w.heap.size w W → Calls Tryz.prog 147 #[.agg #[iv], .slice (us[k]'hlt).ad (us[k]'hlt).n (us[k]'hlt).cc, .slice ad1 is.length cc1] W fun e w' => e = .returned (.bool (Wk.cellsFit (envOf irs) (rules[k]'hlr).cells cols)) ∧ Below W.heap.size W w') := fun W hW => by
      rw [hfm.1]; rw [hfm.1] at hr2; have hl1 : rs.length = (rules[k]'hlr).cells.length := hr1.1; have hl2 := HLC.out; exact p_cellsFit (HC.out.below hW) (hr1.imp (fun _ _ x => x.keep (us := [285]) (KeepS.below hW _) (by decide))) (owns_below hr2 hW) (by omega) (owns_below HCR.out hW) HIS.out HKN.out (by omega)
     have HOF : Hid (∀ W, Below w.heap.size w W → Calls Tryz.prog 148 #[.agg #[iv], nptr (us[k]'hlt).k, .agg #[.int .i64 kd, .string nm, .int .i64 (ty.1 : Nat), .int .i64 (ty.2.length : Nat), .string (wd ty 0), .string (wd ty 1), .string (wd ty 2), .string (wd ty 3), .string (wd ty 4), .string (wd ty 5), ex, .int .i64 po, .slice ad1 is.length cc1, .slice (some ⟨gu, 0, none⟩) us.length cc2, tv]] W fun e w' => e = .returned (.bool (outB (envOf irs) po ty (rules[k]'hlr).out)) ∧ Below W.heap.size W w') := fun W hW =>
      p_outFits (HC.out.below hW) ((hnode hkk.1).keep (KeepN.below hW)) (⟨kd, nm, ty, ex, po, .slice ad1 is.length cc1, .slice (some ⟨gu, 0, none⟩) us.length cc2, tv⟩ : IR) HTY.out
     unfold ruleB at HRS; generalize Wk.cellsFit (envOf irs) (rules[k]'hlr).cells cols = cf at *
     generalize outB (envOf irs) po ty (rules[k]'hlr).out = of at *
     generalize (us[k]'hlt) = u at *
     have a0 := ca 0 _ rfl; have a1 := ca 1 _ rfl; have a2 := ca 2 _ rfl; have a3 := ca 3 _ rfl; have a4 := ca 4 _ rfl; have a5 := ca 5 _ rfl; have a6 := ca 6 _ rfl; have a7 := ca 7 _ rfl; have a8 := ca 8 _ rfl; have a9 := ca 9 _ rfl; have a10 := ca 10 _ rfl; have a11 := ca 11 _ rfl; have a12 := ca 12 _ rfl; have a13 := ca 13 _ rfl; have a14 := ca 14 _ rfl; have hiwl := cell_lt ci; have hial := cell_lt a0; clear ca hr1 hr2 hnode hfm hkk huk hrk hbw; cases cf with
     | false =>
      have HEE : Hid (R = false) := by
       show _ = _; rw [HRS.out]; rfl
      go_wp2_with fail; refine Calls.mono (HCF.out _ (HBW.out.alloc HBW.out.size _)) ?_; rintro e w5 ⟨rfl, hb5⟩; have HB5 : Hid (Below w.heap.size w w5) := (HBW.out.alloc HBW.out.size _).trans (hb5.mono (HBW.out.alloc HBW.out.size _).size); clear hb5; go_wp2_with fail; go_ret; exact ⟨by rw [HEE.out]; rfl, HB5.out⟩
     | true =>
      go_wp2_with fail; refine Calls.mono (HCF.out _ (HBW.out.alloc HBW.out.size _)) ?_; rintro e w5 ⟨rfl, hb5⟩; have hB5 : Below (iw w iv (⟨kd, nm, ty, ex, po, .slice ad1 is.length cc1, .slice (some ⟨gu, 0, none⟩) us.length cc2, tv⟩ : IR)).heap.size (iw w iv (⟨kd, nm, ty, ex, po, .slice ad1 is.length cc1, .slice (some ⟨gu, 0, none⟩) us.length cc2, tv⟩ : IR)) w5 := (HB.out.alloc HB.out.size _).trans (hb5.mono (HB.out.alloc HB.out.size _).size); have HB5 : Hid _ := hB5; obtain ⟨ci5, ca5, hbw5⟩ := HAT.out w5 hB5; have HBW5 : Hid (Below w.heap.size w w5) := hbw5; have ub := (hb5.block wr.heap.size (by simp)).trans (heap_alloc_new wr _); have b0 := blk_cell (o := 0) ub rfl; have b1 := blk_cell (o := 1) ub rfl; have d0 := ca5 0 _ rfl; have d1 := ca5 1 _ rfl; have d2 := ca5 2 _ rfl; have d3 := ca5 3 _ rfl; have d4 := ca5 4 _ rfl; have d5 := ca5 5 _ rfl; have d6 := ca5 6 _ rfl; have d7 := ca5 7 _ rfl; have d8 := ca5 8 _ rfl; have d9 := ca5 9 _ rfl; have d10 := ca5 10 _ rfl; have d11 := ca5 11 _ rfl; have d12 := ca5 12 _ rfl; have d13 := ca5 13 _ rfl; have d14 := ca5 14 _ rfl; clear hb5 hB5 ca5 hbw5 ub; cases of with
      | false =>
       have HEE : Hid (R = false) := by
        show _ = _; rw [HRS.out]; rfl
       go_wp2_with fail; refine Calls.mono (HOF.out _ HBW5.out) ?_; rintro e w6 ⟨rfl, hb6⟩; have HB6 : Hid (Below w.heap.size w w6) := HBW5.out.trans (hb6.mono HBW5.out.size); clear hb6; go_wp2_with fail; go_ret; exact ⟨by rw [HEE.out]; rfl, HB6.out⟩
      | true =>
       go_wp2_with fail; refine Calls.mono (HOF.out _ HBW5.out) ?_; rintro e w6 ⟨rfl, hb6⟩; have HB6 : Hid (Below (iw w iv (⟨kd, nm, ty, ex, po, .slice ad1 is.length cc1, .slice (some ⟨gu, 0, none⟩) us.length cc2, tv⟩ : IR)).heap.size (iw w iv (⟨kd, nm, ty, ex, po, .slice ad1 is.length cc1, .slice (some ⟨gu, 0, none⟩) us.length cc2, tv⟩ : IR)) w6) := HB5.out.trans (hb6.mono HB5.out.size); clear hb6; go_wp2_with fail; go_roundg (us.length - (k + 1)); case measure => omega
       case rel => exact ⟨k + 1, by omega, by omega, by go_num, HB6, HRS⟩
    ·have hltz : ¬ (k : Int) < (us.length : Int) := by omega
     have HEE : Hid (R = true) := by
      show _ = _; rw [HRk.out, List.drop_eq_nil_of_le (by have := HP.out.1; omega)]; rfl
     go_wp2_with fail; go_ret; exact ⟨by rw [HEE.out]; rfl, HBW.out⟩
 | true =>
   have HE : Hid (R = (rules.drop 0).all (ruleB (envOf irs) po ty cols)) := by
    show _ = _; rw [HR.out, hni]; rfl
   have HNI : Hid _ := hni; clear hni; go_enter Tryz.func111, Tryz.ntmps111; go_wp2_with fail; refine (p_needsInt po _).mono ?_; rintro e w2 ⟨rfl, rfl⟩; rw [HNI.out]; go_wp2_with fail; go_loopg [19] us.length (fun gk s19 wr => ∃ k : Nat, k ≤ us.length ∧ us.length - k ≤ gk ∧ s19 = .int .i64 k ∧ Hid (Below (iw w iv (⟨kd, nm, ty, ex, po, .slice ad1 is.length cc1, .slice ad2 us.length cc2, tv⟩ : IR)).heap.size (iw w iv (⟨kd, nm, ty, ex, po, .slice ad1 is.length cc1, .slice ad2 us.length cc2, tv⟩ : IR)) wr) ∧ Hid (R = (rules.drop k).all (ruleB (envOf irs) po ty cols)))
   case atStart => exact ⟨0, Nat.zero_le _, by omega, rfl, Below.refl _ _, HE⟩
   case round =>
    obtain ⟨k, hk, hg, rfl, HB, HRk⟩ := hrel; clear HE; obtain ⟨ci, ca, hbw⟩ := HAT.out wr HB.out; have HBW : Hid (Below w.heap.size w wr) := hbw; by_cases hlt : k < us.length
    ·have hltz : (k : Int) < (us.length : Int) := by omega
     have hk0 : (0 : Int) ≤ (k : Int) := by omega
     obtain ⟨gu, rfl⟩ := (row_form HRR.out).2.1 (by omega); have huk : us[k]? = some (us[k]'hlt) := List.getElem?_eq_getElem hlt; have hlr : k < rules.length := by have := HP.out.1; omega
     have hrk : rules[k]? = some (rules[k]'hlr) := List.getElem?_eq_getElem hlr; have hok := HP.out.2 k _ _ huk hrk; have hkk := HKR.out _ (List.getElem_mem hlr); obtain ⟨e0, e1⟩ := ur_cells (owns_below HRR.out hbw) huk; have HRS : Hid (R = (ruleB (envOf irs) po ty cols (rules[k]'hlr) && (rules.drop (k + 1)).all (ruleB (envOf irs) po ty cols))) := by
      show _ = _; rw [HRk.out, List.drop_eq_getElem_cons hlr, List.all_cons]
     obtain ⟨⟨rs, hr1, hr2⟩, hnode⟩ := hok; have hfm := row_form hr2; have HCF : Hid (∀ W, Below w.heap.size w W → Calls Tryz.prog 147 #[.agg #[iv], .slice (us[k]'hlt).ad (us[k]'hlt).n (us[k]'hlt).cc, .slice ad1 is.length cc1] W fun e w' => e = .returned (.bool (Wk.cellsFit (envOf irs) (rules[k]'hlr).cells cols)) ∧ Below W.heap.size W w') := fun W hW => by
      rw [hfm.1]; rw [hfm.1] at hr2; have hl1 : rs.length = (rules[k]'hlr).cells.length := hr1.1; have hl2 := HLC.out; exact p_cellsFit (HC.out.below hW) (hr1.imp (fun _ _ x => x.keep (us := [285]) (KeepS.below hW _) (by decide))) (owns_below hr2 hW) (by omega) (owns_below HCR.out hW) HIS.out HKN.out (by omega)
     have HOF : Hid (∀ W, Below w.heap.size w W → Calls Tryz.prog 148 #[.agg #[iv], nptr (us[k]'hlt).k, .agg #[.int .i64 kd, .string nm, .int .i64 (ty.1 : Nat), .int .i64 (ty.2.length : Nat), .string (wd ty 0), .string (wd ty 1), .string (wd ty 2), .string (wd ty 3), .string (wd ty 4), .string (wd ty 5), ex, .int .i64 po, .slice ad1 is.length cc1, .slice (some ⟨gu, 0, none⟩) us.length cc2, tv]] W fun e w' => e = .returned (.bool (outB (envOf irs) po ty (rules[k]'hlr).out)) ∧ Below W.heap.size W w') := fun W hW =>
      p_outFits (HC.out.below hW) ((hnode hkk.1).keep (KeepN.below hW)) (⟨kd, nm, ty, ex, po, .slice ad1 is.length cc1, .slice (some ⟨gu, 0, none⟩) us.length cc2, tv⟩ : IR) HTY.out
     unfold ruleB at HRS; generalize Wk.cellsFit (envOf irs) (rules[k]'hlr).cells cols = cf at *
     generalize outB (envOf irs) po ty (rules[k]'hlr).out = of at *
     generalize (us[k]'hlt) = u at *
     have a0 := ca 0 _ rfl; have a1 := ca 1 _ rfl; have a2 := ca 2 _ rfl; have a3 := ca 3 _ rfl; have a4 := ca 4 _ rfl; have a5 := ca 5 _ rfl; have a6 := ca 6 _ rfl; have a7 := ca 7 _ rfl; have a8 := ca 8 _ rfl; have a9 := ca 9 _ rfl; have a10 := ca 10 _ rfl; have a11 := ca 11 _ rfl; have a12 := ca 12 _ rfl; have a13 := ca 13 _ rfl; have a14 := ca 14 _ rfl; have hiwl := cell_lt ci; have hial := cell_lt a0; clear ca hr1 hr2 hnode hfm hkk huk hrk hbw; cases cf with
     | false =>
      have HEE : Hid (R = false) := by
       show _ = _; rw [HRS.out]; rfl
      go_wp2_with fail; refine Calls.mono (HCF.out _ (HBW.out.alloc HBW.out.size _)) ?_; rintro e w5 ⟨rfl, hb5⟩; have HB5 : Hid (Below w.heap.size w w5) := (HBW.out.alloc HBW.out.size _).trans (hb5.mono (HBW.out.alloc HBW.out.size _).size); clear hb5; go_wp2_with fail; go_ret; exact ⟨by rw [HEE.out]; rfl, HB5.out⟩
     | true =>
      go_wp2_with fail; refine Calls.mono (HCF.out _ (HBW.out.alloc HBW.out.size _)) ?_; rintro e w5 ⟨rfl, hb5⟩; have hB5 : Below (iw w iv (⟨kd, nm, ty, ex, po, .slice ad1 is.length cc1, .slice (some ⟨gu, 0, none⟩) us.length cc2, tv⟩ : IR)).heap.size (iw w iv (⟨kd, nm, ty, ex, po, .slice ad1 is.length cc1, .slice (some ⟨gu, 0, none⟩) us.length cc2, tv⟩ : IR)) w5 := (HB.out.alloc HB.out.size _).trans (hb5.mono (HB.out.alloc HB.out.size _).size); have HB5 : Hid _ := hB5; obtain ⟨ci5, ca5, hbw5⟩ := HAT.out w5 hB5; have HBW5 : Hid (Below w.heap.size w w5) := hbw5; have ub := (hb5.block wr.heap.size (by simp)).trans (heap_alloc_new wr _); have b0 := blk_cell (o := 0) ub rfl; have b1 := blk_cell (o := 1) ub rfl; have d0 := ca5 0 _ rfl; have d1 := ca5 1 _ rfl; have d2 := ca5 2 _ rfl; have d3 := ca5 3 _ rfl; have d4 := ca5 4 _ rfl; have d5 := ca5 5 _ rfl; have d6 := ca5 6 _ rfl; have d7 := ca5 7 _ rfl; have d8 := ca5 8 _ rfl; have d9 := ca5 9 _ rfl; have d10 := ca5 10 _ rfl; have d11 := ca5 11 _ rfl; have d12 := ca5 12 _ rfl; have d13 := ca5 13 _ rfl; have d14 := ca5 14 _ rfl; clear hb5 hB5 ca5 hbw5 ub; cases of with
      | false =>
       have HEE : Hid (R = false) := by
        show _ = _; rw [HRS.out]; rfl
       go_wp2_with fail; refine Calls.mono (HOF.out _ HBW5.out) ?_; rintro e w6 ⟨rfl, hb6⟩; have HB6 : Hid (Below w.heap.size w w6) := HBW5.out.trans (hb6.mono HBW5.out.size); clear hb6; go_wp2_with fail; go_ret; exact ⟨by rw [HEE.out]; rfl, HB6.out⟩
      | true =>
       go_wp2_with fail; refine Calls.mono (HOF.out _ HBW5.out) ?_; rintro e w6 ⟨rfl, hb6⟩; have HB6 : Hid (Below (iw w iv (⟨kd, nm, ty, ex, po, .slice ad1 is.length cc1, .slice (some ⟨gu, 0, none⟩) us.length cc2, tv⟩ : IR)).heap.size (iw w iv (⟨kd, nm, ty, ex, po, .slice ad1 is.length cc1, .slice (some ⟨gu, 0, none⟩) us.length cc2, tv⟩ : IR)) w6) := HB5.out.trans (hb6.mono HB5.out.size); clear hb6; go_wp2_with fail; go_roundg (us.length - (k + 1)); case measure => omega
       case rel => exact ⟨k + 1, by omega, by omega, by go_num, HB6, HRS⟩
    ·have hltz : ¬ (k : Int) < (us.length : Int) := by omega
     have HEE : Hid (R = true) := by
      show _ = _; rw [HRk.out, List.drop_eq_nil_of_le (by have := HP.out.1; omega)]; rfl
     go_wp2_with fail; go_ret; exact ⟨by rw [HEE.out]; rfl, HBW.out⟩
end Go.Proofs.YtbkaghlklkdmkaaGreatDoor
