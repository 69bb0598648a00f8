import Derived.Test.YtbkaghlklkdmkaaGreatDoorJ2
namespace Go.Proofs.YtbkaghlklkdmkaaGreatDoor
open Go.RowKit
attribute [local go_sem ↓] Go.wp_at_zero Go.wp_at_succ
set_option maxRecDepth 100000 in
set_option maxHeartbeats 2000000 in
theorem p_testFits (r : QR) (t : Wk.Ty) (ht : TyW t) (w : World) :
  Calls Tryz.prog 179 #[.agg #[.int .i64 r.op, .int .i64 r.a.kd, .int .i64 r.a.no, .bool r.a.tr, .string r.a.tx, .int .i64 r.b.kd, .int .i64 r.b.no, .bool r.b.tr, .string r.b.tx], tyV t] w fun e w' => e = .returned (.bool ((r.op == 0 || t.1 == 1) && (vHolds t r.a && vHolds t r.b))) ∧ Below w.heap.size w w' := by
 obtain ⟨R, hR⟩ : ∃ R, R = ((r.op == 0 || t.1 == 1) && (vHolds t r.a && vHolds t r.b)) := ⟨_, rfl⟩
 rw [← hR]; have HR : Hid _ := hR; have HA : Hid (Calls Tryz.prog 143 #[tyV t, r.a.val] ((w.alloc (.cells #[.int .i64 r.op, .int .i64 r.a.kd, .int .i64 r.a.no, .bool r.a.tr, .string r.a.tx, .int .i64 r.b.kd, .int .i64 r.b.no, .bool r.b.tr, .string r.b.tx] 285)).alloc (.cells #[.int .i64 (t.1 : Nat), .int .i64 (t.2.length : Nat), .string (wd t 0), .string (wd t 1), .string (wd t 2), .string (wd t 3), .string (wd t 4), .string (wd t 5)] 69)) fun e w' => e = .returned (.bool (vHolds t r.a)) ∧ Below ((w.alloc (.cells #[.int .i64 r.op, .int .i64 r.a.kd, .int .i64 r.a.no, .bool r.a.tr, .string r.a.tx, .int .i64 r.b.kd, .int .i64 r.b.no, .bool r.b.tr, .string r.b.tx] 285)).alloc (.cells #[.int .i64 (t.1 : Nat), .int .i64 (t.2.length : Nat), .string (wd t 0), .string (wd t 1), .string (wd t 2), .string (wd t 3), .string (wd t 4), .string (wd t 5)] 69)).heap.size ((w.alloc (.cells #[.int .i64 r.op, .int .i64 r.a.kd, .int .i64 r.a.no, .bool r.a.tr, .string r.a.tx, .int .i64 r.b.kd, .int .i64 r.b.no, .bool r.b.tr, .string r.b.tx] 285)).alloc (.cells #[.int .i64 (t.1 : Nat), .int .i64 (t.2.length : Nat), .string (wd t 0), .string (wd t 1), .string (wd t 2), .string (wd t 3), .string (wd t 4), .string (wd t 5)] 69)) w') := p_Holds t ht.1 r.a _; have HB : Hid (∀ W, Calls Tryz.prog 143 #[tyV t, r.b.val] W fun e w' => e = .returned (.bool (vHolds t r.b)) ∧ Below W.heap.size W w') := fun W => p_Holds t ht.1 r.b W
 clear hR ht; unfold tyV VR.val at HA HB; unfold tyV; generalize vHolds t r.a = va at *
 generalize vHolds t r.b = vb at *
 cases h0 : (r.op == 0) with
 | true =>
  have d0 : ((r.op : Int) != 0) = false := by rw [beq_iff_eq] at h0; rw [bne_eq_false_iff_eq]; omega
  have HE : Hid (R = (va && vb)) := by
   show _ = _; rw [HR.out, h0]; rfl
  clear h0; go_enter Tryz.func179, Tryz.ntmps179; go_wp2_with fail; refine Calls.mono HA.out ?_; rintro e w2 ⟨rfl, hb2⟩; have HW2 : Hid (Below w.heap.size w w2) := ab2l hb2; have u1 := (hb2.block w.heap.size (by simp; omega)).trans (blk_alloc _ (heap_alloc_new w _)); have u2 : w2.heap[w.heap.size + 1]? = some (.cells #[.int .i64 (t.1 : Nat), .int .i64 (t.2.length : Nat), .string (wd t 0), .string (wd t 1), .string (wd t 2), .string (wd t 3), .string (wd t 4), .string (wd t 5)] 69 (0, 0)) := by
   have := heap_alloc_new (w.alloc (.cells #[.int .i64 r.op, .int .i64 r.a.kd, .int .i64 r.a.no, .bool r.a.tr, .string r.a.tx, .int .i64 r.b.kd, .int .i64 r.b.no, .bool r.b.tr, .string r.b.tx] 285)) (.cells #[.int .i64 (t.1 : Nat), .int .i64 (t.2.length : Nat), .string (wd t 0), .string (wd t 1), .string (wd t 2), .string (wd t 3), .string (wd t 4), .string (wd t 5)] 69); rw [show (w.alloc (.cells #[.int .i64 r.op, .int .i64 r.a.kd, .int .i64 r.a.no, .bool r.a.tr, .string r.a.tx, .int .i64 r.b.kd, .int .i64 r.b.no, .bool r.b.tr, .string r.b.tx] 285)).heap.size = w.heap.size + 1 by simp] at this; exact (hb2.block (w.heap.size + 1) (by simp)).trans this
  obtain ⟨y0, y1, y2, y3, y4, y5, y6, y7⟩ := ty_cells u2; have q0 := blk_cell (o := 0) u1 rfl; have q1 := blk_cell (o := 1) u1 rfl; have q2 := blk_cell (o := 2) u1 rfl; have q3 := blk_cell (o := 3) u1 rfl; have q4 := blk_cell (o := 4) u1 rfl; have q5 := blk_cell (o := 5) u1 rfl; have q6 := blk_cell (o := 6) u1 rfl; have q7 := blk_cell (o := 7) u1 rfl; have q8 := blk_cell (o := 8) u1 rfl; clear hb2 u1 u2; cases va with
  | false =>
   go_wp2_with fail; go_ret; exact ⟨by rw [HE.out]; rfl, HW2.out⟩
  | true =>
   go_wp2_with fail; refine Calls.mono (HB.out w2) ?_; rintro e w3 ⟨rfl, hb3⟩; have HW3 : Hid (Below w.heap.size w w3) := HW2.out.trans (hb3.mono HW2.out.size); clear hb3; go_wp2_with fail; go_ret; exact ⟨by rw [HE.out]; rfl, HW3.out⟩
 | false =>
  have d0 : ((r.op : Int) != 0) = true := by rw [beq_eq_false_iff_ne] at h0; rw [bne_iff_ne]; omega
  cases h1 : (t.1 == 1) with
  | false =>
   have d1 : ((t.1 : Int) != 1) = true := by rw [beq_eq_false_iff_ne] at h1; rw [bne_iff_ne]; omega
   have HE : Hid (R = false) := by
    show _ = _; rw [HR.out, h0, h1]; rfl
   clear h0 h1; go_enter Tryz.func179, Tryz.ntmps179; go_wp2_with fail; go_ret; exact ⟨by rw [HE.out]; rfl, ab2 _ _ _⟩
  | true =>
   have d1 : ((t.1 : Int) != 1) = false := by rw [beq_iff_eq] at h1; rw [bne_eq_false_iff_eq]; omega
   have HE : Hid (R = (va && vb)) := by
    show _ = _; rw [HR.out, h0, h1]; rfl
   clear h0 h1; go_enter Tryz.func179, Tryz.ntmps179; go_wp2_with fail; refine Calls.mono HA.out ?_; rintro e w2 ⟨rfl, hb2⟩; have HW2 : Hid (Below w.heap.size w w2) := ab2l hb2; have u1 := (hb2.block w.heap.size (by simp; omega)).trans (blk_alloc _ (heap_alloc_new w _)); have u2 : w2.heap[w.heap.size + 1]? = some (.cells #[.int .i64 (t.1 : Nat), .int .i64 (t.2.length : Nat), .string (wd t 0), .string (wd t 1), .string (wd t 2), .string (wd t 3), .string (wd t 4), .string (wd t 5)] 69 (0, 0)) := by
    have := heap_alloc_new (w.alloc (.cells #[.int .i64 r.op, .int .i64 r.a.kd, .int .i64 r.a.no, .bool r.a.tr, .string r.a.tx, .int .i64 r.b.kd, .int .i64 r.b.no, .bool r.b.tr, .string r.b.tx] 285)) (.cells #[.int .i64 (t.1 : Nat), .int .i64 (t.2.length : Nat), .string (wd t 0), .string (wd t 1), .string (wd t 2), .string (wd t 3), .string (wd t 4), .string (wd t 5)] 69); rw [show (w.alloc (.cells #[.int .i64 r.op, .int .i64 r.a.kd, .int .i64 r.a.no, .bool r.a.tr, .string r.a.tx, .int .i64 r.b.kd, .int .i64 r.b.no, .bool r.b.tr, .string r.b.tx] 285)).heap.size = w.heap.size + 1 by simp] at this; exact (hb2.block (w.heap.size + 1) (by simp)).trans this
   obtain ⟨y0, y1, y2, y3, y4, y5, y6, y7⟩ := ty_cells u2; have q0 := blk_cell (o := 0) u1 rfl; have q1 := blk_cell (o := 1) u1 rfl; have q2 := blk_cell (o := 2) u1 rfl; have q3 := blk_cell (o := 3) u1 rfl; have q4 := blk_cell (o := 4) u1 rfl; have q5 := blk_cell (o := 5) u1 rfl; have q6 := blk_cell (o := 6) u1 rfl; have q7 := blk_cell (o := 7) u1 rfl; have q8 := blk_cell (o := 8) u1 rfl; clear hb2 u1 u2; cases va with
   | false =>
    go_wp2_with fail; go_ret; exact ⟨by rw [HE.out]; rfl, HW2.out⟩
   | true =>
    go_wp2_with fail; refine Calls.mono (HB.out w2) ?_; rintro e w3 ⟨rfl, hb3⟩; have HW3 : Hid (Below w.heap.size w w3) := HW2.out.trans (hb3.mono HW2.out.size); clear hb3; go_wp2_with fail; go_ret; exact ⟨by rw [HE.out]; rfl, HW3.out⟩
theorem test_fits {r : QR} {p : Wk.PTest} (h : r.ok p) (t : Wk.Ty) : ((r.op == 0 || t.1 == 1) && (vHolds t r.a && vHolds t r.b)) = Wk.testFits t p := by
 obtain ⟨h1, h2, h3, h4, h5⟩ := h; unfold Wk.testFits; rw [h1, vHolds_ok h2 h3]
 congr 2
 by_cases e : p.op = 3
 ·rw [vHolds_ok (h4 e).1 (h4 e).2, e]; rfl
 ·have : vHolds t r.b = true := by unfold vHolds; rw [if_pos (h5 e)]
  rw [this]; have : (p.op != 3) = true := by rw [bne_iff_ne]; exact e
  rw [this]; rfl
end Go.Proofs.YtbkaghlklkdmkaaGreatDoor
namespace Go.Proofs.YtbkaghlklkdmkaaGreatDoor
open Go.RowKit
attribute [local go_sem ↓] Go.wp_at_zero Go.wp_at_succ
theorem kr_cells {w : World} {B g cap : Nat} {rs : List KR} (h : w.ownsRow B 264 2 (.slice (some ⟨g, 0, none⟩) rs.length cap) rs.length (KR.flat rs)) {k : Nat} {r : KR} (hk : rs[k]? = some r) : w.cell? ⟨g, k * 2, none⟩ = some (.bool r.no) ∧ w.cell? ⟨g, k * 2 + 1, none⟩ = some (.slice r.ad r.n r.cc) := by
 have hkl := (List.getElem?_eq_some_iff.1 hk).1; have key : ∀ i v, (KR.cells r)[i]? = some v → w.cell? ⟨g, k * 2 + i, none⟩ = some v := by
  intro i v hv; have hi : i < 2 := (List.getElem?_eq_some_iff.1 hv).1; rw [h.cellAt (k * 2 + i) (by omega)]; exact flat_at KR.cells 2 (fun _ => rfl) rs k _ hk i v hv
 exact ⟨key 0 _ rfl, key 1 _ rfl⟩
theorem qr_cells {w : World} {B g cap : Nat} {rs : List QR} (h : w.ownsRow B 285 9 (.slice (some ⟨g, 0, none⟩) rs.length cap) rs.length (QR.flat rs)) {k : Nat} {x : QR} (hk : rs[k]? = some x) : ∀ i v, (QR.cells x)[i]? = some v → w.cell? ⟨g, k * 9 + i, none⟩ = some v := by
 have hkl := (List.getElem?_eq_some_iff.1 hk).1; intro i v hv; have hi : i < 9 := (List.getElem?_eq_some_iff.1 hv).1; rw [h.cellAt (k * 9 + i) (by omega)]; exact flat_at QR.cells 9 (fun _ => rfl) rs k _ hk i v hv
theorem row_form {w : World} {B : Nat} {e : TypeId} {size n m c : Nat} {ad : Option Addr} {xs : List Value} (h : w.ownsRow B e size (.slice ad m c) n xs) : m = n ∧ (0 < n → ∃ g, ad = some ⟨g, 0, none⟩) ∧ n ≤ maxLen := by
 rcases h.2 with ⟨e1, h0⟩ | ⟨g, cap, cur, e1, -, -, e5, e6, -⟩
 ·injection e1 with a1 a2 a3; exact ⟨by omega, fun h => by omega, by rw [h0]; exact Nat.zero_le _⟩
 ·injection e1 with a1 a2 a3; exact ⟨a2, fun _ => ⟨g, a1⟩, Nat.le_trans e5 e6⟩
set_option maxRecDepth 100000 in
set_option maxHeartbeats 4000000 in
theorem p_cellsFit {ns : List Wk.Name} {w : World} {iv : Value} {irs : List IR} (hC : Cn ns w iv irs) {ad : Option Addr} {cc : Nat} {rs : List KR} {cs : List Wk.PCell} (hP : Pairs (KR.ok w) rs cs) (hrow : w.ownsRow 0 264 2 (.slice ad rs.length cc) rs.length (KR.flat rs)) (h3 : rs.length ≤ 3)
  {ad1 : Option Addr} {cc1 : Nat} {is : List Int} {cols : List (Wk.Name × Nat)} (hcr : w.ownsRow 0 3 1 (.slice ad1 is.length cc1) is.length (is.map (Value.int .i64))) (his : is = cols.map (fun y => Wk.idx y.1 ns)) (hkn : ∀ x ∈ cols, ns.contains x.1 = true) (hl : rs.length ≤ is.length) :
  Calls Tryz.prog 147 #[.agg #[iv], .slice ad rs.length cc, .slice ad1 is.length cc1] w fun e w' => e = .returned (.bool (Wk.cellsFit (envOf irs) cs cols)) ∧ Below w.heap.size w w' := by
 obtain ⟨R, hR⟩ : ∃ R, R = Wk.cellsFit (envOf irs) cs cols := ⟨_, rfl⟩
 rw [← hR]; have HR : Hid (R = Wk.cellsFit (envOf irs) (cs.drop 0) (cols.drop 0)) := hR; have HC : Hid (Cn ns w iv irs) := hC; have HP : Hid (Pairs (KR.ok w) rs cs) := hP; have HROW : Hid (w.ownsRow 0 264 2 (.slice ad rs.length cc) rs.length (KR.flat rs)) := hrow; have HCR : Hid (w.ownsRow 0 3 1 (.slice ad1 is.length cc1) is.length (is.map (Value.int .i64))) := hcr; have HIS : Hid _ := his; have HKN : Hid _ := hkn; have HLC : Hid (is.length = cols.length) := by show _ = _; rw [his, List.length_map]
 obtain ⟨gi, icap, hiv, hic, -⟩ := hC.items.ex; subst hiv; have hfew := hC.items.few; clear hC hP hrow hcr his hkn hR; go_enter Tryz.func147, Tryz.ntmps147; go_wp2_with fail; go_loopg [13] rs.length (fun gk s13 wr => ∃ k : Nat, k ≤ rs.length ∧ rs.length - k ≤ gk ∧ s13 = .int .i64 k ∧ Hid (Below (w.alloc (.cells #[.slice (some ⟨gi, 0, none⟩) irs.length icap] 150)).heap.size (w.alloc (.cells #[.slice (some ⟨gi, 0, none⟩) irs.length icap] 150)) wr) ∧ Hid (R = Wk.cellsFit (envOf irs) (cs.drop k) (cols.drop k)))
 case atStart => exact ⟨0, Nat.zero_le _, by omega, rfl, Below.refl _ _, HR⟩
 case round =>
  obtain ⟨k, hk, hg, rfl, HB, HRk⟩ := hrel; clear HR; have hbw : Below w.heap.size w wr := (ab1 _ _).trans (HB.out.mono (ab1 _ _).size); have HBW : Hid _ := hbw; by_cases hlt : k < rs.length
  ·have hltz : (k : Int) < (rs.length : Int) := by omega
   have hk0 : (0 : Int) ≤ (k : Int) := by omega
   have hki : (k : Int) < (is.length : Int) := by omega
   obtain ⟨gr, rfl⟩ := (row_form HROW.out).2.1 (by omega); obtain ⟨gc, rfl⟩ := (row_form HCR.out).2.1 (by omega); have hrk : rs[k]? = some (rs[k]'hlt) := List.getElem?_eq_getElem hlt; have hlc : k < cs.length := by have := HP.out.1; omega
   have hck : cs[k]? = some (cs[k]'hlc) := List.getElem?_eq_getElem hlc; have hlx : k < cols.length := by have := HLC.out; omega
   have hxk : cols[k]? = some (cols[k]'hlx) := List.getElem?_eq_getElem hlx; have hok := HP.out.2 k _ _ hrk hck; have hwl : rs.length ≤ 1000 := by omega
   obtain ⟨e0, e1⟩ := kr_cells (owns_below HROW.out hbw) hrk; obtain ⟨qs, hq1, hq2⟩ := hok.2; have hform := row_form hq2; have HQ2 : Hid (w.ownsRow 0 285 9 (.slice (rs[k]'hlt).ad (rs[k]'hlt).n (rs[k]'hlt).cc) qs.length (QR.flat qs)) := hq2; have HQ1 : Hid _ := hq1; have hic' := HKN.out _ (List.getElem_mem hlx); obtain ⟨ji, y, hji, hy, hty⟩ := Wk.idx_tyOf (E := envOf irs) (by rw [envOf_names]; exact HC.out.pre) hic'; obtain ⟨r, hr, hrt⟩ := env_at hy; have hjl : ji < irs.length := (List.getElem?_eq_some_iff.1 hr).1; have hcc : w.cell? ⟨gc, k, none⟩ = some (.int .i64 (ji : Nat)) := by
    have := HCR.out.cellAt k (by omega); rw [this, List.getElem?_map, HIS.out, List.getElem?_map, hxk]; show some (Value.int .i64 (Wk.idx (cols[k]'hlx).1 ns)) = _; rw [hji]
   obtain ⟨gi', icap', hiv', -, hgil, z0, z1, z2, z3, z4, z5, z6, z7⟩ := item_ty HC.out.items hr; injection hiv' with a1 _ a3; injection a1 with a1; injection a1 with a1; subst a1; subst a3; have hgcl := cell_lt hcc; have HTYW : Hid (TyW r.ty) := HC.out.items.tys r (List.mem_of_getElem? hr); have HRS : Hid (R = ((cs[k]'hlc).tests.all (Wk.testFits r.ty) && Wk.cellsFit (envOf irs) (cs.drop (k + 1)) (cols.drop (k + 1)))) := by
    show _ = _; rw [HRk.out, cellsFit_step (E := envOf irs) hck hxk, hty, hrt]
   have hj0 : (0 : Int) ≤ (ji : Int) := by omega
   have hj1 : (ji : Int) < (irs.length : Int) := by omega
   generalize r.ty = t at *
   generalize (rs[k]'hlt) = kr at *
   generalize (cs[k]'hlc).tests = ts at *
   obtain ⟨kno, kad, kn, kcc⟩ := kr; simp only [] at hform e1 HQ2; have hkn2 : kn = qs.length := hform.1; subst hkn2; have HFO : Hid _ := hform.2.1; have hmx : qs.length ≤ maxLen := hform.2.2; unfold maxLen at hmx; have hqe : qs.length = ts.length := HQ1.out.1; have hiw : wr.cell? ⟨w.heap.size, 0, none⟩ = some (.slice (some ⟨gi, 0, none⟩) irs.length icap) := blk_cell ((HB.out.block w.heap.size (by simp)).trans (heap_alloc_new w _)) rfl; have hiwl := cell_lt hiw; have HQE : Hid _ := hqe; have hqw : Below w.heap.size w wr := HBW.out; clear hform hqe hok hq1 hq2 hji hy hty hr hrt hck hxk hrk hic' hbw; obtain ⟨go, hgo⟩ : ∃ g : Nat, g = gk := ⟨_, rfl⟩
   subst hgo; obtain ⟨wo, hwo⟩ : ∃ W, W = wr := ⟨_, rfl⟩
   subst hwo; have HQW : Hid (Below w.heap.size w wo) := hqw; clear hqw; go_wp2_with fail; clear e0 e1 hiw; go_loopg [21] qs.length (fun g1 s21 wp => ∃ j : Nat, j ≤ qs.length ∧ qs.length - j ≤ g1 ∧ s21 = .int .i64 j ∧ Hid (Below wo.heap.size wo wp) ∧ Hid (R = ((ts.drop j).all (Wk.testFits t) && Wk.cellsFit (envOf irs) (cs.drop (k + 1)) (cols.drop (k + 1)))))
   case atStart => exact ⟨0, Nat.zero_le _, by omega, rfl, ab1 _ _, HRS⟩
   case round =>
    obtain ⟨j, hj, hgj, rfl, HBj, HRj⟩ := hrel; obtain ⟨wp, hwp⟩ : ∃ W, W = wr := ⟨_, rfl⟩
    subst hwp; clear HRS; have HWP : Hid (Below w.heap.size w wp) := HQW.out.trans (HBj.out.mono HQW.out.size); have HCP : Hid (Below (w.alloc (.cells #[.slice (some ⟨gi, 0, none⟩) irs.length icap] 150)).heap.size (w.alloc (.cells #[.slice (some ⟨gi, 0, none⟩) irs.length icap] 150)) wp) := HB.out.trans (HBj.out.mono HB.out.size); by_cases hjl2 : j < qs.length
    ·have hjz : (j : Int) < (qs.length : Int) := by omega
     have hjz0 : (0 : Int) ≤ (j : Int) := by omega
     obtain ⟨gq, rfl⟩ := HFO.out (by omega); have hqj : qs[j]? = some (qs[j]'hjl2) := List.getElem?_eq_getElem hjl2; have hjt : j < ts.length := by have := HQE.out; omega
     have htj : ts[j]? = some (ts[j]'hjt) := List.getElem?_eq_getElem hjt; have hxo := HQ1.out.2 j _ _ hqj htj; have HFT : Hid _ := test_fits hxo t; have HRJ : Hid (R = (Wk.testFits t (ts[j]'hjt) && ((ts.drop (j + 1)).all (Wk.testFits t) && Wk.cellsFit (envOf irs) (cs.drop (k + 1)) (cols.drop (k + 1))))) := by
      show _ = _; rw [HRj.out, List.drop_eq_getElem_cons hjt, List.all_cons, Bool.and_assoc]
     have qc := qr_cells (owns_below HQ2.out HWP.out) hqj; generalize hxx : (qs[j]'hjl2) = x at *
     have x0 := qc 0 _ rfl; have x1 := qc 1 _ rfl; have x2 := qc 2 _ rfl; have x3 := qc 3 _ rfl; have x4 := qc 4 _ rfl; have x5 := qc 5 _ rfl; have x6 := qc 6 _ rfl; have x7 := qc 7 _ rfl; have x8 := qc 8 _ rfl; rw [Nat.add_zero] at x0; have HTF : Hid _ := p_testFits x t HTYW.out (wp.alloc (.cells #[.int .i64 x.op, .int .i64 x.a.kd, .int .i64 x.a.no, .bool x.a.tr, .string x.a.tx, .int .i64 x.b.kd, .int .i64 x.b.no, .bool x.b.tr, .string x.b.tx] 285)).drew; rw [HFT.out] at HTF; generalize Wk.testFits t (ts[j]'hjt) = tf at *
     have HS : Hid (∀ W, Below (wp.alloc (.cells #[.int .i64 x.op, .int .i64 x.a.kd, .int .i64 x.a.no, .bool x.a.tr, .string x.a.tx, .int .i64 x.b.kd, .int .i64 x.b.no, .bool x.b.tr, .string x.b.tx] 285)).heap.size (wp.alloc (.cells #[.int .i64 x.op, .int .i64 x.a.kd, .int .i64 x.a.no, .bool x.a.tr, .string x.a.tx, .int .i64 x.b.kd, .int .i64 x.b.no, .bool x.b.tr, .string x.b.tx] 285)) W → W.cell? ⟨w.heap.size, 0, none⟩ = some (.slice (some ⟨gi, 0, none⟩) irs.length icap) ∧ W.cell? ⟨gc, k, none⟩ = some (.int .i64 (ji : Nat)) ∧ W.cell? ⟨wp.heap.size, 0, none⟩ = some (.int .i64 x.op) ∧ W.cell? ⟨wp.heap.size, 1, none⟩ = some (.int .i64 x.a.kd) ∧ W.cell? ⟨wp.heap.size, 2, none⟩ = some (.int .i64 x.a.no) ∧ W.cell? ⟨wp.heap.size, 3, none⟩ = some (.bool x.a.tr) ∧ W.cell? ⟨wp.heap.size, 4, none⟩ = some (.string x.a.tx) ∧ W.cell? ⟨wp.heap.size, 5, none⟩ = some (.int .i64 x.b.kd) ∧ W.cell? ⟨wp.heap.size, 6, none⟩ = some (.int .i64 x.b.no) ∧ W.cell? ⟨wp.heap.size, 7, none⟩ = some (.bool x.b.tr) ∧ W.cell? ⟨wp.heap.size, 8, none⟩ = some (.string x.b.tx) ∧ W.cell? ⟨gi, ji * 15 + 2, none⟩ = some (.int .i64 (t.1 : Nat)) ∧ W.cell? ⟨gi, ji * 15 + 3, none⟩ = some (.int .i64 (t.2.length : Nat)) ∧ W.cell? ⟨gi, ji * 15 + 4, none⟩ = some (.string (wd t 0)) ∧ W.cell? ⟨gi, ji * 15 + 5, none⟩ = some (.string (wd t 1)) ∧ W.cell? ⟨gi, ji * 15 + 6, none⟩ = some (.string (wd t 2)) ∧ W.cell? ⟨gi, ji * 15 + 7, none⟩ = some (.string (wd t 3)) ∧ W.cell? ⟨gi, ji * 15 + 8, none⟩ = some (.string (wd t 4)) ∧ W.cell? ⟨gi, ji * 15 + 9, none⟩ = some (.string (wd t 5))) := by
      intro W hW; have hb0 : Below w.heap.size w W := HWP.out.trans (((ab1 _ _).trans (hW.mono (ab1 _ _).size)).mono HWP.out.size); have hbc := HCP.out.trans (((ab1 wp (.cells #[.int .i64 x.op, .int .i64 x.a.kd, .int .i64 x.a.no, .bool x.a.tr, .string x.a.tx, .int .i64 x.b.kd, .int .i64 x.b.no, .bool x.b.tr, .string x.b.tx] 285)).trans (hW.mono (ab1 _ _).size)).mono HCP.out.size); have u := (hW.block wp.heap.size (by simp)).trans (heap_alloc_new wp _); refine ⟨blk_cell ((hbc.block w.heap.size (by simp)).trans (heap_alloc_new w _)) rfl, (hb0.cell (p := ⟨gc, k, none⟩) hgcl).trans hcc, blk_cell u rfl, blk_cell u rfl, blk_cell u rfl, blk_cell u rfl, blk_cell u rfl, blk_cell u rfl, blk_cell u rfl, blk_cell u rfl, blk_cell u rfl, ?_, ?_, ?_, ?_, ?_, ?_, ?_, ?_⟩
      ·exact (hb0.cell (p := ⟨gi, ji * 15 + 2, none⟩) hgil).trans z0
      ·exact (hb0.cell (p := ⟨gi, ji * 15 + 3, none⟩) hgil).trans z1
      ·exact (hb0.cell (p := ⟨gi, ji * 15 + 4, none⟩) hgil).trans z2
      ·exact (hb0.cell (p := ⟨gi, ji * 15 + 5, none⟩) hgil).trans z3
      ·exact (hb0.cell (p := ⟨gi, ji * 15 + 6, none⟩) hgil).trans z4
      ·exact (hb0.cell (p := ⟨gi, ji * 15 + 7, none⟩) hgil).trans z5
      ·exact (hb0.cell (p := ⟨gi, ji * 15 + 8, none⟩) hgil).trans z6
      ·exact (hb0.cell (p := ⟨gi, ji * 15 + 9, none⟩) hgil).trans z7
     have HX : Hid _ := HS.out (wp.alloc (.cells #[.int .i64 x.op, .int .i64 x.a.kd, .int .i64 x.a.no, .bool x.a.tr, .string x.a.tx, .int .i64 x.b.kd, .int .i64 x.b.no, .bool x.b.tr, .string x.b.tx] 285)).drew (Below.refl _ _).drew; clear qc hxx hxo hqj htj HFT hcc z0 z1 z2 z3 z4 z5 z6 z7; unfold tyV at HTF; go_wp2_with fail; clear x0 x1 x2 x3 x4 x5 x6 x7 x8; go_upto_region 7 with fail; refine wp_region_ph (fun W => W.cell? ⟨w.heap.size, 0, none⟩ = some (.slice (some ⟨gi, 0, none⟩) irs.length icap) ∧ W.cell? ⟨gc, k, none⟩ = some (.int .i64 (ji : Nat)) ∧ W.cell? ⟨wp.heap.size, 0, none⟩ = some (.int .i64 x.op) ∧ W.cell? ⟨wp.heap.size, 1, none⟩ = some (.int .i64 x.a.kd) ∧ W.cell? ⟨wp.heap.size, 2, none⟩ = some (.int .i64 x.a.no) ∧ W.cell? ⟨wp.heap.size, 3, none⟩ = some (.bool x.a.tr) ∧ W.cell? ⟨wp.heap.size, 4, none⟩ = some (.string x.a.tx) ∧ W.cell? ⟨wp.heap.size, 5, none⟩ = some (.int .i64 x.b.kd) ∧ W.cell? ⟨wp.heap.size, 6, none⟩ = some (.int .i64 x.b.no) ∧ W.cell? ⟨wp.heap.size, 7, none⟩ = some (.bool x.b.tr) ∧ W.cell? ⟨wp.heap.size, 8, none⟩ = some (.string x.b.tx) ∧ W.cell? ⟨gi, ji * 15 + 2, none⟩ = some (.int .i64 (t.1 : Nat)) ∧ W.cell? ⟨gi, ji * 15 + 3, none⟩ = some (.int .i64 (t.2.length : Nat)) ∧ W.cell? ⟨gi, ji * 15 + 4, none⟩ = some (.string (wd t 0)) ∧ W.cell? ⟨gi, ji * 15 + 5, none⟩ = some (.string (wd t 1)) ∧ W.cell? ⟨gi, ji * 15 + 6, none⟩ = some (.string (wd t 2)) ∧ W.cell? ⟨gi, ji * 15 + 7, none⟩ = some (.string (wd t 3)) ∧ W.cell? ⟨gi, ji * 15 + 8, none⟩ = some (.string (wd t 4)) ∧ W.cell? ⟨gi, ji * 15 + 9, none⟩ = some (.string (wd t 5))) 12 12 rfl (by kernel_rfl) HX.out (fun hHeld => ?_); clear hHeld; refine PhS.t 0 25 HX.out ?_; refine PhS.t 1 26 HX.out ?_; refine PhS.t 2 27 HX.out ?_; refine PhS.t 3 28 HX.out ?_; refine PhS.t 4 29 HX.out ?_; refine PhS.t 5 30 HX.out ?_; refine PhS.t 6 31 HX.out ?_; refine PhS.t 7 32 HX.out ?_; refine PhS.t 8 33 HX.out ?_; refine PhS.t 9 34 HX.out ?_; refine PhS.on 10 (fun K hK => ?_); go_simp; refine Calls.mono HTF.out ?_; rintro e w9 ⟨rfl, hb9⟩; have hb9 : Below (wp.alloc (.cells #[.int .i64 x.op, .int .i64 x.a.kd, .int .i64 x.a.no, .bool x.a.tr, .string x.a.tx, .int .i64 x.b.kd, .int .i64 x.b.no, .bool x.b.tr, .string x.b.tx] 285)).heap.size (wp.alloc (.cells #[.int .i64 x.op, .int .i64 x.a.kd, .int .i64 x.a.no, .bool x.a.tr, .string x.a.tx, .int .i64 x.b.kd, .int .i64 x.b.no, .bool x.b.tr, .string x.b.tx] 285)) w9 := ⟨hb9.os, hb9.tape, hb9.output, hb9.size, hb9.block⟩
     have HX9 : Hid _ := HS.out w9 hb9; have HB9 : Hid (Below wo.heap.size wo w9) := HBj.out.trans (((ab1 wp _).trans (hb9.mono (ab1 _ _).size)).mono HBj.out.size); refine hK.out _ _ (fun _ => HX9.out) ?_; clear hK K hb9; try simp only [Act.put, sA, sZ, sS]
     refine PhS.t 11 36 HX9.out ?_; refine PhS.done (by kernel_rfl) ?_ _; cases tf with
     | false =>
      have HE : Hid (R = false) := by
       show _ = _; rw [HRJ.out]; rfl
      go_wp2_with fail; go_ret; exact ⟨by rw [HE.out]; rfl, HQW.out.trans (HB9.out.mono HQW.out.size)⟩
     | true =>
      go_wp2_with fail; go_roundg (qs.length - (j + 1)); case measure => omega
      case rel => exact ⟨j + 1, by omega, by omega, by go_num, HB9, HRJ⟩
    ·have hjz : ¬ (j : Int) < (qs.length : Int) := by omega
     have HE : Hid (R = Wk.cellsFit (envOf irs) (cs.drop (k + 1)) (cols.drop (k + 1))) := by
      show _ = _; have hqt : qs.length = ts.length := HQE.out; rw [HRj.out, List.drop_eq_nil_of_le (by omega)]; rfl
     go_wp2_with fail; go_roundg (rs.length - (k + 1)); case measure => omega
     case rel => exact ⟨k + 1, by omega, by omega, by go_num, HCP, HE⟩
  ·have hltz : ¬ (k : Int) < (rs.length : Int) := by omega
   have HE : Hid (R = true) := by
    show _ = _; rw [HRk.out, List.drop_eq_nil_of_le (by have := HP.out.1; omega)]; unfold Wk.cellsFit; rfl
   go_wp2_with fail; go_ret; exact ⟨by rw [HE.out]; rfl, HBW.out⟩
end Go.Proofs.YtbkaghlklkdmkaaGreatDoor
