import Derived.Test.YtbkaghlklkdmkaaGreatDoorI6
namespace Go.Proofs.YtbkaghlklkdmkaaGreatDoor
open Go.RowKit
attribute [local go_sem ↓] Go.wp_at_zero Go.wp_at_succ
def TstIn (w : World) (v : Value) (ts : List Wk.PTest) : Prop := ∃ rs, Pairs QR.ok rs ts ∧ w.ownsRow 0 285 9 v rs.length (QR.flat rs)
theorem TstIn.keep {w w' : World} {v : Value} {ts : List Wk.PTest} (h : TstIn w v ts) {us : List TypeId} (k : KeepS us w w') (hu : 285 ∈ us) : TstIn w' v ts := by
 obtain ⟨rs, h1, h2⟩ := h; exact ⟨rs, h1, owns_keepS h2 k hu⟩
structure KR where
 no : Bool
 ad : Option Addr
 n : Nat
 cc : Nat
def KR.cells (r : KR) : List Value := [.bool r.no, .slice r.ad r.n r.cc]
def KR.ok (w : World) (r : KR) (p : Wk.PCell) : Prop := r.no = p.no ∧ TstIn w (.slice r.ad r.n r.cc) p.tests
def cellEndP (T : List Wk.Tok) (w' : World) (q : Wk.St) (e : Ending) : Prop := ∃ r : KR, e = .returned (.agg #[.bool r.no, .slice r.ad r.n r.cc]) ∧ ((Wk.pCell T q).1.bad = none → KR.ok w' r (Wk.pCell T q).2)
set_option maxRecDepth 100000 in
set_option maxHeartbeats 2000000 in
theorem j_cell {c : Cx} (hT : TP c.T) {w0 w : World} {q : Wk.St} {nest : Int} {o : Option Nat} (h : PI c w0 w q nest o) :
  Calls Tryz.prog 206 #[nptr c.b] w fun e w' => cellEndP c.T w' q e ∧ PI c w0 w' (Wk.pCell c.T q).1 nest o := by
 have HH : Hid (PI c w0 w q nest o) := h; have HS : Hid (PI c w w q nest o) := h.self; have hblt := h.blt; have HT : Hid _ := hT; have HPB : Hid (((w.alloc (.cells #[nptr c.b] 209)).alloc (.cells #[.bool false, .slice none 0 0] 264)).heap[w.heap.size]? = some (.cells #[nptr c.b] 209 (0, 0))) := blk_alloc _ (heap_alloc_new w _); have HRB : Hid (((w.alloc (.cells #[nptr c.b] 209)).alloc (.cells #[.bool false, .slice none 0 0] 264)).heap[w.heap.size + 1]? = some (.cells #[.bool false, .slice none 0 0] 264 (0, 0))) := by
  have := heap_alloc_new (w.alloc (.cells #[nptr c.b] 209)) (.cells #[.bool false, .slice none 0 0] 264); rw [sz_alloc] at this; exact this
 have HIA : Hid (PI c ((w.alloc (.cells #[nptr c.b] 209)).alloc (.cells #[.bool false, .slice none 0 0] 264)) ((w.alloc (.cells #[nptr c.b] 209)).alloc (.cells #[.bool false, .slice none 0 0] 264)) q nest o) := ((h.alloc _).alloc _).self; clear h hT; cases hA : (q.isK c.T 28 && !(q.adv.isIn c.T [3, 4])) with
 | true =>
  have HP : Hid (Wk.pCell c.T q = (q.adv, ⟨false, []⟩)) := by
   show _ = _; unfold Wk.pCell; rw [hA]; rfl
  have HA : Hid _ := hA; have HW : Hid (q.want c.T 28 = q.adv) := want_isK (Bool.and_eq_true _ _ ▸ hA).1; rw [HP.out]; clear hA; go_enter Tryz.func206, Tryz.ntmps206; go_wp2_with fail; refine (j_isAny HIA.out).mono ?_; rintro e w1 ⟨rfl, hb1⟩; rw [HA.out]; have HI1 : Hid _ := HIA.out.below hb1; have c0 := blk_cell (o := 0) (HI1.out.blk HPB.out (by omega)) rfl; clear hb1; go_wp2_with fail; refine (j_want HI1.out 28 (by decide)).mono ?_; rintro e w2 ⟨he, hI⟩; obtain ⟨v2, rfl⟩ : ∃ v, e = .returned v := ⟨_, he⟩
  rw [HW.out] at hI; have HI2 : Hid _ := hI; have u := hI.blk HRB.out (by omega); have y0 := blk_cell (o := 0) u rfl; have y1 := blk_cell (o := 1) u rfl; have yf := blk_free u; clear hI he u c0; go_wp2_with fail; refine bodyPost_ret (v := .agg #[.bool false, .slice none 0 0]) (by simp [results, Tryz.results206, go_sem, y0, y1]) rfl ⟨⟨⟨false, none, 0, 0⟩, rfl, fun _ => ?_⟩, ?_⟩
  ·rw [HP.out]; exact ⟨rfl, [], Pairs.nil _, World.ownsRow_nil _ _ _ _⟩
  ·exact HH.out.trans (((((HS.out.alloc _).alloc _).trans HI2.out).setNew HS.out (Nat.le_succ _) _ _).setNew HS.out (Nat.le_succ _) _ _)
 | false =>
  have HP : Hid (Wk.pCell c.T q = ((listRun (fun s => s.1.isK c.T 30) (testStep c.T) (fun s => (s.1.adv, s.2)) 4 ((if q.isK c.T 26 then q.adv else q), [])).1, ⟨q.isK c.T 26, (listRun (fun s => s.1.isK c.T 30) (testStep c.T) (fun s => (s.1.adv, s.2)) 4 ((if q.isK c.T 26 then q.adv else q), [])).2⟩)) := by
   show _ = _; rw [← pTests_run]; unfold Wk.pCell; rw [hA]; rfl
  have HA : Hid _ := hA; rw [HP.out]; obtain ⟨FIN, hFIN⟩ : ∃ FIN, FIN = listRun (fun s => s.1.isK c.T 30) (testStep c.T) (fun s => (s.1.adv, s.2)) 4 ((if q.isK c.T 26 then q.adv else q), []) := ⟨_, rfl⟩
  rw [← hFIN]; rw [← hFIN] at HP; have HFIN : Hid _ := hFIN; clear hA hFIN; go_enter Tryz.func206, Tryz.ntmps206; go_wp2_with fail; refine (j_isAny HIA.out).mono ?_; rintro e w1 ⟨rfl, hb1⟩; rw [HA.out]; have HI1 : Hid _ := HIA.out.below hb1; have c0 := blk_cell (o := 0) (HI1.out.blk HPB.out (by omega)) rfl; clear hb1; go_wp2_with fail; refine (j_has HI1.out 26 (by decide)).mono ?_; rintro e w2 ⟨rfl, hI⟩; obtain ⟨no, hno⟩ : ∃ b, b = q.isK c.T 26 := ⟨_, rfl⟩
  obtain ⟨q1, hq1⟩ : ∃ x, x = (if q.isK c.T 26 then q.adv else q) := ⟨_, rfl⟩
  rw [← hq1] at hI HFIN; rw [← hno] at HP ⊢; have HI2 : Hid _ := hI; have hp2 := hI.blk HPB.out (by omega); have hr2 := hI.blk HRB.out (by omega); have hl2 := lt_of_block hr2; have hl2' := lt_of_block hp2; have c2 := blk_cell (o := 0) hp2 rfl; have HC0 : Hid (CI c w w.heap.size (w.heap.size + 1) w2.heap.size no nest o 0 (w2.alloc (.cells #[.bool no, .slice none 0 0] 264)) (q1, [])) := by
   refine ⟨(((HS.out.alloc _).alloc _).trans hI).alloc _, ⟨_, _, _, HS.out⟩, blk_alloc _ hp2, blk_alloc _ hr2, ⟨none, 0, [], heap_alloc_new _ _, World.ownsRow_nil _ _ _ _, rfl, fun _ => Pairs.nil _⟩, by omega, by omega, by omega, by omega, by omega, by omega⟩
  clear hI c0 hp2 hr2 hno hq1; go_wp2_with fail; refine (j_list (b := c.b) (sign := 30) (most := 4) (isK := fun s : Wk.St × List Wk.PTest => s.1.isK c.T 30) (step := testStep c.T) (adv := fun s => (s.1.adv, s.2)) (lb := #[nptr w2.heap.size, nptr w.heap.size]) eg232 (CI c w w.heap.size (w.heap.size + 1) w2.heap.size no nest o) ?_ (fun k w' s hk hW => j_testStep HT.out hk hW) (by omega) (by omega) HC0.out).mono ?_
  ·intro k w' s hW; refine (j_has hW.inn.self 30 (by decide)).mono ?_; rintro e w'' ⟨rfl, hI''⟩; refine ⟨rfl, ?_⟩; have := hW.step hI'' (fun e => ?_)
   ·split
    ·rename_i hk; rw [if_pos hk] at this; exact this
    ·rename_i hk; rw [if_neg hk] at this; exact this
   ·cases hk : s.1.isK c.T 30 with
    | true => exact (Wk.isK_iff.1 hk).1
    | false => rw [hk] at e; exact e
  ·rintro e w4 ⟨rfl, k, hk, hC4⟩; rw [← HFIN.out] at hC4; obtain ⟨ad, cc, rs, hcb, hrow, hlen, hok⟩ := hC4.cbx; have HC4 : Hid _ := hC4; have HROW : Hid (w4.ownsRow w.heap.size 285 9 (.slice ad k cc) k (QR.flat rs)) := hrow; have HOK : Hid _ := hok; have HLEN : Hid _ := hlen; have HRB4 : Hid _ := hC4.rbx; have z0 := blk_cell (o := 0) hcb rfl; have z1 := blk_cell (o := 1) hcb rfl; have y0 := blk_cell (o := 0) hC4.rbx rfl; have y1 := blk_cell (o := 1) hC4.rbx rfl; have yf := blk_free hC4.rbx; clear hC4 hrow hok hcb hlen; go_wp2_with fail; refine bodyPost_ret (v := .agg #[.bool no, .slice ad k cc]) (by simp [results, Tryz.results206, go_sem, y0, y1]) rfl ⟨⟨⟨no, ad, k, cc⟩, rfl, fun hb => ?_⟩, ?_⟩
   ·rw [HP.out] at hb ⊢; refine ⟨rfl, rs, HOK.out hb, ?_⟩; have := owns_mono HROW.out (Nat.zero_le _); rw [HLEN.out]; have k1 := KeepS.set (ts := [285]) (o := 0) HRB4.out (by decide) (.bool no); have u1 := blk_set (o := 0) (.bool no) HRB4.out; exact owns_keepS this (k1.trans (KeepS.set (ts := [285]) u1 (by decide) _)) (by decide)
   ·exact HH.out.trans ((HC4.out.inn.setNew HS.out (Nat.le_succ _) _ _).setNew HS.out (Nat.le_succ _) _ _)
end Go.Proofs.YtbkaghlklkdmkaaGreatDoor
namespace Go.Proofs.YtbkaghlklkdmkaaGreatDoor
open Go.RowKit
attribute [local go_sem ↓] Go.wp_at_zero Go.wp_at_succ
def KR.flat (l : List KR) : List Value := (l.map KR.cells).flatten
theorem KR.flat_snoc (l : List KR) (r : KR) : KR.flat (l ++ [r]) = KR.flat l ++ r.cells := by simp [KR.flat]
theorem KR.ok.keep {w w' : World} {r : KR} {p : Wk.PCell} (h : KR.ok w r p) {us : List TypeId} (k : KeepS us w w') (hu : 285 ∈ us) : KR.ok w' r p := ⟨h.1, h.2.keep k hu⟩
def CelIn (w : World) (v : Value) (cs : List Wk.PCell) : Prop := ∃ rs, Pairs (KR.ok w) rs cs ∧ w.ownsRow 0 264 2 v rs.length (KR.flat rs)
theorem CelIn.keep {w w' : World} {v : Value} {cs : List Wk.PCell} (h : CelIn w v cs) {us : List TypeId} (k : KeepS us w w') (h1 : 285 ∈ us) (h2 : 264 ∈ us) : CelIn w' v cs := by
 obtain ⟨rs, g1, g2⟩ := h; exact ⟨rs, g1.imp (fun _ _ x => x.keep k h1), owns_keepS g2 k h2⟩
structure UR where
 ad : Option Addr
 n : Nat
 cc : Nat
 k : Nat
def UR.cells (r : UR) : List Value := [.slice r.ad r.n r.cc, nptr r.k]
def UR.ok (ns : List Wk.Name) (w : World) (r : UR) (p : Wk.PRule) : Prop := CelIn w (.slice r.ad r.n r.cc) p.cells ∧ PTK ns w (nptr r.k) p.out
theorem UR.ok.keep {ns : List Wk.Name} {w w' : World} {r : UR} {p : Wk.PRule} (h : UR.ok ns w r p) {us : List TypeId} (k : KeepS us w w') (h1 : 285 ∈ us) (h2 : 264 ∈ us) (h3 : 246 ∈ us) (h4 : 70 ∈ us) : UR.ok ns w' r p := ⟨h.1.keep k h1 h2, PTK.keep h.2 (k.toN h3 h4)⟩
def ruleEndP (c : Cx) (w' : World) (n : Nat) (q : Wk.St) (e : Ending) : Prop := ∃ r : UR, e = .returned (.agg #[.slice r.ad r.n r.cc, nptr r.k]) ∧ ((Wk.pRule c.T n q).1.bad = none → UR.ok c.ns w' r (Wk.pRule c.T n q).2)
theorem Tryz.info264 : (Tryz.prog.info? 264).map (fun i => (i.zero, i.size, i.bytes)) = some (some (.agg #[.bool false, .slice none 0 0]), 2, 32) := by kernel_rfl
theorem Tryz.und254 : Tryz.prog.underlying 254 = some (.slice 264) := by kernel_rfl
structure UI (c : Cx) (w0 w : World) (q : Wk.St) (o : Option Nat) (rb : Nat) (ad : Option Addr) (cc : Nat) (rs : List KR) (cells : List Wk.PCell) : Prop where
 inn : PI c w0 w q 0 o
 top : ∃ qa na oa, PI c w0 w0 qa na oa
 rbx : w.heap[rb]? = some (.cells #[.slice none 0 0, .pointer none] 256 (0, 0))
 row : w.ownsRow w0.heap.size 264 2 (.slice ad rs.length cc) rs.length (KR.flat rs)
 ok : q.bad = none → Pairs (KR.ok w) rs cells
 new : w0.heap.size ≤ rb
theorem UI.step {c : Cx} {w0 w w' : World} {q q' : Wk.St} {o : Option Nat} {rb : Nat} {ad : Option Addr} {cc : Nat} {rs : List KR} {cells : List Wk.PCell} (h : UI c w0 w q o rb ad cc rs cells) (hI : PI c w w' q' 0 o) (hq : q'.bad = none → q.bad = none) : UI c w0 w' q' o rb ad cc rs cells := by
 obtain ⟨qa, na, oa, ht⟩ := h.top; have hb := ht.blt; have hn := h.new; have k := h.inn.keepS (ts := [285, 264]) hI (by decide); exact ⟨h.inn.trans hI, h.top, hI.blk h.rbx (by omega), owns_keepS h.row k (by decide), fun e => (h.ok (hq e)).imp (fun _ _ x => x.keep k (by decide)), h.new⟩
theorem pCell_none {T : List Wk.Tok} {q : Wk.St} (h : (Wk.pCell T q).1.bad = none) : q.bad = none := by
 exact none_of (fun hs => Wk.pCell_bad T hs) h
set_option maxRecDepth 100000 in
set_option maxHeartbeats 4000000 in
theorem j_rule {c : Cx} (hT : TP c.T) {w0 w : World} {q : Wk.St} {o : Option Nat} (h : PI c w0 w q 0 o) (n : Nat) (hn : 1 ≤ n) (hn3 : n ≤ 3) :
    Calls Tryz.prog 176 #[nptr c.b, .int .i64 n] w fun e w' => ruleEndP c w' n q e ∧ PI c w0 w' (Wk.pRule c.T n q).1 0 (o.or (Wk.stray c.ns (Wk.pRule c.T n q).2.out.names)) := by
  have HH : Hid (PI c w0 w q 0 o) := h; have HS : Hid (PI c w w q 0 o) := h.self; have hblt := h.blt; have HT : Hid _ := hT; obtain ⟨FINC, hFC⟩ : ∃ F, F = Wk.pCells c.T (n - 1) (Wk.pCell c.T q).1 [(Wk.pCell c.T q).2] := ⟨_, rfl⟩
  have HFC : Hid (Wk.pCells c.T (n - 1) (Wk.pCell c.T q).1 [(Wk.pCell c.T q).2] = FINC) := hFC.symm; have HP : Hid (Wk.pRule c.T n q = ((Wk.pExpr c.T (FINC.1.want c.T 31)).1, ⟨FINC.2, (Wk.pExpr c.T (FINC.1.want c.T 31)).2⟩)) := by
    show _ = _; rw [hFC]; rfl
  rw [HP.out]; clear h hT hFC; go_enter Tryz.func176, Tryz.ntmps176; go_wp2_with fail; refine (j_cell HT.out (HS.out.alloc _).self).mono ?_; rintro e w1 ⟨⟨r, rfl, hr⟩, hI⟩; have hs1 : w.heap.size < w1.heap.size := by have := hI.fr.size; rw [sz_alloc] at this; omega
  have HU0 : Hid (UI c w (w1.alloc (.cells #[.bool r.no, .slice r.ad r.n r.cc] 264)) (Wk.pCell c.T q).1 o w.heap.size (some ⟨w1.heap.size, 0, none⟩) 1 [r] [(Wk.pCell c.T q).2]) := by
    refine ⟨((HS.out.alloc _).trans hI).alloc _, ⟨_, _, _, HS.out⟩, blk_alloc _ (hI.blk (heap_alloc_new w _) (by omega)), World.ownsRow_lit w1 #[.bool r.no, .slice r.ad r.n r.cc] 1 (by omega) (by unfold maxLen; omega) rfl, fun e => ?_, Nat.le_refl _⟩; exact (Pairs.nil _).snoc ((hr e).keep (us := [285]) (KeepS.below (ab1 _ _) _) (by decide))
  clear hI hr; go_wp2_with fail; go_loopg [5] n (fun gk s5 wr => ∃ (q' : Wk.St) (ad : Option Addr) (cc : Nat) (rs : List KR) (cells : List Wk.PCell), s5 = .slice ad rs.length cc ∧ gk + rs.length = n + 1 ∧ 1 ≤ gk ∧ Hid (UI c w wr q' o w.heap.size ad cc rs cells) ∧ Hid (Wk.pCells c.T (gk - 1) q' cells = FINC))
  case atStart => exact ⟨_, _, _, [r], _, rfl, by simp, by omega, HU0, HFC⟩
  case round =>
    obtain ⟨q', ad, cc, rs, cells, rfl, hg, hg1, HU, HF⟩ := hrel; clear HU0 HFC; by_cases hlt : rs.length < n
    · have hltz : (rs.length : Int) < (n : Int) := by omega
      have HF2 : Hid (Wk.pCells c.T (gk - 2) (Wk.pCell c.T (q'.want c.T 38)).1 (cells ++ [(Wk.pCell c.T (q'.want c.T 38)).2]) = FINC) := by
        show _ = _; rw [← HF.out, show gk - 1 = (gk - 2) + 1 by omega, Wk.pCells]
      go_wp2_with fail; refine (j_want HU.out.inn.self 38 (by decide)).mono ?_; rintro e w2 ⟨he, hI⟩; obtain ⟨v2, rfl⟩ : ∃ v, e = .returned v := ⟨_, he⟩
      have HU2 : Hid (UI c w w2 (q'.want c.T 38) o w.heap.size ad cc rs cells) := HU.out.step hI pwant_bad; clear hI he; go_wp2_with fail; refine (j_cell HT.out HU2.out.inn.self).mono ?_; rintro e w3 ⟨⟨r2, rfl, hr⟩, hI⟩; have HU3 : Hid (UI c w w3 (Wk.pCell c.T (q'.want c.T 38)).1 o w.heap.size ad cc rs cells) := HU2.out.step hI pCell_none; have HR3 : Hid _ := hr; have hs3 : w.heap.size ≤ w3.heap.size := HU3.out.inn.fr.size; have HROW : Hid (∀ x, (w3.alloc x).ownsRow w.heap.size 264 2 (.slice ad rs.length cc) rs.length (KR.flat rs)) := fun x => World.ownsRow.alloc HU3.out.row x
      clear hI hr; obtain ⟨i0, hi0, hz0, hz1, hz2⟩ := info_parts Tryz.info264; go_wp2_with first
        | (at_builtin; refine wpList_append_lies _ (by rfl) (.tmp 15) (.tmp 18) 254 (by rfl) w.heap.size 264 i0 _ 2 32 Tryz.und254 hi0 hz0 hz1 hz2 (by rfl) (by omega) (.slice ad rs.length cc) rs.length (KR.flat rs) (by simp [Act.eval]) (HROW.out _) ⟨w3.heap.size, 0, none⟩ 1 1 (KR.cells r2) (by simp [Act.eval]) (by rfl) (World.news_of_block (cs := (KR.cells r2).toArray) (heap_alloc_new _ _)) (by intro u hu; simp [KR.cells] at hu; rcases hu with rfl | rfl <;> rfl) (by omega) (by unfold maxLen; omega) (by omega) (by rw [sz_alloc]; omega) (w3.heap.size + 1) (by simp) ?_
           intro g cap w6 hown6 hgrow6 hat6 hlt6; have HO6 : Hid (w6.ownsRow w.heap.size 264 2 (.slice (some ⟨g, 0, none⟩) (rs.length + 1) cap) (rs.length + 1) (KR.flat rs ++ KR.cells r2)) := hown6; have HG6 : Hid _ := hgrow6; clear hown6 hgrow6 hat6 hlt6)
        | fail
      go_roundg (gk - 1); case measure => omega
      case rel =>
        have hb6 : Below w.heap.size (w3.alloc (.cells #[.bool r2.no, .slice r2.ad r2.n r2.cc] 264)) w6 := grown_below (HROW.out _) HG6.out (Nat.le_refl _) (by rw [sz_alloc]; omega); have k6 : KeepS [285, 256] w3 w6 := (KeepS.below (ab1 w3 _) _).trans (KeepS.grown (HROW.out (.cells #[.bool r2.no, .slice r2.ad r2.n r2.cc] 264)) (by decide) HG6.out); refine ⟨(Wk.pCell c.T (q'.want c.T 38)).1, some ⟨g, 0, none⟩, cap, rs ++ [r2], cells ++ [(Wk.pCell c.T (q'.want c.T 38)).2], by simp, by simp; omega, by omega, ⟨(HU3.out.inn.alloc _).later HS.out hb6, HU3.out.top, k6 _ _ _ _ (by decide) HU3.out.rbx, ?_, fun e => ?_, HU3.out.new⟩, ?_⟩
        · rw [KR.flat_snoc, List.length_append]; exact HO6.out
        · exact ((HU3.out.ok e).imp (fun _ _ x => x.keep k6 (by decide))).snoc ((HR3.out e).keep k6 (by decide))
        · show Wk.pCells _ _ _ _ = _; rw [show gk - 1 - 1 = gk - 2 by omega]; exact HF2.out
    · have hltz : ¬ (rs.length : Int) < (n : Int) := by omega
      have HE : Hid (FINC = (q', cells)) := by
        show _ = _; rw [← HF.out, show gk - 1 = 0 by omega]; rfl
      go_wp2_with fail; refine (j_want HU.out.inn.self 31 (by decide)).mono ?_; rintro e w2 ⟨he, hI⟩; obtain ⟨v2, rfl⟩ : ∃ v, e = .returned v := ⟨_, he⟩
      have HU2 : Hid (UI c w w2 (q'.want c.T 31) o w.heap.size ad cc rs cells) := HU.out.step hI pwant_bad; clear hI he; go_wp2_with fail; refine (j_expr HT.out HU2.out.inn).mono ?_; rintro e w3 ⟨⟨k, rfl, ht⟩, hI⟩; have hbad : (Wk.pExpr c.T (q'.want c.T 31)).1.bad = none → (q'.want c.T 31).bad = none := fun e => ((Wk.goes_pe HS.out.toks.shut (Wk.fuel c.T) 7 0 (q'.want c.T 31)).1 e).1
      have HBAD : Hid _ := hbad; have HT3 : Hid _ := ht; have HI3 : Hid _ := hI; have u := hI.blk HU2.out.rbx (by have := HS.out.blt; omega); have HU3b : Hid _ := u; have y0 := blk_cell (o := 0) u rfl; have y1 := blk_cell (o := 1) u rfl; have yf := blk_free u; clear hI ht u hbad; go_wp2_with fail; refine bodyPost_ret (v := .agg #[.slice ad rs.length cc, nptr k]) (by simp [results, Tryz.results176, go_sem, y0, y1]) rfl ⟨⟨⟨ad, rs.length, cc, k⟩, rfl, fun hb => ?_⟩, ?_⟩
      · rw [HP.out, HE.out] at hb ⊢; have k3 := (HU2.out.inn.keepS (ts := [285, 264, 246, 70]) HI3.out (by decide))
        have k4 := KeepS.set (ts := [285, 264, 246, 70]) (o := 0) HU3b.out (by decide) (.slice ad rs.length cc); have u1 := blk_set (o := 0) (.slice ad rs.length cc) HU3b.out; have k5 := k4.trans (KeepS.set (ts := [285, 264, 246, 70]) (o := 1) u1 (by decide) (nptr k)); refine ⟨⟨rs, ((HU2.out.ok (HBAD.out hb)).imp (fun _ _ x => x.keep (k3.trans k5) (by decide))), owns_keepS (owns_mono HU2.out.row (Nat.zero_le _)) (k3.trans k5) (by decide)⟩, PTK.keep (HT3.out hb) (k5.toN (by decide) (by decide))⟩
      · rw [HE.out]; exact HH.out.trans (((HU2.out.inn.trans HI3.out).setNew HS.out (Nat.le_refl _) _ _).setNew HS.out (Nat.le_refl _) _ _)
end Go.Proofs.YtbkaghlklkdmkaaGreatDoor
namespace Go.Proofs.YtbkaghlklkdmkaaGreatDoor
open Go.RowKit
attribute [local go_sem ↓] Go.wp_at_zero Go.wp_at_succ
theorem ix311_0 (w : World) : (Instr.index 311 (.agg #[.int .i64 12, .int .i64 13, .int .i64 14, .int .i64 15, .int .i64 16, .int .i64 17]) (.int .i64 0)).run Tryz.prog w = .ok (.int .i64 12) w := by simp [Instr.index, go_sem]
theorem ix311_1 (w : World) : (Instr.index 311 (.agg #[.int .i64 12, .int .i64 13, .int .i64 14, .int .i64 15, .int .i64 16, .int .i64 17]) (.int .i64 1)).run Tryz.prog w = .ok (.int .i64 13) w := by simp [Instr.index, go_sem]
theorem ix311_2 (w : World) : (Instr.index 311 (.agg #[.int .i64 12, .int .i64 13, .int .i64 14, .int .i64 15, .int .i64 16, .int .i64 17]) (.int .i64 2)).run Tryz.prog w = .ok (.int .i64 14) w := by simp [Instr.index, go_sem]
theorem ix311_3 (w : World) : (Instr.index 311 (.agg #[.int .i64 12, .int .i64 13, .int .i64 14, .int .i64 15, .int .i64 16, .int .i64 17]) (.int .i64 3)).run Tryz.prog w = .ok (.int .i64 15) w := by simp [Instr.index, go_sem]
theorem ix311_4 (w : World) : (Instr.index 311 (.agg #[.int .i64 12, .int .i64 13, .int .i64 14, .int .i64 15, .int .i64 16, .int .i64 17]) (.int .i64 4)).run Tryz.prog w = .ok (.int .i64 16) w := by simp [Instr.index, go_sem]
theorem ix311_5 (w : World) : (Instr.index 311 (.agg #[.int .i64 12, .int .i64 13, .int .i64 14, .int .i64 15, .int .i64 16, .int .i64 17]) (.int .i64 5)).run Tryz.prog w = .ok (.int .i64 17) w := by simp [Instr.index, go_sem]
def polEnd (T : List Wk.Tok) (q : Wk.St) (e : Ending) : Prop := ∃ p : Nat, e = .returned (.int .i64 (p : Nat)) ∧ p ≤ 5 ∧ ((if q.isIn T [12, 13, 14, 15, 16, 17] then q.adv else q.fail T).bad = none → (Wk.tokK T q.k).kind = 12 + p)
def polS (T : List Wk.Tok) (q : Wk.St) : Wk.St := if q.isIn T [12, 13, 14, 15, 16, 17] then q.adv else q.fail T
theorem polS_yes {T : List Wk.Tok} {q : Wk.St} {kd : Nat} (h : q.isK T kd = true) (hk : kd ∈ [12, 13, 14, 15, 16, 17]) : polS T q = q.adv := by
 have hq := Wk.isK_iff.1 h; unfold polS; rw [if_pos (Wk.isIn_iff.2 ⟨hq.1, by rw [hq.2]; exact hk⟩)]
theorem polS_no {T : List Wk.Tok} {q : Wk.St} (h : ∀ j, j < 6 → q.isK T (12 + j) = false) : polS T q = q.fail T := by
 unfold polS; rw [if_neg]; intro hi; have hq := Wk.isIn_iff.1 hi; have : (Wk.tokK T q.k).kind = 12 ∨ (Wk.tokK T q.k).kind = 13 ∨ (Wk.tokK T q.k).kind = 14 ∨ (Wk.tokK T q.k).kind = 15 ∨ (Wk.tokK T q.k).kind = 16 ∨ (Wk.tokK T q.k).kind = 17 := by simpa using hq.2
 have hf := h ((Wk.tokK T q.k).kind - 12) (by omega); rw [show 12 + ((Wk.tokK T q.k).kind - 12) = (Wk.tokK T q.k).kind by omega] at hf; rw [Wk.isK_iff.2 ⟨hq.1, rfl⟩] at hf; cases hf
set_option maxRecDepth 100000 in
set_option maxHeartbeats 4000000 in
theorem j_policy {c : Cx} {w0 w : World} {q : Wk.St} {nest : Int} {o : Option Nat} (h : PI c w0 w q nest o) :
  Calls Tryz.prog 171 #[nptr c.b] w fun e w' => polEnd c.T q e ∧ PI c w0 w' (polS c.T q) nest o := by
 have HI : Hid (PI c w0 w q nest o) := h; have p0 := h.gl.pol 0 (by omega); have p1 := h.gl.pol 1 (by omega); have p2 := h.gl.pol 2 (by omega); have p3 := h.gl.pol 3 (by omega); have p4 := h.gl.pol 4 (by omega); have p5 := h.gl.pol 5 (by omega); clear h; go_enter Tryz.func171, Tryz.ntmps171; go_wp2_with fail; clear p0 p1 p2 p3 p4 p5; go_loopg [6] 6 (fun gg s6 wr => ∃ k : Nat, k ≤ 6 ∧ 6 - k ≤ gg ∧ s6 = .int .i64 k ∧ Hid (PI c w0 wr q nest o) ∧ Hid (∀ j, j < k → q.isK c.T (12 + j) = false))
 case atStart => exact ⟨0, by omega, by omega, rfl, HI, fun j hj => absurd hj (Nat.not_lt_zero _)⟩
 case round =>
  obtain ⟨k, hk, hg, rfl, HIr, HNr⟩ := hrel; clear HI; have h7 : k = 0 ∨ k = 1 ∨ k = 2 ∨ k = 3 ∨ k = 4 ∨ k = 5 ∨ k = 6 := by omega
  rcases h7 with rfl | rfl | rfl | rfl | rfl | rfl | rfl
  ·have hix := ix311_0 wr; cases hK : q.isK c.T 12 with
   | true =>
    have HK : Hid _ := hK; have HE : Hid (polEnd c.T q (.returned (.int .i64 0))) := ⟨0, rfl, by omega, fun _ => by have := (Wk.isK_iff.1 hK).2; omega⟩
    have HQ : Hid (polS c.T q = q.adv) := polS_yes hK (by decide); clear hK; go_wp2_with fail; refine (j_has HIr.out 12 (by decide)).mono ?_; rintro e w2 ⟨rfl, hI⟩; rw [HK.out] at *
    rw [if_pos rfl] at hI; have HI2 : Hid _ := hI; clear hI; go_wp2_with fail; go_ret; exact ⟨HE.out, by rw [HQ.out]; exact HI2.out⟩
   | false =>
    have HK : Hid _ := hK; have HN : Hid (∀ j, j < 1 → q.isK c.T (12 + j) = false) := fun j hj => by
     rcases Nat.lt_or_ge j 0 with h' | h'
     ·exact HNr.out j h'
     ·rw [show j = 0 by omega]; exact hK
    clear hK; go_wp2_with fail; refine (j_has HIr.out 12 (by decide)).mono ?_; rintro e w2 ⟨rfl, hI⟩; rw [HK.out] at *
    rw [if_neg (by decide)] at hI; have HI2 : Hid _ := hI; clear hI; go_wp2_with fail; go_roundg 5; case measure => omega
    case rel => exact ⟨1, by omega, by omega, rfl, HI2, HN⟩
  ·have hix := ix311_1 wr; cases hK : q.isK c.T 13 with
   | true =>
    have HK : Hid _ := hK; have HE : Hid (polEnd c.T q (.returned (.int .i64 1))) := ⟨1, rfl, by omega, fun _ => by have := (Wk.isK_iff.1 hK).2; omega⟩
    have HQ : Hid (polS c.T q = q.adv) := polS_yes hK (by decide); clear hK; go_wp2_with fail; refine (j_has HIr.out 13 (by decide)).mono ?_; rintro e w2 ⟨rfl, hI⟩; rw [HK.out] at *
    rw [if_pos rfl] at hI; have HI2 : Hid _ := hI; clear hI; go_wp2_with fail; go_ret; exact ⟨HE.out, by rw [HQ.out]; exact HI2.out⟩
   | false =>
    have HK : Hid _ := hK; have HN : Hid (∀ j, j < 2 → q.isK c.T (12 + j) = false) := fun j hj => by
     rcases Nat.lt_or_ge j 1 with h' | h'
     ·exact HNr.out j h'
     ·rw [show j = 1 by omega]; exact hK
    clear hK; go_wp2_with fail; refine (j_has HIr.out 13 (by decide)).mono ?_; rintro e w2 ⟨rfl, hI⟩; rw [HK.out] at *
    rw [if_neg (by decide)] at hI; have HI2 : Hid _ := hI; clear hI; go_wp2_with fail; go_roundg 4; case measure => omega
    case rel => exact ⟨2, by omega, by omega, rfl, HI2, HN⟩
  ·have hix := ix311_2 wr; cases hK : q.isK c.T 14 with
   | true =>
    have HK : Hid _ := hK; have HE : Hid (polEnd c.T q (.returned (.int .i64 2))) := ⟨2, rfl, by omega, fun _ => by have := (Wk.isK_iff.1 hK).2; omega⟩
    have HQ : Hid (polS c.T q = q.adv) := polS_yes hK (by decide); clear hK; go_wp2_with fail; refine (j_has HIr.out 14 (by decide)).mono ?_; rintro e w2 ⟨rfl, hI⟩; rw [HK.out] at *
    rw [if_pos rfl] at hI; have HI2 : Hid _ := hI; clear hI; go_wp2_with fail; go_ret; exact ⟨HE.out, by rw [HQ.out]; exact HI2.out⟩
   | false =>
    have HK : Hid _ := hK; have HN : Hid (∀ j, j < 3 → q.isK c.T (12 + j) = false) := fun j hj => by
     rcases Nat.lt_or_ge j 2 with h' | h'
     ·exact HNr.out j h'
     ·rw [show j = 2 by omega]; exact hK
    clear hK; go_wp2_with fail; refine (j_has HIr.out 14 (by decide)).mono ?_; rintro e w2 ⟨rfl, hI⟩; rw [HK.out] at *
    rw [if_neg (by decide)] at hI; have HI2 : Hid _ := hI; clear hI; go_wp2_with fail; go_roundg 3; case measure => omega
    case rel => exact ⟨3, by omega, by omega, rfl, HI2, HN⟩
  ·have hix := ix311_3 wr; cases hK : q.isK c.T 15 with
   | true =>
    have HK : Hid _ := hK; have HE : Hid (polEnd c.T q (.returned (.int .i64 3))) := ⟨3, rfl, by omega, fun _ => by have := (Wk.isK_iff.1 hK).2; omega⟩
    have HQ : Hid (polS c.T q = q.adv) := polS_yes hK (by decide); clear hK; go_wp2_with fail; refine (j_has HIr.out 15 (by decide)).mono ?_; rintro e w2 ⟨rfl, hI⟩; rw [HK.out] at *
    rw [if_pos rfl] at hI; have HI2 : Hid _ := hI; clear hI; go_wp2_with fail; go_ret; exact ⟨HE.out, by rw [HQ.out]; exact HI2.out⟩
   | false =>
    have HK : Hid _ := hK; have HN : Hid (∀ j, j < 4 → q.isK c.T (12 + j) = false) := fun j hj => by
     rcases Nat.lt_or_ge j 3 with h' | h'
     ·exact HNr.out j h'
     ·rw [show j = 3 by omega]; exact hK
    clear hK; go_wp2_with fail; refine (j_has HIr.out 15 (by decide)).mono ?_; rintro e w2 ⟨rfl, hI⟩; rw [HK.out] at *
    rw [if_neg (by decide)] at hI; have HI2 : Hid _ := hI; clear hI; go_wp2_with fail; go_roundg 2; case measure => omega
    case rel => exact ⟨4, by omega, by omega, rfl, HI2, HN⟩
  ·have hix := ix311_4 wr; cases hK : q.isK c.T 16 with
   | true =>
    have HK : Hid _ := hK; have HE : Hid (polEnd c.T q (.returned (.int .i64 4))) := ⟨4, rfl, by omega, fun _ => by have := (Wk.isK_iff.1 hK).2; omega⟩
    have HQ : Hid (polS c.T q = q.adv) := polS_yes hK (by decide); clear hK; go_wp2_with fail; refine (j_has HIr.out 16 (by decide)).mono ?_; rintro e w2 ⟨rfl, hI⟩; rw [HK.out] at *
    rw [if_pos rfl] at hI; have HI2 : Hid _ := hI; clear hI; go_wp2_with fail; go_ret; exact ⟨HE.out, by rw [HQ.out]; exact HI2.out⟩
   | false =>
    have HK : Hid _ := hK; have HN : Hid (∀ j, j < 5 → q.isK c.T (12 + j) = false) := fun j hj => by
     rcases Nat.lt_or_ge j 4 with h' | h'
     ·exact HNr.out j h'
     ·rw [show j = 4 by omega]; exact hK
    clear hK; go_wp2_with fail; refine (j_has HIr.out 16 (by decide)).mono ?_; rintro e w2 ⟨rfl, hI⟩; rw [HK.out] at *
    rw [if_neg (by decide)] at hI; have HI2 : Hid _ := hI; clear hI; go_wp2_with fail; go_roundg 1; case measure => omega
    case rel => exact ⟨5, by omega, by omega, rfl, HI2, HN⟩
  ·have hix := ix311_5 wr; cases hK : q.isK c.T 17 with
   | true =>
    have HK : Hid _ := hK; have HE : Hid (polEnd c.T q (.returned (.int .i64 5))) := ⟨5, rfl, by omega, fun _ => by have := (Wk.isK_iff.1 hK).2; omega⟩
    have HQ : Hid (polS c.T q = q.adv) := polS_yes hK (by decide); clear hK; go_wp2_with fail; refine (j_has HIr.out 17 (by decide)).mono ?_; rintro e w2 ⟨rfl, hI⟩; rw [HK.out] at *
    rw [if_pos rfl] at hI; have HI2 : Hid _ := hI; clear hI; go_wp2_with fail; go_ret; exact ⟨HE.out, by rw [HQ.out]; exact HI2.out⟩
   | false =>
    have HK : Hid _ := hK; have HN : Hid (∀ j, j < 6 → q.isK c.T (12 + j) = false) := fun j hj => by
     rcases Nat.lt_or_ge j 5 with h' | h'
     ·exact HNr.out j h'
     ·rw [show j = 5 by omega]; exact hK
    clear hK; go_wp2_with fail; refine (j_has HIr.out 17 (by decide)).mono ?_; rintro e w2 ⟨rfl, hI⟩; rw [HK.out] at *
    rw [if_neg (by decide)] at hI; have HI2 : Hid _ := hI; clear hI; go_wp2_with fail; go_roundg 0; case measure => omega
    case rel => exact ⟨6, by omega, by omega, rfl, HI2, HN⟩
  ·have HQ : Hid (polS c.T q = q.fail c.T) := polS_no HNr.out; have HE : Hid (polEnd c.T q (.returned (.int .i64 0))) := ⟨0, rfl, by omega, fun e => absurd (by rw [← HQ.out]; exact e) (pfail_some (T := c.T) (q := q))⟩
   go_wp2_with fail; refine (j_fail HIr.out o).mono ?_; rintro e w2 ⟨rfl, hI⟩; have HI2 : Hid _ := hI; clear hI; go_wp2_with fail; go_ret; exact ⟨HE.out, by rw [HQ.out]; exact HI2.out⟩
end Go.Proofs.YtbkaghlklkdmkaaGreatDoor
