/-
  The program's parser: a cell. The program's parser: a rule. The program's parser: a policy. The program's parser: a column. The program's parser: the columns and the rules of a table. The program's parser: the rules of a table. The program's parser: a table. The program's parser: what an item leaves in memory.
-/
import Derived.Test.YtbkaghlklkdmkaaGreatDoorNI5
set_option maxRecDepth 100000
set_option maxHeartbeats 8000000
namespace Go.Proofs.YtbkaghlklkdmkaaGreatDoor
open Go.RowKit
attribute [local go_sem ↓] Go.wp_at_zero Go.wp_at_succ
def TstIn (w : World) (v : Value) (ts : List Wk.PTest) : Prop := ∃ rs, Pairs QR.ok rs ts ∧ w.ownsRow 0 285 9 v rs.length (QR.flat rs)
theorem TstIn.keep {w w' : World} {v : Value} {ts : List Wk.PTest} (h : TstIn w v ts) {us : List TypeId} (k : KeepS us w w') (hu : 285 ∈ us) : TstIn w' v ts := by
 obtain ⟨rs, h1, h2⟩ := h; exact ⟨rs, h1, owns_keepS h2 k hu⟩
structure KR where
 no : Bool
 ad : Option Addr
 n : Nat
 cc : Nat
def KR.cells (r : KR) : List Value := [.bool r.no, .slice r.ad r.n r.cc]
def KR.ok (w : World) (r : KR) (p : Wk.PCell) : Prop := r.no = p.no ∧ TstIn w (.slice r.ad r.n r.cc) p.tests
def cellEndP (T : List Wk.Tok) (w' : World) (q : Wk.St) (e : Ending) : Prop := ∃ r : KR, e = .returned (.agg #[.bool r.no, .slice r.ad r.n r.cc]) ∧ ((Wk.pCell T q).1.bad = none → KR.ok w' r (Wk.pCell T q).2)
theorem j_cell {c : Cx} (hT : TP c.T) {w0 w : World} {q : Wk.St} {nest : Int} {o : Option Nat} (h : PI c w0 w q nest o) :
  Calls Tryz.prog 206 #[nptr c.b] w fun e w' => cellEndP c.T w' q e ∧ PI c w0 w' (Wk.pCell c.T q).1 nest o := by
 have HH : Hid (PI c w0 w q nest o) := h; have HS : Hid (PI c w w q nest o) := h.self; have hblt := h.blt; have HT : Hid _ := hT; have HPB : Hid (((w.alloc (.cells #[nptr c.b] 209)).alloc (.cells #[.bool false, .slice none 0 0] 264)).heap[w.heap.size]? = some (.cells #[nptr c.b] 209 (0, 0))) := blk_alloc _ (heap_alloc_new w _); have HRB : Hid (((w.alloc (.cells #[nptr c.b] 209)).alloc (.cells #[.bool false, .slice none 0 0] 264)).heap[w.heap.size + 1]? = some (.cells #[.bool false, .slice none 0 0] 264 (0, 0))) := by
  have := heap_alloc_new (w.alloc (.cells #[nptr c.b] 209)) (.cells #[.bool false, .slice none 0 0] 264); rw [sz_alloc] at this; exact this
 have HIA : Hid (PI c ((w.alloc (.cells #[nptr c.b] 209)).alloc (.cells #[.bool false, .slice none 0 0] 264)) ((w.alloc (.cells #[nptr c.b] 209)).alloc (.cells #[.bool false, .slice none 0 0] 264)) q nest o) := ((h.alloc _).alloc _).self; clear h hT; cases hA : (q.isK c.T 28 && !(q.adv.isIn c.T [3, 4])) with
 | true =>
  have HP : Hid (Wk.pCell c.T q = (q.adv, ⟨false, []⟩)) := by
   show _ = _; unfold Wk.pCell; rw [hA]; rfl
  have HA : Hid _ := hA; have HW : Hid (q.want c.T 28 = q.adv) := want_isK (Bool.and_eq_true _ _ ▸ hA).1; rw [HP.out]; clear hA; go_enter Tryz.func206, Tryz.ntmps206; go_wp2_with fail; refine (j_isAny HIA.out).mono ?_; rintro e w1 ⟨rfl, hb1⟩; rw [HA.out]; have HI1 : Hid _ := HIA.out.below hb1; have c0 := bc 0 (HI1.out.blk HPB.out (by omega)) rfl; clear hb1; go_wp2_with fail; refine (j_want HI1.out 28).mono ?_; rintro e w2 ⟨he, hI⟩; obtain ⟨v2, rfl⟩ : ∃ v, e = .returned v := ⟨_, he⟩
  rw [HW.out] at hI; have HI2 : Hid _ := hI; have u := hI.blk HRB.out (by omega); have y0 := bc 0 u rfl; have y1 := bc 1 u rfl; have yf := blk_free u; clear hI he u c0; go_wp2_with fail; refine bodyPost_ret (v := .agg #[.bool false, .slice none 0 0]) (by simp [results, Tryz.results206, go_sem, y0, y1]) rfl ⟨⟨⟨false, none, 0, 0⟩, rfl, fun _ => ?_⟩, ?_⟩
  ·rw [HP.out]; exact ⟨rfl, [], Pairs.nil _, World.ownsRow_nil _ _ _ _⟩
  ·exact HH.out.trans (((((HS.out.alloc _).alloc _).trans HI2.out).setNew HS.out (Nat.le_succ _) _ _).setNew HS.out (Nat.le_succ _) _ _)
 | false =>
  have HP : Hid (Wk.pCell c.T q = ((listRun (fun s => s.1.isK c.T 30) (testStep c.T) (fun s => (s.1.adv, s.2)) 4 ((if q.isK c.T 26 then q.adv else q), [])).1, ⟨q.isK c.T 26, (listRun (fun s => s.1.isK c.T 30) (testStep c.T) (fun s => (s.1.adv, s.2)) 4 ((if q.isK c.T 26 then q.adv else q), [])).2⟩)) := by
   show _ = _; rw [← pTests_run]; unfold Wk.pCell; rw [hA]; rfl
  have HA : Hid _ := hA; rw [HP.out]; obtain ⟨FIN, hFIN⟩ : ∃ FIN, FIN = listRun (fun s => s.1.isK c.T 30) (testStep c.T) (fun s => (s.1.adv, s.2)) 4 ((if q.isK c.T 26 then q.adv else q), []) := ⟨_, rfl⟩
  rw [← hFIN]; rw [← hFIN] at HP; have HFIN : Hid _ := hFIN; clear hA hFIN; go_enter Tryz.func206, Tryz.ntmps206; go_wp2_with fail; refine (j_isAny HIA.out).mono ?_; rintro e w1 ⟨rfl, hb1⟩; rw [HA.out]; have HI1 : Hid _ := HIA.out.below hb1; have c0 := bc 0 (HI1.out.blk HPB.out (by omega)) rfl; clear hb1; go_wp2_with fail; refine (j_has HI1.out 26).mono ?_; rintro e w2 ⟨rfl, hI⟩; obtain ⟨no, hno⟩ : ∃ b, b = q.isK c.T 26 := ⟨_, rfl⟩
  obtain ⟨q1, hq1⟩ : ∃ x, x = (if q.isK c.T 26 then q.adv else q) := ⟨_, rfl⟩
  rw [← hq1] at hI HFIN; rw [← hno] at HP ⊢; have HI2 : Hid _ := hI; have hp2 := hI.blk HPB.out (by omega); have hr2 := hI.blk HRB.out (by omega); have hl2 := lt_of_block hr2; have hl2' := lt_of_block hp2; have c2 := bc 0 hp2 rfl; have HC0 : Hid (CI c w w.heap.size (w.heap.size + 1) w2.heap.size no nest o 0 (w2.alloc (.cells #[.bool no, .slice none 0 0] 264)) (q1, [])) := by
   refine ⟨(((HS.out.alloc _).alloc _).trans hI).alloc _, ⟨_, _, _, HS.out⟩, blk_alloc _ hp2, blk_alloc _ hr2, ⟨none, 0, [], heap_alloc_new _ _, World.ownsRow_nil _ _ _ _, rfl, fun _ => Pairs.nil _⟩, by omega, by omega, by omega, by omega, by omega, by omega⟩
  clear hI c0 hp2 hr2 hno hq1; go_wp2_with fail; refine (j_list (b := c.b) (sign := 30) (most := 4) (isK := fun s : Wk.St × List Wk.PTest => s.1.isK c.T 30) (step := testStep c.T) (adv := fun s => (s.1.adv, s.2)) (lb := #[nptr w2.heap.size, nptr w.heap.size]) eg232 (CI c w w.heap.size (w.heap.size + 1) w2.heap.size no nest o) ?_ (fun k w' s hk hW => j_testStep HT.out hk hW) (by omega) (by omega) HC0.out).mono ?_
  ·intro k w' s hW; refine (j_has hW.inn.self 30).mono ?_; rintro e w'' ⟨rfl, hI''⟩; refine ⟨rfl, ?_⟩; have := hW.step hI'' (fun e => ?_)
   ·split
    ·rename_i hk; rw [if_pos hk] at this; exact this
    ·rename_i hk; rw [if_neg hk] at this; exact this
   ·cases hk : s.1.isK c.T 30 with
    | true => exact (Wk.isK_iff.1 hk).1
    | false => rw [hk] at e; exact e
  ·rintro e w4 ⟨rfl, k, hk, hC4⟩; rw [← HFIN.out] at hC4; obtain ⟨ad, cc, rs, hcb, hrow, hlen, hok⟩ := hC4.cbx; have HC4 : Hid _ := hC4; have HROW : Hid (w4.ownsRow w.heap.size 285 9 (.slice ad k cc) k (QR.flat rs)) := hrow; have HOK : Hid _ := hok; have HLEN : Hid _ := hlen; have HRB4 : Hid _ := hC4.rbx; have z0 := bc 0 hcb rfl; have z1 := bc 1 hcb rfl; have y0 := bc 0 hC4.rbx rfl; have y1 := bc 1 hC4.rbx rfl; have yf := blk_free hC4.rbx; clear hC4 hrow hok hcb hlen; go_wp2_with fail; refine bodyPost_ret (v := .agg #[.bool no, .slice ad k cc]) (by simp [results, Tryz.results206, go_sem, y0, y1]) rfl ⟨⟨⟨no, ad, k, cc⟩, rfl, fun hb => ?_⟩, ?_⟩
   ·rw [HP.out] at hb ⊢; refine ⟨rfl, rs, HOK.out hb, ?_⟩; have := owns_mono HROW.out (Nat.zero_le _); rw [HLEN.out]; have k1 := KeepS.set (ts := [285]) (o := 0) HRB4.out (by decide) (.bool no); have u1 := blk_set (o := 0) (.bool no) HRB4.out; exact owns_keepS this (k1.trans (KeepS.set (ts := [285]) u1 (by decide) _)) (by decide)
   ·exact HH.out.trans ((HC4.out.inn.setNew HS.out (Nat.le_succ _) _ _).setNew HS.out (Nat.le_succ _) _ _)
def KR.flat (l : List KR) : List Value := (l.map KR.cells).flatten
theorem KR.flat_snoc (l : List KR) (r : KR) : KR.flat (l ++ [r]) = KR.flat l ++ r.cells := by simp [KR.flat]
theorem KR.ok.keep {w w' : World} {r : KR} {p : Wk.PCell} (h : KR.ok w r p) {us : List TypeId} (k : KeepS us w w') (hu : 285 ∈ us) : KR.ok w' r p := ⟨h.1, h.2.keep k hu⟩
def CelIn (w : World) (v : Value) (cs : List Wk.PCell) : Prop := ∃ rs, Pairs (KR.ok w) rs cs ∧ w.ownsRow 0 264 2 v rs.length (KR.flat rs)
theorem CelIn.keep {w w' : World} {v : Value} {cs : List Wk.PCell} (h : CelIn w v cs) {us : List TypeId} (k : KeepS us w w') (h1 : 285 ∈ us) (h2 : 264 ∈ us) : CelIn w' v cs := by
 obtain ⟨rs, g1, g2⟩ := h; exact ⟨rs, g1.imp (fun _ _ x => x.keep k h1), owns_keepS g2 k h2⟩
structure UR where
 ad : Option Addr
 n : Nat
 cc : Nat
 k : Nat
def UR.cells (r : UR) : List Value := [.slice r.ad r.n r.cc, nptr r.k]
def UR.ok (ns : List Wk.Name) (w : World) (r : UR) (p : Wk.PRule) : Prop := CelIn w (.slice r.ad r.n r.cc) p.cells ∧ PTK ns w (nptr r.k) p.out
theorem UR.ok.keep {ns : List Wk.Name} {w w' : World} {r : UR} {p : Wk.PRule} (h : UR.ok ns w r p) {us : List TypeId} (k : KeepS us w w') (h1 : 285 ∈ us) (h2 : 264 ∈ us) (h3 : 246 ∈ us) (h4 : 70 ∈ us) : UR.ok ns w' r p := ⟨h.1.keep k h1 h2, PTK.keep h.2 (k.toN h3 h4)⟩
def ruleEndP (c : Cx) (w' : World) (n : Nat) (q : Wk.St) (e : Ending) : Prop := ∃ r : UR, e = .returned (.agg #[.slice r.ad r.n r.cc, nptr r.k]) ∧ ((Wk.pRule c.T n q).1.bad = none → UR.ok c.ns w' r (Wk.pRule c.T n q).2)
theorem Tryz.info264 : (Tryz.prog.info? 264).map (fun i => (i.zero, i.size, i.bytes)) = some (some (.agg #[.bool false, .slice none 0 0]), 2, 32) := by kernel_rfl
theorem Tryz.und254 : Tryz.prog.underlying 254 = some (.slice 264) := by kernel_rfl
structure UI (c : Cx) (w0 w : World) (q : Wk.St) (o : Option Nat) (rb : Nat) (ad : Option Addr) (cc : Nat) (rs : List KR) (cells : List Wk.PCell) : Prop where
 inn : PI c w0 w q 0 o
 top : ∃ qa na oa, PI c w0 w0 qa na oa
 rbx : w.heap[rb]? = some (.cells #[.slice none 0 0, .pointer none] 256 (0, 0))
 row : w.ownsRow w0.heap.size 264 2 (.slice ad rs.length cc) rs.length (KR.flat rs)
 ok : q.bad = none → Pairs (KR.ok w) rs cells
 new : w0.heap.size ≤ rb
theorem UI.step {c : Cx} {w0 w w' : World} {q q' : Wk.St} {o : Option Nat} {rb : Nat} {ad : Option Addr} {cc : Nat} {rs : List KR} {cells : List Wk.PCell} (h : UI c w0 w q o rb ad cc rs cells) (hI : PI c w w' q' 0 o) (hq : q'.bad = none → q.bad = none) : UI c w0 w' q' o rb ad cc rs cells := by
 obtain ⟨qa, na, oa, ht⟩ := h.top; have hb := ht.blt; have hn := h.new; have k := h.inn.keepS (ts := [285, 264]) hI (by decide); exact ⟨h.inn.trans hI, h.top, hI.blk h.rbx (by omega), owns_keepS h.row k (by decide), fun e => (h.ok (hq e)).imp (fun _ _ x => x.keep k (by decide)), h.new⟩
theorem pCell_none {T : List Wk.Tok} {q : Wk.St} (h : (Wk.pCell T q).1.bad = none) : q.bad = none := by
 exact none_of (fun hs => Wk.pCell_bad T hs) h
theorem j_rule {c : Cx} (hT : TP c.T) {w0 w : World} {q : Wk.St} {o : Option Nat} (h : PI c w0 w q 0 o) (n : Nat) (hn : 1 ≤ n) (hn3 : n ≤ 3) :
    Calls Tryz.prog 176 #[nptr c.b, .int .i64 n] w fun e w' => ruleEndP c w' n q e ∧ PI c w0 w' (Wk.pRule c.T n q).1 0 (o.or (Wk.stray c.ns (Wk.pRule c.T n q).2.out.names)) := by
  have HH : Hid (PI c w0 w q 0 o) := h; have HS : Hid (PI c w w q 0 o) := h.self; have hblt := h.blt; have HT : Hid _ := hT; obtain ⟨FINC, hFC⟩ : ∃ F, F = Wk.pCells c.T (n - 1) (Wk.pCell c.T q).1 [(Wk.pCell c.T q).2] := ⟨_, rfl⟩
  have HFC : Hid (Wk.pCells c.T (n - 1) (Wk.pCell c.T q).1 [(Wk.pCell c.T q).2] = FINC) := hFC.symm; have HP : Hid (Wk.pRule c.T n q = ((Wk.pExpr c.T (FINC.1.want c.T 31)).1, ⟨FINC.2, (Wk.pExpr c.T (FINC.1.want c.T 31)).2⟩)) := by
    show _ = _; rw [hFC]; rfl
  rw [HP.out]; clear h hT hFC; go_enter Tryz.func176, Tryz.ntmps176; go_wp2_with fail; refine (j_cell HT.out (HS.out.alloc _).self).mono ?_; rintro e w1 ⟨⟨r, rfl, hr⟩, hI⟩; have hs1 : w.heap.size < w1.heap.size := by have := hI.fr.size; rw [sz_alloc] at this; omega
  have HU0 : Hid (UI c w (w1.alloc (.cells #[.bool r.no, .slice r.ad r.n r.cc] 264)) (Wk.pCell c.T q).1 o w.heap.size (some ⟨w1.heap.size, 0, none⟩) 1 [r] [(Wk.pCell c.T q).2]) := by
    refine ⟨((HS.out.alloc _).trans hI).alloc _, ⟨_, _, _, HS.out⟩, blk_alloc _ (hI.blk (heap_alloc_new w _) (by omega)), World.ownsRow_lit w1 #[.bool r.no, .slice r.ad r.n r.cc] 1 (by omega) (by unfold maxLen; omega) rfl, fun e => ?_, Nat.le_refl _⟩; exact (Pairs.nil _).snoc ((hr e).keep (us := [285]) (KeepS.below (ab1 _ _) _) (by decide))
  clear hI hr; go_wp2_with fail; go_loopg [5] n (fun gk s5 wr => ∃ (q' : Wk.St) (ad : Option Addr) (cc : Nat) (rs : List KR) (cells : List Wk.PCell), s5 = .slice ad rs.length cc ∧ gk + rs.length = n + 1 ∧ 1 ≤ gk ∧ Hid (UI c w wr q' o w.heap.size ad cc rs cells) ∧ Hid (Wk.pCells c.T (gk - 1) q' cells = FINC))
  case atStart => exact ⟨_, _, _, [r], _, rfl, by simp, by omega, HU0, HFC⟩
  case round =>
    obtain ⟨q', ad, cc, rs, cells, rfl, hg, hg1, HU, HF⟩ := hrel; clear HU0 HFC; by_cases hlt : rs.length < n
    · have hltz : (rs.length : Int) < (n : Int) := by omega
      have HF2 : Hid (Wk.pCells c.T (gk - 2) (Wk.pCell c.T (q'.want c.T 38)).1 (cells ++ [(Wk.pCell c.T (q'.want c.T 38)).2]) = FINC) := by
        show _ = _; rw [← HF.out, show gk - 1 = (gk - 2) + 1 by omega, Wk.pCells]
      go_wp2_with fail; refine (j_want HU.out.inn.self 38).mono ?_; rintro e w2 ⟨he, hI⟩; obtain ⟨v2, rfl⟩ : ∃ v, e = .returned v := ⟨_, he⟩
      have HU2 : Hid (UI c w w2 (q'.want c.T 38) o w.heap.size ad cc rs cells) := HU.out.step hI pwant_bad; clear hI he; go_wp2_with fail; refine (j_cell HT.out HU2.out.inn.self).mono ?_; rintro e w3 ⟨⟨r2, rfl, hr⟩, hI⟩; have HU3 : Hid (UI c w w3 (Wk.pCell c.T (q'.want c.T 38)).1 o w.heap.size ad cc rs cells) := HU2.out.step hI pCell_none; have HR3 : Hid _ := hr; have hs3 : w.heap.size ≤ w3.heap.size := HU3.out.inn.fr.size; have HROW : Hid (∀ x, (w3.alloc x).ownsRow w.heap.size 264 2 (.slice ad rs.length cc) rs.length (KR.flat rs)) := fun x => World.ownsRow.alloc HU3.out.row x
      clear hI hr; obtain ⟨i0, hi0, hz0, hz1, hz2⟩ := info_parts Tryz.info264; go_wp2_with first
        | (at_builtin; refine wpList_append_lies _ (by rfl) (.tmp 15) (.tmp 18) 254 (by rfl) w.heap.size 264 i0 _ 2 32 Tryz.und254 hi0 hz0 hz1 hz2 (by rfl) (by omega) (.slice ad rs.length cc) rs.length (KR.flat rs) (by simp [Act.eval]) (HROW.out _) ⟨w3.heap.size, 0, none⟩ 1 1 (KR.cells r2) (by simp [Act.eval]) (by rfl) (World.news_of_block (cs := (KR.cells r2).toArray) (heap_alloc_new _ _)) (by intro u hu; simp [KR.cells] at hu; rcases hu with rfl | rfl <;> rfl) (by omega) (by unfold maxLen; omega) (by omega) (by rw [sz_alloc]; omega) (w3.heap.size + 1) (by simp) ?_
           intro g cap w6 hown6 hgrow6 hat6 hlt6; have HO6 : Hid (w6.ownsRow w.heap.size 264 2 (.slice (some ⟨g, 0, none⟩) (rs.length + 1) cap) (rs.length + 1) (KR.flat rs ++ KR.cells r2)) := hown6; have HG6 : Hid _ := hgrow6; clear hown6 hgrow6 hat6 hlt6)
        | fail
      go_roundg (gk - 1); case measure => omega
      case rel =>
        have hb6 : Below w.heap.size (w3.alloc (.cells #[.bool r2.no, .slice r2.ad r2.n r2.cc] 264)) w6 := grown_below (HROW.out _) HG6.out (Nat.le_refl _) (by rw [sz_alloc]; omega); have k6 : KeepS [285, 256] w3 w6 := (KeepS.below (ab1 w3 _) _).trans (KeepS.grown (HROW.out (.cells #[.bool r2.no, .slice r2.ad r2.n r2.cc] 264)) (by decide) HG6.out); refine ⟨(Wk.pCell c.T (q'.want c.T 38)).1, some ⟨g, 0, none⟩, cap, rs ++ [r2], cells ++ [(Wk.pCell c.T (q'.want c.T 38)).2], by simp, by simp; omega, by omega, ⟨(HU3.out.inn.alloc _).later HS.out hb6, HU3.out.top, k6 _ _ _ _ (by decide) HU3.out.rbx, ?_, fun e => ?_, HU3.out.new⟩, ?_⟩
        · rw [KR.flat_snoc, List.length_append]; exact HO6.out
        · exact ((HU3.out.ok e).imp (fun _ _ x => x.keep k6 (by decide))).snoc ((HR3.out e).keep k6 (by decide))
        · show Wk.pCells _ _ _ _ = _; rw [show gk - 1 - 1 = gk - 2 by omega]; exact HF2.out
    · have hltz : ¬ (rs.length : Int) < (n : Int) := by omega
      have HE : Hid (FINC = (q', cells)) := by
        show _ = _; rw [← HF.out, show gk - 1 = 0 by omega]; rfl
      go_wp2_with fail; refine (j_want HU.out.inn.self 31).mono ?_; rintro e w2 ⟨he, hI⟩; obtain ⟨v2, rfl⟩ : ∃ v, e = .returned v := ⟨_, he⟩
      have HU2 : Hid (UI c w w2 (q'.want c.T 31) o w.heap.size ad cc rs cells) := HU.out.step hI pwant_bad; clear hI he; go_wp2_with fail; refine (j_expr HT.out HU2.out.inn).mono ?_; rintro e w3 ⟨⟨k, rfl, ht⟩, hI⟩; have hbad : (Wk.pExpr c.T (q'.want c.T 31)).1.bad = none → (q'.want c.T 31).bad = none := fun e => ((Wk.goes_pe HS.out.toks.shut (Wk.fuel c.T) 7 0 (q'.want c.T 31)).1 e).1
      have HBAD : Hid _ := hbad; have HT3 : Hid _ := ht; have HI3 : Hid _ := hI; have u := hI.blk HU2.out.rbx (by have := HS.out.blt; omega); have HU3b : Hid _ := u; have y0 := bc 0 u rfl; have y1 := bc 1 u rfl; have yf := blk_free u; clear hI ht u hbad; go_wp2_with fail; refine bodyPost_ret (v := .agg #[.slice ad rs.length cc, nptr k]) (by simp [results, Tryz.results176, go_sem, y0, y1]) rfl ⟨⟨⟨ad, rs.length, cc, k⟩, rfl, fun hb => ?_⟩, ?_⟩
      · rw [HP.out, HE.out] at hb ⊢; have k3 := (HU2.out.inn.keepS (ts := [285, 264, 246, 70]) HI3.out (by decide))
        have k4 := KeepS.set (ts := [285, 264, 246, 70]) (o := 0) HU3b.out (by decide) (.slice ad rs.length cc); have u1 := blk_set (o := 0) (.slice ad rs.length cc) HU3b.out; have k5 := k4.trans (KeepS.set (ts := [285, 264, 246, 70]) (o := 1) u1 (by decide) (nptr k)); refine ⟨⟨rs, ((HU2.out.ok (HBAD.out hb)).imp (fun _ _ x => x.keep (k3.trans k5) (by decide))), owns_keepS (owns_mono HU2.out.row (Nat.zero_le _)) (k3.trans k5) (by decide)⟩, PTK.keep (HT3.out hb) (k5.toN (by decide) (by decide))⟩
      · rw [HE.out]; exact HH.out.trans (((HU2.out.inn.trans HI3.out).setNew HS.out (Nat.le_refl _) _ _).setNew HS.out (Nat.le_refl _) _ _)
theorem ix311_0 (w : World) : (Instr.index 311 (.agg #[.int .i64 12, .int .i64 13, .int .i64 14, .int .i64 15, .int .i64 16, .int .i64 17]) (.int .i64 0)).run Tryz.prog w = .ok (.int .i64 12) w := by simp [Instr.index, go_sem]
theorem ix311_1 (w : World) : (Instr.index 311 (.agg #[.int .i64 12, .int .i64 13, .int .i64 14, .int .i64 15, .int .i64 16, .int .i64 17]) (.int .i64 1)).run Tryz.prog w = .ok (.int .i64 13) w := by simp [Instr.index, go_sem]
theorem ix311_2 (w : World) : (Instr.index 311 (.agg #[.int .i64 12, .int .i64 13, .int .i64 14, .int .i64 15, .int .i64 16, .int .i64 17]) (.int .i64 2)).run Tryz.prog w = .ok (.int .i64 14) w := by simp [Instr.index, go_sem]
theorem ix311_3 (w : World) : (Instr.index 311 (.agg #[.int .i64 12, .int .i64 13, .int .i64 14, .int .i64 15, .int .i64 16, .int .i64 17]) (.int .i64 3)).run Tryz.prog w = .ok (.int .i64 15) w := by simp [Instr.index, go_sem]
theorem ix311_4 (w : World) : (Instr.index 311 (.agg #[.int .i64 12, .int .i64 13, .int .i64 14, .int .i64 15, .int .i64 16, .int .i64 17]) (.int .i64 4)).run Tryz.prog w = .ok (.int .i64 16) w := by simp [Instr.index, go_sem]
theorem ix311_5 (w : World) : (Instr.index 311 (.agg #[.int .i64 12, .int .i64 13, .int .i64 14, .int .i64 15, .int .i64 16, .int .i64 17]) (.int .i64 5)).run Tryz.prog w = .ok (.int .i64 17) w := by simp [Instr.index, go_sem]
def polEnd (T : List Wk.Tok) (q : Wk.St) (e : Ending) : Prop := ∃ p : Nat, e = .returned (.int .i64 (p : Nat)) ∧ p ≤ 5 ∧ ((if q.isIn T [12, 13, 14, 15, 16, 17] then q.adv else q.fail T).bad = none → (Wk.tokK T q.k).kind = 12 + p)
def polS (T : List Wk.Tok) (q : Wk.St) : Wk.St := if q.isIn T [12, 13, 14, 15, 16, 17] then q.adv else q.fail T
theorem polS_yes {T : List Wk.Tok} {q : Wk.St} {kd : Nat} (h : q.isK T kd = true) (hk : kd ∈ [12, 13, 14, 15, 16, 17]) : polS T q = q.adv := by
 have hq := Wk.isK_iff.1 h; unfold polS; rw [if_pos (Wk.isIn_iff.2 ⟨hq.1, by rw [hq.2]; exact hk⟩)]
theorem polS_no {T : List Wk.Tok} {q : Wk.St} (h : ∀ j, j < 6 → q.isK T (12 + j) = false) : polS T q = q.fail T := by
 unfold polS; rw [if_neg]; intro hi; have hq := Wk.isIn_iff.1 hi; have : (Wk.tokK T q.k).kind = 12 ∨ (Wk.tokK T q.k).kind = 13 ∨ (Wk.tokK T q.k).kind = 14 ∨ (Wk.tokK T q.k).kind = 15 ∨ (Wk.tokK T q.k).kind = 16 ∨ (Wk.tokK T q.k).kind = 17 := by simpa using hq.2
 have hf := h ((Wk.tokK T q.k).kind - 12) (by omega); rw [show 12 + ((Wk.tokK T q.k).kind - 12) = (Wk.tokK T q.k).kind by omega] at hf; rw [Wk.isK_iff.2 ⟨hq.1, rfl⟩] at hf; cases hf
theorem j_policy {c : Cx} {w0 w : World} {q : Wk.St} {nest : Int} {o : Option Nat} (h : PI c w0 w q nest o) :
  Calls Tryz.prog 171 #[nptr c.b] w fun e w' => polEnd c.T q e ∧ PI c w0 w' (polS c.T q) nest o := by
 have HI : Hid (PI c w0 w q nest o) := h; have p0 := h.gl.pol 0 (by omega); have p1 := h.gl.pol 1 (by omega); have p2 := h.gl.pol 2 (by omega); have p3 := h.gl.pol 3 (by omega); have p4 := h.gl.pol 4 (by omega); have p5 := h.gl.pol 5 (by omega); clear h; go_enter Tryz.func171, Tryz.ntmps171; go_wp2_with fail; clear p0 p1 p2 p3 p4 p5; go_loopg [6] 6 (fun gg s6 wr => ∃ k : Nat, k ≤ 6 ∧ 6 - k ≤ gg ∧ s6 = .int .i64 k ∧ Hid (PI c w0 wr q nest o) ∧ Hid (∀ j, j < k → q.isK c.T (12 + j) = false))
 case atStart => exact ⟨0, by omega, by omega, rfl, HI, fun j hj => absurd hj (Nat.not_lt_zero _)⟩
 case round =>
  obtain ⟨k, hk, hg, rfl, HIr, HNr⟩ := hrel; clear HI; have h7 : k = 0 ∨ k = 1 ∨ k = 2 ∨ k = 3 ∨ k = 4 ∨ k = 5 ∨ k = 6 := by omega
  rcases h7 with rfl | rfl | rfl | rfl | rfl | rfl | rfl
  ·have hix := ix311_0 wr; cases hK : q.isK c.T 12 with
   | true =>
    have HK : Hid _ := hK; have HE : Hid (polEnd c.T q (.returned (.int .i64 0))) := ⟨0, rfl, by omega, fun _ => by have := (Wk.isK_iff.1 hK).2; omega⟩
    have HQ : Hid (polS c.T q = q.adv) := polS_yes hK (by decide); clear hK; go_wp2_with fail; refine (j_has HIr.out 12).mono ?_; rintro e w2 ⟨rfl, hI⟩; rw [HK.out] at *
    rw [if_pos rfl] at hI; have HI2 : Hid _ := hI; clear hI; go_wp2_with fail; go_ret; exact ⟨HE.out, by rw [HQ.out]; exact HI2.out⟩
   | false =>
    have HK : Hid _ := hK; have HN : Hid (∀ j, j < 1 → q.isK c.T (12 + j) = false) := fun j hj => by
     rcases Nat.lt_or_ge j 0 with h' | h'
     ·exact HNr.out j h'
     ·rw [show j = 0 by omega]; exact hK
    clear hK; go_wp2_with fail; refine (j_has HIr.out 12).mono ?_; rintro e w2 ⟨rfl, hI⟩; rw [HK.out] at *
    rw [if_neg (by decide)] at hI; have HI2 : Hid _ := hI; clear hI; go_wp2_with fail; go_roundg 5; case measure => omega
    case rel => exact ⟨1, by omega, by omega, rfl, HI2, HN⟩
  ·have hix := ix311_1 wr; cases hK : q.isK c.T 13 with
   | true =>
    have HK : Hid _ := hK; have HE : Hid (polEnd c.T q (.returned (.int .i64 1))) := ⟨1, rfl, by omega, fun _ => by have := (Wk.isK_iff.1 hK).2; omega⟩
    have HQ : Hid (polS c.T q = q.adv) := polS_yes hK (by decide); clear hK; go_wp2_with fail; refine (j_has HIr.out 13).mono ?_; rintro e w2 ⟨rfl, hI⟩; rw [HK.out] at *
    rw [if_pos rfl] at hI; have HI2 : Hid _ := hI; clear hI; go_wp2_with fail; go_ret; exact ⟨HE.out, by rw [HQ.out]; exact HI2.out⟩
   | false =>
    have HK : Hid _ := hK; have HN : Hid (∀ j, j < 2 → q.isK c.T (12 + j) = false) := fun j hj => by
     rcases Nat.lt_or_ge j 1 with h' | h'
     ·exact HNr.out j h'
     ·rw [show j = 1 by omega]; exact hK
    clear hK; go_wp2_with fail; refine (j_has HIr.out 13).mono ?_; rintro e w2 ⟨rfl, hI⟩; rw [HK.out] at *
    rw [if_neg (by decide)] at hI; have HI2 : Hid _ := hI; clear hI; go_wp2_with fail; go_roundg 4; case measure => omega
    case rel => exact ⟨2, by omega, by omega, rfl, HI2, HN⟩
  ·have hix := ix311_2 wr; cases hK : q.isK c.T 14 with
   | true =>
    have HK : Hid _ := hK; have HE : Hid (polEnd c.T q (.returned (.int .i64 2))) := ⟨2, rfl, by omega, fun _ => by have := (Wk.isK_iff.1 hK).2; omega⟩
    have HQ : Hid (polS c.T q = q.adv) := polS_yes hK (by decide); clear hK; go_wp2_with fail; refine (j_has HIr.out 14).mono ?_; rintro e w2 ⟨rfl, hI⟩; rw [HK.out] at *
    rw [if_pos rfl] at hI; have HI2 : Hid _ := hI; clear hI; go_wp2_with fail; go_ret; exact ⟨HE.out, by rw [HQ.out]; exact HI2.out⟩
   | false =>
    have HK : Hid _ := hK; have HN : Hid (∀ j, j < 3 → q.isK c.T (12 + j) = false) := fun j hj => by
     rcases Nat.lt_or_ge j 2 with h' | h'
     ·exact HNr.out j h'
     ·rw [show j = 2 by omega]; exact hK
    clear hK; go_wp2_with fail; refine (j_has HIr.out 14).mono ?_; rintro e w2 ⟨rfl, hI⟩; rw [HK.out] at *
    rw [if_neg (by decide)] at hI; have HI2 : Hid _ := hI; clear hI; go_wp2_with fail; go_roundg 3; case measure => omega
    case rel => exact ⟨3, by omega, by omega, rfl, HI2, HN⟩
  ·have hix := ix311_3 wr; cases hK : q.isK c.T 15 with
   | true =>
    have HK : Hid _ := hK; have HE : Hid (polEnd c.T q (.returned (.int .i64 3))) := ⟨3, rfl, by omega, fun _ => by have := (Wk.isK_iff.1 hK).2; omega⟩
    have HQ : Hid (polS c.T q = q.adv) := polS_yes hK (by decide); clear hK; go_wp2_with fail; refine (j_has HIr.out 15).mono ?_; rintro e w2 ⟨rfl, hI⟩; rw [HK.out] at *
    rw [if_pos rfl] at hI; have HI2 : Hid _ := hI; clear hI; go_wp2_with fail; go_ret; exact ⟨HE.out, by rw [HQ.out]; exact HI2.out⟩
   | false =>
    have HK : Hid _ := hK; have HN : Hid (∀ j, j < 4 → q.isK c.T (12 + j) = false) := fun j hj => by
     rcases Nat.lt_or_ge j 3 with h' | h'
     ·exact HNr.out j h'
     ·rw [show j = 3 by omega]; exact hK
    clear hK; go_wp2_with fail; refine (j_has HIr.out 15).mono ?_; rintro e w2 ⟨rfl, hI⟩; rw [HK.out] at *
    rw [if_neg (by decide)] at hI; have HI2 : Hid _ := hI; clear hI; go_wp2_with fail; go_roundg 2; case measure => omega
    case rel => exact ⟨4, by omega, by omega, rfl, HI2, HN⟩
  ·have hix := ix311_4 wr; cases hK : q.isK c.T 16 with
   | true =>
    have HK : Hid _ := hK; have HE : Hid (polEnd c.T q (.returned (.int .i64 4))) := ⟨4, rfl, by omega, fun _ => by have := (Wk.isK_iff.1 hK).2; omega⟩
    have HQ : Hid (polS c.T q = q.adv) := polS_yes hK (by decide); clear hK; go_wp2_with fail; refine (j_has HIr.out 16).mono ?_; rintro e w2 ⟨rfl, hI⟩; rw [HK.out] at *
    rw [if_pos rfl] at hI; have HI2 : Hid _ := hI; clear hI; go_wp2_with fail; go_ret; exact ⟨HE.out, by rw [HQ.out]; exact HI2.out⟩
   | false =>
    have HK : Hid _ := hK; have HN : Hid (∀ j, j < 5 → q.isK c.T (12 + j) = false) := fun j hj => by
     rcases Nat.lt_or_ge j 4 with h' | h'
     ·exact HNr.out j h'
     ·rw [show j = 4 by omega]; exact hK
    clear hK; go_wp2_with fail; refine (j_has HIr.out 16).mono ?_; rintro e w2 ⟨rfl, hI⟩; rw [HK.out] at *
    rw [if_neg (by decide)] at hI; have HI2 : Hid _ := hI; clear hI; go_wp2_with fail; go_roundg 1; case measure => omega
    case rel => exact ⟨5, by omega, by omega, rfl, HI2, HN⟩
  ·have hix := ix311_5 wr; cases hK : q.isK c.T 17 with
   | true =>
    have HK : Hid _ := hK; have HE : Hid (polEnd c.T q (.returned (.int .i64 5))) := ⟨5, rfl, by omega, fun _ => by have := (Wk.isK_iff.1 hK).2; omega⟩
    have HQ : Hid (polS c.T q = q.adv) := polS_yes hK (by decide); clear hK; go_wp2_with fail; refine (j_has HIr.out 17).mono ?_; rintro e w2 ⟨rfl, hI⟩; rw [HK.out] at *
    rw [if_pos rfl] at hI; have HI2 : Hid _ := hI; clear hI; go_wp2_with fail; go_ret; exact ⟨HE.out, by rw [HQ.out]; exact HI2.out⟩
   | false =>
    have HK : Hid _ := hK; have HN : Hid (∀ j, j < 6 → q.isK c.T (12 + j) = false) := fun j hj => by
     rcases Nat.lt_or_ge j 5 with h' | h'
     ·exact HNr.out j h'
     ·rw [show j = 5 by omega]; exact hK
    clear hK; go_wp2_with fail; refine (j_has HIr.out 17).mono ?_; rintro e w2 ⟨rfl, hI⟩; rw [HK.out] at *
    rw [if_neg (by decide)] at hI; have HI2 : Hid _ := hI; clear hI; go_wp2_with fail; go_roundg 0; case measure => omega
    case rel => exact ⟨6, by omega, by omega, rfl, HI2, HN⟩
  ·have HQ : Hid (polS c.T q = q.fail c.T) := polS_no HNr.out; have HE : Hid (polEnd c.T q (.returned (.int .i64 0))) := ⟨0, rfl, by omega, fun e => absurd (by rw [← HQ.out]; exact e) (pfail_some (T := c.T) (q := q))⟩
   go_wp2_with fail; refine (j_fail HIr.out o).mono ?_; rintro e w2 ⟨rfl, hI⟩; have HI2 : Hid _ := hI; clear hI; go_wp2_with fail; go_ret; exact ⟨HE.out, by rw [HQ.out]; exact HI2.out⟩
theorem Tryz.info3 : (Tryz.prog.info? 3).map (fun i => (i.zero, i.size, i.bytes)) = some (some (.int .i64 0), 1, 8) := by kernel_rfl
theorem Tryz.und24 : Tryz.prog.underlying 24 = some (.slice 3) := by kernel_rfl
def colEnd (c : Cx) (w0 w w' : World) (q : Wk.St) (nest : Int) (o : Option Nat) (is : List Int) (e : Ending) : Prop := ∃ (i : Int) (ad : Option Addr) (cc : Nat), e = .returned (.slice ad (is.length + 1) cc) ∧ w'.ownsRow w0.heap.size 3 1 (.slice ad (is.length + 1) cc) (is.length + 1) ((is ++ [i]).map (Value.int .i64)) ∧ (∀ ts : List TypeId, 3 ∉ ts → 148 ∉ ts → KeepS ts w w') ∧
 ((q.want c.T 2).bad = none → i = Wk.idx (Wk.tokK c.T q.k).text.data.toList c.ns) ∧
 PI c w0 w' (q.want c.T 2) nest ((o.or (Wk.stray c.ns [((Wk.tokK c.T q.k).text.data.toList, (Wk.tokK c.T q.k).place)])).or (if is.contains i then some (Wk.tokK c.T q.k).place else none))
theorem p_intIn {w : World} {B : Nat} {ad : Option Addr} {cc : Nat} {is : List Int} (h : w.ownsRow B 3 1 (.slice ad is.length cc) is.length (is.map (Value.int .i64))) (hl : is.length ≤ 100) (x : Int) :
  Calls Tryz.prog 205 #[.slice ad is.length cc, .int .i64 x] w fun e w' => e = .returned (.bool (is.contains x)) ∧ w' = w := by
 cases is with
 | nil => exact Tryz.slices_Contains_int_empty ad cc x w
 | cons y l =>
  rcases h.2 with ⟨-, h0⟩ | ⟨g, cap, cur, e1, -, hgg, -⟩
  ·cases h0
  ·injection e1 with e1 _ e2; subst e1; have := Tryz.slices_Contains_int g 0 (y :: l).length cc (y :: l) x w (Nat.le_refl _) (by omega) (fun j hj => by
    rw [Nat.zero_add, h.cellAt j (by omega), List.getElem?_map, List.getElem?_eq_getElem hj]; simp [List.getD_eq_getElem?_getD, List.getElem?_eq_getElem hj])
   rw [List.take_length] at this; exact this
theorem j_column {c : Cx} {w0 w : World} {q : Wk.St} {nest : Int} {o : Option Nat} (h : PI c w0 w q nest o) (hta : ∃ qa na oa, PI c w0 w0 qa na oa) {ad : Option Addr} {cc : Nat} {is : List Int} (hr : w.ownsRow w0.heap.size 3 1 (.slice ad is.length cc) is.length (is.map (Value.int .i64))) (hl : is.length ≤ 10) :
    Calls Tryz.prog 174 #[nptr c.b, .slice ad is.length cc] w fun e w' => colEnd c w0 w w' q nest o is e := by
  obtain ⟨qa, na, oa, hta⟩ := hta; have HTA : Hid _ := hta; have HH : Hid (PI c w0 w q nest o) := h; have HR : Hid (w.ownsRow w0.heap.size 3 1 (.slice ad is.length cc) is.length (is.map (Value.int .i64))) := hr; obtain ⟨ms, ma, hP, -⟩ := h.pp; have p0 := bc 0 hP.box rfl; have p1 := bc 1 hP.box rfl; have hlt := hP.lt; obtain ⟨t0, t1, t2⟩ := hP.toks.cells _ hlt; have hbl := lt_of_block hP.box; have htl := cell_lt t0; have hcp := hP.toks.cap; have HAT : Hid (q.bad = none → (Wk.tokK c.T (ppAt c.T q)).place = (Wk.tokK c.T q.k).place) := fun e => by rw [ppAt_ok e]
  have hblt := h.blt; clear h hr hP hta; generalize (Wk.tokK c.T (ppAt c.T q)).kind = tkd at *
  generalize (Wk.tokK c.T (ppAt c.T q)).place = tpl at *
  generalize (Wk.tokK c.T (ppAt c.T q)).text = ttx at *
  generalize ppAt c.T q = at_ at *
  have hk0 : (0 : Int) ≤ (at_ : Int) := by omega
  have hk1 : (at_ : Int) < (c.T.length : Int) := by omega
  have HX : Hid (w.drew.cell? ⟨c.b, 0, none⟩ = some (.slice (some ⟨c.tg, 0, none⟩) c.T.length c.tc) ∧ w.drew.cell? ⟨c.b, 1, none⟩ = some (.int .i64 (at_ : Int)) ∧ w.drew.cell? ⟨c.tg, at_ * 3, none⟩ = some (.int .i64 (tkd : Nat)) ∧ w.drew.cell? ⟨c.tg, at_ * 3 + 1, none⟩ = some (.int .i64 (tpl : Nat)) ∧ w.drew.cell? ⟨c.tg, at_ * 3 + 2, none⟩ = some (.string ttx)) := ⟨p0, p1, t0, t1, t2⟩
  have HXA : Hid (∀ x, (w.alloc x).drew.cell? ⟨c.b, 0, none⟩ = some (.slice (some ⟨c.tg, 0, none⟩) c.T.length c.tc) ∧ (w.alloc x).drew.cell? ⟨c.b, 1, none⟩ = some (.int .i64 (at_ : Int)) ∧ (w.alloc x).drew.cell? ⟨c.tg, at_ * 3, none⟩ = some (.int .i64 (tkd : Nat)) ∧ (w.alloc x).drew.cell? ⟨c.tg, at_ * 3 + 1, none⟩ = some (.int .i64 (tpl : Nat)) ∧ (w.alloc x).drew.cell? ⟨c.tg, at_ * 3 + 2, none⟩ = some (.string ttx)) := fun x => ⟨((ab1 w x).cell (p := ⟨c.b, 0, none⟩) hbl).trans p0, ((ab1 w x).cell (p := ⟨c.b, 1, none⟩) hbl).trans p1, ((ab1 w x).cell (p := ⟨c.tg, at_ * 3, none⟩) htl).trans t0, ((ab1 w x).cell (p := ⟨c.tg, at_ * 3 + 1, none⟩) htl).trans t1, ((ab1 w x).cell (p := ⟨c.tg, at_ * 3 + 2, none⟩) htl).trans t2⟩
  clear p0 p1 t0 t1 t2; go_enter Tryz.func174, Tryz.ntmps174; go_upto_region 1 with fail; refine wp_region_ph (fun w' => w'.cell? ⟨c.b, 0, none⟩ = some (.slice (some ⟨c.tg, 0, none⟩) c.T.length c.tc) ∧ w'.cell? ⟨c.b, 1, none⟩ = some (.int .i64 (at_ : Int)) ∧ w'.cell? ⟨c.tg, at_ * 3, none⟩ = some (.int .i64 (tkd : Nat)) ∧ w'.cell? ⟨c.tg, at_ * 3 + 1, none⟩ = some (.int .i64 (tpl : Nat)) ∧ w'.cell? ⟨c.tg, at_ * 3 + 2, none⟩ = some (.string ttx)) 11 12 rfl (by kernel_rfl) HX.out (fun hHeld => ?_); clear hHeld; refine PhS.t 0 7 HX.out ?_; refine PhS.t 1 8 HX.out ?_; refine PhS.t 2 9 HX.out ?_; refine PhS.t 3 10 HX.out ?_; refine PhS.t 4 11 HX.out ?_; refine PhS.t 5 12 HX.out ?_; refine PhS.t 6 13 HX.out ?_; refine PhS.t 7 14 HX.out ?_; refine PhS.t 8 15 HX.out ?_; refine PhS.t 9 16 HX.out ?_; refine PhS.on 10 (fun K hK => ?_); go_simp; refine hK.out _ _ (fun _ => HXA.out _) ?_; clear hK K; try simp only [Act.put, sA, sZ, sS]
  refine PhS.on 11 (fun K hK => ?_); go_simp; refine hK.out _ _ (fun h => absurd h (by decide)) ?_; clear hK K; refine PhS.done (by kernel_rfl) ?_ _; have HI1 : Hid (PI c w0 (w.alloc (.cells #[.int .i64 (tkd : Nat), .int .i64 (tpl : Nat), .string ttx] 134)).drew q nest o) := (HH.out.alloc _).drew; have HK1 : Hid (∀ ts, KeepS ts w (w.alloc (.cells #[.int .i64 (tkd : Nat), .int .i64 (tpl : Nat), .string ttx] 134)).drew) := fun ts => KeepS.below (ab1 w _).drew ts
  have HU1 : Hid ((w.alloc (.cells #[.int .i64 (tkd : Nat), .int .i64 (tpl : Nat), .string ttx] 134)).drew.heap[w.heap.size]? = some (.cells #[.int .i64 (tkd : Nat), .int .i64 (tpl : Nat), .string ttx] 134 (0, 0))) := heap_alloc_new w _; have HR1 : Hid ((w.alloc (.cells #[.int .i64 (tkd : Nat), .int .i64 (tpl : Nat), .string ttx] 134)).drew.ownsRow w0.heap.size 3 1 (.slice ad is.length cc) is.length (is.map (Value.int .i64))) := World.ownsRow.alloc HR.out _; generalize (w.alloc (.cells #[.int .i64 (tkd : Nat), .int .i64 (tpl : Nat), .string ttx] 134)).drew = w1 at *
  clear HX HXA; go_wp2_with fail; refine (j_use HI1.out.self).mono ?_; rintro e w2 ⟨⟨i, rfl, hi⟩, hI2⟩; have HK2 : Hid (∀ ts : List TypeId, 148 ∉ ts → KeepS ts w w2) := fun ts ht => (HK1.out ts).trans (HI1.out.keepS hI2 ht)
  have HR2 : Hid (w2.ownsRow w0.heap.size 3 1 (.slice ad is.length cc) is.length (is.map (Value.int .i64))) := owns_keepS HR1.out (HI1.out.keepS (ts := [3]) hI2 (by decide)) (by decide); have HU2 : Hid _ := hI2.blk HU1.out (by omega); have HI2 : Hid _ := HI1.out.trans hI2; have HX2 : Hid _ := hi; clear hI2 hi; go_wp2_with fail; refine (p_intIn HR2.out (by omega) i).mono ?_; rintro e w3 ⟨rfl, rfl⟩; have c0 := bc 0 HU2.out rfl; have c1 := bc 1 HU2.out rfl; have c2 := bc 2 HU2.out rfl; cases hc : is.contains i with
  | false =>
    have HC : Hid _ := hc; obtain ⟨w8, hw8⟩ : ∃ W, W = w3 := ⟨_, rfl⟩
    subst hw8; have HI8 : Hid _ := HI2.out; have HR8 : Hid (w8.ownsRow w0.heap.size 3 1 (.slice ad is.length cc) is.length (is.map (Value.int .i64))) := HR2.out; clear hc c0 c1 c2; have HROW8 : Hid (∀ x, (w8.alloc x).ownsRow w0.heap.size 3 1 (.slice ad is.length cc) is.length (is.map (Value.int .i64))) := fun x => World.ownsRow.alloc HR8.out x
    have hs8 : w0.heap.size ≤ w8.heap.size := HI8.out.fr.size; obtain ⟨i0, hi0, hz0, hz1, hz2⟩ := info_parts Tryz.info3; go_wp2_with first
      | (at_builtin; refine wpList_append_lies _ (by rfl) (.tmp 25) (.tmp 27) 24 (by rfl) w0.heap.size 3 i0 _ 1 8 Tryz.und24 hi0 hz0 hz1 hz2 (by rfl) (by omega) (.slice ad is.length cc) is.length (is.map (Value.int .i64)) (by simp [Act.eval]) (HROW8.out _) ⟨w8.heap.size, 0, none⟩ 1 1 [.int .i64 i] (by simp [Act.eval]) (by rfl) (World.news_of_block (cs := #[.int .i64 i]) (heap_alloc_new _ _)) (by intro u hu; simp at hu; rcases hu with rfl; rfl) (by omega) (by unfold maxLen; omega) (by omega) (by rw [sz_alloc]; omega) (w8.heap.size + 1) (by simp) ?_
         intro g cap w9 hown9 hgrow9 hat9 hlt9; have HO9 : Hid (w9.ownsRow w0.heap.size 3 1 (.slice (some ⟨g, 0, none⟩) (is.length + 1) cap) (is.length + 1) (is.map (Value.int .i64) ++ [.int .i64 i])) := hown9; have HG9 : Hid _ := hgrow9; clear hown9 hgrow9 hat9 hlt9)
      | fail
    go_ret; have k9 : ∀ ts : List TypeId, 3 ∉ ts → KeepS ts w8 w9 := fun ts ht => (KeepS.below (ab1 w8 _) _).trans (KeepS.grown (HROW8.out (.cells #[.int .i64 i] 3)) ht HG9.out)
    have hb9 : Below w0.heap.size (w8.alloc (.cells #[.int .i64 i] 3)) w9 := grown_below (HROW8.out _) HG9.out (Nat.le_refl _) (by rw [sz_alloc]; omega); have hI9 := (HI8.out.alloc (.cells #[.int .i64 i] 3)).later HTA.out hb9; refine ⟨i, some ⟨g, 0, none⟩, cap, rfl, by rw [List.map_append]; exact HO9.out, fun ts h3 h4 => (HK2.out ts h4).trans (k9 ts h3), HX2.out, ?_⟩; rw [HC.out, if_neg (by decide), or_none_]; exact hI9
  | true =>
    have HC : Hid _ := hc; clear hc; go_wp2_with fail; refine (j_misname HI2.out.self (tkd : Int) (tpl : Int) ttx (Wk.tokK c.T q.k).place (fun e => by rw [HAT.out (pwant_bad e)])).mono ?_; rintro e w8 ⟨rfl, hI8⟩; have HK8 : Hid (∀ ts : List TypeId, 148 ∉ ts → KeepS ts w w8) := fun ts ht => (HK2.out ts ht).trans (HI2.out.keepS hI8 ht)
    have HR8 : Hid (w8.ownsRow w0.heap.size 3 1 (.slice ad is.length cc) is.length (is.map (Value.int .i64))) := owns_keepS HR2.out (HI2.out.keepS (ts := [3]) hI8 (by decide)) (by decide); have HI8 : Hid _ := HI2.out.trans hI8; clear hI8 c0 c1 c2; have HROW8 : Hid (∀ x, (w8.alloc x).ownsRow w0.heap.size 3 1 (.slice ad is.length cc) is.length (is.map (Value.int .i64))) := fun x => World.ownsRow.alloc HR8.out x
    have hs8 : w0.heap.size ≤ w8.heap.size := HI8.out.fr.size; obtain ⟨i0, hi0, hz0, hz1, hz2⟩ := info_parts Tryz.info3; go_wp2_with first
      | (at_builtin; refine wpList_append_lies _ (by rfl) (.tmp 25) (.tmp 27) 24 (by rfl) w0.heap.size 3 i0 _ 1 8 Tryz.und24 hi0 hz0 hz1 hz2 (by rfl) (by omega) (.slice ad is.length cc) is.length (is.map (Value.int .i64)) (by simp [Act.eval]) (HROW8.out _) ⟨w8.heap.size, 0, none⟩ 1 1 [.int .i64 i] (by simp [Act.eval]) (by rfl) (World.news_of_block (cs := #[.int .i64 i]) (heap_alloc_new _ _)) (by intro u hu; simp at hu; rcases hu with rfl; rfl) (by omega) (by unfold maxLen; omega) (by omega) (by rw [sz_alloc]; omega) (w8.heap.size + 1) (by simp) ?_
         intro g cap w9 hown9 hgrow9 hat9 hlt9; have HO9 : Hid (w9.ownsRow w0.heap.size 3 1 (.slice (some ⟨g, 0, none⟩) (is.length + 1) cap) (is.length + 1) (is.map (Value.int .i64) ++ [.int .i64 i])) := hown9; have HG9 : Hid _ := hgrow9; clear hown9 hgrow9 hat9 hlt9)
      | fail
    go_ret; have k9 : ∀ ts : List TypeId, 3 ∉ ts → KeepS ts w8 w9 := fun ts ht => (KeepS.below (ab1 w8 _) _).trans (KeepS.grown (HROW8.out (.cells #[.int .i64 i] 3)) ht HG9.out)
    have hb9 : Below w0.heap.size (w8.alloc (.cells #[.int .i64 i] 3)) w9 := grown_below (HROW8.out _) HG9.out (Nat.le_refl _) (by rw [sz_alloc]; omega); have hI9 := (HI8.out.alloc (.cells #[.int .i64 i] 3)).later HTA.out hb9; refine ⟨i, some ⟨g, 0, none⟩, cap, rfl, by rw [List.map_append]; exact HO9.out, fun ts h3 h4 => (HK8.out ts h4).trans (k9 ts h3), HX2.out, ?_⟩; rw [HC.out, if_pos rfl]; exact hI9
def UR.flat (l : List UR) : List Value := (l.map UR.cells).flatten
theorem UR.flat_snoc (l : List UR) (r : UR) : UR.flat (l ++ [r]) = UR.flat l ++ r.cells := by simp [UR.flat]
theorem Tryz.info256 : (Tryz.prog.info? 256).map (fun i => (i.zero, i.size, i.bytes)) = some (some (.agg #[.slice none 0 0, .pointer none]), 2, 32) := by kernel_rfl
theorem Tryz.und72 : Tryz.prog.underlying 72 = some (.slice 256) := by kernel_rfl
theorem eg173 : ∀ args w, (callFunc 173 args).run Tryz.prog w = .ok (.enter 173 args) w := fun args w => by simp [go_sem]
theorem eg175 : ∀ args w, (callFunc 175 args).run Tryz.prog w = .ok (.enter 175 args) w := fun args w => by simp [go_sem]
def tbC (hd : IR) (po : Nat) (cv rv : Value) : Array Value := #[.int .i64 hd.kd, .string hd.nm, .int .i64 (hd.ty.1 : Nat), .int .i64 (hd.ty.2.length : Nat), .string (wd hd.ty 0), .string (wd hd.ty 1), .string (wd hd.ty 2), .string (wd hd.ty 3), .string (wd hd.ty 4), .string (wd hd.ty 5), hd.ex, .int .i64 po, cv, rv, .slice none 0 0]
structure TI (c : Cx) (w0 w : World) (q : Wk.St) (o : Option Nat) (pb qb ib : Nat) (hd : IR) (po : Nat) (ad1 : Option Addr) (cc1 : Nat) (is : List Int) (ad2 : Option Addr) (cc2 : Nat) (rs : List UR) : Prop where
 inn : PI c w0 w q 0 o
 top : ∃ qa na oa, PI c w0 w0 qa na oa
 pbx : w.heap[pb]? = some (.cells #[nptr c.b] 209 (0, 0))
 qbx : w.heap[qb]? = some (.cells #[nptr ib] 242 (0, 0))
 ibx : w.heap[ib]? = some (.cells (tbC hd po (.slice ad1 is.length cc1) (.slice ad2 rs.length cc2)) 75 (0, 0))
 crow : w.ownsRow w0.heap.size 3 1 (.slice ad1 is.length cc1) is.length (is.map (Value.int .i64))
 rrow : w.ownsRow w0.heap.size 256 2 (.slice ad2 rs.length cc2) rs.length (UR.flat rs)
 new : w0.heap.size ≤ pb ∧ w0.heap.size ≤ qb ∧ w0.heap.size ≤ ib
theorem TI.step {c : Cx} {w0 w w' : World} {q q' : Wk.St} {o o' : Option Nat} {pb qb ib : Nat} {hd : IR} {po : Nat} {ad1 : Option Addr} {cc1 : Nat} {is : List Int} {ad2 : Option Addr} {cc2 : Nat} {rs : List UR} (h : TI c w0 w q o pb qb ib hd po ad1 cc1 is ad2 cc2 rs) (hI : PI c w w' q' 0 o') : TI c w0 w' q' o' pb qb ib hd po ad1 cc1 is ad2 cc2 rs := by
 obtain ⟨qa, na, oa, ht⟩ := h.top; have hb := ht.blt; have hn := h.new; exact ⟨h.inn.trans hI, h.top, hI.blk h.pbx (by omega), hI.blk h.qbx (by omega), hI.blk h.ibx (by omega), owns_keepS h.crow (h.inn.keepS (ts := [3]) hI (by decide)) (by decide), owns_keepS h.rrow (h.inn.keepS (ts := [256]) hI (by decide)) (by decide), hn⟩
theorem TI.cells {c : Cx} {w0 w : World} {q : Wk.St} {o : Option Nat} {pb qb ib : Nat} {hd : IR} {po : Nat} {ad1 : Option Addr} {cc1 : Nat} {is : List Int} {ad2 : Option Addr} {cc2 : Nat} {rs : List UR} (h : TI c w0 w q o pb qb ib hd po ad1 cc1 is ad2 cc2 rs) : w.cell? ⟨pb, 0, none⟩ = some (nptr c.b) ∧ w.cell? ⟨qb, 0, none⟩ = some (nptr ib) ∧ w.cell? ⟨ib, 12, none⟩ = some (.slice ad1 is.length cc1) ∧ w.cell? ⟨ib, 13, none⟩ = some (.slice ad2 rs.length cc2) ∧ ∀ j, w.frozen? ⟨ib, j, none⟩ = false :=
 ⟨blk_cell h.pbx rfl, blk_cell h.qbx rfl, blk_cell h.ibx rfl, blk_cell h.ibx rfl, blk_free h.ibx⟩
def colStep (T : List Wk.Tok) (s : Wk.St × List (Wk.Name × Nat)) : Wk.St × List (Wk.Name × Nat) := (s.1.want T 2, s.2 ++ [((Wk.tokK T s.1.k).text.data.toList, (Wk.tokK T s.1.k).place)])
theorem pCols_run (T : List Wk.Tok) : ∀ (n : Nat) (s : Wk.St × List (Wk.Name × Nat)), Wk.pCols T n s.1 s.2 = listRun (fun s => s.1.isK T 38) (colStep T) (fun s => (s.1.adv, s.2)) n s := by
 intro n; induction n with
 | zero => intro s; rfl
 | succ n ih =>
  intro s; rw [Wk.pCols, listRun]; show (if (decide (0 < n) && (colStep T s).1.isK T 38) = true then Wk.pCols T n (colStep T s).1.adv (colStep T s).2 else colStep T s) = _; split
  ·exact ih ((colStep T s).1.adv, (colStep T s).2)
  ·rfl
def KI (c : Cx) (w0 : World) (o : Option Nat) (pb qb ib : Nat) (hd : IR) (po : Nat) (n : Nat) (w : World) (s : Wk.St × List (Wk.Name × Nat)) : Prop :=
 ∃ ad1 cc1 is, TI c w0 w s.1 (o.or (Wk.strayCols c.ns [] s.2)) pb qb ib hd po ad1 cc1 is none 0 [] ∧ is.length = n ∧ s.2.length = n ∧ (s.1.bad = none → Wk.strayCols c.ns [] s.2 = none → is = s.2.map (fun y => Wk.idx y.1 c.ns))
theorem col_or (ns : List Wk.Name) (o : Option Nat) (l : List (Wk.Name × Nat)) (x : Wk.Name) (p : Nat) (is : List Int) (h : Wk.strayCols ns [] l = none → is = l.map (fun y => Wk.idx y.1 ns)) :
  ((o.or (Wk.strayCols ns [] l)).or (Wk.stray ns [(x, p)])).or (if is.contains (Wk.idx x ns) then some p else none) = o.or (Wk.strayCols ns [] (l ++ [(x, p)])) := by
 rw [Wk.strayCols_snoc, List.nil_append, Wk.stray_one]; cases o with
 | some y => rfl
 | none =>
  cases hs : Wk.strayCols ns [] l with
  | some y => rfl
  | none =>
   have e := h hs; have hl := Wk.strayCols_none hs; show ((none : Option Nat).or (if ns.contains x then none else some p)).or _ = _; cases hx : ns.contains x with
   | false => rfl
   | true =>
    rw [e, Wk.cols_contains hl hx]; rfl
theorem j_colStep {c : Cx} {w0 w : World} {o : Option Nat} {pb qb ib : Nat} {hd : IR} {po n : Nat} {s : Wk.St × List (Wk.Name × Nat)} (hn : n < 3) (h : KI c w0 o pb qb ib hd po n w s) :
  Calls Tryz.prog 173 #[nptr pb, nptr qb] w fun e w' => e = .returned (.tuple #[]) ∧ KI c w0 o pb qb ib hd po (n + 1) w' (colStep c.T s) := by
 obtain ⟨q, l⟩ := s; obtain ⟨ad1, cc1, is, hT, hlen, hll, hok⟩ := h; have HT : Hid (TI c w0 w q (o.or (Wk.strayCols c.ns [] l)) pb qb ib hd po ad1 cc1 is none 0 []) := hT; have HOK : Hid _ := hok; have HL : Hid _ := hll; have HX : Hid (w.drew.cell? ⟨pb, 0, none⟩ = some (nptr c.b) ∧ w.drew.cell? ⟨qb, 0, none⟩ = some (nptr ib) ∧ w.drew.cell? ⟨ib, 12, none⟩ = some (.slice ad1 is.length cc1)) := ⟨hT.cells.1, hT.cells.2.1, hT.cells.2.2.1⟩
 have HLEN : Hid _ := hlen; have hl10 : is.length ≤ 10 := by omega
 clear hT hok hll hlen; go_enter Tryz.func173, Tryz.ntmps173; go_upto_region 0 with fail; refine wp_region_ph (fun w' => w'.cell? ⟨pb, 0, none⟩ = some (nptr c.b) ∧ w'.cell? ⟨qb, 0, none⟩ = some (nptr ib) ∧ w'.cell? ⟨ib, 12, none⟩ = some (.slice ad1 is.length cc1)) 7 10 rfl (by kernel_rfl) HX.out (fun hHeld => ?_); clear hHeld; refine PhS.t 0 2 HX.out ?_; refine PhS.t 1 3 HX.out ?_; refine PhS.t 2 4 HX.out ?_; refine PhS.t 3 5 HX.out ?_; refine PhS.t 4 6 HX.out ?_; refine PhS.t 5 7 HX.out ?_; refine PhS.on 6 (fun K hK => ?_); go_simp; refine (j_column HT.out.inn.drew HT.out.top (World.ownsRow.drew HT.out.crow) hl10).mono ?_; rintro e w5 ⟨i, ad, cc, rfl, hrow, hkeep, hi, hI⟩; have HROW : Hid (w5.ownsRow w0.heap.size 3 1 (.slice ad (is.length + 1) cc) (is.length + 1) ((is ++ [i]).map (Value.int .i64))) := hrow; have HI5 : Hid (PI c w0 w5 _ 0 _) := hI; have HIX : Hid _ := hi; have hk5 : KeepS [209, 242, 75, 256] w.drew w5 := hkeep _ (by decide) (by decide); have v1 := hk5 _ _ _ _ (by decide) HT.out.pbx; have v2 := hk5 _ _ _ _ (by decide) HT.out.qbx; have v3 := hk5 _ _ _ _ (by decide) HT.out.ibx; have HR5 : Hid (w5.ownsRow w0.heap.size 256 2 (.slice none 0 0) 0 (UR.flat [])) := owns_keepS (w := w.drew) HT.out.rrow hk5 (by decide); have HV1 : Hid _ := v1; have HV2 : Hid _ := v2; have HV3 : Hid _ := v3; have k12 := bc 12 v3 rfl; have kf := blk_free v3; refine hK.out _ _ (fun _ => ⟨blk_cell v1 rfl, blk_cell v2 rfl, blk_cell v3 rfl⟩) ?_; clear hK K hrow hkeep hi hI hk5 v1 v2 v3; try simp only [Act.put, sA, sZ, sS]
 refine PhS.on 7 (fun K hK => ?_); go_simp; refine hK.out _ _ (fun h => absurd h (by decide)) ?_; clear hK K; try simp only [Act.put, sA, sZ, sS]
 refine PhS.on 8 (fun K hK => ?_); go_simp; refine hK.out _ _ (fun h => absurd h (by decide)) ?_; clear hK K; try simp only [Act.put, sA, sZ, sS]
 refine PhS.on 9 (fun K hK => ?_); go_simp; refine hK.out _ _ (fun h => absurd h (by decide)) ?_; clear hK K; refine PhS.done (by kernel_rfl) ?_ _; go_wp2_with fail; go_end0
 obtain ⟨qa, na, oa, hta⟩ := HT.out.top; have hnw := HT.out.new; have k5 : KeepS [209, 242, 256, 3] w5 (w5.setCell ⟨ib, 12, none⟩ (.slice ad (is.length + 1) cc)) := KeepS.set HV3.out (by decide) _; have hIf : PI c w0 (w5.setCell ⟨ib, 12, none⟩ (.slice ad (is.length + 1) cc)) (q.want c.T 2) 0 (o.or (Wk.strayCols c.ns [] (l ++ [((Wk.tokK c.T q.k).text.data.toList, (Wk.tokK c.T q.k).place)]))) := by
  by_cases hb : (q.want c.T 2).bad = none
  ·rw [← col_or c.ns o l _ _ is (fun hs => HOK.out (pwant_bad hb) hs), ← HIX.out hb]; exact HI5.out.setNew hta hnw.2.2 _ _
  ·exact (HI5.out.setNew hta hnw.2.2 _ _).any hb _
 refine ⟨rfl, ad, cc, is ++ [i], ⟨hIf, HT.out.top, k5 _ _ _ _ (by decide) HV1.out, k5 _ _ _ _ (by decide) HV2.out, ?_, ?_, owns_keepS HR5.out k5 (by decide), hnw⟩, by simp [HLEN.out], by simp [HL.out, colStep], fun hb hs => ?_⟩
 ·rw [blk_set _ HV3.out, List.length_append]; rfl
 ·rw [List.length_append]; exact owns_keepS HROW.out k5 (by decide)
 ·have h1 : Wk.strayCols c.ns [] l = none := by
   have := hs; unfold colStep at this; simp only [] at this; rw [Wk.strayCols_snoc] at this; exact (Wk.or_none this).1
  rw [HOK.out (pwant_bad hb) h1, HIX.out hb]; unfold colStep; simp
def outNames (l : List Wk.PRule) : List (Wk.Name × Nat) := (l.map (·.out.names)).flatten
theorem outNames_snoc (l : List Wk.PRule) (r : Wk.PRule) : outNames (l ++ [r]) = outNames l ++ r.out.names := by simp [outNames]
def ruleStep (T : List Wk.Tok) (m : Nat) (s : Wk.St × List Wk.PRule) : Wk.St × List Wk.PRule := ((Wk.pRule T m s.1).1, s.2 ++ [(Wk.pRule T m s.1).2])
theorem pRules_run (T : List Wk.Tok) (m : Nat) : ∀ (n : Nat) (s : Wk.St × List Wk.PRule), Wk.pRules T m n s.1 s.2 = listRun (fun s => s.1.isK T 40) (ruleStep T m) (fun s => (s.1.adv, s.2)) n s := by
 intro n; induction n with
 | zero => intro s; rfl
 | succ n ih =>
  intro s; rw [Wk.pRules, listRun]; show (if (decide (0 < n) && (ruleStep T m s).1.isK T 40) = true then Wk.pRules T m n (ruleStep T m s).1.adv (ruleStep T m s).2 else ruleStep T m s) = _; split
  ·exact ih ((ruleStep T m s).1.adv, (ruleStep T m s).2)
  ·rfl
theorem pRule_none {T : List Wk.Tok} {m : Nat} {q : Wk.St} (h : (Wk.pRule T m q).1.bad = none) : q.bad = none := none_of (fun hs => Wk.pRule_bad T hs m) h
def LI (c : Cx) (w0 : World) (o : Option Nat) (pb qb ib : Nat) (hd : IR) (po : Nat) (ad1 : Option Addr) (cc1 : Nat) (is : List Int) (n : Nat) (w : World) (s : Wk.St × List Wk.PRule) : Prop :=
 ∃ ad2 cc2 rs, TI c w0 w s.1 (o.or (Wk.stray c.ns (outNames s.2))) pb qb ib hd po ad1 cc1 is ad2 cc2 rs ∧ rs.length = n ∧ (s.1.bad = none → Pairs (UR.ok c.ns w) rs s.2)
theorem j_ruleStep {c : Cx} (hTP : TP c.T) {w0 w : World} {o : Option Nat} {pb qb ib : Nat} {hd : IR} {po : Nat} {ad1 : Option Addr} {cc1 : Nat} {is : List Int} (h1 : 1 ≤ is.length) (h3 : is.length ≤ 3) {n : Nat} {s : Wk.St × List Wk.PRule} (hn : n < 8) (h : LI c w0 o pb qb ib hd po ad1 cc1 is n w s) :
  Calls Tryz.prog 175 #[nptr qb, nptr pb] w fun e w' => e = .returned (.tuple #[]) ∧ LI c w0 o pb qb ib hd po ad1 cc1 is (n + 1) w' (ruleStep c.T is.length s) := by
 obtain ⟨q, l⟩ := s; obtain ⟨ad2, cc2, rs, hT, hlen, hok⟩ := h; have HT : Hid (TI c w0 w q (o.or (Wk.stray c.ns (outNames l))) pb qb ib hd po ad1 cc1 is ad2 cc2 rs) := hT; have HOK : Hid (q.bad = none → Pairs (UR.ok c.ns w) rs l) := hok; have HLEN : Hid _ := hlen; have hr8 : rs.length < 8 := by omega
 have HTP : Hid _ := hTP; have HX : Hid (w.drew.cell? ⟨pb, 0, none⟩ = some (nptr c.b) ∧ w.drew.cell? ⟨qb, 0, none⟩ = some (nptr ib) ∧ w.drew.cell? ⟨ib, 12, none⟩ = some (.slice ad1 is.length cc1) ∧ w.drew.cell? ⟨ib, 13, none⟩ = some (.slice ad2 rs.length cc2)) := ⟨hT.cells.1, hT.cells.2.1, hT.cells.2.2.1, hT.cells.2.2.2.1⟩
 clear hT hok hlen hTP; go_enter Tryz.func175, Tryz.ntmps175; go_upto_region 0 with fail; refine wp_region_ph (fun w' => w'.cell? ⟨pb, 0, none⟩ = some (nptr c.b) ∧ w'.cell? ⟨qb, 0, none⟩ = some (nptr ib) ∧ w'.cell? ⟨ib, 12, none⟩ = some (.slice ad1 is.length cc1) ∧ w'.cell? ⟨ib, 13, none⟩ = some (.slice ad2 rs.length cc2)) 14 17 rfl (by kernel_rfl) HX.out (fun hHeld => ?_); clear hHeld; refine PhS.t 0 2 HX.out ?_; refine PhS.t 1 3 HX.out ?_; refine PhS.t 2 4 HX.out ?_; refine PhS.t 3 5 HX.out ?_; refine PhS.t 4 6 HX.out ?_; refine PhS.t 5 7 HX.out ?_; refine PhS.t 6 8 HX.out ?_; refine PhS.t 7 9 HX.out ?_; refine PhS.t 8 10 HX.out ?_; refine PhS.t 9 11 HX.out ?_; refine PhS.t 10 12 HX.out ?_; refine PhS.on 11 (fun K hK => ?_); go_simp; refine (j_rule HTP.out HT.out.inn.self.drew is.length h1 h3).mono ?_; rintro e w5 ⟨⟨r, rfl, hr⟩, hI⟩; have HT5 : Hid (TI c w0 w5 (Wk.pRule c.T is.length q).1 _ pb qb ib hd po ad1 cc1 is ad2 cc2 rs) := HT.out.step hI; have HKS : Hid (KeepS [285, 264, 246, 70] w w5) := HT.out.inn.keepS hI (by decide); have HR5 : Hid _ := hr; have hs5 : w0.heap.size ≤ w5.heap.size := HT5.out.inn.fr.size; refine hK.out _ _ (fun _ => ⟨HT5.out.cells.1, HT5.out.cells.2.1, HT5.out.cells.2.2.1, HT5.out.cells.2.2.2.1⟩) ?_; clear hK K hI hr; try simp only [Act.put, sA, sZ, sS]
 refine PhS.on 12 (fun K hK => ?_); go_simp; have HXA : Hid (∀ x, (w5.alloc x).cell? ⟨pb, 0, none⟩ = some (nptr c.b) ∧ (w5.alloc x).cell? ⟨qb, 0, none⟩ = some (nptr ib) ∧ (w5.alloc x).cell? ⟨ib, 12, none⟩ = some (.slice ad1 is.length cc1) ∧ (w5.alloc x).cell? ⟨ib, 13, none⟩ = some (.slice ad2 rs.length cc2)) := fun x => ⟨blk_cell (blk_alloc x HT5.out.pbx) rfl, blk_cell (blk_alloc x HT5.out.qbx) rfl, blk_cell (blk_alloc x HT5.out.ibx) rfl, blk_cell (blk_alloc x HT5.out.ibx) rfl⟩
 refine hK.out _ _ (fun _ => HXA.out _) ?_; clear hK K; try simp only [Act.put, sA, sZ, sS]
 obtain ⟨i0, hi0, hz0, hz1, hz2⟩ := info_parts Tryz.info256; have HROW : Hid (∀ x, (w5.alloc x).ownsRow w0.heap.size 256 2 (.slice ad2 rs.length cc2) rs.length (UR.flat rs)) := fun x => World.ownsRow.alloc HT5.out.rrow x
 refine PhS.on 13 (fun K hK => ?_); refine step_append_lies _ (by rfl) (.tmp 6) (.tmp 14) 72 (by rfl) w0.heap.size 256 i0 _ 2 32 Tryz.und72 hi0 hz0 hz1 hz2 (by rfl) (by omega) (.slice ad2 rs.length cc2) rs.length (UR.flat rs) (by simp [Act.eval]) (HROW.out _) ⟨w5.heap.size, 0, none⟩ 1 1 (UR.cells r) (by simp [Act.eval]) (by rfl) (World.news_of_block (cs := (UR.cells r).toArray) (heap_alloc_new _ _)) (by intro u hu; simp [UR.cells] at hu; rcases hu with rfl | rfl <;> rfl) (by omega) (by unfold maxLen; omega) (by omega) (by rw [sz_alloc]; omega) _ rfl ?_; intro g cap w6 hown6 hgrow6 hat6 hlt6; have k6 : KeepS [209, 242, 75, 3, 285, 264, 246, 70] w5 w6 := (KeepS.below (ab1 w5 _) _).trans (KeepS.grown (HROW.out (.cells #[.slice r.ad r.n r.cc, nptr r.k] 256)) (by decide) hgrow6); have hb6 : Below w0.heap.size (w5.alloc (.cells #[.slice r.ad r.n r.cc, nptr r.k] 256)) w6 := grown_below (HROW.out _) hgrow6 (Nat.le_refl _) (by rw [sz_alloc]; omega); have v1 := k6 _ _ _ _ (by decide) HT5.out.pbx; have v2 := k6 _ _ _ _ (by decide) HT5.out.qbx; have v3 := k6 _ _ _ _ (by decide) HT5.out.ibx; have HK6 : Hid (KeepS [209, 242, 75, 3, 285, 264, 246, 70] w5 w6) := k6; have HB6 : Hid _ := hb6; have HV1 : Hid _ := v1; have HV2 : Hid _ := v2; have HV3 : Hid _ := v3; have HO6 : Hid (w6.ownsRow w0.heap.size 256 2 (.slice (some ⟨g, 0, none⟩) (rs.length + 1) cap) (rs.length + 1) (UR.flat rs ++ UR.cells r)) := hown6; have k13 := bc 13 v3 rfl; have kf := blk_free v3; refine hK.out _ _ (fun _ => ⟨blk_cell v1 rfl, blk_cell v2 rfl, blk_cell v3 rfl, blk_cell v3 rfl⟩) ?_; clear hK K hown6 hgrow6 hat6 hlt6 hz0 hz1 hz2 hi0 k6 hb6 v1 v2 v3; try simp only [Act.put, sA, sZ, sS]
 refine PhS.on 14 (fun K hK => ?_); go_simp; refine hK.out _ _ (fun h => absurd h (by decide)) ?_; clear hK K; try simp only [Act.put, sA, sZ, sS]
 refine PhS.on 15 (fun K hK => ?_); go_simp; refine hK.out _ _ (fun h => absurd h (by decide)) ?_; clear hK K; try simp only [Act.put, sA, sZ, sS]
 refine PhS.on 16 (fun K hK => ?_); go_simp; refine hK.out _ _ (fun h => absurd h (by decide)) ?_; clear hK K; refine PhS.done (by kernel_rfl) ?_ _; go_wp2_with fail; go_end0
 obtain ⟨qa, na, oa, hta⟩ := HT.out.top; have hnw := HT.out.new; have k7 : KeepS [209, 242, 256, 3, 285, 264, 246, 70] w6 (w6.setCell ⟨ib, 13, none⟩ (.slice (some ⟨g, 0, none⟩) (rs.length + 1) cap)) := KeepS.set HV3.out (by decide) _; have hIf : PI c w0 (w6.setCell ⟨ib, 13, none⟩ (.slice (some ⟨g, 0, none⟩) (rs.length + 1) cap)) (Wk.pRule c.T is.length q).1 0 (o.or (Wk.stray c.ns (outNames (l ++ [(Wk.pRule c.T is.length q).2])))) := by
  rw [outNames_snoc, Wk.stray_append, ← Wk.or_assoc3]; exact ((HT5.out.inn.alloc _).later hta HB6.out).setNew hta hnw.2.2 _ _
 have k67 : KeepS [285, 264, 246, 70] w5 (w6.setCell ⟨ib, 13, none⟩ (.slice (some ⟨g, 0, none⟩) (rs.length + 1) cap)) := (HK6.out.mono (by decide)).trans (k7.mono (by decide)); refine ⟨rfl, some ⟨g, 0, none⟩, cap, rs ++ [r], ⟨hIf, HT.out.top, k7 _ _ _ _ (by decide) HV1.out, k7 _ _ _ _ (by decide) HV2.out, ?_, owns_keepS HT5.out.crow ((HK6.out.mono (us := [3]) (by decide)).trans (k7.mono (by decide))) (by decide), ?_, hnw⟩, by simp [HLEN.out], fun hb => ?_⟩
 ·rw [blk_set _ HV3.out, List.length_append]; rfl
 ·rw [List.length_append, UR.flat_snoc]; exact owns_keepS HO6.out k7 (by decide)
 ·exact ((HOK.out (pRule_none hb)).imp (fun _ _ x => x.keep (HKS.out.trans k67) (by decide) (by decide) (by decide) (by decide))).snoc ((HR5.out hb).keep k67 (by decide) (by decide) (by decide) (by decide))
def ptabOK (c : Cx) (w : World) (q : Wk.St) (it : Wk.PItem) (po : Nat) (is : List Int) (rs : List UR) : Prop :=
 (Wk.pTable c.T q it).1.bad = none → (Wk.pTable c.T q it).2.policy = 12 + po ∧ (Wk.strayCols c.ns [] (Wk.pTable c.T q it).2.cols = none → is = (Wk.pTable c.T q it).2.cols.map (fun y => Wk.idx y.1 c.ns)) ∧ is.length = (Wk.pTable c.T q it).2.cols.length ∧ Pairs (UR.ok c.ns w) rs (Wk.pTable c.T q it).2.rules
theorem pCols_none {T : List Wk.Tok} {n : Nat} {q : Wk.St} {l : List (Wk.Name × Nat)} (h : (Wk.pCols T n q l).1.bad = none) : q.bad = none := none_of (fun hs => Wk.pCols_bad T hs n l) h
theorem pRules_none {T : List Wk.Tok} {m n : Nat} {q : Wk.St} {l : List Wk.PRule} (h : (Wk.pRules T m n q l).1.bad = none) : q.bad = none := none_of (fun hs => Wk.pRules_bad T hs m n l) h
theorem pCols_one (T : List Wk.Tok) (q : Wk.St) (l : List (Wk.Name × Nat)) : 1 ≤ (Wk.pCols T 3 q l).2.length := by
 have : ∀ n (q : Wk.St) (l : List (Wk.Name × Nat)), l.length ≤ (Wk.pCols T n q l).2.length := by
  intro n; induction n with
  | zero => intro q l; exact Nat.le_refl _
  | succ n ih =>
   intro q l; rw [Wk.pCols]; split
   ·refine Nat.le_trans ?_ (ih _ _); simp
   ·simp
 rw [Wk.pCols]; split
 ·refine Nat.le_trans ?_ (this _ _ _); simp
 ·simp
theorem j_table {c : Cx} (hTP : TP c.T) {w0 w : World} {q : Wk.St} {o : Option Nat} (h : PI c w0 w q 0 o) (hta : ∃ qa na oa, PI c w0 w0 qa na oa) {ib : Nat} (hib : w0.heap.size ≤ ib) {hd : IR} (hbx : w.heap[ib]? = some (.cells (tbC hd 0 (.slice none 0 0) (.slice none 0 0)) 75 (0, 0))) (it : Wk.PItem) :
  Calls Tryz.prog 142 #[nptr c.b, nptr ib] w fun e w' => e = .returned (.tuple #[]) ∧ ∃ po ad1 cc1 is ad2 cc2 rs, po ≤ 5 ∧ ptabOK c w' q it po is rs ∧ is.length ≤ 3 ∧ rs.length ≤ 8 ∧
   w'.heap[ib]? = some (.cells (tbC hd po (.slice ad1 is.length cc1) (.slice ad2 rs.length cc2)) 75 (0, 0)) ∧ w'.ownsRow w0.heap.size 3 1 (.slice ad1 is.length cc1) is.length (is.map (Value.int .i64)) ∧ w'.ownsRow w0.heap.size 256 2 (.slice ad2 rs.length cc2) rs.length (UR.flat rs) ∧
   PI c w0 w' (Wk.pTable c.T q it).1 0 ((o.or (Wk.strayCols c.ns [] (Wk.pTable c.T q it).2.cols)).or (Wk.stray c.ns (outNames (Wk.pTable c.T q it).2.rules))) := by
 obtain ⟨FC, hFC⟩ : ∃ F, F = Wk.pCols c.T 3 ((polS c.T q).want c.T 34) [] := ⟨_, rfl⟩
 obtain ⟨FR, hFR⟩ : ∃ F, F = Wk.pRules c.T FC.2.length 8 ((FC.1.want c.T 35).want c.T 40) [] := ⟨_, rfl⟩
 have HP : Hid (Wk.pTable c.T q it = (FR.1, { it with policy := (Wk.tokK c.T q.k).kind, cols := FC.2, rules := FR.2 })) := by
  show _ = _; rw [hFR, hFC]; rfl
 rw [HP.out]; have HFC : Hid (FC = listRun (fun s => s.1.isK c.T 38) (colStep c.T) (fun s => (s.1.adv, s.2)) 3 ((polS c.T q).want c.T 34, [])) := by
  show _ = _; rw [hFC]; exact pCols_run c.T 3 ((polS c.T q).want c.T 34, [])
 have HFR : Hid (FR = listRun (fun s => s.1.isK c.T 40) (ruleStep c.T FC.2.length) (fun s => (s.1.adv, s.2)) 8 ((FC.1.want c.T 35).want c.T 40, [])) := by
  show _ = _; rw [hFR]; exact pRules_run c.T FC.2.length 8 ((FC.1.want c.T 35).want c.T 40, [])
 have HFB : Hid (FR.1.bad = none → FC.1.bad = none ∧ (polS c.T q).bad = none) := fun e => by
  rw [hFR] at e; have e2 := pwant_bad (pwant_bad (pRules_none e)); refine ⟨e2, ?_⟩; rw [hFC] at e2; exact pwant_bad (pCols_none e2)
 have HH : Hid (PI c w0 w q 0 o) := h; have HBX : Hid _ := hbx; have HTA : Hid (∃ qa na oa, PI c w0 w0 qa na oa) := hta; have HTP : Hid _ := hTP; have hsz := h.fr.size; have hil := lt_of_block hbx; have HX : Hid (((w.alloc (.cells #[nptr c.b] 209)).alloc (.cells #[nptr ib] 242)).drew.cell? ⟨w.heap.size, 0, none⟩ = some (nptr c.b) ∧ ((w.alloc (.cells #[nptr c.b] 209)).alloc (.cells #[nptr ib] 242)).drew.cell? ⟨w.heap.size + 1, 0, none⟩ = some (nptr ib)) := by
  have u1 : ((w.alloc (.cells #[nptr c.b] 209)).alloc (.cells #[nptr ib] 242)).heap[w.heap.size]? = some (.cells #[nptr c.b] 209 (0, 0)) := blk_alloc _ (heap_alloc_new w _); have u2 := heap_alloc_new (w.alloc (.cells #[nptr c.b] 209)) (.cells #[nptr ib] 242); rw [sz_alloc] at u2; exact ⟨blk_cell (w := (w.alloc (.cells #[nptr c.b] 209)).alloc (.cells #[nptr ib] 242)) u1 rfl, blk_cell (w := (w.alloc (.cells #[nptr c.b] 209)).alloc (.cells #[nptr ib] 242)) u2 rfl⟩
 have HT0 : Hid (TI c w0 ((w.alloc (.cells #[nptr c.b] 209)).alloc (.cells #[nptr ib] 242)) q o w.heap.size (w.heap.size + 1) ib hd 0 none 0 [] none 0 []) := by
  have u2 := heap_alloc_new (w.alloc (.cells #[nptr c.b] 209)) (.cells #[nptr ib] 242); rw [sz_alloc] at u2; exact ⟨(h.alloc _).alloc _, hta, blk_alloc _ (heap_alloc_new w _), u2, blk_alloc _ (blk_alloc _ hbx), World.ownsRow_nil _ _ _ _, World.ownsRow_nil _ _ _ _, by omega, by omega, hib⟩
 clear h hbx hta hTP hFC hFR; go_enter Tryz.func142, Tryz.ntmps142; go_upto_region 1 with fail; refine wp_region_ph (fun w' => w'.cell? ⟨w.heap.size, 0, none⟩ = some (nptr c.b) ∧ w'.cell? ⟨w.heap.size + 1, 0, none⟩ = some (nptr ib)) 3 6 rfl (by kernel_rfl) HX.out (fun hHeld => ?_); clear hHeld; refine PhS.t 0 4 HX.out ?_; refine PhS.t 1 5 HX.out ?_; refine PhS.on 2 (fun K hK => ?_); go_simp; refine (j_policy HT0.out.inn.self.drew).mono ?_; rintro e w2 ⟨⟨po, rfl, hp5, hpk⟩, hI⟩; have HT2 : Hid (TI c w0 w2 (polS c.T q) o w.heap.size (w.heap.size + 1) ib hd 0 none 0 [] none 0 []) := HT0.out.step hI; have HPK : Hid _ := hpk; obtain ⟨x1, x2, x3, x4, xf⟩ := HT2.out.cells; have x11 := bc 11 HT2.out.ibx rfl; refine hK.out _ _ (fun _ => ⟨x1, x2⟩) ?_; clear hK K hI hpk; try simp only [Act.put, sA, sZ, sS]
 refine PhS.on 3 (fun K hK => ?_); go_simp; refine hK.out _ _ (fun h => absurd h (by decide)) ?_; clear hK K; try simp only [Act.put, sA, sZ, sS]
 refine PhS.on 4 (fun K hK => ?_); go_simp; refine hK.out _ _ (fun h => absurd h (by decide)) ?_; clear hK K; try simp only [Act.put, sA, sZ, sS]
 refine PhS.on 5 (fun K hK => ?_); go_simp; refine hK.out _ _ (fun h => absurd h (by decide)) ?_; clear hK K; refine PhS.done (by kernel_rfl) ?_ _; have HT3 : Hid (TI c w0 (w2.setCell ⟨ib, 11, none⟩ (.int .i64 (po : Nat))) (polS c.T q) o w.heap.size (w.heap.size + 1) ib hd po none 0 [] none 0 []) := by
  obtain ⟨qa, na, oa, hta⟩ := HTA.out; have k3 : KeepS [209, 242, 3, 256] w2 (w2.setCell ⟨ib, 11, none⟩ (.int .i64 (po : Nat))) := KeepS.set HT2.out.ibx (by decide) _; refine ⟨HT2.out.inn.setNew hta hib _ _, HTA.out, k3 _ _ _ _ (by decide) HT2.out.pbx, k3 _ _ _ _ (by decide) HT2.out.qbx, ?_, owns_keepS HT2.out.crow k3 (by decide), owns_keepS HT2.out.rrow k3 (by decide), HT2.out.new⟩; rw [blk_set _ HT2.out.ibx]; rfl
 generalize w2.setCell ⟨ib, 11, none⟩ (.int .i64 (po : Nat)) = w3 at *
 clear x1 x2 x3 x4 xf x11 HX HT0 HT2; have y1 := HT3.out.cells.1; go_wp2_with fail; refine (j_want HT3.out.inn.self 34).mono ?_; rintro e w4 ⟨he, hI⟩; obtain ⟨v4, rfl⟩ : ∃ v, e = .returned v := ⟨_, he⟩
 have HK4 : Hid (KI c w0 o w.heap.size (w.heap.size + 1) ib hd po 0 w4 ((polS c.T q).want c.T 34, [])) := ⟨none, 0, [], by
  have := HT3.out.step hI; rw [show o.or (Wk.strayCols c.ns [] []) = o from or_none_ o]; exact this, rfl, rfl, fun _ _ => rfl⟩
 have y2 := (HT3.out.step hI).cells.1; clear hI he y1; go_wp2_with fail; refine (j_list (b := c.b) (sign := 38) (most := 3) (isK := fun s : Wk.St × List (Wk.Name × Nat) => s.1.isK c.T 38) (step := colStep c.T) (adv := fun s => (s.1.adv, s.2)) (lb := #[nptr w.heap.size, nptr (w.heap.size + 1)]) eg173 (KI c w0 o w.heap.size (w.heap.size + 1) ib hd po) ?_ (fun k w' s hk hW => j_colStep hk hW) (by omega) (by omega) HK4.out).mono ?_
 ·intro k w' s hW; obtain ⟨a1, a2, is, hTT, hl1, hl2, hl3⟩ := hW; refine (j_has hTT.inn.self 38).mono ?_; rintro e w'' ⟨rfl, hI''⟩; refine ⟨rfl, ?_⟩; cases hk : s.1.isK c.T 38 with
  | true =>
   rw [hk, if_pos rfl] at hI''; exact ⟨a1, a2, is, hTT.step hI'', hl1, hl2, fun _ => hl3 (Wk.isK_iff.1 hk).1⟩
  | false =>
   rw [hk, if_neg (by decide)] at hI''; exact ⟨a1, a2, is, hTT.step hI'', hl1, hl2, hl3⟩
 ·rintro e w5 ⟨rfl, k5, hk5, hK5⟩; rw [← HFC.out] at hK5; obtain ⟨ad1, cc1, is, hT5, hl1, hl2, hl3⟩ := hK5; have HT5 : Hid (TI c w0 w5 FC.1 (o.or (Wk.strayCols c.ns [] FC.2)) w.heap.size (w.heap.size + 1) ib hd po ad1 cc1 is none 0 []) := hT5; have HIS : Hid _ := hl3; have HLE : Hid (FC.2.length = is.length) := hl2.trans hl1.symm; have his3 : is.length ≤ 3 := by omega
  have his1 : 1 ≤ is.length := by
   have := HLE.out; have h0 : 1 ≤ FC.2.length := by rw [HFC.out, ← pCols_run]; exact pCols_one _ _ _
   omega
  have y5 := hT5.cells.1; clear hT5 hl1 hl2 hl3 y2 HK4; go_wp2_with fail; refine (j_want HT5.out.inn.self 35).mono ?_; rintro e w6 ⟨he, hI⟩; obtain ⟨v6, rfl⟩ : ∃ v, e = .returned v := ⟨_, he⟩
  have HT6 : Hid (TI c w0 w6 (FC.1.want c.T 35) (o.or (Wk.strayCols c.ns [] FC.2)) w.heap.size (w.heap.size + 1) ib hd po ad1 cc1 is none 0 []) := HT5.out.step hI; have y6 := HT6.out.cells.1; clear hI he y5; go_wp2_with fail; refine (j_want HT6.out.inn.self 40).mono ?_; rintro e w7 ⟨he, hI⟩; obtain ⟨v7, rfl⟩ : ∃ v, e = .returned v := ⟨_, he⟩
  have HT7 : Hid (TI c w0 w7 ((FC.1.want c.T 35).want c.T 40) (o.or (Wk.strayCols c.ns [] FC.2)) w.heap.size (w.heap.size + 1) ib hd po ad1 cc1 is none 0 []) := HT6.out.step hI; have y7 := HT7.out.cells.1; have HL7 : Hid (LI c w0 (o.or (Wk.strayCols c.ns [] FC.2)) w.heap.size (w.heap.size + 1) ib hd po ad1 cc1 is 0 w7 ((FC.1.want c.T 35).want c.T 40, [])) := ⟨none, 0, [], by
   rw [show (o.or (Wk.strayCols c.ns [] FC.2)).or (Wk.stray c.ns (outNames [])) = o.or (Wk.strayCols c.ns [] FC.2) from or_none_ _]; exact HT7.out, rfl, fun _ => Pairs.nil _⟩
  clear hI he y6; go_wp2_with fail; refine (j_list (b := c.b) (sign := 40) (most := 8) (isK := fun s : Wk.St × List Wk.PRule => s.1.isK c.T 40) (step := ruleStep c.T is.length) (adv := fun s => (s.1.adv, s.2)) (lb := #[nptr (w.heap.size + 1), nptr w.heap.size]) eg175 (LI c w0 (o.or (Wk.strayCols c.ns [] FC.2)) w.heap.size (w.heap.size + 1) ib hd po ad1 cc1 is) ?_ (fun k w' s hk hW => j_ruleStep HTP.out his1 his3 hk hW) (by omega) (by omega) HL7.out).mono ?_
  ·intro k w' s hW; obtain ⟨a1, a2, rs, hTT, hl1, hl2⟩ := hW; refine (j_has hTT.inn.self 40).mono ?_; rintro e w'' ⟨rfl, hI''⟩; refine ⟨rfl, ?_⟩; cases hk : s.1.isK c.T 40 with
   | true =>
    rw [hk, if_pos rfl] at hI''; exact ⟨a1, a2, rs, hTT.step hI'', hl1, fun _ => (hl2 (Wk.isK_iff.1 hk).1).imp (fun _ _ x => x.keep (hTT.inn.keepS (ts := [285, 264, 246, 70]) hI'' (by decide)) (by decide) (by decide) (by decide) (by decide))⟩
   | false =>
    rw [hk, if_neg (by decide)] at hI''; exact ⟨a1, a2, rs, hTT.step hI'', hl1, fun e => (hl2 e).imp (fun _ _ x => x.keep (hTT.inn.keepS (ts := [285, 264, 246, 70]) hI'' (by decide)) (by decide) (by decide) (by decide) (by decide))⟩
  ·rintro e w8 ⟨rfl, k8, hk8, hL8⟩; rw [← HLE.out, ← HFR.out] at hL8; obtain ⟨ad2, cc2, rs, hT8, hl1, hl2⟩ := hL8; have HT8 : Hid (TI c w0 w8 FR.1 ((o.or (Wk.strayCols c.ns [] FC.2)).or (Wk.stray c.ns (outNames FR.2))) w.heap.size (w.heap.size + 1) ib hd po ad1 cc1 is ad2 cc2 rs) := hT8; have HL8 : Hid _ := hl2; have hrs : rs.length ≤ 8 := by omega
   clear hT8 hl1 hl2 y7 HL7; go_wp2_with fail; go_end0
   refine ⟨rfl, po, ad1, cc1, is, ad2, cc2, rs, hp5, ?_, his3, hrs, HT8.out.ibx, HT8.out.crow, HT8.out.rrow, HT8.out.inn⟩; intro hb; rw [HP.out] at hb ⊢; have hfb := HFB.out hb; exact ⟨HPK.out hfb.2, HIS.out hfb.1, HLE.out.symm, HL8.out hb⟩
def irC (r : IR) (tv : Value) : Array Value := #[.int .i64 r.kd, .string r.nm, .int .i64 (r.ty.1 : Nat), .int .i64 (r.ty.2.length : Nat), .string (wd r.ty 0), .string (wd r.ty 1), .string (wd r.ty 2), .string (wd r.ty 3), .string (wd r.ty 4), .string (wd r.ty 5), r.ex, .int .i64 r.po, r.cv, r.rv, tv]
theorem setIR_at {w : World} {b : Nat} {a0 a1 a2 a3 a4 a5 a6 a7 a8 a9 a10 a11 a12 a13 a14 : Value} {t : TypeId} (h : w.heap[b]? = some (.cells #[a0, a1, a2, a3, a4, a5, a6, a7, a8, a9, a10, a11, a12, a13, a14] t (0, 0))) (r : IR) : (setIR w b r).heap[b]? = some (.cells (irC r r.tv) t (0, 0)) := by
 unfold setIR irC; exact (blk_set (o := 14) _ (blk_set (o := 13) _ (blk_set (o := 12) _ (blk_set (o := 11) _ (blk_set (o := 10) _ (blk_set (o := 9) _ (blk_set (o := 8) _ (blk_set (o := 7) _ (blk_set (o := 6) _ (blk_set (o := 5) _ (blk_set (o := 4) _ (blk_set (o := 3) _ (blk_set (o := 2) _ (blk_set (o := 1) _ (blk_set (o := 0) _ h))))))))))))))).trans (by simp)
theorem Tryz.info75 : (Tryz.prog.info? 75).map (fun i => (i.zero, i.size, i.bytes)) = some (some (.agg #[.int .i64 0, .string ⟨#[]⟩, .int .i64 0, .int .i64 0, .string ⟨#[]⟩, .string ⟨#[]⟩, .string ⟨#[]⟩, .string ⟨#[]⟩, .string ⟨#[]⟩, .string ⟨#[]⟩, .pointer none, .int .i64 0, .slice none 0 0, .slice none 0 0, .slice none 0 0]), 15, 224) := by kernel_rfl
theorem Tryz.und62 : Tryz.prog.underlying 62 = some (.slice 75) := by kernel_rfl
def keepTs : List TypeId := [285, 264, 256, 246, 70, 3]
def tabIn (c : Cx) (w : World) (r : IR) (it : Wk.PItem) : Prop := ∃ ad1 cc1 is ad2 cc2 rs, r.cv = .slice ad1 is.length cc1 ∧ r.rv = .slice ad2 rs.length cc2 ∧ is.length ≤ 3 ∧ rs.length ≤ 8 ∧ it.policy = 12 + r.po ∧ r.po ≤ 5 ∧ (Wk.strayCols c.ns [] it.cols = none → is = it.cols.map (fun y => Wk.idx y.1 c.ns)) ∧ is.length = it.cols.length ∧
 w.ownsRow 0 3 1 (.slice ad1 is.length cc1) is.length (is.map (Value.int .i64)) ∧ w.ownsRow 0 256 2 (.slice ad2 rs.length cc2) rs.length (UR.flat rs) ∧ Pairs (UR.ok c.ns w) rs it.rules
structure bodyOK (c : Cx) (w : World) (r : IR) (it : Wk.PItem) : Prop where
 kd : r.kd = it.what
 nm : r.nm.data.toList = it.name
 ty : r.ty = it.ty
 ex : it.what = 1 → ∃ k, r.ex = nptr k ∧ PTK c.ns w (nptr k) it.expr
 tb : it.what = 2 → tabIn c w r it
 one : r.ex.oneCell' = true ∧ r.cv.oneCell' = true ∧ r.rv.oneCell' = true
theorem bodyOK.keep {c : Cx} {w w' : World} {r : IR} {it : Wk.PItem} (h : bodyOK c w r it) (k : KeepS keepTs w w') : bodyOK c w' r it := by
 refine ⟨h.kd, h.nm, h.ty, fun e => ?_, fun e => ?_, h.one⟩
 ·obtain ⟨n, h1, h2⟩ := h.ex e; exact ⟨n, h1, PTK.keep h2 (k.toN (by decide) (by decide))⟩
 ·obtain ⟨ad1, cc1, is, ad2, cc2, rs, a1, a2, a3, a4, a5, a6, a7, a8, a9, a10, a11⟩ := h.tb e; exact ⟨ad1, cc1, is, ad2, cc2, rs, a1, a2, a3, a4, a5, a6, a7, a8, owns_keepS a9 k (by decide), owns_keepS a10 k (by decide), a11.imp (fun _ _ x => x.keep k (by decide) (by decide) (by decide) (by decide))⟩
def tokOK (c : Cx) (r : IR) (it : Wk.PItem) : Prop := ∃ fr n cap, r.tv = .slice (some ⟨c.tg, fr * 3, none⟩) n cap ∧ 1 ≤ n ∧ n ≤ cap ∧ fr < c.T.length ∧ (Wk.tokK c.T fr).place = it.place
def Cx.snoc (c : Cx) (iv : Value) (r : IR) : Cx := { c with iv := iv, irs := c.irs ++ [r] }
def itemEndP (c : Cx) (w w' : World) (q : Wk.St) (o : Option Nat) : Prop := ∃ r iv, PI (c.snoc iv r) w' w' (Wk.pItem c.T q).1 0 (o.or (Wk.itemStray c.ns (Wk.pItem c.T q).2)) ∧ Below c.B w w' ∧ KeepS keepTs w w' ∧ TyW r.ty ∧ ((Wk.pItem c.T q).1.bad = none → bodyOK c w' r (Wk.pItem c.T q).2 ∧ tokOK c r (Wk.pItem c.T q).2 ∧ ∃ cap, r.tv = .slice (some ⟨c.tg, q.k * 3, none⟩) ((Wk.pItem c.T q).1.k - q.k) cap)
theorem item_fin {c : Cx} {w w7 w9 : World} {q0 q' : Wk.St} {o0 o1 : Option Nat} (h0 : PI c w w q0 0 o0) (h7 : PI c w w7 q' 0 o1) (htg : c.tg < c.B) (hlt : c.irs.length < 20) {x : Obj} {g cap : Nat} {r : IR}
  (hown : w9.ownsRow c.B 75 15 (.slice (some ⟨g, 0, none⟩) (c.irs.length + 1) cap) (c.irs.length + 1) (IR.flat c.irs ++ IR.cells r)) (hg : (w7.alloc x).grownBy w9 c.iv.ownBlock) :
  PI (c.snoc (.slice (some ⟨g, 0, none⟩) (c.irs.length + 1) cap) r) (w9.setCell ⟨c.b, 3, none⟩ (.slice (some ⟨g, 0, none⟩) (c.irs.length + 1) cap)) (w9.setCell ⟨c.b, 3, none⟩ (.slice (some ⟨g, 0, none⟩) (c.irs.length + 1) cap)) q' 0 o1 ∧
  Below c.B w (w9.setCell ⟨c.b, 3, none⟩ (.slice (some ⟨g, 0, none⟩) (c.irs.length + 1) cap)) ∧ KeepS keepTs w7 (w9.setCell ⟨c.b, 3, none⟩ (.slice (some ⟨g, 0, none⟩) (c.irs.length + 1) cap)) := by
 obtain ⟨ms, ma, hp, hm⟩ := h7.pp; have hr := World.ownsRow.alloc h7.row x; have hlow := h7.low; have hs : c.B ≤ w7.heap.size := by have := h7.blt; omega
 have hb9 : Below c.B (w7.alloc x) w9 := grown_below hr hg (Nat.le_refl _) (by rw [sz_alloc]; omega); have hbb : w9.heap[c.b]? = some (ppBlock c.T q' 0 (.slice (some ⟨c.tg, 0, none⟩) c.T.length c.tc) c.iv ms ma) := by
  have u := blk_alloc x hp.box; exact (hg.block c.b (lt_of_block u) (fun e => pown_ne hr (cs := _) u (by decide) e.symm)).trans u
 have hbt : w9.heap[c.tg]? = w7.heap[c.tg]? := by
  have h1 : c.tg < w7.heap.size := cell_lt (hp.toks.cells 0 hp.toks.pos).1; rw [hb9.block c.tg htg]; exact (ab1 w7 x).block c.tg h1
 have hbw : Below c.B w w7 := h7.fr.below (by have := h0.blt; omega) (fun k hk e => by omega); have hB : Below c.B w w9 := (hbw.trans ((ab1 w7 x).mono hs)).trans hb9; refine ⟨⟨⟨ms, ma, ⟨hp.toks.of ((blk_other _ hp.ne).trans hbt), ?_, hp.ok, hp.ne⟩, hm⟩, ?_, ?_, ?_, Fr.refl _ _, hlow⟩, hB.setCell hlow.2 _, ?_⟩
 ·have h1 : w9.heap[c.b]? = some (.cells #[.slice (some ⟨c.tg, 0, none⟩) c.T.length c.tc, .int .i64 (ppAt c.T q' : Int), .int .i64 0, c.iv, .bool q'.bad.isSome, .int .i64 ((q'.bad.getD 0 : Nat) : Int), .bool ms, .int .i64 ma] 148 (0, 0)) := hbb; exact (blk_set (o := 3) (.slice (some ⟨g, 0, none⟩) (c.irs.length + 1) cap) h1).trans (by simp [ppBlock, Cx.snoc])
 ·show World.ownsRow _ c.B 75 15 (.slice (some ⟨g, 0, none⟩) (c.irs.length + 1) cap) (c.irs ++ [r]).length (IR.flat (c.irs ++ [r])); rw [IR.flat_snoc, List.length_append]; exact owns_other hown hbb (by decide) _
 ·show (c.irs ++ [r]).length ≤ 20; simp; omega
 ·exact h0.gl.below (hB.setCell hlow.2 _) hlow.1
 ·exact ((KeepS.below (ab1 w7 x) _).trans (KeepS.grown hr (by decide) hg)).trans (KeepS.set hbb (by decide) _)
theorem ppAt_mono {T : List Wk.Tok} {q q' : Wk.St} (h : q.le q') (hq : ppAt T q < T.length) : ppAt T q ≤ ppAt T q' := by
 cases hb : q'.bad with
 | none =>
  have := h hb; rw [ppAt_ok hb, ppAt_ok this.1]; exact this.2
 | some p =>
  have e : ppAt T q' = T.length - 1 := by unfold ppAt; rw [hb]; rfl
  rw [e]; omega
end Go.Proofs.YtbkaghlklkdmkaaGreatDoor
