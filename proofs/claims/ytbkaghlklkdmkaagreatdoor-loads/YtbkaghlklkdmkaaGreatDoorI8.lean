import Derived.Test.YtbkaghlklkdmkaaGreatDoorI7
namespace Go.Proofs.YtbkaghlklkdmkaaGreatDoor
open Go.RowKit
attribute [local go_sem ↓] Go.wp_at_zero Go.wp_at_succ
theorem Tryz.info3 : (Tryz.prog.info? 3).map (fun i => (i.zero, i.size, i.bytes)) = some (some (.int .i64 0), 1, 8) := by kernel_rfl
theorem Tryz.und24 : Tryz.prog.underlying 24 = some (.slice 3) := by kernel_rfl
def colEnd (c : Cx) (w0 w w' : World) (q : Wk.St) (nest : Int) (o : Option Nat) (is : List Int) (e : Ending) : Prop := ∃ (i : Int) (ad : Option Addr) (cc : Nat), e = .returned (.slice ad (is.length + 1) cc) ∧ w'.ownsRow w0.heap.size 3 1 (.slice ad (is.length + 1) cc) (is.length + 1) ((is ++ [i]).map (Value.int .i64)) ∧ (∀ ts : List TypeId, 3 ∉ ts → 148 ∉ ts → KeepS ts w w') ∧
 ((q.want c.T 2).bad = none → i = Wk.idx (Wk.tokK c.T q.k).text.data.toList c.ns) ∧
 PI c w0 w' (q.want c.T 2) nest ((o.or (Wk.stray c.ns [((Wk.tokK c.T q.k).text.data.toList, (Wk.tokK c.T q.k).place)])).or (if is.contains i then some (Wk.tokK c.T q.k).place else none))
theorem p_intIn {w : World} {B : Nat} {ad : Option Addr} {cc : Nat} {is : List Int} (h : w.ownsRow B 3 1 (.slice ad is.length cc) is.length (is.map (Value.int .i64))) (hl : is.length ≤ 100) (x : Int) :
  Calls Tryz.prog 205 #[.slice ad is.length cc, .int .i64 x] w fun e w' => e = .returned (.bool (is.contains x)) ∧ w' = w := by
 cases is with
 | nil => exact Tryz.slices_Contains_int_empty ad cc x w
 | cons y l =>
  rcases h.2 with ⟨-, h0⟩ | ⟨g, cap, cur, e1, -, hgg, -⟩
  ·cases h0
  ·injection e1 with e1 _ e2; subst e1; have := Tryz.slices_Contains_int g 0 (y :: l).length cc (y :: l) x w (Nat.le_refl _) (by omega) (fun j hj => by
    rw [Nat.zero_add, h.cellAt j (by omega), List.getElem?_map, List.getElem?_eq_getElem hj]; simp [List.getD_eq_getElem?_getD, List.getElem?_eq_getElem hj])
   rw [List.take_length] at this; exact this
set_option maxRecDepth 100000 in
set_option maxHeartbeats 4000000 in
theorem j_column {c : Cx} {w0 w : World} {q : Wk.St} {nest : Int} {o : Option Nat} (h : PI c w0 w q nest o) (hta : ∃ qa na oa, PI c w0 w0 qa na oa) {ad : Option Addr} {cc : Nat} {is : List Int} (hr : w.ownsRow w0.heap.size 3 1 (.slice ad is.length cc) is.length (is.map (Value.int .i64))) (hl : is.length ≤ 10) :
    Calls Tryz.prog 174 #[nptr c.b, .slice ad is.length cc] w fun e w' => colEnd c w0 w w' q nest o is e := by
  obtain ⟨qa, na, oa, hta⟩ := hta; have HTA : Hid _ := hta; have HH : Hid (PI c w0 w q nest o) := h; have HR : Hid (w.ownsRow w0.heap.size 3 1 (.slice ad is.length cc) is.length (is.map (Value.int .i64))) := hr; obtain ⟨ms, ma, hP, -⟩ := h.pp; have p0 := blk_cell (o := 0) hP.box rfl; have p1 := blk_cell (o := 1) hP.box rfl; have hlt := hP.lt; obtain ⟨t0, t1, t2⟩ := hP.toks.cells _ hlt; have hbl := lt_of_block hP.box; have htl := cell_lt t0; have hcp := hP.toks.cap; have HAT : Hid (q.bad = none → (Wk.tokK c.T (ppAt c.T q)).place = (Wk.tokK c.T q.k).place) := fun e => by rw [ppAt_ok e]
  have hblt := h.blt; clear h hr hP hta; generalize (Wk.tokK c.T (ppAt c.T q)).kind = tkd at *
  generalize (Wk.tokK c.T (ppAt c.T q)).place = tpl at *
  generalize (Wk.tokK c.T (ppAt c.T q)).text = ttx at *
  generalize ppAt c.T q = at_ at *
  have hk0 : (0 : Int) ≤ (at_ : Int) := by omega
  have hk1 : (at_ : Int) < (c.T.length : Int) := by omega
  have HX : Hid (w.drew.cell? ⟨c.b, 0, none⟩ = some (.slice (some ⟨c.tg, 0, none⟩) c.T.length c.tc) ∧ w.drew.cell? ⟨c.b, 1, none⟩ = some (.int .i64 (at_ : Int)) ∧ w.drew.cell? ⟨c.tg, at_ * 3, none⟩ = some (.int .i64 (tkd : Nat)) ∧ w.drew.cell? ⟨c.tg, at_ * 3 + 1, none⟩ = some (.int .i64 (tpl : Nat)) ∧ w.drew.cell? ⟨c.tg, at_ * 3 + 2, none⟩ = some (.string ttx)) := ⟨p0, p1, t0, t1, t2⟩
  have HXA : Hid (∀ x, (w.alloc x).drew.cell? ⟨c.b, 0, none⟩ = some (.slice (some ⟨c.tg, 0, none⟩) c.T.length c.tc) ∧ (w.alloc x).drew.cell? ⟨c.b, 1, none⟩ = some (.int .i64 (at_ : Int)) ∧ (w.alloc x).drew.cell? ⟨c.tg, at_ * 3, none⟩ = some (.int .i64 (tkd : Nat)) ∧ (w.alloc x).drew.cell? ⟨c.tg, at_ * 3 + 1, none⟩ = some (.int .i64 (tpl : Nat)) ∧ (w.alloc x).drew.cell? ⟨c.tg, at_ * 3 + 2, none⟩ = some (.string ttx)) := fun x => ⟨((ab1 w x).cell (p := ⟨c.b, 0, none⟩) hbl).trans p0, ((ab1 w x).cell (p := ⟨c.b, 1, none⟩) hbl).trans p1, ((ab1 w x).cell (p := ⟨c.tg, at_ * 3, none⟩) htl).trans t0, ((ab1 w x).cell (p := ⟨c.tg, at_ * 3 + 1, none⟩) htl).trans t1, ((ab1 w x).cell (p := ⟨c.tg, at_ * 3 + 2, none⟩) htl).trans t2⟩
  clear p0 p1 t0 t1 t2; go_enter Tryz.func174, Tryz.ntmps174; go_upto_region 1 with fail; refine wp_region_ph (fun w' => w'.cell? ⟨c.b, 0, none⟩ = some (.slice (some ⟨c.tg, 0, none⟩) c.T.length c.tc) ∧ w'.cell? ⟨c.b, 1, none⟩ = some (.int .i64 (at_ : Int)) ∧ w'.cell? ⟨c.tg, at_ * 3, none⟩ = some (.int .i64 (tkd : Nat)) ∧ w'.cell? ⟨c.tg, at_ * 3 + 1, none⟩ = some (.int .i64 (tpl : Nat)) ∧ w'.cell? ⟨c.tg, at_ * 3 + 2, none⟩ = some (.string ttx)) 11 12 rfl (by kernel_rfl) HX.out (fun hHeld => ?_); clear hHeld; refine PhS.t 0 7 HX.out ?_; refine PhS.t 1 8 HX.out ?_; refine PhS.t 2 9 HX.out ?_; refine PhS.t 3 10 HX.out ?_; refine PhS.t 4 11 HX.out ?_; refine PhS.t 5 12 HX.out ?_; refine PhS.t 6 13 HX.out ?_; refine PhS.t 7 14 HX.out ?_; refine PhS.t 8 15 HX.out ?_; refine PhS.t 9 16 HX.out ?_; refine PhS.on 10 (fun K hK => ?_); go_simp; refine hK.out _ _ (fun _ => HXA.out _) ?_; clear hK K; try simp only [Act.put, sA, sZ, sS]
  refine PhS.on 11 (fun K hK => ?_); go_simp; refine hK.out _ _ (fun h => absurd h (by decide)) ?_; clear hK K; refine PhS.done (by kernel_rfl) ?_ _; have HI1 : Hid (PI c w0 (w.alloc (.cells #[.int .i64 (tkd : Nat), .int .i64 (tpl : Nat), .string ttx] 134)).drew q nest o) := (HH.out.alloc _).drew; have HK1 : Hid (∀ ts, KeepS ts w (w.alloc (.cells #[.int .i64 (tkd : Nat), .int .i64 (tpl : Nat), .string ttx] 134)).drew) := fun ts => KeepS.below (ab1 w _).drew ts
  have HU1 : Hid ((w.alloc (.cells #[.int .i64 (tkd : Nat), .int .i64 (tpl : Nat), .string ttx] 134)).drew.heap[w.heap.size]? = some (.cells #[.int .i64 (tkd : Nat), .int .i64 (tpl : Nat), .string ttx] 134 (0, 0))) := heap_alloc_new w _; have HR1 : Hid ((w.alloc (.cells #[.int .i64 (tkd : Nat), .int .i64 (tpl : Nat), .string ttx] 134)).drew.ownsRow w0.heap.size 3 1 (.slice ad is.length cc) is.length (is.map (Value.int .i64))) := World.ownsRow.alloc HR.out _; generalize (w.alloc (.cells #[.int .i64 (tkd : Nat), .int .i64 (tpl : Nat), .string ttx] 134)).drew = w1 at *
  clear HX HXA; go_wp2_with fail; refine (j_use HI1.out.self).mono ?_; rintro e w2 ⟨⟨i, rfl, hi⟩, hI2⟩; have HK2 : Hid (∀ ts : List TypeId, 148 ∉ ts → KeepS ts w w2) := fun ts ht => (HK1.out ts).trans (HI1.out.keepS hI2 ht)
  have HR2 : Hid (w2.ownsRow w0.heap.size 3 1 (.slice ad is.length cc) is.length (is.map (Value.int .i64))) := owns_keepS HR1.out (HI1.out.keepS (ts := [3]) hI2 (by decide)) (by decide); have HU2 : Hid _ := hI2.blk HU1.out (by omega); have HI2 : Hid _ := HI1.out.trans hI2; have HX2 : Hid _ := hi; clear hI2 hi; go_wp2_with fail; refine (p_intIn HR2.out (by omega) i).mono ?_; rintro e w3 ⟨rfl, rfl⟩; have c0 := blk_cell (o := 0) HU2.out rfl; have c1 := blk_cell (o := 1) HU2.out rfl; have c2 := blk_cell (o := 2) HU2.out rfl; cases hc : is.contains i with
  | false =>
    have HC : Hid _ := hc; obtain ⟨w8, hw8⟩ : ∃ W, W = w3 := ⟨_, rfl⟩
    subst hw8; have HI8 : Hid _ := HI2.out; have HR8 : Hid (w8.ownsRow w0.heap.size 3 1 (.slice ad is.length cc) is.length (is.map (Value.int .i64))) := HR2.out; clear hc c0 c1 c2; have HROW8 : Hid (∀ x, (w8.alloc x).ownsRow w0.heap.size 3 1 (.slice ad is.length cc) is.length (is.map (Value.int .i64))) := fun x => World.ownsRow.alloc HR8.out x
    have hs8 : w0.heap.size ≤ w8.heap.size := HI8.out.fr.size; obtain ⟨i0, hi0, hz0, hz1, hz2⟩ := info_parts Tryz.info3; go_wp2_with first
      | (at_builtin; refine wpList_append_lies _ (by rfl) (.tmp 25) (.tmp 27) 24 (by rfl) w0.heap.size 3 i0 _ 1 8 Tryz.und24 hi0 hz0 hz1 hz2 (by rfl) (by omega) (.slice ad is.length cc) is.length (is.map (Value.int .i64)) (by simp [Act.eval]) (HROW8.out _) ⟨w8.heap.size, 0, none⟩ 1 1 [.int .i64 i] (by simp [Act.eval]) (by rfl) (World.news_of_block (cs := #[.int .i64 i]) (heap_alloc_new _ _)) (by intro u hu; simp at hu; rcases hu with rfl; rfl) (by omega) (by unfold maxLen; omega) (by omega) (by rw [sz_alloc]; omega) (w8.heap.size + 1) (by simp) ?_
         intro g cap w9 hown9 hgrow9 hat9 hlt9; have HO9 : Hid (w9.ownsRow w0.heap.size 3 1 (.slice (some ⟨g, 0, none⟩) (is.length + 1) cap) (is.length + 1) (is.map (Value.int .i64) ++ [.int .i64 i])) := hown9; have HG9 : Hid _ := hgrow9; clear hown9 hgrow9 hat9 hlt9)
      | fail
    go_ret; have k9 : ∀ ts : List TypeId, 3 ∉ ts → KeepS ts w8 w9 := fun ts ht => (KeepS.below (ab1 w8 _) _).trans (KeepS.grown (HROW8.out (.cells #[.int .i64 i] 3)) ht HG9.out)
    have hb9 : Below w0.heap.size (w8.alloc (.cells #[.int .i64 i] 3)) w9 := grown_below (HROW8.out _) HG9.out (Nat.le_refl _) (by rw [sz_alloc]; omega); have hI9 := (HI8.out.alloc (.cells #[.int .i64 i] 3)).later HTA.out hb9; refine ⟨i, some ⟨g, 0, none⟩, cap, rfl, by rw [List.map_append]; exact HO9.out, fun ts h3 h4 => (HK2.out ts h4).trans (k9 ts h3), HX2.out, ?_⟩; rw [HC.out, if_neg (by decide), or_none_]; exact hI9
  | true =>
    have HC : Hid _ := hc; clear hc; go_wp2_with fail; refine (j_misname HI2.out.self (tkd : Int) (tpl : Int) ttx (Wk.tokK c.T q.k).place (fun e => by rw [HAT.out (pwant_bad e)])).mono ?_; rintro e w8 ⟨rfl, hI8⟩; have HK8 : Hid (∀ ts : List TypeId, 148 ∉ ts → KeepS ts w w8) := fun ts ht => (HK2.out ts ht).trans (HI2.out.keepS hI8 ht)
    have HR8 : Hid (w8.ownsRow w0.heap.size 3 1 (.slice ad is.length cc) is.length (is.map (Value.int .i64))) := owns_keepS HR2.out (HI2.out.keepS (ts := [3]) hI8 (by decide)) (by decide); have HI8 : Hid _ := HI2.out.trans hI8; clear hI8 c0 c1 c2; have HROW8 : Hid (∀ x, (w8.alloc x).ownsRow w0.heap.size 3 1 (.slice ad is.length cc) is.length (is.map (Value.int .i64))) := fun x => World.ownsRow.alloc HR8.out x
    have hs8 : w0.heap.size ≤ w8.heap.size := HI8.out.fr.size; obtain ⟨i0, hi0, hz0, hz1, hz2⟩ := info_parts Tryz.info3; go_wp2_with first
      | (at_builtin; refine wpList_append_lies _ (by rfl) (.tmp 25) (.tmp 27) 24 (by rfl) w0.heap.size 3 i0 _ 1 8 Tryz.und24 hi0 hz0 hz1 hz2 (by rfl) (by omega) (.slice ad is.length cc) is.length (is.map (Value.int .i64)) (by simp [Act.eval]) (HROW8.out _) ⟨w8.heap.size, 0, none⟩ 1 1 [.int .i64 i] (by simp [Act.eval]) (by rfl) (World.news_of_block (cs := #[.int .i64 i]) (heap_alloc_new _ _)) (by intro u hu; simp at hu; rcases hu with rfl; rfl) (by omega) (by unfold maxLen; omega) (by omega) (by rw [sz_alloc]; omega) (w8.heap.size + 1) (by simp) ?_
         intro g cap w9 hown9 hgrow9 hat9 hlt9; have HO9 : Hid (w9.ownsRow w0.heap.size 3 1 (.slice (some ⟨g, 0, none⟩) (is.length + 1) cap) (is.length + 1) (is.map (Value.int .i64) ++ [.int .i64 i])) := hown9; have HG9 : Hid _ := hgrow9; clear hown9 hgrow9 hat9 hlt9)
      | fail
    go_ret; have k9 : ∀ ts : List TypeId, 3 ∉ ts → KeepS ts w8 w9 := fun ts ht => (KeepS.below (ab1 w8 _) _).trans (KeepS.grown (HROW8.out (.cells #[.int .i64 i] 3)) ht HG9.out)
    have hb9 : Below w0.heap.size (w8.alloc (.cells #[.int .i64 i] 3)) w9 := grown_below (HROW8.out _) HG9.out (Nat.le_refl _) (by rw [sz_alloc]; omega); have hI9 := (HI8.out.alloc (.cells #[.int .i64 i] 3)).later HTA.out hb9; refine ⟨i, some ⟨g, 0, none⟩, cap, rfl, by rw [List.map_append]; exact HO9.out, fun ts h3 h4 => (HK8.out ts h4).trans (k9 ts h3), HX2.out, ?_⟩; rw [HC.out, if_pos rfl]; exact hI9
end Go.Proofs.YtbkaghlklkdmkaaGreatDoor
namespace Go.Proofs.YtbkaghlklkdmkaaGreatDoor
open Go.RowKit
attribute [local go_sem ↓] Go.wp_at_zero Go.wp_at_succ
def UR.flat (l : List UR) : List Value := (l.map UR.cells).flatten
theorem UR.flat_snoc (l : List UR) (r : UR) : UR.flat (l ++ [r]) = UR.flat l ++ r.cells := by simp [UR.flat]
theorem Tryz.info256 : (Tryz.prog.info? 256).map (fun i => (i.zero, i.size, i.bytes)) = some (some (.agg #[.slice none 0 0, .pointer none]), 2, 32) := by kernel_rfl
theorem Tryz.und72 : Tryz.prog.underlying 72 = some (.slice 256) := by kernel_rfl
theorem eg173 : ∀ args w, (callFunc 173 args).run Tryz.prog w = .ok (.enter 173 args) w := fun args w => by simp [go_sem]
theorem eg175 : ∀ args w, (callFunc 175 args).run Tryz.prog w = .ok (.enter 175 args) w := fun args w => by simp [go_sem]
def tbC (hd : IR) (po : Nat) (cv rv : Value) : Array Value := #[.int .i64 hd.kd, .string hd.nm, .int .i64 (hd.ty.1 : Nat), .int .i64 (hd.ty.2.length : Nat), .string (wd hd.ty 0), .string (wd hd.ty 1), .string (wd hd.ty 2), .string (wd hd.ty 3), .string (wd hd.ty 4), .string (wd hd.ty 5), hd.ex, .int .i64 po, cv, rv, .slice none 0 0]
structure TI (c : Cx) (w0 w : World) (q : Wk.St) (o : Option Nat) (pb qb ib : Nat) (hd : IR) (po : Nat) (ad1 : Option Addr) (cc1 : Nat) (is : List Int) (ad2 : Option Addr) (cc2 : Nat) (rs : List UR) : Prop where
 inn : PI c w0 w q 0 o
 top : ∃ qa na oa, PI c w0 w0 qa na oa
 pbx : w.heap[pb]? = some (.cells #[nptr c.b] 209 (0, 0))
 qbx : w.heap[qb]? = some (.cells #[nptr ib] 242 (0, 0))
 ibx : w.heap[ib]? = some (.cells (tbC hd po (.slice ad1 is.length cc1) (.slice ad2 rs.length cc2)) 75 (0, 0))
 crow : w.ownsRow w0.heap.size 3 1 (.slice ad1 is.length cc1) is.length (is.map (Value.int .i64))
 rrow : w.ownsRow w0.heap.size 256 2 (.slice ad2 rs.length cc2) rs.length (UR.flat rs)
 new : w0.heap.size ≤ pb ∧ w0.heap.size ≤ qb ∧ w0.heap.size ≤ ib
theorem TI.step {c : Cx} {w0 w w' : World} {q q' : Wk.St} {o o' : Option Nat} {pb qb ib : Nat} {hd : IR} {po : Nat} {ad1 : Option Addr} {cc1 : Nat} {is : List Int} {ad2 : Option Addr} {cc2 : Nat} {rs : List UR} (h : TI c w0 w q o pb qb ib hd po ad1 cc1 is ad2 cc2 rs) (hI : PI c w w' q' 0 o') : TI c w0 w' q' o' pb qb ib hd po ad1 cc1 is ad2 cc2 rs := by
 obtain ⟨qa, na, oa, ht⟩ := h.top; have hb := ht.blt; have hn := h.new; exact ⟨h.inn.trans hI, h.top, hI.blk h.pbx (by omega), hI.blk h.qbx (by omega), hI.blk h.ibx (by omega), owns_keepS h.crow (h.inn.keepS (ts := [3]) hI (by decide)) (by decide), owns_keepS h.rrow (h.inn.keepS (ts := [256]) hI (by decide)) (by decide), hn⟩
theorem TI.cells {c : Cx} {w0 w : World} {q : Wk.St} {o : Option Nat} {pb qb ib : Nat} {hd : IR} {po : Nat} {ad1 : Option Addr} {cc1 : Nat} {is : List Int} {ad2 : Option Addr} {cc2 : Nat} {rs : List UR} (h : TI c w0 w q o pb qb ib hd po ad1 cc1 is ad2 cc2 rs) : w.cell? ⟨pb, 0, none⟩ = some (nptr c.b) ∧ w.cell? ⟨qb, 0, none⟩ = some (nptr ib) ∧ w.cell? ⟨ib, 12, none⟩ = some (.slice ad1 is.length cc1) ∧ w.cell? ⟨ib, 13, none⟩ = some (.slice ad2 rs.length cc2) ∧ ∀ j, w.frozen? ⟨ib, j, none⟩ = false :=
 ⟨blk_cell h.pbx rfl, blk_cell h.qbx rfl, blk_cell h.ibx rfl, blk_cell h.ibx rfl, blk_free h.ibx⟩
def colStep (T : List Wk.Tok) (s : Wk.St × List (Wk.Name × Nat)) : Wk.St × List (Wk.Name × Nat) := (s.1.want T 2, s.2 ++ [((Wk.tokK T s.1.k).text.data.toList, (Wk.tokK T s.1.k).place)])
theorem pCols_run (T : List Wk.Tok) : ∀ (n : Nat) (s : Wk.St × List (Wk.Name × Nat)), Wk.pCols T n s.1 s.2 = listRun (fun s => s.1.isK T 38) (colStep T) (fun s => (s.1.adv, s.2)) n s := by
 intro n; induction n with
 | zero => intro s; rfl
 | succ n ih =>
  intro s; rw [Wk.pCols, listRun]; show (if (decide (0 < n) && (colStep T s).1.isK T 38) = true then Wk.pCols T n (colStep T s).1.adv (colStep T s).2 else colStep T s) = _; split
  ·exact ih ((colStep T s).1.adv, (colStep T s).2)
  ·rfl
def KI (c : Cx) (w0 : World) (o : Option Nat) (pb qb ib : Nat) (hd : IR) (po : Nat) (n : Nat) (w : World) (s : Wk.St × List (Wk.Name × Nat)) : Prop :=
 ∃ ad1 cc1 is, TI c w0 w s.1 (o.or (Wk.strayCols c.ns [] s.2)) pb qb ib hd po ad1 cc1 is none 0 [] ∧ is.length = n ∧ s.2.length = n ∧ (s.1.bad = none → Wk.strayCols c.ns [] s.2 = none → is = s.2.map (fun y => Wk.idx y.1 c.ns))
theorem col_or (ns : List Wk.Name) (o : Option Nat) (l : List (Wk.Name × Nat)) (x : Wk.Name) (p : Nat) (is : List Int) (h : Wk.strayCols ns [] l = none → is = l.map (fun y => Wk.idx y.1 ns)) :
  ((o.or (Wk.strayCols ns [] l)).or (Wk.stray ns [(x, p)])).or (if is.contains (Wk.idx x ns) then some p else none) = o.or (Wk.strayCols ns [] (l ++ [(x, p)])) := by
 rw [Wk.strayCols_snoc, List.nil_append, Wk.stray_one]; cases o with
 | some y => rfl
 | none =>
  cases hs : Wk.strayCols ns [] l with
  | some y => rfl
  | none =>
   have e := h hs; have hl := Wk.strayCols_none hs; show ((none : Option Nat).or (if ns.contains x then none else some p)).or _ = _; cases hx : ns.contains x with
   | false => rfl
   | true =>
    rw [e, Wk.cols_contains hl hx]; rfl
set_option maxRecDepth 100000 in
set_option maxHeartbeats 1000000 in
theorem j_colStep {c : Cx} {w0 w : World} {o : Option Nat} {pb qb ib : Nat} {hd : IR} {po n : Nat} {s : Wk.St × List (Wk.Name × Nat)} (hn : n < 3) (h : KI c w0 o pb qb ib hd po n w s) :
  Calls Tryz.prog 173 #[nptr pb, nptr qb] w fun e w' => e = .returned (.tuple #[]) ∧ KI c w0 o pb qb ib hd po (n + 1) w' (colStep c.T s) := by
 obtain ⟨q, l⟩ := s; obtain ⟨ad1, cc1, is, hT, hlen, hll, hok⟩ := h; have HT : Hid (TI c w0 w q (o.or (Wk.strayCols c.ns [] l)) pb qb ib hd po ad1 cc1 is none 0 []) := hT; have HOK : Hid _ := hok; have HL : Hid _ := hll; have HX : Hid (w.drew.cell? ⟨pb, 0, none⟩ = some (nptr c.b) ∧ w.drew.cell? ⟨qb, 0, none⟩ = some (nptr ib) ∧ w.drew.cell? ⟨ib, 12, none⟩ = some (.slice ad1 is.length cc1)) := ⟨hT.cells.1, hT.cells.2.1, hT.cells.2.2.1⟩
 have HLEN : Hid _ := hlen; have hl10 : is.length ≤ 10 := by omega
 clear hT hok hll hlen; go_enter Tryz.func173, Tryz.ntmps173; go_upto_region 0 with fail; refine wp_region_ph (fun w' => w'.cell? ⟨pb, 0, none⟩ = some (nptr c.b) ∧ w'.cell? ⟨qb, 0, none⟩ = some (nptr ib) ∧ w'.cell? ⟨ib, 12, none⟩ = some (.slice ad1 is.length cc1)) 7 10 rfl (by kernel_rfl) HX.out (fun hHeld => ?_); clear hHeld; refine PhS.t 0 2 HX.out ?_; refine PhS.t 1 3 HX.out ?_; refine PhS.t 2 4 HX.out ?_; refine PhS.t 3 5 HX.out ?_; refine PhS.t 4 6 HX.out ?_; refine PhS.t 5 7 HX.out ?_; refine PhS.on 6 (fun K hK => ?_); go_simp; refine (j_column HT.out.inn.drew HT.out.top (World.ownsRow.drew HT.out.crow) hl10).mono ?_; rintro e w5 ⟨i, ad, cc, rfl, hrow, hkeep, hi, hI⟩; have HROW : Hid (w5.ownsRow w0.heap.size 3 1 (.slice ad (is.length + 1) cc) (is.length + 1) ((is ++ [i]).map (Value.int .i64))) := hrow; have HI5 : Hid (PI c w0 w5 _ 0 _) := hI; have HIX : Hid _ := hi; have hk5 : KeepS [209, 242, 75, 256] w.drew w5 := hkeep _ (by decide) (by decide); have v1 := hk5 _ _ _ _ (by decide) HT.out.pbx; have v2 := hk5 _ _ _ _ (by decide) HT.out.qbx; have v3 := hk5 _ _ _ _ (by decide) HT.out.ibx; have HR5 : Hid (w5.ownsRow w0.heap.size 256 2 (.slice none 0 0) 0 (UR.flat [])) := owns_keepS (w := w.drew) HT.out.rrow hk5 (by decide); have HV1 : Hid _ := v1; have HV2 : Hid _ := v2; have HV3 : Hid _ := v3; have k12 := blk_cell (o := 12) v3 rfl; have kf := blk_free v3; refine hK.out _ _ (fun _ => ⟨blk_cell v1 rfl, blk_cell v2 rfl, blk_cell v3 rfl⟩) ?_; clear hK K hrow hkeep hi hI hk5 v1 v2 v3; try simp only [Act.put, sA, sZ, sS]
 refine PhS.on 7 (fun K hK => ?_); go_simp; refine hK.out _ _ (fun h => absurd h (by decide)) ?_; clear hK K; try simp only [Act.put, sA, sZ, sS]
 refine PhS.on 8 (fun K hK => ?_); go_simp; refine hK.out _ _ (fun h => absurd h (by decide)) ?_; clear hK K; try simp only [Act.put, sA, sZ, sS]
 refine PhS.on 9 (fun K hK => ?_); go_simp; refine hK.out _ _ (fun h => absurd h (by decide)) ?_; clear hK K; refine PhS.done (by kernel_rfl) ?_ _; go_wp2_with fail; go_end0
 obtain ⟨qa, na, oa, hta⟩ := HT.out.top; have hnw := HT.out.new; have k5 : KeepS [209, 242, 256, 3] w5 (w5.setCell ⟨ib, 12, none⟩ (.slice ad (is.length + 1) cc)) := KeepS.set HV3.out (by decide) _; have hIf : PI c w0 (w5.setCell ⟨ib, 12, none⟩ (.slice ad (is.length + 1) cc)) (q.want c.T 2) 0 (o.or (Wk.strayCols c.ns [] (l ++ [((Wk.tokK c.T q.k).text.data.toList, (Wk.tokK c.T q.k).place)]))) := by
  by_cases hb : (q.want c.T 2).bad = none
  ·rw [← col_or c.ns o l _ _ is (fun hs => HOK.out (pwant_bad hb) hs), ← HIX.out hb]; exact HI5.out.setNew hta hnw.2.2 _ _
  ·exact (HI5.out.setNew hta hnw.2.2 _ _).any hb _
 refine ⟨rfl, ad, cc, is ++ [i], ⟨hIf, HT.out.top, k5 _ _ _ _ (by decide) HV1.out, k5 _ _ _ _ (by decide) HV2.out, ?_, ?_, owns_keepS HR5.out k5 (by decide), hnw⟩, by simp [HLEN.out], by simp [HL.out, colStep], fun hb hs => ?_⟩
 ·rw [blk_set _ HV3.out, List.length_append]; rfl
 ·rw [List.length_append]; exact owns_keepS HROW.out k5 (by decide)
 ·have h1 : Wk.strayCols c.ns [] l = none := by
   have := hs; unfold colStep at this; simp only [] at this; rw [Wk.strayCols_snoc] at this; exact (Wk.or_none this).1
  rw [HOK.out (pwant_bad hb) h1, HIX.out hb]; unfold colStep; simp
end Go.Proofs.YtbkaghlklkdmkaaGreatDoor
namespace Go.Proofs.YtbkaghlklkdmkaaGreatDoor
open Go.RowKit
attribute [local go_sem ↓] Go.wp_at_zero Go.wp_at_succ
def outNames (l : List Wk.PRule) : List (Wk.Name × Nat) := (l.map (·.out.names)).flatten
theorem outNames_snoc (l : List Wk.PRule) (r : Wk.PRule) : outNames (l ++ [r]) = outNames l ++ r.out.names := by simp [outNames]
def ruleStep (T : List Wk.Tok) (m : Nat) (s : Wk.St × List Wk.PRule) : Wk.St × List Wk.PRule := ((Wk.pRule T m s.1).1, s.2 ++ [(Wk.pRule T m s.1).2])
theorem pRules_run (T : List Wk.Tok) (m : Nat) : ∀ (n : Nat) (s : Wk.St × List Wk.PRule), Wk.pRules T m n s.1 s.2 = listRun (fun s => s.1.isK T 40) (ruleStep T m) (fun s => (s.1.adv, s.2)) n s := by
 intro n; induction n with
 | zero => intro s; rfl
 | succ n ih =>
  intro s; rw [Wk.pRules, listRun]; show (if (decide (0 < n) && (ruleStep T m s).1.isK T 40) = true then Wk.pRules T m n (ruleStep T m s).1.adv (ruleStep T m s).2 else ruleStep T m s) = _; split
  ·exact ih ((ruleStep T m s).1.adv, (ruleStep T m s).2)
  ·rfl
theorem pRule_none {T : List Wk.Tok} {m : Nat} {q : Wk.St} (h : (Wk.pRule T m q).1.bad = none) : q.bad = none := none_of (fun hs => Wk.pRule_bad T hs m) h
def LI (c : Cx) (w0 : World) (o : Option Nat) (pb qb ib : Nat) (hd : IR) (po : Nat) (ad1 : Option Addr) (cc1 : Nat) (is : List Int) (n : Nat) (w : World) (s : Wk.St × List Wk.PRule) : Prop :=
 ∃ ad2 cc2 rs, TI c w0 w s.1 (o.or (Wk.stray c.ns (outNames s.2))) pb qb ib hd po ad1 cc1 is ad2 cc2 rs ∧ rs.length = n ∧ (s.1.bad = none → Pairs (UR.ok c.ns w) rs s.2)
set_option maxRecDepth 100000 in
set_option maxHeartbeats 2000000 in
theorem j_ruleStep {c : Cx} (hTP : TP c.T) {w0 w : World} {o : Option Nat} {pb qb ib : Nat} {hd : IR} {po : Nat} {ad1 : Option Addr} {cc1 : Nat} {is : List Int} (h1 : 1 ≤ is.length) (h3 : is.length ≤ 3) {n : Nat} {s : Wk.St × List Wk.PRule} (hn : n < 8) (h : LI c w0 o pb qb ib hd po ad1 cc1 is n w s) :
  Calls Tryz.prog 175 #[nptr qb, nptr pb] w fun e w' => e = .returned (.tuple #[]) ∧ LI c w0 o pb qb ib hd po ad1 cc1 is (n + 1) w' (ruleStep c.T is.length s) := by
 obtain ⟨q, l⟩ := s; obtain ⟨ad2, cc2, rs, hT, hlen, hok⟩ := h; have HT : Hid (TI c w0 w q (o.or (Wk.stray c.ns (outNames l))) pb qb ib hd po ad1 cc1 is ad2 cc2 rs) := hT; have HOK : Hid (q.bad = none → Pairs (UR.ok c.ns w) rs l) := hok; have HLEN : Hid _ := hlen; have hr8 : rs.length < 8 := by omega
 have HTP : Hid _ := hTP; have HX : Hid (w.drew.cell? ⟨pb, 0, none⟩ = some (nptr c.b) ∧ w.drew.cell? ⟨qb, 0, none⟩ = some (nptr ib) ∧ w.drew.cell? ⟨ib, 12, none⟩ = some (.slice ad1 is.length cc1) ∧ w.drew.cell? ⟨ib, 13, none⟩ = some (.slice ad2 rs.length cc2)) := ⟨hT.cells.1, hT.cells.2.1, hT.cells.2.2.1, hT.cells.2.2.2.1⟩
 clear hT hok hlen hTP; go_enter Tryz.func175, Tryz.ntmps175; go_upto_region 0 with fail; refine wp_region_ph (fun w' => w'.cell? ⟨pb, 0, none⟩ = some (nptr c.b) ∧ w'.cell? ⟨qb, 0, none⟩ = some (nptr ib) ∧ w'.cell? ⟨ib, 12, none⟩ = some (.slice ad1 is.length cc1) ∧ w'.cell? ⟨ib, 13, none⟩ = some (.slice ad2 rs.length cc2)) 14 17 rfl (by kernel_rfl) HX.out (fun hHeld => ?_); clear hHeld; refine PhS.t 0 2 HX.out ?_; refine PhS.t 1 3 HX.out ?_; refine PhS.t 2 4 HX.out ?_; refine PhS.t 3 5 HX.out ?_; refine PhS.t 4 6 HX.out ?_; refine PhS.t 5 7 HX.out ?_; refine PhS.t 6 8 HX.out ?_; refine PhS.t 7 9 HX.out ?_; refine PhS.t 8 10 HX.out ?_; refine PhS.t 9 11 HX.out ?_; refine PhS.t 10 12 HX.out ?_; refine PhS.on 11 (fun K hK => ?_); go_simp; refine (j_rule HTP.out HT.out.inn.self.drew is.length h1 h3).mono ?_; rintro e w5 ⟨⟨r, rfl, hr⟩, hI⟩; have HT5 : Hid (TI c w0 w5 (Wk.pRule c.T is.length q).1 _ pb qb ib hd po ad1 cc1 is ad2 cc2 rs) := HT.out.step hI; have HKS : Hid (KeepS [285, 264, 246, 70] w w5) := HT.out.inn.keepS hI (by decide); have HR5 : Hid _ := hr; have hs5 : w0.heap.size ≤ w5.heap.size := HT5.out.inn.fr.size; refine hK.out _ _ (fun _ => ⟨HT5.out.cells.1, HT5.out.cells.2.1, HT5.out.cells.2.2.1, HT5.out.cells.2.2.2.1⟩) ?_; clear hK K hI hr; try simp only [Act.put, sA, sZ, sS]
 refine PhS.on 12 (fun K hK => ?_); go_simp; have HXA : Hid (∀ x, (w5.alloc x).cell? ⟨pb, 0, none⟩ = some (nptr c.b) ∧ (w5.alloc x).cell? ⟨qb, 0, none⟩ = some (nptr ib) ∧ (w5.alloc x).cell? ⟨ib, 12, none⟩ = some (.slice ad1 is.length cc1) ∧ (w5.alloc x).cell? ⟨ib, 13, none⟩ = some (.slice ad2 rs.length cc2)) := fun x => ⟨blk_cell (blk_alloc x HT5.out.pbx) rfl, blk_cell (blk_alloc x HT5.out.qbx) rfl, blk_cell (blk_alloc x HT5.out.ibx) rfl, blk_cell (blk_alloc x HT5.out.ibx) rfl⟩
 refine hK.out _ _ (fun _ => HXA.out _) ?_; clear hK K; try simp only [Act.put, sA, sZ, sS]
 obtain ⟨i0, hi0, hz0, hz1, hz2⟩ := info_parts Tryz.info256; have HROW : Hid (∀ x, (w5.alloc x).ownsRow w0.heap.size 256 2 (.slice ad2 rs.length cc2) rs.length (UR.flat rs)) := fun x => World.ownsRow.alloc HT5.out.rrow x
 refine PhS.on 13 (fun K hK => ?_); refine step_append_lies _ (by rfl) (.tmp 6) (.tmp 14) 72 (by rfl) w0.heap.size 256 i0 _ 2 32 Tryz.und72 hi0 hz0 hz1 hz2 (by rfl) (by omega) (.slice ad2 rs.length cc2) rs.length (UR.flat rs) (by simp [Act.eval]) (HROW.out _) ⟨w5.heap.size, 0, none⟩ 1 1 (UR.cells r) (by simp [Act.eval]) (by rfl) (World.news_of_block (cs := (UR.cells r).toArray) (heap_alloc_new _ _)) (by intro u hu; simp [UR.cells] at hu; rcases hu with rfl | rfl <;> rfl) (by omega) (by unfold maxLen; omega) (by omega) (by rw [sz_alloc]; omega) _ rfl ?_; intro g cap w6 hown6 hgrow6 hat6 hlt6; have k6 : KeepS [209, 242, 75, 3, 285, 264, 246, 70] w5 w6 := (KeepS.below (ab1 w5 _) _).trans (KeepS.grown (HROW.out (.cells #[.slice r.ad r.n r.cc, nptr r.k] 256)) (by decide) hgrow6); have hb6 : Below w0.heap.size (w5.alloc (.cells #[.slice r.ad r.n r.cc, nptr r.k] 256)) w6 := grown_below (HROW.out _) hgrow6 (Nat.le_refl _) (by rw [sz_alloc]; omega); have v1 := k6 _ _ _ _ (by decide) HT5.out.pbx; have v2 := k6 _ _ _ _ (by decide) HT5.out.qbx; have v3 := k6 _ _ _ _ (by decide) HT5.out.ibx; have HK6 : Hid (KeepS [209, 242, 75, 3, 285, 264, 246, 70] w5 w6) := k6; have HB6 : Hid _ := hb6; have HV1 : Hid _ := v1; have HV2 : Hid _ := v2; have HV3 : Hid _ := v3; have HO6 : Hid (w6.ownsRow w0.heap.size 256 2 (.slice (some ⟨g, 0, none⟩) (rs.length + 1) cap) (rs.length + 1) (UR.flat rs ++ UR.cells r)) := hown6; have k13 := blk_cell (o := 13) v3 rfl; have kf := blk_free v3; refine hK.out _ _ (fun _ => ⟨blk_cell v1 rfl, blk_cell v2 rfl, blk_cell v3 rfl, blk_cell v3 rfl⟩) ?_; clear hK K hown6 hgrow6 hat6 hlt6 hz0 hz1 hz2 hi0 k6 hb6 v1 v2 v3; try simp only [Act.put, sA, sZ, sS]
 refine PhS.on 14 (fun K hK => ?_); go_simp; refine hK.out _ _ (fun h => absurd h (by decide)) ?_; clear hK K; try simp only [Act.put, sA, sZ, sS]
 refine PhS.on 15 (fun K hK => ?_); go_simp; refine hK.out _ _ (fun h => absurd h (by decide)) ?_; clear hK K; try simp only [Act.put, sA, sZ, sS]
 refine PhS.on 16 (fun K hK => ?_); go_simp; refine hK.out _ _ (fun h => absurd h (by decide)) ?_; clear hK K; refine PhS.done (by kernel_rfl) ?_ _; go_wp2_with fail; go_end0
 obtain ⟨qa, na, oa, hta⟩ := HT.out.top; have hnw := HT.out.new; have k7 : KeepS [209, 242, 256, 3, 285, 264, 246, 70] w6 (w6.setCell ⟨ib, 13, none⟩ (.slice (some ⟨g, 0, none⟩) (rs.length + 1) cap)) := KeepS.set HV3.out (by decide) _; have hIf : PI c w0 (w6.setCell ⟨ib, 13, none⟩ (.slice (some ⟨g, 0, none⟩) (rs.length + 1) cap)) (Wk.pRule c.T is.length q).1 0 (o.or (Wk.stray c.ns (outNames (l ++ [(Wk.pRule c.T is.length q).2])))) := by
  rw [outNames_snoc, Wk.stray_append, ← Wk.or_assoc3]; exact ((HT5.out.inn.alloc _).later hta HB6.out).setNew hta hnw.2.2 _ _
 have k67 : KeepS [285, 264, 246, 70] w5 (w6.setCell ⟨ib, 13, none⟩ (.slice (some ⟨g, 0, none⟩) (rs.length + 1) cap)) := (HK6.out.mono (by decide)).trans (k7.mono (by decide)); refine ⟨rfl, some ⟨g, 0, none⟩, cap, rs ++ [r], ⟨hIf, HT.out.top, k7 _ _ _ _ (by decide) HV1.out, k7 _ _ _ _ (by decide) HV2.out, ?_, owns_keepS HT5.out.crow ((HK6.out.mono (us := [3]) (by decide)).trans (k7.mono (by decide))) (by decide), ?_, hnw⟩, by simp [HLEN.out], fun hb => ?_⟩
 ·rw [blk_set _ HV3.out, List.length_append]; rfl
 ·rw [List.length_append, UR.flat_snoc]; exact owns_keepS HO6.out k7 (by decide)
 ·exact ((HOK.out (pRule_none hb)).imp (fun _ _ x => x.keep (HKS.out.trans k67) (by decide) (by decide) (by decide) (by decide))).snoc ((HR5.out hb).keep k67 (by decide) (by decide) (by decide) (by decide))
end Go.Proofs.YtbkaghlklkdmkaaGreatDoor
