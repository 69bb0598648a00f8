/-
  The parser of the document's answer: an item. The document's answer: types.
-/
import Derived.Test.YtbkaghlklkdmkaaGreatDoorMF4
import Derived.Test.YtbkaghlklkdmkaaGreatDoorMF3
set_option maxRecDepth 100000
set_option maxHeartbeats 8000000
namespace Go.Proofs.YtbkaghlklkdmkaaGreatDoor
open Go.RowKit
attribute [local go_sem ↓] Go.wp_at_zero Go.wp_at_succ
section
variable {B : Nat} {s : ByteArray} {T : List Wk.Tok}
theorem r_item3 (hT : Wk.Shut T) (hQ : Quoted T) {w0 w : World} (b : Nat) (q : Wk.St) (h : IN B s T w0 w b q 0) (hw : q.isK T 6 = true ∨ q.isK T 7 = true ∨ q.isK T 8 = true) :
    Calls Tryz.prog 47 #[.pointer (some ⟨b, 0, none⟩)] w fun e w' => itemEnd w w' b (Wk.pItem T q) e ∧ IN B s T w w' b (Wk.pItem T q).1 0 := by
  rcases hw with KD | KD | KD
  have N7 : q.isK T 7 = false := by rw [isK_of (Wk.isK_iff.1 KD).1 (Wk.isK_iff.1 KD).2]; decide
  have N8 : q.isK T 8 = false := by rw [isK_of (Wk.isK_iff.1 KD).1 (Wk.isK_iff.1 KD).2]; decide
  have hk := Wk.isK_iff.1 KD; have HP : Hid (Wk.pItem T q = ((Wk.pType T (q.adv.want T 2)).1.want T 39, ⟨0, (Wk.tokK T q.k).place, (Wk.tokK T q.adv.k).text.data.toList, (Wk.tokK T q.adv.k).place, (Wk.pType T (q.adv.want T 2)).2, Wk.semNull, 0, [], []⟩)) := by
    show _ = _; unfold Wk.pItem; rw [KD]; rfl
  obtain ⟨nk, nt, na, -, c2, c3, hnx⟩ := h.nextc; have HNT : Hid (nt = whatText 0 ∧ na = (Wk.tokK T q.k).place) := by
    obtain ⟨-, h2, h3⟩ := hnx hk.1; refine ⟨?_, h3⟩; have h5 := h.env.spelt.text q.k (h.ok hk.1) (by rw [hk.2]; decide); have h6 : rtext (Wk.tokK T q.k) false = (Wk.tokK T q.k).text := by
      unfold rtext; rw [hk.2]; rfl
    rw [h2, h6]; rw [hk.2] at h5; exact op_of (by rw [ByteArray.toList_eq]; exact h5)
  have HKD : Hid (q.isK T 6 = true) := KD; have K6 := KD; have K7 := N7; have K8 := N8; rotate_left; have N6 : q.isK T 6 = false := by rw [isK_of (Wk.isK_iff.1 KD).1 (Wk.isK_iff.1 KD).2]; decide
  have N8 : q.isK T 8 = false := by rw [isK_of (Wk.isK_iff.1 KD).1 (Wk.isK_iff.1 KD).2]; decide
  have hk := Wk.isK_iff.1 KD; have HP : Hid (Wk.pItem T q = ((Wk.pExpr T ((Wk.pType T (q.adv.want T 2)).1.want T 31)).1.want T 39, ⟨1, (Wk.tokK T q.k).place, (Wk.tokK T q.adv.k).text.data.toList, (Wk.tokK T q.adv.k).place, (Wk.pType T (q.adv.want T 2)).2, (Wk.pExpr T ((Wk.pType T (q.adv.want T 2)).1.want T 31)).2, 0, [], []⟩)) := by
    show _ = _; unfold Wk.pItem; rw [N6, KD]; rfl
  obtain ⟨nk, nt, na, -, c2, c3, hnx⟩ := h.nextc; have HNT : Hid (nt = whatText 1 ∧ na = (Wk.tokK T q.k).place) := by
    obtain ⟨-, h2, h3⟩ := hnx hk.1; refine ⟨?_, h3⟩; have h5 := h.env.spelt.text q.k (h.ok hk.1) (by rw [hk.2]; decide); have h6 : rtext (Wk.tokK T q.k) false = (Wk.tokK T q.k).text := by
      unfold rtext; rw [hk.2]; rfl
    rw [h2, h6]; rw [hk.2] at h5; exact op_of (by rw [ByteArray.toList_eq]; exact h5)
  have HKD : Hid (q.isK T 7 = true) := KD; have K6 := N6; have K7 := KD; have K8 := N8; rotate_left; have N6 : q.isK T 6 = false := by rw [isK_of (Wk.isK_iff.1 KD).1 (Wk.isK_iff.1 KD).2]; decide
  have N7 : q.isK T 7 = false := by rw [isK_of (Wk.isK_iff.1 KD).1 (Wk.isK_iff.1 KD).2]; decide
  have hk := Wk.isK_iff.1 KD; have HP : Hid (Wk.pItem T q = ((Wk.pTable T (Wk.pType T (q.adv.want T 2)).1 ⟨2, (Wk.tokK T q.k).place, (Wk.tokK T q.adv.k).text.data.toList, (Wk.tokK T q.adv.k).place, (Wk.pType T (q.adv.want T 2)).2, Wk.semNull, 0, [], []⟩).1.want T 39, (Wk.pTable T (Wk.pType T (q.adv.want T 2)).1 ⟨2, (Wk.tokK T q.k).place, (Wk.tokK T q.adv.k).text.data.toList, (Wk.tokK T q.adv.k).place, (Wk.pType T (q.adv.want T 2)).2, Wk.semNull, 0, [], []⟩).2)) := by
    show _ = _; unfold Wk.pItem; rw [N6, N7, KD]; rfl
  obtain ⟨nk, nt, na, -, c2, c3, hnx⟩ := h.nextc; have HNT : Hid (nt = whatText 2 ∧ na = (Wk.tokK T q.k).place) := by
    obtain ⟨-, h2, h3⟩ := hnx hk.1; refine ⟨?_, h3⟩; have h5 := h.env.spelt.text q.k (h.ok hk.1) (by rw [hk.2]; decide); have h6 : rtext (Wk.tokK T q.k) false = (Wk.tokK T q.k).text := by
      unfold rtext; rw [hk.2]; rfl
    rw [h2, h6]; rw [hk.2] at h5; exact op_of (by rw [ByteArray.toList_eq]; exact h5)
  have HKD : Hid (q.isK T 8 = true) := KD; have K6 := N6; have K7 := N7; have K8 := KD; rotate_left; all_goals (
    have HI : Hid (IN B s T w w b q 0) := h.self; have hlt := h.blt; clear h hnx hk; go_enter Tryz.func47, Tryz.ntmps47; go_upto_region 1 with fail; have HB1 : Hid (∀ o, Below w.heap.size w (w.alloc o)) := fun o => (Below.refl _ _).alloc (Nat.le_refl _) _
    have HC : Hid (∀ W, Below w.heap.size w W → W.cell? ⟨b, 2, none⟩ = some (.string nt) ∧ W.cell? ⟨b, 3, none⟩ = some (.int .i64 na)) := fun W hb => ⟨(hb.cell (p := ⟨b, 2, none⟩) hlt).trans c2, (hb.cell (p := ⟨b, 3, none⟩) hlt).trans c3⟩
    go_cut [3] from 7 (fun v3 wc => v3 = .pointer (some ⟨w.heap.size + 1, 0, none⟩) ∧ Hid (IB B s T w wc b q (zeroIt nt na)))
    case first =>
     refine wp_region_ph (fun w' => w'.cell? ⟨b, 2, none⟩ = some (.string nt) ∧ w'.cell? ⟨b, 3, none⟩ = some (.int .i64 na)) 13 13 rfl (by kernel_rfl) (HC.out _ (HB1.out _).drew) (fun hHeld => ?_); have HS : Hid _ := hHeld; clear hHeld; refine PhS.t 0 7 HS.out ?_; refine PhS.t 1 8 HS.out ?_; refine PhS.t 2 9 HS.out ?_; refine PhS.t 3 10 HS.out ?_; refine PhS.t 4 11 HS.out ?_; refine PhS.t 5 12 HS.out ?_; refine PhS.t 6 13 HS.out ?_; refine PhS.t 7 14 HS.out ?_; refine PhS.t 8 15 HS.out ?_; refine PhS.t 9 16 HS.out ?_; refine PhS.t 10 17 HS.out ?_; refine PhS.on 11 (fun K hK => ?_); go_simp; have HB2 : Hid (∀ o o', Below w.heap.size w ((w.alloc o).alloc o')) := fun o o' => (HB1.out o).alloc (by simp) _
     refine hK.out _ _ (fun _ => HC.out _ (HB2.out _ _).drew) ?_; clear hK K HS; refine PhS.on 12 (fun K hK => ?_); go_simp; refine hK.out _ _ (fun _ => HC.out _ (HB2.out _ _).drew) ?_; clear hK K; refine PhS.done (by kernel_rfl) ?_ _; go_wp2_with fail; go_meet; exact ⟨rfl, ib_start HI.out nt na⟩
    obtain ⟨rfl, IB2⟩ := hcut; obtain ⟨W2, hW2⟩ : ∃ W, W = wc := ⟨_, rfl⟩
    subst hW2; clear c2 c3 HC HB1; go_wp2_with fail; refine (i_is IB2.out.inn 6 ⟨#[97, 115, 107]⟩).mono ?_; rintro e w3 ⟨rfl, hw3⟩; rw [hw3, K6]; clear hw3; go_wp2_with fail; refine (i_is IB2.out.inn 7 ⟨#[108, 101, 116]⟩).mono ?_; rintro e w3 ⟨rfl, hw3⟩; rw [hw3, K7]; clear hw3; go_wp2_with fail; refine (i_is IB2.out.inn 8 ⟨#[116, 97, 98, 108, 101]⟩).mono ?_; rintro e w3 ⟨rfl, hw3⟩; rw [hw3, K8]; clear hw3; go_wp2_with fail; refine (i_take IB2.out.inn).mono ?_; rintro e w4 ⟨⟨nk4, nt4, na4, rfl, -, -⟩, hI4⟩; rw [takeS_adv HKD.out (by decide) (by decide)] at hI4; have IB4 : Hid (IB B s T w w4 b q.adv (zeroIt nt na)) := IB2.out.step hI4; clear hI4; go_wp2_with fail; refine (i_kind IB4.out.inn 110 (Or.inr (Or.inr rfl))).mono ?_; rintro e w5 ⟨⟨nk5, nt5, na5, rfl, hz5, ht5⟩, hI5⟩; rw [kindS_name] at hI5 ht5; have IB5 : Hid (IB B s T w w5 b (q.adv.want T 2) (zeroIt nt na)) := IB4.out.step hI5; have HT5 : Hid _ := ht5; clear hI5 ht5 IB4 IB2; obtain ⟨-, b1, b2, b3, -, -, -, -, -, -, -, -, -, -, bf⟩ := IB5.out.cells14; go_wp2_with fail; have IB6 : Hid (IB B s T w (((w5.setCell ⟨w.heap.size + 1, 1, none⟩ (.int .u8 nk5)).setCell ⟨w.heap.size + 1, 2, none⟩ (.string nt5)).setCell ⟨w.heap.size + 1, 3, none⟩ (.int .i64 na5)) b (q.adv.want T 2) { zeroIt nt na with nk := nk5, nt := nt5, na := na5 }) :=
      ((IB5.out.set (r' := { zeroIt nt na with nk := nk5 }) 1 _ rfl).set (r' := { zeroIt nt na with nk := nk5, nt := nt5 }) 2 _ rfl).set 3 _ rfl
    generalize ((w5.setCell ⟨w.heap.size + 1, 1, none⟩ (.int .u8 nk5)).setCell ⟨w.heap.size + 1, 2, none⟩ (.string nt5)).setCell ⟨w.heap.size + 1, 3, none⟩ (.int .i64 na5) = W6 at *
    clear b1 b2 b3 bf IB5; refine (r_typ hQ b _ IB6.out.inn).mono ?_; rintro e w7 ⟨⟨tk, ad7, n7, c7, rfl, ht7⟩, hI7⟩; have IB7 : Hid (IB B s T w w7 b (Wk.pType T (q.adv.want T 2)).1 { zeroIt nt na with nk := nk5, nt := nt5, na := na5 }) := IB6.out.step hI7; have HT7 : Hid _ := ht7; clear hI7 ht7 IB6; obtain ⟨-, -, -, -, -, b5, b6, -, -, -, -, -, -, -, bf⟩ := IB7.out.cells14; go_wp2_with fail; have IB8 : Hid (IB B s T w ((w7.setCell ⟨w.heap.size + 1, 5, none⟩ (.int .u8 tk)).setCell ⟨w.heap.size + 1, 6, none⟩ (.slice ad7 n7 c7)) b (Wk.pType T (q.adv.want T 2)).1 { zeroIt nt na with nk := nk5, nt := nt5, na := na5, tk := tk, tw := .slice ad7 n7 c7 }) :=
      (IB7.out.set (r' := { zeroIt nt na with nk := nk5, nt := nt5, na := na5, tk := tk }) 5 _ rfl).set 6 _ rfl
    have HT8 : Hid ((Wk.pType T (q.adv.want T 2)).1.bad = none → TyK ((w7.setCell ⟨w.heap.size + 1, 5, none⟩ (.int .u8 tk)).setCell ⟨w.heap.size + 1, 6, none⟩ (.slice ad7 n7 c7)) (.agg #[.int .u8 tk, .slice ad7 n7 c7]) (Wk.pType T (q.adv.want T 2)).2) := fun e =>
      (HT7.out e).keep ((Keep9.set IB7.out.box (by decide) _).trans (Keep9.set (blk_set _ IB7.out.box) (by decide) _))
    generalize (w7.setCell ⟨w.heap.size + 1, 5, none⟩ (.int .u8 tk)).setCell ⟨w.heap.size + 1, 6, none⟩ (.slice ad7 n7 c7) = W8 at *
    clear b5 b6 bf IB7 HT7)
  · refine (i_need IB8.out.inn 39 ⟨#[59]⟩).mono ?_; rintro e w9 ⟨rfl, hI9⟩; have IB9 : Hid _ := IB8.out.step hI9; have H99 : Hid (Keep9 W8 w9) := Keep9.frT hI9.fr.toFrT (by decide); clear hI9 IB8; obtain ⟨b0, b1, b2, b3, b4, b5, b6, b7, b8, b9, b10, b11, b12, b13, bf⟩ := IB9.out.cells14; obtain ⟨r0, r1, r2, r3, r4, r5, r6, r7, r8, r9, r10, r11, r12, r13, rf⟩ := IB9.out.res14; unfold zeroIt at b0 b1 b2 b3 b4 b5 b6 b7 b8 b9 b10 b11 b12 b13; simp only at b0 b1 b2 b3 b4 b5 b6 b7 b8 b9 b10 b11 b12 b13; go_wp2_with fail; refine bodyPost_ret (v := .agg (ItR.cells { zeroIt nt na with nk := nk5, nt := nt5, na := na5, tk := tk, tw := .slice ad7 n7 c7 })) (by simp [results, Tryz.results47, go_sem, ItR.cells, itC, ItR.hd, zeroIt, r0, r1, r2, r3, r4, r5, r6, r7, r8, r9, r10, r11, r12, r13]) rfl ?_; refine ib_end IB9.out (fun tv g _ _ e => by simp [zeroIt, Value.ownBlock] at e) ⟨_, _, _, _, _, _, _, _, _, _, _, _, _, rfl, rfl, rfl, rfl, rfl⟩ (Nat.lt_succ_self _) _ (by rw [HP.out]) (fun hb => ?_); have h1 : (Wk.pType T (q.adv.want T 2)).1.bad = none := (Wk.le_want _ _ hb).1; have h2 : (q.adv.want T 2).bad = none := by
      cases hx : (q.adv.want T 2).bad with
      | none => rfl
      | some p => rw [Wk.pType_bad T (by rw [hx]; rfl), hx] at h1; cases h1
    have h3 := HT5.out h2; rw [HP.out]; exact ⟨⟨Nat.zero_le _, HNT.out.1⟩, ⟨h3.2.2.1, h3.2.2.2⟩, HNT.out.2, (HT8.out h1).keep H99.out, ⟨fun e => absurd (show (0 : Nat) = 1 from e) (by decide), fun _ => ⟨rfl, rfl, rfl⟩⟩, fun e => absurd (show (0 : Nat) = 2 from e) (by decide), ⟨[], Pairs.nil _, RowIn.nil _ _ _ _ _⟩, ⟨[], Pairs.nil _, RowIn.nil _ _ _ _ _⟩⟩
  · refine (i_need IB8.out.inn 31 ⟨#[61]⟩).mono ?_; rintro e w9 ⟨rfl, hI9⟩; have IB9 : Hid _ := IB8.out.step hI9; have H99 : Hid (Keep9 W8 w9) := Keep9.frT hI9.fr.toFrT (by decide); have hs9 : w.heap.size + 1 < w9.heap.size := lt_of_block IB9.out.box; clear hI9 IB8; go_wp2_with fail; refine (r_exprI hT hQ _ b IB9.out.inn).mono ?_; rintro e w10 ⟨⟨op, x, en, ad10, n10, c10, rfl, ht10⟩, hI10⟩; have IB10 : Hid _ := IB9.out.step hI10; have H910 : Hid (Keep9 w9 w10) := Keep9.frT hI10.fr.toFrT (by decide); have HT10 : Hid _ := ht10; have hs10 := hI10.size; clear hI10 ht10 IB9; obtain ⟨-, -, -, -, -, -, -, b7, b8, b9, b10, -, -, -, bf⟩ := IB10.out.cells14; unfold tree; go_wp2_with fail; have IB11 : Hid (IB B s T w ((((w10.setCell ⟨w.heap.size + 1, 7, none⟩ (.string op)).setCell ⟨w.heap.size + 1, 8, none⟩ (.string x)).setCell ⟨w.heap.size + 1, 9, none⟩ (.int .i64 en)).setCell ⟨w.heap.size + 1, 10, none⟩ (.slice ad10 n10 c10)) b _ { zeroIt nt na with nk := nk5, nt := nt5, na := na5, tk := tk, tw := .slice ad7 n7 c7, eo := op, ex := x, en := en, ek := .slice ad10 n10 c10 }) :=
      (((IB10.out.set (r' := { zeroIt nt na with nk := nk5, nt := nt5, na := na5, tk := tk, tw := .slice ad7 n7 c7, eo := op }) 7 _ rfl).set (r' := { zeroIt nt na with nk := nk5, nt := nt5, na := na5, tk := tk, tw := .slice ad7 n7 c7, eo := op, ex := x }) 8 _ rfl).set (r' := { zeroIt nt na with nk := nk5, nt := nt5, na := na5, tk := tk, tw := .slice ad7 n7 c7, eo := op, ex := x, en := en }) 9 _ rfl).set 10 _ rfl
    have H911 : Hid (Keep9 w10 ((((w10.setCell ⟨w.heap.size + 1, 7, none⟩ (.string op)).setCell ⟨w.heap.size + 1, 8, none⟩ (.string x)).setCell ⟨w.heap.size + 1, 9, none⟩ (.int .i64 en)).setCell ⟨w.heap.size + 1, 10, none⟩ (.slice ad10 n10 c10))) :=
      (((Keep9.set IB10.out.box (by decide) _).trans (Keep9.set (blk_set _ IB10.out.box) (by decide) _)).trans (Keep9.set (blk_set _ (blk_set _ IB10.out.box)) (by decide) _)).trans (Keep9.set (blk_set _ (blk_set _ (blk_set _ IB10.out.box))) (by decide) _)
    have HK11 : Hid (KeepT w9.heap.size w10.heap.size w10 ((((w10.setCell ⟨w.heap.size + 1, 7, none⟩ (.string op)).setCell ⟨w.heap.size + 1, 8, none⟩ (.string x)).setCell ⟨w.heap.size + 1, 9, none⟩ (.int .i64 en)).setCell ⟨w.heap.size + 1, 10, none⟩ (.slice ad10 n10 c10))) :=
      (((KeepT.set (Or.inl hs9) _).trans (KeepT.set (Or.inl hs9) _)).trans (KeepT.set (Or.inl hs9) _)).trans (KeepT.set (Or.inl hs9) _)
    have hz11 : ((((w10.setCell ⟨w.heap.size + 1, 7, none⟩ (.string op)).setCell ⟨w.heap.size + 1, 8, none⟩ (.string x)).setCell ⟨w.heap.size + 1, 9, none⟩ (.int .i64 en)).setCell ⟨w.heap.size + 1, 10, none⟩ (.slice ad10 n10 c10)).heap.size = w10.heap.size := by simp [World.setCell]
    generalize (((w10.setCell ⟨w.heap.size + 1, 7, none⟩ (.string op)).setCell ⟨w.heap.size + 1, 8, none⟩ (.string x)).setCell ⟨w.heap.size + 1, 9, none⟩ (.int .i64 en)).setCell ⟨w.heap.size + 1, 10, none⟩ (.slice ad10 n10 c10) = W11 at *
    clear b7 b8 b9 b10 bf IB10; refine (i_need IB11.out.inn 39 ⟨#[59]⟩).mono ?_; rintro e w12 ⟨rfl, hI12⟩; have IB12 : Hid _ := IB11.out.step hI12; have H912 : Hid (Keep9 W11 w12) := Keep9.frT hI12.fr.toFrT (by decide); have HK12 : Hid (KeepT w9.heap.size w10.heap.size W11 w12) := hI12.keepT _ _; have hs12 := hI12.size; clear hI12 IB11; obtain ⟨b0, b1, b2, b3, b4, b5, b6, b7, b8, b9, b10, b11, b12, b13, bf⟩ := IB12.out.cells14; obtain ⟨r0, r1, r2, r3, r4, r5, r6, r7, r8, r9, r10, r11, r12, r13, rf⟩ := IB12.out.res14; unfold zeroIt at b0 b1 b2 b3 b4 b5 b6 b7 b8 b9 b10 b11 b12 b13; simp only at b0 b1 b2 b3 b4 b5 b6 b7 b8 b9 b10 b11 b12 b13; go_wp2_with fail; refine bodyPost_ret (v := .agg (ItR.cells { zeroIt nt na with nk := nk5, nt := nt5, na := na5, tk := tk, tw := .slice ad7 n7 c7, eo := op, ex := x, en := en, ek := .slice ad10 n10 c10 })) (by simp [results, Tryz.results47, go_sem, ItR.cells, itC, ItR.hd, zeroIt, r0, r1, r2, r3, r4, r5, r6, r7, r8, r9, r10, r11, r12, r13]) rfl ?_; refine ib_end IB12.out (fun tv g _ _ e => by simp [zeroIt, Value.ownBlock] at e) ⟨_, _, _, _, _, _, _, _, _, _, _, _, _, rfl, rfl, rfl, rfl, rfl⟩ (Nat.lt_succ_self _) _ (by rw [HP.out]) (fun hb => ?_); have h0 : (Wk.pExpr T ((Wk.pType T (q.adv.want T 2)).1.want T 31)).1.bad = none := (Wk.le_want _ _ hb).1; have h00 : ((Wk.pType T (q.adv.want T 2)).1.want T 31).bad = none := by
      cases hx : ((Wk.pType T (q.adv.want T 2)).1.want T 31).bad with
      | none => rfl
      | some p => rw [Wk.pExpr_bad T (by rw [hx]; rfl), hx] at h0; cases h0
    have h1 : (Wk.pType T (q.adv.want T 2)).1.bad = none := (Wk.le_want _ _ h00).1; have h2 : (q.adv.want T 2).bad = none := by
      cases hx : (q.adv.want T 2).bad with
      | none => rfl
      | some p => rw [Wk.pType_bad T (by rw [hx]; rfl), hx] at h1; cases h1
    have h3 := HT5.out h2; rw [HP.out]; exact ⟨⟨show 1 ≤ 2 by omega, HNT.out.1⟩, ⟨h3.2.2.1, h3.2.2.2⟩, HNT.out.2, (HT8.out h1).keep (((H99.out.trans H910.out).trans H911.out).trans H912.out), ⟨fun _ => (((HT10.out h0).keep HK11.out).keep HK12.out).mono (by omega) (by omega), fun e => absurd rfl e⟩, fun e => absurd (show (1 : Nat) = 2 from e) (by decide), ⟨[], Pairs.nil _, RowIn.nil _ _ _ _ _⟩, ⟨[], Pairs.nil _, RowIn.nil _ _ _ _ _⟩⟩
  · have hs8 : w.heap.size + 1 < W8.heap.size := lt_of_block IB8.out.box; have TB8 : Hid (TB B s T w W8 W8 b (w.heap.size + 1) (Wk.pType T (q.adv.want T 2)).1 (ItR.hd { zeroIt nt na with nk := nk5, nt := nt5, na := na5, tk := tk, tw := .slice ad7 n7 c7 }) (.string ⟨#[]⟩) (.slice none 0 0) (.slice none 0 0) [] []) :=
      ⟨IB8.out.inn, ⟨by omega, by omega, rfl, by omega⟩, IB8.out.box, KeepX.refl _ _, Nat.le_refl _, World.ownsRow_nil _ _ _ _, fun tv g _ _ e => by simp [Value.ownBlock] at e, World.ownsRow_nil _ _ _ _⟩
    refine (r_table hT hQ b (w.heap.size + 1) _ ⟨2, (Wk.tokK T q.k).place, (Wk.tokK T q.adv.k).text.data.toList, (Wk.tokK T q.adv.k).place, (Wk.pType T (q.adv.want T 2)).2, Wk.semNull, 0, [], []⟩ _ _ TB8.out).mono ?_; rintro e w9 ⟨rfl, pol, cv, rv, ls, rs, T9, hok9⟩; obtain ⟨adc, ccc, rfl, -⟩ := owns_slice T9.cols; obtain ⟨adr, ccr, rfl, -⟩ := owns_slice T9.rules; have IB9 : Hid (IB B s T w w9 b _ { zeroIt nt na with nk := nk5, nt := nt5, na := na5, tk := tk, tw := .slice ad7 n7 c7, pol := .string pol, cv := .slice adc ls.length ccc, rv := .slice adr rs.length ccr }) :=
      ⟨T9.inn, T9.keep _ _ (by omega) IB8.out.res (by simp [inTs]), T9.box⟩
    have H99 : Hid (Keep9 W8 w9) := T9.keep.nine IB8.out.box; have HT9 : Hid _ := T9; have HOK9 : Hid _ := hok9; have HPI : Hid (∀ x, (Wk.pTable T (Wk.pType T (q.adv.want T 2)).1 ⟨2, (Wk.tokK T q.k).place, (Wk.tokK T q.adv.k).text.data.toList, (Wk.tokK T q.adv.k).place, (Wk.pType T (q.adv.want T 2)).2, Wk.semNull, 0, [], []⟩) = x → x.2.what = 2 ∧ x.2.place = (Wk.tokK T q.k).place ∧ x.2.name = (Wk.tokK T q.adv.k).text.data.toList ∧ x.2.nameAt = (Wk.tokK T q.adv.k).place ∧ x.2.ty = (Wk.pType T (q.adv.want T 2)).2 ∧ x.2.expr = Wk.semNull) := by
      intro x hx; subst hx; exact ⟨rfl, rfl, rfl, rfl, rfl, rfl⟩
    clear T9 hok9 IB8 TB8; generalize hPT : Wk.pTable T (Wk.pType T (q.adv.want T 2)).1 ⟨2, (Wk.tokK T q.k).place, (Wk.tokK T q.adv.k).text.data.toList, (Wk.tokK T q.adv.k).place, (Wk.pType T (q.adv.want T 2)).2, Wk.semNull, 0, [], []⟩ = PT at *
    have HPT : Hid _ := hPT; clear hPT; go_wp2_with fail; refine (i_need IB9.out.inn 39 ⟨#[59]⟩).mono ?_; rintro e w12 ⟨rfl, hI12⟩; have IB12 : Hid _ := IB9.out.step hI12; have H912 : Hid (Keep9 w9 w12) := Keep9.frT hI12.fr.toFrT (by decide); have T12 : Hid _ := HT9.out.step hI12; have HKY : Hid (KeepY [173, 171, 107, 166] W8.heap.size w9.heap.size w9 w12) := KeepY.frT hI12.fr.toFrT (by decide) _ _; have HCI : Hid (∀ cols, ColsIn W8.heap.size w9.heap.size w9 (.slice adc ls.length ccc) cols → ColsIn W8.heap.size w9.heap.size w12 (.slice adc ls.length ccc) cols) := fun cols hc => colsIn_step hI12 HT9.out.inn.cell5 hc HT9.out.sep
    have hs12 := hI12.size; have hs9 := HT9.out.sz; clear hI12 IB9; obtain ⟨b0, b1, b2, b3, b4, b5, b6, b7, b8, b9, b10, b11, b12, b13, bf⟩ := IB12.out.cells14; obtain ⟨r0, r1, r2, r3, r4, r5, r6, r7, r8, r9, r10, r11, r12, r13, rf⟩ := IB12.out.res14; unfold zeroIt at b0 b1 b2 b3 b4 b5 b6 b7 b8 b9 b10 b11 b12 b13; simp only at b0 b1 b2 b3 b4 b5 b6 b7 b8 b9 b10 b11 b12 b13; go_wp2_with fail; refine bodyPost_ret (v := .agg (ItR.cells { zeroIt nt na with nk := nk5, nt := nt5, na := na5, tk := tk, tw := .slice ad7 n7 c7, pol := .string pol, cv := .slice adc ls.length ccc, rv := .slice adr rs.length ccr })) (by simp [results, Tryz.results47, go_sem, ItR.cells, itC, ItR.hd, zeroIt, r0, r1, r2, r3, r4, r5, r6, r7, r8, r9, r10, r11, r12, r13]) rfl ?_; refine ib_end IB12.out T12.out.sep ⟨_, _, _, _, _, _, _, _, _, _, _, _, _, rfl, rfl, rfl, rfl, rfl⟩ (Nat.lt_succ_self _) _ (by rw [HP.out]) (fun hb => ?_); have h0 : PT.1.bad = none := (Wk.le_want _ _ hb).1; have h1 : (Wk.pType T (q.adv.want T 2)).1.bad = none := by
      cases hx : (Wk.pType T (q.adv.want T 2)).1.bad with
      | none => rfl
      | some p =>
        have := Wk.pTable_bad T (q := (Wk.pType T (q.adv.want T 2)).1) (by rw [hx]; rfl) ⟨2, (Wk.tokK T q.k).place, (Wk.tokK T q.adv.k).text.data.toList, (Wk.tokK T q.adv.k).place, (Wk.pType T (q.adv.want T 2)).2, Wk.semNull, 0, [], []⟩; rw [HPT.out] at this; rw [this, hx] at h0; cases h0
    have h2 : (q.adv.want T 2).bad = none := by
      cases hx : (q.adv.want T 2).bad with
      | none => rfl
      | some p => rw [Wk.pType_bad T (by rw [hx]; rfl), hx] at h1; cases h1
    have h3 := HT5.out h2; obtain ⟨p1, p2, p3, p4, p5, p6⟩ := HPI.out PT rfl; obtain ⟨o1, o2, o3, o4, o5⟩ := HOK9.out h0; rw [HP.out]; refine ⟨⟨by rw [p1]; omega, by rw [p1]; exact HNT.out.1⟩, ⟨by rw [p3]; exact h3.2.2.1, by rw [p4]; exact h3.2.2.2⟩, by rw [p2]; exact HNT.out.2, by rw [p5]; exact (HT8.out h1).keep (H99.out.trans H912.out), ⟨fun e => absurd (p1.symm.trans e) (by decide), fun _ => ⟨by rw [p6]; rfl, rfl, rfl⟩⟩, fun _ => ⟨o1, o2, o3⟩, (HCI.out _ o4).mono (by omega) (by omega), (o5.keep HKY.out).mono (by omega) (by omega)⟩
theorem r_item_none (hQ : Quoted T) {w0 w : World} (b : Nat) (q : Wk.St) (h : IN B s T w0 w b q 0) (N6 : q.isK T 6 = false) (N7 : q.isK T 7 = false) (N8 : q.isK T 8 = false) :
    Calls Tryz.prog 47 #[.pointer (some ⟨b, 0, none⟩)] w fun e w' => itemEnd w w' b (Wk.pItem T q) e ∧ IN B s T w w' b (Wk.pItem T q).1 0 := by
  have HP : Hid ((Wk.pItem T q).1 = (Wk.pType T ((q.fail T).want T 2)).1.want T 39 ∧ ((Wk.pType T ((q.fail T).want T 2)).1.want T 39).bad.isSome) := by
    have hf := fail_some (T := T) q; have h1 : (q.fail T).want T 2 = q.fail T := Wk.want_bad T hf 2; have h2 : (Wk.pType T (q.fail T)).1 = q.fail T := Wk.pType_bad T hf; have h3 : (q.fail T).want T 39 = q.fail T := Wk.want_bad T hf 39; have h4 : (Wk.pItem T q).1 = (q.fail T).want T 39 := by
      unfold Wk.pItem; rw [N6, N7, N8]; rfl
    rw [h1, h2, h4]; exact ⟨rfl, by rw [h3]; exact hf⟩
  obtain ⟨nk, nt, na, -, c2, c3, hnx⟩ := h.nextc; have HI : Hid (IN B s T w w b q 0) := h.self; have hlt := h.blt; clear h hnx; go_enter Tryz.func47, Tryz.ntmps47; go_upto_region 1 with fail; have HB1 : Hid (∀ o, Below w.heap.size w (w.alloc o)) := fun o => (Below.refl _ _).alloc (Nat.le_refl _) _
  have HC : Hid (∀ W, Below w.heap.size w W → W.cell? ⟨b, 2, none⟩ = some (.string nt) ∧ W.cell? ⟨b, 3, none⟩ = some (.int .i64 na)) := fun W hb => ⟨(hb.cell (p := ⟨b, 2, none⟩) hlt).trans c2, (hb.cell (p := ⟨b, 3, none⟩) hlt).trans c3⟩
  go_cut [3] from 7 (fun v3 wc => v3 = .pointer (some ⟨w.heap.size + 1, 0, none⟩) ∧ Hid (IB B s T w wc b q (zeroIt nt na)))
  case first =>
   refine wp_region_ph (fun w' => w'.cell? ⟨b, 2, none⟩ = some (.string nt) ∧ w'.cell? ⟨b, 3, none⟩ = some (.int .i64 na)) 13 13 rfl (by kernel_rfl) (HC.out _ (HB1.out _).drew) (fun hHeld => ?_); have HS : Hid _ := hHeld; clear hHeld; refine PhS.t 0 7 HS.out ?_; refine PhS.t 1 8 HS.out ?_; refine PhS.t 2 9 HS.out ?_; refine PhS.t 3 10 HS.out ?_; refine PhS.t 4 11 HS.out ?_; refine PhS.t 5 12 HS.out ?_; refine PhS.t 6 13 HS.out ?_; refine PhS.t 7 14 HS.out ?_; refine PhS.t 8 15 HS.out ?_; refine PhS.t 9 16 HS.out ?_; refine PhS.t 10 17 HS.out ?_; refine PhS.on 11 (fun K hK => ?_); go_simp; have HB2 : Hid (∀ o o', Below w.heap.size w ((w.alloc o).alloc o')) := fun o o' => (HB1.out o).alloc (by simp) _
   refine hK.out _ _ (fun _ => HC.out _ (HB2.out _ _).drew) ?_; clear hK K HS; refine PhS.on 12 (fun K hK => ?_); go_simp; refine hK.out _ _ (fun _ => HC.out _ (HB2.out _ _).drew) ?_; clear hK K; refine PhS.done (by kernel_rfl) ?_ _; go_wp2_with fail; go_meet; exact ⟨rfl, ib_start HI.out nt na⟩
  case rest =>
   obtain ⟨rfl, IB2⟩ := hcut; obtain ⟨W2, hW2⟩ : ∃ W, W = wc := ⟨_, rfl⟩
   subst hW2; clear c2 c3 HC HB1; go_wp2_with fail; refine (i_is IB2.out.inn 6 ⟨#[97, 115, 107]⟩).mono ?_; rintro e w3 ⟨rfl, hw3⟩; rw [hw3, N6]; clear hw3; go_wp2_with fail; refine (i_is IB2.out.inn 7 ⟨#[108, 101, 116]⟩).mono ?_; rintro e w3 ⟨rfl, hw3⟩; rw [hw3, N7]; clear hw3; go_wp2_with fail; refine (i_is IB2.out.inn 8 ⟨#[116, 97, 98, 108, 101]⟩).mono ?_; rintro e w3 ⟨rfl, hw3⟩; rw [hw3, N8]; clear hw3; go_wp2_with fail; refine (i_fail IB2.out.inn).mono ?_; rintro e w3 ⟨rfl, hI3⟩; have IB3 : Hid (IB B s T w w3 b (q.fail T) (zeroIt nt na)) := IB2.out.step hI3; clear hI3; go_wp2_with fail; refine (i_take IB3.out.inn).mono ?_; rintro e w4 ⟨⟨nk4, nt4, na4, rfl, -, -⟩, hI4⟩; rw [takeS_bad T false (fail_some q)] at hI4; have IB4 : Hid (IB B s T w w4 b (q.fail T) (zeroIt nt na)) := IB3.out.step hI4; clear hI4; go_wp2_with fail; refine (i_kind IB4.out.inn 110 (Or.inr (Or.inr rfl))).mono ?_; rintro e w5 ⟨⟨nk5, nt5, na5, rfl, hz5, ht5⟩, hI5⟩; rw [kindS_name] at hI5 ht5; have IB5 : Hid (IB B s T w w5 b ((q.fail T).want T 2) (zeroIt nt na)) := IB4.out.step hI5; have HT5 : Hid _ := ht5; clear hI5 ht5 IB4 IB2; obtain ⟨-, b1, b2, b3, -, -, -, -, -, -, -, -, -, -, bf⟩ := IB5.out.cells14; go_wp2_with fail; have IB6 : Hid (IB B s T w (((w5.setCell ⟨w.heap.size + 1, 1, none⟩ (.int .u8 nk5)).setCell ⟨w.heap.size + 1, 2, none⟩ (.string nt5)).setCell ⟨w.heap.size + 1, 3, none⟩ (.int .i64 na5)) b ((q.fail T).want T 2) { zeroIt nt na with nk := nk5, nt := nt5, na := na5 }) :=
     ((IB5.out.set (r' := { zeroIt nt na with nk := nk5 }) 1 _ rfl).set (r' := { zeroIt nt na with nk := nk5, nt := nt5 }) 2 _ rfl).set 3 _ rfl
   generalize ((w5.setCell ⟨w.heap.size + 1, 1, none⟩ (.int .u8 nk5)).setCell ⟨w.heap.size + 1, 2, none⟩ (.string nt5)).setCell ⟨w.heap.size + 1, 3, none⟩ (.int .i64 na5) = W6 at *
   clear b1 b2 b3 bf IB5; refine (r_typ hQ b _ IB6.out.inn).mono ?_; rintro e w7 ⟨⟨tk, ad7, n7, c7, rfl, ht7⟩, hI7⟩; have IB7 : Hid (IB B s T w w7 b (Wk.pType T ((q.fail T).want T 2)).1 { zeroIt nt na with nk := nk5, nt := nt5, na := na5 }) := IB6.out.step hI7; have HT7 : Hid _ := ht7; clear hI7 ht7 IB6; obtain ⟨-, -, -, -, -, b5, b6, -, -, -, -, -, -, -, bf⟩ := IB7.out.cells14; go_wp2_with fail; have IB8 : Hid (IB B s T w ((w7.setCell ⟨w.heap.size + 1, 5, none⟩ (.int .u8 tk)).setCell ⟨w.heap.size + 1, 6, none⟩ (.slice ad7 n7 c7)) b (Wk.pType T ((q.fail T).want T 2)).1 { zeroIt nt na with nk := nk5, nt := nt5, na := na5, tk := tk, tw := .slice ad7 n7 c7 }) :=
     (IB7.out.set (r' := { zeroIt nt na with nk := nk5, nt := nt5, na := na5, tk := tk }) 5 _ rfl).set 6 _ rfl
   have HT8 : Hid ((Wk.pType T ((q.fail T).want T 2)).1.bad = none → TyK ((w7.setCell ⟨w.heap.size + 1, 5, none⟩ (.int .u8 tk)).setCell ⟨w.heap.size + 1, 6, none⟩ (.slice ad7 n7 c7)) (.agg #[.int .u8 tk, .slice ad7 n7 c7]) (Wk.pType T ((q.fail T).want T 2)).2) := fun e =>
     (HT7.out e).keep ((Keep9.set IB7.out.box (by decide) _).trans (Keep9.set (blk_set _ IB7.out.box) (by decide) _))
   generalize (w7.setCell ⟨w.heap.size + 1, 5, none⟩ (.int .u8 tk)).setCell ⟨w.heap.size + 1, 6, none⟩ (.slice ad7 n7 c7) = W8 at *
   clear b5 b6 bf IB7 HT7; refine (i_need IB8.out.inn 39 ⟨#[59]⟩).mono ?_; rintro e w9 ⟨rfl, hI9⟩; have IB9 : Hid _ := IB8.out.step hI9; have H99 : Hid (Keep9 W8 w9) := Keep9.frT hI9.fr.toFrT (by decide); clear hI9 IB8; obtain ⟨b0, b1, b2, b3, b4, b5, b6, b7, b8, b9, b10, b11, b12, b13, bf⟩ := IB9.out.cells14; obtain ⟨r0, r1, r2, r3, r4, r5, r6, r7, r8, r9, r10, r11, r12, r13, rf⟩ := IB9.out.res14; unfold zeroIt at b0 b1 b2 b3 b4 b5 b6 b7 b8 b9 b10 b11 b12 b13; simp only at b0 b1 b2 b3 b4 b5 b6 b7 b8 b9 b10 b11 b12 b13; go_wp2_with fail; refine bodyPost_ret (v := .agg (ItR.cells { zeroIt nt na with nk := nk5, nt := nt5, na := na5, tk := tk, tw := .slice ad7 n7 c7 })) (by simp [results, Tryz.results47, go_sem, ItR.cells, itC, ItR.hd, zeroIt, r0, r1, r2, r3, r4, r5, r6, r7, r8, r9, r10, r11, r12, r13]) rfl ?_; refine ib_end IB9.out (fun tv g _ _ e => by simp [zeroIt, Value.ownBlock] at e) ⟨_, _, _, _, _, _, _, _, _, _, _, _, _, rfl, rfl, rfl, rfl, rfl⟩ (Nat.lt_succ_self _) _ HP.out.1 (fun hb => ?_); have h1 := HP.out.2; rw [hb] at h1; cases h1
theorem r_item (hT : Wk.Shut T) (hQ : Quoted T) {w0 w : World} (b : Nat) (q : Wk.St) (h : IN B s T w0 w b q 0) :
  Calls Tryz.prog 47 #[.pointer (some ⟨b, 0, none⟩)] w fun e w' => itemEnd w w' b (Wk.pItem T q) e ∧ IN B s T w w' b (Wk.pItem T q).1 0 := by
 cases K6 : q.isK T 6 with
 | true => exact r_item3 hT hQ b q h (Or.inl K6)
 | false =>
  cases K7 : q.isK T 7 with
  | true => exact r_item3 hT hQ b q h (Or.inr (Or.inl K7))
  | false =>
   cases K8 : q.isK T 8 with
   | true => exact r_item3 hT hQ b q h (Or.inr (Or.inr K8))
   | false => exact r_item_none hQ b q h K6 K7 K8
end
theorem cellr_cell {w : World} {base : Nat} {ad : Option Addr} {n c : Nat} {cs : List CR} (h : w.ownsRow base 171 2 (.slice ad n c) n (CR.flat cs)) (hn : cs.length = n) {k : Nat} {L : CR} (hk : cs[k]? = some L) : ∃ g, ad = some ⟨g, 0, none⟩ ∧ w.cell? ⟨g, k * 2, none⟩ = some (.bool L.no) ∧ w.cell? ⟨g, k * 2 + 1, none⟩ = some L.tv := by
 have hlt : k < cs.length := (List.getElem?_eq_some_iff.1 hk).1; have hL : cs[k]'hlt = L := (List.getElem?_eq_some_iff.1 hk).2; have hget : ∀ (l : List CR) (k : Nat) (h : k < l.length) (j : Nat), j < 2 → (CR.flat l)[k * 2 + j]? = (l[k]'h).cells[j]? := by
  intro l; induction l with
  | nil => intro k h; simp at h
  | cons x l ih =>
   intro k h j hj; have e : CR.flat (x :: l) = x.cells ++ CR.flat l := rfl; have hx : x.cells.length = 2 := rfl; cases k with
   | zero =>
    rw [e, List.getElem?_append_left (by rw [hx]; omega)]; simp
   | succ k =>
    have h' : k < l.length := by simpa using h
    have := ih k h' j hj; rw [e, List.getElem?_append_right (by rw [hx]; omega), hx]; rw [show (k + 1) * 2 + j - 2 = k * 2 + j by omega]; exact this
 rcases h.2 with ⟨e, h0⟩ | ⟨g, cap, cur, e, hb, hgg, h1, h2, h3, h4⟩
 ·omega
 ·cases e; have hc : ∀ j, j < 2 → w.cell? ⟨g, k * 2 + j, none⟩ = L.cells[j]? := by
   intro j hj; have := World.ownsRow.cellAt h (k * 2 + j) (by omega); rw [this, hget cs k hlt j hj, hL]
  exact ⟨g, rfl, hc 0 (by omega), hc 1 (by omega)⟩
theorem testr_cell {w : World} {base : Nat} {ad : Option Addr} {n c : Nat} {cs : List TR} (h : w.ownsRow base 173 9 (.slice ad n c) n (TR.flat cs)) (hn : cs.length = n) {k : Nat} {L : TR} (hk : cs[k]? = some L) : ∃ g, ad = some ⟨g, 0, none⟩ ∧ w.cell? ⟨g, k * 9, none⟩ = some (.string L.o) ∧ w.cell? ⟨g, k * 9 + 1, none⟩ = some (.string L.o1) ∧ w.cell? ⟨g, k * 9 + 2, none⟩ = some (.string L.x1) ∧ w.cell? ⟨g, k * 9 + 3, none⟩ = some (.int .i64 L.n1) ∧ w.cell? ⟨g, k * 9 + 4, none⟩ = some (.slice none 0 0) ∧ w.cell? ⟨g, k * 9 + 5, none⟩ = some (.string L.o2) ∧ w.cell? ⟨g, k * 9 + 6, none⟩ = some (.string L.x2) ∧ w.cell? ⟨g, k * 9 + 7, none⟩ = some (.int .i64 L.n2) ∧ w.cell? ⟨g, k * 9 + 8, none⟩ = some (.slice none 0 0) := by
 have hlt : k < cs.length := (List.getElem?_eq_some_iff.1 hk).1; have hL : cs[k]'hlt = L := (List.getElem?_eq_some_iff.1 hk).2; have hget : ∀ (l : List TR) (k : Nat) (h : k < l.length) (j : Nat), j < 9 → (TR.flat l)[k * 9 + j]? = (l[k]'h).cells[j]? := by
  intro l; induction l with
  | nil => intro k h; simp at h
  | cons x l ih =>
   intro k h j hj; have e : TR.flat (x :: l) = x.cells ++ TR.flat l := rfl; have hx : x.cells.length = 9 := rfl; cases k with
   | zero =>
    rw [e, List.getElem?_append_left (by rw [hx]; omega)]; simp
   | succ k =>
    have h' : k < l.length := by simpa using h
    have := ih k h' j hj; rw [e, List.getElem?_append_right (by rw [hx]; omega), hx]; rw [show (k + 1) * 9 + j - 9 = k * 9 + j by omega]; exact this
 rcases h.2 with ⟨e, h0⟩ | ⟨g, cap, cur, e, hb, hgg, h1, h2, h3, h4⟩
 ·omega
 ·cases e; have hc : ∀ j, j < 9 → w.cell? ⟨g, k * 9 + j, none⟩ = L.cells[j]? := by
   intro j hj; have := World.ownsRow.cellAt h (k * 9 + j) (by omega); rw [this, hget cs k hlt j hj, hL]
  exact ⟨g, rfl, hc 0 (by omega), hc 1 (by omega), hc 2 (by omega), hc 3 (by omega), hc 4 (by omega), hc 5 (by omega), hc 6 (by omega), hc 7 (by omega), hc 8 (by omega)⟩
theorem all_step {α : Type} {l : List α} {k : Nat} {x : α} (hx : l[k]? = some x) (f : α → Bool) : (l.drop k).all f = (f x && (l.drop (k + 1)).all f) := by
 have hlt : k < l.length := (List.getElem?_eq_some_iff.1 hx).1; have hX : l[k]'hlt = x := (List.getElem?_eq_some_iff.1 hx).2; rw [List.drop_eq_getElem_cons hlt, hX]; rfl
theorem cellsFit_step {E : Wk.Env} {cells : List Wk.PCell} {cols : List (Wk.Name × Nat)} {j : Nat} {c : Wk.PCell} {x : Wk.Name × Nat} (hc : cells[j]? = some c) (hx : cols[j]? = some x) : Wk.cellsFit E (cells.drop j) (cols.drop j) = (c.tests.all (Wk.testFits (Wk.tyOf E x.1)) && Wk.cellsFit E (cells.drop (j + 1)) (cols.drop (j + 1))) := by
 have h1 : j < cells.length := (List.getElem?_eq_some_iff.1 hc).1; have e1 : cells[j]'h1 = c := (List.getElem?_eq_some_iff.1 hc).2; have h2 : j < cols.length := (List.getElem?_eq_some_iff.1 hx).1; have e2 : cols[j]'h2 = x := (List.getElem?_eq_some_iff.1 hx).2; rw [List.drop_eq_getElem_cons h1, List.drop_eq_getElem_cons h2, e1, e2]; rfl
structure TypeOK (E : Wk.Env) (it : Wk.PItem) : Prop where
 expr : known E it.expr.names
 outs : ∀ r ∈ it.rules, known E r.out.names
 cols : known E it.cols
 len : ∀ r ∈ it.rules, r.cells.length = it.cols.length
theorem rk_i {n : Nat} (h : n ≤ 3) : ((rk n : Int) != 105) = (n != 1) := by
 unfold rk; repeat' split
 all_goals first | (subst_vars; rfl) | (rw [Bool.eq_iff_iff, bne_iff_ne, bne_iff_ne]; omega)
theorem r_types {w : World} {mb g cap lo hi : Nat} {Rs : List ItR} {its : List Wk.PItem} (h : MI w mb g cap lo hi Rs its) (i : Nat) (R : ItR) (it : Wk.PItem) (hR : Rs[i]? = some R) (hI : its[i]? = some it) (hk : TypeOK (itEnv its) it) :
  Calls Tryz.prog 49 #[.pointer (some ⟨mb, 0, none⟩), .agg R.cells] w fun e w' => e = .returned (.bool (Wk.itemFits (itEnv its) it)) ∧ Below w.heap.size w w' := by
 obtain ⟨a1, n1, c1, a2, n2, c2, a3, n3, c3, a4, n4, c4, p, e1, e2, e3, e4, e5⟩ := h.forms R (List.mem_of_getElem? hR); have hok := h.ok.2 i _ it hR hI; obtain ⟨what, nk, nt, na, at_, tk, tw, eo, ex, en, ek, pol, cv, rv⟩ := R; simp only at e1 e2 e3 e4 e5; subst e1; subst e2; subst e3; subst e4; subst e5; have e : (ItR.cells ⟨what, nk, nt, na, at_, tk, .slice a1 n1 c1, eo, ex, en, .slice a2 n2 c2, .string p, .slice a3 n3 c3, .slice a4 n4 c4⟩) = #[.string what, .int .u8 nk, .string nt, .int .i64 na, .int .i64 at_, .int .u8 tk, .slice a1 n1 c1, .string eo, .string ex, .int .i64 en, .slice a2 n2 c2, .string p, .slice a3 n3 c3, .slice a4 n4 c4] := rfl; rw [e]; clear e hR hI; obtain ⟨E, hE⟩ : ∃ E, E = itEnv its := ⟨_, rfl⟩
 rw [← hE] at hk ⊢; have HM : Hid _ := h; have HMA : Hid (∀ w', Below w.heap.size w w' → ModelAt w' mb E) := fun w' hb => by rw [hE]; exact (h.below hb).modelAt
 have HTK : Hid (TypeOK E it) := hk; have HB1 : Hid (Below w.heap.size w (w.alloc (.cells #[.string what, .int .u8 nk, .string nt, .int .i64 na, .int .i64 at_, .int .u8 tk, .slice a1 n1 c1, .string eo, .string ex, .int .i64 en, .slice a2 n2 c2, .string p, .slice a3 n3 c3, .slice a4 n4 c4] 110))) := (Below.refl _ _).alloc (Nat.le_refl _) _; have HX1 : Hid ((w.alloc (.cells #[.string what, .int .u8 nk, .string nt, .int .i64 na, .int .i64 at_, .int .u8 tk, .slice a1 n1 c1, .string eo, .string ex, .int .i64 en, .slice a2 n2 c2, .string p, .slice a3 n3 c3, .slice a4 n4 c4] 110)).heap[w.heap.size]? = some (.cells #[.string what, .int .u8 nk, .string nt, .int .i64 na, .int .i64 at_, .int .u8 tk, .slice a1 n1 c1, .string eo, .string ex, .int .i64 en, .slice a2 n2 c2, .string p, .slice a3 n3 c3, .slice a4 n4 c4] 110 (0, 0))) := heap_alloc_new _ _; have HOK : Hid _ := hok.below HB1.out; have htk : tk = rk it.ty.1 ∧ it.ty.1 ≤ 3 := by
  obtain ⟨t1, t2, t3, ws, t4, t5⟩ := hok.ty.at; simp at t4; exact ⟨by omega, t1⟩
 have hw2 := hok.what; simp only at hw2; have hcm := cell_blt h.model; clear hE h hok hk; have hfn : ∀ (wr : World), Below (w.alloc (.cells #[.string what, .int .u8 nk, .string nt, .int .i64 na, .int .i64 at_, .int .u8 tk, .slice a1 n1 c1, .string eo, .string ex, .int .i64 en, .slice a2 n2 c2, .string p, .slice a3 n3 c3, .slice a4 n4 c4] 110)).heap.size (w.alloc (.cells #[.string what, .int .u8 nk, .string nt, .int .i64 na, .int .i64 at_, .int .u8 tk, .slice a1 n1 c1, .string eo, .string ex, .int .i64 en, .slice a2 n2 c2, .string p, .slice a3 n3 c3, .slice a4 n4 c4] 110)) wr → Below w.heap.size w wr := fun wr hb => HB1.out.trans (hb.mono HB1.out.size)
 have HFN : Hid _ := hfn; clear hfn; rcases (by omega : it.what = 0 ∨ it.what = 1 ∨ it.what = 2) with hw | hw | hw
 ·have h1 : what = ⟨#[97, 115, 107]⟩ := by rw [hw2.2, hw]; rfl
  subst h1; have HE : Hid (Wk.itemFits E it = true) := by
   show _ = _; unfold Wk.itemFits; rw [if_pos hw]
  clear hw hw2 htk; go_enter Tryz.func49, Tryz.ntmps49; go_wp2_with fail; go_ret; exact ⟨ret_bool HE.out.symm, HB1.out⟩
 ·have h1 : what = ⟨#[108, 101, 116]⟩ := by rw [hw2.2, hw]; rfl
  subst h1; have HE : Hid (Wk.itemFits E it = it.expr.fits E it.ty) := by
   show _ = _; unfold Wk.itemFits; rw [if_neg (by omega), if_pos hw]
  have HTR : Hid (TrI lo hi _ (tree eo ex en (.slice a2 n2 c2)) it.expr) := HOK.out.expr.1 hw; clear hw hw2 htk; go_enter Tryz.func49, Tryz.ntmps49; go_wp2_with fail; refine ((HTR.out.1 _ (KeepT.refl _ _ _)).2.2 mb E _ it.ty (HMA.out _ HB1.out) HTK.out.expr HOK.out.ty.at).mono ?_; rintro e w2 ⟨rfl, hb2⟩; have HB2 : Hid _ := hb2; clear hb2; go_wp2_with fail; go_ret; exact ⟨ret_bool HE.out.symm, HFN.out _ HB2.out⟩
 ·have h1 : what = ⟨#[116, 97, 98, 108, 101]⟩ := by rw [hw2.2, hw]; rfl
  subst h1; obtain ⟨p12, p17, hp⟩ := HOK.out.table hw; simp only [Value.string.injEq] at hp; have HE : Hid (Wk.itemFits E it = ((it.policy == 12 || it.policy == 13 || it.ty.1 == 1) && it.rules.all (fun r => Wk.cellsFit E r.cells it.cols && Wk.outFits E it r.out))) := by
   show _ = _; unfold Wk.itemFits; rw [if_neg (by omega), if_neg (by omega)]
  obtain ⟨htk1, hty3⟩ := htk; have hpl : ∀ (l : List UInt8) (m : Nat), 12 ≤ m → m ≤ 17 → spellOf m = l → (p.toList == l) = (it.policy == m) := by
   intro l m h12 h17 hl; rw [Bool.eq_iff_iff, beq_iff_eq, beq_iff_eq, ByteArray.toList_eq, hp, ← hl]; constructor
   ·intro e; exact spell_inj ⟨it.policy, by omega⟩ ⟨m, by omega⟩ (by show 6 ≤ it.policy; omega) (by show 6 ≤ m; omega) e
   ·intro e; rw [e]
  have pU := hpl [117, 110, 105, 113, 117, 101] 12 (by decide) (by decide) rfl; have pF := hpl [102, 105, 114, 115, 116] 13 (by decide) (by decide) rfl; have pC := hpl [99, 111, 117, 110, 116] 15 (by decide) (by decide) rfl; clear hpl hp hw hw2; have hbi : ((tk : Int) != 105) = (it.ty.1 != 1) := by rw [htk1]; exact rk_i hty3
  clear htk1; have HHP : Hid (12 ≤ it.policy ∧ it.policy ≤ 17) := ⟨p12, p17⟩
  generalize hpk : it.policy = pk at *
  have HPK : Hid (it.policy = pk) := hpk; generalize hty : it.ty.1 = tyk at *
  have HTY : Hid (it.ty.1 = tyk) := hty; clear hpk hty p12 p17; have PC : Hid _ := pC; clear pC; go_enter Tryz.func49, Tryz.ntmps49; go_upto_region 5 with fail; generalize w.alloc (.cells #[.string ⟨#[116, 97, 98, 108, 101]⟩, .int .u8 nk, .string nt, .int .i64 na, .int .i64 at_, .int .u8 tk, .slice a1 n1 c1, .string eo, .string ex, .int .i64 en, .slice a2 n2 c2, .string p, .slice a3 n3 c3, .slice a4 n4 c4] 110) = W1 at *
  have k11 := bc 11 HX1.out rfl; have k5 := bc 5 HX1.out rfl; obtain ⟨okp, hokp⟩ : ∃ x, x = (pk == 12 || pk == 13 || tyk == 1) := ⟨_, rfl⟩
  go_cut [40] from 15 (fun v wc => v = .bool (!okp) ∧ wc = W1)
  case first =>
   by_cases q12 : pk = 12
   ·have d1 : (p.toList == [117, 110, 105, 113, 117, 101]) = true := by rw [pU, beq_iff_eq]; exact q12
    have HO : Hid (okp = true) := by rw [hokp, q12]; rfl
    clear pU pF hbi hokp; go_wp2_with fail; go_meet; exact ⟨by rw [HO.out]; rfl, rfl⟩
   ·have d1 : (p.toList == [117, 110, 105, 113, 117, 101]) = false := by rw [pU, beq_eq_false_iff_ne]; exact q12
    by_cases q13 : pk = 13
    ·have d2 : (p.toList == [102, 105, 114, 115, 116]) = true := by rw [pF, beq_iff_eq]; exact q13
     have HO : Hid (okp = true) := by rw [hokp, q13]; rfl
     clear pU pF hbi hokp; go_wp2_with fail; go_meet; exact ⟨by rw [HO.out]; rfl, rfl⟩
    ·have d2 : (p.toList == [102, 105, 114, 115, 116]) = false := by rw [pF, beq_eq_false_iff_ne]; exact q13
     have e12 : (pk == 12) = false := by rw [beq_eq_false_iff_ne]; exact q12
     have e13 : (pk == 13) = false := by rw [beq_eq_false_iff_ne]; exact q13
     have HO : Hid ((tyk != 1) = !okp) := by
      show _ = _; rw [hokp, e12, e13]; rfl
     clear pU pF hokp e12 e13; rw [HO.out] at hbi; go_wp2_with fail; all_goals
      go_meet; first
       | exact ⟨by simp_all, rfl⟩
       | exact ⟨by rw [hbi], rfl⟩
  case rest =>
   obtain ⟨rfl, hwc⟩ := hcut; rw [hwc]; clear hwc pU pF hbi; cases hok : okp with
   | false =>
    have HF : Hid (Wk.itemFits E it = false) := by
     show _ = _; rw [HE.out, ← hokp, hok]; rfl
    clear hokp hok; go_wp2_with fail; go_ret; exact ⟨ret_bool HF.out.symm, HB1.out⟩
   | true =>
    have HE2 : Hid (Wk.itemFits E it = it.rules.all (fun r => Wk.cellsFit E r.cells it.cols && Wk.outFits E it r.out)) := by
     show _ = _; rw [HE.out, ← hokp, hok]; rfl
    clear hokp hok HE k11 k5; obtain ⟨rs, hpr, hrow⟩ := HOK.out.rules; have hn4 : n4 = rs.length := by
     obtain ⟨ad', c', e', -⟩ := owns_slice hrow.1; simp only at e'; cases e'; rfl
    subst hn4; have HPR : Hid (Pairs (RR.ok lo hi W1) rs it.rules) := hpr; have HRR : Hid (W1.ownsRow lo 166 5 (.slice a4 rs.length c4) rs.length (RR.flat rs)) := hrow.1; have hmr : rs.length ≤ maxLen := by
     rcases hrow.1.2 with ⟨-, h0⟩ | ⟨g', cap', cur', e', -, -, h1, h2, -⟩
     ·rw [h0]; exact Nat.zero_le _
     ·exact Nat.le_trans h1 h2
    unfold maxLen at hmr; have hc4 : rs.length ≤ c4 := by
     obtain ⟨ad', c', e', h'⟩ := owns_slice hrow.1; cases e'; exact h'
    clear hpr hrow; obtain ⟨ls, hpl, hrow⟩ := HOK.out.cols; have hn3 : n3 = ls.length := by
     obtain ⟨ad', c', e', -⟩ := owns_slice hrow.1; simp only at e'; cases e'; rfl
    subst hn3; have HPC : Hid (Pairs LR.ok ls it.cols) := hpl; have HRC : Hid (W1.ownsRow lo 87 3 (.slice a3 ls.length c3) ls.length (LR.flat ls)) := hrow.1; have hc3 : ls.length ≤ c3 := by
     obtain ⟨ad', c', e', h'⟩ := owns_slice hrow.1; cases e'; exact h'
    have hml : ls.length ≤ maxLen := by
     rcases hrow.1.2 with ⟨-, h0⟩ | ⟨g', cap', cur', e', -, -, h1, h2, -⟩
     ·rw [h0]; exact Nat.zero_le _
     ·exact Nat.le_trans h1 h2
    unfold maxLen at hml; have HLC : Hid (ls.length = it.cols.length) := hpl.1; clear hpl hrow; have HTY1 : Hid (TyK W1 (.agg #[.int .u8 tk, .slice a1 n1 c1]) it.ty) := HOK.out.ty; have HTKK : Hid (tk = rk it.ty.1) := by
     obtain ⟨t1, t2, t3, ws, t4, t5⟩ := HOK.out.ty.at; simp at t4; show tk = _; omega
    clear HOK; go_wp2_with fail; go_loopg [5] rs.length (fun gk kv wr => ∃ k : Nat, kv = .int .i64 k ∧ gk + k = rs.length ∧ Hid (Below W1.heap.size W1 wr) ∧ Hid (Wk.itemFits E it = (it.rules.drop k).all (fun r => Wk.cellsFit E r.cells it.cols && Wk.outFits E it r.out)))
    case atStart => exact ⟨0, rfl, by omega, Below.refl _ _, HE2⟩
    case round =>
     obtain ⟨k, rfl, hgk, HBr, HAL⟩ := hrel; clear HE2; have hx := (HBr.out.block w.heap.size (lt_of_block HX1.out)).trans HX1.out; have k3 := bc 5 hx rfl; have k4 := bc 6 hx rfl; have k11 := bc 11 hx rfl; have k12 := bc 12 hx rfl; have k13 := bc 13 hx rfl; have hxl := lt_of_block hx; clear hx; by_cases hk : k < rs.length
     ·have HGK : Hid (gk + k = rs.length ∧ k < rs.length) := ⟨hgk, hk⟩
      have hk0 : (0 : Int) ≤ (k : Int) := by omega
      have hk1 : (k : Int) < (rs.length : Int) := by omega
      have hL := List.getElem?_eq_getElem hk; have hC := List.getElem?_eq_getElem (l := it.rules) (i := k) (by have := HPR.out.1; omega); have hok := HPR.out.2 k _ _ hL hC; have HST : Hid _ := all_step hC (fun r => Wk.cellsFit E r.cells it.cols && Wk.outFits E it r.out); have hXm := List.mem_of_getElem? hC; obtain ⟨gr, rfl, e0, e1, e2, e3, e4⟩ := rule_cell (owns_below HRR.out HBr.out) rfl hL; generalize (rs[k]'hk) = L at *
      generalize (it.rules[k]'_) = X at *
      obtain ⟨cs, hcp, hcrow⟩ := hok.1; obtain ⟨adc, ccc, hlcv, hcsc⟩ := owns_slice hcrow.1; obtain ⟨oT, xT, nT, adk, nkk, ckk, hlkv⟩ := hok.2.2.2; obtain ⟨lcv, lop, lx, lna, lkv⟩ := L; have hlkv2 : lkv = .slice adk nkk ckk := by
       unfold tree at hlkv; simp at hlkv; exact hlkv.2.2.2
      simp only at e0 e1 e2 e3 e4 hlcv hcrow; subst hlcv; subst hlkv2; have HTR : Hid (Tr lo hi W1 (tree lop lx lna (.slice adk nkk ckk)) X.out) := hok.2.1; have HCP : Hid (Pairs (CR.ok lo hi W1) cs X.cells) := hcp; have HCR : Hid (W1.ownsRow lo 171 2 (.slice adc cs.length ccc) cs.length (CR.flat cs)) := hcrow.1; have hmc : cs.length ≤ maxLen := by
       rcases hcrow.1.2 with ⟨-, h0⟩ | ⟨g', cap', cur', e', -, -, h1, h2, -⟩
       ·rw [h0]; exact Nat.zero_le _
       ·exact Nat.le_trans h1 h2
      unfold maxLen at hmc; have HLX : Hid (cs.length = ls.length) := by
       show _ = _; rw [hcp.1, HTK.out.len X hXm, HLC.out]
      have HKX : Hid (known E X.out.names) := HTK.out.outs X hXm; clear hL hC hok hXm hcp hcrow hlkv; go_upto_if 57 with fail; generalize hW3 : (wr.alloc (.cells #[.slice adc cs.length ccc, .string lop, .string lx, .int .i64 lna, .slice adk nkk ckk] 166)).alloc (.cells #[.int .u8 tk, .slice a1 n1 c1] 104) = W3; have HB3 : Hid (Below wr.heap.size wr W3) := by rw [← hW3]; exact two_bel wr _ _
      have HR3 : Hid (W3.heap[wr.heap.size]? = some (.cells #[.slice adc cs.length ccc, .string lop, .string lx, .int .i64 lna, .slice adk nkk ckk] 166 (0, 0))) := by
       rw [← hW3]; exact blk_alloc _ (heap_alloc_new _ _)
      have HV3 : Hid (W3.heap[wr.heap.size + 1]? = some (.cells #[.int .u8 tk, .slice a1 n1 c1] 104 (0, 0))) := by
       rw [← hW3]; have := heap_alloc_new (wr.alloc (.cells #[.slice adc cs.length ccc, .string lop, .string lx, .int .i64 lna, .slice adk nkk ckk] 166)) (.cells #[.int .u8 tk, .slice a1 n1 c1] 104); rw [sz_alloc] at this; exact this
      clear hW3; have HB13 : Hid (Below W1.heap.size W1 W3) := HBr.out.trans (HB3.out.mono HBr.out.size); clear e0 e1 e2 e3 e4 k3 k4 k11 k12 k13; have hz13 := HB13.out.size; have hzr := HBr.out.size; have hz3 : wr.heap.size + 1 < W3.heap.size := lt_of_block HV3.out; have hnr : wr.heap.size ≠ wr.heap.size + 1 := by omega
      have p11 := bc 11 ((HB13.out.block w.heap.size (lt_of_block HX1.out)).trans HX1.out) rfl; go_cut [] from 41 to 149 (fun wc => ∃ (tt : Wk.Ty) (ad : Option Addr) (n c : Nat), Hid (Below W1.heap.size W1 wc) ∧ Hid (wc.heap[wr.heap.size]? = some (.cells #[.slice adc cs.length ccc, .string lop, .string lx, .int .i64 lna, .slice adk nkk ckk] 166 (0, 0))) ∧
       Hid (wc.heap[wr.heap.size + 1]? = some (.cells #[.int .u8 (rk tt.1), .slice ad n c] 104 (0, 0))) ∧ Hid (TyAt wc (.agg #[.int .u8 (rk tt.1), .slice ad n c]) tt) ∧ Hid (Wk.outFits E it X.out = X.out.fits E tt))
      case first =>
       by_cases q15 : pk = 15
       ·have d1 : (p.toList == [99, 111, 117, 110, 116]) = true := by rw [PC.out, beq_iff_eq]; exact q15
        rw [d1]; have HOF : Hid (Wk.outFits E it X.out = ((X.out.own E).1 != 0 && X.out.fits E (X.out.own E))) := by
         show _ = _; unfold Wk.outFits; rw [if_pos (by rw [HPK.out]; exact q15)]
        clear q15; have r1 := bc 1 HR3.out rfl; have r2 := bc 2 HR3.out rfl; have r3 := bc 3 HR3.out rfl; have r4 := bc 4 HR3.out rfl; go_wp2_with fail; refine ((HTR.out W3 (KeepT.below HB13.out _ _)).2.1 mb E (HMA.out _ (HFN.out _ HB13.out)) HKX.out).mono ?_; rintro e w4 ⟨⟨tv4, rfl, ht4⟩, hb4⟩; have ht4' := ht4; obtain ⟨t1, t2, t3, ws4, rfl, t5⟩ := ht4; obtain ⟨ad4, cc4, rfl⟩ := t5.form; have v4 := (hb4.block _ hz3).trans HV3.out; have u4 := (hb4.block _ (by omega)).trans HR3.out; have y0 := bc 0 v4 rfl; have y1 := bc 1 v4 rfl; have yf := blk_free v4; have HV4 : Hid _ := v4; have HU4 : Hid _ := u4; have HB4 : Hid (Below W1.heap.size W1 w4) := HB13.out.trans (hb4.mono hz13); have HT4 : Hid (TyAt w4 (.agg #[.int .u8 (rk (X.out.own E).1), .slice ad4 ((X.out.own E).2.map quo).length cc4]) (X.out.own E)) := ht4'; clear v4 u4 hb4 ht4' t5 r1 r2 r3 r4; have hz4 : wr.heap.size + 1 < w4.heap.size := lt_of_block HV4.out; generalize hln : ((X.out.own E).2.map quo).length = ln at *
        clear hln; cases hzero : (X.out.own E).1 == 0 with
        | true =>
         have d0 : (X.out.own E).1 = 0 := by simpa using hzero
         have HF : Hid (Wk.itemFits E it = false) := by
          show _ = _; rw [HAL.out, HST.out]; rw [HOF.out, d0]; simp
         rw [d0]; clear d0 hzero; go_wp2_with fail; go_ret; refine ⟨ret_bool HF.out.symm, HFN.out _ ?_⟩; exact (HB4.out.setCell (by simp; omega) _).setCell (by simp; omega) _
        | false =>
         have d0 : ((rk (X.out.own E).1 : Int) == 0) = false := by
          rw [rk_zero t1]; simpa using hzero
         have HO2 : Hid (Wk.outFits E it X.out = X.out.fits E (X.out.own E)) := by
          show _ = _; rw [HOF.out]; have : ((X.out.own E).1 != 0) = true := by rw [bne, hzero]; rfl
          rw [this]; rfl
         have HV5 : Hid (((w4.setCell ⟨wr.heap.size + 1, 0, none⟩ (.int .u8 (rk (X.out.own E).1))).setCell ⟨wr.heap.size + 1, 1, none⟩ (.slice ad4 ln cc4)).heap[wr.heap.size + 1]? = some (.cells #[.int .u8 (rk (X.out.own E).1), .slice ad4 ln cc4] 104 (0, 0))) := by
          show _ = _; rw [blk_set _ (blk_set _ HV4.out)]; rfl
         have HU5 : Hid (((w4.setCell ⟨wr.heap.size + 1, 0, none⟩ (.int .u8 (rk (X.out.own E).1))).setCell ⟨wr.heap.size + 1, 1, none⟩ (.slice ad4 ln cc4)).heap[wr.heap.size]? = some (.cells #[.slice adc cs.length ccc, .string lop, .string lx, .int .i64 lna, .slice adk nkk ckk] 166 (0, 0))) := by
          show _ = _; rw [blk_other _ hnr, blk_other _ hnr]; exact HU4.out
         have HB5 : Hid (Below W1.heap.size W1 ((w4.setCell ⟨wr.heap.size + 1, 0, none⟩ (.int .u8 (rk (X.out.own E).1))).setCell ⟨wr.heap.size + 1, 1, none⟩ (.slice ad4 ln cc4))) := (HB4.out.setCell (by simp; omega) _).setCell (by simp; omega) _; have HT5 : Hid _ := HT4.out.set2 HV4.out (a' := (rk (X.out.own E).1 : Int)) (ad' := ad4) (n' := ln) (c' := cc4); clear hzero; go_wp2_with fail; go_meet; exact ⟨X.out.own E, ad4, ln, cc4, HB5, HU5, HV5, HT5, HO2⟩
       ·have d1 : (p.toList == [99, 111, 117, 110, 116]) = false := by rw [PC.out, beq_eq_false_iff_ne]; exact q15
        rw [d1]; have HOF : Hid (Wk.outFits E it X.out = X.out.fits E it.ty) := by
         show _ = _; unfold Wk.outFits; rw [if_neg (by rw [HPK.out]; exact q15)]
        have HV3' : Hid (W3.heap[wr.heap.size + 1]? = some (.cells #[.int .u8 (rk it.ty.1), .slice a1 n1 c1] 104 (0, 0))) := by
         rw [← HTKK.out]; exact HV3.out
        have HT3 : Hid (TyAt W3 (.agg #[.int .u8 (rk it.ty.1), .slice a1 n1 c1]) it.ty) := by
         rw [← HTKK.out]; exact HTY1.out W3 (Keep9.below HB13.out)
        clear q15; go_wp2_with fail; go_meet; exact ⟨it.ty, a1, n1, c1, HB13, HR3, HV3', HT3, HOF⟩
      case rest =>
       clear p11 HB3 HR3 HV3 HB13 hz13 hz3 PC; obtain ⟨W5, hW5⟩ : ∃ W, W = wc := ⟨_, rfl⟩
       subst hW5; obtain ⟨tt, ad5, n5, c5, HB5, HR5, HV5, HT5, HO5⟩ := hcut; have hz5 := HB5.out.size; have hr5 := lt_of_block HR5.out; have r1 := bc 1 HR5.out rfl; have r2 := bc 2 HR5.out rfl; have r3 := bc 3 HR5.out rfl; have r4 := bc 4 HR5.out rfl; have v0 := bc 0 HV5.out rfl; have v1 := bc 1 HV5.out rfl; generalize wr.heap.size = rb at *
       go_wp2_with fail; refine ((HTR.out W5 (KeepT.below HB5.out _ _)).2.2 mb E _ tt (HMA.out _ (HFN.out _ HB5.out)) HKX.out HT5.out).mono ?_; rintro e w6 ⟨rfl, hb6⟩; have HB6 : Hid (Below W1.heap.size W1 w6) := HB5.out.trans (hb6.mono hz5); have HR6 : Hid (w6.heap[rb]? = some (.cells #[.slice adc cs.length ccc, .string lop, .string lx, .int .i64 lna, .slice adk nkk ckk] 166 (0, 0))) := (hb6.block rb hr5).trans HR5.out; clear hb6 r1 r2 r3 r4 v0 v1 HB5 HR5 HV5 HT5 hr5 hz5; obtain ⟨of, hof⟩ : ∃ x, x = X.out.fits E tt := ⟨_, rfl⟩
       rw [← hof]; cases of with
       | false =>
        have HF : Hid (Wk.itemFits E it = false) := by
         show _ = _; rw [HAL.out, HST.out, HO5.out, ← hof]; simp
        clear hof; go_wp2_with fail; go_ret; exact ⟨ret_bool HF.out.symm, HFN.out _ HB6.out⟩
       | true =>
        have HA6 : Hid (Wk.itemFits E it = (Wk.cellsFit E X.cells it.cols && (it.rules.drop (k + 1)).all (fun r => Wk.cellsFit E r.cells it.cols && Wk.outFits E it r.out))) := by
         show _ = _; rw [HAL.out, HST.out, HO5.out, ← hof]; simp
        clear hof HAL HST HO5; generalize hRA : (it.rules.drop (k + 1)).all (fun r => Wk.cellsFit E r.cells it.cols && Wk.outFits E it r.out) = RA at *
        have HRA : Hid _ := hRA; clear hRA; obtain ⟨go, hgo⟩ : ∃ g : Nat, g = gk := ⟨_, rfl⟩
        subst hgo; go_wp2_with fail; go_loopg [9] cs.length (fun g1 jv wr => ∃ j : Nat, jv = .int .i64 j ∧ g1 + j = cs.length ∧ Hid (Below W1.heap.size W1 wr) ∧ Hid (wr.heap[rb]? = some (.cells #[.slice adc cs.length ccc, .string lop, .string lx, .int .i64 lna, .slice adk nkk ckk] 166 (0, 0))) ∧ Hid (Wk.itemFits E it = (Wk.cellsFit E (X.cells.drop j) (it.cols.drop j) && RA)))
        case atStart => exact ⟨0, rfl, by omega, HB6, HR6, HA6⟩
        case round =>
         obtain ⟨j, rfl, hgj, HBj, HRj, HAj⟩ := hrel; obtain ⟨wp, hwp⟩ : ∃ wp : World, wp = wr := ⟨_, rfl⟩
         subst hwp; clear HB6 HR6 HA6; have hx := (HBj.out.block w.heap.size (lt_of_block HX1.out)).trans HX1.out; have k12 := bc 12 hx rfl; have hxl2 := lt_of_block hx; clear hx; have r0 := bc 0 HRj.out rfl; have hrl := lt_of_block HRj.out; by_cases hj : j < cs.length
         ·have HGJ : Hid (gk + j = cs.length ∧ j < cs.length) := ⟨hgj, hj⟩
          have hj0 : (0 : Int) ≤ (j : Int) := by omega
          have hj1 : (j : Int) < (cs.length : Int) := by omega
          have hjl : j < ls.length := by have := HLX.out; omega
          have hj2 : (j : Int) < (ls.length : Int) := by omega
          have hL := List.getElem?_eq_getElem hj; have hC := List.getElem?_eq_getElem (l := X.cells) (i := j) (by have := HCP.out.1; omega); have hok := HCP.out.2 j _ _ hL hC; have hL2 := List.getElem?_eq_getElem hjl; have hC2 := List.getElem?_eq_getElem (l := it.cols) (i := j) (by have := HLC.out; omega); have hok2 := HPC.out.2 j _ _ hL2 hC2; have HST : Hid _ := cellsFit_step (E := E) hC hC2; have hkn := HTK.out.cols _ (List.mem_of_getElem? hC2); obtain ⟨gc, rfl, q0, q1⟩ := cellr_cell (owns_below HCR.out HBj.out) rfl hL; obtain ⟨gl, rfl, l1, l2⟩ := col_cell (owns_below HRC.out HBj.out) rfl hL2; generalize (cs[j]'hj) = C at *
          generalize (X.cells[j]'_) = D at *
          generalize (ls[j]'hjl) = L at *
          generalize (it.cols[j]'_) = Y at *
          obtain ⟨ts, htp, htrow⟩ := hok.2; obtain ⟨adt, cct, hlt, hct⟩ := owns_slice htrow.1; obtain ⟨cno, ctv⟩ := C; obtain ⟨lnk, lnt, lna2⟩ := L; obtain ⟨hnt, -⟩ := hok2; simp only at q0 q1 hlt htrow l1 hnt; subst hlt; subst hnt; have HTP : Hid (Pairs TR.ok ts D.tests) := htp; have HTRW : Hid (W1.ownsRow lo 173 9 (.slice adt ts.length cct) ts.length (TR.flat ts)) := htrow.1; have hmt : ts.length ≤ maxLen := by
           rcases htrow.1.2 with ⟨-, h0⟩ | ⟨g', cap', cur', e', -, -, h1, h2, -⟩
           ·rw [h0]; exact Nat.zero_le _
           ·exact Nat.le_trans h1 h2
          unfold maxLen at hmt; obtain ⟨ib, capm, jj, ad7, ln7, c7, m0, hcap, hjj, hE, i5, i6, ht7, hf7⟩ := own_name_find (HMA.out _ (HFN.out _ HBj.out)) (x := ⟨Y.1.toArray⟩) hkn; have HT7 : Hid (TyAt wp (.agg #[.int .u8 (rk (Wk.tyOf E Y.1).1), .slice ad7 ln7 c7]) (Wk.tyOf E Y.1)) := ht7; have i5 : wp.cell? ⟨ib, jj * 14 + 5, none⟩ = some (.int .u8 (rk (Wk.tyOf E Y.1).1)) := i5; have HF7 : Hid _ := hf7; clear ht7 hf7 hok hL hC hL2 hC2 hkn htp htrow q0 l2; generalize Wk.tyOf E Y.1 = t7 at *
          have hs1 := cell_lt m0; have hs2 := cell_lt i5; have hs3 := cell_lt l1; have hs4 := cell_lt q1; have hjj0 : (0 : Int) ≤ (jj : Int) := by omega
          have hjj1 : (jj : Int) < (E.length : Int) := by omega
          have HSA : Hid (∀ w', Below wp.heap.size wp w' → w'.cell? ⟨mb, 0, none⟩ = some (.slice (some ⟨ib, 0, none⟩) E.length capm) ∧ w'.cell? ⟨w.heap.size, 12, none⟩ = some (.slice (some ⟨gl, 0, none⟩) ls.length c3) ∧ w'.cell? ⟨gl, j * 3 + 1, none⟩ = some (.string ⟨Y.1.toArray⟩) ∧ w'.cell? ⟨ib, jj * 14 + 5, none⟩ = some (.int .u8 (rk t7.1)) ∧ w'.cell? ⟨ib, jj * 14 + 6, none⟩ = some (.slice ad7 ln7 c7)) := fun w' hb => ⟨(hb.cell (p := ⟨mb, 0, none⟩) hs1).trans m0, (hb.cell (p := ⟨w.heap.size, 12, none⟩) hxl2).trans k12, (hb.cell (p := ⟨gl, _, none⟩) hs3).trans l1, (hb.cell (p := ⟨ib, _, none⟩) hs2).trans i5, (hb.cell (p := ⟨ib, _, none⟩) hs2).trans i6⟩
          have HBA : Hid (∀ o, Below wp.heap.size wp (wp.drew.alloc o)) := fun o => (Below.refl _ _).drew.alloc (Nat.le_refl _) o
          have HQ1 : Hid (wp.cell? ⟨gc, j * 2 + 1, none⟩ = some (.slice adt ts.length cct) ∧ gc < wp.heap.size) := ⟨q1, hs4⟩
          clear m0 i5 i6 l1 k12 q1; go_upto_region 22 with fail; go_cut [10] from 72 to 149 (fun v wx => ∃ bx, v = .pointer (some ⟨bx, 0, none⟩) ∧ Hid (Below wp.heap.size wp wx) ∧ Hid (wx.heap[bx]? = some (.cells #[.int .u8 (rk t7.1), .slice ad7 ln7 c7] 104 (0, 0))))
          case first =>
           refine wp_region_ph (fun w' => w'.cell? ⟨mb, 0, none⟩ = some (.slice (some ⟨ib, 0, none⟩) E.length capm) ∧ w'.cell? ⟨w.heap.size, 12, none⟩ = some (.slice (some ⟨gl, 0, none⟩) ls.length c3) ∧ w'.cell? ⟨gl, j * 3 + 1, none⟩ = some (.string ⟨Y.1.toArray⟩) ∧ w'.cell? ⟨ib, jj * 14 + 5, none⟩ = some (.int .u8 (rk t7.1)) ∧ w'.cell? ⟨ib, jj * 14 + 6, none⟩ = some (.slice ad7 ln7 c7)) 21 22 rfl (by kernel_rfl) (HSA.out _ (Below.refl _ _).drew) (fun hHeld => ?_); have HS : Hid _ := hHeld; clear hHeld; refine PhS.t 0 79 HS.out ?_; refine PhS.t 1 80 HS.out ?_; refine PhS.t 2 81 HS.out ?_; refine PhS.t 3 82 HS.out ?_; refine PhS.t 4 83 HS.out ?_; refine PhS.t 5 84 HS.out ?_; refine PhS.t 6 85 HS.out ?_; refine PhS.t 7 86 HS.out ?_; refine PhS.t 8 87 HS.out ?_; refine PhS.t 9 88 HS.out ?_; refine PhS.t 10 89 HS.out ?_; refine PhS.t 11 90 HS.out ?_; refine PhS.t 12 91 HS.out ?_; refine PhS.t 13 92 HS.out ?_; refine PhS.t 14 93 HS.out ?_; refine PhS.t 15 94 HS.out ?_; refine PhS.twoL (i := 16) (j := 20) (by kernel_rfl) rfl rfl (fun K hK => ?_) (fun K hK => ?_)
           ·go_simp; refine (HF7.out _ (Below.refl _ _).drew).mono ?_; rintro e w8 ⟨rfl, rfl⟩; refine hK.out _ _ (fun _ => HS.out) ?_; clear hK K; refine PhS.t 17 96 HS.out ?_; refine PhS.t 18 97 HS.out ?_; refine PhS.t 19 98 HS.out ?_; refine PhS.on 20 (fun K hK => ?_); go_simp; refine hK.out _ _ (fun _ => HSA.out _ (HBA.out _)) ?_; clear hK K; refine PhS.on 21 (fun K hK => ?_); go_simp; refine hK.out _ _ (fun h => absurd h (by decide)) ?_; clear hK K; refine PhS.done (by kernel_rfl) ?_ _; go_wp2_with fail; go_meet; exact ⟨_, rfl, HBA.out _, heap_alloc_new _ _⟩
           ·go_simp; refine hK.out _ _ (fun _ => HSA.out _ (HBA.out _)) ?_; clear hK K; refine PhS.on 16 (fun K hK => ?_); go_simp; refine (HF7.out _ (HBA.out _)).mono ?_; rintro e w8 ⟨rfl, rfl⟩; refine hK.out _ _ (fun _ => HSA.out _ (HBA.out _)) ?_; clear hK K; have HS2 : Hid _ := HSA.out _ (HBA.out (.cells #[.int .u8 0, .slice none 0 0] 104)); refine PhS.t 17 96 HS2.out ?_; refine PhS.t 18 97 HS2.out ?_; refine PhS.t 19 98 HS2.out ?_; refine PhS.on 21 (fun K hK => ?_); go_simp; refine hK.out _ _ (fun h => absurd h (by decide)) ?_; clear hK K; refine PhS.done (by kernel_rfl) ?_ _; go_wp2_with fail; go_meet; exact ⟨_, rfl, HBA.out _, heap_alloc_new _ _⟩
          case rest =>
           obtain ⟨W8, hW8⟩ : ∃ W, W = wc := ⟨_, rfl⟩
           subst hW8; obtain ⟨bx, rfl, HB8, HX8⟩ := hcut; have HBa : Hid (Below W1.heap.size W1 W8) := HBj.out.trans (HB8.out.mono HBj.out.size); have HRa : Hid _ := (HB8.out.block rb hrl).trans HRj.out; have HTa : Hid (TyAt W8 (.agg #[.int .u8 (rk t7.1), .slice ad7 ln7 c7]) t7) := TyAt.below HT7.out HB8.out; have HQa : Hid (W8.cell? ⟨gc, j * 2 + 1, none⟩ = some (.slice adt ts.length cct)) := (HB8.out.cell (p := ⟨gc, _, none⟩) HQ1.out.2).trans HQ1.out.1; have HAa : Hid (Wk.itemFits E it = (D.tests.all (Wk.testFits t7) && (Wk.cellsFit E (X.cells.drop (j + 1)) (it.cols.drop (j + 1)) && RA))) := by
            show _ = _; rw [HAj.out, HST.out, Bool.and_assoc]
           have HT73 : Hid (t7.1 ≤ 3) := HT7.out.1; clear HAj HST HSA HF7 HB8 HT7 HQ1 HBj HRj HBA r0 hrl hs1 hs2 hs3 hs4 hxl2; generalize hRB : (Wk.cellsFit E (X.cells.drop (j + 1)) (it.cols.drop (j + 1)) && RA) = RB at *
           have HRB : Hid _ := hRB; clear hRB; obtain ⟨g2, hg2⟩ : ∃ g : Nat, g = gk := ⟨_, rfl⟩
           subst hg2; go_wp2_with fail; go_loopg [11] ts.length (fun g3 mv wr => ∃ m : Nat, mv = .int .i64 m ∧ g3 + m = ts.length ∧ Hid (Below W8.heap.size W8 wr) ∧ Hid (Wk.itemFits E it = ((D.tests.drop m).all (Wk.testFits t7) && RB)))
           case atStart => exact ⟨0, rfl, by omega, Below.refl _ _, HAa⟩
           case round =>
            obtain ⟨m, rfl, hgm, HBm, HAm⟩ := hrel; obtain ⟨wq, hwq⟩ : ∃ wq : World, wq = wr := ⟨_, rfl⟩
            subst hwq; clear HAa; have HRq : Hid _ := (HBm.out.block rb (lt_of_block HRa.out)).trans HRa.out; have r0 := bc 0 HRq.out rfl; have q1 := (HBm.out.cell (p := ⟨gc, _, none⟩) (cell_lt HQa.out)).trans HQa.out; have HXq : Hid _ := (HBm.out.block bx (lt_of_block HX8.out)).trans HX8.out; have y0 := bc 0 HXq.out rfl; have y1 := bc 1 HXq.out rfl; have HBq : Hid (Below W1.heap.size W1 wq) := HBa.out.trans (HBm.out.mono HBa.out.size); by_cases hm : m < ts.length
            ·have HGM : Hid (gk + m = ts.length ∧ m < ts.length) := ⟨hgm, hm⟩
             have hm0 : (0 : Int) ≤ (m : Int) := by omega
             have hm1 : (m : Int) < (ts.length : Int) := by omega
             have hL := List.getElem?_eq_getElem hm; have hC := List.getElem?_eq_getElem (l := D.tests) (i := m) (by have := HTP.out.1; omega); have hok := HTP.out.2 m _ _ hL hC; have HS3 : Hid _ := all_step hC (Wk.testFits t7); obtain ⟨gt, rfl, e0, e1, e2, e3, e4, e5, e6, e7, e8⟩ := testr_cell (owns_below HTRW.out HBq.out) rfl hL; generalize (ts[m]'hm) = Z at *
             generalize (D.tests[m]'_) = x at *
             obtain ⟨zo, zo1, zx1, zn1, zo2, zx2, zn2⟩ := Z; unfold TR.ok testOK at hok; obtain ⟨hop3, hop, hse1, hse2⟩ := hok; simp only at e0 e1 e2 e3 e5 e6 e7 hop hse1 hse2; have HOP : Hid (zo = opText x.op) := hop; have HO3 : Hid (x.op ≤ 3) := hop3; have HSE1 : Hid _ := hse1; have HSE2 : Hid _ := hse2; clear hL hC hop hop3 hse1 hse2; go_upto_region 27 with fail; generalize hW9 : wq.alloc (.cells #[.string zo, .string zo1, .string zx1, .int .i64 zn1, .slice none 0 0, .string zo2, .string zx2, .int .i64 zn2, .slice none 0 0] 173) = W9; have HB9 : Hid (Below wq.heap.size wq W9) := by rw [← hW9]; exact (Below.refl _ _).alloc (Nat.le_refl _) _
             have HZ9 : Hid (W9.heap[wq.heap.size]? = some (.cells #[.string zo, .string zo1, .string zx1, .int .i64 zn1, .slice none 0 0, .string zo2, .string zx2, .int .i64 zn2, .slice none 0 0] 173 (0, 0))) := by rw [← hW9]; exact heap_alloc_new _ _
             have HX9 : Hid _ := (HB9.out.block bx (lt_of_block HXq.out)).trans HXq.out; have HBW9 : Hid (Below W1.heap.size W1 W9) := HBq.out.trans (HB9.out.mono HBq.out.size); have HT9 : Hid (TyAt W9 (.agg #[.int .u8 (rk t7.1), .slice ad7 ln7 c7]) t7) := TyAt.below (TyAt.below HTa.out HBm.out) HB9.out; have HB89 : Hid (Below W8.heap.size W8 W9) := HBm.out.trans (HB9.out.mono HBm.out.size); clear hW9 e0 e1 e2 e3 e4 e5 e6 e7 e8 y0 y1 r0 q1; have z1 := bc 1 HZ9.out rfl; have z2 := bc 2 HZ9.out rfl; have z3 := bc 3 HZ9.out rfl; have z4 := bc 4 HZ9.out rfl; have y0 := bc 0 HX9.out rfl; have y1 := bc 1 HX9.out rfl; go_wp2_with fail; refine ((HSE1.out W9 W9 (KeepT.refl _ _ _)).2.2 mb E _ t7 (HMA.out _ (HFN.out _ HBW9.out)) (fun _ h => by cases h) HT9.out).mono ?_; rintro e w10 ⟨rfl, hb10⟩; have HZ10 : Hid _ := (hb10.block wq.heap.size (lt_of_block HZ9.out)).trans HZ9.out; have HX10 : Hid _ := (hb10.block bx (lt_of_block HX9.out)).trans HX9.out; have HB10 : Hid (Below W1.heap.size W1 w10) := HBW9.out.trans (hb10.mono HBW9.out.size); have HT10 : Hid (TyAt w10 (.agg #[.int .u8 (rk t7.1), .slice ad7 ln7 c7]) t7) := TyAt.below HT9.out hb10; have HB810 : Hid (Below W8.heap.size W8 w10) := HB89.out.trans (hb10.mono HB89.out.size); clear z1 z2 z3 z4 y0 y1 hb10 HZ9 HX9 HT9; obtain ⟨b1, hb1⟩ : ∃ b, b = (Wk.semVal x.a).fits E t7 := ⟨_, rfl⟩
             rw [← hb1]; have HB1 : Hid (Wk.holds t7 x.a = b1) := hb1.symm; clear hb1; have z0 := bc 0 HZ10.out rfl; have z5 := bc 5 HZ10.out rfl; have z6 := bc 6 HZ10.out rfl; have z7 := bc 7 HZ10.out rfl; have z8 := bc 8 HZ10.out rfl; have y0 := bc 0 HX10.out rfl; have y1 := bc 1 HX10.out rfl; go_upto_region 28 with fail; go_cut [14] from 99 to 149 (fun v wc => v = .bool (x.op != 3 || Wk.holds t7 x.b) ∧ Hid (Below w10.heap.size w10 wc))
             case first =>
              rcases (by have := HO3.out; omega : x.op = 0 ∨ x.op = 1 ∨ x.op = 2 ∨ x.op = 3) with q | q | q | q
              ·have hzo : zo = ⟨#[61]⟩ := by rw [HOP.out, q]; rfl
               subst hzo; have HV : Hid ((x.op != 3 || Wk.holds t7 x.b) = true) := by
                show _ = _; rw [q]; rfl
               clear q; go_wp2_with fail; go_meet; exact ⟨by rw [HV.out], Below.refl _ _⟩
              ·have hzo : zo = ⟨#[60]⟩ := by rw [HOP.out, q]; rfl
               subst hzo; have HV : Hid ((x.op != 3 || Wk.holds t7 x.b) = true) := by
                show _ = _; rw [q]; rfl
               clear q; go_wp2_with fail; go_meet; exact ⟨by rw [HV.out], Below.refl _ _⟩
              ·have hzo : zo = ⟨#[62]⟩ := by rw [HOP.out, q]; rfl
               subst hzo; have HV : Hid ((x.op != 3 || Wk.holds t7 x.b) = true) := by
                show _ = _; rw [q]; rfl
               clear q; go_wp2_with fail; go_meet; exact ⟨by rw [HV.out], Below.refl _ _⟩
              ·have hzo : zo = ⟨#[91]⟩ := by rw [HOP.out, q]; rfl
               subst hzo; have HV : Hid ((x.op != 3 || Wk.holds t7 x.b) = Wk.holds t7 x.b) := by
                show _ = _; rw [q]; rfl
               have HS2 : Hid _ := HSE2.out q; clear q; go_wp2_with fail; refine ((HS2.out w10 w10 (KeepT.refl _ _ _)).2.2 mb E _ t7 (HMA.out _ (HFN.out _ HB10.out)) (fun _ h => by cases h) HT10.out).mono ?_; rintro e w11 ⟨rfl, hb11⟩; have HB11 : Hid _ := hb11; clear hb11; go_wp2_with fail; go_meet; exact ⟨by rw [HV.out]; rfl, HB11⟩
             case rest =>
              obtain ⟨W11, hW11⟩ : ∃ W, W = wc := ⟨_, rfl⟩
              subst hW11; obtain ⟨hv, HB11⟩ := hcut; subst hv; have HZ11 : Hid _ := (HB11.out.block wq.heap.size (lt_of_block HZ10.out)).trans HZ10.out; have HX11 : Hid _ := (HB11.out.block bx (lt_of_block HX10.out)).trans HX10.out; have HBW11 : Hid (Below W1.heap.size W1 W11) := HB10.out.trans (HB11.out.mono HB10.out.size); have HB811 : Hid (Below W8.heap.size W8 W11) := HB810.out.trans (HB11.out.mono HB810.out.size); clear z0 z5 z6 z7 z8 y0 y1 HZ10 HX10 HT10 HB810 HB11; have z0 := bc 0 HZ11.out rfl; have y0 := bc 0 HX11.out rfl; generalize hb2 : (x.op != 3 || Wk.holds t7 x.b) = b2; have HTF : Hid (Wk.testFits t7 x = ((x.op == 0 || t7.1 == 1) && (b1 && b2))) := by
               show _ = _; unfold Wk.testFits; rw [HB1.out, hb2]
              clear hb2; go_upto_region 29 with fail; go_cut [149] from 99 (fun v wc => v = .bool (!Wk.testFits t7 x) ∧ wc = W11)
              case first =>
               cases b1 with
               | false =>
                have HV : Hid (Wk.testFits t7 x = false) := by
                 show _ = _; rw [HTF.out]; simp
                go_wp2_with fail; go_meet; exact ⟨by rw [HV.out]; rfl, rfl⟩
               | true =>
                cases b2 with
                | false =>
                 have HV : Hid (Wk.testFits t7 x = false) := by
                  show _ = _; rw [HTF.out]; simp
                 go_wp2_with fail; go_meet; exact ⟨by rw [HV.out]; rfl, rfl⟩
                | true =>
                 rcases (by have := HO3.out; omega : x.op = 0 ∨ x.op = 1 ∨ x.op = 2 ∨ x.op = 3) with q | q | q | q
                 ·have hzo : zo = ⟨#[61]⟩ := by rw [HOP.out, q]; rfl
                  subst hzo; have HV : Hid (Wk.testFits t7 x = true) := by
                   show _ = _; rw [HTF.out, q]; rfl
                  clear q; go_wp2_with fail; go_meet; exact ⟨by rw [HV.out]; rfl, rfl⟩
                 ·have hzo : zo = ⟨#[60]⟩ := by rw [HOP.out, q]; rfl
                  subst hzo; have HV : Hid (Wk.testFits t7 x = (t7.1 == 1)) := by
                   show _ = _; rw [HTF.out, q]; simp
                  clear q; cases h1 : (t7.1 == 1) with
                  | true =>
                   have hk7 : ((rk t7.1 : Int) != 105) = false := by rw [rk_i HT73.out, bne, h1]; rfl
                   have HV2 : Hid (Wk.testFits t7 x = true) := HV.out.trans h1; clear h1 HV; go_wp2_with fail; all_goals
                    go_meet; refine ⟨?_, rfl⟩; rw [HV2.out]; first
                     | rfl
                     | (rw [hk7]; rfl)
                     | (rename_i hz; rw [hk7] at hz; cases hz)
                  | false =>
                   have hk7 : ((rk t7.1 : Int) != 105) = true := by rw [rk_i HT73.out, bne, h1]; rfl
                   have HV2 : Hid (Wk.testFits t7 x = false) := HV.out.trans h1; clear h1 HV; go_wp2_with fail; all_goals
                    go_meet; refine ⟨?_, rfl⟩; rw [HV2.out]; first
                     | rfl
                     | (rw [hk7]; rfl)
                     | (rename_i hz; rw [hk7] at hz; cases hz)
                 ·have hzo : zo = ⟨#[62]⟩ := by rw [HOP.out, q]; rfl
                  subst hzo; have HV : Hid (Wk.testFits t7 x = (t7.1 == 1)) := by
                   show _ = _; rw [HTF.out, q]; simp
                  clear q; cases h1 : (t7.1 == 1) with
                  | true =>
                   have hk7 : ((rk t7.1 : Int) != 105) = false := by rw [rk_i HT73.out, bne, h1]; rfl
                   have HV2 : Hid (Wk.testFits t7 x = true) := HV.out.trans h1; clear h1 HV; go_wp2_with fail; all_goals
                    go_meet; refine ⟨?_, rfl⟩; rw [HV2.out]; first
                     | rfl
                     | (rw [hk7]; rfl)
                     | (rename_i hz; rw [hk7] at hz; cases hz)
                  | false =>
                   have hk7 : ((rk t7.1 : Int) != 105) = true := by rw [rk_i HT73.out, bne, h1]; rfl
                   have HV2 : Hid (Wk.testFits t7 x = false) := HV.out.trans h1; clear h1 HV; go_wp2_with fail; all_goals
                    go_meet; refine ⟨?_, rfl⟩; rw [HV2.out]; first
                     | rfl
                     | (rw [hk7]; rfl)
                     | (rename_i hz; rw [hk7] at hz; cases hz)
                 ·have hzo : zo = ⟨#[91]⟩ := by rw [HOP.out, q]; rfl
                  subst hzo; have HV : Hid (Wk.testFits t7 x = (t7.1 == 1)) := by
                   show _ = _; rw [HTF.out, q]; simp
                  clear q; cases h1 : (t7.1 == 1) with
                  | true =>
                   have hk7 : ((rk t7.1 : Int) != 105) = false := by rw [rk_i HT73.out, bne, h1]; rfl
                   have HV2 : Hid (Wk.testFits t7 x = true) := HV.out.trans h1; clear h1 HV; go_wp2_with fail; all_goals
                    go_meet; refine ⟨?_, rfl⟩; rw [HV2.out]; first
                     | rfl
                     | (rw [hk7]; rfl)
                     | (rename_i hz; rw [hk7] at hz; cases hz)
                  | false =>
                   have hk7 : ((rk t7.1 : Int) != 105) = true := by rw [rk_i HT73.out, bne, h1]; rfl
                   have HV2 : Hid (Wk.testFits t7 x = false) := HV.out.trans h1; clear h1 HV; go_wp2_with fail; all_goals
                    go_meet; refine ⟨?_, rfl⟩; rw [HV2.out]; first
                     | rfl
                     | (rw [hk7]; rfl)
                     | (rename_i hz; rw [hk7] at hz; cases hz)
              case rest =>
               obtain ⟨hv, hwc⟩ := hcut; subst hv; subst hwc; clear HTF; obtain ⟨tf, htf⟩ : ∃ b, b = Wk.testFits t7 x := ⟨_, rfl⟩
               rw [← htf]; cases tf with
               | false =>
                have HF : Hid (Wk.itemFits E it = false) := by
                 show _ = _; rw [HAm.out, HS3.out, ← htf]; rfl
                clear htf; go_wp2_with fail; go_ret; exact ⟨ret_bool HF.out.symm, HFN.out _ HBW11.out⟩
               | true =>
                have HF : Hid (Wk.itemFits E it = ((D.tests.drop (m + 1)).all (Wk.testFits t7) && RB)) := by
                 show _ = _; rw [HAm.out, HS3.out, ← htf]; rfl
                clear htf; go_wp2_with fail; go_roundg (gk - 1); case measure =>
                 have := HGM.out; omega
                case rel => exact ⟨m + 1, by go_num, by have := HGM.out; omega, HB811, HF⟩
            ·have hm1 : ¬ (m : Int) < (ts.length : Int) := by omega
             have HF : Hid (Wk.itemFits E it = (Wk.cellsFit E (X.cells.drop (j + 1)) (it.cols.drop (j + 1)) && RA)) := by
              show _ = _; rw [HAm.out, List.drop_eq_nil_of_le (by have := HTP.out.1; omega), HRB.out]; rfl
             go_wp2_with fail; go_roundg (g2 - 1); case measure =>
              have := HGJ.out; omega
             case rel => exact ⟨j + 1, by go_num, by have := HGJ.out; omega, HBq, HRq, HF⟩
         ·have hj1 : ¬ (j : Int) < (cs.length : Int) := by omega
          have HF : Hid (Wk.itemFits E it = RA) := by
           show _ = _; rw [HAj.out, List.drop_eq_nil_of_le (by have := HCP.out.1; omega)]; simp [Wk.cellsFit]
          have HA21 : Hid (Wk.itemFits E it = (it.rules.drop (k + 1)).all (fun r => Wk.cellsFit E r.cells it.cols && Wk.outFits E it r.out)) := by
           rw [HRA.out]; exact HF.out
          clear HF; go_wp2_with fail; go_roundg (go - 1); case measure =>
           have := HGK.out; omega
          case rel => exact ⟨k + 1, by go_num, by have := HGK.out; omega, HBj, HA21⟩
     ·have hk1 : ¬ (k : Int) < (rs.length : Int) := by omega
      have HF : Hid (Wk.itemFits E it = true) := by
       show _ = _; rw [HAL.out, List.drop_eq_nil_of_le (by have := HPR.out.1; omega)]; rfl
      go_wp2_with fail; go_ret; exact ⟨ret_bool HF.out.symm, HFN.out _ HBr.out⟩
end Go.Proofs.YtbkaghlklkdmkaaGreatDoor
