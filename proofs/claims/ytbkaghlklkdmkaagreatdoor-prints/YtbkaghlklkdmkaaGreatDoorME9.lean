/-
  The parser of the document's answer: a test.
-/
import Derived.Test.YtbkaghlklkdmkaaGreatDoorME8
set_option maxRecDepth 100000
set_option maxHeartbeats 8000000
namespace Go.Proofs.YtbkaghlklkdmkaaGreatDoor
open Go.RowKit
section
variable {B : Nat} {s : ByteArray} {T : List Wk.Tok}
def LeafSem (t : Value) (S : Wk.Sem) : Prop := ∀ w, Tr 0 0 w t S
theorem leafSem (hQ : Quoted T) {v : Wk.PVal} {t : Value} (h : valTree (T := T) v t) : LeafSem t (Wk.semVal v) := fun w => by
 obtain ⟨_, _, _, _, k⟩ := tr_val hQ h 0 0 w; exact k
def opText (n : Nat) : ByteArray := if n = 0 then ⟨#[61]⟩ else if n = 1 then ⟨#[60]⟩ else if n = 2 then ⟨#[62]⟩ else ⟨#[91]⟩
def testV (o o1 x1 : ByteArray) (n1 : Nat) (o2 x2 : ByteArray) (n2 : Nat) : Value := .agg #[.string o, .string o1, .string x1, .int .i64 n1, .slice none 0 0, .string o2, .string x2, .int .i64 n2, .slice none 0 0]
def testOK (t : Wk.PTest) (o o1 x1 : ByteArray) (n1 : Nat) (o2 x2 : ByteArray) (n2 : Nat) : Prop :=
 t.op ≤ 3 ∧ o = opText t.op ∧ LeafSem (leaf o1 x1 n1) (Wk.semVal t.a) ∧ (t.op = 3 → LeafSem (leaf o2 x2 n2) (Wk.semVal t.b))
def testEnd (r : Wk.St × Wk.PTest) (e : Ending) : Prop :=
 ∃ (o o1 x1 : ByteArray) (n1 : Nat) (o2 x2 : ByteArray) (n2 : Nat), e = .returned (testV o o1 x1 n1 o2 x2 n2) ∧ (r.1.bad = none → testOK r.2 o o1 x1 n1 o2 x2 n2)
theorem val_state (q : Wk.St) : (if isVal T q then valueS T q else (valueS T q).fail T) = (Wk.pValue T q).1 := by
 unfold valueS; cases hV : isVal T q with
 | true => rfl
 | false =>
  simp only [Bool.false_eq_true, if_false]; cases hb : q.bad with
  | some p => rw [Wk.fail_bad T (by rw [hb]; rfl), Wk.pValue_bad T (by rw [hb]; rfl)]
  | none =>
   have hz : ∀ kd, kd ∈ [28, 3, 5, 18, 19] → q.isK T kd = false := by
    intro kd hk; cases hx : q.isK T kd with
    | false => rfl
    | true =>
     have e := Wk.isK_iff.1 hx; have : isVal T q = true := Wk.isIn_iff.2 ⟨e.1, by rw [e.2]; exact hk⟩; rw [this] at hV; cases hV
   unfold Wk.pValue; rw [hz 28 (by decide), hz 3 (by decide), hz 5 (by decide), hz 18 (by decide)]; simp [Wk.St.want, hz 19 (by decide)]
theorem val_yes {q : Wk.St} (h : (Wk.pValue T q).1.bad = none) : isVal T q = true := by
 cases hV : isVal T q with
 | true => rfl
 | false =>
  have h1 := val_state (T := T) q; rw [hV] at h1; simp only [Bool.false_eq_true, if_false] at h1; rw [← h1] at h; have h2 := fail_some (T := T) (valueS T q); rw [h] at h2; cases h2
theorem IN.xbox {w0 w : World} {b : Nat} {q : Wk.St} {nest : Int} (h : IN B s T w0 w b q nest) {k : Nat} {cs : Array Value} (hk : w0.heap[k]? = some (.cells cs 173 (0, 0))) : w.heap[k]? = some (.cells cs 173 (0, 0)) := h.box hk (by decide) (by decide)
theorem IN.xset {w0 w : World} {b : Nat} {q : Wk.St} {nest : Int} (h : IN B s T w0 w b q nest) {k o : Nat} {cs : Array Value} (hk : w.heap[k]? = some (.cells cs 173 (0, 0))) (h0 : w0.heap.size ≤ k) (v : Value) : IN B s T w0 (w.setCell ⟨k, o, none⟩ v) b q nest := h.set hk (by decide) (by decide) h0 v
theorem IN.xset4 {w0 w : World} {b : Nat} {q : Wk.St} {nest : Int} (h : IN B s T w0 w b q nest) {k o : Nat} {cs : Array Value} (hk : w.heap[k]? = some (.cells cs 173 (0, 0))) (h0 : w0.heap.size ≤ k) (v0 v1 v2 v3 : Value) :
  IN B s T w0 ((((w.setCell ⟨k, o, none⟩ v0).setCell ⟨k, o + 1, none⟩ v1).setCell ⟨k, o + 2, none⟩ v2).setCell ⟨k, o + 3, none⟩ v3) b q nest :=
 (((h.xset hk h0 v0).xset (blk_set _ hk) h0 v1).xset (blk_set _ (blk_set _ hk)) h0 v2).xset (blk_set _ (blk_set _ (blk_set _ hk))) h0 v3
theorem IN.xset9 {w0 w : World} {b : Nat} {q : Wk.St} {nest : Int} (h : IN B s T w0 w b q nest) {k : Nat} {cs : Array Value} (hk : w.heap[k]? = some (.cells cs 173 (0, 0))) (h0 : w0.heap.size ≤ k) (v0 v1 v2 v3 v4 v5 v6 v7 v8 : Value) :
  IN B s T w0 (((((((((w.setCell ⟨k, 0, none⟩ v0).setCell ⟨k, 1, none⟩ v1).setCell ⟨k, 2, none⟩ v2).setCell ⟨k, 3, none⟩ v3).setCell ⟨k, 4, none⟩ v4).setCell ⟨k, 5, none⟩ v5).setCell ⟨k, 6, none⟩ v6).setCell ⟨k, 7, none⟩ v7).setCell ⟨k, 8, none⟩ v8) b q nest :=
 ((((((h.xset4 (o := 0) hk h0 v0 v1 v2 v3).xset4 (o := 4) (blk_set _ (blk_set _ (blk_set _ (blk_set _ hk)))) h0 v4 v5 v6 v7).xset (blk_set _ (blk_set _ (blk_set _ (blk_set _ (blk_set _ (blk_set _ (blk_set _ (blk_set _ hk)))))))) h0 v8))))
theorem cells9 {w : World} {k : Nat} {v0 v1 v2 v3 v4 v5 v6 v7 v8 : Value} {t : TypeId} (h : w.heap[k]? = some (.cells #[v0, v1, v2, v3, v4, v5, v6, v7, v8] t (0, 0))) :
  w.cell? ⟨k, 0, none⟩ = some v0 ∧ w.cell? ⟨k, 1, none⟩ = some v1 ∧ w.cell? ⟨k, 2, none⟩ = some v2 ∧ w.cell? ⟨k, 3, none⟩ = some v3 ∧ w.cell? ⟨k, 4, none⟩ = some v4 ∧ w.cell? ⟨k, 5, none⟩ = some v5 ∧ w.cell? ⟨k, 6, none⟩ = some v6 ∧ w.cell? ⟨k, 7, none⟩ = some v7 ∧ w.cell? ⟨k, 8, none⟩ = some v8 ∧ (∀ o, w.frozen? ⟨k, o, none⟩ = false) :=
 ⟨blk_cell h rfl, blk_cell h rfl, blk_cell h rfl, blk_cell h rfl, blk_cell h rfl, blk_cell h rfl, blk_cell h rfl, blk_cell h rfl, blk_cell h rfl, blk_free h⟩
def zeroTest (o : ByteArray) : Array Value := #[.string o, .string ⟨#[]⟩, .string ⟨#[]⟩, .int .i64 0, .slice none 0 0, .string ⟨#[]⟩, .string ⟨#[]⟩, .int .i64 0, .slice none 0 0]
theorem r_test_no (hQ : Quoted T) {w0 w : World} (b : Nat) (q : Wk.St) (h : IN B s T w0 w b q 0) (K36 : q.isK T 36 = false) :
    Calls Tryz.prog 152 #[.pointer (some ⟨b, 0, none⟩)] w fun e w' => testEnd (Wk.pTest T q) e ∧ IN B s T w w' b (Wk.pTest T q).1 0 := by
  have hcase : ∃ (q1 : Wk.St) (n : Nat), n ≤ 2 ∧ Wk.pTest T q = ((Wk.pValue T q1).1, ⟨n, (Wk.pValue T q1).2, (0, [])⟩) ∧
      ((q.isK T 32 = true ∧ q.isK T 33 = false ∧ q1 = q.adv ∧ n = 1) ∨ (q.isK T 32 = false ∧ q.isK T 33 = true ∧ q1 = q.adv ∧ n = 2) ∨ (q.isK T 32 = false ∧ q.isK T 33 = false ∧ q1 = q ∧ n = 0)) := by
    cases K32 : q.isK T 32 with
    | true =>
      have hk := Wk.isK_iff.1 K32; refine ⟨q.adv, 1, by decide, ?_, Or.inl ⟨rfl, by rw [isK_of hk.1 hk.2]; decide, rfl, rfl⟩⟩; unfold Wk.pTest; rw [K32]; rfl
    | false =>
      cases K33 : q.isK T 33 with
      | true => exact ⟨q.adv, 2, by decide, by unfold Wk.pTest; rw [K32, K33]; rfl, Or.inr (Or.inl ⟨rfl, rfl, rfl, rfl⟩)⟩
      | false => exact ⟨q, 0, by decide, by unfold Wk.pTest; rw [K32, K33, K36]; rfl, Or.inr (Or.inr ⟨rfl, rfl, rfl, rfl⟩)⟩
  obtain ⟨q1, n, hn, hP, hc⟩ := hcase; have HP : Hid _ := hP; have HI : Hid (IN B s T w w b q 0) := h.self; obtain ⟨nk, nt, na, -, c2, -, hnx⟩ := h.nextc; have HNT : Hid (∀ kd, 6 ≤ kd → kd ≤ 41 → q.isK T kd = true → nt = ⟨(spellOf kd).toArray⟩) := by
    intro kd h6 _ hk; have hk' := Wk.isK_iff.1 hk; have h1 := (hnx hk'.1).2.1; have h2 := h.env.spelt.text q.k (h.ok hk'.1) (by omega); rw [hk'.2] at h2; have h3 : rtext (Wk.tokK T q.k) false = (Wk.tokK T q.k).text := by
      unfold rtext; rw [if_neg]; rw [hk'.2]; unfold rkind; repeat' split
      all_goals omega
    rw [h1, h3]; exact op_of (by rw [ByteArray.toList_eq]; exact h2)
  have hlt := h.blt; clear h hP hnx; rcases hc with ⟨K32, K33, hq1, hn1⟩ | ⟨K32, K33, hq1, hn1⟩ | ⟨K32, K33, hq1, hn1⟩
  all_goals
    have HQ1 : Hid (q1 = _ ∧ n = _) := ⟨hq1, hn1⟩
    clear hq1 hn1; go_enter Tryz.func152, Tryz.ntmps152; go_wp2_with fail; refine (i_is (HI.out.alloc _) 32 ⟨#[60]⟩).mono ?_; rintro e w1 ⟨rfl, hw1⟩; rw [hw1, K32]; clear hw1; go_wp2_with fail; refine (i_is (HI.out.alloc _) 33 ⟨#[62]⟩).mono ?_; rintro e w1 ⟨rfl, hw1⟩; rw [hw1, K33]; clear hw1; go_wp2_with fail; refine (i_is (HI.out.alloc _) 36 ⟨#[91]⟩).mono ?_; rintro e w1 ⟨rfl, hw1⟩; rw [hw1, K36]; clear hw1; go_wp2_with fail; first
      | (refine (i_take (HI.out.alloc _)).mono ?_
         rintro e w3 ⟨⟨nk5, nt5, na5, rfl, -, -⟩, hI3⟩; have hts : takeS T false q = q1 := by
           rw [HQ1.out.1]; first
             | exact takeS_adv K32 (by decide) (by decide) false
             | exact takeS_adv K33 (by decide) (by decide) false
         rw [hts] at hI3; have hnt : Hid (nt = opText n) := by
           show _ = _; rw [HQ1.out.2]; first
             | exact HNT.out 32 (by decide) (by decide) K32
             | exact HNT.out 33 (by decide) (by decide) K33
         have V0' := hI3.xbox (heap_alloc_new w _); have hI3' := (HI.out.alloc _).trans hI3; clear hI3 hts c2; go_wp2_with fail; generalize hX : w3.heap.size = X at *
         generalize hW : w3.alloc _ = W; have I2 : Hid (IN B s T w W b q1 0) := by rw [← hW]; exact hI3'.alloc _
         have V0 : Hid (W.heap[w.heap.size]? = some (.cells (zeroTest ⟨#[]⟩) 173 (0, 0))) := by rw [← hW]; exact blk_alloc _ V0'
         have V1 : Hid (W.heap[X]? = some (.cells (zeroTest nt) 173 (0, 0))) := by rw [← hW, ← hX]; exact heap_alloc_new _ _
         have hlX : w.heap.size < X := by rw [← hX]; exact lt_of_block V0'
         have HO : Hid (nt = opText n) := hnt.out; clear hW hX hI3' V0' hnt HNT K32 K33; obtain ⟨o, ho⟩ : ∃ o : ByteArray, o = nt := ⟨_, rfl⟩
         rw [← ho] at HO V1 ⊢; clear ho)
      | (generalize hX : w.heap.size + 1 = X at *
         generalize hW : (w.alloc _).alloc _ = W; have I2 : Hid (IN B s T w W b q1 0) := by rw [← hW, HQ1.out.1]; exact (HI.out.alloc _).alloc _
         have V0 : Hid (W.heap[w.heap.size]? = some (.cells (zeroTest ⟨#[]⟩) 173 (0, 0))) := by rw [← hW]; exact blk_alloc _ (heap_alloc_new _ _)
         have V1 : Hid (W.heap[X]? = some (.cells (zeroTest ⟨#[61]⟩) 173 (0, 0))) := by
           rw [← hW, ← hX]; exact (below_two (Below.refl _ ((w.alloc _).alloc _))).2.2.1
         have hlX : w.heap.size < X := by omega
         have HO : Hid ((⟨#[61]⟩ : ByteArray) = opText n) := by
           show _ = _; rw [HQ1.out.2]; rfl
         clear hW hX HNT K32 K33 c2; obtain ⟨o, ho⟩ : ∃ o : ByteArray, o = ⟨#[61]⟩ := ⟨_, rfl⟩
         rw [← ho] at HO V1 ⊢; clear ho)
    refine (i_value I2.out).mono ?_; rintro e w4 ⟨⟨t, rfl, ⟨op, x, na4, rfl⟩, ht⟩, hI4, -⟩; have V04 : Hid _ := hI4.xbox V0.out; have V14 : Hid _ := hI4.xbox V1.out; have HI4 : Hid (IN B s T w w4 b (valueS T q1) 0) := I2.out.trans hI4; have HT : Hid _ := ht; have hl1 : X < w4.heap.size := lt_of_block V14.out; have hl0 : w.heap.size < w4.heap.size := by omega
    have hne : X ≠ w.heap.size := by omega
    have hne' : w.heap.size ≠ X := by omega
    clear hI4 ht; unfold leaf; cases hV : isVal T q1 with
    | true =>
      have HS : Hid (valueS T q1 = (Wk.pValue T q1).1) := if_pos hV; have HV : Hid _ := hV; clear hV; obtain ⟨y0, y1, y2, y3, y4, y5, y6, y7, y8, yf⟩ := cells9 V04.out; obtain ⟨z0, z1, z2, z3, z4, z5, z6, z7, z8, zf⟩ := cells9 V14.out; go_wp2_with fail; refine bodyPost_ret (v := testV o op x na4 ⟨#[]⟩ ⟨#[]⟩ 0) (by simp [results, Tryz.results152, go_sem, testV, y0, y1, y2, y3, y4, y5, y6, y7, y8, hl0]) rfl ⟨?_, ?_⟩
      · rw [HP.out]; refine ⟨o, op, x, na4, _, _, 0, rfl, fun hb => ⟨by show n ≤ 3; omega, HO.out, leafSem hQ (HT.out HV.out hb), fun e => ?_⟩⟩; have e' : n = 3 := e; omega
      · rw [HP.out, ← HS.out]; refine IN.alloc (IN.xset9 (cs := zeroTest ⟨#[]⟩) (IN.xset4 (o := 1) HI4.out V14.out (by omega) _ _ _ _) ?_ (Nat.le_refl _) _ _ _ _ _ _ _ _ _) _; rw [blk_other _ hne', blk_other _ hne', blk_other _ hne', blk_other _ hne']; exact V04.out
    | false =>
      have HS : Hid ((valueS T q1).fail T = (Wk.pValue T q1).1) := by
        have h1 := val_state (T := T) q1; rw [hV] at h1; exact h1
      have HBN : Hid ((Wk.pValue T q1).1.bad = none → False) := fun e => by rw [val_yes e] at hV; cases hV
      clear hV; go_wp2_with fail; refine (i_fail (HI4.out.alloc _)).mono ?_; rintro e w5 ⟨rfl, hI5⟩; have V05 : Hid _ := hI5.xbox (blk_alloc _ V04.out); have V15 : Hid _ := hI5.xbox (blk_alloc _ V14.out); have t5 := hI5.tbox (heap_alloc_new _ _); have HI5 : Hid (IN B s T w w5 b ((valueS T q1).fail T) 0) := (HI4.out.alloc _).trans hI5; have b0 := bc 0 t5 rfl; have b1 := bc 1 t5 rfl; have b2 := bc 2 t5 rfl; have b3 := bc 3 t5 rfl; have m1 : X < w5.heap.size := lt_of_block V15.out; have m2 : w4.heap.size ≠ X := by omega
      obtain ⟨y0, y1, y2, y3, y4, y5, y6, y7, y8, yf⟩ := cells9 V05.out; obtain ⟨z0, z1, z2, z3, z4, z5, z6, z7, z8, zf⟩ := cells9 V15.out; clear hI5 t5; go_wp2_with fail; refine bodyPost_ret (v := testV o op x na4 ⟨#[]⟩ ⟨#[]⟩ 0) (by simp [results, Tryz.results152, go_sem, testV, y0, y1, y2, y3, y4, y5, y6, y7, y8]) rfl ⟨?_, ?_⟩
      · rw [HP.out]; exact ⟨o, op, x, na4, _, _, 0, rfl, fun hb => (HBN.out hb).elim⟩
      · rw [HP.out, ← HS.out]; refine IN.xset9 (cs := zeroTest ⟨#[]⟩) (IN.xset4 (o := 1) HI5.out V15.out (by omega) _ _ _ _) ?_ (Nat.le_refl _) _ _ _ _ _ _ _ _ _; rw [blk_other _ hne', blk_other _ hne', blk_other _ hne', blk_other _ hne']; exact V05.out
def oneTest (o op x : ByteArray) (na : Nat) : Array Value := #[.string o, .string op, .string x, .int .i64 na, .slice none 0 0, .string ⟨#[]⟩, .string ⟨#[]⟩, .int .i64 0, .slice none 0 0]
def twoTest (o op x : ByteArray) (na : Nat) (op' x' : ByteArray) (na' : Nat) : Array Value := #[.string o, .string op, .string x, .int .i64 na, .slice none 0 0, .string op', .string x', .int .i64 na', .slice none 0 0]
theorem r_test_br (hQ : Quoted T) {w0 w : World} (b : Nat) (q : Wk.St) (h : IN B s T w0 w b q 0) (K36 : q.isK T 36 = true) :
  Calls Tryz.prog 152 #[.pointer (some ⟨b, 0, none⟩)] w fun e w' => testEnd (Wk.pTest T q) e ∧ IN B s T w w' b (Wk.pTest T q).1 0 := by
 have hk := Wk.isK_iff.1 K36; have K32 : q.isK T 32 = false := by rw [isK_of hk.1 hk.2]; decide
 have K33 : q.isK T 33 = false := by rw [isK_of hk.1 hk.2]; decide
 obtain ⟨s2, hs2⟩ : ∃ s2, s2 = (Wk.pValue T q.adv).1.want T 41 := ⟨_, rfl⟩
 have HP : Hid (Wk.pTest T q = ((Wk.pValue T s2).1.want T 37, ⟨3, (Wk.pValue T q.adv).2, (Wk.pValue T s2).2⟩)) := by
  show _ = _; unfold Wk.pTest; rw [K32, K33, K36, hs2]; rfl
 have HS2 : Hid _ := hs2; have HGO : Hid (s2.bad = none → (Wk.pValue T q.adv).1.bad = none) := by
  intro e; rw [hs2] at e; exact (Wk.le_want _ _ e).1
 clear hs2; have HI : Hid (IN B s T w w b q 0) := h.self; obtain ⟨nk, nt, na, -, c2, -, hnx⟩ := h.nextc; have HNT : Hid (nt = ⟨#[91]⟩) := by
  have h1 := (hnx hk.1).2.1; have h2 := h.env.spelt.text q.k (h.ok hk.1) (by omega); rw [hk.2] at h2; have h3 : rtext (Wk.tokK T q.k) false = (Wk.tokK T q.k).text := by
   unfold rtext; rw [if_neg]; rw [hk.2]; decide
  show _ = _; rw [h1, h3]; exact op_of (by rw [ByteArray.toList_eq]; exact h2)
 have HK : Hid _ := K36; have hlt := h.blt; clear h hnx hk; go_enter Tryz.func152, Tryz.ntmps152; go_wp2_with fail; refine (i_is (HI.out.alloc _) 32 ⟨#[60]⟩).mono ?_; rintro e w1 ⟨rfl, hw1⟩; rw [hw1, K32]; clear hw1; go_wp2_with fail; refine (i_is (HI.out.alloc _) 33 ⟨#[62]⟩).mono ?_; rintro e w1 ⟨rfl, hw1⟩; rw [hw1, K33]; clear hw1; go_wp2_with fail; refine (i_is (HI.out.alloc _) 36 ⟨#[91]⟩).mono ?_; rintro e w1 ⟨rfl, hw1⟩; rw [hw1, K36]; clear hw1; go_wp2_with fail; refine (i_take (HI.out.alloc _)).mono ?_; rintro e w3 ⟨⟨nk5, nt5, na5, rfl, -, -⟩, hI3⟩; rw [takeS_adv HK.out (by decide) (by decide)] at hI3; have V03 : Hid _ := hI3.xbox (heap_alloc_new w _); have HI3 : Hid (IN B s T w w3 b q.adv 0) := (HI.out.alloc _).trans hI3; have hlX : w.heap.size < w3.heap.size := lt_of_block V03.out; clear hI3 c2; go_wp2_with fail; refine (i_value (HI3.out.alloc _)).mono ?_; rintro e w4 ⟨⟨t, rfl, ⟨op, x, na4, rfl⟩, ht⟩, hI4, -⟩; have V04 : Hid _ := hI4.xbox (blk_alloc _ V03.out); have V14 : Hid _ := hI4.xbox (heap_alloc_new _ _); have HI4 : Hid (IN B s T w w4 b (valueS T q.adv) 0) := (HI3.out.alloc _).trans hI4; have HT4 : Hid _ := ht; have hl1 : w3.heap.size < w4.heap.size := lt_of_block V14.out; have hl0 : w.heap.size < w4.heap.size := by omega
 have hne' : w.heap.size ≠ w3.heap.size := by omega
 have HVS : Hid _ := val_state (T := T) q.adv; have HVY : Hid (∀ h : (Wk.pValue T q.adv).1.bad = none, isVal T q.adv = true) := val_yes; clear hI4 ht; unfold leaf; generalize hV : isVal T q.adv = vb; revert hV; cases vb; intro hV; rw [hV] at HVS; go_wp2_with fail; refine (i_fail (HI4.out.alloc _)).mono ?_; rintro e w5 ⟨rfl, hI5⟩; have V05 := hI5.xbox (blk_alloc _ V04.out); have V15 := hI5.xbox (blk_alloc _ V14.out); have T5 := hI5.tbox (heap_alloc_new _ _); have hI5' := (HI4.out.alloc _).trans hI5; have z1 := bc 1 V15 rfl; have z2 := bc 2 V15 rfl; have z3 := bc 3 V15 rfl; have z4 := bc 4 V15 rfl; have zf := blk_free V15; have b0 := bc 0 T5 rfl; have b1 := bc 1 T5 rfl; have b2 := bc 2 T5 rfl; have b3 := bc 3 T5 rfl; have A5 : Hid _ := V05; have B5 : Hid _ := V15; have C5 : Hid _ := T5; have D5 : Hid (IN B s T w w5 b ((valueS T q.adv).fail T) 0) := hI5'; clear V05 V15 T5 hI5 hI5'; have m2 : w4.heap.size ≠ w3.heap.size := by omega
 go_wp2_with fail; clear z1 z2 z3 z4 zf b0 b1 b2 b3; generalize hW : (((w5.setCell ⟨w3.heap.size, 1, none⟩ (.string op)).setCell ⟨w3.heap.size, 2, none⟩ (.string x)).setCell ⟨w3.heap.size, 3, none⟩ (.int .i64 na4)).setCell ⟨w3.heap.size, 4, none⟩ (.slice none 0 0) = W; have I6 : Hid (IN B s T w W b (Wk.pValue T q.adv).1 0) := by
  rw [← hW, ← HVS.out]; exact IN.xset4 (o := 1) D5.out B5.out (by omega) _ _ _ _
 have V06 : Hid (W.heap[w.heap.size]? = some (.cells (zeroTest ⟨#[]⟩) 173 (0, 0))) := by
  rw [← hW, blk_other _ hne', blk_other _ hne', blk_other _ hne', blk_other _ hne']; exact A5.out
 have V16 : Hid (W.heap[w3.heap.size]? = some (.cells (oneTest nt op x na4) 173 (0, 0))) := by
  rw [← hW, blk_set _ (blk_set _ (blk_set _ (blk_set _ B5.out)))]; rfl
 have T6 : Hid (W.heap[w4.heap.size]? = some (.cells #[.string op, .string x, .int .i64 na4, .slice none 0 0] 107 (0, 0))) := by
  rw [← hW, blk_other _ m2, blk_other _ m2, blk_other _ m2, blk_other _ m2]; exact C5.out
 clear hW A5 B5 C5 D5 m2; rotate_left; intro hV; rw [hV] at HVS; have z1 := bc 1 V14.out rfl; have z2 := bc 2 V14.out rfl; have z3 := bc 3 V14.out rfl; have z4 := bc 4 V14.out rfl; have zf := blk_free V14.out; go_wp2_with fail; clear z1 z2 z3 z4 zf; generalize hW : ((((w4.setCell ⟨w3.heap.size, 1, none⟩ (.string op)).setCell ⟨w3.heap.size, 2, none⟩ (.string x)).setCell ⟨w3.heap.size, 3, none⟩ (.int .i64 na4)).setCell ⟨w3.heap.size, 4, none⟩ (.slice none 0 0)).alloc (.cells #[.string op, .string x, .int .i64 na4, .slice none 0 0] 107) = W; have hs4 : ((((w4.setCell ⟨w3.heap.size, 1, none⟩ (.string op)).setCell ⟨w3.heap.size, 2, none⟩ (.string x)).setCell ⟨w3.heap.size, 3, none⟩ (.int .i64 na4)).setCell ⟨w3.heap.size, 4, none⟩ (.slice none 0 0)).heap.size = w4.heap.size := by simp [World.setCell]
 have I6 : Hid (IN B s T w W b (Wk.pValue T q.adv).1 0) := by
  rw [← hW, ← HVS.out]; exact (IN.xset4 (o := 1) HI4.out V14.out (by omega) _ _ _ _).alloc _
 have V06 : Hid (W.heap[w.heap.size]? = some (.cells (zeroTest ⟨#[]⟩) 173 (0, 0))) := by
  rw [← hW]; refine blk_alloc _ ?_; rw [blk_other _ hne', blk_other _ hne', blk_other _ hne', blk_other _ hne']; exact V04.out
 have V16 : Hid (W.heap[w3.heap.size]? = some (.cells (oneTest nt op x na4) 173 (0, 0))) := by
  rw [← hW]; refine blk_alloc _ ?_; rw [blk_set _ (blk_set _ (blk_set _ (blk_set _ V14.out)))]; rfl
 have T6 : Hid (W.heap[w4.heap.size]? = some (.cells #[.string op, .string x, .int .i64 na4, .slice none 0 0] 107 (0, 0))) := by
  rw [← hW]; have := heap_alloc_new ((((w4.setCell ⟨w3.heap.size, 1, none⟩ (.string op)).setCell ⟨w3.heap.size, 2, none⟩ (.string x)).setCell ⟨w3.heap.size, 3, none⟩ (.int .i64 na4)).setCell ⟨w3.heap.size, 4, none⟩ (.slice none 0 0)) (.cells #[.string op, .string x, .int .i64 na4, .slice none 0 0] 107); rw [hs4] at this; exact this
 clear hW hs4; rotate_left; all_goals (
  clear hV HVS V04 V14 HI4 V03 HI3; refine (i_need I6.out 41 ⟨#[46, 46]⟩).mono ?_; rintro e w7 ⟨rfl, hI7⟩; rw [← HS2.out] at hI7; have V07 : Hid _ := hI7.xbox V06.out; have V17 : Hid _ := hI7.xbox V16.out; have T7 : Hid _ := hI7.tbox T6.out; have HI7 : Hid (IN B s T w w7 b s2 0) := I6.out.trans hI7; clear hI7 V06 V16 T6 I6; go_wp2_with fail; refine (i_value HI7.out).mono ?_; rintro e w8 ⟨⟨t, rfl, ⟨op', x', na8, rfl⟩, ht⟩, hI8, -⟩; have V08 : Hid _ := hI8.xbox V07.out; have V18 : Hid _ := hI8.xbox V17.out; have T8 : Hid _ := hI8.tbox T7.out; have HI8 : Hid (IN B s T w w8 b (valueS T s2) 0) := HI7.out.trans hI8; have HT8 : Hid _ := ht; have HVS : Hid _ := val_state (T := T) s2; have HVY2 : Hid (∀ h : (Wk.pValue T s2).1.bad = none, isVal T s2 = true) := val_yes; have b0 := bc 0 T8.out rfl; have b1 := bc 1 T8.out rfl; have b2 := bc 2 T8.out rfl; have b3 := bc 3 T8.out rfl; have bf := blk_free T8.out; have m3 : w3.heap.size ≠ w4.heap.size := by omega
  have m4 : w4.heap.size ≠ w3.heap.size := by omega
  have m5 : w.heap.size ≠ w4.heap.size := by omega
  clear hI8 ht V07 V17 T7 HI7; unfold leaf; cases hV2 : isVal T s2 with
  | false =>
   rw [hV2] at HVS; go_wp2_with fail; have hI9 := HI8.out.tree T8.out (by omega) (.string op') (.string x') (.int .i64 na8) (.slice none 0 0); have W09 : (((((w8.setCell ⟨w4.heap.size, 0, none⟩ (.string op')).setCell ⟨w4.heap.size, 1, none⟩ (.string x')).setCell ⟨w4.heap.size, 2, none⟩ (.int .i64 na8)).setCell ⟨w4.heap.size, 3, none⟩ (.slice none 0 0))).heap[w.heap.size]? = some (.cells (zeroTest ⟨#[]⟩) 173 (0, 0)) := by
    rw [blk_other _ m5, blk_other _ m5, blk_other _ m5, blk_other _ m5]; exact V08.out
   have W19 : (((((w8.setCell ⟨w4.heap.size, 0, none⟩ (.string op')).setCell ⟨w4.heap.size, 1, none⟩ (.string x')).setCell ⟨w4.heap.size, 2, none⟩ (.int .i64 na8)).setCell ⟨w4.heap.size, 3, none⟩ (.slice none 0 0))).heap[w3.heap.size]? = some (.cells (oneTest nt op x na4) 173 (0, 0)) := by
    rw [blk_other _ m3, blk_other _ m3, blk_other _ m3, blk_other _ m3]; exact V18.out
   have WT9 : (((((w8.setCell ⟨w4.heap.size, 0, none⟩ (.string op')).setCell ⟨w4.heap.size, 1, none⟩ (.string x')).setCell ⟨w4.heap.size, 2, none⟩ (.int .i64 na8)).setCell ⟨w4.heap.size, 3, none⟩ (.slice none 0 0))).heap[w4.heap.size]? = some (.cells #[.string op', .string x', .int .i64 na8, .slice none 0 0] 107 (0, 0)) := by
    rw [blk_set _ (blk_set _ (blk_set _ (blk_set _ T8.out)))]; rfl
   refine (i_fail hI9).mono ?_; rintro e w9 ⟨rfl, hI10⟩; have A9 : Hid _ := hI10.xbox W09; have B9 : Hid _ := hI10.xbox W19; have C9 : Hid _ := hI10.tbox WT9; have D9 : Hid (IN B s T w w9 b ((valueS T s2).fail T) 0) := hI9.trans hI10; clear b0 b1 b2 b3 bf hI9 W09 W19 WT9 hI10; have z5 := bc 5 B9.out rfl; have z6 := bc 6 B9.out rfl; have z7 := bc 7 B9.out rfl; have z8 := bc 8 B9.out rfl; have zf := blk_free B9.out; have b0 := bc 0 C9.out rfl; have b1 := bc 1 C9.out rfl; have b2 := bc 2 C9.out rfl; have b3 := bc 3 C9.out rfl; go_wp2_with fail; clear z5 z6 z7 z8 zf b0 b1 b2 b3; generalize hW : (((w9.setCell ⟨w3.heap.size, 5, none⟩ (.string op')).setCell ⟨w3.heap.size, 6, none⟩ (.string x')).setCell ⟨w3.heap.size, 7, none⟩ (.int .i64 na8)).setCell ⟨w3.heap.size, 8, none⟩ (.slice none 0 0) = W2; have I10 : Hid (IN B s T w W2 b (Wk.pValue T s2).1 0) := by
    rw [← hW, ← HVS.out]; exact IN.xset4 (o := 5) D9.out B9.out (by omega) _ _ _ _
   have V010 : Hid (W2.heap[w.heap.size]? = some (.cells (zeroTest ⟨#[]⟩) 173 (0, 0))) := by
    rw [← hW, blk_other _ hne', blk_other _ hne', blk_other _ hne', blk_other _ hne']; exact A9.out
   have V110 : Hid (W2.heap[w3.heap.size]? = some (.cells (twoTest nt op x na4 op' x' na8) 173 (0, 0))) := by
    rw [← hW, blk_set _ (blk_set _ (blk_set _ (blk_set _ B9.out)))]; rfl
   clear hW A9 B9 C9 D9; clear hV2 HVS; refine (i_need I10.out 37 ⟨#[93]⟩).mono ?_; rintro e w11 ⟨rfl, hI11⟩; have V011 : Hid _ := hI11.xbox V010.out; have V111 : Hid _ := hI11.xbox V110.out; have HI11 : Hid (IN B s T w w11 b ((Wk.pValue T s2).1.want T 37) 0) := I10.out.trans hI11; obtain ⟨y0, y1, y2, y3, y4, y5, y6, y7, y8, yf⟩ := cells9 V011.out; obtain ⟨z0, z1, z2, z3, z4, z5, z6, z7, z8, zf⟩ := cells9 V111.out; clear hI11; go_wp2_with fail; refine bodyPost_ret (v := testV nt op x na4 op' x' na8) (by simp [results, Tryz.results152, go_sem, testV, y0, y1, y2, y3, y4, y5, y6, y7, y8]) rfl ⟨?_, ?_⟩
   ·rw [HP.out]; refine ⟨nt, op, x, na4, op', x', na8, rfl, fun hb => ?_⟩; have h1 : (Wk.pValue T s2).1.bad = none := (Wk.le_want _ _ hb).1; have h2 : s2.bad = none := by
     cases hx : s2.bad with
     | none => rfl
     | some p =>
      rw [Wk.pValue_bad T (by rw [hx]; rfl), hx] at h1; cases h1
    have h3 := HGO.out h2; exact ⟨by show 3 ≤ 3; omega, by rw [HNT.out]; rfl, leafSem hQ (HT4.out (HVY.out h3) h3), fun _ => leafSem hQ (HT8.out (HVY2.out h1) h1)⟩
   ·rw [HP.out]; exact IN.xset9 HI11.out V011.out (Nat.le_refl _) _ _ _ _ _ _ _ _ _
  | true =>
   rw [hV2] at HVS; have z5 := bc 5 V18.out rfl; have z6 := bc 6 V18.out rfl; have z7 := bc 7 V18.out rfl; have z8 := bc 8 V18.out rfl; have zf := blk_free V18.out; go_wp2_with fail; clear z5 z6 z7 z8 zf b0 b1 b2 b3 bf; generalize hW : (((((((w8.setCell ⟨w4.heap.size, 0, none⟩ (.string op')).setCell ⟨w4.heap.size, 1, none⟩ (.string x')).setCell ⟨w4.heap.size, 2, none⟩ (.int .i64 na8)).setCell ⟨w4.heap.size, 3, none⟩ (.slice none 0 0)).setCell ⟨w3.heap.size, 5, none⟩ (.string op')).setCell ⟨w3.heap.size, 6, none⟩ (.string x')).setCell ⟨w3.heap.size, 7, none⟩ (.int .i64 na8)).setCell ⟨w3.heap.size, 8, none⟩ (.slice none 0 0) = W2; have B9 : (((((w8.setCell ⟨w4.heap.size, 0, none⟩ (.string op')).setCell ⟨w4.heap.size, 1, none⟩ (.string x')).setCell ⟨w4.heap.size, 2, none⟩ (.int .i64 na8)).setCell ⟨w4.heap.size, 3, none⟩ (.slice none 0 0))).heap[w3.heap.size]? = some (.cells (oneTest nt op x na4) 173 (0, 0)) := by
    rw [blk_other _ m3, blk_other _ m3, blk_other _ m3, blk_other _ m3]; exact V18.out
   have I10 : Hid (IN B s T w W2 b (Wk.pValue T s2).1 0) := by
    rw [← hW, ← HVS.out]; exact IN.xset4 (o := 5) (HI8.out.tree T8.out (by omega) _ _ _ _) B9 (by omega) _ _ _ _
   have V010 : Hid (W2.heap[w.heap.size]? = some (.cells (zeroTest ⟨#[]⟩) 173 (0, 0))) := by
    rw [← hW, blk_other _ hne', blk_other _ hne', blk_other _ hne', blk_other _ hne', blk_other _ m5, blk_other _ m5, blk_other _ m5, blk_other _ m5]; exact V08.out
   have V110 : Hid (W2.heap[w3.heap.size]? = some (.cells (twoTest nt op x na4 op' x' na8) 173 (0, 0))) := by
    rw [← hW, blk_set _ (blk_set _ (blk_set _ (blk_set _ B9)))]; rfl
   clear hW B9; clear hV2 HVS; refine (i_need I10.out 37 ⟨#[93]⟩).mono ?_; rintro e w11 ⟨rfl, hI11⟩; have V011 : Hid _ := hI11.xbox V010.out; have V111 : Hid _ := hI11.xbox V110.out; have HI11 : Hid (IN B s T w w11 b ((Wk.pValue T s2).1.want T 37) 0) := I10.out.trans hI11; obtain ⟨y0, y1, y2, y3, y4, y5, y6, y7, y8, yf⟩ := cells9 V011.out; obtain ⟨z0, z1, z2, z3, z4, z5, z6, z7, z8, zf⟩ := cells9 V111.out; clear hI11; go_wp2_with fail; refine bodyPost_ret (v := testV nt op x na4 op' x' na8) (by simp [results, Tryz.results152, go_sem, testV, y0, y1, y2, y3, y4, y5, y6, y7, y8]) rfl ⟨?_, ?_⟩
   ·rw [HP.out]; refine ⟨nt, op, x, na4, op', x', na8, rfl, fun hb => ?_⟩; have h1 : (Wk.pValue T s2).1.bad = none := (Wk.le_want _ _ hb).1; have h2 : s2.bad = none := by
     cases hx : s2.bad with
     | none => rfl
     | some p =>
      rw [Wk.pValue_bad T (by rw [hx]; rfl), hx] at h1; cases h1
    have h3 := HGO.out h2; exact ⟨by show 3 ≤ 3; omega, by rw [HNT.out]; rfl, leafSem hQ (HT4.out (HVY.out h3) h3), fun _ => leafSem hQ (HT8.out (HVY2.out h1) h1)⟩
   ·rw [HP.out]; exact IN.xset9 HI11.out V011.out (Nat.le_refl _) _ _ _ _ _ _ _ _ _)
theorem r_test (hQ : Quoted T) {w0 w : World} (b : Nat) (q : Wk.St) (h : IN B s T w0 w b q 0) :
  Calls Tryz.prog 152 #[.pointer (some ⟨b, 0, none⟩)] w fun e w' => testEnd (Wk.pTest T q) e ∧ IN B s T w w' b (Wk.pTest T q).1 0 := by
 cases K36 : q.isK T 36 with
 | true => exact r_test_br hQ b q h K36
 | false => exact r_test_no hQ b q h K36
end
end Go.Proofs.YtbkaghlklkdmkaaGreatDoor
