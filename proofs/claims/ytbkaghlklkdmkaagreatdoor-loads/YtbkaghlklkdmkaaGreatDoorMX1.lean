/-
  Plain laws: within an item no semicolon is passed; a model's text, written by items and written by tokens.
-/
import Derived.Test.YtbkaghlklkdmkaaGreatDoorMA
set_option maxRecDepth 100000
set_option maxHeartbeats 8000000
namespace Go.Proofs.YtbkaghlklkdmkaaGreatDoor.Wk
variable {T : List Tok}
def Gs (T : List Tok) (q r : St) : Prop := q.le r ∧ (r.bad = none → ∀ k, q.k ≤ k → k < r.k → (tokK T k).kind ≠ 39)
theorem Gs.refl (q : St) : Gs T q q := ⟨St.le_refl q, fun _ k h1 h2 => by omega⟩
theorem Gs.trans {a b c : St} (h : Gs T a b) (k : Gs T b c) : Gs T a c := by
 refine ⟨St.le_trans h.1 k.1, fun hc j h1 h2 => ?_⟩; have hb := (k.1 hc).1; rcases Nat.lt_or_ge j b.k with hj | hj
 ·exact h.2 hb j h1 hj
 ·exact k.2 hc j hj h2
theorem gs_step {q : St} (h : (tokK T q.k).kind ≠ 39) : Gs T q q.adv := by
 refine ⟨le_adv q, fun hb k h1 h2 => ?_⟩; unfold St.adv at h2 hb; cases hq : q.bad with
 | some p => simp [hq] at hb
 | none =>
  simp [hq] at h2; have : k = q.k := by omega
  rw [this]; exact h
theorem gs_adv {q : St} {kd : Nat} (h2 : kd ≠ 39) (h : q.isK T kd = true) : Gs T q q.adv := gs_step (by rw [(isK_iff.1 h).2]; exact h2)
theorem gs_advIn {q : St} {l : List Nat} (h2 : ∀ x ∈ l, x ≠ 39) (h : q.isIn T l = true) : Gs T q q.adv := gs_step (h2 _ (isIn_iff.1 h).2)
theorem gs_fail (q : St) : Gs T q (q.fail T) := by
 refine ⟨le_fail q, fun hb => ?_⟩; unfold St.fail at hb; cases hq : q.bad <;> simp [hq] at hb
theorem gs_want (q : St) {kd : Nat} (h2 : kd ≠ 39) : Gs T q (q.want T kd) := by
 unfold St.want; split
 ·rename_i h; exact gs_adv h2 h
 ·exact gs_fail q
theorem gs_opens {q : St} {kd : Nat} (h2 : kd ≠ 39) (h : q.isK T kd = true) (n : Nat) : Gs T q (q.opens T n) := by
 unfold St.opens; split
 ·exact gs_fail q
 ·exact gs_adv h2 h
theorem gs_value (q : St) : Gs T q (pValue T q).1 := by
 unfold pValue; split
 ·rename_i h; refine (gs_adv (by decide) h).trans ?_; show Gs T q.adv (if q.adv.isK T 4 = true then q.adv.adv else q.adv.want T 3); split
  ·rename_i h4; exact gs_adv (by decide) h4
  ·exact gs_want _ (by decide)
 ·split
  ·rename_i h; exact gs_adv (by decide) h
  ·split
   ·rename_i h; exact gs_adv (by decide) h
   ·split
    ·rename_i h; exact gs_adv (by decide) h
    ·exact gs_want _ (by decide)
theorem gs_row {part : St → St × Sem} (hp : ∀ q, Gs T q (part q).1) {l : List Nat} (h2 : ∀ x ∈ l, x ≠ 39) :
  ∀ n q a, Gs T q (pRow T part l n q a).1 := by
 intro n; induction n with
 | zero => intro q a; exact Gs.refl q
 | succ n ih =>
  intro q a; unfold pRow; split
  ·rename_i h; exact (gs_advIn h2 h).trans ((hp _).trans (ih _ _))
  ·exact Gs.refl q
theorem signs_semi (level : Nat) : ∀ x ∈ signs level, x ≠ 39 := by
 unfold signs; intro x hx; repeat' split at hx
 all_goals simp at hx; omega
theorem gs_pe : ∀ f level nest q, Gs T q (pe T f level nest q).1 := by
 intro f; induction f with
 | zero => intro _ _ q; exact Gs.refl q
 | succ f ih =>
  intro level nest q; unfold pe; split
  ·split
   ·rename_i h; exact (gs_adv (by decide) h).trans (ih _ _ _)
   ·exact ih _ _ _
  ·split
   ·by_cases h : (pe T f 4 nest q).1.isIn T (signs 3) = true
    ·simp only [h, if_true]; exact (ih _ _ _).trans ((gs_advIn (signs_semi 3) h).trans (ih _ _ _))
    ·simp only [h, Bool.false_eq_true, if_false]; exact ih _ _ _
   ·split
    ·exact (ih _ _ _).trans (gs_row (fun q => ih _ _ q) (signs_semi level) _ _ _)
    ·split
     ·split
      ·rename_i h; exact (gs_opens (by decide) h nest).trans ((ih _ _ _).trans (gs_want _ (by decide)))
      ·split
       ·rename_i h; exact gs_adv (by decide) h
       ·split
        ·rename_i h; exact gs_adv (by decide) h
        ·exact gs_value q
     ·split
      ·rename_i h; exact (gs_opens (by decide) h nest).trans ((ih _ _ _).trans ((gs_want _ (by decide)).trans ((ih _ _ _).trans ((gs_want _ (by decide)).trans (ih _ _ _)))))
      ·exact ih _ _ _
theorem gs_words : ∀ (n : Nat) (q : St) (ws : List (List UInt8)), Gs T q (pWords T n q ws).1 := by
 intro n; induction n with
 | zero => intro q ws; exact Gs.refl q
 | succ n ih =>
  intro q ws; rw [pWords]; have h1 : Gs T q (if q.isK T 5 && ws.contains (unq (tokK T q.k).text) then q.fail T else q) := by
   split
   ·exact gs_fail q
   ·exact Gs.refl q
  generalize (if q.isK T 5 && ws.contains (unq (tokK T q.k).text) then q.fail T else q) = q1 at h1 ⊢; have h2 := h1.trans (gs_want (T := T) q1 (kd := 5) (by decide)); split
  ·rename_i h; rw [Bool.and_eq_true] at h; exact (h2.trans (gs_adv (by decide) h.2)).trans (ih _ _)
  ·exact h2
theorem gs_type (q : St) : Gs T q (pType T q).1 := by
 unfold pType; split
 ·rename_i h; exact gs_adv (by decide) h
 ·split
  ·rename_i h; exact gs_adv (by decide) h
  ·exact (gs_want q (by decide)).trans (gs_words 6 _ [])
theorem gs_test (q : St) : Gs T q (pTest T q).1 := by
 unfold pTest; split
 ·rename_i h; exact (gs_adv (by decide) h).trans (gs_value _)
 ·split
  ·rename_i h; exact (gs_adv (by decide) h).trans (gs_value _)
  ·split
   ·rename_i h; exact ((((gs_adv (by decide) h).trans (gs_value _)).trans (gs_want _ (by decide))).trans (gs_value _)).trans (gs_want _ (by decide))
   ·exact gs_value q
theorem gs_tests : ∀ (n : Nat) (q : St) (l : List PTest), Gs T q (pTests T n q l).1 := by
 intro n; induction n with
 | zero => intro q l; exact Gs.refl q
 | succ n ih =>
  intro q l; rw [pTests]; have h1 := gs_test (T := T) q; split
  ·rename_i h; rw [Bool.and_eq_true] at h; exact (h1.trans (gs_adv (by decide) h.2)).trans (ih _ _)
  ·exact h1
theorem gs_cell (q : St) : Gs T q (pCell T q).1 := by
 unfold pCell; split
 ·rename_i h; rw [Bool.and_eq_true] at h; exact gs_adv (by decide) h.1
 ·refine Gs.trans ?_ (gs_tests 4 _ []); split
  ·rename_i h; exact gs_adv (by decide) h
  ·exact Gs.refl q
theorem gs_cells : ∀ (n : Nat) (q : St) (l : List PCell), Gs T q (pCells T n q l).1 := by
 intro n; induction n with
 | zero => intro q l; exact Gs.refl q
 | succ n ih =>
  intro q l; rw [pCells]; exact ((gs_want q (by decide)).trans (gs_cell _)).trans (ih _ _)
theorem gs_rule (n : Nat) (q : St) : Gs T q (pRule T n q).1 := by
 unfold pRule; exact (((gs_cell q).trans (gs_cells _ _ _)).trans (gs_want _ (by decide))).trans (gs_pe _ _ _ _)
theorem gs_rules (m : Nat) : ∀ (n : Nat) (q : St) (l : List PRule), Gs T q (pRules T m n q l).1 := by
 intro n; induction n with
 | zero => intro q l; exact Gs.refl q
 | succ n ih =>
  intro q l; rw [pRules]; have h1 := gs_rule (T := T) m q; split
  ·rename_i h; rw [Bool.and_eq_true] at h; exact (h1.trans (gs_adv (by decide) h.2)).trans (ih _ _)
  ·exact h1
theorem gs_cols : ∀ (n : Nat) (q : St) (l : List (Name × Nat)), Gs T q (pCols T n q l).1 := by
 intro n; induction n with
 | zero => intro q l; exact Gs.refl q
 | succ n ih =>
  intro q l; rw [pCols]; have h1 := gs_want (T := T) q (kd := 2) (by decide); split
  ·rename_i h; rw [Bool.and_eq_true] at h; exact (h1.trans (gs_adv (by decide) h.2)).trans (ih _ _)
  ·exact h1
theorem gs_table (q : St) (it : PItem) : Gs T q (pTable T q it).1 := by
 unfold pTable; have h1 : Gs T q (if q.isIn T [12, 13, 14, 15, 16, 17] then q.adv else q.fail T) := by
  split
  ·rename_i h; exact gs_advIn (by decide) h
  ·exact gs_fail q
 exact ((((h1.trans (gs_want _ (by decide))).trans (gs_cols 3 _ [])).trans (gs_want _ (by decide))).trans (gs_want _ (by decide))).trans (gs_rules _ 8 _ [])
theorem gs_head (w p : Nat) (q : St) : Gs T q (pHead T w p q).1 := by
 unfold pHead; exact (gs_want q (by decide)).trans (gs_type _)
theorem gs_body (q : St) : ∃ r : St, (pItem T q).1 = r.want T 39 ∧ Gs T q r := by
 refine ⟨_, rfl, ?_⟩; split
 ·rename_i h; exact (gs_adv (by decide) h).trans (gs_head _ _ _)
 ·split
  ·rename_i h; exact (((gs_adv (by decide) h).trans (gs_head _ _ _)).trans (gs_want _ (by decide))).trans (gs_pe _ _ _ _)
  ·split
   ·rename_i h; exact ((gs_adv (by decide) h).trans (gs_head _ _ _)).trans (gs_table _ _)
   ·exact gs_fail q
theorem item_semi (q : St) (h : (pItem T q).1.bad = none) : ∃ m, (pItem T q).1.k = m + 1 ∧ q.k ≤ m ∧ (tokK T m).kind = 39 ∧ ∀ k, q.k ≤ k → k < m → (tokK T k).kind ≠ 39 := by
 obtain ⟨r, h1, h2⟩ := gs_body (T := T) q; rw [h1] at h ⊢; cases hK : r.isK T 39 with
 | true =>
  have hr := isK_iff.1 hK; have e : r.want T 39 = ⟨r.k + 1, none⟩ := by unfold St.want St.adv; rw [hK, hr.1]; rfl
  rw [e]; exact ⟨r.k, rfl, (h2.1 hr.1).2, hr.2, h2.2 hr.1⟩
 | false =>
  exfalso; have e : r.want T 39 = r.fail T := by unfold St.want; rw [hK]; rfl
  rw [e] at h; unfold St.fail at h; cases hb : r.bad <;> simp [hb] at h
def tight (t : Tok) : Bool := t.kind == 39 || t.kind == 38
def joinL (T : List Tok) : Nat → Nat → Bool → List UInt8
 | 0, _, _ => []
 | n + 1, a, b => (if b || tight (tokK T a) then [] else [32]) ++ ((tokK T a).text.data.toList ++ joinL T n (a + 1) false)
def refL (T : List Tok) : Nat → Nat → Bool → List UInt8
 | 0, _, _ => []
 | n + 1, a, b => (if b || tight (tokK T a) then [] else [32]) ++ ((tokK T a).text.data.toList ++ ((if (tokK T a).kind == 39 then [10] else []) ++ refL T n (a + 1) ((tokK T a).kind == 39)))
theorem refL_item (T : List Tok) (r : Nat) : ∀ (n a : Nat) (b : Bool), (∀ k, a ≤ k → k < a + n → (tokK T k).kind ≠ 39) → (tokK T (a + n)).kind = 39 →
  refL T (n + 1 + r) a b = joinL T (n + 1) a b ++ (10 :: refL T r (a + n + 1) true) := by
 intro n; induction n with
 | zero =>
  intro a b _ h39; rw [Nat.add_zero] at h39; rw [show 0 + 1 + r = r + 1 by omega]; simp [refL, joinL, h39, tight]
 | succ n ih =>
  intro a b hin h39; have h1 := hin a (Nat.le_refl _) (by omega); rw [show n + 1 + 1 + r = (n + 1 + r) + 1 by omega, refL, joinL, ih (a + 1) _ (fun k hk hk2 => hin k (by omega) (by omega)) (by rw [show a + 1 + n = a + (n + 1) by omega]; exact h39)]; have h2 : ((tokK T a).kind == 39) = false := by simpa using h1
  rw [h2, show a + 1 + n + 1 = a + (n + 1) + 1 by omega]; simp
end Go.Proofs.YtbkaghlklkdmkaaGreatDoor.Wk
