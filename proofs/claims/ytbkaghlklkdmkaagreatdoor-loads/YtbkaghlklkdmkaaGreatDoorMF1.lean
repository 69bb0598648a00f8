/-
  The document's answer: rows in memory: tests, cells, rules, columns. The parser of the document's answer: a cell.
-/
import Derived.Test.YtbkaghlklkdmkaaGreatDoorME9
import Derived.Test.YtbkaghlklkdmkaaGreatDoorMO
set_option maxRecDepth 100000
set_option maxHeartbeats 8000000
namespace Go.Proofs.YtbkaghlklkdmkaaGreatDoor
open Go.RowKit
def Inc (l : List (Wk.Name × Nat)) : Prop := l.Pairwise (fun a c => a.2 < c.2)
theorem place_lt {s : ByteArray} {T : List Wk.Tok} (hF : Wk.Follows s 0 T) : ∀ (d k : Nat), k + d + 1 < T.length → (Wk.tokK T k).place < (Wk.tokK T (k + d + 1)).place ∨ (Wk.tokK T (k + d + 1)).kind ≤ 1 := by
 have one : ∀ k, k + 1 < T.length → 2 ≤ (Wk.tokK T (k + 1)).kind → (Wk.tokK T k).place < (Wk.tokK T (k + 1)).place := by
  intro k hk h2; have hk2 := hF.shut.inner k hk; have hn := hF.next k hk
  have h1 : (Wk.tokK T k).place < (Wk.tokK T k).stop := by
   cases k with
   | zero => rw [hF.first] at hk2 ⊢; exact (Wk.cut_ok s 0 hk2).2.2.2.1
   | succ j =>
    have hj := hF.next j (by omega)
    rw [hj] at hk2 ⊢; exact (Wk.cut_ok s _ hk2).2.2.2.1
  rw [hn] at h2 ⊢; have := (Wk.cut_ok s _ h2).2.2.1; omega
 intro d; induction d with
 | zero =>
  intro k hk; by_cases h : 2 ≤ (Wk.tokK T (k + 1)).kind
  ·exact Or.inl (one k hk h)
  ·right; show (Wk.tokK T (k + 1)).kind ≤ 1; omega
 | succ d ih =>
  intro k hk; by_cases h : 2 ≤ (Wk.tokK T (k + (d + 1) + 1)).kind
  ·left; have h1 := one (k + d + 1) (by omega) h; rcases ih k (by omega) with h2 | h2
   ·exact Nat.lt_trans h2 h1
   ·have := hF.shut.inner (k + d + 1) (by omega); omega
  ·right; omega
theorem inc_of {s : ByteArray} {T : List Wk.Tok} (hF : Wk.Follows s 0 T) {a b : Nat} {l : List (Wk.Name × Nat)} (h : Wk.NamesIn T a b l) : Inc l := by
 obtain ⟨ks, rfl, hp, hk⟩ := h; unfold Inc; rw [List.pairwise_map]; refine hp.imp_of_mem (fun {i j} hi hj hij => ?_); have h1 := hk i hi; have h2 := hk j hj; rcases place_lt hF (j - i - 1) i (by omega) with h3 | h3
 ·rw [show i + (j - i - 1) + 1 = j by omega] at h3; exact h3
 ·rw [show i + (j - i - 1) + 1 = j by omega] at h3; omega
def TrI (lo hi : Nat) (w : World) (v : Value) (S : Wk.Sem) : Prop := Tr lo hi w v S ∧ Inc S.names ∧ ∃ op x na ad n c, v = tree op x na (.slice ad n c)
theorem TrI.keep {lo hi : Nat} {w w' : World} {v : Value} {S : Wk.Sem} (h : TrI lo hi w v S) (k : KeepT lo hi w w') : TrI lo hi w' v S := ⟨h.1.keep k, h.2⟩
theorem TrI.mono {lo hi lo' hi' : Nat} {w : World} {v : Value} {S : Wk.Sem} (h : TrI lo hi w v S) (h1 : lo' ≤ lo) (h2 : hi ≤ hi') : TrI lo' hi' w v S := ⟨h.1.mono h1 h2, h.2⟩
def treeEndI (w w' : World) (r : Wk.St × Wk.Sem) (e : Ending) : Prop :=
 ∃ (op x : ByteArray) (na : Nat) (ad : Option Addr) (n c : Nat), e = .returned (tree op x na (.slice ad n c)) ∧ (r.1.bad = none → TrI w.heap.size w'.heap.size w' (tree op x na (.slice ad n c)) r.2)
theorem r_exprI {B : Nat} {s : ByteArray} {T : List Wk.Tok} (hT : Wk.Shut T) (hQ : Quoted T) (q : Wk.St) {w0 w : World} (b : Nat) (h : IN B s T w0 w b q 0) :
  Calls Tryz.prog 76 #[.pointer (some ⟨b, 0, none⟩)] w fun e w' => treeEndI w w' (Wk.pExpr T q) e ∧ IN B s T w w' b (Wk.pExpr T q).1 0 := by
 refine (r_expr hT hQ q b h).mono ?_; rintro e w' ⟨⟨op, x, na, ad, n, c, rfl, ht⟩, hI⟩; refine ⟨⟨op, x, na, ad, n, c, rfl, fun hb => ⟨ht hb, ?_, op, x, na, ad, n, c, rfl⟩⟩, hI⟩; have hq : q.bad = none := by
  cases hx : q.bad with
  | none => rfl
  | some p => rw [Wk.pExpr_bad T (by rw [hx]; rfl), hx] at hb; cases hb
 exact inc_of h.env.fol (Wk.told_pe hT _ _ _ q (h.ok hq) hb)
def KeepY (ts : List TypeId) (lo hi : Nat) (w w' : World) : Prop :=
 ∀ (k : Nat) (cs : Array Value) (t : TypeId) (fr : Nat × Nat), lo ≤ k → k < hi → t ∈ ts → w.heap[k]? = some (.cells cs t fr) → w'.heap[k]? = some (.cells cs t fr)
theorem KeepY.trans {ts : List TypeId} {lo hi : Nat} {a b c : World} (h : KeepY ts lo hi a b) (k : KeepY ts lo hi b c) : KeepY ts lo hi a c :=
 fun i cs t fr h1 h2 h3 h4 => k i cs t fr h1 h2 h3 (h i cs t fr h1 h2 h3 h4)
theorem KeepY.mono {ts us : List TypeId} {lo hi lo' hi' : Nat} {a b : World} (h : KeepY ts lo hi a b) (hs : ∀ t ∈ us, t ∈ ts) (h1 : lo ≤ lo') (h2 : hi' ≤ hi) : KeepY us lo' hi' a b :=
 fun i cs t fr g1 g2 g3 g4 => h i cs t fr (by omega) (by omega) (hs t g3) g4
theorem KeepY.frT {B : Nat} {ts us : List TypeId} {w w' : World} (h : FrT B us w w') (ht : ∀ t ∈ ts, t ∉ us) (lo hi : Nat) : KeepY ts lo hi w w' :=
 fun k cs t fr _ _ h3 h4 => h.kept k _ h4 (by simp only [inTs]; exact ht t h3)
theorem KeepY.below {w w' : World} (h : Below w.heap.size w w') (ts : List TypeId) (lo hi : Nat) : KeepY ts lo hi w w' := fun k _ _ _ _ _ _ h3 => (h.block k (lt_of_block h3)).trans h3
theorem KeepY.set {ts : List TypeId} {w : World} {lo hi b o : Nat} (h : b < lo ∨ hi ≤ b) (v : Value) : KeepY ts lo hi w (w.setCell ⟨b, o, none⟩ v) := by
 intro k cs t fr h1 h2 _ h3; rw [blk_other _ (by omega)]; exact h3
theorem KeepY.setTy {ts : List TypeId} {w : World} {lo hi b o : Nat} {cs : Array Value} {t : TypeId} {fr : Nat × Nat} (hb : w.heap[b]? = some (.cells cs t fr)) (ht : t ∉ ts) (v : Value) : KeepY ts lo hi w (w.setCell ⟨b, o, none⟩ v) := by
 intro k cs' t' fr' _ _ h3 h4; rw [blk_other]
 ·exact h4
 ·intro e; rw [e, hb] at h4; simp at h4; exact ht (by rw [h4.2.1]; exact h3)
theorem KeepY.grown {ts : List TypeId} {w w' : World} {lo hi base : Nat} {e : TypeId} {size : Nat} {v : Value} {n : Nat} {xs : List Value} (hown : w.ownsRow base e size v n xs) (ht : e ∉ ts) (hg : w.grownBy w' v.ownBlock) : KeepY ts lo hi w w' := by
 intro k cs t fr _ _ h3 h4; exact (hg.block k (lt_of_block h4) (own_ne hown h4 (fun e' => ht (by rw [← e']; exact h3)))).trans h4
theorem KeepY.toT {ts : List TypeId} {lo hi : Nat} {w w' : World} (h : KeepY ts lo hi w w') (ht : 107 ∈ ts) : KeepT lo hi w w' := by
 intro k o h1 h2 h3 h4; cases o with
 | cells cs t fr => simp only [isTr] at h4; subst h4; exact h k cs _ fr h1 h2 ht h3
 | _ => simp [isTr] at h4
theorem owns_mono {w : World} {base base' : Nat} {e : TypeId} {size : Nat} {v : Value} {n : Nat} {xs : List Value} (h : w.ownsRow base e size v n xs) (hb : base' ≤ base) : w.ownsRow base' e size v n xs := by
 refine ⟨h.1, h.2.imp id ?_⟩; rintro ⟨g, cap, cur, e1, e2, e3⟩; exact ⟨g, cap, cur, e1, Nat.le_trans hb e2, e3⟩
def RowIn (lo hi : Nat) (w : World) (e : TypeId) (size : Nat) (v : Value) (n : Nat) (xs : List Value) : Prop := w.ownsRow lo e size v n xs ∧ ∀ g, v.ownBlock = some g → g < hi
theorem RowIn.ofOwn {lo : Nat} {w : World} {e : TypeId} {size : Nat} {v : Value} {n : Nat} {xs : List Value} (h : w.ownsRow lo e size v n xs) : RowIn lo w.heap.size w e size v n xs := ⟨h, fun g hg => (h.lt g hg).2⟩
theorem RowIn.nil (lo hi : Nat) (w : World) (e : TypeId) (size : Nat) : RowIn lo hi w e size (.slice none 0 0) 0 [] := ⟨World.ownsRow_nil w lo e size, fun g hg => by simp [Value.ownBlock] at hg⟩
theorem RowIn.mono {lo hi lo' hi' : Nat} {w : World} {e : TypeId} {size : Nat} {v : Value} {n : Nat} {xs : List Value} (h : RowIn lo hi w e size v n xs) (h1 : lo' ≤ lo) (h2 : hi ≤ hi') : RowIn lo' hi' w e size v n xs :=
 ⟨owns_mono h.1 h1, fun g hg => by have := h.2 g hg; omega⟩
theorem RowIn.keep {lo hi : Nat} {ts : List TypeId} {w w' : World} {e : TypeId} {size : Nat} {v : Value} {n : Nat} {xs : List Value} (h : RowIn lo hi w e size v n xs) (k : KeepY ts lo hi w w') (he : e ∈ ts) : RowIn lo hi w' e size v n xs := by
 refine ⟨⟨h.1.1, h.1.2.imp id ?_⟩, h.2⟩; rintro ⟨g, cap, cur, e1, e2, e3, e4⟩; exact ⟨g, cap, cur, e1, e2, k g cur e (0, 0) e2 (h.2 g (by rw [e1]; rfl)) he e3, e4⟩
def Pairs {α β : Type} (P : α → β → Prop) (l : List α) (m : List β) : Prop := l.length = m.length ∧ ∀ (j : Nat) (x : α) (y : β), l[j]? = some x → m[j]? = some y → P x y
theorem Pairs.nil {α β : Type} (P : α → β → Prop) : Pairs P [] [] := ⟨rfl, fun j x y h => by simp at h⟩
theorem Pairs.imp {α β : Type} {P Q : α → β → Prop} {l : List α} {m : List β} (h : Pairs P l m) (hi : ∀ x y, P x y → Q x y) : Pairs Q l m := ⟨h.1, fun j x y h1 h2 => hi x y (h.2 j x y h1 h2)⟩
theorem Pairs.snoc {α β : Type} {P : α → β → Prop} {l : List α} {m : List β} (h : Pairs P l m) {x : α} {y : β} (hp : P x y) : Pairs P (l ++ [x]) (m ++ [y]) := by
 refine ⟨by simp [h.1], fun j a c ha hc => ?_⟩; rcases Nat.lt_trichotomy j l.length with hj | hj | hj
 ·rw [List.getElem?_append_left hj] at ha; rw [List.getElem?_append_left (by have := h.1; omega)] at hc; exact h.2 j a c ha hc
 ·subst hj; rw [List.getElem?_append_right (Nat.le_refl _)] at ha; rw [List.getElem?_append_right (by have := h.1; omega)] at hc; rw [← h.1] at hc; simp at ha hc; subst ha; subst hc; exact hp
 ·rw [List.getElem?_eq_none (by simp; omega)] at ha; cases ha
structure TR where
 o : ByteArray
 o1 : ByteArray
 x1 : ByteArray
 n1 : Nat
 o2 : ByteArray
 x2 : ByteArray
 n2 : Nat
def TR.cells (r : TR) : List Value := [.string r.o, .string r.o1, .string r.x1, .int .i64 r.n1, .slice none 0 0, .string r.o2, .string r.x2, .int .i64 r.n2, .slice none 0 0]
def TR.ok (r : TR) (t : Wk.PTest) : Prop := testOK t r.o r.o1 r.x1 r.n1 r.o2 r.x2 r.n2
def TR.flat (l : List TR) : List Value := (l.map TR.cells).flatten
theorem TR.flat_snoc (l : List TR) (r : TR) : TR.flat (l ++ [r]) = TR.flat l ++ r.cells := by simp [TR.flat]
def TestsIn (lo hi : Nat) (w : World) (v : Value) (ts : List Wk.PTest) : Prop := ∃ rs, Pairs TR.ok rs ts ∧ RowIn lo hi w 173 9 v rs.length (TR.flat rs)
theorem TestsIn.keep {lo hi : Nat} {ts : List TypeId} {w w' : World} {v : Value} {l : List Wk.PTest} (h : TestsIn lo hi w v l) (k : KeepY ts lo hi w w') (ht : 173 ∈ ts) : TestsIn lo hi w' v l := by
 obtain ⟨rs, h1, h2⟩ := h; exact ⟨rs, h1, h2.keep k ht⟩
theorem TestsIn.mono {lo hi lo' hi' : Nat} {w : World} {v : Value} {l : List Wk.PTest} (h : TestsIn lo hi w v l) (h1 : lo' ≤ lo) (h2 : hi ≤ hi') : TestsIn lo' hi' w v l := by
 obtain ⟨rs, g1, g2⟩ := h; exact ⟨rs, g1, g2.mono h1 h2⟩
structure CR where
 no : Bool
 tv : Value
def CR.cells (r : CR) : List Value := [.bool r.no, r.tv]
def CR.ok (lo hi : Nat) (w : World) (r : CR) (c : Wk.PCell) : Prop := r.no = c.no ∧ TestsIn lo hi w r.tv c.tests
def CR.flat (l : List CR) : List Value := (l.map CR.cells).flatten
theorem CR.flat_snoc (l : List CR) (r : CR) : CR.flat (l ++ [r]) = CR.flat l ++ r.cells := by simp [CR.flat]
theorem CR.ok.keep {lo hi : Nat} {ts : List TypeId} {w w' : World} {r : CR} {c : Wk.PCell} (h : CR.ok lo hi w r c) (k : KeepY ts lo hi w w') (ht : 173 ∈ ts) : CR.ok lo hi w' r c := ⟨h.1, h.2.keep k ht⟩
theorem CR.ok.mono {lo hi lo' hi' : Nat} {w : World} {r : CR} {c : Wk.PCell} (h : CR.ok lo hi w r c) (h1 : lo' ≤ lo) (h2 : hi ≤ hi') : CR.ok lo' hi' w r c := ⟨h.1, h.2.mono h1 h2⟩
def CellsIn (lo hi : Nat) (w : World) (v : Value) (cs : List Wk.PCell) : Prop := ∃ rs, Pairs (CR.ok lo hi w) rs cs ∧ RowIn lo hi w 171 2 v rs.length (CR.flat rs)
theorem CellsIn.keep {lo hi : Nat} {ts : List TypeId} {w w' : World} {v : Value} {l : List Wk.PCell} (h : CellsIn lo hi w v l) (k : KeepY ts lo hi w w') (h1 : 173 ∈ ts) (h2 : 171 ∈ ts) : CellsIn lo hi w' v l := by
 obtain ⟨rs, g1, g2⟩ := h; exact ⟨rs, g1.imp (fun _ _ g => g.keep k h1), g2.keep k h2⟩
theorem CellsIn.mono {lo hi lo' hi' : Nat} {w : World} {v : Value} {l : List Wk.PCell} (h : CellsIn lo hi w v l) (h1 : lo' ≤ lo) (h2 : hi ≤ hi') : CellsIn lo' hi' w v l := by
 obtain ⟨rs, g1, g2⟩ := h; exact ⟨rs, g1.imp (fun _ _ g => g.mono h1 h2), g2.mono h1 h2⟩
structure RR where
 cv : Value
 op : ByteArray
 x : ByteArray
 na : Nat
 kv : Value
def RR.cells (r : RR) : List Value := [r.cv, .string r.op, .string r.x, .int .i64 r.na, r.kv]
def RR.ok (lo hi : Nat) (w : World) (r : RR) (p : Wk.PRule) : Prop := CellsIn lo hi w r.cv p.cells ∧ TrI lo hi w (tree r.op r.x r.na r.kv) p.out
def RR.flat (l : List RR) : List Value := (l.map RR.cells).flatten
theorem RR.flat_snoc (l : List RR) (r : RR) : RR.flat (l ++ [r]) = RR.flat l ++ r.cells := by simp [RR.flat]
theorem RR.ok.keep {lo hi : Nat} {w w' : World} {r : RR} {p : Wk.PRule} (h : RR.ok lo hi w r p) (k : KeepY [173, 171, 107] lo hi w w') : RR.ok lo hi w' r p := ⟨h.1.keep k (by decide) (by decide), h.2.keep (k.toT (by decide))⟩
theorem RR.ok.mono {lo hi lo' hi' : Nat} {w : World} {r : RR} {p : Wk.PRule} (h : RR.ok lo hi w r p) (h1 : lo' ≤ lo) (h2 : hi ≤ hi') : RR.ok lo' hi' w r p := ⟨h.1.mono h1 h2, h.2.mono h1 h2⟩
def RulesIn (lo hi : Nat) (w : World) (v : Value) (ps : List Wk.PRule) : Prop := ∃ rs, Pairs (RR.ok lo hi w) rs ps ∧ RowIn lo hi w 166 5 v rs.length (RR.flat rs)
theorem RulesIn.keep {lo hi : Nat} {w w' : World} {v : Value} {l : List Wk.PRule} (h : RulesIn lo hi w v l) (k : KeepY [173, 171, 107, 166] lo hi w w') : RulesIn lo hi w' v l := by
 obtain ⟨rs, g1, g2⟩ := h; exact ⟨rs, g1.imp (fun _ _ g => g.keep (k.mono (by decide) (Nat.le_refl _) (Nat.le_refl _))), g2.keep k (by decide)⟩
theorem RulesIn.mono {lo hi lo' hi' : Nat} {w : World} {v : Value} {l : List Wk.PRule} (h : RulesIn lo hi w v l) (h1 : lo' ≤ lo) (h2 : hi ≤ hi') : RulesIn lo' hi' w v l := by
 obtain ⟨rs, g1, g2⟩ := h; exact ⟨rs, g1.imp (fun _ _ g => g.mono h1 h2), g2.mono h1 h2⟩
structure LR where
 nk : Nat
 nt : ByteArray
 na : Nat
def LR.cells (r : LR) : List Value := [.int .u8 r.nk, .string r.nt, .int .i64 r.na]
def LR.ok (r : LR) (x : Wk.Name × Nat) : Prop := r.nt = ⟨x.1.toArray⟩ ∧ r.na = x.2
def LR.flat (l : List LR) : List Value := (l.map LR.cells).flatten
theorem LR.flat_snoc (l : List LR) (r : LR) : LR.flat (l ++ [r]) = LR.flat l ++ r.cells := by simp [LR.flat]
def ColsIn (lo hi : Nat) (w : World) (v : Value) (cs : List (Wk.Name × Nat)) : Prop := ∃ rs, Pairs LR.ok rs cs ∧ RowIn lo hi w 87 3 v rs.length (LR.flat rs)
theorem ColsIn.mono {lo hi lo' hi' : Nat} {w : World} {v : Value} {l : List (Wk.Name × Nat)} (h : ColsIn lo hi w v l) (h1 : lo' ≤ lo) (h2 : hi ≤ hi') : ColsIn lo' hi' w v l := by
 obtain ⟨rs, g1, g2⟩ := h; exact ⟨rs, g1, g2.mono h1 h2⟩
theorem Tryz.info173 : (Tryz.prog.info? 173).map (fun i => (i.zero, i.size, i.bytes)) = some (some (.agg #[.string ⟨#[]⟩, .string ⟨#[]⟩, .string ⟨#[]⟩, .int .i64 0, .slice none 0 0, .string ⟨#[]⟩, .string ⟨#[]⟩, .int .i64 0, .slice none 0 0]), 9, 144) := by kernel_rfl
theorem Tryz.info171 : (Tryz.prog.info? 171).map (fun i => (i.zero, i.size, i.bytes)) = some (some (.agg #[.bool false, .slice none 0 0]), 2, 32) := by kernel_rfl
theorem Tryz.und164 : Tryz.prog.underlying 164 = some (.slice 171) := by kernel_rfl
theorem Tryz.info166 : (Tryz.prog.info? 166).map (fun i => (i.zero, i.size, i.bytes)) = some (some (.agg #[.slice none 0 0, .string ⟨#[]⟩, .string ⟨#[]⟩, .int .i64 0, .slice none 0 0]), 5, 88) := by kernel_rfl
theorem Tryz.und108 : Tryz.prog.underlying 108 = some (.slice 166) := by kernel_rfl
theorem Tryz.und169 : Tryz.prog.underlying 169 = some (.slice 173) := by kernel_rfl
end Go.Proofs.YtbkaghlklkdmkaaGreatDoor
namespace Go.Proofs.YtbkaghlklkdmkaaGreatDoor
open Go.RowKit
attribute [local go_sem ↓] Go.wp_at_zero Go.wp_at_succ
section
variable {B : Nat} {s : ByteArray} {T : List Wk.Tok}
def cellEnd (w w' : World) (r : Wk.St × Wk.PCell) (e : Ending) : Prop :=
 ∃ (no : Bool) (ad : Option Addr) (n c : Nat), e = .returned (.agg #[.bool no, .slice ad n c]) ∧ (r.1.bad = none → CR.ok w.heap.size w'.heap.size w' ⟨no, .slice ad n c⟩ r.2)
structure CB (B : Nat) (s : ByteArray) (T : List Wk.Tok) (w wr : World) (b : Nat) (q : Wk.St) (no : Bool) (tv : Value) (rs : List TR) : Prop where
 inn : IN B s T w wr b q 0
 res : wr.heap[w.heap.size]? = some (.cells #[.bool false, .slice none 0 0] 171 (0, 0))
 box : wr.heap[w.heap.size + 1]? = some (.cells #[.bool no, tv] 171 (0, 0))
 row : wr.ownsRow (w.heap.size + 2) 173 9 tv rs.length (TR.flat rs)
theorem CB.step {w wr wr' : World} {b : Nat} {q q' : Wk.St} {no : Bool} {tv : Value} {rs : List TR} (h : CB B s T w wr b q no tv rs) (hI : IN B s T wr wr' b q' 0) : CB B s T w wr' b q' no tv rs := by
 refine ⟨h.inn.trans hI, hI.box h.res (by decide) (by decide), hI.box h.box (by decide) (by decide), ?_⟩; rcases h.row with ⟨h1, h2⟩; refine ⟨h1, h2.imp id ?_⟩; rintro ⟨g, cap, cur, e1, e2, e3, e4⟩; exact ⟨g, cap, cur, e1, e2, hI.box e3 (by decide) (by decide), e4⟩
theorem CB.cells {w wr : World} {b : Nat} {q : Wk.St} {no : Bool} {tv : Value} {rs : List TR} (h : CB B s T w wr b q no tv rs) :
  wr.cell? ⟨w.heap.size, 0, none⟩ = some (.bool false) ∧ wr.cell? ⟨w.heap.size, 1, none⟩ = some (.slice none 0 0) ∧ (∀ o, wr.frozen? ⟨w.heap.size, o, none⟩ = false) ∧
  wr.cell? ⟨w.heap.size + 1, 0, none⟩ = some (.bool no) ∧ wr.cell? ⟨w.heap.size + 1, 1, none⟩ = some tv ∧ (∀ o, wr.frozen? ⟨w.heap.size + 1, o, none⟩ = false) :=
 ⟨blk_cell h.res rfl, blk_cell h.res rfl, blk_free h.res, blk_cell h.box rfl, blk_cell h.box rfl, blk_free h.box⟩
theorem cb_end {w wr : World} {b : Nat} {q : Wk.St} {no : Bool} {ad : Option Addr} {n c : Nat} {rs : List TR} (h : CB B s T w wr b q no (.slice ad n c) rs) (r : Wk.St × Wk.PCell) (hr : r.1 = q) (hr2 : q.bad = none → r.2.no = no ∧ Pairs TR.ok rs r.2.tests) (v0 v1 : Value) :
  cellEnd w ((wr.setCell ⟨w.heap.size, 0, none⟩ v0).setCell ⟨w.heap.size, 1, none⟩ v1) r (.returned (.agg #[.bool no, .slice ad n c])) ∧ IN B s T w ((wr.setCell ⟨w.heap.size, 0, none⟩ v0).setCell ⟨w.heap.size, 1, none⟩ v1) b r.1 0 := by
 have hI : IN B s T w ((wr.setCell ⟨w.heap.size, 0, none⟩ v0).setCell ⟨w.heap.size, 1, none⟩ v1) b q 0 :=
  (h.inn.set h.res (by decide) (by decide) (Nat.le_refl _) v0).set (blk_set _ h.res) (by decide) (by decide) (Nat.le_refl _) v1
 have hz : ((wr.setCell ⟨w.heap.size, 0, none⟩ v0).setCell ⟨w.heap.size, 1, none⟩ v1).heap.size = wr.heap.size := by simp [World.setCell]
 refine ⟨⟨no, ad, n, c, rfl, fun hb => ?_⟩, by rw [hr]; exact hI⟩; obtain ⟨h1, h2⟩ := hr2 (by rw [← hr]; exact hb); refine ⟨h1.symm, rs, h2, ?_⟩; rw [hz]; have k : KeepY [173] (w.heap.size + 2) wr.heap.size wr ((wr.setCell ⟨w.heap.size, 0, none⟩ v0).setCell ⟨w.heap.size, 1, none⟩ v1) :=
  (KeepY.set (Or.inl (by omega)) v0).trans (KeepY.set (Or.inl (by omega)) v1)
 exact ((RowIn.ofOwn h.row).keep k (by simp)).mono (by omega) (Nat.le_refl _)
theorem r_cell (hQ : Quoted T) {w0 w : World} (b : Nat) (q : Wk.St) (h : IN B s T w0 w b q 0) :
    Calls Tryz.prog 115 #[.pointer (some ⟨b, 0, none⟩)] w fun e w' => cellEnd w w' (Wk.pCell T q) e ∧ IN B s T w w' b (Wk.pCell T q).1 0 := by
  generalize hF : Wk.pCell T q = FIN; have HF : Hid _ := hF; have HI : Hid (IN B s T w w b q 0) := h.self; have hlt := h.blt; clear h hF; go_enter Tryz.func115, Tryz.ntmps115; go_wp2_with fail; have CB0 : Hid (CB B s T w ((w.alloc (.cells #[.bool false, .slice none 0 0] 171)).alloc (.cells #[.bool false, .slice none 0 0] 171)) b q false (.slice none 0 0) []) := by
    refine ⟨(HI.out.alloc _).alloc _, blk_alloc _ (heap_alloc_new w _), ?_, World.ownsRow_nil _ _ _ _⟩; have := heap_alloc_new (w.alloc (.cells #[.bool false, .slice none 0 0] 171)) (.cells #[.bool false, .slice none 0 0] 171); rw [sz_alloc] at this; exact this
  refine (i_is CB0.out.inn 28 ⟨#[45]⟩).mono ?_; rintro e w1 ⟨rfl, hw1⟩; have CB1 : Hid (CB B s T w w1 b q false (.slice none 0 0) []) := by rw [hw1]; exact CB0.out
  clear hw1 CB0; go_upto_if 11 with fail; go_cut [4] from 9 (fun _ wc => Hid (CB B s T w wc b q false (.slice none 0 0) []) ∧ Hid (FIN = ((Wk.pTests T 4 (if q.isK T 26 then q.adv else q) []).1, ⟨q.isK T 26, (Wk.pTests T 4 (if q.isK T 26 then q.adv else q) []).2⟩)))
  case first =>
    cases K28 : q.isK T 28 with
    | false =>
      have HX : Hid (FIN = ((Wk.pTests T 4 (if q.isK T 26 then q.adv else q) []).1, ⟨q.isK T 26, (Wk.pTests T 4 (if q.isK T 26 then q.adv else q) []).2⟩)) := by
        show _ = _; rw [← HF.out]; unfold Wk.pCell; rw [K28]; rfl
      go_wp2_with fail; go_meet; exact ⟨CB1, HX⟩
    | true =>
      have hb := Wk.isK_iff.1 K28; obtain ⟨tv0, nk, nt, na, i, n0, xs, g1, g2, g3, g4, g5⟩ := CB1.out.inn.rp; have hn := g5 hb.1; have hlk := hn.lt; have hst := hn.stop (by rw [hb.2]; decide); have hfs := follows_stop HI.out.env.fol hlk (by rw [hb.2]; decide); rw [← hst] at hfs; have HST : Hid (i ≤ s.size ∧ Wk.cut s i = Wk.tokK T (q.k + 1)) := hfs.2; have HNX : Hid (q.k + 1 < T.length) := hfs.1; have HKB : Hid (q.bad = none ∧ (Wk.tokK T q.k).kind = 28) := hb; obtain ⟨c0, -, -, -, c4, -, -, -, cf⟩ := rp_cells g1; have HG1 : Hid _ := g1; have hbl := lt_of_block g1; have HGd : Hid (Gl w1.drew) := CB1.out.inn.rw.gl.of (Nat.le_refl _) (fun _ _ => rfl); have HGa : Hid (∀ o, Gl (w1.drew.alloc o)) := fun o => HGd.out.of (by simp) (fun k hk => Below.heap_alloc w1.drew o k (by have := HGd.out.size; omega))
      have HK28 : Hid _ := K28; clear g1 g3 g5 hn hst hfs hb K28; go_upto_region 4 with fail; go_cut [5, 6] from 12 (fun v5 v6 wx => ∃ (nc kk : Nat), v5 = .pointer (some ⟨nc, 0, none⟩) ∧ v6 = .int .i64 kk ∧ kk ≤ s.size + 4 ∧ Hid (2 ≤ (Wk.tokK T (q.k + 1)).kind → kk = (Wk.tokK T (q.k + 1)).stop) ∧ w1.heap.size ≤ nc ∧ Below w1.heap.size w1 wx ∧
        wx.heap[nc]? = some (.cells #[.int .u8 (rkind (Wk.tokK T (q.k + 1)).kind true), .string (rtext (Wk.tokK T (q.k + 1)) true), .int .i64 (Wk.tokK T (q.k + 1)).place] 87 (0, 0)))
      case first =>
        refine wp_region_ph (fun w' => w'.cell? ⟨b, 0, none⟩ = some (.string s) ∧ w'.cell? ⟨b, 4, none⟩ = some (.int .i64 i)) 15 15 rfl (by kernel_rfl) ⟨c0, c4⟩ (fun hHeld => ?_); have HS : Hid _ := hHeld; clear hHeld; refine PhS.t 0 13 HS.out ?_; refine PhS.t 1 14 HS.out ?_; refine PhS.t 2 15 HS.out ?_; refine PhS.t 3 16 HS.out ?_; refine PhS.t 4 17 HS.out ?_; refine PhS.t 5 18 HS.out ?_; refine PhS.t 6 19 HS.out ?_; refine PhS.t 7 20 HS.out ?_; refine PhS.twoL (i := 8) (j := 12) (by kernel_rfl) rfl rfl (fun K hK => ?_) (fun K hK => ?_)
        · go_simp; refine (r_cutI s i _ rfl true _ HST.out.1 HI.out.env.short (by first | exact HGd.out | exact HGa.out _)).mono ?_; rintro e w2 ⟨⟨kk, hk1, hk2, rfl⟩, hb2⟩; rw [HST.out.2] at hk2 ⊢; unfold rtok; have HK2 : Hid _ := hk2; have HB2 : Hid _ := hb2; refine hK.out _ _ (fun _ => ?_) ?_
          · have := (hb2.block b hbl).trans HG1.out; exact ⟨blk_cell this rfl, blk_cell this rfl⟩
          have HS2 : Hid (w2.cell? ⟨b, 0, none⟩ = some (.string s) ∧ w2.cell? ⟨b, 4, none⟩ = some (.int .i64 i)) := by
            have := (hb2.block b hbl).trans HG1.out; exact ⟨blk_cell this rfl, blk_cell this rfl⟩
          have hz2 : w1.heap.size ≤ w2.heap.size := hb2.size; clear hb2 hk2 hK K HS; refine PhS.t 9 12 HS2.out ?_; refine PhS.t 10 22 HS2.out ?_; refine PhS.t 11 23 HS2.out ?_; refine PhS.on 12 (fun K hK => ?_); go_simp; refine hK.out _ _ (fun _ => ?_) ?_
          · have h1 : ∀ o, (w2.alloc o).heap[b]? = w2.heap[b]? := fun o => Below.heap_alloc w2 o b (by omega)
            exact ⟨(World.cell?_of_block (w := w2) (h1 _)).trans HS2.out.1, (World.cell?_of_block (w := w2) (h1 _)).trans HS2.out.2⟩
          clear hK K; refine PhS.on 13 (fun K hK => ?_); go_simp; refine hK.out _ _ (fun _ => ?_) ?_
          · have h1 : ∀ o, (w2.alloc o).heap[b]? = w2.heap[b]? := fun o => Below.heap_alloc w2 o b (by omega)
            exact ⟨(World.cell?_of_block (w := w2) (h1 _)).trans HS2.out.1, (World.cell?_of_block (w := w2) (h1 _)).trans HS2.out.2⟩
          clear hK K; refine PhS.on 14 (fun K hK => ?_); go_simp; refine hK.out _ _ (fun _ => ?_) ?_
          · have h1 : ∀ o, (w2.alloc o).heap[b]? = w2.heap[b]? := fun o => Below.heap_alloc w2 o b (by omega)
            exact ⟨(World.cell?_of_block (w := w2) (h1 _)).trans HS2.out.1, (World.cell?_of_block (w := w2) (h1 _)).trans HS2.out.2⟩
          clear hK K; refine PhS.done (by kernel_rfl) ?_ _; go_wp2_with fail; go_meet; exact cutm_a true HB2.out hk1 HK2.out
        · go_simp; refine hK.out _ _ (fun _ => ?_) ?_
          · have h1 : ∀ o, (w1.alloc o).heap[b]? = w1.heap[b]? := fun o => Below.heap_alloc w1 o b hbl
            exact ⟨(World.cell?_of_block (w := w1) (h1 _)).trans c0, (World.cell?_of_block (w := w1) (h1 _)).trans c4⟩
          clear hK K HS; refine PhS.on 8 (fun K hK => ?_); go_simp; refine (r_cutI s i _ rfl true _ HST.out.1 HI.out.env.short (by first | exact HGd.out | exact HGa.out _)).mono ?_; rintro e w2 ⟨⟨kk, hk1, hk2, rfl⟩, hb2⟩; rw [HST.out.2] at hk2 ⊢; unfold rtok; have HK2 : Hid _ := hk2; have HB2 : Hid _ := hb2; refine hK.out _ _ (fun _ => ?_) ?_
          · have h1 : ∀ o, (w1.alloc o).heap[b]? = w1.heap[b]? := fun o => Below.heap_alloc w1 o b hbl
            have := (hb2.block b (by show b < (w1.alloc _).heap.size; rw [sz_alloc]; omega)).trans ((h1 _).trans HG1.out); exact ⟨blk_cell this rfl, blk_cell this rfl⟩
          have HS2 : Hid (w2.cell? ⟨b, 0, none⟩ = some (.string s) ∧ w2.cell? ⟨b, 4, none⟩ = some (.int .i64 i)) := by
            have h1 : ∀ o, (w1.alloc o).heap[b]? = w1.heap[b]? := fun o => Below.heap_alloc w1 o b hbl
            have := (hb2.block b (by show b < (w1.alloc _).heap.size; rw [sz_alloc]; omega)).trans ((h1 _).trans HG1.out); exact ⟨blk_cell this rfl, blk_cell this rfl⟩
          have t5 := (hb2.block w1.heap.size (by show _ < (w1.alloc _).heap.size; rw [sz_alloc]; omega)).trans (heap_alloc_new w1 _); have b0 := bc 0 t5 rfl; have b1 := bc 1 t5 rfl; have b2 := bc 2 t5 rfl; have bf := blk_free t5; have hne : w1.heap.size ≠ b := by omega
          clear hb2 hk2 hK K t5; refine PhS.t 9 12 HS2.out ?_; refine PhS.t 10 22 HS2.out ?_; refine PhS.t 11 23 HS2.out ?_; refine PhS.on 13 (fun K hK => ?_); go_simp; have HS3 : Hid (∀ x y z, (((w2.setCell ⟨w1.heap.size, 0, none⟩ x).setCell ⟨w1.heap.size, 1, none⟩ y).setCell ⟨w1.heap.size, 2, none⟩ z).cell? ⟨b, 0, none⟩ = some (.string s) ∧ (((w2.setCell ⟨w1.heap.size, 0, none⟩ x).setCell ⟨w1.heap.size, 1, none⟩ y).setCell ⟨w1.heap.size, 2, none⟩ z).cell? ⟨b, 4, none⟩ = some (.int .i64 i)) := by
            intro x y z; have h1 : (((w2.setCell ⟨w1.heap.size, 0, none⟩ x).setCell ⟨w1.heap.size, 1, none⟩ y).setCell ⟨w1.heap.size, 2, none⟩ z).heap[b]? = w2.heap[b]? := by
              rw [blk_other _ hne.symm, blk_other _ hne.symm, blk_other _ hne.symm]
            exact ⟨(World.cell?_of_block (w := w2) h1).trans HS2.out.1, (World.cell?_of_block (w := w2) h1).trans HS2.out.2⟩
          refine hK.out _ _ (fun _ => HS3.out _ _ _) ?_; clear hK K; refine PhS.on 14 (fun K hK => ?_); go_simp; refine hK.out _ _ (fun _ => HS3.out _ _ _) ?_; clear hK K; refine PhS.done (by kernel_rfl) ?_ _; go_wp2_with fail; go_meet; exact cutm_b true HB2.out hk1 HK2.out
      case rest =>
        obtain ⟨W2, hW2⟩ : ∃ W, W = wc := ⟨_, rfl⟩
        subst hW2; obtain ⟨nc, kk, rfl, rfl, hk1, HK, hnc, hb3, hcblk⟩ := hcut; have a0 := bc 0 hcblk rfl; have CB2 : Hid (CB B s T w W2 b q false (.slice none 0 0) []) := ⟨CB1.out.inn.below hb3, (hb3.block _ (lt_of_block CB1.out.res)).trans CB1.out.res, (hb3.block _ (lt_of_block CB1.out.box)).trans CB1.out.box, World.ownsRow_nil _ _ _ _⟩
        have hadv : q.adv = ⟨q.k + 1, none⟩ := by simp [Wk.St.adv, HKB.out.1]
        clear hcblk hb3 c0 c4 cf; by_cases h34 : (Wk.tokK T (q.k + 1)).kind = 3 ∨ (Wk.tokK T (q.k + 1)).kind = 4
        · have d48 : ((rkind (Wk.tokK T (q.k + 1)).kind true : Int) != 48) = false := by
            rcases h34 with h | h <;> rw [h] <;> rfl
          have HX : Hid (FIN = ((Wk.pTests T 4 (if q.isK T 26 then q.adv else q) []).1, ⟨q.isK T 26, (Wk.pTests T 4 (if q.isK T 26 then q.adv else q) []).2⟩)) := by
            show _ = _; have hin : q.adv.isIn T [3, 4] = true := Wk.isIn_iff.2 ⟨by rw [hadv], by rw [hadv]; simpa using h34⟩; rw [← HF.out]; unfold Wk.pCell; rw [HK28.out, hin]; rfl
          clear h34 hadv; go_wp2_with fail; go_meet; exact ⟨CB2, HX⟩
        · have d48 : ((rkind (Wk.tokK T (q.k + 1)).kind true : Int) != 48) = true := by
            rw [bne_iff_ne]; generalize (Wk.tokK T (q.k + 1)).kind = z at *
            unfold rkind; repeat' split
            all_goals omega
          have HX : Hid (FIN = (q.adv, ⟨false, []⟩)) := by
            show _ = _; have hin : q.adv.isIn T [3, 4] = false := by
              rw [← Bool.not_eq_true]; intro e; have := (Wk.isIn_iff.1 e).2; rw [hadv] at this; exact h34 (by simpa using this)
            rw [← HF.out]; unfold Wk.pCell; rw [HK28.out, hin]; rfl
          clear h34 hadv; go_wp2_with fail; refine (i_take CB2.out.inn).mono ?_; rintro e w3 ⟨⟨nk5, nt5, na5, rfl, -, -⟩, hI3⟩; rw [takeS_adv HK28.out (by decide) (by decide)] at hI3; have CB3 : Hid (CB B s T w w3 b q.adv false (.slice none 0 0) []) := CB2.out.step hI3; obtain ⟨y0, y1, yf, z0, z1, zf⟩ := CB3.out.cells; clear hI3 a0; go_wp2_with fail; refine bodyPost_ret (v := .agg #[.bool false, .slice none 0 0]) (by simp [results, Tryz.results115, go_sem, y0, y1]) rfl ?_; exact cb_end CB3.out FIN (by rw [HX.out]) (fun _ => by rw [HX.out]; exact ⟨rfl, Pairs.nil _⟩) _ _
  case rest =>
    obtain ⟨W1, hW1⟩ : ∃ W, W = wc := ⟨_, rfl⟩
    subst hW1; obtain ⟨CB2, HX⟩ := hcut; clear CB1; obtain ⟨-, -, -, z0, z1, zf⟩ := CB2.out.cells; go_wp2_with fail; refine (i_is CB2.out.inn 26 ⟨#[110, 111, 116]⟩).mono ?_; rintro e w2 ⟨rfl, hw2⟩; rw [hw2]; clear hw2; obtain ⟨no, hno⟩ : ∃ x, x = q.isK T 26 := ⟨_, rfl⟩
    rw [← hno]; have HNO : Hid _ := hno; clear hno; go_upto_if 34 with fail; have CB3 : Hid (CB B s T w (W1.setCell ⟨w.heap.size + 1, 0, none⟩ (.bool no)) b q no (.slice none 0 0) []) := by
      refine ⟨CB2.out.inn.set CB2.out.box (by decide) (by decide) (by omega) _, ?_, ?_, World.ownsRow_nil _ _ _ _⟩
      · rw [blk_other _ (by omega)]; exact CB2.out.res
      · rw [blk_set _ CB2.out.box]; rfl
    generalize W1.setCell ⟨w.heap.size + 1, 0, none⟩ (.bool no) = W2 at *
    clear z0 z1 zf CB2; generalize hFT : Wk.pTests T 4 (if q.isK T 26 then q.adv else q) [] = FINT at *
    have HFT : Hid _ := hFT; clear hFT; go_cut [] from 9 (fun wc => ∃ q1, Hid (CB B s T w wc b q1 no (.slice none 0 0) []) ∧ Hid (Wk.pTests T 4 q1 [] = FINT))
    case first =>
      cases no with
      | false =>
        have HQ1 : Hid (Wk.pTests T 4 q [] = FINT) := by
          have h1 := HFT.out; rw [← HNO.out] at h1; exact h1
        go_wp2_with fail; go_meet; exact ⟨_, CB3, HQ1⟩
      | true =>
        have HQ1 : Hid (Wk.pTests T 4 q.adv [] = FINT) := by
          have h1 := HFT.out; rw [← HNO.out] at h1; exact h1
        go_wp2_with fail; refine (i_take CB3.out.inn).mono ?_; rintro e w3 ⟨⟨nk5, nt5, na5, rfl, -, -⟩, hI3⟩; rw [takeS_adv HNO.out.symm (by decide) (by decide)] at hI3; have CB4 : Hid (CB B s T w w3 b q.adv true (.slice none 0 0) []) := CB3.out.step hI3; clear hI3; go_wp2_with fail; go_meet; exact ⟨_, CB4, HQ1⟩
    case rest =>
      obtain ⟨W3, hW3⟩ : ∃ W, W = wc := ⟨_, rfl⟩
      subst hW3; obtain ⟨q1, CB4, HQ1⟩ := hcut; clear CB3 HFT; go_wp2_with fail; go_loopg [7] 4 (fun gk _ wr => ∃ (q' : Wk.St) (ts : List Wk.PTest) (tv : Value) (rs : List TR), Hid (CB B s T w wr b q' no tv rs) ∧ Hid (Pairs TR.ok rs ts) ∧ Hid (Wk.pTests T gk q' ts = FINT) ∧ Hid (gk + rs.length = 4 ∧ 0 < gk))
      case atStart => exact ⟨_, [], _, [], CB4, Pairs.nil _, HQ1, ⟨rfl, by decide⟩⟩
      case round =>
        obtain ⟨q', ts, tv, rs, CBr, HPR, HPT, HGK⟩ := hrel; obtain ⟨wo, rfl⟩ : ∃ wo : World, wo = wr := ⟨_, rfl⟩
        clear CB4 HQ1; have hgk := HGK.out.1; have hgp := HGK.out.2; obtain ⟨ad, cc, rfl, hcc⟩ := owns_slice CBr.out.row; have c6 := CBr.out.inn.badc; obtain ⟨y0, y1, yf, z0, z1, zf⟩ := CBr.out.cells; cases hb : q'.bad with
        | some pl =>
          have hsm : q'.bad.isSome := by rw [hb]; rfl
          have h0 := badI_some hsm; have HE : Hid (FIN.1 = q') := by
            show _ = _; rw [HX.out, ← HPT.out]; exact Wk.pTests_bad T hsm _ _
          have HBN : Hid (q'.bad = none → False) := fun e => by rw [hb] at e; cases e
          clear hb hsm; generalize badI q' = z at *
          go_wp2_with fail; refine bodyPost_ret (v := .agg #[.bool no, .slice ad rs.length cc]) (by simp [results, Tryz.results115, go_sem, y0, y1]) rfl ?_; exact cb_end CBr.out FIN HE.out (fun e => (HBN.out e).elim) _ _
        | none =>
          rw [badI_none hb] at c6; have HB : Hid _ := hb; clear hb; go_wp2_with fail; refine (r_test hQ b q' CBr.out.inn.self).mono ?_; rintro e w5 ⟨⟨o, o1, x1, n1, o2, x2, n2, rfl, ht5⟩, hI5⟩; have CB5 : Hid (CB B s T w w5 b (Wk.pTest T q').1 no (.slice ad rs.length cc) rs) := CBr.out.step hI5; have HT5 : Hid _ := ht5; clear hI5 ht5 y0 y1 yf z0 z1 zf c6; obtain ⟨y0, y1, yf, z0, z1, zf⟩ := CB5.out.cells; have lX : w.heap.size + 1 < w5.heap.size := lt_of_block CB5.out.box; have lb : b < w5.heap.size := CB5.out.inn.blt; obtain ⟨i0, hi0, hz0, hz1, hz2⟩ := info_parts Tryz.info173; have HOW : Hid (∀ o o', ((w5.alloc o).alloc o').ownsRow (w.heap.size + 2) 173 9 (.slice ad rs.length cc) rs.length (TR.flat rs)) := fun o o' => owns_below CB5.out.row (two_bel w5 o o')
          have HNB : Hid (∀ o o', ((w5.alloc o).alloc o').heap[w5.heap.size + 1]? = some o') := fun o o' => (below_two (Below.refl _ ((w5.alloc o).alloc o'))).2.2.1
          have HXX : Hid (∀ o o' w6, ((w5.alloc o).alloc o').grownBy w6 (Value.slice ad rs.length cc).ownBlock → IN B s T w w6 b (Wk.pTest T q').1 0 ∧ w6.heap[w.heap.size]? = some (.cells #[.bool false, .slice none 0 0] 171 (0, 0)) ∧ w6.heap[w.heap.size + 1]? = some (.cells #[.bool no, .slice ad rs.length cc] 171 (0, 0)) ∧ w5.heap.size < w6.heap.size) := by
            intro o o' w6 hg; have hw := two_bel w5 o o'; have h2 := CB5.out.inn.below hw; have r1 := (hw.block _ (lt_of_block CB5.out.res)).trans CB5.out.res; have r2 := (hw.block _ (lt_of_block CB5.out.box)).trans CB5.out.box; refine ⟨h2.grown (owns_mono (HOW.out o o') (by omega)) (by decide) (by decide) hg, ?_, ?_, ?_⟩
            · exact (hg.block _ (lt_of_block r1) (own_ne (HOW.out o o') r1 (by decide))).trans r1
            · exact (hg.block _ (lt_of_block r2) (own_ne (HOW.out o o') r2 (by decide))).trans r2
            · have := hg.size; rw [sz_alloc, sz_alloc] at this; omega
          unfold testV; go_wp2_with first
            | (at_builtin; refine wpList_append_lies _ (by rfl) (.tmp 45) (.tmp 47) 169 (by rfl) (w.heap.size + 2) 173 i0 _ 9 144 Tryz.und169 hi0 hz0 hz1 hz2 (by rfl) (by omega) (.slice ad rs.length cc) rs.length (TR.flat rs) (by simp [Act.eval]) (HOW.out _ _) ⟨w5.heap.size + 1, 0, none⟩ 1 1 (TR.cells ⟨o, o1, x1, n1, o2, x2, n2⟩) (by simp [Act.eval]) (by rfl) (World.news_of_block (cs := (TR.cells ⟨o, o1, x1, n1, o2, x2, n2⟩).toArray) (HNB.out _ _)) (by intro u hu; simp [TR.cells] at hu; rcases hu with rfl | rfl | rfl | rfl | rfl | rfl | rfl | rfl | rfl <;> rfl) (by omega) (by unfold maxLen; omega) (by omega) (by rw [sz_alloc, sz_alloc]; omega) (w5.heap.size + 2) (by simp) ?_
               intro g cap w6 hown6 hgrow6 hat6 hlt6; obtain ⟨hI6, hr6, hx6, hs6⟩ := HXX.out _ _ _ hgrow6; have y0 := bc 0 hr6 rfl; have y1 := bc 1 hr6 rfl; have yf := blk_free hr6; have z0 := bc 0 hx6 rfl; have z1 := bc 1 hx6 rfl; have zf := blk_free hx6; have HI6 : Hid _ := hI6; have HR6 : Hid _ := hr6; have HX6 : Hid _ := hx6; have HO6 : Hid _ := hown6; clear hown6 hgrow6 hat6 hlt6 hI6 hr6 hx6)
            | fail
          generalize hW6 : w6.setCell ⟨w.heap.size + 1, 1, none⟩ (.slice (some ⟨g, 0, none⟩) (rs.length + 1) cap) = W6; have hnX : w.heap.size ≠ w.heap.size + 1 := by omega
          have CB7 : Hid (CB B s T w W6 b (Wk.pTest T q').1 no (.slice (some ⟨g, 0, none⟩) (rs.length + 1) cap) (rs ++ [⟨o, o1, x1, n1, o2, x2, n2⟩])) := by
            refine ⟨?_, ?_, ?_, ?_⟩
            · rw [← hW6]; exact HI6.out.set HX6.out (by decide) (by decide) (by omega) _
            · rw [← hW6, blk_other _ hnX]; exact HR6.out
            · rw [← hW6, blk_set _ HX6.out]; rfl
            · rw [← hW6, List.length_append, TR.flat_snoc]; exact owns_other HO6.out HX6.out (by decide) _
          clear hW6 HI6 HR6 HX6 HO6 y0 y1 yf z0 z1 zf HOW HXX HNB hz0 hz1 hz2 hi0 hs6; obtain ⟨y0, y1, yf, z0, z1, zf⟩ := CB7.out.cells; have HPR7 : Hid ((Wk.pTest T q').1.bad = none → Pairs TR.ok (rs ++ [⟨o, o1, x1, n1, o2, x2, n2⟩]) (ts ++ [(Wk.pTest T q').2])) := fun e => HPR.out.snoc (HT5.out e)
          have HPT2 : Hid (Wk.pTests T gk q' ts = if 0 < gk - 1 && (Wk.pTest T q').1.isK T 30 then Wk.pTests T (gk - 1) (Wk.pTest T q').1.adv (ts ++ [(Wk.pTest T q').2]) else ((Wk.pTest T q').1, ts ++ [(Wk.pTest T q').2])) := by
            show _ = _; rw [show gk = (gk - 1) + 1 by omega, Wk.pTests]; simp
          rw [HPT.out] at HPT2; have hrl : (rs ++ [(⟨o, o1, x1, n1, o2, x2, n2⟩ : TR)]).length = rs.length + 1 := by simp
          generalize hrs7 : rs ++ [(⟨o, o1, x1, n1, o2, x2, n2⟩ : TR)] = rs7 at *
          clear hrs7; have HRL : Hid _ := hrl; clear hrl; cases hc : (Wk.pTest T q').1.isK T 30 with
          | false =>
            rw [hc] at HPT2; have HE : Hid (FINT = ((Wk.pTest T q').1, ts ++ [(Wk.pTest T q').2])) := by
              show _ = _; rw [HPT2.out]; simp
            refine (i_is CB7.out.inn 30 ⟨#[47]⟩).mono ?_; rintro e w7 ⟨rfl, rfl⟩; rw [hc]; go_wp2_with fail; refine bodyPost_ret (v := .agg #[.bool no, .slice (some ⟨g, 0, none⟩) (rs.length + 1) cap]) (by simp [results, Tryz.results115, go_sem, y0, y1]) rfl ?_; exact cb_end CB7.out FIN (by rw [HX.out, HE.out]) (fun e => by rw [HX.out, HE.out]; exact ⟨HNO.out.symm, HPR7.out e⟩) _ _
          | true =>
            have HC : Hid _ := hc; rw [hc] at HPT2; refine (i_is CB7.out.inn 30 ⟨#[47]⟩).mono ?_; rintro e w7 ⟨rfl, rfl⟩; rw [hc]; clear hc; by_cases h5 : rs.length = 3
            · have HE : Hid (FINT = ((Wk.pTest T q').1, ts ++ [(Wk.pTest T q').2])) := by
                show _ = _; rw [HPT2.out, show gk - 1 = 0 by omega]; simp
              have d5 : ((rs.length : Int) + 1 == 4) = true := by rw [beq_iff_eq]; omega
              clear h5; go_wp2_with fail; refine bodyPost_ret (v := .agg #[.bool no, .slice (some ⟨g, 0, none⟩) (rs.length + 1) cap]) (by simp [results, Tryz.results115, go_sem, y0, y1]) rfl ?_; exact cb_end CB7.out FIN (by rw [HX.out, HE.out]) (fun e => by rw [HX.out, HE.out]; exact ⟨HNO.out.symm, HPR7.out e⟩) _ _
            · have d5 : ((rs.length : Int) + 1 == 4) = false := by rw [beq_eq_false_iff_ne]; omega
              have h1 : 0 < gk - 1 := by omega
              have HE : Hid (Wk.pTests T (gk - 1) (Wk.pTest T q').1.adv (ts ++ [(Wk.pTest T q').2]) = FINT) := by
                show _ = _; rw [HPT2.out]; simp [h1]
              clear h5; go_wp2_with fail; refine (i_take CB7.out.inn).mono ?_; rintro e w8 ⟨⟨nk8, nt8, na8, rfl, -, -⟩, hI8⟩; rw [takeS_adv HC.out (by decide) (by decide)] at hI8; have CB8 : Hid (CB B s T w w8 b (Wk.pTest T q').1.adv no (.slice (some ⟨g, 0, none⟩) (rs.length + 1) cap) rs7) := CB7.out.step hI8; have HP8 : Hid (Pairs TR.ok rs7 (ts ++ [(Wk.pTest T q').2])) := HPR7.out (Wk.isK_iff.1 HC.out).1; have HLL : Hid (gk - 1 + rs7.length = 4 ∧ 0 < gk - 1) := ⟨by rw [HRL.out]; omega, h1⟩
              clear hI8; go_wp2_with fail; go_roundg (gk - 1); case measure => omega
              case rel => exact ⟨_, _, _, _, CB8, HP8, HE, HLL⟩
end
end Go.Proofs.YtbkaghlklkdmkaaGreatDoor
