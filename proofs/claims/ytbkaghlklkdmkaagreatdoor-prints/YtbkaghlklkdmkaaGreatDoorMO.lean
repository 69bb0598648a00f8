/-
  A region that draws its order, in two phases: what is read in the first phase may be taken first, though the second phase writes it.
-/
import Derived.OrdersHeld
import Derived.Deep.RegionHeld
set_option maxRecDepth 100000
set_option maxHeartbeats 8000000
namespace Go.Proofs.YtbkaghlklkdmkaaGreatDoor
open Go
theorem sA {α : Type _} (l : List α) (i : Nat) (x : α) : l.toArray.setIfInBounds i x = (l.set i x).toArray := by rw [List.setIfInBounds_toArray]
theorem sZ {α : Type _} (x y : α) (l : List α) : (x :: l).set 0 y = y :: l := rfl
theorem sS {α : Type _} (x y : α) (l : List α) (i : Nat) : (x :: l).set (i + 1) y = x :: l.set i y := rfl
section
variable {P : Program} {ops : Array Oper} {Q : Exit → Act → World → Prop} {md : Region.Mode} {S : World → Prop} {n : Nat}
def PhS (P : Program) (md : Region.Mode) (ops : Array Oper) (Q : Exit → Act → World → Prop) (S : World → Prop) (n : Nat) : Nat → Array Bool → Act → World → Prop
 | 0, listed, a, w => Region.ready md ops listed = [] ∧ Q .normal a w
 | f + 1, listed, a, w => (Region.ready md ops listed = [] → Q .normal a w) ∧
   ∀ i ∈ Region.ready md ops listed, wpOp P ops Q i (fun a' w' => (i < n → S w') ∧ PhS P md ops Q S n f (listed.setIfInBounds i true) a' w') a w
theorem PhS.any : ∀ (f : Nat) (listed : Array Bool) (a : Act) (w : World), PhS P md ops Q S n f listed a w → wpAny P md ops Q f listed a w := by
 intro f; induction f with
 | zero => exact fun _ _ _ h => h
 | succ f ih => exact fun listed a w h => ⟨h.1, fun i hi => wpOp_mono (fun a' w' k => ih _ a' w' k.2) (h.2 i hi)⟩
def waitsOn (md : Region.Mode) (ops : Array Oper) (i j : Nat) : Bool := (ops[j]?).elim false fun o => o.after.toList.any fun e => Region.binds md e && e.on == i
def Early (md : Region.Mode) (ops : Array Oper) (n i : Nat) : Bool := (List.range ops.size).all fun j => decide (j < n) || waitsOn md ops i j
theorem Early.lt {i j : Nat} {listed : Array Bool} (h : Early md ops n i = true) (hi : i ∈ Region.ready md ops listed) (hj : j ∈ Region.ready md ops listed) : j < n := by
 obtain ⟨_, o, ho, hall⟩ := mem_ready.1 hj; have hlt : j < ops.size := (Array.getElem?_eq_some_iff.1 ho).1; have h1 := List.all_eq_true.1 h j (List.mem_range.2 hlt); rw [Bool.or_eq_true, decide_eq_true_eq] at h1; rcases h1 with h1 | h1
 ·exact h1
 ·exfalso; unfold waitsOn at h1; rw [ho] at h1; obtain ⟨e, he, h4⟩ := List.any_eq_true.1 h1; rw [Bool.and_eq_true, beq_iff_eq] at h4; obtain ⟨hb, hon⟩ := h4; have h2 := hall e (Array.mem_toList_iff.1 he) hb; have h3 := (mem_ready.1 hi).1; rw [hon] at h2; rcases Nat.lt_or_ge i listed.size with hs | hs
  ·simp [hs] at h2 h3; rw [h2] at h3; cases h3
  ·simp [Array.getElem?_eq_none hs] at h2
theorem PhS.first {i : Nat} {oi : Oper} {v : Value} (hi : ops[i]? = some oi) (hsel : Region.noSelect ops = true) (hE : Early md ops n i = true)
  (hQ : ∀ c a w, Q (.panic c) (a.put oi.dst v) w → Q (.panic c) a w) :
  ∀ (f : Nat) (listed : Array Bool) (a : Act) (w : World),
   (∀ j oj, ops[j]? = some oj → j ≠ i → listed.getD j true = false → (∀ e ∈ oj.after, Region.binds md e = true → e.on ≠ i) → oi.apart ops oj = true) →
   i ∈ Region.ready md ops listed → YieldsIf P ops S oi v a → S w →
   PhS P md ops Q S n f (listed.setIfInBounds i true) (a.put oi.dst v) w → PhS P md ops Q S n (f + 1) listed a w := by
 have hs := Region.noSelect_spec hsel; intro f; induction f with
 | zero =>
  intro listed a w _ hr hy hS H; refine ⟨fun h => absurd hr (by rw [h]; simp), fun j hj => ?_⟩; by_cases e : j = i
  ·subst e; exact hy.wpOp hi hS ⟨fun _ => hS, H⟩
  ·have := ready_mono hj e; rw [H.1] at this; cases this
 | succ f ih =>
  intro listed a w hfree hr hy hS H; refine ⟨fun h => absurd hr (by rw [h]; simp), fun j hj => ?_⟩; by_cases e : j = i
  ·subst e; exact hy.wpOp hi hS ⟨fun _ => hS, H⟩
  ·obtain ⟨hun, oj, hoj, hall⟩ := mem_ready.1 hj; have hnw : ∀ x ∈ oj.after, Region.binds md x = true → x.on ≠ i := by
    intro x hx hb he; have h1 := hall x hx hb; have h0 := (mem_ready.1 hr).1; rw [he] at h1; rcases Nat.lt_or_ge i listed.size with h' | h'
    ·simp [h'] at h0 h1; rw [h1] at h0; cases h0
    ·simp [Array.getElem?_eq_none h'] at h1
   have h2 := wpOp_putIf hoj (hfree j oj hoj e hun hnw) (fun cs b => hs i oi cs b hi) (fun cs b => hs j oj cs b hoj) hQ hy (H.2 j (ready_mono hj e)); refine wpOp_mono (fun a' w' h3 => ⟨h3.2.1, ?_⟩) h2; refine ih (listed.setIfInBounds j true) a' w' (fun k ok hk hki hku hkn => hfree k ok hk hki ?_ hkn) (ready_mono hr (Ne.symm e)) h3.1 (h3.2.1 (Early.lt hE hr hj)) ?_
   ·by_cases e2 : j = k
    ·subst e2; exact hun
    ·rw [getD_set_ne true e2] at hku; exact hku
   ·rw [Array.setIfInBounds_comm _ _ e]; exact h3.2.2
theorem PhS.take {i : Nat} {oi : Oper} {v : Value} {f : Nat} {listed : Array Bool} {a : Act} {w : World} (hi : ops[i]? = some oi) (hsel : Region.noSelect ops = true) (hE : Early md ops n i = true) (hf : Region.free md ops listed i = true)
  (hr : (Region.ready md ops listed).contains i = true) (hQ : ∀ c a w, Q (.panic c) (a.put oi.dst v) w → Q (.panic c) a w) (hS : S w) (hw : Region.wanted oi (yielded ops a.tmps) = true) (hy : ∀ w, S w → (execOp a.eval oi).run P w = .ok (.value v) w)
  (h : PhS P md ops Q S n f (listed.setIfInBounds i true) (a.put oi.dst v) w) : PhS P md ops Q S n (f + 1) listed a w :=
 PhS.first hi hsel hE hQ f listed a w (Region.free_spec hi hf) (by simpa using hr) (Or.inl ⟨hw, hy⟩) hS h
theorem PhS.one {i : Nat} {o : Oper} {f : Nat} {listed : Array Bool} {a : Act} {w : World} (hr : Region.ready md ops listed = [i]) (ho : ops[i]? = some o)
  (h : ∀ K : Act → World → Prop, Shut (∀ a w, (i < n → S w) → PhS P md ops Q S n f (listed.setIfInBounds i true) a w → K a w) → if Region.wanted o (yielded ops a.tmps) = true then Oper.wp P o a w K Q else K (a.put o.dst undef) w) : PhS P md ops Q S n (f + 1) listed a w := by
 refine ⟨fun h0 => (by rw [hr] at h0; cases h0), fun j hj => ?_⟩; rw [hr] at hj; have e : j = i := by simpa using hj
 subst e; exact wpOp_step ho (fun K hK => h K (fun a w hS hW => hK a w ⟨hS, hW⟩))
theorem PhS.done {listed : Array Bool} {a : Act} {w : World} (hr : Region.ready md ops listed = []) (h : Q .normal a w) : ∀ f, PhS P md ops Q S n f listed a w
 | 0 => ⟨hr, h⟩
 | _ + 1 => ⟨fun _ => h, by rw [hr]; simp⟩
theorem PhS.takeL {l : List Oper} {i : Nat} {oi : Oper} {d : Option Tmp} {v : Value} {f : Nat} {listed : Array Bool} {a : Act} {w : World} (hi : l[i]? = some oi) (hd : oi.dst = d) (hsel : Region.noSelect l.toArray = true) (hE : Early md l.toArray n i = true) (hf : Region.free md l.toArray listed i = true)
  (hr : (Region.ready md l.toArray listed).contains i = true) (hQ : ∀ c a w, Q (.panic c) (a.put d v) w → Q (.panic c) a w) (hS : S w) (hw : Region.wanted oi (yielded l.toArray a.tmps) = true) (hy : ∀ w, S w → (execOp a.eval oi).run P w = .ok (.value v) w)
  (h : PhS P md l.toArray Q S n f (listed.setIfInBounds i true) (a.put d v) w) : PhS P md l.toArray Q S n (f + 1) listed a w := by
 subst hd; exact PhS.take (by simpa using hi) hsel hE hf hr hQ hS hw hy h
theorem PhS.oneL {l : List Oper} {i : Nat} {o : Oper} {f : Nat} {listed : Array Bool} {a : Act} {w : World} (hr : Region.ready md l.toArray listed = [i]) (ho : l[i]? = some o)
  (h : ∀ K : Act → World → Prop, Shut (∀ a w, (i < n → S w) → PhS P md l.toArray Q S n f (listed.setIfInBounds i true) a w → K a w) → if Region.wanted o (yielded l.toArray a.tmps) = true then Oper.wp P o a w K Q else K (a.put o.dst undef) w) : PhS P md l.toArray Q S n (f + 1) listed a w :=
 PhS.one hr (by simpa using ho) h
theorem PhS.twoL {l : List Oper} {i j : Nat} {o p : Oper} {f : Nat} {listed : Array Bool} {a : Act} {w : World} (hr : Region.ready md l.toArray listed = [i, j]) (ho : l[i]? = some o) (hp : l[j]? = some p)
  (h : ∀ K : Act → World → Prop, Shut (∀ a w, (i < n → S w) → PhS P md l.toArray Q S n f (listed.setIfInBounds i true) a w → K a w) → if Region.wanted o (yielded l.toArray a.tmps) = true then Oper.wp P o a w K Q else K (a.put o.dst undef) w)
  (k : ∀ K : Act → World → Prop, Shut (∀ a w, (j < n → S w) → PhS P md l.toArray Q S n f (listed.setIfInBounds j true) a w → K a w) → if Region.wanted p (yielded l.toArray a.tmps) = true then Oper.wp P p a w K Q else K (a.put p.dst undef) w) : PhS P md l.toArray Q S n (f + 1) listed a w := by
 refine ⟨fun h0 => (by rw [hr] at h0; cases h0), fun m hm => ?_⟩; rw [hr] at hm; have e : m = i ∨ m = j := by simpa using hm
 rcases e with e | e
 ·subst e; exact wpOp_step (by simpa using ho) (fun K hK => h K (fun a w hS hW => hK a w ⟨hS, hW⟩))
 ·subst e; exact wpOp_step (by simpa using hp) (fun K hK => k K (fun a w hS hW => hK a w ⟨hS, hW⟩))
theorem wp_region_ph {id : Nat} {a : Act} {w : World} (S : World → Prop) (n f : Nat) (hf : ops.size = f) (hm : P.follows .mixedOrders = true) (hS : S w.drew)
  (h : S w.drew → PhS P .any ops Q S n f (Array.replicate f false) a w.drew) : (Code.region id ops true).wp P Q a w := by
 subst hf; exact wp_region_any hm (PhS.any _ _ _ _ (h hS))
end
section
variable {P : Program} {Q : Exit → Act → World → Prop} {md : Region.Mode} {S : World → Prop} {n : Nat}
theorem PhS.tk {l : List Oper} (i : Nat) (d : Option Tmp) {oi : Oper} {v : Value} {f : Nat} {listed : Array Bool} {a : Act} {w : World} (hS : S w) (hy : ∀ w, S w → (execOp a.eval oi).run P w = .ok (.value v) w)
  (h : PhS P md l.toArray Q S n f (listed.setIfInBounds i true) (a.put d v) w)
  (hi : l[i]? = some oi := by rfl) (hd : oi.dst = d := by rfl) (hsel : Region.noSelect l.toArray = true := by kernel_rfl) (hE : Early md l.toArray n i = true := by kernel_rfl) (hf : Region.free md l.toArray listed i = true := by kernel_rfl)
  (hr : (Region.ready md l.toArray listed).contains i = true := by kernel_rfl) (hQ : ∀ c a w, Q (.panic c) (a.put d v) w → Q (.panic c) a w := by exact fun _ _ _ h => h) (hw : Region.wanted oi (yielded l.toArray a.tmps) = true := by rfl) : PhS P md l.toArray Q S n (f + 1) listed a w :=
 PhS.takeL hi hd hsel hE hf hr hQ hS hw hy h
theorem PhS.sk {l : List Oper} (i : Nat) (d : Option Tmp) {oi : Oper} {f : Nat} {listed : Array Bool} {a : Act} {w : World} (hS : S w)
  (h : PhS P md l.toArray Q S n f (listed.setIfInBounds i true) (a.put d undef) w)
  (hi : l[i]? = some oi := by rfl) (hd : oi.dst = d := by rfl) (hsel : Region.noSelect l.toArray = true := by kernel_rfl) (hE : Early md l.toArray n i = true := by kernel_rfl) (hf : Region.free md l.toArray listed i = true := by kernel_rfl)
  (hr : (Region.ready md l.toArray listed).contains i = true := by kernel_rfl) (hQ : ∀ c a w, Q (.panic c) (a.put d undef) w → Q (.panic c) a w := by exact fun _ _ _ h => h) (hw : Region.wanted oi (yielded l.toArray a.tmps) = false := by rfl) : PhS P md l.toArray Q S n (f + 1) listed a w := by
 subst hd; have hi' : l.toArray[i]? = some oi := by simpa using hi
 exact PhS.first hi' hsel hE hQ f listed a w (Region.free_spec hi' hf) (by simpa using hr) (Or.inr ⟨hw, rfl⟩) hS h
theorem PhS.on {l : List Oper} (i : Nat) {o : Oper} {f : Nat} {listed : Array Bool} {a : Act} {w : World}
  (h : ∀ K : Act → World → Prop, Shut (∀ a w, (i < n → S w) → PhS P md l.toArray Q S n f (listed.setIfInBounds i true) a w → K a w) → if Region.wanted o (yielded l.toArray a.tmps) = true then Oper.wp P o a w K Q else K (a.put o.dst undef) w)
  (hr : Region.ready md l.toArray listed = [i] := by kernel_rfl) (ho : l[i]? = some o := by rfl) : PhS P md l.toArray Q S n (f + 1) listed a w := PhS.oneL hr ho h
theorem PhS.t {l : List Oper} (i d : Nat) {oi : Oper} {v : Value} {f : Nat} {listed : Array Bool} {a a' : Act} {w : World} (hS : S w) (h : PhS P md l.toArray Q S n f (listed.setIfInBounds i true) a' w)
 (hi : l[i]? = some oi := by rfl) (hd : oi.dst = some d := by rfl) (hsel : Region.noSelect l.toArray = true := by kernel_rfl) (hE : Early md l.toArray n i = true := by kernel_rfl) (hf : Region.free md l.toArray listed i = true := by kernel_rfl)
 (hr : (Region.ready md l.toArray listed).contains i = true := by kernel_rfl) (hw : Region.wanted oi (yielded l.toArray a.tmps) = true := by rfl) (hy : ∀ w, S w → (execOp a.eval oi).run P w = .ok (.value v) w := by (intro wS hSw; go_simp; try with_reducible rfl))
 (hQ : ∀ c a w, Q (.panic c) (a.put (some d) v) w → Q (.panic c) a w := by exact fun _ _ _ h => h) (ha : a.put (some d) v = a' := by (simp only [Act.put, sA, sZ, sS]; first | done | rfl)) : PhS P md l.toArray Q S n (f + 1) listed a w := by
 subst ha
 exact PhS.takeL hi hd hsel hE hf hr hQ hS hw hy h
end
end Go.Proofs.YtbkaghlklkdmkaaGreatDoor
