import Derived.Test.YtbkaghlklkdmkaaGreatDoorK4
import Derived.Deep.SlicePairs
import Derived.SizedLaws
import Derived.Test.YtbkaghlklkdmkaaGreatDoorRows
import Derived.OpenShut
import Derived.Lib.LaidU8
import Derived.WalkKit
import Derived.ProofKit
import Derived.Carry
import Derived.Deep.DeepHandedRow
namespace Go.Proofs.YtbkaghlklkdmkaaGreatDoor
open Go.ChangeShapes Go.WideShapes Go.RowKit Go.Deep
theorem Tryz.cells34 : Tryz.prog.cellsOf 34 = 4 := by kernel_rfl
theorem Tryz.bytes34 : Tryz.prog.bytesOf 34 = 48 := by kernel_rfl
theorem Tryz.cellsOf3 : Tryz.prog.cellsOf 3 = 1 := by kernel_rfl
theorem Tryz.cellsOf9 : Tryz.prog.cellsOf 9 = 1 := by kernel_rfl
def Stp.data {H : Type} (y : Stp) : DataW H := .agg [.lit (.int .i64 y.k), .lit (.int .i64 y.a), .lit (.string y.s.data.toList), .lit (.string y.t.data.toList)]
set_option maxRecDepth 100000 in
theorem open_step {H : Type} {enc : TypeId × Value → H} {W : World} {sp : Nat → Bool} {n : Nat} {cs : List Value} {x : DataW H × List MemPlace} (h : DataW.trod enc Tryz.prog W 0 sp true n 34 cs = some x) (hl : cs.length = 4) :
  ∃ y : Stp, cs = [.int .i64 y.k, .int .i64 y.a, .string y.s, .string y.t] ∧ x.1 = y.data := by
 obtain ⟨xs, k, hk, hxy, _, hxl, hf⟩ := DataW.trod_struct Tryz.underlying34 h; have hxl : xs.length = 4 := hxl
 match xs, hxl, cs, hl with
 | [y0, y1, y2, y3], _, [v0, v1, v2, v3], _ =>
  have g0 := hf 0 _ rfl; have g1 := hf 1 _ rfl; have g2 := hf 2 _ rfl; have g3 := hf 3 _ rfl; simp [Tryz.cellsOf3, Tryz.cellsOf9] at g0 g1 g2 g3; obtain ⟨z0, e0, f0, _⟩ := DataW.trod_int Tryz.underlying3 g0; obtain ⟨z1, e1, f1, _⟩ := DataW.trod_int Tryz.underlying3 g1; obtain ⟨z2, e2, f2, _⟩ := DataW.trod_string Tryz.underlying9 g2; obtain ⟨z3, e3, f3, _⟩ := DataW.trod_string Tryz.underlying9 g3; simp only [List.cons.injEq, and_true] at e0 e1 e2 e3; subst e0 e1 e2 e3 f0 f1 f2 f3; exact ⟨⟨z0, z1, z2, z3⟩, rfl, by rw [hxy]; rfl⟩
theorem weight_all {H : Type} {e : TypeId} {d : DataW H} {l : List (DataW H)} (h : d ∈ l) : ∀ n ∈ d.weights Tryz.prog e, n ∈ DataW.weightsAll Tryz.prog e l := by
 induction l with
 | nil => cases h
 | cons x r ih =>
  intro n hn; simp only [DataW.weightsAll, List.mem_append]; rcases List.mem_cons.1 h with rfl | h
  ·exact Or.inl hn
  ·exact Or.inr (ih h n hn)
theorem open_script {H : Type} {enc : TypeId × Value → H} {W : World} {a0 : Option Addr} {len cap fuel : Nat} {x : DataW H × List MemPlace}
  (hf : DataW.trod enc Tryz.prog W 0 (fun _ => true) true fuel 22 [.slice a0 len cap] = some x)
  (hsz : (DataW.weightsEach Tryz.prog [22] [x.1]).all (· ≤ reachBytes) = true) :
  ∃ l : List Stp, StepsAt W (.slice a0 len cap) l ∧ (l.length + 2) * 16 ≤ 140737488355328 ∧ ∀ y ∈ l, y.s.size < 2 ^ 62 := by
 rcases open_slice Tryz.underlying22 hf with ⟨hc, hx⟩ | ⟨a, len', cap', m, n, D, Pl, hcs, _, hl, hm, hmm, hx, hall⟩
 ·simp at hc; obtain ⟨rfl, rfl, rfl⟩ := hc; exact ⟨[], ⟨none, 0, rfl, fun h => absurd h (by decide)⟩, by decide, fun y h => absurd h (by simp)⟩
 ·simp at hcs; obtain ⟨rfl, rfl, rfl⟩ := hcs; simp only [if_true] at hmm; subst hmm; have each : ∀ i, i < m → ∃ y : Stp, (W.cell? (a.add (i * 4)) = some (.int .i64 y.k) ∧ W.cell? (a.add (i * 4 + 1)) = some (.int .i64 y.a) ∧ W.cell? (a.add (i * 4 + 2)) = some (.string y.s) ∧ W.cell? (a.add (i * 4 + 3)) = some (.string y.t)) ∧ D i = y.data := by
   intro i hi; obtain ⟨cs', h1, h2⟩ := hall i hi; rw [Tryz.cells34] at h1; obtain ⟨_, hlen, hcell⟩ := World.cells?_some h1; obtain ⟨y, rfl, hy⟩ := open_step h2 hlen; have e0 := hcell 0 (by omega); have e1 := hcell 1 (by omega); have e2 := hcell 2 (by omega); have e3 := hcell 3 (by omega); rw [add_add] at e0 e1 e2 e3; exact ⟨y, ⟨e0, e1, e2, e3⟩, hy⟩
  have : Inhabited Stp := ⟨⟨0, 0, .empty, .empty⟩⟩
  obtain ⟨q, hq⟩ := choose_lt each; have hlen16 := sized_slice hsz (j := 0) (t := 22) (e := 34) rfl (by rw [hx]; rfl) Tryz.underlying22; rw [Tryz.bytes34] at hlen16; simp only [List.length_map, List.length_range, reachBytes] at hlen16; refine ⟨(List.range len).map q, ⟨some a, m, by simp, fun hp => ?_⟩, by simp; omega, fun y hy => ?_⟩
  ·have hp : 0 < len := by simpa using hp
   obtain ⟨b, off, spot⟩ := a; have hspot : spot = none := by simpa [Addr.add] using World.cell?_spot (hq 0 (by omega)).1.1
   subst hspot; refine ⟨b, off, rfl, fun j y hj => ?_⟩; have hjl : j < len := by have := (List.getElem?_eq_some_iff.1 hj).1; simpa using this
   have hy : q j = y := by
    rw [List.getElem?_map, List.getElem?_range hjl] at hj; simpa using hj
   subst hy; have h4 := (hq j (by omega)).1; simp only [add_plain] at h4; exact h4
  ·obtain ⟨i, hi, rfl⟩ := List.mem_map.1 hy; have hi := List.mem_range.1 hi; have hD := (hq i (by omega)).2; have hmem : D i ∈ (List.range len).map D := List.mem_map.2 ⟨i, List.mem_range.2 hi, rfl⟩; have hw : (q i).s.data.toList.length ∈ (D i).weights Tryz.prog 34 := by
    rw [hD]; simp [Stp.data, DataW.weights, Tryz.underlying34, DataW.weightsEach]
   have hall2 : (q i).s.data.toList.length ∈ DataW.weightsEach Tryz.prog [22] [x.1] := by
    rw [hx]; simp only [DataW.weightsEach, DataW.weights, Tryz.underlying22, List.append_nil]; exact List.mem_cons_of_mem _ (List.mem_append.2 (Or.inl (weight_all hmem _ hw)))
   have := List.all_eq_true.1 hsz _ hall2; have h5 : (q i).s.data.toList.length ≤ reachBytes := by simpa using this
   have h6 : (q i).s.data.toList.length = (q i).s.size := by rw [Array.length_toList]; rfl
   rw [h6] at h5; have := reachBytes_lt; omega
end Go.Proofs.YtbkaghlklkdmkaaGreatDoor
namespace Go.Proofs.YtbkaghlklkdmkaaGreatDoor
open Go.ChangeShapes Go.WideShapes Go.RowKit Go.Deep Go.Lib
theorem tab_int {W : World} {name : String} {g t e n : Nat} {k : IntKind} {zs : List Int} (hg : Tryz.prog.globalNamed name = some g) (hty : (Tryz.prog.globals[g]?).map (·.type) = some t) (ht : Tryz.prog.underlying t = some (.array n e)) (he : Tryz.prog.underlying e = some (.int k)) (hce : Tryz.prog.cellsOf e = 1) (hct : Tryz.prog.cellsOf t = n)
  (h : VarReads Tryz.prog W name (tabData k zs)) : ∀ (i : Nat) z, zs[i]? = some z → W.cell? ⟨g, i, none⟩ = some (.int k z) := by
 obtain ⟨g', t', cs, fuel, p, hg', hty', hvar, hd⟩ := h; obtain rfl := Option.some.inj (hg.symm.trans hg'); obtain rfl := Option.some.inj (hty.symm.trans hty'); intro i z hz; rw [World.var?_cell hg hvar i, ← Array.getElem?_toList, cells_of_tab ht he hce hct hd]; simp [hz]
theorem tab_string {W : World} {name : String} {g t e n : Nat} {ss : List (List UInt8)} (hg : Tryz.prog.globalNamed name = some g) (hty : (Tryz.prog.globals[g]?).map (·.type) = some t) (ht : Tryz.prog.underlying t = some (.array n e)) (he : Tryz.prog.underlying e = some .string) (hce : Tryz.prog.cellsOf e = 1)
  (h : VarReads Tryz.prog W name (.agg (ss.map fun b => .lit (.string b)))) : ∀ (i : Nat) b, ss[i]? = some b → W.cell? ⟨g, i, none⟩ = some (.string ⟨b.toArray⟩) := by
 obtain ⟨g', t', cs, fuel, p, hg', hty', hvar, hd⟩ := h; obtain rfl := Option.some.inj (hg.symm.trans hg'); obtain rfl := Option.some.inj (hty.symm.trans hty'); intro i b hb; obtain ⟨xs, m, _, hx, _, hxl, hall⟩ := DataW.trod_array ht hd; simp only [Prod.mk.injEq, DataW.agg.injEq] at hx; have hi : i < n := by
  have h1 := (List.getElem?_eq_some_iff.1 hb).1; have h2 := congrArg List.length hx.1; simp at h2; omega
 have h3 := hall i hi; have hix : i < xs.length := by omega
 rw [List.getElem?_eq_getElem hix, hce, Nat.mul_one] at h3; obtain ⟨s, e1, e2, _⟩ := DataW.trod_string he h3; have h4 := congrArg (·[i]?) hx.1; simp only [List.getElem?_map, hb, List.getElem?_eq_getElem hix, Option.map_some, Option.some.injEq, e2, DataW.lit.injEq, Lit.string.injEq] at h4; rw [World.var?_cell hg hvar i, ← Array.getElem?_toList]; have h5 := congrArg (·[0]?) e1; simp [List.getElem?_drop] at h5; rw [Array.getElem?_toList, h5, h4]
theorem tab_pair {W : World} {name : String} {g t e q n : Nat} {f0 f1 : Field} {k : IntKind} {ps : List (Int × Int)} (hg : Tryz.prog.globalNamed name = some g) (hty : (Tryz.prog.globals[g]?).map (·.type) = some t) (ht : Tryz.prog.underlying t = some (.array n e)) (he : Tryz.prog.underlying e = some (.struct #[f0, f1])) (hce : Tryz.prog.cellsOf e = 2)
  (t0 : f0.type = q) (t1 : f1.type = q) (o0 : f0.offset = 0) (o1 : f1.offset = 1) (hq : Tryz.prog.underlying q = some (.int k)) (hcq : Tryz.prog.cellsOf q = 1)
  (h : VarReads Tryz.prog W name (.agg (ps.map fun b => .agg [.lit (.int k b.1), .lit (.int k b.2)]))) : ∀ (i : Nat) b, ps[i]? = some b → W.cell? ⟨g, 2 * i, none⟩ = some (.int k b.1) ∧ W.cell? ⟨g, 2 * i + 1, none⟩ = some (.int k b.2) := by
 obtain ⟨g', t', cs, fuel, p, hg', hty', hvar, hd⟩ := h; obtain rfl := Option.some.inj (hg.symm.trans hg'); obtain rfl := Option.some.inj (hty.symm.trans hty'); intro i b hb; obtain ⟨xs, m, _, hx, _, hxl, hall⟩ := DataW.trod_array ht hd; simp only [Prod.mk.injEq, DataW.agg.injEq] at hx; have hi : i < n := by
  have h1 := (List.getElem?_eq_some_iff.1 hb).1; have h2 := congrArg List.length hx.1; simp at h2; omega
 have h3 := hall i hi; have hix : i < xs.length := by omega
 rw [List.getElem?_eq_getElem hix, hce] at h3; obtain ⟨ys, k2, _, hy, _, hyl, hf⟩ := DataW.trod_struct he h3; have hyl : ys.length = 2 := hyl; have h4 := congrArg (·[i]?) hx.1; simp only [List.getElem?_map, hb, List.getElem?_eq_getElem hix, Option.map_some, Option.some.injEq, hy, DataW.agg.injEq] at h4
 match ys, hyl with
 | [y0, y1], _ =>
  have g0 := hf 0 f0 rfl; have g1 := hf 1 f1 rfl; simp only [t0, t1, o0, o1, hcq, List.drop_zero] at g0 g1; obtain ⟨z0, e0, x0, _⟩ := DataW.trod_int hq g0; obtain ⟨z1, e1, x1, _⟩ := DataW.trod_int hq g1; subst x0 x1; simp at h4; have h5 := congrArg (·[0]?) e0; have h6 := congrArg (·[0]?) e1; simp [List.getElem?_drop] at h5 h6; rw [World.var?_cell hg hvar (2 * i), World.var?_cell hg hvar (2 * i + 1), Nat.mul_comm 2 i]; rw [h5, h6, h4.1, h4.2]; exact ⟨rfl, rfl⟩
theorem tab_iface {W : World} {name nm : String} {g t : Nat} {ms : Array (String × TypeId)} {d : DataW Unit} (hg : Tryz.prog.globalNamed name = some g) (hty : (Tryz.prog.globals[g]?).map (·.type) = some t) (ht : Tryz.prog.underlying t = some (.interface ms))
  (h : VarReads Tryz.prog W name (.iface nm d)) : ∃ u v, W.cell? ⟨g, 0, none⟩ = some (.iface u v) := by
 obtain ⟨g', t', cs, fuel, p, hg', hty', hvar, hd⟩ := h; obtain rfl := Option.some.inj (hg.symm.trans hg'); obtain rfl := Option.some.inj (hty.symm.trans hty'); obtain ⟨_, u, v, e, _⟩ := iface_of_trod ht hd; exact ⟨u, v, by rw [World.var?_cell hg hvar 0, ← Array.getElem?_toList, e]; rfl⟩
theorem range_at {α : Type} {n k : Nat} (f : Nat → α) (h : k < n) : ((List.range n).map f)[k]? = some (f k) := by simp [h]
theorem data_spell : (Rows.laid_wicket_token_spellings : DataW Unit) = .agg (((List.range 42).map spellOf).map fun b => .lit (.string b)) := by kernel_rfl
theorem data_pol : (Rows.laid_wicket_parse_policies : DataW Unit) = tabData .i64 ((List.range 6).map fun k => ((12 + k : Nat) : Int)) := by kernel_rfl
theorem data_ops : (Rows.laid_wicket_parse_operations : DataW Unit) = tabData .i64 ((List.range 33).map fun k => (opOf k : Int)) := by kernel_rfl
theorem data_sig : (Rows.laid_wicket_typing_signatures : DataW Unit) = .agg (((List.range 12).map fun k => ((takesOf k : Int), (isOf k : Int))).map fun b => .agg [.lit (.int .i64 b.1), .lit (.int .i64 b.2)]) := by kernel_rfl
theorem data_acc : (Rows.laid_unicode_utf8_acceptRanges : DataW Unit) = .agg (((List.range 16).map fun i => ((accLo i : Int), (accHi i : Int))).map fun b => .agg [.lit (.int .u8 b.1), .lit (.int .u8 b.2)]) := by kernel_rfl
theorem data_first : Rows.laid_unicode_utf8_first = tabData .u8 firstTab := by kernel_rfl
set_option maxRecDepth 100000 in
theorem gl_of_laid {W : World} (hs : 12 ≤ W.heap.size) (h : laidMet Tryz.prog Rows.loadsRow.laid W) : Gl W := by
 have hsp := Go.Lib.laidMet.reads h (n := "wicket/token.spellings") (d := Rows.laid_wicket_token_spellings) (by simp [Rows.loadsRow]); have hpo := Go.Lib.laidMet.reads h (n := "wicket/parse.policies") (d := Rows.laid_wicket_parse_policies) (by simp [Rows.loadsRow]); have hop := Go.Lib.laidMet.reads h (n := "wicket/parse.operations") (d := Rows.laid_wicket_parse_operations) (by simp [Rows.loadsRow]); have hsi := Go.Lib.laidMet.reads h (n := "wicket/typing.signatures") (d := Rows.laid_wicket_typing_signatures) (by simp [Rows.loadsRow]); have hac := Go.Lib.laidMet.reads h (n := "unicode/utf8.acceptRanges") (d := Rows.laid_unicode_utf8_acceptRanges) (by simp [Rows.loadsRow]); have hfi := Go.Lib.laidMet.reads h (n := "unicode/utf8.first") (d := Rows.laid_unicode_utf8_first) (by simp [Rows.loadsRow]); have her := Go.Lib.laidMet.reads h (n := "strconv.ErrRange") (d := Rows.laid_strconv_ErrRange) (by simp [Rows.loadsRow]); have hes := Go.Lib.laidMet.reads h (n := "strconv.ErrSyntax") (d := Rows.laid_strconv_ErrSyntax) (by simp [Rows.loadsRow]); clear h; rw [data_spell] at hsp; rw [data_pol] at hpo; rw [data_ops] at hop; rw [data_sig] at hsi; rw [data_acc] at hac; rw [data_first] at hfi; have kfi := tab_int (g := 1) (t := 287) (n := 256) (e := 5) (by kernel_rfl) (by kernel_rfl) Tryz.underlying287 Tryz.underlying5 (by kernel_rfl) (by kernel_rfl) hfi; have kac := tab_pair (g := 2) (t := 290) (n := 16) (e := 289) (q := 5) (by kernel_rfl) (by kernel_rfl) Tryz.underlying290 Tryz.underlying289 (by kernel_rfl) rfl rfl rfl rfl Tryz.underlying5 (by kernel_rfl) hac; have ksp := tab_string (g := 5) (t := 306) (n := 42) (e := 9) (by kernel_rfl) (by kernel_rfl) Tryz.underlying306 Tryz.underlying9 (by kernel_rfl) hsp; have kpo := tab_int (g := 6) (t := 311) (n := 6) (e := 132) (by kernel_rfl) (by kernel_rfl) Tryz.underlying311 (by kernel_rfl) (by kernel_rfl) (by kernel_rfl) hpo; have kop := tab_int (g := 8) (t := 331) (n := 33) (e := 243) (by kernel_rfl) (by kernel_rfl) Tryz.underlying331 (by kernel_rfl) (by kernel_rfl) (by kernel_rfl) hop; have ksi := tab_pair (g := 0) (t := 252) (n := 12) (e := 251) (q := 66) (by kernel_rfl) (by kernel_rfl) Tryz.underlying252 Tryz.underlying251 (by kernel_rfl) rfl rfl rfl rfl (by kernel_rfl) (by kernel_rfl) hsi; have ker := tab_iface (g := 10) (t := 77) (by kernel_rfl) (by kernel_rfl) Tryz.underlying77 her; have kes := tab_iface (g := 9) (t := 77) (by kernel_rfl) (by kernel_rfl) Tryz.underlying77 hes; refine ⟨hs, ⟨fun c hc => ?_, fun i hi => ?_⟩, fun k hk => ?_, fun k hk => ?_, fun k hk => ?_, fun k hk => ?_, fun k hk => ?_, kes, ker⟩
 ·exact kfi c _ (range_at _ hc)
 ·exact kac i _ (range_at _ hi)
 ·exact ksp k _ (range_at _ hk)
 ·exact kpo k _ (range_at _ hk)
 ·exact kop k _ (range_at _ hk)
 ·exact (ksi k _ (range_at _ hk)).1
 ·exact (ksi k _ (range_at _ hk)).2
end Go.Proofs.YtbkaghlklkdmkaaGreatDoor
namespace Go.Proofs.YtbkaghlklkdmkaaGreatDoor
open Go.ChangeShapes Go.WideShapes Go.ChangeAt Go.RowKit
theorem tryz_own : ownKnob Tryz.prog.godebug = none := by kernel_rfl
theorem tryz_laidOut : laidOutB Tryz.prog = true := by kernel_rfl
theorem size_of_shape {W : World} (h : W.ShapedOpen Tryz.prog) : 12 ≤ W.heap.size := by
 obtain ⟨cs, hc, _⟩ := h.1 11 #[.int .i64 0] 3 (of_decide_eq_true (by kernel_rfl)) (by kernel_rfl); exact lt_of_block hc
set_option maxRecDepth 100000 in
theorem loads_contract (H : Type) (enc : TypeId × Value → H) (W : World) (base : Nat) (args : Array Value) (ds gs : List (DataW H)) (before : List MemPlace)
  (hval : ∀ (j : Nat) t v, Tryz.f3.params[j]? = some t → args[j]? = some v → Value.okWide Tryz.prog W .any base t v)
  (hW : DataW.Whole enc Tryz.prog Tryz.f3.params.toList Rows.loadsSpec.vars false W args.toList ds gs before)
  (hsz : (DataW.weightsEach Tryz.prog (Tryz.f3.params.toList ++ Rows.loadsSpec.plain.varTypes Tryz.prog) (ds ++ gs)).all (· ≤ reachBytes) = true)
  (hL : laidMetH Tryz.prog Rows.loadsRow.laid W) (hsh : W.ShapedOpen Tryz.prog) :
  Calls Tryz.prog 3 args W fun e W' => ∃ v, e = .returned v ∧ Rows.loadsSpec.post enc Tryz.prog Tryz.f3 false true false false W args v W' := by
 have hL : laidMet Tryz.prog Rows.loadsRow.laid W := hL; have hG := gl_of_laid (size_of_shape hsh) hL; have hW' := hW; obtain ⟨p, q, hA0, hV, rfl, hfz, hnd⟩ := hW; have hA : DataW.TrodAll enc Tryz.prog W 0 (fun _ => true) true Tryz.f3.params.toList args.toList ds p := hA0; rw [Tryz.params3] at hA hval hsz; obtain ⟨v0, vs0, d0, ds0, p0, q0, hargs, rfl, rfl, h0, r0⟩ := trodAll_cons hA; obtain ⟨rfl, rfl, rfl⟩ := trodAll_nil r0; obtain rfl : args = #[v0] := by cases args; simp_all
 obtain ⟨rfl, rfl⟩ := trodVars_none hV; obtain ⟨a0, len, cap, rfl⟩ := okWide_slice Tryz.underlying22 (hval 0 22 v0 rfl rfl); have h0k := h0; obtain ⟨fuel0, hf0⟩ := h0; clear hA0; simp only [List.append_nil] at hW' hsz; have hlt : ∀ x ∈ p0, x.block < W.heap.size := fun x hx => by simpa using hW'.lt x (by simpa using hx)
 obtain ⟨l, hS, hlen, hzs⟩ := open_script hf0 hsz; refine (p_Loads hG hS hlen hzs).mono ?_; rintro e W' ⟨rfl, bel⟩; refine ⟨_, rfl, [d0], [], _, [], p0 ++ [], [], hW', ?_, ?_, ?_, bel.frame _, fun h => by cases h⟩
 ·exact trodAll_cons_mk (shut_bool Tryz.underlying4 _) trodAll_mk0
 ·exact trodAll_cons_mk (Below.trod tryz_laidOut (by kernel_rfl) (of_decide_eq_true (by kernel_rfl)) h0k bel hlt) trodAll_mk0
 ·rfl
end Go.Proofs.YtbkaghlklkdmkaaGreatDoor
