/-
  The trees of the document's answer: fits.
-/
import Derived.Test.YtbkaghlklkdmkaaGreatDoorMC1
set_option maxRecDepth 100000
set_option maxHeartbeats 8000000
namespace Go.Proofs.YtbkaghlklkdmkaaGreatDoor
open Go.RowKit
def partOps (n : Nat) : List (List UInt8) :=
 if n = 2 then [[48], [110], [116], [102], [111, 114], [97, 110, 100], [110, 111, 116]] else [[43], [45], [42], [47], [60]]
theorem po_ne {pn : Nat} {l : List UInt8} (h : l ∈ partOps pn) : (l == [110, 117, 108, 108]) = false ∧ (l == [119]) = false ∧ (l == [105, 102]) = false ∧ (l == [61]) = false := by
 unfold partOps at h; split at h
 all_goals
  simp only [List.mem_cons, List.mem_nil_iff, or_false] at h; rcases h with rfl | rfl | rfl | rfl | rfl | rfl | rfl <;> decide
theorem po_part {pn : Nat} {l : List UInt8} (hp : pn = 1 ∨ pn = 2) (h : l ∈ partOps pn) :
  (pn = 2 ∧ (l == [43]) = false ∧ (l == [45]) = false ∧ (l == [42]) = false ∧ (l == [47]) = false ∧ (l == [60]) = false) ∨
  (pn = 1 ∧ ((l == [43]) = true ∨ ((l == [43]) = false ∧ (l == [45]) = true) ∨ ((l == [43]) = false ∧ (l == [45]) = false ∧ (l == [42]) = true) ∨ ((l == [43]) = false ∧ (l == [45]) = false ∧ (l == [42]) = false ∧ (l == [47]) = true) ∨ ((l == [43]) = false ∧ (l == [45]) = false ∧ (l == [42]) = false ∧ (l == [47]) = false ∧ (l == [60]) = true))) := by
 rcases hp with rfl | rfl
 ·refine Or.inr ⟨rfl, ?_⟩; simp only [partOps, Nat.reduceEqDiff, if_false, List.mem_cons, List.mem_nil_iff, or_false] at h; rcases h with rfl | rfl | rfl | rfl | rfl <;> decide
 ·refine Or.inl ⟨rfl, ?_⟩; simp only [partOps, if_true, List.mem_cons, List.mem_nil_iff, or_false] at h; rcases h with rfl | rfl | rfl | rfl | rfl | rfl | rfl <;> decide
structure FB (w W : World) (op x : ByteArray) (na : Nat) (kv : Value) (k : Int) (ad : Option Addr) (n c : Nat) : Prop where
 below : Below w.heap.size w W
 size : w.heap.size + 4 ≤ W.heap.size
 b0 : W.heap[w.heap.size]? = some (.cells #[.string op, .string x, .int .i64 na, kv] 107 (0, 0))
 b1 : W.heap[w.heap.size + 1]? = some (.cells #[.int .u8 k, .slice ad n c] 104 (0, 0))
 b2 : W.heap[w.heap.size + 2]? = some (.cells #[.int .u8 105, .slice none 0 0] 104 (0, 0))
 b3 : W.heap[w.heap.size + 3]? = some (.cells #[.int .u8 98, .slice none 0 0] 104 (0, 0))
theorem FB.first (w : World) (op x : ByteArray) (na : Nat) (kv : Value) (k : Int) (ad : Option Addr) (n c : Nat) :
  FB w ((((w.alloc (.cells #[.string op, .string x, .int .i64 na, kv] 107)).alloc (.cells #[.int .u8 k, .slice ad n c] 104)).alloc (.cells #[.int .u8 105, .slice none 0 0] 104)).alloc (.cells #[.int .u8 98, .slice none 0 0] 104)) op x na kv k ad n c := by
 have h := below_two (Below.refl _ ((((w.alloc (.cells #[.string op, .string x, .int .i64 na, kv] 107)).alloc (.cells #[.int .u8 k, .slice ad n c] 104)).alloc (.cells #[.int .u8 105, .slice none 0 0] 104)).alloc (.cells #[.int .u8 98, .slice none 0 0] 104))); obtain ⟨h1, h2, h3, h4⟩ := h; obtain ⟨k1, k2, k3, k4⟩ := below_two h1; rw [sz_alloc, sz_alloc] at h2 h3 h4; exact ⟨k1, h4, k2, k3, h2, h3⟩
theorem FB.next {w W W' : World} {op x : ByteArray} {na : Nat} {kv : Value} {k : Int} {ad : Option Addr} {n c : Nat} (h : FB w W op x na kv k ad n c) (hb : Below W.heap.size W W') : FB w W' op x na kv k ad n c :=
 ⟨h.below.trans (hb.mono (by have := h.size; omega)), by have := h.size; have := hb.size; omega, (hb.block _ (lt_of_block h.b0)).trans h.b0, (hb.block _ (lt_of_block h.b1)).trans h.b1, (hb.block _ (lt_of_block h.b2)).trans h.b2, (hb.block _ (lt_of_block h.b3)).trans h.b3⟩
theorem f_null (w : World) (x : ByteArray) (na : Nat) (kv : Value) (mb : Nat) (tv : Value) (t : Wk.Ty) (hT : TyAt w tv t) :
  Calls Tryz.prog 79 #[.pointer (some ⟨mb, 0, none⟩), tree ⟨#[110, 117, 108, 108]⟩ x na kv, tv] w fun e w' => e = .returned (.bool true) ∧ Below w.heap.size w w' := by
 obtain ⟨-, -, -, ws, rfl, hws⟩ := hT; obtain ⟨ad, c, rfl⟩ := hws.form; clear hws; generalize (t.2.map quo).length = ln at *
 unfold tree; go_enter Tryz.func79, Tryz.ntmps79; go_wp2
 go_ret; exact ⟨rfl, (FB.first w _ _ _ _ _ _ _ _).below⟩
theorem f_word (w : World) (x : ByteArray) (na : Nat) (kv : Value) (mb : Nat) (tv : Value) (t : Wk.Ty) (hT : TyAt w tv t) :
  Calls Tryz.prog 79 #[.pointer (some ⟨mb, 0, none⟩), tree ⟨#[119]⟩ x na kv, tv] w fun e w' => e = .returned (.bool ((t.2.map quo).any (fun y => y.data.toList == x.data.toList))) ∧ Below w.heap.size w w' := by
 obtain ⟨-, h6, -, ws, rfl, hws⟩ := hT; have HW : Hid (∀ w', Below w.heap.size w w' → Calls Tryz.prog 92 #[ws, .string x] w' fun e w'' => e = .returned (.bool ((t.2.map quo).any (fun y => y.data.toList == x.data.toList))) ∧ w'' = w') :=
  fun w' hb => r_within ws _ x w' (hws.below hb) (by rw [List.length_map]; omega)
 generalize (t.2.map quo).any (fun y => y.data.toList == x.data.toList) = R at *
 obtain ⟨ad, c, rfl⟩ := hws.form; clear hws h6; generalize (t.2.map quo).length = ln at *
 unfold tree; go_enter Tryz.func79, Tryz.ntmps79; go_wp2_with fail; refine (HW.out _ (FB.first w _ _ _ _ _ _ _ _).below).mono ?_; rintro e w' ⟨rfl, rfl⟩; go_wp2
 go_ret; exact ⟨rfl, (FB.first w _ _ _ _ _ _ _ _).below⟩
theorem kid_get2 {ks : List (Value × Wk.Sem)} {k : Nat} (h : k < ks.length) : (ks.map (·.1))[k]? = some (ks[k]'h).1 := by
 rw [List.getElem?_map, List.getElem?_eq_getElem h]; rfl
theorem take_all {ks : List (Value × Wk.Sem)} {k : Nat} (h : k < ks.length) (f : Value × Wk.Sem → Bool) (o : Bool) : (o && (ks.take (k + 1)).all f) = ((o && (ks.take k).all f) && f (ks[k]'h)) := by
 rw [List.take_succ_eq_append_getElem h, List.all_append, Bool.and_assoc]; simp
theorem f_node (w : World) (op x : ByteArray) (na : Nat) (kv : Value) (pn : Nat) (hp : pn = 1 ∨ pn = 2) (hop : op.toList ∈ partOps pn) (ks : List (Value × Wk.Sem)) (hK : Kids w kv (ks.map (·.1))) (hk : ∀ p ∈ ks, ∀ w', Below w.heap.size w w' → FitsOK w' p.1 p.2)
    (mb : Nat) (E : Wk.Env) (hM : ModelAt w mb E) (hn : ∀ p ∈ ks, known E p.2.names) (ot : Wk.Ty) (ho : ∀ w', Below w.heap.size w w' → Calls Tryz.prog 80 #[.pointer (some ⟨mb, 0, none⟩), tree op x na kv] w' fun e w'' => ownEnd w'' ot e ∧ Below w'.heap.size w' w'') (tv : Value) (t : Wk.Ty) (hT : TyAt w tv t) :
    Calls Tryz.prog 79 #[.pointer (some ⟨mb, 0, none⟩), tree op x na kv, tv] w fun e w' => e = .returned (.bool ((ot == t) && ks.all (fun p => p.2.fits E (pn, [])))) ∧ Below w.heap.size w w' := by
  have HT : Hid (∀ w', Below w.heap.size w w' → TyAt w' tv t) := fun w' hb => hT.below hb
  obtain ⟨-, h6, -, ws, rfl, hws⟩ := hT; obtain ⟨ad, c, rfl⟩ := hws.form; clear hws h6; generalize (t.2.map quo).length = ln at *
  obtain ⟨ad1, c1, hkv⟩ := hK.slice; have hlen : (ks.map (·.1)).length = ks.length := List.length_map _; rw [hlen] at hkv; subst hkv; have hl3 := hK.len; rw [hlen] at hl3; have HK : Hid (∀ w', Below w.heap.size w w' → Kids w' (.slice ad1 ks.length c1) (ks.map (·.1))) := fun w' hb => hK.below hb
  have HM : Hid (∀ w', Below w.heap.size w w' → ModelAt w' mb E) := fun w' hb => hM.below hb
  have HFK : Hid _ := hk; have HN : Hid _ := hn; have HO : Hid _ := ho; generalize hR : ((ot == t) && ks.all (fun p => p.2.fits E (pn, []))) = R; have HR : Hid _ := hR; clear hR hk hn ho hM hK hlen; unfold tree at HO; unfold tree; have HFB := FB.first w op x na (.slice ad1 ks.length c1) (rk t.1) ad ln c
  have HFBH : Hid _ := HFB; clear HFB; obtain ⟨q1, q2, q3, q4⟩ := po_ne hop; have hrk : ((rk pn : Nat) : Int) = 98 ∧ pn = 2 ∨ ((rk pn : Nat) : Int) = 105 ∧ pn = 1 := by
    rcases hp with rfl | rfl
    · exact Or.inr ⟨rfl, rfl⟩
    · exact Or.inl ⟨rfl, rfl⟩
  have hpn : pn ≤ 2 := by omega
  have hop2 := po_part hp hop; clear hop hp; rcases hop2 with ⟨h2, p1, p2, p3, p4, p5⟩ | ⟨h2, p1 | ⟨p1, p2⟩ | ⟨p1, p2, p3⟩ | ⟨p1, p2, p3, p4⟩ | ⟨p1, p2, p3, p4, p5⟩⟩
  all_goals
    go_enter Tryz.func79, Tryz.ntmps79; go_upto_region 27 with fail; have HB5 : Hid (∀ (k : Int), k = rk pn → ∃ W, W = ((((w.alloc (.cells #[.string op, .string x, .int .i64 na, .slice ad1 ks.length c1] 107)).alloc (.cells #[.int .u8 (rk t.1), .slice ad ln c] 104)).alloc (.cells #[.int .u8 105, .slice none 0 0] 104)).alloc (.cells #[.int .u8 98, .slice none 0 0] 104)).alloc (.cells #[.int .u8 k, .slice none 0 0] 104) ∧ FB w W op x na (.slice ad1 ks.length c1) (rk t.1) ad ln c ∧ w.heap.size + 5 ≤ W.heap.size ∧ W.heap[w.heap.size + 4]? = some (.cells #[.int .u8 (rk pn), .slice none 0 0] 104 (0, 0))) := by
      intro k hk; subst hk; obtain ⟨h1, h2, h3⟩ := below_one (Below.refl _ (((((w.alloc (.cells #[.string op, .string x, .int .i64 na, .slice ad1 ks.length c1] 107)).alloc (.cells #[.int .u8 (rk t.1), .slice ad ln c] 104)).alloc (.cells #[.int .u8 105, .slice none 0 0] 104)).alloc (.cells #[.int .u8 98, .slice none 0 0] 104)).alloc (.cells #[.int .u8 (rk pn), .slice none 0 0] 104))); rw [sz_alloc, sz_alloc, sz_alloc, sz_alloc] at h2 h3; exact ⟨_, rfl, HFBH.out.next h1, h3, h2⟩
    obtain ⟨W, hW, fb, hs5, b4⟩ := HB5.out (if pn = 2 then 98 else 105) (by rw [h2]; rfl); rw [h2] at hW; simp only [Nat.reduceEqDiff, if_true, if_false] at hW; rw [← hW]; have FBW : Hid (FB w W op x na (.slice ad1 ks.length c1) (rk t.1) ad ln c) := fb; have B4 : Hid _ := b4; have x0 := bc 0 fb.b0 rfl; have x1 := bc 1 fb.b0 rfl; have x2 := bc 2 fb.b0 rfl; have x3 := bc 3 fb.b0 rfl; have y0 := bc 0 fb.b1 rfl; have y1 := bc 1 fb.b1 rfl; clear HB5 HFBH hW b4 fb q1 q2 q3 q4 p1 h2 hrk; have HX : Hid (∀ w1, Below W.heap.size W w1 → FB w w1 op x na (.slice ad1 ks.length c1) (rk t.1) ad ln c) := fun w1 hb => FBW.out.next hb
    have HXd : Hid (∀ w1, Below W.drew.heap.size W.drew w1 → Below W.heap.size W w1) := fun w1 hb => ⟨hb.os, hb.tape, hb.output, hb.size, hb.block⟩
    go_region_held3 (fun w' => w'.cell? ⟨w.heap.size, 0, none⟩ = some (.string op) ∧ w'.cell? ⟨w.heap.size, 1, none⟩ = some (.string x) ∧ w'.cell? ⟨w.heap.size, 2, none⟩ = some (.int .i64 na) ∧ w'.cell? ⟨w.heap.size, 3, none⟩ = some (.slice ad1 ks.length c1) ∧ w'.cell? ⟨w.heap.size + 1, 0, none⟩ = some (.int .u8 (rk t.1)) ∧ w'.cell? ⟨w.heap.size + 1, 1, none⟩ = some (.slice ad ln c)) (go_keep)
      (first
        | (go_at_call 80; refine (HO.out _ (by first | exact FBW.out.below | exact FBW.out.below.drew)).mono ?_; rintro e w1 ⟨⟨ov, rfl, hov⟩, hb1⟩
           have hb2 : Below W.heap.size W w1 := by first | exact hb1 | exact HXd.out _ hb1
           have fb1 := HX.out _ hb2; have z0 := bc 0 fb1.b0 rfl; have z1 := bc 1 fb1.b0 rfl; have z2 := bc 2 fb1.b0 rfl; have z3 := bc 3 fb1.b0 rfl; have v0 := bc 0 fb1.b1 rfl; have v1 := bc 1 fb1.b1 rfl; have HOV : Hid _ := hov; have FB1 : Hid (FB w w1 op x na (.slice ad1 ks.length c1) (rk t.1) ad ln c) := fb1; have HB2 : Hid _ := hb2; clear hov fb1 hb1 hb2)
        | (go_at_call 117; refine (r_sameType _ _ ot t _ HOV.out (HT.out _ FB1.out.below)).mono ?_; rintro e w2 ⟨rfl, hb3⟩
           have fb2 := FB1.out.next hb3
           have z0 := bc 0 fb2.b0 rfl; have z1 := bc 1 fb2.b0 rfl; have z2 := bc 2 fb2.b0 rfl; have z3 := bc 3 fb2.b0 rfl; have v0 := bc 0 fb2.b1 rfl; have v1 := bc 1 fb2.b1 rfl; have B42 : Hid _ := (hb3.block _ (by have := HB2.out.size; omega)).trans ((HB2.out.block _ (by omega)).trans B4.out); have FB2 : Hid (FB w w2 op x na (.slice ad1 ks.length c1) (rk t.1) ad ln c) := fb2; clear fb2 hb3))
    go_wp2_with fail; go_loopw [13, 14] (fun o i wr => ∃ (k : Nat) (z : Bool), k ≤ ks.length ∧ i = .int .i64 k ∧ o = .bool z ∧ Hid (z = ((ot == t) && (ks.take k).all (fun p => p.2.fits E (pn, [])))) ∧ Hid (FB w wr op x na (.slice ad1 ks.length c1) (rk t.1) ad ln c) ∧ Hid (w.heap.size + 5 ≤ wr.heap.size ∧ wr.heap[w.heap.size + 4]? = some (.cells #[.int .u8 (rk pn), .slice none 0 0] 104 (0, 0)))) (fun _ i _ => ks.length - (intOf i).toNat)
    case atStart =>
      refine ⟨0, _, by omega, rfl, rfl, ?_, FB2, ⟨lt_of_block B42.out, B42.out⟩⟩; show _ = _; simp
    case round =>
      clear x0 x1 x2 x3 y0 y1 FBW B4 HX HXd HO FB2 FB1 HOV HB2 B42; obtain ⟨k, z, hk, rfl, rfl, HZ, FBW, B4⟩ := hrel; have x3 := bc 3 FBW.out.b0 rfl; have b0 := bc 0 B4.out.2 rfl; have b1 := bc 1 B4.out.2 rfl; by_cases hlt : k < ks.length
      · obtain ⟨g, op', x', na', kv', hg, -, hc, hv, a0, a1, a2, a3⟩ := (HK.out _ FBW.out.below).at (kid_get2 hlt); subst hg; have HC : Hid _ := fun w' (hb : Below w.heap.size w w') => HFK.out (ks[k]'hlt) (List.getElem_mem hlt) w' hb mb E _ (pn, []) (HM.out w' hb) (HN.out _ (List.getElem_mem hlt)) (tyAt_plain w' hpn)
        rw [hv] at HC; unfold tree at HC; have hk0 : (0 : Int) ≤ (k : Int) := by omega
        have hk1 : (k : Int) < (ks.length : Int) := by omega
        clear hv; have HX : Hid (∀ w1, Below wr.heap.size wr w1 → FB w w1 op x na (.slice (some ⟨g, 0, none⟩) ks.length c1) (rk t.1) ad ln c) := fun w1 hb => FBW.out.next hb
        have HXd : Hid (∀ w1, Below wr.drew.heap.size wr.drew w1 → Below wr.heap.size wr w1) := fun w1 hb => ⟨hb.os, hb.tape, hb.output, hb.size, hb.block⟩
        have HG : Hid (∀ (w1 : World) o, Below wr.heap.size wr w1 → w1.cell? ⟨g, o, none⟩ = wr.cell? ⟨g, o, none⟩) := fun w1 o hb => hb.cell (p := ⟨g, o, none⟩) (cell_lt a0)
        cases z; all_goals
          go_wp2_with fail; go_region_held3 (fun w' => w'.cell? ⟨w.heap.size, 3, none⟩ = some (.slice (some ⟨g, 0, none⟩) ks.length c1) ∧ w'.cell? ⟨g, k * 4, none⟩ = some (.string op') ∧ w'.cell? ⟨g, k * 4 + 1, none⟩ = some (.string x') ∧ w'.cell? ⟨g, k * 4 + 2, none⟩ = some (.int .i64 na') ∧ w'.cell? ⟨g, k * 4 + 3, none⟩ = some kv' ∧ w'.cell? ⟨w.heap.size + 4, 0, none⟩ = some (.int .u8 (rk pn)) ∧ w'.cell? ⟨w.heap.size + 4, 1, none⟩ = some (.slice none 0 0)) (go_keep)
            (first
              | (go_at_call 79; refine (HC.out _ (by first | exact FBW.out.below | exact FBW.out.below.drew)).mono ?_; rintro e w1 ⟨rfl, hb1⟩
                 have hb2 : Below wr.heap.size wr w1 := by first | exact hb1 | exact HXd.out _ hb1
                 have fb1 := HX.out _ hb2; have z3 := bc 3 fb1.b0 rfl; have B41 : Hid (w.heap.size + 5 ≤ w1.heap.size ∧ w1.heap[w.heap.size + 4]? = some (.cells #[.int .u8 (rk pn), .slice none 0 0] 104 (0, 0))) := ⟨by have := hb2.size; have := B4.out.1; omega, (hb2.block _ (lt_of_block B4.out.2)).trans B4.out.2⟩
                 have v0 := bc 0 B41.out.2 rfl; have v1 := bc 1 B41.out.2 rfl; have d0 := (HG.out _ _ hb2).trans a0; have d1 := (HG.out _ _ hb2).trans a1; have d2 := (HG.out _ _ hb2).trans a2; have d3 := (HG.out _ _ hb2).trans a3; have FB1 : Hid (FB w w1 op x na (.slice (some ⟨g, 0, none⟩) ks.length c1) (rk t.1) ad ln c) := fb1; clear fb1 hb1 hb2))
          go_wp2_with fail; go_roundw
          case rel =>
            refine ⟨k + 1, _, by omega, by go_num, rfl, ?_, FB1, B41⟩; show _ = _; rw [take_all hlt, ← HZ.out]; rfl
          case measure => simp [intOf]; omega
      · go_wp2
        go_ret; refine ⟨ret_bool ?_, FBW.out.below⟩; rw [HZ.out, ← HR.out, show ks.take k = ks from List.take_of_length_le (by omega)]
end Go.Proofs.YtbkaghlklkdmkaaGreatDoor
