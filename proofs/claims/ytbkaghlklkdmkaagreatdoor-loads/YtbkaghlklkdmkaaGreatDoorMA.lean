/-
  Plain functions: the tokens of a text, and the grammar read over a list of tokens. Nothing of the program is named here. Plain laws on the grammar read over a list of tokens: a reading that has failed stays where it is; one that has not goes on and stays within the tokens. Plain laws on tokens: where they begin and end; that cutting goes on; that the last one shuts the list. Plain laws: rows of digits of one length compare as the numbers that they write; bytes that stand for U+FFFD. Plain laws: a rune that reads as U+FFFD stands in the text just where the three bytes of U+FFFD do. The names of an expression stand in the order of the text. Plain laws for the program's parser: the numbers of names, and which name is misnamed first, in the order of the text. Plain laws: no reading goes back. Plain laws: the rules of a table have as many cells as columns; an item is of three kinds.
-/
import Derived.WalkKit
import Derived.Lib.Strings
import Derived.Lib.DecodeN
set_option maxRecDepth 100000
set_option maxHeartbeats 8000000
namespace Go.Proofs.YtbkaghlklkdmkaaGreatDoor.Wk
def isLow (c : UInt8) : Bool := decide (97 ≤ c.toNat) && decide (c.toNat ≤ 122)
def isDig (c : UInt8) : Bool := decide (48 ≤ c.toNat) && decide (c.toNat ≤ 57)
def isSp (c : UInt8) : Bool := c.toNat == 32 || c.toNat == 10
def spanTo (p : UInt8 → Bool) (s : ByteArray) (i : Nat) : Nat := i + ((s.data.toList.drop i).takeWhile p).length
structure Tok where
 kind : Nat
 place : Nat
 text : ByteArray
 stop : Nat
def spellings : List (List UInt8) :=
  [[97, 115, 107], [108, 101, 116], [116, 97, 98, 108, 101], [105, 110, 116], [98, 111, 111, 108], [111, 102],
   [117, 110, 105, 113, 117, 101], [102, 105, 114, 115, 116], [115, 117, 109], [99, 111, 117, 110, 116], [108, 101, 97, 115, 116], [109, 111, 115, 116],
   [116, 114, 117, 101], [102, 97, 108, 115, 101], [110, 117, 108, 108],
   [105, 102], [116, 104, 101, 110], [101, 108, 115, 101], [111, 114], [97, 110, 100], [110, 111, 116],
   [43], [45], [42], [47], [61], [60], [62], [40], [41], [91], [93], [44], [59], [58], [46, 46]]
def speltIn (l : List UInt8) : List (List UInt8) → Nat → Nat
 | [], _ => 1
 | x :: xs, k => if x = l then k else speltIn l xs (k + 1)
def spelt (l : List UInt8) : Nat := speltIn l spellings 6
def mostText : List UInt8 := [57, 50, 50, 51, 51, 55, 50, 48, 51, 54, 56, 53, 52, 55, 55, 53, 56, 48, 55]
def greatText : List UInt8 := [57, 50, 50, 51, 51, 55, 50, 48, 51, 54, 56, 53, 52, 55, 55, 53, 56, 48, 56]
def letterKind (l : List UInt8) : Nat := if 8 < l.length then 1 else if spelt l = 1 then 2 else spelt l
def digitsVal (l : List UInt8) : Nat := l.foldl (fun n c => 10 * n + (c.toNat - 48)) 0
def digitKind (l : List UInt8) : Nat :=
 if l = greatText then 4 else if 1 < l.length ∧ l.head? = some 48 then 1 else if digitsVal l ≤ 9223372036854775807 then 3 else 1
def wordTo (s : ByteArray) : Nat → Nat → Nat → Option Nat
 | 0, _, _ => none
 | f + 1, k, n =>
  if h : k < s.size then
   if (s[k]'h).toNat = 34 then (if 8 < n then none else some (k + 1))
   else if (Utf8.decode s k).1 < 32 ∨ ((Utf8.decode s k).1 = 65533 ∧ (Utf8.decode s k).2 = 1) then none
   else wordTo s f (k + (Utf8.decode s k).2) (n + 1)
  else none
def mkTok (s : ByteArray) (kind i k : Nat) : Tok := ⟨kind, i, if kind = 1 then ByteArray.empty else s.extract i k, k⟩
def tokAt (s : ByteArray) (i : Nat) : Tok :=
 if h : i < s.size then
  if isLow (s[i]'h) then mkTok s (letterKind (s.extract i (spanTo isLow s i)).data.toList) i (spanTo isLow s i)
  else if isDig (s[i]'h) then mkTok s (digitKind (s.extract i (spanTo isDig s i)).data.toList) i (spanTo isDig s i)
  else if (s[i]'h).toNat = 34 then
   match wordTo s (s.size + 1) (i + 1) 0 with
   | some k => mkTok s 5 i k
   | none => mkTok s 1 i (i + 1)
  else if (s[i]'h).toNat = 46 then
   (if s[i + 1]? = some 46 then mkTok s 41 i (i + 2) else mkTok s 1 i (i + 1))
  else mkTok s (spelt [s[i]'h]) i (i + 1)
 else ⟨0, s.size, ByteArray.empty, i⟩
def cut (s : ByteArray) (i : Nat) : Tok := tokAt s (spanTo isSp s i)
def toks (s : ByteArray) : Nat → Nat → List Tok
 | 0, i => [cut s i]
 | f + 1, i => if (cut s i).kind ≤ 1 then [cut s i] else cut s i :: toks s f (cut s i).stop
def tokens (s : ByteArray) : List Tok := toks s (s.size + 1) 0
abbrev Name := List UInt8
abbrev Ty := Nat × List (List UInt8)
abbrev Env := List (Name × Ty)
structure St where
 k : Nat
 bad : Option Nat
section
variable (T : List Tok)
def tokK (k : Nat) : Tok := T.getD k ⟨1, 0, ByteArray.empty, 0⟩
def St.fail (q : St) : St := if q.bad.isSome then q else ⟨q.k, some (tokK T q.k).place⟩
def St.isK (q : St) (kd : Nat) : Bool := q.bad.isNone && (tokK T q.k).kind == kd
def St.adv (q : St) : St := if q.bad.isSome then q else ⟨q.k + 1, none⟩
def St.want (q : St) (kd : Nat) : St := if q.isK T kd then q.adv else q.fail T
abbrev PVal := Nat × List UInt8
def unq (t : ByteArray) : List UInt8 := (t.data.toList.drop 1).dropLast
def pValue (q : St) : St × PVal :=
 if q.isK T 28 then
  ((if q.adv.isK T 4 then q.adv.adv else q.adv.want T 3), (1, []))
 else if q.isK T 3 then (q.adv, (1, []))
 else if q.isK T 5 then (q.adv, (3, unq (tokK T q.k).text))
 else if q.isK T 18 then (q.adv, (2, []))
 else (q.want T 19, (2, []))
def pWords : Nat → St → List (List UInt8) → St × List (List UInt8)
 | 0, q, ws => (q, ws)
 | n + 1, q, ws =>
  let q1 := if q.isK T 5 && ws.contains (unq (tokK T q.k).text) then q.fail T else q
  let q2 := q1.want T 5
  let ws2 := ws ++ [unq (tokK T q.k).text]
  if 0 < n && q2.isK T 38 then pWords n q2.adv ws2 else (q2, ws2)
def pType (q : St) : St × Ty :=
 if q.isK T 9 then (q.adv, (1, []))
 else if q.isK T 10 then (q.adv, (2, []))
 else let r := pWords T 6 (q.want T 11) []
  (r.1, (3, r.2))
structure Sem where
 names : List (Name × Nat)
 own : Env → Ty
 fits : Env → Ty → Bool
def tyOf (E : Env) (x : Name) : Ty := ((E.find? (fun e => e.1 == x)).map (·.2)).getD (0, [])
def holds (t : Ty) (v : PVal) : Bool :=
 if v.1 = 3 then t.1 == 3 && t.2.contains v.2 else t.1 == v.1
def semVal (v : PVal) : Sem := ⟨[], fun _ => if v.1 = 3 then (0, []) else (v.1, []), fun _ t => holds t v⟩
def semNull : Sem := ⟨[], fun _ => (0, []), fun _ _ => true⟩
def semName (x : Name) (at_ : Nat) : Sem := ⟨[(x, at_)], fun E => tyOf E x, fun E t => tyOf E x == t⟩
def semNot (a : Sem) : Sem := ⟨a.names, fun _ => (2, []), fun E t => t.1 == 2 && a.fits E (2, [])⟩
def fstOwn (a b : Sem) (E : Env) : Ty := if (a.own E).1 = 0 then b.own E else a.own E
def semIf (c a b : Sem) : Sem :=
 ⟨c.names ++ (a.names ++ b.names), fstOwn a b, fun E t => c.fits E (2, []) && (a.fits E t && b.fits E t)⟩
def semBin (kd : Nat) (a b : Sem) : Sem :=
 if kd = 31 then
  ⟨a.names ++ b.names, fun _ => (2, []), fun E t => t.1 == 2 && ((fstOwn a b E).1 != 0 && (a.fits E (fstOwn a b E) && b.fits E (fstOwn a b E)))⟩
 else if kd = 24 ∨ kd = 25 then
  ⟨a.names ++ b.names, fun _ => (2, []), fun E t => t.1 == 2 && (a.fits E (2, []) && b.fits E (2, []))⟩
 else if kd = 32 then
  ⟨a.names ++ b.names, fun _ => (2, []), fun E t => t.1 == 2 && (a.fits E (1, []) && b.fits E (1, []))⟩
 else
  ⟨a.names ++ b.names, fun _ => (1, []), fun E t => t.1 == 1 && (a.fits E (1, []) && b.fits E (1, []))⟩
def signs (level : Nat) : List Nat :=
 if level = 0 then [24] else if level = 1 then [25] else if level = 3 then [31, 32] else if level = 4 then [27, 28] else [29, 30]
def St.isIn (q : St) (l : List Nat) : Bool := q.bad.isNone && l.contains (tokK T q.k).kind
def pRow (part : St → St × Sem) (l : List Nat) : Nat → St → Sem → St × Sem
 | 0, q, a => (q, a)
 | n + 1, q, a =>
  if q.isIn T l then
   let r := part q.adv
   pRow part l n r.1 (semBin (tokK T q.k).kind a r.2)
  else (q, a)
def St.opens (q : St) (nest : Nat) : St := if nest = 10 then q.fail T else q.adv
def pe : Nat → Nat → Nat → St → St × Sem
 | 0, _, _, q => (q, semNull)
 | f + 1, level, nest, q =>
  if level = 2 then
   if q.isK T 26 then
    let r := pe f 2 nest q.adv
    (r.1, semNot r.2)
   else pe f 3 nest q
  else if level = 3 then
   let r := pe f 4 nest q
   if r.1.isIn T (signs 3) then
    let r2 := pe f 4 nest r.1.adv
    (r2.1, semBin (tokK T r.1.k).kind r.2 r2.2)
   else r
  else if level < 6 then
   let r := pe f (level + 1) nest q
   pRow T (pe f (level + 1) nest) (signs level) T.length r.1 r.2
  else if level = 6 then
   if q.isK T 34 then
    let r := pe f 7 (nest + 1) (q.opens T nest)
    (r.1.want T 35, r.2)
   else if q.isK T 2 then (q.adv, semName (tokK T q.k).text.data.toList (tokK T q.k).place)
   else if q.isK T 20 then (q.adv, semNull)
   else
    let r := pValue T q
    (r.1, semVal r.2)
  else
   if q.isK T 21 then
    let r1 := pe f 7 (nest + 1) (q.opens T nest)
    let r2 := pe f 7 (nest + 1) (r1.1.want T 22)
    let r3 := pe f 7 (nest + 1) (r2.1.want T 23)
    (r3.1, semIf r1.2 r2.2 r3.2)
   else pe f 0 nest q
def fuel : Nat := 9 * T.length + 9
def pExpr (q : St) : St × Sem := pe T (fuel T) 7 0 q
structure PTest where
 op : Nat
 a : PVal
 b : PVal
def pTest (q : St) : St × PTest :=
 if q.isK T 32 then let r := pValue T q.adv
  (r.1, ⟨1, r.2, (0, [])⟩)
 else if q.isK T 33 then let r := pValue T q.adv
  (r.1, ⟨2, r.2, (0, [])⟩)
 else if q.isK T 36 then
  let r := pValue T q.adv
  let r2 := pValue T (r.1.want T 41)
  (r2.1.want T 37, ⟨3, r.2, r2.2⟩)
 else let r := pValue T q
  (r.1, ⟨0, r.2, (0, [])⟩)
def pTests : Nat → St → List PTest → St × List PTest
 | 0, q, l => (q, l)
 | n + 1, q, l =>
  let r := pTest T q
  if 0 < n && r.1.isK T 30 then pTests n r.1.adv (l ++ [r.2]) else (r.1, l ++ [r.2])
structure PCell where
 no : Bool
 tests : List PTest
def pCell (q : St) : St × PCell :=
 if q.isK T 28 && !(q.adv.isIn T [3, 4]) then (q.adv, ⟨false, []⟩)
 else
  let r := pTests T 4 (if q.isK T 26 then q.adv else q) []
  (r.1, ⟨q.isK T 26, r.2⟩)
structure PRule where
 cells : List PCell
 out : Sem
def pCells : Nat → St → List PCell → St × List PCell
 | 0, q, l => (q, l)
 | n + 1, q, l =>
  let r := pCell T (q.want T 38)
  pCells n r.1 (l ++ [r.2])
def pRule (n : Nat) (q : St) : St × PRule :=
 let r := pCell T q
 let r2 := pCells T (n - 1) r.1 [r.2]
 let r3 := pExpr T (r2.1.want T 31)
 (r3.1, ⟨r2.2, r3.2⟩)
def pRules (c : Nat) : Nat → St → List PRule → St × List PRule
 | 0, q, l => (q, l)
 | n + 1, q, l =>
  let r := pRule T c q
  if 0 < n && r.1.isK T 40 then pRules c n r.1.adv (l ++ [r.2]) else (r.1, l ++ [r.2])
def pCols : Nat → St → List (Name × Nat) → St × List (Name × Nat)
 | 0, q, l => (q, l)
 | n + 1, q, l =>
  let q2 := q.want T 2
  let l2 := l ++ [((tokK T q.k).text.data.toList, (tokK T q.k).place)]
  if 0 < n && q2.isK T 38 then pCols n q2.adv l2 else (q2, l2)
structure PItem where
 what : Nat
 place : Nat
 name : Name
 nameAt : Nat
 ty : Ty
 expr : Sem
 policy : Nat
 cols : List (Name × Nat)
 rules : List PRule
def pTable (q : St) (it : PItem) : St × PItem :=
 let q1 := if q.isIn T [12, 13, 14, 15, 16, 17] then q.adv else q.fail T
 let r := pCols T 3 (q1.want T 34) []
 let r2 := pRules T r.2.length 8 ((r.1.want T 35).want T 40) []
 (r2.1, { it with policy := (tokK T q.k).kind, cols := r.2, rules := r2.2 })
def pHead (what : Nat) (place : Nat) (q : St) : St × PItem :=
 let r := pType T (q.want T 2)
 (r.1, ⟨what, place, (tokK T q.k).text.data.toList, (tokK T q.k).place, r.2, semNull, 0, [], []⟩)
def pItem (q : St) : St × PItem :=
 let at_ := (tokK T q.k).place
 let r :=
  if q.isK T 6 then pHead T 0 at_ q.adv
  else if q.isK T 7 then
   let h := pHead T 1 at_ q.adv
   let e := pExpr T (h.1.want T 31)
   (e.1, { h.2 with expr := e.2 })
  else if q.isK T 8 then
   let h := pHead T 2 at_ q.adv
   pTable T h.1 h.2
  else (q.fail T, ⟨0, 0, [], 0, (0, []), semNull, 0, [], []⟩)
 (r.1.want T 39, r.2)
def pItems : Nat → St → List PItem → St × List PItem
 | 0, q, l => (if q.isK T 0 then q else q.fail T, l)
 | n + 1, q, l => if q.bad.isSome || q.isK T 0 then (q, l) else
  let r := pItem T q
  pItems n r.1 (l ++ [r.2])
def pModel : St × List PItem :=
 let r := pItem T ⟨0, none⟩
 pItems T 19 r.1 [r.2]
end
def stray (ns : List Name) (l : List (Name × Nat)) : Option Nat := (l.find? (fun x => !ns.contains x.1)).map (·.2)
def strayCols (ns : List Name) : List Name → List (Name × Nat) → Option Nat
 | _, [] => none
 | seen, x :: l => if !ns.contains x.1 || seen.contains x.1 then some x.2 else strayCols ns (seen ++ [x.1]) l
def itemStray (ns : List Name) (it : PItem) : Option Nat :=
 if ns.contains it.name then some it.nameAt
 else (strayCols ns [] it.cols).or ((stray ns it.expr.names).or (stray ns (it.rules.map (·.out.names)).flatten))
def itemsStray : List Name → List PItem → Option Nat
 | _, [] => none
 | ns, it :: l => (itemStray ns it).or (itemsStray (ns ++ [it.name]) l)
def testFits (t : Ty) (x : PTest) : Bool := (x.op == 0 || t.1 == 1) && (holds t x.a && (x.op != 3 || holds t x.b))
def cellsFit (E : Env) : List PCell → List (Name × Nat) → Bool
 | c :: cs, x :: xs => c.tests.all (testFits (tyOf E x.1)) && cellsFit E cs xs
 | _, _ => true
def outFits (E : Env) (it : PItem) (s : Sem) : Bool :=
 if it.policy = 15 then (s.own E).1 != 0 && s.fits E (s.own E) else s.fits E it.ty
def itemFits (E : Env) (it : PItem) : Bool :=
 if it.what = 0 then true
 else if it.what = 1 then it.expr.fits E it.ty
 else (it.policy == 12 || it.policy == 13 || it.ty.1 == 1) && it.rules.all (fun r => cellsFit E r.cells it.cols && outFits E it r.out)
def loadSpec (s : ByteArray) : Nat × Nat :=
 if 1000 < s.size then (1, 0)
 else
  let r := pModel (tokens s)
  match r.1.bad with
  | some p => (2, p)
  | none =>
   match itemsStray [] r.2 with
   | some p => (3, p)
   | none =>
    match r.2.find? (fun it => !itemFits (r.2.map (fun it => (it.name, it.ty))) it) with
    | some it => (4, it.place)
    | none => (0, 0)
section
variable (T : List Tok)
theorem isK_bad {q : St} (h : q.bad.isSome) (kd : Nat) : q.isK T kd = false := by
 unfold St.isK; cases hb : q.bad <;> simp_all
theorem isIn_bad {q : St} (h : q.bad.isSome) (l : List Nat) : q.isIn T l = false := by
 unfold St.isIn; cases hb : q.bad <;> simp_all
theorem fail_bad {q : St} (h : q.bad.isSome) : q.fail T = q := by simp [St.fail, h]
theorem adv_bad {q : St} (h : q.bad.isSome) : q.adv = q := by simp [St.adv, h]
theorem want_bad {q : St} (h : q.bad.isSome) (kd : Nat) : q.want T kd = q := by simp [St.want, isK_bad T h, fail_bad T h]
theorem pValue_bad {q : St} (h : q.bad.isSome) : (pValue T q).1 = q := by
 simp [pValue, isK_bad T h, want_bad T h]
theorem pRow_bad {q : St} (h : q.bad.isSome) (part : St → St × Sem) (l : List Nat) (n : Nat) (a : Sem) : (pRow T part l n q a).1 = q := by
 cases n <;> simp [pRow, isIn_bad T h]
theorem pe_bad {q : St} (h : q.bad.isSome) : ∀ f level nest, (pe T f level nest q).1 = q := by
 intro f; induction f with
 | zero => intros; rfl
 | succ f ih =>
  intro level nest; unfold pe; simp only [isK_bad T h, Bool.false_eq_true, if_false]; split
  ·exact ih _ _
  ·split
   ·simp only [ih, isIn_bad T h, Bool.false_eq_true, if_false]
   ·split
    ·rw [ih, pRow_bad T h]
    ·split
     ·exact pValue_bad T h
     ·exact ih _ _
theorem pExpr_bad {q : St} (h : q.bad.isSome) : (pExpr T q).1 = q := pe_bad T h _ _ _
theorem pWords_bad {q : St} (h : q.bad.isSome) (n : Nat) (ws : List (List UInt8)) : (pWords T n q ws).1 = q := by
 cases n <;> simp [pWords, isK_bad T h, want_bad T h]
theorem pType_bad {q : St} (h : q.bad.isSome) : (pType T q).1 = q := by
 simp [pType, isK_bad T h, want_bad T h, pWords_bad T h]
theorem pTest_bad {q : St} (h : q.bad.isSome) : (pTest T q).1 = q := by
 simp [pTest, isK_bad T h, pValue_bad T h]
theorem pTests_bad {q : St} (h : q.bad.isSome) (n : Nat) (l : List PTest) : (pTests T n q l).1 = q := by
 cases n <;> simp [pTests, pTest_bad T h, isK_bad T h]
theorem pCell_bad {q : St} (h : q.bad.isSome) : (pCell T q).1 = q := by
 simp [pCell, isK_bad T h, pTests_bad T h]
theorem pCells_bad {q : St} (h : q.bad.isSome) (n : Nat) : ∀ (l : List PCell), (pCells T n q l).1 = q := by
 induction n with
 | zero => intro l; rfl
 | succ n ih => intro l; simp only [pCells, want_bad T h]; rw [pCell_bad T h]; exact ih _
theorem pRule_bad {q : St} (h : q.bad.isSome) (n : Nat) : (pRule T n q).1 = q := by
 simp [pRule, pCell_bad T h, pCells_bad T h, want_bad T h, pExpr_bad T h]
theorem pRules_bad {q : St} (h : q.bad.isSome) (c n : Nat) (l : List PRule) : (pRules T c n q l).1 = q := by
 cases n <;> simp [pRules, pRule_bad T h, isK_bad T h]
theorem pCols_bad {q : St} (h : q.bad.isSome) (n : Nat) (l : List (Name × Nat)) : (pCols T n q l).1 = q := by
 cases n <;> simp [pCols, want_bad T h, isK_bad T h]
theorem pTable_bad {q : St} (h : q.bad.isSome) (it : PItem) : (pTable T q it).1 = q := by
 simp [pTable, isIn_bad T h, fail_bad T h, want_bad T h, pCols_bad T h, pRules_bad T h]
structure Shut : Prop where
 pos : 0 < T.length
 last : ∀ k, k + 1 = T.length → (tokK T k).kind ≤ 1
 inner : ∀ k, k + 1 < T.length → 2 ≤ (tokK T k).kind
def St.ok (q : St) : Prop := q.k < T.length
variable {T}
theorem isK_iff {q : St} {kd : Nat} : q.isK T kd = true ↔ q.bad = none ∧ (tokK T q.k).kind = kd := by
 simp [St.isK]
theorem isIn_iff {q : St} {l : List Nat} : q.isIn T l = true ↔ q.bad = none ∧ (tokK T q.k).kind ∈ l := by
 simp [St.isIn]
theorem ok_adv (hT : Shut T) {q : St} (hq : q.ok T) (h : 2 ≤ (tokK T q.k).kind) : q.adv.ok T := by
 unfold St.ok at *
 unfold St.adv; split
 ·exact hq
 ·show q.k + 1 < T.length; rcases Nat.lt_or_ge (q.k + 1) T.length with h1 | h1
  ·exact h1
  ·have := hT.last q.k (by omega); omega
theorem ok_fail {q : St} (hq : q.ok T) : (q.fail T).ok T := by
 unfold St.fail; split <;> exact hq
theorem ok_want (hT : Shut T) {q : St} (hq : q.ok T) {kd : Nat} (h : 2 ≤ kd) : (q.want T kd).ok T := by
 unfold St.want; split
 ·rename_i hk; exact ok_adv hT hq (by rw [(isK_iff.1 hk).2]; exact h)
 ·exact ok_fail hq
def St.le (q r : St) : Prop := r.bad = none → q.bad = none ∧ q.k ≤ r.k
theorem St.le_refl (q : St) : q.le q := fun h => ⟨h, Nat.le_refl _⟩
theorem St.le_trans {a b c : St} (h : a.le b) (k : b.le c) : a.le c := fun hc =>
 have ⟨hb, h2⟩ := k hc; have ⟨ha, h1⟩ := h hb
 ⟨ha, Nat.le_trans h1 h2⟩
theorem le_adv (q : St) : q.le q.adv := by
 unfold St.adv St.le; cases hb : q.bad <;> simp [hb]
theorem le_fail (q : St) : q.le (q.fail T) := by
 unfold St.fail St.le; cases hb : q.bad <;> simp [hb]
theorem le_want (q : St) (kd : Nat) : q.le (q.want T kd) := by
 unfold St.want; split
 ·exact le_adv q
 ·exact le_fail q
def Goes (T : List Tok) (q r : St) : Prop := q.le r ∧ (q.ok T → r.ok T)
theorem Goes.refl (q : St) : Goes T q q := ⟨St.le_refl q, id⟩
theorem Goes.trans {a b c : St} (h : Goes T a b) (k : Goes T b c) : Goes T a c := ⟨St.le_trans h.1 k.1, fun x => k.2 (h.2 x)⟩
theorem goes_adv (hT : Shut T) {q : St} {kd : Nat} (h2 : 2 ≤ kd) (h : q.isK T kd = true) : Goes T q q.adv :=
 ⟨le_adv q, fun hq => ok_adv hT hq (by rw [(isK_iff.1 h).2]; exact h2)⟩
theorem goes_advIn (hT : Shut T) {q : St} {l : List Nat} (h2 : ∀ x ∈ l, 2 ≤ x) (h : q.isIn T l = true) : Goes T q q.adv :=
 ⟨le_adv q, fun hq => ok_adv hT hq (h2 _ (isIn_iff.1 h).2)⟩
theorem goes_fail (q : St) : Goes T q (q.fail T) := ⟨le_fail q, ok_fail⟩
theorem goes_want (hT : Shut T) (q : St) {kd : Nat} (h2 : 2 ≤ kd) : Goes T q (q.want T kd) := ⟨le_want q kd, fun hq => ok_want hT hq h2⟩
theorem goes_opens (hT : Shut T) {q : St} {kd : Nat} (h2 : 2 ≤ kd) (h : q.isK T kd = true) (n : Nat) : Goes T q (q.opens T n) := by
 unfold St.opens; split
 ·exact goes_fail q
 ·exact goes_adv hT h2 h
theorem goes_value (hT : Shut T) (q : St) : Goes T q (pValue T q).1 := by
 unfold pValue; split
 ·rename_i h; refine (goes_adv hT (by decide) h).trans ?_; show Goes T q.adv (if q.adv.isK T 4 = true then q.adv.adv else q.adv.want T 3); split
  ·rename_i h4; exact goes_adv hT (by decide) h4
  ·exact goes_want hT _ (by decide)
 ·split
  ·rename_i h; exact goes_adv hT (by decide) h
  ·split
   ·rename_i h; exact goes_adv hT (by decide) h
   ·split
    ·rename_i h; exact goes_adv hT (by decide) h
    ·exact goes_want hT _ (by decide)
theorem goes_row (hT : Shut T) {part : St → St × Sem} (hp : ∀ q, Goes T q (part q).1) {l : List Nat} (h2 : ∀ x ∈ l, 2 ≤ x) :
  ∀ n q a, Goes T q (pRow T part l n q a).1 := by
 intro n; induction n with
 | zero => intro q a; exact Goes.refl q
 | succ n ih =>
  intro q a; unfold pRow; split
  ·rename_i h; exact (goes_advIn hT h2 h).trans ((hp _).trans (ih _ _))
  ·exact Goes.refl q
theorem signs_two (level : Nat) : ∀ x ∈ signs level, 2 ≤ x := by
 unfold signs; intro x hx; repeat' split at hx
 all_goals simp at hx; omega
theorem goes_pe (hT : Shut T) : ∀ f level nest q, Goes T q (pe T f level nest q).1 := by
 intro f; induction f with
 | zero => intro _ _ q; exact Goes.refl q
 | succ f ih =>
  intro level nest q; unfold pe; split
  ·split
   ·rename_i h; exact (goes_adv hT (by decide) h).trans (ih _ _ _)
   ·exact ih _ _ _
  ·split
   ·by_cases h : (pe T f 4 nest q).1.isIn T (signs 3) = true
    ·simp only [h, if_true]; exact (ih _ _ _).trans ((goes_advIn hT (signs_two 3) h).trans (ih _ _ _))
    ·simp only [h, Bool.false_eq_true, if_false]; exact ih _ _ _
   ·split
    ·exact (ih _ _ _).trans (goes_row hT (fun q => ih _ _ q) (signs_two level) _ _ _)
    ·split
     ·split
      ·rename_i h; exact (goes_opens hT (by decide) h nest).trans ((ih _ _ _).trans (goes_want hT _ (by decide)))
      ·split
       ·rename_i h; exact goes_adv hT (by decide) h
       ·split
        ·rename_i h; exact goes_adv hT (by decide) h
        ·exact goes_value hT q
     ·split
      ·rename_i h; exact (goes_opens hT (by decide) h nest).trans ((ih _ _ _).trans ((goes_want hT _ (by decide)).trans ((ih _ _ _).trans ((goes_want hT _ (by decide)).trans (ih _ _ _)))))
      ·exact ih _ _ _
end
theorem spanTo_ge (p : UInt8 → Bool) (s : ByteArray) (i : Nat) : i ≤ spanTo p s i := by unfold spanTo; omega
theorem drop_at (s : ByteArray) (i : Nat) (h : i < s.size) : s.data.toList.drop i = s[i]'h :: s.data.toList.drop (i + 1) := by
 rw [List.drop_eq_getElem_cons (by simpa using h)]; rfl
theorem spanTo_yes {p : UInt8 → Bool} {s : ByteArray} {i : Nat} (h : i < s.size) (hp : p (s[i]'h) = true) : spanTo p s i = spanTo p s (i + 1) := by
 unfold spanTo; rw [drop_at s i h, List.takeWhile_cons_of_pos hp]; simp; omega
theorem spanTo_no {p : UInt8 → Bool} {s : ByteArray} {i : Nat} (h : i < s.size) (hp : p (s[i]'h) = false) : spanTo p s i = i := by
 unfold spanTo; rw [drop_at s i h, List.takeWhile_cons_of_neg (by simp [hp])]; simp
theorem spanTo_end {p : UInt8 → Bool} {s : ByteArray} {i : Nat} (h : s.size ≤ i) : spanTo p s i = i := by
 unfold spanTo; rw [List.drop_eq_nil_of_le (by simpa using h)]; simp
theorem spanTo_le (p : UInt8 → Bool) (s : ByteArray) (i : Nat) (h : i ≤ s.size) : spanTo p s i ≤ s.size := by
 unfold spanTo; have h1 := (List.takeWhile_sublist (l := s.data.toList.drop i) p).length_le; have h2 : (s.data.toList.drop i).length = s.size - i := by simp
 omega
theorem spanTo_gt {p : UInt8 → Bool} {s : ByteArray} {i : Nat} (h : i < s.size) (hp : p (s[i]'h) = true) : i < spanTo p s i := by
 rw [spanTo_yes h hp]; have := spanTo_ge p s (i + 1); omega
theorem spanTo_all (p : UInt8 → Bool) (s : ByteArray) (i j : Nat) (h1 : i ≤ j) (h2 : j < spanTo p s i) (h : j < s.size) : p (s[j]'h) = true := by
 induction hd : j - i generalizing i with
 | zero =>
  have : i = j := by omega
  subst this; cases hp : p (s[i]'h) with
  | true => rfl
  | false => rw [spanTo_no h hp] at h2; omega
 | succ n ih =>
  have hi : i < s.size := by omega
  cases hp : p (s[i]'hi) with
  | true => exact ih (i + 1) (by omega) (by rw [← spanTo_yes hi hp]; exact h2) (by omega)
  | false => rw [spanTo_no hi hp] at h2; omega
theorem spanTo_skip {p : UInt8 → Bool} {s : ByteArray} {i j : Nat} (h1 : i ≤ j) (hj : j ≤ s.size) (h : ∀ k (hk : k < s.size), i ≤ k → k < j → p (s[k]'hk) = true) : spanTo p s i = spanTo p s j := by
 induction hd : j - i generalizing i with
 | zero =>
  have : i = j := by omega
  rw [this]
 | succ n ih =>
  have hi : i < s.size := by omega
  rw [spanTo_yes hi (h i hi (Nat.le_refl _) (by omega))]; exact ih (by omega) (fun k hk a b => h k hk (by omega) b) (by omega)
theorem decode_pos (s : ByteArray) (i : Nat) (h : i < s.size) : 1 ≤ (Utf8.decode s i).2 := by
 by_cases ha : (s[i]'h).toNat < 128
 ·rw [decode_ascii s i h ha]; exact Nat.le_refl _
 ·exact (decode_high s i h (by omega)).2
theorem wordTo_gt (s : ByteArray) : ∀ f k n r, wordTo s f k n = some r → k < r ∧ r ≤ s.size := by
 intro f; induction f with
 | zero => intro k n r h; simp [wordTo] at h
 | succ f ih =>
  intro k n r h; unfold wordTo at h; split at h
  ·rename_i hk; split at h
   ·split at h
    ·cases h
    ·simp at h; omega
   ·split at h
    ·cases h
    ·have := ih _ _ _ h; have := decode_pos s k hk; omega
  ·cases h
theorem mkTok_ok (s : ByteArray) (kd i k : Nat) (h : 2 ≤ (mkTok s kd i k).kind) (h1 : i < k) (h2 : k ≤ s.size) :
  (mkTok s kd i k).place = i ∧ i < (mkTok s kd i k).stop ∧ (mkTok s kd i k).stop ≤ s.size ∧ (mkTok s kd i k).text = s.extract i (mkTok s kd i k).stop := by
 have h' : 2 ≤ kd := h; refine ⟨rfl, h1, h2, ?_⟩; show (if kd = 1 then ByteArray.empty else s.extract i k) = s.extract i k; rw [if_neg (by omega)]
theorem mkTok_bad (s : ByteArray) (i k : Nat) (h : 2 ≤ (mkTok s 1 i k).kind) : False := by
 have h' : 2 ≤ 1 := h; omega
theorem tokAt_ok (s : ByteArray) (i : Nat) (h : 2 ≤ (tokAt s i).kind) : (tokAt s i).place = i ∧ i < (tokAt s i).stop ∧ (tokAt s i).stop ≤ s.size ∧ (tokAt s i).text = s.extract i (tokAt s i).stop := by
 revert h; unfold tokAt; split
 ·rename_i hi; split
  ·rename_i hl; intro h; exact mkTok_ok _ _ _ _ h (spanTo_gt hi hl) (spanTo_le _ _ _ (by omega))
  ·split
   ·rename_i hl; intro h; exact mkTok_ok _ _ _ _ h (spanTo_gt hi hl) (spanTo_le _ _ _ (by omega))
   ·split
    ·split
     ·rename_i k hw; have := wordTo_gt s _ _ _ _ hw; intro h; exact mkTok_ok _ _ _ _ h (by omega) (by omega)
     ·intro h; exact (mkTok_bad _ _ _ h).elim
    ·split
     ·split
      ·rename_i hp2; have : i + 1 < s.size := by
        rcases Nat.lt_or_ge (i + 1) s.size with h1 | h1
        ·exact h1
        ·exfalso; have : s[i + 1]? = none := by simp [h1]
         rw [this] at hp2; cases hp2
       intro h; exact mkTok_ok _ _ _ _ h (by omega) (by omega)
      ·intro h; exact (mkTok_bad _ _ _ h).elim
     ·intro h; exact mkTok_ok _ _ _ _ h (by omega) (by omega)
 ·intro h; have h' : 2 ≤ 0 := h; omega
theorem cut_ok (s : ByteArray) (i : Nat) (h : 2 ≤ (cut s i).kind) : i < (cut s i).stop ∧ (cut s i).stop ≤ s.size ∧ i ≤ (cut s i).place ∧ (cut s i).place < (cut s i).stop ∧ (cut s i).text = s.extract (cut s i).place (cut s i).stop := by
 have := tokAt_ok s (spanTo isSp s i) h; have h2 := spanTo_ge isSp s i; unfold cut at *
 obtain ⟨a, b, c, d⟩ := this; refine ⟨by omega, c, by omega, by omega, ?_⟩; rw [a]; exact d
structure Follows (s : ByteArray) (i : Nat) (T : List Tok) : Prop where
 shut : Shut T
 first : tokK T 0 = cut s i
 next : ∀ k, k + 1 < T.length → tokK T (k + 1) = cut s (tokK T k).stop
theorem toks_follow (s : ByteArray) : ∀ f i, s.size < i + f → i ≤ s.size → Follows s i (toks s f i) := by
 intro f; induction f with
 | zero => intro i h h2; omega
 | succ f ih =>
  intro i h h2; unfold toks; split
  ·rename_i hk; refine ⟨⟨by simp, ?_, ?_⟩, rfl, ?_⟩
   ·intro k e; simp at e; subst e; exact hk
   ·intro k e; simp at e
   ·intro k e; simp at e
  ·rename_i hk; have hc := cut_ok s i (by omega); have H := ih (cut s i).stop (by omega) hc.2.1; have hlen := H.shut.pos; refine ⟨⟨by simp, ?_, ?_⟩, rfl, ?_⟩
   ·intro k e; cases k with
    | zero => rw [List.length_cons] at e; omega
    | succ k => simp at e; exact H.shut.last k e
   ·intro k e; cases k with
    | zero => show 2 ≤ (cut s i).kind; omega
    | succ k => simp at e; exact H.shut.inner k e
   ·intro k e; cases k with
    | zero => exact H.first
    | succ k => simp at e; exact H.next k e
theorem tokens_follow (s : ByteArray) : Follows s 0 (tokens s) := toks_follow s _ 0 (by omega) (by omega)
def allDig (l : List UInt8) : Prop := ∀ c ∈ l, isDig c = true
theorem dig_bounds {c : UInt8} (h : isDig c = true) : 48 ≤ c.toNat ∧ c.toNat ≤ 57 := by
 simpa [isDig] using h
def valFrom (n : Nat) (l : List UInt8) : Nat := l.foldl (fun n c => 10 * n + (c.toNat - 48)) n
theorem digitsVal_eq (l : List UInt8) : digitsVal l = valFrom 0 l := by simp only [digitsVal, valFrom]
theorem valFrom_cons (n : Nat) (c : UInt8) (l : List UInt8) : valFrom n (c :: l) = valFrom (10 * n + (c.toNat - 48)) l := by simp only [valFrom, List.foldl_cons]
theorem valFrom_split (l : List UInt8) : ∀ n, valFrom n l = n * 10 ^ l.length + valFrom 0 l := by
 induction l with
 | nil => intro n; simp [valFrom]
 | cons c l ih =>
  intro n; rw [valFrom_cons, valFrom_cons, ih, ih (10 * 0 + (c.toNat - 48)), List.length_cons, Nat.pow_succ]; have e1 : (10 * n + (c.toNat - 48)) * 10 ^ l.length = n * (10 ^ l.length * 10) + (c.toNat - 48) * 10 ^ l.length := by
   rw [Nat.add_mul, Nat.mul_comm 10 n, Nat.mul_assoc, Nat.mul_comm 10 (10 ^ l.length)]
  rw [e1]; simp only [Nat.mul_zero, Nat.zero_add]; omega
theorem valFrom_lt (l : List UInt8) (h : allDig l) : valFrom 0 l < 10 ^ l.length := by
 induction l with
 | nil => simp [valFrom]
 | cons c l ih =>
  have hc := dig_bounds (h c (by simp)); have hl := ih (fun x hx => h x (by simp [hx])); rw [valFrom_cons, valFrom_split, List.length_cons, Nat.pow_succ]; have : (10 * 0 + (c.toNat - 48)) * 10 ^ l.length ≤ 9 * 10 ^ l.length := Nat.mul_le_mul_right _ (by omega); omega
theorem less_iff (a : List UInt8) : ∀ b, a.length = b.length → allDig a → allDig b → (Op.bytesLess a b = true ↔ valFrom 0 a < valFrom 0 b) := by
 induction a with
 | nil =>
  intro b hl _ _; cases b with
  | nil => simp [Op.bytesLess, valFrom]
  | cons c b => simp at hl
 | cons x a ih =>
  intro b hl ha hb; cases b with
  | nil => simp at hl
  | cons y b =>
   have hl' : a.length = b.length := by simpa using hl
   have hx := dig_bounds (ha x (by simp)); have hy := dig_bounds (hb y (by simp)); have ha' : allDig a := fun z hz => ha z (by simp [hz])
   have hb' : allDig b := fun z hz => hb z (by simp [hz])
   have va := valFrom_lt a ha'; have vb := valFrom_lt b hb'; have I := ih b hl' ha' hb'; rw [valFrom_cons, valFrom_cons, valFrom_split a, valFrom_split b, hl'] at *
   have hxy : (x < y) ↔ x.toNat < y.toNat := UInt8.lt_iff_toNat_lt; have hxe : (x == y) = true ↔ x.toNat = y.toNat := by rw [beq_iff_eq]; exact ⟨fun h => by rw [h], fun h => UInt8.toNat_inj.1 h⟩
   simp only [Op.bytesLess, Bool.or_eq_true, Bool.and_eq_true, decide_eq_true_eq]; rw [hxy, hxe, I]; generalize 10 ^ b.length = p at *
   generalize valFrom 0 a = u at *
   generalize valFrom 0 b = v at *
   constructor
   ·rintro (h | ⟨h, h2⟩)
    ·have : (10 * 0 + (x.toNat - 48) + 1) * p ≤ (10 * 0 + (y.toNat - 48)) * p := Nat.mul_le_mul_right _ (by omega); rw [Nat.add_mul, Nat.one_mul] at this; omega
    ·rw [h]; omega
   ·intro h; rcases Nat.lt_trichotomy x.toNat y.toNat with h1 | h1 | h1
    ·exact Or.inl h1
    ·refine Or.inr ⟨h1, ?_⟩; rw [h1] at h; omega
    ·have : (10 * 0 + (y.toNat - 48) + 1) * p ≤ (10 * 0 + (x.toNat - 48)) * p := Nat.mul_le_mul_right _ (by omega); rw [Nat.add_mul, Nat.one_mul] at this; omega
theorem val_most : valFrom 0 mostText = 9223372036854775807 := by decide
theorem val_great : valFrom 0 greatText = 9223372036854775808 := by decide
theorem dig_most : allDig mostText := by
 have h : mostText.all isDig = true := by decide
 exact fun c hc => List.all_eq_true.1 h c hc
theorem dig_great : allDig greatText := by
 have h : greatText.all isDig = true := by decide
 exact fun c hc => List.all_eq_true.1 h c hc
theorem val_ge (l : List UInt8) (h : allDig l) (h0 : l.head? ≠ some 48) (hne : l ≠ []) : 10 ^ (l.length - 1) ≤ valFrom 0 l := by
 cases l with
 | nil => exact absurd rfl hne
 | cons c l =>
  have hc := dig_bounds (h c (by simp)); have : c.toNat ≠ 48 := by
   intro e; apply h0; have : c = 48 := UInt8.toNat_inj.1 (by simpa using e); simp [this]
  rw [valFrom_cons, valFrom_split]; have : 1 * 10 ^ l.length ≤ (10 * 0 + (c.toNat - 48)) * 10 ^ l.length := Nat.mul_le_mul_right _ (by omega); simp only [List.length_cons, Nat.add_sub_cancel]; omega
theorem val_inj (a : List UInt8) : ∀ b, a.length = b.length → allDig a → allDig b → valFrom 0 a = valFrom 0 b → a = b := by
 induction a with
 | nil => intro b hl _ _ _; cases b with
  | nil => rfl
  | cons c b => simp at hl
 | cons x a ih =>
  intro b hl ha hb e; cases b with
  | nil => simp at hl
  | cons y b =>
   have hl' : a.length = b.length := by simpa using hl
   have hx := dig_bounds (ha x (by simp)); have hy := dig_bounds (hb y (by simp)); have ha' : allDig a := fun z hz => ha z (by simp [hz])
   have hb' : allDig b := fun z hz => hb z (by simp [hz])
   have va := valFrom_lt a ha'; have vb := valFrom_lt b hb'; have I := ih b hl' ha' hb'; rw [valFrom_cons, valFrom_cons, valFrom_split a, valFrom_split b, hl'] at e; rw [hl'] at va; generalize 10 ^ b.length = p at *
   have hxy : x.toNat = y.toNat := by
    rcases Nat.lt_trichotomy x.toNat y.toNat with h1 | h1 | h1
    ·have : (10 * 0 + (x.toNat - 48) + 1) * p ≤ (10 * 0 + (y.toNat - 48)) * p := Nat.mul_le_mul_right _ (by omega); rw [Nat.add_mul, Nat.one_mul] at this; omega
    ·exact h1
    ·have : (10 * 0 + (y.toNat - 48) + 1) * p ≤ (10 * 0 + (x.toNat - 48)) * p := Nat.mul_le_mul_right _ (by omega); rw [Nat.add_mul, Nat.one_mul] at this; omega
   rw [hxy] at e; rw [I (by omega), UInt8.toNat_inj.1 hxy]
def numberB (l : List UInt8) (minus : Bool) : Bool :=
 let most := if minus then greatText else mostText
 if 1 < l.length ∧ l.head? = some 48 then false
 else decide (l.length < 19) || (decide (l.length = 19) && (Op.bytesLess l most || l == most))
theorem numberB_iff (l : List UInt8) (minus : Bool) (h : allDig l) (hne : l ≠ []) :
  numberB l minus = true ↔ ¬ (1 < l.length ∧ l.head? = some 48) ∧ valFrom 0 l ≤ (if minus then 9223372036854775808 else 9223372036854775807) := by
 unfold numberB; by_cases hz : 1 < l.length ∧ l.head? = some 48
 ·simp [hz]
 ·have hm : (if minus then greatText else mostText).length = 19 := by cases minus <;> decide
  have hd : allDig (if minus then greatText else mostText) := by
   cases minus
   ·exact dig_most
   ·exact dig_great
  have hv : valFrom 0 (if minus then greatText else mostText) = (if minus then 9223372036854775808 else 9223372036854775807) := by
   cases minus
   ·exact val_most
   ·exact val_great
  rw [← hv]; generalize (if minus = true then greatText else mostText) = m at *
  have hmv : (10 : Nat) ^ 18 ≤ valFrom 0 m := by rw [hv]; cases minus <;> decide
  have hmv2 : valFrom 0 m < (10 : Nat) ^ 19 := by rw [hv]; cases minus <;> decide
  simp only [hz, if_false, not_false_iff, true_and, Bool.or_eq_true, Bool.and_eq_true, decide_eq_true_eq]; constructor
  ·rintro (h1 | ⟨h1, h2 | h2⟩)
   ·have a := valFrom_lt l h; have b : 10 ^ l.length ≤ 10 ^ 18 := Nat.pow_le_pow_right (by decide) (by omega); omega
   ·have := (less_iff l m (by omega) h hd).1 h2; omega
   ·have : l = m := by simpa using h2
    rw [this]; exact Nat.le_refl _
  ·intro hle; rcases Nat.lt_trichotomy l.length 19 with h1 | h1 | h1
   ·exact Or.inl h1
   ·refine Or.inr ⟨h1, ?_⟩; rcases Nat.lt_or_ge (valFrom 0 l) (valFrom 0 m) with h2 | h2
    ·exact Or.inl ((less_iff l m (by omega) h hd).2 h2)
    ·have : l = m := val_inj l m (by omega) h hd (by omega); exact Or.inr (by simp [this])
   ·exfalso; have hg := val_ge l h (fun e => hz ⟨by omega, e⟩) hne; have b : 10 ^ 19 ≤ 10 ^ (l.length - 1) := Nat.pow_le_pow_right (by decide) (by omega); omega
theorem digitKind_eq (l : List UInt8) (h : allDig l) (hne : l ≠ []) :
  digitKind l = if numberB l false then 3 else if numberB l true then 4 else 1 := by
 have a := numberB_iff l false h hne; have b := numberB_iff l true h hne; simp only [Bool.false_eq_true, if_false] at a; simp only [if_true] at b; unfold digitKind; rw [digitsVal_eq]; by_cases hg : l = greatText
 ·subst hg; have z : ¬ (1 < greatText.length ∧ greatText.head? = some 48) := by decide
  have a' : numberB greatText false = false := by decide
  have b' : numberB greatText true = true := by decide
  simp [a', b']
 ·rw [if_neg hg]; by_cases hz : 1 < l.length ∧ l.head? = some 48
  ·have a' : numberB l false = false := by
    cases hb : numberB l false with
    | false => rfl
    | true => exact absurd hz (a.1 hb).1
   have b' : numberB l true = false := by
    cases hb : numberB l true with
    | false => rfl
    | true => exact absurd hz (b.1 hb).1
   simp [hz, a', b']
  ·rw [if_neg hz]; by_cases hv : valFrom 0 l ≤ 9223372036854775807
   ·rw [if_pos hv, if_pos (a.2 ⟨hz, hv⟩)]
   ·have a' : ¬ numberB l false = true := fun hb => hv (a.1 hb).2
    have b' : ¬ numberB l true = true := by
     intro hb; have hle := (b.1 hb).2; have e : valFrom 0 l = valFrom 0 greatText := by rw [val_great]; omega
     have hlen : l.length = greatText.length := by
      rcases Nat.lt_trichotomy l.length 19 with h1 | h1 | h1
      ·have x := valFrom_lt l h; have y : 10 ^ l.length ≤ 10 ^ 18 := Nat.pow_le_pow_right (by decide) (by omega); have z : (10 : Nat) ^ 18 = 1000000000000000000 := by decide
       omega
      ·exact h1
      ·have x := val_ge l h (fun e => hz ⟨by omega, e⟩) hne; have y : 10 ^ 19 ≤ 10 ^ (l.length - 1) := Nat.pow_le_pow_right (by decide) (by omega); have z : (10 : Nat) ^ 19 = 10000000000000000000 := by decide
       omega
     exact hg (val_inj l greatText hlen h dig_great e)
    rw [if_neg hv, if_neg a', if_neg b']
theorem get_list (s : ByteArray) (k : Nat) : (s.get! k) = s.data.toList.getD k 0 := by
 by_cases h : k < s.size
 ·have h' : k < s.data.toList.length := by simpa using h
  have e : s.get! k = s[k]'h := by simp [ByteArray.get!, getElem!_pos, h]; rfl
  rw [e, List.getD_eq_getElem?_getD, List.getElem?_eq_getElem h']; rfl
 ·have h' : s.data.toList.length ≤ k := by simpa using h
  rw [List.getD_eq_getElem?_getD, List.getElem?_eq_none h']; have hk : ¬ k < s.data.size := by simpa using h'
  show s.data[k]! = 0; rw [getElem!_neg s.data k hk]; rfl
def isFFFD (s : ByteArray) (k : Nat) : Bool := Lib.hasPrefix (s.data.toList.drop k) [239, 191, 189]
theorem isFFFD_iff (s : ByteArray) (k : Nat) : isFFFD s k = true ↔ k + 2 < s.size ∧ (s.get! k).toNat = 239 ∧ (s.get! (k + 1)).toNat = 191 ∧ (s.get! (k + 2)).toNat = 189 := by
 have hlen : (s.data.toList.drop k).length = s.size - k := by simp
 rw [get_list, get_list, get_list]; have g : ∀ j, s.data.toList.getD (k + j) 0 = (s.data.toList.drop k).getD j 0 := by
  intro j; simp [List.getD_eq_getElem?_getD]
 have g0 := g 0; rw [Nat.add_zero] at g0; rw [g0, g 1, g 2]; unfold isFFFD Lib.hasPrefix; have n239 : ∀ x : UInt8, x.toNat = 239 ↔ x = 239 := fun x => ⟨fun h => UInt8.toNat_inj.1 (by simpa using h), fun h => by rw [h]; rfl⟩
 have n191 : ∀ x : UInt8, x.toNat = 191 ↔ x = 191 := fun x => ⟨fun h => UInt8.toNat_inj.1 (by simpa using h), fun h => by rw [h]; rfl⟩
 have n189 : ∀ x : UInt8, x.toNat = 189 ↔ x = 189 := fun x => ⟨fun h => UInt8.toNat_inj.1 (by simpa using h), fun h => by rw [h]; rfl⟩
 rw [n239, n191, n189]; generalize s.data.toList.drop k = l at hlen
 match l, hlen with
 | [], h => simp at h ⊢
 | [a], h => simp at h ⊢
 | [a, b], h => simp at h ⊢
 | a :: b :: c :: l, h =>
  simp at h; simp [List.isPrefixOf]; constructor
  ·rintro ⟨h1, h2, h3⟩; exact ⟨by omega, h1.symm, h2.symm, h3.symm⟩
  ·rintro ⟨_, h1, h2, h3⟩; exact ⟨h1.symm, h2.symm, h3.symm⟩
theorem decodeN_fffd (n b0 b1 b2 b3 : Nat) (l0 : b0 < 256) (_l1 : b1 < 256) (_l2 : b2 < 256) (_l3 : b3 < 256) (h : (Lib.decodeN n b0 b1 b2 b3).1 = 65533) :
  ((Lib.decodeN n b0 b1 b2 b3).2 = 1 ↔ ¬ (2 < n ∧ b0 = 239 ∧ b1 = 191 ∧ b2 = 189)) := by
 revert h; unfold Lib.decodeN; repeat' split
 all_goals intro h
 all_goals first | (exfalso; simp only at h; omega) | (constructor <;> intro h2 <;> first | rfl | omega | (exfalso; simp only at h h2; omega))
theorem decode_fffd (s : ByteArray) (k : Nat) (hr : (Utf8.decode s k).1 = 65533) : ((Utf8.decode s k).2 = 1 ↔ isFFFD s k = false) := by
 rw [Lib.decode_at] at hr ⊢; rw [decodeN_fffd _ _ _ _ _ (UInt8.toNat_lt _) (UInt8.toNat_lt _) (UInt8.toNat_lt _) (UInt8.toNat_lt _) hr, ← Bool.not_eq_true, isFFFD_iff]; have e : (2 < s.size - k) ↔ (k + 2 < s.size) := by omega
 rw [e]
def NamesIn (T : List Tok) (a b : Nat) (l : List (Name × Nat)) : Prop :=
 ∃ ks : List Nat, l = ks.map (fun k => ((tokK T k).text.data.toList, (tokK T k).place)) ∧ ks.Pairwise (· < ·) ∧ ∀ k ∈ ks, a ≤ k ∧ k < b ∧ k < T.length ∧ (tokK T k).kind = 2
section
variable {T : List Tok}
theorem NamesIn.nil (a b : Nat) : NamesIn T a b [] := ⟨[], rfl, List.Pairwise.nil, fun k hk => by cases hk⟩
theorem NamesIn.one {q : St} (hq : q.ok T) (h : q.isK T 2 = true) : NamesIn T q.k (q.k + 1) [((tokK T q.k).text.data.toList, (tokK T q.k).place)] :=
 ⟨[q.k], rfl, List.pairwise_singleton _ _, fun k hk => by
  simp only [List.mem_singleton] at hk; subst hk; exact ⟨Nat.le_refl _, Nat.lt_succ_self _, hq, (isK_iff.1 h).2⟩⟩
theorem NamesIn.append {a b c d : Nat} {l m : List (Name × Nat)} (h : NamesIn T a b l) (k : NamesIn T c d m) (hab : a ≤ b) (hbc : b ≤ c) (hcd : c ≤ d) : NamesIn T a d (l ++ m) := by
 obtain ⟨x, rfl, hx, hx'⟩ := h; obtain ⟨y, rfl, hy, hy'⟩ := k; refine ⟨x ++ y, by rw [List.map_append], ?_, ?_⟩
 ·rw [List.pairwise_append]; refine ⟨hx, hy, fun i hi j hj => ?_⟩; have h1 := hx' i hi; have h2 := hy' j hj; omega
 ·intro i hi; rcases List.mem_append.1 hi with hi | hi
  ·have h1 := hx' i hi; exact ⟨h1.1, by omega, h1.2.2⟩
  ·have h1 := hy' i hi; exact ⟨by omega, h1.2⟩
theorem NamesIn.mono {a b c d : Nat} {l : List (Name × Nat)} (h : NamesIn T b c l) (hab : a ≤ b) (hcd : c ≤ d) : NamesIn T a d l := by
 obtain ⟨x, rfl, hx, hx'⟩ := h; exact ⟨x, rfl, hx, fun i hi => by have := hx' i hi; exact ⟨by omega, by omega, this.2.2⟩⟩
theorem semBin_names (kd : Nat) (a b : Sem) : (semBin kd a b).names = a.names ++ b.names := by
 unfold semBin; repeat' split
 all_goals rfl
theorem adv_k {q : St} (h : q.bad = none) : q.adv.k = q.k + 1 := by simp [St.adv, h]
theorem isK_adv {q : St} {kd : Nat} (h : q.isK T kd = true) : q.adv.k = q.k + 1 ∧ q.adv.bad = none := by
 have := (isK_iff.1 h).1; simp [St.adv, this]
theorem isIn_adv {q : St} {l : List Nat} (h : q.isIn T l = true) : q.adv.k = q.k + 1 ∧ q.adv.bad = none := by
 have := (isIn_iff.1 h).1; simp [St.adv, this]
def Told (T : List Tok) (q : St) (r : St × Sem) : Prop := q.ok T → r.1.bad = none → NamesIn T q.k r.1.k r.2.names
theorem told_row (hT : Shut T) {part : St → St × Sem} (hp : ∀ q, Goes T q (part q).1) (ht : ∀ q, Told T q (part q)) {l : List Nat} (h2 : ∀ x ∈ l, 2 ≤ x) (k : Nat) :
  ∀ n q a, q.ok T → k ≤ q.k → (q.bad = none → NamesIn T k q.k a.names) → (pRow T part l n q a).1.bad = none → NamesIn T k (pRow T part l n q a).1.k (pRow T part l n q a).2.names := by
 intro n; induction n with
 | zero => intro q a _ _ h hb; exact h hb
 | succ n ih =>
  intro q a hq hk h hb; unfold pRow at hb ⊢; by_cases hin : q.isIn T l = true
  ·simp only [hin, if_true] at hb ⊢; have hg := goes_advIn hT h2 hin; have ha := isIn_adv hin; have hq1 := hg.2 hq; have hp1 := hp q.adv; have hbad : (part q.adv).1.bad = none := ((goes_row hT hp h2 n _ _).1 hb).1; have hle := hp1.1 hbad; refine ih _ _ (hp1.2 hq1) (by omega) (fun _ => ?_) hb; rw [semBin_names]; exact (h (isIn_iff.1 hin).1).append (ht q.adv hq1 hbad) (by omega) (by omega) hle.2
  ·simp only [hin, Bool.false_eq_true, if_false] at hb ⊢; exact h hb
theorem told_pe (hT : Shut T) : ∀ f level nest q, Told T q (pe T f level nest q) := by
 intro f; induction f with
 | zero => intro _ _ q _ _; exact NamesIn.nil _ _
 | succ f ih =>
  intro level nest q hq hb; have G : ∀ level nest q, Goes T q (pe T f level nest q).1 := goes_pe hT f; unfold pe at hb ⊢; by_cases h2 : level = 2
  ·simp only [h2, if_true] at hb ⊢; by_cases hk : q.isK T 26 = true
   ·simp only [hk, if_true] at hb ⊢; have ha := isK_adv hk; have := ih 2 nest q.adv ((goes_adv hT (by decide) hk).2 hq) hb; exact this.mono (by omega) (Nat.le_refl _)
   ·simp only [hk, Bool.false_eq_true, if_false] at hb ⊢; exact ih 3 nest q hq hb
  ·rw [if_neg h2] at hb ⊢; by_cases h3 : level = 3
   ·rw [if_pos h3] at hb ⊢; by_cases hin : (pe T f 4 nest q).1.isIn T (signs 3) = true
    ·simp only [hin, if_true] at hb ⊢; have ha := isIn_adv hin; have hb1 := (isIn_iff.1 hin).1; have g1 := G 4 nest q; have g2 := G 4 nest (pe T f 4 nest q).1.adv; have l1 := g1.1 hb1; have l2 := g2.1 hb; rw [semBin_names]; exact (ih 4 nest q hq hb1).append (ih 4 nest _ ((goes_advIn hT (signs_two 3) hin).2 (g1.2 hq)) hb) l1.2 (by omega) l2.2
    ·simp only [hin, Bool.false_eq_true, if_false] at hb ⊢; exact ih 4 nest q hq hb
   ·rw [if_neg h3] at hb ⊢; by_cases h6 : level < 6
    ·rw [if_pos h6] at hb ⊢; have g1 := G (level + 1) nest q; have hb1 := ((goes_row hT (fun q => G (level + 1) nest q) (signs_two level) _ _ _).1 hb).1; exact told_row hT (fun q => G (level + 1) nest q) (fun q => ih _ _ q) (signs_two level) q.k _ _ _ (g1.2 hq) (g1.1 hb1).2 (fun h => ih _ _ _ hq h) hb
    ·rw [if_neg h6] at hb ⊢; by_cases h66 : level = 6
     ·rw [if_pos h66] at hb ⊢; by_cases k34 : q.isK T 34 = true
      ·simp only [k34, if_true] at hb ⊢; have g1 := goes_opens hT (by decide) k34 nest; have hb1 := (le_want _ _ hb).1; have l1 := le_want _ _ hb; have l2 := (G 7 (nest + 1) (q.opens T nest)).1 hb1; have l3 := g1.1 l2.1; exact (ih 7 (nest + 1) _ (g1.2 hq) hb1).mono l3.2 l1.2
      ·simp only [k34, Bool.false_eq_true, if_false] at hb ⊢; by_cases k2 : q.isK T 2 = true
       ·simp only [k2, if_true] at hb ⊢; have := isK_adv k2; rw [this.1]; exact NamesIn.one hq k2
       ·simp only [k2, Bool.false_eq_true, if_false] at hb ⊢; by_cases k20 : q.isK T 20 = true
        ·simp only [k20, if_true] at hb ⊢; exact NamesIn.nil _ _
        ·simp only [k20, Bool.false_eq_true, if_false] at hb ⊢; exact NamesIn.nil _ _
     ·rw [if_neg h66] at hb ⊢; by_cases k21 : q.isK T 21 = true
      ·simp only [k21, if_true] at hb ⊢; have g0 := goes_opens hT (by decide) k21 nest; have q1 := g0.2 hq; have g1 := G 7 (nest + 1) (q.opens T nest); have g2 := goes_want hT (kd := 22) (pe T f 7 (nest + 1) (q.opens T nest)).1 (by decide); have g3 := G 7 (nest + 1) ((pe T f 7 (nest + 1) (q.opens T nest)).1.want T 22); have g4 := goes_want hT (kd := 23) (pe T f 7 (nest + 1) ((pe T f 7 (nest + 1) (q.opens T nest)).1.want T 22)).1 (by decide); have g5 := G 7 (nest + 1) ((pe T f 7 (nest + 1) ((pe T f 7 (nest + 1) (q.opens T nest)).1.want T 22)).1.want T 23); have l5 := g5.1 hb; have l4 := g4.1 l5.1; have l3 := g3.1 l4.1; have l2 := g2.1 l3.1; have l1 := g1.1 l2.1; have l0 := g0.1 l1.1; have q2 := g2.2 (g1.2 q1); have q3 := g4.2 (g3.2 q2); show NamesIn T _ _ (_ ++ (_ ++ _)); refine ((ih 7 (nest + 1) _ q1 l2.1).mono l0.2 (Nat.le_refl _)).append ((ih 7 (nest + 1) _ q2 l4.1).append (ih 7 (nest + 1) _ q3 hb) l3.2 l4.2 l5.2) (by omega) l2.2 (by omega)
      ·simp only [k21, Bool.false_eq_true, if_false] at hb ⊢; exact ih 0 nest q hq hb
end
def idxF (x : Name) : List Name → Nat → Int
 | [], _ => -1
 | y :: r, i => if y == x then (i : Int) else idxF x r (i + 1)
def idx (x : Name) (ns : List Name) : Int := idxF x ns 0
theorem idxF_miss {x : Name} {ns : List Name} (h : ns.contains x = false) (i : Nat) : idxF x ns i = -1 := by
 induction ns generalizing i with
 | nil => rfl
 | cons y r ih =>
  rw [List.contains_cons, Bool.or_eq_false_iff] at h; have hy : (y == x) = false := by rw [beq_eq_false_iff_ne]; intro e; subst e; simp at h
  unfold idxF; rw [hy]; exact ih h.2 _
theorem idxF_hit {x : Name} {ns : List Name} (h : ns.contains x = true) (i : Nat) : ∃ j, idxF x ns i = ((i + j : Nat) : Int) ∧ ns[j]? = some x ∧ ∀ k, k < j → ns[k]? ≠ some x := by
 induction ns generalizing i with
 | nil => cases h
 | cons y r ih =>
  cases hy : (y == x) with
  | true =>
   refine ⟨0, ?_, ?_, fun k hk => absurd hk (Nat.not_lt_zero _)⟩
   ·unfold idxF; rw [hy]; rfl
   ·rw [beq_iff_eq] at hy; rw [hy]; rfl
  | false =>
   have hc : r.contains x = true := by
    rw [List.contains_cons, Bool.or_eq_true] at h; rcases h with h | h
    ·rw [beq_iff_eq] at h; rw [h, beq_self_eq_true] at hy; cases hy
    ·exact h
   obtain ⟨j, h1, h2, h3⟩ := ih hc (i + 1); refine ⟨j + 1, ?_, by simpa using h2, ?_⟩
   ·unfold idxF; rw [hy]; show idxF x r (i + 1) = _; rw [h1]; congr 1; omega
   ·intro k hk; cases k with
    | zero =>
     intro e; have e' : y = x := by simpa using e
     rw [e', beq_self_eq_true] at hy; cases hy
    | succ k => simpa using h3 k (by omega)
theorem idx_miss {x : Name} {ns : List Name} (h : ns.contains x = false) : idx x ns = -1 := idxF_miss h 0
theorem idx_hit {x : Name} {ns : List Name} (h : ns.contains x = true) : ∃ j, idx x ns = ((j : Nat) : Int) ∧ ns[j]? = some x ∧ ∀ k, k < j → ns[k]? ≠ some x := by
 obtain ⟨j, h1, h2, h3⟩ := idxF_hit h 0; exact ⟨j, by rw [show idx x ns = idxF x ns 0 from rfl, h1, Nat.zero_add], h2, h3⟩
theorem idx_neg {x : Name} {ns : List Name} : decide (idx x ns < 0) = !ns.contains x := by
 cases h : ns.contains x with
 | false => rw [idx_miss h]; rfl
 | true =>
  obtain ⟨j, h1, -, -⟩ := idx_hit h; rw [h1]; exact decide_eq_false (by omega)
theorem idx_inj {x y : Name} {ns : List Name} (hx : ns.contains x = true) (hy : ns.contains y = true) (h : idx x ns = idx y ns) : x = y := by
 obtain ⟨i, h1, h2, -⟩ := idx_hit hx; obtain ⟨j, k1, k2, -⟩ := idx_hit hy; rw [h1, k1] at h; have e : i = j := by omega
 subst e; rw [h2] at k2; injection k2
theorem idx_tyOf {x : Name} {ns : List Name} {E : Env} (hp : ns <+: E.map (·.1)) (hx : ns.contains x = true) : ∃ (j : Nat) (y : Name × Ty), idx x ns = (j : Int) ∧ E[j]? = some y ∧ tyOf E x = y.2 := by
 obtain ⟨j, h1, h2, h3⟩ := idx_hit hx; obtain ⟨m, hm⟩ := hp; have hl := (List.getElem?_eq_some_iff.1 h2).1; have g : ∀ k, k < ns.length → (E.map (·.1))[k]? = ns[k]? := fun k hk => by rw [← hm, List.getElem?_append_left hk]
 have h4 := g j hl; rw [h2, List.getElem?_map] at h4; cases hy : E[j]? with
 | none => rw [hy] at h4; cases h4
 | some y =>
  rw [hy] at h4; have hyx : y.1 = x := by simpa using h4
  refine ⟨j, y, h1, hy, ?_⟩; have hf : E.find? (fun e => e.1 == x) = some y := by
   have g2 : ∀ k, k < j → ∀ z, E[k]? = some z → z.1 ≠ x := by
    intro k hk z hz e; have := g k (by omega); rw [List.getElem?_map, hz] at this; exact h3 k hk (by rw [← this]; simp [e])
   clear h1 h2 h3 g h4 hm hl; induction E generalizing j with
   | nil => simp at hy
   | cons z E ih =>
    cases j with
    | zero =>
     have e : z = y := by simpa using hy
     subst e; rw [List.find?_cons_of_pos]; simp [hyx]
    | succ j =>
     have hz : (z.1 == x) = false := by rw [beq_eq_false_iff_ne]; exact g2 0 (by omega) z rfl
     rw [List.find?_cons_of_neg (by simp [hz])]; exact ih j (by simpa using hy) (fun k hk z' hz' => g2 (k + 1) (by omega) z' (by simpa using hz'))
  unfold tyOf; rw [hf]; rfl
theorem stray_append (ns : List Name) (a b : List (Name × Nat)) : stray ns (a ++ b) = (stray ns a).or (stray ns b) := by
 unfold stray; rw [List.find?_append]; cases List.find? (fun x => !ns.contains x.1) a <;> rfl
theorem stray_nil (ns : List Name) : stray ns [] = none := rfl
theorem stray_one (ns : List Name) (x : Name) (p : Nat) : stray ns [(x, p)] = if ns.contains x then none else some p := by
 unfold stray; cases h : ns.contains x with
 | true => rw [List.find?_cons_of_neg (by simp only [h]; decide)]; rfl
 | false => rw [List.find?_cons_of_pos (by simp only [h]; decide)]; rfl
theorem stray_none {ns : List Name} {l : List (Name × Nat)} (h : stray ns l = none) : ∀ x ∈ l, ns.contains x.1 = true := by
 unfold stray at h; rw [Option.map_eq_none_iff, List.find?_eq_none] at h; intro x hx; have := h x hx; simpa using this
theorem strayCols_snoc (ns : List Name) : ∀ (l : List (Name × Nat)) (seen : List Name) (x : Name × Nat), strayCols ns seen (l ++ [x]) = (strayCols ns seen l).or (if !ns.contains x.1 || (seen ++ l.map (·.1)).contains x.1 then some x.2 else none) := by
 intro l; induction l with
 | nil =>
  intro seen x; rw [List.nil_append, List.map_nil, List.append_nil]; show (if _ then _ else strayCols ns _ []) = (none : Option Nat).or _; rfl
 | cons y l ih =>
  intro seen x; rw [List.cons_append]; unfold strayCols; cases hc : (!ns.contains y.1 || seen.contains y.1) with
  | true => rfl
  | false =>
   rw [if_neg (by simp), if_neg (by simp), ih]; rw [List.map_cons, List.append_assoc]; rfl
theorem strayCols_none {ns : List Name} : ∀ {l : List (Name × Nat)} {seen : List Name}, strayCols ns seen l = none → ∀ x ∈ l, ns.contains x.1 = true := by
 intro l; induction l with
 | nil => intro _ _ x hx; cases hx
 | cons y l ih =>
  intro seen h x hx; unfold strayCols at h; cases hc : (!ns.contains y.1 || seen.contains y.1) with
  | true => rw [hc, if_pos rfl] at h; cases h
  | false =>
   rw [hc, if_neg (by simp)] at h; rcases List.mem_cons.1 hx with e | e
   ·subst e; rw [Bool.or_eq_false_iff] at hc; simpa using hc.1
   ·exact ih h x e
theorem cols_contains {ns : List Name} {l : List (Name × Nat)} (hl : ∀ x ∈ l, ns.contains x.1 = true) {x : Name} (hx : ns.contains x = true) : (l.map (fun y => idx y.1 ns)).contains (idx x ns) = (l.map (·.1)).contains x := by
 induction l with
 | nil => rfl
 | cons y l ih =>
  rw [List.map_cons, List.map_cons, List.contains_cons, List.contains_cons, ih (fun z hz => hl z (List.mem_cons_of_mem _ hz))]
  congr 1
  rw [Bool.eq_iff_iff, beq_iff_eq, beq_iff_eq]; exact ⟨fun h => idx_inj hx (hl y (List.mem_cons_self ..)) h, fun h => by rw [h]⟩
theorem or_assoc3 (a b c : Option Nat) : (a.or b).or c = a.or (b.or c) := by cases a <;> rfl
theorem itemStray_eq (ns : List Name) (it : PItem) : itemStray ns it = (if ns.contains it.name then some it.nameAt else none).or ((strayCols ns [] it.cols).or ((stray ns it.expr.names).or (stray ns (it.rules.map (·.out.names)).flatten))) := by
 unfold itemStray; split <;> rfl
theorem itemsStray_snoc : ∀ (l : List PItem) (ns : List Name) (it : PItem), itemsStray ns (l ++ [it]) = (itemsStray ns l).or (itemStray (ns ++ l.map (·.name)) it) := by
 intro l; induction l with
 | nil =>
  intro ns it; show (itemStray ns it).or none = (none : Option Nat).or _; rw [List.map_nil, List.append_nil]; cases itemStray ns it <;> rfl
 | cons y l ih =>
  intro ns it; show (itemStray ns y).or (itemsStray _ (l ++ [it])) = ((itemStray ns y).or (itemsStray _ l)).or _; rw [ih, or_assoc3, List.map_cons, List.append_assoc]; rfl
theorem or_none {a b : Option Nat} (h : a.or b = none) : a = none ∧ b = none := by cases a <;> simp_all
theorem itemsStray_none : ∀ {l : List PItem} {ns : List Name}, itemsStray ns l = none → ∀ k it, l[k]? = some it → itemStray (ns ++ (l.take k).map (·.name)) it = none := by
 intro l; induction l with
 | nil => intro _ _ k it h; simp at h
 | cons y l ih =>
  intro ns h k it hk; have h2 := or_none (show (itemStray ns y).or (itemsStray _ l) = none from h); cases k with
  | zero =>
   have e : y = it := by simpa using hk
   subst e; simpa using h2.1
  | succ k =>
   have := ih h2.2 k it (by simpa using hk); rw [List.append_assoc] at this; simpa using this
variable {T : List Tok}
theorem le_self (q : St) : q.le q := fun h => ⟨h, Nat.le_refl _⟩
theorem le_value (hT : Shut T) (q : St) : q.le (pValue T q).1 := (goes_value hT q).1
theorem le_words : ∀ (n : Nat) (q : St) (ws : List (List UInt8)), q.le (pWords T n q ws).1 := by
 intro n; induction n with
 | zero => intro q ws; exact le_self q
 | succ n ih =>
  intro q ws; rw [pWords]; have h1 : q.le (if q.isK T 5 && ws.contains (unq (tokK T q.k).text) then q.fail T else q) := by
   split
   ·exact le_fail q
   ·exact le_self q
  generalize (if q.isK T 5 && ws.contains (unq (tokK T q.k).text) then q.fail T else q) = q1 at h1 ⊢; have h2 := St.le_trans h1 (le_want (T := T) q1 5); split
  ·exact St.le_trans (St.le_trans h2 (le_adv _)) (ih _ _)
  ·exact h2
theorem le_type (q : St) : q.le (pType T q).1 := by
 unfold pType; split
 ·exact le_adv q
 ·split
  ·exact le_adv q
  ·exact St.le_trans (le_want q 11) (le_words 6 _ [])
theorem le_test (hT : Shut T) (q : St) : q.le (pTest T q).1 := by
 unfold pTest; split
 ·exact St.le_trans (le_adv q) (le_value hT _)
 ·split
  ·exact St.le_trans (le_adv q) (le_value hT _)
  ·split
   ·exact St.le_trans (St.le_trans (St.le_trans (St.le_trans (le_adv q) (le_value hT _)) (le_want _ 41)) (le_value hT _)) (le_want _ 37)
   ·exact le_value hT q
theorem le_tests (hT : Shut T) : ∀ (n : Nat) (q : St) (l : List PTest), q.le (pTests T n q l).1 := by
 intro n; induction n with
 | zero => intro q l; exact le_self q
 | succ n ih =>
  intro q l; rw [pTests]; have h1 := le_test hT q; split
  ·exact St.le_trans (St.le_trans h1 (le_adv _)) (ih _ _)
  ·exact h1
theorem le_cell (hT : Shut T) (q : St) : q.le (pCell T q).1 := by
 unfold pCell; split
 ·exact le_adv q
 ·refine St.le_trans ?_ (le_tests hT 4 _ []); split
  ·exact le_adv q
  ·exact le_self q
theorem le_cells (hT : Shut T) : ∀ (n : Nat) (q : St) (l : List PCell), q.le (pCells T n q l).1 := by
 intro n; induction n with
 | zero => intro q l; exact le_self q
 | succ n ih =>
  intro q l; rw [pCells]; exact St.le_trans (St.le_trans (le_want q 38) (le_cell hT _)) (ih _ _)
theorem le_expr (hT : Shut T) (q : St) : q.le (pExpr T q).1 := (goes_pe hT _ _ _ q).1
theorem le_rule (hT : Shut T) (n : Nat) (q : St) : q.le (pRule T n q).1 := by
 unfold pRule; exact St.le_trans (St.le_trans (St.le_trans (le_cell hT q) (le_cells hT _ _ _)) (le_want _ 31)) (le_expr hT _)
theorem le_rules (hT : Shut T) (m : Nat) : ∀ (n : Nat) (q : St) (l : List PRule), q.le (pRules T m n q l).1 := by
 intro n; induction n with
 | zero => intro q l; exact le_self q
 | succ n ih =>
  intro q l; rw [pRules]; have h1 := le_rule hT m q; split
  ·exact St.le_trans (St.le_trans h1 (le_adv _)) (ih _ _)
  ·exact h1
theorem le_cols : ∀ (n : Nat) (q : St) (l : List (Name × Nat)), q.le (pCols T n q l).1 := by
 intro n; induction n with
 | zero => intro q l; exact le_self q
 | succ n ih =>
  intro q l; rw [pCols]; have h1 := le_want (T := T) q 2; split
  ·exact St.le_trans (St.le_trans h1 (le_adv _)) (ih _ _)
  ·exact h1
theorem le_table (hT : Shut T) (q : St) (it : PItem) : q.le (pTable T q it).1 := by
 unfold pTable; have h1 : q.le (if q.isIn T [12, 13, 14, 15, 16, 17] then q.adv else q.fail T) := by
  split
  ·exact le_adv q
  ·exact le_fail q
 exact St.le_trans (St.le_trans (St.le_trans (St.le_trans (St.le_trans h1 (le_want _ 34)) (le_cols 3 _ [])) (le_want _ 35)) (le_want _ 40)) (le_rules hT _ 8 _ [])
theorem le_head (w p : Nat) (q : St) : q.le (pHead T w p q).1 := by
 unfold pHead; exact St.le_trans (le_want q 2) (le_type _)
theorem item_body (hT : Shut T) (q : St) : ∃ r : St, (pItem T q).1 = r.want T 39 ∧ q.le r := by
 refine ⟨_, rfl, ?_⟩; split
 ·exact St.le_trans (le_adv q) (le_head _ _ _)
 ·split
  ·exact St.le_trans (St.le_trans (St.le_trans (le_adv q) (le_head _ _ _)) (le_want _ 31)) (le_expr hT _)
  ·split
   ·exact St.le_trans (St.le_trans (le_adv q) (le_head _ _ _)) (le_table hT _ _)
   ·exact le_fail q
theorem le_item (hT : Shut T) (q : St) : q.le (pItem T q).1 := by
 obtain ⟨r, h1, h2⟩ := item_body hT q; rw [h1]; exact St.le_trans h2 (le_want r 39)
theorem lt_item (hT : Shut T) (q : St) (h : (pItem T q).1.bad = none) : q.bad = none ∧ q.k < (pItem T q).1.k := by
 obtain ⟨r, h1, h2⟩ := item_body hT q; rw [h1] at h ⊢; cases hK : r.isK T 39 with
 | true =>
  have hr := isK_iff.1 hK; have h3 := h2 hr.1; have e : r.want T 39 = ⟨r.k + 1, none⟩ := by unfold St.want St.adv; rw [hK, hr.1]; rfl
  rw [e]; exact ⟨h3.1, by show q.k < r.k + 1; omega⟩
 | false =>
  exfalso; have e : r.want T 39 = r.fail T := by unfold St.want; rw [hK]; rfl
  rw [e] at h; unfold St.fail at h; cases hb : r.bad <;> simp [hb] at h
end Go.Proofs.YtbkaghlklkdmkaaGreatDoor.Wk
namespace Go.Proofs.YtbkaghlklkdmkaaGreatDoor.Wk
variable {T : List Tok}
theorem pCells_len : ∀ (n : Nat) (q : St) (l : List PCell), (pCells T n q l).2.length = l.length + n := by
 intro n; induction n with
 | zero => intro q l; rfl
 | succ n ih => intro q l; rw [pCells]; rw [ih]; simp; omega
theorem pRule_len {n : Nat} (hn : 1 ≤ n) (q : St) : (pRule T n q).2.cells.length = n := by
 unfold pRule; show (pCells T (n - 1) _ _).2.length = n; rw [pCells_len]; simp; omega
theorem pRules_len {c : Nat} (hc : 1 ≤ c) : ∀ (n : Nat) (q : St) (l : List PRule), (∀ r ∈ l, r.cells.length = c) → ∀ r ∈ (pRules T c n q l).2, r.cells.length = c := by
 intro n; induction n with
 | zero => intro q l h; exact h
 | succ n ih =>
  intro q l h; have h2 : ∀ r ∈ l ++ [(pRule T c q).2], r.cells.length = c := by
   intro r hr; rcases List.mem_append.1 hr with hr | hr
   ·exact h r hr
   ·rw [List.mem_singleton.1 hr]; exact pRule_len hc q
  rw [pRules]; split
  ·exact ih _ _ h2
  ·exact h2
theorem pCols_len : ∀ (n : Nat) (q : St) (l : List (Name × Nat)), l.length ≤ (pCols T n q l).2.length ∧ (pCols T n q l).2.length ≤ l.length + n ∧ (1 ≤ n → l.length < (pCols T n q l).2.length) := by
 intro n; induction n with
 | zero => intro q l; exact ⟨Nat.le_refl _, Nat.le_refl _, fun h => absurd h (by decide)⟩
 | succ n ih =>
  intro q l; rw [pCols]; split
  ·have := ih (q.want T 2).adv (l ++ [((tokK T q.k).text.data.toList, (tokK T q.k).place)]); rw [List.length_append, List.length_singleton] at this; exact ⟨by omega, by omega, fun _ => by omega⟩
  ·simp
def sound (it : PItem) : Prop := it.what ≤ 2 ∧ ∀ r ∈ it.rules, r.cells.length = it.cols.length ∧ it.cols.length ≤ 3
theorem sound_table (q : St) (it : PItem) (h : it.what ≤ 2) : sound (pTable T q it).2 := by
 refine ⟨h, ?_⟩; unfold pTable; simp only []; intro r hr; have hl := pCols_len (T := T) 3 ((if q.isIn T [12, 13, 14, 15, 16, 17] then q.adv else q.fail T).want T 34) []; have h1 := hl.2.2 (by decide); have h2 := hl.2.1; simp only [List.length_nil] at h1 h2; exact ⟨pRules_len (by omega) _ _ _ (fun _ h => absurd h (by simp)) r hr, by omega⟩
theorem sound_item (q : St) : sound (pItem T q).2 := by
 unfold pItem; simp only []; split
 ·exact ⟨Nat.zero_le _, fun r h => absurd h (by simp [pHead])⟩
 ·split
  ·exact ⟨by simp [pHead], fun r h => absurd h (by simp [pHead])⟩
  ·split
   ·exact sound_table _ _ (by simp [pHead])
   ·exact ⟨Nat.zero_le _, fun r h => absurd h (by simp)⟩
theorem sound_items : ∀ (n : Nat) (q : St) (l : List PItem), (∀ it ∈ l, sound it) → ∀ it ∈ (pItems T n q l).2, sound it := by
 intro n; induction n with
 | zero => intro q l h; exact h
 | succ n ih =>
  intro q l h; rw [pItems]; split
  ·exact h
  ·refine ih _ _ ?_; intro it hit; rcases List.mem_append.1 hit with hit | hit
   ·exact h it hit
   ·rw [List.mem_singleton.1 hit]; exact sound_item _
theorem sound_model : ∀ it ∈ (pModel T).2, sound it := by
 unfold pModel; refine sound_items _ _ _ ?_; intro it hit; rw [List.mem_singleton.1 hit]; exact sound_item _
end Go.Proofs.YtbkaghlklkdmkaaGreatDoor.Wk
