/-
  A text's tree as a function of its words: what the parser makes of them. Nothing of the program is named here. A row of names with signs between them: the tree that the parser climbs to is the one that is cut at the last of the weakest signs.
-/
import Derived.Test.YtajoncmmdeahnaaGreatDoorKNd
import Derived.Test.YtajoncmmdeahnaaGreatDoorLx
namespace Go.Proofs.YtajoncmmdeahnaaGreatDoor
def tkS (t : Tk) : ByteArray := ⟨t.s.toArray⟩
namespace Pm
def dgt (c : UInt8) : Bool := 48 ≤ c && c ≤ 57
def digF (acc : Nat) (l : List UInt8) : Nat := l.foldl (fun a c => a * 10 + (c.toNat - 48)) acc
def okI (s : List UInt8) : Bool := !s.isEmpty && s.all dgt && decide (digF 0 s ≤ 9223372036854775807) && decide (s.length ≤ 4096)
def is0 (c : UInt8) : Bool := c == 48
def orD (l : List UInt8) : List UInt8 := if l = [] then [48] else l
def ahD (A : List UInt8) : List UInt8 := orD (A.dropWhile is0)
def beD (B : List UInt8) : List UInt8 := orD (B.reverse.dropWhile is0).reverse
def quoD (m x : Nat) : Nat := (FloatKind.f64.format.div (floatOfInt .f64 m) (floatOfInt .f64 ((10 ^ x : Nat) : Int))).getD 0
def okFl (s : List UInt8) : Bool := match s.dropWhile dgt with
  | 46 :: B => B.all dgt && decide ((s.takeWhile dgt).length ≤ 7) && decide (B.length ≤ 8)
  | _ => false
def flA (A B : List UInt8) : Nd := .mk 21 0 ⟨(ahD A ++ 46 :: beD B).toArray⟩ (quoD (digF 0 (ahD A ++ beD B)) (beD B).length : Nat) []
def flN (s : List UInt8) : Nd := flA (s.takeWhile dgt) ((s.dropWhile dgt).drop 1)
structure Ps where
  ws : List Tk
  nodes : Nat
  depth : Nat
  over : Bool
abbrev Rs (α : Type) := Except (Option (Nat × Nat)) (α × Ps)
abbrev Pr (α : Type) := Ps → Rs α
def Pr.bnd {α β : Type} (x : Pr α) (f : α → Pr β) : Pr β := fun p => match x p with
  | .ok (a, q) => f a q
  | .error e => .error e
def Pr.ret {α : Type} (a : α) : Pr α := fun p => .ok (a, p)
instance : Monad Pr := { pure := Pr.ret, bind := Pr.bnd }
def nxt : Pr Tk := fun p => match p.ws with
  | [] => .error none
  | t :: _ => .ok (t, p)
def failP {α : Type} (e : Nat) : Pr α := fun p => match p.ws with
  | [] => .error none
  | t :: _ => .error (some (t.pl, e))
def passP : Pr Unit := fun p => match p.ws with
  | [] => .error none
  | t :: r => if p.over then .error (some (t.pl, 3)) else .ok ((), { p with ws := r })
def seesP (s : List UInt8) : Pr Bool := do
  let t ← nxt
  return t.s == s
def wantP (s : List UInt8) : Pr Unit := do
  if ← seesP s then passP else failP 110
def nameP : Pr ByteArray := do
  let t ← nxt
  if t.kind == 1 then
    passP
    return tkS t
  else failP 110
def roomP (have_ most : Nat) : Pr Unit := fun p => .ok ((), if most ≤ have_ then { p with over := true } else p)
def deeper : Pr Unit := fun p => if p.depth ≤ 1000000 then .ok ((), { p with depth := p.depth + 1 }) else .error none
def higher : Pr Unit := fun p => if 1 ≤ p.depth ∧ p.depth ≤ 1000001 then .ok ((), { p with depth := p.depth - 1 }) else .error none
def openP (s : List UInt8) : Pr Unit := do
  fun p => roomP p.depth 40 p
  deeper
  wantP s
def shutP (s : List UInt8) : Pr Unit := do
  wantP s
  higher
def more : Pr Unit := fun p => if p.nodes ≤ 1000000 then .ok ((), { p with nodes := p.nodes + 1 }) else .error none
def madeP (n : Nd) : Pr Nd := do
  fun p => roomP p.nodes 2000 p
  more
  return n
def wInt : List UInt8 := [105, 110, 116]
def wFloat : List UInt8 := [102, 108, 111, 97, 116]
def wBool : List UInt8 := [98, 111, 111, 108]
def typedP : Pr Int := do
  let t ← nxt
  if t.s == wInt then passP; return 1
  else if t.s == wFloat then passP; return 2
  else if t.s == wBool then passP; return 3
  else failP 110
def wTrue : List UInt8 := [116, 114, 117, 101]
def wFalse : List UInt8 := [102, 97, 108, 115, 101]
def literalP : Pr Nd := do
  let t ← nxt
  if t.kind == 2 then
    if okI t.s then passP; madeP (.mk 20 0 ⟨#[]⟩ (digF 0 t.s : Nat) []) else fun _ => .error none
  else if t.kind == 3 then
    if okFl t.s then passP; madeP (flN t.s) else fun _ => .error none
  else if t.s == wTrue then passP; madeP (.mk 22 0 ⟨#[]⟩ 1 [])
  else if t.s == wFalse then passP; madeP (.mk 22 0 ⟨#[]⟩ 0 [])
  else failP 110
def rankN (s : List UInt8) : Nat :=
  if s == [124, 124] then 1 else if s == [38, 38] then 2
  else if s == [60] || s == [60, 61] || s == [62] || s == [62, 61] || s == [61, 61] || s == [33, 61] then 3
  else if s == [43] || s == [45] then 4
  else if s == [42] || s == [47] || s == [37] then 5 else 0
structure Rc where
  expr : Nat → Pr Nd
  oper : Pr Nd
  block : Pr Nd
  branches : Pr Nd
def listL (item : Pr Nd) : Nat → List Nd → Pr (List Nd)
  | 0, _ => fun _ => .error none
  | k + 1, l => do
    if ← seesP [44] then
      passP
      roomP l.length 6
      let x ← item
      listL item k (l ++ [x])
    else return l
def listP (item : Pr Nd) : Pr (List Nd) := do
  let x ← item
  fun p => listL item (p.ws.length + 1) [x] p
def callP (R : Rc) (name : ByteArray) : Pr Nd := do
  openP [40]
  let ks ← (do if ← seesP [41] then return [] else listP (R.expr 1))
  shutP [41]
  madeP (.mk 24 0 name 0 ks)
def variableOrCallP (R : Rc) : Pr Nd := do
  let s ← nameP
  if ← seesP [40] then callP R s else madeP (.mk 23 0 s 0 [])
def bracketedP (R : Rc) : Pr Nd := do
  openP [40]
  let n ← R.expr 1
  shutP [41]
  return n
def signedP (R : Rc) (s : List UInt8) : Pr Nd := do
  openP s
  let n ← R.oper
  higher
  madeP (.mk 25 0 ⟨s.toArray⟩ 0 [n])
def convP (R : Rc) : Pr Nd := do
  let ty ← typedP
  let n ← bracketedP R
  madeP (.mk 27 ty ⟨#[]⟩ 0 [n])
def operP (R : Rc) : Pr Nd := do
  let t ← nxt
  if t.s == [45] || t.s == [33] then signedP R t.s
  else if t.s == [40] then bracketedP R
  else if t.s == wInt || t.s == wFloat then convP R
  else if t.kind == 1 then variableOrCallP R
  else literalP
def exprL (R : Rc) (low : Nat) : Nat → Nd → Pr Nd
  | 0, _ => fun _ => .error none
  | k + 1, n => do
    let t ← nxt
    if low ≤ rankN t.s then
      passP
      let m ← R.expr (rankN t.s + 1)
      let n ← madeP (.mk 26 0 (tkS t) 0 [n, m])
      exprL R low k n
    else return n
def exprP (R : Rc) (low : Nat) : Pr Nd := do
  let n ← R.oper
  fun p => exprL R low (p.ws.length + 1) n p
def endedP (mk : Nd → Nd) (kid : Nd) : Pr Nd := do
  wantP [59]
  madeP (mk kid)
def lineP (R : Rc) (kind : Int) : Pr Nd := do
  passP
  let n ← R.expr 1
  endedP (fun n => .mk kind 0 ⟨#[]⟩ 0 [n]) n
def storedP (R : Rc) (k : Int) (s : ByteArray) : Pr Nd := do
  passP
  let n ← R.expr 1
  endedP (fun n => .mk k 0 s 0 [n]) n
def doneP (R : Rc) (s : ByteArray) : Pr Nd := do
  let n ← callP R s
  endedP (fun n => .mk 13 0 ⟨#[]⟩ 0 [n]) n
def namedP (R : Rc) : Pr Nd := do
  let s ← nameP
  let t ← nxt
  if t.s == [58, 61] then storedP R 7 s
  else if t.s == [61] then storedP R 8 s
  else doneP R s
def wIf : List UInt8 := [105, 102]
def wElse : List UInt8 := [101, 108, 115, 101]
def wFor : List UInt8 := [102, 111, 114]
def wReturn : List UInt8 := [114, 101, 116, 117, 114, 110]
def wAssert : List UInt8 := [97, 115, 115, 101, 114, 116]
def wSkip : List UInt8 := [115, 107, 105, 112]
def elseIfP (R : Rc) : Pr Nd := do
  let n ← R.branches
  madeP (.mk 6 0 ⟨#[]⟩ 0 [n])
def otherwiseP (R : Rc) : Pr Nd := do
  if ← seesP wIf then elseIfP R else R.block
def branchesP (R : Rc) : Pr Nd := do
  openP wIf
  let c ← R.expr 1
  let b ← R.block
  let ks ← (do
    if ← seesP wElse then
      passP
      let o ← otherwiseP R
      return [c, b, o]
    else return [c, b])
  higher
  madeP (.mk 9 0 ⟨#[]⟩ 0 ks)
def loopP (R : Rc) : Pr Nd := do
  wantP wFor
  let c ← R.expr 1
  let b ← R.block
  madeP (.mk 10 0 ⟨#[]⟩ 0 [c, b])
def skipP : Pr Nd := do
  passP
  wantP [59]
  madeP (.mk 14 0 ⟨#[]⟩ 0 [])
def statementP (R : Rc) : Pr Nd := do
  let t ← nxt
  if t.s == wIf then R.branches
  else if t.s == wFor then loopP R
  else if t.s == wReturn then lineP R 11
  else if t.s == wAssert then lineP R 12
  else if t.s == wSkip then skipP
  else namedP R
def blockL (R : Rc) : Nat → List Nd → Pr (List Nd)
  | 0, _ => fun _ => .error none
  | k + 1, l => do
    if ← seesP [125] then return l
    else
      roomP l.length 32
      let x ← statementP R
      blockL R k (l ++ [x])
def blockP (R : Rc) : Pr Nd := do
  openP [123]
  let ks ← (fun p => blockL R (p.ws.length + 1) [] p : Pr (List Nd))
  shutP [125]
  madeP (.mk 6 0 ⟨#[]⟩ 0 ks)
def rc0 : Rc := ⟨fun _ _ => .error none, fun _ => .error none, fun _ => .error none, fun _ => .error none⟩
def rc : Nat → Rc
  | 0 => rc0
  | k + 1 => ⟨exprP (rc k), operP (rc k), blockP (rc k), branchesP (rc k)⟩
def constantP : Pr Nd := do
  if ← seesP [45] then
    passP
    let t ← nxt
    if t.kind == 2 || t.kind == 3 then
      let n ← literalP
      if n.kind == 21 then return .mk 21 0 n.txt (if n.num < 0 then n.num + 9223372036854775808 else n.num - 9223372036854775808) []
      else return .mk n.kind 0 n.txt (- n.num) []
    else failP 110
  else literalP
def wVar : List UInt8 := [118, 97, 114]
def wFunc : List UInt8 := [102, 117, 110, 99]
def wTest : List UInt8 := [116, 101, 115, 116]
def globalP : Pr Nd := do
  wantP wVar
  let s ← nameP
  let t ← typedP
  wantP [61]
  let n ← constantP
  wantP [59]
  madeP (.mk 2 t s 0 [n])
def parameterP : Pr Nd := do
  let s ← nameP
  let t ← typedP
  madeP (.mk 5 t s 0 [])
def functionP (R : Rc) : Pr Nd := do
  wantP wFunc
  let s ← nameP
  wantP [40]
  let ks ← (do if ← seesP [41] then return [] else listP parameterP)
  wantP [41]
  let t ← typedP
  let b ← R.block
  madeP (.mk 3 t s 0 (ks ++ [b]))
def testP (R : Rc) : Pr Nd := do
  wantP wTest
  let s ← nameP
  let b ← R.block
  madeP (.mk 4 0 s 0 [b])
def declarationP (R : Rc) : Pr Nd := do
  let t ← nxt
  if t.s == wVar then globalP
  else if t.s == wFunc then functionP R
  else testP R
def programL (R : Rc) : Nat → Nat → List Nd → Pr (List Nd)
  | 0, _, _ => fun _ => .error none
  | k + 1, g, l => do
    let t ← nxt
    if t.kind == 0 then return l
    else
      let g' ← (if t.s == wVar then do roomP g 16; return (g + 1) else do roomP (l.length - g) 32; return g)
      let x ← declarationP R
      programL R k g' (l ++ [x])
def programP (R : Rc) : Pr Nd := do
  let ks ← (fun p => programL R (p.ws.length + 1) 0 [] p : Pr (List Nd))
  let n ← madeP (.mk 1 0 ⟨#[]⟩ 0 ks)
  passP
  return n
end Pm
end Go.Proofs.YtajoncmmdeahnaaGreatDoor
namespace Go.Proofs.YtajoncmmdeahnaaGreatDoor
namespace Rk
abbrev It := List UInt8 × List UInt8
def rank (x : It) : Nat := Pm.rankN x.1
def vN (s : List UInt8) : Nd := .mk 23 0 ⟨s.toArray⟩ 0 []
def bN (s : List UInt8) (a b : Nd) : Nd := .mk 26 0 ⟨s.toArray⟩ 0 [a, b]
def wk : List It → Nat
  | [] => 0
  | x :: r => if r ≠ [] ∧ rank ((r[wk r]?).getD x) ≤ rank x then wk r + 1 else 0
theorem wk_lt : ∀ (l : List It), l ≠ [] → wk l < l.length
  | [], h => absurd rfl h
  | x :: r, _ => by
    unfold wk
    split
    · rename_i h
      have := wk_lt r h.1
      simp; omega
    · simp
theorem wk_mid : ∀ (p : List It) (x : It) (q : List It), (∀ u ∈ p, rank x ≤ rank u) → (∀ u ∈ q, rank x < rank u) → wk (p ++ x :: q) = p.length
  | [], x, q, _, hq => by
    show wk (x :: q) = 0
    unfold wk
    rw [if_neg]
    rintro ⟨h1, h2⟩
    have h3 := wk_lt q h1
    rw [List.getElem?_eq_getElem h3, Option.getD_some] at h2
    have := hq _ (List.getElem_mem h3)
    omega
  | u :: p, x, q, hp, hq => by
    have ih := wk_mid p x q (fun v hv => hp v (List.mem_cons_of_mem _ hv)) hq
    show wk (u :: (p ++ x :: q)) = _
    unfold wk
    rw [ih, if_pos]
    · rfl
    · refine ⟨by simp, ?_⟩
      rw [List.getElem?_append_right (Nat.le_refl _), Nat.sub_self]
      exact hp u (List.mem_cons_self ..)
theorem wk_snoc : ∀ (l : List It) (x : It), l ≠ [] → wk (l ++ [x]) = if rank x ≤ rank ((l[wk l]?).getD x) then l.length else wk l
  | [], _, h => absurd rfl h
  | y :: r, x, _ => by
    by_cases hr : r = []
    · subst hr
      show wk [y, x] = _
      have e1 : wk [x] = 0 := by unfold wk; rw [if_neg (by simp)]
      have e2 : wk [y] = 0 := by unfold wk; rw [if_neg (by simp)]
      rw [e2]
      rw [wk, e1]
      show (if [x] ≠ [] ∧ rank x ≤ rank y then 0 + 1 else 0) = if rank x ≤ rank y then 1 else 0
      by_cases h : rank x ≤ rank y
      · rw [if_pos ⟨by simp, h⟩, if_pos h]
      · rw [if_neg (fun q => h q.2), if_neg h]
    · have ih := wk_snoc r x hr
      have hlt := wk_lt r hr
      have hg : (r[wk r]?).getD x = r[wk r] := by rw [List.getElem?_eq_getElem hlt]; rfl
      have hg2 : (r[wk r]?).getD y = r[wk r] := by rw [List.getElem?_eq_getElem hlt]; rfl
      rw [hg] at ih
      show wk (y :: (r ++ [x])) = _
      have hw : wk (y :: r) = if rank r[wk r] ≤ rank y then wk r + 1 else 0 := by
        rw [wk, hg2]
        by_cases h : rank r[wk r] ≤ rank y
        · rw [if_pos ⟨hr, h⟩, if_pos h]
        · rw [if_neg (fun q => h q.2), if_neg h]
      rw [wk, ih]
      by_cases h1 : rank x ≤ rank r[wk r]
      · rw [if_pos h1]
        have e3 : (((r ++ [x])[r.length]?).getD y) = x := by rw [List.getElem?_append_right (Nat.le_refl _), Nat.sub_self]; rfl
        rw [e3]
        by_cases h2 : rank r[wk r] ≤ rank y
        · rw [if_pos ⟨by simp, by omega⟩, hw, if_pos h2]
          rw [if_pos]
          · rfl
          · show rank x ≤ rank (((y :: r)[wk r + 1]?).getD x)
            rw [List.getElem?_cons_succ, hg]
            exact h1
        · by_cases h3 : rank x ≤ rank y
          · rw [if_pos ⟨by simp, h3⟩, hw, if_neg h2, if_pos (by exact h3)]
            rfl
          · rw [if_neg (fun q => h3 q.2), hw, if_neg h2, if_neg (by exact h3)]
      · rw [if_neg h1]
        have e3 : (((r ++ [x])[wk r]?).getD y) = r[wk r] := by rw [List.getElem?_append_left hlt, List.getElem?_eq_getElem hlt]; rfl
        rw [e3]
        by_cases h2 : rank r[wk r] ≤ rank y
        · rw [if_pos ⟨by simp, h2⟩, hw, if_pos h2]
          rw [if_neg]
          show ¬ rank x ≤ rank (((y :: r)[wk r + 1]?).getD x)
          rw [List.getElem?_cons_succ, hg]
          exact h1
        · rw [if_neg (fun q => h2 q.2), hw, if_neg h2, if_neg]
          show ¬ rank x ≤ rank y
          omega
def cutF : Nat → List UInt8 → List It → Nd
  | 0, a, _ => vN a
  | _ + 1, a, [] => vN a
  | f + 1, a, x :: r => match (x :: r)[wk (x :: r)]? with
    | none => vN a
    | some y => bN y.1 (cutF f a ((x :: r).take (wk (x :: r)))) (cutF f y.2 ((x :: r).drop (wk (x :: r) + 1)))
theorem cutF_more : ∀ (f g : Nat) (a : List UInt8) (l : List It), l.length ≤ f → l.length ≤ g → cutF f a l = cutF g a l
  | 0, 0, _, _, _, _ => rfl
  | 0, g + 1, a, l, h, _ => by
    obtain rfl : l = [] := List.length_eq_zero_iff.1 (by omega)
    rfl
  | f + 1, 0, a, l, _, h => by
    obtain rfl : l = [] := List.length_eq_zero_iff.1 (by omega)
    rfl
  | f + 1, g + 1, a, [], _, _ => rfl
  | f + 1, g + 1, a, x :: r, h1, h2 => by
    have hlt := wk_lt (x :: r) (by simp)
    rw [cutF, cutF, List.getElem?_eq_getElem hlt]
    simp only []
    rw [cutF_more f g a _ (by rw [List.length_take]; omega) (by rw [List.length_take]; omega), cutF_more f g _ _ (by rw [List.length_drop]; omega) (by rw [List.length_drop]; omega)]
def cutT (a : List UInt8) (l : List It) : Nd := cutF l.length a l
theorem cutT_mid (a : List UInt8) (p : List It) (x : It) (q : List It) (hp : ∀ u ∈ p, rank x ≤ rank u) (hq : ∀ u ∈ q, rank x < rank u) : cutT a (p ++ x :: q) = bN x.1 (cutT a p) (cutT x.2 q) := by
  have hw := wk_mid p x q hp hq
  unfold cutT
  obtain ⟨y, r, e⟩ : ∃ y r, p ++ x :: q = y :: r := by cases p with
    | nil => exact ⟨x, q, rfl⟩
    | cons y r => exact ⟨y, r ++ x :: q, rfl⟩
  have hl : (p ++ x :: q).length = p.length + q.length + 1 := by simp; omega
  rw [hl]
  have hx : (p ++ x :: q)[p.length]? = some x := by rw [List.getElem?_append_right (Nat.le_refl _), Nat.sub_self]; rfl
  have ht : (p ++ x :: q).take p.length = p := by simp
  have hd : (p ++ x :: q).drop (p.length + 1) = q := by simp
  rw [e] at hw hx ht hd ⊢
  rw [cutF, hw, hx]
  simp only []
  rw [ht, hd, cutF_more (p.length + q.length) p.length a p (by omega) (by omega), cutF_more (p.length + q.length) q.length x.2 q (by omega) (by omega)]
def climb : Nat → Nat → Nd → List It → Nd × List It
  | 0, _, n, l => (n, l)
  | _ + 1, _, n, [] => (n, [])
  | f + 1, low, n, x :: r => if low ≤ rank x then climb f low (bN x.1 n (climb f (rank x + 1) (vN x.2) r).1) (climb f (rank x + 1) (vN x.2) r).2 else (n, x :: r)
theorem climb_is : ∀ (f low : Nat) (a : List UInt8) (l0 l : List It), l.length ≤ f → (∀ u ∈ l0, low ≤ rank u) → (∀ x r, l = x :: r → low ≤ rank x → ∀ u ∈ l0, rank x ≤ rank u) →
    ∃ pre rest, l = pre ++ rest ∧ climb f low (cutT a l0) l = (cutT a (l0 ++ pre), rest) ∧ (∀ u ∈ pre, low ≤ rank u) ∧ (∀ x r, rest = x :: r → rank x < low)
  | 0, low, a, l0, l, hl, _, _ => by
    obtain rfl : l = [] := List.length_eq_zero_iff.1 (by omega)
    exact ⟨[], [], rfl, by rw [List.append_nil]; rfl, by simp, by simp⟩
  | f + 1, low, a, l0, [], _, _, _ => ⟨[], [], rfl, by rw [List.append_nil]; rfl, by simp, by simp⟩
  | f + 1, low, a, l0, x :: r, hl, h0, hn => by
    rw [List.length_cons] at hl
    by_cases hx : low ≤ rank x
    · obtain ⟨p1, r1, e1, c1, k1, s1⟩ := climb_is f (rank x + 1) x.2 [] r (by omega) (by simp) (by simp)
      have c1' : climb f (rank x + 1) (vN x.2) r = (cutT x.2 p1, r1) := c1
      have hmid := cutT_mid a l0 x p1 (hn x r rfl hx) (fun u hu => by have := k1 u hu; omega)
      have hlen : r1.length ≤ f := by rw [e1, List.length_append] at hl; omega
      obtain ⟨p2, r2, e2, c2, k2, s2⟩ := climb_is f low a (l0 ++ x :: p1) r1 hlen (fun u hu => by
        rcases List.mem_append.1 hu with h | h
        · exact h0 u h
        · rcases List.mem_cons.1 h with h | h
          · rw [h]; exact hx
          · have := k1 u h; omega) (fun y q hy _ u hu => by
        have hy1 := s1 y q hy
        rcases List.mem_append.1 hu with h | h
        · have := hn x r rfl hx u h; omega
        · rcases List.mem_cons.1 h with h | h
          · rw [h]; omega
          · have := k1 u h; omega)
      refine ⟨x :: p1 ++ p2, r2, ?_, ?_, ?_, s2⟩
      · rw [List.append_assoc, ← e2, e1]; rfl
      · rw [climb, if_pos hx, c1']
        show climb f low (bN x.1 (cutT a l0) (cutT x.2 p1)) r1 = _
        rw [← hmid, c2, List.append_assoc]
      · intro u hu
        rcases List.mem_append.1 hu with h | h
        · rcases List.mem_cons.1 h with h | h
          · rw [h]; exact hx
          · have := k1 u h; omega
        · exact k2 u h
    · refine ⟨[], x :: r, rfl, ?_, by simp, fun y q hy => by cases hy; omega⟩
      rw [climb, if_neg hx, List.append_nil]
theorem climb_all (low : Nat) (a : List UInt8) (l : List It) (h : ∀ u ∈ l, low ≤ rank u) (f : Nat) (hf : l.length ≤ f) : climb f low (vN a) l = (cutT a l, []) := by
  obtain ⟨pre, rest, e, c, _, s⟩ := climb_is f low a [] l hf (by simp) (by simp)
  cases rest with
  | nil =>
    rw [List.append_nil] at e
    subst e
    exact c
  | cons x r =>
    have := s x r rfl
    have := h x (by rw [e]; simp)
    omega
end Rk
end Go.Proofs.YtajoncmmdeahnaaGreatDoor
