/-
  The checker as a function of trees, and the checker in memory. What a call of it may turn. The checker in memory, and what a call of it may turn; variable, done. The checker: done; fits, define, returned and what calls answer of kids' types.
-/
import Derived.Test.YtajoncmmdeahnaaGreatDoorMa
import Derived.Test.YtajoncmmdeahnaaGreatDoorKCd
import Derived.Test.YtajoncmmdeahnaaGreatDoorKPb
import Derived.Test.YtajoncmmdeahnaaGreatDoorQh
import Derived.Test.YtajoncmmdeahnaaGreatDoorCe
namespace Go.Proofs.YtajoncmmdeahnaaGreatDoor
open Go.RowKit
namespace Ck
abbrev Fm := ByteArray → Option Int
/-- A checker between two steps: the types that are known, the names that pass, the names of declarations, counts; ops: how often a map was written. -/
structure Cs where
  vars : Fm
  pass : List ByteArray
  tak : Fm
  gl : Nat
  bo : Nat
  no : Nat
  te : Bool
  an : Int
  ops : Nat
abbrev Rk (α : Type) := Except (Option Nat) (α × Cs)
abbrev Ck (α : Type) := Cs → Rk α
def Ck.bnd {α β : Type} (x : Ck α) (f : α → Ck β) : Ck β := fun p => match x p with
  | .ok (a, q) => f a q
  | .error e => .error e
def Ck.ret {α : Type} (a : α) : Ck α := fun p => .ok (a, p)
instance : Monad Ck := { pure := Ck.ret, bind := Ck.bnd }
def rej {α : Type} (n : Nat) : Ck α := fun _ => .error (some n)
def uns {α : Type} : Ck α := fun _ => .error none
/-- What functions are: their parameters' types, and what they answer. -/
abbrev Fn := ByteArray → Option (List Int × Int)
def needC (b : Bool) : Ck Unit := if b then pure () else rej 122
def limitC (h m : Nat) : Ck Unit := if m < h then rej 125 else pure ()
def formN (n : Nd) : Option Bool := formB n.kind n.ty n.txt n.num n.kids.length
def doneC (n : Nd) : Ck Unit := fun st => if 1000000 ≤ st.no ∨ 1000000 < n.txt.size then .error none else match formN n with
  | none => .error none
  | some b => if b = false ∨ 2000 < st.no + 2 then .error (some 125) else .ok ((), { st with no := st.no + 1 })
def variableC (s : ByteArray) : Ck Int := fun st => if 1000000 < s.size then .error none else match st.vars s with
  | none => .error (some 121)
  | some t => .ok (t, st)
def knowC (s : ByteArray) (t : Int) : Ck Unit := fun st => if 1000000 < s.size ∨ 1000000 ≤ st.ops ∨ 1000000 ≤ st.pass.length then .error none else match st.vars s with
  | some _ => .error (some 120)
  | none => .ok ((), { st with vars := Mp.upd st.vars s t, pass := st.pass ++ [s], ops := st.ops + 1 })
def drops (f : Fm) : List ByteArray → Fm
  | [] => f
  | s :: r => drops (Mp.del f s) r
def forgetC (k : Nat) : Ck Unit := fun st => if st.pass.length < k then .error none else .ok ((), { st with vars := drops st.vars (st.pass.drop k), pass := st.pass.take k })
def kidT (ks : List Nd) (i : Nat) : Int := match ks[i]? with
  | some x => x.ty
  | none => 0
def fitsC (n : Nd) (t : Int) : Ck Unit := if n.kids.length = 1 ∧ kidT n.kids 0 ≠ t then rej 122 else pure ()
def callL : List Int → List Nd → Ck Unit
  | p :: ps, x :: xs => do
    needC (x.ty == p)
    callL ps xs
  | _, _ => pure ()
def callC (F : Fn) (n : Nd) : Ck Int := if 1000000 < n.txt.size then uns else match F n.txt with
  | none => rej 121
  | some (ps, a) => if n.kids.length ≠ ps.length then rej 123 else do
    callL ps n.kids
    return a
def sg (l : List UInt8) : ByteArray := ⟨l.toArray⟩
def aheadC (n : Nd) : Ck Int := if n.kids.length ≠ 1 then rej 125 else
  let t := kidT n.kids 0
  if n.txt.data.toList == [45] then do
    needC (numT t)
    return t
  else if n.txt.data.toList == [33] then do
    needC (t == 3)
    return t
  else rej 125
/-- How a sign between two asks: 1 to 6, 0 where it is none. -/
def sgK (s : List UInt8) : Nat :=
  if s == [43] || s == [45] || s == [42] || s == [47] then 1
  else if s == [37] then 2
  else if s == [60] || s == [60, 61] || s == [62] || s == [62, 61] then 3
  else if s == [61, 61] || s == [33, 61] then 4
  else if s == [38, 38] || s == [124, 124] then 5 else 0
def betweenC (n : Nd) : Ck Int := if n.kids.length ≠ 2 then rej 125 else
  let t := kidT n.kids 0
  let al := t == kidT n.kids 1
  match sgK n.txt.data.toList with
  | 1 => do needC (al && numT t); return t
  | 2 => do needC (al && t == 1); return t
  | 3 => do needC (al && numT t); return 3
  | 4 => do needC al; return 3
  | 5 => do needC (al && t == 3); return 3
  | _ => rej 125
def convertedC (n : Nd) : Ck Int := if n.kids.length ≠ 1 ∨ numT n.ty = false then rej 125 else do
  needC (numT (kidT n.kids 0))
  return n.ty
def typeOfC (F : Fn) (n : Nd) : Ck Int :=
  if n.kind = 20 then pure 1 else if n.kind = 21 then pure 2 else if n.kind = 22 then pure 3
  else if n.kind = 23 then variableC n.txt else if n.kind = 24 then callC F n
  else if n.kind = 25 then aheadC n else if n.kind = 26 then betweenC n else convertedC n
def mapC (f : Nd → Ck Nd) : List Nd → Ck (List Nd)
  | [] => pure []
  | x :: r => do
    let y ← f x
    let l ← mapC f r
    return y :: l
def withKids (n : Nd) (ks : List Nd) : Nd := .mk n.kind n.ty n.txt n.num ks
def withTy (n : Nd) (t : Int) : Nd := .mk n.kind t n.txt n.num n.kids
def exprC (F : Fn) : Nat → Nd → Ck Nd
  | 0, _ => uns
  | k + 1, n => if exprK n.kind = false then rej 125 else do
    let ks ← mapC (exprC F k) n.kids
    let t ← typeOfC F (withKids n ks)
    doneC (withTy (withKids n ks) t)
    return withTy (withKids n ks) t
def defineC (n : Nd) : Ck Unit := knowC n.txt (if n.kids.length = 0 then 0 else kidT n.kids 0)
def returnedC (n : Nd) : Ck Unit := fun st => if st.te then .error (some 124) else fitsC n st.an st
def aloneB (l : List Nd) : Bool := l.all fun x => x.kind == 24
def lineC (F : Fn) (k : Nat) (n : Nd) : Ck Nd := do
  (if n.kind = 13 ∧ aloneB n.kids = false then rej 125 else pure ())
  let ks ← mapC (exprC F k) n.kids
  (if n.kind = 7 then defineC (withKids n ks)
    else if n.kind = 8 then (do let t ← variableC n.txt; fitsC (withKids n ks) t)
    else if n.kind = 11 then returnedC (withKids n ks)
    else if n.kind = 12 then fitsC (withKids n ks) 3
    else pure ())
  return withKids n ks
/-- What calls itself. -/
structure Rc where
  block : Nd → Ck Nd
def branchL (F : Fn) (k : Nat) (R : Rc) : Nat → List Nd → Ck (List Nd)
  | _, [] => pure []
  | 0, x :: r => do
    let y ← exprC F k x
    (if y.ty ≠ 3 then rej 122 else pure ())
    let l ← branchL F k R 1 r
    return y :: l
  | i + 1, x :: r => do
    let y ← R.block x
    let l ← branchL F k R (i + 2) r
    return y :: l
def branchesC (F : Fn) (k : Nat) (R : Rc) (n : Nd) : Ck Nd := do
  let ks ← branchL F k R 0 n.kids
  return withKids n ks
def statementC (F : Fn) (k : Nat) (R : Rc) (n : Nd) : Ck Nd := do
  let m ← (if n.kind = 9 ∨ n.kind = 10 then branchesC F k R n
    else if n.kind = 7 ∨ n.kind = 8 ∨ n.kind = 11 ∨ n.kind = 12 ∨ n.kind = 13 ∨ n.kind = 14 then lineC F k n
    else rej 125)
  doneC m
  return m
def blockF (F : Fn) (k : Nat) (R : Rc) (n : Nd) : Ck Nd := fun st => if n.kind ≠ 6 then .error (some 125) else (do
  let ks ← mapC (statementC F k R) n.kids
  forgetC st.pass.length
  doneC (withKids n ks)
  return withKids n ks : Ck Nd) st
def rc (F : Fn) (k : Nat) : Nat → Rc
  | 0 => ⟨fun _ => uns⟩
  | j + 1 => ⟨blockF F k (rc F k j)⟩
def unsgn (n : Nd) : Nd := if 0 ≤ n.num then n else if n.kind = 20 then .mk n.kind n.ty n.txt (- n.num) n.kids else if n.kind = 21 then .mk n.kind n.ty n.txt (n.num + 9223372036854775808) n.kids else n
def constantC (F : Fn) (k : Nat) (n : Nd) : Ck Nd := if lit3 n.kind = false then rej 125 else if n.num < -9223372036854775807 then uns else do
  let ks ← mapC (exprC F k) n.kids
  let t ← typeOfC F (withKids n ks)
  doneC (unsgn (withTy (withKids n ks) t))
  return withTy (withKids n ks) t
def globalC (F : Fn) (k : Nat) (n : Nd) : Ck Nd := do
  let ks ← mapC (constantC F k) n.kids
  fitsC (withKids n ks) n.ty
  doneC (withKids n ks)
  fun st => (if 1000000 ≤ st.gl then .error none else (limitC (st.gl + 1) 16) { st with gl := st.gl + 1 })
  return withKids n ks
def parameterC (F : Fn) (k : Nat) (n : Nd) : Ck Nd := if n.kind ≠ 5 then rej 125 else do
  let ks ← mapC (exprC F k) n.kids
  knowC n.txt n.ty
  doneC (withKids n ks)
  return withKids n ks
mutual
def endsB : Nd → Bool
  | .mk k _ _ _ ks => if k = 11 then true else if k = 6 then endsL ks else if k = 9 then decide (ks.length = 3) && endsT ks else false
/-- The last one ends. -/
def endsL : List Nd → Bool
  | [] => false
  | x :: r => match r with
    | [] => endsB x
    | y :: q => endsL (y :: q)
/-- All but the first one end. -/
def endsT : List Nd → Bool
  | [] => true
  | _ :: r => endsA r
def endsA : List Nd → Bool
  | [] => true
  | x :: r => endsB x && endsA r
end
def bodyL (F : Fn) (k : Nat) (R : Rc) (te : Bool) : List Nd → Ck (List Nd)
  | [] => pure []
  | x :: r => do
    let y ← (if r ≠ [] ∧ te = false then parameterC F k x else R.block x)
    let l ← bodyL F k R te r
    return y :: l
def bodyC (F : Fn) (k : Nat) (R : Rc) (n : Nd) : Ck Nd := do
  fun st => .ok ((), { st with te := n.kind == 4, an := n.ty })
  let ks ← bodyL F k R (n.kind == 4) n.kids
  forgetC 0
  doneC (withKids n ks)
  fun st => (if 1000000 ≤ st.bo then .error none else (limitC (st.bo + 1) 32) { st with bo := st.bo + 1 })
  (if (n.kind == 4) = false ∧ endsL ks = false then rej 124 else pure ())
  return withKids n ks
def declarationC (F : Fn) (k : Nat) (R : Rc) (n : Nd) : Ck Nd := fun st =>
  if ¬ (n.kind = 2 ∨ n.kind = 3 ∨ n.kind = 4) then .error (some 125)
  else if 1000000 < n.txt.size ∨ 1000000 ≤ st.ops then .error none
  else if 0 < (st.tak n.txt).getD 0 then .error (some 120)
  else (if n.kind = 2 then globalC F k n else bodyC F k R n) { st with tak := Mp.upd st.tak n.txt ((st.tak n.txt).getD 0 + 1), ops := st.ops + 1 }
/-- Declarations, one behind the other: as they are found; else the place of the first one that is rejected, and why. -/
def declsC (F : Fn) (k : Nat) (R : Rc) : Nat → List Nd → Cs → Except (Option (Nat × Nat)) (List Nd)
  | _, [], _ => .ok []
  | i, x :: r, st => match declarationC F k R x st with
    | .error none => .error none
    | .error (some e) => .error (some (i, e))
    | .ok (y, st2) => match declsC F k R (i + 1) r st2 with
      | .ok l => .ok (y :: l)
      | .error e => .error e
def sigOf (n : Nd) : List Int × Int := ((n.kids.filter fun x => x.kind == 5).map Nd.ty, n.ty)
def fnsOf : List Nd → Fn → Fn
  | [], F => F
  | x :: r, F => fnsOf r (if x.kind = 3 ∧ (F x.txt).isSome = false then Mp.upd F x.txt (sigOf x) else F)
def varsOf : List Nd → Fm → Fm
  | [], F => F
  | x :: r, F => varsOf r (if x.kind = 2 ∧ (F x.txt).isSome = false then Mp.upd F x.txt x.ty else F)
def checkM (k : Nat) (n : Nd) : Except (Option (Nat × Nat)) Nd := if n.kind ≠ 1 then .error (some (0, 125)) else match formN n with
  | none => .error none
  | some false => .error (some (0, 125))
  | some true => match declsC (fnsOf n.kids fun _ => none) k (rc (fnsOf n.kids fun _ => none) k k) 0 n.kids ⟨varsOf n.kids fun _ => none, [], fun _ => none, 0, 0, 0, false, 0, n.kids.length⟩ with
    | .ok l => .ok (withKids n l)
    | .error e => .error e
end Ck
end Go.Proofs.YtajoncmmdeahnaaGreatDoor
namespace Go.Proofs.YtajoncmmdeahnaaGreatDoor
open Go.RowKit
namespace Ck
/-- Where a checker lies: its own block, its maps; all from base on; strconv's tables lie below low. -/
structure Xc where
  base : Nat
  low : Nat
  c : Nat
  mf : Nat
  mv : Nat
  mt : Nat
structure Xc.Ok (X : Xc) : Prop where
  lb : X.low ≤ X.base
  bc : X.base ≤ X.c
  bf : X.base ≤ X.mf
  bv : X.base ≤ X.mv
  bt : X.base ≤ X.mt
  fv : X.mf ≠ X.mv
  ft : X.mf ≠ X.mt
  vt : X.mv ≠ X.mt
/-- A row of types. -/
def IntR (w : World) (base : Nat) (pa : Option Addr) (ps : List Int) : Prop := ps = [] ∨ ∃ g cs, pa = some ⟨g, 0, none⟩ ∧ base ≤ g ∧ Blk w g 3 cs ∧ ∀ (i : Nat) (x : Int), ps[i]? = some x → cs[i]? = some (Value.int .i64 x)
/-- The map of what functions are. -/
def FnsR (w : World) (X : Xc) (F : Fn) : Prop := ∃ n f, Mp.MapR w X.mf n f ∧ ∀ s, match F s with
  | none => f s = none
  | some (ps, a) => ∃ pa cap, f s = some (.agg #[.slice pa ps.length cap, .int .i64 a]) ∧ ps.length ≤ cap ∧ cap ≤ maxLen ∧ IntR w X.base pa ps
def iM (f : Fm) : ByteArray → Option Value := fun s => (f s).map (.int .i64)
structure CkR (w : World) (X : Xc) (F : Fn) (st : Cs) (pv : Value) : Prop where
  ok : X.Ok
  blk : Blk w X.c 101 #[.map (some X.mf), .map (some X.mv), pv, .map (some X.mt), .int .i64 st.gl, .int .i64 st.bo, .int .i64 st.no, .bool st.te, .int .i64 st.an]
  fns : FnsR w X F
  vars : Mp.MapR w X.mv st.ops (iM st.vars)
  tak : Mp.MapR w X.mt st.ops (iM st.tak)
  row : w.ownsRow X.base 9 1 pv st.pass.length (st.pass.map Value.string)
  short : ∀ s ∈ st.pass, s.size ≤ 1000000
  gl : Pm.GlB w X.low
/-- A checker in memory. -/
def CkA (w : World) (X : Xc) (F : Fn) (st : Cs) : Prop := ∃ pv, CkR w X F st pv
def StrRow (w : World) (i : Nat) : Prop := ∃ cs, Blk w i 9 cs
/-- What a call of the checker may turn: its block, two of its maps, rows of texts. -/
structure FrC (X : Xc) (w w' : World) : Prop where
  os : w'.os = w.os
  tape : w'.tape = w.tape
  output : w'.output = w.output
  size : w.heap.size ≤ w'.heap.size
  block : ∀ i, i < w.heap.size → i ≠ X.c → i ≠ X.mv → i ≠ X.mt → (X.base ≤ i → ¬ StrRow w i) → w'.heap[i]? = w.heap[i]?
theorem FrC.of {X : Xc} {w w' : World} {row : Option Nat} (h : w.grownBy w' row) (hr : ∀ r, row = some r → r = X.c ∨ r = X.mv ∨ r = X.mt ∨ (X.base ≤ r ∧ StrRow w r)) : FrC X w w' :=
  ⟨h.os, h.tape, h.output, h.size, fun i hi h1 h2 h3 h4 => h.block i hi (fun e => by
    rcases hr i e.symm with h | h | h | h
    · exact h1 h
    · exact h2 h
    · exact h3 h
    · exact h4 h.1 h.2)⟩
theorem FrC.nil {X : Xc} {w w' : World} (h : w.grownBy w' none) : FrC X w w' := FrC.of h (by simp)
theorem FrC.refl (X : Xc) (w : World) : FrC X w w := FrC.nil (grown_refl w none)
theorem FrC.trans {X : Xc} {a b c : World} (h : FrC X a b) (k : FrC X b c) : FrC X a c := by
  refine ⟨k.os.trans h.os, k.tape.trans h.tape, k.output.trans h.output, Nat.le_trans h.size k.size, fun i hi h1 h2 h3 h4 => ?_⟩
  have e := h.block i hi h1 h2 h3 h4
  refine (k.block i (Nat.lt_of_lt_of_le hi h.size) h1 h2 h3 (fun hb hs => h4 hb ?_)).trans e
  obtain ⟨cs, hs⟩ := hs
  exact ⟨cs, e.symm.trans hs⟩
theorem FrC.blk {X : Xc} {w w' : World} {g : Nat} {t : TypeId} {cs : Array Value} (h : FrC X w w') (hB : Blk w g t cs) (ht : t ≠ 9) (hc : g ≠ X.c) (hv : g ≠ X.mv) (hm : g ≠ X.mt) : Blk w' g t cs :=
  (h.block g hB.lt hc hv hm (fun _ ⟨cs', hs⟩ => by
    have h1 : w.heap[g]? = some (.cells cs' 9 (0, 0)) := hs
    have h2 : w.heap[g]? = some (.cells cs t (0, 0)) := hB
    rw [h2] at h1
    injection h1 with h1
    injection h1 with _ h1
    exact ht h1)).trans hB
theorem FrC.low {X : Xc} {w w' : World} (h : FrC X w w') (hX : X.Ok) : ∀ i, i < X.base → i < w.heap.size → w'.heap[i]? = w.heap[i]? := fun i h1 h2 => by
  have h3 := hX.bc
  have h4 := hX.bv
  have h5 := hX.bt
  exact h.block i h2 (by omega) (by omega) (by omega) (fun h => by omega)
theorem IntR.kept {w w' : World} {base : Nat} {pa : Option Addr} {ps : List Int} (h : IntR w base pa ps) (hk : ∀ g cs, base ≤ g → Blk w g 3 cs → Blk w' g 3 cs) : IntR w' base pa ps := by
  rcases h with h | ⟨g, cs, h1, h2, h3, h4⟩
  · exact Or.inl h
  · exact Or.inr ⟨g, cs, h1, h2, hk g cs h2 h3, h4⟩
theorem FnsR.kept {w w' : World} {X : Xc} {F : Fn} (h : FnsR w X F) (hm : w'.heap[X.mf]? = w.heap[X.mf]?) (hk : ∀ g cs, X.base ≤ g → Blk w g 3 cs → Blk w' g 3 cs) : FnsR w' X F := by
  obtain ⟨n, f, h1, h2⟩ := h
  refine ⟨n, f, h1.heap hm, fun s => ?_⟩
  have h3 := h2 s
  cases hF : F s with
  | none => rw [hF] at h3; exact h3
  | some x =>
    rw [hF] at h3
    obtain ⟨pa, cap, e1, e2, e3, e4⟩ := h3
    exact ⟨pa, cap, e1, e2, e3, e4.kept hk⟩
theorem mf_not_row {w : World} {X : Xc} {F : Fn} (h : FnsR w X F) : ¬ StrRow w X.mf := fun ⟨cs, hs⟩ => by
  obtain ⟨n, f, h1, _⟩ := h
  exact h1.ne hs rfl
theorem FnsR.frc {w w' : World} {X : Xc} {F : Fn} {pv : Value} {st : Cs} (hR : CkR w X F st pv) (h : FrC X w w') : FnsR w' X F := by
  obtain ⟨n, f, h1, h2⟩ := hR.fns
  have hc : X.mf ≠ X.c := fun e => h1.ne (hR.blk) e.symm
  refine FnsR.kept ⟨n, f, h1, h2⟩ (h.block X.mf h1.lt hc hR.ok.fv hR.ok.ft (fun _ => mf_not_row hR.fns)) (fun g cs hg hB => ?_)
  exact h.blk hB (by decide) (fun e => by
    subst e
    have e1 : w.heap[X.c]? = some (.cells cs 3 (0, 0)) := hB
    have e2 := hR.blk
    unfold Blk at e2
    rw [e1] at e2
    injection e2 with e2
    injection e2 with _ e2
    exact absurd e2 (by decide)) (hR.vars.ne hB) (hR.tak.ne hB)
theorem CkR.kept {w w' : World} {X : Xc} {F : Fn} {st : Cs} {pv : Value} (h : CkR w X F st pv) (hg : w.grownBy w' none) : CkR w' X F st pv := by
  refine ⟨h.ok, h.blk.kept hg (by simp), FnsR.frc h (FrC.nil hg), h.vars.kept hg (by simp), h.tak.kept hg (by simp), ?_, h.short, h.gl.keptR hg (by simp)⟩
  exact Lw.row_none h.row hg
theorem CkA.kept {w w' : World} {X : Xc} {F : Fn} {st : Cs} (h : CkA w X F st) (hg : w.grownBy w' none) : CkA w' X F st := by
  obtain ⟨pv, h⟩ := h
  exact ⟨pv, h.kept hg⟩
theorem CkR.form {w : World} {X : Xc} {F : Fn} {st : Cs} {pv : Value} (h : CkR w X F st pv) : ∃ pa cap, pv = .slice pa st.pass.length cap := by
  obtain ⟨pa, cap, e, _⟩ := Lw.row_form h.row
  exact ⟨pa, cap, e⟩
/-- What a call leaves. -/
def CkP {α : Type} (V : World → α → Value → Prop) (X : Xc) (F : Fn) (w : World) (x : Rk α) (e : Ending) (w' : World) : Prop := match x with
  | .ok (a, st) => ∃ v, e = .returned v ∧ V w' a v ∧ CkA w' X F st ∧ FrC X w w'
  | .error (some n) => e = .panicked (RjV n) ∧ FrC X w w'
  | .error none => True
def uK (_ : World) (_ : Unit) (v : Value) : Prop := v = .tuple #[]
def iK (_ : World) (n : Int) (v : Value) : Prop := v = .int .i64 n
theorem CkP.cases {α : Type} {V : World → α → Value → Prop} {X : Xc} {F : Fn} {w w' : World} {x : Rk α} {e : Ending} (h : CkP V X F w x e w') (hx : x ≠ .error none) : (∃ n, x = .error (some n) ∧ e = .panicked (RjV n) ∧ FrC X w w') ∨ ∃ a st v, x = .ok (a, st) ∧ e = .returned v ∧ V w' a v ∧ CkA w' X F st ∧ FrC X w w' := by
  match x, h, hx with
  | .ok (a, st), ⟨v, h1, h2, h3, h4⟩, _ => exact Or.inr ⟨a, st, v, rfl, h1, h2, h3, h4⟩
  | .error (some n), ⟨h1, h2⟩, _ => exact Or.inl ⟨n, rfl, h1, h2⟩
  | .error none, _, hx => exact absurd rfl hx
theorem bnd_ok {α β : Type} {x : Ck α} {f : α → Ck β} {p q : Cs} {a : α} (h : x p = .ok (a, q)) : (x >>= f) p = f a q := by
  show Ck.bnd x f p = _
  unfold Ck.bnd
  rw [h]
theorem bnd_err {α β : Type} {x : Ck α} {f : α → Ck β} {p : Cs} {e : Option Nat} (h : x p = .error e) : (x >>= f) p = .error e := by
  show Ck.bnd x f p = _
  unfold Ck.bnd
  rw [h]
theorem bnd_ne {α β : Type} {x : Ck α} {f : α → Ck β} {p : Cs} (h : (x >>= f) p ≠ .error none) : x p ≠ .error none := fun e => h (bnd_err e)
theorem pure_ap {α : Type} (a : α) (p : Cs) : (pure a : Ck α) p = .ok (a, p) := rfl
theorem zero3 (w : World) : (zeroValue 3).run Tryz.prog w = .ok (.int .i64 0) w := by kernel_rfl
theorem maxLen_ge : 1000000 ≤ maxLen := by unfold maxLen; decide
set_option maxRecDepth 100000 in
theorem variable_any (s : ByteArray) {X : Xc} {F : Fn} {st : Cs} (w : World) (hC : CkA w X F st) (hx : variableC s st ≠ .error none) :
    Calls Tryz.prog 212 #[.pointer (some ⟨X.c, 0, none⟩), .string s] w (CkP iK X F w (variableC s st)) := by
  obtain ⟨pv, hR⟩ := hC
  unfold variableC at hx ⊢
  by_cases hs : 1000000 < s.size
  · rw [if_pos hs] at hx
    exact absurd rfl hx
  rw [if_neg hs] at hx ⊢
  have L := hR.vars.look Tryz.underlying99 (zero3 w) s (Nat.le_trans (Nat.le_of_not_lt hs) maxLen_ge)
  unfold iM at L
  have c1 := hR.blk.cell 1
  simp at c1
  have HR := hid hR
  have C97 : Hid (Calls Tryz.prog 97 #[.int .i64 (121 : Nat)] w fun e w' => e = .panicked (RjV 121) ∧ w' = w) := hid (reject_any 121 w)
  clear hR hx hs
  cases hv : st.vars s with
  | none =>
    rw [hv] at L
    simp only [Option.map_none, Option.getD_none, Option.isSome_none] at L
    clear hv
    go_enter Tryz.func212, Tryz.ntmps212
    go_wp2_with (go_at_call 97; refine C97.out.mono ?_; rintro e w1 ⟨rfl, hw⟩; replace hw := hw.symm; subst hw; clear C97)
    exact ⟨rfl, rfl, FrC.refl _ _⟩
  | some t =>
    rw [hv] at L
    simp only [Option.map_some, Option.getD_some, Option.isSome_some] at L
    clear hv C97
    go_enter Tryz.func212, Tryz.ntmps212
    go_wp2_with fail
    go_ret
    exact ⟨_, rfl, rfl, ⟨_, HR.out⟩, FrC.refl _ _⟩
end Ck
end Go.Proofs.YtajoncmmdeahnaaGreatDoor
namespace Go.Proofs.YtajoncmmdeahnaaGreatDoor
open Go.RowKit
namespace Ck
theorem FnsR.c {w w' : World} {X : Xc} {F : Fn} {st : Cs} {pv : Value} (h : CkR w X F st pv) (hg : w.grownBy w' (some X.c)) : FnsR w' X F := FnsR.frc h (FrC.of hg (fun r e => by injection e with e; exact Or.inl e.symm))
theorem CkR.upd {w w' : World} {X : Xc} {F : Fn} {st st' : Cs} {pv : Value} (h : CkR w X F st pv) (hg : w.grownBy w' (some X.c)) (hB : Blk w' X.c 101 #[.map (some X.mf), .map (some X.mv), pv, .map (some X.mt), .int .i64 st'.gl, .int .i64 st'.bo, .int .i64 st'.no, .bool st'.te, .int .i64 st'.an]) (h1 : st'.vars = st.vars) (h2 : st'.tak = st.tak) (h3 : st'.ops = st.ops) (h4 : st'.pass = st.pass) : CkR w' X F st' pv := by
  have hb := h.ok.bc
  have hl := h.ok.lb
  refine ⟨h.ok, hB, FnsR.c h hg, ?_, ?_, ?_, ?_, h.gl.keptR hg (fun k e => by injection e with e; omega)⟩
  · rw [h1, h3]; exact h.vars.kept hg (fun e => h.vars.ne h.blk (Option.some.inj e).symm)
  · rw [h2, h3]; exact h.tak.kept hg (fun e => h.tak.ne h.blk (Option.some.inj e).symm)
  · rw [h4]
    refine h.row.kept hg ?_
    cases hv : pv.ownBlock with
    | none => exact Or.inl rfl
    | some r =>
      refine Or.inr (fun e => ?_)
      injection e with e
      rcases h.row.2 with ⟨rfl, _⟩ | ⟨g, cap, cur, rfl, _, hg9, _⟩
      · cases hv
      · have e2 : g = r := Option.some.inj hv
        subst e2
        subst e
        have h5 := h.blk
        unfold Blk at h5
        have h6 : w.heap[X.c]? = some (.cells cur 9 (0, 0)) := hg9
        rw [h5] at h6
        injection h6 with h6
        injection h6 with _ h6
        exact absurd h6 (by decide)
  · rw [h4]; exact h.short
theorem FrC.c {X : Xc} {w w' : World} (h : w.grownBy w' (some X.c)) : FrC X w w' := FrC.of h (fun r e => by injection e with e; exact Or.inl e.symm)
/-- A node as a value. -/
def nval (n : Nd) (p : Option Addr) (c : Nat) : Value := .agg #[.int .i64 n.kind, .int .i64 n.ty, .string n.txt, .int .i64 n.num, .slice p n.kids.length c]
set_option maxRecDepth 100000 in
set_option maxHeartbeats 2000000 in
theorem done_any (n : Nd) (p : Option Addr) (c : Nat) {X : Xc} {F : Fn} {st : Cs} (w : World) (hC : CkA w X F st) (hx : doneC n st ≠ .error none) :
    Calls Tryz.prog 136 #[.pointer (some ⟨X.c, 0, none⟩), .agg #[.int .i64 n.kind, .int .i64 n.ty, .string n.txt, .int .i64 n.num, .slice p n.kids.length c]] w (CkP uK X F w (doneC n st)) := by
  obtain ⟨pv, hR⟩ := hC
  unfold doneC at hx ⊢
  by_cases ho : 1000000 ≤ st.no ∨ 1000000 < n.txt.size
  · rw [if_pos ho] at hx
    exact absurd rfl hx
  rw [if_neg ho] at hx ⊢
  have hs : (n.txt.size : Int) ≤ 9223372036854775807 := by omega
  replace ho : ¬ 1000000 ≤ st.no := by omega
  cases hf : formN n with
  | none => rw [hf] at hx; exact absurd rfl hx
  | some b =>
    simp only []
    have hcl := hR.blk.lt
    have c6 := hR.blk.cell 6
    have z6 := hR.blk.frozen 6
    simp at c6
    have wi : IntKind.i64.wrap ((st.no : Int) + 1) = (st.no : Int) + 1 := by rw [IntKind.wrap_i64]; omega
    have wj : IntKind.i64.wrap ((st.no : Int) + 1 + 1) = (st.no : Int) + 1 + 1 := by rw [IntKind.wrap_i64]; omega
    have R1 : Hid (CkR ((w.setCell ⟨X.c, 6, none⟩ (.int .i64 ((st.no : Int) + 1))).alloc (.cells #[.int .i64 n.kind, .int .i64 n.ty, .string n.txt, .int .i64 n.num, .slice p n.kids.length c] 27)) X F { st with no := st.no + 1 } pv) :=
      hid ((hR.upd (st' := { st with no := st.no + 1 }) (grown_set (grown_refl _ (some X.c)) 6 _) (by have := hR.blk.set 6 (.int .i64 ((st.no : Int) + 1)); simpa using this) rfl rfl rfl rfl).kept (grown_alloc (grown_refl _ none) _))
    have F1 : Hid (FrC X w ((w.setCell ⟨X.c, 6, none⟩ (.int .i64 ((st.no : Int) + 1))).alloc (.cells #[.int .i64 n.kind, .int .i64 n.ty, .string n.txt, .int .i64 n.num, .slice p n.kids.length c] 27))) := hid ((FrC.c (grown_set (grown_refl _ (some X.c)) 6 _)).trans (FrC.nil (grown_alloc (grown_refl _ none) _)))
    have C27 : Hid (∀ W, CkR W X F { st with no := st.no + 1 } pv → Calls Tryz.prog 27 #[.agg #[.int .i64 n.kind, .int .i64 n.ty, .string n.txt, .int .i64 n.num, .slice p n.kids.length c]] W (BP b W)) := fun W hW => form_any n.kind n.ty n.txt n.num p n.kids.length c W hs (hW.gl.up (by have := hW.ok.lb; have := hW.ok.bc; have := hW.blk.lt; omega)) b hf
    have C97 : Hid (∀ W, Calls Tryz.prog 97 #[.int .i64 (125 : Nat)] W fun e w' => e = .panicked (RjV 125) ∧ w' = W) := fun W => reject_any 125 W
    have kn : decide ((2000 : Int) < (st.no : Int) + 1 + 1) = decide (2000 < st.no + 2) := by rw [decide_eq_decide]; omega
    have hne : X.c ≠ w.heap.size := by omega
    clear hf hs hx hR ho
    cases b with
    | false =>
      rw [if_pos (Or.inl rfl)]
      clear kn wj
      go_enter Tryz.func136, Tryz.ntmps136
      go_wp2_with (first
        | (go_at_call 27; refine (C27.out _ R1.out).mono ?_; rintro e w1 ⟨rfl, g⟩; have F2 := hid (F1.out.trans (FrC.nil g)); clear g C27)
        | (go_at_call 97; refine (C97.out _).mono ?_; rintro e w2 ⟨rfl, hw⟩; replace hw := hw.symm; subst hw; clear C97))
      exact ⟨rfl, rfl, F2.out⟩
    | true =>
      cases hk : decide (2000 < st.no + 2) with
      | true =>
        rw [hk] at kn
        rw [if_pos (Or.inr (of_decide_eq_true hk))]
        clear hk
        go_enter Tryz.func136, Tryz.ntmps136
        go_wp2_with (first
          | (go_at_call 27; refine (C27.out _ R1.out).mono ?_; rintro e w1 ⟨rfl, g⟩; have F2 := hid (F1.out.trans (FrC.nil g)); have R2 := hid (R1.out.kept g); have d6 := R2.out.blk.cell 6; simp at d6; clear g C27)
          | (go_at_call 97; refine (C97.out _).mono ?_; rintro e w2 ⟨rfl, hw⟩; replace hw := hw.symm; subst hw; clear C97))
        exact ⟨rfl, rfl, F2.out⟩
      | false =>
        rw [hk] at kn
        rw [if_neg (fun h => h.elim (by decide) (of_decide_eq_false hk))]
        clear hk C97
        go_enter Tryz.func136, Tryz.ntmps136
        go_wp2_with (first
          | (go_at_call 27; refine (C27.out _ R1.out).mono ?_; rintro e w1 ⟨rfl, g⟩; have F2 := hid (F1.out.trans (FrC.nil g)); have R2 := hid (R1.out.kept g); have d6 := R2.out.blk.cell 6; simp at d6; clear g C27))
        go_end0
        exact ⟨_, rfl, rfl, ⟨_, R2.out⟩, F2.out⟩
end Ck
end Go.Proofs.YtajoncmmdeahnaaGreatDoor
