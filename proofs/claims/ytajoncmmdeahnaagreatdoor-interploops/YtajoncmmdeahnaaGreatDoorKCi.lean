/-
  The checker as a function of trees, and the checker in memory. What a call of it may turn. The checker in memory, and what a call of it may turn; variable, done. The checker: done; fits, define, returned and what calls answer of kids' types. The checker: fits, and what signs ask of types. The checker: between.
-/
import Derived.Test.YtajoncmmdeahnaaGreatDoorMa
import Derived.Test.YtajoncmmdeahnaaGreatDoorKQg
import Derived.Test.YtajoncmmdeahnaaGreatDoorKPf
import Derived.Test.YtajoncmmdeahnaaGreatDoorKCe
import Derived.Deep.RegionLaw
namespace Go.Proofs.YtajoncmmdeahnaaGreatDoor
open Go.RowKit
namespace Ck
abbrev Fm := ByteArray → Option Int
structure Cs where
  vars : Fm
  pass : List ByteArray
  tak : Fm
  gl : Nat
  bo : Nat
  no : Nat
  te : Bool
  an : Int
  ops : Nat
abbrev Rk (α : Type) := Except (Option Nat) (α × Cs)
abbrev Ck (α : Type) := Cs → Rk α
def Ck.bnd {α β : Type} (x : Ck α) (f : α → Ck β) : Ck β := fun p => match x p with
  | .ok (a, q) => f a q
  | .error e => .error e
def Ck.ret {α : Type} (a : α) : Ck α := fun p => .ok (a, p)
instance : Monad Ck := { pure := Ck.ret, bind := Ck.bnd }
def rej {α : Type} (n : Nat) : Ck α := fun _ => .error (some n)
def uns {α : Type} : Ck α := fun _ => .error none
abbrev Fn := ByteArray → Option (List Int × Int)
def needC (b : Bool) : Ck Unit := if b then pure () else rej 122
def limitC (h m : Nat) : Ck Unit := if m < h then rej 125 else pure ()
def formN (n : Nd) : Option Bool := formB n.kind n.ty n.txt n.num n.kids.length
def doneC (n : Nd) : Ck Unit := fun st => if 1000000 ≤ st.no ∨ 1000000 < n.txt.size then .error none else match formN n with
  | none => .error none
  | some b => if b = false ∨ 2000 < st.no + 2 then .error (some 125) else .ok ((), { st with no := st.no + 1 })
def variableC (s : ByteArray) : Ck Int := fun st => if 1000000 < s.size then .error none else match st.vars s with
  | none => .error (some 121)
  | some t => .ok (t, st)
def knowC (s : ByteArray) (t : Int) : Ck Unit := fun st => if 1000000 < s.size ∨ 1000000 ≤ st.ops ∨ 1000000 ≤ st.pass.length then .error none else match st.vars s with
  | some _ => .error (some 120)
  | none => .ok ((), { st with vars := Mp.upd st.vars s t, pass := st.pass ++ [s], ops := st.ops + 1 })
def drops (f : Fm) : List ByteArray → Fm
  | [] => f
  | s :: r => drops (Mp.del f s) r
def forgetC (k : Nat) : Ck Unit := fun st => if st.pass.length < k then .error none else .ok ((), { st with vars := drops st.vars (st.pass.drop k), pass := st.pass.take k })
def kidT (ks : List Nd) (i : Nat) : Int := match ks[i]? with
  | some x => x.ty
  | none => 0
def fitsC (n : Nd) (t : Int) : Ck Unit := if n.kids.length = 1 ∧ kidT n.kids 0 ≠ t then rej 122 else pure ()
def callL : List Int → List Nd → Ck Unit
  | p :: ps, x :: xs => do
    needC (x.ty == p)
    callL ps xs
  | _, _ => pure ()
def callC (F : Fn) (n : Nd) : Ck Int := if 1000000 < n.txt.size then uns else match F n.txt with
  | none => rej 121
  | some (ps, a) => if n.kids.length ≠ ps.length then rej 123 else do
    callL ps n.kids
    return a
def aheadC (n : Nd) : Ck Int := if n.kids.length ≠ 1 then rej 125 else
  let t := kidT n.kids 0
  if n.txt.data.toList == [45] then do
    needC (numT t)
    return t
  else if n.txt.data.toList == [33] then do
    needC (t == 3)
    return t
  else rej 125
def sgK (s : List UInt8) : Nat :=
  if s == [43] || s == [45] || s == [42] || s == [47] then 1
  else if s == [37] then 2
  else if s == [60] || s == [60, 61] || s == [62] || s == [62, 61] then 3
  else if s == [61, 61] || s == [33, 61] then 4
  else if s == [38, 38] || s == [124, 124] then 5 else 0
def betweenC (n : Nd) : Ck Int := if n.kids.length ≠ 2 then rej 125 else
  let t := kidT n.kids 0
  let al := t == kidT n.kids 1
  match sgK n.txt.data.toList with
  | 1 => do needC (al && numT t); return t
  | 2 => do needC (al && t == 1); return t
  | 3 => do needC (al && numT t); return 3
  | 4 => do needC al; return 3
  | 5 => do needC (al && t == 3); return 3
  | _ => rej 125
def convertedC (n : Nd) : Ck Int := if n.kids.length ≠ 1 ∨ numT n.ty = false then rej 125 else do
  needC (numT (kidT n.kids 0))
  return n.ty
def typeOfC (F : Fn) (n : Nd) : Ck Int :=
  if n.kind = 20 then pure 1 else if n.kind = 21 then pure 2 else if n.kind = 22 then pure 3
  else if n.kind = 23 then variableC n.txt else if n.kind = 24 then callC F n
  else if n.kind = 25 then aheadC n else if n.kind = 26 then betweenC n else convertedC n
def mapC (f : Nd → Ck Nd) : List Nd → Ck (List Nd)
  | [] => pure []
  | x :: r => do
    let y ← f x
    let l ← mapC f r
    return y :: l
def withKids (n : Nd) (ks : List Nd) : Nd := .mk n.kind n.ty n.txt n.num ks
def withTy (n : Nd) (t : Int) : Nd := .mk n.kind t n.txt n.num n.kids
def exprC (F : Fn) : Nat → Nd → Ck Nd
  | 0, _ => uns
  | k + 1, n => if exprK n.kind = false then rej 125 else do
    let ks ← mapC (exprC F k) n.kids
    let t ← typeOfC F (withKids n ks)
    doneC (withTy (withKids n ks) t)
    return withTy (withKids n ks) t
def defineC (n : Nd) : Ck Unit := knowC n.txt (if n.kids.length = 0 then 0 else kidT n.kids 0)
def returnedC (n : Nd) : Ck Unit := fun st => if st.te then .error (some 124) else fitsC n st.an st
def aloneB (l : List Nd) : Bool := l.all fun x => x.kind == 24
def lineC (F : Fn) (k : Nat) (n : Nd) : Ck Nd := do
  (if n.kind = 13 ∧ aloneB n.kids = false then rej 125 else pure ())
  let ks ← mapC (exprC F k) n.kids
  (if n.kind = 7 then defineC (withKids n ks)
    else if n.kind = 8 then (do let t ← variableC n.txt; fitsC (withKids n ks) t)
    else if n.kind = 11 then returnedC (withKids n ks)
    else if n.kind = 12 then fitsC (withKids n ks) 3
    else pure ())
  return withKids n ks
structure Rc where
  block : Nd → Ck Nd
def branchL (F : Fn) (k : Nat) (R : Rc) : Nat → List Nd → Ck (List Nd)
  | _, [] => pure []
  | 0, x :: r => do
    let y ← exprC F k x
    (if y.ty ≠ 3 then rej 122 else pure ())
    let l ← branchL F k R 1 r
    return y :: l
  | i + 1, x :: r => do
    let y ← R.block x
    let l ← branchL F k R (i + 2) r
    return y :: l
def branchesC (F : Fn) (k : Nat) (R : Rc) (n : Nd) : Ck Nd := do
  let ks ← branchL F k R 0 n.kids
  return withKids n ks
def statementC (F : Fn) (k : Nat) (R : Rc) (n : Nd) : Ck Nd := do
  let m ← (if n.kind = 9 ∨ n.kind = 10 then branchesC F k R n
    else if n.kind = 7 ∨ n.kind = 8 ∨ n.kind = 11 ∨ n.kind = 12 ∨ n.kind = 13 ∨ n.kind = 14 then lineC F k n
    else rej 125)
  doneC m
  return m
def blockF (F : Fn) (k : Nat) (R : Rc) (n : Nd) : Ck Nd := fun st => if n.kind ≠ 6 then .error (some 125) else (do
  let ks ← mapC (statementC F k R) n.kids
  forgetC st.pass.length
  doneC (withKids n ks)
  return withKids n ks : Ck Nd) st
def rc (F : Fn) (k : Nat) : Nat → Rc
  | 0 => ⟨fun _ => uns⟩
  | j + 1 => ⟨blockF F k (rc F k j)⟩
def unsgn (n : Nd) : Nd := if 0 ≤ n.num then n else if n.kind = 20 then .mk n.kind n.ty n.txt (- n.num) n.kids else if n.kind = 21 then .mk n.kind n.ty n.txt (n.num + 9223372036854775808) n.kids else n
def constantC (F : Fn) (k : Nat) (n : Nd) : Ck Nd := if lit3 n.kind = false then rej 125 else if n.num < -9223372036854775807 then uns else do
  let ks ← mapC (exprC F k) n.kids
  let t ← typeOfC F (withKids n ks)
  doneC (unsgn (withTy (withKids n ks) t))
  return withTy (withKids n ks) t
def globalC (F : Fn) (k : Nat) (n : Nd) : Ck Nd := do
  let ks ← mapC (constantC F k) n.kids
  fitsC (withKids n ks) n.ty
  doneC (withKids n ks)
  fun st => (if 1000000 ≤ st.gl then .error none else (limitC (st.gl + 1) 16) { st with gl := st.gl + 1 })
  return withKids n ks
def parameterC (F : Fn) (k : Nat) (n : Nd) : Ck Nd := if n.kind ≠ 5 then rej 125 else do
  let ks ← mapC (exprC F k) n.kids
  knowC n.txt n.ty
  doneC (withKids n ks)
  return withKids n ks
mutual
def endsB : Nd → Bool
  | .mk k _ _ _ ks => if k = 11 then true else if k = 6 then endsL ks else if k = 9 then decide (ks.length = 3) && endsT ks else false
/-- The last one ends. -/
def endsL : List Nd → Bool
  | [] => false
  | x :: r => match r with
    | [] => endsB x
    | y :: q => endsL (y :: q)
/-- All but the first one end. -/
def endsT : List Nd → Bool
  | [] => true
  | _ :: r => endsA r
def endsA : List Nd → Bool
  | [] => true
  | x :: r => endsB x && endsA r
end
def bodyL (F : Fn) (k : Nat) (R : Rc) (te : Bool) : List Nd → Ck (List Nd)
  | [] => pure []
  | x :: r => do
    let y ← (if r ≠ [] ∧ te = false then parameterC F k x else R.block x)
    let l ← bodyL F k R te r
    return y :: l
def bodyC (F : Fn) (k : Nat) (R : Rc) (n : Nd) : Ck Nd := do
  fun st => .ok ((), { st with te := n.kind == 4, an := n.ty })
  let ks ← bodyL F k R (n.kind == 4) n.kids
  forgetC 0
  doneC (withKids n ks)
  fun st => (if 1000000 ≤ st.bo then .error none else (limitC (st.bo + 1) 32) { st with bo := st.bo + 1 })
  (if (n.kind == 4) = false ∧ endsL ks = false then rej 124 else pure ())
  return withKids n ks
def sigOf (n : Nd) : List Int × Int := ((n.kids.filter fun x => x.kind == 5).map Nd.ty, n.ty)
def fnsOf : List Nd → Fn → Fn
  | [], F => F
  | x :: r, F => fnsOf r (if x.kind = 3 ∧ (F x.txt).isSome = false then Mp.upd F x.txt (sigOf x) else F)
def varsOf : List Nd → Fm → Fm
  | [], F => F
  | x :: r, F => varsOf r (if x.kind = 2 ∧ (F x.txt).isSome = false then Mp.upd F x.txt x.ty else F)
end Ck
end Go.Proofs.YtajoncmmdeahnaaGreatDoor
namespace Go.Proofs.YtajoncmmdeahnaaGreatDoor
open Go.RowKit
namespace Ck
structure Xc where
  base : Nat
  low : Nat
  c : Nat
  mf : Nat
  mv : Nat
  mt : Nat
structure Xc.Ok (X : Xc) : Prop where
  lb : X.low ≤ X.base
  bc : X.base ≤ X.c
  bf : X.base ≤ X.mf
  bv : X.base ≤ X.mv
  bt : X.base ≤ X.mt
  fv : X.mf ≠ X.mv
  ft : X.mf ≠ X.mt
  vt : X.mv ≠ X.mt
def IntR (w : World) (base : Nat) (pa : Option Addr) (ps : List Int) : Prop := ps = [] ∨ ∃ g cs, pa = some ⟨g, 0, none⟩ ∧ base ≤ g ∧ Blk w g 3 cs ∧ ∀ (i : Nat) (x : Int), ps[i]? = some x → cs[i]? = some (Value.int .i64 x)
def FnsR (w : World) (X : Xc) (F : Fn) : Prop := ∃ n f, Mp.MapR w X.mf n f ∧ ∀ s, match F s with
  | none => f s = none
  | some (ps, a) => ∃ pa cap, f s = some (.agg #[.slice pa ps.length cap, .int .i64 a]) ∧ ps.length ≤ cap ∧ cap ≤ maxLen ∧ IntR w X.base pa ps
def iM (f : Fm) : ByteArray → Option Value := fun s => (f s).map (.int .i64)
structure CkR (w : World) (X : Xc) (F : Fn) (st : Cs) (pv : Value) : Prop where
  ok : X.Ok
  blk : Blk w X.c 101 #[.map (some X.mf), .map (some X.mv), pv, .map (some X.mt), .int .i64 st.gl, .int .i64 st.bo, .int .i64 st.no, .bool st.te, .int .i64 st.an]
  fns : FnsR w X F
  vars : Mp.MapR w X.mv st.ops (iM st.vars)
  tak : Mp.MapR w X.mt st.ops (iM st.tak)
  row : w.ownsRow X.base 9 1 pv st.pass.length (st.pass.map Value.string)
  short : ∀ s ∈ st.pass, s.size ≤ 1000000
  gl : Pm.GlB w X.low
def CkA (w : World) (X : Xc) (F : Fn) (st : Cs) : Prop := ∃ pv, CkR w X F st pv
def StrRow (w : World) (i : Nat) : Prop := ∃ cs, Blk w i 9 cs
structure FrC (X : Xc) (w w' : World) : Prop where
  os : w'.os = w.os
  tape : w'.tape = w.tape
  output : w'.output = w.output
  size : w.heap.size ≤ w'.heap.size
  block : ∀ i, i < w.heap.size → i ≠ X.c → i ≠ X.mv → i ≠ X.mt → (X.base ≤ i → ¬ StrRow w i) → w'.heap[i]? = w.heap[i]?
theorem FrC.of {X : Xc} {w w' : World} {row : Option Nat} (h : w.grownBy w' row) (hr : ∀ r, row = some r → r = X.c ∨ r = X.mv ∨ r = X.mt ∨ (X.base ≤ r ∧ StrRow w r)) : FrC X w w' :=
  ⟨h.os, h.tape, h.output, h.size, fun i hi h1 h2 h3 h4 => h.block i hi (fun e => by
    rcases hr i e.symm with h | h | h | h
    · exact h1 h
    · exact h2 h
    · exact h3 h
    · exact h4 h.1 h.2)⟩
theorem FrC.nil {X : Xc} {w w' : World} (h : w.grownBy w' none) : FrC X w w' := FrC.of h (by simp)
theorem FrC.refl (X : Xc) (w : World) : FrC X w w := FrC.nil (grown_refl w none)
theorem FrC.trans {X : Xc} {a b c : World} (h : FrC X a b) (k : FrC X b c) : FrC X a c := by
  refine ⟨k.os.trans h.os, k.tape.trans h.tape, k.output.trans h.output, Nat.le_trans h.size k.size, fun i hi h1 h2 h3 h4 => ?_⟩
  have e := h.block i hi h1 h2 h3 h4
  refine (k.block i (Nat.lt_of_lt_of_le hi h.size) h1 h2 h3 (fun hb hs => h4 hb ?_)).trans e
  obtain ⟨cs, hs⟩ := hs
  exact ⟨cs, e.symm.trans hs⟩
theorem FrC.blk {X : Xc} {w w' : World} {g : Nat} {t : TypeId} {cs : Array Value} (h : FrC X w w') (hB : Blk w g t cs) (ht : t ≠ 9) (hc : g ≠ X.c) (hv : g ≠ X.mv) (hm : g ≠ X.mt) : Blk w' g t cs :=
  (h.block g hB.lt hc hv hm (fun _ ⟨cs', hs⟩ => by
    have h1 : w.heap[g]? = some (.cells cs' 9 (0, 0)) := hs
    have h2 : w.heap[g]? = some (.cells cs t (0, 0)) := hB
    rw [h2] at h1
    injection h1 with h1
    injection h1 with _ h1
    exact ht h1)).trans hB
theorem FrC.low {X : Xc} {w w' : World} (h : FrC X w w') (hX : X.Ok) : ∀ i, i < X.base → i < w.heap.size → w'.heap[i]? = w.heap[i]? := fun i h1 h2 => by
  have h3 := hX.bc
  have h4 := hX.bv
  have h5 := hX.bt
  exact h.block i h2 (by omega) (by omega) (by omega) (fun h => by omega)
theorem IntR.kept {w w' : World} {base : Nat} {pa : Option Addr} {ps : List Int} (h : IntR w base pa ps) (hk : ∀ g cs, base ≤ g → Blk w g 3 cs → Blk w' g 3 cs) : IntR w' base pa ps := by
  rcases h with h | ⟨g, cs, h1, h2, h3, h4⟩
  · exact Or.inl h
  · exact Or.inr ⟨g, cs, h1, h2, hk g cs h2 h3, h4⟩
theorem FnsR.kept {w w' : World} {X : Xc} {F : Fn} (h : FnsR w X F) (hm : w'.heap[X.mf]? = w.heap[X.mf]?) (hk : ∀ g cs, X.base ≤ g → Blk w g 3 cs → Blk w' g 3 cs) : FnsR w' X F := by
  obtain ⟨n, f, h1, h2⟩ := h
  refine ⟨n, f, h1.heap hm, fun s => ?_⟩
  have h3 := h2 s
  cases hF : F s with
  | none => rw [hF] at h3; exact h3
  | some x =>
    rw [hF] at h3
    obtain ⟨pa, cap, e1, e2, e3, e4⟩ := h3
    exact ⟨pa, cap, e1, e2, e3, e4.kept hk⟩
theorem mf_not_row {w : World} {X : Xc} {F : Fn} (h : FnsR w X F) : ¬ StrRow w X.mf := fun ⟨cs, hs⟩ => by
  obtain ⟨n, f, h1, _⟩ := h
  exact h1.ne hs rfl
theorem FnsR.frc {w w' : World} {X : Xc} {F : Fn} {pv : Value} {st : Cs} (hR : CkR w X F st pv) (h : FrC X w w') : FnsR w' X F := by
  obtain ⟨n, f, h1, h2⟩ := hR.fns
  have hc : X.mf ≠ X.c := fun e => h1.ne (hR.blk) e.symm
  refine FnsR.kept ⟨n, f, h1, h2⟩ (h.block X.mf h1.lt hc hR.ok.fv hR.ok.ft (fun _ => mf_not_row hR.fns)) (fun g cs hg hB => ?_)
  exact h.blk hB (by decide) (fun e => by
    subst e
    have e1 : w.heap[X.c]? = some (.cells cs 3 (0, 0)) := hB
    have e2 := hR.blk
    unfold Blk at e2
    rw [e1] at e2
    injection e2 with e2
    injection e2 with _ e2
    exact absurd e2 (by decide)) (hR.vars.ne hB) (hR.tak.ne hB)
theorem CkR.kept {w w' : World} {X : Xc} {F : Fn} {st : Cs} {pv : Value} (h : CkR w X F st pv) (hg : w.grownBy w' none) : CkR w' X F st pv := by
  refine ⟨h.ok, h.blk.kept hg (by simp), FnsR.frc h (FrC.nil hg), h.vars.kept hg (by simp), h.tak.kept hg (by simp), ?_, h.short, h.gl.keptR hg (by simp)⟩
  exact Lw.row_none h.row hg
theorem CkA.kept {w w' : World} {X : Xc} {F : Fn} {st : Cs} (h : CkA w X F st) (hg : w.grownBy w' none) : CkA w' X F st := by
  obtain ⟨pv, h⟩ := h
  exact ⟨pv, h.kept hg⟩
theorem CkR.form {w : World} {X : Xc} {F : Fn} {st : Cs} {pv : Value} (h : CkR w X F st pv) : ∃ pa cap, pv = .slice pa st.pass.length cap := by
  obtain ⟨pa, cap, e, _⟩ := Lw.row_form h.row
  exact ⟨pa, cap, e⟩
def CkP {α : Type} (V : World → α → Value → Prop) (X : Xc) (F : Fn) (w : World) (x : Rk α) (e : Ending) (w' : World) : Prop := match x with
  | .ok (a, st) => ∃ v, e = .returned v ∧ V w' a v ∧ CkA w' X F st ∧ FrC X w w'
  | .error (some n) => e = .panicked (RjV n) ∧ FrC X w w'
  | .error none => True
def uK (_ : World) (_ : Unit) (v : Value) : Prop := v = .tuple #[]
def iK (_ : World) (n : Int) (v : Value) : Prop := v = .int .i64 n
theorem CkP.cases {α : Type} {V : World → α → Value → Prop} {X : Xc} {F : Fn} {w w' : World} {x : Rk α} {e : Ending} (h : CkP V X F w x e w') (hx : x ≠ .error none) : (∃ n, x = .error (some n) ∧ e = .panicked (RjV n) ∧ FrC X w w') ∨ ∃ a st v, x = .ok (a, st) ∧ e = .returned v ∧ V w' a v ∧ CkA w' X F st ∧ FrC X w w' := by
  match x, h, hx with
  | .ok (a, st), ⟨v, h1, h2, h3, h4⟩, _ => exact Or.inr ⟨a, st, v, rfl, h1, h2, h3, h4⟩
  | .error (some n), ⟨h1, h2⟩, _ => exact Or.inl ⟨n, rfl, h1, h2⟩
  | .error none, _, hx => exact absurd rfl hx
theorem bnd_ok {α β : Type} {x : Ck α} {f : α → Ck β} {p q : Cs} {a : α} (h : x p = .ok (a, q)) : (x >>= f) p = f a q := by
  show Ck.bnd x f p = _
  unfold Ck.bnd
  rw [h]
theorem bnd_err {α β : Type} {x : Ck α} {f : α → Ck β} {p : Cs} {e : Option Nat} (h : x p = .error e) : (x >>= f) p = .error e := by
  show Ck.bnd x f p = _
  unfold Ck.bnd
  rw [h]
theorem bnd_ne {α β : Type} {x : Ck α} {f : α → Ck β} {p : Cs} (h : (x >>= f) p ≠ .error none) : x p ≠ .error none := fun e => h (bnd_err e)
theorem zero3 (w : World) : (zeroValue 3).run Tryz.prog w = .ok (.int .i64 0) w := by kernel_rfl
theorem maxLen_ge : 1000000 ≤ maxLen := by unfold maxLen; decide
set_option maxRecDepth 100000 in
theorem variable_any (s : ByteArray) {X : Xc} {F : Fn} {st : Cs} (w : World) (hC : CkA w X F st) (hx : variableC s st ≠ .error none) :
    Calls Tryz.prog 212 #[.pointer (some ⟨X.c, 0, none⟩), .string s] w (CkP iK X F w (variableC s st)) := by
  obtain ⟨pv, hR⟩ := hC
  unfold variableC at hx ⊢
  by_cases hs : 1000000 < s.size
  · rw [if_pos hs] at hx
    exact absurd rfl hx
  rw [if_neg hs] at hx ⊢
  have L := hR.vars.look Tryz.underlying99 (zero3 w) s (Nat.le_trans (Nat.le_of_not_lt hs) maxLen_ge)
  unfold iM at L
  have c1 := hR.blk.cell 1
  simp at c1
  have HR := hid hR
  have C97 : Hid (Calls Tryz.prog 97 #[.int .i64 (121 : Nat)] w fun e w' => e = .panicked (RjV 121) ∧ w' = w) := hid (reject_any 121 w)
  clear hR hx hs
  cases hv : st.vars s with
  | none =>
    rw [hv] at L
    simp only [Option.map_none, Option.getD_none, Option.isSome_none] at L
    clear hv
    go_enter Tryz.func212, Tryz.ntmps212
    go_wp2_with (go_at_call 97; refine C97.out.mono ?_; rintro e w1 ⟨rfl, hw⟩; replace hw := hw.symm; subst hw; clear C97)
    exact ⟨rfl, rfl, FrC.refl _ _⟩
  | some t =>
    rw [hv] at L
    simp only [Option.map_some, Option.getD_some, Option.isSome_some] at L
    clear hv C97
    go_enter Tryz.func212, Tryz.ntmps212
    go_wp2_with fail
    go_ret
    exact ⟨_, rfl, rfl, ⟨_, HR.out⟩, FrC.refl _ _⟩
end Ck
end Go.Proofs.YtajoncmmdeahnaaGreatDoor
namespace Go.Proofs.YtajoncmmdeahnaaGreatDoor
open Go.RowKit
namespace Ck
theorem FnsR.c {w w' : World} {X : Xc} {F : Fn} {st : Cs} {pv : Value} (h : CkR w X F st pv) (hg : w.grownBy w' (some X.c)) : FnsR w' X F := FnsR.frc h (FrC.of hg (fun r e => by injection e with e; exact Or.inl e.symm))
theorem CkR.upd {w w' : World} {X : Xc} {F : Fn} {st st' : Cs} {pv : Value} (h : CkR w X F st pv) (hg : w.grownBy w' (some X.c)) (hB : Blk w' X.c 101 #[.map (some X.mf), .map (some X.mv), pv, .map (some X.mt), .int .i64 st'.gl, .int .i64 st'.bo, .int .i64 st'.no, .bool st'.te, .int .i64 st'.an]) (h1 : st'.vars = st.vars) (h2 : st'.tak = st.tak) (h3 : st'.ops = st.ops) (h4 : st'.pass = st.pass) : CkR w' X F st' pv := by
  have hb := h.ok.bc
  have hl := h.ok.lb
  refine ⟨h.ok, hB, FnsR.c h hg, ?_, ?_, ?_, ?_, h.gl.keptR hg (fun k e => by injection e with e; omega)⟩
  · rw [h1, h3]; exact h.vars.kept hg (fun e => h.vars.ne h.blk (Option.some.inj e).symm)
  · rw [h2, h3]; exact h.tak.kept hg (fun e => h.tak.ne h.blk (Option.some.inj e).symm)
  · rw [h4]
    refine h.row.kept hg ?_
    cases hv : pv.ownBlock with
    | none => exact Or.inl rfl
    | some r =>
      refine Or.inr (fun e => ?_)
      injection e with e
      rcases h.row.2 with ⟨rfl, _⟩ | ⟨g, cap, cur, rfl, _, hg9, _⟩
      · cases hv
      · have e2 : g = r := Option.some.inj hv
        subst e2
        subst e
        have h5 := h.blk
        unfold Blk at h5
        have h6 : w.heap[X.c]? = some (.cells cur 9 (0, 0)) := hg9
        rw [h5] at h6
        injection h6 with h6
        injection h6 with _ h6
        exact absurd h6 (by decide)
  · rw [h4]; exact h.short
theorem FrC.c {X : Xc} {w w' : World} (h : w.grownBy w' (some X.c)) : FrC X w w' := FrC.of h (fun r e => by injection e with e; exact Or.inl e.symm)
set_option maxRecDepth 100000 in
set_option maxHeartbeats 2000000 in
theorem done_any (n : Nd) (p : Option Addr) (c : Nat) {X : Xc} {F : Fn} {st : Cs} (w : World) (hC : CkA w X F st) (hx : doneC n st ≠ .error none) :
    Calls Tryz.prog 136 #[.pointer (some ⟨X.c, 0, none⟩), .agg #[.int .i64 n.kind, .int .i64 n.ty, .string n.txt, .int .i64 n.num, .slice p n.kids.length c]] w (CkP uK X F w (doneC n st)) := by
  obtain ⟨pv, hR⟩ := hC
  unfold doneC at hx ⊢
  by_cases ho : 1000000 ≤ st.no ∨ 1000000 < n.txt.size
  · rw [if_pos ho] at hx
    exact absurd rfl hx
  rw [if_neg ho] at hx ⊢
  have hs : (n.txt.size : Int) ≤ 9223372036854775807 := by omega
  replace ho : ¬ 1000000 ≤ st.no := by omega
  cases hf : formN n with
  | none => rw [hf] at hx; exact absurd rfl hx
  | some b =>
    simp only []
    have hcl := hR.blk.lt
    have c6 := hR.blk.cell 6
    have z6 := hR.blk.frozen 6
    simp at c6
    have wi : IntKind.i64.wrap ((st.no : Int) + 1) = (st.no : Int) + 1 := by rw [IntKind.wrap_i64]; omega
    have wj : IntKind.i64.wrap ((st.no : Int) + 1 + 1) = (st.no : Int) + 1 + 1 := by rw [IntKind.wrap_i64]; omega
    have R1 : Hid (CkR ((w.setCell ⟨X.c, 6, none⟩ (.int .i64 ((st.no : Int) + 1))).alloc (.cells #[.int .i64 n.kind, .int .i64 n.ty, .string n.txt, .int .i64 n.num, .slice p n.kids.length c] 27)) X F { st with no := st.no + 1 } pv) :=
      hid ((hR.upd (st' := { st with no := st.no + 1 }) (grown_set (grown_refl _ (some X.c)) 6 _) (by have := hR.blk.set 6 (.int .i64 ((st.no : Int) + 1)); simpa using this) rfl rfl rfl rfl).kept (grown_alloc (grown_refl _ none) _))
    have F1 : Hid (FrC X w ((w.setCell ⟨X.c, 6, none⟩ (.int .i64 ((st.no : Int) + 1))).alloc (.cells #[.int .i64 n.kind, .int .i64 n.ty, .string n.txt, .int .i64 n.num, .slice p n.kids.length c] 27))) := hid ((FrC.c (grown_set (grown_refl _ (some X.c)) 6 _)).trans (FrC.nil (grown_alloc (grown_refl _ none) _)))
    have C27 : Hid (∀ W, CkR W X F { st with no := st.no + 1 } pv → Calls Tryz.prog 27 #[.agg #[.int .i64 n.kind, .int .i64 n.ty, .string n.txt, .int .i64 n.num, .slice p n.kids.length c]] W (BP b W)) := fun W hW => form_any n.kind n.ty n.txt n.num p n.kids.length c W hs (hW.gl.up (by have := hW.ok.lb; have := hW.ok.bc; have := hW.blk.lt; omega)) b hf
    have C97 : Hid (∀ W, Calls Tryz.prog 97 #[.int .i64 (125 : Nat)] W fun e w' => e = .panicked (RjV 125) ∧ w' = W) := fun W => reject_any 125 W
    have kn : decide ((2000 : Int) < (st.no : Int) + 1 + 1) = decide (2000 < st.no + 2) := by rw [decide_eq_decide]; omega
    have hne : X.c ≠ w.heap.size := by omega
    clear hf hs hx hR ho
    cases b with
    | false =>
      rw [if_pos (Or.inl rfl)]
      clear kn wj
      go_enter Tryz.func136, Tryz.ntmps136
      go_wp2_with (first
        | (go_at_call 27; refine (C27.out _ R1.out).mono ?_; rintro e w1 ⟨rfl, g⟩; have F2 := hid (F1.out.trans (FrC.nil g)); clear g C27)
        | (go_at_call 97; refine (C97.out _).mono ?_; rintro e w2 ⟨rfl, hw⟩; replace hw := hw.symm; subst hw; clear C97))
      exact ⟨rfl, rfl, F2.out⟩
    | true =>
      cases hk : decide (2000 < st.no + 2) with
      | true =>
        rw [hk] at kn
        rw [if_pos (Or.inr (of_decide_eq_true hk))]
        clear hk
        go_enter Tryz.func136, Tryz.ntmps136
        go_wp2_with (first
          | (go_at_call 27; refine (C27.out _ R1.out).mono ?_; rintro e w1 ⟨rfl, g⟩; have F2 := hid (F1.out.trans (FrC.nil g)); have R2 := hid (R1.out.kept g); have d6 := R2.out.blk.cell 6; simp at d6; clear g C27)
          | (go_at_call 97; refine (C97.out _).mono ?_; rintro e w2 ⟨rfl, hw⟩; replace hw := hw.symm; subst hw; clear C97))
        exact ⟨rfl, rfl, F2.out⟩
      | false =>
        rw [hk] at kn
        rw [if_neg (fun h => h.elim (by decide) (of_decide_eq_false hk))]
        clear hk C97
        go_enter Tryz.func136, Tryz.ntmps136
        go_wp2_with (first
          | (go_at_call 27; refine (C27.out _ R1.out).mono ?_; rintro e w1 ⟨rfl, g⟩; have F2 := hid (F1.out.trans (FrC.nil g)); have R2 := hid (R1.out.kept g); have d6 := R2.out.blk.cell 6; simp at d6; clear g C27))
        go_end0
        exact ⟨_, rfl, rfl, ⟨_, R2.out⟩, F2.out⟩
end Ck
end Go.Proofs.YtajoncmmdeahnaaGreatDoor
namespace Go.Proofs.YtajoncmmdeahnaaGreatDoor
open Go.RowKit
namespace Ck
def AnP (b : Bool) (m : Nat) (t : Int) (w : World) (e : Ending) (w' : World) : Prop := (if b = true then e = .returned (.int .i64 t) else e = .panicked (RjV m)) ∧ w.grownBy w' none
def UnP (b : Bool) (m : Nat) (w : World) (e : Ending) (w' : World) : Prop := (if b = true then e = .returned (.tuple #[]) else e = .panicked (RjV m)) ∧ w.grownBy w' none
theorem kid_at {w : World} {P : Nat → Prop} {p : Option Addr} {c : Nat} {ks : List Nd} (h : KsV w P (.slice p ks.length c) ks) (i : Nat) (hi : i < ks.length) : ∃ g, p = some ⟨g, 0, none⟩ ∧ w.cell? ⟨g, 5 * i, none⟩ = some (.int .i64 (ks[i]).kind) ∧ w.cell? ⟨g, 5 * i + 1, none⟩ = some (.int .i64 (ks[i]).ty) := by
  obtain ⟨g, (⟨h1, h2⟩ | ⟨_, _, cap, h1, _⟩), h3⟩ := h
  · omega
  · injection h1 with h1
    obtain ⟨q, c0, c1, _⟩ := (h3.at i hi).cells
    rw [Nat.zero_add] at c0 c1
    exact ⟨g, h1, c0, c1⟩
theorem kidT_at {ks : List Nd} {i : Nat} (hi : i < ks.length) : kidT ks i = (ks[i]).ty := by
  unfold kidT
  rw [List.getElem?_eq_getElem hi]
theorem keep_al {w : World} {g o : Nat} {v : Value} (h : w.cell? ⟨g, o, none⟩ = some v) (ob : Obj) : (w.alloc ob).cell? ⟨g, o, none⟩ = some v := (grown_alloc (grown_refl w none) ob).cell h (by simp)
set_option maxRecDepth 100000 in
set_option maxHeartbeats 1000000 in
theorem fits_wrong (k t : Int) (s : ByteArray) (n : Int) (p : Option Addr) (l c : Nat) (u : Int) (w : World) (hl : l ≠ 1) : Calls Tryz.prog 135 #[.agg #[.int .i64 k, .int .i64 t, .string s, .int .i64 n, .slice p l c], .int .i64 u] w (UnP true 122 w) := by
  have e1 : ((l : Int) == 1) = false := by rw [beq_eq_false_iff_ne]; omega
  clear hl
  go_enter Tryz.func135, Tryz.ntmps135
  go_wp2_with fail
  go_end0
  exact ⟨rfl, grown_alloc (grown_refl w none) _⟩
set_option maxRecDepth 100000 in
set_option maxHeartbeats 1000000 in
theorem fits_one (k t : Int) (s : ByteArray) (n : Int) (g c : Nat) (u t0 : Int) (w : World) (h1 : w.cell? ⟨g, 1, none⟩ = some (.int .i64 t0)) : Calls Tryz.prog 135 #[.agg #[.int .i64 k, .int .i64 t, .string s, .int .i64 n, .slice (some ⟨g, 0, none⟩) 1 c], .int .i64 u] w (UnP (t0 == u) 122 w) := by
  have d1 := keep_al h1 (.cells #[.int .i64 k, .int .i64 t, .string s, .int .i64 n, .slice (some ⟨g, 0, none⟩) 1 c] 27)
  have hg := cell_lt h1
  have hne : g ≠ w.heap.size := by omega
  have C97 : Hid (∀ W, Calls Tryz.prog 97 #[.int .i64 (122 : Nat)] W fun e w' => e = .panicked (RjV 122) ∧ w' = W) := fun W => reject_any 122 W
  cases hb : (t0 == u) with
  | true =>
    have e1 : (t0 != u) = false := by unfold bne; rw [hb]; rfl
    clear hb C97
    go_enter Tryz.func135, Tryz.ntmps135
    go_wp2_with fail
    go_end0
    exact ⟨rfl, grown_alloc (grown_refl w none) _⟩
  | false =>
    have e1 : (t0 != u) = true := by unfold bne; rw [hb]; rfl
    clear hb
    go_enter Tryz.func135, Tryz.ntmps135
    go_wp2_with (go_at_call 97; refine (C97.out _).mono ?_; rintro e w9 ⟨rfl, hw⟩; replace hw := hw.symm; subst hw; clear C97)
    exact ⟨rfl, rfl, grown_alloc (grown_refl w none) _⟩
theorem fits_any (n : Nd) (p : Option Addr) (c : Nat) (u : Int) (P : Nat → Prop) {X : Xc} {F : Fn} {st : Cs} (w : World) (hC : CkA w X F st) (hk : KsV w P (.slice p n.kids.length c) n.kids) :
    Calls Tryz.prog 135 #[.agg #[.int .i64 n.kind, .int .i64 n.ty, .string n.txt, .int .i64 n.num, .slice p n.kids.length c], .int .i64 u] w (CkP uK X F w (fitsC n u st)) := by
  unfold fitsC
  by_cases h1 : n.kids.length = 1
  · obtain ⟨g, rfl, _, c1⟩ := kid_at hk 0 (by omega)
    rw [h1]
    have C := fits_one n.kind n.ty n.txt n.num g c u _ w c1
    rw [← kidT_at (ks := n.kids) (i := 0) (by omega)] at C
    refine C.mono ?_
    rintro e w' ⟨h, hg⟩
    by_cases hb : kidT n.kids 0 = u
    · rw [if_neg (fun h => h.2 hb)]
      rw [if_pos (by rw [beq_iff_eq]; exact hb)] at h
      exact ⟨_, h, rfl, hC.kept hg, FrC.nil hg⟩
    · rw [if_pos ⟨rfl, hb⟩]
      rw [if_neg (by rw [beq_iff_eq]; exact hb)] at h
      exact ⟨h, FrC.nil hg⟩
  · rw [if_neg (fun h => h1 h.1)]
    refine (fits_wrong n.kind n.ty n.txt n.num p n.kids.length c u w h1).mono ?_
    rintro e w' ⟨h, hg⟩
    rw [if_pos rfl] at h
    exact ⟨_, h, rfl, hC.kept hg, FrC.nil hg⟩
set_option maxRecDepth 100000 in
theorem wrong214 (k t : Int) (s : ByteArray) (n : Int) (p : Option Addr) (l c : Nat) (w : World) (hl : l ≠ 1) : Calls Tryz.prog 214 #[.agg #[.int .i64 k, .int .i64 t, .string s, .int .i64 n, .slice p l c]] w (AnP false 125 0 w) := by
  have e1 : ((l : Int) != 1) = true := by simp only [bne_iff_ne]; omega
  have C97 : Hid (∀ W, Calls Tryz.prog 97 #[.int .i64 (125 : Nat)] W fun e w' => e = .panicked (RjV 125) ∧ w' = W) := fun W => reject_any 125 W
  clear hl
  go_enter Tryz.func214, Tryz.ntmps214
  go_wp2_with (go_at_call 97; refine (C97.out _).mono ?_; rintro e w9 ⟨rfl, hw⟩; replace hw := hw.symm; subst hw; clear C97)
  exact ⟨rfl, rfl, grown_alloc (grown_refl w none) _⟩
set_option maxRecDepth 100000 in
theorem wrong215 (k t : Int) (s : ByteArray) (n : Int) (p : Option Addr) (l c : Nat) (w : World) (hl : l ≠ 2) : Calls Tryz.prog 215 #[.agg #[.int .i64 k, .int .i64 t, .string s, .int .i64 n, .slice p l c]] w (AnP false 125 0 w) := by
  have e1 : ((l : Int) != 2) = true := by simp only [bne_iff_ne]; omega
  have C97 : Hid (∀ W, Calls Tryz.prog 97 #[.int .i64 (125 : Nat)] W fun e w' => e = .panicked (RjV 125) ∧ w' = W) := fun W => reject_any 125 W
  clear hl
  go_enter Tryz.func215, Tryz.ntmps215
  go_wp2_with (go_at_call 97; refine (C97.out _).mono ?_; rintro e w9 ⟨rfl, hw⟩; replace hw := hw.symm; subst hw; clear C97)
  exact ⟨rfl, rfl, grown_alloc (grown_refl w none) _⟩
set_option maxRecDepth 100000 in
set_option maxHeartbeats 1000000 in
theorem ahead_minus (k t : Int) (n : Int) (g c : Nat) (t0 : Int) (w : World) (h1 : w.cell? ⟨g, 1, none⟩ = some (.int .i64 t0)) : Calls Tryz.prog 214 #[.agg #[.int .i64 k, .int .i64 t, .string ⟨#[45]⟩, .int .i64 n, .slice (some ⟨g, 0, none⟩) 1 c]] w (AnP (numT t0) 122 t0 w) := by
  have d1 := keep_al h1 (.cells #[.int .i64 k, .int .i64 t, .string ⟨#[45]⟩, .int .i64 n, .slice (some ⟨g, 0, none⟩) 1 c] 27)
  have hg := cell_lt h1
  have hne : g ≠ w.heap.size := by omega
  have C246 : Hid (∀ W, Calls Tryz.prog 246 #[.int .i64 t0] W fun e w' => e = .returned (.bool (numT t0)) ∧ w' = W) := fun W => isNumber_any t0 W
  generalize numT t0 = b at *
  have C245 : Hid (∀ W, Calls Tryz.prog 245 #[.bool b] W fun e w' => (if b = true then e = .returned (.tuple #[]) else e = .panicked (RjV 122)) ∧ w' = W) := fun W => need_any b W
  cases b
  all_goals
    go_enter Tryz.func214, Tryz.ntmps214
    go_wp2_with (first
      | (go_at_call 246; refine (C246.out _).mono ?_; rintro e w9 ⟨rfl, hw⟩; replace hw := hw.symm; subst hw; clear C246)
      | (go_at_call 245; refine (C245.out _).mono ?_; rintro e w9 ⟨h9, hw⟩; replace hw := hw.symm; subst hw; clear C245; (try simp only [reduceIte, Bool.false_eq_true] at h9); subst h9))
    first
      | exact ⟨rfl, rfl, grown_alloc (grown_refl w none) _⟩
      | (go_ret; exact ⟨rfl, grown_alloc (grown_refl w none) _⟩)
set_option maxRecDepth 100000 in
set_option maxHeartbeats 1000000 in
theorem ahead_not (k t : Int) (n : Int) (g c : Nat) (t0 : Int) (w : World) (h1 : w.cell? ⟨g, 1, none⟩ = some (.int .i64 t0)) : Calls Tryz.prog 214 #[.agg #[.int .i64 k, .int .i64 t, .string ⟨#[33]⟩, .int .i64 n, .slice (some ⟨g, 0, none⟩) 1 c]] w (AnP (t0 == 3) 122 t0 w) := by
  have d1 := keep_al h1 (.cells #[.int .i64 k, .int .i64 t, .string ⟨#[33]⟩, .int .i64 n, .slice (some ⟨g, 0, none⟩) 1 c] 27)
  have hg := cell_lt h1
  have hne : g ≠ w.heap.size := by omega
  have C245 : Hid (∀ W, Calls Tryz.prog 245 #[.bool (t0 == 3)] W fun e w' => (if (t0 == 3) = true then e = .returned (.tuple #[]) else e = .panicked (RjV 122)) ∧ w' = W) := fun W => need_any (t0 == 3) W
  cases hb : (t0 == 3)
  all_goals
    rw [hb] at C245
    go_enter Tryz.func214, Tryz.ntmps214
    go_wp2_with (go_at_call 245; refine (C245.out _).mono ?_; rintro e w9 ⟨h9, hw⟩; replace hw := hw.symm; subst hw; clear C245; (try simp only [reduceIte, Bool.false_eq_true] at h9); subst h9)
    first
      | exact ⟨rfl, rfl, grown_alloc (grown_refl w none) _⟩
      | (go_ret; exact ⟨rfl, grown_alloc (grown_refl w none) _⟩)
set_option maxRecDepth 100000 in
set_option maxHeartbeats 1000000 in
theorem ahead_none (k t : Int) (s : ByteArray) (n : Int) (g c : Nat) (t0 : Int) (w : World) (h1 : w.cell? ⟨g, 1, none⟩ = some (.int .i64 t0)) (n1 : (s.toList == [45]) = false) (n2 : (s.toList == [33]) = false) : Calls Tryz.prog 214 #[.agg #[.int .i64 k, .int .i64 t, .string s, .int .i64 n, .slice (some ⟨g, 0, none⟩) 1 c]] w (AnP false 125 0 w) := by
  have d1 := keep_al h1 (.cells #[.int .i64 k, .int .i64 t, .string s, .int .i64 n, .slice (some ⟨g, 0, none⟩) 1 c] 27)
  have hg := cell_lt h1
  have hne : g ≠ w.heap.size := by omega
  have C97 : Hid (∀ W, Calls Tryz.prog 97 #[.int .i64 (125 : Nat)] W fun e w' => e = .panicked (RjV 125) ∧ w' = W) := fun W => reject_any 125 W
  go_enter Tryz.func214, Tryz.ntmps214
  go_wp2_with (go_at_call 97; refine (C97.out _).mono ?_; rintro e w9 ⟨rfl, hw⟩; replace hw := hw.symm; subst hw; clear C97)
  exact ⟨rfl, rfl, grown_alloc (grown_refl w none) _⟩
set_option maxRecDepth 100000 in
theorem conv_wrong (k t : Int) (s : ByteArray) (n : Int) (p : Option Addr) (l c : Nat) (w : World) (hl : l ≠ 1 ∨ numT t = false) : Calls Tryz.prog 216 #[.agg #[.int .i64 k, .int .i64 t, .string s, .int .i64 n, .slice p l c]] w (AnP false 125 0 w) := by
  have C97 : Hid (∀ W, Calls Tryz.prog 97 #[.int .i64 (125 : Nat)] W fun e w' => e = .panicked (RjV 125) ∧ w' = W) := fun W => reject_any 125 W
  have C246 : Hid (∀ W, Calls Tryz.prog 246 #[.int .i64 t] W fun e w' => e = .returned (.bool (numT t)) ∧ w' = W) := fun W => isNumber_any t W
  by_cases h1 : l = 1
  · have h2 : numT t = false := hl.elim (fun h => absurd h1 h) id
    rw [h2] at C246
    subst h1
    go_enter Tryz.func216, Tryz.ntmps216
    go_wp2_with (first
      | (go_at_call 246; refine (C246.out _).mono ?_; rintro e w9 ⟨rfl, hw⟩; replace hw := hw.symm; subst hw; clear C246)
      | (go_at_call 97; refine (C97.out _).mono ?_; rintro e w9 ⟨rfl, hw⟩; replace hw := hw.symm; subst hw; clear C97))
    exact ⟨rfl, rfl, grown_alloc (grown_refl w none) _⟩
  · have e1 : ((l : Int) != 1) = true := by simp only [bne_iff_ne]; omega
    clear hl C246 h1
    go_enter Tryz.func216, Tryz.ntmps216
    go_wp2_with (go_at_call 97; refine (C97.out _).mono ?_; rintro e w9 ⟨rfl, hw⟩; replace hw := hw.symm; subst hw; clear C97)
    exact ⟨rfl, rfl, grown_alloc (grown_refl w none) _⟩
set_option maxRecDepth 100000 in
theorem conv_one (k t : Int) (s : ByteArray) (n : Int) (g c : Nat) (t0 : Int) (w : World) (ht : numT t = true) (h1 : w.cell? ⟨g, 1, none⟩ = some (.int .i64 t0)) : Calls Tryz.prog 216 #[.agg #[.int .i64 k, .int .i64 t, .string s, .int .i64 n, .slice (some ⟨g, 0, none⟩) 1 c]] w (AnP (numT t0) 122 t w) := by
  have d1 := keep_al h1 (.cells #[.int .i64 k, .int .i64 t, .string s, .int .i64 n, .slice (some ⟨g, 0, none⟩) 1 c] 27)
  have hg := cell_lt h1
  have hne : g ≠ w.heap.size := by omega
  have CA : Hid (∀ W, Calls Tryz.prog 246 #[.int .i64 t] W fun e w' => e = .returned (.bool true) ∧ w' = W) := fun W => by rw [← ht]; exact isNumber_any t W
  have C246 : Hid (∀ W, Calls Tryz.prog 246 #[.int .i64 t0] W fun e w' => e = .returned (.bool (numT t0)) ∧ w' = W) := fun W => isNumber_any t0 W
  generalize numT t0 = b at *
  have C245 : Hid (∀ W, Calls Tryz.prog 245 #[.bool b] W fun e w' => (if b = true then e = .returned (.tuple #[]) else e = .panicked (RjV 122)) ∧ w' = W) := fun W => need_any b W
  cases b
  all_goals
    go_enter Tryz.func216, Tryz.ntmps216
    go_wp2_with (first
      | (go_at_call 246; refine (CA.out _).mono ?_; rintro e w9 ⟨rfl, hw⟩; replace hw := hw.symm; subst hw; clear CA)
      | (go_at_call 246; refine (C246.out _).mono ?_; rintro e w9 ⟨rfl, hw⟩; replace hw := hw.symm; subst hw; clear C246)
      | (go_at_call 245; refine (C245.out _).mono ?_; rintro e w9 ⟨h9, hw⟩; replace hw := hw.symm; subst hw; clear C245; (try simp only [reduceIte, Bool.false_eq_true] at h9); subst h9))
    first
      | exact ⟨rfl, rfl, grown_alloc (grown_refl w none) _⟩
      | (go_ret; exact ⟨rfl, grown_alloc (grown_refl w none) _⟩)
end Ck
end Go.Proofs.YtajoncmmdeahnaaGreatDoor
namespace Go.Proofs.YtajoncmmdeahnaaGreatDoor
open Go.RowKit
namespace Ck
def sgB (j : Nat) (t0 t1 : Int) : Bool := match j with
  | 1 => (t0 == t1) && numT t0
  | 2 => (t0 == t1) && (t0 == 1)
  | 3 => (t0 == t1) && numT t0
  | 4 => (t0 == t1)
  | 5 => (t0 == t1) && (t0 == 3)
  | _ => false
def sgT (j : Nat) (t0 : Int) : Int := match j with
  | 1 => t0
  | 2 => t0
  | _ => 3
set_option maxRecDepth 100000 in
set_option maxHeartbeats 8000000 in
theorem bet_any (k t : Int) (s : ByteArray) (n : Int) (g c : Nat) (t0 t1 : Int) (w : World) (h1 : w.cell? ⟨g, 1, none⟩ = some (.int .i64 t0)) (h6 : w.cell? ⟨g, 6, none⟩ = some (.int .i64 t1)) : Calls Tryz.prog 215 #[.agg #[.int .i64 k, .int .i64 t, .string s, .int .i64 n, .slice (some ⟨g, 0, none⟩) 2 c]] w (AnP (sgB (sgK s.data.toList) t0 t1) (if sgK s.data.toList = 0 then 125 else 122) (sgT (sgK s.data.toList) t0) w) := by
  have d1 := keep_al h1 (.cells #[.int .i64 k, .int .i64 t, .string s, .int .i64 n, .slice (some ⟨g, 0, none⟩) 2 c] 27)
  have d6 := keep_al h6 (.cells #[.int .i64 k, .int .i64 t, .string s, .int .i64 n, .slice (some ⟨g, 0, none⟩) 2 c] 27)
  have hg := cell_lt h1
  have hne : g ≠ w.heap.size := by omega
  have C246 : Hid (∀ W, Calls Tryz.prog 246 #[.int .i64 t0] W fun e w' => e = .returned (.bool (numT t0)) ∧ w' = W) := fun W => isNumber_any t0 W
  have C97 : Hid (∀ W, Calls Tryz.prog 97 #[.int .i64 (125 : Nat)] W fun e w' => e = .panicked (RjV 125) ∧ w' = W) := fun W => reject_any 125 W
  have C245 : Hid (∀ W (x : Bool), Calls Tryz.prog 245 #[.bool x] W fun e w' => (if x = true then e = .returned (.tuple #[]) else e = .panicked (RjV 122)) ∧ w' = W) := fun W x => need_any x W
  obtain ⟨al, hal⟩ : ∃ al, (t0 == t1) = al := ⟨_, rfl⟩
  obtain ⟨nb, hnb⟩ : ∃ nb, numT t0 = nb := ⟨_, rfl⟩
  have HB := hid (And.intro hal hnb)
  rw [hnb] at C246
  clear hnb
  obtain ⟨Q, hQ⟩ : ∃ Q, AnP (sgB (sgK s.data.toList) t0 t1) (if sgK s.data.toList = 0 then 125 else 122) (sgT (sgK s.data.toList) t0) w = Q := ⟨_, rfl⟩
  have HQ := hid (And.intro hQ trivial)
  rw [hQ]
  clear hQ
  go_enter Tryz.func215, Tryz.ntmps215
  go_wp2_with fail
  go_region
  have GG := hid (grown_drew (grown_alloc (grown_refl w none) (.cells #[.int .i64 k, .int .i64 t, .string s, .int .i64 n, .slice (some ⟨g, 0, none⟩) 2 c] 27)))
  by_cases e1 : s = ⟨#[43]⟩
  · subst e1
    cases al <;> cases nb
    all_goals
      have e9 := HQ.out.1
      change AnP ((t0 == t1) && numT t0) 122 t0 w = Q at e9
      rw [HB.out.1, HB.out.2] at e9
      have E9 := hid (And.intro e9 trivial)
      clear e9
      go_wp2_with (first
        | (go_at_call 246; refine (C246.out _).mono ?_; rintro e w9 ⟨rfl, hw⟩; replace hw := hw.symm; subst hw; clear C246)
        | (go_at_call 245; refine (C245.out _ _).mono ?_; rintro e w9 ⟨h9, hw⟩; replace hw := hw.symm; subst hw; clear C245; (try simp only [reduceIte, Bool.false_eq_true] at h9); subst h9))
      first
        | (rw [← E9.out.1]; exact ⟨rfl, rfl, GG.out⟩)
        | (rw [← E9.out.1]; exact ⟨rfl, GG.out⟩)
        | (go_ret; rw [← E9.out.1]; exact ⟨rfl, GG.out⟩)
  by_cases e2 : s = ⟨#[45]⟩
  · subst e2
    cases al <;> cases nb
    all_goals
      have e9 := HQ.out.1
      change AnP ((t0 == t1) && numT t0) 122 t0 w = Q at e9
      rw [HB.out.1, HB.out.2] at e9
      have E9 := hid (And.intro e9 trivial)
      clear e9
      go_wp2_with (first
        | (go_at_call 246; refine (C246.out _).mono ?_; rintro e w9 ⟨rfl, hw⟩; replace hw := hw.symm; subst hw; clear C246)
        | (go_at_call 245; refine (C245.out _ _).mono ?_; rintro e w9 ⟨h9, hw⟩; replace hw := hw.symm; subst hw; clear C245; (try simp only [reduceIte, Bool.false_eq_true] at h9); subst h9))
      first
        | (rw [← E9.out.1]; exact ⟨rfl, rfl, GG.out⟩)
        | (rw [← E9.out.1]; exact ⟨rfl, GG.out⟩)
        | (go_ret; rw [← E9.out.1]; exact ⟨rfl, GG.out⟩)
  by_cases e3 : s = ⟨#[42]⟩
  · subst e3
    cases al <;> cases nb
    all_goals
      have e9 := HQ.out.1
      change AnP ((t0 == t1) && numT t0) 122 t0 w = Q at e9
      rw [HB.out.1, HB.out.2] at e9
      have E9 := hid (And.intro e9 trivial)
      clear e9
      go_wp2_with (first
        | (go_at_call 246; refine (C246.out _).mono ?_; rintro e w9 ⟨rfl, hw⟩; replace hw := hw.symm; subst hw; clear C246)
        | (go_at_call 245; refine (C245.out _ _).mono ?_; rintro e w9 ⟨h9, hw⟩; replace hw := hw.symm; subst hw; clear C245; (try simp only [reduceIte, Bool.false_eq_true] at h9); subst h9))
      first
        | (rw [← E9.out.1]; exact ⟨rfl, rfl, GG.out⟩)
        | (rw [← E9.out.1]; exact ⟨rfl, GG.out⟩)
        | (go_ret; rw [← E9.out.1]; exact ⟨rfl, GG.out⟩)
  by_cases e4 : s = ⟨#[47]⟩
  · subst e4
    cases al <;> cases nb
    all_goals
      have e9 := HQ.out.1
      change AnP ((t0 == t1) && numT t0) 122 t0 w = Q at e9
      rw [HB.out.1, HB.out.2] at e9
      have E9 := hid (And.intro e9 trivial)
      clear e9
      go_wp2_with (first
        | (go_at_call 246; refine (C246.out _).mono ?_; rintro e w9 ⟨rfl, hw⟩; replace hw := hw.symm; subst hw; clear C246)
        | (go_at_call 245; refine (C245.out _ _).mono ?_; rintro e w9 ⟨h9, hw⟩; replace hw := hw.symm; subst hw; clear C245; (try simp only [reduceIte, Bool.false_eq_true] at h9); subst h9))
      first
        | (rw [← E9.out.1]; exact ⟨rfl, rfl, GG.out⟩)
        | (rw [← E9.out.1]; exact ⟨rfl, GG.out⟩)
        | (go_ret; rw [← E9.out.1]; exact ⟨rfl, GG.out⟩)
  by_cases e5 : s = ⟨#[37]⟩
  · subst e5
    cases al <;> cases hb : (t0 == 1)
    all_goals
      have e9 := HQ.out.1
      change AnP ((t0 == t1) && (t0 == 1)) 122 t0 w = Q at e9
      rw [HB.out.1, hb] at e9
      have E9 := hid (And.intro e9 trivial)
      clear e9
      go_wp2_with (first
        | (go_at_call 245; refine (C245.out _ _).mono ?_; rintro e w9 ⟨h9, hw⟩; replace hw := hw.symm; subst hw; clear C245; (try simp only [reduceIte, Bool.false_eq_true] at h9); subst h9))
      first
        | (rw [← E9.out.1]; exact ⟨rfl, rfl, GG.out⟩)
        | (rw [← E9.out.1]; exact ⟨rfl, GG.out⟩)
        | (go_ret; rw [← E9.out.1]; exact ⟨rfl, GG.out⟩)
  by_cases e6 : s = ⟨#[60]⟩
  · subst e6
    cases al <;> cases nb
    all_goals
      have e9 := HQ.out.1
      change AnP ((t0 == t1) && numT t0) 122 3 w = Q at e9
      rw [HB.out.1, HB.out.2] at e9
      have E9 := hid (And.intro e9 trivial)
      clear e9
      go_wp2_with (first
        | (go_at_call 246; refine (C246.out _).mono ?_; rintro e w9 ⟨rfl, hw⟩; replace hw := hw.symm; subst hw; clear C246)
        | (go_at_call 245; refine (C245.out _ _).mono ?_; rintro e w9 ⟨h9, hw⟩; replace hw := hw.symm; subst hw; clear C245; (try simp only [reduceIte, Bool.false_eq_true] at h9); subst h9))
      first
        | (rw [← E9.out.1]; exact ⟨rfl, rfl, GG.out⟩)
        | (rw [← E9.out.1]; exact ⟨rfl, GG.out⟩)
        | (go_ret; rw [← E9.out.1]; exact ⟨rfl, GG.out⟩)
  by_cases e7 : s = ⟨#[60, 61]⟩
  · subst e7
    cases al <;> cases nb
    all_goals
      have e9 := HQ.out.1
      change AnP ((t0 == t1) && numT t0) 122 3 w = Q at e9
      rw [HB.out.1, HB.out.2] at e9
      have E9 := hid (And.intro e9 trivial)
      clear e9
      go_wp2_with (first
        | (go_at_call 246; refine (C246.out _).mono ?_; rintro e w9 ⟨rfl, hw⟩; replace hw := hw.symm; subst hw; clear C246)
        | (go_at_call 245; refine (C245.out _ _).mono ?_; rintro e w9 ⟨h9, hw⟩; replace hw := hw.symm; subst hw; clear C245; (try simp only [reduceIte, Bool.false_eq_true] at h9); subst h9))
      first
        | (rw [← E9.out.1]; exact ⟨rfl, rfl, GG.out⟩)
        | (rw [← E9.out.1]; exact ⟨rfl, GG.out⟩)
        | (go_ret; rw [← E9.out.1]; exact ⟨rfl, GG.out⟩)
  by_cases e8 : s = ⟨#[62]⟩
  · subst e8
    cases al <;> cases nb
    all_goals
      have e9 := HQ.out.1
      change AnP ((t0 == t1) && numT t0) 122 3 w = Q at e9
      rw [HB.out.1, HB.out.2] at e9
      have E9 := hid (And.intro e9 trivial)
      clear e9
      go_wp2_with (first
        | (go_at_call 246; refine (C246.out _).mono ?_; rintro e w9 ⟨rfl, hw⟩; replace hw := hw.symm; subst hw; clear C246)
        | (go_at_call 245; refine (C245.out _ _).mono ?_; rintro e w9 ⟨h9, hw⟩; replace hw := hw.symm; subst hw; clear C245; (try simp only [reduceIte, Bool.false_eq_true] at h9); subst h9))
      first
        | (rw [← E9.out.1]; exact ⟨rfl, rfl, GG.out⟩)
        | (rw [← E9.out.1]; exact ⟨rfl, GG.out⟩)
        | (go_ret; rw [← E9.out.1]; exact ⟨rfl, GG.out⟩)
  by_cases e9 : s = ⟨#[62, 61]⟩
  · subst e9
    cases al <;> cases nb
    all_goals
      have e9 := HQ.out.1
      change AnP ((t0 == t1) && numT t0) 122 3 w = Q at e9
      rw [HB.out.1, HB.out.2] at e9
      have E9 := hid (And.intro e9 trivial)
      clear e9
      go_wp2_with (first
        | (go_at_call 246; refine (C246.out _).mono ?_; rintro e w9 ⟨rfl, hw⟩; replace hw := hw.symm; subst hw; clear C246)
        | (go_at_call 245; refine (C245.out _ _).mono ?_; rintro e w9 ⟨h9, hw⟩; replace hw := hw.symm; subst hw; clear C245; (try simp only [reduceIte, Bool.false_eq_true] at h9); subst h9))
      first
        | (rw [← E9.out.1]; exact ⟨rfl, rfl, GG.out⟩)
        | (rw [← E9.out.1]; exact ⟨rfl, GG.out⟩)
        | (go_ret; rw [← E9.out.1]; exact ⟨rfl, GG.out⟩)
  by_cases e10 : s = ⟨#[61, 61]⟩
  · subst e10
    cases al
    all_goals
      have e9 := HQ.out.1
      change AnP (t0 == t1) 122 3 w = Q at e9
      rw [HB.out.1] at e9
      have E9 := hid (And.intro e9 trivial)
      clear e9
      go_wp2_with (first
        | (go_at_call 245; refine (C245.out _ _).mono ?_; rintro e w9 ⟨h9, hw⟩; replace hw := hw.symm; subst hw; clear C245; (try simp only [reduceIte, Bool.false_eq_true] at h9); subst h9))
      first
        | (rw [← E9.out.1]; exact ⟨rfl, rfl, GG.out⟩)
        | (rw [← E9.out.1]; exact ⟨rfl, GG.out⟩)
        | (go_ret; rw [← E9.out.1]; exact ⟨rfl, GG.out⟩)
  by_cases e11 : s = ⟨#[33, 61]⟩
  · subst e11
    cases al
    all_goals
      have e9 := HQ.out.1
      change AnP (t0 == t1) 122 3 w = Q at e9
      rw [HB.out.1] at e9
      have E9 := hid (And.intro e9 trivial)
      clear e9
      go_wp2_with (first
        | (go_at_call 245; refine (C245.out _ _).mono ?_; rintro e w9 ⟨h9, hw⟩; replace hw := hw.symm; subst hw; clear C245; (try simp only [reduceIte, Bool.false_eq_true] at h9); subst h9))
      first
        | (rw [← E9.out.1]; exact ⟨rfl, rfl, GG.out⟩)
        | (rw [← E9.out.1]; exact ⟨rfl, GG.out⟩)
        | (go_ret; rw [← E9.out.1]; exact ⟨rfl, GG.out⟩)
  by_cases e12 : s = ⟨#[38, 38]⟩
  · subst e12
    cases al <;> cases hb : (t0 == 3)
    all_goals
      have e9 := HQ.out.1
      change AnP ((t0 == t1) && (t0 == 3)) 122 3 w = Q at e9
      rw [HB.out.1, hb] at e9
      have E9 := hid (And.intro e9 trivial)
      clear e9
      go_wp2_with (first
        | (go_at_call 245; refine (C245.out _ _).mono ?_; rintro e w9 ⟨h9, hw⟩; replace hw := hw.symm; subst hw; clear C245; (try simp only [reduceIte, Bool.false_eq_true] at h9); subst h9))
      first
        | (rw [← E9.out.1]; exact ⟨rfl, rfl, GG.out⟩)
        | (rw [← E9.out.1]; exact ⟨rfl, GG.out⟩)
        | (go_ret; rw [← E9.out.1]; exact ⟨rfl, GG.out⟩)
  by_cases e13 : s = ⟨#[124, 124]⟩
  · subst e13
    cases al <;> cases hb : (t0 == 3)
    all_goals
      have e9 := HQ.out.1
      change AnP ((t0 == t1) && (t0 == 3)) 122 3 w = Q at e9
      rw [HB.out.1, hb] at e9
      have E9 := hid (And.intro e9 trivial)
      clear e9
      go_wp2_with (first
        | (go_at_call 245; refine (C245.out _ _).mono ?_; rintro e w9 ⟨h9, hw⟩; replace hw := hw.symm; subst hw; clear C245; (try simp only [reduceIte, Bool.false_eq_true] at h9); subst h9))
      first
        | (rw [← E9.out.1]; exact ⟨rfl, rfl, GG.out⟩)
        | (rw [← E9.out.1]; exact ⟨rfl, GG.out⟩)
        | (go_ret; rw [← E9.out.1]; exact ⟨rfl, GG.out⟩)
  have f1 : (s.toList == [43]) = false := by rw [beq_eq_false_iff_ne]; intro h; exact e1 ((Lw.bytes_ext (by rw [← ByteArray.toList_eq, h])))
  have f2 : (s.toList == [45]) = false := by rw [beq_eq_false_iff_ne]; intro h; exact e2 ((Lw.bytes_ext (by rw [← ByteArray.toList_eq, h])))
  have f3 : (s.toList == [42]) = false := by rw [beq_eq_false_iff_ne]; intro h; exact e3 ((Lw.bytes_ext (by rw [← ByteArray.toList_eq, h])))
  have f4 : (s.toList == [47]) = false := by rw [beq_eq_false_iff_ne]; intro h; exact e4 ((Lw.bytes_ext (by rw [← ByteArray.toList_eq, h])))
  have f5 : (s.toList == [37]) = false := by rw [beq_eq_false_iff_ne]; intro h; exact e5 ((Lw.bytes_ext (by rw [← ByteArray.toList_eq, h])))
  have f6 : (s.toList == [60]) = false := by rw [beq_eq_false_iff_ne]; intro h; exact e6 ((Lw.bytes_ext (by rw [← ByteArray.toList_eq, h])))
  have f7 : (s.toList == [60, 61]) = false := by rw [beq_eq_false_iff_ne]; intro h; exact e7 ((Lw.bytes_ext (by rw [← ByteArray.toList_eq, h])))
  have f8 : (s.toList == [62]) = false := by rw [beq_eq_false_iff_ne]; intro h; exact e8 ((Lw.bytes_ext (by rw [← ByteArray.toList_eq, h])))
  have f9 : (s.toList == [62, 61]) = false := by rw [beq_eq_false_iff_ne]; intro h; exact e9 ((Lw.bytes_ext (by rw [← ByteArray.toList_eq, h])))
  have f10 : (s.toList == [61, 61]) = false := by rw [beq_eq_false_iff_ne]; intro h; exact e10 ((Lw.bytes_ext (by rw [← ByteArray.toList_eq, h])))
  have f11 : (s.toList == [33, 61]) = false := by rw [beq_eq_false_iff_ne]; intro h; exact e11 ((Lw.bytes_ext (by rw [← ByteArray.toList_eq, h])))
  have f12 : (s.toList == [38, 38]) = false := by rw [beq_eq_false_iff_ne]; intro h; exact e12 ((Lw.bytes_ext (by rw [← ByteArray.toList_eq, h])))
  have f13 : (s.toList == [124, 124]) = false := by rw [beq_eq_false_iff_ne]; intro h; exact e13 ((Lw.bytes_ext (by rw [← ByteArray.toList_eq, h])))
  have e0 : sgK s.data.toList = 0 := by
    rw [← ByteArray.toList_eq]
    unfold sgK
    rw [f1, f2, f3, f4, f5, f6, f7, f8, f9, f10, f11, f12, f13]
    rfl
  have q9 := HQ.out.1
  rw [e0] at q9
  have E9 := hid (And.intro q9 trivial)
  clear q9 e0 e1 e2 e3 e4 e5 e6 e7 e8 e9 e10 e11 e12 e13
  go_wp2_with (go_at_call 97; refine (C97.out _).mono ?_; rintro e w9 ⟨rfl, hw⟩; replace hw := hw.symm; subst hw; clear C97)
  first
    | (rw [← E9.out.1]; exact ⟨rfl, rfl, GG.out⟩)
    | (rw [← E9.out.1]; exact ⟨rfl, GG.out⟩)
end Ck
end Go.Proofs.YtajoncmmdeahnaaGreatDoor
