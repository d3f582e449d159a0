/-
  Maps whose keys are sites (a name and a number), with numbers as values: what one holds as a function; looked up, stored into. The interpreter in memory: a machine, a call that is under way, what a call of a method may turn and what it leaves.
-/
import Derived.Test.YtajoncmmdeahnaaGreatDoorMa
import Derived.Test.YtajoncmmdeahnaaGreatDoorKPm
import Derived.DeepKeys3
namespace Go.Proofs.YtajoncmmdeahnaaGreatDoor
open Go.RowKit Go.Maps
namespace Ip
def siteV (s : ByteArray) (n : Int) : Value := .agg #[.string s, .int .i64 n]
theorem law118 : Keyed Tryz.prog 118 := Keyed.of_law (deep_law (m := 3) (by decide) (by kernel_rfl) (by kernel_rfl) (by rw [Tryz.underlying118]))
structure Fits (s : ByteArray) (n : Int) : Prop where
  s1 : s.size ≤ maxLen
  n0 : -9223372036854775808 ≤ n
  n1 : n ≤ 9223372036854775807
theorem wf_i64 {n : Int} (h0 : -9223372036854775808 ≤ n) (h1 : n ≤ 9223372036854775807) : (Lit.int .i64 n).wf = true := by
  unfold Lit.wf
  rw [Bool.and_eq_true]
  exact ⟨decide_eq_true h0, decide_eq_true h1⟩
def keyS (s : ByteArray) (n : Int) : Lit := .string (keyBytes [.string s.data.toList, .int .i64 n])
theorem key_site {s : ByteArray} {n : Int} (h : Fits s n) : keyOf Tryz.prog 118 (siteV s n) = some (keyS s n) := by
  have h1 : Tryz.prog.keyType 118 = true := by kernel_rfl
  have h2 : (Value.agg #[.string s, .int .i64 n]).formed Tryz.prog 118 = true := by
    unfold Value.formed
    rw [Tryz.underlying118]
    kernel_rfl
  have h3 : Tryz.prog.types.size + 1 = 335 + 1 + 1 := by kernel_rfl
  have c118 : Tryz.prog.cellsOf 118 = 2 := by kernel_rfl
  have c9 : Tryz.prog.cellsOf 9 = 1 := by kernel_rfl
  have c3 : Tryz.prog.cellsOf 3 = 1 := by kernel_rfl
  unfold keyOf siteV
  rw [Tryz.underlying118]
  simp only [h1, h2, Bool.and_self, if_true]
  have e9 : Tryz.prog.keyLits (335 + 1) 9 [.string s] = some [.string s.data.toList] := by
    unfold Program.keyLits
    simp only [Tryz.underlying9, h.s1, if_true]
  have e3 : Tryz.prog.keyLits (335 + 1) 3 [.int .i64 n] = some [.int .i64 n] := by
    unfold Program.keyLits
    simp only [Tryz.underlying3, wf_i64 h.n0 h.n1, and_self, if_true]
  rw [h3]
  unfold Program.keyLits
  simp only [Tryz.underlying118, Value.cells]
  rw [c118, if_pos ⟨rfl, by simp⟩]
  simp only [List.mapM_cons, List.mapM_nil, c9, c3]
  simp [e9, e3, keyS]
theorem key_of {s : ByteArray} {n : Int} {x : ByteArray} {m : Int} (h : Fits s n) (hx : Fits x m) (e : keyS x m = keyS s n) : x = s ∧ m = n := by
  have h1 := key_site hx
  rw [e] at h1
  have h2 := law118.inj h1 (key_site h)
  unfold siteV at h2
  injection h2 with h2
  injection h2 with h2
  injection h2 with h2 h3
  injection h2 with h2
  injection h3 with h3
  injection h3 with _ h3
  exact ⟨h2, h3⟩
def SmR (w : World) (b n : Nat) (f : Sm) : Prop := ∃ D : DataW Value, w.ownsMap Tryz.prog 118 Mp.rawR b n D ∧ (∀ s i, Fits s i → has D (keyS s i) = (f s i).isSome) ∧ ∀ s i z, Fits s i → D.atKey (keyS s i) (.held z) = .held (((f s i).map (Value.int .i64)).getD z)
theorem SmR.made (w : World) : SmR (w.alloc (.map #[] 0)) w.heap.size 0 (fun _ _ => none) := ⟨.map [], World.ownsMap_made w Tryz.prog 118 Mp.rawR, fun _ _ _ => rfl, fun _ _ _ _ => rfl⟩
theorem SmR.lt {w : World} {b n : Nat} {f : Sm} (h : SmR w b n f) : b < w.heap.size := by
  obtain ⟨D, h1, _⟩ := h
  exact h1.lt
theorem SmR.kept {w w' : World} {b n : Nat} {f : Sm} {row : Option Nat} (h : SmR w b n f) (hg : w.grownBy w' row) (hn : some b ≠ row) : SmR w' b n f := by
  obtain ⟨D, h1, h2⟩ := h
  exact ⟨D, h1.kept hg hn, h2⟩
theorem SmR.heap {w w' : World} {b n : Nat} {f : Sm} (h : SmR w b n f) (hg : w'.heap[b]? = w.heap[b]?) : SmR w' b n f := by
  obtain ⟨D, ⟨es, clock, h0, h1⟩, h2⟩ := h
  exact ⟨D, ⟨es, clock, hg.trans h0, h1⟩, h2⟩
theorem SmR.isMap {w : World} {b n : Nat} {f : Sm} (h : SmR w b n f) : ∃ es clock, w.heap[b]? = some (.map es clock) := by
  obtain ⟨D, ⟨es, clock, h0, _⟩, _⟩ := h
  exact ⟨es, clock, h0⟩
theorem SmR.ne {w : World} {b n : Nat} {f : Sm} (h : SmR w b n f) {g : Nat} {t : TypeId} {cs : Array Value} (hg : Blk w g t cs) : g ≠ b := by
  obtain ⟨es, clock, hm⟩ := h.isMap
  rintro rfl
  have h' : w.heap[g]? = some (.cells cs t (0, 0)) := hg
  rw [hm] at h'
  cases h'
theorem same_self (s : ByteArray) : same s s = true := by
  unfold same
  rw [beq_iff_eq]
theorem same_eq {x s : ByteArray} (h : same x s = true) : x = s := (Mp.same_iff x s).1 h
section
variable {w : World} {b n : Nat} {f : Sm}
theorem SmR.look (h : SmR w b n f) {s : ByteArray} {i : Int} (hs : Fits s i) : (Instr.lookup 79 (.map (some b)) (siteV s i) false).run Tryz.prog w = .ok (.int .i64 ((f s i).getD 0)) w := by
  obtain ⟨D, h1, h2, h3⟩ := h
  have hz : (zeroValue 3).run Tryz.prog w = .ok (.int .i64 0) w := by kernel_rfl
  obtain ⟨v, ps, hr, hv⟩ := h1.lookup law118 Tryz.underlying79 hz (zd := .held (.int .i64 0)) (zp := []) rfl (key_site hs)
  rw [h3 s i _ hs] at hv
  have hv1 : v = ((f s i).map (Value.int .i64)).getD (.int .i64 0) := by
    have h5 : (DataW.held v : DataW Value) = .held (((f s i).map (Value.int .i64)).getD (.int .i64 0)) := congrArg Prod.fst (Option.some.inj hv)
    injection h5
  rw [hr, hv1]
  cases f s i <;> rfl
theorem SmR.store (h : SmR w b n f) (hn : n < maxLen) {s : ByteArray} {i : Int} (hs : Fits s i) (v : Int) :
    ∃ w', (Instr.mapUpdate 79 (.map (some b)) (siteV s i) (.int .i64 v)).run Tryz.prog w = .ok () w' ∧ SmR w' b (n + 1) (updS f s i v) ∧ w.grownBy w' (some b) := by
  obtain ⟨D, h1, h2, h3⟩ := h
  obtain ⟨w', hr, h4, h5⟩ := h1.update law118 Tryz.underlying79 hn (key_site hs) (val := .int .i64 v) (d := .held (.int .i64 v)) (ps := []) rfl
  have kl : WideAt.IsKeyLit (keyS s i) := law118.key (key_site hs)
  refine ⟨w', hr, ⟨_, h4, fun x j hx => ?_, fun x j y hx => ?_⟩, h5⟩
  · unfold updS
    by_cases e : x = s ∧ j = i
    · obtain ⟨rfl, rfl⟩ := e
      rw [has_put_same h1.isMap kl, same_self, beq_self_eq_true]
      rfl
    · have hk : keyS x j ≠ keyS s i := fun q => e (key_of hs hx q)
      rw [has_put_other hk, h2 x j hx, if_neg]
      intro q
      rw [Bool.and_eq_true, beq_iff_eq] at q
      exact e ⟨same_eq q.1, q.2⟩
  · unfold updS
    by_cases e : x = s ∧ j = i
    · obtain ⟨rfl, rfl⟩ := e
      rw [atKey_put_same h1.isMap kl, same_self, beq_self_eq_true]
      rfl
    · have hk : keyS x j ≠ keyS s i := fun q => e (key_of hs hx q)
      rw [atKey_put_other hk, h3 x j _ hx, if_neg]
      intro q
      rw [Bool.and_eq_true, beq_iff_eq] at q
      exact e ⟨same_eq q.1, q.2⟩
end
end Ip
end Go.Proofs.YtajoncmmdeahnaaGreatDoor
namespace Go.Proofs.YtajoncmmdeahnaaGreatDoor
open Go.RowKit
namespace Ip
structure Xm where
  lo : Nat
  hi : Nat
  m : Nat
  mb : Nat
  mg : Nat
  mv : Nat
structure Xm.Ok (X : Xm) : Prop where
  m : X.m < X.lo
  b : X.mb < X.lo
  g : X.mg < X.lo
  v : X.mv < X.lo
  bg : X.mb ≠ X.mg
  bv : X.mb ≠ X.mv
  gv : X.mg ≠ X.mv
  lh : X.lo ≤ X.hi
def PX (X : Xm) : Nat → Prop := fun g => X.lo ≤ g ∧ g < X.hi
def vM (f : Vm) : ByteArray → Option Value := fun s => (f s).map vV
def ndV (x : Pd) (q : Value) : Value := .agg #[.int .i64 x.kind, .int .i64 x.ty, .string x.txt, .int .i64 x.num, .slice none 0 0, .string x.nm, .int .i64 x.pl, q]
def bodyV (pa : Option Addr) (n cap : Nat) (x : Pd) (q : Value) : Value := .agg #[.slice pa n cap, .int .i64 x.kind, .int .i64 x.ty, .string x.txt, .int .i64 x.num, .slice none 0 0, .string x.nm, .int .i64 x.pl, q]
def StrR (w : World) (X : Xm) (pa : Option Addr) (ps : List ByteArray) : Prop := ps = [] ∨ ∃ g cs, pa = some ⟨g, 0, none⟩ ∧ PX X g ∧ Blk w g 9 cs ∧ ∀ (i : Nat) (x : ByteArray), ps[i]? = some x → cs[i]? = some (Value.string x)
def BodR (w : World) (X : Xm) (F : ByteArray → Option (List ByteArray × Pd)) : Prop := ∃ n f, Mp.MapR w X.mb n f ∧ ∀ s, match F s with
  | none => f s = none
  | some (ps, b) => ∃ pa cap q, f s = some (bodyV pa ps.length cap b q) ∧ ps.length ≤ cap ∧ cap ≤ maxLen ∧ StrR w X pa ps ∧ KsP w (PX X) q b.kids
structure MaR (w : World) (X : Xm) (E : Env) (st : Ms) : Prop where
  ok : X.Ok
  hi : X.hi ≤ w.heap.size
  blk : Blk w X.m 81 #[.map (some X.mb), .map (some X.mg), .int .i64 E.fuel, .int .i64 st.steps, .map (some X.mv)]
  bod : BodR w X E.bod
  glo : Mp.MapR w X.mg (1000 + st.wr) (vM st.glo)
  vis : SmR w X.mv st.steps st.vis
  le : st.steps ≤ E.fuel
  fu : E.fuel ≤ 1000000
structure CaR (w : World) (X : Xm) (d c nm : Nat) (st : Ms) : Prop where
  blk : Blk w c 129 #[.pointer (some ⟨X.m, 0, none⟩), .int .i64 d, .map (some nm), .int .i64 st.ans.1, .int .i64 st.ans.2]
  nam : Mp.MapR w nm (1000 + st.wr) (vM st.nam)
  c : X.hi ≤ c
  nm : X.hi ≤ nm
  d : d ≤ 64
structure CaA (w : World) (X : Xm) (E : Env) (d c nm : Nat) (st : Ms) : Prop where
  ma : MaR w X E st
  ca : CaR w X d c nm st
structure FrM (X : Xm) (c nm : Nat) (w w' : World) : Prop where
  os : w'.os = w.os
  tape : w'.tape = w.tape
  output : w'.output = w.output
  size : w.heap.size ≤ w'.heap.size
  block : ∀ i, i < w.heap.size → i ≠ X.m → i ≠ X.mg → i ≠ X.mv → i ≠ c → i ≠ nm → w'.heap[i]? = w.heap[i]?
section
variable {X : Xm} {E : Env} {d c nm : Nat} {w w' : World} {st : Ms}
theorem FrM.of {row : Option Nat} (h : w.grownBy w' row) (hr : ∀ r, row = some r → r = X.m ∨ r = X.mg ∨ r = X.mv ∨ r = c ∨ r = nm) : FrM X c nm w w' :=
  ⟨h.os, h.tape, h.output, h.size, fun i hi h1 h2 h3 h4 h5 => h.block i hi (fun e => by
    rcases hr i e.symm with h | h | h | h | h
    · exact h1 h
    · exact h2 h
    · exact h3 h
    · exact h4 h
    · exact h5 h)⟩
theorem FrM.nil (h : w.grownBy w' none) : FrM X c nm w w' := FrM.of h (by simp)
theorem FrM.trans {a b e : World} (h : FrM X c nm a b) (k : FrM X c nm b e) : FrM X c nm a e :=
  ⟨k.os.trans h.os, k.tape.trans h.tape, k.output.trans h.output, Nat.le_trans h.size k.size, fun i hi h1 h2 h3 h4 h5 => (k.block i (Nat.lt_of_lt_of_le hi h.size) h1 h2 h3 h4 h5).trans (h.block i hi h1 h2 h3 h4 h5)⟩
theorem FrM.px (h : FrM X c nm w w') (hX : X.Ok) (hc : X.hi ≤ c) (hn : X.hi ≤ nm) : Kp w w' (PX X) := fun b hb hlt => by
  have h1 := hX.m
  have h2 := hX.g
  have h3 := hX.v
  obtain ⟨b1, b2⟩ := hb
  exact h.block b hlt (by omega) (by omega) (by omega) (by omega) (by omega)
theorem KsP.fr {q : Value} {ks : List Pd} (hk : KsP w (PX X) q ks) (h : Kp w w' (PX X)) : KsP w' (PX X) q ks := hk.keptP h (fun _ hb _ => hb)
theorem StrR.fr {pa : Option Addr} {ps : List ByteArray} (hk : StrR w X pa ps) (h : Kp w w' (PX X)) : StrR w' X pa ps := by
  rcases hk with hk | ⟨g, cs, h1, h2, h3, h4⟩
  · exact Or.inl hk
  · exact Or.inr ⟨g, cs, h1, h2, (h g h2 h3.lt).trans h3, h4⟩
theorem BodR.fr {F : ByteArray → Option (List ByteArray × Pd)} (hk : BodR w X F) (h : Kp w w' (PX X)) (hb : w'.heap[X.mb]? = w.heap[X.mb]?) : BodR w' X F := by
  obtain ⟨n, f, h1, h2⟩ := hk
  refine ⟨n, f, h1.heap hb, fun s => ?_⟩
  have h3 := h2 s
  cases hF : F s with
  | none => rw [hF] at h3; exact h3
  | some x =>
    obtain ⟨ps, b⟩ := x
    rw [hF] at h3
    obtain ⟨pa, cap, q, e1, e2, e3, e4, e5⟩ := h3
    exact ⟨pa, cap, q, e1, e2, e3, e4.fr h, KsP.fr e5 h⟩
theorem BodR.lt {F : ByteArray → Option (List ByteArray × Pd)} (hk : BodR w X F) : X.mb < w.heap.size := by
  obtain ⟨n, f, h1, h2⟩ := hk
  exact h1.lt
theorem MaR.lts (h : MaR w X E st) : X.m < w.heap.size ∧ X.mb < w.heap.size ∧ X.mg < w.heap.size ∧ X.mv < w.heap.size := ⟨h.blk.lt, h.bod.lt, h.glo.lt, h.vis.lt⟩
theorem MaR.nes (h : MaR w X E st) : X.m ≠ X.mb ∧ X.m ≠ X.mg ∧ X.m ≠ X.mv := by
  obtain ⟨n, f, h1, _⟩ := h.bod
  exact ⟨h1.ne h.blk, h.glo.ne h.blk, h.vis.ne h.blk⟩
theorem MaR.kept (h : MaR w X E st) (hg : w.grownBy w' none) : MaR w' X E st := by
  have hK : Kp w w' (PX X) := Kp.of_none _ hg
  exact ⟨h.ok, Nat.le_trans h.hi hg.size, h.blk.kept hg (by simp), h.bod.fr hK (hg.block _ h.bod.lt (by simp)), h.glo.kept hg (by simp), h.vis.kept hg (by simp), h.le, h.fu⟩
theorem MaR.keptR (h : MaR w X E st) {r : Nat} (hg : w.grownBy w' (some r)) (hr : X.hi ≤ r) : MaR w' X E st := by
  have l := h.ok.lh
  have l1 := h.ok.m
  have l2 := h.ok.b
  have l3 := h.ok.g
  have l4 := h.ok.v
  have hK : Kp w w' (PX X) := Kp.of_grown hg (fun b hb e => by have := Option.some.inj e; have := hb.2; omega)
  exact ⟨h.ok, Nat.le_trans h.hi hg.size, h.blk.kept hg (fun e => by have := Option.some.inj e; omega), h.bod.fr hK (hg.block _ h.bod.lt (fun e => by have := Option.some.inj e; omega)), h.glo.kept hg (fun e => by have := Option.some.inj e; omega), h.vis.kept hg (fun e => by have := Option.some.inj e; omega), h.le, h.fu⟩
theorem CaR.kept (h : CaR w X d c nm st) (hg : w.grownBy w' none) : CaR w' X d c nm st := ⟨h.blk.kept hg (by simp), h.nam.kept hg (by simp), h.c, h.nm, h.d⟩
theorem CaR.ne (h : CaR w X d c nm st) : c ≠ nm := h.nam.ne h.blk
theorem CaA.kept (h : CaA w X E d c nm st) (hg : w.grownBy w' none) : CaA w' X E d c nm st := ⟨h.ma.kept hg, h.ca.kept hg⟩
theorem CaA.px (h : CaA w X E d c nm st) (hF : FrM X c nm w w') : Kp w w' (PX X) := hF.px h.ma.ok h.ca.c h.ca.nm
end
def TrV (n : Nat) : List PanicEntry := [{ v := .iface 126 (.agg #[.int .i64 n]), recovered := false }]
def InP {α : Type} (U : α → Value) (X : Xm) (E : Env) (d c nm : Nat) (w : World) (x : Re α) (e : Ending) (w' : World) : Prop := match x with
  | .ok (a, st) => e = .returned (U a) ∧ CaA w' X E d c nm st ∧ FrM X c nm w w'
  | .error (some (n, st)) => e = .panicked (TrV n) ∧ MaR w' X E st ∧ FrM X c nm w w'
  | .error none => True
def uU (_ : Unit) : Value := .tuple #[]
def bU (b : Bool) : Value := .bool b
theorem InP.cases {α : Type} {U : α → Value} {X : Xm} {E : Env} {d c nm : Nat} {w w' : World} {x : Re α} {e : Ending} (h : InP U X E d c nm w x e w') (hx : x ≠ .error none) : (∃ n st, x = .error (some (n, st)) ∧ e = .panicked (TrV n) ∧ MaR w' X E st ∧ FrM X c nm w w') ∨ ∃ a st, x = .ok (a, st) ∧ e = .returned (U a) ∧ CaA w' X E d c nm st ∧ FrM X c nm w w' := by
  match x, h, hx with
  | .ok (a, st), ⟨h1, h2, h3⟩, _ => exact Or.inr ⟨a, st, rfl, h1, h2, h3⟩
  | .error (some (n, st)), ⟨h1, h2, h3⟩, _ => exact Or.inl ⟨n, st, rfl, h1, h2, h3⟩
  | .error none, _, hx => exact absurd rfl hx
theorem bnd_ok {α β : Type} {x : In α} {f : α → In β} {p q : Ms} {a : α} (h : x p = .ok (a, q)) : (x >>= f) p = f a q := by
  show In.bnd x f p = _
  unfold In.bnd
  rw [h]
theorem bnd_err {α β : Type} {x : In α} {f : α → In β} {p : Ms} {e : Option (Nat × Ms)} (h : x p = .error e) : (x >>= f) p = .error e := by
  show In.bnd x f p = _
  unfold In.bnd
  rw [h]
theorem bnd_ne {α β : Type} {x : In α} {f : α → In β} {p : Ms} (h : (x >>= f) p ≠ .error none) : x p ≠ .error none := fun e => h (bnd_err e)
def MeC {α : Type} (X : Xm) (E : Env) (f : Nat) (U : α → Value) (φ : Nat → Pd → In α) : Prop := ∀ (d : Nat) (x : Pd) (q : Value) (c nm : Nat) (w : World) (st : Ms), CaA w X E d c nm st → KsP w (PX X) q x.kids → φ d x st ≠ .error none →
  Calls Tryz.prog f #[.pointer (some ⟨c, 0, none⟩), ndV x q] w (InP U X E d c nm w (φ d x st))
end Ip
end Go.Proofs.YtajoncmmdeahnaaGreatDoor
