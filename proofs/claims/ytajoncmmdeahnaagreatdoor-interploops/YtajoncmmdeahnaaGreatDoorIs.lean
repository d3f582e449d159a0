/-
  The interpreter: the end of a test, with its deferred call.
-/
import Derived.Test.YtajoncmmdeahnaaGreatDoorKIr
import Derived.Defers
import Derived.Recover
namespace Go.Proofs.YtajoncmmdeahnaaGreatDoor
open Go.RowKit
namespace Ip
set_option maxRecDepth 100000 in
set_option maxHeartbeats 1000000 in
theorem end_idle (p0 : Addr) (w : World) :
    CallsD Tryz.prog 60 #[.pointer (some p0)] .returning w fun e u' w' => e = .returned (.tuple #[]) ∧ u' = .returning ∧ w' = w := by
  have hn : ∀ W : World, (binOp BinOp.eql 20 .nilIface .nilIface).run Tryz.prog W = .ok (.bool true) W := fun W => by kernel_rfl
  refine callsD_of_wpS Tryz.func60 rfl fun c₀ cs hu => ?_
  apply wpS_seq
  apply wpS_region
  simp [wpOpsS, go_sem, recoverD, hu, Tryz.ntmps60, Exit.thenS]
  apply wpS_seq
  apply wpS_seq
  apply wpS_region
  simp [wpOpsS, go_sem, hn, Exit.thenS]
  refine wpS_cond (t := true) (by simp [Act.eval]) ?_
  simp only [if_true]
  refine wpS_of_wp (wp_ret ?_)
  simp [Exit.thenS]
  cases c₀
  simp_all [bodyPostS, results, Tryz.results60]
theorem bodyS_norm {P : Program} {fn : Func} {c₀ : Frame} {cs : List Frame} {R : Ending → FrameMode → World → Prop} {a : Act} {u : FrameMode} {w : World} {v : Value} (hd : a.defers = []) (hr : (results fn a.tmps).run P w = .ok v w) (h : R (.returned v) u w) : bodyPostS P fn c₀ cs R .normal a ({ c₀ with mode := u } :: cs) w := ⟨hd, u, rfl, v, hr, h⟩
theorem results_60 (tmps : Array Value) (w : World) : (results Tryz.f60 tmps).run Tryz.prog w = .ok (.tuple #[]) w := by
  simp [results, Tryz.results60, go_sem]
set_option maxRecDepth 100000 in
set_option maxHeartbeats 4000000 in
theorem end_thrown (b : Nat) (y : Int) (n : Nat) (w : World) (h0 : Blk w b 3 #[.int .i64 y]) :
    CallsD Tryz.prog 60 #[.pointer (some ⟨b, 0, none⟩)] (.panicking (TrV n)) w fun e u' w' => e = .returned (.tuple #[]) ∧ u' = .panicking [{ v := .iface 126 (.agg #[.int .i64 n]), recovered := true }] ∧ w.grownBy w' (some b) ∧ Blk w' b 3 #[.int .i64 n] := by
  have hn : ∀ (W : World) v, (binOp BinOp.eql 20 (.iface 126 v) .nilIface).run Tryz.prog W = .ok (.bool false) W := fun W v => by kernel_rfl
  refine callsD_of_wpS Tryz.func60 rfl fun c₀ cs hu => ?_
  apply wpS_seq
  apply wpS_region
  simp [wpOpsS, go_sem, recoverD, hu, TrV, Tryz.ntmps60, Exit.thenS]
  apply wpS_seq
  apply wpS_seq
  apply wpS_region
  simp [wpOpsS, go_sem, hn, Exit.thenS]
  refine wpS_cond (t := false) (by simp [Act.eval]) ?_
  simp only [Bool.false_eq_true, if_false]
  refine wpS_of_wp (wp_skip ?_)
  simp [Exit.thenS]
  refine wpS_of_wp ?_
  generalize ht : (_ ++ _ : Array Value) = T
  have hT : T = #[(Value.pointer (some ⟨b, 0, none⟩)), (Value.iface 126 (Value.agg #[Value.int IntKind.i64 ↑n])), undef, undef, (Value.iface 126 (Value.agg #[Value.int IntKind.i64 ↑n])), (Value.iface 126 (Value.agg #[Value.int IntKind.i64 ↑n])), (Value.bool false), undef, undef, undef, undef, undef, undef, undef, undef, undef, undef] := by rw [← ht]; rfl
  subst hT
  clear ht hn
  have ha : ∀ (W : World) v, (Instr.typeAssert (.iface 126 v) 20 126 true).run Tryz.prog W = .ok (.tuple #[v, .bool true]) W := fun W v => by kernel_rfl
  have HU := hid hu
  clear hu
  have A0 := hid (h0.alloc (Obj.cells #[Value.int IntKind.i64 ↑n] 126))
  have GW := hid (grown_alloc (grown_refl w (some b)) (Obj.cells #[Value.int IntKind.i64 ↑n] 126))
  have n4 : b ≠ w.heap.size := Nat.ne_of_lt h0.lt
  have S0 := Blk.new w 126 #[Value.int IntKind.i64 ↑n]
  have a0 := A0.out.cell 0
  have a7 := S0.cell 0
  simp at a0 a7
  have z0 := A0.out.frozen 0
  have gA := hid (grown_set GW.out 0 (.int .i64 n))
  have kA := hid (A0.out.set 0 (.int .i64 n))
  clear h0 S0
  go_wp2
  all_goals exact bodyS_norm rfl (results_60 _ _) ⟨rfl, rfl, gA.out, by have := kA.out; simpa using this⟩
structure FrE (X : Xm) (w w' : World) : Prop where
  os : w'.os = w.os
  tape : w'.tape = w.tape
  output : w'.output = w.output
  size : w.heap.size ≤ w'.heap.size
  block : ∀ i, i < w.heap.size → i ≠ X.m → i ≠ X.mg → i ≠ X.mv → w'.heap[i]? = w.heap[i]?
theorem FrE.of {X : Xm} {c nm : Nat} {w wa w1 : World} (g : w.grownBy wa none) (h : FrM X c nm wa w1) (hc : w.heap.size ≤ c) (hn : w.heap.size ≤ nm) : FrE X w w1 :=
  ⟨h.os.trans g.os, h.tape.trans g.tape, h.output.trans g.output, Nat.le_trans g.size h.size, fun i hi h1 h2 h3 => (h.block i (Nat.lt_of_lt_of_le hi g.size) h1 h2 h3 (by omega) (by omega)).trans (g.block i hi (by simp))⟩
theorem FrE.new {X : Xm} {w w1 w2 : World} {r : Nat} (h : FrE X w w1) (hg : w1.grownBy w2 (some r)) (hr : w.heap.size ≤ r) : FrE X w w2 :=
  ⟨hg.os.trans h.os, hg.tape.trans h.tape, hg.output.trans h.output, Nat.le_trans h.size hg.size, fun i hi h1 h2 h3 => (hg.block i (Nat.lt_of_lt_of_le hi h.size) (fun e => by injection e with e; omega)).trans (h.block i hi h1 h2 h3)⟩
def EnP (X : Xm) (E : Env) (w : World) (x : Re Bool) (e : Ending) (w' : World) : Prop := match x with
  | .ok (_, q) => e = .returned (.int .i64 1) ∧ MaR w' X E q ∧ FrE X w w'
  | .error (some (n, q)) => e = .returned (.int .i64 n) ∧ MaR w' X E q ∧ FrE X w w'
  | .error none => True
def start (g : Vm) : Ms := ⟨fun _ => none, g, (0, 0), 0, fun _ _ => none, 0⟩
set_option maxRecDepth 100000 in
set_option maxHeartbeats 4000000 in
theorem end_any {X : Xm} {E : Env} {R : Rc} (hB : MeC X E 61 bU R.bl) (test : ByteArray) (w : World) (g : Vm) (hM : MaR w X E (start g)) {ps : List ByteArray} {b : Pd} (hs : test.size ≤ maxLen) (hb : E.bod test = some (ps, b)) (hx : R.bl 0 b (start g) ≠ .error none) :
    Calls Tryz.prog 33 #[.pointer (some ⟨X.m, 0, none⟩), .string test] w (EnP X E w (R.bl 0 b (start g))) := by
  have G1 := grown_alloc (grown_refl w none) (.cells #[.int .i64 0] 3)
  have G2 := grown_alloc G1 (.map #[] 0)
  have G3 := grown_alloc G2 (.cells #[.pointer (some ⟨X.m, 0, none⟩), .int .i64 0, .map (some (w.heap.size + 1)), .int .i64 0, .int .i64 0] 129)
  have MW := hid (hM.kept G3)
  have X3 : Hid (Blk (((w.alloc (.cells #[.int .i64 0] 3)).alloc (.map #[] 0)).alloc (.cells #[.pointer (some ⟨X.m, 0, none⟩), .int .i64 0, .map (some (w.heap.size + 1)), .int .i64 0, .int .i64 0] 129)) w.heap.size 3 #[.int .i64 0]) := hid (((Blk.new w 3 #[.int .i64 0]).alloc _).alloc _)
  have C3 : Hid (Blk (((w.alloc (.cells #[.int .i64 0] 3)).alloc (.map #[] 0)).alloc (.cells #[.pointer (some ⟨X.m, 0, none⟩), .int .i64 0, .map (some (w.heap.size + 1)), .int .i64 0, .int .i64 0] 129)) (w.heap.size + 2) 129 #[.pointer (some ⟨X.m, 0, none⟩), .int .i64 0, .map (some (w.heap.size + 1)), .int .i64 0, .int .i64 0]) := hid (by simpa using Blk.new ((w.alloc (.cells #[.int .i64 0] 3)).alloc (.map #[] 0)) 129 #[.pointer (some ⟨X.m, 0, none⟩), .int .i64 0, .map (some (w.heap.size + 1)), .int .i64 0, .int .i64 0])
  have N3 : Mp.MapR (((w.alloc (.cells #[.int .i64 0] 3)).alloc (.map #[] 0)).alloc (.cells #[.pointer (some ⟨X.m, 0, none⟩), .int .i64 0, .map (some (w.heap.size + 1)), .int .i64 0, .int .i64 0] 129)) (w.heap.size + 1) 0 (fun _ => none) := by simpa using (Mp.MapR.made (w.alloc (.cells #[.int .i64 0] 3))).kept (grown_alloc (grown_refl _ none) _) (by simp)
  have hhi := hM.hi
  have IN : Hid (CaA _ X E 0 (w.heap.size + 2) (w.heap.size + 1) (start g)) := hid ⟨MW.out, ⟨C3.out, (N3.congr (fun _ => rfl)).more (Nat.zero_le _), by omega, by omega, by omega⟩⟩
  have HB := hid hB
  have HX := hid hx
  have y0 := MW.out.blk.cell 0
  simp at y0
  have m0 := (hM.kept G1).blk.cell 0
  simp at m0
  obtain ⟨bn, bf, hbm, hbf⟩ := MW.out.bod
  have hbx := hbf test
  rw [hb] at hbx
  obtain ⟨pa, pcap, qb, e1, e2, e3, e4, e5⟩ := hbx
  have L1 := hbm.look1 Tryz.underlying77 (zero123 _) test hs
  rw [e1] at L1
  simp only [Option.getD_some] at L1
  unfold bodyV at L1
  obtain ⟨pb, cb, rfl, _, _, _⟩ := e5.form
  have KB := hid e5
  have FD : ∀ W : World, (Instr.field 123 (.agg #[.slice pa ps.length pcap, .int .i64 b.kind, .int .i64 b.ty, .string b.txt, .int .i64 b.num, .slice none 0 0, .string b.nm, .int .i64 b.pl, .slice pb b.kids.length cb]) 1).run Tryz.prog W = .ok (.agg #[.int .i64 b.kind, .int .i64 b.ty, .string b.txt, .int .i64 b.num, .slice none 0 0, .string b.nm, .int .i64 b.pl, .slice pb b.kids.length cb]) W := fun W => by kernel_rfl
  have MK : ∀ W : World, (Instr.makeMap 78 none).run Tryz.prog W = .ok (.map (some W.heap.size)) (W.alloc (.map #[] 0)) := fun W => by kernel_rfl
  have hmf : ∀ (fn : Go.Fn) (first cap : Array Value) (w : World), (Instr.makeFunc fn first cap).run Tryz.prog w = .ok (.func fn first cap) w := fun _ _ _ _ => rfl
  have GG := hid G3
  have HH := hid hhi
  have HP : Hid (X.m < w.heap.size ∧ X.mg < w.heap.size ∧ X.mv < w.heap.size) := hid ⟨hM.lts.1, hM.lts.2.2.1, hM.lts.2.2.2⟩
  rcases hz : R.bl 0 b (start g) with e0 | ⟨y, s'⟩
  · rcases e0 with _ | ⟨m, s'⟩
    · exact absurd hz hx
    have HZ := hid hz
    clear hz hx hM hB G1 G2 G3 N3 hhi hbm hbf e1 e2 e3 e4 e5 hs hb
    go_enter_defers Tryz.func33, Tryz.ntmps33
    go_wp2_with (go_at_call 61; refine (HB.out 0 b (.slice pb b.kids.length cb) (w.heap.size + 2) (w.heap.size + 1) _ (start g) IN.out KB.out HX.out).mono ?_; intro e w2 hh; rw [HZ.out] at hh; obtain ⟨rfl, hM2, hF⟩ := hh; have F2 := hid hF; have M2 := hid hM2; have X2 : Hid (Blk w2 w.heap.size 3 #[.int .i64 0]) := hid ((F2.out.block _ X3.out.lt (by have := HP.out; omega) (by have := HP.out; omega) (by have := HP.out; omega) (by omega) (by omega)).trans X3.out); clear hM2 hF)
    refine leaves_cons (f := 60) (args := #[.pointer (some ⟨w.heap.size, 0, none⟩)]) (by simp) (by simp [go_sem]) ?_
    refine (end_thrown w.heap.size _ m _ X2.out).mono ?_
    rintro e u' w6 ⟨rfl, rfl, g6, k0⟩
    have c0 := k0.cell 0
    simp at c0
    refine ⟨.int .i64 m, ?_, rfl, M2.out.keptR g6 HH.out, (FrE.of GG.out F2.out (by omega) (by omega)).new g6 (Nat.le_refl _)⟩
    simp [results, Tryz.results33, go_sem, c0]
  · have HZ := hid hz
    clear hz hx hM hB G1 G2 G3 N3 hhi hbm hbf e1 e2 e3 e4 e5 hs hb
    go_enter_defers Tryz.func33, Tryz.ntmps33
    go_wp2_with (go_at_call 61; refine (HB.out 0 b (.slice pb b.kids.length cb) (w.heap.size + 2) (w.heap.size + 1) _ (start g) IN.out KB.out HX.out).mono ?_; intro e w2 hh; rw [HZ.out] at hh; obtain ⟨rfl, hA2, hF⟩ := hh; have F2 := hid hF; have M2 := hid hA2.ma; have X2 : Hid (Blk w2 w.heap.size 3 #[.int .i64 0]) := hid ((F2.out.block _ X3.out.lt (by have := HP.out; omega) (by have := HP.out; omega) (by have := HP.out; omega) (by omega) (by omega)).trans X3.out); clear hA2 hF; have x0 := X2.out.cell 0; have z0 := X2.out.frozen 0; simp at x0; unfold bU)
    have gA := grown_set (grown_refl w2 (some w.heap.size)) 0 (.int .i64 1)
    have X4 := X2.out.set 0 (.int .i64 1)
    simp at X4
    refine leaves_cons (f := 60) (args := #[.pointer (some ⟨w.heap.size, 0, none⟩)]) (by simp) (by simp [go_sem]) ?_
    refine (end_idle _ _).mono ?_
    rintro e u' w9 ⟨rfl, rfl, rfl⟩
    have c0 := X4.cell 0
    simp at c0
    refine ⟨.int .i64 1, ?_, rfl, M2.out.keptR gA HH.out, (FrE.of GG.out F2.out (by omega) (by omega)).new gA (Nat.le_refl _)⟩
    simp [results, Tryz.results33, go_sem, c0]
end Ip
end Go.Proofs.YtajoncmmdeahnaaGreatDoor
