/-
  parse.Program's deferred call: where nothing was thrown, and where a failure was.
-/
import Derived.Test.YtajoncmmdeahnaaGreatDoorKQd
import Derived.Defers
import Derived.Recover
namespace Go.Proofs.YtajoncmmdeahnaaGreatDoor
open Go.RowKit
namespace Pm
set_option maxRecDepth 100000 in
set_option maxHeartbeats 1000000 in
theorem catch_idle (p0 p1 p2 : Addr) (w : World) :
    CallsD Tryz.prog 20 #[.pointer (some p0), .pointer (some p1), .pointer (some p2)] .returning w fun e u' w' => e = .returned (.tuple #[]) ∧ u' = .returning ∧ w' = w := by
  have hn : ∀ W : World, (binOp BinOp.eql 20 .nilIface .nilIface).run Tryz.prog W = .ok (.bool true) W := fun W => by kernel_rfl
  refine callsD_of_wpS Tryz.func20 rfl fun c₀ cs hu => ?_
  apply wpS_seq
  apply wpS_region
  simp [wpOpsS, go_sem, recoverD, hu, Tryz.ntmps20, Exit.thenS]
  apply wpS_seq
  apply wpS_seq
  apply wpS_region
  simp [wpOpsS, go_sem, hn, Exit.thenS]
  refine wpS_cond (t := true) (by simp [Act.eval]) ?_
  simp only [if_true]
  refine wpS_of_wp (wp_ret ?_)
  simp [Exit.thenS]
  cases c₀
  simp_all [bodyPostS, results, Tryz.results20]
theorem bodyS_normal {P : Program} {fn : Func} {c₀ : Frame} {cs : List Frame} {R : Ending → FrameMode → World → Prop} {a : Act} {u : FrameMode} {w : World} {v : Value} (hd : a.defers = []) (hr : (results fn a.tmps).run P w = .ok v w) (h : R (.returned v) u w) : bodyPostS P fn c₀ cs R .normal a ({ c₀ with mode := u } :: cs) w := ⟨hd, u, rfl, v, hr, h⟩
theorem results_20 (tmps : Array Value) (w : World) : (results Tryz.f20 tmps).run Tryz.prog w = .ok (.tuple #[]) w := by
  simp [results, Tryz.results20, go_sem]
theorem catch_world {W V : World} {b0 b1 b2 : Nat} {x0 x1 x2 x3 x4 : Value} {y1 y2 : Int} (at_ n : Nat) (h0 : Blk V b0 27 #[x0, x1, x2, x3, x4]) (h1 : Blk V b1 3 #[.int .i64 y1]) (h2 : Blk V b2 28 #[.int .i64 y2]) (l0 : W.heap.size ≤ b0) (l1 : b0 < b1) (l2 : b1 < b2) (hW : W.grownBy V none) :
    let V' := ((set5 V b0 0 (.int .i64 0) (.int .i64 0) (.string ⟨#[]⟩) (.int .i64 0) (.slice none 0 0)).setCell ⟨b1, 0, none⟩ (.int .i64 at_)).setCell ⟨b2, 0, none⟩ (.int .i64 n)
    W.grownBy V'.drew none ∧ Blk V'.drew b0 27 #[.int .i64 0, .int .i64 0, .string ⟨#[]⟩, .int .i64 0, .slice none 0 0] ∧ Blk V'.drew b1 3 #[.int .i64 at_] ∧ Blk V'.drew b2 28 #[.int .i64 n] := by
  have n01 : b1 ≠ b0 := by omega
  have n02 : b2 ≠ b0 := by omega
  have n12 : b1 ≠ b2 := by omega
  have g5 := grown_set5 (grown_refl V (some b0)) 0 (.int .i64 0) (.int .i64 0) (.string ⟨#[]⟩) (.int .i64 0) (.slice none 0 0)
  have k0 := h0.set5 0 (.int .i64 0) (.int .i64 0) (.string ⟨#[]⟩) (.int .i64 0) (.slice none 0 0)
  have k1 := h1.kept g5 (fun e => n01 (Option.some.inj e))
  have k2 := h2.kept g5 (fun e => n02 (Option.some.inj e))
  refine ⟨grown_drew (grown_set_new (grown_set_new (grown_set5_new hW _ _ _ _ _ _ l0) _ (by show _ ≤ b1; omega)) _ (by show _ ≤ b2; omega)), ?_, ?_, ?_⟩
  · exact ((k0.other (a := ⟨b1, 0, none⟩) _ (Ne.symm n01)).other (a := ⟨b2, 0, none⟩) _ (Ne.symm n02)).drew
  · exact ((k1.set 0 _).other (a := ⟨b2, 0, none⟩) _ n12).drew
  · exact ((k2.other (a := ⟨b1, 0, none⟩) _ (Ne.symm n12)).set 0 _).drew
set_option maxRecDepth 100000 in
set_option maxHeartbeats 4000000 in
theorem catch_thrown (b0 b1 b2 : Nat) (x0 x1 x2 x3 x4 : Value) (y1 y2 : Int) (at_ n : Nat) (W w : World) (h0 : Blk w b0 27 #[x0, x1, x2, x3, x4]) (h1 : Blk w b1 3 #[.int .i64 y1]) (h2 : Blk w b2 28 #[.int .i64 y2]) (l0 : W.heap.size ≤ b0) (l1 : b0 < b1) (l2 : b1 < b2) (hW : W.grownBy w none) :
    CallsD Tryz.prog 20 #[.pointer (some ⟨b0, 0, none⟩), .pointer (some ⟨b1, 0, none⟩), .pointer (some ⟨b2, 0, none⟩)] (.panicking (FlV at_ n)) w fun e u' w' => e = .returned (.tuple #[]) ∧ u' = .panicking [{ v := .iface 52 (.agg #[.int .i64 at_, .int .i64 n]), recovered := true }] ∧ W.grownBy w' none ∧ Blk w' b0 27 #[.int .i64 0, .int .i64 0, .string ⟨#[]⟩, .int .i64 0, .slice none 0 0] ∧ Blk w' b1 3 #[.int .i64 at_] ∧ Blk w' b2 28 #[.int .i64 n] := by
  have hn : ∀ (W : World) v, (binOp BinOp.eql 20 (.iface 52 v) .nilIface).run Tryz.prog W = .ok (.bool false) W := fun W v => by kernel_rfl
  refine callsD_of_wpS Tryz.func20 rfl fun c₀ cs hu => ?_
  apply wpS_seq
  apply wpS_region
  simp [wpOpsS, go_sem, recoverD, hu, FlV, Tryz.ntmps20, Exit.thenS]
  apply wpS_seq
  apply wpS_seq
  apply wpS_region
  simp [wpOpsS, go_sem, hn, Exit.thenS]
  refine wpS_cond (t := false) (by simp [Act.eval]) ?_
  simp only [Bool.false_eq_true, if_false]
  refine wpS_of_wp (wp_skip ?_)
  simp [Exit.thenS]
  refine wpS_of_wp ?_
  generalize ht : (_ ++ _ : Array Value) = T
  have hT : T = #[(Value.pointer (some ⟨b0, 0, none⟩)), (Value.pointer (some ⟨b1, 0, none⟩)), (Value.pointer (some ⟨b2, 0, none⟩)), (Value.iface 52 (Value.agg #[Value.int IntKind.i64 ↑at_, Value.int IntKind.i64 ↑n])), undef, undef, (Value.iface 52 (Value.agg #[Value.int IntKind.i64 ↑at_, Value.int IntKind.i64 ↑n])), (Value.iface 52 (Value.agg #[Value.int IntKind.i64 ↑at_, Value.int IntKind.i64 ↑n])), (Value.bool false), undef, undef, undef, undef, undef, undef, undef, undef, undef, undef, undef, undef, undef] := by rw [← ht]; rfl
  subst hT
  clear ht hn
  have ha : ∀ (W : World) v, (Instr.typeAssert (.iface 52 v) 20 52 true).run Tryz.prog W = .ok (.tuple #[v, .bool true]) W := fun W v => by kernel_rfl
  have HU := hid hu
  clear hu
  have A0 := hid (h0.alloc (Obj.cells #[Value.int IntKind.i64 ↑at_, Value.int IntKind.i64 ↑n] 52))
  have A1 := hid (h1.alloc (Obj.cells #[Value.int IntKind.i64 ↑at_, Value.int IntKind.i64 ↑n] 52))
  have A2 := hid (h2.alloc (Obj.cells #[Value.int IntKind.i64 ↑at_, Value.int IntKind.i64 ↑n] 52))
  have GW := hid (grown_alloc hW (Obj.cells #[Value.int IntKind.i64 ↑at_, Value.int IntKind.i64 ↑n] 52))
  have L := hid (And.intro l0 (And.intro l1 l2))
  have H2 := hid h2.lt
  clear h0 h1 h2 hW l0 l1 l2
  go_wp2
  have S0 := hid (Blk.new w 52 #[Value.int IntKind.i64 ↑at_, Value.int IntKind.i64 ↑n])
  have LS : Hid (b2 < w.heap.size) := hid (by have := A2.out; have := L.out; exact H2.out)
  generalize hV : w.alloc (Obj.cells #[Value.int IntKind.i64 ↑at_, Value.int IntKind.i64 ↑n] 52) = V at *
  generalize w.heap.size = s at *
  clear hV
  have a0 := A0.out.cell 0
  have a1 := A0.out.cell 1
  have a2 := A0.out.cell 2
  have a3 := A0.out.cell 3
  have a4 := A0.out.cell 4
  have a5 := A1.out.cell 0
  have a6 := A2.out.cell 0
  have a7 := S0.out.cell 0
  have a8 := S0.out.cell 1
  simp at a0 a1 a2 a3 a4 a5 a6 a7 a8
  have z0 := A0.out.frozen 0
  have z1 := A1.out.frozen 0
  have z2 := A2.out.frozen 0
  have z3 := A0.out.frozen 1
  have z4 := A0.out.frozen 2
  have z5 := A0.out.frozen 3
  have z6 := A0.out.frozen 4
  have n1 : b0 ≠ b1 := by have := L.out; omega
  have n2 : b0 ≠ b2 := by have := L.out; omega
  have n3 : b1 ≠ b2 := by have := L.out; omega
  have n4 : b0 ≠ s := by have := L.out; have := LS.out; omega
  have n5 : b1 ≠ s := by have := L.out; have := LS.out; omega
  have n6 : b2 ≠ s := by have := LS.out; omega
  have F := hid (catch_world at_ n A0.out A1.out A2.out L.out.1 L.out.2.1 L.out.2.2 GW.out)
  go_region_law (fail)
  all_goals exact bodyS_normal rfl (results_20 _ _) ⟨rfl, rfl, F.out⟩
end Pm
end Go.Proofs.YtajoncmmdeahnaaGreatDoor
