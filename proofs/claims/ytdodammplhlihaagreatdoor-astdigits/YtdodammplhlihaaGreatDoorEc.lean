/-
  Encode: a tree's bytes.
-/
import Derived.Test.YtdodammplhlihaaGreatDoorPu
import Derived.Test.YtdodammplhlihaaGreatDoorBy
namespace Go.Proofs.YtdodammplhlihaaGreatDoor.Tr
open Go.RowKit
set_option maxRecDepth 100000 in
set_option maxHeartbeats 1000000 in
theorem encode_any (P : Nat → Prop) (x : Nd) (hok : x.ok) (hN : x.cnt ≤ 5000) (v : Value) (w : World) (hv : NdV w P v x) : Calls Tryz.prog 23 #[v] w (StrP w (mkS x.enc)) := by
  obtain ⟨q, rfl, hk⟩ := hv
  obtain ⟨p, cap, eq, _⟩ := hk.form
  have HK := hid hk
  clear hk
  subst eq
  have CP : Hid (∀ W, w.grownBy W none → Wr W (w.heap.size + 1) [] → Calls Tryz.prog 41 #[.pointer (some ⟨w.heap.size + 1, 0, none⟩), .agg #[.int .i64 x.kind, .int .i64 x.ty, .string x.txt, .int .i64 x.num, .slice p x.kids.length cap]] W fun e w' => e = .returned (.tuple #[]) ∧ Wr w' (w.heap.size + 1) x.enc ∧ Below (w.heap.size + 1) W w') := fun W hW hR =>
    put_any x hok hN _ (w.heap.size + 1) [] W (Nat.zero_le _) hR ⟨_, rfl, HK.out.keptP (Kp.of_none P hW) (fun b _ hb => by omega)⟩
  have CA : Hid (∀ W, Wr W (w.heap.size + 1) x.enc → Calls Tryz.prog 42 #[.pointer (some ⟨w.heap.size + 1, 0, none⟩)] W fun e w' => e = .returned (.string (mkS x.enc)) ∧ w' = W) := fun W hW => wall_any (w.heap.size + 1) x.enc W hW
  have BA := hid (Blk.new w 33 #[.int .i64 x.kind, .int .i64 x.ty, .string x.txt, .int .i64 x.num, .slice p x.kids.length cap])
  clear HK
  go_enter Tryz.func23, Tryz.ntmps23
  go_wp2_with (first
    | (go_at_call 40; refine (newWriter_any _).mono ?_; rintro e w1 ⟨rfl, hw1, hg1⟩; have G1 := hid (grown_none (grown_alloc (grown_refl w none) _) hg1); rw [World.size_alloc] at hw1; have W1 := hid hw1; have B1 := hid (BA.out.kept hg1 (by simp)); have z0 : w1.cell? ⟨w.heap.size, 0, none⟩ = some (.int .i64 x.kind) := B1.out.cell 0; have z1 : w1.cell? ⟨w.heap.size, 1, none⟩ = some (.int .i64 x.ty) := B1.out.cell 1; have z2 : w1.cell? ⟨w.heap.size, 2, none⟩ = some (.string x.txt) := B1.out.cell 2; have z3 : w1.cell? ⟨w.heap.size, 3, none⟩ = some (.int .i64 x.num) := B1.out.cell 3; have z4 : w1.cell? ⟨w.heap.size, 4, none⟩ = some (.slice p x.kids.length cap) := B1.out.cell 4; clear hw1 hg1)
    | (go_at_call 41; refine (CP.out _ G1.out W1.out).mono ?_; clear CP; rintro e w2 ⟨rfl, hw2, hb2⟩; have W2 := hid hw2; have G2 := hid (below_grown G1.out hb2 (by omega)); clear hw2 hb2)
    | (go_at_call 42; refine (CA.out _ W2.out).mono ?_; clear CA; rintro e w3 ⟨rfl, hw3⟩; replace hw3 := hw3.symm; subst hw3))
  go_ret
  exact ⟨rfl, G2.out⟩
end Go.Proofs.YtdodammplhlihaaGreatDoor.Tr
