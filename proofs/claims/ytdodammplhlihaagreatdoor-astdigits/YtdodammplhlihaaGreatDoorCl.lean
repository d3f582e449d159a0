/-
  Clone: a tree of its own.
-/
import Derived.Test.YtdodammplhlihaaGreatDoorCl0
namespace Go.Proofs.YtdodammplhlihaaGreatDoor.Tr
open Go.RowKit
/-- A slice of one's own nodes: all of it, and all below, lies from base on. -/
def KsO (w : World) (base : Nat) (q : Value) (ks : List Nd) : Prop := KsV w (fun b => base ≤ b) q ks ∧ ∀ g, q.ownBlock = some g → ∃ cs, Blk w g 33 cs ∧ cs.size = 5 * ks.length ∧ RowN w (fun b => g + 1 ≤ b) g 0 ks
def CloneP (w : World) (x : Nd) (e : Ending) (w' : World) : Prop := ∃ q, e = .returned (.agg #[.int .i64 x.kind, .int .i64 x.ty, .string x.txt, .int .i64 x.num, q]) ∧ KsO w' w.heap.size q x.kids ∧ w.grownBy w' none
def CloI (w : World) (k t : Int) (s : ByteArray) (n : Int) (q : Value) (ks : List Nd) (i : Nat) (wr : World) : Prop :=
  w.grownBy wr none ∧ Blk wr w.heap.size 33 #[.int .i64 k, .int .i64 t, .string s, .int .i64 n, q] ∧ Blk wr (w.heap.size + 1) 33 #[.int .i64 0, .int .i64 0, .string ⟨#[]⟩, .int .i64 0, .slice none 0 0]
    ∧ ∃ cs, Blk wr (w.heap.size + 2) 33 cs ∧ cs.size = 5 * ks.length ∧ RowN wr (fun b => w.heap.size + 2 + 1 ≤ b) (w.heap.size + 2) 0 (ks.take i)
end Go.Proofs.YtdodammplhlihaaGreatDoor.Tr
