/-
  spots, as an iterator that is ranged over; Count.
-/
import Derived.Test.YtdodammplhlihaaGreatDoorVi
namespace Go.Proofs.YtdodammplhlihaaGreatDoor.Tr
open Go.RowKit Go.Maps Go.Shelf
attribute [local go_sem] Oper.semAt_some
set_option maxRecDepth 100000 in
theorem spots_mk (a : Addr) (w : World) : Calls Tryz.prog 46 #[.pointer (some a)] w fun e w' =>
    e = .returned (.func (.func 64) #[] #[.pointer (some ⟨w.heap.size, 0, none⟩)]) ∧ w' = w.alloc (.cells #[.pointer (some a)] 82) := by
  go_enter Tryz.func46, Tryz.ntmps46
  go_wp2
  go_ret
  exact ⟨rfl, rfl⟩
set_option maxRecDepth 100000 in
set_option maxHeartbeats 1000000 in
theorem spots_in (l Bc g : Nat) (P : Nat → Prop) (w : World) (x : Nd) (hok : x.ok) (hN : (spN w g 0 x).length ≤ 100000) (hBc : P Bc) (hg : P g) (hc : w.cell? ⟨Bc, 0, none⟩ = some (.pointer (some ⟨g, 0, none⟩))) (hat : NdAt w P g 0 x)
    (J Jx : List (Fin (spN w g 0 x).length) → World → Prop)
    (hY : ∀ pre (i : Fin (spN w g 0 x).length) W, J pre W → pre.length < (spN w g 0 x).length → YieldAt Fence.wide (4 - 1) Tryz.prog l #[.int .i64 i.val, .pointer (some ⟨((spN w g 0 x)[i.val]).g, ((spN w g 0 x)[i.val]).o, none⟩)] W fun e W' => (e = .returned (.bool true) ∧ J (pre ++ [i]) W' ∧ KQ P W W') ∨ (e = .returned (.bool false) ∧ Jx (pre ++ [i]) W'))
    (W : World) (hW : KQ P w W) (h0 : J [] W) :
    CallsIn Fence.wide 4 Tryz.prog 64 #[.func (.yield l) #[] #[], .pointer (some ⟨Bc, 0, none⟩)] W fun e W' => (∃ v, e = .returned v) ∧ ((∃ ys, ys = List.finRange (spN w g 0 x).length ∧ J ys W') ∨ (∃ pre, True ∧ Jx pre W')) := by
  have hv := visit_any l P w (spN w g 0 x) hN J Jx (fun m pre i W hj hl => YieldAt.anyD m (hY pre i W hj hl)) x hok 0 g 0 hat hg (fun i hi => by rw [Nat.zero_add]) (by rw [spN_len, Nat.zero_add]; exact Nat.le_refl _) (4 - 1) W hW h0
  have HV := hid hv
  have c0 : W.cell? ⟨Bc, 0, none⟩ = some (.pointer (some ⟨g, 0, none⟩)) := (World.cell?_of_block (hW Bc hBc)).trans hc
  have EN := hid (spN_len w g 0 x)
  clear hv hY hW h0 hat hc
  generalize (spN w g 0 x).length = n at *
  have hdd : ∀ k : Nat, (Fence.wide.depth.isSome = true → 1 ≤ k) := fun k h => by cases h
  refine callsIn_of_wp Tryz.func64 rfl trivial ?_ rfl
  simp only [Tryz.ntmps64, List.size_toArray, List.length_cons, List.length_nil, Nat.reduceAdd, Nat.reduceSub, Array.replicate_succ, Array.replicate_zero, List.push_toArray, List.append_toArray, List.nil_append, List.cons_append]
  gi_wp2_with (first | (refine ⟨trivial, hdd _, ?_⟩; gi_at_call 65; refine HV.out.mono ?_; clear HV; rintro e W1 (⟨rfl, hJ1, _⟩ | ⟨rfl, q, hx⟩)) | (refine ⟨trivial, ?_⟩; gi_at_call 65; refine HV.out.mono ?_; clear HV; rintro e W1 (⟨rfl, hJ1, _⟩ | ⟨rfl, q, hx⟩)))
  · go_end0
    exact ⟨⟨_, rfl⟩, .inl ⟨_, rfl, by rw [Nat.zero_add, ← EN.out, fr_all] at hJ1; exact hJ1⟩⟩
  · go_end0
    exact ⟨⟨_, rfl⟩, .inr ⟨q, trivial, hx⟩⟩
/-- All nodes of a tree, as an iterator. -/
theorem spots_stops (Bc g : Nat) (P : Nat → Prop) (w : World) (x : Nd) (hok : x.ok) (hN : (spN w g 0 x).length ≤ 100000) (hP : ∀ b, P b → b < w.heap.size) (hBc : P Bc) (hg : P g) (hc : w.cell? ⟨Bc, 0, none⟩ = some (.pointer (some ⟨g, 0, none⟩))) (hat : NdAt w P g 0 x) :
    SeqStopsK Fence.wide 4 Tryz.prog 64 #[.pointer (some ⟨Bc, 0, none⟩)] (fun i : Fin (spN w g 0 x).length => #[Value.int .i64 i.val, .pointer (some ⟨((spN w g 0 x)[i.val]).g, ((spN w g 0 x)[i.val]).o, none⟩)]) (KQ P) (fun xs => xs = List.finRange (spN w g 0 x).length) (fun _ => True) (spN w g 0 x).length w := fun l J Jx W hW _ _ hY h0 =>
  spots_in l Bc g P w x hok hN hBc hg hc hat J Jx hY W (fun b hb => hW.block b (hP b hb)) h0
end Go.Proofs.YtdodammplhlihaaGreatDoor.Tr
