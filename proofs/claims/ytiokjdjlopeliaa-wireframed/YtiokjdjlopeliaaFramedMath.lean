/-
  Frames one behind the other: their places, and that each stands where it was put. Nothing of the program is named here but what Frame answers.
-/
import Derived.Test.YtiokjdjlopeliaaUnBoth
import Derived.OwnWalk
namespace Go.Proofs.Ytiokjdjlopeliaa
open Go.RowKit
/-- The first k frames, one behind the other. -/
def allS (F : Nat → ByteArray) : Nat → ByteArray
  | 0 => ⟨#[]⟩
  | k + 1 => allS F k ++ frmS (F k)
theorem allS_succ (F : Nat → ByteArray) (k : Nat) : allS F (k + 1) = allS F k ++ frmS (F k) := rfl
theorem allS_size (F : Nat → ByteArray) (k : Nat) : (allS F (k + 1)).size = (allS F k).size + ((F k).size + 8) := by
  rw [allS_succ, ByteArray.size_append, frmS_size]
theorem allS_le (F : Nat → ByteArray) (hF : ∀ j, (F j).size ≤ 600) : ∀ k, (allS F k).size ≤ k * 608
  | 0 => by show (⟨#[]⟩ : ByteArray).size ≤ 0; decide
  | k + 1 => by
    have h1 := allS_le F hF k
    have h2 := hF k
    rw [allS_size]
    omega
theorem app_assoc (a b c : ByteArray) : a ++ b ++ c = a ++ (b ++ c) := by
  apply bytes_ext
  rw [append_list, append_list, append_list, append_list, List.append_assoc]
theorem app_nil (a : ByteArray) : a ++ (⟨#[]⟩ : ByteArray) = a := by
  apply bytes_ext
  rw [append_list]
  show a.data.toList ++ [] = _
  rw [List.append_nil]
theorem allS_cut (F : Nat → ByteArray) (j : Nat) : ∀ m, j < m → ∃ Q, allS F m = allS F j ++ (frmS (F j) ++ Q)
  | 0, h => absurd h (Nat.not_lt_zero _)
  | m + 1, h => by
    by_cases e : j = m
    · subst e
      exact ⟨⟨#[]⟩, by rw [app_nil]; rfl⟩
    · obtain ⟨Q, hQ⟩ := allS_cut F j m (by omega)
      exact ⟨Q ++ frmS (F m), by rw [allS_succ, hQ, app_assoc, app_assoc]⟩
/-- The places at which the first k frames begin. -/
def ends (F : Nat → ByteArray) (k : Nat) : List Value := (List.range k).map fun j => Value.int .i64 (((allS F j).size : Nat) : Int)
theorem ends_len (F : Nat → ByteArray) (k : Nat) : (ends F k).length = k := by simp [ends]
theorem ends_at (F : Nat → ByteArray) (k j : Nat) (h : j < k) : (ends F k)[j]? = some (.int .i64 (((allS F j).size : Nat) : Int)) := by simp [ends, h]
theorem ends_step (F : Nat → ByteArray) (k : Nat) : ends F k ++ [.int .i64 (((allS F k).size : Nat) : Int)] = ends F (k + 1) := by
  unfold ends
  rw [List.range_succ, List.map_append]
  rfl
theorem owns_form {w : World} {base n : Nat} {v : Value} {xs : List Value} (h0 : 0 < n) (h : w.ownsRow base 3 1 v n xs) : ∃ g cap, v = .slice (some ⟨g, 0, none⟩) n cap ∧ base ≤ g ∧ g < w.heap.size ∧ ∀ j, j < n → w.cell? ⟨g, j, none⟩ = xs[j]? := by
  have h' := h
  rcases h'.2 with ⟨_, e⟩ | ⟨g, cap, cur, rfl, hb, hh, _⟩
  · omega
  · refine ⟨g, cap, rfl, hb, ?_, fun j hj => ?_⟩
    · by_cases hlt : g < w.heap.size
      · exact hlt
      · rw [Array.getElem?_eq_none (by omega)] at hh; cases hh
    · exact h.cellAt j (by omega)
theorem info3 : (Try.prog.info? 3).map (fun i => (i.zero, i.size, i.bytes)) = some (some (.int .i64 0), 1, 8) := by kernel_rfl
theorem append_end {ops : Array Oper} {rest : List Oper} {o : Oper} {a : Act} {w : World} {Q : Exit → Act → World → Prop} (base : Nat) (F : Nat → ByteArray) (v : Value) (k : Nat) (ad : Addr) (c : Nat) (hrow : w.ownsRow base 3 1 v (k + 1) (ends F (k + 1))) (hcell : w.cell? ad = some (.int .i64 (((allS F (k + 1)).size : Nat) : Int))) (hk : k < 100) (hbase : base ≤ w.heap.size) (s x : Operand)
    (hgd : o.guard = none) (ho : o.op = .call { callee := .builtin .append, args := #[s, x], argTypes := #[38, 38] }) (hs : a.eval s = v) (hx : a.eval x = .slice (some ad) 1 c)
    (h : ∀ v' w', w'.ownsRow base 3 1 v' (k + 2) (ends F (k + 2)) → w.grownBy w' v.ownBlock → wpList Try.prog ops Q rest (a.put o.dst v') w') : wpList Try.prog ops Q (o :: rest) a w := by
  obtain ⟨i3, hi3, hz0, hz1, hz2⟩ := info_parts info3
  have hnews : ∀ j u, [Value.int .i64 (((allS F (k + 1)).size : Nat) : Int)][j]? = some u → w.cell? (ad.add j) = some u := by
    intro j u hj
    match j, hj with
    | 0, hj =>
      rw [List.getElem?_cons_zero] at hj
      rw [← hj]
      exact hcell
  have h1 : ∀ u ∈ [Value.int .i64 (((allS F (k + 1)).size : Nat) : Int)], u.oneCell' = true := by
    intro u hu; rw [List.mem_singleton] at hu; subst hu; rfl
  refine wpList_append_own w hgd s x 38 ho base 3 i3 _ 1 8 Try.underlying38 hi3 hz0 hz1 hz2 rfl (by decide) v (k + 1) (ends F (k + 1)) hs hrow ad 1 c [.int .i64 (((allS F (k + 1)).size : Nat) : Int)] hx rfl hnews h1 (by unfold maxLen; omega) (by omega) hbase ?_
  intro v' w' hown' hg _
  rw [ends_step] at hown'
  exact h v' w' hown' hg
theorem grown_ob {a b c : World} {ob : Option Nat} (h : a.grownBy b none) (g : b.grownBy c ob) (hk : ∀ x, ob = some x → a.heap.size ≤ x) : a.grownBy c none :=
  ⟨g.os.trans h.os, g.tape.trans h.tape, g.output.trans h.output, Nat.le_trans h.size g.size, fun i hi _ => (g.block i (Nat.lt_of_lt_of_le hi h.size) (fun e => by have := hk i e.symm; omega)).trans (h.block i hi (by simp))⟩
theorem new_int (w : World) (F : Nat → ByteArray) (k : Nat) : (w.alloc (.cells #[.int .i64 (((allS F k).size : Int) + ((frmS (F k)).size : Int))] 3)).cell? ⟨w.heap.size, 0, none⟩ = some (.int .i64 (((allS F (k + 1)).size : Nat) : Int)) := by
  rw [(Blk.new w 3 _).cell, allS_succ, ByteArray.size_append, Int.natCast_add]
  rfl
end Go.Proofs.Ytiokjdjlopeliaa
