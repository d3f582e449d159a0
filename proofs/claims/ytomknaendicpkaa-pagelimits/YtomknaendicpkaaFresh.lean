/-
  An append of a text to a row of one's own: the new row lies in the old one's block, or in a new one. So two rows that grow in turn stay apart.
-/
import Derived.Test.YtomknaendicpkaaTake
namespace Go.Proofs.Ytomknaendicpkaa
open Go.RowKit
theorem run_str_fresh {w : World} (ty : TypeId) (base : Nat) (l : List ByteArray) (t : ByteArray) (v : Value) (ad : Addr) (c : Nat) (hrow : w.ownsRow base 9 1 v l.length (strs l)) (hcell : w.cell? ad = some (.string t)) (hk : l.length < 100000) (hbase : base ≤ w.heap.size) :
    ∃ v' w', (Builtin.append_ #[22, 22] ty #[v, .slice (some ad) 1 c]).run Try.prog w = .ok v' w' ∧ w'.ownsRow base 9 1 v' (l ++ [t]).length (strs (l ++ [t])) ∧ w.grownBy w' v.ownBlock ∧ ∀ g, v'.ownBlock = some g → v.ownBlock = some g ∨ w.heap.size ≤ g := by
  obtain ⟨i3, hi3, hz0, hz1, hz2⟩ := info_parts info9
  have hnews : ∀ j u, [Value.string t][j]? = some u → w.cell? (ad.add j) = some u := by
    intro j u hj
    match j, hj with
    | 0, hj =>
      rw [List.getElem?_cons_zero] at hj
      rw [← hj]
      exact hcell
  have h1 : ∀ u ∈ [Value.string t], u.oneCell' = true := by
    intro u hu; rw [List.mem_singleton] at hu; subst hu; rfl
  have e : strs l ++ [Value.string t] = strs (l ++ [t]) := by unfold strs; rw [List.map_append]; rfl
  have el : (l ++ [t]).length = l.length + 1 := by simp
  have hx : l.length + 1 ≤ maxLen := by unfold maxLen; omega
  obtain ⟨v', w', hrun, ho, hg, _⟩ := run_append_own (P := Try.prog) w base 22 ty 9 i3 _ 1 16 Try.underlying22 hi3 hz0 hz1 hz2 rfl (by decide) v l.length (strs l) hrow ad 1 c [.string t] rfl hnews h1 hx (by omega) hbase
  rw [e] at ho
  rw [el]
  refine ⟨v', w', hrun, ho, hg, fun g hgb => ?_⟩
  have hrow' := hrow
  rcases hrow.2 with ⟨rfl, h0⟩ | ⟨g0, cap, cur, rfl, hb0, hh, hcap, hmx, hsz, htk⟩
  · right
    have hr0 : w.ownsRow w.heap.size 9 1 (.slice none 0 0) l.length (strs l) := ⟨hrow.1, Or.inl ⟨rfl, h0⟩⟩
    obtain ⟨v2, w2, hrun2, ho2, _, _⟩ := run_append_own (P := Try.prog) w w.heap.size 22 ty 9 i3 _ 1 16 Try.underlying22 hi3 hz0 hz1 hz2 rfl (by decide) _ l.length (strs l) hr0 ad 1 c [.string t] rfl hnews h1 hx (by omega) (Nat.le_refl _)
    rw [hrun2] at hrun
    injection hrun with e1 e2
    subst e1
    exact (ho2.lt g hgb).1
  · by_cases hroom : l.length + 1 ≤ cap
    · left
      have hr := run_append_room (P := Try.prog) w 22 ty 9 i3 Try.underlying22 hi3 g0 l.length cap cur hh ad 1 c [.string t] (by rw [hz1]; rfl) hnews h1 hroom (by rw [hz1]; simp at hsz ⊢; omega)
      rw [hr] at hrun
      injection hrun with e1 e2
      rw [← e1] at hgb
      exact hgb
    · right
      have hr := run_append_grow (P := Try.prog) w 22 ty 9 i3 _ Try.underlying22 hi3 hz0 ⟨g0, 0, none⟩ l.length cap (strs l) (by rw [hz1]; exact hrow.1) (hrow'.cells (g := g0) rfl) ad 1 c [.string t] (by rw [hz1]; rfl) hnews (by omega) (by omega) (by rw [hz2]; exact growslice_fits (by omega) (by omega))
      rw [hr] at hrun
      injection hrun with e1 e2
      rw [← e1] at hgb
      have : some w.heap.size = some g := hgb
      have := Option.some.inj this
      omega
theorem append_fresh {ops : Array Oper} {rest : List Oper} {o : Oper} {a : Act} {w : World} {Q : Exit → Act → World → Prop} (base : Nat) (l : List ByteArray) (t : ByteArray) (v : Value) (ad : Addr) (c : Nat) (hrow : w.ownsRow base 9 1 v l.length (strs l)) (hcell : w.cell? ad = some (.string t)) (hk : l.length < 100000) (hbase : base ≤ w.heap.size) (s x : Operand)
    (hgd : o.guard = none) (ho : o.op = .call { callee := .builtin .append, args := #[s, x], argTypes := #[22, 22] }) (hs : a.eval s = v) (hx : a.eval x = .slice (some ad) 1 c)
    (h : ∀ v' w', w'.ownsRow base 9 1 v' (l ++ [t]).length (strs (l ++ [t])) → w.grownBy w' v.ownBlock → (∀ g, v'.ownBlock = some g → v.ownBlock = some g ∨ w.heap.size ≤ g) → wpList Try.prog ops Q rest (a.put o.dst v') w') : wpList Try.prog ops Q (o :: rest) a w := by
  refine wpList_plain hgd fun K hK => ?_
  obtain ⟨v', w', hrun, h1, h2, h3⟩ := run_str_fresh o.type base l t v ad c hrow hcell hk hbase
  unfold Oper.wp
  simp [execOp, ho, resolve, invoke, builtin, hs, hx, hrun, Result.andThen]
  exact hK _ _ (h v' w' h1 h2 h3)
end Go.Proofs.Ytomknaendicpkaa
