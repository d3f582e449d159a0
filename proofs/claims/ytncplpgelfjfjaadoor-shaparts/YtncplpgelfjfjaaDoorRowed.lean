/-
  A list of texts that the law itself gathers, text by text; and that parts for a purpose are told apart by their bytes.
-/
import Derived.Test.YtncplpgelfjfjaaDoorTagged
namespace Go.Proofs.YtncplpgelfjfjaaDoor
open Go.RowKit
theorem info9 : (Tryd.prog.info? 9).map (fun i => (i.zero, i.size, i.bytes)) = some (some (.string ⟨#[]⟩), 1, 16) := by kernel_rfl
def texts (F : Nat → ByteArray) (k : Nat) : List Value := (List.range k).map fun j => Value.string (F j)
theorem texts_len (F : Nat → ByteArray) (k : Nat) : (texts F k).length = k := by simp [texts]
theorem texts_at (F : Nat → ByteArray) (k j : Nat) (h : j < k) : (texts F k)[j]? = some (.string (F j)) := by simp [texts, h]
theorem texts_step (F : Nat → ByteArray) (k : Nat) : texts F k ++ [.string (F k)] = texts F (k + 1) := by
  unfold texts
  rw [List.range_succ, List.map_append]
  rfl
/-- The value holds the first k texts, in a block of its own from base on, or it is the empty one that stood at B0. -/
def Gath (w : World) (base B0 : Nat) (F : Nat → ByteArray) (v : Value) (k : Nat) : Prop := (k = 0 ∧ v = .slice (some ⟨B0, 0, none⟩) 0 0) ∨ (0 < k ∧ w.ownsRow base 9 1 v k (texts F k))
theorem Gath.kept {w w' : World} {base B0 : Nat} {F : Nat → ByteArray} {v : Value} {k : Nat} (h : Gath w base B0 F v k) (g : w.grownBy w' none) : Gath w' base B0 F v k := by
  rcases h with h | ⟨h0, h⟩
  · exact Or.inl h
  · refine Or.inr ⟨h0, h.kept g ?_⟩
    cases hv : v.ownBlock with
    | none => exact Or.inl rfl
    | some b => exact Or.inr (by simp)
theorem Gath.own {w : World} {base B0 : Nat} {F : Nat → ByteArray} {v : Value} {k : Nat} (h : Gath w base B0 F v k) (b : Nat) (hb : v.ownBlock = some b) : b = B0 ∨ base ≤ b := by
  rcases h with ⟨_, rfl⟩ | ⟨_, h⟩
  · left
    simp [Value.ownBlock] at hb
    exact hb.symm
  · right
    exact (h.lt b hb).1
theorem Gath.form {w : World} {base B0 : Nat} {F : Nat → ByteArray} {v : Value} {k : Nat} (h : Gath w base B0 F v k) : ∃ g cap, v = .slice (some ⟨g, 0, none⟩) k cap ∧ ∀ j, j < k → w.cell? ⟨g, 0 + j, none⟩ = some (.string (F j)) := by
  rcases h with ⟨rfl, rfl⟩ | ⟨h0, h⟩
  · exact ⟨B0, 0, rfl, fun j hj => absurd hj (Nat.not_lt_zero _)⟩
  · have h' := h
    rcases h'.2 with ⟨_, e⟩ | ⟨g, cap, cur, rfl, _⟩
    · omega
    · refine ⟨g, cap, rfl, fun j hj => ?_⟩
      rw [Nat.zero_add, h.cellAt j (by omega), texts_at F k j hj]
theorem grown_any {w w' : World} (row : Option Nat) (h : w.grownBy w' none) : w.grownBy w' row := ⟨h.os, h.tape, h.output, h.size, fun k hk _ => h.block k hk (by simp)⟩
theorem grown_drew_alloc (w : World) (o : Obj) : w.grownBy (w.drew.alloc o) none := grown_alloc (grown_drew (grown_refl _ _)) o
theorem append_text {ops : Array Oper} {rest : List Oper} {o : Oper} {a : Act} {w : World} {Q : Exit → Act → World → Prop} (base B0 : Nat) (F : Nat → ByteArray) (v : Value) (k : Nat) (ad : Addr) (c : Nat) (hrow : Gath w base B0 F v k) (hcell : w.cell? ad = some (.string (F k))) (hk : k < 100) (hbase : base ≤ w.heap.size) (s x : Operand)
    (hgd : o.guard = none) (ho : o.op = .call { callee := .builtin .append, args := #[s, x], argTypes := #[29, 29] }) (hs : a.eval s = v) (hx : a.eval x = .slice (some ad) 1 c)
    (h : ∀ v' w', Gath w' base B0 F v' (k + 1) → w.grownBy w' v.ownBlock → wpList Tryd.prog ops Q rest (a.put o.dst v') w') : wpList Tryd.prog ops Q (o :: rest) a w := by
  obtain ⟨i9, hi9, hz0, hz1, hz2⟩ := info_parts info9
  have hnews : ∀ j u, [Value.string (F k)][j]? = some u → w.cell? (ad.add j) = some u := by
    intro j u hj
    match j, hj with
    | 0, hj =>
      rw [List.getElem?_cons_zero] at hj
      rw [← hj]
      exact hcell
  have h1 : ∀ u ∈ [Value.string (F k)], u.oneCell' = true := by
    intro u hu; rw [List.mem_singleton] at hu; subst hu; rfl
  rcases hrow with ⟨rfl, rfl⟩ | ⟨h0, hown⟩
  · have hr := run_append_grow (P := Tryd.prog) w 29 o.type 9 i9 _ Tryd.underlying29 hi9 hz0 ⟨B0, 0, none⟩ 0 0 [] (by simp) (fun j u hj => by simp at hj) ad 1 c [.string (F 0)] (by simp [hz1]) hnews (by omega) (by decide) (growslice_fits (by decide) (by rw [hz2]; decide))
    refine wpList_plain hgd fun K hK => ?_
    unfold Oper.wp execOp
    simp only [ho, resolve, invoke, builtin, Sem.run_bind, Sem.run_pure, Result.andThen_ok, List.map_toArray, List.map_cons, List.map_nil, hs, hx, hr]
    refine hK _ _ (h _ _ (Or.inr ⟨by omega, ?_, Or.inr ⟨w.heap.size, _, _, rfl, hbase, heap_alloc_new w.drew _, ?_, ?_, ?_, ?_⟩⟩) (grown_any _ (grown_drew_alloc w _)))
    · simp [texts]
    · exact grownCap_ge w _ _ _
    · exact grownCap_le_maxLen w _ _ _ (by decide)
    · have hge := grownCap_ge w (0 + 1) 0 9
      rw [Array.size_append, Array.size_append, size_zeroCells]
      show 0 + 1 + (grownCap w (0 + 1) 0 9 - (0 + 1)) * 1 = grownCap w (0 + 1) 0 9 * 1
      omega
    · rw [Array.toList_append, Array.toList_append]
      rfl
  · refine wpList_append_own w hgd s x 29 ho base 9 i9 _ 1 16 Tryd.underlying29 hi9 hz0 hz1 hz2 rfl (by decide) v k (texts F k) hs hown ad 1 c [.string (F k)] hx rfl hnews h1 (by unfold maxLen; omega) (by omega) hbase ?_
    intro v' w' hown' hg _
    rw [texts_step] at hown'
    exact h v' w' (Or.inr ⟨by omega, hown'⟩) hg
theorem sizeL_inj (n m : Nat) (hn : n ≤ 60000) (hm : m ≤ 60000) (h : sizeL n = sizeL m) : n = m := by
  have key : ∀ i, i < 8 → sizeB n i = sizeB m i := fun i hi => by
    have h1 := sizeL_at n i (by rw [sizeL_len]; exact hi)
    have h2 := sizeL_at m i (by rw [sizeL_len]; exact hi)
    have e : (sizeL n)[i]'(by rw [sizeL_len]; exact hi) = (sizeL m)[i]'(by rw [sizeL_len]; exact hi) := by
      congr 1
    rw [e] at h1
    omega
  have h0 := key 0 (by omega)
  have h1 := key 1 (by omega)
  unfold sizeB at h0 h1
  rw [show 2 ^ (8 * 0) = 1 from rfl] at h0
  rw [show 2 ^ (8 * 1) = 256 from rfl] at h1
  omega
theorem parts_inj (S T : Nat → ByteArray) (hS : ∀ j, (S j).size ≤ 1200) (hT : ∀ j, (T j).size ≤ 1200) : ∀ n m, partsTo S n = partsTo T m → n = m ∧ ∀ j, j < n → S j = T j
  | 0, 0, _ => ⟨rfl, fun j hj => absurd hj (Nat.not_lt_zero _)⟩
  | 0, m + 1, h => by
    have := congrArg List.length h
    rw [show partsTo T (m + 1) = partsTo T m ++ (T m).data.toList ++ sizeL (T m).size from rfl, List.length_append, sizeL_len] at this
    simp [partsTo] at this
  | n + 1, 0, h => by
    have := congrArg List.length h
    rw [show partsTo S (n + 1) = partsTo S n ++ (S n).data.toList ++ sizeL (S n).size from rfl, List.length_append, sizeL_len] at this
    simp [partsTo] at this
  | n + 1, m + 1, h => by
    rw [show partsTo S (n + 1) = partsTo S n ++ (S n).data.toList ++ sizeL (S n).size from rfl, show partsTo T (m + 1) = partsTo T m ++ (T m).data.toList ++ sizeL (T m).size from rfl] at h
    obtain ⟨h1, h2⟩ := List.append_inj' h (by rw [sizeL_len, sizeL_len])
    have hsz := sizeL_inj _ _ (by have := hS n; omega) (by have := hT m; omega) h2
    obtain ⟨h3, h4⟩ := List.append_inj' h1 (by rw [bytes_len, bytes_len, hsz])
    obtain ⟨e, hj⟩ := parts_inj S T hS hT n m h3
    subst e
    refine ⟨rfl, fun j hj2 => ?_⟩
    by_cases e : j = n
    · rw [e]; exact bytes_ext h4
    · exact hj j (by omega)
theorem partsS_iff (p q : Nat) (S T : Nat → ByteArray) (n m : Nat) (hp : p < 256) (hq : q < 256) (hS : ∀ j, (S j).size ≤ 1200) (hT : ∀ j, (T j).size ≤ 1200) : partsS p S n = partsS q T m ↔ p = q ∧ n = m ∧ ∀ j, j < n → S j = T j := by
  constructor
  · intro h
    have h1 : partsTo S n ++ [UInt8.ofNat p] = partsTo T m ++ [UInt8.ofNat q] := congrArg (fun x : ByteArray => x.data.toList) h
    obtain ⟨h2, h3⟩ := List.append_inj' h1 rfl
    have h4 : (UInt8.ofNat p).toNat = (UInt8.ofNat q).toNat := by rw [List.singleton_inj.1 h3]
    rw [UInt8.toNat_ofNat', UInt8.toNat_ofNat', Nat.mod_eq_of_lt hp, Nat.mod_eq_of_lt hq] at h4
    exact ⟨h4, parts_inj S T hS hT n m h2⟩
  · rintro ⟨rfl, rfl, hj⟩
    have e : ∀ k, k ≤ n → partsTo S k = partsTo T k := by
      intro k
      induction k with
      | zero => intro _; rfl
      | succ k ih =>
        intro hk
        show partsTo S k ++ (S k).data.toList ++ sizeL (S k).size = partsTo T k ++ (T k).data.toList ++ sizeL (T k).size
        rw [ih (by omega), hj k (by omega)]
    unfold partsS partsL
    rw [e n (Nat.le_refl _)]
end Go.Proofs.YtncplpgelfjfjaaDoor
