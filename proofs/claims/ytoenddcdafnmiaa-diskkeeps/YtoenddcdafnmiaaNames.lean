/-
  Names: the names of all files, sorted.
-/
import Derived.Test.YtoenddcdafnmiaaIter
import Derived.Test.YtoenddcdafnmiaaKFind
namespace Go.Proofs.Ytoenddcdafnmiaa
open Go.RowKit Go.Maps Go.Sort Go.Shelf
theorem before_lt : ∀ a b : List UInt8, bytesBefore a b = true → a < b
  | [], [], h => by cases h
  | [], _ :: _, _ => List.nil_lt_cons _ _
  | _ :: _, [], h => by cases h
  | a :: r, b :: s, h => by
    have ih := before_lt r s
    unfold bytesBefore at h
    rw [Bool.or_eq_true, Bool.and_eq_true, beq_iff_eq] at h
    rw [List.cons_lt_cons_iff]
    rcases h with h | ⟨h1, h2⟩
    · exact Or.inl (by simpa using h)
    · exact Or.inr ⟨h1, ih h2⟩
/-- Files that stand in the order of their names. -/
def Rising (l : FS) : Prop := l.Pairwise fun p q => (keyL p.1).before (keyL q.1) = true
theorem rising_of {w : World} {g : Nat} {l : FS} (h : OwnsF w g l) : Rising l := by
  obtain ⟨es, e, hp, _⟩ := World.ownsMap.canon h law9
  unfold datum at e
  injection e with e
  subst e
  rw [List.pairwise_map] at hp
  exact hp
theorem strKeys_datum (l : FS) : strKeys (datum l) = l.map fun p => p.1.data.toList := by
  unfold datum
  simp only [strKeys, List.map_map]
  rfl
theorem sorted_names {l : FS} (hr : Rising l) {ss : List (List UInt8)} (hS : ss.Perm (strKeys (datum l))) : (ss.mergeSort fun x y => decide (x ≤ y)) = l.map fun p => p.1.data.toList := by
  have h1 : ss.mergeSort leB = (strKeys (datum l)).mergeSort leB := mergeSort_of_perm hS
  have h2 : (strKeys (datum l)).mergeSort leB = strKeys (datum l) := by
    apply List.mergeSort_of_pairwise
    rw [strKeys_datum, List.pairwise_map]
    exact hr.imp (fun {p q} h => decide_eq_true (List.le_of_lt (before_lt _ _ h)))
  rw [← strKeys_datum, ← h2, ← h1]
def namesL (l : FS) : List Value := l.map fun p => .string p.1
theorem enc_names (l : FS) : (l.map fun p => p.1.data.toList).map encStr = namesL l := by
  unfold namesL
  rw [List.map_map]
  rfl
set_option maxRecDepth 100000 in
set_option maxHeartbeats 1000000 in
theorem names_some (b g : Nat) (l : FS) (w : World) (c0 : w.cell? ⟨b, 0, none⟩ = some (.map (some g))) (ho : OwnsF w g l) (hl : l.length ≤ 1000000) :
    Calls Try.prog 27 #[.pointer (some ⟨b, 0, none⟩)] w fun e w' => ∃ v, e = .returned v ∧ w'.ownsRow w.heap.size 9 1 v l.length (namesL l) ∧ w.grownBy w' none := by
  have HR : Hid (Rising l) := rising_of ho
  have CS : Hid (∀ W, W = w.alloc (.cells #[.map (some g)] 61) → CallsIn Fence.wide 5 Try.prog 43 #[.func (.func 56) #[] #[.pointer (some ⟨w.heap.size, 0, none⟩)]] W fun e w' => ∃ (v : Value) (ss : List (List UInt8)), e = .returned v ∧ ss.Perm (strKeys (datum l)) ∧ w'.ownsRow W.heap.size 9 1 v ss.length ((ss.mergeSort (fun x y => decide (x ≤ y))).map encStr) ∧ (v = .slice none 0 0 ↔ ss = []) ∧ Below W.heap.size W w') := by
    rintro W rfl
    exact slices_Sorted_keys_43_44 g l.length (datum l) fileElem w ho (by rw [datum_size]; unfold maxLen; omega) (by rw [datum_size]; omega)
  clear ho
  refine (callsIn_wide (n := 6)).1 ?_
  have hfK : Fence.wide.fn 44 := trivial
  have hfS : Fence.wide.fn 43 := trivial
  refine callsIn_of_wp Try.func27 rfl trivial ?_ rfl
  simp only [Try.ntmps27, List.size_toArray, List.length_cons, List.length_nil, Nat.reduceAdd, Nat.reduceSub, Array.replicate_succ, Array.replicate_zero, List.push_toArray, List.append_toArray, List.nil_append, List.cons_append]
  gi_wp2_with (first
    | (gi_at_call 44; refine (maps_Keys_44 _ _).mono ?_; rintro e w' ⟨rfl, rfl⟩)
    | (gi_at_call 43; refine (CS.out _ rfl).mono ?_; rintro e w' ⟨v, ss, rfl, hS, hrow, hnil, hb⟩))
  go_ret
  rw [sorted_names HR.out hS, enc_names] at hrow
  have hlen : ss.length = l.length := by rw [hS.length_eq, strKeys_datum, List.length_map]
  rw [hlen] at hrow
  refine ⟨v, rfl, ownsRow_base_a hrow (by simp), ?_⟩
  have hbb := ((Below.refl _ w).alloc (Nat.le_refl _) (.cells #[.map (some g)] 61)).trans (hb.mono (by simp))
  exact ⟨hbb.os, hbb.tape, hbb.output, hbb.size, fun k hk _ => hbb.block k hk⟩
set_option maxRecDepth 100000 in
set_option maxHeartbeats 1000000 in
theorem names_none (b : Nat) (w : World) (c0 : w.cell? ⟨b, 0, none⟩ = some (.map none)) :
    Calls Try.prog 27 #[.pointer (some ⟨b, 0, none⟩)] w fun e w' => ∃ v, e = .returned v ∧ w'.ownsRow w.heap.size 9 1 v 0 [] ∧ w.grownBy w' none := by
  refine (callsIn_wide (n := 6)).1 ?_
  have hfK : Fence.wide.fn 44 := trivial
  have hfS : Fence.wide.fn 43 := trivial
  refine callsIn_of_wp Try.func27 rfl trivial ?_ rfl
  simp only [Try.ntmps27, List.size_toArray, List.length_cons, List.length_nil, Nat.reduceAdd, Nat.reduceSub, Array.replicate_succ, Array.replicate_zero, List.push_toArray, List.append_toArray, List.nil_append, List.cons_append]
  gi_wp2_with (first
    | (gi_at_call 44; refine (maps_Keys_44 _ _).mono ?_; rintro e w' ⟨rfl, rfl⟩)
    | (gi_at_call 43; refine (slices_Sorted_keys_nil_43_44 w).mono ?_; rintro e w' ⟨v, ss, rfl, hS, hrow, hnil, hb⟩))
  go_ret
  subst hS
  have hrow' : w'.ownsRow (w.alloc (.cells #[.map none] 61)).heap.size 9 1 v 0 [] := by simpa using hrow
  refine ⟨v, rfl, ownsRow_base_a hrow' (by simp), ?_⟩
  have hbb := ((Below.refl _ w).alloc (Nat.le_refl _) (.cells #[.map none] 61)).trans (hb.mono (by simp))
  exact ⟨hbb.os, hbb.tape, hbb.output, hbb.size, fun k hk _ => hbb.block k hk⟩
theorem names_any (base b : Nat) (k : Dk) (w : World) (h : IsDisk w base b k) (hl : k.now.length ≤ 1000000) :
    Calls Try.prog 27 #[.pointer (some ⟨b, 0, none⟩)] w fun e w' => ∃ v, e = .returned v ∧ w'.ownsRow w.heap.size 9 1 v k.now.length (namesL k.now) ∧ w.grownBy w' none := by
  obtain ⟨hb0, vn, vs, vl, hB, hm, _⟩ := h
  rcases hm with ⟨rfl, e⟩ | ⟨g, rfl, _, ho⟩
  · rw [e]
    exact names_none b w hB.d0
  · exact names_some b g k.now w hB.d0 ho hl
end Go.Proofs.Ytoenddcdafnmiaa
