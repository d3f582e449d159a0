/-
  The document's files: a list that is sorted by names; find. The document's files: put, drop.
-/
import Derived.Test.YtoenddcdafnmiaaRef
import Derived.Deep.QuietTactic
import Derived.Test.YtoenddcdafnmiaaTend
import Derived.Laws.AppendOwnNone
namespace Go.Proofs.Ytoenddcdafnmiaa
open Go.RowKit Go.Maps
/-- A slice of files reads as this list. -/
def FilesV (w : World) (v : Value) (l : FS) : Prop := (v = .slice none 0 0 ∧ l = []) ∨ ∃ cap g o, v = .slice (some ⟨g, o, none⟩) l.length cap ∧ l.length ≤ cap ∧ cap ≤ maxLen ∧ (∀ i, (h : i < l.length) → w.cell? ⟨g, o + i * 2, none⟩ = some (.string l[i].1)) ∧ ∀ i, (h : i < l.length) → w.cell? ⟨g, o + i * 2 + 1, none⟩ = some (.string l[i].2)
theorem FilesV.old {w : World} {v : Value} {l : FS} (h : FilesV w v l) : ∃ (pa : Option Addr) (cap g o : Nat), v = .slice pa l.length cap ∧ l.length ≤ cap ∧ (0 < l.length → pa = some ⟨g, o, none⟩) ∧ (∀ i, (h : i < l.length) → w.cell? ⟨g, o + i * 2, none⟩ = some (.string l[i].1)) ∧ ∀ i, (h : i < l.length) → w.cell? ⟨g, o + i * 2 + 1, none⟩ = some (.string l[i].2) := by
  rcases h with ⟨rfl, rfl⟩ | ⟨cap, g, o, rfl, hc, _, h0, h1⟩
  · exact ⟨none, 0, 0, 0, rfl, Nat.le_refl _, (fun h => absurd h (Nat.lt_irrefl _)), (fun i h => absurd h (Nat.not_lt_zero _)), (fun i h => absurd h (Nat.not_lt_zero _))⟩
  · exact ⟨_, cap, g, o, rfl, hc, fun _ => rfl, h0, h1⟩
theorem FilesV.kept {w w' : World} {v : Value} {l : FS} (h : FilesV w v l) (hg : w.grownBy w' none) : FilesV w' v l := by
  rcases h with h | ⟨cap, g, o, rfl, hcap, hmx, h0, h1⟩
  · exact Or.inl h
  refine Or.inr ⟨cap, g, o, rfl, hcap, hmx, fun i hi => ?_, fun i hi => ?_⟩
  · have hc := h0 i hi
    exact ((grown_below hg).cell (p := ⟨g, o + i * 2, none⟩) (World.block_lt_of_cell? _ _ hc)).trans hc
  · have hc := h1 i hi
    exact ((grown_below hg).cell (p := ⟨g, o + i * 2 + 1, none⟩) (World.block_lt_of_cell? _ _ hc)).trans hc
/-- The elements of a slice lie in a block of this type. -/
def TyV (t : TypeId) (w : World) (v : Value) : Prop := ∀ g o n c, v = .slice (some ⟨g, o, none⟩) n c → 0 < n → ∃ cur fz, w.heap[g]? = some (.cells cur t fz)
theorem TyV.kept {t : TypeId} {w w' : World} {v : Value} (h : TyV t w v) (hg : w.grownBy w' none) : TyV t w' v := by
  intro g o n c e hn
  obtain ⟨cur, fz, hb⟩ := h g o n c e hn
  have hlt : g < w.heap.size := by
    by_cases hx : g < w.heap.size
    · exact hx
    · rw [Array.getElem?_eq_none (by omega)] at hb; cases hb
  exact ⟨cur, fz, (hg.block g hlt (by simp)).trans hb⟩
theorem TyV.set {t : TypeId} {w : World} {v : Value} (h : TyV t w v) (b i : Nat) (u : Value) : TyV t (w.setCell ⟨b, i, none⟩ u) v := by
  intro g o n c e hn
  obtain ⟨cur, fz, hb⟩ := h g o n c e hn
  by_cases hx : g = b
  · subst hx
    refine ⟨cur.setIfInBounds i u, fz, ?_⟩
    simp [World.setCell, Array.getElem?_modify, hb]
  · exact ⟨cur, fz, by rw [heap_setCell_other w _ g u hx]; exact hb⟩
theorem TyV.row {t : TypeId} {w : World} {base size n : Nat} {v : Value} {xs : List Value} (h : w.ownsRow base t size v n xs) : TyV t w v := by
  intro g o k c e _
  rcases h.2 with ⟨rfl, _⟩ | ⟨g', cap, cur, rfl, _, hh, _⟩
  · cases e
  · injection e with e1 e2 e3
    injection e1 with e1
    injection e1 with e4 e5
    subst e4
    exact ⟨cur, _, hh⟩
/-- A slice of files, in a block of files. -/
def FilesT (w : World) (v : Value) (l : FS) : Prop := FilesV w v l ∧ TyV 73 w v
theorem FilesT.kept {w w' : World} {v : Value} {l : FS} (h : FilesT w v l) (hg : w.grownBy w' none) : FilesT w' v l := ⟨h.1.kept hg, h.2.kept hg⟩
theorem less_before : ∀ a b : List UInt8, Op.bytesLess a b = bytesBefore a b
  | [], [] => rfl
  | [], _ :: _ => rfl
  | _ :: _, [] => rfl
  | a :: r, b :: s => by
    have ih := less_before r s
    unfold Op.bytesLess bytesBefore
    rw [ih]
theorem less_key (a b : ByteArray) : Op.bytesLess a.toList b.toList = (keyL a).before (keyL b) := by
  rw [ByteArray.toList_eq, ByteArray.toList_eq, less_before]
  rfl
/-- How many names stand ahead of one. -/
def findN : FS → ByteArray → Nat
  | [], _ => 0
  | p :: r, n => if (keyL p.1).before (keyL n) then findN r n + 1 else 0
def findIs (l : FS) (n : ByteArray) : Bool := match l[findN l n]? with
  | some p => sameB p.1 n
  | none => false
theorem findN_le : ∀ (l : FS) (n : ByteArray), findN l n ≤ l.length
  | [], _ => Nat.le_refl _
  | p :: r, n => by
    have := findN_le r n
    unfold findN
    split
    · rw [List.length_cons]; omega
    · omega
theorem findN_lt : ∀ (l : FS) (n : ByteArray) (k : Nat), (h : k < l.length) → k < findN l n → (keyL l[k].1).before (keyL n) = true
  | [], _, k, h, _ => absurd h (Nat.not_lt_zero _)
  | p :: r, n, k, h, hk => by
    unfold findN at hk
    by_cases hb : (keyL p.1).before (keyL n) = true
    · rw [if_pos hb] at hk
      match k, h, hk with
      | 0, _, _ => exact hb
      | k + 1, h, hk => exact findN_lt r n k (by simpa using h) (by omega)
    · rw [if_neg hb] at hk
      omega
theorem findN_at : ∀ (l : FS) (n : ByteArray), (h : findN l n < l.length) → (keyL l[findN l n].1).before (keyL n) = false
  | [], _, h => absurd h (Nat.not_lt_zero _)
  | p :: r, n, h => by
    by_cases hb : (keyL p.1).before (keyL n) = true
    · have e : findN (p :: r) n = findN r n + 1 := by show (if _ then _ else _) = _; rw [if_pos hb]
      have h' : findN r n < r.length := by rw [e] at h; simpa using h
      have ih := findN_at r n h'
      have e2 : (p :: r)[findN (p :: r) n] = r[findN r n] := by
        simp only [e, List.getElem_cons_succ]
      rw [e2]
      exact ih
    · have e : findN (p :: r) n = 0 := by show (if _ then _ else _) = _; rw [if_neg hb]
      have e2 : (p :: r)[findN (p :: r) n] = p := by simp only [e, List.getElem_cons_zero]
      rw [e2]
      simpa using hb
set_option maxRecDepth 100000 in
set_option maxHeartbeats 1000000 in
theorem find_any (v : Value) (l : FS) (n : ByteArray) (w : World) (h : FilesV w v l) (hl : l.length ≤ 100000) :
    Calls Try.prog 49 #[v, .string n] w fun e w' => e = .returned (.tuple #[.int .i64 (findN l n), .bool (findIs l n)]) ∧ w.grownBy w' none := by
  obtain ⟨pa, cap, g, o, rfl, hcap, hpa, h0, h1⟩ := h.old
  clear h
  have hll : (l.length : Int) ≤ 100000 := by omega
  have H0 : Hid (∀ i, (h : i < l.length) → w.cell? ⟨g, o + i * 2, none⟩ = some (.string l[i].1)) := h0
  have HP : Hid (0 < l.length → pa = some ⟨g, o, none⟩) := hpa
  have hfl := findN_le l n
  have HL : Hid (∀ (k : Nat), (h : k < l.length) → k < findN l n → (keyL l[k].1).before (keyL n) = true) := findN_lt l n
  have HT : Hid ((h : findN l n < l.length) → (keyL l[findN l n].1).before (keyL n) = false) := findN_at l n
  obtain ⟨m, em⟩ : ∃ m, findN l n = m := ⟨_, rfl⟩
  obtain ⟨bb, eb⟩ : ∃ bb, findIs l n = bb := ⟨_, rfl⟩
  have EM : Hid (findN l n = m) := em
  have EB : Hid (findIs l n = bb) := eb
  rw [em, eb]
  rw [em] at hfl
  clear h0 h1 hpa em eb
  go_enter Try.func49, Try.ntmps49
  go_wp2
  go_loop [6] (fun i => ∃ k : Nat, k ≤ m ∧ i = .int .i64 k) (fun i => l.length - (intOf i).toNat)
  case atStart => exact ⟨0, Nat.zero_le _, rfl⟩
  case round =>
    obtain ⟨k, hk, rfl⟩ := hrel
    have k0 : (0 : Int) ≤ k := by omega
    by_cases hlt : k < m
    · have hkl : k < l.length := by omega
      have hp := HP.out (by omega)
      subst hp
      have c0 := H0.out k hkl
      have hb := HL.out k hkl (by rw [EM.out]; exact hlt)
      rw [← less_key] at hb
      have k1 : (k : Int) < l.length := by omega
      clear HL HT H0
      generalize l[k].1 = a at *
      go_wp2
      go_round
      case rel => exact ⟨k + 1, by omega, by go_num⟩
      case measure => simp [intOf]; omega
    · obtain rfl : k = m := by omega
      by_cases hkl : k < l.length
      · have hp := HP.out (by omega)
        subst hp
        have c0 := H0.out k hkl
        have ht : (keyL l[k].1).before (keyL n) = false := by
          have hx := HT.out (by rw [EM.out]; exact hkl)
          have e2 : l[findN l n]'(by rw [EM.out]; exact hkl) = l[k] := by simp only [EM.out]
          rw [e2] at hx
          exact hx
        have e3 : sameB l[k].1 n = bb := by
          rw [← EB.out]
          unfold findIs
          rw [EM.out, List.getElem?_eq_getElem hkl]
        rw [← less_key] at ht
        have he : (l[k].1.toList == n.toList) = bb := by rw [ByteArray.toList_eq, ByteArray.toList_eq]; exact e3
        have k1 : (k : Int) < l.length := by omega
        have kd : decide ((k : Int) < l.length) = true := decide_eq_true k1
        clear HL HT H0 e3
        generalize l[k].1 = a at *
        go_wp2
        go_quiet (fail)
        go_wp2
        go_ret2
        exact ⟨rfl, grown_drewN (grown_refl _ _) _⟩
      · have e3 : bb = false := by
          rw [← EB.out]
          unfold findIs
          rw [EM.out, List.getElem?_eq_none (by omega)]
        subst e3
        have k1 : ¬ (k : Int) < l.length := by omega
        have kd : decide ((k : Int) < l.length) = false := decide_eq_false k1
        clear HL HT H0 HP
        go_wp2
        go_quiet (fail)
        go_wp2
        go_ret2
        exact ⟨rfl, grown_drewN (grown_refl _ _) _⟩
end Go.Proofs.Ytoenddcdafnmiaa
namespace Go.Proofs.Ytoenddcdafnmiaa
open Go.RowKit Go.Maps
def filesL (l : FS) : List Value := l.flatMap fun p => [.string p.1, .string p.2]
theorem filesL_len (l : FS) : (filesL l).length = l.length * 2 := by
  induction l with
  | nil => rfl
  | cons c r ih =>
    unfold filesL at ih ⊢
    rw [List.flatMap_cons, List.length_append, ih]
    show 2 + r.length * 2 = (r.length + 1) * 2
    omega
theorem filesL_app (l m : FS) : filesL (l ++ m) = filesL l ++ filesL m := by
  unfold filesL
  rw [List.flatMap_append]
theorem filesL_at : ∀ (l : FS) (k : Nat) (h : k < l.length), (filesL l)[k * 2]? = some (.string l[k].1) ∧ (filesL l)[k * 2 + 1]? = some (.string l[k].2)
  | [], k, h => absurd h (Nat.not_lt_zero _)
  | c :: r, 0, _ => ⟨rfl, rfl⟩
  | c :: r, k + 1, h => by
    have ih := filesL_at r k (by simpa using h)
    unfold filesL at ih ⊢
    rw [List.flatMap_cons]
    constructor
    · rw [List.getElem?_append_right (by show 2 ≤ _; omega), show (k + 1) * 2 - [Value.string c.1, .string c.2].length = k * 2 from by show (k + 1) * 2 - 2 = _; omega]
      exact ih.1
    · rw [List.getElem?_append_right (by show 2 ≤ _; omega), show (k + 1) * 2 + 1 - [Value.string c.1, .string c.2].length = k * 2 + 1 from by show (k + 1) * 2 + 1 - 2 = _; omega]
      exact ih.2
theorem filesL_one (l : FS) : ∀ u ∈ filesL l, u.oneCell' = true := by
  intro u hu
  unfold filesL at hu
  rw [List.mem_flatMap] at hu
  obtain ⟨c, _, hc⟩ := hu
  simp only [List.mem_cons, List.not_mem_nil, or_false] at hc
  rcases hc with rfl | rfl <;> rfl
theorem info73 : (Try.prog.info? 73).map (fun i => (i.zero, i.size, i.bytes)) = some (some (.agg #[.string ⟨#[]⟩, .string ⟨#[]⟩]), 2, 32) := by kernel_rfl
theorem add_at (g o j : Nat) : (⟨g, o, none⟩ : Addr).add j = ⟨g, o + j, none⟩ := by
  by_cases h : j = 0
  · subst h; simp [Addr.add]
  · simp [Addr.add, h]
theorem files_cells {w : World} {l : FS} {g o : Nat} (h0 : ∀ i, (h : i < l.length) → w.cell? ⟨g, o + i * 2, none⟩ = some (.string l[i].1)) (h1 : ∀ i, (h : i < l.length) → w.cell? ⟨g, o + i * 2 + 1, none⟩ = some (.string l[i].2)) :
    ∀ j u, (filesL l)[j]? = some u → w.cell? ((⟨g, o, none⟩ : Addr).add j) = some u := by
  intro j u hj
  have hlt : j < l.length * 2 := by
    rw [← filesL_len]
    by_cases h : j < (filesL l).length
    · exact h
    · rw [List.getElem?_eq_none (by omega)] at hj; cases hj
  rw [add_at]
  have hk : j / 2 < l.length := by omega
  have hat := filesL_at l (j / 2) hk
  have hc : j = j / 2 * 2 ∨ j = j / 2 * 2 + 1 := by omega
  rcases hc with hc | hc
  · rw [← hc] at hat
    have := h0 (j / 2) hk
    rw [← hc] at this
    rw [this, ← hj, hat.1]
  · rw [← hc] at hat
    have := h1 (j / 2) hk
    rw [Nat.add_assoc, ← hc] at this
    rw [this, ← hj, hat.2]
theorem append_files {ops : Array Oper} {rest : List Oper} {o : Oper} {a : Act} {w : World} {Q : Exit → Act → World → Prop} (base : Nat) (v vx : Value) (xs l2 : FS) (hrow : w.ownsRow base 73 2 v xs.length (filesL xs)) (hx : FilesV w vx l2) (hlen : xs.length + l2.length ≤ 1000000) (hbase : base ≤ w.heap.size) (s x : Operand)
    (hgd : o.guard = none) (ho : o.op = .call { callee := .builtin .append, args := #[s, x], argTypes := #[25, 25] }) (hs : a.eval s = v) (hxv : a.eval x = vx)
    (h : ∀ v' w', w'.ownsRow base 73 2 v' (xs ++ l2).length (filesL (xs ++ l2)) → w.grownBy w' v.ownBlock → wpList Try.prog ops Q rest (a.put o.dst v') w') : wpList Try.prog ops Q (o :: rest) a w := by
  obtain ⟨i73, hi, hz0, hz1, hz2⟩ := info_parts info73
  rcases hx with ⟨rfl, rfl⟩ | ⟨cap, g, oo, rfl, hc, _, h0, h1⟩
  · refine wpList_append_own_none hgd s x 25 ho base 73 i73 2 Try.underlying25 hi v xs.length (filesL xs) hs hrow hxv ?_
    refine h v w ?_ (grown_refl _ _)
    rw [List.append_nil]
    exact hrow
  · refine wpList_append_own w hgd s x 25 ho base 73 i73 _ 2 32 Try.underlying25 hi hz0 hz1 hz2 rfl (by decide) v xs.length (filesL xs) hs hrow ⟨g, oo, none⟩ l2.length cap (filesL l2) hxv (filesL_len l2) (files_cells h0 h1) (filesL_one l2) (by unfold maxLen; omega) (by omega) hbase ?_
    intro v' w' h2 h3 _
    rw [← filesL_app, ← List.length_append] at h2
    exact h v' w' h2 h3
theorem files_of_row0 {w : World} {base : Nat} {v : Value} {l : FS} (h : w.ownsRow base 73 2 v l.length (filesL l)) : FilesV w v l := by
  have h' := h
  rcases h'.2 with ⟨rfl, hn⟩ | ⟨g, cap, cur, rfl, _, _, hc, hmx, _⟩
  · exact Or.inl ⟨rfl, List.eq_nil_of_length_eq_zero hn⟩
  · refine Or.inr ⟨cap, g, 0, rfl, hc, hmx, fun i hi => ?_, fun i hi => ?_⟩
    · rw [Nat.zero_add, h.cellAt (i * 2) (by omega), (filesL_at l i hi).1]
    · rw [Nat.zero_add, h.cellAt (i * 2 + 1) (by omega), (filesL_at l i hi).2]
theorem files_of_row {w : World} {base : Nat} {v : Value} {l : FS} (h : w.ownsRow base 73 2 v l.length (filesL l)) : FilesT w v l := ⟨files_of_row0 h, TyV.row h⟩
theorem row_empty (w : World) : (w.alloc (.cells #[] 73)).ownsRow w.heap.size 73 2 (.slice (some ⟨w.heap.size, 0, none⟩) 0 0) ([] : FS).length (filesL []) := ⟨rfl, Or.inr ⟨w.heap.size, 0, #[], rfl, Nat.le_refl _, heap_alloc_new w _, Nat.le_refl _, Nat.zero_le _, rfl, rfl⟩⟩
end Go.Proofs.Ytoenddcdafnmiaa
