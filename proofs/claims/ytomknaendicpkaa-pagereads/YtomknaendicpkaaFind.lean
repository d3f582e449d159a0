/-
  Find, Kid: where a key stands, and which kid has it.
-/
import Derived.Test.YtomknaendicpkaaSame
namespace Go.Proofs.Ytomknaendicpkaa
open Go.RowKit
/-- How many keys stand below one, up to the first that does not. -/
def findN : List ByteArray → ByteArray → Nat
  | [], _ => 0
  | a :: r, k => if Op.bytesLess a.toList k.toList then findN r k + 1 else 0
def findIs (l : List ByteArray) (k : ByteArray) : Bool := match l[findN l k]? with
  | some a => a.toList == k.toList
  | none => false
theorem findN_le : ∀ (l : List ByteArray) (k : ByteArray), findN l k ≤ l.length
  | [], _ => Nat.le_refl _
  | a :: r, k => by
    have := findN_le r k
    unfold findN
    split
    · rw [List.length_cons]; omega
    · omega
theorem findN_lt : ∀ (l : List ByteArray) (n : ByteArray) (k : Nat), (h : k < l.length) → k < findN l n → Op.bytesLess l[k].toList n.toList = true
  | [], _, k, h, _ => absurd h (Nat.not_lt_zero _)
  | p :: r, n, k, h, hk => by
    unfold findN at hk
    by_cases hb : Op.bytesLess p.toList n.toList = true
    · rw [if_pos hb] at hk
      match k, h, hk with
      | 0, _, _ => exact hb
      | k + 1, h, hk => exact findN_lt r n k (by simpa using h) (by omega)
    · rw [if_neg hb] at hk
      omega
theorem findN_at : ∀ (l : List ByteArray) (n : ByteArray), (h : findN l n < l.length) → Op.bytesLess l[findN l n].toList n.toList = false
  | [], _, h => absurd h (Nat.not_lt_zero _)
  | p :: r, n, h => by
    by_cases hb : Op.bytesLess p.toList n.toList = true
    · have e : findN (p :: r) n = findN r n + 1 := by show (if _ then _ else _) = _; rw [if_pos hb]
      have h' : findN r n < r.length := by rw [e] at h; simpa using h
      have ih := findN_at r n h'
      have e2 : (p :: r)[findN (p :: r) n] = r[findN r n] := by
        simp only [e, List.getElem_cons_succ]
      rw [e2]
      exact ih
    · have e : findN (p :: r) n = 0 := by show (if _ then _ else _) = _; rw [if_neg hb]
      have e2 : (p :: r)[findN (p :: r) n] = p := by simp only [e, List.getElem_cons_zero]
      rw [e2]
      simpa using hb
set_option maxRecDepth 100000 in
set_option maxHeartbeats 1000000 in
theorem find_any (v : Value) (p : Pg) (n : ByteArray) (w : World) (h : PgV w v p) (hf : p.fits) : Calls Try.prog 16 #[v, .string n] w fun e w' => e = .returned (.tuple #[.int .i64 (findN p.keys n), .bool (findIs p.keys n)]) ∧ w.grownBy w' none := by
  obtain ⟨f1, f2, f3⟩ := hf
  obtain ⟨a, b, c, rfl, ha, hb, hc⟩ := h
  obtain ⟨pa, ca, ga, oa, rfl, pA, cA⟩ := ha
  obtain ⟨pb, cb, gb, ob, rfl, -, -⟩ := hb
  obtain ⟨pc, cc, gc, oc, rfl, -, -⟩ := hc
  obtain ⟨leaf, l, vals, kids⟩ := p
  simp only at *
  have PA : Hid (0 < l.length → pa = some ⟨ga, oa, none⟩) := pA
  have H0 : Hid (∀ i, (h : i < l.length) → w.cell? ⟨ga, oa + i, none⟩ = some (.string l[i])) := cA
  clear pA cA
  have z1 : (l.length : Int) ≤ 9223372036854775807 := by omega
  generalize vals.length = n2 at *
  generalize kids.length = n3 at *
  have hfl := findN_le l n
  have HL := hid (findN_lt l n)
  have HT := hid (findN_at l n)
  obtain ⟨m, em⟩ : ∃ m, findN l n = m := ⟨_, rfl⟩
  obtain ⟨bb, eb⟩ : ∃ bb, findIs l n = bb := ⟨_, rfl⟩
  have EM : Hid (findN l n = m) := em
  have EB : Hid (findIs l n = bb) := eb
  rw [em, eb]
  rw [em] at hfl
  clear em eb
  have BX : Hid (Blk (w.alloc (.cells #[.bool leaf, .slice pa l.length ca, .slice pb n2 cb, .slice pc n3 cc] 25)) w.heap.size 25 #[.bool leaf, .slice pa l.length ca, .slice pb n2 cb, .slice pc n3 cc]) := Blk.new w 25 _
  go_enter Try.func16, Try.ntmps16
  go_wp2
  go_loopw [11] (fun i wr => ∃ k : Nat, k ≤ m ∧ i = .int .i64 k ∧ Blk wr w.heap.size 25 #[.bool leaf, .slice pa l.length ca, .slice pb n2 cb, .slice pc n3 cc] ∧ w.grownBy wr none) (fun i _ => l.length - (intOf i).toNat)
  case atStart => exact ⟨0, Nat.zero_le _, rfl, BX.out, grown_alloc (grown_refl _ _) _⟩
  case round =>
    obtain ⟨k, hk, rfl, hb, hg⟩ := hrel
    have B := hid hb
    have G := hid hg
    have q1 := hb.cell 1
    simp at q1
    clear hb hg BX
    have k0 : (0 : Int) ≤ k := by omega
    by_cases hlt : k < m
    · have hkl : k < l.length := by omega
      have hp := PA.out (by omega)
      subst hp
      have c0 := cell_kept G.out (H0.out k hkl)
      have hb := HL.out k hkl (by rw [EM.out]; exact hlt)
      have k1 : (k : Int) < l.length := by omega
      clear HL HT H0
      generalize l[k] = a at *
      go_wp2
      go_round
      case rel => exact ⟨k + 1, by omega, by go_num, B.out, G.out⟩
      case measure => simp [intOf]; omega
    · obtain rfl : k = m := by omega
      by_cases hkl : k < l.length
      · have hp := PA.out (by omega)
        subst hp
        have c0 := cell_kept G.out (H0.out k hkl)
        have ht : Op.bytesLess l[k].toList n.toList = false := by
          have hx := HT.out (by rw [EM.out]; exact hkl)
          have e2 : l[findN l n]'(by rw [EM.out]; exact hkl) = l[k] := by simp only [EM.out]
          rw [e2] at hx
          exact hx
        have he : (l[k].toList == n.toList) = bb := by
          rw [← EB.out]
          unfold findIs
          rw [EM.out, List.getElem?_eq_getElem hkl]
        have k1 : (k : Int) < l.length := by omega
        clear HL HT H0
        generalize l[k] = a at *
        go_wp2
        go_ret2
        exact ⟨rfl, G.out⟩
      · have e3 : bb = false := by
          rw [← EB.out]
          unfold findIs
          rw [EM.out, List.getElem?_eq_none (by omega)]
        subst e3
        have k2 : k = l.length := by omega
        have k1 : ¬ (k : Int) < l.length := by omega
        clear HL HT H0 PA
        go_wp2
        go_ret2
        exact ⟨rfl, G.out⟩
set_option maxRecDepth 100000 in
set_option maxHeartbeats 400000 in
theorem kid_any (v : Value) (p : Pg) (n : ByteArray) (w : World) (h : PgV w v p) (hf : p.fits) (hs : p.keys.length ≤ 1000) : Calls Try.prog 18 #[v, .string n] w fun e w' => e = .returned (.int .i64 (findN p.keys n + if findIs p.keys n then 1 else 0)) ∧ w.grownBy w' none := by
  have C : Hid (∀ W, w.grownBy W none → Calls Try.prog 16 #[v, .string n] W fun e w' => e = .returned (.tuple #[.int .i64 (findN p.keys n), .bool (findIs p.keys n)]) ∧ W.grownBy w' none) := fun W hW => find_any v p n W (h.kept hW) hf
  have hfl := findN_le p.keys n
  have hfl2 : (findN p.keys n : Int) ≤ 1000 := by omega
  have hfl3 : (0 : Int) ≤ findN p.keys n := by omega
  obtain ⟨a, b, c, rfl, ha, hb, hc⟩ := h
  obtain ⟨pa, ca, ga, oa, rfl, -, -⟩ := ha
  obtain ⟨pb, cb, gb, ob, rfl, -, -⟩ := hb
  obtain ⟨pc, cc, gc, oc, rfl, -, -⟩ := hc
  clear hfl hf hs
  generalize p.keys.length = n1 at *
  generalize p.vals.length = n2 at *
  generalize p.kids.length = n3 at *
  generalize p.leaf = l at *
  generalize findN p.keys n = m at *
  generalize findIs p.keys n = x at *
  cases x
  all_goals
    go_enter Try.func18, Try.ntmps18
    go_wp2_with (go_at_call 16; refine (C.out _ (grown_alloc (grown_refl _ _) _)).mono ?_; rintro e w1 ⟨rfl, hg⟩; have G1 : Hid (w.grownBy w1 none) := grown_none (grown_alloc (grown_refl _ _) _) hg; clear hg C)
    go_ret
    refine ⟨?_, G1.out⟩
    simp
end Go.Proofs.Ytomknaendicpkaa
