/-
  The law's cut: at most six texts, each cut.
-/
import Derived.Test.YtddnjlnnkeiplaaMdl
namespace Go.Proofs.Ytddnjlnnkeiplaa
open Go.RowKit Go.Maps
def strs (l : List ByteArray) : List Value := l.map Value.string
theorem info9 : (Try.prog.info? 9).map (fun i => (i.zero, i.size, i.bytes)) = some (some (.string ⟨#[]⟩), 1, 16) := by kernel_rfl
theorem append_str {ops : Array Oper} {rest : List Oper} {o : Oper} {a : Act} {w : World} {Q : Exit → Act → World → Prop} (base : Nat) (l : List ByteArray) (t : ByteArray) (v : Value) (ad : Addr) (c : Nat) (hrow : w.ownsRow base 9 1 v l.length (strs l)) (hcell : w.cell? ad = some (.string t)) (hk : l.length < 100000) (hbase : base ≤ w.heap.size) (s x : Operand)
    (hgd : o.guard = none) (ho : o.op = .call { callee := .builtin .append, args := #[s, x], argTypes := #[33, 33] }) (hs : a.eval s = v) (hx : a.eval x = .slice (some ad) 1 c)
    (h : ∀ v' w', w'.ownsRow base 9 1 v' (l ++ [t]).length (strs (l ++ [t])) → w.grownBy w' v.ownBlock → wpList Try.prog ops Q rest (a.put o.dst v') w') : wpList Try.prog ops Q (o :: rest) a w := by
  obtain ⟨i3, hi3, hz0, hz1, hz2⟩ := info_parts info9
  have hnews : ∀ j u, [Value.string t][j]? = some u → w.cell? (ad.add j) = some u := by
    intro j u hj
    match j, hj with
    | 0, hj =>
      rw [List.getElem?_cons_zero] at hj
      rw [← hj]
      exact hcell
  have h1 : ∀ u ∈ [Value.string t], u.oneCell' = true := by
    intro u hu; rw [List.mem_singleton] at hu; subst hu; rfl
  refine wpList_append_own w hgd s x 33 ho base 9 i3 _ 1 16 Try.underlying33 hi3 hz0 hz1 hz2 rfl (by decide) v l.length (strs l) hs hrow ad 1 c [.string t] hx rfl hnews h1 (by unfold maxLen; omega) (by omega) hbase ?_
  intro v' w' hown' hg _
  refine h v' w' ?_ hg
  rw [List.length_append]
  have e : strs (l ++ [t]) = strs l ++ [.string t] := by unfold strs; rw [List.map_append]; rfl
  rw [e]
  exact hown'
def cutK (S : Nat → ByteArray) (k : Nat) : List ByteArray := (List.range k).map fun j => fewS (S j)
theorem cutK_len (S : Nat → ByteArray) (k : Nat) : (cutK S k).length = k := by simp [cutK]
theorem cutK_snoc (S : Nat → ByteArray) (k : Nat) : cutK S k ++ [fewS (S k)] = cutK S (k + 1) := by
  unfold cutK
  rw [List.range_succ, List.map_append]
  rfl
def CutPost (w : World) (l : List ByteArray) (e : Ending) (w' : World) : Prop := ∃ v, e = .returned v ∧ w'.ownsRow w.heap.size 9 1 v l.length (strs l) ∧ w.grownBy w' none
theorem grown_own {w w1 w2 : World} {base e n size : Nat} {u : Value} {xs : List Value} (h : w.grownBy w1 none) (hr : w1.ownsRow base e size u n xs) (h2 : w1.grownBy w2 u.ownBlock) (hb : w.heap.size ≤ base) : w.grownBy w2 none :=
  ⟨h2.os.trans h.os, h2.tape.trans h.tape, h2.output.trans h.output, Nat.le_trans h.size h2.size, fun i hi _ => (h2.block i (Nat.lt_of_lt_of_le hi h.size) (fun e => by have := (World.ownsRow.lt hr i e.symm).1; omega)).trans (h.block i hi (by simp))⟩
set_option maxRecDepth 100000 in
set_option maxHeartbeats 1000000 in
theorem cut_any (pa : Option Addr) (n cap xb xo : Nat) (S : Nat → ByteArray) (w : World) (hpa : 0 < n → pa = some ⟨xb, xo, none⟩) (hc : ∀ j, j < n → w.cell? ⟨xb, xo + j, none⟩ = some (.string (S j))) (hn : n ≤ 9223372036854775807) :
    Calls Try.prog 19 #[.slice pa n cap] w (CutPost w (cutK S (min n 6))) := by
  have PA := hid hpa
  have HC := hid hc
  have CF : Hid (∀ s W, Calls Try.prog 14 #[.string s] W fun e w' => e = .returned (.string (fewS s)) ∧ w' = W) := few_any
  have hn' : (n : Int) ≤ 9223372036854775807 := by omega
  obtain ⟨m, hm⟩ : ∃ m, min n 6 = m := ⟨_, rfl⟩
  have hmn : m ≤ n := by omega
  have hm6 : m ≤ 6 := by omega
  have hmx : m = n ∨ m = 6 := by omega
  have E1 : Hid ((w.alloc (.cells #[] 9)).ownsRow w.heap.size 9 1 (.slice (some ⟨w.heap.size, 0, none⟩) 0 0) 0 (strs (cutK S 0))) := ⟨rfl, Or.inr ⟨w.heap.size, 0, #[], rfl, Nat.le_refl _, Blk.new w 9 _, Nat.le_refl _, Nat.zero_le _, rfl, rfl⟩⟩
  rw [hm]
  clear hpa hc hm
  obtain ⟨P, hP⟩ : ∃ P, P = CutPost w (cutK S m) := ⟨_, rfl⟩
  rw [← hP]
  have HP := hid hP
  clear hP
  go_enter Try.func19, Try.ntmps19
  go_wp2
  go_loopw [3, 4] (fun ov iv wr => ∃ k : Nat, k ≤ m ∧ iv = .int .i64 k ∧ wr.ownsRow w.heap.size 9 1 ov k (strs (cutK S k)) ∧ w.grownBy wr none) (fun _ iv _ => m - (intOf iv).toNat)
  case atStart => exact ⟨0, Nat.zero_le _, rfl, E1.out, grown_alloc (grown_refl _ _) _⟩
  case round =>
    obtain ⟨k, hk, rfl, hrow, hg⟩ := hrel
    obtain ⟨po, co, rfl, _⟩ := row_form hrow
    have R := hid hrow
    have G := hid hg
    have hsz : w.heap.size ≤ wr.heap.size := hg.size
    clear hrow hg E1
    have k0 : (0 : Int) ≤ k := by omega
    by_cases hlt : k < m
    · have hkn : k < n := by omega
      have hp := PA.out (by omega)
      subst hp
      have c0 := cell_kept (HC.out k hkn) G.out
      have k1 : (k : Int) < n := by omega
      have k6 : (k : Int) < 6 := by omega
      have CE := hid (CF.out (S k))
      have SN := hid (cutK_snoc S k)
      clear PA HC CF
      generalize S k = x at *
      generalize fewS x = y at *
      go_wp2_with (first
        | (go_at_call 14; refine (CE.out _).mono ?_; rintro e w2 ⟨rfl, hw⟩; have hw2 := hw.symm; clear hw; subst hw2; clear CE)
        | (at_builtin; refine append_str w.heap.size (cutK S k) y _ ⟨wr.heap.size, 0, none⟩ 1 (by rw [cutK_len]; exact R.out.alloc _) ((Blk.new wr 9 _).cell 0) (by rw [cutK_len]; omega) (by rw [World.size_alloc]; omega) _ _ rfl rfl rfl rfl ?_))
      intro v4 w4 h4 g4
      rw [SN.out, cutK_len] at h4
      have R4 := hid h4
      have G4 := hid (grown_own (grown_alloc G.out _) (R.out.alloc _) g4 (Nat.le_refl _))
      clear h4 g4
      go_wp2
      go_roundw
      case rel => exact ⟨k + 1, by omega, by go_num, R4.out, G4.out⟩
      case measure => simp [intOf]; omega
    · obtain rfl : k = m := by omega
      have HE : Hid (P (.returned (.slice po k co)) wr) := hid (by rw [HP.out]; exact ⟨_, rfl, by rw [cutK_len]; exact R.out, G.out⟩)
      clear HP PA HC CF R
      rcases hmx with e | e
      · have k1 : ¬ (k : Int) < n := by omega
        clear e
        go_wp2
        exact HE.out
      · have k1 : ¬ (k : Int) < 6 := by omega
        have hkn : k ≤ n := by omega
        by_cases hn2 : (k : Int) < n
        · clear e
          go_wp2
          exact HE.out
        · clear e
          go_wp2
          exact HE.out
end Go.Proofs.Ytddnjlnnkeiplaa
