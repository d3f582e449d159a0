/-
  The checker: a new one. check.Program: a program with its types, or the place of the first declaration that is rejected, and why. check.Program of any tree. The parser and the checker at texts that are written down: whole numbers, texts as lists. The text of a row of names with signs between them: its words, its tree. The text of a row of names with signs between them: its tree. The closed text of cupellaw12's awake.
-/
import Derived.Test.YtajoncmmdeahnaaGreatDoorKCn6
import Derived.Carry
import Derived.Test.YtajoncmmdeahnaaGreatDoorKPd
namespace Go.Proofs.YtajoncmmdeahnaaGreatDoor
open Go.RowKit
namespace Ck
end Ck
end Go.Proofs.YtajoncmmdeahnaaGreatDoor
namespace Go.Proofs.YtajoncmmdeahnaaGreatDoor
open Go.RowKit
namespace Ck
end Ck
end Go.Proofs.YtajoncmmdeahnaaGreatDoor
namespace Go.Proofs.YtajoncmmdeahnaaGreatDoor
open Go.RowKit
namespace Ck
end Ck
end Go.Proofs.YtajoncmmdeahnaaGreatDoor
namespace Go.Proofs.YtajoncmmdeahnaaGreatDoor
open Go.RowKit
namespace Sc
def mkS (l : List UInt8) : ByteArray := ⟨l.toArray⟩
theorem mkS_size (l : List UInt8) : (mkS l).size = l.length := by simp [mkS, ByteArray.size]
theorem toList_mk (l : List UInt8) : (mkS l).toList = l := by
  rw [ByteArray.toList_eq]
  rfl
def parsL (k : Nat) (l : List UInt8) : Except (Option (Nat × Nat)) Nd := match toks l with
  | .error p => .error (some (p, 90))
  | .ok l => match Pm.programP (Pm.rc k) ⟨l, 0, 0, false⟩ with
    | .ok (n, _) => .ok n
    | .error e => .error e
theorem parsL_eq (k : Nat) (l : List UInt8) : Pm.parseM k (mkS l) = parsL k l := by
  unfold Pm.parseM parsL
  rw [toList_mk]
  rfl
theorem parse_closed (k : Nat) (l : List UInt8) (n : Nd) (W : World) (hl : l.length ≤ 4096) (hG : Pm.GlB W W.heap.size) (h : parsL k l = .ok n) :
    Calls Tryz.prog 9 #[.string (mkS l)] W fun e w' => ∃ ps cp, e = .returned (.tuple #[.agg #[.int .i64 n.kind, .int .i64 n.ty, .string n.txt, .int .i64 n.num, .slice ps n.kids.length cp], .int .i64 0, .int .i64 0]) ∧ KsV w' (fun g => W.heap.size ≤ g) (.slice ps n.kids.length cp) n.kids ∧ W.grownBy w' none := by
  rw [← parsL_eq] at h
  refine (Pm.parse_any k (mkS l) W (by rw [mkS_size]; exact hl) hG (by rw [h]; simp)).mono fun e w' hh => ?_
  rw [h] at hh
  obtain ⟨v, rfl, ⟨q, rfl, hk⟩, hg⟩ := hh
  obtain ⟨p, cap, rfl, _⟩ := hk.form
  exact ⟨p, cap, rfl, hk, hg⟩
end Sc
end Go.Proofs.YtajoncmmdeahnaaGreatDoor
namespace Go.Proofs.YtajoncmmdeahnaaGreatDoor
namespace Rk
open Pm
def sgR : Nat → List UInt8
  | 0 => [124, 124]
  | 1 => [38, 38]
  | 2 => [60]
  | 3 => [60, 61]
  | 4 => [62]
  | 5 => [62, 61]
  | 6 => [61, 61]
  | 7 => [33, 61]
  | 8 => [43]
  | 9 => [45]
  | 10 => [42]
  | 11 => [47]
  | _ => [37]
def nmR (i : Nat) : List UInt8 := [UInt8.ofNat (98 + i)]
def itR : Nat → List Nat → List It
  | _, [] => []
  | i, s :: r => (sgR s, nmR i) :: itR (i + 1) r
def bdR : Nat → List Nat → List UInt8
  | _, [] => []
  | i, s :: r => 32 :: (sgR s ++ (32 :: (nmR i ++ bdR (i + 1) r)))
def tlR : List UInt8 := [59, 32, 125]
def txR (σ : List Nat) : List UInt8 := [116, 101, 115, 116, 32, 116, 32, 123, 32, 97, 115, 115, 101, 114, 116, 32] ++ ((97 :: bdR 0 σ) ++ tlR)
theorem itR_len : ∀ (i : Nat) (σ : List Nat), (itR i σ).length = σ.length
  | _, [] => rfl
  | i, s :: r => by rw [itR, List.length_cons, itR_len, List.length_cons]
def consT (t : Tk) : Except Nat (List Tk) → Except Nat (List Tk)
  | .ok l => .ok (t :: l)
  | .error e => .error e
theorem tk_step (n : Nat) (c : UInt8) (r : List UInt8) (k m : Nat) (hk : wordK (c :: r) = k) (h0 : k ≠ 0) (hm : wordN (c :: r) = m) (rest : List UInt8) (hr : skip ((c :: r).drop m) = rest) : toksA n (c :: r) = consT ⟨k, (c :: r).take m, n - (c :: r).length⟩ (toksA n rest) := by
  have h := toksA_ok n c r (by rw [hk]; exact h0) []
  rw [ahead_nil, List.nil_append, hk, hm, hr] at h
  rw [h]
  cases toksA n rest <;> rfl
def endB (l : List UInt8) : Prop := (∃ r, l = 32 :: r) ∨ ∃ r, l = 59 :: r
theorem name_step (n i : Nat) (hi : i < 12) (l : List UInt8) (hl : endB l) : ∃ p, toksA n (nmR i ++ l) = consT ⟨1, nmR i, p⟩ (toksA n (skip l)) := by
  refine ⟨n - (nmR i ++ l).length, ?_⟩
  rcases hl with ⟨r, rfl⟩ | ⟨r, rfl⟩
  all_goals
    rcases (show i = 0 ∨ i = 1 ∨ i = 2 ∨ i = 3 ∨ i = 4 ∨ i = 5 ∨ i = 6 ∨ i = 7 ∨ i = 8 ∨ i = 9 ∨ i = 10 ∨ i = 11 by omega) with rfl | rfl | rfl | rfl | rfl | rfl | rfl | rfl | rfl | rfl | rfl | rfl
    all_goals exact tk_step n _ _ 1 1 rfl (by decide) rfl _ rfl
theorem sign_step (n s : Nat) (hs : s < 13) (l : List UInt8) : ∃ p, toksA n (sgR s ++ 32 :: l) = consT ⟨5, sgR s, p⟩ (toksA n (skip l)) := by
  refine ⟨n - (sgR s ++ 32 :: l).length, ?_⟩
  rcases (show s = 0 ∨ s = 1 ∨ s = 2 ∨ s = 3 ∨ s = 4 ∨ s = 5 ∨ s = 6 ∨ s = 7 ∨ s = 8 ∨ s = 9 ∨ s = 10 ∨ s = 11 ∨ s = 12 by omega) with rfl | rfl | rfl | rfl | rfl | rfl | rfl | rfl | rfl | rfl | rfl | rfl | rfl
  all_goals exact tk_step n _ _ 5 _ rfl (by decide) rfl _ rfl
theorem sg_skip (s : Nat) (hs : s < 13) (l : List UInt8) : skip (32 :: (sgR s ++ 32 :: l)) = sgR s ++ 32 :: l := by
  rcases (show s = 0 ∨ s = 1 ∨ s = 2 ∨ s = 3 ∨ s = 4 ∨ s = 5 ∨ s = 6 ∨ s = 7 ∨ s = 8 ∨ s = 9 ∨ s = 10 ∨ s = 11 ∨ s = 12 by omega) with rfl | rfl | rfl | rfl | rfl | rfl | rfl | rfl | rfl | rfl | rfl | rfl | rfl
  all_goals rfl
theorem nm_skip (i : Nat) (hi : i < 12) (l : List UInt8) : skip (nmR i ++ l) = nmR i ++ l := by
  rcases (show i = 0 ∨ i = 1 ∨ i = 2 ∨ i = 3 ∨ i = 4 ∨ i = 5 ∨ i = 6 ∨ i = 7 ∨ i = 8 ∨ i = 9 ∨ i = 10 ∨ i = 11 by omega) with rfl | rfl | rfl | rfl | rfl | rfl | rfl | rfl | rfl | rfl | rfl | rfl
  all_goals rfl
theorem bd_end : ∀ (i : Nat) (σ : List Nat), endB (bdR i σ ++ tlR)
  | _, [] => Or.inr ⟨_, rfl⟩
  | _, _ :: _ => Or.inl ⟨_, rfl⟩
theorem body_toks (n : Nat) : ∀ (σ : List Nat) (i : Nat), i + σ.length ≤ 12 → (∀ s ∈ σ, s < 13) → ∃ ws, toksA n (skip (bdR i σ ++ tlR)) = .ok ws ∧ Ahead (itR i σ) ws [⟨5, [59], n - 3⟩, ⟨5, [125], n - 1⟩, ⟨0, [], n⟩]
  | [], i, _, _ => ⟨_, rfl, rfl⟩
  | s :: r, i, hi, hs => by
    rw [List.length_cons] at hi
    obtain ⟨ws, h1, h2⟩ := body_toks n r (i + 1) (by omega) (fun x hx => hs x (List.mem_cons_of_mem _ hx))
    have e : bdR i (s :: r) ++ tlR = 32 :: (sgR s ++ 32 :: (nmR i ++ (bdR (i + 1) r ++ tlR))) := by
      rw [bdR]
      simp
    have hs1 := hs s (List.mem_cons_self ..)
    obtain ⟨p1, t1⟩ := sign_step n s hs1 (nmR i ++ (bdR (i + 1) r ++ tlR))
    obtain ⟨p2, t2⟩ := name_step n i (by omega) _ (bd_end (i + 1) r)
    rw [e, sg_skip s hs1, t1, nm_skip i (by omega), t2, h1]
    exact ⟨⟨5, sgR s, p1⟩ :: ⟨1, nmR i, p2⟩ :: ws, rfl, ⟨_, _, _, rfl, rfl, rfl, rfl, h2⟩⟩
theorem text_toks (σ : List Nat) (hl : σ.length ≤ 12) (hs : ∀ s ∈ σ, s < 13) : ∃ ws p0 p1 p2 p3 p4 q1 q2 q3, toks (txR σ) = .ok (⟨4, wTest, p0⟩ :: ⟨1, [116], p1⟩ :: ⟨5, [123], p2⟩ :: ⟨4, wAssert, p3⟩ :: ⟨1, [97], p4⟩ :: ws) ∧ Ahead (itR 0 σ) ws [⟨5, [59], q1⟩, ⟨5, [125], q2⟩, ⟨0, [], q3⟩] := by
  obtain ⟨ws, h1, h2⟩ := body_toks (txR σ).length σ 0 (by omega) hs
  rw [toks_eq]
  generalize (txR σ).length = n at *
  have s1 : toksA n (skip (txR σ)) = consT ⟨4, wTest, n - (txR σ).length⟩ (toksA n ([116, 32, 123, 32, 97, 115, 115, 101, 114, 116, 32] ++ ((97 :: bdR 0 σ) ++ tlR))) := tk_step n 116 _ 4 4 rfl (by decide) rfl _ rfl
  have s2 : toksA n ([116, 32, 123, 32, 97, 115, 115, 101, 114, 116, 32] ++ ((97 :: bdR 0 σ) ++ tlR)) = consT ⟨1, [116], n - ([116, 32, 123, 32, 97, 115, 115, 101, 114, 116, 32] ++ ((97 :: bdR 0 σ) ++ tlR)).length⟩ (toksA n ([123, 32, 97, 115, 115, 101, 114, 116, 32] ++ ((97 :: bdR 0 σ) ++ tlR))) := tk_step n 116 _ 1 1 rfl (by decide) rfl _ rfl
  have s3 : toksA n ([123, 32, 97, 115, 115, 101, 114, 116, 32] ++ ((97 :: bdR 0 σ) ++ tlR)) = consT ⟨5, [123], n - ([123, 32, 97, 115, 115, 101, 114, 116, 32] ++ ((97 :: bdR 0 σ) ++ tlR)).length⟩ (toksA n ([97, 115, 115, 101, 114, 116, 32] ++ ((97 :: bdR 0 σ) ++ tlR))) := tk_step n 123 _ 5 1 rfl (by decide) rfl _ rfl
  have s4 : toksA n ([97, 115, 115, 101, 114, 116, 32] ++ ((97 :: bdR 0 σ) ++ tlR)) = consT ⟨4, wAssert, n - ([97, 115, 115, 101, 114, 116, 32] ++ ((97 :: bdR 0 σ) ++ tlR)).length⟩ (toksA n ((97 :: bdR 0 σ) ++ tlR)) := tk_step n 97 _ 4 6 rfl (by decide) rfl _ rfl
  have s5 : toksA n ((97 :: bdR 0 σ) ++ tlR) = consT ⟨1, [97], n - ((97 :: bdR 0 σ) ++ tlR).length⟩ (toksA n (skip (bdR 0 σ ++ tlR))) := by
    rcases bd_end 0 σ with ⟨r, e⟩ | ⟨r, e⟩
    all_goals
      rw [List.cons_append, e]
      exact tk_step n 97 _ 1 1 rfl (by decide) rfl _ rfl
  rw [s2, s3, s4, s5, h1] at s1
  simp only [consT] at s1
  exact ⟨ws, _, _, _, _, _, _, _, _, s1, h2⟩
end Rk
end Go.Proofs.YtajoncmmdeahnaaGreatDoor
namespace Go.Proofs.YtajoncmmdeahnaaGreatDoor
namespace Rk
open Pm
theorem want_good {p : Ps} {t : Tk} {r : List Tk} (s : List UInt8) (hw : p.ws = t :: r) (hs : t.s = s) (ho : p.over = false) : wantP s p = .ok ((), { p with ws := r }) := by
  rw [want_eq s hw, hs, if_pos (by rw [beq_iff_eq]), pass_good hw ho]
theorem room_good {p : Ps} (h m : Nat) (hl : h < m) : roomP h m p = .ok ((), p) := by
  unfold roomP
  rw [if_neg (by omega)]
def nP (k : Int) (s : List UInt8) (ks : List Nd) : Nd := .mk k 0 ⟨s.toArray⟩ 0 ks
def prR (σ : List Nat) : Nd := nP 1 [] [nP 4 [116] [nP 6 [] [nP 12 [] [cutT [97] (itR 0 σ)]]]]
theorem it_ok : ∀ (σ : List Nat) (i : Nat), i + σ.length ≤ 12 → (∀ s ∈ σ, s < 13) → ∀ x ∈ itR i σ, 1 ≤ rank x ∧ nameOk x.2 = true
  | [], _, _, _, x, hx => by cases hx
  | s :: r, i, hi, hs, x, hx => by
    rw [List.length_cons] at hi
    rcases List.mem_cons.1 hx with h | h
    · subst h
      have hs1 := hs s (List.mem_cons_self ..)
      refine ⟨?_, ?_⟩
      · show 1 ≤ rankN (sgR s)
        rcases (show s = 0 ∨ s = 1 ∨ s = 2 ∨ s = 3 ∨ s = 4 ∨ s = 5 ∨ s = 6 ∨ s = 7 ∨ s = 8 ∨ s = 9 ∨ s = 10 ∨ s = 11 ∨ s = 12 by omega) with rfl | rfl | rfl | rfl | rfl | rfl | rfl | rfl | rfl | rfl | rfl | rfl | rfl
        all_goals decide
      · show nameOk (nmR i) = true
        rcases (show i = 0 ∨ i = 1 ∨ i = 2 ∨ i = 3 ∨ i = 4 ∨ i = 5 ∨ i = 6 ∨ i = 7 ∨ i = 8 ∨ i = 9 ∨ i = 10 ∨ i = 11 by omega) with rfl | rfl | rfl | rfl | rfl | rfl | rfl | rfl | rfl | rfl | rfl | rfl
        all_goals decide
    · exact it_ok r (i + 1) (by omega) (fun y hy => hs y (List.mem_cons_of_mem _ hy)) x h
theorem name_good {p : Ps} {t : Tk} {r : List Tk} (hw : p.ws = t :: r) (hk : t.kind = 1) (ho : p.over = false) : nameP p = .ok (tkS t, { p with ws := r }) := by
  unfold nameP
  rw [bnd_ok (nxt_eq hw), if_pos (by rw [hk]; rfl), bnd_ok (pass_good hw ho)]
  rfl
theorem text_parse (σ : List Nat) (hl : σ.length ≤ 12) (hs : ∀ s ∈ σ, s < 13) : Sc.parsL 60 (txR σ) = .ok (prR σ) := by
  obtain ⟨ws, p0, p1, p2, p3, p4, q1, q2, q3, ht, hA⟩ := text_toks σ hl hs
  unfold Sc.parsL
  rw [ht]
  simp only []
  have hI := it_ok σ 0 (by omega) hs
  have hlen := itR_len 0 σ
  -- the row
  obtain ⟨pe, e1, e2, e3, e4, e5⟩ := expr_row (t0 := ⟨5, [59], q1⟩) rfl rfl (show rankN [59] = 0 by decide) 59 ⟨1, [97], p4⟩ (itR 0 σ) ⟨⟨1, [97], p4⟩ :: ws, 0, 1, false⟩ ws rfl rfl (show nameOk [97] = true by decide) (by omega) hA hI rfl (by show 0 + 1 + 2 * _ ≤ 1000; omega)
  obtain ⟨wsE, nE, dE, oE⟩ := pe
  have e2 : wsE = [⟨5, [59], q1⟩, ⟨5, [125], q2⟩, ⟨0, [], q3⟩] := e2
  have e3 : dE = 1 := e3
  have e4 : oE = false := e4
  have e5 : nE ≤ 0 + 1 + 2 * (itR 0 σ).length := e5
  subst e2 e3 e4
  -- the line
  have hline : lineP (rc 59) 12 ⟨⟨4, wAssert, p3⟩ :: ⟨1, [97], p4⟩ :: ws, 0, 1, false⟩ = .ok (nP 12 [] [cutT [97] (itR 0 σ)], ⟨[⟨5, [125], q2⟩, ⟨0, [], q3⟩], nE + 1, 1, false⟩) := by
    unfold lineP
    rw [bnd_ok (pass_good rfl rfl), bnd_ok e1]
    unfold endedP
    rw [bnd_ok (want_good [59] rfl rfl rfl), made_good _ (by show nE < 2000; omega)]
    rfl
  have hstmt : statementP (rc 59) ⟨⟨4, wAssert, p3⟩ :: ⟨1, [97], p4⟩ :: ws, 0, 1, false⟩ = .ok (nP 12 [] [cutT [97] (itR 0 σ)], ⟨[⟨5, [125], q2⟩, ⟨0, [], q3⟩], nE + 1, 1, false⟩) := by
    unfold statementP
    rw [bnd_ok (nxt_eq rfl), if_neg (show ¬ (wAssert == wIf) = true by decide), if_neg (show ¬ (wAssert == wFor) = true by decide), if_neg (show ¬ (wAssert == wReturn) = true by decide), if_pos (show (wAssert == wAssert) = true by decide)]
    exact hline
  have hbl : (rc 60).block ⟨⟨5, [123], p2⟩ :: ⟨4, wAssert, p3⟩ :: ⟨1, [97], p4⟩ :: ws, 0, 0, false⟩ = .ok (nP 6 [] [nP 12 [] [cutT [97] (itR 0 σ)]], ⟨[⟨0, [], q3⟩], nE + 2, 0, false⟩) := by
    show blockP (rc 59) _ = _
    unfold blockP
    have ho : openP [123] ⟨⟨5, [123], p2⟩ :: ⟨4, wAssert, p3⟩ :: ⟨1, [97], p4⟩ :: ws, 0, 0, false⟩ = .ok ((), ⟨⟨4, wAssert, p3⟩ :: ⟨1, [97], p4⟩ :: ws, 0, 1, false⟩) := by
      have r1 : openP [123] ⟨⟨5, [123], p2⟩ :: ⟨4, wAssert, p3⟩ :: ⟨1, [97], p4⟩ :: ws, 0, 0, false⟩ = wantP [123] ⟨⟨5, [123], p2⟩ :: ⟨4, wAssert, p3⟩ :: ⟨1, [97], p4⟩ :: ws, 0, 1, false⟩ := rfl
      rw [r1]
      exact want_good [123] rfl rfl rfl
    rw [bnd_ok ho]
    have hbs : (fun p : Ps => blockL (rc 59) (p.ws.length + 1) [] p) ⟨⟨4, wAssert, p3⟩ :: ⟨1, [97], p4⟩ :: ws, 0, 1, false⟩ = .ok ([nP 12 [] [cutT [97] (itR 0 σ)]], ⟨[⟨5, [125], q2⟩, ⟨0, [], q3⟩], nE + 1, 1, false⟩) := by
      show blockL (rc 59) (ws.length + 1 + 1 + 1) [] _ = _
      unfold blockL
      rw [bnd_ok (sees_eq [125] rfl), if_neg (show ¬ (wAssert == [125]) = true by decide), bnd_ok (room_good _ 32 (by decide)), bnd_ok hstmt]
      unfold blockL
      rw [bnd_ok (sees_eq [125] rfl), if_pos (show (([125] : List UInt8) == [125]) = true by decide)]
      rfl
    rw [bnd_ok (x := fun p : Ps => blockL (rc 59) (p.ws.length + 1) [] p) (by exact hbs)]
    have hsh : shutP [125] ⟨[⟨5, [125], q2⟩, ⟨0, [], q3⟩], nE + 1, 1, false⟩ = .ok ((), ⟨[⟨0, [], q3⟩], nE + 1, 0, false⟩) := by
      unfold shutP
      rw [bnd_ok (want_good [125] rfl rfl rfl)]
      rfl
    rw [bnd_ok hsh, made_good _ (by show nE + 1 < 2000; omega)]
    rfl
  have htest : testP (rc 60) ⟨⟨4, wTest, p0⟩ :: ⟨1, [116], p1⟩ :: ⟨5, [123], p2⟩ :: ⟨4, wAssert, p3⟩ :: ⟨1, [97], p4⟩ :: ws, 0, 0, false⟩ = .ok (nP 4 [116] [nP 6 [] [nP 12 [] [cutT [97] (itR 0 σ)]]], ⟨[⟨0, [], q3⟩], nE + 3, 0, false⟩) := by
    unfold testP
    rw [bnd_ok (want_good wTest rfl rfl rfl), bnd_ok (name_good rfl rfl rfl), bnd_ok hbl, made_good _ (by show nE + 2 < 2000; omega)]
    rfl
  have hdecl : declarationP (rc 60) ⟨⟨4, wTest, p0⟩ :: ⟨1, [116], p1⟩ :: ⟨5, [123], p2⟩ :: ⟨4, wAssert, p3⟩ :: ⟨1, [97], p4⟩ :: ws, 0, 0, false⟩ = .ok (nP 4 [116] [nP 6 [] [nP 12 [] [cutT [97] (itR 0 σ)]]], ⟨[⟨0, [], q3⟩], nE + 3, 0, false⟩) := by
    unfold declarationP
    rw [bnd_ok (nxt_eq rfl), if_neg (show ¬ (wTest == wVar) = true by decide), if_neg (show ¬ (wTest == wFunc) = true by decide)]
    exact htest
  have hprog : (fun p : Ps => programL (rc 60) (p.ws.length + 1) 0 [] p) ⟨⟨4, wTest, p0⟩ :: ⟨1, [116], p1⟩ :: ⟨5, [123], p2⟩ :: ⟨4, wAssert, p3⟩ :: ⟨1, [97], p4⟩ :: ws, 0, 0, false⟩ = .ok ([nP 4 [116] [nP 6 [] [nP 12 [] [cutT [97] (itR 0 σ)]]]], ⟨[⟨0, [], q3⟩], nE + 3, 0, false⟩) := by
    show programL (rc 60) (ws.length + 1 + 1 + 1 + 1 + 1 + 1) 0 [] _ = _
    unfold programL
    have r1 : (if (wTest == wVar) = true then (do roomP 0 16; return (0 + 1) : Pr Nat) else (do roomP (([] : List Nd).length - 0) 32; return 0)) ⟨⟨4, wTest, p0⟩ :: ⟨1, [116], p1⟩ :: ⟨5, [123], p2⟩ :: ⟨4, wAssert, p3⟩ :: ⟨1, [97], p4⟩ :: ws, 0, 0, false⟩ = .ok (0, ⟨⟨4, wTest, p0⟩ :: ⟨1, [116], p1⟩ :: ⟨5, [123], p2⟩ :: ⟨4, wAssert, p3⟩ :: ⟨1, [97], p4⟩ :: ws, 0, 0, false⟩) := by
      rw [if_neg (by decide), bnd_ok (room_good _ 32 (by decide))]
      rfl
    rw [bnd_ok (nxt_eq rfl), if_neg (show ¬ (4 == 0) = true by decide), bnd_ok r1, bnd_ok hdecl]
    unfold programL
    rw [bnd_ok (nxt_eq rfl), if_pos (show (0 == 0) = true by decide)]
    rfl
  unfold programP
  rw [bnd_ok (x := fun p : Ps => programL (rc 60) (p.ws.length + 1) 0 [] p) (by exact hprog), bnd_ok (made_good _ (by show nE + 3 < 2000; omega)), bnd_ok (pass_good rfl rfl)]
  rfl
end Rk
end Go.Proofs.YtajoncmmdeahnaaGreatDoor
namespace Go.Proofs.YtajoncmmdeahnaaGreatDoor
open Go.RowKit
namespace Sc
theorem glb_all {w : World} (h : Pm.GlB w w.heap.size) : ∀ W, w.grownBy W none → Pm.GlB W W.heap.size := fun _ g => (h.keptR g (by simp)).up g.size
def TrueP (w : World) (e : Ending) (w' : World) : Prop := e = .returned (.bool true) ∧ w.grownBy w' none
end Sc
end Go.Proofs.YtajoncmmdeahnaaGreatDoor
