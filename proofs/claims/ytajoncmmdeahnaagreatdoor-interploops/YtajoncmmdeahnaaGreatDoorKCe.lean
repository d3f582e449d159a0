/-
  parse.Program: a text's tree, or where it fails, and why. The checker: formed.
-/
import Derived.Test.YtajoncmmdeahnaaGreatDoorQe
import Derived.Test.YtajoncmmdeahnaaGreatDoorKQg
import Derived.Test.YtajoncmmdeahnaaGreatDoorLTk
namespace Go.Proofs.YtajoncmmdeahnaaGreatDoor
open Go.RowKit
namespace Pm
def parseM (k : Nat) (s : ByteArray) : Except (Option (Nat × Nat)) Nd := match toks s.toList with
  | .error p => .error (some (p, 90))
  | .ok l => match programP (rc k) ⟨l, 0, 0, false⟩ with
    | .ok (n, _) => .ok n
    | .error e => .error e
def zV : Value := .agg #[.int .i64 0, .int .i64 0, .string ⟨#[]⟩, .int .i64 0, .slice none 0 0]
def PaP (w : World) (x : Except (Option (Nat × Nat)) Nd) (e : Ending) (w' : World) : Prop := match x with
  | .ok n => ∃ v, e = .returned (.tuple #[v, .int .i64 0, .int .i64 0]) ∧ nV w.heap.size w' n v ∧ w.grownBy w' none
  | .error (some (a, n)) => e = .returned (.tuple #[zV, .int .i64 a, .int .i64 n]) ∧ w.grownBy w' none
  | .error none => True
theorem GlB.up {w : World} {b b' : Nat} (h : GlB w b) (hb : b ≤ b') : GlB w b' := by
  refine ⟨Nat.lt_of_lt_of_le h.low hb, h.opt, h.man, ?_⟩
  obtain ⟨g, o, n, c, h1, h2, h3, h4⟩ := h.pow
  exact ⟨g, o, n, c, h1, h2, Nat.lt_of_lt_of_le h3 hb, h4⟩
set_option maxRecDepth 100000 in
set_option maxHeartbeats 2000000 in
theorem parse_lexbad (s : ByteArray) (w : World) (hs : s.size ≤ 4096) (p : Nat) (ht : toks s.toList = .error p) : Calls Tryz.prog 9 #[.string s] w (PaP w (.error (some (p, 90)))) := by
  have C19 : Hid (∀ W, Calls Tryz.prog 19 #[.string s] W fun e w' => e = .returned (.tuple #[.slice none 0 0, .int .i64 p, .int .i64 90]) ∧ W.grownBy w' none) := fun W => by
    have h := Lw.tokens_any s W hs
    rw [ht] at h
    exact h
  have X0 := hid (Blk.new w 27 #[.int .i64 0, .int .i64 0, .string ⟨#[]⟩, .int .i64 0, .slice none 0 0])
  have X1 := hid (Blk.new (w.alloc (.cells #[.int .i64 0, .int .i64 0, .string ⟨#[]⟩, .int .i64 0, .slice none 0 0] 27)) 3 #[.int .i64 0])
  have X2 := hid (Blk.new ((w.alloc (.cells #[.int .i64 0, .int .i64 0, .string ⟨#[]⟩, .int .i64 0, .slice none 0 0] 27)).alloc (.cells #[.int .i64 0] 3)) 28 #[.int .i64 0])
  rw [World.size_alloc] at X1
  rw [World.size_alloc, World.size_alloc] at X2
  have X0 := hid ((X0.out.alloc (.cells #[.int .i64 0] 3)).alloc (.cells #[.int .i64 0] 28))
  have X1 := hid (X1.out.alloc (.cells #[.int .i64 0] 28))
  clear ht hs
  go_enter_defers Tryz.func9, Tryz.ntmps9
  go_wp2_with (first
    | (go_at_call 19; refine (C19.out _).mono ?_; rintro e w1 ⟨rfl, g⟩; have G1 := hid (grown_none (grown_alloc (grown_alloc (grown_alloc (grown_refl w none) _) _) _) g); have X0 := hid (X0.out.kept g (by simp)); have X1 := hid (X1.out.kept g (by simp)); have X2 := hid (X2.out.kept g (by simp)); clear g; have y1 := X1.out.cell 0; have y2 := X2.out.cell 0; have z1 := X1.out.frozen 0; have z2 := X2.out.frozen 0; simp at y1 y2))
  have gA := grown_set (grown_refl w1 (some (w.heap.size + 1))) 0 (.int .i64 p)
  have X0 := hid (X0.out.kept gA (fun e => by injection e with e; omega))
  have X1 := hid (X1.out.set 0 (.int .i64 p))
  have X2 := hid (X2.out.kept gA (fun e => by injection e with e; omega))
  have G2 := hid (grown_set_new G1.out (a := ⟨w.heap.size + 1, 0, none⟩) (.int .i64 p) (by show _ ≤ w.heap.size + 1; omega))
  clear gA
  generalize w1.setCell ⟨w.heap.size + 1, 0, none⟩ (.int .i64 p) = w2 at *
  have gB := grown_set (grown_refl w2 (some (w.heap.size + 1 + 1))) 0 (.int .i64 90)
  have X0 := hid (X0.out.kept gB (fun e => by injection e with e; omega))
  have X1 := hid (X1.out.kept gB (fun e => by injection e with e; omega))
  have X2 := hid (X2.out.set 0 (.int .i64 90))
  have G3 := hid (grown_set_new G2.out (a := ⟨w.heap.size + 1 + 1, 0, none⟩) (.int .i64 90) (by show _ ≤ w.heap.size + 1 + 1; omega))
  clear gB y1 y2 z1 z2
  generalize w2.setCell ⟨w.heap.size + 1 + 1, 0, none⟩ (.int .i64 90) = w3 at *
  simp at X1 X2
  have F := hid (catch_world p 90 X0.out X1.out X2.out (Nat.le_refl _) (by omega) (by omega) G3.out)
  have n1 : w.heap.size ≠ w.heap.size + 1 := by omega
  have n2 : w.heap.size ≠ w.heap.size + 1 + 1 := by omega
  have n3 : w.heap.size + 1 ≠ w.heap.size + 1 + 1 := by omega
  generalize w.heap.size + 1 + 1 = b2 at *
  generalize w.heap.size + 1 = b1 at *
  have LW : Hid (w.heap.size = w.heap.size) := rfl
  generalize w.heap.size = b0 at *
  have a0 := X0.out.cell 0
  have a1 := X0.out.cell 1
  have a2 := X0.out.cell 2
  have a3 := X0.out.cell 3
  have a4 := X0.out.cell 4
  have a5 := X1.out.cell 0
  have a6 := X2.out.cell 0
  simp at a0 a1 a2 a3 a4 a5 a6
  have z0 := X0.out.frozen 0
  have z1 := X1.out.frozen 0
  have z2 := X2.out.frozen 0
  have z3 := X0.out.frozen 1
  have z4 := X0.out.frozen 2
  have z5 := X0.out.frozen 3
  have z6 := X0.out.frozen 4
  have F1 := hid (F.out.1)
  have F2 := F.out.2.1
  have F3 := F.out.2.2.1
  have F4 := F.out.2.2.2
  unfold set5 at F1 F2 F3 F4
  go_region
  generalize World.drew _ = wf at *
  have c0 := F2.cell 0
  have c1 := F2.cell 1
  have c2 := F2.cell 2
  have c3 := F2.cell 3
  have c4 := F2.cell 4
  have c5 := F3.cell 0
  have c6 := F4.cell 0
  simp at c0 c1 c2 c3 c4 c5 c6
  go_wp2
  refine ⟨_, ?_, rfl, F1.out⟩
  simp [results, Tryz.results9, go_sem, c0, c1, c2, c3, c4, c5, c6, zV]
theorem toksF_len (n : Nat) : ∀ (f : Nat) (l : List UInt8) (r : List Tk), toksF n f l = .ok r → r.length ≤ l.length + 1
  | 0, l, r, h => by
    injection h with h
    subst h
    exact Nat.zero_le _
  | f + 1, [], r, h => by
    injection h with h
    subst h
    exact Nat.le_refl _
  | f + 1, c :: t, r, h => by
    rw [toksF] at h
    by_cases hk : wordK (c :: t) = 0
    · rw [if_pos hk] at h
      cases h
    · rw [if_neg hk] at h
      have h1 := wordN_pos c t hk
      have h2 := skip_le ((c :: t).drop (wordN (c :: t)))
      rw [List.length_drop] at h2
      generalize he : toksF n f (skip ((c :: t).drop (wordN (c :: t)))) = x at h
      cases x with
      | error e => cases h
      | ok l2 =>
        injection h with h
        subst h
        have ih := toksF_len n f _ l2 he
        simp only [List.length_cons] at h2 ⊢
        omega
theorem program_nil (R : Rc) : programP R ⟨[], 0, 0, false⟩ = .error none := rfl
theorem toks_some {k : Nat} {s : List UInt8} {l : List Tk} (h : toks s = .ok l) (hx : programP (rc k) ⟨l, 0, 0, false⟩ ≠ .error none) : 0 < l.length ∧ l.length ≤ s.length + 1 := by
  constructor
  · cases l with
    | nil => exact absurd (program_nil _) hx
    | cons t r => simp
  · have h1 := toksF_len s.length (s.length + 1) (skip s) l h
    have h2 := skip_le s
    omega
theorem new_parser {w1 w3 : World} {pa : Option Addr} {cap base : Nat} {l : List Tk} (hT : Lw.Toks w1 88 base (.slice pa l.length cap) l) (hlen : 0 < l.length) (hk : ∀ i, base ≤ i → i < w1.heap.size → w3.heap[i]? = w1.heap[i]?) (hz : w1.heap.size ≤ w3.heap.size) (hG : GlB w3 w3.heap.size) :
    ∃ tg, PsA (w3.alloc (.cells #[.slice pa l.length cap, .int .i64 0, .int .i64 0, .bool false] 55)) w3.heap.size tg cap l ⟨l, 0, 0, false⟩ := by
  obtain ⟨pa', c', e, h1, h2, _⟩ := Lw.row_form hT
  injection e with e1 e2 e3
  subst e1; subst e3
  obtain ⟨g, rfl, _⟩ := Lw.Toks.cell hT 0 hlen
  have hb := hT.lt g rfl
  refine ⟨g, 0, some ⟨g, 0, none⟩, by rw [List.drop_zero], Nat.zero_le _, ⟨hlen, h1⟩, h2, fun _ => rfl, ?_, by omega, ?_, ?_⟩
  · have := Blk.new w3 55 #[.slice (some ⟨g, 0, none⟩) l.length cap, .int .i64 0, .int .i64 0, .bool false]
    rw [Nat.sub_zero, Nat.sub_zero]
    exact this
  · intro k t ht
    obtain ⟨hkl, rfl⟩ := List.getElem?_eq_some_iff.1 ht
    obtain ⟨g2, e2, c1, c2, c3⟩ := Lw.Toks.cell hT k hkl
    injection e2 with e2
    injection e2 with e2
    subst e2
    have hs : (w3.alloc (.cells #[.slice (some ⟨g, 0, none⟩) l.length cap, .int .i64 0, .int .i64 0, .bool false] 55)).heap[g]? = w1.heap[g]? := by
      rw [← hk g hb.1 hb.2]
      exact (grown_alloc (grown_refl w3 none) _).block g (by omega) (by simp)
    rw [Nat.mul_comm]
    exact ⟨cell_same c1 hs, cell_same c2 hs, cell_same c3 hs⟩
  · exact hG.keptR (grown_alloc (grown_refl w3 none) _) (by simp)
set_option maxRecDepth 100000 in
set_option maxHeartbeats 2000000 in
theorem parse_err (k : Nat) (s : ByteArray) (w : World) (hs : s.size ≤ 4096) (hG : GlB w w.heap.size) (l : List Tk) (ht : toks s.toList = .ok l) (at_ n : Nat) (hz : programP (rc k) ⟨l, 0, 0, false⟩ = .error (some (at_, n))) : Calls Tryz.prog 9 #[.string s] w (PaP w (.error (some (at_, n)))) := by
  have C19 : Hid (∀ W, Calls Tryz.prog 19 #[.string s] W fun e w' => ∃ v, e = .returned (.tuple #[v, .int .i64 0, .int .i64 0]) ∧ Lw.Toks w' 88 W.heap.size v l ∧ W.grownBy w' none) := fun W => by
    have h := Lw.tokens_any s W hs
    rw [ht] at h
    exact h
  obtain ⟨l0, l1⟩ := toks_some (k := k) ht (by rw [hz]; simp)
  have hl : l.length ≤ 50000 := by
    have : s.toList.length = s.size := by rw [ByteArray.toList_eq]; exact Array.length_toList
    omega
  have X0 := hid (Blk.new w 27 #[.int .i64 0, .int .i64 0, .string ⟨#[]⟩, .int .i64 0, .slice none 0 0])
  have X1 := hid (Blk.new (w.alloc (.cells #[.int .i64 0, .int .i64 0, .string ⟨#[]⟩, .int .i64 0, .slice none 0 0] 27)) 3 #[.int .i64 0])
  have X2 := hid (Blk.new ((w.alloc (.cells #[.int .i64 0, .int .i64 0, .string ⟨#[]⟩, .int .i64 0, .slice none 0 0] 27)).alloc (.cells #[.int .i64 0] 3)) 28 #[.int .i64 0])
  rw [World.size_alloc] at X1
  rw [World.size_alloc, World.size_alloc] at X2
  have X0 := hid ((X0.out.alloc (.cells #[.int .i64 0] 3)).alloc (.cells #[.int .i64 0] 28))
  have X1 := hid (X1.out.alloc (.cells #[.int .i64 0] 28))
  have C21 : Hid (∀ b tg cp W, PsA W b tg cp l ⟨l, 0, 0, false⟩ → Calls Tryz.prog 21 #[.pointer (some ⟨b, 0, none⟩)] W (PrP (nV W.heap.size) b tg cp l W (programP (rc k) ⟨l, 0, 0, false⟩))) := fun b tg cp W hW => program_knot hl (fun q W hW h => literal_any W hW h) (fun q W hW h => constant_any W hW h) k W hW (by rw [hz]; simp)
  rw [hz] at C21
  have hmf : ∀ (fn : Fn) (first cap : Array Value) (w : World), (Instr.makeFunc fn first cap).run Tryz.prog w = .ok (.func fn first cap) w := fun _ _ _ _ => rfl
  have LL := hid (And.intro l0 hl)
  have HG := hid hG
  clear ht hs hz hl l0 l1 hG
  go_enter_defers Tryz.func9, Tryz.ntmps9
  go_wp2_with (first
    | (go_at_call 19; refine (C19.out _).mono ?_; rintro e w1 ⟨v, rfl, hT, g⟩; have TT := hid hT; have G1 := hid (grown_none (grown_alloc (grown_alloc (grown_alloc (grown_refl w none) _) _) _) g); have X0 := hid (X0.out.kept g (by simp)); have X1 := hid (X1.out.kept g (by simp)); have X2 := hid (X2.out.kept g (by simp)); have g1 := g.size; rw [World.size_alloc, World.size_alloc, World.size_alloc] at g1; clear g; have y1 := X1.out.cell 0; have y2 := X2.out.cell 0; have z1 := X1.out.frozen 0; have z2 := X2.out.frozen 0; simp at y1 y2; obtain ⟨pa, cap, rfl, _⟩ := Lw.row_form hT; clear hT))
  have T2 := TT.out
  rw [World.size_alloc, World.size_alloc, World.size_alloc] at T2
  have TT := hid T2
  clear T2
  have K1 : Hid (∀ i, w.heap.size + 3 ≤ i → (w1.setCell ⟨w.heap.size + 1, 0, none⟩ (.int .i64 0)).heap[i]? = w1.heap[i]?) := hid fun i hi => heap_setCell_other _ _ _ _ (by show i ≠ w.heap.size + 1; omega)
  have S1 : Hid ((w1.setCell ⟨w.heap.size + 1, 0, none⟩ (.int .i64 0)).heap.size = w1.heap.size ∧ True) := hid ⟨World.size_setCell _ _ _, trivial⟩
  have gA := grown_set (grown_refl w1 (some (w.heap.size + 1))) 0 (.int .i64 0)
  have X0 := hid (X0.out.kept gA (fun e => by injection e with e; omega))
  have X1 := hid (X1.out.set 0 (.int .i64 0))
  have X2 := hid (X2.out.kept gA (fun e => by injection e with e; omega))
  have G2 := hid (grown_set_new G1.out (a := ⟨w.heap.size + 1, 0, none⟩) (.int .i64 0) (by show _ ≤ w.heap.size + 1; omega))
  clear gA
  generalize w1.setCell ⟨w.heap.size + 1, 0, none⟩ (.int .i64 0) = w2 at *
  have K2 : Hid (∀ i, w.heap.size + 3 ≤ i → (w2.setCell ⟨w.heap.size + 1 + 1, 0, none⟩ (.int .i64 0)).heap[i]? = w1.heap[i]?) := hid fun i hi => (heap_setCell_other _ _ _ _ (by show i ≠ w.heap.size + 1 + 1; omega)).trans (K1.out i hi)
  have S2 : Hid ((w2.setCell ⟨w.heap.size + 1 + 1, 0, none⟩ (.int .i64 0)).heap.size = w1.heap.size ∧ True) := hid ⟨(World.size_setCell _ _ _).trans S1.out.1, trivial⟩
  have gB := grown_set (grown_refl w2 (some (w.heap.size + 1 + 1))) 0 (.int .i64 0)
  have X0 := hid (X0.out.kept gB (fun e => by injection e with e; omega))
  have X1 := hid (X1.out.kept gB (fun e => by injection e with e; omega))
  have X2 := hid (X2.out.set 0 (.int .i64 0))
  have G3 := hid (grown_set_new G2.out (a := ⟨w.heap.size + 1 + 1, 0, none⟩) (.int .i64 0) (by show _ ≤ w.heap.size + 1 + 1; omega))
  clear gB y1 y2 z1 z2
  generalize w2.setCell ⟨w.heap.size + 1 + 1, 0, none⟩ (.int .i64 0) = w3 at *
  simp at X1 X2
  obtain ⟨tg, hP⟩ := new_parser (w3 := w3) TT.out LL.out.1 (fun i h1 _ => K2.out i (by omega)) (by have := S2.out.1; omega) ((HG.out.keptR G3.out (by simp)).up G3.out.size)
  rw [S2.out.1] at hP
  have PP := hid hP
  have s3 : w.heap.size + 3 ≤ w3.heap.size := by have := S2.out.1; omega
  have X0 := hid (X0.out.alloc (.cells #[.slice pa l.length cap, .int .i64 0, .int .i64 0, .bool false] 55))
  have X1 := hid (X1.out.alloc (.cells #[.slice pa l.length cap, .int .i64 0, .int .i64 0, .bool false] 55))
  have X2 := hid (X2.out.alloc (.cells #[.slice pa l.length cap, .int .i64 0, .int .i64 0, .bool false] 55))
  have G4 := hid (grown_alloc G3.out (.cells #[.slice pa l.length cap, .int .i64 0, .int .i64 0, .bool false] 55))
  have s4 : w.heap.size + 3 ≤ (w3.alloc (.cells #[.slice pa l.length cap, .int .i64 0, .int .i64 0, .bool false] 55)).heap.size := by rw [World.size_alloc]; omega
  clear hP
  generalize w3.alloc (.cells #[.slice pa l.length cap, .int .i64 0, .int .i64 0, .bool false] 55) = w4 at *
  generalize w1.heap.size = b at *
  go_wp2_with (first
    | (go_at_call 21; refine (C21.out b tg cap _ PP.out).mono ?_; rintro e w5 ⟨rfl, g⟩; have G5 := hid (grown_through G4.out g (by omega)); have X0 := hid (X0.out.kept g (fun e => by injection e with e; omega)); have X1 := hid (X1.out.kept g (fun e => by injection e with e; omega)); have X2 := hid (X2.out.kept g (fun e => by injection e with e; omega)); clear g))
  refine leaves_cons (f := 20) (args := #[.pointer (some ⟨w.heap.size, 0, none⟩), .pointer (some ⟨w.heap.size + 1, 0, none⟩), .pointer (some ⟨w.heap.size + 1 + 1, 0, none⟩)]) (by simp) (by simp [go_sem]) ?_
  refine (catch_thrown w.heap.size (w.heap.size + 1) (w.heap.size + 1 + 1) _ _ _ _ _ _ _ at_ n w _ X0.out X1.out X2.out (Nat.le_refl _) (by omega) (by omega) G5.out).mono ?_
  rintro e u' w6 ⟨rfl, rfl, g6, k0, k1, k2⟩
  have c0 := k0.cell 0
  have c1 := k0.cell 1
  have c2 := k0.cell 2
  have c3 := k0.cell 3
  have c4 := k0.cell 4
  have c5 := k1.cell 0
  have c6 := k2.cell 0
  simp at c0 c1 c2 c3 c4 c5 c6
  refine ⟨.tuple #[zV, .int .i64 at_, .int .i64 n], ?_, rfl, g6⟩
  simp [results, Tryz.results9, go_sem, c0, c1, c2, c3, c4, c5, c6, zV]
set_option maxRecDepth 100000 in
set_option maxHeartbeats 2000000 in
theorem parse_ok (k : Nat) (s : ByteArray) (w : World) (hs : s.size ≤ 4096) (hG : GlB w w.heap.size) (l : List Tk) (ht : toks s.toList = .ok l) (n : Nd) (q : Ps) (hz : programP (rc k) ⟨l, 0, 0, false⟩ = .ok (n, q)) : Calls Tryz.prog 9 #[.string s] w (PaP w (.ok n)) := by
  have C19 : Hid (∀ W, Calls Tryz.prog 19 #[.string s] W fun e w' => ∃ v, e = .returned (.tuple #[v, .int .i64 0, .int .i64 0]) ∧ Lw.Toks w' 88 W.heap.size v l ∧ W.grownBy w' none) := fun W => by
    have h := Lw.tokens_any s W hs
    rw [ht] at h
    exact h
  obtain ⟨l0, l1⟩ := toks_some (k := k) ht (by rw [hz]; simp)
  have hl : l.length ≤ 50000 := by
    have : s.toList.length = s.size := by rw [ByteArray.toList_eq]; exact Array.length_toList
    omega
  have X0 := hid (Blk.new w 27 #[.int .i64 0, .int .i64 0, .string ⟨#[]⟩, .int .i64 0, .slice none 0 0])
  have X1 := hid (Blk.new (w.alloc (.cells #[.int .i64 0, .int .i64 0, .string ⟨#[]⟩, .int .i64 0, .slice none 0 0] 27)) 3 #[.int .i64 0])
  have X2 := hid (Blk.new ((w.alloc (.cells #[.int .i64 0, .int .i64 0, .string ⟨#[]⟩, .int .i64 0, .slice none 0 0] 27)).alloc (.cells #[.int .i64 0] 3)) 28 #[.int .i64 0])
  rw [World.size_alloc] at X1
  rw [World.size_alloc, World.size_alloc] at X2
  have X0 := hid ((X0.out.alloc (.cells #[.int .i64 0] 3)).alloc (.cells #[.int .i64 0] 28))
  have X1 := hid (X1.out.alloc (.cells #[.int .i64 0] 28))
  have C21 : Hid (∀ b tg cp W, PsA W b tg cp l ⟨l, 0, 0, false⟩ → Calls Tryz.prog 21 #[.pointer (some ⟨b, 0, none⟩)] W (PrP (nV W.heap.size) b tg cp l W (programP (rc k) ⟨l, 0, 0, false⟩))) := fun b tg cp W hW => program_knot hl (fun q W hW h => literal_any W hW h) (fun q W hW h => constant_any W hW h) k W hW (by rw [hz]; simp)
  rw [hz] at C21
  have hmf : ∀ (fn : Fn) (first cap : Array Value) (w : World), (Instr.makeFunc fn first cap).run Tryz.prog w = .ok (.func fn first cap) w := fun _ _ _ _ => rfl
  have LL := hid (And.intro l0 hl)
  have HG := hid hG
  clear ht hs hz hl l0 l1 hG
  go_enter_defers Tryz.func9, Tryz.ntmps9
  go_wp2_with (first
    | (go_at_call 19; refine (C19.out _).mono ?_; rintro e w1 ⟨v, rfl, hT, g⟩; have TT := hid hT; have G1 := hid (grown_none (grown_alloc (grown_alloc (grown_alloc (grown_refl w none) _) _) _) g); have X0 := hid (X0.out.kept g (by simp)); have X1 := hid (X1.out.kept g (by simp)); have X2 := hid (X2.out.kept g (by simp)); have g1 := g.size; rw [World.size_alloc, World.size_alloc, World.size_alloc] at g1; clear g; have y1 := X1.out.cell 0; have y2 := X2.out.cell 0; have z1 := X1.out.frozen 0; have z2 := X2.out.frozen 0; simp at y1 y2; obtain ⟨pa, cap, rfl, _⟩ := Lw.row_form hT; clear hT))
  have T2 := TT.out
  rw [World.size_alloc, World.size_alloc, World.size_alloc] at T2
  have TT := hid T2
  clear T2
  have K1 : Hid (∀ i, w.heap.size + 3 ≤ i → (w1.setCell ⟨w.heap.size + 1, 0, none⟩ (.int .i64 0)).heap[i]? = w1.heap[i]?) := hid fun i hi => heap_setCell_other _ _ _ _ (by show i ≠ w.heap.size + 1; omega)
  have S1 : Hid ((w1.setCell ⟨w.heap.size + 1, 0, none⟩ (.int .i64 0)).heap.size = w1.heap.size ∧ True) := hid ⟨World.size_setCell _ _ _, trivial⟩
  have gA := grown_set (grown_refl w1 (some (w.heap.size + 1))) 0 (.int .i64 0)
  have X0 := hid (X0.out.kept gA (fun e => by injection e with e; omega))
  have X1 := hid (X1.out.set 0 (.int .i64 0))
  have X2 := hid (X2.out.kept gA (fun e => by injection e with e; omega))
  have G2 := hid (grown_set_new G1.out (a := ⟨w.heap.size + 1, 0, none⟩) (.int .i64 0) (by show _ ≤ w.heap.size + 1; omega))
  clear gA
  generalize w1.setCell ⟨w.heap.size + 1, 0, none⟩ (.int .i64 0) = w2 at *
  have K2 : Hid (∀ i, w.heap.size + 3 ≤ i → (w2.setCell ⟨w.heap.size + 1 + 1, 0, none⟩ (.int .i64 0)).heap[i]? = w1.heap[i]?) := hid fun i hi => (heap_setCell_other _ _ _ _ (by show i ≠ w.heap.size + 1 + 1; omega)).trans (K1.out i hi)
  have S2 : Hid ((w2.setCell ⟨w.heap.size + 1 + 1, 0, none⟩ (.int .i64 0)).heap.size = w1.heap.size ∧ True) := hid ⟨(World.size_setCell _ _ _).trans S1.out.1, trivial⟩
  have gB := grown_set (grown_refl w2 (some (w.heap.size + 1 + 1))) 0 (.int .i64 0)
  have X0 := hid (X0.out.kept gB (fun e => by injection e with e; omega))
  have X1 := hid (X1.out.kept gB (fun e => by injection e with e; omega))
  have X2 := hid (X2.out.set 0 (.int .i64 0))
  have G3 := hid (grown_set_new G2.out (a := ⟨w.heap.size + 1 + 1, 0, none⟩) (.int .i64 0) (by show _ ≤ w.heap.size + 1 + 1; omega))
  clear gB y1 y2 z1 z2
  generalize w2.setCell ⟨w.heap.size + 1 + 1, 0, none⟩ (.int .i64 0) = w3 at *
  simp at X1 X2
  obtain ⟨tg, hP⟩ := new_parser (w3 := w3) TT.out LL.out.1 (fun i h1 _ => K2.out i (by omega)) (by have := S2.out.1; omega) ((HG.out.keptR G3.out (by simp)).up G3.out.size)
  rw [S2.out.1] at hP
  have PP := hid hP
  have s3 : w.heap.size + 3 ≤ w3.heap.size := by have := S2.out.1; omega
  have X0 := hid (X0.out.alloc (.cells #[.slice pa l.length cap, .int .i64 0, .int .i64 0, .bool false] 55))
  have X1 := hid (X1.out.alloc (.cells #[.slice pa l.length cap, .int .i64 0, .int .i64 0, .bool false] 55))
  have X2 := hid (X2.out.alloc (.cells #[.slice pa l.length cap, .int .i64 0, .int .i64 0, .bool false] 55))
  have G4 := hid (grown_alloc G3.out (.cells #[.slice pa l.length cap, .int .i64 0, .int .i64 0, .bool false] 55))
  have s4 : w.heap.size + 3 ≤ (w3.alloc (.cells #[.slice pa l.length cap, .int .i64 0, .int .i64 0, .bool false] 55)).heap.size := by rw [World.size_alloc]; omega
  clear hP
  generalize w3.alloc (.cells #[.slice pa l.length cap, .int .i64 0, .int .i64 0, .bool false] 55) = w4 at *
  generalize w1.heap.size = b at *
  go_wp2_with (first
    | (go_at_call 21; refine (C21.out b tg cap _ PP.out).mono ?_; rintro e w5 ⟨v5, rfl, hv, _, g⟩; obtain ⟨qs5, rfl, hk⟩ := hv; obtain ⟨ps5, cs5, rfl, _, _, _⟩ := hk.form; have K5 := hid (hk.mono (Q := fun g => w.heap.size + 3 ≤ g) (fun g h1 _ => by have h9 : w4.heap.size ≤ g := h1; omega)); have G5 := hid (grown_through G4.out g (by omega)); have X0 := hid (X0.out.kept g (fun e => by injection e with e; omega)); have X1 := hid (X1.out.kept g (fun e => by injection e with e; omega)); have X2 := hid (X2.out.kept g (fun e => by injection e with e; omega)); clear g hk)
    | (refine store_nd (.tmp 2) (.tmp 21) rfl rfl w.heap.size X0.out rfl rfl ?_; intro w6 b6 g6; have X0 := hid b6; have G6 := hid (grown_through G5.out g6 (Nat.le_refl _)); have X1 := hid (X1.out.kept g6 (fun e => by injection e with e; omega)); have X2 := hid (X2.out.kept g6 (fun e => by injection e with e; omega)); have K6 := hid (K5.out.keptB g6 (by omega)); clear b6 g6; have y1 := X1.out.cell 0; have y2 := X2.out.cell 0; have z1 := X1.out.frozen 0; have z2 := X2.out.frozen 0; simp at y1 y2))
  have gA := grown_set (grown_refl w6 (some (w.heap.size + 1))) 0 (.int .i64 0)
  have X0 := hid (X0.out.kept gA (fun e => by injection e with e; omega))
  have X1 := hid (X1.out.set 0 (.int .i64 0))
  have X2 := hid (X2.out.kept gA (fun e => by injection e with e; omega))
  have K7 := hid (K6.out.keptB gA (by omega))
  have G7 := hid (grown_set_new G6.out (a := ⟨w.heap.size + 1, 0, none⟩) (.int .i64 0) (by show _ ≤ w.heap.size + 1; omega))
  clear gA
  generalize w6.setCell ⟨w.heap.size + 1, 0, none⟩ (.int .i64 0) = w7 at *
  have gB := grown_set (grown_refl w7 (some (w.heap.size + 1 + 1))) 0 (.int .i64 0)
  have X0 := hid (X0.out.kept gB (fun e => by injection e with e; omega))
  have X1 := hid (X1.out.kept gB (fun e => by injection e with e; omega))
  have X2 := hid (X2.out.set 0 (.int .i64 0))
  have K8 := hid (K7.out.keptB gB (by omega))
  have G8 := hid (grown_set_new G7.out (a := ⟨w.heap.size + 1 + 1, 0, none⟩) (.int .i64 0) (by show _ ≤ w.heap.size + 1 + 1; omega))
  clear gB y1 y2 z1 z2
  generalize w7.setCell ⟨w.heap.size + 1 + 1, 0, none⟩ (.int .i64 0) = w8 at *
  refine leaves_cons (f := 20) (args := #[.pointer (some ⟨w.heap.size, 0, none⟩), .pointer (some ⟨w.heap.size + 1, 0, none⟩), .pointer (some ⟨w.heap.size + 1 + 1, 0, none⟩)]) (by simp) (by simp [go_sem]) ?_
  refine (catch_idle _ _ _ _).mono ?_
  rintro e u' w9 ⟨rfl, rfl, rfl⟩
  have c0 := X0.out.cell 0
  have c1 := X0.out.cell 1
  have c2 := X0.out.cell 2
  have c3 := X0.out.cell 3
  have c4 := X0.out.cell 4
  have c5 := X1.out.cell 0
  have c6 := X2.out.cell 0
  simp at c0 c1 c2 c3 c4 c5 c6
  refine ⟨.tuple #[.agg #[.int .i64 n.kind, .int .i64 n.ty, .string n.txt, .int .i64 n.num, .slice ps5 n.kids.length cs5], .int .i64 0, .int .i64 0], ?_, _, rfl, ⟨_, rfl, K8.out.mono (fun g hg _ => by have h9 : w.heap.size + 3 ≤ g := hg; omega)⟩, G8.out⟩
  simp [results, Tryz.results9, go_sem, c0, c1, c2, c3, c4, c5, c6]
theorem parse_any (k : Nat) (s : ByteArray) (w : World) (hs : s.size ≤ 4096) (hG : GlB w w.heap.size) (hx : parseM k s ≠ .error none) : Calls Tryz.prog 9 #[.string s] w (PaP w (parseM k s)) := by
  unfold parseM at hx ⊢
  cases ht : toks s.toList with
  | error p => exact parse_lexbad s w hs p ht
  | ok l =>
    rw [ht] at hx
    simp only [] at hx ⊢
    rcases hz : programP (rc k) ⟨l, 0, 0, false⟩ with e | ⟨n, q⟩
    · rw [hz] at hx
      simp only [] at hx ⊢
      rcases e with _ | ⟨at_, n⟩
      · exact absurd rfl hx
      · exact parse_err k s w hs hG l ht at_ n hz
    · exact parse_ok k s w hs hG l ht n q hz
end Pm
end Go.Proofs.YtajoncmmdeahnaaGreatDoor
namespace Go.Proofs.YtajoncmmdeahnaaGreatDoor
open Go.RowKit
namespace Ck
set_option maxRecDepth 100000 in
set_option maxHeartbeats 1000000 in
theorem form1 (t : Int) (s : ByteArray) (n : Int) (p : Option Addr) (l c : Nat) (w : World) : Calls Tryz.prog 27 #[.agg #[.int .i64 1, .int .i64 t, .string s, .int .i64 n, .slice p l c]] w (BP (bareB t s n) w) := by
  have C49 : Hid (∀ W, Calls Tryz.prog 49 #[.agg #[.int .i64 1, .int .i64 t, .string s, .int .i64 n, .slice p l c]] W (BP (bareB t s n) W)) := fun W => isBare_any 1 t s n p l c W
  generalize bareB t s n = a at *
  cases a
  all_goals
    go_enter Tryz.func27, Tryz.ntmps27
    go_wp2_with (first
      | (go_at_call 49; refine (C49.out _).mono ?_; rintro e w1 ⟨rfl, g⟩; have G1 := hid (grown_none (grown_alloc (grown_refl w none) _) g); clear g))
    go_ret
    first
      | exact ⟨rfl, G1.out⟩
      | exact ⟨rfl, grown_alloc (grown_refl w none) _⟩
set_option maxRecDepth 100000 in
set_option maxHeartbeats 1000000 in
theorem form2 (t : Int) (s : ByteArray) (n : Int) (p : Option Addr) (l c : Nat) (w : World) (hs : (s.size : Int) ≤ 9223372036854775807) : Calls Tryz.prog 27 #[.agg #[.int .i64 2, .int .i64 t, .string s, .int .i64 n, .slice p l c]] w (BP (typedB t s n && l == 1) w) := by
  have C50 : Hid (∀ W, Calls Tryz.prog 50 #[.agg #[.int .i64 2, .int .i64 t, .string s, .int .i64 n, .slice p l c]] W (BP (typedB t s n) W)) := fun W => isTyped_any 2 t s n p l c W hs
  generalize typedB t s n = a at *
  clear hs
  cases a <;> cases h4 : (l == 1)
  all_goals
    have i1 := natI1 l
    rw [h4] at i1
    clear h4
    go_enter Tryz.func27, Tryz.ntmps27
    go_wp2_with (first
      | (go_at_call 50; refine (C50.out _).mono ?_; rintro e w1 ⟨rfl, g⟩; have G1 := hid (grown_none (grown_alloc (grown_refl w none) _) g); clear g))
    go_ret
    first
      | exact ⟨rfl, G1.out⟩
      | exact ⟨rfl, grown_alloc (grown_refl w none) _⟩
set_option maxRecDepth 100000 in
set_option maxHeartbeats 1000000 in
theorem form3 (t : Int) (s : ByteArray) (n : Int) (p : Option Addr) (l c : Nat) (w : World) (hs : (s.size : Int) ≤ 9223372036854775807) : Calls Tryz.prog 27 #[.agg #[.int .i64 3, .int .i64 t, .string s, .int .i64 n, .slice p l c]] w (BP (typedB t s n && decide (1 ≤ l) && decide (l ≤ 7)) w) := by
  have C50 : Hid (∀ W, Calls Tryz.prog 50 #[.agg #[.int .i64 3, .int .i64 t, .string s, .int .i64 n, .slice p l c]] W (BP (typedB t s n) W)) := fun W => isTyped_any 3 t s n p l c W hs
  generalize typedB t s n = a at *
  clear hs
  cases a <;> cases h5 : decide (1 ≤ l) <;> cases h4 : decide (l ≤ 7)
  all_goals
    have i7 := natLe7 l
    rw [h4] at i7
    clear h4
    have i9 := natGe1 l
    rw [h5] at i9
    clear h5
    go_enter Tryz.func27, Tryz.ntmps27
    go_wp2_with (first
      | (go_at_call 50; refine (C50.out _).mono ?_; rintro e w1 ⟨rfl, g⟩; have G1 := hid (grown_none (grown_alloc (grown_refl w none) _) g); clear g))
    go_ret
    first
      | exact ⟨rfl, G1.out⟩
      | exact ⟨rfl, grown_alloc (grown_refl w none) _⟩
set_option maxRecDepth 100000 in
set_option maxHeartbeats 1000000 in
theorem form5 (t : Int) (s : ByteArray) (n : Int) (p : Option Addr) (l c : Nat) (w : World) (hs : (s.size : Int) ≤ 9223372036854775807) : Calls Tryz.prog 27 #[.agg #[.int .i64 5, .int .i64 t, .string s, .int .i64 n, .slice p l c]] w (BP (typedB t s n && l == 0) w) := by
  have C50 : Hid (∀ W, Calls Tryz.prog 50 #[.agg #[.int .i64 5, .int .i64 t, .string s, .int .i64 n, .slice p l c]] W (BP (typedB t s n) W)) := fun W => isTyped_any 5 t s n p l c W hs
  generalize typedB t s n = a at *
  clear hs
  cases a <;> cases h4 : (l == 0)
  all_goals
    have i0 := natI0 l
    rw [h4] at i0
    clear h4
    go_enter Tryz.func27, Tryz.ntmps27
    go_wp2_with (first
      | (go_at_call 50; refine (C50.out _).mono ?_; rintro e w1 ⟨rfl, g⟩; have G1 := hid (grown_none (grown_alloc (grown_refl w none) _) g); clear g))
    go_ret
    first
      | exact ⟨rfl, G1.out⟩
      | exact ⟨rfl, grown_alloc (grown_refl w none) _⟩
set_option maxRecDepth 100000 in
set_option maxHeartbeats 1000000 in
theorem form4 (t : Int) (s : ByteArray) (n : Int) (p : Option Addr) (l c : Nat) (w : World) (hs : (s.size : Int) ≤ 9223372036854775807) : Calls Tryz.prog 27 #[.agg #[.int .i64 4, .int .i64 t, .string s, .int .i64 n, .slice p l c]] w (BP (t == 0 && n == 0 && nmB s.data.toList && l == 1) w) := by
  have CN : Hid (∀ W, Calls Tryz.prog 51 #[.string s] W fun e w' => e = .returned (.bool (nmB s.data.toList)) ∧ w' = W) := fun W => isName_data s W hs
  generalize nmB s.data.toList = nb at *
  clear hs
  cases h2 : (t == 0) <;> cases h3 : (n == 0) <;> cases nb <;> cases h4 : (l == 1)
  all_goals
    have i1 := natI1 l
    rw [h4] at i1
    clear h4
    go_enter Tryz.func27, Tryz.ntmps27
    go_wp2_with (first
      | (go_at_call 51; refine (CN.out _).mono ?_; rintro e w1 ⟨rfl, hw⟩; replace hw := hw.symm; subst hw; clear CN))
    go_ret
    first
      | exact ⟨rfl, G1.out⟩
      | exact ⟨rfl, grown_alloc (grown_refl w none) _⟩
set_option maxRecDepth 100000 in
set_option maxHeartbeats 1000000 in
theorem form7 (t : Int) (s : ByteArray) (n : Int) (p : Option Addr) (l c : Nat) (w : World) (hs : (s.size : Int) ≤ 9223372036854775807) : Calls Tryz.prog 27 #[.agg #[.int .i64 7, .int .i64 t, .string s, .int .i64 n, .slice p l c]] w (BP (t == 0 && n == 0 && nmB s.data.toList && l == 1) w) := by
  have CN : Hid (∀ W, Calls Tryz.prog 51 #[.string s] W fun e w' => e = .returned (.bool (nmB s.data.toList)) ∧ w' = W) := fun W => isName_data s W hs
  generalize nmB s.data.toList = nb at *
  clear hs
  cases h2 : (t == 0) <;> cases h3 : (n == 0) <;> cases nb <;> cases h4 : (l == 1)
  all_goals
    have i1 := natI1 l
    rw [h4] at i1
    clear h4
    go_enter Tryz.func27, Tryz.ntmps27
    go_wp2_with (first
      | (go_at_call 51; refine (CN.out _).mono ?_; rintro e w1 ⟨rfl, hw⟩; replace hw := hw.symm; subst hw; clear CN))
    go_ret
    first
      | exact ⟨rfl, G1.out⟩
      | exact ⟨rfl, grown_alloc (grown_refl w none) _⟩
set_option maxRecDepth 100000 in
set_option maxHeartbeats 1000000 in
theorem form8 (t : Int) (s : ByteArray) (n : Int) (p : Option Addr) (l c : Nat) (w : World) (hs : (s.size : Int) ≤ 9223372036854775807) : Calls Tryz.prog 27 #[.agg #[.int .i64 8, .int .i64 t, .string s, .int .i64 n, .slice p l c]] w (BP (t == 0 && n == 0 && nmB s.data.toList && l == 1) w) := by
  have CN : Hid (∀ W, Calls Tryz.prog 51 #[.string s] W fun e w' => e = .returned (.bool (nmB s.data.toList)) ∧ w' = W) := fun W => isName_data s W hs
  generalize nmB s.data.toList = nb at *
  clear hs
  cases h2 : (t == 0) <;> cases h3 : (n == 0) <;> cases nb <;> cases h4 : (l == 1)
  all_goals
    have i1 := natI1 l
    rw [h4] at i1
    clear h4
    go_enter Tryz.func27, Tryz.ntmps27
    go_wp2_with (first
      | (go_at_call 51; refine (CN.out _).mono ?_; rintro e w1 ⟨rfl, hw⟩; replace hw := hw.symm; subst hw; clear CN))
    go_ret
    first
      | exact ⟨rfl, G1.out⟩
      | exact ⟨rfl, grown_alloc (grown_refl w none) _⟩
set_option maxRecDepth 100000 in
set_option maxHeartbeats 1000000 in
theorem form6 (t : Int) (s : ByteArray) (n : Int) (p : Option Addr) (l c : Nat) (w : World) : Calls Tryz.prog 27 #[.agg #[.int .i64 6, .int .i64 t, .string s, .int .i64 n, .slice p l c]] w (BP (bareB t s n && decide (l ≤ 32)) w) := by
  have C49 : Hid (∀ W, Calls Tryz.prog 49 #[.agg #[.int .i64 6, .int .i64 t, .string s, .int .i64 n, .slice p l c]] W (BP (bareB t s n) W)) := fun W => isBare_any 6 t s n p l c W
  generalize bareB t s n = a at *
  cases a <;> cases h4 : decide (l ≤ 32)
  all_goals
    have i7 := natLe32 l
    rw [h4] at i7
    clear h4
    go_enter Tryz.func27, Tryz.ntmps27
    go_wp2_with (first
      | (go_at_call 49; refine (C49.out _).mono ?_; rintro e w1 ⟨rfl, g⟩; have G1 := hid (grown_none (grown_alloc (grown_refl w none) _) g); clear g))
    go_ret
    first
      | exact ⟨rfl, G1.out⟩
      | exact ⟨rfl, grown_alloc (grown_refl w none) _⟩
set_option maxRecDepth 100000 in
set_option maxHeartbeats 1000000 in
theorem form9 (t : Int) (s : ByteArray) (n : Int) (p : Option Addr) (l c : Nat) (w : World) : Calls Tryz.prog 27 #[.agg #[.int .i64 9, .int .i64 t, .string s, .int .i64 n, .slice p l c]] w (BP (bareB t s n && (l == 2 || l == 3)) w) := by
  have C49 : Hid (∀ W, Calls Tryz.prog 49 #[.agg #[.int .i64 9, .int .i64 t, .string s, .int .i64 n, .slice p l c]] W (BP (bareB t s n) W)) := fun W => isBare_any 9 t s n p l c W
  generalize bareB t s n = a at *
  cases a <;> cases h5 : (l == 2) <;> cases h4 : (l == 3)
  all_goals first | (exfalso; rw [beq_iff_eq] at h4 h5; omega) | skip
  all_goals
    have i2 := natI2 l
    rw [h5] at i2
    clear h5
    have i3 := natI3 l
    rw [h4] at i3
    clear h4
    go_enter Tryz.func27, Tryz.ntmps27
    go_wp2_with (first
      | (go_at_call 49; refine (C49.out _).mono ?_; rintro e w1 ⟨rfl, g⟩; have G1 := hid (grown_none (grown_alloc (grown_refl w none) _) g); clear g))
    go_ret
    first
      | exact ⟨rfl, G1.out⟩
      | exact ⟨rfl, grown_alloc (grown_refl w none) _⟩
set_option maxRecDepth 100000 in
set_option maxHeartbeats 1000000 in
theorem form10 (t : Int) (s : ByteArray) (n : Int) (p : Option Addr) (l c : Nat) (w : World) : Calls Tryz.prog 27 #[.agg #[.int .i64 10, .int .i64 t, .string s, .int .i64 n, .slice p l c]] w (BP (bareB t s n && l == 2) w) := by
  have C49 : Hid (∀ W, Calls Tryz.prog 49 #[.agg #[.int .i64 10, .int .i64 t, .string s, .int .i64 n, .slice p l c]] W (BP (bareB t s n) W)) := fun W => isBare_any 10 t s n p l c W
  generalize bareB t s n = a at *
  cases a <;> cases h4 : (l == 2)
  all_goals
    have i2 := natI2 l
    rw [h4] at i2
    clear h4
    go_enter Tryz.func27, Tryz.ntmps27
    go_wp2_with (first
      | (go_at_call 49; refine (C49.out _).mono ?_; rintro e w1 ⟨rfl, g⟩; have G1 := hid (grown_none (grown_alloc (grown_refl w none) _) g); clear g))
    go_ret
    first
      | exact ⟨rfl, G1.out⟩
      | exact ⟨rfl, grown_alloc (grown_refl w none) _⟩
set_option maxRecDepth 100000 in
set_option maxHeartbeats 1000000 in
theorem form11 (t : Int) (s : ByteArray) (n : Int) (p : Option Addr) (l c : Nat) (w : World) : Calls Tryz.prog 27 #[.agg #[.int .i64 11, .int .i64 t, .string s, .int .i64 n, .slice p l c]] w (BP (bareB t s n && l == 1) w) := by
  have C49 : Hid (∀ W, Calls Tryz.prog 49 #[.agg #[.int .i64 11, .int .i64 t, .string s, .int .i64 n, .slice p l c]] W (BP (bareB t s n) W)) := fun W => isBare_any 11 t s n p l c W
  generalize bareB t s n = a at *
  cases a <;> cases h4 : (l == 1)
  all_goals
    have i1 := natI1 l
    rw [h4] at i1
    clear h4
    go_enter Tryz.func27, Tryz.ntmps27
    go_wp2_with (first
      | (go_at_call 49; refine (C49.out _).mono ?_; rintro e w1 ⟨rfl, g⟩; have G1 := hid (grown_none (grown_alloc (grown_refl w none) _) g); clear g))
    go_ret
    first
      | exact ⟨rfl, G1.out⟩
      | exact ⟨rfl, grown_alloc (grown_refl w none) _⟩
set_option maxRecDepth 100000 in
set_option maxHeartbeats 1000000 in
theorem form12 (t : Int) (s : ByteArray) (n : Int) (p : Option Addr) (l c : Nat) (w : World) : Calls Tryz.prog 27 #[.agg #[.int .i64 12, .int .i64 t, .string s, .int .i64 n, .slice p l c]] w (BP (bareB t s n && l == 1) w) := by
  have C49 : Hid (∀ W, Calls Tryz.prog 49 #[.agg #[.int .i64 12, .int .i64 t, .string s, .int .i64 n, .slice p l c]] W (BP (bareB t s n) W)) := fun W => isBare_any 12 t s n p l c W
  generalize bareB t s n = a at *
  cases a <;> cases h4 : (l == 1)
  all_goals
    have i1 := natI1 l
    rw [h4] at i1
    clear h4
    go_enter Tryz.func27, Tryz.ntmps27
    go_wp2_with (first
      | (go_at_call 49; refine (C49.out _).mono ?_; rintro e w1 ⟨rfl, g⟩; have G1 := hid (grown_none (grown_alloc (grown_refl w none) _) g); clear g))
    go_ret
    first
      | exact ⟨rfl, G1.out⟩
      | exact ⟨rfl, grown_alloc (grown_refl w none) _⟩
set_option maxRecDepth 100000 in
set_option maxHeartbeats 1000000 in
theorem form13 (t : Int) (s : ByteArray) (n : Int) (p : Option Addr) (l c : Nat) (w : World) : Calls Tryz.prog 27 #[.agg #[.int .i64 13, .int .i64 t, .string s, .int .i64 n, .slice p l c]] w (BP (bareB t s n && l == 1) w) := by
  have C49 : Hid (∀ W, Calls Tryz.prog 49 #[.agg #[.int .i64 13, .int .i64 t, .string s, .int .i64 n, .slice p l c]] W (BP (bareB t s n) W)) := fun W => isBare_any 13 t s n p l c W
  generalize bareB t s n = a at *
  cases a <;> cases h4 : (l == 1)
  all_goals
    have i1 := natI1 l
    rw [h4] at i1
    clear h4
    go_enter Tryz.func27, Tryz.ntmps27
    go_wp2_with (first
      | (go_at_call 49; refine (C49.out _).mono ?_; rintro e w1 ⟨rfl, g⟩; have G1 := hid (grown_none (grown_alloc (grown_refl w none) _) g); clear g))
    go_ret
    first
      | exact ⟨rfl, G1.out⟩
      | exact ⟨rfl, grown_alloc (grown_refl w none) _⟩
set_option maxRecDepth 100000 in
set_option maxHeartbeats 1000000 in
theorem form14 (t : Int) (s : ByteArray) (n : Int) (p : Option Addr) (l c : Nat) (w : World) : Calls Tryz.prog 27 #[.agg #[.int .i64 14, .int .i64 t, .string s, .int .i64 n, .slice p l c]] w (BP (bareB t s n && l == 0) w) := by
  have C49 : Hid (∀ W, Calls Tryz.prog 49 #[.agg #[.int .i64 14, .int .i64 t, .string s, .int .i64 n, .slice p l c]] W (BP (bareB t s n) W)) := fun W => isBare_any 14 t s n p l c W
  generalize bareB t s n = a at *
  cases a <;> cases h4 : (l == 0)
  all_goals
    have i0 := natI0 l
    rw [h4] at i0
    clear h4
    go_enter Tryz.func27, Tryz.ntmps27
    go_wp2_with (first
      | (go_at_call 49; refine (C49.out _).mono ?_; rintro e w1 ⟨rfl, g⟩; have G1 := hid (grown_none (grown_alloc (grown_refl w none) _) g); clear g))
    go_ret
    first
      | exact ⟨rfl, G1.out⟩
      | exact ⟨rfl, grown_alloc (grown_refl w none) _⟩
set_option maxRecDepth 100000 in
set_option maxHeartbeats 1000000 in
theorem formO (k t : Int) (n1 : k ≠ 1) (n2 : k ≠ 2) (n3 : k ≠ 3) (n5 : k ≠ 5) (n4 : k ≠ 4) (n7 : k ≠ 7) (n8 : k ≠ 8) (n6 : k ≠ 6) (n9 : k ≠ 9) (n10 : k ≠ 10) (n11 : k ≠ 11) (n12 : k ≠ 12) (n13 : k ≠ 13) (n14 : k ≠ 14) (s : ByteArray) (n : Int) (p : Option Addr) (l c : Nat) (w : World) (hs : (s.size : Int) ≤ 9223372036854775807) (hG : Pm.GlB w w.heap.size) (b : Bool) (hb : fexpB k s n l = some b) : Calls Tryz.prog 27 #[.agg #[.int .i64 k, .int .i64 t, .string s, .int .i64 n, .slice p l c]] w (BP (b) w) := by
  have C52 : Hid (∀ W, w.grownBy W none → Calls Tryz.prog 52 #[.agg #[.int .i64 k, .int .i64 t, .string s, .int .i64 n, .slice p l c]] W (BP b W)) := fun W hW => fexp_any k t s n p l c W hs ((hG.keptR hW (by simp)).up hW.size) b hb
  have k1 : (k == 1) = false := by rw [beq_eq_false_iff_ne]; exact n1
  have k2 : (k == 2) = false := by rw [beq_eq_false_iff_ne]; exact n2
  have k3 : (k == 3) = false := by rw [beq_eq_false_iff_ne]; exact n3
  have k5 : (k == 5) = false := by rw [beq_eq_false_iff_ne]; exact n5
  have k4 : (k == 4) = false := by rw [beq_eq_false_iff_ne]; exact n4
  have k7 : (k == 7) = false := by rw [beq_eq_false_iff_ne]; exact n7
  have k8 : (k == 8) = false := by rw [beq_eq_false_iff_ne]; exact n8
  have k6 : (k == 6) = false := by rw [beq_eq_false_iff_ne]; exact n6
  have k9 : (k == 9) = false := by rw [beq_eq_false_iff_ne]; exact n9
  have k10 : (k == 10) = false := by rw [beq_eq_false_iff_ne]; exact n10
  have k11 : (k == 11) = false := by rw [beq_eq_false_iff_ne]; exact n11
  have k12 : (k == 12) = false := by rw [beq_eq_false_iff_ne]; exact n12
  have k13 : (k == 13) = false := by rw [beq_eq_false_iff_ne]; exact n13
  have k14 : (k == 14) = false := by rw [beq_eq_false_iff_ne]; exact n14
  clear n1 n2 n3 n5 n4 n7 n8 n6 n9 n10 n11 n12 n13 n14 hG hb hs
  cases b
  all_goals
    go_enter Tryz.func27, Tryz.ntmps27
    go_wp2_with (first
      | (go_at_call 52; refine (C52.out _ (grown_alloc (grown_refl w none) _)).mono ?_; rintro e w1 ⟨rfl, g⟩; have G1 := hid (grown_none (grown_alloc (grown_refl w none) _) g); clear g))
    go_ret
    first
      | exact ⟨rfl, G1.out⟩
      | exact ⟨rfl, grown_alloc (grown_refl w none) _⟩
theorem form_any (k t : Int) (s : ByteArray) (n : Int) (p : Option Addr) (l c : Nat) (w : World) (hs : (s.size : Int) ≤ 9223372036854775807) (hG : Pm.GlB w w.heap.size) (b : Bool) (hb : formB k t s n l = some b) : Calls Tryz.prog 27 #[.agg #[.int .i64 k, .int .i64 t, .string s, .int .i64 n, .slice p l c]] w (BP b w) := by
  unfold formB at hb
  by_cases k1 : k = 1
  · subst k1; rw [if_pos (rfl)] at hb; injection hb with hb; subst hb; exact form1 t s n p l c w
  rw [if_neg k1] at hb
  by_cases k2 : k = 2
  · subst k2; rw [if_pos (rfl)] at hb; injection hb with hb; subst hb; exact form2 t s n p l c w hs
  rw [if_neg k2] at hb
  by_cases k3 : k = 3
  · subst k3; rw [if_pos (rfl)] at hb; injection hb with hb; subst hb; exact form3 t s n p l c w hs
  rw [if_neg k3] at hb
  by_cases k5 : k = 5
  · subst k5; rw [if_pos (rfl)] at hb; injection hb with hb; subst hb; exact form5 t s n p l c w hs
  rw [if_neg k5] at hb
  by_cases k4 : k = 4
  · subst k4; rw [if_pos (Or.inl rfl)] at hb; injection hb with hb; subst hb; exact form4 t s n p l c w hs
  by_cases k7 : k = 7
  · subst k7; rw [if_pos (Or.inr (Or.inl rfl))] at hb; injection hb with hb; subst hb; exact form7 t s n p l c w hs
  by_cases k8 : k = 8
  · subst k8; rw [if_pos (Or.inr (Or.inr rfl))] at hb; injection hb with hb; subst hb; exact form8 t s n p l c w hs
  rw [if_neg (fun h => h.elim k4 (fun h => h.elim k7 k8))] at hb
  by_cases k6 : k = 6
  · subst k6; rw [if_pos (rfl)] at hb; injection hb with hb; subst hb; exact form6 t s n p l c w
  rw [if_neg k6] at hb
  by_cases k9 : k = 9
  · subst k9; rw [if_pos (rfl)] at hb; injection hb with hb; subst hb; exact form9 t s n p l c w
  rw [if_neg k9] at hb
  by_cases k10 : k = 10
  · subst k10; rw [if_pos (rfl)] at hb; injection hb with hb; subst hb; exact form10 t s n p l c w
  rw [if_neg k10] at hb
  by_cases k11 : k = 11
  · subst k11; rw [if_pos (Or.inl rfl)] at hb; injection hb with hb; subst hb; exact form11 t s n p l c w
  by_cases k12 : k = 12
  · subst k12; rw [if_pos (Or.inr (Or.inl rfl))] at hb; injection hb with hb; subst hb; exact form12 t s n p l c w
  by_cases k13 : k = 13
  · subst k13; rw [if_pos (Or.inr (Or.inr rfl))] at hb; injection hb with hb; subst hb; exact form13 t s n p l c w
  rw [if_neg (fun h => h.elim k11 (fun h => h.elim k12 k13))] at hb
  by_cases k14 : k = 14
  · subst k14; rw [if_pos (rfl)] at hb; injection hb with hb; subst hb; exact form14 t s n p l c w
  rw [if_neg k14] at hb
  exact formO k t k1 k2 k3 k5 k4 k7 k8 k6 k9 k10 k11 k12 k13 k14 s n p l c w hs hG b hb
end Ck
end Go.Proofs.YtajoncmmdeahnaaGreatDoor
