/-
  parse.Program: a text's tree, or where it fails, and why. The checker: formed.
-/
import Derived.Test.YtajoncmmdeahnaaGreatDoorQe
import Derived.Test.YtajoncmmdeahnaaGreatDoorKQg
import Derived.Test.YtajoncmmdeahnaaGreatDoorLTk
namespace Go.Proofs.YtajoncmmdeahnaaGreatDoor
open Go.RowKit
namespace Pm
def parseM (k : Nat) (s : ByteArray) : Except (Option (Nat × Nat)) Nd := match toks s.toList with
  | .error p => .error (some (p, 90))
  | .ok l => match programP (rc k) ⟨l, 0, 0, false⟩ with
    | .ok (n, _) => .ok n
    | .error e => .error e
def zV : Value := .agg #[.int .i64 0, .int .i64 0, .string ⟨#[]⟩, .int .i64 0, .slice none 0 0]
def PaP (w : World) (x : Except (Option (Nat × Nat)) Nd) (e : Ending) (w' : World) : Prop := match x with
  | .ok n => ∃ v, e = .returned (.tuple #[v, .int .i64 0, .int .i64 0]) ∧ nV w.heap.size w' n v ∧ w.grownBy w' none
  | .error (some (a, n)) => e = .returned (.tuple #[zV, .int .i64 a, .int .i64 n]) ∧ w.grownBy w' none
  | .error none => True
theorem GlB.up {w : World} {b b' : Nat} (h : GlB w b) (hb : b ≤ b') : GlB w b' := by
  refine ⟨Nat.lt_of_lt_of_le h.low hb, h.opt, h.man, ?_⟩
  obtain ⟨g, o, n, c, h1, h2, h3, h4⟩ := h.pow
  exact ⟨g, o, n, c, h1, h2, Nat.lt_of_lt_of_le h3 hb, h4⟩
set_option maxRecDepth 100000 in
set_option maxHeartbeats 2000000 in
theorem parse_lexbad (s : ByteArray) (w : World) (hs : s.size ≤ 4096) (p : Nat) (ht : toks s.toList = .error p) : Calls Tryz.prog 9 #[.string s] w (PaP w (.error (some (p, 90)))) := by
  have C19 : Hid (∀ W, Calls Tryz.prog 19 #[.string s] W fun e w' => e = .returned (.tuple #[.slice none 0 0, .int .i64 p, .int .i64 90]) ∧ W.grownBy w' none) := fun W => by
    have h := Lw.tokens_any s W hs
    rw [ht] at h
    exact h
  have X0 := hid (Blk.new w 27 #[.int .i64 0, .int .i64 0, .string ⟨#[]⟩, .int .i64 0, .slice none 0 0])
  have X1 := hid (Blk.new (w.alloc (.cells #[.int .i64 0, .int .i64 0, .string ⟨#[]⟩, .int .i64 0, .slice none 0 0] 27)) 3 #[.int .i64 0])
  have X2 := hid (Blk.new ((w.alloc (.cells #[.int .i64 0, .int .i64 0, .string ⟨#[]⟩, .int .i64 0, .slice none 0 0] 27)).alloc (.cells #[.int .i64 0] 3)) 28 #[.int .i64 0])
  rw [World.size_alloc] at X1
  rw [World.size_alloc, World.size_alloc] at X2
  have X0 := hid ((X0.out.alloc (.cells #[.int .i64 0] 3)).alloc (.cells #[.int .i64 0] 28))
  have X1 := hid (X1.out.alloc (.cells #[.int .i64 0] 28))
  clear ht hs
  go_enter_defers Tryz.func9, Tryz.ntmps9
  go_wp2_with (first
    | (go_at_call 19; refine (C19.out _).mono ?_; rintro e w1 ⟨rfl, g⟩; have G1 := hid (grown_none (grown_alloc (grown_alloc (grown_alloc (grown_refl w none) _) _) _) g); have X0 := hid (X0.out.kept g (by simp)); have X1 := hid (X1.out.kept g (by simp)); have X2 := hid (X2.out.kept g (by simp)); clear g; have y1 := X1.out.cell 0; have y2 := X2.out.cell 0; have z1 := X1.out.frozen 0; have z2 := X2.out.frozen 0; simp at y1 y2))
  have gA := grown_set (grown_refl w1 (some (w.heap.size + 1))) 0 (.int .i64 p)
  have X0 := hid (X0.out.kept gA (fun e => by injection e with e; omega))
  have X1 := hid (X1.out.set 0 (.int .i64 p))
  have X2 := hid (X2.out.kept gA (fun e => by injection e with e; omega))
  have G2 := hid (grown_set_new G1.out (a := ⟨w.heap.size + 1, 0, none⟩) (.int .i64 p) (by show _ ≤ w.heap.size + 1; omega))
  clear gA
  generalize w1.setCell ⟨w.heap.size + 1, 0, none⟩ (.int .i64 p) = w2 at *
  have gB := grown_set (grown_refl w2 (some (w.heap.size + 1 + 1))) 0 (.int .i64 90)
  have X0 := hid (X0.out.kept gB (fun e => by injection e with e; omega))
  have X1 := hid (X1.out.kept gB (fun e => by injection e with e; omega))
  have X2 := hid (X2.out.set 0 (.int .i64 90))
  have G3 := hid (grown_set_new G2.out (a := ⟨w.heap.size + 1 + 1, 0, none⟩) (.int .i64 90) (by show _ ≤ w.heap.size + 1 + 1; omega))
  clear gB y1 y2 z1 z2
  generalize w2.setCell ⟨w.heap.size + 1 + 1, 0, none⟩ (.int .i64 90) = w3 at *
  simp at X1 X2
  have F := hid (catch_world p 90 X0.out X1.out X2.out (Nat.le_refl _) (by omega) (by omega) G3.out)
  have n1 : w.heap.size ≠ w.heap.size + 1 := by omega
  have n2 : w.heap.size ≠ w.heap.size + 1 + 1 := by omega
  have n3 : w.heap.size + 1 ≠ w.heap.size + 1 + 1 := by omega
  generalize w.heap.size + 1 + 1 = b2 at *
  generalize w.heap.size + 1 = b1 at *
  have LW : Hid (w.heap.size = w.heap.size) := rfl
  generalize w.heap.size = b0 at *
  have a0 := X0.out.cell 0
  have a1 := X0.out.cell 1
  have a2 := X0.out.cell 2
  have a3 := X0.out.cell 3
  have a4 := X0.out.cell 4
  have a5 := X1.out.cell 0
  have a6 := X2.out.cell 0
  simp at a0 a1 a2 a3 a4 a5 a6
  have z0 := X0.out.frozen 0
  have z1 := X1.out.frozen 0
  have z2 := X2.out.frozen 0
  have z3 := X0.out.frozen 1
  have z4 := X0.out.frozen 2
  have z5 := X0.out.frozen 3
  have z6 := X0.out.frozen 4
  have F1 := hid (F.out.1)
  have F2 := F.out.2.1
  have F3 := F.out.2.2.1
  have F4 := F.out.2.2.2
  unfold set5 at F1 F2 F3 F4
  go_region
  generalize World.drew _ = wf at *
  have c0 := F2.cell 0
  have c1 := F2.cell 1
  have c2 := F2.cell 2
  have c3 := F2.cell 3
  have c4 := F2.cell 4
  have c5 := F3.cell 0
  have c6 := F4.cell 0
  simp at c0 c1 c2 c3 c4 c5 c6
  go_wp2
  refine ⟨_, ?_, rfl, F1.out⟩
  simp [results, Tryz.results9, go_sem, c0, c1, c2, c3, c4, c5, c6, zV]
theorem toksF_len (n : Nat) : ∀ (f : Nat) (l : List UInt8) (r : List Tk), toksF n f l = .ok r → r.length ≤ l.length + 1
  | 0, l, r, h => by
    injection h with h
    subst h
    exact Nat.zero_le _
  | f + 1, [], r, h => by
    injection h with h
    subst h
    exact Nat.le_refl _
  | f + 1, c :: t, r, h => by
    rw [toksF] at h
    by_cases hk : wordK (c :: t) = 0
    · rw [if_pos hk] at h
      cases h
    · rw [if_neg hk] at h
      have h1 := wordN_pos c t hk
      have h2 := skip_le ((c :: t).drop (wordN (c :: t)))
      rw [List.length_drop] at h2
      generalize he : toksF n f (skip ((c :: t).drop (wordN (c :: t)))) = x at h
      cases x with
      | error e => cases h
      | ok l2 =>
        injection h with h
        subst h
        have ih := toksF_len n f _ l2 he
        simp only [List.length_cons] at h2 ⊢
        omega
theorem program_nil (R : Rc) : programP R ⟨[], 0, 0, false⟩ = .error none := rfl
theorem toks_some {k : Nat} {s : List UInt8} {l : List Tk} (h : toks s = .ok l) (hx : programP (rc k) ⟨l, 0, 0, false⟩ ≠ .error none) : 0 < l.length ∧ l.length ≤ s.length + 1 := by
  constructor
  · cases l with
    | nil => exact absurd (program_nil _) hx
    | cons t r => simp
  · have h1 := toksF_len s.length (s.length + 1) (skip s) l h
    have h2 := skip_le s
    omega
theorem new_parser {w1 w3 : World} {pa : Option Addr} {cap base : Nat} {l : List Tk} (hT : Lw.Toks w1 88 base (.slice pa l.length cap) l) (hlen : 0 < l.length) (hk : ∀ i, base ≤ i → i < w1.heap.size → w3.heap[i]? = w1.heap[i]?) (hz : w1.heap.size ≤ w3.heap.size) (hG : GlB w3 w3.heap.size) :
    ∃ tg, PsA (w3.alloc (.cells #[.slice pa l.length cap, .int .i64 0, .int .i64 0, .bool false] 55)) w3.heap.size tg cap l ⟨l, 0, 0, false⟩ := by
  obtain ⟨pa', c', e, h1, h2, _⟩ := Lw.row_form hT
  injection e with e1 e2 e3
  subst e1; subst e3
  obtain ⟨g, rfl, _⟩ := Lw.Toks.cell hT 0 hlen
  have hb := hT.lt g rfl
  refine ⟨g, 0, some ⟨g, 0, none⟩, by rw [List.drop_zero], Nat.zero_le _, ⟨hlen, h1⟩, h2, fun _ => rfl, ?_, by omega, ?_, ?_⟩
  · have := Blk.new w3 55 #[.slice (some ⟨g, 0, none⟩) l.length cap, .int .i64 0, .int .i64 0, .bool false]
    rw [Nat.sub_zero, Nat.sub_zero]
    exact this
  · intro k t ht
    obtain ⟨hkl, rfl⟩ := List.getElem?_eq_some_iff.1 ht
    obtain ⟨g2, e2, c1, c2, c3⟩ := Lw.Toks.cell hT k hkl
    injection e2 with e2
    injection e2 with e2
    subst e2
    have hs : (w3.alloc (.cells #[.slice (some ⟨g, 0, none⟩) l.length cap, .int .i64 0, .int .i64 0, .bool false] 55)).heap[g]? = w1.heap[g]? := by
      rw [← hk g hb.1 hb.2]
      exact (grown_alloc (grown_refl w3 none) _).block g (by omega) (by simp)
    rw [Nat.mul_comm]
    exact ⟨cell_same c1 hs, cell_same c2 hs, cell_same c3 hs⟩
  · exact hG.keptR (grown_alloc (grown_refl w3 none) _) (by simp)
set_option maxRecDepth 100000 in
set_option maxHeartbeats 2000000 in
theorem parse_err (k : Nat) (s : ByteArray) (w : World) (hs : s.size ≤ 4096) (hG : GlB w w.heap.size) (l : List Tk) (ht : toks s.toList = .ok l) (at_ n : Nat) (hz : programP (rc k) ⟨l, 0, 0, false⟩ = .error (some (at_, n))) : Calls Tryz.prog 9 #[.string s] w (PaP w (.error (some (at_, n)))) := by
  have C19 : Hid (∀ W, Calls Tryz.prog 19 #[.string s] W fun e w' => ∃ v, e = .returned (.tuple #[v, .int .i64 0, .int .i64 0]) ∧ Lw.Toks w' 88 W.heap.size v l ∧ W.grownBy w' none) := fun W => by
    have h := Lw.tokens_any s W hs
    rw [ht] at h
    exact h
  obtain ⟨l0, l1⟩ := toks_some (k := k) ht (by rw [hz]; simp)
  have hl : l.length ≤ 50000 := by
    have : s.toList.length = s.size := by rw [ByteArray.toList_eq]; exact Array.length_toList
    omega
  have X0 := hid (Blk.new w 27 #[.int .i64 0, .int .i64 0, .string ⟨#[]⟩, .int .i64 0, .slice none 0 0])
  have X1 := hid (Blk.new (w.alloc (.cells #[.int .i64 0, .int .i64 0, .string ⟨#[]⟩, .int .i64 0, .slice none 0 0] 27)) 3 #[.int .i64 0])
  have X2 := hid (Blk.new ((w.alloc (.cells #[.int .i64 0, .int .i64 0, .string ⟨#[]⟩, .int .i64 0, .slice none 0 0] 27)).alloc (.cells #[.int .i64 0] 3)) 28 #[.int .i64 0])
  rw [World.size_alloc] at X1
  rw [World.size_alloc, World.size_alloc] at X2
  have X0 := hid ((X0.out.alloc (.cells #[.int .i64 0] 3)).alloc (.cells #[.int .i64 0] 28))
  have X1 := hid (X1.out.alloc (.cells #[.int .i64 0] 28))
  have C21 : Hid (∀ b tg cp W, PsA W b tg cp l ⟨l, 0, 0, false⟩ → Calls Tryz.prog 21 #[.pointer (some ⟨b, 0, none⟩)] W (PrP (nV W.heap.size) b tg cp l W (programP (rc k) ⟨l, 0, 0, false⟩))) := fun b tg cp W hW => program_knot hl (fun q W hW h => literal_any W hW h) (fun q W hW h => constant_any W hW h) k W hW (by rw [hz]; simp)
  rw [hz] at C21
  have hmf : ∀ (fn : Fn) (first cap : Array Value) (w : World), (Instr.makeFunc fn first cap).run Tryz.prog w = .ok (.func fn first cap) w := fun _ _ _ _ => rfl
  have LL := hid (And.intro l0 hl)
  have HG := hid hG
  clear ht hs hz hl l0 l1 hG
  go_enter_defers Tryz.func9, Tryz.ntmps9
  go_wp2_with (first
    | (go_at_call 19; refine (C19.out _).mono ?_; rintro e w1 ⟨v, rfl, hT, g⟩; have TT := hid hT; have G1 := hid (grown_none (grown_alloc (grown_alloc (grown_alloc (grown_refl w none) _) _) _) g); have X0 := hid (X0.out.kept g (by simp)); have X1 := hid (X1.out.kept g (by simp)); have X2 := hid (X2.out.kept g (by simp)); have g1 := g.size; rw [World.size_alloc, World.size_alloc, World.size_alloc] at g1; clear g; have y1 := X1.out.cell 0; have y2 := X2.out.cell 0; have z1 := X1.out.frozen 0; have z2 := X2.out.frozen 0; simp at y1 y2; obtain ⟨pa, cap, rfl, _⟩ := Lw.row_form hT; clear hT))
  have T2 := TT.out
  rw [World.size_alloc, World.size_alloc, World.size_alloc] at T2
  have TT := hid T2
  clear T2
  have K1 : Hid (∀ i, w.heap.size + 3 ≤ i → (w1.setCell ⟨w.heap.size + 1, 0, none⟩ (.int .i64 0)).heap[i]? = w1.heap[i]?) := hid fun i hi => heap_setCell_other _ _ _ _ (by show i ≠ w.heap.size + 1; omega)
  have S1 : Hid ((w1.setCell ⟨w.heap.size + 1, 0, none⟩ (.int .i64 0)).heap.size = w1.heap.size ∧ True) := hid ⟨World.size_setCell _ _ _, trivial⟩
  have gA := grown_set (grown_refl w1 (some (w.heap.size + 1))) 0 (.int .i64 0)
  have X0 := hid (X0.out.kept gA (fun e => by injection e with e; omega))
  have X1 := hid (X1.out.set 0 (.int .i64 0))
  have X2 := hid (X2.out.kept gA (fun e => by injection e with e; omega))
  have G2 := hid (grown_set_new G1.out (a := ⟨w.heap.size + 1, 0, none⟩) (.int .i64 0) (by show _ ≤ w.heap.size + 1; omega))
  clear gA
  generalize w1.setCell ⟨w.heap.size + 1, 0, none⟩ (.int .i64 0) = w2 at *
  have K2 : Hid (∀ i, w.heap.size + 3 ≤ i → (w2.setCell ⟨w.heap.size + 1 + 1, 0, none⟩ (.int .i64 0)).heap[i]? = w1.heap[i]?) := hid fun i hi => (heap_setCell_other _ _ _ _ (by show i ≠ w.heap.size + 1 + 1; omega)).trans (K1.out i hi)
  have S2 : Hid ((w2.setCell ⟨w.heap.size + 1 + 1, 0, none⟩ (.int .i64 0)).heap.size = w1.heap.size ∧ True) := hid ⟨(World.size_setCell _ _ _).trans S1.out.1, trivial⟩
  have gB := grown_set (grown_refl w2 (some (w.heap.size + 1 + 1))) 0 (.int .i64 0)
  have X0 := hid (X0.out.kept gB (fun e => by injection e with e; omega))
  have X1 := hid (X1.out.kept gB (fun e => by injection e with e; omega))
  have X2 := hid (X2.out.set 0 (.int .i64 0))
  have G3 := hid (grown_set_new G2.out (a := ⟨w.heap.size + 1 + 1, 0, none⟩) (.int .i64 0) (by show _ ≤ w.heap.size + 1 + 1; omega))
  clear gB y1 y2 z1 z2
  generalize w2.setCell ⟨w.heap.size + 1 + 1, 0, none⟩ (.int .i64 0) = w3 at *
  simp at X1 X2
  obtain ⟨tg, hP⟩ := new_parser (w3 := w3) TT.out LL.out.1 (fun i h1 _ => K2.out i (by omega)) (by have := S2.out.1; omega) ((HG.out.keptR G3.out (by simp)).up G3.out.size)
  rw [S2.out.1] at hP
  have PP := hid hP
  have s3 : w.heap.size + 3 ≤ w3.heap.size := by have := S2.out.1; omega
  have X0 := hid (X0.out.alloc (.cells #[.slice pa l.length cap, .int .i64 0, .int .i64 0, .bool false] 55))
  have X1 := hid (X1.out.alloc (.cells #[.slice pa l.length cap, .int .i64 0, .int .i64 0, .bool false] 55))
  have X2 := hid (X2.out.alloc (.cells #[.slice pa l.length cap, .int .i64 0, .int .i64 0, .bool false] 55))
  have G4 := hid (grown_alloc G3.out (.cells #[.slice pa l.length cap, .int .i64 0, .int .i64 0, .bool false] 55))
  have s4 : w.heap.size + 3 ≤ (w3.alloc (.cells #[.slice pa l.length cap, .int .i64 0, .int .i64 0, .bool false] 55)).heap.size := by rw [World.size_alloc]; omega
  clear hP
  generalize w3.alloc (.cells #[.slice pa l.length cap, .int .i64 0, .int .i64 0, .bool false] 55) = w4 at *
  generalize w1.heap.size = b at *
  go_wp2_with (first
    | (go_at_call 21; refine (C21.out b tg cap _ PP.out).mono ?_; rintro e w5 ⟨rfl, g⟩; have G5 := hid (grown_through G4.out g (by omega)); have X0 := hid (X0.out.kept g (fun e => by injection e with e; omega)); have X1 := hid (X1.out.kept g (fun e => by injection e with e; omega)); have X2 := hid (X2.out.kept g (fun e => by injection e with e; omega)); clear g))
  refine leaves_cons (f := 20) (args := #[.pointer (some ⟨w.heap.size, 0, none⟩), .pointer (some ⟨w.heap.size + 1, 0, none⟩), .pointer (some ⟨w.heap.size + 1 + 1, 0, none⟩)]) (by simp) (by simp [go_sem]) ?_
  refine (catch_thrown w.heap.size (w.heap.size + 1) (w.heap.size + 1 + 1) _ _ _ _ _ _ _ at_ n w _ X0.out X1.out X2.out (Nat.le_refl _) (by omega) (by omega) G5.out).mono ?_
  rintro e u' w6 ⟨rfl, rfl, g6, k0, k1, k2⟩
  have c0 := k0.cell 0
  have c1 := k0.cell 1
  have c2 := k0.cell 2
  have c3 := k0.cell 3
  have c4 := k0.cell 4
  have c5 := k1.cell 0
  have c6 := k2.cell 0
  simp at c0 c1 c2 c3 c4 c5 c6
  refine ⟨.tuple #[zV, .int .i64 at_, .int .i64 n], ?_, rfl, g6⟩
  simp [results, Tryz.results9, go_sem, c0, c1, c2, c3, c4, c5, c6, zV]
set_option maxRecDepth 100000 in
set_option maxHeartbeats 2000000 in
theorem parse_ok (k : Nat) (s : ByteArray) (w : World) (hs : s.size ≤ 4096) (hG : GlB w w.heap.size) (l : List Tk) (ht : toks s.toList = .ok l) (n : Nd) (q : Ps) (hz : programP (rc k) ⟨l, 0, 0, false⟩ = .ok (n, q)) : Calls Tryz.prog 9 #[.string s] w (PaP w (.ok n)) := by
  have C19 : Hid (∀ W, Calls Tryz.prog 19 #[.string s] W fun e w' => ∃ v, e = .returned (.tuple #[v, .int .i64 0, .int .i64 0]) ∧ Lw.Toks w' 88 W.heap.size v l ∧ W.grownBy w' none) := fun W => by
    have h := Lw.tokens_any s W hs
    rw [ht] at h
    exact h
  obtain ⟨l0, l1⟩ := toks_some (k := k) ht (by rw [hz]; simp)
  have hl : l.length ≤ 50000 := by
    have : s.toList.length = s.size := by rw [ByteArray.toList_eq]; exact Array.length_toList
    omega
  have X0 := hid (Blk.new w 27 #[.int .i64 0, .int .i64 0, .string ⟨#[]⟩, .int .i64 0, .slice none 0 0])
  have X1 := hid (Blk.new (w.alloc (.cells #[.int .i64 0, .int .i64 0, .string ⟨#[]⟩, .int .i64 0, .slice none 0 0] 27)) 3 #[.int .i64 0])
  have X2 := hid (Blk.new ((w.alloc (.cells #[.int .i64 0, .int .i64 0, .string ⟨#[]⟩, .int .i64 0, .slice none 0 0] 27)).alloc (.cells #[.int .i64 0] 3)) 28 #[.int .i64 0])
  rw [World.size_alloc] at X1
  rw [World.size_alloc, World.size_alloc] at X2
  have X0 := hid ((X0.out.alloc (.cells #[.int .i64 0] 3)).alloc (.cells #[.int .i64 0] 28))
  have X1 := hid (X1.out.alloc (.cells #[.int .i64 0] 28))
  have C21 : Hid (∀ b tg cp W, PsA W b tg cp l ⟨l, 0, 0, false⟩ → Calls Tryz.prog 21 #[.pointer (some ⟨b, 0, none⟩)] W (PrP (nV W.heap.size) b tg cp l W (programP (rc k) ⟨l, 0, 0, false⟩))) := fun b tg cp W hW => program_knot hl (fun q W hW h => literal_any W hW h) (fun q W hW h => constant_any W hW h) k W hW (by rw [hz]; simp)
  rw [hz] at C21
  have hmf : ∀ (fn : Fn) (first cap : Array Value) (w : World), (Instr.makeFunc fn first cap).run Tryz.prog w = .ok (.func fn first cap) w := fun _ _ _ _ => rfl
  have LL := hid (And.intro l0 hl)
  have HG := hid hG
  clear ht hs hz hl l0 l1 hG
  go_enter_defers Tryz.func9, Tryz.ntmps9
  go_wp2_with (first
    | (go_at_call 19; refine (C19.out _).mono ?_; rintro e w1 ⟨v, rfl, hT, g⟩; have TT := hid hT; have G1 := hid (grown_none (grown_alloc (grown_alloc (grown_alloc (grown_refl w none) _) _) _) g); have X0 := hid (X0.out.kept g (by simp)); have X1 := hid (X1.out.kept g (by simp)); have X2 := hid (X2.out.kept g (by simp)); have g1 := g.size; rw [World.size_alloc, World.size_alloc, World.size_alloc] at g1; clear g; have y1 := X1.out.cell 0; have y2 := X2.out.cell 0; have z1 := X1.out.frozen 0; have z2 := X2.out.frozen 0; simp at y1 y2; obtain ⟨pa, cap, rfl, _⟩ := Lw.row_form hT; clear hT))
  have T2 := TT.out
  rw [World.size_alloc, World.size_alloc, World.size_alloc] at T2
  have TT := hid T2
  clear T2
  have K1 : Hid (∀ i, w.heap.size + 3 ≤ i → (w1.setCell ⟨w.heap.size + 1, 0, none⟩ (.int .i64 0)).heap[i]? = w1.heap[i]?) := hid fun i hi => heap_setCell_other _ _ _ _ (by show i ≠ w.heap.size + 1; omega)
  have S1 : Hid ((w1.setCell ⟨w.heap.size + 1, 0, none⟩ (.int .i64 0)).heap.size = w1.heap.size ∧ True) := hid ⟨World.size_setCell _ _ _, trivial⟩
  have gA := grown_set (grown_refl w1 (some (w.heap.size + 1))) 0 (.int .i64 0)
  have X0 := hid (X0.out.kept gA (fun e => by injection e with e; omega))
  have X1 := hid (X1.out.set 0 (.int .i64 0))
  have X2 := hid (X2.out.kept gA (fun e => by injection e with e; omega))
  have G2 := hid (grown_set_new G1.out (a := ⟨w.heap.size + 1, 0, none⟩) (.int .i64 0) (by show _ ≤ w.heap.size + 1; omega))
  clear gA
  generalize w1.setCell ⟨w.heap.size + 1, 0, none⟩ (.int .i64 0) = w2 at *
  have K2 : Hid (∀ i, w.heap.size + 3 ≤ i → (w2.setCell ⟨w.heap.size + 1 + 1, 0, none⟩ (.int .i64 0)).heap[i]? = w1.heap[i]?) := hid fun i hi => (heap_setCell_other _ _ _ _ (by show i ≠ w.heap.size + 1 + 1; omega)).trans (K1.out i hi)
  have S2 : Hid ((w2.setCell ⟨w.heap.size + 1 + 1, 0, none⟩ (.int .i64 0)).heap.size = w1.heap.size ∧ True) := hid ⟨(World.size_setCell _ _ _).trans S1.out.1, trivial⟩
  have gB := grown_set (grown_refl w2 (some (w.heap.size + 1 + 1))) 0 (.int .i64 0)
  have X0 := hid (X0.out.kept gB (fun e => by injection e with e; omega))
  have X1 := hid (X1.out.kept gB (fun e => by injection e with e; omega))
  have X2 := hid (X2.out.set 0 (.int .i64 0))
  have G3 := hid (grown_set_new G2.out (a := ⟨w.heap.size + 1 + 1, 0, none⟩) (.int .i64 0) (by show _ ≤ w.heap.size + 1 + 1; omega))
  clear gB y1 y2 z1 z2
  generalize w2.setCell ⟨w.heap.size + 1 + 1, 0, none⟩ (.int .i64 0) = w3 at *
  simp at X1 X2
  obtain ⟨tg, hP⟩ := new_parser (w3 := w3) TT.out LL.out.1 (fun i h1 _ => K2.out i (by omega)) (by have := S2.out.1; omega) ((HG.out.keptR G3.out (by simp)).up G3.out.size)
  rw [S2.out.1] at hP
  have PP := hid hP
  have s3 : w.heap.size + 3 ≤ w3.heap.size := by have := S2.out.1; omega
  have X0 := hid (X0.out.alloc (.cells #[.slice pa l.length cap, .int .i64 0, .int .i64 0, .bool false] 55))
  have X1 := hid (X1.out.alloc (.cells #[.slice pa l.length cap, .int .i64 0, .int .i64 0, .bool false] 55))
  have X2 := hid (X2.out.alloc (.cells #[.slice pa l.length cap, .int .i64 0, .int .i64 0, .bool false] 55))
  have G4 := hid (grown_alloc G3.out (.cells #[.slice pa l.length cap, .int .i64 0, .int .i64 0, .bool false] 55))
  have s4 : w.heap.size + 3 ≤ (w3.alloc (.cells #[.slice pa l.length cap, .int .i64 0, .int .i64 0, .bool false] 55)).heap.size := by rw [World.size_alloc]; omega
  clear hP
  generalize w3.alloc (.cells #[.slice pa l.length cap, .int .i64 0, .int .i64 0, .bool false] 55) = w4 at *
  generalize w1.heap.size = b at *
  go_wp2_with (first
    | (go_at_call 21; refine (C21.out b tg cap _ PP.out).mono ?_; rintro e w5 ⟨v5, rfl, hv, _, g⟩; obtain ⟨qs5, rfl, hk⟩ := hv; obtain ⟨ps5, cs5, rfl, _, _, _⟩ := hk.form; have K5 := hid (hk.mono (Q := fun g => w.heap.size + 3 ≤ g) (fun g h1 _ => by have h9 : w4.heap.size ≤ g := h1; omega)); have G5 := hid (grown_through G4.out g (by omega)); have X0 := hid (X0.out.kept g (fun e => by injection e with e; omega)); have X1 := hid (X1.out.kept g (fun e => by injection e with e; omega)); have X2 := hid (X2.out.kept g (fun e => by injection e with e; omega)); clear g hk)
    | (refine store_nd (.tmp 2) (.tmp 21) rfl rfl w.heap.size X0.out rfl rfl ?_; intro w6 b6 g6; have X0 := hid b6; have G6 := hid (grown_through G5.out g6 (Nat.le_refl _)); have X1 := hid (X1.out.kept g6 (fun e => by injection e with e; omega)); have X2 := hid (X2.out.kept g6 (fun e => by injection e with e; omega)); have K6 := hid (K5.out.keptB g6 (by omega)); clear b6 g6; have y1 := X1.out.cell 0; have y2 := X2.out.cell 0; have z1 := X1.out.frozen 0; have z2 := X2.out.frozen 0; simp at y1 y2))
  have gA := grown_set (grown_refl w6 (some (w.heap.size + 1))) 0 (.int .i64 0)
  have X0 := hid (X0.out.kept gA (fun e => by injection e with e; omega))
  have X1 := hid (X1.out.set 0 (.int .i64 0))
  have X2 := hid (X2.out.kept gA (fun e => by injection e with e; omega))
  have K7 := hid (K6.out.keptB gA (by omega))
  have G7 := hid (grown_set_new G6.out (a := ⟨w.heap.size + 1, 0, none⟩) (.int .i64 0) (by show _ ≤ w.heap.size + 1; omega))
  clear gA
  generalize w6.setCell ⟨w.heap.size + 1, 0, none⟩ (.int .i64 0) = w7 at *
  have gB := grown_set (grown_refl w7 (some (w.heap.size + 1 + 1))) 0 (.int .i64 0)
  have X0 := hid (X0.out.kept gB (fun e => by injection e with e; omega))
  have X1 := hid (X1.out.kept gB (fun e => by injection e with e; omega))
  have X2 := hid (X2.out.set 0 (.int .i64 0))
  have K8 := hid (K7.out.keptB gB (by omega))
  have G8 := hid (grown_set_new G7.out (a := ⟨w.heap.size + 1 + 1, 0, none⟩) (.int .i64 0) (by show _ ≤ w.heap.size + 1 + 1; omega))
  clear gB y1 y2 z1 z2
  generalize w7.setCell ⟨w.heap.size + 1 + 1, 0, none⟩ (.int .i64 0) = w8 at *
  refine leaves_cons (f := 20) (args := #[.pointer (some ⟨w.heap.size, 0, none⟩), .pointer (some ⟨w.heap.size + 1, 0, none⟩), .pointer (some ⟨w.heap.size + 1 + 1, 0, none⟩)]) (by simp) (by simp [go_sem]) ?_
  refine (catch_idle _ _ _ _).mono ?_
  rintro e u' w9 ⟨rfl, rfl, rfl⟩
  have c0 := X0.out.cell 0
  have c1 := X0.out.cell 1
  have c2 := X0.out.cell 2
  have c3 := X0.out.cell 3
  have c4 := X0.out.cell 4
  have c5 := X1.out.cell 0
  have c6 := X2.out.cell 0
  simp at c0 c1 c2 c3 c4 c5 c6
  refine ⟨.tuple #[.agg #[.int .i64 n.kind, .int .i64 n.ty, .string n.txt, .int .i64 n.num, .slice ps5 n.kids.length cs5], .int .i64 0, .int .i64 0], ?_, _, rfl, ⟨_, rfl, K8.out.mono (fun g hg _ => by have h9 : w.heap.size + 3 ≤ g := hg; omega)⟩, G8.out⟩
  simp [results, Tryz.results9, go_sem, c0, c1, c2, c3, c4, c5, c6]
theorem parse_any (k : Nat) (s : ByteArray) (w : World) (hs : s.size ≤ 4096) (hG : GlB w w.heap.size) (hx : parseM k s ≠ .error none) : Calls Tryz.prog 9 #[.string s] w (PaP w (parseM k s)) := by
  unfold parseM at hx ⊢
  cases ht : toks s.toList with
  | error p => exact parse_lexbad s w hs p ht
  | ok l =>
    rw [ht] at hx
    simp only [] at hx ⊢
    rcases hz : programP (rc k) ⟨l, 0, 0, false⟩ with e | ⟨n, q⟩
    · rw [hz] at hx
      simp only [] at hx ⊢
      rcases e with _ | ⟨at_, n⟩
      · exact absurd rfl hx
      · exact parse_err k s w hs hG l ht at_ n hz
    · exact parse_ok k s w hs hG l ht n q hz
end Pm
end Go.Proofs.YtajoncmmdeahnaaGreatDoor
namespace Go.Proofs.YtajoncmmdeahnaaGreatDoor
open Go.RowKit
namespace Ck
end Ck
end Go.Proofs.YtajoncmmdeahnaaGreatDoor
