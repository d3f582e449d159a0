/-
  check.Program of any tree. The parser and the checker at texts that are written down: whole numbers, texts as lists. The closed text of cupellaw12's awake. CheckSigns: its texts, and what the parser and the checker tell of each.
-/
import Derived.Test.YtajoncmmdeahnaaGreatDoorKCn7
namespace Go.Proofs.YtajoncmmdeahnaaGreatDoor
open Go.RowKit
namespace Ck
set_option maxRecDepth 100000 in
set_option maxHeartbeats 2000000 in
theorem prog_kind (k t : Int) (s : ByteArray) (n : Int) (p : Option Addr) (l c : Nat) (w : World) (hk : k ≠ 1) :
    Calls Tryz.prog 14 #[.agg #[.int .i64 k, .int .i64 t, .string s, .int .i64 n, .slice p l c]] w fun e w' => e = .returned (.tuple #[Pm.zV, .int .i64 0, .int .i64 125]) ∧ w.grownBy w' none := by
  have b1 : (k != 1) = true := by simp only [bne_iff_ne]; exact hk
  go_enter Tryz.func14, Tryz.ntmps14
  go_wp2
  refine bodyPost_ret (v := .tuple #[Pm.zV, .int .i64 0, .int .i64 125]) (by simp [results, Tryz.results14, go_sem, Pm.zV]) rfl ⟨rfl, ?_⟩
  repeat (first | exact grown_refl _ _ | refine grown_set_new ?_ _ (by simp) | refine grown_alloc ?_ _)
set_option maxRecDepth 100000 in
set_option maxHeartbeats 2000000 in
theorem prog_form (t : Int) (s : ByteArray) (n : Int) (p : Option Addr) (l c : Nat) (w : World) (hG : Pm.GlB w w.heap.size) (hs : s.size ≤ 100) (hf : formB 1 t s n l = some false) :
    Calls Tryz.prog 14 #[.agg #[.int .i64 1, .int .i64 t, .string s, .int .i64 n, .slice p l c]] w fun e w' => e = .returned (.tuple #[Pm.zV, .int .i64 0, .int .i64 125]) ∧ w.grownBy w' none := by
  have G1 := hid (grown_alloc (grown_alloc (grown_refl w none) (.cells #[.int .i64 1, .int .i64 t, .string s, .int .i64 n, .slice p l c] 27)) (.cells #[.int .i64 0, .int .i64 0, .string ⟨#[]⟩, .int .i64 0, .slice none 0 0] 27))
  have CF : Hid (Calls Tryz.prog 27 #[.agg #[.int .i64 1, .int .i64 t, .string s, .int .i64 n, .slice p l c]] ((w.alloc (.cells #[.int .i64 1, .int .i64 t, .string s, .int .i64 n, .slice p l c] 27)).alloc (.cells #[.int .i64 0, .int .i64 0, .string ⟨#[]⟩, .int .i64 0, .slice none 0 0] 27)) (BP false _)) := hid (form_any 1 t s n p l c _ (by omega) ((hG.keptR G1.out (by simp)).up G1.out.size) false hf)
  have BZ : Hid (Blk ((w.alloc (.cells #[.int .i64 1, .int .i64 t, .string s, .int .i64 n, .slice p l c] 27)).alloc (.cells #[.int .i64 0, .int .i64 0, .string ⟨#[]⟩, .int .i64 0, .slice none 0 0] 27)) (w.heap.size + 1) 27 #[.int .i64 0, .int .i64 0, .string ⟨#[]⟩, .int .i64 0, .slice none 0 0]) := hid (by
    have h := Blk.new (w.alloc (.cells #[.int .i64 1, .int .i64 t, .string s, .int .i64 n, .slice p l c] 27)) 27 #[.int .i64 0, .int .i64 0, .string ⟨#[]⟩, .int .i64 0, .slice none 0 0]
    rw [World.size_alloc] at h
    exact h)
  clear hG hs hf
  go_enter Tryz.func14, Tryz.ntmps14
  go_wp2_with (go_at_call 27; refine CF.out.mono ?_; rintro e w2 ⟨rfl, hg⟩; have G2 := hid (grown_none G1.out hg); have Z2 := hid (BZ.out.kept hg (by simp)); have z0 := Z2.out.cell 0; have z1 := Z2.out.cell 1; have z2 := Z2.out.cell 2; have z3 := Z2.out.cell 3; have z4 := Z2.out.cell 4; have f0 := Z2.out.frozen 0; have f1 := Z2.out.frozen 1; have f2 := Z2.out.frozen 2; have f3 := Z2.out.frozen 3; have f4 := Z2.out.frozen 4; simp at z0 z1 z2 z3 z4; clear hg CF BZ G1)
  refine bodyPost_ret (v := .tuple #[Pm.zV, .int .i64 0, .int .i64 125]) (by simp [results, Tryz.results14, go_sem, z0, z1, z2, z3, z4, Pm.zV]) rfl ⟨rfl, grown_set5_new G2.out _ _ _ _ _ _ (by omega)⟩
theorem checkT_eq (k : Nat) (n : Nd) : checkT k n = if okB n = false then .error none else if n.kind ≠ 1 then .error (some (0, 125)) else match formN n with
    | none => .error none
    | some false => .error (some (0, 125))
    | some true => progX k n := by
  unfold checkT progX
  rfl
/-- check.Program of any tree within bounds, with so much fuel. -/
theorem check_any (k : Nat) (n : Nd) (v : Value) (P : Nat → Prop) (w : World) (hG : Pm.GlB w w.heap.size) (hv : NdV w P v n) (hx : checkT k n ≠ .error none) : Calls Tryz.prog 14 #[v] w (ChP w (checkT k n)) := by
  obtain ⟨q, rfl, hks⟩ := hv
  rw [checkT_eq] at hx ⊢
  by_cases h1 : okB n = false
  · rw [if_pos h1] at hx
    exact absurd rfl hx
  rw [if_neg h1] at hx ⊢
  have hok : n.ok := okB_ok (by cases h : okB n with | true => rfl | false => exact absurd h h1)
  obtain ⟨p, c, rfl, _⟩ := hks.form
  by_cases h2 : n.kind ≠ 1
  · rw [if_pos h2]
    exact (prog_kind _ _ _ _ p _ c w h2).mono fun e w' h => h
  rw [if_neg h2] at hx ⊢
  replace h2 := Decidable.of_not_not h2
  obtain ⟨kd, t, s, m, ks⟩ := n
  have h2 : kd = 1 := h2
  subst h2
  rcases hf : formN (.mk 1 t s m ks) with _ | b
  · rw [hf] at hx
    exact absurd rfl hx
  · rw [hf] at hx
    cases b with
    | false => exact (prog_form t s m p _ c w hG hok.1.s1 hf).mono fun e w' h => h
    | true =>
      refine prog_run k t s m _ ks P w hG hok hks hf (fun e => ?_)
      exact hx (progX_err (n := .mk 1 t s m ks) e)
end Ck
end Go.Proofs.YtajoncmmdeahnaaGreatDoor
namespace Go.Proofs.YtajoncmmdeahnaaGreatDoor
open Go.RowKit
namespace Sc
def mkS (l : List UInt8) : ByteArray := ⟨l.toArray⟩
theorem app_mk (a b : List UInt8) : mkS a ++ mkS b = mkS (a ++ b) := by
  apply ByteArray.ext
  show (mkS a ++ mkS b).data = _
  rw [ByteArray.data_append]
  simp [mkS]
theorem mkS_size (l : List UInt8) : (mkS l).size = l.length := by simp [mkS, ByteArray.size]
theorem toList_mk (l : List UInt8) : (mkS l).toList = l := by
  rw [ByteArray.toList_eq]
  rfl
/-- The parser, of a list of bytes. -/
def parsL (k : Nat) (l : List UInt8) : Except (Option (Nat × Nat)) Nd := match toks l with
  | .error p => .error (some (p, 90))
  | .ok l => match Pm.programP (Pm.rc k) ⟨l, 0, 0, false⟩ with
    | .ok (n, _) => .ok n
    | .error e => .error e
theorem parsL_eq (k : Nat) (l : List UInt8) : Pm.parseM k (mkS l) = parsL k l := by
  unfold Pm.parseM parsL
  rw [toList_mk]
  rfl
/-- What check tells of a tree: a place and a number; none: nothing is said. -/
def codeOf (x : Except (Option (Nat × Nat)) Nd) : Option (Nat × Nat) := match x with
  | .ok _ => some (0, 0)
  | .error e => e
/-- Both, one behind the other. -/
def codeL (k : Nat) (l : List UInt8) : Option (Nat × Nat) := match parsL k l with
  | .ok n => codeOf (Ck.checkT k n)
  | .error _ => none
theorem codeL_some {k : Nat} {l : List UInt8} {c : Nat × Nat} (h : codeL k l = some c) : ∃ n, parsL k l = .ok n ∧ codeOf (Ck.checkT k n) = some c := by
  unfold codeL at h
  cases hp : parsL k l with
  | error e => rw [hp] at h; cases h
  | ok n => rw [hp] at h; exact ⟨n, rfl, h⟩
theorem parse_closed (k : Nat) (l : List UInt8) (n : Nd) (W : World) (hl : l.length ≤ 4096) (hG : Pm.GlB W W.heap.size) (h : parsL k l = .ok n) :
    Calls Tryz.prog 9 #[.string (mkS l)] W fun e w' => ∃ ps cp, e = .returned (.tuple #[.agg #[.int .i64 n.kind, .int .i64 n.ty, .string n.txt, .int .i64 n.num, .slice ps n.kids.length cp], .int .i64 0, .int .i64 0]) ∧ KsV w' (fun g => W.heap.size ≤ g) (.slice ps n.kids.length cp) n.kids ∧ W.grownBy w' none := by
  rw [← parsL_eq] at h
  refine (Pm.parse_any k (mkS l) W (by rw [mkS_size]; exact hl) hG (by rw [h]; simp)).mono fun e w' hh => ?_
  rw [h] at hh
  obtain ⟨v, rfl, ⟨q, rfl, hk⟩, hg⟩ := hh
  obtain ⟨p, cap, rfl, _⟩ := hk.form
  exact ⟨p, cap, rfl, hk, hg⟩
theorem check_closed (k : Nat) (n : Nd) (a m : Nat) (W : World) (P : Nat → Prop) (ps : Option Addr) (cp : Nat) (hG : Pm.GlB W W.heap.size) (hk : KsV W P (.slice ps n.kids.length cp) n.kids) (h : codeOf (Ck.checkT k n) = some (a, m)) :
    Calls Tryz.prog 14 #[.agg #[.int .i64 n.kind, .int .i64 n.ty, .string n.txt, .int .i64 n.num, .slice ps n.kids.length cp]] W fun e w' => ∃ kd ty tx nm qs ln cq, e = .returned (.tuple #[.agg #[.int .i64 kd, .int .i64 ty, .string tx, .int .i64 nm, .slice qs ln cq], .int .i64 a, .int .i64 m]) ∧ W.grownBy w' none := by
  refine (Ck.check_any k n _ P W hG ⟨_, rfl, hk⟩ (fun e => by rw [e] at h; cases h)).mono fun e w' hh => ?_
  unfold Ck.ChP at hh
  cases hc : Ck.checkT k n with
  | ok x =>
    rw [hc] at hh h
    obtain ⟨q, hi, rfl, hK, _, hg⟩ := hh
    have h : some ((0 : Nat), (0 : Nat)) = some (a, m) := h
    injection h with h
    injection h with h1 h2
    subst h1 h2
    obtain ⟨p, cap, rfl, _⟩ := (hK.ks (P := fun _ => True) (fun _ _ _ => trivial)).form
    exact ⟨_, _, _, _, _, _, _, rfl, hg⟩
  | error e0 =>
    rw [hc] at hh h
    have h : e0 = some (a, m) := h
    subst h
    obtain ⟨rfl, hg⟩ := hh
    exact ⟨0, 0, ⟨#[]⟩, 0, none, 0, 0, rfl, hg⟩
end Sc
end Go.Proofs.YtajoncmmdeahnaaGreatDoor
namespace Go.Proofs.YtajoncmmdeahnaaGreatDoor
open Go.RowKit
namespace Sc
theorem glb_all {w : World} (h : Pm.GlB w w.heap.size) : ∀ W, w.grownBy W none → Pm.GlB W W.heap.size := fun _ g => (h.keptR g (by simp)).up g.size
/-- True, and nothing that was there is turned. -/
def TrueP (w : World) (e : Ending) (w' : World) : Prop := e = .returned (.bool true) ∧ w.grownBy w' none
def lA : List UInt8 := [102, 117, 110, 99, 32, 102, 40, 41, 32, 105, 110, 116, 32, 123, 32, 114, 101, 116, 117, 114, 110, 32, 49, 59, 32, 125, 32, 102, 117, 110, 99, 32, 103, 40, 41, 32, 105, 110, 116, 32, 123, 32, 114, 101, 116, 117, 114, 110, 32, 49, 46, 48, 59, 32, 125]
def lB : List UInt8 := [102, 117, 110, 99, 32, 102, 40, 41, 32, 105, 110, 116, 32, 123, 32, 114, 101, 116, 117, 114, 110, 32, 49, 59, 32, 125]
set_option maxRecDepth 100000 in
set_option maxHeartbeats 2000000 in
theorem awake_any (w : World) (hG : Pm.GlB w w.heap.size) : Calls Tryz.prog 15 #[] w (TrueP w) := by
  obtain ⟨n1, p1, k1⟩ := codeL_some (k := 60) (l := lA) (c := (1, 122)) (by kernel_rfl)
  obtain ⟨n2, p2, k2⟩ := codeL_some (k := 60) (l := lB) (c := (0, 0)) (by kernel_rfl)
  have GG := hid (glb_all hG)
  have G0 := hid (grown_refl w none)
  have CA := hid (parse_closed 60 lA n1 w (by decide) hG p1)
  have CB := hid (fun W (h : w.grownBy W none) => parse_closed 60 lB n2 W (by decide) (GG.out W h) p2)
  have DA := hid (fun W (h : w.grownBy W none) P ps cp hk => check_closed 60 n1 1 122 W P ps cp (GG.out W h) hk k1)
  have DB := hid (fun W (h : w.grownBy W none) P ps cp hk => check_closed 60 n2 0 0 W P ps cp (GG.out W h) hk k2)
  clear hG p1 k1 p2 k2
  go_enter Tryz.func15, Tryz.ntmps15
  go_wp2_with (first
    | (go_at_call 9; refine CA.out.mono ?_; rintro e w1 ⟨ps, cp, rfl, hk, hg⟩; have G1 := hid (grown_alloc (grown_none G0.out hg) (.cells #[.int .i64 n1.kind, .int .i64 n1.ty, .string n1.txt, .int .i64 n1.num, .slice ps n1.kids.length cp] 27)); have C14 := hid (DA.out _ G1.out _ ps cp (hk.kept (grown_alloc (grown_refl _ none) _))); clear CA DA hk hg)
    | (go_at_call 14; refine C14.out.mono ?_; rintro e w2 ⟨kd, ty, tx, nm, qs, ln, cq, rfl, hg⟩; have G2 := hid (grown_alloc (grown_none G1.out hg) (.cells #[.int .i64 kd, .int .i64 ty, .string tx, .int .i64 nm, .slice qs ln cq] 27)); have C9 := hid (CB.out _ G2.out); clear C14 CB G1 hg)
    | (go_at_call 9; refine C9.out.mono ?_; rintro e w3 ⟨ps, cp, rfl, hk, hg⟩; have G3 := hid (grown_alloc (grown_none G2.out hg) (.cells #[.int .i64 n2.kind, .int .i64 n2.ty, .string n2.txt, .int .i64 n2.num, .slice ps n2.kids.length cp] 27)); have C15 := hid (DB.out _ G3.out _ ps cp (hk.kept (grown_alloc (grown_refl _ none) _))); clear C9 DB hk hg)
    | (go_at_call 14; refine C15.out.mono ?_; rintro e w4 ⟨kd, ty, tx, nm, qs, ln, cq, rfl, hg⟩; have G4 := hid (grown_alloc (grown_none G3.out hg) (.cells #[.int .i64 kd, .int .i64 ty, .string tx, .int .i64 nm, .slice qs ln cq] 27)); clear C15 hg))
  go_ret
  exact ⟨rfl, G4.out⟩
end Sc
end Go.Proofs.YtajoncmmdeahnaaGreatDoor
namespace Go.Proofs.YtajoncmmdeahnaaGreatDoor
open Go.RowKit
namespace Sc
def sgL : Nat → List UInt8
  | 0 => [43]
  | 1 => [45]
  | 2 => [42]
  | 3 => [47]
  | 4 => [37]
  | 5 => [60]
  | 6 => [60, 61]
  | 7 => [62]
  | 8 => [62, 61]
  | 9 => [61, 61]
  | 10 => [33, 61]
  | 11 => [38, 38]
  | _ => [124, 124]
def tyL : Nat → List UInt8
  | 0 => [105, 110, 116]
  | 1 => [102, 108, 111, 97, 116]
  | _ => [98, 111, 111, 108]
def anF (i x : Nat) : Nat := if 5 ≤ i then 2 else x
def okF (i x : Nat) (e : Bool) : Bool := if i = 4 then e && decide (x = 0) else if i < 9 then e && decide (x < 2) else if i < 11 then e else e && decide (x = 2)
def txS (i x y : Nat) : List UInt8 := (((((((([102, 117, 110, 99, 32, 102, 40, 97, 32] ++ tyL x) ++ [44, 32, 98, 32]) ++ tyL y) ++ [41, 32]) ++ tyL (anF i x)) ++ [32, 123, 32, 114, 101, 116, 117, 114, 110, 32, 97, 32]) ++ sgL i) ++ [32, 98, 59, 32, 125])
def okS (i x y : Nat) : Bool := match codeL 60 (txS i x y) with
  | some (_, m) => m == if okF i x (x == y) then 0 else 122
  | none => false
def tri (f : Nat → Bool) : Bool := f 0 && f 1 && f 2
theorem tri_at {f : Nat → Bool} (h : tri f = true) (j : Nat) (hj : j < 3) : f j = true := by
  unfold tri at h
  simp only [Bool.and_eq_true] at h
  obtain ⟨⟨h0, h1⟩, h2⟩ := h
  match j, hj with
  | 0, _ => exact h0
  | 1, _ => exact h1
  | 2, _ => exact h2
def all13 (f : Nat → Bool) : Bool := (List.range 13).all f
theorem all13_at {f : Nat → Bool} (h : all13 f = true) (j : Nat) (hj : j < 13) : f j = true := List.all_eq_true.1 h j (List.mem_range.2 hj)
set_option maxRecDepth 100000 in
theorem allS : (all13 fun i => tri fun x => tri fun y => okS i x y) = true := by kernel_rfl
theorem codeS (i x y : Nat) (hi : i < 13) (hx : x < 3) (hy : y < 3) : ∃ p a, parsL 60 (txS i x y) = .ok p ∧ codeOf (Ck.checkT 60 p) = some (a, if okF i x (x == y) then 0 else 122) := by
  have h := tri_at (tri_at (all13_at allS i hi) x hx) y hy
  unfold okS at h
  split at h
  case h_1 a m hc =>
    rw [beq_iff_eq] at h
    subst h
    obtain ⟨p, h1, h2⟩ := codeL_some hc
    exact ⟨p, a, h1, h2⟩
  case h_2 => cases h
end Sc
end Go.Proofs.YtajoncmmdeahnaaGreatDoor
