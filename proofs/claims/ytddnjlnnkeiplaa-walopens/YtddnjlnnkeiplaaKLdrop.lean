/-
  A log of the program, in memory; mark, Root, Len, Waits, and Drop where nothing waits among the records. nextFall, where the plan has at most one fall. Drop where every record is committed.
-/
import Derived.Test.YtddnjlnnkeiplaaMore
import Derived.Test.YtddnjlnnkeiplaaWUnframe
import Derived.Deep.QuietTactic
import Derived.BigQuiet
import Derived.Test.YtddnjlnnkeiplaaKWNum
import Derived.Deep.RegionLaw
namespace Go.Proofs.Ytddnjlnnkeiplaa
open Go.RowKit Go.Maps
theorem hid {p : Prop} (h : p) : Hid p := h
structure Lg where
  d : Nat
  recs : List (Nat × ByteArray)
  com : Nat
  len : Nat
  wait : ByteArray
  root : ByteArray
  marked : Bool
def recL (p : Nat × ByteArray) : List Value := [.int .i64 p.1, .string p.2]
def recsL (l : List (Nat × ByteArray)) : List Value := l.flatMap recL
theorem recsL_len (l : List (Nat × ByteArray)) : (recsL l).length = l.length * 2 := by
  induction l with
  | nil => rfl
  | cons p r ih =>
    unfold recsL at ih ⊢
    rw [List.flatMap_cons, List.length_append, ih, List.length_cons]
    show 2 + _ = _
    omega
theorem recsL_snoc (l : List (Nat × ByteArray)) (p : Nat × ByteArray) : recsL l ++ recL p = recsL (l ++ [p]) := by
  unfold recsL
  rw [List.flatMap_append, List.flatMap_cons, List.flatMap_nil, List.append_nil]
def rowG (d : Nat) (vr vw : Value) (com len : Nat) (root : ByteArray) (marked : Bool) : Array Value := #[.pointer (some ⟨d, 0, none⟩), vr, .int .i64 com, .int .i64 len, vw, .string root, .bool marked]
/-- Block b is a log of this state; its rows lie from base on. -/
def IsLog (w : World) (base b : Nat) (g : Lg) : Prop :=
  base ≤ b ∧ ∃ vr vw, Blk w b 77 (rowG g.d vr vw g.com g.len g.root g.marked) ∧ w.ownsRow base 84 2 vr g.recs.length (recsL g.recs) ∧ w.ownsRow base 5 1 vw g.wait.size (Lib.strCells g.wait)
/-- What a log's calls may turn: its block, its rows. -/
structure LT (base b : Nat) (w w' : World) : Prop where
  os : w'.os = w.os
  tape : w'.tape = w.tape
  output : w'.output = w.output
  size : w.heap.size ≤ w'.heap.size
  keep : ∀ i, i < w.heap.size → (i < base ∨ (i ≠ b ∧ ∀ cs t fz, w.heap[i]? = some (.cells cs t fz) → t ≠ 84 ∧ t ≠ 5)) → w'.heap[i]? = w.heap[i]?
theorem LT.of_grown {base b : Nat} {w w' : World} {row : Option Nat} (h : w.grownBy w' row) (hr : ∀ i, i < w.heap.size → (i < base ∨ (i ≠ b ∧ ∀ cs t fz, w.heap[i]? = some (.cells cs t fz) → t ≠ 84 ∧ t ≠ 5)) → some i ≠ row) : LT base b w w' :=
  ⟨h.os, h.tape, h.output, h.size, fun i hi hs => h.block i hi (hr i hi hs)⟩
theorem LT.of_none {base b : Nat} {w w' : World} (h : w.grownBy w' none) : LT base b w w' := LT.of_grown h (fun _ _ _ => by simp)
theorem LT.of_self {base b : Nat} {w w' : World} (h : w.grownBy w' (some b)) (hb : base ≤ b) : LT base b w w' := LT.of_grown h (fun i _ hs e => by
  have e' := Option.some.inj e
  rcases hs with hs | ⟨hn, _⟩
  · omega
  · exact hn e')
theorem LT.refl (base b : Nat) (w : World) : LT base b w w := LT.of_none (grown_refl _ _)
theorem LT.trans {base b : Nat} {w w' w'' : World} (h : LT base b w w') (k : LT base b w' w'') : LT base b w w'' :=
  ⟨k.os.trans h.os, k.tape.trans h.tape, k.output.trans h.output, Nat.le_trans h.size k.size, fun i hi hs => by
    have e := h.keep i hi hs
    refine (k.keep i (Nat.lt_of_lt_of_le hi h.size) ?_).trans e
    rcases hs with hs | ⟨hn, hc⟩
    · exact Or.inl hs
    · exact Or.inr ⟨hn, fun cs t fz hq => hc cs t fz (by rw [← e]; exact hq)⟩⟩
theorem LT.grown {b : Nat} {w w' w'' : World} (h0 : w.grownBy w' none) (h : LT w.heap.size b w' w'') : w.grownBy w'' none :=
  ⟨h.os.trans h0.os, h.tape.trans h0.tape, h.output.trans h0.output, Nat.le_trans h0.size h.size, fun i hi _ => (h.keep i (Nat.lt_of_lt_of_le hi h0.size) (Or.inl hi)).trans (h0.block i hi (by simp))⟩
theorem rowG_kept {w w' : World} {base e size n b : Nat} {v : Value} {xs : List Value} {t : TypeId} {cs : Array Value} (h : w.ownsRow base e size v n xs) (hb : Blk w b t cs) (ht : t ≠ e) (hg : w.grownBy w' (some b)) : w'.ownsRow base e size v n xs := by
  refine h.kept hg ?_
  cases hq : v.ownBlock with
  | none => exact Or.inl rfl
  | some g =>
    refine Or.inr (fun e1 => ?_)
    have e' : g = b := Option.some.inj e1
    subst e'
    rcases h.2 with ⟨rfl, _⟩ | ⟨g', cap, cur, rfl, _, hh, _⟩
    · cases hq
    · have : g' = g := Option.some.inj hq
      subst this
      have hB' : w.heap[g']? = some (.cells cs t (0, 0)) := hb
      rw [hh] at hB'
      injection hB' with q
      injection q with q1 q2 q3
      exact ht q2.symm
theorem IsLog.kept {w w' : World} {base b : Nat} {g : Lg} (h : IsLog w base b g) (hg : w.grownBy w' none) : IsLog w' base b g := by
  obtain ⟨h0, vr, vw, hb, hr, hw⟩ := h
  refine ⟨h0, vr, vw, hb.kept hg (by simp), hr.kept hg ?_, hw.kept hg ?_⟩
  · cases vr.ownBlock with
    | none => exact Or.inl rfl
    | some x => exact Or.inr (by simp)
  · cases vw.ownBlock with
    | none => exact Or.inl rfl
    | some x => exact Or.inr (by simp)
theorem IsLog.drew {w : World} {base b : Nat} {g : Lg} (h : IsLog w base b g) : IsLog w.drew base b g := h
theorem Blk.g7 {w : World} {b d com len : Nat} {vr vw : Value} {root : ByteArray} {mk : Bool} (h : Blk w b 77 (rowG d vr vw com len root mk)) : (w.cell? ⟨b, 0, none⟩ = some (.pointer (some ⟨d, 0, none⟩)) ∧ w.cell? ⟨b, 1, none⟩ = some vr ∧ w.cell? ⟨b, 2, none⟩ = some (.int .i64 com) ∧ w.cell? ⟨b, 3, none⟩ = some (.int .i64 len) ∧ w.cell? ⟨b, 4, none⟩ = some vw ∧ w.cell? ⟨b, 5, none⟩ = some (.string root) ∧ w.cell? ⟨b, 6, none⟩ = some (.bool mk)) ∧ w.frozen? ⟨b, 1, none⟩ = false ∧ w.frozen? ⟨b, 2, none⟩ = false ∧ w.frozen? ⟨b, 3, none⟩ = false ∧ w.frozen? ⟨b, 4, none⟩ = false ∧ w.frozen? ⟨b, 5, none⟩ = false ∧ w.frozen? ⟨b, 6, none⟩ = false :=
  ⟨⟨h.cell 0, h.cell 1, h.cell 2, h.cell 3, h.cell 4, h.cell 5, h.cell 6⟩, h.frozen 1, h.frozen 2, h.frozen 3, h.frozen 4, h.frozen 5, h.frozen 6⟩
theorem row_form {w : World} {base e size n : Nat} {v : Value} {xs : List Value} (h : w.ownsRow base e size v n xs) : ∃ pa cap, v = .slice pa n cap ∧ n ≤ cap ∧ cap ≤ maxLen ∧ (pa = none → cap = 0) := by
  rcases h.2 with ⟨rfl, rfl⟩ | ⟨g, cap, cur, rfl, _, _, hc, hm, _⟩
  · exact ⟨none, 0, rfl, Nat.le_refl _, Nat.zero_le _, fun _ => rfl⟩
  · exact ⟨_, cap, rfl, hc, hm, fun e => by cases e⟩
set_option maxRecDepth 100000 in
set_option maxHeartbeats 1000000 in
theorem mark_any (base b : Nat) (g : Lg) (n : Nat) (r : ByteArray) (w : World) (h : IsLog w base b g) (hl : g.recs.length ≤ 1000000) :
    Calls Try.prog 44 #[.pointer (some ⟨b, 0, none⟩), .int .i64 n, .string r] w fun e w' => e = .returned (.tuple #[]) ∧ IsLog w' base b { g with com := g.recs.length, len := n, wait := ⟨#[]⟩, root := r, marked := true } ∧ w.grownBy w' (some b) := by
  obtain ⟨h0, vr, vw, hb, hr, hw⟩ := h
  obtain ⟨pr, cr, rfl, _⟩ := row_form hr
  obtain ⟨pw, cw, rfl, _⟩ := row_form hw
  have R1 : Hid (IsLog (((((w.setCell ⟨b, 2, none⟩ (.int .i64 g.recs.length)).setCell ⟨b, 3, none⟩ (.int .i64 n)).setCell ⟨b, 4, none⟩ (.slice none 0 0)).setCell ⟨b, 5, none⟩ (.string r)).setCell ⟨b, 6, none⟩ (.bool true)) base b { g with com := g.recs.length, len := n, wait := ⟨#[]⟩, root := r, marked := true } ∧ w.grownBy (((((w.setCell ⟨b, 2, none⟩ (.int .i64 g.recs.length)).setCell ⟨b, 3, none⟩ (.int .i64 n)).setCell ⟨b, 4, none⟩ (.slice none 0 0)).setCell ⟨b, 5, none⟩ (.string r)).setCell ⟨b, 6, none⟩ (.bool true)) (some b)) := by
    have GF := grown_set (grown_set (grown_set (grown_set (grown_set (grown_refl w (some b)) 2 (.int .i64 g.recs.length)) 3 (.int .i64 n)) 4 (.slice none 0 0)) 5 (.string r)) 6 (.bool true)
    refine ⟨⟨h0, .slice pr g.recs.length cr, .slice none 0 0, ?_, rowG_kept hr hb (by decide) GF, ⟨rfl, Or.inl ⟨rfl, rfl⟩⟩⟩, GF⟩
    exact ((((hb.set 2 (.int .i64 g.recs.length)).set 3 (.int .i64 n)).set 4 (.slice none 0 0)).set 5 (.string r)).set 6 (.bool true)
  have hll : (g.recs.length : Int) ≤ 1000000 := by omega
  obtain ⟨⟨c0, c1, c2, c3, c4, c5, c6⟩, f1, f2, f3, f4, f5, f6⟩ := hb.g7
  clear hb hr hw
  generalize g.recs.length = L at *
  go_enter Try.func44, Try.ntmps44
  go_wp2
  first
  | exact bodyPost_end (results_none rfl _ _ _) rfl ⟨rfl, R1.out.1, R1.out.2⟩
  | exact bodyPost_ret (results_none rfl _ _ _) rfl ⟨rfl, R1.out.1, R1.out.2⟩
set_option maxRecDepth 100000 in
theorem lroot_any (base b : Nat) (g : Lg) (w : World) (h : IsLog w base b g) : Calls Try.prog 35 #[.pointer (some ⟨b, 0, none⟩)] w fun e w' => e = .returned (.tuple #[.string g.root, .bool g.marked]) ∧ w.grownBy w' none := by
  obtain ⟨h0, vr, vw, hb, _, _⟩ := h
  obtain ⟨⟨c0, c1, c2, c3, c4, c5, c6⟩, _⟩ := hb.g7
  clear hb c0 c1 c2 c3 c4
  go_enter Try.func35, Try.ntmps35
  go_wp2_with fail
  go_quiet (fail)
  go_wp2
  go_ret2
  exact ⟨rfl, grown_drewN (grown_refl _ _) _⟩
end Go.Proofs.Ytddnjlnnkeiplaa
namespace Go.Proofs.Ytddnjlnnkeiplaa.X
open Go.RowKit Go.Maps
variable {xt : Xt}
/-- A fall. -/
structure Fa where
  at_ : Int
  keep : Int
  torn : Int
def faL (f : Fa) : List Value := [.int .i64 f.at_, .int .i64 f.keep, .int .i64 f.torn]
def planL : Option Fa → List Value
  | none => []
  | some f => faL f
def planN : Option Fa → Nat
  | none => 0
  | some _ => 1
/-- The plan: none, or one fall. -/
def PlanV (xt : Xt) (w : World) (base : Nat) (pl : Option Fa) : Prop := w.ownsRow base 35 3 (.slice xt.pp xt.pn xt.pc) (planN pl) (planL pl)
set_option maxRecDepth 100000 in
theorem index_empty (p : Option Addr) (c : Nat) (f : Value) (w : World) : Calls Try.prog 80 #[.slice p 0 c, f] w fun e w' => e = .returned (.int .i64 (-1)) ∧ w' = w := by
  go_enter Try.func80, Try.ntmps80
  go_wp2
  refine wp_loop_rounds 1 ?_
  rw [rounds_succ]
  go_wp2
  go_ret
  exact ⟨rfl, rfl⟩
set_option maxRecDepth 100000 in
set_option maxHeartbeats 1000000 in
theorem strikes_any (fa fk ft : Int) (q b c : Nat) (w : World) (hq : w.cell? ⟨q, 0, none⟩ = some (.pointer (some ⟨b, 0, none⟩))) (h5 : w.cell? ⟨b, 5, none⟩ = some (.int .i64 c)) :
    Calls Try.prog 81 #[.agg #[.int .i64 fa, .int .i64 fk, .int .i64 ft], .pointer (some ⟨q, 0, none⟩)] w fun e w' => e = .returned (.bool (fa == (c : Int))) ∧ w.grownBy w' none := by
  have hqw : q < w.heap.size := World.block_lt_of_cell? _ _ hq
  have hbw : b < w.heap.size := World.block_lt_of_cell? _ _ h5
  go_enter Try.func81, Try.ntmps81
  go_wp2_with fail
  first
  | (go_quiet (fail)
     go_wp2_with fail
     go_ret
     exact ⟨rfl, grown_drewN (grown_alloc (grown_refl _ _) _) _⟩)
  | (go_ret
     exact ⟨rfl, grown_alloc (grown_refl _ _) _⟩)
set_option maxRecDepth 100000 in
set_option maxHeartbeats 1000000 in
theorem index_one (g cc q b c : Nat) (f : Fa) (w : World) (hq : w.cell? ⟨q, 0, none⟩ = some (.pointer (some ⟨b, 0, none⟩))) (h5 : w.cell? ⟨b, 5, none⟩ = some (.int .i64 c)) (r0 : w.cell? ⟨g, 0, none⟩ = some (.int .i64 f.at_)) (r1 : w.cell? ⟨g, 1, none⟩ = some (.int .i64 f.keep)) (r2 : w.cell? ⟨g, 2, none⟩ = some (.int .i64 f.torn)) :
    Calls Try.prog 80 #[.slice (some ⟨g, 0, none⟩) 1 cc, .func (.func 81) #[] #[.pointer (some ⟨q, 0, none⟩)]] w fun e w' => e = .returned (.int .i64 (if f.at_ = (c : Int) then 0 else -1)) ∧ w.grownBy w' none := by
  obtain ⟨fa, fk, ft⟩ := f
  simp only at r0 r1 r2 ⊢
  have CK : Hid (Calls Try.prog 81 #[.agg #[.int .i64 fa, .int .i64 fk, .int .i64 ft], .pointer (some ⟨q, 0, none⟩)] w fun e w' => e = .returned (.bool (fa == (c : Int))) ∧ w.grownBy w' none) := strikes_any fa fk ft q b c w hq h5
  by_cases he : fa = (c : Int)
  · have hb : (fa == (c : Int)) = true := by simp [he]
    rw [hb] at CK
    rw [if_pos he]
    clear he hb
    go_enter Try.func80, Try.ntmps80
    go_wp2
    refine wp_loop_rounds 2 ?_
    rw [rounds_succ]
    go_wp2_with (go_at_call 81; refine CK.out.mono ?_; rintro e w1 ⟨rfl, g1⟩; have G1 : Hid (w.grownBy w1 none) := g1; clear g1 CK)
    go_ret
    exact ⟨rfl, G1.out⟩
  · have hb : (fa == (c : Int)) = false := by simp [he]
    rw [hb] at CK
    rw [if_neg he]
    clear he hb
    go_enter Try.func80, Try.ntmps80
    go_wp2
    refine wp_loop_rounds 2 ?_
    rw [rounds_succ]
    go_wp2_with (go_at_call 81; refine CK.out.mono ?_; rintro e w1 ⟨rfl, g1⟩; have G1 : Hid (w.grownBy w1 none) := g1; clear g1 CK)
    rw [rounds_succ]
    go_wp2
    go_ret
    exact ⟨rfl, G1.out⟩
set_option maxRecDepth 100000 in
set_option maxHeartbeats 1000000 in
theorem nextFall_x (b : Nat) (w : World) (f : Fa) (c : Nat) (g cc : Nat) (h4 : w.cell? ⟨b, 4, none⟩ = some (.slice (some ⟨g, 0, none⟩) 1 cc)) (h5 : w.cell? ⟨b, 5, none⟩ = some (.int .i64 c)) (r0 : w.cell? ⟨g, 0, none⟩ = some (.int .i64 f.at_)) (r1 : w.cell? ⟨g, 1, none⟩ = some (.int .i64 f.keep)) (r2 : w.cell? ⟨g, 2, none⟩ = some (.int .i64 f.torn)) :
    Calls Try.prog 73 #[.pointer (some ⟨b, 0, none⟩)] w fun e w' => e = .returned (.int .i64 (if f.at_ = (c : Int) then 0 else -1)) ∧ w.grownBy w' none := by
  have hb : b < w.heap.size := World.block_lt_of_cell? _ _ h4
  have hg : g < w.heap.size := World.block_lt_of_cell? _ _ r0
  have G0 : Hid (w.grownBy (w.alloc (.cells #[.pointer (some ⟨b, 0, none⟩)] 23)) none) := grown_alloc (grown_refl _ _) _
  have CI := hid (index_one g cc w.heap.size b c f (w.alloc (.cells #[.pointer (some ⟨b, 0, none⟩)] 23)) ((Blk.new w 23 _).cell 0) (cell_kept h5 G0.out (fun _ e => by cases e)) (cell_kept r0 G0.out (fun _ e => by cases e)) (cell_kept r1 G0.out (fun _ e => by cases e)) (cell_kept r2 G0.out (fun _ e => by cases e)))
  generalize (if f.at_ = (c : Int) then (0 : Int) else -1) = z at *
  go_enter Try.func73, Try.ntmps73
  go_wp2_with (go_at_call 80; refine CI.out.mono ?_; rintro e w1 ⟨rfl, g1⟩; have G1 : Hid (w.grownBy w1 none) := grown_none G0.out g1; clear g1 CI)
  go_ret
  exact ⟨rfl, G1.out⟩
end Go.Proofs.Ytddnjlnnkeiplaa.X
namespace Go.Proofs.Ytddnjlnnkeiplaa
open Go.RowKit Go.Maps
theorem run_clear0 (pa : Option Addr) (c : Nat) (w : World) : (Builtin.clear_ #[74] 0 #[.slice pa 0 c]).run Try.prog w = .ok (.tuple #[]) w := by
  cases pa <;> kernel_rfl
theorem step_clear0 {ops : Array Oper} {o : Oper} {a : Act} {w : World} {K : Act → World → Prop} {Q : Exit → Act → World → Prop} {E : Prop} (x : Operand) (pa : Option Addr) (c : Nat) (hg : o.guard = none) (ho : o.op = Op.call { callee := Callee.builtin Builtin.clear, args := #[x], argTypes := #[74] }) (ht : o.type = 0) (hx : a.eval x = .slice pa 0 c)
    (hK : K (a.put o.dst (.tuple #[])) w) : if Region.wanted o (yielded ops a.tmps) = true then Oper.wp Try.prog o a w K Q else E := by
  have hw : Region.wanted o (yielded ops a.tmps) = true := by simp [Region.wanted, hg]
  rw [if_pos hw]
  have hrun := run_clear0 pa c w
  unfold Oper.wp
  simp [execOp, ho, ht, resolve, invoke, builtin, hx, hrun, Result.andThen]
  exact hK
set_option maxRecDepth 100000 in
set_option maxHeartbeats 2000000 in
theorem drop_full (base b : Nat) (g : Lg) (w : World) (h : IsLog w base b g) (hc : g.com = g.recs.length) (hl : g.recs.length ≤ 1000000) (hwl : g.wait.size ≤ 1000000) :
    Calls Try.prog 12 #[.pointer (some ⟨b, 0, none⟩)] w fun e w' => e = .returned (.int .i64 g.wait.size) ∧ IsLog w' base b { g with wait := ⟨#[]⟩ } ∧ w.grownBy w' (some b) := by
  obtain ⟨h0, vr, vw, hb, hr, hw⟩ := h
  have FINAL : Hid (IsLog ((w.setCell ⟨b, 1, none⟩ vr).setCell ⟨b, 4, none⟩ (.slice none 0 0)) base b { g with wait := ⟨#[]⟩ } ∧ w.grownBy ((w.setCell ⟨b, 1, none⟩ vr).setCell ⟨b, 4, none⟩ (.slice none 0 0)) (some b)) := by
    have GF := grown_set (grown_set (grown_refl w (some b)) 1 vr) 4 (.slice none 0 0)
    refine ⟨⟨h0, vr, .slice none 0 0, ?_, rowG_kept hr hb (by decide) GF, ⟨rfl, Or.inl ⟨rfl, rfl⟩⟩⟩, GF⟩
    exact (hb.set 1 vr).set 4 (.slice none 0 0)
  rw [hc] at hb
  obtain ⟨pw, cw, rfl, _⟩ := row_form hw
  obtain ⟨⟨c0, c1, c2, c3, c4, c5, c6⟩, f1, f2, f3, f4, f5, f6⟩ := hb.g7
  have hll : (g.recs.length : Int) ≤ 1000000 := by omega
  have hwi : (g.wait.size : Int) ≤ 1000000 := by omega
  rcases hr.2 with ⟨rfl, hz⟩ | ⟨q, cap, cur, rfl, hq, hh, hcap, hm, hrest⟩
  · clear hb hr hw
    rw [hz] at c2
    clear hll hc hl hwl
    go_enter Try.func12, Try.ntmps12
    go_wp2_with fail
    go_region_law (refine step_clear0 (.tmp 19) _ _ rfl rfl rfl rfl ?_)
    all_goals (
      go_wp2_with fail
      go_region_law (fail)
      all_goals (
        go_wp2
        go_ret
        exact ⟨rfl, FINAL.out.1.drew.drew, grown_drew (grown_drew FINAL.out.2)⟩))
  · clear hb hr hw hrest hh hl hwl
    have i1 : (g.recs.length : Int) ≤ cap := by omega
    have i2 : (cap : Int) ≤ 9223372036854775807 := by unfold maxLen at hm; omega
    have i0 : (0 : Int) ≤ g.recs.length := by omega
    clear hc hm hq
    by_cases hx : g.recs.length = cap
    · subst hx
      generalize g.recs.length = L at *
      clear hcap
      go_enter Try.func12, Try.ntmps12
      go_wp2_with fail
      go_region_law (refine step_clear0 (.tmp 19) _ _ rfl rfl rfl rfl ?_)
      all_goals (
        go_wp2_with fail
        go_region_law (fail)
        all_goals (
          go_wp2
          go_ret
          exact ⟨rfl, FINAL.out.1.drew.drew, grown_drew (grown_drew FINAL.out.2)⟩))
    · have i3 : (g.recs.length : Int) < cap := by omega
      have i4 : ¬ cap = g.recs.length := by omega
      have i5 : ¬ g.recs.length = cap := by omega
      generalize g.recs.length = L at *
      go_enter Try.func12, Try.ntmps12
      go_wp2_with fail
      go_region_law (refine step_clear0 (.tmp 19) _ _ rfl rfl rfl rfl ?_)
      all_goals (
        go_wp2_with fail
        go_region_law (fail)
        all_goals (
          go_wp2
          go_ret
          exact ⟨rfl, FINAL.out.1.drew.drew, grown_drew (grown_drew FINAL.out.2)⟩))
end Go.Proofs.Ytddnjlnnkeiplaa
