/-
  The document's reader, which goes from hand to hand by value.
-/
import Derived.Test.YtddnjlnnkeiplaaKWLow
import Derived.Laws.ResultCell
import Derived.Laws.Rows
namespace Go.Proofs.Ytddnjlnnkeiplaa.Wi
open Go.RowKit
theorem size46 : (Try.prog.info? 93).map (·.size) = some 3 := by kernel_rfl
theorem q_is_store {P : Program} {ops : Array Oper} {rest : List Oper} {o : Oper} {a : Act} {w : World} {Q : Exit → Act → World → Prop} (ty : TypeId) (x y : Operand) (_ho : o.op = .store ty x y) (h : wpList P ops Q (o :: rest) a w) : wpList P ops Q (o :: rest) a w := h
theorem _root_.Go.Proofs.Ytddnjlnnkeiplaa.Blk.new2 (w : World) (o : Obj) (t : TypeId) (cs : Array Value) : Blk ((w.alloc o).alloc (.cells cs t)) (w.heap.size + 1) t cs := by
  have h := Blk.new (w.alloc o) t cs
  rwa [show (w.alloc o).heap.size = w.heap.size + 1 by simp] at h
/-- A reader stored whole. -/
theorem store_rd {ops : Array Oper} {rest : List Oper} {o : Oper} {a : Act} {w : World} {Q : Exit → Act → World → Prop} (g : Nat) {s s' : ByteArray} {i i' e e' : Nat} (hg : Blk w g 93 (rd s' i' e')) (x y : Operand)
    (hgd : o.guard = none) (ho : o.op = .store 93 x y) (hx : a.eval x = .pointer (some ⟨g, 0, none⟩)) (hy : a.eval y = .agg #[.string s, .int .i64 i, .int .i64 e])
    (h : ∀ w', Blk w' g 93 (rd s i e) → w.grownBy w' (some g) → wpList Try.prog ops Q rest (a.put o.dst undef) w') : wpList Try.prog ops Q (o :: rest) a w :=
  wpList_store_row hgd 93 x y ho g _ hx hy 93 _ hg size46 rfl (by simp [Value.oneCell']) (h _ (setRow_blk hg _) (setRow_grown w g _))
/-- What a function hands back: the reader, and something. -/
theorem results_pair {fn : Func} {p u : Tmp} (h : fn.results = #[.cell p 93, .tmp u]) (tmps : Array Value) (w : World) (g : Nat) {s : ByteArray} {i e : Nat} (hp : tmps.getD p undef = .pointer (some ⟨g, 0, none⟩)) (hg : Blk w g 93 (rd s i e)) :
    (results fn tmps).run Try.prog w = .ok (.tuple #[.agg #[.string s, .int .i64 i, .int .i64 e], tmps.getD u undef]) w := by
  rw [results_cell_tmp h, hp]
  have hl := run_loadVar_row (P := Try.prog) w g 93 93 (rd s i e) (0, 0) _ hg Try.underlying93 rfl size46
  simp [asAddr, hl, Result.andThen, rd]
theorem results_one {fn : Func} {p : Tmp} (h : fn.results = #[.cell p 93]) (tmps : Array Value) (w : World) (g : Nat) {s : ByteArray} {i e : Nat} (hp : tmps.getD p undef = .pointer (some ⟨g, 0, none⟩)) (hg : Blk w g 93 (rd s i e)) :
    (results fn tmps).run Try.prog w = .ok (.agg #[.string s, .int .i64 i, .int .i64 e]) w :=
  results_cell_row h _ _ g 93 _ (0, 0) _ hp hg Try.underlying93 rfl size46
set_option maxRecDepth 100000 in
set_option maxHeartbeats 400000 in
theorem refFail_any (s : ByteArray) (a e f : Nat) (w : World) : Calls Try.prog 71 #[.agg #[.string s, .int .i64 a, .int .i64 e], .int .i64 f] w fun r w' => r = .returned (.agg #[.string ⟨#[]⟩, .int .i64 a, .int .i64 f]) ∧ w.grownBy w' none := by
  go_enter Try.func71, Try.ntmps71
  go_wp2
  refine bodyPost_ret (results_one Try.results71 _ _ (w.heap.size + 1) rfl (Blk.new2 w _ _ _)) rfl ⟨rfl, grown_alloc (grown_alloc (grown_refl _ _) _) _⟩
/-- Behind an error nothing is left. -/
def Shut (s : ByteArray) (e : Nat) : Prop := e ≠ 0 → s = ⟨#[]⟩
set_option maxRecDepth 100000 in
set_option maxHeartbeats 400000 in
theorem refBytes_bad (s : ByteArray) (a e : Nat) (n : Int) (w : World) (he : (e : Int) ≠ 0) : Calls Try.prog 70 #[.agg #[.string s, .int .i64 a, .int .i64 e], .int .i64 n] w fun r w' => r = .returned (.tuple #[.agg #[.string s, .int .i64 a, .int .i64 e], .string ⟨#[]⟩]) ∧ w.grownBy w' none := by
  have he' : ((e : Int) != 0) = true := by rw [bne_iff_ne]; omega
  go_enter Try.func70, Try.ntmps70
  go_wp2
  exact bodyPost_ret (results_pair Try.results70 _ _ (w.heap.size + 1) rfl (Blk.new2 w _ _ _)) rfl ⟨rfl, grown_alloc (grown_alloc (grown_refl _ _) _) _⟩
set_option maxRecDepth 100000 in
set_option maxHeartbeats 400000 in
theorem refBytes_neg (s : ByteArray) (a : Nat) (n : Int) (w : World) (hn : n < 0) : Calls Try.prog 70 #[.agg #[.string s, .int .i64 a, .int .i64 0], .int .i64 n] w fun r w' => r = .returned (.tuple #[.agg #[.string ⟨#[]⟩, .int .i64 a, .int .i64 1], .string ⟨#[]⟩]) ∧ w.grownBy w' none := by
  have C : Hid (∀ w, Calls Try.prog 71 #[.agg #[.string s, .int .i64 a, .int .i64 0], .int .i64 1] w fun r w' => r = .returned (.agg #[.string ⟨#[]⟩, .int .i64 a, .int .i64 1]) ∧ w.grownBy w' none) := fun w => refFail_any s a 0 1 w
  go_enter Try.func70, Try.ntmps70
  go_wp2_with (first | (go_at_call 71; refine (C.out _).mono ?_; rintro r w1 ⟨rfl, hg1⟩; have B1 : Hid (Blk w1 (w.heap.size + 1) 93 (rd ⟨#[]⟩ 0 0)) := (Blk.new2 w _ _ _).kept hg1 (by simp); have G1 : Hid (w.grownBy w1 none) := grown_none (grown_alloc (grown_alloc (grown_refl _ _) _) _) hg1; clear hg1) | (refine q_is_store 93 (.tmp 4) (.tmp 15) rfl ?_; refine store_rd (w.heap.size + 1) B1.out _ _ rfl rfl rfl rfl ?_; intro w2 hb2 hg2; have B2 : Hid (Blk w2 (w.heap.size + 1) 93 (rd ⟨#[]⟩ a 1)) := hb2; have G2 : Hid (w.grownBy w2 none) := grown_through G1.out hg2 (by omega); clear hb2 hg2 B1 G1))
  exact bodyPost_ret (results_pair Try.results70 _ _ (w.heap.size + 1) rfl B2.out) rfl ⟨rfl, G2.out⟩
set_option maxRecDepth 100000 in
set_option maxHeartbeats 400000 in
theorem refBytes_short (s : ByteArray) (a n : Nat) (w : World) (hn : (s.size : Int) < (n : Int)) : Calls Try.prog 70 #[.agg #[.string s, .int .i64 a, .int .i64 0], .int .i64 n] w fun r w' => r = .returned (.tuple #[.agg #[.string ⟨#[]⟩, .int .i64 a, .int .i64 4], .string ⟨#[]⟩]) ∧ w.grownBy w' none := by
  have C : Hid (∀ w, Calls Try.prog 71 #[.agg #[.string s, .int .i64 a, .int .i64 0], .int .i64 4] w fun r w' => r = .returned (.agg #[.string ⟨#[]⟩, .int .i64 a, .int .i64 4]) ∧ w.grownBy w' none) := fun w => refFail_any s a 0 4 w
  have n0 : ¬ ((n : Int) < 0) := by omega
  go_enter Try.func70, Try.ntmps70
  go_wp2_with (first | (go_at_call 71; refine (C.out _).mono ?_; rintro r w1 ⟨rfl, hg1⟩; have B1 : Hid (Blk w1 (w.heap.size + 1) 93 (rd ⟨#[]⟩ 0 0)) := (Blk.new2 w _ _ _).kept hg1 (by simp); have G1 : Hid (w.grownBy w1 none) := grown_none (grown_alloc (grown_alloc (grown_refl _ _) _) _) hg1; clear hg1) | (refine q_is_store 93 (.tmp 4) (.tmp 23) rfl ?_; refine store_rd (w.heap.size + 1) B1.out _ _ rfl rfl rfl rfl ?_; intro w2 hb2 hg2; have B2 : Hid (Blk w2 (w.heap.size + 1) 93 (rd ⟨#[]⟩ a 4)) := hb2; have G2 : Hid (w.grownBy w2 none) := grown_through G1.out hg2 (by omega); clear hb2 hg2 B1 G1))
  exact bodyPost_ret (results_pair Try.results70 _ _ (w.heap.size + 1) rfl B2.out) rfl ⟨rfl, G2.out⟩
set_option maxRecDepth 100000 in
set_option maxHeartbeats 400000 in
theorem refBytes_in (s : ByteArray) (a n : Nat) (w : World) (hn : (n : Int) ≤ (s.size : Int)) (ha : (a : Int) + (s.size : Int) ≤ 281474976710656) : Calls Try.prog 70 #[.agg #[.string s, .int .i64 a, .int .i64 0], .int .i64 n] w fun r w' => r = .returned (.tuple #[.agg #[.string (s.extract n s.size), .int .i64 (a + n : Nat), .int .i64 0], .string (s.extract 0 n)]) ∧ w.grownBy w' none := by
  have n0 : ¬ ((n : Int) < 0) := by omega
  have n1 : (0 : Int) ≤ (n : Int) := by omega
  have n2 : ¬ ((s.size : Int) < (n : Int)) := by omega
  have a0 : (0 : Int) ≤ (a : Int) := by omega
  go_enter Try.func70, Try.ntmps70
  go_wp2
  go_region
  go_wp2
  exact bodyPost_ret (results_pair (s := s.extract n s.size) (i := a + n) (e := 0) Try.results70 _ _ (w.heap.size + 1) rfl (Blk.new2 w _ _ _).drew) rfl ⟨rfl, grown_drew (grown_alloc (grown_alloc (grown_refl _ _) _) _)⟩
theorem extract_nil (n m : Nat) : (⟨#[]⟩ : ByteArray).extract n m = ⟨#[]⟩ := by
  apply bytes_ext
  rw [ByteArray.data_extract, Array.toList_extract]
  simp
theorem refBytes_any (s : ByteArray) (a e n : Nat) (w : World) (he : Shut s e) (ha : (a : Int) + (s.size : Int) ≤ 281474976710656) : Calls Try.prog 70 #[.agg #[.string s, .int .i64 a, .int .i64 e], .int .i64 n] w fun r w' => r = .returned (.tuple #[.agg #[.string (takeS s e n), .int .i64 (takeA s a n), .int .i64 (takeE s e n)], .string (takeV s n)]) ∧ w.grownBy w' none := by
  by_cases h0 : e = 0
  · subst h0
    by_cases h1 : s.size < n
    · have e1 : takeS s 0 n = ⟨#[]⟩ := by unfold takeS failS; rw [if_pos h1, if_neg (by decide)]
      have e2 : takeA s a n = a := by unfold takeA; rw [if_pos h1]
      have e3 : takeE s 0 n = 4 := by unfold takeE failE; rw [if_pos h1, if_neg (by decide)]
      have e4 : takeV s n = ⟨#[]⟩ := by unfold takeV; rw [if_pos h1]
      rw [e1, e2, e3, e4]
      exact refBytes_short s a n w (by omega)
    · have e1 : takeS s 0 n = s.extract n s.size := by unfold takeS; rw [if_neg h1]
      have e2 : takeA s a n = a + n := by unfold takeA; rw [if_neg h1]
      have e3 : takeE s 0 n = 0 := by unfold takeE; rw [if_neg h1]
      have e4 : takeV s n = s.extract 0 n := by unfold takeV; rw [if_neg h1]
      rw [e1, e2, e3, e4]
      exact refBytes_in s a n w (by omega) ha
  · have hs := he h0
    subst hs
    have z : (⟨#[]⟩ : ByteArray).size = 0 := rfl
    have e1 : takeS ⟨#[]⟩ e n = ⟨#[]⟩ := by unfold takeS failS; rw [if_pos (Or.inr h0)]; split <;> first | rfl | exact extract_nil _ _
    have e2 : takeA ⟨#[]⟩ a n = a := by unfold takeA; split <;> omega
    have e3 : takeE ⟨#[]⟩ e n = e := by unfold takeE failE; rw [if_pos (Or.inr h0)]; split <;> rfl
    have e4 : takeV ⟨#[]⟩ n = ⟨#[]⟩ := by unfold takeV; split <;> first | rfl | exact extract_nil _ _
    rw [e1, e2, e3, e4]
    exact refBytes_bad ⟨#[]⟩ a e n w (by omega)
theorem refBytesNeg_any (s : ByteArray) (a e : Nat) (n : Int) (w : World) (hn : n < 0) : Calls Try.prog 70 #[.agg #[.string s, .int .i64 a, .int .i64 e], .int .i64 n] w fun r w' => r = .returned (.tuple #[.agg #[.string (failS s e 1), .int .i64 a, .int .i64 (failE e 1)], .string ⟨#[]⟩]) ∧ w.grownBy w' none := by
  by_cases h0 : e = 0
  · subst h0
    exact refBytes_neg s a n w hn
  · have e1 : failS s e 1 = s := by unfold failS; rw [if_pos (Or.inr h0)]
    have e2 : failE e 1 = e := by unfold failE; rw [if_pos (Or.inr h0)]
    rw [e1, e2]
    exact refBytes_bad s a e n w (by omega)
theorem take_shut (s : ByteArray) (e n : Nat) (he : Shut s e) : Shut (takeS s e n) (takeE s e n) := by
  intro h
  unfold takeS takeE at *
  by_cases h1 : s.size < n
  · rw [if_pos h1] at h
    rw [if_pos h1]
    unfold failS
    split
    · next q => exact he (by omega)
    · rfl
  · rw [if_neg h1] at h
    rw [if_neg h1, he h]
    exact extract_nil _ _
theorem fail_shut (s : ByteArray) (e f : Nat) (he : Shut s e) : Shut (failS s e f) (failE e f) := by
  intro h
  unfold failS failE at *
  by_cases h1 : f = 0 ∨ e ≠ 0
  · rw [if_pos h1] at h
    rw [if_pos h1]
    exact he h
  · rw [if_neg h1]
end Go.Proofs.Ytddnjlnnkeiplaa.Wi
