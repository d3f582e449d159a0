/-
  A test of a program, run. Tests of texts that are written down.
-/
import Derived.Test.YtajoncmmdeahnaaGreatDoorKJh
import Derived.Test.YtajoncmmdeahnaaGreatDoorKJj
import Derived.Test.YtajoncmmdeahnaaGreatDoorKIz
import Derived.Test.YtajoncmmdeahnaaGreatDoorKSc4
import Derived.Test.YtajoncmmdeahnaaGreatDoorKVf
namespace Go.Proofs.YtajoncmmdeahnaaGreatDoor
open Go.RowKit Go.Maps
namespace Ip
def runX (L : Fl) (kc k : Nat) (n : Nd) (test : ByteArray) (fuel : Nat) : Option (Nat × Ms) := match Ck.checkT kc n with
  | .error _ => none
  | .ok m => if Ck.okB m = true ∧ fuel ≤ 20000 ∧ test.size ≤ 1000000 then (match findM m.kids test with
    | none => none
    | some d => if d.kind = 4 then runM L k m test fuel else none) else none
theorem runX_some {L : Fl} {kc k : Nat} {n : Nd} {test : ByteArray} {fuel : Nat} {x : Nat × Ms} (h : runX L kc k n test fuel = some x) :
    ∃ m d G ps b, Ck.checkT kc n = .ok m ∧ m.ok ∧ fuel ≤ 20000 ∧ test.size ≤ 1000000 ∧ findM m.kids test = some d ∧ d.kind = 4 ∧ globsOf m.kids (fun _ => none) = some G ∧ bodsOf m.kids (fun _ => none) test = some (ps, b)
      ∧ (match (rc L ⟨fuel, bodsOf m.kids fun _ => none⟩ k).bl 0 b (start G) with | .ok (_, q) => some (1, q) | .error e => e) = some x := by
  unfold runX at h
  cases hc : Ck.checkT kc n with
  | error e => rw [hc] at h; cases h
  | ok m =>
    rw [hc] at h
    simp only [] at h
    by_cases h1 : Ck.okB m = true ∧ fuel ≤ 20000 ∧ test.size ≤ 1000000
    · rw [if_pos h1] at h
      cases hf : findM m.kids test with
      | none => rw [hf] at h; cases h
      | some d =>
        rw [hf] at h
        simp only [] at h
        by_cases h2 : d.kind = 4
        · rw [if_pos h2] at h
          unfold runM at h
          cases hg : globsOf m.kids (fun _ => none) with
          | none => rw [hg] at h; cases h
          | some G =>
            rw [hg] at h
            simp only [] at h
            unfold endM at h
            cases hb : (envOf m fuel).bod test with
            | none => rw [hb] at h; cases h
            | some y =>
              obtain ⟨ps, b⟩ := y
              rw [hb] at h
              exact ⟨m, d, G, ps, b, rfl, Ck.okB_ok h1.1, h1.2.1, h1.2.2, hf, h2, hg, hb, h⟩
        · rw [if_neg h2] at h
          cases h
    · rw [if_neg h1] at h
      cases h
theorem end_said {X : Xm} {E : Env} {R : Rc} (hB : MeC X E 61 bU R.bl) (test : ByteArray) (w : World) (g : Vm) (hM : MaR w X E (start g)) {ps : List ByteArray} {b : Pd} (hs : test.size ≤ maxLen) (hb : E.bod test = some (ps, b)) {o : Nat} {q : Ms}
    (hx : (match R.bl 0 b (start g) with | .ok (_, q) => some (1, q) | .error e => e) = some (o, q)) : Calls Tryz.prog 33 #[.pointer (some ⟨X.m, 0, none⟩), .string test] w fun e w' => e = .returned (.int .i64 o) ∧ MaR w' X E q ∧ FrE X w w' := by
  refine (end_any hB test w g hM hs hb (fun e => by rw [e] at hx; cases hx)).mono fun e w' h => ?_
  unfold EnP at h
  rcases hz : R.bl 0 b (start g) with e0 | ⟨y, s⟩
  · rw [hz] at h hx
    have hx : e0 = some (o, q) := hx
    subst hx
    exact h
  · rw [hz] at h hx
    have hx : some (1, s) = some (o, q) := hx
    injection hx with hx
    injection hx with h1 h2
    subst h1 h2
    exact h
theorem sz42 : (Tryz.prog.info? 42).map (·.size) = some 3 := by kernel_rfl
theorem results_17 (tmps : Array Value) (W : World) (b : Nat) (cs : Array Value) (x : Value) (h6 : tmps.getD 6 undef = .pointer (some ⟨b, 0, none⟩)) (h7 : tmps.getD 7 undef = x) (hs : cs.size = 3) (hB : Blk W b 42 cs) :
    (results Tryz.f17 tmps).run Tryz.prog W = .ok (.tuple #[.agg cs, x]) W := by
  have h6' : tmps[6]?.getD undef = .pointer (some ⟨b, 0, none⟩) := by simpa using h6
  have h7' : tmps[7]?.getD undef = x := by simpa using h7
  have hl := run_loadVar_row (P := Tryz.prog) W b 42 42 cs (0, 0) _ hB Tryz.underlying42 rfl (sz42.trans (by rw [hs]))
  simp [results, Tryz.results17, h6', h7', asAddr, hl]
set_option maxRecDepth 100000 in
set_option maxHeartbeats 8000000 in
theorem run_any {L : Fl} (hL : FlC L) (kc k : Nat) (n : Nd) (P : Nat → Prop) (pv : Option Addr) (cv : Nat) (test : ByteArray) (fuel : Nat) (w : World) (hG : Pm.GlB w w.heap.size) (hv : KsV w P (.slice pv n.kids.length cv) n.kids) {o : Nat} {q : Ms} (hx : runX L kc k n test fuel = some (o, q)) :
    Calls Tryz.prog 17 #[.agg #[.int .i64 n.kind, .int .i64 n.ty, .string n.txt, .int .i64 n.num, .slice pv n.kids.length cv], .string test, .int .i64 fuel] w fun e w' => ∃ pa ss cap, e = .returned (.tuple #[.agg #[.int .i64 o, .int .i64 q.steps, .slice pa ss.length cap], .int .i64 0]) ∧ SsOf ss q.vis ∧ ss.length ≤ q.steps ∧ w.grownBy w' none := by
  obtain ⟨m, d, G, ps, b, hc, hm, hfu, hts, hf, hd, hgl, hb, he⟩ := runX_some hx
  have C14 : Hid (∀ W, w.grownBy W none → Calls Tryz.prog 14 #[.agg #[.int .i64 n.kind, .int .i64 n.ty, .string n.txt, .int .i64 n.num, .slice pv n.kids.length cv]] W (Ck.ChP W (.ok m))) := hid (fun W hW => by
    have h := Ck.check_any kc n _ P W ((hG.keptR hW (by simp)).up hW.size) ⟨_, rfl, hv.kept hW⟩ (by rw [hc]; simp)
    rw [hc] at h
    exact h)
  have C31 : Hid (∀ (W : World) (v : Value), KsV W (fun _ => True) v m.kids → Calls Tryz.prog 31 #[.agg #[.int .i64 m.kind, .int .i64 m.ty, .string m.txt, .int .i64 m.num, v], .string test] W (FnP W (some d))) := hid (fun W v h => by
    have h1 := find_any (fun _ => True) m.kind m.ty m.txt m.num m.kids v test W (by cases m; exact hm) h
    rw [hf] at h1
    exact h1)
  have C32 : Hid (∀ (W : World) (v : Value), KsV W (fun _ => True) v m.kids → Calls Tryz.prog 32 #[.agg #[.int .i64 m.kind, .int .i64 m.ty, .string m.txt, .int .i64 m.num, v], .int .i64 fuel] W fun e w' => ∃ X : Xm, e = .returned (.pointer (some ⟨X.m, 0, none⟩)) ∧ MaR w' X ⟨fuel, bodsOf m.kids (fun _ => none)⟩ (start G) ∧ (W.heap.size ≤ X.m ∧ W.heap.size ≤ X.mg ∧ W.heap.size ≤ X.mv) ∧ W.grownBy w' none) := hid (fun W v h =>
    (newMachine_any (fun _ => True) m.kind m.ty m.txt m.num m.kids v W fuel (by cases m; exact hm) h (by omega) hgl).mono fun e w' ⟨h1, h2, h3⟩ => ⟨nmX W w'.heap.size, h1, h2, ⟨by show W.heap.size ≤ W.heap.size + 4; omega, by show W.heap.size ≤ W.heap.size + 2; omega, by show W.heap.size ≤ W.heap.size + 3; omega⟩, h3⟩)
  have C33 : Hid (∀ (X : Xm) (W : World), MaR W X ⟨fuel, bodsOf m.kids (fun _ => none)⟩ (start G) → Calls Tryz.prog 33 #[.pointer (some ⟨X.m, 0, none⟩), .string test] W fun e w' => e = .returned (.int .i64 o) ∧ MaR w' X ⟨fuel, bodsOf m.kids (fun _ => none)⟩ q ∧ FrE X W w') := hid (fun X W hM =>
    end_said (rc_any hL k).2 test W G hM (by unfold maxLen; omega) hb he)
  have bd : (d.kind != 4) = false := by rw [hd]; rfl
  have i1 : ¬ ((fuel : Int) < 0) := by omega
  have i2 : ¬ ((20000 : Int) < fuel) := by omega
  clear hc hm hf hd hgl hb he hx hv hG
  go_enter Tryz.func17, Tryz.ntmps17
  go_wp2_with (first
    | (go_at_call 14; refine (C14.out _ (grown_alloc (grown_alloc (grown_refl w none) _) _)).mono ?_; rintro e w1 ⟨q1, hi1, rfl, hK1, hle1, hg1⟩; have K1 := hK1.ks (P := fun _ => True) (fun _ _ _ => trivial); obtain ⟨p1, c1, rfl, _, _, _⟩ := K1.form; have KK1 := hid K1; have G1 := hid (grown_none (grown_alloc (grown_alloc (grown_refl w none) _) _) hg1); have R1 : Hid (Blk w1 (w.heap.size + 1) 42 #[.int .i64 0, .int .i64 0, .slice none 0 0]) := hid (by have h := (Blk.new (w.alloc (.cells #[.int .i64 n.kind, .int .i64 n.ty, .string n.txt, .int .i64 n.num, .slice pv n.kids.length cv] 27)) 42 #[.int .i64 0, .int .i64 0, .slice none 0 0]).kept hg1 (by simp); rw [World.size_alloc] at h; exact h); clear K1 hK1 hg1 hle1)
    | (go_at_call 31; refine (C31.out _ _ (KK1.out.kept (grown_alloc (grown_refl w1 none) _))).mono ?_; rintro e w2 ⟨hg2, pd, cd, rfl⟩; have H12 := hid hg2; unfold dcV; have B2 := hid ((Blk.new w1 27 #[.int .i64 m.kind, .int .i64 m.ty, .string m.txt, .int .i64 m.num, .slice p1 m.kids.length c1]).kept hg2 (by simp)); have G2 := hid (grown_none (grown_alloc G1.out _) hg2); have K2 := hid (KK1.out.kept (grown_none (grown_alloc (grown_refl w1 none) _) hg2)); have b0 := B2.out.cell 0; have b1 := B2.out.cell 1; have b2 := B2.out.cell 2; have b3 := B2.out.cell 3; have b4 := B2.out.cell 4; have hlt2 := B2.out.lt; simp at b0 b1 b2 b3 b4; clear hg2)
    | (go_at_call 32; refine (C32.out _ _ (K2.out.kept (grown_alloc (grown_refl w2 none) _))).mono ?_; rintro e w3 ⟨X, rfl, hM3, hX3, hg3⟩; have X3 : Hid (w.heap.size + 2 ≤ X.m ∧ w.heap.size + 2 ≤ X.mg ∧ w.heap.size + 2 ≤ X.mv) := hid (by have h0 := G1.out.size; have h1 := R1.out.lt; have h2 := B2.out.lt; rw [World.size_alloc] at hX3; omega); have M3 := hid hM3; have G3 := hid (grown_none (grown_alloc G2.out _) hg3); have H13 := hid (grown_none (grown_none (grown_alloc (grown_refl w1 none) _) H12.out) (grown_none (grown_alloc (grown_refl w2 none) _) hg3)); clear hM3 hg3 hX3)
    | (go_at_call 33; refine (C33.out X _ M3.out).mono ?_; rintro e w4 ⟨rfl, hM4, hF4⟩; have M4 := hid hM4; have F4 := hid hF4; clear hM4 hF4))
  have hmw : w.heap.size + 1 < w1.heap.size := R1.out.lt
  have hsz2 : w1.heap.size ≤ w2.heap.size := by have := B2.out.lt; omega
  have hg13 : w1.grownBy w3 none := H13.out
  have R4 : Blk w4 (w.heap.size + 1) 42 #[.int .i64 0, .int .i64 0, .slice none 0 0] := (F4.out.block _ (Nat.lt_of_lt_of_le hmw hg13.size) (by have := X3.out; omega) (by have := X3.out; omega) (by have := X3.out; omega)).trans (R1.out.kept hg13 (by simp))
  have RR4 := hid R4
  have G4 : Hid (w.grownBy w4 none) := hid ⟨F4.out.os.trans G3.out.os, F4.out.tape.trans G3.out.tape, F4.out.output.trans G3.out.output, Nat.le_trans G3.out.size F4.out.size, fun i hi _ => (F4.out.block i (Nat.lt_of_lt_of_le hi G3.out.size) (by have := X3.out; omega) (by have := X3.out; omega) (by have := X3.out; omega)).trans (G3.out.block i hi (by simp))⟩
  have C34 : Hid (∀ W, w4.grownBy W none → Calls Tryz.prog 34 #[.pointer (some ⟨X.m, 0, none⟩)] W fun e w' => ∃ pa cap ss, e = .returned (.slice pa ss.length cap) ∧ W.grownBy w' none ∧ SsOf ss q.vis ∧ ss.length ≤ q.steps) := hid (fun W hW => (cover_any W (M4.out.kept hW)).mono fun e w' ⟨pa, cap, ss, h1, h2, h3, h4, _⟩ => ⟨pa, cap, ss, h1, h2, h3, h4⟩)
  have y3 := M4.out.blk.cell 3
  simp at y3
  have DR := hid (grown_drew (grown_refl w4 none))
  clear R4 C14 C31 C32 C33 b0 b1 b2 b3 b4 hlt2 hg13
  go_region_law (go_simp; go_at_call 34; refine (C34.out _ DR.out).mono ?_; rintro e w5 ⟨pa, cap, ss, rfl, hg5, hss, hle⟩; have SS := hid hss; have HLE := hid hle; have G5 := hid (grown_none (grown_none G4.out DR.out) hg5); have R5 := hid (RR4.out.kept (grown_none DR.out hg5) (by simp)); have M5 := M4.out.kept (grown_none DR.out hg5); have y3 := M5.blk.cell 3; have r0 := R5.out.cell 0; have r1 := R5.out.cell 1; have r2 := R5.out.cell 2; have f0 := R5.out.frozen 0; have f1 := R5.out.frozen 1; have f2 := R5.out.frozen 2; simp at y3 r0 r1 r2; clear hg5 hss hle M5)
  all_goals
    (try go_wp2_with fail)
    have R6 := ((R5.out.set 0 (.int .i64 o)).set 1 (.int .i64 q.steps)).set 2 (.slice pa ss.length cap)
    have lw : w.heap.size ≤ w.heap.size + 1 := by omega
    refine bodyPost_ret (v := .tuple #[.agg #[.int .i64 o, .int .i64 q.steps, .slice pa ss.length cap], .int .i64 0]) (results_17 _ _ (w.heap.size + 1) _ _ rfl rfl rfl R6) rfl ?_
    exact ⟨pa, ss, cap, rfl, SS.out, HLE.out, grown_set_new (grown_set_new (grown_set_new G5.out _ lw) _ lw) _ lw⟩
end Ip
end Go.Proofs.YtajoncmmdeahnaaGreatDoor
namespace Go.Proofs.YtajoncmmdeahnaaGreatDoor
open Go.RowKit
namespace Rn
open Sc Ip
def outX (kc k : Nat) (n : Nd) (test : List UInt8) (fuel : Nat) (l : List (List UInt8 × Int)) : Option (Nat × Nat × Bool) := (runX flM kc k n (mkS test) fuel).map fun x => (x.1, x.2.steps, l.all fun p => (x.2.vis (mkS p.1) p.2).isSome)
def outS (kp kc k : Nat) (t test : List UInt8) (fuel : Nat) (l : List (List UInt8 × Int)) : Option (Nat × Nat × Bool) := match parsL kp t with
  | .ok n => outX kc k n test fuel l
  | .error _ => none
theorem outS_some {kp kc k : Nat} {t test : List UInt8} {fuel : Nat} {l : List (List UInt8 × Int)} {x : Nat × Nat × Bool} (h : outS kp kc k t test fuel l = some x) : ∃ n, parsL kp t = .ok n ∧ outX kc k n test fuel l = some x := by
  unfold outS at h
  cases hp : parsL kp t with
  | error e => rw [hp] at h; cases h
  | ok n => rw [hp] at h; exact ⟨n, rfl, h⟩
theorem mkS_inj {a b : List UInt8} (h : mkS a = mkS b) : a = b := by
  unfold mkS at h
  injection h with h
  simpa using congrArg Array.toList h
def fitB (p : List UInt8 × Int) : Bool := decide (p.1.length ≤ maxLen) && decide (-9223372036854775808 ≤ p.2) && decide (p.2 ≤ 9223372036854775807)
theorem run_closed {kc k : Nat} {n : Nd} {test : List UInt8} {fuel o s : Nat} {l : List (List UInt8 × Int)} (h : outX kc k n test fuel l = some (o, s, true)) (hl : l.Nodup) (hf : l.all fitB = true) (W : World) (P : Nat → Prop) (ps : Option Addr) (cp : Nat) (hG : Pm.GlB W W.heap.size) (hk : KsV W P (.slice ps n.kids.length cp) n.kids)
    (oi si fi : Int) (ho : oi = o) (hs : si = s) (hfi : fi = fuel) :
    Calls Tryz.prog 17 #[.agg #[.int .i64 n.kind, .int .i64 n.ty, .string n.txt, .int .i64 n.num, .slice ps n.kids.length cp], .string (mkS test), .int .i64 fi] W fun e w' => ∃ pa cn cap, e = .returned (.tuple #[.agg #[.int .i64 oi, .int .i64 si, .slice pa cn cap], .int .i64 0]) ∧ l.length ≤ cn ∧ cn ≤ s ∧ W.grownBy w' none := by
  subst ho hs hfi
  unfold outX at h
  obtain ⟨⟨o', q⟩, hx, hq⟩ := Option.map_eq_some_iff.1 h
  injection hq with h1 h2
  injection h2 with h2 h3
  subst h1 h2
  refine (run_any flM_ok kc k n P ps cp (mkS test) fuel W hG hk hx).mono ?_
  rintro e w' ⟨pa, ss, cap, rfl, hss, hle, hg⟩
  refine ⟨pa, ss.length, cap, rfl, ?_, hle, hg⟩
  have h4 := hss.le (l := l.map fun p => (mkS p.1, p.2)) (List.pairwise_map.2 (hl.imp fun {a b} hab e => hab (by
    injection e with e1 e2
    exact Prod.ext (mkS_inj e1) e2))) (fun p hp => by
    obtain ⟨y, hy, rfl⟩ := List.mem_map.1 hp
    have h5 := List.all_eq_true.1 hf y hy
    unfold fitB at h5
    simp only [Bool.and_eq_true, decide_eq_true_eq] at h5
    exact ⟨⟨by rw [mkS_size]; exact h5.1.1, h5.1.2, h5.2⟩, List.all_eq_true.1 h3 y hy⟩)
  rwa [List.length_map] at h4
def tA : List UInt8 := [116, 101, 115, 116, 32, 116, 32, 123, 32, 97, 115, 115, 101, 114, 116, 32, 49, 32, 61, 61, 32, 49, 59, 32, 125]
def sA : List (List UInt8 × Int) := [([116], 1), ([116], 2), ([116], 3), ([116], 4), ([116], 5)]
set_option maxRecDepth 100000 in
theorem outA9 : outS 60 60 60 tA [116] 9 sA = some (1, 5, true) := by kernel_rfl
set_option maxRecDepth 100000 in
theorem outA4 : outS 60 60 60 tA [116] 4 [] = some (6, 4, true) := by kernel_rfl
theorem sA_nodup : sA.Nodup := by decide
set_option maxRecDepth 100000 in
set_option maxHeartbeats 4000000 in
theorem awake_any (w : World) (hG : Pm.GlB w w.heap.size) : Calls Tryz.prog 18 #[] w (TrueP w) := by
  obtain ⟨n1, p1, k1⟩ := outS_some outA9
  obtain ⟨n1', p1', k2⟩ := outS_some outA4
  obtain rfl : n1 = n1' := by rw [p1] at p1'; injection p1'
  have GG := hid (glb_all hG)
  have G0 := hid (grown_refl w none)
  have CA := hid (parse_closed 60 tA n1 w (by decide) hG p1)
  have R1 := hid (fun W (h : w.grownBy W none) P ps cp hk => run_closed k1 sA_nodup (by decide) W P ps cp (GG.out W h) hk 1 5 9 rfl rfl rfl)
  have R2 := hid (fun W (h : w.grownBy W none) P ps cp hk => run_closed k2 List.nodup_nil (by decide) W P ps cp (GG.out W h) hk 6 4 4 rfl rfl rfl)
  clear hG p1 k1 p1' k2
  go_enter Tryz.func18, Tryz.ntmps18
  go_wp2_with (first
    | (go_at_call 9; refine CA.out.mono ?_; rintro e w1 ⟨ps, cp, rfl, hk, hg⟩; have G1 := hid (grown_alloc (grown_none G0.out hg) (.cells #[.int .i64 n1.kind, .int .i64 n1.ty, .string n1.txt, .int .i64 n1.num, .slice ps n1.kids.length cp] 27)); have K1 := hid (hk.kept (grown_alloc (grown_refl _ none) (.cells #[.int .i64 n1.kind, .int .i64 n1.ty, .string n1.txt, .int .i64 n1.num, .slice ps n1.kids.length cp] 27))); have B1 := hid (Blk.new w1 27 #[.int .i64 n1.kind, .int .i64 n1.ty, .string n1.txt, .int .i64 n1.num, .slice ps n1.kids.length cp]); have C17 := hid (R1.out _ G1.out _ ps cp K1.out); clear CA R1 hk hg)
    | (go_at_call 17; refine C17.out.mono ?_; rintro e w2 ⟨pa, cn, cap, rfl, hl1, hl2, hg⟩; obtain rfl : cn = 5 := Nat.le_antisymm hl2 hl1; have G2 := hid (grown_alloc (grown_none G1.out hg) (.cells #[.int .i64 1, .int .i64 5, .slice pa 5 cap] 42)); have K2 := hid ((K1.out.kept hg).kept (grown_alloc (grown_refl _ none) (.cells #[.int .i64 1, .int .i64 5, .slice pa 5 cap] 42))); have B2 := hid (B1.out.kept hg (by simp)); have S2 := hid (Blk.new w2 42 #[.int .i64 1, .int .i64 5, .slice pa 5 cap]); have C18 := hid (R2.out _ G2.out _ ps cp K2.out); have x0 := B2.out.cell 0; have x1 := B2.out.cell 1; have x2 := B2.out.cell 2; have x3 := B2.out.cell 3; have x4 := B2.out.cell 4; have xl := B2.out.lt; simp at x0 x1 x2 x3 x4; clear C17 R2 hl1 hl2 hg)
    | (go_at_call 17; refine C18.out.mono ?_; rintro e w3 ⟨pb, cm, cbp, rfl, hl1, hl2, hg⟩; have G3 := hid (grown_alloc (grown_none G2.out hg) (.cells #[.int .i64 6, .int .i64 4, .slice pb cm cbp] 42)); have S3 := hid (S2.out.kept hg (by simp)); have z0 := S3.out.cell 0; have z1 := S3.out.cell 1; have z2 := S3.out.cell 2; have zl := S3.out.lt; simp at z0 z1 z2; clear C18 hl1 hl2 hg))
  go_ret
  exact ⟨rfl, G3.out⟩
end Rn
end Go.Proofs.YtajoncmmdeahnaaGreatDoor
