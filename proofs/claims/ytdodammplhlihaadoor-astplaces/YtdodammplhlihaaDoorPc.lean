/-
  places: the law's own loop over All.
-/
import Derived.Test.YtdodammplhlihaaDoorAl
import Derived.Test.YtdodammplhlihaaDoorLi
import Derived.Test.YtdodammplhlihaaDoorBk
import Derived.Test.YtdodammplhlihaaDoorSf
namespace Go.Proofs.YtdodammplhlihaaDoor
open Go.RowKit Go.Maps Go.Shelf
attribute [local go_sem] Oper.semAt_some
def PlP (w : World) (e : Ending) (w' : World) : Prop := e = .returned (.bool true) ∧ w.grownBy w' none
theorem grown_to {a b c : World} {row : Option Nat} (h : a.grownBy b none) (g : b.grownBy c row) : a.grownBy c row :=
  ⟨g.os.trans h.os, g.tape.trans h.tape, g.output.trans h.output, Nat.le_trans h.size g.size, fun i hi hn => (g.block i (Nat.lt_of_lt_of_le hi h.size) hn).trans (h.block i hi (by simp))⟩
/-- What holds between two rounds. -/
def PlI (w : World) (n2 N ga ca k : Nat) (V : World) : Prop := Blk V (w.heap.size + 1) 36 #[.slice (some ⟨ga, 0, none⟩) N ca] ∧ Blk V (w.heap.size + 2) 4 #[.bool false] ∧ Blk V (w.heap.size + 3) 3 #[.int .i64 k] ∧ w.grownBy V none ∧ n2 ≤ V.heap.size
theorem PlI.stay {w : World} {n2 N ga ca k B : Nat} {A A' : World} (h : PlI w n2 N ga ca k A) (hs : Stay B A A') (hB : w.heap.size ≤ B) : PlI w n2 N ga ca k A' := by
  obtain ⟨k1, k2, k3, k4, k5⟩ := h
  exact ⟨hs.same _ _ k1 (Or.inr rfl), hs.same _ _ k2 (Or.inr rfl), hs.same _ _ k3 (Or.inr rfl), hs.after k4 hB, Nat.le_trans k5 hs.size⟩
set_option maxRecDepth 100000 in
set_option maxHeartbeats 4000000 in
theorem places_any (P0 : Nat → Prop) (x : Nd) (hok : x.ok) (hN : x.cnt ≤ 10000) (v : Value) (ga ca : Nat) (PL : Nat → Prop) (w : World) (hv : NdV w P0 v x) (hca : x.all.length ≤ ca) (hrow : RowN w PL ga 0 x.all) :
    Calls Tryd.prog 13 #[v, .slice (some ⟨ga, 0, none⟩) x.all.length ca] w (PlP w) := by
  obtain ⟨q, rfl, hk⟩ := hv
  obtain ⟨p, cap, eq, _⟩ := hk.form
  subst eq
  have CA : Hid (∀ W, w.grownBy W none → Calls Tryd.prog 30 #[.agg #[.int .i64 x.kind, .int .i64 x.ty, .string x.txt, .int .i64 x.num, .slice p x.kids.length cap]] W (AllP W x)) := fun W hW => all_mk _ x hok _ W ⟨_, rfl, hk.kept hW⟩
  have hN' : x.all.length ≤ 10000 := by rw [Nd.all_len]; exact hN
  have hlt : 0 < x.all.length := by rw [Nd.all_len]; cases x with | mk k t s n ks => rw [Nd.cnt]; omega
  have hgl : ga < w.heap.size := row_lt hrow hlt
  have HROW := hid hrow
  clear hk hrow
  have EL := hid (Nd.all_len x)
  obtain ⟨N, hNN⟩ : ∃ N, x.all.length = N := ⟨_, rfl⟩
  have HNN := hid hNN
  rw [hNN] at hN' hlt hca ⊢
  clear hNN
  refine (callsIn_wide (n := 5)).1 ?_
  refine callsIn_of_wp_marks Tryd.func13 rfl trivial ?_ rfl
  simp only [Tryd.ntmps13, List.size_toArray, List.length_cons, List.length_nil, Nat.reduceAdd, Nat.reduceSub, Array.replicate_succ, Array.replicate_zero, List.push_toArray, List.append_toArray, List.nil_append, List.cons_append]
  refine wpIn_wide.2 ?_
  go_wp2_with (go_at_call 30; refine (CA.out _ ?gr).mono ?_; (case gr => repeat (first | exact grown_refl _ _ | refine grown_alloc ?_ _)); rintro e w2 ⟨Bo, rfl, hbo1, hbo2, hnd2, hg2⟩; have ND2 := hid hnd2; have G2 := hid hg2; clear CA hnd2 hg2)
  have gA : w.grownBy ((((w.alloc (.cells #[.int .i64 x.kind, .int .i64 x.ty, .string x.txt, .int .i64 x.num, .slice p x.kids.length cap] 24)).alloc (.cells #[.slice (some ⟨ga, 0, none⟩) N ca] 36)).alloc (.cells #[.bool false] 4)).alloc (.cells #[.int .i64 0] 3)) none := grown_alloc (grown_alloc (grown_alloc (grown_alloc (grown_refl w none) _) _) _) _
  have sA : ((((w.alloc (.cells #[.int .i64 x.kind, .int .i64 x.ty, .string x.txt, .int .i64 x.num, .slice p x.kids.length cap] 24)).alloc (.cells #[.slice (some ⟨ga, 0, none⟩) N ca] 36)).alloc (.cells #[.bool false] 4)).alloc (.cells #[.int .i64 0] 3)).heap.size = w.heap.size + 4 := by simp
  have B1 : Blk ((((w.alloc (.cells #[.int .i64 x.kind, .int .i64 x.ty, .string x.txt, .int .i64 x.num, .slice p x.kids.length cap] 24)).alloc (.cells #[.slice (some ⟨ga, 0, none⟩) N ca] 36)).alloc (.cells #[.bool false] 4)).alloc (.cells #[.int .i64 0] 3)) (w.heap.size + 1) 36 #[.slice (some ⟨ga, 0, none⟩) N ca] := by
    have := ((Blk.new (w.alloc (.cells #[.int .i64 x.kind, .int .i64 x.ty, .string x.txt, .int .i64 x.num, .slice p x.kids.length cap] 24)) 36 #[.slice (some ⟨ga, 0, none⟩) N ca]).alloc (.cells #[.bool false] 4)).alloc (.cells #[.int .i64 0] 3)
    rw [World.size_alloc] at this
    exact this
  have B2 : Blk ((((w.alloc (.cells #[.int .i64 x.kind, .int .i64 x.ty, .string x.txt, .int .i64 x.num, .slice p x.kids.length cap] 24)).alloc (.cells #[.slice (some ⟨ga, 0, none⟩) N ca] 36)).alloc (.cells #[.bool false] 4)).alloc (.cells #[.int .i64 0] 3)) (w.heap.size + 2) 4 #[.bool false] := by
    have := (Blk.new ((w.alloc (.cells #[.int .i64 x.kind, .int .i64 x.ty, .string x.txt, .int .i64 x.num, .slice p x.kids.length cap] 24)).alloc (.cells #[.slice (some ⟨ga, 0, none⟩) N ca] 36)) 4 #[.bool false]).alloc (.cells #[.int .i64 0] 3)
    rw [World.size_alloc, World.size_alloc] at this
    exact this
  have B3 : Blk ((((w.alloc (.cells #[.int .i64 x.kind, .int .i64 x.ty, .string x.txt, .int .i64 x.num, .slice p x.kids.length cap] 24)).alloc (.cells #[.slice (some ⟨ga, 0, none⟩) N ca] 36)).alloc (.cells #[.bool false] 4)).alloc (.cells #[.int .i64 0] 3)) (w.heap.size + 3) 3 #[.int .i64 0] := by
    have := Blk.new (((w.alloc (.cells #[.int .i64 x.kind, .int .i64 x.ty, .string x.txt, .int .i64 x.num, .slice p x.kids.length cap] 24)).alloc (.cells #[.slice (some ⟨ga, 0, none⟩) N ca] 36)).alloc (.cells #[.bool false] 4)) 3 #[.int .i64 0]
    rw [World.size_alloc, World.size_alloc, World.size_alloc] at this
    exact this
  generalize (((w.alloc (.cells #[.int .i64 x.kind, .int .i64 x.ty, .string x.txt, .int .i64 x.num, .slice p x.kids.length cap] 24)).alloc (.cells #[.slice (some ⟨ga, 0, none⟩) N ca] 36)).alloc (.cells #[.bool false] 4)).alloc (.cells #[.int .i64 0] 3) = wA at *
  have z2 := G2.out.size
  have g2 := grown_none gA G2.out
  have nd2 : NdAt w2 (fun b => w.heap.size + 4 ≤ b ∧ b < w2.heap.size) Bo 0 x := by rw [← sA]; exact ND2.out
  have hPB : w.heap.size + 4 ≤ Bo ∧ Bo < w2.heap.size := by omega
  have EN : x.cnt = N := by rw [← EL.out, HNN.out]
  have HEN := hid EN
  have SQ : SeqN Tryd.prog (5 - 1) 45 #[.pointer (some ⟨Bo, 0, none⟩)] (EncA x) (KQ (fun b => w.heap.size + 4 ≤ b ∧ b < w2.heap.size)) N w2 := by
    rw [← EN]
    exact all_seq (5 - 1) Bo (fun b => w.heap.size + 4 ≤ b ∧ b < w2.heap.size) w2 x hok (by omega) (fun b hb => hb.2) hPB nd2
  refine (wpIn_wide (n := 5)).1 ?_
  refine range_cnt (N := N) (gf := 45) (lb := #[.pointer (some ⟨Bo, 0, none⟩)]) rfl (enters_of Tryd.func45 (by kernel_rfl) rfl) SQ
    (fun h k => KQ.trans h k) (fun V o' b hb => World.putObj_heap_other (by omega)) (fun A B hA hg b hb => hg.block b (by omega) (by simp)) (fun k V args h => by obtain ⟨_, v, rfl, _⟩ := h; rfl) (fun k args A A' h hs => encA_stay h hs)
    (PlI w w2.heap.size N ga ca) ?hI ?hstart (fun k args a' V => ∃ (Bx : Nat) (cs : Array Value), w2.heap.size ≤ Bx ∧ args[1]! = .agg cs ∧ Blk V Bx 24 cs ∧ a' = { tmps := #[.agg #[.int .i64 x.kind, .int .i64 x.ty, .string x.txt, .int .i64 x.num, .slice p x.kids.length cap], .slice (some ⟨ga, 0, none⟩) N ca, .pointer (some ⟨w.heap.size, 0, none⟩), .pointer (some ⟨w.heap.size + 1, 0, none⟩), .pointer (some ⟨w.heap.size + 2, 0, none⟩), .pointer (some ⟨w.heap.size + 3, 0, none⟩), args[0]!, .pointer (some ⟨Bx, 0, none⟩), .agg #[.int .i64 x.kind, .int .i64 x.ty, .string x.txt, .int .i64 x.num, .slice p x.kids.length cap], .func (.func 45) #[] #[.pointer (some ⟨Bo, 0, none⟩)], args[0]!, args[1]!, undef, undef, undef, undef, undef, undef, undef, undef, undef, undef, undef, undef, undef, undef, undef, undef, undef, undef, undef, undef, undef, undef, undef, undef, undef], defers := [] }) ?hAx ?assign ?body ?done
  case hI => exact fun k A A' h hs => h.stay hs (by omega)
  case hstart => exact ⟨B1.kept G2.out (by simp), B2.kept G2.out (by simp), B3.kept G2.out (by simp), g2, Nat.le_refl _⟩
  case hAx =>
    rintro k args a' A A' ⟨Bx, cs, h1, h2, h3, h4⟩ hs
    exact ⟨Bx, cs, h1, h2, hs.same _ _ h3 (Or.inr rfl), h4⟩
  case assign =>
    rintro m l1 k args V K hV ⟨hk, v, rfl, q, rfl, hq⟩ hK
    obtain ⟨pq, cq, eq, _⟩ := hq.form
    subst eq
    generalize x.all[k] = y at *
    clear hq
    gi_wp2
    exact hK _ _ (grown_alloc (grown_refl _ _) _) ⟨V.heap.size, _, hV, rfl, Blk.new V 24 _, rfl⟩
  case body =>
    rintro m l1 k args a' V hl1 hk ⟨k1, k2, k3, k4, k5⟩ ⟨hk', v, rfl, q, rfl, hq⟩ ⟨Bx, cs, hBx, ecs, hbx, rfl⟩
    obtain ⟨pq, cq, eq, _⟩ := hq.form
    subst eq
    have ec : cs = #[.int .i64 (x.all[k]).kind, .int .i64 (x.all[k]).ty, .string (x.all[k]).txt, .int .i64 (x.all[k]).num, .slice pq (x.all[k]).kids.length cq] := by
      have := ecs.symm
      simpa using this
    subst ec
    clear ecs
    have hyo : (x.all[k]).ok := Nd.all_ok hok _ (List.getElem_mem hk')
    have hrw := RowN.keptP (Q := fun _ => True) (Kp.of_none PL k4) (fun _ _ _ => trivial) (k4.block ga hgl (by simp)) HROW.out
    have hat := hrw.at k hk'
    rw [Nat.zero_add, Nat.mul_comm 5 k] at hat
    generalize x.all[k] = y at *
    obtain ⟨qy, d0, d1, d2, d3, d4, hky⟩ := hat.cells
    have CB : Hid (Calls Tryd.prog 16 #[.agg #[.int .i64 y.kind, .int .i64 y.ty, .string y.txt, .int .i64 y.num, qy]] V.drew (backP V.drew y)) := backany _ y hyo _ V.drew ⟨qy, rfl, hky.kept (grown_drew (grown_refl _ _))⟩
    have CS : Hid (∀ U P' q', V.drew.grownBy U none → KsV U P' q' y.kids → Calls Tryd.prog 15 #[.agg #[.int .i64 y.kind, .int .i64 y.ty, .string y.txt, .int .i64 y.num, .slice pq y.kids.length cq], .agg #[.int .i64 y.kind, .int .i64 y.ty, .string y.txt, .int .i64 y.num, q']] U (SameP U true)) := fun U P' q' hU hq' => by
      have := sameF_any (fun _ => True) P' y (Nd.ok_few hyo) y (Nd.ok_few hyo) _ _ U ⟨_, rfl, (hq.kept (grown_drew (grown_refl V none))).kept hU⟩ ⟨q', rfl, hq'⟩
      rwa [(Nd.eqB_iff y y).2 rfl] at this
    obtain ⟨py, cy, ey, _⟩ := hky.form
    subst ey
    have x0 : V.cell? ⟨Bx, 0, none⟩ = some (.int .i64 y.kind) := by rw [hbx.cell]; rfl
    have x1 : V.cell? ⟨Bx, 1, none⟩ = some (.int .i64 y.ty) := by rw [hbx.cell]; rfl
    have x2 : V.cell? ⟨Bx, 2, none⟩ = some (.string y.txt) := by rw [hbx.cell]; rfl
    have x3 : V.cell? ⟨Bx, 3, none⟩ = some (.int .i64 y.num) := by rw [hbx.cell]; rfl
    have x4 : V.cell? ⟨Bx, 4, none⟩ = some (.slice pq y.kids.length cq) := by rw [hbx.cell]; rfl
    have a1 : V.cell? ⟨w.heap.size + 1, 0, none⟩ = some (.slice (some ⟨ga, 0, none⟩) N ca) := by rw [k1.cell]; rfl
    have a3 : V.cell? ⟨w.heap.size + 3, 0, none⟩ = some (.int .i64 k) := by rw [k3.cell]; rfl
    have i0 : (0 : Int) ≤ k := by omega
    have i1 : (k : Int) < N := by omega
    have i2 : ¬ (N : Int) ≤ k := by omega
    have i3 : (N : Int) ≤ 10000 := by omega
    have dk : decide (N ≤ k) = false := decide_eq_false (by omega)
    have hdd : ∀ k : Nat, (Fence.wide.depth.isSome = true → 1 ≤ k) := fun k h => by cases h
    have K1 := hid k1
    have K2 := hid k2
    have K3 := hid k3
    have K4 := hid k4
    have K5 := hid k5
    have XD : Hid (Blk V.drew Bx 24 #[.int .i64 y.kind, .int .i64 y.ty, .string y.txt, .int .i64 y.num, .slice pq y.kids.length cq]) := hbx
    have MX : Tryd.prog.follows .mixedOrders = true := by kernel_rfl
    have ZA : w2.heap.size ≤ V.heap.size := k5
    have ZB : w.heap.size + 4 ≤ w2.heap.size := by omega
    have HK := hid hk
    clear SQ k1 k2 k3 k4 k5 hbx hky hat hrw hyo hq B1 B2 B3 nd2 ND2 G2 gA g2 HROW EL HNN HEN EN hok hN hPB hbo1 hbo2 z2 sA hk' hl1 hca hlt hN' hgl hk
    gi_wp2
    gi_cut [30] from 12 (fun c30 Y => c30 = .bool false ∧ V.grownBy Y none)
    case first =>
      gi_region_with_o (first
        | (refine ⟨trivial, hdd _, ?_⟩; gi_at_call 16; refine (CallsIn.inRound l1 (callsIn_wide.2 CB.out)).mono ?_; clear CB; rintro e w6 ⟨q6, rfl, hk6, hg6⟩; obtain ⟨p6, c6, e6, _⟩ := hk6.form; subst e6; have X6 := XD.out.kept hg6 (by simp); have v0 : w6.cell? ⟨Bx, 0, none⟩ = some (.int .i64 y.kind) := X6.cell 0; have v1 : w6.cell? ⟨Bx, 1, none⟩ = some (.int .i64 y.ty) := X6.cell 1; have v2 : w6.cell? ⟨Bx, 2, none⟩ = some (.string y.txt) := X6.cell 2; have v3 : w6.cell? ⟨Bx, 3, none⟩ = some (.int .i64 y.num) := X6.cell 3; have v4 : w6.cell? ⟨Bx, 4, none⟩ = some (.slice pq y.kids.length cq) := X6.cell 4; have CS6 := hid (CS.out w6 _ _ hg6 hk6); have T6 := hid hg6; clear hk6 hg6 CS X6)
        | (refine ⟨trivial, hdd _, ?_⟩; gi_at_call 15; refine (CallsIn.inRound l1 (callsIn_wide.2 CS6.out)).mono ?_; clear CS6; rintro e w7 ⟨rfl, hg7⟩; have T7 := hid (grown_none T6.out hg7); clear hg7))
      all_goals (
        (try gi_wp2_with fail)
        gi_meet
        exact ⟨by first | rfl | rw [dk], grown_none (grown_drew (grown_refl V none)) T7.out⟩)
    case rest =>
      obtain ⟨rfl, hgY⟩ := hcut
      have GY := hid hgY
      have R3 := hid (K3.out.kept hgY (by simp))
      have a3 : wc.cell? ⟨w.heap.size + 3, 0, none⟩ = some (.int .i64 k) := R3.out.cell 0
      have f3 := R3.out.frozen 0
      have ZC := hgY.size
      clear hgY x0 x1 x2 x3 x4 d0 d1 d2 d3 d4 CB CS
      gi_wp2
      have gs := grown_set (grown_refl wc (some (w.heap.size + 3))) 0 (.int .i64 ((k : Int) + 1))
      have gW := grown_set_new (a := ⟨w.heap.size + 3, 0, none⟩) (grown_none K4.out GY.out) (.int .i64 ((k : Int) + 1)) (by show w.heap.size ≤ w.heap.size + 3; omega)
      have gV : V.grownBy (wc.setCell ⟨w.heap.size + 3, 0, none⟩ (.int .i64 ((k : Int) + 1))) (some (w.heap.size + 3)) := grown_to GY.out gs
      refine ⟨⟨(K1.out.kept GY.out (by simp)).kept gs (fun e => by have := Option.some.inj e; omega), (K2.out.kept GY.out (by simp)).kept gs (fun e => by have := Option.some.inj e; omega), R3.out.set 0 _, gW, Nat.le_trans (Nat.le_trans ZA ZC) gs.size⟩, fun b hb => gV.block b (by omega) (fun e => by have := Option.some.inj e; omega), Kf.of_grownBy gV (fun j e => by cases e; omega)⟩
  case done =>
    rintro D V hD ⟨k1, k2, k3, k4, k5⟩ hK
    have a1 : V.cell? ⟨w.heap.size + 1, 0, none⟩ = some (.slice (some ⟨ga, 0, none⟩) N ca) := by rw [k1.cell]; rfl
    have a3 : V.cell? ⟨w.heap.size + 3, 0, none⟩ = some (.int .i64 N) := by rw [k3.cell]; rfl
    have a2 : V.cell? ⟨w.heap.size + 2, 0, none⟩ = some (.bool false) := by rw [k2.cell]; rfl
    have f2 := k2.frozen 0
    have K2 := hid k2
    have K4 := hid k4
    have KD := hid hK
    have hDW : D < V.heap.size := (Array.getElem?_eq_some_iff.1 hK).1
    have ZB : w.heap.size + 4 ≤ w2.heap.size := by omega
    clear k1 k2 k3 k4 k5 hK SQ B1 B2 B3 nd2 ND2 G2 gA g2 HROW EL HNN HEN EN hok hN hPB hbo1 hbo2 z2 sA hca hlt hN' hgl
    go_wp2_with fail
    have gs := grown_set (grown_refl V (some (w.heap.size + 2))) 0 (.bool true)
    have KF : (V.setCell ⟨w.heap.size + 2, 0, none⟩ (.bool true)).heap[D]? = some (.deferred (some [])) := (gs.block D hDW (fun e => by have := Option.some.inj e; omega)).trans KD.out
    have V2 := (K2.out.set 0 (.bool true)).kept (grownBy_putObj' _ D (.deferred none)) (fun e => by have := Option.some.inj e; omega)
    have gW := grown_set_new (a := ⟨w.heap.size + 2, 0, none⟩) K4.out (.bool true) (by show w.heap.size ≤ w.heap.size + 2; omega)
    have gV := grown_ob' gW (grownBy_putObj' _ D (.deferred none)) (fun r e => by cases e; omega)
    refine ⟨by simp, .inl ⟨_, _, rfl, run_takeDeferred KF, ?_⟩⟩
    generalize (V.setCell ⟨w.heap.size + 2, 0, none⟩ (.bool true)).putObj D (.deferred none) = WF at *
    have u0 : WF.cell? ⟨w.heap.size + 1 + 1, 0, none⟩ = some (.bool true) := V2.cell 0
    exact ⟨.bool true, by simp [results, Tryd.results13, go_sem, u0], rfl, gV⟩
end Go.Proofs.YtdodammplhlihaaDoor
