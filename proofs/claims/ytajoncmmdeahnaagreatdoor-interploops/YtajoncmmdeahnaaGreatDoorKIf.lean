/-
  The interpreter: need, a step. Comparisons: what the order of sites is made of. The interpreter: a variable, its assignment, a literal; what a frame keeps.
-/
import Derived.Test.YtajoncmmdeahnaaGreatDoorKId
import Derived.WideKeyEntry
import Derived.Deep.DeepCutAuto
import Derived.Deep.Cut
import Derived.Deep.RegionWith
import Derived.Deep.RegionLaw
import Derived.IntWalk
import Derived.WalkMore
namespace Go.Proofs.YtajoncmmdeahnaaGreatDoor
open Go.RowKit Go.Maps
namespace Ip
theorem need_ok (w : World) : Calls Tryz.prog 148 #[.int .i64 0] w fun e w' => e = .returned (.tuple #[]) ∧ w' = w := by
  go_enter Tryz.func148, Tryz.ntmps148
  go_wp2
  go_end0
  exact ⟨rfl, rfl⟩
theorem need_trap (n : Nat) (hn : n ≠ 0) (w : World) : Calls Tryz.prog 148 #[.int .i64 n] w fun e w' => e = .panicked (TrV n) ∧ w' = w := by
  have h : ((n : Int) == 0) = false := by rw [beq_eq_false_iff_ne]; omega
  go_enter Tryz.func148, Tryz.ntmps148
  go_wp2
  exact ⟨rfl, rfl, rfl⟩
theorem step_fuel {X : Xm} {E : Env} {d c nm : Nat} (x : Pd) (q : Value) (w : World) (st : Ms) (hM : MaR w X E st) (h : st.steps = E.fuel) :
    Calls Tryz.prog 107 #[.pointer (some ⟨X.m, 0, none⟩), ndV x q] w (InP uU X E d c nm w (.error (some (6, st)) : Re Unit)) := by
  have GA := grown_alloc (grown_refl w none) (.cells #[.int .i64 x.kind, .int .i64 x.ty, .string x.txt, .int .i64 x.num, .slice none 0 0, .string x.nm, .int .i64 x.pl, q] 121)
  have y2 := (hM.kept GA).blk.cell 2
  have y3 := (hM.kept GA).blk.cell 3
  simp at y2 y3
  have e3 : ((st.steps : Int) == (E.fuel : Int)) = true := by rw [beq_iff_eq, h]
  have C : Hid (∀ W, Calls Tryz.prog 148 #[.int .i64 (6 : Nat)] W fun e w' => e = .panicked (TrV 6) ∧ w' = W) := hid (fun W => need_trap 6 (by decide) W)
  have GF := hid (FrM.nil (X := X) (c := c) (nm := nm) (grown_drew GA))
  have HM := hid (hM.kept (grown_drew GA))
  unfold ndV
  clear hM h GA
  go_enter Tryz.func107, Tryz.ntmps107
  go_wp2_with fail
  go_region
  go_wp2_with (go_at_call 148; refine (C.out _).mono ?_; rintro e w1 ⟨rfl, hw⟩; replace hw := hw.symm; subst hw; clear C)
  exact ⟨rfl, rfl, HM.out, GF.out⟩
theorem kl118 : Go.WideMaps.KeyLaw Tryz.prog 118 := deep_law (m := 3) (by decide) (by kernel_rfl) (by kernel_rfl) (by rw [Tryz.underlying118])
theorem setBlock_twice (w : World) (b : Nat) (x y : Obj) : Go.ChangeMaps.setBlock (Go.ChangeMaps.setBlock w b x) b y = Go.ChangeMaps.setBlock w b y := by simp [Go.ChangeMaps.setBlock]
theorem SmR.entry {w : World} {b n : Nat} {f : Sm} (h : SmR w b n f) (hn : n < maxLen) {s : ByteArray} {i : Int} (hs : Fits s i) : ∃ v0 k w1, (Instr.mapEntry 79 (.map (some b)) (siteV s i)).run Tryz.prog w = .ok (.tuple #[v0, goInt k]) w1 ∧ w.grownBy w1 (some b) ∧ (Instr.lookup 79 (.map (some b)) (siteV s i) false).run Tryz.prog w1 = .ok (.int .i64 ((f s i).getD 0)) w1 ∧ ∀ v, ∃ w', (Instr.entryStore 79 (.map (some b)) (goInt k) (.int .i64 v)).run Tryz.prog w1 = .ok () w' ∧ SmR w' b (n + 1) (updS f s i v) ∧ w.grownBy w' (some b) := by
  obtain ⟨D, ⟨es, clock, hb, F, hz, hD⟩, h2⟩ := id h
  have hzr : ∀ u : World, (zeroValue 3).run Tryz.prog u = .ok (.int .i64 0) u := fun u => by kernel_rfl
  obtain ⟨v0, k, es1, clock1, hr, _, hst⟩ := Go.WideElems.entry_then_store kl118 Tryz.underlying79 hzr hb F (key_site hs)
  have hb1 := Go.ChangeMaps.heap_setBlock_same hb (.map es1 clock1)
  refine ⟨v0, k, _, hr, ⟨rfl, rfl, rfl, by simp [Go.ChangeMaps.setBlock], fun j _ hi => Go.ChangeMaps.heap_setBlock_other hb _ (fun e => hi (by rw [e]))⟩, ?_, fun v => ?_⟩
  · rcases kl118.find w (key_site hs) es.toList F.keys with ⟨h1, _⟩ | ⟨j, e0, h1, h2', h3⟩
    · have hl : (Instr.lookup 79 (.map (some b)) (siteV s i) false).run Tryz.prog w = .ok (.int .i64 0) w := by
        simp [Instr.lookup, run_underlying Tryz.underlying79, Go.MapKept.run_getObj_map hb, kl118.check w es.isEmpty (key_site hs), h1, hzr, Result.andThen]
      have hl2 := (Result.ok.inj (hl.symm.trans (h.look hs))).1
      rw [← hl2]
      have hm : (Instr.mapEntry 79 (.map (some b)) (siteV s i)).run Tryz.prog w = .ok (.tuple #[.int .i64 0, goInt clock]) (Go.ChangeMaps.setBlock w b (.map (es.push ⟨siteV s i, .int .i64 0, clock⟩) (clock + 1))) := by
        simp [Instr.mapEntry, run_underlying Tryz.underlying79, Go.MapKept.run_getObj_map hb, kl118.check w false (key_site hs), h1, hzr, Go.MapKept.run_setObj_map _ hb, Result.andThen, Go.ChangeMaps.setBlock]
      have hr := (Result.ok.inj (hm.symm.trans hr)).2
      rw [← hr]
      obtain ⟨w', h5, h6, h7⟩ := h.store hn hs 0
      have hu : (Instr.mapUpdate 79 (.map (some b)) (siteV s i) (.int .i64 0)).run Tryz.prog w = .ok () (Go.ChangeMaps.setBlock w b (.map (es.push ⟨siteV s i, .int .i64 0, clock⟩) (clock + 1))) := by
        simp [Instr.mapUpdate, run_underlying Tryz.underlying79, Go.MapKept.run_getObj_map hb, kl118.check w false (key_site hs), h1, Go.MapKept.run_setObj_map _ hb, Result.andThen, Go.ChangeMaps.setBlock]
      have h5 := (Result.ok.inj (hu.symm.trans h5)).2
      rw [h5]
      have hl3 := h6.look hs
      unfold updS at hl3
      rw [same_self, beq_self_eq_true] at hl3
      exact hl3
    · have hj : es[j]? = some e0 := by simpa using h2'
      have hsame : es.modify j (fun e => { e with key := siteV s i }) = es := by
        apply Array.ext'
        rw [Array.toList_modify, Go.ChangeMaps.modify_eq_set _ _ _ _ h2']
        have : ({ e0 with key := siteV s i } : MapEntry) = e0 := by rw [← h3]
        rw [this]
        exact Go.WideElems.set_self _ _ _ h2'
      have hm : (Instr.mapEntry 79 (.map (some b)) (siteV s i)).run Tryz.prog w = .ok (.tuple #[e0.val, goInt e0.born]) (Go.ChangeMaps.setBlock w b (.map es clock)) := by
        simp [Instr.mapEntry, run_underlying Tryz.underlying79, Go.MapKept.run_getObj_map hb, kl118.check w false (key_site hs), h1, hj, h3, kl118.stays w (key_site hs), hsame, Go.MapKept.run_setObj_map _ hb, Result.andThen, Go.ChangeMaps.setBlock]
      have hr := (Result.ok.inj (hm.symm.trans hr)).2
      rw [← hr]
      have h8 : SmR (Go.ChangeMaps.setBlock w b (.map es clock)) b n f := h.heap (by rw [Go.ChangeMaps.heap_setBlock_same hb, hb])
      exact h8.look hs
  · obtain ⟨es', clock', h3, h4⟩ := hst _ (.int .i64 v) hb1
    obtain ⟨w', h5, h6, h7⟩ := h.store hn hs v
    have h5 := (Result.ok.inj (h4.symm.trans h5)).2
    rw [setBlock_twice, h5] at h3
    exact ⟨w', h3, h6, h7⟩
theorem CaA.stepped {X : Xm} {E : Env} {d c nm : Nat} {W w4 : World} {st : Ms} (hA : CaA W X E d c nm st) (hlt : st.steps < E.fuel) (v : Sm) (hg : ((W.setCell ⟨X.m, 3, none⟩ (.int .i64 ((st.steps : Int) + 1))).drew).grownBy w4 (some X.mv)) (hm : SmR w4 X.mv (st.steps + 1) v) : CaA w4 X E d c nm { st with steps := st.steps + 1, vis := v } ∧ FrM X c nm W w4 := by
  have hM := hA.ma
  obtain ⟨n1, n2, n3⟩ := hM.nes
  have hO := hM.ok
  have o1 := hO.m
  have o2 := hO.b
  have o3 := hO.g
  have o4 := hO.v
  have o5 := hO.bv
  have o6 := hO.gv
  have oh := hO.lh
  have c1 := hA.ca.c
  have c2 := hA.ca.nm
  have G2 : W.grownBy (W.setCell ⟨X.m, 3, none⟩ (.int .i64 ((st.steps : Int) + 1))) (some X.m) := grown_set (grown_refl W (some X.m)) 3 _
  have G3 := grown_drew G2
  have F : FrM X c nm W w4 := (FrM.of G3 (fun r e => by injection e with e; exact Or.inl e.symm)).trans (FrM.of hg (fun r e => by injection e with e; exact Or.inr (Or.inr (Or.inl e.symm))))
  have K : Kp W w4 (PX X) := hA.px F
  have B2 : Blk (W.setCell ⟨X.m, 3, none⟩ (.int .i64 ((st.steps : Int) + 1))) X.m 81 #[.map (some X.mb), .map (some X.mg), .int .i64 E.fuel, .int .i64 ((st.steps : Int) + 1), .map (some X.mv)] := by simpa using hM.blk.set 3 (.int .i64 ((st.steps : Int) + 1))
  have B4 := (B2.kept (grown_drew (grown_refl _ none)) (by simp)).kept hg (fun e => n3 (Option.some.inj e))
  have e4 : ∀ b, b < W.heap.size → b ≠ X.m → b ≠ X.mv → w4.heap[b]? = W.heap[b]? := fun b hb h1 h2 => (hg.block b (Nat.lt_of_lt_of_le hb G3.size) (fun e => h2 (Option.some.inj e))).trans (G3.block b hb (fun e => h1 (Option.some.inj e)))
  obtain ⟨l1, l2, l3, l4⟩ := hM.lts
  have lc := hA.ca.blk.lt
  have ln := hA.ca.nam.lt
  refine ⟨⟨⟨hO, Nat.le_trans hM.hi F.size, B4, hM.bod.fr K (e4 _ l2 (Ne.symm n1) o5), hM.glo.heap (e4 _ l3 (Ne.symm n2) o6), hm, hlt, hM.fu⟩, ⟨?_, (hA.ca.nam.heap (e4 _ ln (by omega) (by omega))), c1, c2, hA.ca.d⟩⟩, F⟩
  exact (e4 _ lc (by omega) (by omega)).trans hA.ca.blk
set_option maxRecDepth 100000 in
set_option maxHeartbeats 1000000 in
theorem step_go {X : Xm} {E : Env} {d c nm : Nat} (x : Pd) (q : Value) (w : World) (st : Ms) (hA : CaA w X E d c nm st) (h : st.steps ≠ E.fuel) (hf : Fits x.nm x.pl) :
    Calls Tryz.prog 107 #[.pointer (some ⟨X.m, 0, none⟩), ndV x q] w (InP uU X E d c nm w (.ok ((), { st with steps := st.steps + 1, vis := updS st.vis x.nm x.pl (IntKind.i64.wrap ((st.vis x.nm x.pl).getD 0 + 1)) }) : Re Unit)) := by
  have hM := hA.ma
  have hle := hM.le
  have hfu := hM.fu
  have GA := grown_alloc (grown_refl w none) (.cells #[.int .i64 x.kind, .int .i64 x.ty, .string x.txt, .int .i64 x.num, .slice none 0 0, .string x.nm, .int .i64 x.pl, q] 121)
  have M1 := hM.kept GA
  have A1 := hA.kept (grown_drew GA)
  have B1 := Blk.new w 121 #[.int .i64 x.kind, .int .i64 x.ty, .string x.txt, .int .i64 x.num, .slice none 0 0, .string x.nm, .int .i64 x.pl, q]
  have y2 := M1.blk.cell 2
  have y3 := M1.blk.cell 3
  have y4 := M1.blk.cell 4
  have z3 := M1.blk.frozen 3
  have b5 := B1.cell 5
  have b6 := B1.cell 6
  simp at y2 y3 y4 b5 b6
  have e3 : ((st.steps : Int) == (E.fuel : Int)) = false := by rw [beq_eq_false_iff_ne]; omega
  have e4 : wrap64 ((st.steps : Int) + 1) = (st.steps : Int) + 1 := by unfold wrap64; omega
  have ne : X.m ≠ w.heap.size := Nat.ne_of_lt hM.blk.lt
  have hlt : st.steps < E.fuel := by omega
  have V3 : SmR (((w.alloc (.cells #[.int .i64 x.kind, .int .i64 x.ty, .string x.txt, .int .i64 x.num, .slice none 0 0, .string x.nm, .int .i64 x.pl, q] 121)).setCell ⟨X.m, 3, none⟩ (.int .i64 ((st.steps : Int) + 1))).drew.drew) X.mv st.steps st.vis := (A1.ma.vis.kept (grown_set (grown_refl _ (some X.m)) 3 _) (fun e => hM.nes.2.2 (Option.some.inj e).symm)).kept (grown_drew (grown_refl _ none)) (by simp)
  have L5 := V3.look hf
  obtain ⟨v0, kk, w3, hent, hg3, L6, hst⟩ := V3.entry (by unfold maxLen; omega) hf
  obtain ⟨w4, hrun, hm, hg⟩ := hst (IntKind.i64.wrap ((st.vis x.nm x.pl).getD 0 + 1))
  obtain ⟨A4, F4⟩ := A1.stepped hlt _ hg hm
  have RS := hid (And.intro A4 ((FrM.nil (grown_drew GA)).trans F4))
  unfold siteV at L5 L6 hent
  unfold ndV
  have hrun : (Instr.entryStore 79 (.map (some X.mv)) (.int .i64 kk) (.int .i64 (IntKind.i64.wrap ((st.vis x.nm x.pl).getD 0 + 1)))).run Tryz.prog w3 = .ok () w4 := hrun
  clear hst hA hM hg hm V3 A1 A4 F4 M1 GA B1 hle hfu hf hlt h
  go_enter Tryz.func107, Tryz.ntmps107
  go_wp2_with fail
  go_region
  go_wp2_with fail
  go_region
  all_goals
    first
      | (go_wp2_with fail; go_end0; exact ⟨rfl, RS.out⟩)
      | (go_end0; exact ⟨rfl, RS.out⟩)
theorem step_any {X : Xm} {E : Env} {d c nm : Nat} (x : Pd) (q : Value) (w : World) (st : Ms) (hA : CaA w X E d c nm st) (hx : stepM E x st ≠ .error none) :
    Calls Tryz.prog 107 #[.pointer (some ⟨X.m, 0, none⟩), ndV x q] w (InP uU X E d c nm w (stepM E x st)) := by
  unfold stepM at hx ⊢
  by_cases h : st.steps = E.fuel
  · rw [if_pos h]
    exact step_fuel x q w st hA.ma h
  rw [if_neg h] at hx ⊢
  by_cases h2 : 1000000 < x.nm.size ∨ x.pl < -9223372036854775808 ∨ 9223372036854775807 < x.pl
  · rw [if_pos h2] at hx
    exact absurd rfl hx
  rw [if_neg h2]
  exact step_go x q w st hA h ⟨by unfold maxLen; omega, by omega, by omega⟩
end Ip
end Go.Proofs.YtajoncmmdeahnaaGreatDoor
namespace Go.Proofs.YtajoncmmdeahnaaGreatDoor
open Go.RowKit
namespace Ip
theorem nan_str (s : ByteArray) (w : World) : Calls Tryz.prog 111 #[.string s] w fun e w' => e = .returned (.bool false) ∧ w' = w := by
  go_enter Tryz.func111, Tryz.ntmps111
  go_wp2
  go_ret
  exact ⟨rfl, rfl⟩
theorem nan_int (n : Int) (w : World) : Calls Tryz.prog 112 #[.int .i64 n] w fun e w' => e = .returned (.bool false) ∧ w' = w := by
  go_enter Tryz.func112, Tryz.ntmps112
  go_wp2
  go_ret
  exact ⟨rfl, rfl⟩
def cmpN (x y : Int) : Int := if x < y then -1 else if y < x then 1 else 0
set_option maxRecDepth 100000 in
theorem compare_int (x y : Int) (w : World) : Calls Tryz.prog 66 #[.int .i64 x, .int .i64 y] w fun e w' => e = .returned (.int .i64 (cmpN x y)) ∧ w' = w := by
  have C : Hid (∀ n W, Calls Tryz.prog 112 #[.int .i64 n] W fun e w' => e = .returned (.bool false) ∧ w' = W) := hid (fun n W => nan_int n W)
  unfold cmpN
  by_cases h1 : x < y
  · have e1 : decide (x < y) = true := decide_eq_true h1
    rw [if_pos h1]
    go_enter Tryz.func66, Tryz.ntmps66
    go_wp2_with (go_at_call 112; refine (C.out _ _).mono ?_; rintro e w1 ⟨rfl, hw⟩; replace hw := hw.symm; subst hw)
    go_ret
    exact ⟨rfl, rfl⟩
  · have e1 : decide (x < y) = false := decide_eq_false h1
    rw [if_neg h1]
    by_cases h2 : y < x
    · have e2 : decide (y < x) = true := decide_eq_true h2
      rw [if_pos h2]
      go_enter Tryz.func66, Tryz.ntmps66
      go_wp2_with (go_at_call 112; refine (C.out _ _).mono ?_; rintro e w1 ⟨rfl, hw⟩; replace hw := hw.symm; subst hw)
      go_ret
      exact ⟨rfl, rfl⟩
    · have e2 : decide (y < x) = false := decide_eq_false h2
      rw [if_neg h2]
      go_enter Tryz.func66, Tryz.ntmps66
      go_wp2_with (go_at_call 112; refine (C.out _ _).mono ?_; rintro e w1 ⟨rfl, hw⟩; replace hw := hw.symm; subst hw)
      go_ret
      exact ⟨rfl, rfl⟩
def cmpS (x y : ByteArray) : Int := if Op.bytesLess x.toList y.toList = true then -1 else if (!x.toList == y.toList) = true then 1 else 0
set_option maxRecDepth 100000 in
theorem compare_str (x y : ByteArray) (w : World) : Calls Tryz.prog 65 #[.string x, .string y] w fun e w' => e = .returned (.int .i64 (cmpS x y)) ∧ w' = w := by
  have C : Hid (∀ n W, Calls Tryz.prog 111 #[.string n] W fun e w' => e = .returned (.bool false) ∧ w' = W) := hid (fun n W => nan_str n W)
  unfold cmpS
  cases h1 : Op.bytesLess x.toList y.toList with
  | true =>
    rw [if_pos rfl]
    go_enter Tryz.func65, Tryz.ntmps65
    go_wp2_with (go_at_call 111; refine (C.out _ _).mono ?_; rintro e w1 ⟨rfl, hw⟩; replace hw := hw.symm; subst hw)
    go_ret
    exact ⟨rfl, rfl⟩
  | false =>
    rw [if_neg Bool.false_ne_true]
    cases h2 : (!x.toList == y.toList) with
    | true =>
      rw [if_pos rfl]
      go_enter Tryz.func65, Tryz.ntmps65
      go_wp2_with (go_at_call 111; refine (C.out _ _).mono ?_; rintro e w1 ⟨rfl, hw⟩; replace hw := hw.symm; subst hw)
      go_ret
      exact ⟨rfl, rfl⟩
    | false =>
      rw [if_neg Bool.false_ne_true]
      go_enter Tryz.func65, Tryz.ntmps65
      go_wp2_with (go_at_call 111; refine (C.out _ _).mono ?_; rintro e w1 ⟨rfl, hw⟩; replace hw := hw.symm; subst hw)
      go_ret
      exact ⟨rfl, rfl⟩
def orN (a b : Int) : Int := if a = 0 then b else a
set_option maxRecDepth 100000 in
theorem or_any (a b : Int) (g : Nat) (w : World) (h : Blk w g 3 #[.int .i64 a, .int .i64 b]) : Calls Tryz.prog 64 #[.slice (some ⟨g, 0, none⟩) 2 2] w fun e w' => e = .returned (.int .i64 (orN a b)) ∧ w' = w := by
  have c0 := h.cell 0
  have c1 := h.cell 1
  simp at c0 c1
  clear h
  go_enter Tryz.func64, Tryz.ntmps64
  go_wp2
  go_loopw [8] (fun i wr => ∃ j : Nat, j ≤ 2 ∧ i = .int .i64 j ∧ wr = w ∧ (0 < j → a = 0) ∧ (1 < j → b = 0)) (fun i _ => 2 - (intOf i).toNat)
  case atStart => exact ⟨0, by omega, rfl, rfl, fun h => by omega, fun h => by omega⟩
  case round =>
    obtain ⟨j, hj, rfl, rfl, ha, hb⟩ := hrel
    rcases (show j = 0 ∨ j = 1 ∨ j = 2 by omega) with rfl | rfl | rfl
    · by_cases h1 : a = 0
      · have e1 : (a != 0) = false := by simp [h1]
        have H1 := hid h1
        clear h1 ha hb hj
        go_wp2
        go_roundw
        all_goals first
          | exact ⟨1, by omega, rfl, trivial, fun _ => H1.out, fun h => by omega⟩
          | (simp [intOf])
      · have e1 : (a != 0) = true := by simp [h1]
        have H1 := hid h1
        clear h1 ha hb hj
        go_wp2
        go_ret
        unfold orN
        rw [if_neg H1.out]
        exact ⟨rfl, rfl⟩
    · have H1 := hid (ha (by omega))
      by_cases h1 : b = 0
      · have e1 : (b != 0) = false := by simp [h1]
        have H2 := hid h1
        clear h1 ha hb hj
        go_wp2
        go_roundw
        all_goals first
          | exact ⟨2, by omega, rfl, trivial, fun _ => H1.out, fun _ => H2.out⟩
          | (simp [intOf])
      · have e1 : (b != 0) = true := by simp [h1]
        clear h1 ha hb hj
        go_wp2
        go_ret
        unfold orN
        rw [if_pos H1.out]
        exact ⟨rfl, rfl⟩
    · have H1 := hid (ha (by omega))
      have H2 := hid (hb (by omega))
      clear ha hb hj
      go_wp2
      go_ret
      unfold orN
      rw [if_pos H1.out, H2.out]
      exact ⟨rfl, rfl⟩
end Ip
end Go.Proofs.YtajoncmmdeahnaaGreatDoor
namespace Go.Proofs.YtajoncmmdeahnaaGreatDoor
open Go.RowKit
namespace Ip
section
variable {X : Xm} {E : Env} {d c nm : Nat} {w0 w w' : World} {st st0 : Ms}
theorem CaA.new (h : CaA w0 X E d c nm st0) {r : Nat} (hr : w0.heap.size ≤ r) : r ≠ X.m ∧ r ≠ X.mb ∧ r ≠ X.mg ∧ r ≠ X.mv ∧ r ≠ c ∧ r ≠ nm ∧ X.hi ≤ r := by
  obtain ⟨l1, l2, l3, l4⟩ := h.ma.lts
  have l5 := h.ca.blk.lt
  have l6 := h.ca.nam.lt
  have l7 := h.ma.hi
  omega
theorem CaA.wrote (h0 : CaA w0 X E d c nm st0) (hA : CaA w X E d c nm st) {r : Nat} (hr : w0.heap.size ≤ r) (hg : w.grownBy w' (some r)) : CaA w' X E d c nm st := by
  obtain ⟨n1, n2, n3, n4, n5, n6, n7⟩ := h0.new hr
  exact ⟨hA.ma.keptR hg n7, ⟨hA.ca.blk.kept hg (fun e => n5 (Option.some.inj e).symm), hA.ca.nam.kept hg (fun e => n6 (Option.some.inj e).symm), hA.ca.c, hA.ca.nm, hA.ca.d⟩⟩
theorem FrM.wrote (hF : FrM X c nm w0 w) {r : Nat} (hr : w0.heap.size ≤ r) (hg : w.grownBy w' (some r)) : FrM X c nm w0 w' :=
  ⟨hg.os.trans hF.os, hg.tape.trans hF.tape, hg.output.trans hF.output, Nat.le_trans hF.size hg.size, fun i hi h1 h2 h3 h4 h5 => (hg.block i (Nat.lt_of_lt_of_le hi hF.size) (fun e => by injection e with e; omega)).trans (hF.block i hi h1 h2 h3 h4 h5)⟩
theorem FrM.newk (h0 : CaA w0 X E d c nm st0) (h : FrM X c nm w w') {b : Nat} (hb : w0.heap.size ≤ b) {t : TypeId} {cs : Array Value} (hB : Blk w b t cs) : Blk w' b t cs := by
  obtain ⟨n1, n2, n3, n4, n5, n6, n7⟩ := h0.new hb
  exact (h.block b hB.lt n1 n3 n4 n5 n6).trans hB
end
theorem vM_upd (f : Vm) (s : ByteArray) (v : V) (x : ByteArray) : vM (updV f s v) x = Mp.upd (vM f) s (vV v) x := by
  unfold vM updV Mp.upd
  show Option.map vV (if same x s = true then some v else f x) = if same x s = true then some (vV v) else Option.map vV (f x)
  cases same x s <;> rfl
theorem CaA.setNam {X : Xm} {E : Env} {d c nm : Nat} {w w' : World} {st : Ms} (hA : CaA w X E d c nm st) {s : ByteArray} {v : V} (hg : w.grownBy w' (some nm)) (hm : Mp.MapR w' nm (1000 + st.wr + 1) (Mp.upd (vM st.nam) s (vV v))) : CaA w' X E d c nm { st with nam := updV st.nam s v, wr := st.wr + 1 } ∧ FrM X c nm w w' := by
  have hM := hA.ma.keptR hg hA.ca.nm
  refine ⟨⟨⟨hM.ok, hM.hi, hM.blk, hM.bod, hM.glo.more (Nat.le_succ _), hM.vis, hM.le, hM.fu⟩, ⟨hA.ca.blk.kept hg (fun e => hA.ca.ne (Option.some.inj e)), hm.congr (fun x => (vM_upd _ _ _ _).symm), hA.ca.c, hA.ca.nm, hA.ca.d⟩⟩, FrM.of hg (fun r e => by injection e with e; exact Or.inr (Or.inr (Or.inr (Or.inr e.symm))))⟩
theorem CaA.setGlo {X : Xm} {E : Env} {d c nm : Nat} {w w' : World} {st : Ms} (hA : CaA w X E d c nm st) {s : ByteArray} {v : V} (hg : w.grownBy w' (some X.mg)) (hm : Mp.MapR w' X.mg (1000 + st.wr + 1) (Mp.upd (vM st.glo) s (vV v))) : CaA w' X E d c nm { st with glo := updV st.glo s v, wr := st.wr + 1 } ∧ FrM X c nm w w' := by
  have F : FrM X c nm w w' := FrM.of hg (fun r e => by injection e with e; exact Or.inr (Or.inl e.symm))
  have hM := hA.ma
  obtain ⟨n1, n2, n3⟩ := hM.nes
  have hO := hM.ok
  have o1 := hO.g
  have o2 := hO.lh
  have c1 := hA.ca.c
  have c2 := hA.ca.nm
  obtain ⟨l1, l2, l3, l4⟩ := hM.lts
  have lc := hA.ca.blk.lt
  have ln := hA.ca.nam.lt
  have e : ∀ b, b < w.heap.size → b ≠ X.mg → w'.heap[b]? = w.heap[b]? := fun b hb h => hg.block b hb (fun e => h (Option.some.inj e))
  refine ⟨⟨⟨hO, Nat.le_trans hM.hi F.size, (e _ l1 n2).trans hM.blk, hM.bod.fr (hA.px F) (e _ l2 hO.bg), hm.congr (fun x => (vM_upd _ _ _ _).symm), hM.vis.heap (e _ l4 (Ne.symm hO.gv)), hM.le, hM.fu⟩, ⟨(e _ lc (by omega)).trans hA.ca.blk, (hA.ca.nam.heap (e _ ln (by omega))).more (Nat.le_succ _), c1, c2, hA.ca.d⟩⟩, F⟩
theorem zero115 (w : World) : (zeroValue 115).run Tryz.prog w = .ok (.agg #[.int .i64 0, .int .i64 0]) w := by kernel_rfl
theorem max1 {s : ByteArray} (h : ¬ 1000000 < s.size) : s.size ≤ maxLen := by unfold maxLen; omega
set_option maxRecDepth 100000 in
set_option maxHeartbeats 1000000 in
theorem var_any {X : Xm} {E : Env} {d c nm : Nat} (s : ByteArray) (w : World) (st : Ms) (hA : CaA w X E d c nm st) (hx : varM s st ≠ .error none) :
    Calls Tryz.prog 183 #[.pointer (some ⟨c, 0, none⟩), .string s] w (InP vV X E d c nm w (varM s st)) := by
  unfold varM at hx ⊢
  by_cases hs : 1000000 < s.size
  · rw [if_pos hs] at hx
    exact absurd rfl hx
  rw [if_neg hs]
  have G1 := grown_alloc (grown_refl w none) (.cells #[.int .i64 0, .int .i64 0] 115)
  have A1 := hA.kept G1
  have L := A1.ca.nam.look Tryz.underlying78 (zero115 _) s (max1 hs)
  unfold vM at L
  have c2 := A1.ca.blk.cell 2
  simp at c2
  have GF := hid (fun W' (h : w.grownBy W' none) => And.intro (hA.kept h) (FrM.nil (X := X) (c := c) (nm := nm) h))
  cases hv : st.nam s with
  | some v =>
    rw [hv] at L
    simp only [Option.map_some, Option.getD_some, Option.isSome_some] at L
    unfold vV at L
    clear hv hx hA A1 G1 hs
    go_enter Tryz.func183, Tryz.ntmps183
    go_wp2_with fail
    refine bodyPost_ret (v := vV v) (by simp [vV, results, Tryz.results183, go_sem]) rfl ⟨rfl, GF.out _ ?_⟩
    exact grown_alloc (grown_alloc (grown_refl w none) _) _
  | none =>
    rw [hv] at L
    simp only [Option.map_none, Option.getD_none, Option.isSome_none] at L
    have A2 := A1.kept (grown_alloc (grown_refl _ none) (.cells #[.int .i64 0, .int .i64 0] 115))
    have c0 := A2.ca.blk.cell 0
    have m1 := A2.ma.blk.cell 1
    simp at c0 m1
    have L2 := A2.ma.glo.look1 Tryz.underlying78 (zero115 _) s (max1 hs)
    have eV : (vM st.glo s).getD (.agg #[.int .i64 0, .int .i64 0]) = vV ((st.glo s).getD (0, 0)) := by
      unfold vM
      cases st.glo s <;> rfl
    rw [eV] at L2
    unfold vV at L2
    generalize (st.glo s).getD (0, 0) = v at *
    clear hv hx hA A1 A2 G1 hs eV
    go_enter Tryz.func183, Tryz.ntmps183
    go_wp2_with fail
    refine bodyPost_ret (v := vV v) (by simp [vV, results, Tryz.results183, go_sem]) rfl ⟨rfl, GF.out _ ?_⟩
    exact grown_alloc (grown_alloc (grown_refl w none) _) _
theorem lit_any (k t : Int) (s : ByteArray) (n : Int) (q : Value) (w : World) : Calls Tryz.prog 58 #[.agg #[.int .i64 k, .int .i64 t, .string s, .int .i64 n, q]] w fun e w' => e = .returned (vV (t, n)) ∧ w.grownBy w' none := by
  unfold vV
  go_enter Tryz.func58, Tryz.ntmps58
  go_wp2_with fail
  refine bodyPost_ret (v := .agg #[.int .i64 t, .int .i64 n]) (by simp [results, Tryz.results58, go_sem]) rfl ⟨rfl, ?_⟩
  exact grown_alloc (grown_alloc (grown_refl w none) _) _
set_option maxRecDepth 100000 in
set_option maxHeartbeats 1000000 in
theorem assign_any {X : Xm} {E : Env} {d c nm : Nat} (s : ByteArray) (v : V) (w : World) (st : Ms) (hA : CaA w X E d c nm st) (hx : assignM s v st ≠ .error none) :
    Calls Tryz.prog 152 #[.pointer (some ⟨c, 0, none⟩), .string s, vV v] w (InP uU X E d c nm w (assignM s v st)) := by
  unfold assignM at hx ⊢
  by_cases hs2 : 1000000 < s.size ∨ 1000000 ≤ st.wr
  · rw [if_pos hs2] at hx
    exact absurd rfl hx
  rw [if_neg hs2]
  have hs : ¬ 1000000 < s.size := fun h => hs2 (Or.inl h)
  have hw : 1000 + st.wr < maxLen := by unfold maxLen; omega
  have G1 := grown_alloc (grown_refl w none) (.cells #[.int .i64 v.1, .int .i64 v.2] 115)
  have A1 := hA.kept G1
  have L := A1.ca.nam.look Tryz.underlying78 (zero115 _) s (max1 hs)
  unfold vM at L
  have c2 := A1.ca.blk.cell 2
  simp at c2
  have B1 := hid (Blk.new w 115 #[.int .i64 v.1, .int .i64 v.2])
  cases hv : st.nam s with
  | some u =>
    rw [hv] at L
    simp only [Option.map_some, Option.getD_some, Option.isSome_some] at L
    have G2 := grown_drew (grown_alloc G1 (.cells #[.int .i64 u.1, .int .i64 u.2] 115))
    have A2 := hA.kept G2
    have b0 := (B1.out.alloc (.cells #[.int .i64 u.1, .int .i64 u.2] 115)).cell 0
    have b1 := (B1.out.alloc (.cells #[.int .i64 u.1, .int .i64 u.2] 115)).cell 1
    have d2 := A2.ca.blk.cell 2
    simp at b0 b1 d2
    obtain ⟨w3, hrun, hm, hg⟩ := A2.ca.nam.store Tryz.underlying78 hw s (max1 hs) (vV v)
    obtain ⟨R1, R2⟩ := A2.setNam hg hm
    have RS := hid (And.intro R1 ((FrM.nil G2).trans R2))
    unfold vV at L hrun ⊢
    clear hv hx hA A1 A2 G1 G2 hs hs2 hw hm hg R1 R2
    go_enter Tryz.func152, Tryz.ntmps152
    go_wp2_with fail
    go_region
    all_goals
      first
        | (go_wp2_with fail; go_end0; exact ⟨rfl, RS.out⟩)
        | (go_end0; exact ⟨rfl, RS.out⟩)
  | none =>
    rw [hv] at L
    simp only [Option.map_none, Option.getD_none, Option.isSome_none] at L
    have G2 := grown_drew (grown_alloc G1 (.cells #[.int .i64 0, .int .i64 0] 115))
    have A2 := hA.kept G2
    have b0 := (B1.out.alloc (.cells #[.int .i64 0, .int .i64 0] 115)).cell 0
    have b1 := (B1.out.alloc (.cells #[.int .i64 0, .int .i64 0] 115)).cell 1
    have d0 := A2.ca.blk.cell 0
    have m1 := A2.ma.blk.cell 1
    simp at b0 b1 d0 m1
    obtain ⟨w3, hrun, hm, hg⟩ := A2.ma.glo.store Tryz.underlying78 hw s (max1 hs) (vV v)
    obtain ⟨R1, R2⟩ := A2.setGlo hg hm
    have RS := hid (And.intro R1 ((FrM.nil G2).trans R2))
    unfold vV at hrun ⊢
    clear hv hx hA A1 A2 G1 G2 hs hs2 hw hm hg R1 R2
    go_enter Tryz.func152, Tryz.ntmps152
    go_wp2_with fail
    go_region
    all_goals
      first
        | (go_wp2_with fail; go_end0; exact ⟨rfl, RS.out⟩)
        | (go_end0; exact ⟨rfl, RS.out⟩)
end Ip
end Go.Proofs.YtajoncmmdeahnaaGreatDoor
