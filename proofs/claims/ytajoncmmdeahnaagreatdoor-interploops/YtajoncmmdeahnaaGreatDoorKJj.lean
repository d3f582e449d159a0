/-
  A program's declarations, as an iterator. A program's first declaration of a name.
-/
import Derived.RangeFuncNested
import Derived.RangeFuncBound
import Derived.RangeFuncCalls
import Derived.RangeFuncLeaves
import Derived.Shelf.Abstract
import Derived.Shelf.RegionOpen
import Derived.WalkKit
import Derived.OwnWalkIn
import Derived.TacticsInMore
import Derived.LoopNIn
import Derived.LoopIn
import Derived.Test.YtajoncmmdeahnaaGreatDoorKCb
import Derived.Test.YtajoncmmdeahnaaGreatDoorKPh
namespace Go.Proofs.YtajoncmmdeahnaaGreatDoor
open Go.RowKit Go.Maps Go.Shelf
attribute [local go_sem] Oper.semAt_some
namespace Ip
def decK (k : Int) : Bool := k == 2 || k == 3 || k == 4
theorem isdecl_any (k : Int) (w : World) : Calls Tryz.prog 105 #[.int .i64 k] w fun e w' => e = .returned (.bool (decK k)) ∧ w' = w := by
  by_cases h2 : k = 2
  · subst h2
    go_enter Tryz.func105, Tryz.ntmps105
    go_wp2
    go_ret
    exact ⟨rfl, rfl⟩
  · have e2 : (k == 2) = false := by rw [beq_eq_false_iff_ne]; exact h2
    by_cases h3 : k = 3
    · subst h3
      go_enter Tryz.func105, Tryz.ntmps105
      go_wp2
      go_ret
      exact ⟨rfl, rfl⟩
    · have e3 : (k == 3) = false := by rw [beq_eq_false_iff_ne]; exact h3
      by_cases h4 : k = 4
      · subst h4
        go_enter Tryz.func105, Tryz.ntmps105
        go_wp2
        go_ret
        exact ⟨rfl, rfl⟩
      · have e4 : (k == 4) = false := by rw [beq_eq_false_iff_ne]; exact h4
        have e5 : decK k = false := by unfold decK; rw [e2, e3, e4]; rfl
        rw [e5]
        clear h2 h3 h4
        go_enter Tryz.func105, Tryz.ntmps105
        go_wp2
        go_ret
        exact ⟨rfl, rfl⟩
theorem decls_mk (k t : Int) (s : ByteArray) (n : Int) (q : Value) (w : World) : Calls Tryz.prog 57 #[.agg #[.int .i64 k, .int .i64 t, .string s, .int .i64 n, q]] w fun e w' =>
    e = .returned (.func (.func 104) #[] #[.pointer (some ⟨w.heap.size, 0, none⟩)]) ∧ w' = w.alloc (.cells #[.int .i64 k, .int .i64 t, .string s, .int .i64 n, q] 27) := by
  go_enter Tryz.func57, Tryz.ntmps57
  go_wp2
  go_ret
  exact ⟨rfl, rfl⟩
abbrev DcX (w : World) (P : Nat → Prop) := { x : Nd × Value // KsV w P x.2 x.1.kids ∧ x.1.ok }
def dcV (x : Nd × Value) : Value := .agg #[.int .i64 x.1.kind, .int .i64 x.1.ty, .string x.1.txt, .int .i64 x.1.num, x.2]
def dcF (ks : List Nd) : List Nd := ks.filter fun x => decK x.kind
theorem dcF_take {ks : List Nd} {j : Nat} (h : j < ks.length) : dcF (ks.take (j + 1)) = if decK (ks[j]).kind then dcF (ks.take j) ++ [ks[j]] else dcF (ks.take j) := by
  unfold dcF
  rw [List.take_succ_eq_append_getElem h, List.filter_append, List.filter_cons, List.filter_nil]
  split <;> simp
theorem dcF_len (ks : List Nd) (j : Nat) : (dcF (ks.take j)).length ≤ j := by
  have := List.length_filter_le (fun x : Nd => decK x.kind) (ks.take j)
  rw [List.length_take] at this
  unfold dcF
  omega
theorem dcF_pre (ks : List Nd) (j : Nat) : dcF (ks.take j) <+: dcF ks := by
  unfold dcF
  exact (List.take_prefix j ks).filter _
set_option maxRecDepth 100000 in
set_option maxHeartbeats 4000000 in
theorem decls_stops (Bp : Nat) (ks : List Nd) (q : Value) (P : Nat → Prop) (w : World) (hl : ks.length ≤ 100000) (hc : w.cell? ⟨Bp, 4, none⟩ = some q) (hk : KsV w P q ks) (hok : ∀ x ∈ ks, x.ok) :
    SeqStopsK Fence.wide 4 Tryz.prog 104 #[.pointer (some ⟨Bp, 0, none⟩)] (fun x : DcX w P => #[dcV x.1]) (Below w.heap.size) (fun xs => xs.map (fun x => x.1.1) = dcF ks) (fun pre => pre.map (fun x => x.1.1) <+: dcF ks) ks.length w := fun l J Jx W hW hJa _ hY h0 => by
  obtain ⟨p, c, rfl, _, _, _⟩ := hk.form
  have HOK := hid hok
  clear hok
  have HJ := hid hJa
  have HY := hid hY
  have HK := hid hk
  have H0 := hid h0
  have HW := hid hW
  have hB := cell_lt hc
  have HC := hid hc
  obtain ⟨L, hL⟩ : ∃ L, ks.length = L := ⟨_, rfl⟩
  have HL := hid (And.intro hL hl)
  rw [hL] at hl
  have hc' : W.cell? ⟨Bp, 4, none⟩ = some (.slice p L c) := by rw [← hL]; exact (hW.cell (p := ⟨Bp, 4, none⟩) hB).trans hc
  clear hJa hY hk h0 hW hc hL
  refine callsIn_of_wp Tryz.func104 rfl trivial ?_ rfl
  simp only [Tryz.ntmps104, List.size_toArray, List.length_cons, List.length_nil, Nat.reduceAdd, Nat.reduceSub, Array.replicate_succ, Array.replicate_zero, List.push_toArray, List.append_toArray, List.nil_append, List.cons_append]
  gi_wp2
  gi_loopw [8] (fun i wr => ∃ (j : Nat) (pre : List (DcX w P)), j ≤ L ∧ i = .int .i64 j ∧ pre.map (fun x => x.1.1) = dcF (ks.take j) ∧ J pre wr ∧ Below w.heap.size w wr ∧ W.heap.size ≤ wr.heap.size) (fun i _ => L - (intOf i).toNat)
  case atStart => exact ⟨0, [], Nat.zero_le _, rfl, by rw [List.take_zero]; rfl, H0.out, HW.out, Nat.le_refl _⟩
  case round =>
    obtain ⟨j, pre, hj, rfl, hp, hJ, hb, hsz⟩ := hrel
    have j0 : (0 : Int) ≤ j := by omega
    by_cases hlt : j < L
    · have j1 : (j : Int) < L := by omega
      have hjk : j < ks.length := by rw [HL.out.1]; exact hlt
      have hws : w.heap.size ≤ wr.heap.size := hb.size
      have KR : KsV wr P (.slice p ks.length c) ks := HK.out.keptP (fun b _ hlt => hb.block b hlt) (fun _ h _ => h)
      obtain ⟨g', hpp, _, hat⟩ := KR.at j hjk
      subst hpp
      obtain ⟨qx, c0, c1, c2, c3, c4, hkx⟩ := hat.cells
      have KX0 : KsV w P qx (ks[j]).kids := by
        obtain ⟨g2, hpp2, _, hat2⟩ := HK.out.at j hjk
        injection hpp2 with hpp2
        injection hpp2 with hpp2
        subst hpp2
        obtain ⟨qy, _, _, _, _, d4, hky⟩ := hat2.cells
        have e4 := (hb.cell (p := ⟨_, 5 * j + 4, none⟩) (cell_lt d4)).trans d4
        rw [c4] at e4
        cases e4
        exact hky
      obtain ⟨px, cx, rfl, _, _, _⟩ := KX0.form
      rw [Nat.mul_comm 5 j] at c0 c1 c2 c3 c4
      have JA : Hid (∀ o, J pre (wr.alloc o)) := hid (fun o => HJ.out _ wr _ none hJ (World.grownBy_alloc wr o none) (fun r e => by cases e))
      have ht := dcF_take hjk
      have hpl : pre.length ≤ j := by
        have h1 : (pre.map (fun x => x.1.1)).length = pre.length := List.length_map _
        rw [hp] at h1
        have := dcF_len ks j
        omega
      clear hat hkx KR
      have HP := hid hp
      have HT := hid ht
      have HPre := hid (dcF_pre ks (j + 1))
      have HYx : Hid (∀ W1, J pre W1 → YieldAt Fence.wide (4 - 1) Tryz.prog l #[dcV (ks[j], .slice px (ks[j]).kids.length cx)] W1 fun e W' => (e = .returned (.bool true) ∧ J (pre ++ [⟨(ks[j], .slice px (ks[j]).kids.length cx), KX0, HOK.out _ (List.getElem_mem hjk)⟩]) W' ∧ Below w.heap.size W1 W') ∨ (e = .returned (.bool false) ∧ Jx (pre ++ [⟨(ks[j], .slice px (ks[j]).kids.length cx), KX0, HOK.out _ (List.getElem_mem hjk)⟩]) W')) := hid (fun W1 h1 => HY.out pre ⟨(ks[j], .slice px (ks[j]).kids.length cx), KX0, HOK.out _ (List.getElem_mem hjk)⟩ W1 h1 (by omega))
      have HB := hid hb
      have HJ2 := hid hJ
      clear hJ hb hp ht HY
      obtain ⟨kd, hkd⟩ : ∃ kd, (ks[j]).kind = kd := ⟨_, rfl⟩
      rw [hkd] at c0
      have C105 : Hid (∀ W, Calls Tryz.prog 105 #[.int .i64 kd] W fun e w' => e = .returned (.bool (decK kd)) ∧ w' = W) := hid (fun W => isdecl_any kd W)
      by_cases hd : decK kd = true
      · rw [hd] at C105
        obtain ⟨fn, tmps, assign, body, hy, hR⟩ := HYx.out _ (JA.out (.cells #[.int .i64 kd, .int .i64 (ks[j]).ty, .string (ks[j]).txt, .int .i64 (ks[j]).num, .slice px (ks[j]).kids.length cx] 27))
        simp only [dcV, hkd] at hy
        gi_wp2_with ((refine ⟨trivial, ?_⟩; gi_at_call 105; refine (callsIn_wide.2 (C105.out _)).mono ?_; rintro e w4 ⟨rfl, rfl⟩))
        refine hR.mono ?_
        rintro e W3 (⟨rfl, hJ3, hb3⟩ | ⟨rfl, hJx3⟩)
        · gi_wp2
          go_roundw
          case rel => exact ⟨j + 1, _, by omega, by go_num, by rw [List.map_append, HP.out, HT.out, hkd, if_pos hd]; rfl, hJ3, (HB.out.alloc hws _).trans hb3, Nat.le_trans (by simp; omega) hb3.size⟩
          case measure => simp [intOf]; omega
        · gi_wp2
          refine bodyPost_ret (results_none rfl _ _ _) rfl ?_
          exact ⟨⟨_, rfl⟩, Or.inr ⟨_, by have h := HPre.out; rw [HT.out, hkd, if_pos hd] at h; rw [List.map_append, HP.out]; exact h, hJx3⟩⟩
      · have hd' : decK kd = false := by simpa using hd
        rw [hd'] at C105
        gi_wp2_with ((refine ⟨trivial, ?_⟩; gi_at_call 105; refine (callsIn_wide.2 (C105.out _)).mono ?_; rintro e w4 ⟨rfl, rfl⟩))
        refine ⟨fun _ h => (by cases h), ?_⟩
        gi_wp2
        go_roundw
        case rel => exact ⟨j + 1, pre, by omega, by go_num, by rw [HT.out, hkd, if_neg hd]; exact HP.out, JA.out _, HB.out.alloc hws _, Nat.le_trans hsz (by simp)⟩
        case measure => simp [intOf]; omega
    · obtain rfl : j = L := by omega
      have hn : ¬ ((j : Int) < j) := by omega
      gi_wp2
      go_end0
      exact ⟨⟨_, rfl⟩, Or.inl ⟨pre, by rw [hp, ← HL.out.1, List.take_length], hJ⟩⟩
end Ip
end Go.Proofs.YtajoncmmdeahnaaGreatDoor
namespace Go.Proofs.YtajoncmmdeahnaaGreatDoor
open Go.RowKit Go.Maps Go.Shelf
attribute [local go_sem] Oper.semAt_some
namespace Ip
theorem txt_eq (a b : ByteArray) : (a.toList == b.toList) = (a.data.toList == b.data.toList) := by rw [ByteArray.toList_eq, ByteArray.toList_eq]
theorem below_grown {a b c : World} {B : Nat} (h : a.grownBy b none) (k : Below B b c) (hB : a.heap.size ≤ B) : a.grownBy c none :=
  ⟨k.os.trans h.os, k.tape.trans h.tape, k.output.trans h.output, Nat.le_trans h.size k.size, fun i hi _ => (k.block i (Nat.lt_of_lt_of_le hi hB)).trans (h.block i hi (by simp))⟩
def findM (ks : List Nd) (s : ByteArray) : Option Nd := (dcF ks).find? fun x => x.txt.data.toList == s.data.toList
def zNd : Value := .agg #[.int .i64 0, .int .i64 0, .string ⟨#[]⟩, .int .i64 0, .slice none 0 0]
def FnP (w : World) (r : Option Nd) (e : Ending) (w' : World) : Prop := w.grownBy w' none ∧ match r with
  | none => e = .returned (.tuple #[zNd, .bool false])
  | some x => ∃ p c, e = .returned (.tuple #[dcV (x, .slice p x.kids.length c), .bool true])
def FnAx (b Bp : Nat) (v vn : Value) {w : World} {P : Nat → Prop} (x : DcX w P) (a' : Act) (W : World) : Prop :=
  ∃ Bx, b ≤ Bx ∧ Blk W Bx 27 #[.int .i64 x.1.1.kind, .int .i64 x.1.1.ty, .string x.1.1.txt, .int .i64 x.1.1.num, x.1.2] ∧ a' = { tmps := #[v, vn, .pointer (some ⟨b, 0, none⟩), .pointer (some ⟨b + 1, 0, none⟩), .pointer (some ⟨b + 1 + 1, 0, none⟩), .pointer (some ⟨b + 1 + 1 + 1, 0, none⟩), .pointer (some ⟨Bx, 0, none⟩), v, .func (.func 104) #[] #[.pointer (some ⟨Bp, 0, none⟩)], dcV x.1, undef, undef, undef, undef, undef, undef, undef], defers := [] }
theorem sz27 : (Tryz.prog.info? 27).map (·.size) = some 5 := by kernel_rfl
theorem results_31 (tmps : Array Value) (W : World) (b2 b3 : Nat) (cs : Array Value) (x : Bool) (h4 : tmps.getD 4 undef = .pointer (some ⟨b2, 0, none⟩)) (h5 : tmps.getD 5 undef = .pointer (some ⟨b3, 0, none⟩)) (hs : cs.size = 5) (hB : Blk W b2 27 cs) (hT : Blk W b3 4 #[.bool x]) :
    (results Tryz.f31 tmps).run Tryz.prog W = .ok (.tuple #[.agg cs, .bool x]) W := by
  have h4' : tmps[4]?.getD undef = .pointer (some ⟨b2, 0, none⟩) := by simpa using h4
  have h5' : tmps[5]?.getD undef = .pointer (some ⟨b3, 0, none⟩) := by simpa using h5
  have hl := run_loadVar_row (P := Tryz.prog) W b2 27 27 cs (0, 0) _ hB Tryz.underlying27 rfl (sz27.trans (by rw [hs]))
  have hc : W.cell? ⟨b3, 0, none⟩ = some (.bool x) := by rw [hT.cell]; rfl
  have hagg : (isAgg 4).run Tryz.prog W = .ok false W := by
    unfold isAgg
    rw [Sem.run_bind, run_underlying Tryz.underlying4 W]
    rfl
  have hl2 : (loadVar 4 ⟨b3, 0, none⟩).run Tryz.prog W = .ok (.bool x) W := by
    simp [loadVar, Sem.run_bind, hagg, run_load, hc]
  simp [results, Tryz.results31, h4', h5', asAddr, hl, hl2]
set_option maxRecDepth 100000 in
set_option maxHeartbeats 4000000 in
theorem find_any (P : Nat → Prop) (k t : Int) (s : ByteArray) (n : Int) (ks : List Nd) (q : Value) (name : ByteArray) (w : World) (hok : (Nd.mk k t s n ks).ok) (hk : KsV w P q ks) :
    Calls Tryz.prog 31 #[.agg #[.int .i64 k, .int .i64 t, .string s, .int .i64 n, q], .string name] w (FnP w (findM ks name)) := by
  obtain ⟨p, c, rfl, _, _, _⟩ := hk.form
  have hl := hok.2.1
  have HK := hid hk
  have HO := hid hok
  clear hk hok
  refine (callsIn_wide (n := 5)).1 ?_
  refine callsIn_of_wp_marks Tryz.func31 rfl trivial ?_ rfl
  simp only [Tryz.ntmps31, List.size_toArray, List.length_cons, List.length_nil, Nat.reduceAdd, Nat.reduceSub, Array.replicate_succ, Array.replicate_zero, List.push_toArray, List.append_toArray, List.nil_append, List.cons_append]
  refine wpIn_wide.2 ?_
  go_wp2_with (go_at_call 57; refine (decls_mk k t s n (.slice p ks.length c) _).mono ?_; rintro e w5 ⟨rfl, hw5⟩; have hw6 := hw5.symm; clear hw5; subst hw6)
  have N5 := (((Blk.new (w.alloc (.cells #[.int .i64 k, .int .i64 t, .string s, .int .i64 n, .slice p ks.length c] 27)) 9 #[.string name]).alloc (.cells #[.int .i64 0, .int .i64 0, .string ⟨#[]⟩, .int .i64 0, .slice none 0 0] 27)).alloc (.cells #[.bool false] 4)).alloc (.cells #[.int .i64 k, .int .i64 t, .string s, .int .i64 n, .slice p ks.length c] 27)
  have R5 := ((Blk.new ((w.alloc (.cells #[.int .i64 k, .int .i64 t, .string s, .int .i64 n, .slice p ks.length c] 27)).alloc (.cells #[.string name] 9)) 27 #[.int .i64 0, .int .i64 0, .string ⟨#[]⟩, .int .i64 0, .slice none 0 0]).alloc (.cells #[.bool false] 4)).alloc (.cells #[.int .i64 k, .int .i64 t, .string s, .int .i64 n, .slice p ks.length c] 27)
  have T5 := (Blk.new (((w.alloc (.cells #[.int .i64 k, .int .i64 t, .string s, .int .i64 n, .slice p ks.length c] 27)).alloc (.cells #[.string name] 9)).alloc (.cells #[.int .i64 0, .int .i64 0, .string ⟨#[]⟩, .int .i64 0, .slice none 0 0] 27)) 4 #[.bool false]).alloc (.cells #[.int .i64 k, .int .i64 t, .string s, .int .i64 n, .slice p ks.length c] 27)
  have D5 := Blk.new ((((w.alloc (.cells #[.int .i64 k, .int .i64 t, .string s, .int .i64 n, .slice p ks.length c] 27)).alloc (.cells #[.string name] 9)).alloc (.cells #[.int .i64 0, .int .i64 0, .string ⟨#[]⟩, .int .i64 0, .slice none 0 0] 27)).alloc (.cells #[.bool false] 4)) 27 #[.int .i64 k, .int .i64 t, .string s, .int .i64 n, .slice p ks.length c]
  have G5 := grown_alloc (grown_alloc (grown_alloc (grown_alloc (grown_alloc (grown_refl w none) (.cells #[.int .i64 k, .int .i64 t, .string s, .int .i64 n, .slice p ks.length c] 27)) (.cells #[.string name] 9)) (.cells #[.int .i64 0, .int .i64 0, .string ⟨#[]⟩, .int .i64 0, .slice none 0 0] 27)) (.cells #[.bool false] 4)) (.cells #[.int .i64 k, .int .i64 t, .string s, .int .i64 n, .slice p ks.length c] 27)
  have S5 : (((((w.alloc (.cells #[.int .i64 k, .int .i64 t, .string s, .int .i64 n, .slice p ks.length c] 27)).alloc (.cells #[.string name] 9)).alloc (.cells #[.int .i64 0, .int .i64 0, .string ⟨#[]⟩, .int .i64 0, .slice none 0 0] 27)).alloc (.cells #[.bool false] 4)).alloc (.cells #[.int .i64 k, .int .i64 t, .string s, .int .i64 n, .slice p ks.length c] 27)).heap.size = w.heap.size + 5 := by simp
  simp only [World.size_alloc] at N5 R5 T5 D5
  generalize ((((w.alloc (.cells #[.int .i64 k, .int .i64 t, .string s, .int .i64 n, .slice p ks.length c] 27)).alloc (.cells #[.string name] 9)).alloc (.cells #[.int .i64 0, .int .i64 0, .string ⟨#[]⟩, .int .i64 0, .slice none 0 0] 27)).alloc (.cells #[.bool false] 4)).alloc (.cells #[.int .i64 k, .int .i64 t, .string s, .int .i64 n, .slice p ks.length c] 27) = w5 at *
  have K5 : KsV w5 P (.slice p ks.length c) ks := HK.out.kept G5
  refine (wpIn_wide (n := 5)).1 ?_
  refine wpIn_rangeFunc_ownH rfl (by decide) (gf := 104) (lb := #[.pointer (some ⟨w.heap.size + 1 + 1 + 1 + 1, 0, none⟩)]) rfl trivial (enters_of Tryz.func104 (by kernel_rfl) rfl)
    (decls_stops (w.heap.size + 1 + 1 + 1 + 1) ks (.slice p ks.length c) P w5 (by omega) (by rw [D5.cell]; rfl) K5 (Nd.oks_mem HO.out.2.2))
    (fun h k => h.trans k) (fun W l o o' hl ho hc hw => belowK_b (w := w5) (Nat.le_refl _) W l o o' hl ho hc hw) (Below.refl _ _) (fun _ => rfl)
    (fun pre W => Below w5.heap.size w5 W ∧ ∀ x ∈ pre, (x.1.1.txt.data.toList == name.data.toList) = false)
    (fun cd pre W => cd = .ret ∧ w.grownBy W none ∧ ∃ (pr : List (DcX w5 P)) (x : DcX w5 P) (p' : Option Addr) (c' : Nat), pre = pr ++ [x] ∧ (∀ y ∈ pr, (y.1.1.txt.data.toList == name.data.toList) = false) ∧ (x.1.1.txt.data.toList == name.data.toList) = true ∧ Blk W (w.heap.size + 1 + 1) 27 #[.int .i64 x.1.1.kind, .int .i64 x.1.1.ty, .string x.1.1.txt, .int .i64 x.1.1.num, .slice p' x.1.1.kids.length c'] ∧ Blk W (w.heap.size + 1 + 1 + 1) 4 #[.bool true])
    (OwnFrom.and (ownFrom_below (Nat.le_refl _) (Nat.le_refl _)) (ownFrom_pure _ _)) (fun cd => ?hIx) ⟨Below.refl _ _, by simp⟩
    (FnAx w.heap.size (w.heap.size + 1 + 1 + 1 + 1) (.agg #[.int .i64 k, .int .i64 t, .string s, .int .i64 n, .slice p ks.length c]) (.string name)) (fun x a' => ?hAx) ?assign ?body ?done ?stop
  case hIx =>
    rintro pre W W' row ⟨h1, h2, pr, x, p', c', e1, e2, e3, e4, e5⟩ hg hr
    have hlo : ∀ r, row = some r → w.heap.size + 5 ≤ r := fun r e => by have := (hr r e).1; omega
    exact ⟨h1, grown_ob' h2 hg (fun r e => by have := hlo r e; omega), pr, x, p', c', e1, e2, e3, e4.kept hg (fun e => by have := hlo _ e.symm; omega), e5.kept hg (fun e => by have := hlo _ e.symm; omega)⟩
  case hAx =>
    rintro _ W W' row ⟨Bx, h0, h1, h2⟩ hg hr
    exact ⟨Bx, h0, h1.kept hg (fun e => by
      obtain ⟨o, ho, hc⟩ := (hr Bx e.symm).2
      have h' : W.heap[Bx]? = some (.cells _ 27 (0, 0)) := h1
      rw [h'] at ho
      cases ho
      cases hc), h2⟩
  case assign =>
    rintro l pre ⟨⟨x, q'⟩, hx0, hox0⟩ W K ⟨i1, i2⟩ hK
    have hx : KsV w5 P q' x.kids := hx0
    have hox : x.ok := hox0
    obtain ⟨px, cx, rfl, _, _, _⟩ := hx.form
    simp only [dcV]
    gi_wp2
    exact hK _ _ ((KeepsOthers.alloc _ _).from _) ((Below.refl _ W).alloc i1.size _) ⟨i1.alloc i1.size _, i2⟩ ⟨W.heap.size, by have := i1.size; omega, Blk.new _ _ _, rfl⟩
  case body =>
    rintro l pre ⟨⟨x, q'⟩, hx0, hox0⟩ a' W hl ⟨r, hr⟩ ⟨i1, i2⟩ ⟨Bx, hBx, hbx, rfl⟩ hlt
    have hx : KsV w5 P q' x.kids := hx0
    have hox : x.ok := hox0
    obtain ⟨px, cx, rfl, _, _, _⟩ := hx.form
    have n1 : W.cell? ⟨w.heap.size + 1, 0, none⟩ = some (.string name) := (i1.cell (p := ⟨w.heap.size + 1, 0, none⟩) (by show w.heap.size + 1 < _; omega)).trans (by rw [N5.cell]; rfl)
    have x0 : W.cell? ⟨Bx, 0, none⟩ = some (.int .i64 x.kind) := by rw [hbx.cell]; rfl
    have x1 : W.cell? ⟨Bx, 1, none⟩ = some (.int .i64 x.ty) := by rw [hbx.cell]; rfl
    have x2 : W.cell? ⟨Bx, 2, none⟩ = some (.string x.txt) := by rw [hbx.cell]; rfl
    have x3 : W.cell? ⟨Bx, 3, none⟩ = some (.int .i64 x.num) := by rw [hbx.cell]; rfl
    have x4 : W.cell? ⟨Bx, 4, none⟩ = some (.slice px x.kids.length cx) := by rw [hbx.cell]; rfl
    have HX : Hid (NdV W P (dcV (x, .slice px x.kids.length cx)) x) := hid ⟨_, rfl, hx.keptP (fun b _ hlt => i1.block b hlt) (fun _ h _ => h)⟩
    have CL := hid (cloneI_any P x hox _ W HX.out)
    have I1 := hid i1
    have RW : Hid (Blk W (w.heap.size + 1 + 1) 27 #[.int .i64 0, .int .i64 0, .string ⟨#[]⟩, .int .i64 0, .slice none 0 0]) := hid ((i1.block _ (by omega)).trans R5)
    have TW : Hid (Blk W (w.heap.size + 1 + 1 + 1) 4 #[.bool false]) := hid ((i1.block _ (by omega)).trans T5)
    clear hbx i1 hr
    simp only [dcV] at CL ⊢
    have hb := txt_eq x.txt name
    by_cases he : (x.txt.data.toList == name.data.toList) = true
    · rw [he] at hb
      gi_wp2_with (refine ⟨trivial, ?_⟩; gi_at_call 23; refine (CallsIn.inRound l (callsIn_wide.2 CL.out)).mono ?_; rintro e w6 ⟨q6, rfl, hq6, hg6⟩; obtain ⟨p6, c6, rfl, _, _, _⟩ := (hq6.ks (P := fun _ => True) (fun _ _ _ => trivial)).form; have G6 := hid hg6; have R6 := hid (RW.out.kept hg6 (by simp)); have T6 := hid (TW.out.kept hg6 (by simp)); have r0 := R6.out.cell 0; have r1 := R6.out.cell 1; have r2 := R6.out.cell 2; have r3 := R6.out.cell 3; have r4 := R6.out.cell 4; have f0 := R6.out.frozen 0; have f1 := R6.out.frozen 1; have f2 := R6.out.frozen 2; have f3 := R6.out.frozen 3; have f4 := R6.out.frozen 4; have t0 := T6.out.cell 0; have g0 := T6.out.frozen 0; simp at r0 r1 r2 r3 r4 t0; clear hg6 hq6)
      have GA := grown_set (grown_set (grown_set (grown_set (grown_set (grown_refl w6 (some (w.heap.size + 1 + 1))) 0 (.int .i64 x.kind)) 1 (.int .i64 x.ty)) 2 (.string x.txt)) 3 (.int .i64 x.num)) 4 (.slice p6 x.kids.length c6)
      have BA := ((((R6.out.set 0 (.int .i64 x.kind)).set 1 (.int .i64 x.ty)).set 2 (.string x.txt)).set 3 (.int .i64 x.num)).set 4 (.slice p6 x.kids.length c6)
      have TA := T6.out.kept GA (by simp)
      have GW := grown_none (below_grown G5 I1.out (by omega)) G6.out
      have l2 : w.heap.size ≤ w.heap.size + 1 + 1 := by omega
      have l3 : w.heap.size ≤ w.heap.size + 1 + 1 + 1 := by omega
      exact ⟨((KeepsFrom.of_grownBy G6.out (fun j e => by cases e)).trans (KeepsFrom.of_grownBy GA (fun j e => by cases e; omega))).trans ((KeepsOthers.setCell _ _ _).from _), rfl,
        grown_set_new (grown_set_new (grown_set_new (grown_set_new (grown_set_new (grown_set_new GW _ l2) _ l2) _ l2) _ l2) _ l2) _ l3, pre, _, _, _, rfl, i2, he, BA.other _ (show w.heap.size + 1 + 1 ≠ w.heap.size + 1 + 1 + 1 by omega), TA.set 0 (.bool true)⟩
    · have he' : (x.txt.data.toList == name.data.toList) = false := by simpa using he
      rw [he'] at hb
      gi_wp2
      exact ⟨KeepsFrom.refl _ _, Below.refl _ _, I1.out, fun y hy => by
        rcases List.mem_append.1 hy with h | h
        · exact i2 y h
        · rw [List.mem_singleton.1 h]; exact he'⟩
  case done =>
    rintro D xs W hD hS ⟨i1, i2⟩ hK
    have hnone : findM ks name = none := by
      unfold findM
      rw [← hS, List.find?_eq_none]
      intro x hx
      obtain ⟨y, hy, rfl⟩ := List.mem_map.1 hx
      simp only [i2 y hy]
      decide
    have RW : Blk W (w.heap.size + 1 + 1) 27 #[.int .i64 0, .int .i64 0, .string ⟨#[]⟩, .int .i64 0, .slice none 0 0] := (i1.block _ (by omega)).trans R5
    have TW : Blk W (w.heap.size + 1 + 1 + 1) 4 #[.bool false] := (i1.block _ (by omega)).trans T5
    have r0 := RW.cell 0
    have r1 := RW.cell 1
    have r2 := RW.cell 2
    have r3 := RW.cell 3
    have r4 := RW.cell 4
    have f0 := RW.frozen 0
    have f1 := RW.frozen 1
    have f2 := RW.frozen 2
    have f3 := RW.frozen 3
    have f4 := RW.frozen 4
    have t0 := TW.cell 0
    have g0 := TW.frozen 0
    simp at r0 r1 r2 r3 r4 t0
    have ne32 : w.heap.size + 1 + 1 + 1 ≠ w.heap.size + 1 + 1 := by omega
    have I1 := hid i1
    have KD := hid hK
    have R1 := hid RW
    have T1 := hid TW
    clear i1 hK RW TW
    go_wp2_with fail
    have R2 := (((((R1.out.set 0 (.int .i64 0)).set 1 (.int .i64 0)).set 2 (.string ⟨#[]⟩)).set 3 (.int .i64 0)).set 4 (.slice none 0 0)).other (a := ⟨w.heap.size + 1 + 1 + 1, 0, none⟩) (.bool false) (show w.heap.size + 1 + 1 ≠ w.heap.size + 1 + 1 + 1 by omega)
    have T2 := (((((T1.out.other (a := ⟨w.heap.size + 1 + 1, 0, none⟩) (.int .i64 0) ne32).other (a := ⟨w.heap.size + 1 + 1, 1, none⟩) (.int .i64 0) ne32).other (a := ⟨w.heap.size + 1 + 1, 2, none⟩) (.string ⟨#[]⟩) ne32).other (a := ⟨w.heap.size + 1 + 1, 3, none⟩) (.int .i64 0) ne32).other (a := ⟨w.heap.size + 1 + 1, 4, none⟩) (.slice none 0 0) ne32).set 0 (.bool false)
    have GW := below_grown G5 I1.out (by omega)
    have l2 : w.heap.size ≤ w.heap.size + 1 + 1 := by omega
    have l3 : w.heap.size ≤ w.heap.size + 1 + 1 + 1 := by omega
    have G2 := grown_set_new (a := ⟨w.heap.size + 1 + 1 + 1, 0, none⟩) (grown_set_new (a := ⟨w.heap.size + 1 + 1, 4, none⟩) (grown_set_new (a := ⟨w.heap.size + 1 + 1, 3, none⟩) (grown_set_new (a := ⟨w.heap.size + 1 + 1, 2, none⟩) (grown_set_new (a := ⟨w.heap.size + 1 + 1, 1, none⟩) (grown_set_new (a := ⟨w.heap.size + 1 + 1, 0, none⟩) GW (.int .i64 0) l2) (.int .i64 0) l2) (.string ⟨#[]⟩) l2) (.int .i64 0) l2) (.slice none 0 0) l2) (.bool false) l3
    have d2 : D ≠ w.heap.size + 1 + 1 := by omega
    have d3 : D ≠ w.heap.size + 1 + 1 + 1 := by omega
    have hK2 := ((heap_setCell_other _ ⟨w.heap.size + 1 + 1 + 1, 0, none⟩ D (.bool false) d3).trans ((heap_setCell_other _ ⟨w.heap.size + 1 + 1, 4, none⟩ D (.slice none 0 0) d2).trans ((heap_setCell_other _ ⟨w.heap.size + 1 + 1, 3, none⟩ D (.int .i64 0) d2).trans ((heap_setCell_other _ ⟨w.heap.size + 1 + 1, 2, none⟩ D (.string ⟨#[]⟩) d2).trans ((heap_setCell_other _ ⟨w.heap.size + 1 + 1, 1, none⟩ D (.int .i64 0) d2).trans (heap_setCell_other W ⟨w.heap.size + 1 + 1, 0, none⟩ D (.int .i64 0) d2)))))).trans KD.out
    refine ⟨by simp, .inl ⟨_, _, rfl, run_takeDeferred hK2, ?_⟩⟩
    refine ⟨_, results_31 _ _ (w.heap.size + 1 + 1) (w.heap.size + 1 + 1 + 1) _ false rfl rfl rfl (R2.kept (grownBy_putObj' _ D (.deferred none)) (by simp; omega)) (T2.kept (grownBy_putObj' _ D (.deferred none)) (by simp; omega)), ?_, by rw [hnone]; rfl⟩
    exact grown_ob' G2 (grownBy_putObj' _ D (.deferred none)) (fun r e => by cases e; omega)
  case stop =>
    rintro D cd pre W hD hS ⟨rfl, gW, pr, x, p', c', rfl, e2, e3, e4, e5⟩ hK
    have hsome : findM ks name = some x.1.1 := by
      unfold findM
      obtain ⟨tl, htl⟩ := hS
      rw [← htl, List.map_append, List.map_cons, List.map_nil, List.append_assoc, List.find?_append]
      have h1 : (pr.map (fun x : DcX w5 P => x.1.1)).find? (fun x => x.txt.data.toList == name.data.toList) = none := by
        rw [List.find?_eq_none]
        intro z hz
        obtain ⟨y, hy, rfl⟩ := List.mem_map.1 hz
        simp only [e2 y hy]
        decide
      rw [h1, List.singleton_append, List.find?_cons, e3]
      rfl
    rw [hsome]
    gi_wp2
    refine ⟨by simp, .inl ⟨_, _, rfl, run_takeDeferred hK, ?_⟩⟩
    have gD := grownBy_putObj' W D (.deferred none)
    refine ⟨_, results_31 _ _ (w.heap.size + 1 + 1) (w.heap.size + 1 + 1 + 1) _ true rfl rfl rfl (e4.kept gD (by simp; omega)) (e5.kept gD (by simp; omega)), ?_, p', c', rfl⟩
    exact grown_ob' gW gD (fun r e => by cases e; omega)
end Ip
end Go.Proofs.YtajoncmmdeahnaaGreatDoor
