/-
  visit: all nodes of a tree where they stand, each with its place. spots, as an iterator that is ranged over; Count. Count: how many nodes a tree has.
-/
import Derived.RangeFuncNested
import Derived.RangeFuncBound
import Derived.RangeFuncCalls
import Derived.RangeFuncLeaves
import Derived.Shelf.Abstract
import Derived.Shelf.RegionOpen
import Derived.WalkKit
import Derived.OwnWalkIn
import Derived.TacticsInMore
import Derived.LoopNIn
import Derived.LoopIn
import Derived.Test.YtajoncmmdeahnaaGreatDoorKPb
namespace Go.Proofs.YtajoncmmdeahnaaGreatDoor.An
open Go.RowKit Go.Maps Go.Shelf
attribute [local go_sem] Oper.semAt_some
theorem room_wide (k : Nat) : Fence.wide.room k := fun d h => by cases h
theorem RoundIn.anyD {m m' : Nat} {P : Program} {l : Nat} {f : FuncId} {tmps : Array Value} {assign body : Code} {w : World} {R : Ending → World → Prop}
    (h : RoundIn Fence.wide m P l f tmps assign body w R) : RoundIn Fence.wide m' P l f tmps assign body w R := ⟨h.1, fun c cs _ => h.2 c cs (room_wide _)⟩
theorem YieldAt.anyD {m : Nat} (m' : Nat) {P : Program} {l : Nat} {args : Array Value} {W : World} {R : Ending → World → Prop} (h : YieldAt Fence.wide m P l args W R) : YieldAt Fence.wide m' P l args W R := by
  obtain ⟨fn, tmps, assign, body, hy, hR⟩ := h
  exact ⟨fn, tmps, assign, body, hy, RoundIn.anyD hR⟩
structure Sp where
  g : Nat
  o : Nat
  x : Nd
def kidB (w : World) (g o : Nat) : Nat := match w.cell? ⟨g, o + 4, none⟩ with
  | some (.slice (some a) _ _) => a.block
  | _ => 0
mutual
def spN (w : World) (g o : Nat) : Nd → List Sp
  | .mk k t s n ks => ⟨g, o, .mk k t s n ks⟩ :: spL w (kidB w g o) 0 ks
def spL (w : World) (g o : Nat) : List Nd → List Sp
  | [] => []
  | x :: r => spN w g o x ++ spL w g (o + 5) r
end
mutual
theorem spN_all (w : World) : ∀ (g o : Nat) (x : Nd), (spN w g o x).map Sp.x = x.all
  | g, o, .mk k t s n ks => by rw [spN, Nd.all, List.map_cons, spL_all w _ _ ks]
theorem spL_all (w : World) : ∀ (g o : Nat) (l : List Nd), (spL w g o l).map Sp.x = Nd.alls l
  | _, _, [] => rfl
  | g, o, x :: r => by rw [spL, Nd.alls, List.map_append, spN_all w g o x, spL_all w g (o + 5) r]
end
theorem spN_len (w : World) (g o : Nat) (x : Nd) : (spN w g o x).length = x.cnt := by rw [← List.length_map (f := Sp.x), spN_all, Nd.all_len]
theorem spL_len (w : World) (g o : Nat) (l : List Nd) : (spL w g o l).length = Nd.cnts l := by rw [← List.length_map (f := Sp.x), spL_all, Nd.alls_len]
theorem spL_append (w : World) (g : Nat) : ∀ (a b : List Nd) (o : Nat), spL w g o (a ++ b) = spL w g o a ++ spL w g (o + 5 * a.length) b
  | [], b, o => by simp [spL]
  | x :: r, b, o => by
    rw [List.cons_append, spL, spL, spL_append w g r b (o + 5), List.append_assoc, List.length_cons, show o + 5 + 5 * r.length = o + 5 * (r.length + 1) by omega]
theorem kid_row {w : World} {P : Nat → Prop} {g o : Nat} {x : Nd} (h : NdAt w P g o x) (h0 : 0 < x.kids.length) : RowN w P (kidB w g o) 0 x.kids ∧ P (kidB w g o) := by
  obtain ⟨q, _, _, _, _, c4, g', hq, hr⟩ := h.cells
  rcases hq with ⟨_, hq⟩ | ⟨_, hp, cap, rfl, _⟩
  · omega
  · have e : kidB w g o = g' := by unfold kidB; rw [c4]
    rw [e]
    exact ⟨hr, hp⟩
mutual
theorem spN_at {w : World} {P : Nat → Prop} : ∀ {g o : Nat} {x : Nd}, NdAt w P g o x → P g → ∀ s ∈ spN w g o x, NdAt w P s.g s.o s.x ∧ P s.g
  | g, o, .mk k t s n ks, h, hp, y, hy => by
    rw [spN] at hy
    rcases List.mem_cons.1 hy with rfl | hy
    · exact ⟨h, hp⟩
    · by_cases h0 : 0 < ks.length
      · obtain ⟨h1, h2⟩ := kid_row h h0
        exact spL_at h1 h2 y hy
      · obtain rfl : ks = [] := List.length_eq_zero_iff.1 (by omega)
        rw [spL] at hy
        cases hy
theorem spL_at {w : World} {P : Nat → Prop} : ∀ {g o : Nat} {l : List Nd}, RowN w P g o l → P g → ∀ s ∈ spL w g o l, NdAt w P s.g s.o s.x ∧ P s.g
  | _, _, [], _, _, _, hy => by rw [spL] at hy; cases hy
  | g, o, x :: r, h, hp, y, hy => by
    rw [RowN] at h
    rw [spL] at hy
    rcases List.mem_append.1 hy with hy | hy
    · exact spN_at h.1 hp y hy
    · exact spL_at h.2 hp y hy
end
def KQ (P : Nat → Prop) (W W' : World) : Prop := ∀ b, P b → W'.heap[b]? = W.heap[b]?
theorem KQ.refl (P : Nat → Prop) (W : World) : KQ P W W := fun _ _ => rfl
theorem KQ.trans {P : Nat → Prop} {a b c : World} (h : KQ P a b) (k : KQ P b c) : KQ P a c := fun i hi => (k i hi).trans (h i hi)
def fr (n k : Nat) : List (Fin n) := (List.finRange n).take k
theorem fr_len (n k : Nat) (h : k ≤ n) : (fr n k).length = k := by
  unfold fr
  rw [List.length_take, List.length_finRange]
  omega
theorem fr_succ (n k : Nat) (h : k < n) : fr n (k + 1) = fr n k ++ [⟨k, h⟩] := by
  unfold fr
  rw [List.take_succ_eq_append_getElem (by rw [List.length_finRange]; exact h)]
  simp
theorem fr_all (n : Nat) : fr n n = List.finRange n := by
  unfold fr
  rw [List.take_of_length_le (by simp)]
def VisP (P : Nat → Prop) (n a c : Nat) (J Jx : List (Fin n) → World → Prop) (W : World) (e : Ending) (W' : World) : Prop :=
  (e = .returned (.tuple #[.int .i64 ((a + c : Nat) : Int), .bool true]) ∧ J (fr n (a + c)) W' ∧ KQ P W W') ∨ (e = .returned (.tuple #[.int .i64 0, .bool false]) ∧ ∃ q, Jx q W')
set_option maxRecDepth 100000 in
set_option maxHeartbeats 2000000 in
theorem visit_step (l : Nat) (P : Nat → Prop) (w0 : World) (sp : List Sp) (hN : sp.length ≤ 100000) (J Jx : List (Fin sp.length) → World → Prop)
    (hY : ∀ m pre (i : Fin sp.length) W, J pre W → pre.length < sp.length → YieldAt Fence.wide m Tryz.prog l #[.int .i64 i.val, .pointer (some ⟨(sp[i.val]).g, (sp[i.val]).o, none⟩)] W fun e W' => (e = .returned (.bool true) ∧ J (pre ++ [i]) W' ∧ KQ P W W') ∨ (e = .returned (.bool false) ∧ Jx (pre ++ [i]) W'))
    (x : Nd) (hok : x.ok) (a g o : Nat) (hat : NdAt w0 P g o x) (hg : P g) (hseg : ∀ i, i < x.cnt → sp[a + i]? = (spN w0 g o x)[i]?) (hlen : a + x.cnt ≤ sp.length) (n : Nat) (W : World) (hW : KQ P w0 W) (hJ : J (fr sp.length a) W)
    (ih : ∀ j, (hj : j < x.kids.length) → ∀ (W1 : World), KQ P w0 W1 → J (fr sp.length (a + 1 + Nd.cnts (x.kids.take j))) W1 → CallsIn Fence.wide (n - 1) Tryz.prog 45 #[.pointer (some ⟨kidB w0 g o, j * 5, none⟩), .int .i64 ((a + 1 + Nd.cnts (x.kids.take j) : Nat) : Int), .func (.yield l) #[] #[]] W1 (VisP P sp.length (a + 1 + Nd.cnts (x.kids.take j)) (x.kids[j]).cnt J Jx W1)) :
    CallsIn Fence.wide n Tryz.prog 45 #[.pointer (some ⟨g, o, none⟩), .int .i64 a, .func (.yield l) #[] #[]] W (VisP P sp.length a x.cnt J Jx W) := by
  have hc1 : 0 < x.cnt := by cases x with | mk k t s n ks => rw [Nd.cnt]; omega
  have hx : x.cnt = 1 + Nd.cnts x.kids := by cases x with | mk k t s n ks => rw [Nd.cnt]; rfl
  have ha : a < sp.length := by omega
  have hsp : sp[a] = ⟨g, o, x⟩ := by
    have h1 := hseg 0 hc1
    rw [Nat.add_zero, List.getElem?_eq_getElem ha] at h1
    cases x with
    | mk k t s n ks =>
      rw [spN] at h1
      exact Option.some.inj h1
  have hY1 : YieldAt Fence.wide (n - 1) Tryz.prog l #[.int .i64 a, .pointer (some ⟨g, o, none⟩)] W fun e W' => (e = .returned (.bool true) ∧ J (fr sp.length (a + 1)) W' ∧ KQ P W W') ∨ (e = .returned (.bool false) ∧ Jx (fr sp.length (a + 1)) W') := by
    have h2 := hY (n - 1) (fr sp.length a) ⟨a, ha⟩ W hJ (by rw [fr_len _ _ (by omega)]; exact ha)
    dsimp only at h2
    rw [hsp, ← fr_succ sp.length a ha] at h2
    exact h2
  obtain ⟨fn, tmps, assign, body, hy, hR⟩ := hY1
  have HR := hid hR
  have hdd : ∀ k : Nat, (Fence.wide.depth.isSome = true → 1 ≤ k) := fun k h => by cases h
  have IH := hid ih
  have HA := hid hat
  have HW := hid hW
  have HX := hid hx
  have l0 : x.kids.length ≤ 255 := by cases x with | mk k t s n ks => exact hok.2.1
  have a0 : (a : Int) ≤ 100000 := by omega
  clear hY hseg hsp hR ih hat hW hJ hok hx
  refine callsIn_of_wp Tryz.func45 rfl trivial ?_ rfl
  simp only [Tryz.ntmps45, List.size_toArray, List.length_cons, List.length_nil, Nat.reduceAdd, Nat.reduceSub, Array.replicate_succ, Array.replicate_zero, List.push_toArray, List.append_toArray, List.nil_append, List.cons_append]
  gi_wp2
  refine ⟨hdd _, ?_⟩
  refine HR.out.mono ?_
  clear HR
  rintro e W1 (⟨rfl, hJ1, hk1⟩ | ⟨rfl, hx1⟩)
  · have HW1 := hid (HW.out.trans hk1)
    obtain ⟨q, _, _, _, _, c4, g', hq, hr⟩ := HA.out.cells
    have c4' : W1.cell? ⟨g, o + 4, none⟩ = some q := (World.cell?_of_block (HW1.out g hg)).trans c4
    have J1 := hid hJ1
    have KK1 := hid hk1
    obtain ⟨L, hL⟩ : ∃ L, x.kids.length = L := ⟨_, rfl⟩
    have HL := hid hL
    have hform : ∃ p cap, q = .slice p L cap ∧ (0 < L → p = some ⟨kidB w0 g o, 0, none⟩) := by
      rcases hq with ⟨rfl, hq⟩ | ⟨_, _, cap, rfl, _⟩
      · exact ⟨none, 0, by rw [← hL, hq], fun h => absurd h (by omega)⟩
      · refine ⟨_, cap, by rw [← hL], fun _ => ?_⟩
        unfold kidB
        rw [c4]
    obtain ⟨p, cap, rfl, hp⟩ := hform
    rw [hL] at l0
    have i1 : (L : Int) ≤ 255 := by omega
    clear hJ1 hk1 hq hr hL HA c4
    gi_wp2
    gi_loopw [1, 22] (fun pl i wr => ∃ j : Nat, j ≤ L ∧ i = .int .i64 j ∧ pl = .int .i64 ((a + 1 + Nd.cnts (x.kids.take j) : Nat) : Int) ∧ J (fr sp.length (a + 1 + Nd.cnts (x.kids.take j))) wr ∧ KQ P W wr) (fun _ i _ => L - (intOf i).toNat)
    case atStart => exact ⟨0, Nat.zero_le _, rfl, by rw [List.take_zero, Nd.cnts]; go_num, by rw [List.take_zero, Nd.cnts]; exact J1.out, KK1.out⟩
    case round =>
      obtain ⟨j, hj, rfl, rfl, hJr, hkr⟩ := hrel
      have JR := hid hJr
      have KR := hid hkr
      have j0 : (0 : Int) ≤ j := by omega
      have cr : wr.cell? ⟨g, o + 4, none⟩ = some (.slice p L cap) := by
        have e1 : wr.heap[g]? = W1.heap[g]? := ((HW.out.trans hkr) g hg).trans (HW1.out g hg).symm
        exact (World.cell?_of_block e1).trans c4'
      by_cases hlt : j < L
      · have j1 : (j : Int) < L := by omega
        have hjk : j < x.kids.length := by rw [HL.out]; exact hlt
        have hpp := hp (by omega)
        subst hpp
        have CC := hid (IH.out j hjk wr (HW.out.trans hkr) hJr)
        have TS : a + 1 + Nd.cnts (x.kids.take (j + 1)) = a + 1 + Nd.cnts (x.kids.take j) + (x.kids[j]).cnt := by
          rw [List.take_succ_eq_append_getElem hjk, Nd.cnts_append, ← Nat.add_assoc]
          rfl
        have TL : a + 1 + Nd.cnts (x.kids.take (j + 1)) ≤ sp.length := by
          have h2 : Nd.cnts x.kids = Nd.cnts (x.kids.take (j + 1)) + Nd.cnts (x.kids.drop (j + 1)) := by rw [← Nd.cnts_append, List.take_append_drop]
          have := HX.out
          omega
        have TM : a + 1 + Nd.cnts (x.kids.take j) + (x.kids[j]).cnt ≤ 100000 := by omega
        have TT := hid TS
        clear hJr hkr IH hp TS TL
        generalize a + 1 + Nd.cnts (x.kids.take j) = A at *
        generalize (x.kids[j]).cnt = D at *
        gi_wp2_with (refine ⟨trivial, hdd _, ?_⟩; gi_at_call 45; refine CC.out.mono ?_; clear CC; rintro e w2 (⟨rfl, hJ2, hk2⟩ | ⟨rfl, q2, hx2⟩))
        · go_roundw
          case rel => exact ⟨j + 1, by omega, by go_num, by rw [TT.out]; go_num, by rw [TT.out]; exact hJ2, KR.out.trans hk2⟩
          case measure => simp [intOf]; omega
        · gi_wp2
          go_ret2
          exact Or.inr ⟨rfl, _, hx2⟩
      · have hjL : j = L := by omega
        subst hjL
        have j1 : ¬ (j : Int) < j := by omega
        have TA : a + 1 + Nd.cnts (x.kids.take j) = a + x.cnt := by
          rw [List.take_of_length_le (by rw [HL.out]; exact Nat.le_refl _), HX.out]
          omega
        rw [TA] at JR
        rw [TA]
        clear hJr hkr IH hp TA
        obtain ⟨A, hA⟩ : ∃ A, a + x.cnt = A := ⟨_, rfl⟩
        have EA := hid hA
        rw [hA] at JR ⊢
        clear hA
        gi_wp2
        go_ret2
        refine Or.inl ⟨?_, ?_, KR.out⟩
        · rw [EA.out]; rfl
        · rw [EA.out]; exact JR.out
  · gi_wp2
    go_ret2
    exact Or.inr ⟨rfl, _, hx1⟩
theorem visit_any (l : Nat) (P : Nat → Prop) (w0 : World) (sp : List Sp) (hN : sp.length ≤ 100000) (J Jx : List (Fin sp.length) → World → Prop)
    (hY : ∀ m pre (i : Fin sp.length) W, J pre W → pre.length < sp.length → YieldAt Fence.wide m Tryz.prog l #[.int .i64 i.val, .pointer (some ⟨(sp[i.val]).g, (sp[i.val]).o, none⟩)] W fun e W' => (e = .returned (.bool true) ∧ J (pre ++ [i]) W' ∧ KQ P W W') ∨ (e = .returned (.bool false) ∧ Jx (pre ++ [i]) W')) :
    ∀ (x : Nd), x.ok → ∀ (a g o : Nat), NdAt w0 P g o x → P g → (∀ i, i < x.cnt → sp[a + i]? = (spN w0 g o x)[i]?) → a + x.cnt ≤ sp.length → ∀ (n : Nat) (W : World), KQ P w0 W → J (fr sp.length a) W →
    CallsIn Fence.wide n Tryz.prog 45 #[.pointer (some ⟨g, o, none⟩), .int .i64 a, .func (.yield l) #[] #[]] W (VisP P sp.length a x.cnt J Jx W) := by
  refine Nd.indA ?_
  intro k t s n0 ks ih hok a g o hat hg hseg hlen n W hW hJ
  refine visit_step l P w0 sp hN J Jx hY _ hok a g o hat hg hseg hlen n W hW hJ (fun j hj W1 hW1 hJ1 => ?_)
  have hj' : j < ks.length := hj
  obtain ⟨hrow, hp⟩ := kid_row hat (Nat.lt_of_le_of_lt (Nat.zero_le _) hj)
  have hkid := hrow.at j hj
  rw [Nat.zero_add, Nat.mul_comm] at hkid
  have hx : (Nd.mk k t s n0 ks).cnt = 1 + Nd.cnts ks := by rw [Nd.cnt]
  have hsplit : ks = ks.take j ++ ks[j] :: ks.drop (j + 1) := by
    rw [← List.drop_eq_getElem_cons hj', List.take_append_drop]
  have hcs : Nd.cnts ks = Nd.cnts (ks.take j) + ((ks[j]).cnt + Nd.cnts (ks.drop (j + 1))) := by
    conv => lhs; rw [hsplit]
    rw [Nd.cnts_append, Nd.cnts]
  have hsl : spL w0 (kidB w0 g o) 0 ks = spL w0 (kidB w0 g o) 0 (ks.take j) ++ (spN w0 (kidB w0 g o) (5 * j) ks[j] ++ spL w0 (kidB w0 g o) (5 * j + 5) (ks.drop (j + 1))) := by
    conv => lhs; rw [hsplit]
    rw [spL_append, spL, List.length_take, Nat.zero_add, Nat.min_eq_left (Nat.le_of_lt hj')]
  refine ih _ (List.getElem_mem hj') (Nd.oks_mem hok.2.2 _ (List.getElem_mem hj')) _ _ _ hkid hp (fun i hi => ?_) ?_ (n - 1) W1 hW1 hJ1
  · have h1 := hseg (1 + Nd.cnts (ks.take j) + i) (by show _ < (Nd.mk k t s n0 ks).cnt; have hi' : i < (ks[j]).cnt := hi; omega)
    rw [spN, hsl] at h1
    have hi' : i < (ks[j]).cnt := hi
    rw [show a + (1 + Nd.cnts (ks.take j) + i) = a + 1 + Nd.cnts (ks.take j) + i by omega, show 1 + Nd.cnts (ks.take j) + i = (Nd.cnts (ks.take j) + i) + 1 by omega, List.getElem?_cons_succ, List.getElem?_append_right (by rw [spL_len]; omega), spL_len, show Nd.cnts (ks.take j) + i - Nd.cnts (ks.take j) = i by omega, List.getElem?_append_left (by rw [spN_len]; exact hi'), Nat.mul_comm 5 j] at h1
    exact h1
  · show a + 1 + Nd.cnts (ks.take j) + (ks[j]).cnt ≤ _
    omega
end Go.Proofs.YtajoncmmdeahnaaGreatDoor.An
namespace Go.Proofs.YtajoncmmdeahnaaGreatDoor.An
open Go.RowKit Go.Maps Go.Shelf
attribute [local go_sem] Oper.semAt_some
set_option maxRecDepth 100000 in
theorem spots_mk (a : Addr) (w : World) : Calls Tryz.prog 22 #[.pointer (some a)] w fun e w' =>
    e = .returned (.func (.func 44) #[] #[.pointer (some ⟨w.heap.size, 0, none⟩)]) ∧ w' = w.alloc (.cells #[.pointer (some a)] 60) := by
  go_enter Tryz.func22, Tryz.ntmps22
  go_wp2
  go_ret
  exact ⟨rfl, rfl⟩
set_option maxRecDepth 100000 in
set_option maxHeartbeats 1000000 in
theorem spots_in (l Bc g : Nat) (P : Nat → Prop) (w : World) (x : Nd) (hok : x.ok) (hN : (spN w g 0 x).length ≤ 100000) (hBc : P Bc) (hg : P g) (hc : w.cell? ⟨Bc, 0, none⟩ = some (.pointer (some ⟨g, 0, none⟩))) (hat : NdAt w P g 0 x)
    (J Jx : List (Fin (spN w g 0 x).length) → World → Prop)
    (hY : ∀ pre (i : Fin (spN w g 0 x).length) W, J pre W → pre.length < (spN w g 0 x).length → YieldAt Fence.wide (4 - 1) Tryz.prog l #[.int .i64 i.val, .pointer (some ⟨((spN w g 0 x)[i.val]).g, ((spN w g 0 x)[i.val]).o, none⟩)] W fun e W' => (e = .returned (.bool true) ∧ J (pre ++ [i]) W' ∧ KQ P W W') ∨ (e = .returned (.bool false) ∧ Jx (pre ++ [i]) W'))
    (W : World) (hW : KQ P w W) (h0 : J [] W) :
    CallsIn Fence.wide 4 Tryz.prog 44 #[.func (.yield l) #[] #[], .pointer (some ⟨Bc, 0, none⟩)] W fun e W' => (∃ v, e = .returned v) ∧ ((∃ ys, ys = List.finRange (spN w g 0 x).length ∧ J ys W') ∨ (∃ pre, True ∧ Jx pre W')) := by
  have hv := visit_any l P w (spN w g 0 x) hN J Jx (fun m pre i W hj hl => YieldAt.anyD m (hY pre i W hj hl)) x hok 0 g 0 hat hg (fun i hi => by rw [Nat.zero_add]) (by rw [spN_len, Nat.zero_add]; exact Nat.le_refl _) (4 - 1) W hW h0
  have HV := hid hv
  have c0 : W.cell? ⟨Bc, 0, none⟩ = some (.pointer (some ⟨g, 0, none⟩)) := (World.cell?_of_block (hW Bc hBc)).trans hc
  have EN := hid (spN_len w g 0 x)
  clear hv hY hW h0 hat hc
  generalize (spN w g 0 x).length = n at *
  have hdd : ∀ k : Nat, (Fence.wide.depth.isSome = true → 1 ≤ k) := fun k h => by cases h
  refine callsIn_of_wp Tryz.func44 rfl trivial ?_ rfl
  simp only [Tryz.ntmps44, List.size_toArray, List.length_cons, List.length_nil, Nat.reduceAdd, Nat.reduceSub, Array.replicate_succ, Array.replicate_zero, List.push_toArray, List.append_toArray, List.nil_append, List.cons_append]
  gi_wp2_with (first | (refine ⟨trivial, hdd _, ?_⟩; gi_at_call 45; refine HV.out.mono ?_; clear HV; rintro e W1 (⟨rfl, hJ1, _⟩ | ⟨rfl, q, hx⟩)) | (refine ⟨trivial, ?_⟩; gi_at_call 45; refine HV.out.mono ?_; clear HV; rintro e W1 (⟨rfl, hJ1, _⟩ | ⟨rfl, q, hx⟩)))
  · go_end0
    exact ⟨⟨_, rfl⟩, .inl ⟨_, rfl, by rw [Nat.zero_add, ← EN.out, fr_all] at hJ1; exact hJ1⟩⟩
  · go_end0
    exact ⟨⟨_, rfl⟩, .inr ⟨q, trivial, hx⟩⟩
theorem spots_stops (Bc g : Nat) (P : Nat → Prop) (w : World) (x : Nd) (hok : x.ok) (hN : (spN w g 0 x).length ≤ 100000) (hP : ∀ b, P b → b < w.heap.size) (hBc : P Bc) (hg : P g) (hc : w.cell? ⟨Bc, 0, none⟩ = some (.pointer (some ⟨g, 0, none⟩))) (hat : NdAt w P g 0 x) :
    SeqStopsK Fence.wide 4 Tryz.prog 44 #[.pointer (some ⟨Bc, 0, none⟩)] (fun i : Fin (spN w g 0 x).length => #[Value.int .i64 i.val, .pointer (some ⟨((spN w g 0 x)[i.val]).g, ((spN w g 0 x)[i.val]).o, none⟩)]) (KQ P) (fun xs => xs = List.finRange (spN w g 0 x).length) (fun _ => True) (spN w g 0 x).length w := fun l J Jx W hW _ _ hY h0 =>
  spots_in l Bc g P w x hok hN hBc hg hc hat J Jx hY W (fun b hb => hW.block b (hP b hb)) h0
end Go.Proofs.YtajoncmmdeahnaaGreatDoor.An
namespace Go.Proofs.YtajoncmmdeahnaaGreatDoor.An
open Go.RowKit Go.Maps Go.Shelf
attribute [local go_sem] Oper.semAt_some
theorem blk_other {W W' : World} {row : Option Nat} {i : Nat} {t : TypeId} {cs : Array Value} (h : Blk W i t cs) (hg : W.grownBy W' row) (hr : ∀ r, row = some r → ∃ o : Obj, W.heap[r]? = some o ∧ o.isCells = false) : Blk W' i t cs := h.kept hg (fun e => by
  obtain ⟨o, ho, hc⟩ := hr i e.symm
  have h' : W.heap[i]? = some (.cells cs t (0, 0)) := h
  rw [h'] at ho
  cases ho
  cases hc)
theorem box_node {w w' : World} {P Q : Nat → Prop} {x : Nd} {q : Value} {t : TypeId} {N : Nat} (hk : KsV w P q x.kids) (hg : w.grownBy w' none) (hm : ∀ b, b < w.heap.size → Q b) (hB : Blk w' N t #[.int .i64 x.kind, .int .i64 x.ty, .string x.txt, .int .i64 x.num, q]) : NdAt w' Q N 0 x :=
  NdAt.mk (by rw [hB.cell]; rfl) (by rw [hB.cell]; rfl) (by rw [hB.cell]; rfl) (by rw [hB.cell]; rfl) (by rw [hB.cell]; rfl) (hk.keptP (Kp.of_none P hg) (fun b _ hb => hm b hb))
end Go.Proofs.YtajoncmmdeahnaaGreatDoor.An
