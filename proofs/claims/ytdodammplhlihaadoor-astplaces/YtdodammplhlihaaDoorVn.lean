/-
  visit where each round goes on: all nodes of a tree, one behind the other, counted; All as an iterator.
-/
import Derived.Test.YtdodammplhlihaaDoorRg
import Derived.Test.YtdodammplhlihaaDoorAt
namespace Go.Proofs.YtdodammplhlihaaDoor
open Go.RowKit Go.Maps Go.Shelf
attribute [local go_sem] Oper.semAt_some
/-- Blocks as P says are as they were, and all blocks from B on. -/
def KF (B : Nat) (P : Nat → Prop) (W W' : World) : Prop := KQ P W W' ∧ Kf B W W'
theorem KF.trans {B : Nat} {P : Nat → Prop} {a b c : World} (h : KF B P a b) (k : KF B P b c) : KF B P a c := ⟨h.1.trans k.1, h.2.trans k.2⟩
def VisN (B : Nat) (P : Nat → Prop) (a c : Nat) (J : Nat → World → Prop) (W : World) (e : Ending) (W' : World) : Prop :=
  e = .returned (.tuple #[.int .i64 ((a + c : Nat) : Int), .bool true]) ∧ J (a + c) W' ∧ KF B P W W'
set_option maxRecDepth 100000 in
set_option maxHeartbeats 2000000 in
theorem visitN_step (l : Nat) (P : Nat → Prop) (w0 : World) (sp : List Sp) (hN : sp.length ≤ 100000) (B : Nat) (J : Nat → World → Prop)
    (hY : ∀ m k (hk : k < sp.length) W, J k W → YieldAt Fence.wide m Tryd.prog l #[.int .i64 k, .pointer (some ⟨(sp[k]).g, (sp[k]).o, none⟩)] W fun e W' => e = .returned (.bool true) ∧ J (k + 1) W' ∧ KF B P W W')
    (x : Nd) (hok : x.ok) (a g o : Nat) (hat : NdAt w0 P g o x) (hg : P g) (hseg : ∀ i, i < x.cnt → sp[a + i]? = (spN w0 g o x)[i]?) (hlen : a + x.cnt ≤ sp.length) (n : Nat) (W : World) (hW : KQ P w0 W) (hJ : J a W)
    (ih : ∀ j, (hj : j < x.kids.length) → ∀ (W1 : World), KQ P w0 W1 → J (a + 1 + Nd.cnts (x.kids.take j)) W1 → CallsIn Fence.wide (n - 1) Tryd.prog 44 #[.pointer (some ⟨kidB w0 g o, j * 5, none⟩), .int .i64 ((a + 1 + Nd.cnts (x.kids.take j) : Nat) : Int), .func (.yield l) #[] #[]] W1 (VisN B P (a + 1 + Nd.cnts (x.kids.take j)) (x.kids[j]).cnt J W1)) :
    CallsIn Fence.wide n Tryd.prog 44 #[.pointer (some ⟨g, o, none⟩), .int .i64 a, .func (.yield l) #[] #[]] W (VisN B P a x.cnt J W) := by
  have hc1 : 0 < x.cnt := by cases x with | mk k t s n ks => rw [Nd.cnt]; omega
  have hx : x.cnt = 1 + Nd.cnts x.kids := by cases x with | mk k t s n ks => rw [Nd.cnt]; rfl
  have ha : a < sp.length := by omega
  have hsp : sp[a] = ⟨g, o, x⟩ := by
    have h1 := hseg 0 hc1
    rw [Nat.add_zero, List.getElem?_eq_getElem ha] at h1
    cases x with
    | mk k t s n ks =>
      rw [spN] at h1
      exact Option.some.inj h1
  have hY1 : YieldAt Fence.wide (n - 1) Tryd.prog l #[.int .i64 a, .pointer (some ⟨g, o, none⟩)] W fun e W' => e = .returned (.bool true) ∧ J (a + 1) W' ∧ KF B P W W' := by
    have h2 := hY (n - 1) a ha W hJ
    rw [hsp] at h2
    exact h2
  obtain ⟨fn, tmps, assign, body, hy, hR⟩ := hY1
  have HR := hid hR
  have hdd : ∀ k : Nat, (Fence.wide.depth.isSome = true → 1 ≤ k) := fun k h => by cases h
  have IH := hid ih
  have HA := hid hat
  have HW := hid hW
  have HX := hid hx
  have l0 : x.kids.length ≤ 255 := by cases x with | mk k t s n ks => exact hok.2.1
  have a0 : (a : Int) ≤ 100000 := by omega
  clear hY hseg hsp hR ih hat hW hJ hok hx
  refine callsIn_of_wp Tryd.func44 rfl trivial ?_ rfl
  simp only [Tryd.ntmps44, List.size_toArray, List.length_cons, List.length_nil, Nat.reduceAdd, Nat.reduceSub, Array.replicate_succ, Array.replicate_zero, List.push_toArray, List.append_toArray, List.nil_append, List.cons_append]
  gi_wp2
  refine ⟨hdd _, ?_⟩
  refine HR.out.mono ?_
  clear HR
  rintro e W1 ⟨rfl, hJ1, hk1⟩
  · have HW1 := hid (HW.out.trans hk1.1)
    obtain ⟨q, _, _, _, _, c4, g', hq, hr⟩ := HA.out.cells
    have c4' : W1.cell? ⟨g, o + 4, none⟩ = some q := (World.cell?_of_block (HW1.out g hg)).trans c4
    have J1 := hid hJ1
    have KK1 := hid hk1
    obtain ⟨L, hL⟩ : ∃ L, x.kids.length = L := ⟨_, rfl⟩
    have HL := hid hL
    have hform : ∃ p cap, q = .slice p L cap ∧ (0 < L → p = some ⟨kidB w0 g o, 0, none⟩) := by
      rcases hq with ⟨rfl, hq⟩ | ⟨_, _, cap, rfl, _⟩
      · exact ⟨none, 0, by rw [← hL, hq], fun h => absurd h (by omega)⟩
      · refine ⟨_, cap, by rw [← hL], fun _ => ?_⟩
        unfold kidB
        rw [c4]
    obtain ⟨p, cap, rfl, hp⟩ := hform
    rw [hL] at l0
    have i1 : (L : Int) ≤ 255 := by omega
    clear hJ1 hk1 hq hr hL HA c4
    gi_wp2
    gi_loopw [1, 22] (fun pl i wr => ∃ j : Nat, j ≤ L ∧ i = .int .i64 j ∧ pl = .int .i64 ((a + 1 + Nd.cnts (x.kids.take j) : Nat) : Int) ∧ J (a + 1 + Nd.cnts (x.kids.take j)) wr ∧ KF B P W wr) (fun _ i _ => L - (intOf i).toNat)
    case atStart => exact ⟨0, Nat.zero_le _, rfl, by rw [List.take_zero, Nd.cnts]; go_num, by rw [List.take_zero, Nd.cnts]; exact J1.out, KK1.out⟩
    case round =>
      obtain ⟨j, hj, rfl, rfl, hJr, hkr⟩ := hrel
      have JR := hid hJr
      have KR := hid hkr
      have j0 : (0 : Int) ≤ j := by omega
      have cr : wr.cell? ⟨g, o + 4, none⟩ = some (.slice p L cap) := by
        have e1 : wr.heap[g]? = W1.heap[g]? := ((HW.out.trans hkr.1) g hg).trans (HW1.out g hg).symm
        exact (World.cell?_of_block e1).trans c4'
      by_cases hlt : j < L
      · have j1 : (j : Int) < L := by omega
        have hjk : j < x.kids.length := by rw [HL.out]; exact hlt
        have hpp := hp (by omega)
        subst hpp
        have CC := hid (IH.out j hjk wr (HW.out.trans hkr.1) hJr)
        have TS : a + 1 + Nd.cnts (x.kids.take (j + 1)) = a + 1 + Nd.cnts (x.kids.take j) + (x.kids[j]).cnt := by
          rw [List.take_succ_eq_append_getElem hjk, Nd.cnts_append, ← Nat.add_assoc]
          rfl
        have TL : a + 1 + Nd.cnts (x.kids.take (j + 1)) ≤ sp.length := by
          have h2 : Nd.cnts x.kids = Nd.cnts (x.kids.take (j + 1)) + Nd.cnts (x.kids.drop (j + 1)) := by rw [← Nd.cnts_append, List.take_append_drop]
          have := HX.out
          omega
        have TM : a + 1 + Nd.cnts (x.kids.take j) + (x.kids[j]).cnt ≤ 100000 := by omega
        have TT := hid TS
        clear hJr hkr IH hp TS TL
        generalize a + 1 + Nd.cnts (x.kids.take j) = A at *
        generalize (x.kids[j]).cnt = D at *
        gi_wp2_with (refine ⟨trivial, hdd _, ?_⟩; gi_at_call 44; refine CC.out.mono ?_; clear CC; rintro e w2 ⟨rfl, hJ2, hk2⟩)
        go_roundw
        case rel => exact ⟨j + 1, by omega, by go_num, by rw [TT.out]; go_num, by rw [TT.out]; exact hJ2, KR.out.trans hk2⟩
        case measure => simp [intOf]; omega
      · have hjL : j = L := by omega
        subst hjL
        have j1 : ¬ (j : Int) < j := by omega
        have TA : a + 1 + Nd.cnts (x.kids.take j) = a + x.cnt := by
          rw [List.take_of_length_le (by rw [HL.out]; exact Nat.le_refl _), HX.out]
          omega
        rw [TA] at JR
        rw [TA]
        clear hJr hkr IH hp TA
        obtain ⟨A, hA⟩ : ∃ A, a + x.cnt = A := ⟨_, rfl⟩
        have EA := hid hA
        rw [hA] at JR ⊢
        clear hA
        gi_wp2
        go_ret2
        refine ⟨?_, ?_, KR.out⟩
        · rw [EA.out]; rfl
        · rw [EA.out]; exact JR.out
/-- All nodes come, each with its place, until a round says that none is asked for any more. -/
theorem visitN (l : Nat) (P : Nat → Prop) (w0 : World) (sp : List Sp) (hN : sp.length ≤ 100000) (B : Nat) (J : Nat → World → Prop)
    (hY : ∀ m k (hk : k < sp.length) W, J k W → YieldAt Fence.wide m Tryd.prog l #[.int .i64 k, .pointer (some ⟨(sp[k]).g, (sp[k]).o, none⟩)] W fun e W' => e = .returned (.bool true) ∧ J (k + 1) W' ∧ KF B P W W') :
    ∀ (x : Nd), x.ok → ∀ (a g o : Nat), NdAt w0 P g o x → P g → (∀ i, i < x.cnt → sp[a + i]? = (spN w0 g o x)[i]?) → a + x.cnt ≤ sp.length → ∀ (n : Nat) (W : World), KQ P w0 W → J a W →
    CallsIn Fence.wide n Tryd.prog 44 #[.pointer (some ⟨g, o, none⟩), .int .i64 a, .func (.yield l) #[] #[]] W (VisN B P a x.cnt J W) := by
  refine Nd.indA ?_
  intro k t s n0 ks ih hok a g o hat hg hseg hlen n W hW hJ
  refine visitN_step l P w0 sp hN B J hY _ hok a g o hat hg hseg hlen n W hW hJ (fun j hj W1 hW1 hJ1 => ?_)
  have hj' : j < ks.length := hj
  obtain ⟨hrow, hp⟩ := hat.kidRow (Nat.lt_of_le_of_lt (Nat.zero_le _) hj)
  have hkid := hrow.at j hj
  rw [Nat.zero_add, Nat.mul_comm] at hkid
  have hx : (Nd.mk k t s n0 ks).cnt = 1 + Nd.cnts ks := by rw [Nd.cnt]
  have hsplit : ks = ks.take j ++ ks[j] :: ks.drop (j + 1) := by
    rw [← List.drop_eq_getElem_cons hj', List.take_append_drop]
  have hcs : Nd.cnts ks = Nd.cnts (ks.take j) + ((ks[j]).cnt + Nd.cnts (ks.drop (j + 1))) := by
    conv => lhs; rw [hsplit]
    rw [Nd.cnts_append, Nd.cnts]
  have hsl : spL w0 (kidB w0 g o) 0 ks = spL w0 (kidB w0 g o) 0 (ks.take j) ++ (spN w0 (kidB w0 g o) (5 * j) ks[j] ++ spL w0 (kidB w0 g o) (5 * j + 5) (ks.drop (j + 1))) := by
    conv => lhs; rw [hsplit]
    rw [spL_append, spL, List.length_take, Nat.zero_add, Nat.min_eq_left (Nat.le_of_lt hj')]
  refine ih _ (List.getElem_mem hj') (Nd.oks_mem hok.2.2 _ (List.getElem_mem hj')) _ _ _ hkid hp (fun i hi => ?_) ?_ (n - 1) W1 hW1 hJ1
  · have h1 := hseg (1 + Nd.cnts (ks.take j) + i) (by show _ < (Nd.mk k t s n0 ks).cnt; have hi' : i < (ks[j]).cnt := hi; omega)
    rw [spN, hsl] at h1
    have hi' : i < (ks[j]).cnt := hi
    rw [show a + (1 + Nd.cnts (ks.take j) + i) = a + 1 + Nd.cnts (ks.take j) + i by omega, show 1 + Nd.cnts (ks.take j) + i = (Nd.cnts (ks.take j) + i) + 1 by omega, List.getElem?_cons_succ, List.getElem?_append_right (by rw [spL_len]; omega), spL_len, show Nd.cnts (ks.take j) + i - Nd.cnts (ks.take j) = i by omega, List.getElem?_append_left (by rw [spN_len]; exact hi'), Nat.mul_comm 5 j] at h1
    exact h1
  · show a + 1 + Nd.cnts (ks.take j) + (ks[j]).cnt ≤ _
    omega
end Go.Proofs.YtdodammplhlihaaDoor
