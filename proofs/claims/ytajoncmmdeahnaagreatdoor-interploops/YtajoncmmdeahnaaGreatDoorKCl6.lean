/-
  The checker over trees: a loop over a node's kids. The checker over trees: branches. The checker over trees: a statement.
-/
import Derived.Test.YtajoncmmdeahnaaGreatDoorKCl3
namespace Go.Proofs.YtajoncmmdeahnaaGreatDoor
open Go.RowKit
namespace Ck
def mapI (φ : Nat → Nd → Ck Nd) : Nat → List Nd → Ck (List Nd)
  | _, [] => pure []
  | i, x :: r => do
    let y ← φ i x
    let l ← mapI φ (i + 1) r
    return y :: l
theorem mapI_cons (φ : Nat → Nd → Ck Nd) (i : Nat) (x : Nd) (r : List Nd) (st : Cs) : mapI φ i (x :: r) st = match φ i x st with
    | .ok (y, s) => addF [y] (mapI φ (i + 1) r s)
    | .error e => .error e := by
  show Ck.bnd (φ i x) _ st = _
  unfold Ck.bnd
  cases φ i x st with
  | error e => rfl
  | ok z =>
    obtain ⟨y, s⟩ := z
    show Ck.bnd (mapI φ (i + 1) r) _ s = addF [y] (mapI φ (i + 1) r s)
    unfold Ck.bnd addF
    cases mapI φ (i + 1) r s with
    | error e => rfl
    | ok z => rfl
theorem mapC_I (φ : Nd → Ck Nd) : ∀ (l : List Nd) (i : Nat), mapC φ l = mapI (fun _ => φ) i l
  | [], _ => rfl
  | x :: r, i => by
    funext st
    rw [mapC_cons, mapI_cons, mapC_I φ r (i + 1)]
    cases φ x st with
    | error e => rfl
    | ok z => rfl
structure HalfI (φ : Nat → Nd → Ck Nd) (ks : List Nd) (st : Cs) (ys : List Nd) (s : Cs) : Prop where
  eq : mapI φ 0 ks st = addF ys (mapI φ ys.length (ks.drop ys.length) s)
theorem HalfI.zero (φ : Nat → Nd → Ck Nd) (ks : List Nd) (st : Cs) : HalfI φ ks st [] st := ⟨by
  rw [List.length_nil, List.drop_zero]
  unfold addF
  cases mapI φ 0 ks st with
  | error e => rfl
  | ok z => rfl⟩
theorem HalfI.done {φ : Nat → Nd → Ck Nd} {ks : List Nd} {st : Cs} {ys : List Nd} {s : Cs} (h : HalfI φ ks st ys s) (hl : ks.length ≤ ys.length) : mapI φ 0 ks st = .ok (ys, s) := by
  rw [h.eq, List.drop_eq_nil_of_le hl]
  show addF ys (.ok ([], s)) = _
  simp [addF]
theorem HalfI.ne {φ : Nat → Nd → Ck Nd} {ks : List Nd} {st : Cs} {ys : List Nd} {s : Cs} (h : HalfI φ ks st ys s) (hx : mapI φ 0 ks st ≠ .error none) (hl : ys.length < ks.length) : φ ys.length ks[ys.length] s ≠ .error none := fun e => by
  rw [h.eq, List.drop_eq_getElem_cons hl, mapI_cons, e] at hx
  exact hx rfl
theorem HalfI.err {φ : Nat → Nd → Ck Nd} {ks : List Nd} {st : Cs} {ys : List Nd} {s : Cs} {e : Option Nat} (h : HalfI φ ks st ys s) (hl : ys.length < ks.length) (he : φ ys.length ks[ys.length] s = .error e) : mapI φ 0 ks st = .error e := by
  rw [h.eq, List.drop_eq_getElem_cons hl, mapI_cons, he]
  rfl
theorem HalfI.step {φ : Nat → Nd → Ck Nd} {ks : List Nd} {st : Cs} {ys : List Nd} {s s' : Cs} {y : Nd} (h : HalfI φ ks st ys s) (hl : ys.length < ks.length) (he : φ ys.length ks[ys.length] s = .ok (y, s')) : HalfI φ ks st (ys ++ [y]) s' := ⟨by
  rw [h.eq, List.drop_eq_getElem_cons hl, mapI_cons, he, List.length_append, List.length_singleton]
  exact addF_addF _ _ _⟩
structure LH (X : Xc) (F : Fn) (g o lo hi : Nat) (w : World) (n : Nd) (p : Option Addr) (c L : Nat) (φ : Nat → Nd → Ck Nd) (st : Cs) (j : Nat) (ys : List Nd) (s : Cs) (wr : World) : Prop where
  tot : n.kids.length = L
  len : ys.length = j
  le : j ≤ L
  half : HalfI φ n.kids st ys s
  ns : NS X F g o lo hi w wr (withKids n (ys ++ n.kids.drop j)) s
  ks : KsI wr lo hi (.slice p L c) (ys ++ n.kids.drop j)
  c0 : wr.cell? ⟨g, o, none⟩ = some (.int .i64 n.kind)
  c1 : wr.cell? ⟨g, o + 1, none⟩ = some (.int .i64 n.ty)
  c2 : wr.cell? ⟨g, o + 2, none⟩ = some (.string n.txt)
  c3 : wr.cell? ⟨g, o + 3, none⟩ = some (.int .i64 n.num)
  c4 : wr.cell? ⟨g, o + 4, none⟩ = some (.slice p L c)
theorem withKids_self (n : Nd) : withKids n n.kids = n := by cases n; rfl
theorem LH.start {X : Xc} {F : Fn} {g o lo hi : Nat} {w wr : World} {n : Nd} {p : Option Addr} {c : Nat} {φ : Nat → Nd → Ck Nd} {st : Cs} (h : NS X F g o lo hi w wr n st) (hk : KsI wr lo hi (.slice p n.kids.length c) n.kids)
    (c0 : wr.cell? ⟨g, o, none⟩ = some (.int .i64 n.kind)) (c1 : wr.cell? ⟨g, o + 1, none⟩ = some (.int .i64 n.ty)) (c2 : wr.cell? ⟨g, o + 2, none⟩ = some (.string n.txt)) (c3 : wr.cell? ⟨g, o + 3, none⟩ = some (.int .i64 n.num)) (c4 : wr.cell? ⟨g, o + 4, none⟩ = some (.slice p n.kids.length c)) :
    LH X F g o lo hi w n p c n.kids.length φ st 0 [] st wr :=
  ⟨rfl, rfl, Nat.zero_le _, HalfI.zero _ _ _, by rw [List.drop_zero, List.nil_append, withKids_self]; exact h, by rw [List.drop_zero, List.nil_append]; exact hk, c0, c1, c2, c3, c4⟩
theorem LH.done {X : Xc} {F : Fn} {g o lo hi : Nat} {w wr : World} {n : Nd} {p : Option Addr} {c L : Nat} {φ : Nat → Nd → Ck Nd} {st s : Cs} {ys : List Nd} (h : LH X F g o lo hi w n p c L φ st L ys s wr) : mapI φ 0 n.kids st = .ok (ys, s) ∧ ys.length = L ∧ NS X F g o lo hi w wr (withKids n ys) s ∧ KsI wr lo hi (.slice p L c) ys := by
  have h1 := h.ns
  have h2 := h.ks
  rw [List.drop_eq_nil_of_le (Nat.le_of_eq h.tot), List.append_nil] at h1 h2
  exact ⟨h.half.done (by rw [h.len, h.tot]; exact Nat.le_refl _), h.len, h1, h2⟩
theorem LH.next {X : Xc} {F : Fn} {g o lo hi : Nat} {w wr : World} {n : Nd} {p : Option Addr} {c L : Nat} {φ : Nat → Nd → Ck Nd} {st s : Cs} {j : Nat} {ys : List Nd} (h : LH X F g o lo hi w n p c L φ st j ys s wr) (hp : Pl X g lo hi) (hj : j < L) (hx : mapI φ 0 n.kids st ≠ .error none) :
    ∃ g' x m m', p = some ⟨g', 0, none⟩ ∧ n.kids[j]? = some x ∧ φ j x s ≠ .error none ∧ g ≠ g' ∧
      (∀ (f : Nat) (ψ : Nd → Ck Nd), ElC X F f ψ → ψ x s ≠ .error none → Calls Tryz.prog f #[.pointer (some ⟨X.c, 0, none⟩), .pointer (some ⟨g', j * 5, none⟩)] wr (CkT X F g' (j * 5) m m' wr (ψ x s))) ∧
      (∀ w', FrN X g' (j * 5) m m' wr w' → FrN X g o lo hi w w' ∧ ∀ i, w'.cell? ⟨g, i, none⟩ = wr.cell? ⟨g, i, none⟩) ∧
      (∀ e, φ j x s = .error e → mapI φ 0 n.kids st = .error e) ∧
      (∀ y s' w', φ j x s = .ok (y, s') → NdI w' g' (j * 5) m m' y → CkA w' X F s' → FrN X g' (j * 5) m m' wr w' → LH X F g o lo hi w n p c L φ st (j + 1) (ys ++ [y]) s' w') := by
  obtain ⟨hL, hl, hle, hh, hns, hks, c0, c1, c2, c3, c4⟩ := h
  subst hl
  subst hL
  have hlen : (ys ++ n.kids.drop ys.length).length = n.kids.length := by rw [List.length_append, List.length_drop]; omega
  rcases ksI_form hks with ⟨_, e2, _⟩ | ⟨g', cap, cs, e1, k1, k2, k3, k4, k5, k6, k7⟩
  · rw [e2] at hlen
    have : n.kids.length = 0 := hlen.symm
    omega
  injection e1 with e1 e2 e3
  subst e1 e3
  rw [hlen] at k1 k3 k6
  have R0 : RowH X F g' lo hi n.kids ys s wr wr := ⟨hns.a, k7, ⟨cs, k5, k6⟩, FrI.refl _ _ _ _⟩
  obtain ⟨x, m, m', ex, a1, a2, a3, a4, a5⟩ := R0.node5 rfl hj k4 hp.c
  have hpa := hp.a
  have hpb := hp.b
  have hpc := hp.c
  have hsz := hns.a.size
  have lhi := hns.n.le
  have same : ∀ b, b < X.base → b < lo → ∀ w', FrN X g' (ys.length * 5) m m' wr w' → w'.heap[b]? = wr.heap[b]? := fun b h1 h2 w' hF => (a4 w' hF).same hns.a.ok h1 (by omega) (fun ⟨q, _⟩ => by omega)
  refine ⟨g', x, m, m', rfl, by rw [List.getElem?_eq_getElem hj, ex], by rw [← ex]; exact hh.ne hx hj, by omega, fun f ψ hE hne => hE x g' _ m m' cs wr s hns.a a3 (by omega) (by omega) (by omega) k5 hne, fun w' hF => ⟨hns.badI hp (a4 w' hF), fun i => World.cell?_of_block (a := ⟨g, i, none⟩) (same g (by omega) (by omega) w' hF)⟩, fun e he => hh.err hj (by rw [ex]; exact he), fun y s' w' he hN hA hF => ?_⟩
  obtain ⟨_, r2, ⟨cs', r3, r4⟩, r5⟩ := a5 y s' w' hN hA hF
  have hlen' : ((ys ++ [y]) ++ n.kids.drop (ys.length + 1)).length = n.kids.length := by rw [List.length_append, List.length_append, List.length_drop, List.length_singleton]; omega
  rw [List.length_append, List.length_singleton] at r2
  have K2 : KsI w' lo hi (.slice (some ⟨g', 0, none⟩) n.kids.length c) ((ys ++ [y]) ++ n.kids.drop (ys.length + 1)) := Or.inr ⟨g', c, cs', by rw [hlen'], by rw [hlen']; exact k1, k2, by rw [hlen']; exact k3, k4, r3, by rw [hlen']; exact r4, r2⟩
  have eg := r5.same hA.ok (i := g) (by omega) (by omega) (fun ⟨q, _⟩ => by omega)
  have hkl : (withKids n (ys ++ n.kids.drop ys.length)).kids.length = n.kids.length := hlen
  refine ⟨rfl, by rw [List.length_append, List.length_singleton], by omega, hh.step hj (by rw [ex]; exact he), ?_, K2, (World.cell?_of_block (a := ⟨g, o, none⟩) eg).trans c0, (World.cell?_of_block (a := ⟨g, o + 1, none⟩) eg).trans c1, (World.cell?_of_block (a := ⟨g, o + 2, none⟩) eg).trans c2, (World.cell?_of_block (a := ⟨g, o + 3, none⟩) eg).trans c3, (World.cell?_of_block (a := ⟨g, o + 4, none⟩) eg).trans c4⟩
  exact hns.kids hp (by rw [hkl]; exact c4) (by rw [hkl]; exact K2) hA r5
theorem ksI_len {w : World} {lo hi L c : Nat} {p : Option Addr} {ks : List Nd} (h : KsI w lo hi (.slice p L c) ks) : (L : Int) ≤ 9223372036854775807 := by
  rcases ksI_form h with ⟨e1, e2, _⟩ | ⟨g, cap, cs, e1, k1, k2, _⟩
  · injection e1 with _ e
    omega
  · injection e1 with _ e
    unfold maxLen at k2
    omega
end Ck
end Go.Proofs.YtajoncmmdeahnaaGreatDoor
namespace Go.Proofs.YtajoncmmdeahnaaGreatDoor
open Go.RowKit
namespace Ck
def condC (F : Fn) (k : Nat) (x : Nd) : Ck Nd := exprC F k x >>= fun y => (if y.ty ≠ 3 then rej 122 else pure () : Ck Unit) >>= fun _ => pure y
def brI (F : Fn) (k : Nat) (R : Rc) (i : Nat) (x : Nd) : Ck Nd := if i = 0 then condC F k x else R.block x
theorem ck_assoc {α β γ : Type} (x : Ck α) (g : α → Ck β) (f : β → Ck γ) : (x >>= g) >>= f = x >>= fun a => g a >>= f := by
  funext q
  show Ck.bnd (Ck.bnd x g) f q = Ck.bnd x (fun a => Ck.bnd (g a) f) q
  unfold Ck.bnd
  cases x q with
  | ok a => rfl
  | error e => rfl
theorem branchL_eq (F : Fn) (k : Nat) (R : Rc) : ∀ (l : List Nd) (i : Nat), branchL F k R i l = mapI (brI F k R) i l
  | [], i => by cases i <;> rfl
  | x :: r, 0 => by
    unfold branchL mapI
    rw [show brI F k R 0 x = condC F k x from rfl, branchL_eq F k R r 1]
    unfold condC
    rw [ck_assoc]
    congr 1
    funext y
    rw [ck_assoc]
    rfl
  | x :: r, i + 1 => by
    unfold branchL mapI
    rw [branchL_eq F k R r (i + 2)]
    rfl
theorem branches_eq (F : Fn) (k : Nat) (R : Rc) (n : Nd) : branchesC F k R n = mapI (brI F k R) 0 n.kids >>= fun ks => pure (withKids n ks) := by
  unfold branchesC
  rw [branchL_eq]
set_option maxRecDepth 100000 in
set_option maxHeartbeats 2000000 in
theorem branches_any {X : Xc} {F : Fn} {k : Nat} {R : Rc} (hE : ElC X F 211 (exprC F k)) (hR : ElC X F 139 R.block) : ElC X F 217 (branchesC F k R) := by
  intro n g o lo hi cs w st hC hn p1 p2 p3 hB hx
  rw [branches_eq] at hx ⊢
  have HX := hid (bnd_ne hx)
  have HP := hid (Pl.mk p1 p2 p3)
  have N0 := NS.start hC hn hB
  obtain ⟨p, c, c0, c1, c2, c3, c4, hk, hf⟩ := N0.cells
  have L0 := hid (LH.start (φ := brI F k R) N0 hk c0 c1 c2 c3 c4)
  have HE := hid hE
  have HR := hid hR
  obtain ⟨L, hL⟩ : ∃ L, n.kids.length = L := ⟨_, rfl⟩
  rw [hL] at L0 c4 hk
  have Lmax := ksI_len hk
  clear hx hC hn hB N0 hk hf hE hR c0 c1 c2 c3 hL
  go_enter Tryz.func217, Tryz.ntmps217
  go_wp2
  go_loopw [10] (fun i wr => ∃ (j : Nat) (ys : List Nd) (s : Cs), i = .int .i64 j ∧ LH X F g o lo hi w n p c L (brI F k R) st j ys s wr) (fun i _ => L - (intOf i).toNat)
  case atStart => exact ⟨0, [], st, rfl, L0.out⟩
  case round =>
    obtain ⟨j, ys, s, rfl, hh⟩ := hrel
    have LL := hid hh
    clear L0 c4
    have c4 := hh.c4
    have hj := hh.le
    have j0 : (0 : Int) ≤ j := by omega
    by_cases hlt : j < L
    · have j1 : (j : Int) < L := by omega
      obtain ⟨g', x, m, m', rfl, _, hne, hgg, call, frn, err, step⟩ := hh.next HP.out hlt HX.out
      have FN := hid frn
      have ER := hid err
      have ST := hid step
      have HN := hid hne
      clear frn err step hne hh
      by_cases hj0 : j = 0
      · subst hj0
        rw [show brI F k R 0 = condC F k from rfl] at *
        have hne2 := bnd_ne HN.out
        have CC := hid (call 211 (exprC F k) HE.out hne2)
        rw [Nat.zero_mul] at CC ST FN
        have HN2 := hid hne2
        clear call hne2 HR
        go_wp2_with fail
        go_at_call 211
        refine CC.out.mono ?_
        intro e w1 hh
        rcases CkT.cases hh HN2.out with ⟨e1, hz, rfl, hF⟩ | ⟨y, s', hz, rfl, hN, hA, hF⟩
        · exact ⟨rfl, by rw [bnd_err (ER.out _ (bnd_err hz))]; exact ⟨rfl, (FN.out _ hF).1⟩⟩
        · obtain ⟨q, y0, y1, _⟩ := hN.cells
          rw [Nat.zero_add] at y1
          have d4 := ((FN.out _ hF).2 (o + 4)).trans c4
          by_cases hty : y.ty = 3
          · have hz2 : condC F k x s = .ok (y, s') := by
              unfold condC
              rw [bnd_ok hz, if_neg (fun h => h hty)]
              rfl
            have L1 := hid (ST.out y s' w1 hz2 hN hA hF)
            rw [hty] at y1
            clear hz hz2 hN hA hF hh CC ST ER FN y0 c4 LL
            go_wp2_with fail
            go_roundw
            case rel => exact ⟨1, ys ++ [y], s', rfl, L1.out⟩
            case measure => simp [intOf]; omega
          · have er : Hid (mapI (brI F k R) 0 n.kids st = .error (some 122)) := hid (ER.out (some 122) (by
              unfold condC
              rw [bnd_ok hz, if_pos hty]
              rfl))
            have ff := hid (FN.out _ hF).1
            have C97 : Hid (∀ W, Calls Tryz.prog 97 #[.int .i64 (122 : Nat)] W fun e w' => e = .panicked (RjV 122) ∧ w' = W) := fun W => reject_any 122 W
            generalize y.ty = ty at *
            clear hz hN hA hF hh CC ST ER FN y0 c4 LL
            go_wp2_with (go_at_call 97; refine (C97.out _).mono ?_; rintro e w2 ⟨rfl, hw⟩; replace hw := hw.symm; subst hw; clear C97)
            exact ⟨rfl, by rw [bnd_err er.out]; exact ⟨rfl, ff.out⟩⟩
      · have j2 : (0 : Int) < j := by omega
        have e1 : brI F k R j = R.block := by
          funext x
          unfold brI
          rw [if_neg hj0]
        rw [e1] at ST ER HN
        have CC := hid (call 139 R.block HR.out HN.out)
        clear call e1 hj0
        go_wp2_with (go_at_call 139; refine CC.out.mono ?_; intro e w1 hh; rcases CkT.cases hh HN.out with ⟨e1, hz, rfl, hF⟩ | ⟨y, s', hz, rfl, hN, hA, hF⟩; (case inl => exact ⟨rfl, by rw [bnd_err (ER.out _ hz)]; exact ⟨rfl, (FN.out _ hF).1⟩⟩); have L1 := hid (ST.out y s' w1 hz hN hA hF); clear hz hN hA hF hh CC)
        go_roundw
        case rel => exact ⟨j + 1, ys ++ [y], s', by go_num, L1.out⟩
        case measure => simp [intOf]; omega
    · have j1 : ¬ (j : Int) < L := by omega
      have e1 : j = L := by omega
      subst e1
      obtain ⟨z1, z2, z3, z4⟩ := hh.done
      have HZ := hid (And.intro z1 trivial)
      have N9 := hid z3
      clear z1 z2 z3 z4 hh
      go_wp2
      refine bodyPost_ret (v := .tuple #[]) (by simp [results, Tryz.results217, go_sem]) rfl ?_
      rw [bnd_ok HZ.out.1]
      exact N9.out.ok
end Ck
end Go.Proofs.YtajoncmmdeahnaaGreatDoor
namespace Go.Proofs.YtajoncmmdeahnaaGreatDoor
open Go.RowKit
namespace Ck
theorem NS.of {X : Xc} {F : Fn} {g o lo hi : Nat} {w w' : World} {m : Nd} {st : Cs} {cs : Array Value} (hB : Blk w g 27 cs) (hN : NdI w' g o lo hi m) (hA : CkA w' X F st) (hF : FrN X g o lo hi w w') : NS X F g o lo hi w w' m st := by
  obtain ⟨cs', h, _⟩ := hF.form 27 cs hB
  exact ⟨hA, hN, hF, cs', h⟩
def stmtM (f : Nd → Ck Nd) (n : Nd) : Ck Nd := f n >>= fun m => doneC m >>= fun _ => pure m
theorem stmt_br (F : Fn) (k : Nat) (R : Rc) (n : Nd) (h : n.kind = 9 ∨ n.kind = 10) : statementC F k R n = stmtM (branchesC F k R) n := by
  unfold statementC
  rw [if_pos h]
  rfl
theorem stmt_line (F : Fn) (k : Nat) (R : Rc) (n : Nd) (h : ¬ (n.kind = 9 ∨ n.kind = 10)) (h2 : n.kind = 7 ∨ n.kind = 8 ∨ n.kind = 11 ∨ n.kind = 12 ∨ n.kind = 13 ∨ n.kind = 14) : statementC F k R n = stmtM (lineC F k) n := by
  unfold statementC
  rw [if_neg h, if_pos h2]
  rfl
theorem stmt_no (F : Fn) (k : Nat) (R : Rc) (n : Nd) (st : Cs) (h : ¬ (n.kind = 9 ∨ n.kind = 10)) (h2 : ¬ (n.kind = 7 ∨ n.kind = 8 ∨ n.kind = 11 ∨ n.kind = 12 ∨ n.kind = 13 ∨ n.kind = 14)) : statementC F k R n st = .error (some 125) := by
  unfold statementC
  rw [if_neg h, if_neg h2]
  rfl
set_option maxRecDepth 100000 in
set_option maxHeartbeats 2000000 in
theorem stmt_9 {X : Xc} {F : Fn} {f : Nd → Ck Nd} {n : Nd} {g o lo hi : Nat} {cs : Array Value} {w : World} {st : Cs} (hC : CkA w X F st) (hn : NdI w g o lo hi n) (hp : Pl X g lo hi) (hB : Blk w g 27 cs) (hx : stmtM f n st ≠ .error none) (hkd : n.kind = 9)
    (hc : Calls Tryz.prog 217 #[.pointer (some ⟨X.c, 0, none⟩), .pointer (some ⟨g, o, none⟩)] w (CkT X F g o lo hi w (f n st))) :
    Calls Tryz.prog 180 #[.pointer (some ⟨X.c, 0, none⟩), .pointer (some ⟨g, o, none⟩)] w (CkT X F g o lo hi w (stmtM f n st)) := by
  have HP := hid hp
  obtain ⟨p, c, c0, c1, c2, c3, c4, hk, hf⟩ := (NS.start hC hn hB).cells
  have HN := hid hx
  have CC := hid hc
  have HB := hid hB
  clear hk hx hC hn hp hc hB c1 c2 c3 c4
  rw [hkd] at c0
  go_enter Tryz.func180, Tryz.ntmps180
  go_wp2_with (first
    | (go_at_call 217; refine CC.out.mono ?_; intro e w1 hh; rcases CkT.cases hh (bnd_ne HN.out) with ⟨m, hz, rfl, hF⟩ | ⟨m, s1, hz, rfl, hN, hA, hF⟩; (case inl => exact ⟨rfl, by unfold stmtM; rw [bnd_err hz]; exact ⟨rfl, hF⟩⟩); have HZ1 := hid (And.intro hz trivial); have N1 := hid (NS.of HB.out hN hA hF); obtain ⟨p1', c1', d0, d1, d2, d3, d4, hk1, hf1⟩ := N1.out.cells; have HN2 : Hid (doneC m s1 ≠ .error none) := hid (by have h := HN.out; unfold stmtM at h; rw [bnd_ok hz] at h; exact bnd_ne h); clear c0 hz hN hA hF hh hk1)
    | (go_at_call 136; refine (done_any m p1' c1' w1 N1.out.a HN2.out).mono ?_; intro e w2 hh; rcases CkP.cases hh HN2.out with ⟨e1, hz, rfl, hF⟩ | ⟨t, s2, v, hz, rfl, hv, hA, hF⟩; (case inl => exact ⟨rfl, by unfold stmtM; rw [bnd_ok HZ1.out.1, bnd_err hz]; exact ⟨rfl, N1.out.bad HP.out hF⟩⟩); have hv' : v = .tuple #[] := hv; subst hv'; have HZ2 := hid (And.intro hz trivial); have N2 := hid (N1.out.frc HP.out hF hA); clear hz hA hF hh))
  go_end0
  unfold stmtM
  rw [bnd_ok HZ1.out.1, bnd_ok HZ2.out.1]
  exact N2.out.ok
set_option maxRecDepth 100000 in
set_option maxHeartbeats 2000000 in
theorem stmt_10 {X : Xc} {F : Fn} {f : Nd → Ck Nd} {n : Nd} {g o lo hi : Nat} {cs : Array Value} {w : World} {st : Cs} (hC : CkA w X F st) (hn : NdI w g o lo hi n) (hp : Pl X g lo hi) (hB : Blk w g 27 cs) (hx : stmtM f n st ≠ .error none) (hkd : n.kind = 10)
    (hc : Calls Tryz.prog 217 #[.pointer (some ⟨X.c, 0, none⟩), .pointer (some ⟨g, o, none⟩)] w (CkT X F g o lo hi w (f n st))) :
    Calls Tryz.prog 180 #[.pointer (some ⟨X.c, 0, none⟩), .pointer (some ⟨g, o, none⟩)] w (CkT X F g o lo hi w (stmtM f n st)) := by
  have HP := hid hp
  obtain ⟨p, c, c0, c1, c2, c3, c4, hk, hf⟩ := (NS.start hC hn hB).cells
  have HN := hid hx
  have CC := hid hc
  have HB := hid hB
  clear hk hx hC hn hp hc hB c1 c2 c3 c4
  rw [hkd] at c0
  go_enter Tryz.func180, Tryz.ntmps180
  go_wp2_with (first
    | (go_at_call 217; refine CC.out.mono ?_; intro e w1 hh; rcases CkT.cases hh (bnd_ne HN.out) with ⟨m, hz, rfl, hF⟩ | ⟨m, s1, hz, rfl, hN, hA, hF⟩; (case inl => exact ⟨rfl, by unfold stmtM; rw [bnd_err hz]; exact ⟨rfl, hF⟩⟩); have HZ1 := hid (And.intro hz trivial); have N1 := hid (NS.of HB.out hN hA hF); obtain ⟨p1', c1', d0, d1, d2, d3, d4, hk1, hf1⟩ := N1.out.cells; have HN2 : Hid (doneC m s1 ≠ .error none) := hid (by have h := HN.out; unfold stmtM at h; rw [bnd_ok hz] at h; exact bnd_ne h); clear c0 hz hN hA hF hh hk1)
    | (go_at_call 136; refine (done_any m p1' c1' w1 N1.out.a HN2.out).mono ?_; intro e w2 hh; rcases CkP.cases hh HN2.out with ⟨e1, hz, rfl, hF⟩ | ⟨t, s2, v, hz, rfl, hv, hA, hF⟩; (case inl => exact ⟨rfl, by unfold stmtM; rw [bnd_ok HZ1.out.1, bnd_err hz]; exact ⟨rfl, N1.out.bad HP.out hF⟩⟩); have hv' : v = .tuple #[] := hv; subst hv'; have HZ2 := hid (And.intro hz trivial); have N2 := hid (N1.out.frc HP.out hF hA); clear hz hA hF hh))
  go_end0
  unfold stmtM
  rw [bnd_ok HZ1.out.1, bnd_ok HZ2.out.1]
  exact N2.out.ok
set_option maxRecDepth 100000 in
set_option maxHeartbeats 2000000 in
theorem stmt_7 {X : Xc} {F : Fn} {f : Nd → Ck Nd} {n : Nd} {g o lo hi : Nat} {cs : Array Value} {w : World} {st : Cs} (hC : CkA w X F st) (hn : NdI w g o lo hi n) (hp : Pl X g lo hi) (hB : Blk w g 27 cs) (hx : stmtM f n st ≠ .error none) (hkd : n.kind = 7)
    (hc : Calls Tryz.prog 218 #[.pointer (some ⟨X.c, 0, none⟩), .pointer (some ⟨g, o, none⟩)] w (CkT X F g o lo hi w (f n st))) :
    Calls Tryz.prog 180 #[.pointer (some ⟨X.c, 0, none⟩), .pointer (some ⟨g, o, none⟩)] w (CkT X F g o lo hi w (stmtM f n st)) := by
  have HP := hid hp
  obtain ⟨p, c, c0, c1, c2, c3, c4, hk, hf⟩ := (NS.start hC hn hB).cells
  have HN := hid hx
  have CC := hid hc
  have HB := hid hB
  clear hk hx hC hn hp hc hB c1 c2 c3 c4
  rw [hkd] at c0
  go_enter Tryz.func180, Tryz.ntmps180
  go_wp2_with (first
    | (go_at_call 218; refine CC.out.mono ?_; intro e w1 hh; rcases CkT.cases hh (bnd_ne HN.out) with ⟨m, hz, rfl, hF⟩ | ⟨m, s1, hz, rfl, hN, hA, hF⟩; (case inl => exact ⟨rfl, by unfold stmtM; rw [bnd_err hz]; exact ⟨rfl, hF⟩⟩); have HZ1 := hid (And.intro hz trivial); have N1 := hid (NS.of HB.out hN hA hF); obtain ⟨p1', c1', d0, d1, d2, d3, d4, hk1, hf1⟩ := N1.out.cells; have HN2 : Hid (doneC m s1 ≠ .error none) := hid (by have h := HN.out; unfold stmtM at h; rw [bnd_ok hz] at h; exact bnd_ne h); clear c0 hz hN hA hF hh hk1)
    | (go_at_call 136; refine (done_any m p1' c1' w1 N1.out.a HN2.out).mono ?_; intro e w2 hh; rcases CkP.cases hh HN2.out with ⟨e1, hz, rfl, hF⟩ | ⟨t, s2, v, hz, rfl, hv, hA, hF⟩; (case inl => exact ⟨rfl, by unfold stmtM; rw [bnd_ok HZ1.out.1, bnd_err hz]; exact ⟨rfl, N1.out.bad HP.out hF⟩⟩); have hv' : v = .tuple #[] := hv; subst hv'; have HZ2 := hid (And.intro hz trivial); have N2 := hid (N1.out.frc HP.out hF hA); clear hz hA hF hh))
  go_end0
  unfold stmtM
  rw [bnd_ok HZ1.out.1, bnd_ok HZ2.out.1]
  exact N2.out.ok
set_option maxRecDepth 100000 in
set_option maxHeartbeats 2000000 in
theorem stmt_8 {X : Xc} {F : Fn} {f : Nd → Ck Nd} {n : Nd} {g o lo hi : Nat} {cs : Array Value} {w : World} {st : Cs} (hC : CkA w X F st) (hn : NdI w g o lo hi n) (hp : Pl X g lo hi) (hB : Blk w g 27 cs) (hx : stmtM f n st ≠ .error none) (hkd : n.kind = 8)
    (hc : Calls Tryz.prog 218 #[.pointer (some ⟨X.c, 0, none⟩), .pointer (some ⟨g, o, none⟩)] w (CkT X F g o lo hi w (f n st))) :
    Calls Tryz.prog 180 #[.pointer (some ⟨X.c, 0, none⟩), .pointer (some ⟨g, o, none⟩)] w (CkT X F g o lo hi w (stmtM f n st)) := by
  have HP := hid hp
  obtain ⟨p, c, c0, c1, c2, c3, c4, hk, hf⟩ := (NS.start hC hn hB).cells
  have HN := hid hx
  have CC := hid hc
  have HB := hid hB
  clear hk hx hC hn hp hc hB c1 c2 c3 c4
  rw [hkd] at c0
  go_enter Tryz.func180, Tryz.ntmps180
  go_wp2_with (first
    | (go_at_call 218; refine CC.out.mono ?_; intro e w1 hh; rcases CkT.cases hh (bnd_ne HN.out) with ⟨m, hz, rfl, hF⟩ | ⟨m, s1, hz, rfl, hN, hA, hF⟩; (case inl => exact ⟨rfl, by unfold stmtM; rw [bnd_err hz]; exact ⟨rfl, hF⟩⟩); have HZ1 := hid (And.intro hz trivial); have N1 := hid (NS.of HB.out hN hA hF); obtain ⟨p1', c1', d0, d1, d2, d3, d4, hk1, hf1⟩ := N1.out.cells; have HN2 : Hid (doneC m s1 ≠ .error none) := hid (by have h := HN.out; unfold stmtM at h; rw [bnd_ok hz] at h; exact bnd_ne h); clear c0 hz hN hA hF hh hk1)
    | (go_at_call 136; refine (done_any m p1' c1' w1 N1.out.a HN2.out).mono ?_; intro e w2 hh; rcases CkP.cases hh HN2.out with ⟨e1, hz, rfl, hF⟩ | ⟨t, s2, v, hz, rfl, hv, hA, hF⟩; (case inl => exact ⟨rfl, by unfold stmtM; rw [bnd_ok HZ1.out.1, bnd_err hz]; exact ⟨rfl, N1.out.bad HP.out hF⟩⟩); have hv' : v = .tuple #[] := hv; subst hv'; have HZ2 := hid (And.intro hz trivial); have N2 := hid (N1.out.frc HP.out hF hA); clear hz hA hF hh))
  go_end0
  unfold stmtM
  rw [bnd_ok HZ1.out.1, bnd_ok HZ2.out.1]
  exact N2.out.ok
set_option maxRecDepth 100000 in
set_option maxHeartbeats 2000000 in
theorem stmt_11 {X : Xc} {F : Fn} {f : Nd → Ck Nd} {n : Nd} {g o lo hi : Nat} {cs : Array Value} {w : World} {st : Cs} (hC : CkA w X F st) (hn : NdI w g o lo hi n) (hp : Pl X g lo hi) (hB : Blk w g 27 cs) (hx : stmtM f n st ≠ .error none) (hkd : n.kind = 11)
    (hc : Calls Tryz.prog 218 #[.pointer (some ⟨X.c, 0, none⟩), .pointer (some ⟨g, o, none⟩)] w (CkT X F g o lo hi w (f n st))) :
    Calls Tryz.prog 180 #[.pointer (some ⟨X.c, 0, none⟩), .pointer (some ⟨g, o, none⟩)] w (CkT X F g o lo hi w (stmtM f n st)) := by
  have HP := hid hp
  obtain ⟨p, c, c0, c1, c2, c3, c4, hk, hf⟩ := (NS.start hC hn hB).cells
  have HN := hid hx
  have CC := hid hc
  have HB := hid hB
  clear hk hx hC hn hp hc hB c1 c2 c3 c4
  rw [hkd] at c0
  go_enter Tryz.func180, Tryz.ntmps180
  go_wp2_with (first
    | (go_at_call 218; refine CC.out.mono ?_; intro e w1 hh; rcases CkT.cases hh (bnd_ne HN.out) with ⟨m, hz, rfl, hF⟩ | ⟨m, s1, hz, rfl, hN, hA, hF⟩; (case inl => exact ⟨rfl, by unfold stmtM; rw [bnd_err hz]; exact ⟨rfl, hF⟩⟩); have HZ1 := hid (And.intro hz trivial); have N1 := hid (NS.of HB.out hN hA hF); obtain ⟨p1', c1', d0, d1, d2, d3, d4, hk1, hf1⟩ := N1.out.cells; have HN2 : Hid (doneC m s1 ≠ .error none) := hid (by have h := HN.out; unfold stmtM at h; rw [bnd_ok hz] at h; exact bnd_ne h); clear c0 hz hN hA hF hh hk1)
    | (go_at_call 136; refine (done_any m p1' c1' w1 N1.out.a HN2.out).mono ?_; intro e w2 hh; rcases CkP.cases hh HN2.out with ⟨e1, hz, rfl, hF⟩ | ⟨t, s2, v, hz, rfl, hv, hA, hF⟩; (case inl => exact ⟨rfl, by unfold stmtM; rw [bnd_ok HZ1.out.1, bnd_err hz]; exact ⟨rfl, N1.out.bad HP.out hF⟩⟩); have hv' : v = .tuple #[] := hv; subst hv'; have HZ2 := hid (And.intro hz trivial); have N2 := hid (N1.out.frc HP.out hF hA); clear hz hA hF hh))
  go_end0
  unfold stmtM
  rw [bnd_ok HZ1.out.1, bnd_ok HZ2.out.1]
  exact N2.out.ok
set_option maxRecDepth 100000 in
set_option maxHeartbeats 2000000 in
theorem stmt_12 {X : Xc} {F : Fn} {f : Nd → Ck Nd} {n : Nd} {g o lo hi : Nat} {cs : Array Value} {w : World} {st : Cs} (hC : CkA w X F st) (hn : NdI w g o lo hi n) (hp : Pl X g lo hi) (hB : Blk w g 27 cs) (hx : stmtM f n st ≠ .error none) (hkd : n.kind = 12)
    (hc : Calls Tryz.prog 218 #[.pointer (some ⟨X.c, 0, none⟩), .pointer (some ⟨g, o, none⟩)] w (CkT X F g o lo hi w (f n st))) :
    Calls Tryz.prog 180 #[.pointer (some ⟨X.c, 0, none⟩), .pointer (some ⟨g, o, none⟩)] w (CkT X F g o lo hi w (stmtM f n st)) := by
  have HP := hid hp
  obtain ⟨p, c, c0, c1, c2, c3, c4, hk, hf⟩ := (NS.start hC hn hB).cells
  have HN := hid hx
  have CC := hid hc
  have HB := hid hB
  clear hk hx hC hn hp hc hB c1 c2 c3 c4
  rw [hkd] at c0
  go_enter Tryz.func180, Tryz.ntmps180
  go_wp2_with (first
    | (go_at_call 218; refine CC.out.mono ?_; intro e w1 hh; rcases CkT.cases hh (bnd_ne HN.out) with ⟨m, hz, rfl, hF⟩ | ⟨m, s1, hz, rfl, hN, hA, hF⟩; (case inl => exact ⟨rfl, by unfold stmtM; rw [bnd_err hz]; exact ⟨rfl, hF⟩⟩); have HZ1 := hid (And.intro hz trivial); have N1 := hid (NS.of HB.out hN hA hF); obtain ⟨p1', c1', d0, d1, d2, d3, d4, hk1, hf1⟩ := N1.out.cells; have HN2 : Hid (doneC m s1 ≠ .error none) := hid (by have h := HN.out; unfold stmtM at h; rw [bnd_ok hz] at h; exact bnd_ne h); clear c0 hz hN hA hF hh hk1)
    | (go_at_call 136; refine (done_any m p1' c1' w1 N1.out.a HN2.out).mono ?_; intro e w2 hh; rcases CkP.cases hh HN2.out with ⟨e1, hz, rfl, hF⟩ | ⟨t, s2, v, hz, rfl, hv, hA, hF⟩; (case inl => exact ⟨rfl, by unfold stmtM; rw [bnd_ok HZ1.out.1, bnd_err hz]; exact ⟨rfl, N1.out.bad HP.out hF⟩⟩); have hv' : v = .tuple #[] := hv; subst hv'; have HZ2 := hid (And.intro hz trivial); have N2 := hid (N1.out.frc HP.out hF hA); clear hz hA hF hh))
  go_end0
  unfold stmtM
  rw [bnd_ok HZ1.out.1, bnd_ok HZ2.out.1]
  exact N2.out.ok
set_option maxRecDepth 100000 in
set_option maxHeartbeats 2000000 in
theorem stmt_13 {X : Xc} {F : Fn} {f : Nd → Ck Nd} {n : Nd} {g o lo hi : Nat} {cs : Array Value} {w : World} {st : Cs} (hC : CkA w X F st) (hn : NdI w g o lo hi n) (hp : Pl X g lo hi) (hB : Blk w g 27 cs) (hx : stmtM f n st ≠ .error none) (hkd : n.kind = 13)
    (hc : Calls Tryz.prog 218 #[.pointer (some ⟨X.c, 0, none⟩), .pointer (some ⟨g, o, none⟩)] w (CkT X F g o lo hi w (f n st))) :
    Calls Tryz.prog 180 #[.pointer (some ⟨X.c, 0, none⟩), .pointer (some ⟨g, o, none⟩)] w (CkT X F g o lo hi w (stmtM f n st)) := by
  have HP := hid hp
  obtain ⟨p, c, c0, c1, c2, c3, c4, hk, hf⟩ := (NS.start hC hn hB).cells
  have HN := hid hx
  have CC := hid hc
  have HB := hid hB
  clear hk hx hC hn hp hc hB c1 c2 c3 c4
  rw [hkd] at c0
  go_enter Tryz.func180, Tryz.ntmps180
  go_wp2_with (first
    | (go_at_call 218; refine CC.out.mono ?_; intro e w1 hh; rcases CkT.cases hh (bnd_ne HN.out) with ⟨m, hz, rfl, hF⟩ | ⟨m, s1, hz, rfl, hN, hA, hF⟩; (case inl => exact ⟨rfl, by unfold stmtM; rw [bnd_err hz]; exact ⟨rfl, hF⟩⟩); have HZ1 := hid (And.intro hz trivial); have N1 := hid (NS.of HB.out hN hA hF); obtain ⟨p1', c1', d0, d1, d2, d3, d4, hk1, hf1⟩ := N1.out.cells; have HN2 : Hid (doneC m s1 ≠ .error none) := hid (by have h := HN.out; unfold stmtM at h; rw [bnd_ok hz] at h; exact bnd_ne h); clear c0 hz hN hA hF hh hk1)
    | (go_at_call 136; refine (done_any m p1' c1' w1 N1.out.a HN2.out).mono ?_; intro e w2 hh; rcases CkP.cases hh HN2.out with ⟨e1, hz, rfl, hF⟩ | ⟨t, s2, v, hz, rfl, hv, hA, hF⟩; (case inl => exact ⟨rfl, by unfold stmtM; rw [bnd_ok HZ1.out.1, bnd_err hz]; exact ⟨rfl, N1.out.bad HP.out hF⟩⟩); have hv' : v = .tuple #[] := hv; subst hv'; have HZ2 := hid (And.intro hz trivial); have N2 := hid (N1.out.frc HP.out hF hA); clear hz hA hF hh))
  go_end0
  unfold stmtM
  rw [bnd_ok HZ1.out.1, bnd_ok HZ2.out.1]
  exact N2.out.ok
set_option maxRecDepth 100000 in
set_option maxHeartbeats 2000000 in
theorem stmt_14 {X : Xc} {F : Fn} {f : Nd → Ck Nd} {n : Nd} {g o lo hi : Nat} {cs : Array Value} {w : World} {st : Cs} (hC : CkA w X F st) (hn : NdI w g o lo hi n) (hp : Pl X g lo hi) (hB : Blk w g 27 cs) (hx : stmtM f n st ≠ .error none) (hkd : n.kind = 14)
    (hc : Calls Tryz.prog 218 #[.pointer (some ⟨X.c, 0, none⟩), .pointer (some ⟨g, o, none⟩)] w (CkT X F g o lo hi w (f n st))) :
    Calls Tryz.prog 180 #[.pointer (some ⟨X.c, 0, none⟩), .pointer (some ⟨g, o, none⟩)] w (CkT X F g o lo hi w (stmtM f n st)) := by
  have HP := hid hp
  obtain ⟨p, c, c0, c1, c2, c3, c4, hk, hf⟩ := (NS.start hC hn hB).cells
  have HN := hid hx
  have CC := hid hc
  have HB := hid hB
  clear hk hx hC hn hp hc hB c1 c2 c3 c4
  rw [hkd] at c0
  go_enter Tryz.func180, Tryz.ntmps180
  go_wp2_with (first
    | (go_at_call 218; refine CC.out.mono ?_; intro e w1 hh; rcases CkT.cases hh (bnd_ne HN.out) with ⟨m, hz, rfl, hF⟩ | ⟨m, s1, hz, rfl, hN, hA, hF⟩; (case inl => exact ⟨rfl, by unfold stmtM; rw [bnd_err hz]; exact ⟨rfl, hF⟩⟩); have HZ1 := hid (And.intro hz trivial); have N1 := hid (NS.of HB.out hN hA hF); obtain ⟨p1', c1', d0, d1, d2, d3, d4, hk1, hf1⟩ := N1.out.cells; have HN2 : Hid (doneC m s1 ≠ .error none) := hid (by have h := HN.out; unfold stmtM at h; rw [bnd_ok hz] at h; exact bnd_ne h); clear c0 hz hN hA hF hh hk1)
    | (go_at_call 136; refine (done_any m p1' c1' w1 N1.out.a HN2.out).mono ?_; intro e w2 hh; rcases CkP.cases hh HN2.out with ⟨e1, hz, rfl, hF⟩ | ⟨t, s2, v, hz, rfl, hv, hA, hF⟩; (case inl => exact ⟨rfl, by unfold stmtM; rw [bnd_ok HZ1.out.1, bnd_err hz]; exact ⟨rfl, N1.out.bad HP.out hF⟩⟩); have hv' : v = .tuple #[] := hv; subst hv'; have HZ2 := hid (And.intro hz trivial); have N2 := hid (N1.out.frc HP.out hF hA); clear hz hA hF hh))
  go_end0
  unfold stmtM
  rw [bnd_ok HZ1.out.1, bnd_ok HZ2.out.1]
  exact N2.out.ok
set_option maxRecDepth 100000 in
set_option maxHeartbeats 2000000 in
theorem stmt_bad {X : Xc} {F : Fn} {n : Nd} {g o lo hi : Nat} {cs : Array Value} {w : World} {st : Cs} (hC : CkA w X F st) (hn : NdI w g o lo hi n) (hB : Blk w g 27 cs) (h : ¬ (n.kind = 9 ∨ n.kind = 10)) (h2 : ¬ (n.kind = 7 ∨ n.kind = 8 ∨ n.kind = 11 ∨ n.kind = 12 ∨ n.kind = 13 ∨ n.kind = 14)) :
    Calls Tryz.prog 180 #[.pointer (some ⟨X.c, 0, none⟩), .pointer (some ⟨g, o, none⟩)] w (CkT X F g o lo hi w (.error (some 125))) := by
  obtain ⟨p, c, c0, c1, c2, c3, c4, hk, hf⟩ := (NS.start hC hn hB).cells
  have C97 : Hid (∀ W, Calls Tryz.prog 97 #[.int .i64 (125 : Nat)] W fun e w' => e = .panicked (RjV 125) ∧ w' = W) := fun W => reject_any 125 W
  have e7 : (n.kind == 7) = false := by rw [beq_eq_false_iff_ne]; omega
  have e8 : (n.kind == 8) = false := by rw [beq_eq_false_iff_ne]; omega
  have e9 : (n.kind == 9) = false := by rw [beq_eq_false_iff_ne]; omega
  have e10 : (n.kind == 10) = false := by rw [beq_eq_false_iff_ne]; omega
  have e11 : (n.kind == 11) = false := by rw [beq_eq_false_iff_ne]; omega
  have e12 : (n.kind == 12) = false := by rw [beq_eq_false_iff_ne]; omega
  have e13 : (n.kind == 13) = false := by rw [beq_eq_false_iff_ne]; omega
  have e14 : (n.kind == 14) = false := by rw [beq_eq_false_iff_ne]; omega
  generalize n.kind = kd at *
  clear hk c1 c2 c3 c4 hn h h2
  go_enter Tryz.func180, Tryz.ntmps180
  go_wp2_with (go_at_call 97; refine (C97.out _).mono ?_; rintro e w2 ⟨rfl, hw⟩; replace hw := hw.symm; subst hw; clear C97)
  exact ⟨rfl, rfl, FrN.refl _ _ _ _ _ _⟩
theorem statement_any {X : Xc} {F : Fn} {k : Nat} {R : Rc} (hE : ElC X F 211 (exprC F k)) (hR : ElC X F 139 R.block) : ElC X F 180 (statementC F k R) := by
  intro n g o lo hi cs w st hC hn p1 p2 p3 hB hx
  by_cases h : n.kind = 9 ∨ n.kind = 10
  · rw [stmt_br F k R n h] at hx ⊢
    have hc := branches_any hE hR n g o lo hi cs w st hC hn p1 p2 p3 hB (bnd_ne hx)
    rcases h with h | h
    · exact stmt_9 hC hn ⟨p1, p2, p3⟩ hB hx h hc
    · exact stmt_10 hC hn ⟨p1, p2, p3⟩ hB hx h hc
  · by_cases h2 : n.kind = 7 ∨ n.kind = 8 ∨ n.kind = 11 ∨ n.kind = 12 ∨ n.kind = 13 ∨ n.kind = 14
    · rw [stmt_line F k R n h h2] at hx ⊢
      have hc := line_any hE hC hn p1 p2 p3 hB (bnd_ne hx) h2
      rcases h2 with h | h | h | h | h | h
      · exact stmt_7 hC hn ⟨p1, p2, p3⟩ hB hx h hc
      · exact stmt_8 hC hn ⟨p1, p2, p3⟩ hB hx h hc
      · exact stmt_11 hC hn ⟨p1, p2, p3⟩ hB hx h hc
      · exact stmt_12 hC hn ⟨p1, p2, p3⟩ hB hx h hc
      · exact stmt_13 hC hn ⟨p1, p2, p3⟩ hB hx h hc
      · exact stmt_14 hC hn ⟨p1, p2, p3⟩ hB hx h hc
    · rw [stmt_no F k R n st h h2]
      exact stmt_bad hC hn hB h h2
end Ck
end Go.Proofs.YtajoncmmdeahnaaGreatDoor
