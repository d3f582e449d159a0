/-
  The parser's small steps: typed. The parser: parameter, bracketed.
-/
import Derived.Test.YtajoncmmdeahnaaGreatDoorKPd
namespace Go.Proofs.YtajoncmmdeahnaaGreatDoor
open Go.RowKit
namespace Pm
def tyOf (s : List UInt8) : Nat := if s == wInt then 1 else if s == wFloat then 2 else if s == wBool then 3 else 0
theorem typed_eq {p : Ps} {t : Tk} {r : List Tk} (hw : p.ws = t :: r) : typedP p = if tyOf t.s = 0 then .error (some (t.pl, 110)) else (match passP p with | .ok (_, q) => .ok ((tyOf t.s : Int), q) | .error e => .error e) := by
  unfold typedP tyOf
  rw [bnd_ok (nxt_eq hw)]
  by_cases h1 : (t.s == wInt) = true
  · rw [if_pos h1, if_pos h1, if_neg (by decide)]
    cases hp : passP p with
    | ok x => rw [bnd_ok hp]; rfl
    | error e => rw [bnd_err hp]
  · rw [if_neg h1, if_neg h1]
    by_cases h2 : (t.s == wFloat) = true
    · rw [if_pos h2, if_pos h2, if_neg (by decide)]
      cases hp : passP p with
      | ok x => rw [bnd_ok hp]; rfl
      | error e => rw [bnd_err hp]
    · rw [if_neg h2, if_neg h2]
      by_cases h3 : (t.s == wBool) = true
      · rw [if_pos h3, if_pos h3, if_neg (by decide)]
        cases hp : passP p with
        | ok x => rw [bnd_ok hp]; rfl
        | error e => rw [bnd_err hp]
      · rw [if_neg h3, if_neg h3, if_pos rfl, fail_eq 110 hw]
set_option maxRecDepth 100000 in
theorem typed_any {b tg cp : Nat} {all : List Tk} {p : Ps} (w : World) (hP : PsA w b tg cp all p) (hx : typedP p ≠ .error none) :
    Calls Tryz.prog 122 #[.pointer (some ⟨b, 0, none⟩)] w (PrP iV b tg cp all w (typedP p)) := by
  match hw : p.ws with
  | [] => exact absurd (by unfold typedP; rw [bnd_err (nxt_nil hw)]) hx
  | t :: r =>
    have C38 := hid (next_any w hP hw)
    unfold tkS at C38
    rw [typed_eq hw] at hx ⊢
    have f1 := fld1
    have C82 : Hid (∀ W, w.grownBy W none → _) := fun W hW => fail_any 110 W (hP.kept hW) hw
    have key : (t.s == wInt) = true ∧ tyOf t.s = 1 ∨ (t.s == wInt) = false ∧ (t.s == wFloat) = true ∧ tyOf t.s = 2 ∨ (t.s == wInt) = false ∧ (t.s == wFloat) = false ∧ (t.s == wBool) = true ∧ tyOf t.s = 3 ∨ (t.s == wInt) = false ∧ (t.s == wFloat) = false ∧ (t.s == wBool) = false ∧ tyOf t.s = 0 := by
      unfold tyOf
      cases (t.s == wInt) <;> cases (t.s == wFloat) <;> cases (t.s == wBool) <;> simp
    by_cases h0 : tyOf t.s = 0
    · rw [if_pos h0]
      rcases key with ⟨_, k⟩ | ⟨_, _, k⟩ | ⟨_, _, _, k⟩ | ⟨k1, k2, k3, _⟩
      · omega
      · omega
      · omega
      · unfold wInt at k1
        unfold wFloat at k2
        unfold wBool at k3
        clear hx hw hP h0
        go_enter Tryz.func122, Tryz.ntmps122
        go_wp2_with (first
          | (go_at_call 38; refine C38.out.mono ?_; rintro e w1 ⟨rfl, g1⟩; have G1 := hid g1; clear g1 C38)
          | (go_at_call 82; refine (C82.out _ G1.out).mono ?_; rintro e w2 ⟨rfl, g2⟩; have G2 := hid (grown_none G1.out g2); clear g2 C82))
        exact ⟨rfl, rfl, grown_b G2.out⟩
    · rw [if_neg h0] at hx
      rw [if_neg h0]
      have hx2 : passP p ≠ .error none := fun h => by rw [h] at hx; exact hx rfl
      have C43 : Hid (∀ W, w.grownBy W none → _) := fun W hW => pass_any W (hP.kept hW) hx2
      clear hw hP C82 hx
      rcases hz : passP p with e0 | ⟨u, q⟩
      · rcases e0 with _ | ⟨at_, n⟩
        · exact absurd hz hx2
        · rw [hz] at C43
          clear hx2 hz
          rcases key with ⟨k1, k⟩ | ⟨k1, k2, k⟩ | ⟨k1, k2, k3, k⟩ | ⟨k1, k2, k3, k⟩
          all_goals
            first
              | (exact absurd k h0)
              | (clear h0 k
                 unfold wInt at k1
                 try unfold wFloat at k2
                 try unfold wBool at k3
                 go_enter Tryz.func122, Tryz.ntmps122
                 go_wp2_with (first
                   | (go_at_call 38; refine C38.out.mono ?_; rintro e w1 ⟨rfl, g1⟩; have G1 := hid g1; clear g1 C38)
                   | (go_at_call 43; refine (C43.out _ G1.out).mono ?_; rintro e w2 ⟨rfl, g2⟩; have G2 := hid (grown_bb (grown_b G1.out) g2); clear g2 C43))
                 exact ⟨rfl, rfl, G2.out⟩)
      · rw [hz] at C43
        clear hx2 hz
        rcases key with ⟨k1, k⟩ | ⟨k1, k2, k⟩ | ⟨k1, k2, k3, k⟩ | ⟨k1, k2, k3, k⟩
        all_goals
          first
            | (exact absurd k h0)
            | (rw [k]
               clear h0 k
               unfold wInt at k1
               try unfold wFloat at k2
               try unfold wBool at k3
               go_enter Tryz.func122, Tryz.ntmps122
               go_wp2_with (first
                 | (go_at_call 38; refine C38.out.mono ?_; rintro e w1 ⟨rfl, g1⟩; have G1 := hid g1; clear g1 C38)
                 | (go_at_call 43; refine (C43.out _ G1.out).mono ?_; rintro e w2 ⟨v, rfl, rfl, p2, g2⟩; have P2 := hid p2; have G2 := hid (grown_bb (grown_b G1.out) g2); clear p2 g2 C43))
               go_ret
               exact ⟨_, rfl, rfl, P2.out, G2.out⟩)
end Pm
end Go.Proofs.YtajoncmmdeahnaaGreatDoor
namespace Go.Proofs.YtajoncmmdeahnaaGreatDoor
open Go.RowKit
namespace Pm
theorem bnd_ne {α β : Type} {x : Pr α} {f : α → Pr β} {p : Ps} (h : (x >>= f) p ≠ .error none) : x p ≠ .error none := fun e => h (bnd_err e)
theorem PrP.cases {α : Type} {V : World → α → Value → Prop} {b tg cp : Nat} {all : List Tk} {w w' : World} {x : Rs α} {e : Ending} (h : PrP V b tg cp all w x e w') (hx : x ≠ .error none) :
    (∃ at_ n, x = .error (some (at_, n)) ∧ e = .panicked (FlV at_ n) ∧ w.grownBy w' (some b)) ∨ (∃ a p v, x = .ok (a, p) ∧ e = .returned v ∧ V w' a v ∧ PsA w' b tg cp all p ∧ w.grownBy w' (some b)) := by
  match x, h with
  | .ok (a, p), ⟨v, h1, h2, h3, h4⟩ => exact Or.inr ⟨a, p, v, rfl, h1, h2, h3, h4⟩
  | .error (some (at_, n)), ⟨h1, h2⟩ => exact Or.inl ⟨at_, n, rfl, h1, h2⟩
  | .error none, _ => exact absurd rfl hx
theorem made_ok {n x : Nd} {p q : Ps} (h : madeP n p = .ok (x, q)) : x = n := by
  rw [made_eq] at h
  split at h
  · injection h with h
    injection h with h1 h2
    exact h1.symm
  · cases h
set_option maxRecDepth 100000 in
set_option maxHeartbeats 1000000 in
theorem parameter_any {b tg cp : Nat} {all : List Tk} {p : Ps} (w : World) (hP : PsA w b tg cp all p) (hx : parameterP p ≠ .error none) :
    Calls Tryz.prog 125 #[.pointer (some ⟨b, 0, none⟩)] w (PrP (nV w.heap.size) b tg cp all w (parameterP p)) := by
  have hbl := hP.lt
  have htl := hP.tgl
  have X0 := hid (Blk.new w 27 #[.int .i64 0, .int .i64 0, .string ⟨#[]⟩, .int .i64 0, .slice none 0 0])
  unfold parameterP at hx ⊢
  have hx1 := bnd_ne hx
  have C121 : Hid (∀ W, Loc w.heap.size w W → Calls Tryz.prog 121 #[.pointer (some ⟨b, 0, none⟩)] W (PrP sV b tg cp all W (nameP p))) := fun W hW => name_any W (hP.loc hW hbl htl) hx1
  have G0 := hid (grown_refl w (some b))
  rcases hz1 : nameP p with e0 | ⟨s, q1⟩
  · rw [bnd_err hz1]
    rcases e0 with _ | ⟨at_, n⟩
    · exact absurd hz1 hx1
    · rw [hz1] at C121
      clear hx hx1 hz1 hP X0
      go_enter Tryz.func125, Tryz.ntmps125
      go_wp2_with (first
        | (go_at_call 121; refine (C121.out _ (by repeat (first | exact Loc.refl _ _ | refine Loc.alloc ?_ _))).mono ?_; rintro e w1 ⟨rfl, g1⟩; have G1 := hid (grown_bb (Loc.grown G0.out (by repeat (first | exact Loc.refl _ _ | refine Loc.alloc ?_ _))) g1); clear g1 C121))
      exact ⟨rfl, rfl, G1.out⟩
  · rw [bnd_ok hz1] at hx ⊢
    have hx2 := bnd_ne hx
    have C122 : Hid (∀ W, PsA W b tg cp all q1 → Calls Tryz.prog 122 #[.pointer (some ⟨b, 0, none⟩)] W (PrP iV b tg cp all W (typedP q1))) := fun W hW => typed_any W hW hx2
    rw [hz1] at C121
    clear hx1 hz1 hP
    rcases hz2 : typedP q1 with e0 | ⟨ty, q2⟩
    · rw [bnd_err hz2]
      rcases e0 with _ | ⟨at_, n⟩
      · exact absurd hz2 hx2
      · rw [hz2] at C122
        clear hx hx2 hz2 X0
        go_enter Tryz.func125, Tryz.ntmps125
        go_wp2_with (first
          | (go_at_call 121; refine (C121.out _ (by repeat (first | exact Loc.refl _ _ | refine Loc.alloc ?_ _))).mono ?_; rintro e w1 ⟨v1, rfl, rfl, p1, g1⟩; have P1 := hid p1; have G1 := hid (grown_bb (Loc.grown G0.out (by repeat (first | exact Loc.refl _ _ | refine Loc.alloc ?_ _))) g1); clear p1 g1 C121)
          | (go_at_call 122; refine (C122.out _ P1.out).mono ?_; rintro e w2 ⟨rfl, g2⟩; have G2 := hid (grown_bb G1.out g2); clear g2 C122))
        exact ⟨rfl, rfl, G2.out⟩
    · rw [bnd_ok hz2] at hx ⊢
      rw [hz2] at C122
      have C42 : Hid (∀ W, PsA W b tg cp all q2 → Calls Tryz.prog 42 #[.pointer (some ⟨b, 0, none⟩), .agg #[.int .i64 5, .int .i64 ty, .string s, .int .i64 0, .slice none 0 0]] W (PrP (fun _ _ v => v = .agg #[.int .i64 5, .int .i64 ty, .string s, .int .i64 0, .slice none 0 0]) b tg cp all W (madeP (.mk 5 ty s 0 []) q2))) := fun W hW => made_any _ 5 ty s 0 none 0 0 W hW hx
      rcases hz3 : madeP (.mk 5 ty s 0 []) q2 with e0 | ⟨x, q3⟩
      · rcases e0 with _ | ⟨at_, n⟩
        · exact absurd hz3 hx
        · rw [made_eq] at hz3
          split at hz3 <;> cases hz3
      · have hxn : x = .mk 5 ty s 0 [] := by
          rw [made_eq] at hz3
          split at hz3
          · injection hz3 with hz3
            injection hz3 with h1 h2
            exact h1.symm
          · cases hz3
        subst hxn
        rw [hz3] at C42
        clear hx hx2 hz2 hz3
        go_enter Tryz.func125, Tryz.ntmps125
        go_wp2_with (first
          | (go_at_call 121; refine (C121.out _ (by repeat (first | exact Loc.refl _ _ | refine Loc.alloc ?_ _))).mono ?_; rintro e w1 ⟨v1, rfl, rfl, p1, g1⟩; have P1 := hid p1; have G1 := hid (grown_bb (Loc.grown G0.out (by repeat (first | exact Loc.refl _ _ | refine Loc.alloc ?_ _))) g1); have X1 := hid (X0.out.kept g1 (lt_nb hbl _ (Nat.le_refl _))); clear p1 g1 C121)
          | (go_at_call 122; refine (C122.out _ P1.out).mono ?_; rintro e w2 ⟨v2, rfl, rfl, p2, g2⟩; have P2 := hid p2; have G2 := hid (grown_bb G1.out g2); have X2 := hid (X1.out.kept g2 (lt_nb hbl _ (Nat.le_refl _))); clear p2 g2 C122)
          | (go_at_call 42; refine (C42.out _ P2.out).mono ?_; rintro e w3 ⟨v3, rfl, rfl, p3, g3⟩; have P3 := hid p3; have G3 := hid (grown_bb G2.out g3); have X3 := hid (X2.out.kept g3 (lt_nb hbl _ (Nat.le_refl _))); clear p3 g3 C42)
          | (refine store_nd (.tmp 2) (.tmp 9) rfl rfl w.heap.size X3.out rfl rfl ?_; intro w5 b5 g5; have Z1 := hid b5; have G5 := hid (grown_to G3.out g5 (Nat.le_refl _)); have P5 := hid (P3.out.keptG g5 (by omega) (by omega)); clear b5 g5))
        refine bodyPost_ret (results_nd rfl _ _ w.heap.size rfl Z1.out) rfl ?_
        exact ⟨_, rfl, ⟨_, rfl, KsV.nil _ _⟩, P5.out, G5.out⟩
end Pm
end Go.Proofs.YtajoncmmdeahnaaGreatDoor
