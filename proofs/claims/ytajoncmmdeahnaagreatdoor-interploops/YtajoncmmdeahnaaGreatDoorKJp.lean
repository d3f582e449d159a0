/-
  strconv.Itoa. A loop that does not end takes all fuel: of the interpreter as a function.
-/
import Derived.Test.YtajoncmmdeahnaaGreatDoorKJl
import Derived.Shelf.Strconv.Itoa3
import Derived.Lib.AppendIntMem
namespace Go.Proofs.YtajoncmmdeahnaaGreatDoor
open Go.RowKit Go.Shelf
namespace Rn
def itoaR : Ren := { f := fun n => if n = 171 then 16 else if n = 243 then 30 else if n = 246 then 56 else if n = 283 then 100 else if n = 284 then 101 else if n = 285 then 102 else if n = 286 then 103 else if n = 129 then 143 else if n = 317 then 142 else if n = 318 then 144 else if n = 319 then 145 else if n = 320 then 146 else if n = 337 then 181 else if n = 338 then 182 else n, t := fun n => if n = 3 then 3 else if n = 9 then 9 else if n = 2 then 2 else if n = 4 then 4 else if n = 171 then 146 else if n = 0 then 0 else if n = 53 then 147 else if n = 37 then 24 else if n = 5 then 5 else if n = 173 then 150 else if n = 212 then 175 else if n = 51 then 176 else if n = 20 then 20 else if n = 213 then 177 else if n = 46 then 157 else if n = 232 then 225 else if n = 233 then 226 else n, g := fun n => if n = 17 then 0 else if n = 18 then 2 else if n = 19 then 3 else n }
set_option maxRecDepth 100000 in
theorem itoaL : LaysM.n171 Tryz.prog itoaR := by
  constructor
  · constructor <;> first | kernel_rfl | (intro w; kernel_rfl)
  all_goals first | kernel_rfl | (intro w; kernel_rfl)
def dgL (k : Nat) : List UInt8 := if k < 10 then [UInt8.ofNat (48 + k)] else if k < 100 then [UInt8.ofNat (48 + k / 10), UInt8.ofNat (48 + k % 10)] else [49, UInt8.ofNat (48 + k / 10 % 10), UInt8.ofNat (48 + k % 10)]
theorem dgL_len (k : Nat) : (dgL k).length ≤ 3 := by
  unfold dgL
  split
  · simp
  · split <;> simp
set_option maxRecDepth 100000 in
theorem itoa_all : ((List.range 128).all fun (k : Nat) => Lib.itoa (k : Int) == dgL k) = true := by kernel_rfl
theorem itoa_any (k : Nat) (hk : k < 128) (w : World) (ht : Lib.TabIs Tryz.prog w "internal/strconv.uint64pow10" .u64 Lib.pow10Tab) : Calls Tryz.prog 16 #[.int .i64 k] w fun e w' => e = .returned (.string (Sc.mkS (dgL k))) ∧ w.grownBy w' none := by
  refine (Any.strconv_Itoa itoaL k (by omega) (by omega) w ht).mono ?_
  rintro e w' ⟨rfl, n, os, rfl⟩
  have h1 := List.all_eq_true.1 itoa_all k (List.mem_range.2 hk)
  rw [beq_iff_eq] at h1
  rw [h1]
  exact ⟨rfl, rfl, rfl, rfl, by show w.heap.size ≤ (w.heap ++ os).size; rw [Array.size_append]; omega, fun g hg _ => Lib.heap_grow_old w n os g hg⟩
end Rn
end Go.Proofs.YtajoncmmdeahnaaGreatDoor
namespace Go.Proofs.YtajoncmmdeahnaaGreatDoor
open Go.RowKit
namespace Ip
def TrapAt {α : Type} (f : Nat) (r : Re α) : Prop := ∃ q, r = .error (some (6, q)) ∧ q.steps = f
theorem TrapAt.bnd {α β : Type} {f : Nat} {x : In α} {g : α → In β} {p : Ms} (h : TrapAt f (x p)) : TrapAt f ((x >>= g) p) := by
  obtain ⟨q, e, hq⟩ := h
  exact ⟨q, bnd_err e, hq⟩
def okP (x : Pd) : Bool := decide (x.nm.size ≤ 1000000) && decide (-9223372036854775808 ≤ x.pl) && decide (x.pl ≤ 9223372036854775807)
section
variable {L : Fl} {E : Env} {R : Rc} {d k : Nat} {x n : Pd} {st : Ms}
theorem step_or (hx : okP x = true) (hs : st.steps ≤ E.fuel) : TrapAt E.fuel (stepM E x st) ∨ ∃ s, stepM E x st = .ok ((), s) ∧ s.steps = st.steps + 1 ∧ s.steps ≤ E.fuel := by
  unfold okP at hx
  simp only [Bool.and_eq_true, decide_eq_true_eq] at hx
  by_cases h : st.steps = E.fuel
  · exact Or.inl ⟨st, by unfold stepM; rw [if_pos h], h⟩
  · refine Or.inr ⟨{ st with steps := st.steps + 1, vis := updS st.vis x.nm x.pl (IntKind.i64.wrap ((st.vis x.nm x.pl).getD 0 + 1)) }, ?_, rfl, ?_⟩
    · unfold stepM
      rw [if_neg h, if_neg (by omega)]
    · show st.steps + 1 ≤ E.fuel
      omega
theorem lit_or (hx : okP x = true) (hk : x.kind = 22) (hs : st.steps ≤ E.fuel) : TrapAt E.fuel (exprM L E R d x st) ∨ ∃ s, exprM L E R d x st = .ok ((x.ty, x.num), s) ∧ s.steps = st.steps + 1 ∧ s.steps ≤ E.fuel := by
  unfold exprM
  rcases step_or hx hs with h | ⟨s, h, h1, h2⟩
  · exact Or.inl h.bnd
  · refine Or.inr ⟨s, ?_, h1, h2⟩
    rw [bnd_ok h, if_neg (by omega), if_neg (by omega), if_neg (by omega), if_neg (by omega), if_neg (by omega)]
    rfl
theorem skip_or (hx : okP x = true) (hk : x.kind = 14) (hs : st.steps ≤ E.fuel) : TrapAt E.fuel (stmtM E R k d x st) ∨ ∃ s, stmtM E R k d x st = .ok (false, s) ∧ s.steps = st.steps + 1 ∧ s.steps ≤ E.fuel := by
  unfold stmtM
  rcases step_or hx hs with h | ⟨s, h, h1, h2⟩
  · exact Or.inl h.bnd
  · refine Or.inr ⟨s, ?_, h1, h2⟩
    rw [bnd_ok h, if_neg (by omega), if_neg (by omega), if_neg (by omega), if_neg (by omega), if_neg (by omega), if_neg (by omega), if_neg (by omega)]
    rfl
theorem body_or {y : Pd} (hx : okP x = true) (hk : x.kids = [y]) (hy : okP y = true) (hyk : y.kind = 14) (hs : st.steps ≤ E.fuel) : TrapAt E.fuel (blockM E R k d x st) ∨ ∃ s, blockM E R k d x st = .ok (false, s) ∧ s.steps = st.steps + 2 ∧ s.steps ≤ E.fuel := by
  unfold blockM
  rw [hk]
  rcases step_or hx hs with h | ⟨s, h, h1, h2⟩
  · exact Or.inl h.bnd
  · rw [bnd_ok h]
    unfold stmtsM
    rcases skip_or (R := R) (k := k) (d := d) hy hyk h2 with h3 | ⟨s3, h3, h4, h5⟩
    · exact Or.inl h3.bnd
    · refine Or.inr ⟨s3, ?_, by omega, h5⟩
      rw [bnd_ok h3]
      rfl
theorem loop_trap {c b : Pd} (h0 : n.kids[0]? = some c) (h1 : n.kids[1]? = some b) (hc : ∀ s : Ms, s.steps ≤ E.fuel → TrapAt E.fuel (R.ex d c s) ∨ ∃ s' v, R.ex d c s = .ok (v, s') ∧ trueV v = true ∧ s'.steps = s.steps + 1 ∧ s'.steps ≤ E.fuel)
    (hb : ∀ s : Ms, s.steps ≤ E.fuel → TrapAt E.fuel (R.bl d b s) ∨ ∃ s', R.bl d b s = .ok (false, s') ∧ s'.steps = s.steps + 2 ∧ s'.steps ≤ E.fuel) : ∀ (j : Nat) (s : Ms), s.steps ≤ E.fuel → E.fuel < 3 * j + s.steps → TrapAt E.fuel (loopM R d n j s)
  | 0, s, hs, hj => by omega
  | j + 1, s, hs, hj => by
    unfold loopM kidM
    rw [h0, h1]
    simp only []
    rcases hc s hs with h | ⟨s1, v, h, hv, e1, l1⟩
    · exact h.bnd
    · rw [bnd_ok h, if_pos hv]
      rcases hb s1 l1 with h | ⟨s2, h, e2, l2⟩
      · exact h.bnd
      · rw [bnd_ok h]
        exact loop_trap h0 h1 hc hb j s2 l2 (by omega)
end
def shapeB (b : Pd) : Bool := match b.kids with
  | [lp] => okP b && okP lp && lp.kind == 10 && (match lp.kids with
    | [c, bd] => okP c && c.kind == 22 && c.ty == 3 && c.num == 1 && okP bd && (match bd.kids with
      | [sk] => okP sk && sk.kind == 14
      | _ => false)
    | _ => false)
  | _ => false
theorem block_trap {L : Fl} {E : Env} {b : Pd} (h : shapeB b = true) (k : Nat) (g : Vm) (hk : E.fuel < 3 * k) : TrapAt E.fuel ((rc L E (k + 2)).bl 0 b (start g)) := by
  unfold shapeB at h
  split at h
  case h_2 => cases h
  case h_1 lp hb =>
    split at h
    case h_2 => simp at h
    case h_1 c bd hl =>
      split at h
      case h_2 => simp at h
      case h_1 sk hs =>
        simp only [Bool.and_eq_true, beq_iff_eq] at h
        obtain ⟨⟨⟨o1, o2⟩, k1⟩, ⟨⟨⟨⟨⟨o3, k2⟩, k3⟩, k4⟩, o4⟩, o5, k5⟩⟩ := h
        show TrapAt E.fuel (blockM E (rc L E (k + 1)) (k + 1) 0 b (start g))
        unfold blockM
        rw [hb]
        rcases step_or (E := E) o1 (show (start g).steps ≤ E.fuel from Nat.zero_le _) with h | ⟨s, h, e1, l1⟩
        · exact h.bnd
        · rw [bnd_ok h]
          unfold stmtsM
          refine TrapAt.bnd ?_
          unfold stmtM
          rcases step_or (E := E) o2 l1 with h | ⟨s2, h, e2, l2⟩
          · exact h.bnd
          · rw [bnd_ok h, if_neg (by omega), if_pos k1]
            refine loop_trap (c := c) (b := bd) (by rw [hl]; rfl) (by rw [hl]; rfl) (fun s hs0 => ?_) (fun s hs0 => ?_) (k + 1) s2 l2 (by omega)
            · show TrapAt E.fuel (exprM L E (rc L E k) 0 c s) ∨ _
              rcases lit_or (L := L) (R := rc L E k) (d := 0) o3 k2 hs0 with h | ⟨s', h, e, l⟩
              · exact Or.inl h
              · exact Or.inr ⟨s', _, h, by rw [k3, k4]; rfl, e, l⟩
            · exact body_or o4 hs o5 k5 hs0
def preB (kc : Nat) (n : Nd) (test : ByteArray) : Bool := match Ck.checkT kc n with
  | .error _ => false
  | .ok m => Ck.okB m && decide (test.size ≤ 1000000) && (match findM m.kids test with
    | none => false
    | some d => d.kind == 4) && (globsOf m.kids fun _ => none).isSome && (match bodsOf m.kids (fun _ => none) test with
    | none => false
    | some (_, b) => shapeB b)
theorem run_trap {L : Fl} {kc : Nat} {n : Nd} {test : ByteArray} (h : preB kc n test = true) (k f : Nat) (hf : f ≤ 20000) (hk : f < 3 * k) : ∃ q, runX L kc (k + 2) n test f = some (6, q) ∧ q.steps = f := by
  unfold preB at h
  unfold runX
  cases hc : Ck.checkT kc n with
  | error e => rw [hc] at h; cases h
  | ok m =>
    rw [hc] at h
    simp only [Bool.and_eq_true, decide_eq_true_eq] at h ⊢
    obtain ⟨⟨⟨⟨h1, h2⟩, h3⟩, h4⟩, h5⟩ := h
    rw [if_pos ⟨h1, hf, h2⟩]
    cases hfi : findM m.kids test with
    | none => rw [hfi] at h3; cases h3
    | some d =>
      rw [hfi] at h3
      have h3 : d.kind = 4 := by simpa using h3
      simp only []
      rw [if_pos h3]
      unfold runM
      obtain ⟨G, hG⟩ := Option.isSome_iff_exists.1 h4
      rw [hG]
      simp only []
      unfold endM
      cases hb : bodsOf m.kids (fun _ => none) test with
      | none => rw [hb] at h5; cases h5
      | some y =>
        obtain ⟨ps, b⟩ := y
        rw [hb] at h5
        have h5 : shapeB b = true := h5
        have hb' : (envOf m f).bod test = some (ps, b) := hb
        rw [hb']
        obtain ⟨q, e, hq⟩ := block_trap (L := L) (E := envOf m f) h5 k G hk
        have e : (rc L (envOf m f) (k + 2)).bl 0 b ⟨fun _ => none, G, (0, 0), 0, fun _ _ => none, 0⟩ = .error (some (6, q)) := e
        simp only [e]
        exact ⟨q, rfl, hq⟩
end Ip
end Go.Proofs.YtajoncmmdeahnaaGreatDoor
