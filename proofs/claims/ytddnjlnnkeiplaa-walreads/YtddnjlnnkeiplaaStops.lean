/-
  survivors as an iterator: its contract.
-/
import Derived.Test.YtddnjlnnkeiplaaSurv
import Derived.Test.YtddnjlnnkeiplaaPerf
namespace Go.Proofs.Ytddnjlnnkeiplaa
open Go.RowKit Go.Maps Go.Shelf
attribute [local go_sem] Oper.semAt_some
set_option maxRecDepth 100000 in
set_option maxHeartbeats 1000000 in
theorem surv_none (l b Bd Bk Bt cap : Nat) (pa : Option Addr) (J : List OkChg → World → Prop) (W : World) (hd : W.cell? ⟨Bd, 0, none⟩ = some (.pointer (some ⟨b, 0, none⟩))) (h2 : W.cell? ⟨b, 2, none⟩ = some (.slice pa 0 cap)) (h0 : J [] W) :
    CallsIn Fence.wide 4 Try.prog 77 #[.func (.yield l) #[] #[], .pointer (some ⟨Bd, 0, none⟩), .pointer (some ⟨Bk, 0, none⟩), .pointer (some ⟨Bt, 0, none⟩)] W fun e W' => (∃ v, e = .returned v) ∧ J [] W' := by
  have H0 : Hid (J [] W) := h0
  clear h0
  refine callsIn_of_wp Try.func77 rfl trivial ?_ rfl
  simp only [Try.ntmps77, List.size_toArray, List.length_cons, List.length_nil, Nat.reduceAdd, Nat.reduceSub, Array.replicate_succ, Array.replicate_zero, List.push_toArray, List.append_toArray, List.nil_append, List.cons_append]
  gi_wp2
  gi_loopw [14] (fun i wr => i = .int .i64 0 ∧ wr = W) (fun _ _ => 0)
  case atStart => exact ⟨rfl, rfl⟩
  case round =>
    obtain ⟨rfl, rfl⟩ := hrel
    gi_wp2
    go_end0
    exact ⟨⟨_, rfl⟩, H0.out⟩
set_option maxRecDepth 100000 in
theorem surv_mk (b : Nat) (keep torn : Int) (w : World) : Calls Try.prog 63 #[.pointer (some ⟨b, 0, none⟩), .int .i64 keep, .int .i64 torn] w fun e w' =>
    e = .returned (.func (.func 77) #[] #[.pointer (some ⟨w.heap.size, 0, none⟩), .pointer (some ⟨w.heap.size + 1, 0, none⟩), .pointer (some ⟨w.heap.size + 1 + 1, 0, none⟩)])
    ∧ w' = ((w.alloc (.cells #[.pointer (some ⟨b, 0, none⟩)] 23)).alloc (.cells #[.int .i64 keep] 3)).alloc (.cells #[.int .i64 torn] 3) := by
  go_enter Try.func63, Try.ntmps63
  go_wp2
  go_ret
  exact ⟨rfl, rfl⟩
/-- The loose changes of a disk, as an iterator that is ranged over. -/
theorem surv_stops (base b Bd Bk Bt n1 gm : Nat) (keep torn : Int) (vl : Value) (loose : List Chg) (L : Nat → OkChg) (w : World) (hL : ∀ k, (h : k < loose.length) → loose[k] = (L k).1) (hl63 : loose.length ≤ 63) (ht1 : torn ≤ 9223372036854775807)
    (hn1 : n1 ≤ w.heap.size) (hbd : Bd < w.heap.size) (hb : b < w.heap.size) (hbk : Bk < n1 ∧ Bk ≠ gm) (hbt : Bt < n1 ∧ Bt ≠ gm) (hgg : ∀ g, vl.ownBlock = some g → g < n1 ∧ g ≠ gm)
    (hd : w.cell? ⟨Bd, 0, none⟩ = some (.pointer (some ⟨b, 0, none⟩))) (hk : w.cell? ⟨Bk, 0, none⟩ = some (.int .i64 keep)) (ht : w.cell? ⟨Bt, 0, none⟩ = some (.int .i64 torn))
    (h2 : w.cell? ⟨b, 2, none⟩ = some vl) (hrow : w.ownsRow base 101 5 vl loose.length (looseL loose)) :
    SeqStopsK Fence.wide 4 Try.prog 77 #[.pointer (some ⟨Bd, 0, none⟩), .pointer (some ⟨Bk, 0, none⟩), .pointer (some ⟨Bt, 0, none⟩)] (fun x : OkChg => #[x.1.val]) (KeepsBut n1 gm) (fun xs => xs = (stTo keep torn L loose.length).1) (fun _ => True) 63 w := fun l J Jx W hW hJa _ hY h0 => by
  have hd' := (hW.cell (p := ⟨Bd, 0, none⟩) hbd).trans hd
  have hk' := (hW.cell (p := ⟨Bk, 0, none⟩) (Nat.lt_of_lt_of_le hbk.1 hn1)).trans hk
  have ht' := (hW.cell (p := ⟨Bt, 0, none⟩) (Nat.lt_of_lt_of_le hbt.1 hn1)).trans ht
  have h2' := (hW.cell (p := ⟨b, 2, none⟩) hb).trans h2
  have hrow' := hrow
  rcases hrow'.2 with ⟨rfl, hz⟩ | ⟨g, cap, cur, rfl, _⟩
  · rw [hz]
    refine (surv_none l b Bd Bk Bt 0 none J W hd' h2' h0).mono fun e W' ⟨he, hj⟩ => ⟨he, Or.inl ⟨_, rfl, hj⟩⟩
  · have hg := hgg g rfl
    have hc : ∀ j, j < loose.length * 5 → W.cell? ⟨g, j, none⟩ = (looseL loose)[j]? := fun j hj => (hW.cell (p := ⟨g, j, none⟩) (Nat.lt_of_lt_of_le hg.1 hn1)).trans (hrow.cellAt j hj)
    refine (surv_in l b Bd Bk Bt g cap n1 gm loose.length keep torn loose L hL rfl hl63 ht1 J Jx W hJa hY (Nat.le_trans hn1 hW.size) hbk hbt hg hd' hk' ht' h2' hc h0).mono ?_
    rintro e W' ⟨he, hj | ⟨pre, hj⟩⟩
    · exact ⟨he, Or.inl ⟨_, rfl, hj⟩⟩
    · exact ⟨he, Or.inr ⟨_, trivial, hj⟩⟩
end Go.Proofs.Ytddnjlnnkeiplaa
