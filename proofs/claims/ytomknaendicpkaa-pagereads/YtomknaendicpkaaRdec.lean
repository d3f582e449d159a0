/-
  The document's Decode: the same page, the same error.
-/
import Derived.Test.YtomknaendicpkaaDecEnc
import Derived.Test.YtomknaendicpkaaRchk
import Derived.Test.YtomknaendicpkaaRef
namespace Go.Proofs.Ytomknaendicpkaa
open Go.RowKit
/-- The taking under way: the place of the answer, the page, the reader. -/
def RdS (w wr : World) (Q : Nat) (r : Rs) (lf : Bool) (a b c : Value) : Prop := Blk wr w.heap.size 30 #[.bool false, .slice none 0 0, .slice none 0 0, .slice none 0 0] ∧ Blk wr (w.heap.size + 1) 30 #[.bool lf, a, b, c] ∧ Blk wr Q 68 (rd r.s r.a r.e) ∧ w.grownBy wr none ∧ w.heap.size + 2 ≤ Q
theorem RdS.low {w wr w8 : World} {Q : Nat} {r : Rs} {lf : Bool} {a b c : Value} {ob : Option Nat} (h : RdS w wr Q r lf a b c) (hg : wr.grownBy w8 ob) (ho : ∀ g, ob = some g → Q < g) : RdS w w8 Q r lf a b c := by
  obtain ⟨h1, h2, h3, h4, h5⟩ := h
  exact ⟨h1.kept hg (fun e => by have := ho _ e.symm; omega), h2.kept hg (fun e => by have := ho _ e.symm; omega), h3.kept hg (fun e => by have := ho _ e.symm; omega), grown_ob' h4 hg (fun x e => by have := ho _ e; omega), h5⟩
theorem RdS.lowN {w wr w8 : World} {Q : Nat} {r : Rs} {lf : Bool} {a b c : Value} (h : RdS w wr Q r lf a b c) (hg : wr.grownBy w8 none) : RdS w w8 Q r lf a b c := h.low hg (fun g e => by cases e)
theorem RdS.alloc {w wr : World} {Q : Nat} {r : Rs} {lf : Bool} {a b c : Value} (h : RdS w wr Q r lf a b c) (o : Obj) : RdS w (wr.alloc o) Q r lf a b c := h.lowN (grown_alloc (grown_refl _ none) o)
theorem RdS.read {w wr w8 : World} {Q : Nat} {r r' : Rs} {lf : Bool} {a b c : Value} (h : RdS w wr Q r lf a b c) (hg : wr.grownBy w8 (some Q)) (hb : Blk w8 Q 68 (rd r'.s r'.a r'.e)) : RdS w w8 Q r' lf a b c := by
  obtain ⟨h1, h2, h3, h4, h5⟩ := h
  exact ⟨h1.kept hg (fun e => by have := Option.some.inj e; omega), h2.kept hg (fun e => by have := Option.some.inj e; omega), hb, grown_through h4 hg (by omega), h5⟩
theorem RdS.put {w wr : World} {Q : Nat} {r : Rs} {lf lf' : Bool} {a b c a' b' c' : Value} (h : RdS w wr Q r lf a b c) (i : Nat) (v : Value) (e : (#[.bool lf, a, b, c] : Array Value).setIfInBounds i v = #[.bool lf', a', b', c']) : RdS w (wr.setCell ⟨w.heap.size + 1, i, none⟩ v) Q r lf' a' b' c' := by
  obtain ⟨h1, h2, h3, h4, h5⟩ := h
  refine ⟨h1.other _ (by show w.heap.size ≠ w.heap.size + 1; omega), ?_, h3.other _ (by show Q ≠ w.heap.size + 1; omega), grown_set_new h4 _ (by show w.heap.size ≤ w.heap.size + 1; omega), h5⟩
  rw [← e]
  exact h2.set i v
theorem RdS.size {w wr : World} {Q : Nat} {r : Rs} {lf : Bool} {a b c : Value} (h : RdS w wr Q r lf a b c) : Q < wr.heap.size := h.2.2.1.lt
theorem end_stays {r : Rs} (h : r.e ≠ 0) : endE r = r.e := failE_stays _ h
theorem end_leaf (R2 : Rs) (n k1 k2 : Nat) (h1 : k1 ≤ n) (x1 : k1 = n ∨ (txtsN 64 R2 k1).2.e ≠ 0) (h2 : k2 ≤ n) (x2 : k2 = n ∨ (txtsN 8192 (txtsN 64 R2 k1).2 k2).2.e ≠ 0) : endE (txtsN 8192 (txtsN 64 R2 k1).2 k2).2 = endE (txtsN 8192 (txtsN 64 R2 n).2 n).2 ∧ (endE (txtsN 8192 (txtsN 64 R2 k1).2 k2).2 = 0 → k1 = n ∧ k2 = n) := by
  by_cases e1 : (txtsN 64 R2 k1).2.e = 0
  · obtain rfl : k1 = n := x1.resolve_right (fun h => h e1)
    by_cases e2 : (txtsN 8192 (txtsN 64 R2 k1).2 k2).2.e = 0
    · obtain rfl : k2 = k1 := x2.resolve_right (fun h => h e2)
      exact ⟨rfl, fun _ => ⟨rfl, rfl⟩⟩
    · have e3 := txts_err 8192 (txtsN 64 R2 k1).2 h2 e2
      rw [end_stays e2, end_stays (by rw [e3]; exact e2), e3]
      exact ⟨rfl, fun h => absurd h e2⟩
  · have e2 := txts_err0 8192 (txtsN 64 R2 k1).2 k2 e1
    have e3 := txts_err 64 R2 h1 e1
    have e4 := txts_err0 8192 (txtsN 64 R2 n).2 n (by rw [e3]; exact e1)
    rw [end_stays (by rw [e2]; exact e1), end_stays (by rw [e4, e3]; exact e1), e2, e4, e3]
    exact ⟨rfl, fun h => absurd h e1⟩
theorem end_kids (R2 : Rs) (n k1 k2 : Nat) (h1 : k1 ≤ n) (x1 : k1 = n ∨ (txtsN 64 R2 k1).2.e ≠ 0) (h2 : k2 ≤ n + 1) (x2 : k2 = n + 1 ∨ (cntsN 2147483647 (txtsN 64 R2 k1).2 k2).2.e ≠ 0) : endE (cntsN 2147483647 (txtsN 64 R2 k1).2 k2).2 = endE (cntsN 2147483647 (txtsN 64 R2 n).2 (n + 1)).2 ∧ (endE (cntsN 2147483647 (txtsN 64 R2 k1).2 k2).2 = 0 → k1 = n ∧ k2 = n + 1) := by
  by_cases e1 : (txtsN 64 R2 k1).2.e = 0
  · obtain rfl : k1 = n := x1.resolve_right (fun h => h e1)
    by_cases e2 : (cntsN 2147483647 (txtsN 64 R2 k1).2 k2).2.e = 0
    · obtain rfl : k2 = k1 + 1 := x2.resolve_right (fun h => h e2)
      exact ⟨rfl, fun _ => ⟨rfl, rfl⟩⟩
    · have e3 := cnts_err 2147483647 (txtsN 64 R2 k1).2 h2 e2
      rw [end_stays e2, end_stays (by rw [e3]; exact e2), e3]
      exact ⟨rfl, fun h => absurd h e2⟩
  · have e2 := cnts_err0 2147483647 (txtsN 64 R2 k1).2 k2 e1
    have e3 := txts_err 64 R2 h1 e1
    have e4 := cnts_err0 2147483647 (txtsN 64 R2 n).2 (n + 1) (by rw [e3]; exact e1)
    rw [end_stays (by rw [e2]; exact e1), end_stays (by rw [e4, e3]; exact e1), e2, e4, e3]
    exact ⟨rfl, fun h => absurd h e1⟩
theorem results_pr2 {fn : Func} {p u : Tmp} (h : fn.results = #[.cell p 30, .tmp u]) (tmps : Array Value) (w : World) (g : Nat) {x y z q : Value} (hp : tmps.getD p undef = .pointer (some ⟨g, 0, none⟩)) (hg : Blk w g 30 #[x, y, z, q]) :
    (results fn tmps).run Try.prog w = .ok (.tuple #[.agg #[x, y, z, q], tmps.getD u undef]) w := by
  rw [results_cell_tmp h, hp]
  have hl := run_loadVar_row (P := Try.prog) w g 30 30 #[x, y, z, q] (0, 0) _ hg Try.underlying30 rfl size30
  simp [asAddr, hl, Result.andThen]
def r0 (s : ByteArray) : Rs := ⟨s, 0, 0⟩
theorem take_true {s : ByteArray} {R1 R2 : Rs} {n : Nat} (h1 : R1 = bolR (r0 s)) (h2 : R2 = oneR R1) (h3 : n = oneN R1) (hl : ((bolN s : Int) == 1) = true) : takeP ⟨s, 0, 0⟩ = (⟨true, (txtsN 64 R2 n).1, (txtsN 8192 (txtsN 64 R2 n).2 n).1, []⟩, (txtsN 8192 (txtsN 64 R2 n).2 n).2) := by
  have hb : bolN s = 1 := by have : (bolN s : Int) = 1 := by simpa using hl
                             omega
  subst h3; subst h2; subst h1
  unfold takeP r0
  simp only
  rw [if_pos hb]
theorem take_false {s : ByteArray} {R1 R2 : Rs} {n : Nat} (h1 : R1 = bolR (r0 s)) (h2 : R2 = oneR R1) (h3 : n = oneN R1) (hl : ((bolN s : Int) == 1) = false) : takeP ⟨s, 0, 0⟩ = (⟨false, (txtsN 64 R2 n).1, [], (cntsN 2147483647 (txtsN 64 R2 n).2 (n + 1)).1⟩, (cntsN 2147483647 (txtsN 64 R2 n).2 (n + 1)).2) := by
  have hb : ¬ bolN s = 1 := by have : ¬ (bolN s : Int) = 1 := by simpa using hl
                               omega
  subst h3; subst h2; subst h1
  unfold takeP r0
  simp only
  rw [if_neg hb]
theorem bolR_shut (s : ByteArray) : Shut (bolR (r0 s)).s (bolR (r0 s)).e := bol_shut s 0 (fun h => absurd rfl h)
end Go.Proofs.Ytomknaendicpkaa
