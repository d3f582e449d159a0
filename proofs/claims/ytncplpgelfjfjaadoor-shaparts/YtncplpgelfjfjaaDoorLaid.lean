/-
  What the row's condition gives the walks: the three tables; and an argument that is an array of 64-bit numbers, opened and shut.
-/
import Derived.Test.YtncplpgelfjfjaaDoorTurn
import Derived.Test.YtncplpgelfjfjaaDoorRows
import Derived.ProofKit
import Derived.LaidMore
import Derived.OpenShut
import Derived.Stop.Joined
namespace Go.Proofs.YtncplpgelfjfjaaDoor
open Go.ChangeShapes Go.WideShapes Go.ChangeAt Go.WideMaps Go.WideElems Go.RowKit
theorem own : ownKnob Tryd.prog.godebug = none := by kernel_rfl
theorem gMarks : Tryd.prog.globalNamed "cupel/sha.marks" = some 0 := by kernel_rfl
theorem gSpins : Tryd.prog.globalNamed "cupel/sha.spins" = some 1 := by kernel_rfl
theorem gPlaces : Tryd.prog.globalNamed "cupel/sha.places" = some 2 := by kernel_rfl
theorem tMarks : (Tryd.prog.globals[0]?).map (·.type) = some 45 := by kernel_rfl
theorem tSpins : (Tryd.prog.globals[1]?).map (·.type) = some 55 := by kernel_rfl
theorem tPlaces : (Tryd.prog.globals[2]?).map (·.type) = some 55 := by kernel_rfl
theorem c22 : Tryd.prog.cellsOf 22 = 1 := by kernel_rfl
theorem c3 : Tryd.prog.cellsOf 3 = 1 := by kernel_rfl
theorem c45 : Tryd.prog.cellsOf 45 = 24 := by kernel_rfl
theorem c55 : Tryd.prog.cellsOf 55 = 25 := by kernel_rfl
theorem c23 : Tryd.prog.cellsOf 23 = 25 := by kernel_rfl
/-- An array of integers that is read: its cells, its datum. -/
theorem ints_of_trod {P : Program} {H : Type} {enc : TypeId × Value → H} {W : World} {base : Nat} {spare : Nat → Bool} {held : Bool} {fuel : Nat} {t e : TypeId} {n : Nat} {k : IntKind} {cs : List Value} {x : DataW H × List MemPlace}
    (ht : P.underlying t = some (.array n e)) (he : P.underlying e = some (.int k)) (hc : P.cellsOf e = 1) (hn : P.cellsOf t = n) (h : DataW.trod enc P W base spare held fuel t cs = some x) :
    ∃ f : Nat → Int, cs = (arr k n f).toList ∧ x = (.agg ((List.range n).map fun i => .lit (.int k (f i))), []) ∧ ∀ i, i < n → (Lit.int k (f i)).wf = true := by
  obtain ⟨xs, m, rfl, rfl, hlen, hxs, hel⟩ := DataW.trod_array ht h
  rw [hn] at hlen
  have key : ∀ i, i < n → ∃ v : Int, cs[i]? = some (.int k v) ∧ xs[i]? = some (.lit (.int k v), []) ∧ (Lit.int k v).wf = true := by
    intro i hi
    have hx : i < xs.length := by omega
    have h1 := hel i hi
    rw [List.getElem?_eq_getElem hx, hc, Nat.mul_one] at h1
    obtain ⟨v, e1, e2, e3⟩ := DataW.trod_int he h1
    refine ⟨v, ?_, by rw [List.getElem?_eq_getElem hx, e2], e3⟩
    have h2 := congrArg (fun l : List Value => l[0]?) e1
    simpa using h2
  obtain ⟨f, hf⟩ : ∃ f : Nat → Int, ∀ i, i < n → cs[i]? = some (.int k (f i)) ∧ xs[i]? = some (.lit (.int k (f i)), []) ∧ (Lit.int k (f i)).wf = true :=
    ⟨fun i => if hi : i < n then (key i hi).choose else 0, fun i hi => by simp only [dif_pos hi]; exact (key i hi).choose_spec⟩
  have e1 : xs = (List.range n).map fun i => ((.lit (.int k (f i)), []) : DataW H × List MemPlace) := by
    apply List.ext_getElem?
    intro i
    by_cases hi : i < n
    · rw [(hf i hi).2.1]
      simp [hi]
    · rw [List.getElem?_eq_none (by omega), List.getElem?_eq_none (by simp; omega)]
  refine ⟨f, ?_, ?_, fun i hi => (hf i hi).2.2⟩
  · apply List.ext_getElem?
    intro i
    by_cases hi : i < n
    · rw [(hf i hi).1, Array.getElem?_toList, arr_get k n _ i hi]
    · rw [List.getElem?_eq_none (by omega), List.getElem?_eq_none (by rw [Array.length_toList, arr_size]; omega)]
  · rw [e1]
    simp
theorem cel_of_trod {W : World} {name : String} {g : Nat} {t e : TypeId} {n : Nat} {k : IntKind} {cs : Array Value} {fuel : Nat} {p : List MemPlace} {L : List Int} {F : Nat → Int}
    (hg : Tryd.prog.globalNamed name = some g) (hv : W.var? Tryd.prog name = some cs) (ht : Tryd.prog.underlying t = some (.array n e)) (he : Tryd.prog.underlying e = some (.int k)) (hc : Tryd.prog.cellsOf e = 1) (hn : Tryd.prog.cellsOf t = n)
    (h : DataW.trod (fun _ => ()) Tryd.prog W 0 (fun _ => true) false fuel t cs.toList = some (.agg (L.map fun v => .lit (.int k v)), p)) (hF : ∀ i, i < n → L[i]? = some (F i)) :
    Cel W g (arr k n F) := by
  obtain ⟨f, e1, e2, _⟩ := ints_of_trod ht he hc hn h
  simp only [Prod.mk.injEq, DataW.agg.injEq] at e2
  have e3 : cs = arr k n f := by
    rw [← Array.toArray_toList (xs := cs), e1]
  have e4 : ∀ i, i < n → f i = F i := fun i hi => by
    have := congrArg (fun l : List (DataW Unit) => l[i]?) e2.1
    simp [hF i hi, hi] at this
    exact this.symm
  rw [arr_congr k n f F e4] at e3
  have : ∃ tt fr, W.heap[g]? = some (.cells cs tt fr) := by
    simp only [World.var?, hg, Option.bind_some] at hv
    split at hv
    · rename_i c tt fr hh
      cases hv
      exact ⟨tt, fr, hh⟩
    · cases hv
  rw [e3] at this
  exact this
def marksV : List Int := [1, 32898, 9223372036854808714, 9223372039002292224, 32907, 2147483649, 9223372039002292353, 9223372036854808585, 138, 136, 2147516425, 2147483658, 2147516555, 9223372036854775947, 9223372036854808713, 9223372036854808579, 9223372036854808578, 9223372036854775936, 32778, 9223372039002259466, 9223372039002292353, 9223372036854808704, 2147483649, 9223372039002292232]
def spinsV : List Int := spinsL.map Int.ofNat
def placesV : List Int := placesL.map Int.ofNat
def laid3 : List (String × DataW Unit) := [("cupel/sha.marks", Rows.laid_cupel_sha_marks), ("cupel/sha.spins", Rows.laid_cupel_sha_spins), ("cupel/sha.places", Rows.laid_cupel_sha_places)]
/-- WHAT THE CONDITION GIVES THE WALKS: the three tables. -/
theorem of_laid {W : World} (h : laidMetH Tryd.prog laid3 W) : Tabs W := by
  rw [MakeChecks.laidMetH_plain _ _ _ (by kernel_rfl)] at h
  obtain ⟨ps, ⟨g0, t0, cs0, f0, p0, q0, hg0, ht0, hv0, hd0, ⟨g1, t1, cs1, f1, p1, q1, hg1, ht1, hv1, hd1, ⟨g2, t2, cs2, f2, p2, q2, hg2, ht2, hv2, hd2, _, _⟩, _⟩, _⟩, _, _⟩ := h
  obtain rfl := Option.some.inj (gMarks.symm.trans hg0)
  obtain rfl := Option.some.inj (gSpins.symm.trans hg1)
  obtain rfl := Option.some.inj (gPlaces.symm.trans hg2)
  obtain rfl := Option.some.inj (tMarks.symm.trans ht0)
  obtain rfl := Option.some.inj (tSpins.symm.trans ht1)
  obtain rfl := Option.some.inj (tPlaces.symm.trans ht2)
  exact ⟨cel_of_trod (L := marksV) hg0 hv0 Tryd.underlying45 Tryd.underlying22 c22 c45 hd0 (by decide +kernel), cel_of_trod (L := spinsV) hg1 hv1 Tryd.underlying55 Tryd.underlying3 c3 c55 hd1 (by decide +kernel), cel_of_trod (L := placesV) hg2 hv2 Tryd.underlying55 Tryd.underlying3 c3 c55 hd2 (by decide +kernel)⟩
/-- The door's own heap meets the condition. -/
theorem door_met (os : Os) (args : Array Value) : laidMetH Tryd.prog laid3 ((World.doorLaid Tryd.prog 24 os).forCall (fun _ _ => 0) ⟨#[], args, []⟩).memory :=
  laidMetH_of_parts3 (fuel := 8) (laidMet_of_run' 8 (by kernel_rfl) (by kernel_rfl)) (by kernel_rfl) (by kernel_rfl)
/-- An argument that is an array of 25 numbers of 64 bits. -/
theorem open_lanes {H : Type} {enc : TypeId × Value → H} {W : World} {base : Nat} {spare : Nat → Bool} {held : Bool} {v : Value} {d : DataW H} {p : List MemPlace} (h : DataW.Trod enc Tryd.prog W base spare held 23 v d p) :
    ∃ F : Nat → BitVec 64, v = .agg (arr .u64 25 (lan F)) ∧ d = .agg ((List.range 25).map fun i => .lit (.int .u64 (lan F i))) ∧ p = [] := by
  obtain ⟨fuel, h⟩ := h
  obtain ⟨f, e1, e2, e3⟩ := ints_of_trod Tryd.underlying23 Tryd.underlying22 c22 c23 h
  simp only [Prod.mk.injEq] at e2
  have wf : ∀ i, i < 25 → 0 ≤ f i ∧ f i < 2 ^ 64 := fun i hi => by
    have := e3 i hi
    simp only [Lit.wf, Bool.and_eq_true, decide_eq_true_eq] at this
    have h0 : IntKind.u64.min = 0 := rfl
    have h1 : IntKind.u64.max = 18446744073709551615 := rfl
    rw [h0, h1] at this
    omega
  have hF : ∀ i, i < 25 → f i = lan (fun i => BitVec.ofNat 64 (f i).toNat) i := fun i hi => by
    have := wf i hi
    rw [lan_at, U, BitVec.toNat_ofNat, Nat.mod_eq_of_lt (by omega)]
    omega
  have ec : v.cells = arr .u64 25 f := by
    rw [← Array.toArray_toList (xs := v.cells), e1]
  refine ⟨fun i => BitVec.ofNat 64 (f i).toNat, ?_, ?_, e2.2⟩
  · rw [← arr_congr _ _ _ _ hF, ← ec]
    cases v with
    | agg a => rfl
    | _ => 
      have := congrArg Array.size ec
      rw [arr_size] at this
      simp [Value.cells] at this
  · rw [e2.1]
    congr 1
    apply List.map_congr_left
    intro i hi
    rw [hF i (by simpa using hi)]
end Go.Proofs.YtncplpgelfjfjaaDoor
