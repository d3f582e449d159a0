/-
  The last step of a law's row: where the walk answers true and nothing below the heap's old size has turned, what the row says of the call holds. Nothing of the program is named here.
-/
import Derived.ProofKit
import Derived.Carry
import Derived.OpenShut
import Derived.Stop.Joined
import Derived.Deep.Strs
import Derived.Deep.Slices
import Derived.Deep.MidRow
import Derived.SliceStrings
import Derived.Test.YtbhmmcelndmijaaGreatMem
import Derived.Test.YtbhmmcelndmijaaGreatSl2
import Derived.Test.YtbhmmcelndmijaaGreatRows
import Derived.Test.YtbhmmcelndmijaaGreatKOn
namespace Go.Proofs.YtbhmmcelndmijaaGreat
open Go.ChangeShapes Go.WideShapes Go.ChangeAt Go.WideMaps Go.WideElems Go.RowKit
theorem trodAll_below {H : Type} {enc : TypeId × Value → H} {P : Program} (hl : laidOutB P = true) {W W' : World} (hb : Below W.heap.size W W') :
    ∀ (ts : List TypeId) (vs : List Value) (ds : List (DataW H)) (ps : List MemPlace), (ts.all fun t => P.readableRec t && decide (t < P.types.size)) = true → (∀ x ∈ ps, x.block < W.heap.size) →
      DataW.TrodAll enc P W 0 (fun _ => true) true ts vs ds ps → DataW.TrodAll enc P W' 0 (fun b => decide (b < W.heap.size)) true ts vs ds ps
  | [], [], [], _, _, _, h => h
  | t :: ts, v :: vs, d :: ds, ps, hr, hlt, h => by
    obtain ⟨p, q, h1, h2, rfl⟩ := h
    simp only [List.all_cons, Bool.and_eq_true, decide_eq_true_eq] at hr
    exact ⟨p, q, Below.trod hl hr.1.1 hr.1.2 h1 hb (fun x hx => hlt x (by simp [hx])), trodAll_below hl hb ts vs ds q hr.2 (fun x hx => hlt x (by simp [hx])) h2, rfl⟩
  | [], [], _ :: _, _, _, _, h => h.elim
  | [], _ :: _, _, _, _, _, h => h.elim
  | _ :: _, [], _, _, _, _, h => h.elim
  | _ :: _, _ :: _, [], _, _, _, h => h.elim
/-- True, and the arguments as they were. -/
theorem post_true {H : Type} {enc : TypeId × Value → H} {P : Program} {f : Func} {s : ChangeSpec} {b : TypeId} {W W' : World} {args : Array Value} {ds : List (DataW H)} {before : List MemPlace}
    (hW : DataW.Whole enc P f.params.toList s.vars false W args.toList ds [] before) (hv : s.vars = []) (hl : laidOutB P = true) (hr : (f.params.toList.all fun t => P.readableRec t && decide (t < P.types.size)) = true)
    (hres : f.resultTypes = #[b]) (hb : P.underlying b = some .bool) (hfn : s.fn H (ds ++ []) = { results := [.lit (.bool true)], args := ds }) (hg : W.grownBy W' none) :
    s.post enc P f false true false false W args (.bool true) W' := by
  have hbel := grown_below hg
  have hlt := fun p hp => hW.lt p hp
  have hW2 := hW
  obtain ⟨p, q, hA, hV, rfl, hfz, hnd⟩ := hW2
  rw [hv] at hV
  have hq : q = [] := hV
  subst hq
  rw [List.append_nil] at hlt
  refine ⟨ds, [], _, [], p, [], hW, ?_, ?_, ?_, hbel.frame _, fun h => by cases h⟩
  · rw [hfn, hres]
    exact trodAll_mk1 (shut_bool hb _)
  · rw [hfn]
    exact trodAll_below hl hbel _ _ _ _ hr hlt hA
  · rw [hfn, hv]
    rfl
end Go.Proofs.YtbhmmcelndmijaaGreat
/-
  An argument that is a list of acts, opened.
-/
namespace Go.Proofs.YtbhmmcelndmijaaGreat
open Go.ChangeMaps Go.ChangeShapes Go.WideShapes Go.ChangeAt Go.WideMaps Go.WideElems Go.RowKit Go.Deep
theorem cz3 : Tryz.prog.cellsOf 3 = 1 := by kernel_rfl
theorem cz9 : Tryz.prog.cellsOf 9 = 1 := by kernel_rfl
theorem cz32 : Tryz.prog.cellsOf 32 = 3 := by kernel_rfl
def acL (a : Ac) : List Value := [.int .i64 a.kind, .string a.key, .string a.val]
set_option maxRecDepth 100000 in
theorem open_ac {H : Type} {enc : TypeId × Value → H} {W : World} {held : Bool} {fuel : Nat} {cs : List Value} {x : DataW H × List MemPlace} (hf : DataW.trod enc Tryz.prog W 0 (fun _ => true) held fuel 32 cs = some x) :
    ∃ a : Ac, cs = acL a := by
  obtain ⟨xs, m, _, rfl, hl, hlen, hx⟩ := DataW.trod_struct Tryz.underlying32 hf
  rw [cz32] at hl
  match cs, hl with
  | [v0, v1, v2], _ =>
    match xs, hlen with
    | [y0, y1, y2], _ =>
      have g0 := hx 0 _ rfl
      have g1 := hx 1 _ rfl
      have g2 := hx 2 _ rfl
      simp [cz3, cz9] at g0 g1 g2
      obtain ⟨k, e0, _, w0⟩ := DataW.trod_int Tryz.underlying3 g0
      obtain ⟨s, e1, _, w1⟩ := DataW.trod_string Tryz.underlying9 g1
      obtain ⟨t, e2, _, w2⟩ := DataW.trod_string Tryz.underlying9 g2
      simp at e0 e1 e2
      subst e0; subst e1; subst e2
      exact ⟨⟨k, s, t⟩, rfl⟩
def noAc : Ac := ⟨0, ⟨#[]⟩, ⟨#[]⟩⟩
theorem open_acs {H : Type} {enc : TypeId × Value → H} {W : World} {held : Bool} {pa : Option Addr} {n cap : Nat} {d : DataW H} {p : List MemPlace} (h : DataW.Trod enc Tryz.prog W 0 (fun _ => true) held 22 (.slice pa n cap) d p) :
    ∃ (g o : Nat) (A : Nat → Ac), (0 < n → pa = some ⟨g, o, none⟩) ∧ (∀ j, j < n → AcAt W g (o + j * 3) (A j)) ∧ n ≤ 9223372036854775807 := by
  obtain ⟨fuel, hf⟩ := h
  rcases open_slice Tryz.underlying22 hf with ⟨hcs, _⟩ | ⟨a, len, cp, m, k, D, Pl, hcs, _, hl, hm, hmm, _, hx⟩
  · simp [Value.cells] at hcs
    obtain ⟨_, rfl, _⟩ := hcs
    exact ⟨0, 0, fun _ => noAc, fun h => by omega, fun j hj => by omega, by omega⟩
  · simp [Value.cells] at hcs
    obtain ⟨rfl, rfl, rfl⟩ := hcs
    simp only [if_true] at hmm
    have each : ∀ i, i < n → ∃ x : Ac, (∀ j u, j < 3 → (acL x)[j]? = some u → W.cell? (a.add (i * 3 + j)) = some u) := by
      intro i hi
      obtain ⟨cs', h1, h2⟩ := hx i (by omega)
      rw [cz32] at h1
      obtain ⟨_, hlen, hcell⟩ := World.cells?_some h1
      obtain ⟨x, rfl⟩ := open_ac h2
      refine ⟨x, fun j u hj hu => ?_⟩
      have q := hcell j (by omega)
      rw [add_add] at q
      rw [q, hu]
    by_cases h0 : 0 < n
    · have hs : a.spot = none := by
        obtain ⟨x, e0⟩ := each 0 h0
        have e1 := e0 0 _ (by decide) rfl
        exact World.cell?_spot (v := .int .i64 x.kind) (by simpa [Addr.add] using e1)
      obtain ⟨xb, xo, sp⟩ := a
      have hs' : sp = none := hs
      subst hs'
      refine ⟨xb, xo, fun i => if hi : i < n then (each i hi).choose else noAc, fun _ => rfl, fun i hi => ?_, by unfold maxLen at hm; omega⟩
      simp only [dif_pos hi]
      have hc := (each i hi).choose_spec
      generalize (each i hi).choose = x at *
      have cc : ∀ j u, j < 3 → (acL x)[j]? = some u → W.cell? ⟨xb, xo + i * 3 + j, none⟩ = some u := fun j u hj hu => by
        have := hc j u hj hu
        rw [Addr.add_mid] at this
        rw [Nat.add_assoc]
        exact this
      exact ⟨cc 0 _ (by decide) rfl, cc 1 _ (by decide) rfl, cc 2 _ (by decide) rfl⟩
    · exact ⟨0, 0, fun _ => noAc, fun h => by omega, fun j hj => by omega, by unfold maxLen at hm; omega⟩
end Go.Proofs.YtbhmmcelndmijaaGreat
/-
  BtreePlays: for every list of acts and every key the law returns true, and its arguments read behind the call as they read before. No condition.
-/
namespace Go.Proofs.YtbhmmcelndmijaaGreat
open Go.ChangeMaps Go.ChangeShapes Go.WideShapes Go.ChangeAt Go.WideMaps Go.WideElems Go.RowKit
theorem btreePlays_own : ownKnob Tryz.prog.godebug = none := by kernel_rfl
set_option maxRecDepth 100000 in
theorem btreePlays_lifted (os : Os) (started : os.Started) (H : Type) (enc : TypeId × Value → H) :
    ReturnsInHanded {} Tryz.checked os 3 .any (Rows.btreePlaysSpec.pre6 enc Tryz.prog Tryz.f3 Rows.btreePlaysRow.domain false) (Rows.btreePlaysSpec.post enc Tryz.prog Tryz.f3 false true false false) := by
  refine returnsInHanded_of_change (C := Tryz.checked) btreePlays_own started (by kernel_rfl) Tryz.func3
    (ChangeSpec.witness6 (enc := enc) (C := Tryz.checked) false ⟨#[], #[.slice none 0 0, .string ⟨#[]⟩], []⟩ 8 (by kernel_rfl) (by kernel_rfl) (by kernel_rfl) (by kernel_rfl)) ?_
  intro W base args ds gs before hval0 hW hcnd _
  have hval : ∀ (j : Nat) t v, Tryz.f3.params[j]? = some t → args[j]? = some v → Value.okWide Tryz.prog W .any base t v := hval0
  have hW' := hW
  obtain ⟨p, q, hA0, hV, rfl, hfz, hnd⟩ := hW
  have hA : DataW.TrodAll enc Tryz.prog W 0 (fun _ => true) true Tryz.f3.params.toList args.toList ds p := hA0
  rw [Tryz.params3] at hA hval
  obtain ⟨v0, v1, d0, d1, p0, p1, rfl, rfl, rfl, h0, h1⟩ := trodAll_two hA
  obtain ⟨rfl, rfl⟩ := trodVars_none hV
  obtain ⟨pa, n, cap, rfl⟩ := okWide_slice Tryz.underlying22 (hval 0 22 v0 rfl rfl)
  obtain ⟨fr, rfl, rfl, rfl, _⟩ := open_string Tryz.underlying9 (hval 1 9 v1 rfl rfl) h1
  obtain ⟨g, o, A, x1, x2, x3⟩ := open_acs h0
  clear hA0 hval0 hval
  simp only [List.append_nil] at hW'
  refine (plays_law pa n cap g o A fr W x1 x2 x3).mono fun e W' ⟨he, hw⟩ => ?_
  subst he
  exact ⟨_, rfl, post_true (b := 4) hW' rfl (by kernel_rfl) (by kernel_rfl) (by kernel_rfl) Tryz.underlying4 rfl hw⟩
theorem btreePlays_holds : Rows.BtreePlaysSaid :=
  OpenClaim.holds_of_wide 3 Tryz.f3 rfl rfl rfl rfl rfl rfl rfl ⟨rfl, rfl, rfl, rfl, rfl⟩ rfl rfl rfl rfl rfl (by kernel_rfl) Tryz.func3 (by kernel_rfl)
    (of_decide_eq_true (by kernel_rfl)) (by unfold Func.isWrapper; first | (rw [if_pos (by decide +kernel)]; kernel_rfl) | (rw [if_neg (by decide +kernel)]; exact ⟨rfl, rfl⟩))
    (fun os started H enc _ => btreePlays_lifted os started H enc)
#print axioms btreePlays_holds
end Go.Proofs.YtbhmmcelndmijaaGreat
