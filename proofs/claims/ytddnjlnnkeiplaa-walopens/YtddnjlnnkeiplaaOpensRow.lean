/-
  WalOpens: for every list of records, every rest and every list of falls the law returns true, and all three read behind the call as they read before. No condition.
-/
import Derived.Test.YtddnjlnnkeiplaaRows
import Derived.Test.YtddnjlnnkeiplaaOpens
import Derived.Test.YtddnjlnnkeiplaaKPlo
namespace Go.Proofs.Ytddnjlnnkeiplaa
open Go.ChangeMaps Go.ChangeShapes Go.WideShapes Go.ChangeAt Go.WideMaps Go.WideElems Go.RowKit Go.Deep
def FaOk (f : X.Fa) : Prop := f.keep ≤ 9223372036854775807 ∧ f.torn ≤ 9223372036854775807
set_option maxRecDepth 100000 in
theorem open_fa {H : Type} {enc : TypeId × Value → H} {W : World} {held : Bool} {fuel : Nat} {cs : List Value} {x : DataW H × List MemPlace} (hf : DataW.trod enc Try.prog W 0 (fun _ => true) held fuel 35 cs = some x) :
    ∃ f : X.Fa, cs = X.faL f ∧ FaOk f := by
  obtain ⟨xs, m, _, rfl, hl, hlen, hx⟩ := DataW.trod_struct Try.underlying35 hf
  rw [cz35] at hl
  match cs, hl with
  | [v0, v1, v2], _ =>
    match xs, hlen with
    | [y0, y1, y2], _ =>
      have g0 := hx 0 _ rfl
      have g1 := hx 1 _ rfl
      have g2 := hx 2 _ rfl
      simp [cz3] at g0 g1 g2
      obtain ⟨k, e0, _, w0⟩ := DataW.trod_int Try.underlying3 g0
      obtain ⟨n, e1, _, w1⟩ := DataW.trod_int Try.underlying3 g1
      obtain ⟨s, e2, _, w2⟩ := DataW.trod_int Try.underlying3 g2
      simp at e0 e1 e2
      subst e0; subst e1; subst e2
      exact ⟨⟨k, n, s⟩, rfl, (wf_i64 w1).2, (wf_i64 w2).2⟩
def noFa : X.Fa := ⟨0, 0, 0⟩
theorem open_falls {H : Type} {enc : TypeId × Value → H} {W : World} {held : Bool} {pa : Option Addr} {n cap : Nat} {d : DataW H} {p : List MemPlace} (h : DataW.Trod enc Try.prog W 0 (fun _ => true) held 55 (.slice pa n cap) d p) :
    ∃ (g o : Nat) (A : Nat → X.Fa), (0 < n → pa = some ⟨g, o, none⟩) ∧ (∀ j, j < n → OlAt W g (o + j * 3) (A j)) ∧ n ≤ 9223372036854775807 := by
  obtain ⟨fuel, hf⟩ := h
  rcases open_slice Try.underlying55 hf with ⟨hcs, _⟩ | ⟨a, len, cp, m, k, D, Pl, hcs, _, hl, hm, hmm, _, hx⟩
  · simp [Value.cells] at hcs
    obtain ⟨_, rfl, _⟩ := hcs
    exact ⟨0, 0, fun _ => noFa, fun h => by omega, fun j hj => by omega, by omega⟩
  · simp [Value.cells] at hcs
    obtain ⟨rfl, rfl, rfl⟩ := hcs
    simp only [if_true] at hmm
    have each : ∀ i, i < n → ∃ x : X.Fa, (∀ j u, j < 3 → (X.faL x)[j]? = some u → W.cell? (a.add (i * 3 + j)) = some u) ∧ FaOk x := by
      intro i hi
      obtain ⟨cs', h1, h2⟩ := hx i (by omega)
      rw [cz35] at h1
      obtain ⟨_, hlen, hcell⟩ := World.cells?_some h1
      obtain ⟨x, rfl, hok⟩ := open_fa h2
      refine ⟨x, fun j u hj hu => ?_, hok⟩
      have q := hcell j (by omega)
      rw [add_add] at q
      rw [q, hu]
    by_cases h0 : 0 < n
    · have hs : a.spot = none := by
        obtain ⟨x, e0, _⟩ := each 0 h0
        have e1 := e0 0 _ (by decide) rfl
        exact World.cell?_spot (v := .int .i64 x.at_) (by simpa [Addr.add] using e1)
      obtain ⟨xb, xo, sp⟩ := a
      have hs' : sp = none := hs
      subst hs'
      refine ⟨xb, xo, fun i => if hi : i < n then (each i hi).choose else noFa, fun _ => rfl, fun i hi => ?_, by unfold maxLen at hm; omega⟩
      simp only [dif_pos hi]
      obtain ⟨hc, o1, o2⟩ := (each i hi).choose_spec
      generalize (each i hi).choose = x at *
      have cc : ∀ j u, j < 3 → (X.faL x)[j]? = some u → W.cell? ⟨xb, xo + i * 3 + j, none⟩ = some u := fun j u hj hu => by
        have := hc j u hj hu
        rw [Addr.add_mid] at this
        rw [Nat.add_assoc]
        exact this
      exact ⟨cc 0 _ (by decide) rfl, cc 1 _ (by decide) rfl, cc 2 _ (by decide) rfl, o1, o2⟩
    · exact ⟨0, 0, fun _ => noFa, fun h => by omega, fun j hj => by omega, by unfold maxLen at hm; omega⟩
theorem walOpens_own : ownKnob Try.prog.godebug = none := by kernel_rfl
set_option maxRecDepth 100000 in
theorem walOpens_lifted (os : Os) (started : os.Started) (H : Type) (enc : TypeId × Value → H) :
    ReturnsInHanded {} Try.checked os 8 .any (Rows.walOpensSpec.pre6 enc Try.prog Try.f8 Rows.walOpensRow.domain false) (Rows.walOpensSpec.post enc Try.prog Try.f8 false true false false) := by
  refine returnsInHanded_of_change (C := Try.checked) walOpens_own started (by kernel_rfl) Try.func8
    (ChangeSpec.witness6 (enc := enc) (C := Try.checked) false ⟨#[], #[.slice none 0 0, .string ⟨#[]⟩, .slice none 0 0], []⟩ 8 (by kernel_rfl) (by kernel_rfl) (by kernel_rfl) (by kernel_rfl)) ?_
  intro W base args ds gs before hval0 hW hcnd _
  have hval : ∀ (j : Nat) t v, Try.f8.params[j]? = some t → args[j]? = some v → Value.okWide Try.prog W .any base t v := hval0
  have hW' := hW
  obtain ⟨p, q, hA0, hV, rfl, hfz, hnd⟩ := hW
  have hA : DataW.TrodAll enc Try.prog W 0 (fun _ => true) true Try.f8.params.toList args.toList ds p := hA0
  rw [Try.params8] at hA hval
  obtain ⟨v0, v1, v2, d0, d1, d2, p0, p1, p2, rfl, rfl, rfl, h0, h1, h2⟩ := trodAll_three hA
  obtain ⟨rfl, rfl⟩ := trodVars_none hV
  obtain ⟨pa, n, cap, rfl⟩ := okWide_slice Try.underlying33 (hval 0 33 v0 rfl rfl)
  obtain ⟨s1, rfl, e1, e2, hs1⟩ := open_string Try.underlying9 (hval 1 9 v1 rfl rfl) h1
  obtain ⟨pf, n2, cap2, rfl⟩ := okWide_slice Try.underlying55 (hval 2 55 v2 rfl rfl)
  obtain ⟨fuel, hf⟩ := h0
  obtain ⟨pa', n', cap', xb, xo, S, he, x1, x2, x3⟩ := open_few hf
  simp [Value.cells] at he
  obtain ⟨rfl, rfl, rfl⟩ := he
  obtain ⟨g2, o2, B, y1, y2, y3⟩ := open_falls h2
  clear hA0 hval0 hval
  simp only [List.append_nil] at hW'
  refine (opens_law pa n cap xb xo S s1 pf n2 cap2 g2 o2 B W x1 x2 x3 y1 y2 y3).mono fun e W' ⟨he, hw⟩ => ?_
  subst he
  exact ⟨_, rfl, post_true (b := 4) hW' rfl (by kernel_rfl) (by kernel_rfl) (by kernel_rfl) Try.underlying4 rfl hw⟩
theorem walOpens_holds : Rows.WalOpensSaid :=
  OpenClaim.holds_of_wide 8 Try.f8 rfl rfl rfl rfl rfl rfl rfl ⟨rfl, rfl, rfl, rfl, rfl⟩ rfl rfl rfl rfl rfl (by kernel_rfl) Try.func8 (by kernel_rfl)
    (of_decide_eq_true (by kernel_rfl)) (by unfold Func.isWrapper; first | (rw [if_pos (by decide +kernel)]; kernel_rfl) | (rw [if_neg (by decide +kernel)]; exact ⟨rfl, rfl⟩))
    (fun os started H enc _ => walOpens_lifted os started H enc)
#print axioms walOpens_holds
end Go.Proofs.Ytddnjlnnkeiplaa
