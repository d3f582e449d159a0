/-
  What the tables hold when the call begins.
-/
import Derived.Test.YtajoncmmdeahnaaGreatDoorRows
import Derived.Test.YtajoncmmdeahnaaGreatDoorKQg
import Derived.ProofKit
import Derived.LaidMore
import Derived.OpenShut
import Derived.Lay
import Derived.Stop.Joined
namespace Go.Proofs.YtajoncmmdeahnaaGreatDoor
open Go.ChangeMaps Go.ChangeShapes Go.WideShapes Go.ChangeAt Go.WideMaps Go.WideElems Go.RowKit
theorem g_opt : Tryz.prog.globalNamed "internal/strconv.optimize" = some 10 := by kernel_rfl
theorem t_opt : (Tryz.prog.globals[10]?).map (·.type) = some 4 := by kernel_rfl
theorem g_inf : Tryz.prog.globalNamed "internal/strconv.float64info" = some 11 := by kernel_rfl
theorem t_inf : (Tryz.prog.globals[11]?).map (·.type) = some 278 := by kernel_rfl
theorem g_pow : Tryz.prog.globalNamed "internal/strconv.float64pow10" = some 14 := by kernel_rfl
theorem t_pow : (Tryz.prog.globals[14]?).map (·.type) = some 309 := by kernel_rfl
theorem c167 : Tryz.prog.cellsOf 167 = 1 := by kernel_rfl
theorem c157 : Tryz.prog.cellsOf 157 = 1 := by kernel_rfl
theorem var_cell {W : World} {name : String} {g : Nat} {cs : Array Value} (hg : Tryz.prog.globalNamed name = some g) (h : W.var? Tryz.prog name = some cs) (j : Nat) : W.cell? ⟨g, j, none⟩ = cs[j]? := by
  unfold World.var? at h
  rw [hg] at h
  simp only [Option.bind_some] at h
  cases hh : W.heap[g]? with
  | none => rw [hh] at h; cases h
  | some o =>
    rw [hh] at h
    cases o with
    | cells c t f =>
      injection h with h
      subst h
      simp [World.cell?, hh]
    | _ => cases h
theorem trod_float {H : Type} {enc : TypeId × Value → H} {w : World} {base : Nat} {spare : Nat → Bool} {held : Bool} {fuel : Nat} {cs : List Value} {x : DataW H × List MemPlace} (h : DataW.trod enc Tryz.prog w base spare held fuel 167 cs = some x) : ∃ n, cs = [.float .f64 n] ∧ x = (.lit (.float .f64 n), []) := by
  have ht : Tryz.prog.underlying 167 = some (.float .f64) := by kernel_rfl
  cases fuel with
  | zero => unfold DataW.trod at h; cases h
  | succ n =>
    unfold DataW.trod at h
    rw [ht] at h
    split at h <;> simp_all
set_option maxRecDepth 100000 in
theorem of_laid {W : World} (h : laidMetH Tryz.prog Rows.checkScopesRow.laid W) : Dg.Gl W := by
  rw [MakeChecks.laidMetH_plain _ _ _ (by kernel_rfl)] at h
  obtain ⟨ps, ⟨_, _, _, _, _, _, _, _, _, _, ⟨_, _, _, _, _, _, _, _, _, _, ⟨_, _, _, _, _, _, _, _, _, _, ⟨g2, t2, c2, f2, p2, q2, hgi, hti, hvi, hdi, ⟨g1, t1, c1, f1, p1, q1, hgo, hto, hvo, hdo, ⟨_, _, _, _, _, _, _, _, _, _, ⟨g3, t3, c4, f3, p3, q3, hgp, htp, hvp, hdp, _, _⟩, _⟩, _⟩, _⟩, _⟩, _⟩, _⟩, _, _⟩ := h
  obtain rfl := Option.some.inj (g_opt.symm.trans hgo)
  obtain rfl := Option.some.inj (t_opt.symm.trans hto)
  obtain rfl := Option.some.inj (g_inf.symm.trans hgi)
  obtain rfl := Option.some.inj (t_inf.symm.trans hti)
  obtain rfl := Option.some.inj (g_pow.symm.trans hgp)
  obtain rfl := Option.some.inj (t_pow.symm.trans htp)
  refine ⟨?_, ?_, ?_⟩
  · obtain ⟨b, e1, e2⟩ := DataW.trod_bool Tryz.underlying4 hdo
    rw [var_cell g_opt hvo]
    have hb : b = true := by
      have := congrArg Prod.fst e2
      simp only [Rows.laid_internal_strconv_optimize] at this
      injection this with this
      injection this with this
      exact this.symm
    subst hb
    rw [← Array.getElem?_toList, e1]
    rfl
  · obtain ⟨xs, n, _, e1, e2, e3, e4⟩ := DataW.trod_struct Tryz.underlying278 hdi
    match xs, e3 with
    | [y0, y1, y2], _ =>
      have h0 : DataW.trod (fun _ => ()) Tryz.prog W 0 (fun _ => true) false n 157 ((c2.toList.drop 0).take (Tryz.prog.cellsOf 157)) = some y0 := e4 0 _ rfl
      rw [c157] at h0
      obtain ⟨m, h1, h2, _⟩ := DataW.trod_int Tryz.underlying157 h0
      subst h2
      injection e1 with e1 _
      injection e1 with e1
      injection e1 with e1 _
      injection e1 with e1
      injection e1 with _ e1
      subst e1
      rw [var_cell g_inf hvi, ← Array.getElem?_toList]
      cases hl : c2.toList with
      | nil => rw [hl] at h1; cases h1
      | cons x l =>
        rw [hl] at h1
        simp at h1
        simp [h1]
  · obtain ⟨a, cap, e1, e2, e3⟩ := open_row (show Tryz.prog.underlying 309 = some (.slice 167) by kernel_rfl) c167 hdp
    have hs : a.spot = none := by
      obtain ⟨v, n, q, h1, h2⟩ := e3 0 _ rfl
      obtain ⟨m, h3, h4⟩ := trod_float h2
      injection h3 with h3
      subst h3
      exact World.cell?_spot (v := .float .f64 m) (by simpa [Addr.add] using h1)
    obtain ⟨xb, xo, sp⟩ := a
    have hs' : sp = none := hs
    subst hs'
    refine ⟨xb, xo, 23, cap, ?_, ?_, fun j v hj => ?_⟩
    · rw [var_cell g_pow hvp, ← Array.getElem?_toList, e1]
      rfl
    · decide
    · obtain ⟨u, n, q, h1, h2⟩ := e3 j (.lit (.float .f64 v)) (by
        match j, hj with
        | 0, hj => cases hj; rfl
        | 1, hj => cases hj; rfl
        | 2, hj => cases hj; rfl
        | 3, hj => cases hj; rfl
        | 4, hj => cases hj; rfl
        | 5, hj => cases hj; rfl
        | 6, hj => cases hj; rfl
        | 7, hj => cases hj; rfl
        | 8, hj => cases hj; rfl
        | j + 9, hj => cases hj)
      obtain ⟨m, h3, h4⟩ := trod_float h2
      injection h3 with h3
      subst h3
      injection h4 with h4
      injection h4 with h4
      injection h4 with _ h4
      subst h4
      by_cases hz : j = 0
      · subst hz
        simpa [Addr.add] using h1
      · simpa [Addr.add, hz] using h1
theorem glb_of {W : World} (h : Dg.Gl W) : Pm.GlB W W.heap.size := by
  obtain ⟨g, o, n, c, h1, h2, h3⟩ := h.pow
  exact ⟨cell_lt h1, h.opt, h.man, g, o, n, c, h1, h2, cell_lt (h3 0 _ rfl), h3⟩
end Go.Proofs.YtajoncmmdeahnaaGreatDoor
