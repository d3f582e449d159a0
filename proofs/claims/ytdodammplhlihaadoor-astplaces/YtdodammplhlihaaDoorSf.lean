/-
  Same, of trees whose texts may be of any length; a tree of which the first kid's text was made longer.
-/
import Derived.Test.YtdodammplhlihaaDoorSm
namespace Go.Proofs.YtdodammplhlihaaDoor
open Go.RowKit
mutual
def Nd.few : Nd → Prop
  | .mk _ _ _ _ ks => ks.length ≤ 255 ∧ Nd.fews ks
def Nd.fews : List Nd → Prop
  | [] => True
  | x :: r => Nd.few x ∧ Nd.fews r
end
mutual
theorem Nd.ok_few : ∀ {x : Nd}, x.ok → x.few
  | .mk k t s n ks, h => by
    rw [Nd.ok] at h
    rw [Nd.few]
    exact ⟨h.2.1, Nd.oks_fews h.2.2⟩
theorem Nd.oks_fews : ∀ {l : List Nd}, Nd.oks l → Nd.fews l
  | [], _ => by rw [Nd.fews]; trivial
  | x :: r, h => by
    rw [Nd.oks] at h
    rw [Nd.fews]
    exact ⟨Nd.ok_few h.1, Nd.oks_fews h.2⟩
end
theorem Nd.fews_mem : ∀ {l : List Nd}, Nd.fews l → ∀ x ∈ l, Nd.few x
  | x :: r, h, y, hy => by
    rw [Nd.fews] at h
    rcases List.mem_cons.1 hy with rfl | hy
    · exact h.1
    · exact Nd.fews_mem h.2 y hy
theorem sameF_any (P Q : Nat → Prop) : ∀ (x : Nd), x.few → ∀ (y : Nd), y.few → ∀ (v u : Value) (w : World), NdV w P v x → NdV w Q u y → Calls Tryd.prog 15 #[v, u] w (SameP w (Nd.eqB x y)) := by
  refine Nd.indA ?_
  intro k t s n ks ih hok y hoy v u w ⟨q, hv, hk⟩ ⟨r, hu, hl⟩
  subst hv hu
  cases y with
  | mk k' t' s' n' ls =>
    rw [Nd.few] at hok hoy
    obtain ⟨p1, c1, e1, _⟩ := hk.form
    obtain ⟨p2, c2, e2, _⟩ := hl.form
    rw [Nd.eqB]
    refine same_step k t k' t' s s' n n' q r _ w ⟨_, _, _, e1⟩ ⟨_, _, _, e2⟩ (fun W hW => equalFunc_any P Q ks ls q r W (hk.kept hW) (hl.kept hW) hok.1 hoy.1 (fun y hy z hz v u W h1 h2 => ih y hy (Nd.fews_mem hok.2 y hy) z (Nd.fews_mem hoy.2 z hz) v u W h1 h2))
/-- With another text at the first kid. -/
def Nd.txt0 (x : Nd) (s : ByteArray) : Nd := match x with
  | .mk k t s' n ks => .mk k t s' n (match ks with
    | [] => []
    | .mk k0 t0 _ n0 ks0 :: r => .mk k0 t0 s n0 ks0 :: r)
theorem txt0_few {x : Nd} (s : ByteArray) (h : x.few) : (x.txt0 s).few := by
  cases x with
  | mk k t s' n ks =>
    rw [Nd.few] at h
    cases ks with
    | nil => exact ⟨Nat.zero_le _, trivial⟩
    | cons y r =>
      cases y with
      | mk k0 t0 s0 n0 ks0 =>
        have h2 := h.2
        rw [Nd.fews, Nd.few] at h2
        show Nd.few (.mk k t s' n (.mk k0 t0 s n0 ks0 :: r))
        rw [Nd.few, Nd.fews, Nd.few]
        exact ⟨h.1, h2⟩
theorem txt0_ne {x : Nd} (h0 : 0 < x.kids.length) (s : ByteArray) (hs : s ≠ (x.kids[0]).txt) : Nd.eqB x (x.txt0 s) = false := by
  cases e : Nd.eqB x (x.txt0 s) with
  | false => rfl
  | true =>
    have h := (Nd.eqB_iff _ _).1 e
    cases x with
    | mk k t s' n ks =>
      cases ks with
      | nil => exact absurd h0 (Nat.lt_irrefl _)
      | cons y r =>
        cases y with
        | mk k0 t0 s0 n0 ks0 =>
          injection h with _ _ _ _ h5
          injection h5 with h6 _
          injection h6 with _ _ h7 _ _
          exact absurd h7.symm hs
theorem txt0_len (x : Nd) (s : ByteArray) : (x.txt0 s).kids.length = x.kids.length := by
  cases x with
  | mk k t s' n ks =>
    cases ks with
    | nil => rfl
    | cons y r => cases y; rfl
/-- The row behind the store. -/
theorem row_txt0 {w : World} {g : Nat} {cs : Array Value} {x : Nd} (hB : Blk w g 24 cs) (hs : cs.size = 5 * x.kids.length) (h0 : 0 < x.kids.length) (hr : RowN w (fun b => g + 1 ≤ b) g 0 x.kids) (s : ByteArray) : RowN (w.setCell ⟨g, 2, none⟩ (.string s)) (fun b => g + 1 ≤ b) g 0 (x.txt0 s).kids := by
  have gs := grown_set (grown_refl w (some g)) 2 (.string s)
  have hB' := hB.set 2 (.string s)
  have hK : Kp w (w.setCell ⟨g, 2, none⟩ (.string s)) (fun b => g + 1 ≤ b) := Kp.of_grown gs (fun b hb e => by have := Option.some.inj e; omega)
  generalize w.setCell ⟨g, 2, none⟩ (.string s) = w' at *
  cases x with
  | mk k t s' n ks =>
    cases ks with
    | nil => exact absurd h0 (Nat.lt_irrefl _)
    | cons y r =>
      cases y with
      | mk k0 t0 s0 n0 ks0 =>
        have hr' : RowN w (fun b => g + 1 ≤ b) g 0 (.mk k0 t0 s0 n0 ks0 :: r) := hr
        have hsz : cs.size = 5 * (r.length + 1) := hs
        show RowN w' (fun b => g + 1 ≤ b) g 0 (.mk k0 t0 s n0 ks0 :: r)
        rw [RowN] at hr' ⊢
        have same : ∀ j, j ≠ 2 → w'.cell? ⟨g, j, none⟩ = w.cell? ⟨g, j, none⟩ := fun j hj => by rw [hB'.cell, hB.cell, Array.getElem?_setIfInBounds_ne (by omega)]
        obtain ⟨q, c0, c1, _, c3, c4, hq⟩ := hr'.1.cells
        refine ⟨NdAt.mk (x := .mk k0 t0 s n0 ks0) (q := q) (by rw [same _ (by decide)]; exact c0) (by rw [same _ (by decide)]; exact c1) (by rw [hB'.cell, Array.getElem?_setIfInBounds_self_of_lt (by omega)]; rfl) (by rw [same _ (by decide)]; exact c3) (by rw [same _ (by decide)]; exact c4) (hq.keptP hK (fun _ h _ => h)), RowN.of (fun i hi => ?_)⟩
        have h1 := hr'.2.at i hi
        obtain ⟨q2, d0, d1, d2, d3, d4, hq2⟩ := h1.cells
        exact NdAt.mk (by rw [same _ (by omega)]; exact d0) (by rw [same _ (by omega)]; exact d1) (by rw [same _ (by omega)]; exact d2) (by rw [same _ (by omega)]; exact d3) (by rw [same _ (by omega)]; exact d4) (hq2.keptP hK (fun _ h _ => h))
/-- The first kid's text. -/
def Nd.fst (x : Nd) : ByteArray := match x.kids with
  | [] => ⟨#[]⟩
  | y :: _ => y.txt
theorem fst_at {x : Nd} (h : 0 < x.kids.length) : (x.kids[0]).txt = x.fst := by
  cases x with
  | mk k t s n ks =>
    cases ks with
    | nil => exact absurd h (Nat.lt_irrefl _)
    | cons y r => rfl
theorem fst_row {w : World} {P : Nat → Prop} {g : Nat} {x : Nd} (h0 : 0 < x.kids.length) (hr : RowN w P g 0 x.kids) : w.cell? ⟨g, 2, none⟩ = some (.string x.fst) := by
  have h1 := hr.at 0 h0
  obtain ⟨q, _, _, c2, _⟩ := h1.cells
  rw [fst_at h0] at c2
  exact c2
theorem fst_size {x : Nd} (h : x.ok) : x.fst.size ≤ 100 := by
  cases x with
  | mk k t s n ks =>
    cases ks with
    | nil => exact Nat.zero_le _
    | cons y r =>
      have := Nd.ok_kids h y (by show y ∈ y :: r; simp)
      cases y with
      | mk k0 t0 s0 n0 ks0 => exact this.1.s1
theorem longer_ne (s t : ByteArray) (h : 0 < t.size) : s ++ t ≠ s := fun e => by
  have := congrArg ByteArray.size e
  rw [ByteArray.size_append] at this
  omega
end Go.Proofs.YtdodammplhlihaaDoor
