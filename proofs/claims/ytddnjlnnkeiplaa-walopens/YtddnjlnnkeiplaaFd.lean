/-
  Disks with the log's file, and perhaps one that was not finished, on which nothing is loose: what a log's calls make of them, wherever a fall strikes.
-/
import Derived.Test.YtddnjlnnkeiplaaXOpn
import Derived.Test.YtddnjlnnkeiplaaKXPlm
namespace Go.Proofs.Ytddnjlnnkeiplaa.X
open Go.RowKit Go.Maps
def fs2 (F N : Option ByteArray) : FS := match N with
  | none => fsF F
  | some s => twoO F s
/-- The disk. -/
def Dt (F N : Option ByteArray) (c : Nat) (dd : Bool) : Dk := ⟨fs2 F N, fs2 F N, [], 0, c, dd⟩
structure Mod (F N : Option ByteArray) (c : Nat) : Prop where
  f : (F.getD ⟨#[]⟩).size ≤ 100000
  n : (N.getD ⟨#[]⟩).size ≤ 100000
  c : c ≤ 1000
theorem fits_fs2 {F N : Option ByteArray} {c : Nat} (h : Mod F N c) (B : Nat) (hB : 100000 ≤ B) : Fits (fs2 F N) B := by
  cases N with
  | none => exact fits_fs F B (by have := h.f; omega) (by omega)
  | some s => exact fits_twoO F s B (by have := h.f; omega) (by have : s.size ≤ 100000 := h.n; omega) (by omega)
theorem size_fs2 {F N : Option ByteArray} {c : Nat} (h : Mod F N c) : sizeF (fs2 F N) ≤ 200000 := by
  have h1 := h.f
  cases N with
  | none => show sizeF (fsF F) ≤ _; rw [size_fs]; omega
  | some s =>
    have h2 : s.size ≤ 100000 := h.n
    cases F with
    | none => show s.size + 0 ≤ _; omega
    | some f =>
      have h3 : f.size ≤ 100000 := h1
      show f.size + (s.size + 0) ≤ _
      omega
theorem able_dt {F N : Option ByteArray} {c : Nat} (h : Mod F N c) (dd : Bool) : Able (Dt F N c dd) okL :=
  ⟨⟨fits_fs2 h _ (by decide), by show 0 ≤ _; decide, by have := h.c; show c ≤ _; omega, by show 0 ≤ _; decide⟩, by have := size_fs2 h; show sizeF (fs2 F N) ≤ _; omega, fun i hi => absurd hi (Nat.not_lt_zero _), fits_fs2 h _ (by decide)⟩
theorem fail_dt (F N : Option ByteArray) (c : Nat) (dd : Bool) (keep torn : Int) (L : Nat → OkChg) : failD (Dt F N c dd) keep torn L = Dt F N c true := rfl
/-- Does the fall strike at this change? -/
def hits (pl : Option Fa) (c : Nat) : Bool := match pl with
  | none => false
  | some f => decide (f.at_ = (c : Int))
theorem ansQ_hit {pl : Option Fa} {k : Dk} {ch : Chg} (h0 : ansF k ch = 0) : ansQ pl k ch = if hits pl k.changes then 7 else 0 := by
  unfold ansQ
  rw [if_pos h0]
  cases pl <;> rfl
theorem next_hit {pl : Option Fa} {k : Dk} {ch : Chg} {L : Nat → OkChg} (h0 : ansF k ch = 0) (hh : hits pl k.changes = true) : (∃ keep torn, nextQ pl k ch L = failD k keep torn L) ∧ planQ pl k ch = none := by
  cases pl with
  | none => cases hh
  | some f =>
    have hf : f.at_ = (k.changes : Int) := of_decide_eq_true hh
    refine ⟨⟨f.keep, f.torn, ?_⟩, ?_⟩
    · unfold nextQ
      rw [if_pos h0]
      exact if_pos hf
    · unfold planQ
      exact if_pos ⟨h0, hh⟩
theorem next_free {pl : Option Fa} {k : Dk} {ch : Chg} {L : Nat → OkChg} (h0 : ansF k ch = 0) (hh : hits pl k.changes = false) : ansQ pl k ch = 0 ∧ nextQ pl k ch L = stepD k ch ∧ planQ pl k ch = pl := by
  have e : ansQ pl k ch = 0 := by rw [ansQ_hit h0, hh]; rfl
  exact ⟨e, nextQ_zero e⟩
theorem ans_put (F N : Option ByteArray) (c : Nat) (s : ByteArray) : ansF (Dt F N c false) (putC s) = 0 := by
  show refF (fs2 F N) (putC s) = 0
  unfold refF putC
  simp [log_name]
theorem ans_new (F N : Option ByteArray) (c : Nat) (s : ByteArray) : ansF (Dt F N c false) (newC s) = 0 := by
  show refF (fs2 F N) (newC s) = 0
  unfold refF newC wrC
  simp [new_name]
theorem ans_mov (F : Option ByteArray) (c : Nat) (s : ByteArray) : ansF (Dt F (some s) c false) movC = 0 := ref_mov _ s (get_twoO F s)
theorem half_dt (F : Option ByteArray) (c : Nat) (s : ByteArray) : halfK (Dt F none c false) s = Dt F (some s) (c + 1) false := by
  unfold halfK syncD stepD Dt
  have e : doF (fs2 F none) (newC s) = twoO F s := do_new F s
  simp only [e]
  rfl
theorem step_mov (F : Option ByteArray) (c : Nat) (s : ByteArray) : syncD (stepD (Dt F (some s) c false) movC) = Dt (some s) none (c + 1) false := by
  unfold syncD stepD Dt
  have e : doF (fs2 F (some s)) movC = oneF s := do_mov F s
  simp only [e]
  rfl
theorem put_dt (F : Option ByteArray) (c : Nat) (s : ByteArray) : syncD (stepD (Dt F none c false) (putC s)) = Dt (some (F.getD ⟨#[]⟩ ++ s)) none (c + 1) false := put_dn F c s
section
variable {base b gp d : Nat} {rm : Int} {F : Option ByteArray} {c : Nat} {pl : Option Fa} {fr : List Fr} {ts : List ByteArray} {r : ByteArray} {W : World}
theorem commit_f (h : IsLog W base b (logP d fr ts)) (hd : IsP W base d gp false rm (Dt F none c false) pl) (hF : F.getD ⟨#[]⟩ = bytL fr) (hr : r.size ≤ 300) (hz : (bytL (fr ++ ts.map recF)).size ≤ 60000) (hc : c ≤ 1000) (hn : (logP d fr ts).recs.length ≤ 100000) :
    Calls Try.prog 13 #[.pointer (some ⟨b, 0, none⟩), .string r] W fun e w' => e = .returned (.int .i64 (if hits pl c then 7 else 0 : Nat)) ∧ IsLog w' base b (if hits pl c then logP d fr [] else logP d (fr ++ ts.map recF ++ [(false, r)]) []) ∧ IsP w' base d gp false rm (if hits pl c then Dt F none c true else Dt (some (bytL (fr ++ ts.map recF ++ [(false, r)]))) none (c + 1) false) (if hits pl c then none else pl) ∧ LowP base gp W w' := by
  rw [bytL_app, ByteArray.size_append] at hz
  have fz : (Wi.frmS (⟨#[109]⟩ ++ r)).size = r.size + 9 := by rw [Wi.frmS_size, one_size]
  have e1 : (logP d fr ts).wait ++ Wi.frmS (⟨#[109]⟩ ++ r) = bytL (ts.map recF) ++ Wi.frmS (⟨#[109]⟩ ++ r) := rfl
  have e2 : F.getD ⟨#[]⟩ ++ (bytL (ts.map recF) ++ Wi.frmS (⟨#[109]⟩ ++ r)) = bytL (fr ++ ts.map recF ++ [(false, r)]) := by rw [hF, commit_bytes]
  have z2 : (bytL (fr ++ ts.map recF ++ [(false, r)])).size ≤ 300000 := by rw [← e2, hF, ByteArray.size_append, ByteArray.size_append, fz]; omega
  obtain ⟨T, h1, _, _⟩ := frG_recs d fr ts
  have hM : Mod F none c := ⟨by rw [hF]; omega, by show 0 ≤ _; omega, hc⟩
  have k := commit_q base b gp rm (logP d fr ts) (Dt F none c false) pl r okL W h hd hd.base.1 (able_dt hM false) (by omega) (by show (bytL (ts.map recF)).size ≤ _; omega) (by omega) (by
    show (frG d fr).recs.length ≤ (frG d (fr ++ ts.map recF)).recs.length
    rw [h1, List.length_append]
    omega) (by show (bytL fr).size ≤ _; omega) (by
    rw [e1]
    show Fits (doF (fsF F) (putC _)) 1000000
    rw [do_put, e2]
    exact fits_one _ _ (by omega) (by decide))
  unfold comQ putK at k
  have h0 := ans_put F none c (bytL (ts.map recF) ++ Wi.frmS (⟨#[109]⟩ ++ r))
  rw [e1, logP_commit, logP_drop, put_dt, e2] at k
  cases hx : hits pl c with
  | true =>
    have ea : ansQ pl (Dt F none c false) (putC (bytL (ts.map recF) ++ Wi.frmS (⟨#[109]⟩ ++ r))) = 7 := by rw [ansQ_hit h0]; rw [show (Dt F none c false).changes = c from rfl, hx]; rfl
    obtain ⟨⟨q1, q2, q3⟩, q4⟩ := next_hit (L := okL) h0 hx
    rw [ea, q3, q4, fail_dt] at k
    exact k
  | false =>
    obtain ⟨q1, q2, q3⟩ := next_free (L := okL) h0 hx
    rw [q1, q3] at k
    exact k
theorem replace_f {bl : Nat} {v : Value} {l : List ByteArray} (h : IsLog W base b (logP d fr ts)) (hd : IsP W base d gp false rm (Dt F none c false) pl) (hF : (F.getD ⟨#[]⟩).size ≤ 60000) (hc : c ≤ 900)
    (hv : W.ownsRow bl 9 1 v l.length (strs l)) (hl : l.length ≤ 6) (hs : ∀ t ∈ l, t.size ≤ 300) (hr : r.size ≤ 300) :
    Calls Try.prog 18 #[.pointer (some ⟨b, 0, none⟩), v, .string r] W fun e w' => (hits pl c = false → hits pl (c + 1) = false → e = .returned (.int .i64 0) ∧ IsLog w' base b (logP d (l.map recF ++ [(false, r)]) []) ∧ IsP w' base d gp false rm (Dt (some (bytL (l.map recF ++ [(false, r)]))) none (c + 2) false) pl) ∧ ((hits pl c = true ∨ hits pl (c + 1) = true) → e = .returned (.int .i64 7) ∧ ∃ N c', (N.getD ⟨#[]⟩).size ≤ 100000 ∧ c' ≤ c + 1 ∧ IsP w' base d gp false rm (Dt F N c' true) none) ∧ LowP base gp W w' := by
  have hw : (wholeT l r).size ≤ 60000 := by
    have o := offK_le hs l.length
    rw [wholeT_size]
    unfold endT
    omega
  have hM : Mod F none c := ⟨by omega, by show 0 ≤ _; omega, by omega⟩
  have hM2 : Mod F (some (wholeT l r)) (c + 1) := ⟨by omega, by show (wholeT l r).size ≤ _; omega, by omega⟩
  have k := replace_q base b bl gp rm (logP d fr ts) (Dt F none c false) pl v l r okL W h hd hd.base.1 (able_dt hM false) (by rw [half_dt]; exact able_dt hM2 false) (by
    show Fits (doF (fsF F) (wrC _ _)) _
    rw [do_new]
    exact fits_twoO F _ _ (by omega) (by omega) (by decide)) (by
    rw [half_dt]
    show Fits (doF (twoO F _) movC) _
    rw [do_mov]
    exact fits_one _ _ (by omega) (by decide)) hv hl hs hr
  unfold layA layK layP at k
  rw [half_dt, step_mov] at k
  have h0 := ans_new F none c (wholeT l r)
  have h1 := ans_mov F (c + 1) (wholeT l r)
  refine k.mono (fun e w' hk => ?_)
  cases hx : hits pl c with
  | true =>
    have ea : ansQ pl (Dt F none c false) (newC (wholeT l r)) = 7 := by rw [ansQ_hit h0]; rw [show (Dt F none c false).changes = c from rfl, hx]; rfl
    obtain ⟨⟨q1, q2, q3⟩, q4⟩ := next_hit (L := okL) h0 hx
    rw [ea, q3, q4, fail_dt] at hk
    exact ⟨(fun hh => by cases hh), fun _ => ⟨hk.1, none, c, by show 0 ≤ _; omega, by omega, hk.2.2.1⟩, hk.2.2.2⟩
  | false =>
    obtain ⟨q1, q2, q3⟩ := next_free (L := okL) h0 hx
    cases hy : hits pl (c + 1) with
    | true =>
      have ea : ansQ pl (Dt F (some (wholeT l r)) (c + 1) false) movC = 7 := by rw [ansQ_hit h1]; rw [show (Dt F (some (wholeT l r)) (c + 1) false).changes = c + 1 from rfl, hy]; rfl
      obtain ⟨⟨u1, u2, u3⟩, u4⟩ := next_hit (L := okL) h1 hy
      rw [q1, ea, u3, u4, fail_dt] at hk
      exact ⟨(fun _ hh => by cases hh), fun _ => ⟨hk.1, some (wholeT l r), c + 1, by show (wholeT l r).size ≤ _; omega, Nat.le_refl _, hk.2.2.1⟩, hk.2.2.2⟩
    | false =>
      obtain ⟨u1, u2, u3⟩ := next_free (L := okL) h1 hy
      rw [q1, u1, u3] at hk
      have e : (logP d fr ts).d = d := rfl
      rw [e, logP_replace, ← whole_frames] at hk
      exact ⟨fun _ _ => ⟨hk.1, hk.2.1, hk.2.2.1⟩, (fun hh => by rcases hh with hh | hh <;> cases hh), hk.2.2.2⟩
variable {N : Option ByteArray} {dd : Bool}
/-- Crash, whether it is dead or not. -/
theorem crash_f (keep torn : Int) (hd : IsP W base d gp false rm (Dt F N c dd) pl) (hM : Mod F N c) (ht : torn ≤ 9223372036854775807) :
    Calls Try.prog 16 #[.pointer (some ⟨d, 0, none⟩), .int .i64 keep, .int .i64 torn] W fun e w' => e = .returned (.tuple #[]) ∧ IsP w' base d gp false rm (Dt F N c true) pl ∧ W.grownBy w' (some d) := by
  cases dd with
  | true =>
    refine (crashdead_q base d gp rm _ pl keep torn W hd rfl).mono ?_
    rintro e w' ⟨he, hw⟩
    rw [hw]
    exact ⟨he, hd, grown_refl _ _⟩
  | false => exact crash_q base d gp rm _ pl keep torn okL W hd rfl (able_dt hM false) ht
theorem up_f (hd : IsP W base d gp false rm (Dt F N c true) pl) :
    Calls Try.prog 17 #[.pointer (some ⟨d, 0, none⟩)] W fun e w' => e = .returned (.bool true) ∧ IsP w' base d gp false rm (Dt F N c false) pl ∧ W.grownBy w' (some d) := up_q base d gp rm _ pl W hd rfl
def okR : Nat → OkChg := fun _ => ⟨remC, ⟨by decide, by decide, by decide, by decide, by decide, by decide⟩⟩
def upC (N : Option ByteArray) (c : Nat) : Nat := match N with
  | none => c
  | some _ => c + 1
theorem del_twoO (F : Option ByteArray) (n : ByteArray) : doF (twoO F n) remC = fsF F := by
  cases F with
  | some f => exact del_two f n
  | none =>
    have e : doF (twoO none n) remC = delF (twoO none n) ⟨#[108, 111, 103, 46, 110, 101, 119]⟩ := by
      unfold doF remC
      simp only [get_twoO]
      rfl
    rw [e]
    unfold delF twoO
    rw [List.filter_cons, same_nn]
    rfl
theorem get_none (F : Option ByteArray) : getF (fsF F) ⟨#[108, 111, 103, 46, 110, 101, 119]⟩ = none := by
  cases F with
  | none => rfl
  | some f => exact get_one_n f
theorem read_fs (F : Option ByteArray) : readS (fsF F) ⟨#[108, 111, 103]⟩ = F.getD ⟨#[]⟩ := read_dn F 0
theorem ans_rem (F : Option ByteArray) (c : Nat) : ansF (Dt F none c false) remC = 2 := by
  show refF (fsF F) remC = 2
  rw [remC, refF_rem _ _ new_name, get_none]
  rfl
theorem ans_rem2 (F : Option ByteArray) (n : ByteArray) (c : Nat) : ansF (Dt F (some n) c false) remC = 0 := by
  show refF (twoO F n) remC = 0
  rw [remC, refF_rem _ _ new_name, get_twoO]
  rfl
def midK (F : Option ByteArray) (n : ByteArray) (c : Nat) : Dk := ⟨fsF F, twoO F n, [remC], 1, c + 1, false⟩
theorem step_rem (F : Option ByteArray) (n : ByteArray) (c : Nat) : stepD (Dt F (some n) c false) remC = midK F n c := by
  unfold stepD Dt midK
  have e : doF (fs2 F (some n)) remC = fsF F := del_twoO F n
  simp only [e]
  rfl
theorem able_mid {F : Option ByteArray} {n : ByteArray} {c : Nat} (h : Mod F (some n) c) : Able (midK F n c) okR :=
  ⟨⟨fits_fs F _ (by have := h.f; omega) (by decide), by show 1 ≤ _; decide, by have := h.c; show c + 1 ≤ _; omega, by show 1 ≤ _; decide⟩, by have := h.f; show sizeF (fsF F) ≤ _; rw [size_fs]; omega, fun i hi => by
    have h1 : i < 1 := hi
    have h0 : i = 0 := by omega
    subst h0
    rfl, fits_twoO F n _ (by have := h.f; omega) (by have : n.size ≤ 100000 := h.n; omega) (by decide)⟩
/-- An opening at which no fall strikes, of a file that is shut. -/
theorem open_f (hd : IsP W base d gp false rm (Dt F N c false) pl) (hNP : N = none ∨ pl = none) (hM : Mod F N c) (hF : F.getD ⟨#[]⟩ = bytL fr) (hS : Shut fr) (hl : fr.length ≤ 1000) (hs : ∀ x ∈ fr, x.2.size ≤ 900) :
    Calls Try.prog 10 #[.pointer (some ⟨d, 0, none⟩)] W (OpenP base d gp rm W (logP d fr []) 0 (Dt F none (upC N c) false) pl) := by
  have hFz : (bytL fr).size ≤ 100000 := by rw [← hF]; exact hM.f
  have hld : ∀ W b, IsLog W base b (newL d) → Calls Try.prog 40 #[.pointer (some ⟨b, 0, none⟩), .string (bytL fr)] W fun e w' => e = .returned (.tuple #[]) ∧ IsLog w' base b (logP d fr []) ∧ LT base b W w' := by
    rw [← logP_load d fr hS]
    exact fun W b hW => load_fr base b d fr W hW hl hs (by omega)
  have hG : (logP d fr []).len = (bytL fr).size := rfl
  have e0 : (bytL fr).size - (logP d fr []).len = 0 := by rw [hG, Nat.sub_self]
  cases N with
  | none =>
    have ha := ans_rem F c
    have en : nextQ pl (Dt F none c false) remC okL = Dt F none c false := by unfold nextQ; rw [if_neg (by rw [ha]; decide)]
    have ea : ansQ pl (Dt F none c false) remC = 2 := by unfold ansQ; rw [ha]; rfl
    have ep : planQ pl (Dt F none c false) remC = pl := by unfold planQ; rw [ha, if_neg (fun h => by cases h.1)]
    have k := open_q base d gp rm (Dt F none c false) pl okL okL (logP d fr []) 2 (Dt F none c false) (Dt F none c false) pl W hd (able_dt hM false) ea (Or.inr rfl) en ep rfl (able_dt hM false) (bytL fr) (by show readS (fsF F) _ = _; rw [read_fs, hF]) hld (by rw [hG]; exact Nat.le_refl _) (by omega) (Or.inl ⟨e0, rfl⟩)
    rw [e0] at k
    exact k
  | some n =>
    have hp : pl = none := by rcases hNP with h | h; · cases h
                              · exact h
    subst hp
    have ha := ans_rem2 F n c
    obtain ⟨q1, q2, q3⟩ := next_free (pl := none) (L := okL) ha rfl
    rw [step_rem] at q2
    have hsy : Dt F none (c + 1) false = syncD (midK F n c) := rfl
    have k := open_q base d gp rm (Dt F (some n) c false) none okL okR (logP d fr []) 0 (midK F n c) (Dt F none (c + 1) false) none W hd (able_dt hM false) q1 (Or.inl rfl) q2 q3 rfl (able_mid hM) (bytL fr) (by show readS (fsF F) _ = _; rw [read_fs, hF]) hld (by rw [hG]; exact Nat.le_refl _) (by omega) (Or.inl ⟨e0, hsy⟩)
    rw [e0] at k
    exact k
end
end Go.Proofs.Ytddnjlnnkeiplaa.X
