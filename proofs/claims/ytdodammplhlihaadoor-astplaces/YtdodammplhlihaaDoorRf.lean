/-
  Ref: a tree as the other side has it.
-/
import Derived.Test.YtdodammplhlihaaDoorAb
namespace Go.Proofs.YtdodammplhlihaaDoor
open Go.RowKit
def refP (w : World) (x : Nd) (e : Ending) (w' : World) : Prop := ∃ q, e = .returned (.agg #[.int .i64 x.kind, .int .i64 x.ty, .string x.txt, .int .i64 x.num, q]) ∧ KsV w' (fun b => w.heap.size ≤ b) q x.kids ∧ w.grownBy w' none
def refI (w : World) (k t : Int) (s : ByteArray) (n : Int) (q : Value) (ks : List Nd) (i : Nat) (wr : World) : Prop :=
  w.grownBy wr none ∧ Blk wr w.heap.size 24 #[.int .i64 k, .int .i64 t, .string s, .int .i64 n, q] ∧ Blk wr (w.heap.size + 1) 39 #[.int .i64 0, .int .i64 0, .string ⟨#[]⟩, .int .i64 0, .slice none 0 0]
    ∧ ∃ v, Blk wr (w.heap.size + 2) 39 #[.int .i64 k, .int .i64 t, .string s, .int .i64 n, v] ∧ Kb wr (w.heap.size + 3) 39 v (ks.take i)
set_option maxRecDepth 100000 in
set_option maxHeartbeats 2000000 in
theorem refstep (k t : Int) (s : ByteArray) (n : Int) (q0 : Value) (ks : List Nd) (P : Nat → Prop) (w : World) (hn : ks.length ≤ 255) (hks : KsV w P q0 ks)
    (ih : ∀ y ∈ ks, ∀ (v : Value) (W : World), NdV W P v y → Calls Tryd.prog 12 #[v] W (refP W y)) : Calls Tryd.prog 12 #[.agg #[.int .i64 k, .int .i64 t, .string s, .int .i64 n, q0]] w (refP w (.mk k t s n ks)) := by
  have IH := hid ih
  have HK := hid hks
  obtain ⟨p0, cap, eq0, _⟩ := hks.form
  subst eq0
  clear ih hks
  obtain ⟨L, hL⟩ : ∃ L, ks.length = L := ⟨_, rfl⟩
  have HL := hid hL
  rw [hL] at hn HK ⊢
  clear hL
  have i1 : (L : Int) ≤ 255 := by omega
  go_enter Tryd.func12, Tryd.ntmps12
  go_wp2
  go_loopw [4] (fun i wr => ∃ j : Nat, j ≤ L ∧ i = .int .i64 j ∧ refI w k t s n (.slice p0 L cap) ks j wr) (fun i _ => L - (intOf i).toNat)
  case atStart =>
    refine ⟨0, Nat.zero_le _, rfl, grown_alloc (grown_alloc (grown_alloc (grown_refl w none) _) _) _, ((Blk.new w 24 _).alloc _).alloc _, ?_, .slice none 0 0, ?_, ?_⟩
    · have := (Blk.new (w.alloc (.cells #[.int .i64 k, .int .i64 t, .string s, .int .i64 n, .slice p0 L cap] 24)) 39 #[.int .i64 0, .int .i64 0, .string ⟨#[]⟩, .int .i64 0, .slice none 0 0]).alloc (.cells #[.int .i64 k, .int .i64 t, .string s, .int .i64 n, .slice none 0 0] 39)
      rw [World.size_alloc] at this
      exact this
    · have := Blk.new ((w.alloc (.cells #[.int .i64 k, .int .i64 t, .string s, .int .i64 n, .slice p0 L cap] 24)).alloc (.cells #[.int .i64 0, .int .i64 0, .string ⟨#[]⟩, .int .i64 0, .slice none 0 0] 39)) 39 #[.int .i64 k, .int .i64 t, .string s, .int .i64 n, .slice none 0 0]
      rw [World.size_alloc, World.size_alloc] at this
      exact this
    · rw [List.take_zero]; exact Kb.nil _ _ _
  case round =>
    obtain ⟨j, hj, rfl, hg, hB0, hB1, v, hB2, hkb⟩ := hrel
    have j0 : (0 : Int) ≤ j := by omega
    have G := hid hg
    have B0 := hid hB0
    have B1 := hid hB1
    have B2 := hid hB2
    have KB := hid hkb
    obtain ⟨pv, cv, ev, _⟩ := hkb.form
    subst ev
    have x4 : wr.cell? ⟨w.heap.size, 4, none⟩ = some (.slice p0 L cap) := by rw [hB0.cell]; rfl
    by_cases hlt : j < L
    · have j1 : (j : Int) < L := by omega
      have hjk : j < ks.length := by rw [HL.out]; exact hlt
      obtain ⟨g', hg', _, hat⟩ := (HK.out.kept hg).at j hjk
      subst hg'
      obtain ⟨q, c0, c1, c2, c3, c4, hkq⟩ := hat.cells
      rw [Nat.mul_comm 5 j] at c0 c1 c2 c3 c4
      have CC : Hid (∀ W, wr.grownBy W none → Calls Tryd.prog 12 #[.agg #[.int .i64 (ks[j]).kind, .int .i64 (ks[j]).ty, .string (ks[j]).txt, .int .i64 (ks[j]).num, q]] W (refP W (ks[j]))) := fun W hW => IH.out _ (List.getElem_mem hjk) _ W ⟨q, rfl, hkq.kept hW⟩
      obtain ⟨p', cap', hq, _⟩ := hkq.form
      subst hq
      have tl : (ks.take j).length = j := by rw [List.length_take]; omega
      rw [tl] at hB2 B2 KB hkb
      have o4 : wr.cell? ⟨w.heap.size + 2, 4, none⟩ = some (.slice pv j cv) := by rw [hB2.cell]; rfl
      have of : wr.frozen? ⟨w.heap.size + 2, 4, none⟩ = false := hB2.frozen 4
      have hw2 : w.heap.size + 3 ≤ wr.heap.size := hB2.lt
      have TS : Hid (ks.take (j + 1) = ks.take j ++ [ks[j]]) := by rw [List.take_succ_eq_append_getElem hjk]; exact rfl
      have hz : (ks.take j).length < 100000 := by rw [tl]; omega
      have HZ := hid hz
      have KL := hid KB.out.lt
      clear hg hB0 hB1 hB2 hkb hkq hat IH HK hz tl
      generalize hy : ks[j] = y at *
      generalize ks.take j = l0 at *
      obtain ⟨l1, e1⟩ : ∃ l1, l1 = l0 ++ [y] := ⟨_, rfl⟩
      have E1 := hid e1
      rw [← e1] at TS
      clear hy e1
      go_wp2_with fail
      go_region_law (first
        | (go_simp; go_at_call 12; refine (CC.out _ ?gr).mono ?_; (case gr => first | exact grown_drew (grown_refl _ _) | exact grown_refl _ _); rintro e w4 ⟨q4, rfl, hk4, hg4⟩; have G4 : Hid (wr.grownBy w4 none) := grown_trans (grown_drew (grown_refl _ _)) hg4; obtain ⟨p4, cap4, eq4, _⟩ := hk4.form; subst eq4; have K4 : Hid (KsV w4 (fun b => wr.heap.size ≤ b) (.slice p4 y.kids.length cap4) y.kids) := hk4; have b0 := hid (B0.out.kept G4.out (by simp)); have b1 := hid (B1.out.kept G4.out (by simp)); have b2 := hid (B2.out.kept G4.out (by simp)); have kb := hid (KB.out.kept G4.out (by simp)); have e4 : w4.cell? ⟨w.heap.size + 2, 4, none⟩ = some (.slice pv j cv) := b2.out.cell 4; have e5 := b2.out.frozen 4; have e6 : ∀ o, (w4.alloc o).cell? ⟨w.heap.size + 2, 4, none⟩ = some (.slice pv j cv) := fun o => (b2.out.alloc o).cell 4; have hw5 : w.heap.size + 2 < w4.heap.size := b2.out.lt; have hw4 : w.heap.size + 3 ≤ w4.heap.size := Nat.le_trans hw2 G4.out.size; clear hk4 hg4 CC)
        | (refine step_nd 36 39 Tryd.underlying36 info39 (.tmp 22) (.tmp 29) rfl rfl (w.heap.size + 3) (.slice pv j cv) l0 y (.slice p4 y.kids.length cap4) ⟨w4.heap.size, 0, none⟩ 1 (kb.out.kept (grown_alloc (grown_refl w4 none) _) (by simp)) (NdC.new w4 39 y _) ((K4.out.mono (fun b hb _ => ⟨by omega, fun e => by have := (KL.out b e.symm).2; omega⟩)).kept (grown_alloc (grown_refl w4 none) _)) HZ.out (by rw [World.size_alloc]; omega) rfl rfl ?_; intro v5 u5 h5 hg5; rw [← E1.out] at h5; have KB5 := hid h5; have RU := row_under kb.out; have B05 := hid ((b0.out.alloc (.cells #[.int .i64 y.kind, .int .i64 y.ty, .string y.txt, .int .i64 y.num, .slice p4 y.kids.length cap4] 39)).kept hg5 (fun e => by have := RU _ e.symm; omega)); have B15 := hid ((b1.out.alloc (.cells #[.int .i64 y.kind, .int .i64 y.ty, .string y.txt, .int .i64 y.num, .slice p4 y.kids.length cap4] 39)).kept hg5 (fun e => by have := RU _ e.symm; omega)); have B25 := hid ((b2.out.alloc (.cells #[.int .i64 y.kind, .int .i64 y.ty, .string y.txt, .int .i64 y.num, .slice p4 y.kids.length cap4] 39)).kept hg5 (fun e => by have := RU _ e.symm; omega)); have G5 : Hid (w.grownBy u5 none) := (grown_ob' (grown_alloc (grown_none G.out G4.out) _) hg5 (fun x hx => by have := RU _ hx; omega)); obtain ⟨p5, c5, e5', _⟩ := h5.form; subst e5'; have d4 : u5.cell? ⟨w.heap.size + 2, 4, none⟩ = some (.slice pv j cv) := B25.out.cell 4; have d5 := B25.out.frozen 4; clear h5 hg5))
      all_goals (
        go_wp2
        go_roundw
        case rel =>
          have gs := grown_set (grown_refl u5 (some (w.heap.size + 2))) 4 (.slice p5 l1.length c5)
          refine ⟨j + 1, by omega, by go_num, grown_set_new G5.out _ (by simp only; omega), B05.out.kept gs (by simp), B15.out.kept gs (by simp), _, B25.out.set 4 _, ?_⟩
          rw [TS.out]
          exact KB5.out.kept gs (fun r e => by have := Option.some.inj e; omega)
        case measure => simp [intOf]; omega)
    · have hjL : j = L := by omega
      subst hjL
      have j1 : ¬ (j : Int) < j := by omega
      have tl : (ks.take j).length = j := by rw [List.length_take, HL.out]; omega
      have ta : ks.take j = ks := List.take_of_length_le (by rw [HL.out]; exact Nat.le_refl _)
      rw [tl] at hB2 B2 KB hkb
      rw [ta] at KB
      have x0 : wr.cell? ⟨w.heap.size + 2, 0, none⟩ = some (.int .i64 k) := by rw [hB2.cell]; rfl
      have x1 : wr.cell? ⟨w.heap.size + 2, 1, none⟩ = some (.int .i64 t) := by rw [hB2.cell]; rfl
      have x2 : wr.cell? ⟨w.heap.size + 2, 2, none⟩ = some (.string s) := by rw [hB2.cell]; rfl
      have x3 : wr.cell? ⟨w.heap.size + 2, 3, none⟩ = some (.int .i64 n) := by rw [hB2.cell]; rfl
      have x5 : wr.cell? ⟨w.heap.size + 2, 4, none⟩ = some (.slice pv j cv) := by rw [hB2.cell]; rfl
      have z0 : wr.cell? ⟨w.heap.size + 1, 0, none⟩ = some (.int .i64 0) := by rw [hB1.cell]; rfl
      have z1 : wr.cell? ⟨w.heap.size + 1, 1, none⟩ = some (.int .i64 0) := by rw [hB1.cell]; rfl
      have z2 : wr.cell? ⟨w.heap.size + 1, 2, none⟩ = some (.string ⟨#[]⟩) := by rw [hB1.cell]; rfl
      have z3 : wr.cell? ⟨w.heap.size + 1, 3, none⟩ = some (.int .i64 0) := by rw [hB1.cell]; rfl
      have z4 : wr.cell? ⟨w.heap.size + 1, 4, none⟩ = some (.slice none 0 0) := by rw [hB1.cell]; rfl
      have f0 := hB1.frozen 0
      have f1 := hB1.frozen 1
      have f2 := hB1.frozen 2
      have f3 := hB1.frozen 3
      have f4 := hB1.frozen 4
      clear hg hB0 hB1 hB2 hkb IH HK tl ta
      go_wp2
      have gs := grown_set5 (grown_refl wr (some (w.heap.size + 1))) 0 (.int .i64 k) (.int .i64 t) (.string s) (.int .i64 n) (.slice pv j cv)
      have kF := (KB.out.kept gs (fun r e => by have := Option.some.inj e; omega)).ks.mono (Q := fun b => w.heap.size ≤ b) (fun b hb _ => by omega)
      have gW : w.grownBy (set5 wr (w.heap.size + 1) 0 (.int .i64 k) (.int .i64 t) (.string s) (.int .i64 n) (.slice pv j cv)) none := grown_set5_new G.out _ _ _ _ _ _ (by omega)
      exact bodyPost_ret (v := .agg #[.int .i64 k, .int .i64 t, .string s, .int .i64 n, .slice pv j cv]) (by simp [results, Tryd.results12, go_sem, z0, z1, z2, z3, z4]) rfl ⟨_, rfl, kF, gW⟩
theorem refany (P : Nat → Prop) : ∀ (x : Nd), x.ok → ∀ (v : Value) (w : World), NdV w P v x → Calls Tryd.prog 12 #[v] w (refP w x) := by
  refine Nd.indA ?_
  intro k t s n ks ih hok v w ⟨q, hv, hk⟩
  subst hv
  exact refstep k t s n q ks P w hok.2.1 hk (fun y hy v W hv => ih y hy (Nd.oks_mem hok.2.2 y hy) v W hv)
end Go.Proofs.YtdodammplhlihaaDoor
