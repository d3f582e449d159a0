/-
  At: the node at a place.
-/
import Derived.Test.YtajoncmmdeahnaaGreatDoorKYCn
import Derived.Test.YtajoncmmdeahnaaGreatDoorKACi
namespace Go.Proofs.YtajoncmmdeahnaaGreatDoor.An
open Go.RowKit Go.Maps Go.Shelf
attribute [local go_sem] Oper.semAt_some
def KC (w w' : World) : Prop := ∀ b o v, w.cell? ⟨b, o, none⟩ = some v → w'.cell? ⟨b, o, none⟩ = some v
mutual
theorem nd_keptC {w w' : World} {P : Nat → Prop} (hk : KC w w') : ∀ {g o : Nat} {x : Nd}, NdAt w P g o x → NdAt w' P g o x
  | g, o, .mk k t s n ks, h => by
    rw [NdAt] at h ⊢
    obtain ⟨h0, h1, h2, h3, q, g', h4, h5, h6⟩ := h
    exact ⟨hk _ _ _ h0, hk _ _ _ h1, hk _ _ _ h2, hk _ _ _ h3, q, g', hk _ _ _ h4, h5, row_keptC hk h6⟩
theorem row_keptC {w w' : World} {P : Nat → Prop} (hk : KC w w') : ∀ {g o : Nat} {l : List Nd}, RowN w P g o l → RowN w' P g o l
  | _, _, [], _ => by rw [RowN]; trivial
  | g, o, x :: r, h => by
    rw [RowN] at h ⊢
    exact ⟨nd_keptC hk h.1, row_keptC hk h.2⟩
end
theorem ks_keptC {w w' : World} {P : Nat → Prop} {q : Value} {ks : List Nd} (h : KsV w P q ks) (hk : KC w w') : KsV w' P q ks := by
  obtain ⟨g, h5, h6⟩ := h
  exact ⟨g, h5, row_keptC hk h6⟩
theorem kc_other {W W' : World} {row : Option Nat} (hg : W.grownBy W' row) (hr : ∀ r, row = some r → ∃ o : Obj, W.heap[r]? = some o ∧ o.isCells = false) : KC W W' := fun b o v h => by
  refine (World.cell?_of_block (hg.block b (cell_lt h) (fun e => ?_))).trans h
  obtain ⟨ob, ho, hc⟩ := hr b e.symm
  simp only [World.cell?, ho] at h
  cases ob <;> simp_all [Obj.isCells]
def AtI (w w4 : World) (place : Int) {n : Nat} (pre : List (Fin n)) (W : World) : Prop :=
  w4.grownBy W none ∧ (∀ i ∈ pre, (i.val : Int) ≠ place) ∧ w.grownBy W none
theorem atI_own {w w4 : World} {place : Int} {n : Nat} (hw : w.heap.size ≤ w4.heap.size) : OwnFrom w4.heap.size (AtI w w4 place (n := n)) := fun s W W' row hs hg hr => by
  obtain ⟨a1, a3, a4⟩ := hs
  exact ⟨grown_ob' a1 hg (fun r e => by have := (hr r e).1; omega), a3, grown_ob' a4 hg (fun r e => by have := (hr r e).1; omega)⟩
def AtX (w : World) (n4 : Nat) (place : Int) (sp : List Sp) (c : Code) (_ : List (Fin sp.length)) (W : World) : Prop :=
  c = .ret ∧ ∃ (i : Fin sp.length) (p : Option Addr) (m cc : Nat), (i.val : Int) = place ∧ Blk W (w.heap.size + 2) 27 #[.int .i64 (sp[i.val]).x.kind, .int .i64 (sp[i.val]).x.ty, .string (sp[i.val]).x.txt, .int .i64 (sp[i.val]).x.num, .slice p m cc] ∧ Blk W (w.heap.size + 3) 4 #[.bool true] ∧ KsV W (fun b => w.heap.size ≤ b) (.slice p m cc) (sp[i.val]).x.kids ∧ w.grownBy W none ∧ n4 ≤ W.heap.size
theorem atX_own {w : World} {n4 : Nat} {place : Int} {sp : List Sp} (hw : w.heap.size ≤ n4) (c : Code) : OwnFrom n4 (AtX w n4 place sp c) := fun s W W' row hs hg hr => by
  obtain ⟨a0, i, p, m, cc, a1, a2, a3, a4, a5, a6⟩ := hs
  exact ⟨a0, i, p, m, cc, a1, blk_other a2 hg (fun r e => (hr r e).2), blk_other a3 hg (fun r e => (hr r e).2), ks_keptC a4 (kc_other hg (fun r e => (hr r e).2)), grown_ob' a5 hg (fun r e => by have := (hr r e).1; omega), Nat.le_trans a6 hg.size⟩
theorem keeps_none {W W' : World} (h : W.grownBy W' none) : KeepsOthers W W' := ⟨h.size, fun k o hk _ => by rw [h.block k (Array.getElem?_eq_some_iff.1 hk).1 (by simp)]; exact hk⟩
def AtA (N : Nat) (v fv : Value) (place : Int) (sp : List Sp) (i : Fin sp.length) (a' : Act) (_ : World) : Prop :=
  a' = { tmps := #[v, .int .i64 place, .pointer (some ⟨N, 0, none⟩), .pointer (some ⟨N + 1, 0, none⟩), .pointer (some ⟨N + 2, 0, none⟩), .pointer (some ⟨N + 3, 0, none⟩), .int .i64 i.val, .pointer (some ⟨(sp[i.val]).g, (sp[i.val]).o, none⟩), fv, .int .i64 i.val, .pointer (some ⟨(sp[i.val]).g, (sp[i.val]).o, none⟩), undef, undef, undef, undef, undef, undef, undef, undef], defers := [] }
theorem atA_own {B N : Nat} {v fv : Value} {place : Int} {sp : List Sp} (x : Fin sp.length) (a' : Act) : OwnFrom B (fun (_ : Unit) W => AtA N v fv place sp x a' W) := fun _ _ _ _ hs _ _ => hs
def AtP (w : World) (x : Nd) (place : Int) (e : Ending) (w' : World) : Prop :=
  ((∃ (i : Nat) (h : i < x.all.length) (q : Value), (i : Int) = place ∧ e = .returned (.tuple #[.agg #[.int .i64 (x.all[i]).kind, .int .i64 (x.all[i]).ty, .string (x.all[i]).txt, .int .i64 (x.all[i]).num, q], .bool true]) ∧ KsV w' (fun b => w.heap.size ≤ b) q (x.all[i]).kids) ∨ ((∀ i : Nat, i < x.all.length → (i : Int) ≠ place) ∧ e = .returned (.tuple #[.agg #[.int .i64 0, .int .i64 0, .string ⟨#[]⟩, .int .i64 0, .slice none 0 0], .bool false]))) ∧ w.grownBy w' none
set_option maxRecDepth 100000 in
set_option maxHeartbeats 2000000 in
theorem at_any (P0 : Nat → Prop) (x : Nd) (hok : x.ok) (hN : x.cnt ≤ 100000) (v : Value) (place : Int) (w : World) (hv : NdV w P0 v x) : Calls Tryz.prog 11 #[v, .int .i64 place] w (AtP w x place) := by
  obtain ⟨q, rfl, hk⟩ := hv
  obtain ⟨p, cap, eq, _⟩ := hk.form
  have HK := hid hk
  clear hk
  subst eq
  refine (callsIn_wide (n := 5)).1 ?_
  refine callsIn_of_wp_marks Tryz.func11 rfl trivial ?_ rfl
  simp only [Tryz.ntmps11, List.size_toArray, List.length_cons, List.length_nil, Nat.reduceAdd, Nat.reduceSub, Array.replicate_succ, Array.replicate_zero, List.push_toArray, List.append_toArray, List.nil_append, List.cons_append]
  refine wpIn_wide.2 ?_
  go_wp2_with (go_at_call 22; refine (spots_mk _ _).mono ?_; rintro e w3 ⟨rfl, hw3⟩; have hw4 := hw3.symm; clear hw3; subst hw4)
  have B0 := ((((Blk.new w 27 #[.int .i64 x.kind, .int .i64 x.ty, .string x.txt, .int .i64 x.num, .slice p x.kids.length cap]).alloc (.cells #[.int .i64 place] 3)).alloc (.cells #[.int .i64 0, .int .i64 0, .string ⟨#[]⟩, .int .i64 0, .slice none 0 0] 27)).alloc (.cells #[.bool false] 4)).alloc (.cells #[.pointer (some ⟨w.heap.size, 0, none⟩)] 60)
  have B1 := (((Blk.new (w.alloc (.cells #[.int .i64 x.kind, .int .i64 x.ty, .string x.txt, .int .i64 x.num, .slice p x.kids.length cap] 27)) 3 #[.int .i64 place]).alloc (.cells #[.int .i64 0, .int .i64 0, .string ⟨#[]⟩, .int .i64 0, .slice none 0 0] 27)).alloc (.cells #[.bool false] 4)).alloc (.cells #[.pointer (some ⟨w.heap.size, 0, none⟩)] 60)
  have B2 := ((Blk.new ((w.alloc (.cells #[.int .i64 x.kind, .int .i64 x.ty, .string x.txt, .int .i64 x.num, .slice p x.kids.length cap] 27)).alloc (.cells #[.int .i64 place] 3)) 27 #[.int .i64 0, .int .i64 0, .string ⟨#[]⟩, .int .i64 0, .slice none 0 0]).alloc (.cells #[.bool false] 4)).alloc (.cells #[.pointer (some ⟨w.heap.size, 0, none⟩)] 60)
  have B3 := (Blk.new (((w.alloc (.cells #[.int .i64 x.kind, .int .i64 x.ty, .string x.txt, .int .i64 x.num, .slice p x.kids.length cap] 27)).alloc (.cells #[.int .i64 place] 3)).alloc (.cells #[.int .i64 0, .int .i64 0, .string ⟨#[]⟩, .int .i64 0, .slice none 0 0] 27)) 4 #[.bool false]).alloc (.cells #[.pointer (some ⟨w.heap.size, 0, none⟩)] 60)
  have B5 := Blk.new ((((w.alloc (.cells #[.int .i64 x.kind, .int .i64 x.ty, .string x.txt, .int .i64 x.num, .slice p x.kids.length cap] 27)).alloc (.cells #[.int .i64 place] 3)).alloc (.cells #[.int .i64 0, .int .i64 0, .string ⟨#[]⟩, .int .i64 0, .slice none 0 0] 27)).alloc (.cells #[.bool false] 4)) 60 #[.pointer (some ⟨w.heap.size, 0, none⟩)]
  have G4 : w.grownBy (((((w.alloc (.cells #[.int .i64 x.kind, .int .i64 x.ty, .string x.txt, .int .i64 x.num, .slice p x.kids.length cap] 27)).alloc (.cells #[.int .i64 place] 3)).alloc (.cells #[.int .i64 0, .int .i64 0, .string ⟨#[]⟩, .int .i64 0, .slice none 0 0] 27)).alloc (.cells #[.bool false] 4)).alloc (.cells #[.pointer (some ⟨w.heap.size, 0, none⟩)] 60)) none := grown_alloc (grown_alloc (grown_alloc (grown_alloc (grown_alloc (grown_refl w none) _) _) _) _) _
  have S4 : (((((w.alloc (.cells #[.int .i64 x.kind, .int .i64 x.ty, .string x.txt, .int .i64 x.num, .slice p x.kids.length cap] 27)).alloc (.cells #[.int .i64 place] 3)).alloc (.cells #[.int .i64 0, .int .i64 0, .string ⟨#[]⟩, .int .i64 0, .slice none 0 0] 27)).alloc (.cells #[.bool false] 4)).alloc (.cells #[.pointer (some ⟨w.heap.size, 0, none⟩)] 60)).heap.size = w.heap.size + 5 := by simp
  simp only [World.size_alloc] at B1 B2 B3 B5
  generalize ((((w.alloc (.cells #[.int .i64 x.kind, .int .i64 x.ty, .string x.txt, .int .i64 x.num, .slice p x.kids.length cap] 27)).alloc (.cells #[.int .i64 place] 3)).alloc (.cells #[.int .i64 0, .int .i64 0, .string ⟨#[]⟩, .int .i64 0, .slice none 0 0] 27)).alloc (.cells #[.bool false] 4)).alloc (.cells #[.pointer (some ⟨w.heap.size, 0, none⟩)] 60) = w4 at *
  have at4 : NdAt w4 (fun b => b ≤ w.heap.size ∨ b = w.heap.size + 4) w.heap.size 0 x := box_node HK.out G4 (fun b hb => Or.inl (by omega)) B0
  have L4 := spN_len w4 w.heap.size 0 x
  have HAT := hid (spN_at at4 (Or.inl (Nat.le_refl _)))
  have HOK : Hid (∀ s ∈ spN w4 w.heap.size 0 x, s.x.ok) := fun s hs => Nd.all_ok hok s.x (by rw [← spN_all w4 w.heap.size 0 x]; exact List.mem_map_of_mem hs)
  refine (wpIn_wide (n := 5)).1 ?_
  refine wpIn_rangeFunc_ownH rfl (by decide) (gf := 44) (lb := #[.pointer (some ⟨w.heap.size + 1 + 1 + 1 + 1, 0, none⟩)]) rfl trivial (enters_of Tryz.func44 (by kernel_rfl) rfl)
    (spots_stops (w.heap.size + 1 + 1 + 1 + 1) w.heap.size (fun b => b ≤ w.heap.size ∨ b = w.heap.size + 4) w4 x hok (by rw [L4]; exact hN) (fun b hb => by omega) (Or.inr (by omega)) (Or.inl (Nat.le_refl _)) (by rw [B5.cell]; rfl) at4)
    (fun h k => KQ.trans h k) (fun W l o o' hl ho _ _ => ?hkb) (Below.refl _ _) (fun _ => rfl) (AtI w w4 place) (AtX w w4.heap.size place (spN w4 w.heap.size 0 x)) (atI_own (by omega)) (fun c => atX_own (by omega) c) ?hstart (AtA w.heap.size (.agg #[.int .i64 x.kind, .int .i64 x.ty, .string x.txt, .int .i64 x.num, .slice p x.kids.length cap]) (.func (.func 44) #[] #[.pointer (some ⟨w.heap.size + 1 + 1 + 1 + 1, 0, none⟩)]) place (spN w4 w.heap.size 0 x)) (fun x a' => atA_own x a') ?assign ?body ?done ?stop
  case hkb => exact fun b hb => World.putObj_heap_other (by omega)
  case hstart => exact ⟨grown_refl _ _, (fun i hi => by cases hi), G4⟩
  case assign =>
    rintro l pre y W K hi hK
    gi_wp2
    exact hK _ _ ((KeepsOthers.refl W).from _) (KQ.refl _ _) hi rfl
  case body =>
    rintro l1 pre i a' W hl1 ⟨r, hr⟩ ⟨i1, i2, i3⟩ rfl hlt
    have hsi := HAT.out _ (List.getElem_mem i.isLt)
    have hyo := HOK.out _ (List.getElem_mem i.isLt)
    have b1 := B1.kept i1 (by simp)
    have b2 := hid (B2.kept i1 (by simp))
    have b3 := hid (B3.kept i1 (by simp))
    have c1 : W.cell? ⟨w.heap.size + 1, 0, none⟩ = some (.int .i64 place) := by rw [b1.cell]; rfl
    have hnd := hsi.1.kept i1
    have I1 := hid i1
    have I2 := hid i2
    have I3 := hid i3
    generalize hsy : (spN w4 w.heap.size 0 x)[i.val] = sy at *
    have HSY := hid hsy
    obtain ⟨g, o, y⟩ := sy
    clear hsy
    by_cases he : (i.val : Int) = place
    · have he' : ((i.val : Int) == place) = true := by simpa using he
      obtain ⟨qy, d0, d1, d2, d3, d4, hky⟩ := hnd.cells
      have CC : Hid (Calls Tryz.prog 23 #[.agg #[.int .i64 y.kind, .int .i64 y.ty, .string y.txt, .int .i64 y.num, qy]] W (CloneP W y)) := cloneT_any _ y hyo _ W ⟨qy, rfl, hky⟩
      obtain ⟨py, cy, ey, _⟩ := hky.form
      subst ey
      have HE := hid he
      clear he i1 i2 i3 hsi hnd hky b1 hr hyo
      gi_wp2_with (refine ⟨trivial, ?_⟩; gi_at_call 23; refine (CallsIn.inRound l1 (callsIn_wide.2 CC.out)).mono ?_; clear CC; rintro e w6 ⟨q6, rfl, ⟨hk6, _⟩, hg6⟩; obtain ⟨p6, c6, e6, _⟩ := hk6.form; subst e6; have K6 := hid hk6; have T6 := hid hg6; have e2 := hid (b2.out.kept hg6 (by simp)); have e3 := hid (b3.out.kept hg6 (by simp)); have z0 : w6.cell? ⟨w.heap.size + 2, 0, none⟩ = some (.int .i64 0) := e2.out.cell 0; have z1 : w6.cell? ⟨w.heap.size + 2, 1, none⟩ = some (.int .i64 0) := e2.out.cell 1; have z2 : w6.cell? ⟨w.heap.size + 2, 2, none⟩ = some (.string ⟨#[]⟩) := e2.out.cell 2; have z3 : w6.cell? ⟨w.heap.size + 2, 3, none⟩ = some (.int .i64 0) := e2.out.cell 3; have z4 : w6.cell? ⟨w.heap.size + 2, 4, none⟩ = some (.slice none 0 0) := e2.out.cell 4; have f0 := e2.out.frozen 0; have f1 := e2.out.frozen 1; have f2 := e2.out.frozen 2; have f3 := e2.out.frozen 3; have f4 := e2.out.frozen 4; have zb : w6.cell? ⟨w.heap.size + 3, 0, none⟩ = some (.bool false) := e3.out.cell 0; have fb := e3.out.frozen 0; clear hk6 hg6)
      have gs := grown_set5 (grown_refl w6 (some (w.heap.size + 2))) 0 (.int .i64 y.kind) (.int .i64 y.ty) (.string y.txt) (.int .i64 y.num) (.slice p6 y.kids.length c6)
      obtain ⟨w7, hw7⟩ : ∃ w7, set5 w6 (w.heap.size + 2) 0 (.int .i64 y.kind) (.int .i64 y.ty) (.string y.txt) (.int .i64 y.num) (.slice p6 y.kids.length c6) = w7 := ⟨_, rfl⟩
      have X2 := e2.out.set5 0 (.int .i64 y.kind) (.int .i64 y.ty) (.string y.txt) (.int .i64 y.num) (.slice p6 y.kids.length c6)
      rw [hw7] at gs X2
      have gt := grown_set (grown_refl w7 (some (w.heap.size + 3))) 0 (.bool true)
      have l6 := I1.out.size
      have kF := (K6.out.keptP (Q := fun b => w.heap.size + 5 ≤ b) (Kp.of_grown gs (fun b hb e => by have := Option.some.inj e; omega)) (fun b hb _ => by omega)).keptP (Q := fun b => w.heap.size ≤ b) (Kp.of_grown gt (fun b hb e => by have := Option.some.inj e; omega)) (fun b hb _ => by omega)
      have gW : w.grownBy w7 none := by rw [← hw7]; exact grown_set5_new (grown_none I3.out T6.out) _ _ _ _ _ _ (by omega)
      have gW2 : w.grownBy (w7.setCell ⟨w.heap.size + 3, 0, none⟩ (.bool true)) none := grown_set_new gW _ (by show w.heap.size ≤ w.heap.size + 3; omega)
      have xA : AtX w w4.heap.size place (spN w4 w.heap.size 0 x) .ret (pre ++ [i]) (w7.setCell ⟨w.heap.size + 3, 0, none⟩ (.bool true)) := by
        refine ⟨rfl, i, p6, y.kids.length, c6, HE.out, ?_, (e3.out.kept gs (by simp)).set 0 _, ?_, gW2, ?_⟩
        · rw [HSY.out]; exact X2.kept gt (by simp)
        · rw [HSY.out]; exact kF
        · exact Nat.le_trans (Nat.le_trans l6 T6.out.size) (Nat.le_trans gs.size gt.size)
      subst hw7
      exact ⟨((keeps_none T6.out).trans ((((((KeepsOthers.setCell _ _ _).trans (KeepsOthers.setCell _ _ _)).trans (KeepsOthers.setCell _ _ _)).trans (KeepsOthers.setCell _ _ _)).trans (KeepsOthers.setCell _ _ _)).trans (KeepsOthers.setCell _ _ _))).from _, xA⟩
    · have he' : ((i.val : Int) == place) = false := by simpa using he
      have HE := hid he
      clear he i1 i2 i3 hsi hnd b1 hr hyo
      gi_wp2
      exact ⟨(KeepsOthers.refl W).from _, KQ.refl _ _, I1.out, fun k hk => (by
        rcases List.mem_append.1 hk with hk | hk
        · exact I2.out k hk
        · rw [List.mem_singleton] at hk
          rw [hk]; exact HE.out), I3.out⟩
  case done =>
    rintro D xs W hD rfl ⟨i1, i2, i3⟩ hK
    have b2 := B2.kept i1 (by simp)
    have b3 := B3.kept i1 (by simp)
    have z0 : W.cell? ⟨w.heap.size + 2, 0, none⟩ = some (.int .i64 0) := by rw [b2.cell]; rfl
    have z1 : W.cell? ⟨w.heap.size + 2, 1, none⟩ = some (.int .i64 0) := by rw [b2.cell]; rfl
    have z2 : W.cell? ⟨w.heap.size + 2, 2, none⟩ = some (.string ⟨#[]⟩) := by rw [b2.cell]; rfl
    have z3 : W.cell? ⟨w.heap.size + 2, 3, none⟩ = some (.int .i64 0) := by rw [b2.cell]; rfl
    have z4 : W.cell? ⟨w.heap.size + 2, 4, none⟩ = some (.slice none 0 0) := by rw [b2.cell]; rfl
    have f0 := b2.frozen 0
    have f1 := b2.frozen 1
    have f2 := b2.frozen 2
    have f3 := b2.frozen 3
    have f4 := b2.frozen 4
    have zb : W.cell? ⟨w.heap.size + 3, 0, none⟩ = some (.bool false) := by rw [b3.cell]; rfl
    have fb := b3.frozen 0
    have I2 := hid i2
    have I3 := hid i3
    have KD := hid hK
    have e2 := hid b2
    have e3 := hid b3
    have hDW : D < W.heap.size := (Array.getElem?_eq_some_iff.1 hK).1
    clear i1 i2 i3 hK b2 b3 at4 HAT HOK B0 B1 B2 B3 B5
    go_wp2_with fail
    have gs := grown_set5 (grown_refl W (some (w.heap.size + 2))) 0 (.int .i64 0) (.int .i64 0) (.string ⟨#[]⟩) (.int .i64 0) (.slice none 0 0)
    obtain ⟨w7, hw7⟩ : ∃ w7, set5 W (w.heap.size + 2) 0 (.int .i64 0) (.int .i64 0) (.string ⟨#[]⟩) (.int .i64 0) (.slice none 0 0) = w7 := ⟨_, rfl⟩
    have X2 := e2.out.set5 0 (.int .i64 0) (.int .i64 0) (.string ⟨#[]⟩) (.int .i64 0) (.slice none 0 0)
    rw [hw7] at gs X2
    have gt := grown_set (grown_refl w7 (some (w.heap.size + 3))) 0 (.bool false)
    have gW : w.grownBy w7 none := by rw [← hw7]; exact grown_set5_new I3.out _ _ _ _ _ _ (by omega)
    have gW2 : w.grownBy (w7.setCell ⟨w.heap.size + 3, 0, none⟩ (.bool false)) none := grown_set_new gW _ (by show w.heap.size ≤ w.heap.size + 3; omega)
    have Y2 := X2.kept gt (by simp)
    have Y3 := (e3.out.kept gs (by simp)).set 0 (.bool false)
    have KF : (w7.setCell ⟨w.heap.size + 3, 0, none⟩ (.bool false)).heap[D]? = some (.deferred (some [])) := (gt.block D (Nat.lt_of_lt_of_le hDW gs.size) (fun e => by have := Option.some.inj e; omega)).trans ((gs.block D hDW (fun e => by have := Option.some.inj e; omega)).trans KD.out)
    have V2 := Y2.kept (grownBy_putObj' _ D (.deferred none)) (fun e => by have := Option.some.inj e; omega)
    have V3 := Y3.kept (grownBy_putObj' _ D (.deferred none)) (fun e => by have := Option.some.inj e; omega)
    have gV := grown_ob' gW2 (grownBy_putObj' _ D (.deferred none)) (fun r e => by cases e; omega)
    subst hw7
    refine ⟨by simp, .inl ⟨_, _, rfl, run_takeDeferred KF, ?_⟩⟩
    have u0 := V2.cell 0
    have u1 := V2.cell 1
    have u2 := V2.cell 2
    have u3 := V2.cell 3
    have u4 := V2.cell 4
    have u5 := V3.cell 0
    have NOT : AtP w x place (.returned (.tuple #[.agg #[.int .i64 0, .int .i64 0, .string ⟨#[]⟩, .int .i64 0, .slice none 0 0], .bool false])) (((set5 W (w.heap.size + 2) 0 (.int .i64 0) (.int .i64 0) (.string ⟨#[]⟩) (.int .i64 0) (.slice none 0 0)).setCell ⟨w.heap.size + 3, 0, none⟩ (.bool false)).putObj D (.deferred none)) := ⟨Or.inr ⟨fun k hk => I2.out ⟨k, by rw [L4, ← Nd.all_len]; exact hk⟩ (List.mem_finRange _), rfl⟩, gV⟩
    generalize hWF : ((set5 W (w.heap.size + 2) 0 (.int .i64 0) (.int .i64 0) (.string ⟨#[]⟩) (.int .i64 0) (.slice none 0 0)).setCell ⟨w.heap.size + 3, 0, none⟩ (.bool false)).putObj D (.deferred none) = WF at *
    have u0' : WF.cell? ⟨w.heap.size + 1 + 1, 0, none⟩ = some (.int .i64 0) := u0
    have u1' : WF.cell? ⟨w.heap.size + 1 + 1, 1, none⟩ = some (.int .i64 0) := u1
    have u2' : WF.cell? ⟨w.heap.size + 1 + 1, 2, none⟩ = some (.string ⟨#[]⟩) := u2
    have u3' : WF.cell? ⟨w.heap.size + 1 + 1, 3, none⟩ = some (.int .i64 0) := u3
    have u4' : WF.cell? ⟨w.heap.size + 1 + 1, 4, none⟩ = some (.slice none 0 0) := u4
    have u5' : WF.cell? ⟨w.heap.size + 1 + 1 + 1, 0, none⟩ = some (.bool false) := u5
    show LeavesInM _ _ _ _ _ _ _ _ (((set5 W (w.heap.size + 2) 0 (.int .i64 0) (.int .i64 0) (.string ⟨#[]⟩) (.int .i64 0) (.slice none 0 0)).setCell ⟨w.heap.size + 3, 0, none⟩ (.bool false)).putObj D (.deferred none))
    rw [hWF]
    exact ⟨.tuple #[.agg #[.int .i64 0, .int .i64 0, .string ⟨#[]⟩, .int .i64 0, .slice none 0 0], .bool false], by simp [results, Tryz.results11, go_sem, u0', u1', u2', u3', u4', u5'], NOT⟩
  case stop =>
    rintro D c pre W hD _ ⟨rfl, i, p, m, cc, he, hB2, hB3, hkk, hg, hz⟩ hK
    have KD := hid hK
    clear hK
    gi_wp2
    refine ⟨by simp, .inl ⟨_, _, rfl, run_takeDeferred KD.out, ?_⟩⟩
    have hia : i.val < x.all.length := by rw [Nd.all_len, ← L4]; exact i.isLt
    have hx : x.all[i.val]'hia = ((spN w4 w.heap.size 0 x)[i.val]).x := by
      have h1 := spN_all w4 w.heap.size 0 x
      have h2 : (x.all)[i.val]? = ((spN w4 w.heap.size 0 x).map Sp.x)[i.val]? := by rw [h1]
      rw [List.getElem?_eq_getElem hia, List.getElem?_map, List.getElem?_eq_getElem i.isLt] at h2
      exact Option.some.inj h2
    have V2 := hB2.kept (grownBy_putObj' _ D (.deferred none)) (fun e => by have := Option.some.inj e; omega)
    have V3 := hB3.kept (grownBy_putObj' _ D (.deferred none)) (fun e => by have := Option.some.inj e; omega)
    have gV := grown_ob' hg (grownBy_putObj' _ D (.deferred none)) (fun r e => by cases e; omega)
    have kV := ks_keptC hkk (kc_other (grownBy_putObj' _ D (.deferred none)) (fun r e => by cases e; exact ⟨_, KD.out, rfl⟩))
    generalize W.putObj D (.deferred none) = WF at *
    rw [← hx] at V2 kV
    have YES : AtP w x place (.returned (.tuple #[.agg #[.int .i64 (x.all[i.val]'hia).kind, .int .i64 (x.all[i.val]'hia).ty, .string (x.all[i.val]'hia).txt, .int .i64 (x.all[i.val]'hia).num, .slice p m cc], .bool true])) WF := ⟨Or.inl ⟨i.val, hia, _, he, rfl, kV⟩, gV⟩
    generalize x.all[i.val]'hia = y at *
    have u0' : WF.cell? ⟨w.heap.size + 1 + 1, 0, none⟩ = some (.int .i64 y.kind) := V2.cell 0
    have u1' : WF.cell? ⟨w.heap.size + 1 + 1, 1, none⟩ = some (.int .i64 y.ty) := V2.cell 1
    have u2' : WF.cell? ⟨w.heap.size + 1 + 1, 2, none⟩ = some (.string y.txt) := V2.cell 2
    have u3' : WF.cell? ⟨w.heap.size + 1 + 1, 3, none⟩ = some (.int .i64 y.num) := V2.cell 3
    have u4' : WF.cell? ⟨w.heap.size + 1 + 1, 4, none⟩ = some (.slice p m cc) := V2.cell 4
    have u5' : WF.cell? ⟨w.heap.size + 1 + 1 + 1, 0, none⟩ = some (.bool true) := V3.cell 0
    exact ⟨.tuple #[.agg #[.int .i64 y.kind, .int .i64 y.ty, .string y.txt, .int .i64 y.num, .slice p m cc], .bool true], by simp [results, Tryz.results11, go_sem, u0', u1', u2', u3', u4', u5'], YES⟩
end Go.Proofs.YtajoncmmdeahnaaGreatDoor.An
