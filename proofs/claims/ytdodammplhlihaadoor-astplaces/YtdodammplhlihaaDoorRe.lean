/-
  Replace: a copy with another node at a place.
-/
import Derived.Test.YtdodammplhlihaaDoorRp
import Derived.Test.YtdodammplhlihaaDoorCi
import Derived.Test.YtdodammplhlihaaDoorAt
namespace Go.Proofs.YtdodammplhlihaaDoor
open Go.RowKit Go.Maps Go.Shelf
attribute [local go_sem] Oper.semAt_some
/-- A round has written at the place: what stands there then. -/
def RpX (w : World) (n4 Bo : Nat) (place : Int) (b x : Nd) (n : Nat) (c : Code) (_ : List (Fin n)) (W : World) : Prop :=
  c = .exit 0 ∧ ∃ (i : Fin n), (i.val : Int) = place ∧ NdAt W (fun c => w.heap.size + 4 ≤ c) Bo 0 (Nd.repl b x i.val) ∧ Blk W (w.heap.size + 3) 24 #[.int .i64 0, .int .i64 0, .string ⟨#[]⟩, .int .i64 0, .slice none 0 0] ∧ w.grownBy W none ∧ n4 ≤ W.heap.size
theorem rpX_own {w : World} {n4 Bo : Nat} {place : Int} {b x : Nd} {n : Nat} (hw : w.heap.size ≤ n4) (c : Code) : OwnFrom n4 (RpX w n4 Bo place b x n c) := fun s W W' row hs hg hr => by
  obtain ⟨a0, i, a1, a2, a3, a5, a6⟩ := hs
  exact ⟨a0, i, a1, NdAt.keptC (kc_other hg (fun r e => (hr r e).2)) a2, blk_other a3 hg (fun r e => (hr r e).2), grown_ob' a5 hg (fun r e => by have := (hr r e).1; omega), Nat.le_trans a6 hg.size⟩
def RpA (N Bo : Nat) (v v2 fv xv : Value) (place : Int) (sp : List Sp) (i : Fin sp.length) (a' : Act) (_ : World) : Prop :=
  a' = { tmps := #[v, .int .i64 place, v2, .pointer (some ⟨N, 0, none⟩), .pointer (some ⟨N + 1, 0, none⟩), .pointer (some ⟨N + 2, 0, none⟩), .pointer (some ⟨N + 3, 0, none⟩), .pointer (some ⟨Bo, 0, none⟩), .int .i64 i.val, .pointer (some ⟨(sp[i.val]).g, (sp[i.val]).o, none⟩), v, xv, fv, .int .i64 i.val, .pointer (some ⟨(sp[i.val]).g, (sp[i.val]).o, none⟩), undef, undef, undef, undef, undef, undef, undef, undef], defers := [] }
theorem rpA_own {B N Bo : Nat} {v v2 fv xv : Value} {place : Int} {sp : List Sp} (x : Fin sp.length) (a' : Act) : OwnFrom B (fun (_ : Unit) W => RpA N Bo v v2 fv xv place sp x a' W) := fun _ _ _ _ hs _ _ => hs
def RepR (_ : World) (b x : Nd) (place : Int) (y : Nd) : Prop := (∃ i : Nat, i < x.cnt ∧ (i : Int) = place ∧ y = Nd.repl b x i) ∨ ((∀ i : Nat, i < x.cnt → (i : Int) ≠ place) ∧ y = x)
def RepP (w : World) (b x : Nd) (place : Int) (e : Ending) (w' : World) : Prop := ∃ (y : Nd) (q : Value), e = .returned (.agg #[.int .i64 y.kind, .int .i64 y.ty, .string y.txt, .int .i64 y.num, q]) ∧ KsV w' (fun c => w.heap.size ≤ c) q y.kids ∧ w.grownBy w' none
  ∧ RepR w b x place y
set_option maxRecDepth 100000 in
set_option maxHeartbeats 4000000 in
theorem replace_any (P0 P1 : Nat → Prop) (x b : Nd) (hok : x.ok) (hokb : b.ok) (hN : x.cnt ≤ 100000) (v vb : Value) (place : Int) (w : World) (hv : NdV w P0 v x) (hvb : NdV w P1 vb b) : Calls Tryd.prog 17 #[v, .int .i64 place, vb] w (RepP w b x place) := by
  obtain ⟨q, rfl, hk⟩ := hv
  obtain ⟨qb, rfl, hkb⟩ := hvb
  obtain ⟨p, cap, eq, _⟩ := hk.form
  obtain ⟨pb, capb, eqb, _⟩ := hkb.form
  subst eq
  subst eqb
  have CC : Hid (∀ W, w.grownBy W none → Calls Tryd.prog 20 #[.agg #[.int .i64 x.kind, .int .i64 x.ty, .string x.txt, .int .i64 x.num, .slice p x.kids.length cap]] W (CloneQ W x)) := fun W hW => cloneI_any _ x hok _ W ⟨_, rfl, hk.kept hW⟩
  have HKB := hid hkb
  clear hk hkb
  refine (callsIn_wide (n := 5)).1 ?_
  refine callsIn_of_wp_marks Tryd.func17 rfl trivial ?_ rfl
  simp only [Tryd.ntmps17, List.size_toArray, List.length_cons, List.length_nil, Nat.reduceAdd, Nat.reduceSub, Array.replicate_succ, Array.replicate_zero, List.push_toArray, List.append_toArray, List.nil_append, List.cons_append]
  refine wpIn_wide.2 ?_
  go_wp2_with (first
    | (go_at_call 20; refine (CC.out _ ?gr).mono ?_; (case gr => exact grown_alloc (grown_alloc (grown_alloc (grown_alloc (grown_refl w none) _) _) _) _); rintro e w2 ⟨q2, rfl, hk2, hg2⟩; obtain ⟨p2, cap2, e2, _⟩ := (hk2.ks (P := fun _ => True) (fun _ _ _ => trivial)).form; subst e2; have K2 := hid hk2; have G2 := hid hg2; clear hk2 hg2 CC)
    | (go_at_call 28; refine (spots_mk _ _).mono ?_; rintro e w3 ⟨rfl, hw3⟩; have hw4 := hw3.symm; clear hw3; subst hw4))
  have gA : w.grownBy ((((w.alloc (.cells #[.int .i64 x.kind, .int .i64 x.ty, .string x.txt, .int .i64 x.num, .slice p x.kids.length cap] 24)).alloc (.cells #[.int .i64 place] 3)).alloc (.cells #[.int .i64 b.kind, .int .i64 b.ty, .string b.txt, .int .i64 b.num, .slice pb b.kids.length capb] 24)).alloc (.cells #[.int .i64 0, .int .i64 0, .string ⟨#[]⟩, .int .i64 0, .slice none 0 0] 24)) none := grown_alloc (grown_alloc (grown_alloc (grown_alloc (grown_refl w none) _) _) _) _
  have sA : ((((w.alloc (.cells #[.int .i64 x.kind, .int .i64 x.ty, .string x.txt, .int .i64 x.num, .slice p x.kids.length cap] 24)).alloc (.cells #[.int .i64 place] 3)).alloc (.cells #[.int .i64 b.kind, .int .i64 b.ty, .string b.txt, .int .i64 b.num, .slice pb b.kids.length capb] 24)).alloc (.cells #[.int .i64 0, .int .i64 0, .string ⟨#[]⟩, .int .i64 0, .slice none 0 0] 24)).heap.size = w.heap.size + 4 := by simp
  have B1 : Blk ((((w.alloc (.cells #[.int .i64 x.kind, .int .i64 x.ty, .string x.txt, .int .i64 x.num, .slice p x.kids.length cap] 24)).alloc (.cells #[.int .i64 place] 3)).alloc (.cells #[.int .i64 b.kind, .int .i64 b.ty, .string b.txt, .int .i64 b.num, .slice pb b.kids.length capb] 24)).alloc (.cells #[.int .i64 0, .int .i64 0, .string ⟨#[]⟩, .int .i64 0, .slice none 0 0] 24)) (w.heap.size + 1) 3 #[.int .i64 place] := by
    have := ((Blk.new (w.alloc (.cells #[.int .i64 x.kind, .int .i64 x.ty, .string x.txt, .int .i64 x.num, .slice p x.kids.length cap] 24)) 3 #[.int .i64 place]).alloc (.cells #[.int .i64 b.kind, .int .i64 b.ty, .string b.txt, .int .i64 b.num, .slice pb b.kids.length capb] 24)).alloc (.cells #[.int .i64 0, .int .i64 0, .string ⟨#[]⟩, .int .i64 0, .slice none 0 0] 24)
    rw [World.size_alloc] at this
    exact this
  have B2 : Blk ((((w.alloc (.cells #[.int .i64 x.kind, .int .i64 x.ty, .string x.txt, .int .i64 x.num, .slice p x.kids.length cap] 24)).alloc (.cells #[.int .i64 place] 3)).alloc (.cells #[.int .i64 b.kind, .int .i64 b.ty, .string b.txt, .int .i64 b.num, .slice pb b.kids.length capb] 24)).alloc (.cells #[.int .i64 0, .int .i64 0, .string ⟨#[]⟩, .int .i64 0, .slice none 0 0] 24)) (w.heap.size + 2) 24 #[.int .i64 b.kind, .int .i64 b.ty, .string b.txt, .int .i64 b.num, .slice pb b.kids.length capb] := by
    have := (Blk.new ((w.alloc (.cells #[.int .i64 x.kind, .int .i64 x.ty, .string x.txt, .int .i64 x.num, .slice p x.kids.length cap] 24)).alloc (.cells #[.int .i64 place] 3)) 24 #[.int .i64 b.kind, .int .i64 b.ty, .string b.txt, .int .i64 b.num, .slice pb b.kids.length capb]).alloc (.cells #[.int .i64 0, .int .i64 0, .string ⟨#[]⟩, .int .i64 0, .slice none 0 0] 24)
    rw [World.size_alloc, World.size_alloc] at this
    exact this
  have B3 : Blk ((((w.alloc (.cells #[.int .i64 x.kind, .int .i64 x.ty, .string x.txt, .int .i64 x.num, .slice p x.kids.length cap] 24)).alloc (.cells #[.int .i64 place] 3)).alloc (.cells #[.int .i64 b.kind, .int .i64 b.ty, .string b.txt, .int .i64 b.num, .slice pb b.kids.length capb] 24)).alloc (.cells #[.int .i64 0, .int .i64 0, .string ⟨#[]⟩, .int .i64 0, .slice none 0 0] 24)) (w.heap.size + 3) 24 #[.int .i64 0, .int .i64 0, .string ⟨#[]⟩, .int .i64 0, .slice none 0 0] := by
    have := Blk.new (((w.alloc (.cells #[.int .i64 x.kind, .int .i64 x.ty, .string x.txt, .int .i64 x.num, .slice p x.kids.length cap] 24)).alloc (.cells #[.int .i64 place] 3)).alloc (.cells #[.int .i64 b.kind, .int .i64 b.ty, .string b.txt, .int .i64 b.num, .slice pb b.kids.length capb] 24)) 24 #[.int .i64 0, .int .i64 0, .string ⟨#[]⟩, .int .i64 0, .slice none 0 0]
    rw [World.size_alloc, World.size_alloc, World.size_alloc] at this
    exact this
  generalize (((w.alloc (.cells #[.int .i64 x.kind, .int .i64 x.ty, .string x.txt, .int .i64 x.num, .slice p x.kids.length cap] 24)).alloc (.cells #[.int .i64 place] 3)).alloc (.cells #[.int .i64 b.kind, .int .i64 b.ty, .string b.txt, .int .i64 b.num, .slice pb b.kids.length capb] 24)).alloc (.cells #[.int .i64 0, .int .i64 0, .string ⟨#[]⟩, .int .i64 0, .slice none 0 0] 24) = wA at *
  have BX := (Blk.new w2 24 #[.int .i64 x.kind, .int .i64 x.ty, .string x.txt, .int .i64 x.num, .slice p2 x.kids.length cap2]).alloc (.cells #[.pointer (some ⟨w2.heap.size, 0, none⟩)] 63)
  have BP := Blk.new (w2.alloc (.cells #[.int .i64 x.kind, .int .i64 x.ty, .string x.txt, .int .i64 x.num, .slice p2 x.kids.length cap2] 24)) 63 #[.pointer (some ⟨w2.heap.size, 0, none⟩)]
  rw [World.size_alloc] at BP
  have g24 : w2.grownBy ((w2.alloc (.cells #[.int .i64 x.kind, .int .i64 x.ty, .string x.txt, .int .i64 x.num, .slice p2 x.kids.length cap2] 24)).alloc (.cells #[.pointer (some ⟨w2.heap.size, 0, none⟩)] 63)) none := grown_alloc (grown_alloc (grown_refl w2 none) _) _
  have S4 : ((w2.alloc (.cells #[.int .i64 x.kind, .int .i64 x.ty, .string x.txt, .int .i64 x.num, .slice p2 x.kids.length cap2] 24)).alloc (.cells #[.pointer (some ⟨w2.heap.size, 0, none⟩)] 63)).heap.size = w2.heap.size + 2 := by simp
  generalize (w2.alloc (.cells #[.int .i64 x.kind, .int .i64 x.ty, .string x.txt, .int .i64 x.num, .slice p2 x.kids.length cap2] 24)).alloc (.cells #[.pointer (some ⟨w2.heap.size, 0, none⟩)] 63) = w4 at *
  have gA4 := grown_none G2.out g24
  have g4 := grown_none gA gA4
  have z2 := G2.out.size
  have I4 : NdI w4 w2.heap.size 0 (w.heap.size + 4) w2.heap.size x := by
    rw [← sA]
    exact NdI.mk (by rw [BX.cell]; rfl) (by rw [BX.cell]; rfl) (by rw [BX.cell]; rfl) (by rw [BX.cell]; rfl) (by rw [BX.cell]; rfl) (K2.out.kept (fun c _ c2 => g24.block c c2 (by simp)))
  have at4 : NdAt w4 (fun c => w.heap.size + 4 ≤ c ∧ c ≤ w2.heap.size + 1) w2.heap.size 0 x := I4.nd (fun c c1 c2 => ⟨c1, by omega⟩)
  have L4 := spN_len w4 w2.heap.size 0 x
  have HAT := hid (spN_at at4 ⟨by omega, by omega⟩)
  have HBK := hid (NdI.blk I4 ⟨24, _, BX, by simp⟩)
  have HSP := hid (fun s hs => NdI.spots I4 s hs)
  have HI4 := hid I4
  have b1 := B1.kept gA4 (by simp)
  have b2 := B2.kept gA4 (by simp)
  have b3 := B3.kept gA4 (by simp)
  have HKB4 := hid (HKB.out.kept g4)
  refine (wpIn_wide (n := 5)).1 ?_
  refine wpIn_rangeFunc_ownH rfl (by decide) (gf := 43) (lb := #[.pointer (some ⟨w2.heap.size + 1, 0, none⟩)]) rfl trivial (enters_of Tryd.func43 (by kernel_rfl) rfl)
    (spots_stops (w2.heap.size + 1) w2.heap.size (fun c => w.heap.size + 4 ≤ c ∧ c ≤ w2.heap.size + 1) w4 x hok (by rw [L4]; exact hN) (fun b hb => by omega) ⟨by omega, by omega⟩ ⟨by omega, by omega⟩ (by rw [BP.cell]; rfl) at4)
    (fun h k => KQ.trans h k) (fun W l o o' hl ho _ _ => ?hkb) (Below.refl _ _) (fun _ => rfl) (AtI w w4 place) (RpX w w4.heap.size w2.heap.size place b x (spN w4 w2.heap.size 0 x).length) (atI_own (by omega)) (fun c => rpX_own (by omega) c) ?hstart (RpA w.heap.size w2.heap.size (.agg #[.int .i64 x.kind, .int .i64 x.ty, .string x.txt, .int .i64 x.num, .slice p x.kids.length cap]) (.agg #[.int .i64 b.kind, .int .i64 b.ty, .string b.txt, .int .i64 b.num, .slice pb b.kids.length capb]) (.func (.func 43) #[] #[.pointer (some ⟨w2.heap.size + 1, 0, none⟩)]) (.agg #[.int .i64 x.kind, .int .i64 x.ty, .string x.txt, .int .i64 x.num, .slice p2 x.kids.length cap2]) place (spN w4 w2.heap.size 0 x)) (fun x a' => rpA_own x a') ?assign ?body ?done ?stop
  case hkb => exact fun b hb => World.putObj_heap_other (by omega)
  case hstart => exact ⟨grown_refl _ _, (fun i hi => by cases hi), g4⟩
  case assign =>
    rintro l pre y W K hi hK
    gi_wp2
    exact hK _ _ ((KeepsOthers.refl W).from _) (KQ.refl _ _) hi rfl
  case body =>
    rintro l1 pre i a' W hl1 ⟨r, hr⟩ ⟨i1, i2, i3⟩ rfl hlt
    have hsi := HAT.out _ (List.getElem_mem i.isLt)
    obtain ⟨tg, cg, hbg, hzg⟩ := HBK.out _ (List.getElem_mem i.isLt)
    have hwh := HSP.out _ (List.getElem_mem i.isLt)
    have hget : (spN w4 w2.heap.size 0 x)[i.val]? = some (spN w4 w2.heap.size 0 x)[i.val] := List.getElem?_eq_getElem i.isLt
    have v1 := b1.kept i1 (by simp)
    have v2 := b2.kept i1 (by simp)
    have v3 := hid (b3.kept i1 (by simp))
    have c1 : W.cell? ⟨w.heap.size + 1, 0, none⟩ = some (.int .i64 place) := by rw [v1.cell]; rfl
    have e0 : W.cell? ⟨w.heap.size + 2, 0, none⟩ = some (.int .i64 b.kind) := by rw [v2.cell]; rfl
    have e1 : W.cell? ⟨w.heap.size + 2, 1, none⟩ = some (.int .i64 b.ty) := by rw [v2.cell]; rfl
    have e2 : W.cell? ⟨w.heap.size + 2, 2, none⟩ = some (.string b.txt) := by rw [v2.cell]; rfl
    have e3 : W.cell? ⟨w.heap.size + 2, 3, none⟩ = some (.int .i64 b.num) := by rw [v2.cell]; rfl
    have e4 : W.cell? ⟨w.heap.size + 2, 4, none⟩ = some (.slice pb b.kids.length capb) := by rw [v2.cell]; rfl
    have I1 := hid i1
    have I2 := hid i2
    have I3 := hid i3
    have HBG := hid hbg
    have HGET := hid hget
    generalize hsy : (spN w4 w2.heap.size 0 x)[i.val] = sy at *
    obtain ⟨g, o, y⟩ := sy
    have hgr : w.heap.size + 4 ≤ g := hsi.2.1
    have hg4 : g < w4.heap.size := hbg.lt
    have hz : o + 5 ≤ cg.size := hzg
    clear hsy hbg hget v1 v2 hsi hwh hzg
    by_cases he : (i.val : Int) = place
    · have he' : ((i.val : Int) == place) = true := by simpa using he
      have CC : Hid (Calls Tryd.prog 20 #[.agg #[.int .i64 b.kind, .int .i64 b.ty, .string b.txt, .int .i64 b.num, .slice pb b.kids.length capb]] W (CloneP W b)) := cloneT_any _ b hokb _ W ⟨_, rfl, HKB4.out.kept I1.out⟩
      have HE := hid he
      have hWs := i1.size
      clear he i1 i2 i3 hr
      gi_wp2_with (refine ⟨trivial, ?_⟩; gi_at_call 20; refine (CallsIn.inRound l1 (callsIn_wide.2 CC.out)).mono ?_; clear CC; rintro e w6 ⟨q6, rfl, ⟨hk6, _⟩, hg6⟩; obtain ⟨p6, c6, e6, _⟩ := hk6.form; subst e6; have K6 := hid hk6; have T6 := hid hg6; have bg := HBG.out.kept (grown_none I1.out hg6) (by simp); obtain ⟨u0, y0⟩ := at_or (cs := cg) (j := o) (by omega); obtain ⟨u1, y1⟩ := at_or (cs := cg) (j := o + 1) (by omega); obtain ⟨u2, y2⟩ := at_or (cs := cg) (j := o + 2) (by omega); obtain ⟨u3, y3⟩ := at_or (cs := cg) (j := o + 3) (by omega); obtain ⟨u4, y4⟩ := at_or (cs := cg) (j := o + 4) (by omega); rw [← bg.cell] at y0 y1 y2 y3 y4; have f0 := bg.frozen o; have f1 := bg.frozen (o + 1); have f2 := bg.frozen (o + 2); have f3 := bg.frozen (o + 3); have f4 := bg.frozen (o + 4); clear hk6 hg6 bg)
      have hkq : KsV w6 (fun c => w.heap.size + 4 ≤ c ∧ c ≠ g) (.slice p6 b.kids.length c6) b.kids := K6.out.mono (fun c hc _ => ⟨by omega, by omega⟩)
      have hwr := wr_set5 (O := o) (P := fun c => w.heap.size + 4 ≤ c) (grown_none I1.out T6.out) HBG.out hz hkq
      have hnd := NdI.store hwr HI4.out (Or.inr (Nat.le_refl _)) (by omega) (fun c c1 _ => c1) HGET.out rfl rfl
      have gs := grown_set5 (grown_refl w6 (some g)) o (.int .i64 b.kind) (.int .i64 b.ty) (.string b.txt) (.int .i64 b.num) (.slice p6 b.kids.length c6)
      have xA : RpX w w4.heap.size w2.heap.size place b x (spN w4 w2.heap.size 0 x).length (.exit 0) (pre ++ [i]) (set5 w6 g o (.int .i64 b.kind) (.int .i64 b.ty) (.string b.txt) (.int .i64 b.num) (.slice p6 b.kids.length c6)) :=
        ⟨rfl, i, HE.out, hnd, (v3.out.kept T6.out (by simp)).kept gs (fun e => by have := Option.some.inj e; omega), grown_set5_new (grown_none I3.out T6.out) _ _ _ _ _ _ (by omega), Nat.le_trans (Nat.le_trans hWs T6.out.size) gs.size⟩
      exact ⟨((keeps_none T6.out).trans (((((KeepsOthers.setCell _ _ _).trans (KeepsOthers.setCell _ _ _)).trans (KeepsOthers.setCell _ _ _)).trans (KeepsOthers.setCell _ _ _)).trans (KeepsOthers.setCell _ _ _))).from _, xA⟩
    · have he' : ((i.val : Int) == place) = false := by simpa using he
      have HE := hid he
      clear he i1 i2 i3 hr
      gi_wp2
      exact ⟨(KeepsOthers.refl W).from _, KQ.refl _ _, I1.out, fun k hk => (by
        rcases List.mem_append.1 hk with hk | hk
        · exact I2.out k hk
        · rw [List.mem_singleton] at hk
          rw [hk]; exact HE.out), I3.out⟩
  case done =>
    rintro D xs W hD rfl ⟨i1, i2, i3⟩ hK
    have hnd : NdAt W (fun c => w.heap.size + 4 ≤ c) w2.heap.size 0 x := (HI4.out.nd (P := fun c => w.heap.size + 4 ≤ c) (fun c c1 _ => c1)).kept i1
    have v3 := b3.kept i1 (by simp)
    have hrest : RepR w b x place x := Or.inr ⟨fun k hk => i2 ⟨k, by rw [L4]; exact hk⟩ (List.mem_finRange _), rfl⟩
    obtain ⟨y, hnd, hrest⟩ : ∃ y, NdAt W (fun c => w.heap.size + 4 ≤ c) w2.heap.size 0 y ∧ RepR w b x place y := ⟨x, hnd, hrest⟩
    obtain ⟨qy, d0, d1, d2, d3, d4, hky⟩ := hnd.cells
    obtain ⟨py, cy, ey, _⟩ := hky.form
    subst ey
    have KY := hid hky
    have HR := hid hrest
    have I3 := hid i3
    have KD := hid hK
    have V3 := hid v3
    have hDW : D < W.heap.size := (Array.getElem?_eq_some_iff.1 hK).1
    have z0 : W.cell? ⟨w.heap.size + 3, 0, none⟩ = some (.int .i64 0) := by rw [v3.cell]; rfl
    have z1 : W.cell? ⟨w.heap.size + 3, 1, none⟩ = some (.int .i64 0) := by rw [v3.cell]; rfl
    have z2 : W.cell? ⟨w.heap.size + 3, 2, none⟩ = some (.string ⟨#[]⟩) := by rw [v3.cell]; rfl
    have z3 : W.cell? ⟨w.heap.size + 3, 3, none⟩ = some (.int .i64 0) := by rw [v3.cell]; rfl
    have z4 : W.cell? ⟨w.heap.size + 3, 4, none⟩ = some (.slice none 0 0) := by rw [v3.cell]; rfl
    have f0 := v3.frozen 0
    have f1 := v3.frozen 1
    have f2 := v3.frozen 2
    have f3 := v3.frozen 3
    have f4 := v3.frozen 4
    clear hK v3 hrest hky hnd I4 at4 L4 HAT HBK HSP HI4 b1 b2 b3 BX BP B1 B2 B3 g24 gA4 HKB HKB4 K2
    go_wp2_with fail
    have gs := grown_set5 (grown_refl W (some (w.heap.size + 3))) 0 (.int .i64 y.kind) (.int .i64 y.ty) (.string y.txt) (.int .i64 y.num) (.slice py y.kids.length cy)
    have X2 := V3.out.set5 0 (.int .i64 y.kind) (.int .i64 y.ty) (.string y.txt) (.int .i64 y.num) (.slice py y.kids.length cy)
    have gW : w.grownBy (set5 W (w.heap.size + 3) 0 (.int .i64 y.kind) (.int .i64 y.ty) (.string y.txt) (.int .i64 y.num) (.slice py y.kids.length cy)) none := grown_set5_new I3.out _ _ _ _ _ _ (by omega)
    have kF := KY.out.keptP (Q := fun c => w.heap.size ≤ c) (Kp.of_grown gs (fun c hc e => by have := Option.some.inj e; omega)) (fun c hc _ => by omega)
    have KF : (set5 W (w.heap.size + 3) 0 (.int .i64 y.kind) (.int .i64 y.ty) (.string y.txt) (.int .i64 y.num) (.slice py y.kids.length cy)).heap[D]? = some (.deferred (some [])) := (gs.block D hDW (fun e => by have := Option.some.inj e; omega)).trans KD.out
    refine ⟨by simp, .inl ⟨_, _, rfl, run_takeDeferred KF, ?_⟩⟩
    have V2 := X2.kept (grownBy_putObj' _ D (.deferred none)) (fun e => by have := Option.some.inj e; omega)
    have gV := grown_ob' gW (grownBy_putObj' _ D (.deferred none)) (fun r e => by cases e; omega)
    have kV := kF.keptC (kc_other (grownBy_putObj' _ D (.deferred none)) (fun r e => by cases e; exact ⟨_, KF, rfl⟩))
    generalize hWF : (set5 W (w.heap.size + 3) 0 (.int .i64 y.kind) (.int .i64 y.ty) (.string y.txt) (.int .i64 y.num) (.slice py y.kids.length cy)).putObj D (.deferred none) = WF at *
    have u0' : WF.cell? ⟨w.heap.size + 1 + 1 + 1, 0, none⟩ = some (.int .i64 y.kind) := V2.cell 0
    have u1' : WF.cell? ⟨w.heap.size + 1 + 1 + 1, 1, none⟩ = some (.int .i64 y.ty) := V2.cell 1
    have u2' : WF.cell? ⟨w.heap.size + 1 + 1 + 1, 2, none⟩ = some (.string y.txt) := V2.cell 2
    have u3' : WF.cell? ⟨w.heap.size + 1 + 1 + 1, 3, none⟩ = some (.int .i64 y.num) := V2.cell 3
    have u4' : WF.cell? ⟨w.heap.size + 1 + 1 + 1, 4, none⟩ = some (.slice py y.kids.length cy) := V2.cell 4
    show LeavesInM _ _ _ _ _ _ _ _ ((set5 W (w.heap.size + 3) 0 (.int .i64 y.kind) (.int .i64 y.ty) (.string y.txt) (.int .i64 y.num) (.slice py y.kids.length cy)).putObj D (.deferred none))
    rw [hWF]
    exact ⟨.agg #[.int .i64 y.kind, .int .i64 y.ty, .string y.txt, .int .i64 y.num, .slice py y.kids.length cy], by simp [results, Tryd.results17, go_sem, u0', u1', u2', u3', u4'], y, _, rfl, kV, gV, HR.out⟩
  case stop =>
    rintro D c pre W hD _ ⟨rfl, i, he, hnd, v3, i3, hz⟩ hK
    have hrest : RepR w b x place (Nd.repl b x i.val) := Or.inl ⟨i.val, by rw [← L4]; exact i.isLt, he, rfl⟩
    generalize Nd.repl b x i.val = y at hnd hrest
    clear he
    obtain ⟨qy, d0, d1, d2, d3, d4, hky⟩ := hnd.cells
    obtain ⟨py, cy, ey, _⟩ := hky.form
    subst ey
    have KY := hid hky
    have HR := hid hrest
    have I3 := hid i3
    have KD := hid hK
    have V3 := hid v3
    have hDW : D < W.heap.size := (Array.getElem?_eq_some_iff.1 hK).1
    have z0 : W.cell? ⟨w.heap.size + 3, 0, none⟩ = some (.int .i64 0) := by rw [v3.cell]; rfl
    have z1 : W.cell? ⟨w.heap.size + 3, 1, none⟩ = some (.int .i64 0) := by rw [v3.cell]; rfl
    have z2 : W.cell? ⟨w.heap.size + 3, 2, none⟩ = some (.string ⟨#[]⟩) := by rw [v3.cell]; rfl
    have z3 : W.cell? ⟨w.heap.size + 3, 3, none⟩ = some (.int .i64 0) := by rw [v3.cell]; rfl
    have z4 : W.cell? ⟨w.heap.size + 3, 4, none⟩ = some (.slice none 0 0) := by rw [v3.cell]; rfl
    have f0 := v3.frozen 0
    have f1 := v3.frozen 1
    have f2 := v3.frozen 2
    have f3 := v3.frozen 3
    have f4 := v3.frozen 4
    clear hK v3 hrest hky hnd I4 at4 L4 HAT HBK HSP HI4 b1 b2 b3 BX BP B1 B2 B3 g24 gA4 HKB HKB4 K2
    gi_wp2
    go_wp2_with fail
    have gs := grown_set5 (grown_refl W (some (w.heap.size + 3))) 0 (.int .i64 y.kind) (.int .i64 y.ty) (.string y.txt) (.int .i64 y.num) (.slice py y.kids.length cy)
    have X2 := V3.out.set5 0 (.int .i64 y.kind) (.int .i64 y.ty) (.string y.txt) (.int .i64 y.num) (.slice py y.kids.length cy)
    have gW : w.grownBy (set5 W (w.heap.size + 3) 0 (.int .i64 y.kind) (.int .i64 y.ty) (.string y.txt) (.int .i64 y.num) (.slice py y.kids.length cy)) none := grown_set5_new I3.out _ _ _ _ _ _ (by omega)
    have kF := KY.out.keptP (Q := fun c => w.heap.size ≤ c) (Kp.of_grown gs (fun c hc e => by have := Option.some.inj e; omega)) (fun c hc _ => by omega)
    have KF : (set5 W (w.heap.size + 3) 0 (.int .i64 y.kind) (.int .i64 y.ty) (.string y.txt) (.int .i64 y.num) (.slice py y.kids.length cy)).heap[D]? = some (.deferred (some [])) := (gs.block D hDW (fun e => by have := Option.some.inj e; omega)).trans KD.out
    refine ⟨by simp, .inl ⟨_, _, rfl, run_takeDeferred KF, ?_⟩⟩
    have V2 := X2.kept (grownBy_putObj' _ D (.deferred none)) (fun e => by have := Option.some.inj e; omega)
    have gV := grown_ob' gW (grownBy_putObj' _ D (.deferred none)) (fun r e => by cases e; omega)
    have kV := kF.keptC (kc_other (grownBy_putObj' _ D (.deferred none)) (fun r e => by cases e; exact ⟨_, KF, rfl⟩))
    generalize hWF : (set5 W (w.heap.size + 3) 0 (.int .i64 y.kind) (.int .i64 y.ty) (.string y.txt) (.int .i64 y.num) (.slice py y.kids.length cy)).putObj D (.deferred none) = WF at *
    have u0' : WF.cell? ⟨w.heap.size + 1 + 1 + 1, 0, none⟩ = some (.int .i64 y.kind) := V2.cell 0
    have u1' : WF.cell? ⟨w.heap.size + 1 + 1 + 1, 1, none⟩ = some (.int .i64 y.ty) := V2.cell 1
    have u2' : WF.cell? ⟨w.heap.size + 1 + 1 + 1, 2, none⟩ = some (.string y.txt) := V2.cell 2
    have u3' : WF.cell? ⟨w.heap.size + 1 + 1 + 1, 3, none⟩ = some (.int .i64 y.num) := V2.cell 3
    have u4' : WF.cell? ⟨w.heap.size + 1 + 1 + 1, 4, none⟩ = some (.slice py y.kids.length cy) := V2.cell 4
    show LeavesInM _ _ _ _ _ _ _ _ ((set5 W (w.heap.size + 3) 0 (.int .i64 y.kind) (.int .i64 y.ty) (.string y.txt) (.int .i64 y.num) (.slice py y.kids.length cy)).putObj D (.deferred none))
    rw [hWF]
    exact ⟨.agg #[.int .i64 y.kind, .int .i64 y.ty, .string y.txt, .int .i64 y.num, .slice py y.kids.length cy], by simp [results, Tryd.results17, go_sem, u0', u1', u2', u3', u4'], y, _, rfl, kV, gV, HR.out⟩
end Go.Proofs.YtdodammplhlihaaDoor
