/-
  AstCopies: the law's own walk.
-/
import Derived.Test.YtdodammplhlihaaDoorAw
import Derived.Test.YtdodammplhlihaaDoorSf
import Derived.Test.YtdodammplhlihaaDoorMt
import Derived.Test.YtdodammplhlihaaDoorRf
import Derived.Test.YtdodammplhlihaaDoorIn
import Derived.Deep.RegionHeld3
import Derived.Deep.DeepCutAuto
namespace Go.Proofs.YtdodammplhlihaaDoor
open Go.RowKit
def TrueP5 (w : World) (e : Ending) (w' : World) : Prop := e = .returned (.bool true) ∧ w.grownBy w' none
set_option maxRecDepth 100000 in
set_option maxHeartbeats 4000000 in
theorem copies_law (pa pb : Option Addr) (na ca nb cb : Nat) (w : World) (ha1 : na ≤ ca) (ha2 : ca ≤ maxLen) (hb1 : nb ≤ cb) (hb2 : cb ≤ maxLen) (hA : TrV w pa na) (hB : TrV w pb nb) : Calls Tryd.prog 5 #[.slice pa na ca, .slice pb nb cb] w (TrueP5 w) := by
  have CA : Hid (∀ W, Calls Tryd.prog 7 #[] W fun e w' => e = .returned (.bool true) ∧ W.grownBy w' none) := awake_any
  have M1 := hid (made_top pa na ca w ha1 ha2 hA)
  have M2 : Hid (∀ W, w.grownBy W none → Calls Tryd.prog 10 #[.slice pb nb cb] W (TopP W)) := fun W hW => made_top pb nb cb W hb1 hb2 (hB.kept hW)
  clear hA hB
  go_enter Tryd.func5, Tryd.ntmps5
  go_wp2_with (first
    | (go_at_call 10; refine M1.out.mono ?_; clear M1; rintro e w1 ⟨x, qx, rfl, okx, cntx, hkx, hg1⟩; obtain ⟨px, cx, ex, _⟩ := hkx.form; subst ex; have KX := hid hkx; have G1 := hid hg1; have OX := hid okx; have NX := hid cntx; clear hkx hg1 okx cntx)
    | (go_at_call 10; refine (M2.out _ G1.out).mono ?_; clear M2; rintro e w2 ⟨y, qy, rfl, oky, cnty, hky, hg2⟩; obtain ⟨py, cy, ey, _⟩ := hky.form; subst ey; have KY := hid hky; have KX2 := hid (KX.out.kept hg2); have G2 := hid (grown_none G1.out hg2); have OY := hid oky; have NY := hid cnty; clear hky hg2 oky cnty KX))
  have BX := (Blk.new w2 24 #[.int .i64 x.kind, .int .i64 x.ty, .string x.txt, .int .i64 x.num, .slice px x.kids.length cx]).alloc (.cells #[.int .i64 y.kind, .int .i64 y.ty, .string y.txt, .int .i64 y.num, .slice py y.kids.length cy] 24)
  have BY := Blk.new (w2.alloc (.cells #[.int .i64 x.kind, .int .i64 x.ty, .string x.txt, .int .i64 x.num, .slice px x.kids.length cx] 24)) 24 #[.int .i64 y.kind, .int .i64 y.ty, .string y.txt, .int .i64 y.num, .slice py y.kids.length cy]
  rw [World.size_alloc] at BY
  have G3 : w2.grownBy ((w2.alloc (.cells #[.int .i64 x.kind, .int .i64 x.ty, .string x.txt, .int .i64 x.num, .slice px x.kids.length cx] 24)).alloc (.cells #[.int .i64 y.kind, .int .i64 y.ty, .string y.txt, .int .i64 y.num, .slice py y.kids.length cy] 24)) none := grown_alloc (grown_alloc (grown_refl w2 none) _) _
  generalize (w2.alloc (.cells #[.int .i64 x.kind, .int .i64 x.ty, .string x.txt, .int .i64 x.num, .slice px x.kids.length cx] 24)).alloc (.cells #[.int .i64 y.kind, .int .i64 y.ty, .string y.txt, .int .i64 y.num, .slice py y.kids.length cy] 24) = w3 at *
  have GW3 := hid (grown_none G2.out G3)
  have VX : Hid (∀ V, w3.grownBy V none → KsV V (fun b => w.heap.size ≤ b) (.slice px x.kids.length cx) x.kids) := fun V hV => ((KX2.out.kept G3).kept hV)
  have VY : Hid (∀ V, w3.grownBy V none → KsV V (fun b => w1.heap.size ≤ b) (.slice py y.kids.length cy) y.kids) := fun V hV => ((KY.out.kept G3).kept hV)
  have SS : Hid (∀ V, w3.grownBy V none → V.cell? ⟨w2.heap.size, 0, none⟩ = some (.int .i64 x.kind) ∧ V.cell? ⟨w2.heap.size, 1, none⟩ = some (.int .i64 x.ty) ∧ V.cell? ⟨w2.heap.size, 2, none⟩ = some (.string x.txt) ∧ V.cell? ⟨w2.heap.size, 3, none⟩ = some (.int .i64 x.num) ∧ V.cell? ⟨w2.heap.size, 4, none⟩ = some (.slice px x.kids.length cx) ∧ V.cell? ⟨w2.heap.size + 1, 0, none⟩ = some (.int .i64 y.kind) ∧ V.cell? ⟨w2.heap.size + 1, 1, none⟩ = some (.int .i64 y.ty) ∧ V.cell? ⟨w2.heap.size + 1, 2, none⟩ = some (.string y.txt) ∧ V.cell? ⟨w2.heap.size + 1, 3, none⟩ = some (.int .i64 y.num) ∧ V.cell? ⟨w2.heap.size + 1, 4, none⟩ = some (.slice py y.kids.length cy)) := fun V hV => ⟨(BX.kept hV (by simp)).cell 0, (BX.kept hV (by simp)).cell 1, (BX.kept hV (by simp)).cell 2, (BX.kept hV (by simp)).cell 3, (BX.kept hV (by simp)).cell 4, (BY.kept hV (by simp)).cell 0, (BY.kept hV (by simp)).cell 1, (BY.kept hV (by simp)).cell 2, (BY.kept hV (by simp)).cell 3, (BY.kept hV (by simp)).cell 4⟩
  have hsx : w2.heap.size + 1 < w3.heap.size := BY.lt
  clear BX BY G3 KX2 KY
  have lx := Nd.enc_len x OX.out
  have ly := Nd.enc_len y OY.out
  have CRX : Hid (∀ V, w3.grownBy V none → Calls Tryd.prog 12 #[.agg #[.int .i64 x.kind, .int .i64 x.ty, .string x.txt, .int .i64 x.num, .slice px x.kids.length cx]] V (refP V x)) := fun V hV => refany _ x OX.out _ V ⟨_, rfl, VX.out V hV⟩
  have CRY : Hid (∀ V, w3.grownBy V none → Calls Tryd.prog 12 #[.agg #[.int .i64 y.kind, .int .i64 y.ty, .string y.txt, .int .i64 y.num, .slice py y.kids.length cy]] V (refP V y)) := fun V hV => refany _ y OY.out _ V ⟨_, rfl, VY.out V hV⟩
  have CBX : Hid (∀ V q P, KsV V P q x.kids → Calls Tryd.prog 19 #[.agg #[.int .i64 x.kind, .int .i64 x.ty, .string x.txt, .int .i64 x.num, q]] V (StrP V (mkS x.enc))) := fun V q P hq => rbytes_any P x OX.out (by have := NX.out; omega) _ V ⟨q, rfl, hq⟩
  have CBY : Hid (∀ V q P, KsV V P q y.kids → Calls Tryd.prog 19 #[.agg #[.int .i64 y.kind, .int .i64 y.ty, .string y.txt, .int .i64 y.num, q]] V (StrP V (mkS y.enc))) := fun V q P hq => rbytes_any P y OY.out (by have := NY.out; omega) _ V ⟨q, rfl, hq⟩
  have EB := enc_eqB x y OX.out OY.out
  obtain ⟨B, hBB⟩ : ∃ B, Nd.eqB x y = B := ⟨_, rfl⟩
  rw [hBB] at EB
  have HB := hid hBB
  clear lx ly hBB
  generalize mkS x.enc = TX at *
  generalize mkS y.enc = TY at *
  go_wp2_with fail
  go_cut [7] (fun c7 W => c7 = .bool B ∧ w3.grownBy W none)
  case first =>
    obtain ⟨q0, q1, q2, q3, q4, r0, r1, r2, r3, r4⟩ := SS.out w3 (grown_refl _ _)
    have GD : w3.grownBy w3.drew none := grown_drew (grown_refl _ _)
    clear CA G1 G2 OX OY NX NY GW3 VX VY HB hsx
    go_region_held3 (fun V => V.cell? ⟨w2.heap.size, 0, none⟩ = some (.int .i64 x.kind) ∧ V.cell? ⟨w2.heap.size, 1, none⟩ = some (.int .i64 x.ty) ∧ V.cell? ⟨w2.heap.size, 2, none⟩ = some (.string x.txt) ∧ V.cell? ⟨w2.heap.size, 3, none⟩ = some (.int .i64 x.num) ∧ V.cell? ⟨w2.heap.size, 4, none⟩ = some (.slice px x.kids.length cx) ∧ V.cell? ⟨w2.heap.size + 1, 0, none⟩ = some (.int .i64 y.kind) ∧ V.cell? ⟨w2.heap.size + 1, 1, none⟩ = some (.int .i64 y.ty) ∧ V.cell? ⟨w2.heap.size + 1, 2, none⟩ = some (.string y.txt) ∧ V.cell? ⟨w2.heap.size + 1, 3, none⟩ = some (.int .i64 y.num) ∧ V.cell? ⟨w2.heap.size + 1, 4, none⟩ = some (.slice py y.kids.length cy)) (first | assumption | go_keep) (first
      | (go_at_call 12; refine calls_at (args := #[.agg #[.int .i64 x.kind, .int .i64 x.ty, .string x.txt, .int .i64 x.num, .slice px x.kids.length cx]]) rfl ?_; refine (CRX.out _ (by assumption)).mono ?_; clear CRX; rintro e u4 ⟨q4', rfl, hk4, hg4⟩; obtain ⟨p4, c4, e4, _⟩ := hk4.form; subst e4; have GN4 : w3.grownBy u4 none := grown_none (by assumption) hg4; have SN4 := SS.out u4 GN4; have UX : ∀ V, u4.grownBy V none → KsV V _ (.slice p4 x.kids.length c4) x.kids := (fun V hV => hk4.kept hV); have GU4 : u4.grownBy u4 none := grown_refl _ _; try (have GY4 : u5.grownBy u4 none := grown_none (by assumption) hg4))
      | (go_at_call 12; refine calls_at (args := #[.agg #[.int .i64 y.kind, .int .i64 y.ty, .string y.txt, .int .i64 y.num, .slice py y.kids.length cy]]) rfl ?_; refine (CRY.out _ (by assumption)).mono ?_; clear CRY; rintro e u5 ⟨q5', rfl, hk5, hg5⟩; obtain ⟨p5, c5, e5, _⟩ := hk5.form; subst e5; have GN5 : w3.grownBy u5 none := grown_none (by assumption) hg5; have SN5 := SS.out u5 GN5; have UY : ∀ V, u5.grownBy V none → KsV V _ (.slice p5 y.kids.length c5) y.kids := (fun V hV => hk5.kept hV); have GU5 : u5.grownBy u5 none := grown_refl _ _; try (have GX5 : u4.grownBy u5 none := grown_none (by assumption) hg5))
      | (go_at_call 19; refine calls_at (args := #[.agg #[.int .i64 x.kind, .int .i64 x.ty, .string x.txt, .int .i64 x.num, .slice p4 x.kids.length c4]]) rfl ?_; refine (CBX.out _ _ _ (UX _ (by assumption))).mono ?_; clear CBX; rintro e u6 ⟨rfl, hg6⟩; have GN6 : w3.grownBy u6 none := grown_none (by assumption) hg6; have SN6 := SS.out u6 GN6; try (have GY6 : u5.grownBy u6 none := grown_none (by assumption) hg6))
      | (go_at_call 19; refine calls_at (args := #[.agg #[.int .i64 y.kind, .int .i64 y.ty, .string y.txt, .int .i64 y.num, .slice p5 y.kids.length c5]]) rfl ?_; refine (CBY.out _ _ _ (UY _ (by assumption))).mono ?_; clear CBY; rintro e u7 ⟨rfl, hg7⟩; have GN7 : w3.grownBy u7 none := grown_none (by assumption) hg7; have SN7 := SS.out u7 GN7; try (have GX7 : u4.grownBy u7 none := grown_none (by assumption) hg7)))
    all_goals (
      (try go_wp2_with fail)
      go_meet
      exact ⟨rfl, by assumption⟩)
  case rest =>
    obtain ⟨rfl, hgc⟩ := hcut
    clear CRX CRY CBX CBY EB
    have GC := hid hgc
    have CL : Hid (Calls Tryd.prog 20 #[.agg #[.int .i64 x.kind, .int .i64 x.ty, .string x.txt, .int .i64 x.num, .slice px x.kids.length cx]] wc (CloneP wc x)) := cloneT_any _ x OX.out _ wc ⟨_, rfl, VX.out wc hgc⟩
    have CS1 : Hid (∀ V, w3.grownBy V none → Calls Tryd.prog 15 #[.agg #[.int .i64 x.kind, .int .i64 x.ty, .string x.txt, .int .i64 x.num, .slice px x.kids.length cx], .agg #[.int .i64 y.kind, .int .i64 y.ty, .string y.txt, .int .i64 y.num, .slice py y.kids.length cy]] V (SameP V B)) := fun V hV => by
      have := sameF_any _ _ x (Nd.ok_few OX.out) y (Nd.ok_few OY.out) _ _ V ⟨_, rfl, VX.out V hV⟩ ⟨_, rfl, VY.out V hV⟩
      rwa [HB.out] at this
    have CS2 : Hid (∀ V P q, w3.grownBy V none → KsV V P q x.kids → Calls Tryd.prog 15 #[.agg #[.int .i64 x.kind, .int .i64 x.ty, .string x.txt, .int .i64 x.num, .slice px x.kids.length cx], .agg #[.int .i64 x.kind, .int .i64 x.ty, .string x.txt, .int .i64 x.num, q]] V (SameP V true)) := fun V P q hV hq => by
      have := sameF_any _ P x (Nd.ok_few OX.out) x (Nd.ok_few OX.out) _ _ V ⟨_, rfl, VX.out V hV⟩ ⟨q, rfl, hq⟩
      rwa [(Nd.eqB_iff x x).2 rfl] at this
    have CS3 : Hid (∀ V P q s, w3.grownBy V none → 0 < x.kids.length → s ≠ x.fst → KsV V P q (x.txt0 s).kids → Calls Tryd.prog 15 #[.agg #[.int .i64 x.kind, .int .i64 x.ty, .string x.txt, .int .i64 x.num, .slice px x.kids.length cx], .agg #[.int .i64 x.kind, .int .i64 x.ty, .string x.txt, .int .i64 x.num, q]] V (SameP V false)) := fun V P q s hV h0 hs hq => by
      have h5 := sameF_any _ P x (Nd.ok_few OX.out) (x.txt0 s) (txt0_few s (Nd.ok_few OX.out)) _ (.agg #[.int .i64 x.kind, .int .i64 x.ty, .string x.txt, .int .i64 x.num, q]) V ⟨_, rfl, VX.out V hV⟩ ⟨q, by cases x; rfl, hq⟩
      rwa [txt0_ne h0 s (by rw [fst_at h0]; exact hs)] at h5
    have L0 := hid (fst_size OX.out)
    have tb : (B != B) = false := by simp
    obtain ⟨q0, q1, q2, q3, q4, r0, r1, r2, r3, r4⟩ := SS.out wc hgc
    clear OX OY NX NY VX VY HB hgc
    generalize hL : x.kids.length = L at *
    have HL := hid hL
    clear hL
    by_cases h0 : L = 0
    · have l0 : ¬ (0 : Int) < L := by omega
      clear h0
      go_wp2_with (first
        | (go_at_call 20; refine CL.out.mono ?_; clear CL; rintro e w5 ⟨q5, rfl, ⟨hk5, hB5⟩, hg5⟩; obtain ⟨p5, c5, eq5, _⟩ := hk5.form; rw [HL.out] at eq5; subst eq5; have K5 := hid (hk5.kept (grown_alloc (grown_refl w5 none) (.cells #[.int .i64 x.kind, .int .i64 x.ty, .string x.txt, .int .i64 x.num, .slice p5 L c5] 24))); have G5 := hid (grown_alloc (grown_none GC.out hg5) (.cells #[.int .i64 x.kind, .int .i64 x.ty, .string x.txt, .int .i64 x.num, .slice p5 L c5] 24)); have B5 := hid (Blk.new w5 24 #[.int .i64 x.kind, .int .i64 x.ty, .string x.txt, .int .i64 x.num, .slice p5 L c5]); have HB5 := hid hB5; have le5 : w3.heap.size ≤ wc.heap.size := GC.out.size; have le6 : wc.heap.size ≤ w5.heap.size := hg5.size; clear hk5 hg5 hB5)
        | (go_at_call 7; refine (CA.out _).mono ?_; clear CA; rintro e w6 ⟨rfl, hg6⟩; have G6 := hid (grown_none G5.out hg6); have B6 := hid (B5.out.kept hg6 (by simp)); have K6 := hid (K5.out.kept hg6); have T6 := hid hg6; clear q0 q1 q2 q3 q4 r0 r1 r2 r3 r4; obtain ⟨q0, q1, q2, q3, q4, r0, r1, r2, r3, r4⟩ := SS.out w6 G6.out; have z0 : w6.cell? ⟨w5.heap.size, 0, none⟩ = some (.int .i64 x.kind) := B6.out.cell 0; have z1 : w6.cell? ⟨w5.heap.size, 1, none⟩ = some (.int .i64 x.ty) := B6.out.cell 1; have z2 : w6.cell? ⟨w5.heap.size, 2, none⟩ = some (.string x.txt) := B6.out.cell 2; have z3 : w6.cell? ⟨w5.heap.size, 3, none⟩ = some (.int .i64 x.num) := B6.out.cell 3; have z4 : w6.cell? ⟨w5.heap.size, 4, none⟩ = some (.slice p5 L c5) := B6.out.cell 4; clear hg6)
        | (go_at_call 15; refine (CS1.out _ G6.out).mono ?_; clear CS1; rintro e w7 ⟨rfl, hg7⟩; have G7 := hid (grown_none G6.out hg7); have B7 := hid (B6.out.kept hg7 (by simp)); have K7 := hid (K6.out.kept hg7); have T7 := hid (grown_none T6.out hg7); clear q0 q1 q2 q3 q4 r0 r1 r2 r3 r4; clear z0 z1 z2 z3 z4; obtain ⟨q0, q1, q2, q3, q4, r0, r1, r2, r3, r4⟩ := SS.out w7 G7.out; have z0 : w7.cell? ⟨w5.heap.size, 0, none⟩ = some (.int .i64 x.kind) := B7.out.cell 0; have z1 : w7.cell? ⟨w5.heap.size, 1, none⟩ = some (.int .i64 x.ty) := B7.out.cell 1; have z2 : w7.cell? ⟨w5.heap.size, 2, none⟩ = some (.string x.txt) := B7.out.cell 2; have z3 : w7.cell? ⟨w5.heap.size, 3, none⟩ = some (.int .i64 x.num) := B7.out.cell 3; have z4 : w7.cell? ⟨w5.heap.size, 4, none⟩ = some (.slice p5 L c5) := B7.out.cell 4; clear hg7)
        | (go_at_call 15; refine (CS2.out _ _ _ G7.out K7.out).mono ?_; clear CS2; rintro e w8 ⟨rfl, hg8⟩; have G8 := hid (grown_none G7.out hg8); have B8 := hid (B7.out.kept hg8 (by simp)); have T8 := hid (grown_none T7.out hg8); have K8 := hid (K7.out.kept hg8); clear q0 q1 q2 q3 q4 r0 r1 r2 r3 r4; clear z0 z1 z2 z3 z4; obtain ⟨q0, q1, q2, q3, q4, r0, r1, r2, r3, r4⟩ := SS.out w8 G8.out; have z0 : w8.cell? ⟨w5.heap.size, 0, none⟩ = some (.int .i64 x.kind) := B8.out.cell 0; have z1 : w8.cell? ⟨w5.heap.size, 1, none⟩ = some (.int .i64 x.ty) := B8.out.cell 1; have z2 : w8.cell? ⟨w5.heap.size, 2, none⟩ = some (.string x.txt) := B8.out.cell 2; have z3 : w8.cell? ⟨w5.heap.size, 3, none⟩ = some (.int .i64 x.num) := B8.out.cell 3; have z4 : w8.cell? ⟨w5.heap.size, 4, none⟩ = some (.slice p5 L c5) := B8.out.cell 4; clear hg8))
      go_ret
      exact ⟨rfl, grown_none GW3.out G8.out⟩
    · have l0 : (0 : Int) < L := by omega
      have lp : 0 < L := by omega
      have LP := hid lp
      clear h0 lp
      obtain ⟨F, eF⟩ : ∃ F, x.fst = F := ⟨_, rfl⟩
      have EF := hid eF
      have fs : F.size ≤ 100 := by rw [← eF]; exact L0.out
      have fa : ¬ 9223372036854775807 < F.size + 1 := by omega
      clear eF
      go_wp2_with (first
        | (go_at_call 20; refine CL.out.mono ?_; clear CL; rintro e w5 ⟨q5, rfl, ⟨hk5, hB5⟩, hg5⟩; obtain ⟨p5, c5, eq5, hc1, hc2, _⟩ := hk5.form; rw [HL.out] at eq5; subst eq5; obtain ⟨g5, eg5, hpg, _⟩ := hk5.at 0 (by rw [HL.out]; exact LP.out); subst eg5; obtain ⟨cs, hbg, hsz, hrw⟩ := hB5 g5 rfl; have BG5 := hid (hbg.alloc (.cells #[.int .i64 x.kind, .int .i64 x.ty, .string x.txt, .int .i64 x.num, .slice (some ⟨g5, 0, none⟩) L c5] 24)); have SZ5 := hid hsz; have RW5 := hid hrw; have lg5 : g5 < w5.heap.size := hbg.lt; have HC1 := hid hc1; have HC2 := hid hc2; clear hbg hsz hrw hc1 hc2; have K5 := hid (hk5.kept (grown_alloc (grown_refl w5 none) (.cells #[.int .i64 x.kind, .int .i64 x.ty, .string x.txt, .int .i64 x.num, .slice (some ⟨g5, 0, none⟩) L c5] 24))); have G5 := hid (grown_alloc (grown_none GC.out hg5) (.cells #[.int .i64 x.kind, .int .i64 x.ty, .string x.txt, .int .i64 x.num, .slice (some ⟨g5, 0, none⟩) L c5] 24)); have B5 := hid (Blk.new w5 24 #[.int .i64 x.kind, .int .i64 x.ty, .string x.txt, .int .i64 x.num, .slice (some ⟨g5, 0, none⟩) L c5]); have le5 : w3.heap.size ≤ wc.heap.size := GC.out.size; have le6 : wc.heap.size ≤ w5.heap.size := hg5.size; clear hk5 hg5 hB5)
        | (go_at_call 7; refine (CA.out _).mono ?_; clear CA; rintro e w6 ⟨rfl, hg6⟩; have G6 := hid (grown_none G5.out hg6); have B6 := hid (B5.out.kept hg6 (by simp)); have K6 := hid (K5.out.kept hg6); have T6 := hid hg6; clear q0 q1 q2 q3 q4 r0 r1 r2 r3 r4; obtain ⟨q0, q1, q2, q3, q4, r0, r1, r2, r3, r4⟩ := SS.out w6 G6.out; have z0 : w6.cell? ⟨w5.heap.size, 0, none⟩ = some (.int .i64 x.kind) := B6.out.cell 0; have z1 : w6.cell? ⟨w5.heap.size, 1, none⟩ = some (.int .i64 x.ty) := B6.out.cell 1; have z2 : w6.cell? ⟨w5.heap.size, 2, none⟩ = some (.string x.txt) := B6.out.cell 2; have z3 : w6.cell? ⟨w5.heap.size, 3, none⟩ = some (.int .i64 x.num) := B6.out.cell 3; have z4 : w6.cell? ⟨w5.heap.size, 4, none⟩ = some (.slice (some ⟨g5, 0, none⟩) L c5) := B6.out.cell 4; clear hg6)
        | (go_at_call 15; refine (CS1.out _ G6.out).mono ?_; clear CS1; rintro e w7 ⟨rfl, hg7⟩; have G7 := hid (grown_none G6.out hg7); have B7 := hid (B6.out.kept hg7 (by simp)); have K7 := hid (K6.out.kept hg7); have T7 := hid (grown_none T6.out hg7); clear q0 q1 q2 q3 q4 r0 r1 r2 r3 r4; clear z0 z1 z2 z3 z4; obtain ⟨q0, q1, q2, q3, q4, r0, r1, r2, r3, r4⟩ := SS.out w7 G7.out; have z0 : w7.cell? ⟨w5.heap.size, 0, none⟩ = some (.int .i64 x.kind) := B7.out.cell 0; have z1 : w7.cell? ⟨w5.heap.size, 1, none⟩ = some (.int .i64 x.ty) := B7.out.cell 1; have z2 : w7.cell? ⟨w5.heap.size, 2, none⟩ = some (.string x.txt) := B7.out.cell 2; have z3 : w7.cell? ⟨w5.heap.size, 3, none⟩ = some (.int .i64 x.num) := B7.out.cell 3; have z4 : w7.cell? ⟨w5.heap.size, 4, none⟩ = some (.slice (some ⟨g5, 0, none⟩) L c5) := B7.out.cell 4; clear hg7)
        | (go_at_call 15; refine (CS2.out _ _ _ G7.out K7.out).mono ?_; clear CS2; rintro e w8 ⟨rfl, hg8⟩; have G8 := hid (grown_none G7.out hg8); have B8 := hid (B7.out.kept hg8 (by simp)); have T8 := hid (grown_none T7.out hg8); have K8 := hid (K7.out.kept hg8); have BG8 := hid (BG5.out.kept T8.out (by simp)); have RW8 := hid (RowN.keptP (Kp.of_none _ (grown_none (grown_alloc (grown_refl w5 none) _) T8.out)) (fun _ h _ => h) ((grown_none (grown_alloc (grown_refl w5 none) _) T8.out).block g5 lg5 (by simp)) RW5.out); have k2 : w8.cell? ⟨g5, 2, none⟩ = some (.string F) := (by rw [fst_row (by rw [HL.out]; exact LP.out) RW8.out, EF.out]); have kf := BG8.out.frozen 2; have n1 : w2.heap.size ≠ g5 := (by omega); have n2 : w5.heap.size ≠ g5 := (by omega); have n3 : g5 ≠ w2.heap.size := (by omega); have n4 : g5 ≠ w5.heap.size := (by omega); clear q0 q1 q2 q3 q4 r0 r1 r2 r3 r4; clear z0 z1 z2 z3 z4; obtain ⟨q0, q1, q2, q3, q4, r0, r1, r2, r3, r4⟩ := SS.out w8 G8.out; have z0 : w8.cell? ⟨w5.heap.size, 0, none⟩ = some (.int .i64 x.kind) := B8.out.cell 0; have z1 : w8.cell? ⟨w5.heap.size, 1, none⟩ = some (.int .i64 x.ty) := B8.out.cell 1; have z2 : w8.cell? ⟨w5.heap.size, 2, none⟩ = some (.string x.txt) := B8.out.cell 2; have z3 : w8.cell? ⟨w5.heap.size, 3, none⟩ = some (.int .i64 x.num) := B8.out.cell 3; have z4 : w8.cell? ⟨w5.heap.size, 4, none⟩ = some (.slice (some ⟨g5, 0, none⟩) L c5) := B8.out.cell 4; clear hg8))
      have hl : 0 < x.kids.length := by rw [HL.out]; exact LP.out
      have GS : w3.grownBy (w8.setCell ⟨g5, 2, none⟩ (.string (F ++ ⟨#[120]⟩))) none := grown_set_new G8.out _ (by show w3.heap.size ≤ g5; omega)
      have RR := row_txt0 BG8.out SZ5.out hl RW8.out (F ++ ⟨#[120]⟩)
      have KK : KsV (w8.setCell ⟨g5, 2, none⟩ (.string (F ++ ⟨#[120]⟩))) (fun b => g5 ≤ b) (.slice (some ⟨g5, 0, none⟩) L c5) (x.txt0 (F ++ ⟨#[120]⟩)).kids := by
        refine ⟨g5, Or.inr ⟨?_, Nat.le_refl _, c5, ?_, ?_, HC2.out⟩, RowN.keptP (fun _ _ _ => rfl) (fun b hb _ => by omega) rfl RR⟩
        · rw [txt0_len]; exact hl
        · rw [txt0_len, HL.out]
        · rw [txt0_len]; exact HC1.out
      have FN : F ++ ⟨#[120]⟩ ≠ x.fst := by rw [EF.out]; exact longer_ne _ _ (by decide)
      refine (CS3.out _ _ _ (F ++ ⟨#[120]⟩) GS LP.out FN KK).mono ?_
      rintro e w9 ⟨rfl, hg9⟩
      have G9 := hid (grown_none GS hg9)
      clear hg9 GS RR KK FN hl
      go_wp2
      go_ret
      exact ⟨rfl, grown_none GW3.out G9.out⟩
end Go.Proofs.YtdodammplhlihaaDoor
