/-
  AstPlaces: the law's own walk.
-/
import Derived.Test.YtdodammplhlihaaDoorPc
import Derived.Test.YtdodammplhlihaaDoorRe
import Derived.Test.YtdodammplhlihaaDoorRr
import Derived.Test.YtdodammplhlihaaDoorAw
import Derived.Test.YtdodammplhlihaaDoorMt
import Derived.Test.YtdodammplhlihaaDoorRf
import Derived.Test.YtdodammplhlihaaDoorEc
import Derived.Test.YtdodammplhlihaaDoorIn
import Derived.Deep.RegionHeld3
import Derived.Deep.DeepCutAuto
namespace Go.Proofs.YtdodammplhlihaaDoor
open Go.RowKit
theorem RowN.kept3 {w w' : World} {g o : Nat} {l : List Nd} (h : RowN w (fun _ => True) g o l) (hg : w.grownBy w' none) : RowN w' (fun _ => True) g o l := by
  by_cases h0 : 0 < l.length
  · exact RowN.keptP (Kp.of_none _ hg) (fun _ _ _ => trivial) (hg.block g (row_lt h h0) (by simp)) h
  · obtain rfl : l = [] := List.length_eq_zero_iff.1 (by omega)
    rw [RowN]; trivial
def TrueP4 (w : World) (e : Ending) (w' : World) : Prop := e = .returned (.bool true) ∧ w.grownBy w' none
set_option maxRecDepth 100000 in
set_option maxHeartbeats 8000000 in
theorem places_law (pa : Option Addr) (na ca : Nat) (place ka kb km kc : Int) (ks : ByteArray) (w : World) (ha1 : na ≤ ca) (ha2 : ca ≤ maxLen) (hA : TrV w pa na) (hp0 : -9223372036854775808 ≤ place) (hp1 : place ≤ 9223372036854775807) (hs1 : (ks.size : Int) ≤ 9223372036854775807) (hm0 : -9223372036854775808 ≤ km) (hm1 : km ≤ 9223372036854775807) :
    Calls Tryd.prog 4 #[.slice pa na ca, .int .i64 place, .agg #[.int .i64 ka, .int .i64 kb, .string ks, .int .i64 km, .int .i64 kc]] w (TrueP4 w) := by
  have CA : Hid (∀ W, Calls Tryd.prog 7 #[] W fun e w' => e = .returned (.bool true) ∧ W.grownBy w' none) := awake_any
  have M1 : Hid (∀ W, w.grownBy W none → Calls Tryd.prog 10 #[.slice pa na ca] W (TopP W)) := fun W hW => made_top pa na ca W ha1 ha2 (hA.kept hW)
  clear hA
  have HP := hid (And.intro hp0 hp1)
  have HS := hid (And.intro hs1 (And.intro hm0 hm1))
  clear hp0 hp1 hs1 hm0 hm1
  go_enter Tryd.func4, Tryd.ntmps4
  go_wp2_with (first
    | (go_at_call 10; refine (M1.out _ ?gr).mono ?_; (case gr => exact grown_alloc (grown_refl _ _) _); clear M1; rintro e w1 ⟨x, qx, rfl, okx, cntx, hkx, hg1⟩; obtain ⟨px, cx, ex, _⟩ := hkx.form; subst ex; have KX := hid hkx; have G1 := hid (grown_none (grown_alloc (grown_refl w none) (.cells #[.int .i64 ka, .int .i64 kb, .string ks, .int .i64 km, .int .i64 kc] 34)) hg1); have B5 := hid ((Blk.new w 34 #[.int .i64 ka, .int .i64 kb, .string ks, .int .i64 km, .int .i64 kc]).kept hg1 (by simp)); have OX := hid okx; have NX := hid cntx; clear hkx hg1 okx cntx))
  have BX := Blk.new w1 24 #[.int .i64 x.kind, .int .i64 x.ty, .string x.txt, .int .i64 x.num, .slice px x.kids.length cx]
  have gb : w1.grownBy (w1.alloc (.cells #[.int .i64 x.kind, .int .i64 x.ty, .string x.txt, .int .i64 x.num, .slice px x.kids.length cx] 24)) none := grown_alloc (grown_refl w1 none) _
  generalize w1.alloc (.cells #[.int .i64 x.kind, .int .i64 x.ty, .string x.txt, .int .i64 x.num, .slice px x.kids.length cx] 24) = wb at *
  have GB := hid (grown_none G1.out gb)
  have VX : Hid (∀ V, wb.grownBy V none → KsV V (fun _ => True) (.slice px x.kids.length cx) x.kids) := fun V hV => ((KX.out.kept gb).kept hV).mono (fun _ _ _ => trivial)
  have SX : Hid (∀ V, wb.grownBy V none → V.cell? ⟨w1.heap.size, 0, none⟩ = some (.int .i64 x.kind) ∧ V.cell? ⟨w1.heap.size, 1, none⟩ = some (.int .i64 x.ty) ∧ V.cell? ⟨w1.heap.size, 2, none⟩ = some (.string x.txt) ∧ V.cell? ⟨w1.heap.size, 3, none⟩ = some (.int .i64 x.num) ∧ V.cell? ⟨w1.heap.size, 4, none⟩ = some (.slice px x.kids.length cx)) := fun V hV => ⟨(BX.kept hV (by simp)).cell 0, (BX.kept hV (by simp)).cell 1, (BX.kept hV (by simp)).cell 2, (BX.kept hV (by simp)).cell 3, (BX.kept hV (by simp)).cell 4⟩
  have SK : Hid (∀ V, wb.grownBy V none → Blk V w.heap.size 34 #[.int .i64 ka, .int .i64 kb, .string ks, .int .i64 km, .int .i64 kc]) := fun V hV => ((B5.out.kept gb (by simp)).kept hV (by simp))
  have hw1 : w1.heap.size < wb.heap.size := BX.lt
  have hw0 : w.heap.size < w1.heap.size := B5.out.lt
  have cnt1 : 0 < x.cnt := by cases x with | mk k t s n ks => rw [Nd.cnt]; omega
  have hnl := Nd.all_len x
  obtain ⟨N, hNN⟩ : ∃ N, x.all.length = N := ⟨_, rfl⟩
  have n0 : 0 < N := by omega
  have n1 : N ≤ 300 := by have := NX.out; omega
  have CR : Hid (∀ V, wb.grownBy V none → Calls Tryd.prog 12 #[.agg #[.int .i64 x.kind, .int .i64 x.ty, .string x.txt, .int .i64 x.num, .slice px x.kids.length cx]] V (refP V x)) := fun V hV => refany _ x OX.out _ V ⟨_, rfl, VX.out V hV⟩
  have CL : Hid (∀ V q P, KsV V P q x.kids → Calls Tryd.prog 11 #[.agg #[.int .i64 x.kind, .int .i64 x.ty, .string x.txt, .int .i64 x.num, q]] V fun e w' => ∃ (g c : Nat), e = .returned (.slice (some ⟨g, 0, none⟩) N c) ∧ N ≤ c ∧ c ≤ maxLen ∧ V.heap.size ≤ g ∧ g < w'.heap.size ∧ RowN w' (fun _ => True) g 0 x.all ∧ V.grownBy w' none) := fun V q P hq => (list_any V.heap.size x OX.out (by have := NX.out; omega) _ V (Nat.le_refl _) ⟨q, rfl, hq.mono (fun _ _ h => h)⟩).mono (by
    rintro e w' ⟨q', rfl, hk, hg⟩
    obtain ⟨g, c, e1, e2, e3, e4, e5, e6⟩ := hk.form
    rw [hNN] at e1 e4
    exact ⟨g, c, by rw [e1], e4, e5, e2, e3, RowN.keptP (fun _ _ _ => rfl) (fun _ _ _ => trivial) rfl e6, hg⟩)
  have C9 : Hid (∀ V, wb.grownBy V none → Calls Tryd.prog 9 #[.agg #[.int .i64 x.kind, .int .i64 x.ty, .string x.txt, .int .i64 x.num, .slice px x.kids.length cx]] V fun e w' => e = .returned (.int .i64 N) ∧ V.grownBy w' none) := fun V hV => by
    have := countT_any _ x OX.out (by have := NX.out; omega) _ V ⟨_, rfl, VX.out V hV⟩
    rw [← hnl, hNN] at this
    exact this
  have C13 : Hid (∀ V g c, wb.grownBy V none → N ≤ c → RowN V (fun _ => True) g 0 x.all → Calls Tryd.prog 13 #[.agg #[.int .i64 x.kind, .int .i64 x.ty, .string x.txt, .int .i64 x.num, .slice px x.kids.length cx], .slice (some ⟨g, 0, none⟩) N c] V (PlP V)) := fun V g c hV h1 h3 => by
    have := places_any _ x OX.out (by have := NX.out; omega) _ g c _ V ⟨_, rfl, VX.out V hV⟩ (by rw [hNN]; exact h1) h3
    rw [hNN] at this
    exact this
  have C14 : Hid (∀ V, wb.grownBy V none → Calls Tryd.prog 14 #[.agg #[.int .i64 x.kind, .int .i64 x.ty, .string x.txt, .int .i64 x.num, .slice px x.kids.length cx], .int .i64 place] V (AtP V x place)) := fun V hV => at_any _ x OX.out (by have := NX.out; omega) _ place V ⟨_, rfl, VX.out V hV⟩
  have HNN := hid hNN
  have HNL := hid hnl
  clear KX B5 BX gb G1 hNN hnl cnt1 ha1 ha2
  have M2 : Hid (∀ W g, Blk W g 34 #[.int .i64 ka, .int .i64 kb, .string ks, .int .i64 km, .int .i64 kc] → Calls Tryd.prog 10 #[.slice (some ⟨g, 0, none⟩) 1 1] W (TopP W)) := fun W g hB => made_top _ 1 1 W (Nat.le_refl _) (by unfold maxLen; omega) (fun _ => ⟨g, 0, rfl, fun i hi => by
    obtain rfl : i = 0 := by omega
    exact ⟨ka, kb, km, kc, ks, hB.cell 0, hB.cell 1, hB.cell 2, hB.cell 3, hB.cell 4, HS.out.1, HS.out.2.1, HS.out.2.2⟩⟩)
  obtain ⟨q0, q1, q2, q3, q4⟩ := SX.out wb (grown_refl _ _)
  go_wp2_with (first
    | (go_at_call 12; refine (CR.out _ (grown_refl _ _)).mono ?_; rintro e w2 ⟨q2, rfl, hk2, hg2⟩; obtain ⟨p2, c2, e2, _⟩ := hk2.form; subst e2; have K2 := hid hk2; have G2 := hid hg2; clear hk2 hg2)
    | (go_at_call 11; refine (CL.out _ _ _ K2.out).mono ?_; clear CL; rintro e w3 ⟨g3, c3, rfl, hc1, hc2, hl3, hl4, hr3, hg3⟩; have R3 := hid hr3; have G3 := hid (grown_none G2.out hg3); have HC1 := hid hc1; clear hr3 hg3 hc1 hc2)
    | (go_at_call 7; refine (CA.out _).mono ?_; clear CA; rintro e w4 ⟨rfl, hg4⟩; have G4 := hid (grown_none G3.out hg4); have T4 := hid hg4; clear q0 q1 q2 q3 q4; obtain ⟨q0, q1, q2, q3, q4⟩ := SX.out w4 G4.out; clear hg4)
    | (go_at_call 9; refine (C9.out _ G4.out).mono ?_; clear C9; rintro e w5 ⟨rfl, hg5⟩; have G5 := hid (grown_none G4.out hg5); have T5 := hid (grown_none T4.out hg5); clear q0 q1 q2 q3 q4; obtain ⟨q0, q1, q2, q3, q4⟩ := SX.out w5 G5.out; clear hg5)
    | (go_at_call 13; refine (C13.out _ _ _ G5.out HC1.out (RowN.kept3 R3.out T5.out)).mono ?_; clear C13; rintro e w6 ⟨rfl, hg6⟩; have G6 := hid (grown_none G5.out hg6); have T6 := hid (grown_none T5.out hg6); clear q0 q1 q2 q3 q4; obtain ⟨q0, q1, q2, q3, q4⟩ := SX.out w6 G6.out; clear hg6))
  by_cases hin : ∃ i : Nat, i < x.all.length ∧ (i : Int) = place
  · obtain ⟨i, hil, rfl⟩ := hin
    obtain ⟨y, hyy⟩ : ∃ y, x.all[i] = y := ⟨_, rfl⟩
    have C14i : Hid (∀ V, wb.grownBy V none → Calls Tryd.prog 14 #[.agg #[.int .i64 x.kind, .int .i64 x.ty, .string x.txt, .int .i64 x.num, .slice px x.kids.length cx], .int .i64 i] V fun e w' => ∃ q, e = .returned (.tuple #[.agg #[.int .i64 y.kind, .int .i64 y.ty, .string y.txt, .int .i64 y.num, q], .bool true]) ∧ KsV w' (fun _ => True) q y.kids ∧ V.grownBy w' none) := fun V hV => (C14.out V hV).mono (by
      rintro e w' ⟨(⟨j, hj, q, e1, e2, e3⟩ | ⟨e1, _⟩), hg⟩
      · have : j = i := by omega
        subst this
        subst hyy
        exact ⟨q, e2, e3.mono (fun _ _ _ => trivial), hg⟩
      · exact absurd rfl (e1 i hil))
    have hyo : y.ok := by rw [← hyy]; exact Nd.all_ok OX.out _ (List.getElem_mem hil)
    have HYY := hid (show ∃ h : i < x.all.length, x.all[i] = y from ⟨hil, hyy⟩)
    clear C14 hyy hil
    go_wp2_with (go_at_call 14; refine (C14i.out _ G6.out).mono ?_; clear C14i; rintro e w7 ⟨q7, rfl, hk7, hg7⟩; obtain ⟨p7, c7, e7, _⟩ := hk7.form; subst e7; have K7 := hid hk7; have G7 := hid (grown_none G6.out hg7); have T7 := hid (grown_none T6.out hg7); clear hk7 hg7)
    have B9 := Blk.new w7 24 #[.int .i64 y.kind, .int .i64 y.ty, .string y.txt, .int .i64 y.num, .slice p7 y.kids.length c7]
    have g8 : w7.grownBy (w7.alloc (.cells #[.int .i64 y.kind, .int .i64 y.ty, .string y.txt, .int .i64 y.num, .slice p7 y.kids.length c7] 24)) none := grown_alloc (grown_refl w7 none) _
    generalize w7.alloc (.cells #[.int .i64 y.kind, .int .i64 y.ty, .string y.txt, .int .i64 y.num, .slice p7 y.kids.length c7] 24) = w8 at *
    have G8 := hid (grown_none G7.out g8)
    have R8 := hid (RowN.kept3 R3.out (grown_none T7.out g8))
    have K8 := hid (K7.out.kept g8)
    obtain ⟨hil, hyy⟩ := HYY.out
    have hat := R8.out.at i hil
    rw [hyy, Nat.zero_add, Nat.mul_comm 5 i] at hat
    obtain ⟨qd, d0, d1, d2, d3, d4, hkd⟩ := hat.cells
    obtain ⟨pd, cd, ed, _⟩ := hkd.form
    subst ed
    have SS : Hid (∀ V, w8.grownBy V none → V.cell? ⟨w7.heap.size, 0, none⟩ = some (.int .i64 y.kind) ∧ V.cell? ⟨w7.heap.size, 1, none⟩ = some (.int .i64 y.ty) ∧ V.cell? ⟨w7.heap.size, 2, none⟩ = some (.string y.txt) ∧ V.cell? ⟨w7.heap.size, 3, none⟩ = some (.int .i64 y.num) ∧ V.cell? ⟨w7.heap.size, 4, none⟩ = some (.slice p7 y.kids.length c7) ∧ V.cell? ⟨g3, i * 5, none⟩ = some (.int .i64 y.kind) ∧ V.cell? ⟨g3, i * 5 + 1, none⟩ = some (.int .i64 y.ty) ∧ V.cell? ⟨g3, i * 5 + 2, none⟩ = some (.string y.txt) ∧ V.cell? ⟨g3, i * 5 + 3, none⟩ = some (.int .i64 y.num) ∧ V.cell? ⟨g3, i * 5 + 4, none⟩ = some (.slice pd y.kids.length cd)) := fun V hV => ⟨(B9.kept hV (by simp)).cell 0, (B9.kept hV (by simp)).cell 1, (B9.kept hV (by simp)).cell 2, (B9.kept hV (by simp)).cell 3, (B9.kept hV (by simp)).cell 4, cell_grown2 d0 hV, cell_grown2 d1 hV, cell_grown2 d2 hV, cell_grown2 d3 hV, cell_grown2 d4 hV⟩
    have CB : Hid (∀ V, w8.grownBy V none → Calls Tryd.prog 16 #[.agg #[.int .i64 y.kind, .int .i64 y.ty, .string y.txt, .int .i64 y.num, .slice pd y.kids.length cd]] V (backP V y)) := fun V hV => backany _ y hyo _ V ⟨_, rfl, hkd.kept hV⟩
    have CS : Hid (∀ V q P, w8.grownBy V none → KsV V P q y.kids → Calls Tryd.prog 15 #[.agg #[.int .i64 y.kind, .int .i64 y.ty, .string y.txt, .int .i64 y.num, .slice p7 y.kids.length c7], .agg #[.int .i64 y.kind, .int .i64 y.ty, .string y.txt, .int .i64 y.num, q]] V (SameP V true)) := fun V q P hV hq => by
      have := sameF_any _ P y (Nd.ok_few hyo) y (Nd.ok_few hyo) _ _ V ⟨_, rfl, K8.out.kept hV⟩ ⟨q, rfl, hq⟩
      rwa [(Nd.eqB_iff y y).2 rfl] at this
    have i0 : (0 : Int) ≤ i := by omega
    have i1 : (i : Int) < N := by have := hil; rw [HNN.out] at this; omega
    have i2 : (N : Int) ≤ 300 := by omega
    have G8' := G8.out.size
    clear d0 d1 d2 d3 d4 hkd hat B9 g8 q0 q1 q2 q3 q4 hyo hyy hil
    go_wp2_with fail
    go_cut [61] (fun c61 W => c61 = .bool false ∧ w8.grownBy W none)
    case first =>
      obtain ⟨x0, x1, x2, x3, x4, y0, y1, y2, y3, y4⟩ := SS.out w8 (grown_refl _ _)
      have GD : w8.grownBy w8.drew none := grown_drew (grown_refl _ _)
      clear CR VX SX SK GB OX NX HP HS G2 G3 G4 G5 G6 G7 G8 T4 T5 T6 T7 K2 R3 R8 K7 K8 HC1 HNN HNL HYY hw1 hw0 hl3 hl4 M2 n0 n1 G8'
      go_region_held3 (fun V => V.cell? ⟨w7.heap.size, 0, none⟩ = some (.int .i64 y.kind) ∧ V.cell? ⟨w7.heap.size, 1, none⟩ = some (.int .i64 y.ty) ∧ V.cell? ⟨w7.heap.size, 2, none⟩ = some (.string y.txt) ∧ V.cell? ⟨w7.heap.size, 3, none⟩ = some (.int .i64 y.num) ∧ V.cell? ⟨w7.heap.size, 4, none⟩ = some (.slice p7 y.kids.length c7) ∧ V.cell? ⟨g3, i * 5, none⟩ = some (.int .i64 y.kind) ∧ V.cell? ⟨g3, i * 5 + 1, none⟩ = some (.int .i64 y.ty) ∧ V.cell? ⟨g3, i * 5 + 2, none⟩ = some (.string y.txt) ∧ V.cell? ⟨g3, i * 5 + 3, none⟩ = some (.int .i64 y.num) ∧ V.cell? ⟨g3, i * 5 + 4, none⟩ = some (.slice pd y.kids.length cd)) (first | assumption | go_keep) (first
        | (go_at_call 16; refine (CB.out _ (by assumption)).mono ?_; clear CB; rintro e u4 ⟨q4', rfl, hk4, hg4⟩; obtain ⟨p4, c4, e4, _⟩ := hk4.form; subst e4; have GN4 : w8.grownBy u4 none := grown_none (by assumption) hg4; have SN4 := SS.out u4 GN4; have CS4 := hid (CS.out u4 _ _ GN4 hk4); clear CS)
        | (go_at_call 15; refine CS4.out.mono ?_; clear CS4; rintro e u5 ⟨rfl, hg5⟩; have GN5 : w8.grownBy u5 none := grown_none GN4 hg5; have SN5 := SS.out u5 GN5))
      all_goals (
        (try go_wp2_with fail)
        go_meet
        exact ⟨rfl, by assumption⟩)
    case rest =>
      obtain ⟨rfl, hgc⟩ := hcut
      have GC := hid (grown_none G8.out hgc)
      have SKc := SK.out wc GC.out
      have s0 : wc.cell? ⟨w.heap.size, 0, none⟩ = some (.int .i64 ka) := SKc.cell 0
      have s1 : wc.cell? ⟨w.heap.size, 1, none⟩ = some (.int .i64 kb) := SKc.cell 1
      have s2 : wc.cell? ⟨w.heap.size, 2, none⟩ = some (.string ks) := SKc.cell 2
      have s3 : wc.cell? ⟨w.heap.size, 3, none⟩ = some (.int .i64 km) := SKc.cell 3
      have s4 : wc.cell? ⟨w.heap.size, 4, none⟩ = some (.int .i64 kc) := SKc.cell 4
      have z0 : ¬ (i : Int) < 0 := by omega
      clear hgc SKc SS CB CS
      go_upto_region 9 with (go_at_call 10; refine (M2.out _ _ (Blk.new _ 34 _)).mono ?_; clear M2; rintro e w9 ⟨o, qo, rfl, oko, cnto, hko, hg9⟩; obtain ⟨po, co, eo, _⟩ := hko.form; subst eo; have KO := hid hko; have G9 := hid (grown_none GC.out (grown_none (grown_alloc (grown_refl wc none) _) hg9)); have OO := hid oko; clear hko hg9 oko cnto)
      have BO := Blk.new w9 24 #[.int .i64 o.kind, .int .i64 o.ty, .string o.txt, .int .i64 o.num, .slice po o.kids.length co]
      have go10 : w9.grownBy (w9.alloc (.cells #[.int .i64 o.kind, .int .i64 o.ty, .string o.txt, .int .i64 o.num, .slice po o.kids.length co] 24)) none := grown_alloc (grown_refl w9 none) _
      generalize w9.alloc (.cells #[.int .i64 o.kind, .int .i64 o.ty, .string o.txt, .int .i64 o.num, .slice po o.kids.length co] 24) = w10 at *
      have G10 := hid (grown_none G9.out go10)
      have VO : Hid (∀ V, w10.grownBy V none → KsV V (fun _ => True) (.slice po o.kids.length co) o.kids) := fun V hV => ((KO.out.kept go10).kept hV).mono (fun _ _ _ => trivial)
      have VX1 : Hid (∀ V, w10.grownBy V none → KsV V (fun _ => True) (.slice px x.kids.length cx) x.kids) := fun V hV => VX.out V (grown_none G10.out hV)
      have SS : Hid (∀ V, w10.grownBy V none → V.cell? ⟨w1.heap.size, 0, none⟩ = some (.int .i64 x.kind) ∧ V.cell? ⟨w1.heap.size, 1, none⟩ = some (.int .i64 x.ty) ∧ V.cell? ⟨w1.heap.size, 2, none⟩ = some (.string x.txt) ∧ V.cell? ⟨w1.heap.size, 3, none⟩ = some (.int .i64 x.num) ∧ V.cell? ⟨w1.heap.size, 4, none⟩ = some (.slice px x.kids.length cx) ∧ V.cell? ⟨w9.heap.size, 0, none⟩ = some (.int .i64 o.kind) ∧ V.cell? ⟨w9.heap.size, 1, none⟩ = some (.int .i64 o.ty) ∧ V.cell? ⟨w9.heap.size, 2, none⟩ = some (.string o.txt) ∧ V.cell? ⟨w9.heap.size, 3, none⟩ = some (.int .i64 o.num) ∧ V.cell? ⟨w9.heap.size, 4, none⟩ = some (.slice po o.kids.length co)) := fun V hV => by
        obtain ⟨a0, a1, a2, a3, a4⟩ := SX.out V (grown_none G10.out hV)
        exact ⟨a0, a1, a2, a3, a4, (BO.kept hV (by simp)).cell 0, (BO.kept hV (by simp)).cell 1, (BO.kept hV (by simp)).cell 2, (BO.kept hV (by simp)).cell 3, (BO.kept hV (by simp)).cell 4⟩
      obtain ⟨z, hz⟩ : ∃ z, Nd.repl o x i = z := ⟨_, rfl⟩
      have okz : z.ok := by rw [← hz]; exact Nd.repl_ok OO.out x i OX.out
      have C17 : Hid (∀ V, w10.grownBy V none → Calls Tryd.prog 17 #[.agg #[.int .i64 x.kind, .int .i64 x.ty, .string x.txt, .int .i64 x.num, .slice px x.kids.length cx], .int .i64 (i : Int), .agg #[.int .i64 o.kind, .int .i64 o.ty, .string o.txt, .int .i64 o.num, .slice po o.kids.length co]] V (backP V z)) := fun V hV => (replace_any _ _ x o OX.out OO.out (by have := NX.out; omega) _ _ (i : Int) V ⟨_, rfl, VX1.out V hV⟩ ⟨_, rfl, VO.out V hV⟩).mono (by
        rintro e w' ⟨y', q', rfl, hk', hg', hr'⟩
        have ey : y' = z := by
          rcases hr' with ⟨j, hj, ej, rfl⟩ | ⟨hj, rfl⟩
          · rw [← hz, show j = i by omega]
          · rw [← hz, Nd.repl_out _ _ _ (by
              by_cases h : i < y'.cnt
              · exact absurd rfl (hj i h)
              · omega)]
        subst ey
        exact ⟨q', rfl, hk', hg'⟩)
      have CRo : Hid (∀ V, w10.grownBy V none → Calls Tryd.prog 12 #[.agg #[.int .i64 o.kind, .int .i64 o.ty, .string o.txt, .int .i64 o.num, .slice po o.kids.length co]] V (refP V o)) := fun V hV => refany _ o OO.out _ V ⟨_, rfl, VO.out V hV⟩
      have CRx : Hid (∀ V, w10.grownBy V none → Calls Tryd.prog 12 #[.agg #[.int .i64 x.kind, .int .i64 x.ty, .string x.txt, .int .i64 x.num, .slice px x.kids.length cx]] V (refP V x)) := fun V hV => refany _ x OX.out _ V ⟨_, rfl, VX1.out V hV⟩
      have C18 : Hid (∀ V q q' P P', KsV V P q x.kids → KsV V P' q' o.kids → Calls Tryd.prog 18 #[.agg #[.int .i64 x.kind, .int .i64 x.ty, .string x.txt, .int .i64 x.num, q], .int .i64 (i : Int), .agg #[.int .i64 o.kind, .int .i64 o.ty, .string o.txt, .int .i64 o.num, q']] V (RrP V.heap.size V z)) := fun V q q' P P' h1 h2 => by
        rw [← hz]
        exact rrep_any V.heap.size o _ x OX.out (by have := NX.out; omega) i _ V (by have := HP.out.2; omega) (Nat.le_refl _) ⟨q, rfl, h1.mono (fun _ _ h => h)⟩ ⟨q', rfl, h2.mono (fun _ _ h => h)⟩
      have C16 : Hid (∀ V q P, KsV V P q z.kids → Calls Tryd.prog 16 #[.agg #[.int .i64 z.kind, .int .i64 z.ty, .string z.txt, .int .i64 z.num, q]] V (backP V z)) := fun V q P h1 => backany _ z okz _ V ⟨q, rfl, h1⟩
      have C8 : Hid (∀ V, w10.grownBy V none → Calls Tryd.prog 8 #[.agg #[.int .i64 x.kind, .int .i64 x.ty, .string x.txt, .int .i64 x.num, .slice px x.kids.length cx]] V (StrP V (mkS x.enc))) := fun V hV => encode_any _ x OX.out (by have := NX.out; omega) _ V ⟨_, rfl, VX1.out V hV⟩
      generalize mkS x.enc = TX at *
      have C15 : Hid (∀ V q q' P P', KsV V P q z.kids → KsV V P' q' z.kids → Calls Tryd.prog 15 #[.agg #[.int .i64 z.kind, .int .i64 z.ty, .string z.txt, .int .i64 z.num, q], .agg #[.int .i64 z.kind, .int .i64 z.ty, .string z.txt, .int .i64 z.num, q']] V (SameP V true)) := fun V q q' P P' h1 h2 => by
        have := sameF_any P P' z (Nd.ok_few okz) z (Nd.ok_few okz) _ _ V ⟨q, rfl, h1⟩ ⟨q', rfl, h2⟩
        rwa [(Nd.eqB_iff z z).2 rfl] at this
      have GF := hid (grown_none GB.out G10.out)
      obtain ⟨a0, a1, a2, a3, a4, b0, b1, b2, b3, b4⟩ := SS.out w10 (grown_refl _ _)
      clear BO KO go10 okz hz s0 s1 s2 s3 s4 OX OO NX SX SK VO HS HNN HNL G2 G3 G4 G5 G6 G7 G8 G9 G10 GB GC T4 T5 T6 T7 K2 R3 R8 HC1 hw0 hw1 hl3 hl4 n0 n1 CR VX VX1 HYY K7 K8 i1 i2 G8'
      go_wp2_with (go_at_call 8; refine (C8.out _ (grown_refl _ _)).mono ?_; rintro e w11 ⟨rfl, hg11⟩; have G11 := hid hg11; clear hg11 a0 a1 a2 a3 a4 b0 b1 b2 b3 b4; obtain ⟨a0, a1, a2, a3, a4, b0, b1, b2, b3, b4⟩ := SS.out w11 G11.out)
      go_cut [6] (fun c6 W => c6 = .bool true ∧ w10.grownBy W none)
      case first =>
        have GD : w10.grownBy w11.drew none := grown_drew G11.out
        clear GF HP
        go_region_held3 (fun V => V.cell? ⟨w1.heap.size, 0, none⟩ = some (.int .i64 x.kind) ∧ V.cell? ⟨w1.heap.size, 1, none⟩ = some (.int .i64 x.ty) ∧ V.cell? ⟨w1.heap.size, 2, none⟩ = some (.string x.txt) ∧ V.cell? ⟨w1.heap.size, 3, none⟩ = some (.int .i64 x.num) ∧ V.cell? ⟨w1.heap.size, 4, none⟩ = some (.slice px x.kids.length cx) ∧ V.cell? ⟨w9.heap.size, 0, none⟩ = some (.int .i64 o.kind) ∧ V.cell? ⟨w9.heap.size, 1, none⟩ = some (.int .i64 o.ty) ∧ V.cell? ⟨w9.heap.size, 2, none⟩ = some (.string o.txt) ∧ V.cell? ⟨w9.heap.size, 3, none⟩ = some (.int .i64 o.num) ∧ V.cell? ⟨w9.heap.size, 4, none⟩ = some (.slice po o.kids.length co)) (first | assumption | go_keep) (first
          | (go_at_call 17; refine (C17.out _ (by assumption)).mono ?_; clear C17; rintro e u1 ⟨q1', rfl, hk1, hg1⟩; obtain ⟨p1, c1, e1, _⟩ := hk1.form; subst e1; have GN1 : w10.grownBy u1 none := grown_none (by assumption) hg1; have SN1 := SS.out u1 GN1; have K1 := hid hk1)
          | (go_at_call 12; refine calls_at (args := #[.agg #[.int .i64 x.kind, .int .i64 x.ty, .string x.txt, .int .i64 x.num, .slice px x.kids.length cx]]) rfl ?_; refine (CRx.out u1 GN1).mono ?_; clear CRx; rintro e u2 ⟨q2', rfl, hk2, hg2⟩; obtain ⟨p2, c2, e2, _⟩ := hk2.form; subst e2; have GN2 : w10.grownBy u2 none := grown_none GN1 hg2; have SN2 := SS.out u2 GN2; have K12 := hid (K1.out.kept hg2); have K2 := hid hk2)
          | (go_at_call 12; refine calls_at (args := #[.agg #[.int .i64 o.kind, .int .i64 o.ty, .string o.txt, .int .i64 o.num, .slice po o.kids.length co]]) rfl ?_; refine (CRo.out u2 GN2).mono ?_; clear CRo; rintro e u3 ⟨q3', rfl, hk3, hg3⟩; obtain ⟨p3, c3, e3, _⟩ := hk3.form; subst e3; have GN3 : w10.grownBy u3 none := grown_none GN2 hg3; have SN3 := SS.out u3 GN3; have K13 := hid (K12.out.kept hg3); have C18' := hid (C18.out u3 _ _ _ _ (K2.out.kept hg3) hk3); clear C18)
          | (go_at_call 18; refine C18'.out.mono ?_; clear C18'; rintro e u4 ⟨q4', rfl, hk4, hg4⟩; obtain ⟨p4, c4, e4, _⟩ := hk4.form; subst e4; have GN4 : w10.grownBy u4 none := grown_none GN3 hg4; have SN4 := SS.out u4 GN4; have K14 := hid (K13.out.kept hg4); have C16' := hid (C16.out u4 _ _ hk4); clear C16)
          | (go_at_call 16; refine C16'.out.mono ?_; clear C16'; rintro e u5 ⟨q5', rfl, hk5, hg5⟩; obtain ⟨p5, c5, e5, _⟩ := hk5.form; subst e5; have GN5 : w10.grownBy u5 none := grown_none GN4 hg5; have SN5 := SS.out u5 GN5; have C15' := hid (C15.out u5 _ _ _ _ (K14.out.kept hg5) hk5); clear C15)
          | (go_at_call 15; refine C15'.out.mono ?_; clear C15'; rintro e u6 ⟨rfl, hg6⟩; have GN6 : w10.grownBy u6 none := grown_none GN5 hg6; have SN6 := SS.out u6 GN6)
          | (go_at_call 8; refine (C8.out u6 GN6).mono ?_; clear C8; rintro e u7 ⟨rfl, hg7⟩; have GN7 : w10.grownBy u7 none := grown_none GN6 hg7; have SN7 := SS.out u7 GN7))
        all_goals (
          (try go_wp2_with fail)
          go_meet
          exact ⟨by simp, by assumption⟩)
      case rest =>
        obtain ⟨rfl, hgd⟩ := hcut
        go_wp2
        go_ret
        exact ⟨rfl, grown_none GF.out hgd⟩
  · by_cases hn : place < 0
    · have hneg : place < 0 := hn
      have j0 : ¬ (0 : Int) ≤ place := by omega
      have j1 : decide ((0 : Int) ≤ place) = false := decide_eq_false j0
      have C14i : Hid (∀ V, wb.grownBy V none → Calls Tryd.prog 14 #[.agg #[.int .i64 x.kind, .int .i64 x.ty, .string x.txt, .int .i64 x.num, .slice px x.kids.length cx], .int .i64 place] V fun e w' => e = .returned (.tuple #[.agg #[.int .i64 0, .int .i64 0, .string ⟨#[]⟩, .int .i64 0, .slice none 0 0], .bool false]) ∧ V.grownBy w' none) := fun V hV => (C14.out V hV).mono (by
        rintro e w' ⟨(⟨j, hj, q, e1, e2, e3⟩ | ⟨_, e1⟩), hg⟩
        · exact absurd ⟨j, hj, e1⟩ hin
        · exact ⟨e1, hg⟩)
      clear C14 hin
      go_wp2_with (go_at_call 14; refine (C14i.out _ G6.out).mono ?_; clear C14i; rintro e w7 ⟨rfl, hg7⟩; have G7 := hid (grown_none G6.out hg7); have T7 := hid (grown_none T6.out hg7); clear hg7)
      have g8 : w7.grownBy (w7.alloc (.cells #[.int .i64 0, .int .i64 0, .string ⟨#[]⟩, .int .i64 0, .slice none 0 0] 24)) none := grown_alloc (grown_refl w7 none) _
      generalize w7.alloc (.cells #[.int .i64 0, .int .i64 0, .string ⟨#[]⟩, .int .i64 0, .slice none 0 0] 24) = w8 at *
      have G8 := hid (grown_none G7.out g8)
      have i2 : (N : Int) ≤ 300 := by omega
      clear g8 q0 q1 q2 q3 q4
      go_wp2_with fail
      go_cut [61] (fun c61 W => c61 = .bool false ∧ w8.grownBy W none)
      case first =>
        obtain ⟨x0, x1, x2, x3, x4⟩ := SX.out w8 G8.out
        have GD : w8.grownBy w8.drew none := grown_drew (grown_refl _ _)
        clear CR VX SX SK GB OX NX HP HS G2 G3 G4 G5 G6 G7 G8 T4 T5 T6 T7 K2 R3 HC1 HNN HNL hw1 hw0 hl3 hl4 M2 n0 n1
        go_quiet (fail)
        all_goals (
          (try go_wp2_with fail)
          go_meet
          exact ⟨by first | rfl | simp, by first | assumption | exact grown_drew (grown_refl _ _) | exact ⟨rfl, rfl, rfl, Nat.le_refl _, fun _ _ _ => rfl⟩⟩)
      case rest =>
        obtain ⟨rfl, hgc⟩ := hcut
        have GC := hid (grown_none G8.out hgc)
        have SKc := SK.out wc GC.out
        have s0 : wc.cell? ⟨w.heap.size, 0, none⟩ = some (.int .i64 ka) := SKc.cell 0
        have s1 : wc.cell? ⟨w.heap.size, 1, none⟩ = some (.int .i64 kb) := SKc.cell 1
        have s2 : wc.cell? ⟨w.heap.size, 2, none⟩ = some (.string ks) := SKc.cell 2
        have s3 : wc.cell? ⟨w.heap.size, 3, none⟩ = some (.int .i64 km) := SKc.cell 3
        have s4 : wc.cell? ⟨w.heap.size, 4, none⟩ = some (.int .i64 kc) := SKc.cell 4
        have z0 : place < 0 := hneg
        clear hgc SKc
        go_upto_region 9 with (go_at_call 10; refine (M2.out _ _ (Blk.new _ 34 _)).mono ?_; clear M2; rintro e w9 ⟨o, qo, rfl, oko, cnto, hko, hg9⟩; obtain ⟨po, co, eo, _⟩ := hko.form; subst eo; have KO := hid hko; have G9 := hid (grown_none GC.out (grown_none (grown_alloc (grown_refl wc none) _) hg9)); have OO := hid oko; clear hko hg9 oko cnto)
        have BO := Blk.new w9 24 #[.int .i64 o.kind, .int .i64 o.ty, .string o.txt, .int .i64 o.num, .slice po o.kids.length co]
        have go10 : w9.grownBy (w9.alloc (.cells #[.int .i64 o.kind, .int .i64 o.ty, .string o.txt, .int .i64 o.num, .slice po o.kids.length co] 24)) none := grown_alloc (grown_refl w9 none) _
        generalize w9.alloc (.cells #[.int .i64 o.kind, .int .i64 o.ty, .string o.txt, .int .i64 o.num, .slice po o.kids.length co] 24) = w10 at *
        have G10 := hid (grown_none G9.out go10)
        have VO : Hid (∀ V, w10.grownBy V none → KsV V (fun _ => True) (.slice po o.kids.length co) o.kids) := fun V hV => ((KO.out.kept go10).kept hV).mono (fun _ _ _ => trivial)
        have VX1 : Hid (∀ V, w10.grownBy V none → KsV V (fun _ => True) (.slice px x.kids.length cx) x.kids) := fun V hV => VX.out V (grown_none G10.out hV)
        have SS : Hid (∀ V, w10.grownBy V none → V.cell? ⟨w1.heap.size, 0, none⟩ = some (.int .i64 x.kind) ∧ V.cell? ⟨w1.heap.size, 1, none⟩ = some (.int .i64 x.ty) ∧ V.cell? ⟨w1.heap.size, 2, none⟩ = some (.string x.txt) ∧ V.cell? ⟨w1.heap.size, 3, none⟩ = some (.int .i64 x.num) ∧ V.cell? ⟨w1.heap.size, 4, none⟩ = some (.slice px x.kids.length cx) ∧ V.cell? ⟨w9.heap.size, 0, none⟩ = some (.int .i64 o.kind) ∧ V.cell? ⟨w9.heap.size, 1, none⟩ = some (.int .i64 o.ty) ∧ V.cell? ⟨w9.heap.size, 2, none⟩ = some (.string o.txt) ∧ V.cell? ⟨w9.heap.size, 3, none⟩ = some (.int .i64 o.num) ∧ V.cell? ⟨w9.heap.size, 4, none⟩ = some (.slice po o.kids.length co)) := fun V hV => by
          obtain ⟨a0, a1, a2, a3, a4⟩ := SX.out V (grown_none G10.out hV)
          exact ⟨a0, a1, a2, a3, a4, (BO.kept hV (by simp)).cell 0, (BO.kept hV (by simp)).cell 1, (BO.kept hV (by simp)).cell 2, (BO.kept hV (by simp)).cell 3, (BO.kept hV (by simp)).cell 4⟩
        have okz := OX.out
        have C17 : Hid (∀ V, w10.grownBy V none → Calls Tryd.prog 17 #[.agg #[.int .i64 x.kind, .int .i64 x.ty, .string x.txt, .int .i64 x.num, .slice px x.kids.length cx], .int .i64 place, .agg #[.int .i64 o.kind, .int .i64 o.ty, .string o.txt, .int .i64 o.num, .slice po o.kids.length co]] V (backP V x)) := fun V hV => (replace_any _ _ x o OX.out OO.out (by have := NX.out; omega) _ _ place V ⟨_, rfl, VX1.out V hV⟩ ⟨_, rfl, VO.out V hV⟩).mono (by
          rintro e w' ⟨y', q', rfl, hk', hg', hr'⟩
          have ey : y' = x := by
            rcases hr' with ⟨j, hj, ej, rfl⟩ | ⟨hj, rfl⟩
            · omega
            · rfl
          subst ey
          exact ⟨q', rfl, hk', hg'⟩)
        have C15 : Hid (∀ V q q' P P', KsV V P q x.kids → KsV V P' q' x.kids → Calls Tryd.prog 15 #[.agg #[.int .i64 x.kind, .int .i64 x.ty, .string x.txt, .int .i64 x.num, q], .agg #[.int .i64 x.kind, .int .i64 x.ty, .string x.txt, .int .i64 x.num, q']] V (SameP V true)) := fun V q q' P P' h1 h2 => by
          have := sameF_any P P' x (Nd.ok_few okz) x (Nd.ok_few okz) _ _ V ⟨q, rfl, h1⟩ ⟨q', rfl, h2⟩
          rwa [(Nd.eqB_iff x x).2 rfl] at this
        have GF := hid (grown_none GB.out G10.out)
        obtain ⟨a0, a1, a2, a3, a4, b0, b1, b2, b3, b4⟩ := SS.out w10 (grown_refl _ _)
        clear BO KO go10 okz  s0 s1 s2 s3 s4 OX OO NX SX SK VO HS HNN HNL G2 G3 G4 G5 G6 G7 G8 G9 G10 GB GC T4 T5 T6 T7 K2 R3 HC1 hw0 hw1 hl3 hl4 n0 n1 CR VX i2 j0 j1
        go_wp2_with fail
        go_cut [6] (fun c6 W => c6 = .bool true ∧ w10.grownBy W none)
        case first =>
          have GD : w10.grownBy w10.drew none := grown_drew (grown_refl _ _)
          clear GF
          go_region_held3 (fun V => V.cell? ⟨w1.heap.size, 0, none⟩ = some (.int .i64 x.kind) ∧ V.cell? ⟨w1.heap.size, 1, none⟩ = some (.int .i64 x.ty) ∧ V.cell? ⟨w1.heap.size, 2, none⟩ = some (.string x.txt) ∧ V.cell? ⟨w1.heap.size, 3, none⟩ = some (.int .i64 x.num) ∧ V.cell? ⟨w1.heap.size, 4, none⟩ = some (.slice px x.kids.length cx) ∧ V.cell? ⟨w9.heap.size, 0, none⟩ = some (.int .i64 o.kind) ∧ V.cell? ⟨w9.heap.size, 1, none⟩ = some (.int .i64 o.ty) ∧ V.cell? ⟨w9.heap.size, 2, none⟩ = some (.string o.txt) ∧ V.cell? ⟨w9.heap.size, 3, none⟩ = some (.int .i64 o.num) ∧ V.cell? ⟨w9.heap.size, 4, none⟩ = some (.slice po o.kids.length co)) (first | assumption | go_keep) (first
            | (go_at_call 17; refine (C17.out _ (by assumption)).mono ?_; clear C17; rintro e u1 ⟨q1', rfl, hk1, hg1⟩; obtain ⟨p1, c1, e1, _⟩ := hk1.form; subst e1; have GN1 : w10.grownBy u1 none := grown_none (by assumption) hg1; have SN1 := SS.out u1 GN1; have C15' := hid (C15.out u1 _ _ _ _ hk1 (VX1.out u1 GN1)); clear C15)
            | (go_at_call 15; refine C15'.out.mono ?_; clear C15'; rintro e u6 ⟨rfl, hg6⟩; have GN6 : w10.grownBy u6 none := grown_none GN1 hg6; have SN6 := SS.out u6 GN6))
          all_goals (
            (try go_wp2_with fail)
            go_meet
            exact ⟨rfl, by assumption⟩)
        case rest =>
          obtain ⟨rfl, hgd⟩ := hcut
          go_wp2
          go_ret
          exact ⟨rfl, grown_none GF.out hgd⟩
    · obtain ⟨i, rfl⟩ : ∃ i : Nat, (i : Int) = place := ⟨place.toNat, by omega⟩
      have hge : N ≤ i := by
        by_cases h : i < N
        · exact absurd ⟨i, by rw [HNN.out]; exact h, rfl⟩ hin
        · omega
      have j0 : (0 : Int) ≤ i := by omega
      have j1 : ¬ (i : Int) < N := by omega
      have j2 : decide (i < N) = false := decide_eq_false (by omega)
      have C14i : Hid (∀ V, wb.grownBy V none → Calls Tryd.prog 14 #[.agg #[.int .i64 x.kind, .int .i64 x.ty, .string x.txt, .int .i64 x.num, .slice px x.kids.length cx], .int .i64 i] V fun e w' => e = .returned (.tuple #[.agg #[.int .i64 0, .int .i64 0, .string ⟨#[]⟩, .int .i64 0, .slice none 0 0], .bool false]) ∧ V.grownBy w' none) := fun V hV => (C14.out V hV).mono (by
        rintro e w' ⟨(⟨j, hj, q, e1, e2, e3⟩ | ⟨_, e1⟩), hg⟩
        · exact absurd ⟨j, hj, e1⟩ hin
        · exact ⟨e1, hg⟩)
      clear C14 hin
      go_wp2_with (go_at_call 14; refine (C14i.out _ G6.out).mono ?_; clear C14i; rintro e w7 ⟨rfl, hg7⟩; have G7 := hid (grown_none G6.out hg7); have T7 := hid (grown_none T6.out hg7); clear hg7)
      have g8 : w7.grownBy (w7.alloc (.cells #[.int .i64 0, .int .i64 0, .string ⟨#[]⟩, .int .i64 0, .slice none 0 0] 24)) none := grown_alloc (grown_refl w7 none) _
      generalize w7.alloc (.cells #[.int .i64 0, .int .i64 0, .string ⟨#[]⟩, .int .i64 0, .slice none 0 0] 24) = w8 at *
      have G8 := hid (grown_none G7.out g8)
      have i2 : (N : Int) ≤ 300 := by omega
      clear g8 q0 q1 q2 q3 q4
      go_wp2_with fail
      go_cut [61] (fun c61 W => c61 = .bool false ∧ w8.grownBy W none)
      case first =>
        obtain ⟨x0, x1, x2, x3, x4⟩ := SX.out w8 G8.out
        have GD : w8.grownBy w8.drew none := grown_drew (grown_refl _ _)
        clear CR VX SX SK GB OX NX HP HS G2 G3 G4 G5 G6 G7 G8 T4 T5 T6 T7 K2 R3 HC1 HNN HNL hw1 hw0 hl3 hl4 M2 n0 n1
        go_quiet (fail)
        all_goals (
          (try go_wp2_with fail)
          go_meet
          exact ⟨by first | rfl | simp, by first | assumption | exact grown_drew (grown_refl _ _) | exact ⟨rfl, rfl, rfl, Nat.le_refl _, fun _ _ _ => rfl⟩⟩)
      case rest =>
        obtain ⟨rfl, hgc⟩ := hcut
        have GC := hid (grown_none G8.out hgc)
        have SKc := SK.out wc GC.out
        have s0 : wc.cell? ⟨w.heap.size, 0, none⟩ = some (.int .i64 ka) := SKc.cell 0
        have s1 : wc.cell? ⟨w.heap.size, 1, none⟩ = some (.int .i64 kb) := SKc.cell 1
        have s2 : wc.cell? ⟨w.heap.size, 2, none⟩ = some (.string ks) := SKc.cell 2
        have s3 : wc.cell? ⟨w.heap.size, 3, none⟩ = some (.int .i64 km) := SKc.cell 3
        have s4 : wc.cell? ⟨w.heap.size, 4, none⟩ = some (.int .i64 kc) := SKc.cell 4
        have z0 : ¬ (i : Int) < 0 := by omega
        clear hgc SKc
        go_upto_region 9 with (go_at_call 10; refine (M2.out _ _ (Blk.new _ 34 _)).mono ?_; clear M2; rintro e w9 ⟨o, qo, rfl, oko, cnto, hko, hg9⟩; obtain ⟨po, co, eo, _⟩ := hko.form; subst eo; have KO := hid hko; have G9 := hid (grown_none GC.out (grown_none (grown_alloc (grown_refl wc none) _) hg9)); have OO := hid oko; clear hko hg9 oko cnto)
        have BO := Blk.new w9 24 #[.int .i64 o.kind, .int .i64 o.ty, .string o.txt, .int .i64 o.num, .slice po o.kids.length co]
        have go10 : w9.grownBy (w9.alloc (.cells #[.int .i64 o.kind, .int .i64 o.ty, .string o.txt, .int .i64 o.num, .slice po o.kids.length co] 24)) none := grown_alloc (grown_refl w9 none) _
        generalize w9.alloc (.cells #[.int .i64 o.kind, .int .i64 o.ty, .string o.txt, .int .i64 o.num, .slice po o.kids.length co] 24) = w10 at *
        have G10 := hid (grown_none G9.out go10)
        have VO : Hid (∀ V, w10.grownBy V none → KsV V (fun _ => True) (.slice po o.kids.length co) o.kids) := fun V hV => ((KO.out.kept go10).kept hV).mono (fun _ _ _ => trivial)
        have VX1 : Hid (∀ V, w10.grownBy V none → KsV V (fun _ => True) (.slice px x.kids.length cx) x.kids) := fun V hV => VX.out V (grown_none G10.out hV)
        have SS : Hid (∀ V, w10.grownBy V none → V.cell? ⟨w1.heap.size, 0, none⟩ = some (.int .i64 x.kind) ∧ V.cell? ⟨w1.heap.size, 1, none⟩ = some (.int .i64 x.ty) ∧ V.cell? ⟨w1.heap.size, 2, none⟩ = some (.string x.txt) ∧ V.cell? ⟨w1.heap.size, 3, none⟩ = some (.int .i64 x.num) ∧ V.cell? ⟨w1.heap.size, 4, none⟩ = some (.slice px x.kids.length cx) ∧ V.cell? ⟨w9.heap.size, 0, none⟩ = some (.int .i64 o.kind) ∧ V.cell? ⟨w9.heap.size, 1, none⟩ = some (.int .i64 o.ty) ∧ V.cell? ⟨w9.heap.size, 2, none⟩ = some (.string o.txt) ∧ V.cell? ⟨w9.heap.size, 3, none⟩ = some (.int .i64 o.num) ∧ V.cell? ⟨w9.heap.size, 4, none⟩ = some (.slice po o.kids.length co)) := fun V hV => by
          obtain ⟨a0, a1, a2, a3, a4⟩ := SX.out V (grown_none G10.out hV)
          exact ⟨a0, a1, a2, a3, a4, (BO.kept hV (by simp)).cell 0, (BO.kept hV (by simp)).cell 1, (BO.kept hV (by simp)).cell 2, (BO.kept hV (by simp)).cell 3, (BO.kept hV (by simp)).cell 4⟩
        obtain ⟨z, hz⟩ : ∃ z, Nd.repl o x i = z := ⟨_, rfl⟩
        have okz : z.ok := by rw [← hz]; exact Nd.repl_ok OO.out x i OX.out
        have C17 : Hid (∀ V, w10.grownBy V none → Calls Tryd.prog 17 #[.agg #[.int .i64 x.kind, .int .i64 x.ty, .string x.txt, .int .i64 x.num, .slice px x.kids.length cx], .int .i64 (i : Int), .agg #[.int .i64 o.kind, .int .i64 o.ty, .string o.txt, .int .i64 o.num, .slice po o.kids.length co]] V (backP V z)) := fun V hV => (replace_any _ _ x o OX.out OO.out (by have := NX.out; omega) _ _ (i : Int) V ⟨_, rfl, VX1.out V hV⟩ ⟨_, rfl, VO.out V hV⟩).mono (by
          rintro e w' ⟨y', q', rfl, hk', hg', hr'⟩
          have ey : y' = z := by
            rcases hr' with ⟨j, hj, ej, rfl⟩ | ⟨hj, rfl⟩
            · rw [← hz, show j = i by omega]
            · rw [← hz, Nd.repl_out _ _ _ (by
                by_cases h : i < y'.cnt
                · exact absurd rfl (hj i h)
                · omega)]
          subst ey
          exact ⟨q', rfl, hk', hg'⟩)
        have CRo : Hid (∀ V, w10.grownBy V none → Calls Tryd.prog 12 #[.agg #[.int .i64 o.kind, .int .i64 o.ty, .string o.txt, .int .i64 o.num, .slice po o.kids.length co]] V (refP V o)) := fun V hV => refany _ o OO.out _ V ⟨_, rfl, VO.out V hV⟩
        have CRx : Hid (∀ V, w10.grownBy V none → Calls Tryd.prog 12 #[.agg #[.int .i64 x.kind, .int .i64 x.ty, .string x.txt, .int .i64 x.num, .slice px x.kids.length cx]] V (refP V x)) := fun V hV => refany _ x OX.out _ V ⟨_, rfl, VX1.out V hV⟩
        have C18 : Hid (∀ V q q' P P', KsV V P q x.kids → KsV V P' q' o.kids → Calls Tryd.prog 18 #[.agg #[.int .i64 x.kind, .int .i64 x.ty, .string x.txt, .int .i64 x.num, q], .int .i64 (i : Int), .agg #[.int .i64 o.kind, .int .i64 o.ty, .string o.txt, .int .i64 o.num, q']] V (RrP V.heap.size V z)) := fun V q q' P P' h1 h2 => by
          rw [← hz]
          exact rrep_any V.heap.size o _ x OX.out (by have := NX.out; omega) i _ V (by have := HP.out.2; omega) (Nat.le_refl _) ⟨q, rfl, h1.mono (fun _ _ h => h)⟩ ⟨q', rfl, h2.mono (fun _ _ h => h)⟩
        have C16 : Hid (∀ V q P, KsV V P q z.kids → Calls Tryd.prog 16 #[.agg #[.int .i64 z.kind, .int .i64 z.ty, .string z.txt, .int .i64 z.num, q]] V (backP V z)) := fun V q P h1 => backany _ z okz _ V ⟨q, rfl, h1⟩
        have C8 : Hid (∀ V, w10.grownBy V none → Calls Tryd.prog 8 #[.agg #[.int .i64 x.kind, .int .i64 x.ty, .string x.txt, .int .i64 x.num, .slice px x.kids.length cx]] V (StrP V (mkS x.enc))) := fun V hV => encode_any _ x OX.out (by have := NX.out; omega) _ V ⟨_, rfl, VX1.out V hV⟩
        generalize mkS x.enc = TX at *
        have C15 : Hid (∀ V q q' P P', KsV V P q z.kids → KsV V P' q' z.kids → Calls Tryd.prog 15 #[.agg #[.int .i64 z.kind, .int .i64 z.ty, .string z.txt, .int .i64 z.num, q], .agg #[.int .i64 z.kind, .int .i64 z.ty, .string z.txt, .int .i64 z.num, q']] V (SameP V true)) := fun V q q' P P' h1 h2 => by
          have := sameF_any P P' z (Nd.ok_few okz) z (Nd.ok_few okz) _ _ V ⟨q, rfl, h1⟩ ⟨q', rfl, h2⟩
          rwa [(Nd.eqB_iff z z).2 rfl] at this
        have GF := hid (grown_none GB.out G10.out)
        obtain ⟨a0, a1, a2, a3, a4, b0, b1, b2, b3, b4⟩ := SS.out w10 (grown_refl _ _)
        clear BO KO go10 okz hz s0 s1 s2 s3 s4 OX OO NX SX SK VO HS HNN HNL G2 G3 G4 G5 G6 G7 G8 G9 G10 GB GC T4 T5 T6 T7 K2 R3 HC1 hw0 hw1 hl3 hl4 n0 n1 CR VX VX1 i2 j0 j1 j2 hge
        go_wp2_with (go_at_call 8; refine (C8.out _ (grown_refl _ _)).mono ?_; rintro e w11 ⟨rfl, hg11⟩; have G11 := hid hg11; clear hg11 a0 a1 a2 a3 a4 b0 b1 b2 b3 b4; obtain ⟨a0, a1, a2, a3, a4, b0, b1, b2, b3, b4⟩ := SS.out w11 G11.out)
        go_cut [6] (fun c6 W => c6 = .bool true ∧ w10.grownBy W none)
        case first =>
          have GD : w10.grownBy w11.drew none := grown_drew G11.out
          clear GF HP
          go_region_held3 (fun V => V.cell? ⟨w1.heap.size, 0, none⟩ = some (.int .i64 x.kind) ∧ V.cell? ⟨w1.heap.size, 1, none⟩ = some (.int .i64 x.ty) ∧ V.cell? ⟨w1.heap.size, 2, none⟩ = some (.string x.txt) ∧ V.cell? ⟨w1.heap.size, 3, none⟩ = some (.int .i64 x.num) ∧ V.cell? ⟨w1.heap.size, 4, none⟩ = some (.slice px x.kids.length cx) ∧ V.cell? ⟨w9.heap.size, 0, none⟩ = some (.int .i64 o.kind) ∧ V.cell? ⟨w9.heap.size, 1, none⟩ = some (.int .i64 o.ty) ∧ V.cell? ⟨w9.heap.size, 2, none⟩ = some (.string o.txt) ∧ V.cell? ⟨w9.heap.size, 3, none⟩ = some (.int .i64 o.num) ∧ V.cell? ⟨w9.heap.size, 4, none⟩ = some (.slice po o.kids.length co)) (first | assumption | go_keep) (first
            | (go_at_call 17; refine (C17.out _ (by assumption)).mono ?_; clear C17; rintro e u1 ⟨q1', rfl, hk1, hg1⟩; obtain ⟨p1, c1, e1, _⟩ := hk1.form; subst e1; have GN1 : w10.grownBy u1 none := grown_none (by assumption) hg1; have SN1 := SS.out u1 GN1; have K1 := hid hk1)
            | (go_at_call 12; refine calls_at (args := #[.agg #[.int .i64 x.kind, .int .i64 x.ty, .string x.txt, .int .i64 x.num, .slice px x.kids.length cx]]) rfl ?_; refine (CRx.out u1 GN1).mono ?_; clear CRx; rintro e u2 ⟨q2', rfl, hk2, hg2⟩; obtain ⟨p2, c2, e2, _⟩ := hk2.form; subst e2; have GN2 : w10.grownBy u2 none := grown_none GN1 hg2; have SN2 := SS.out u2 GN2; have K12 := hid (K1.out.kept hg2); have K2 := hid hk2)
            | (go_at_call 12; refine calls_at (args := #[.agg #[.int .i64 o.kind, .int .i64 o.ty, .string o.txt, .int .i64 o.num, .slice po o.kids.length co]]) rfl ?_; refine (CRo.out u2 GN2).mono ?_; clear CRo; rintro e u3 ⟨q3', rfl, hk3, hg3⟩; obtain ⟨p3, c3, e3, _⟩ := hk3.form; subst e3; have GN3 : w10.grownBy u3 none := grown_none GN2 hg3; have SN3 := SS.out u3 GN3; have K13 := hid (K12.out.kept hg3); have C18' := hid (C18.out u3 _ _ _ _ (K2.out.kept hg3) hk3); clear C18)
            | (go_at_call 18; refine C18'.out.mono ?_; clear C18'; rintro e u4 ⟨q4', rfl, hk4, hg4⟩; obtain ⟨p4, c4, e4, _⟩ := hk4.form; subst e4; have GN4 : w10.grownBy u4 none := grown_none GN3 hg4; have SN4 := SS.out u4 GN4; have K14 := hid (K13.out.kept hg4); have C16' := hid (C16.out u4 _ _ hk4); clear C16)
            | (go_at_call 16; refine C16'.out.mono ?_; clear C16'; rintro e u5 ⟨q5', rfl, hk5, hg5⟩; obtain ⟨p5, c5, e5, _⟩ := hk5.form; subst e5; have GN5 : w10.grownBy u5 none := grown_none GN4 hg5; have SN5 := SS.out u5 GN5; have C15' := hid (C15.out u5 _ _ _ _ (K14.out.kept hg5) hk5); clear C15)
            | (go_at_call 15; refine C15'.out.mono ?_; clear C15'; rintro e u6 ⟨rfl, hg6⟩; have GN6 : w10.grownBy u6 none := grown_none GN5 hg6; have SN6 := SS.out u6 GN6)
            | (go_at_call 8; refine (C8.out u6 GN6).mono ?_; clear C8; rintro e u7 ⟨rfl, hg7⟩; have GN7 : w10.grownBy u7 none := grown_none GN6 hg7; have SN7 := SS.out u7 GN7))
          all_goals (
            (try go_wp2_with fail)
            go_meet
            exact ⟨by simp, by assumption⟩)
        case rest =>
          obtain ⟨rfl, hgd⟩ := hcut
          go_wp2
          go_ret
          exact ⟨rfl, grown_none GF.out hgd⟩
end Go.Proofs.YtdodammplhlihaaDoor
