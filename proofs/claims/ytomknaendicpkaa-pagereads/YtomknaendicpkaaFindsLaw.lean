/-
  PageFinds: the law's own walk.
-/
import Derived.Test.YtomknaendicpkaaFindMath
import Derived.Test.YtomknaendicpkaaRchk
import Derived.Test.YtomknaendicpkaaClone
import Derived.Test.YtomknaendicpkaaAwake
namespace Go.Proofs.Ytomknaendicpkaa
open Go.RowKit
/-- The law's copy of a page, and the document's Check of it. -/
def RfP (w : World) (p : Pg) (e : Ending) (w' : World) : Prop := ∃ u, e = .returned u ∧ PgO w' w.heap.size u (cutP p) ∧ w.grownBy w' none
set_option maxRecDepth 100000 in
set_option maxHeartbeats 2000000 in
theorem finds_bad (v : Value) (p : Pg) (key : ByteArray) (w : World) (h : PgV w v p) (hf : p.fits) (hm : mayP p = false) : Calls Try.prog 5 #[v, .string key] w fun e w' => e = .returned (.bool true) ∧ w.grownBy w' none := by
  have CR : Hid (∀ W, w.grownBy W none → Calls Try.prog 9 #[v] W (RfP W p)) := fun W hW => ref_any v p W (h.kept hW) hf
  have CK : Hid (∀ W u, PgV W u (cutP p) → Calls Try.prog 8 #[u] W fun e w' => e = .returned (.int .i64 6) ∧ W.grownBy w' none) := fun W u hW => by
    have := rcheck_any u _ W hW (cut_fits p)
    rwa [chk_same, chk_six hm] at this
  obtain ⟨a, b, c, rfl, ha, hb, hc⟩ := h
  obtain ⟨pa, ca, ga, oa, rfl, -, -⟩ := ha
  obtain ⟨pb, cb, gb, ob, rfl, -, -⟩ := hb
  obtain ⟨pc, cc, gc, oc, rfl, -, -⟩ := hc
  generalize p.keys.length = n1 at *
  generalize p.vals.length = n2 at *
  generalize p.kids.length = n3 at *
  generalize p.leaf = l at *
  clear hm hf
  go_enter Try.func5, Try.ntmps5
  go_wp2_with (first
    | (go_at_call 9; refine (CR.out _ (grown_alloc (grown_refl _ _) _)).mono ?_; rintro e w1 ⟨u, rfl, hpg, hg⟩; have G1 : Hid (w.grownBy w1 none) := grown_none (grown_alloc (grown_refl _ _) _) hg; have O1 : Hid (PgV w1 u (cutP p)) := hpg.pgV; clear hpg hg CR)
    | (go_at_call 8; refine (CK.out _ _ O1.out).mono ?_; rintro e w2 ⟨rfl, hg⟩; have G2 : Hid (w.grownBy w2 none) := grown_none G1.out hg; clear hg CK G1)
    | (go_at_call 10; refine (awake_any _).mono ?_; rintro e w3 ⟨rfl, hg⟩; have G3 : Hid (w.grownBy w3 none) := grown_none G2.out hg; clear hg G2))
  go_ret
  exact ⟨rfl, G3.out⟩
theorem row_put {w : World} {base n : Nat} {v : Value} {l : List ByteArray} {s t : ByteArray} (h : w.ownsRow base 9 1 v n (strs (s :: l))) : ∃ g cap, v = .slice (some ⟨g, 0, none⟩) n cap ∧ base ≤ g ∧ v.ownBlock = some g ∧ w.cell? ⟨g, 0, none⟩ = some (.string s) ∧ w.frozen? ⟨g, 0, none⟩ = false ∧ (w.setCell ⟨g, 0, none⟩ (.string t)).ownsRow base 9 1 v n (strs (t :: l)) := by
  have h0 := h
  obtain ⟨h1, h2⟩ := h
  have hn : n = l.length + 1 := by simp [strs] at h1; omega
  rcases h2 with ⟨_, e⟩ | ⟨g, cap, cur, rfl, hb, hh, hcap, hmx, hsz, htk⟩
  · omega
  · have hB : Blk w g 9 cur := hh
    refine ⟨g, cap, rfl, hb, rfl, ?_, hB.frozen 0, ⟨by simp [strs]; omega, Or.inr ⟨g, cap, cur.setIfInBounds 0 (.string t), rfl, hb, hB.set 0 _, hcap, hmx, by simpa using hsz, ?_⟩⟩⟩
    · have := h0.cellAt 0 (by omega)
      rw [this]; rfl
    · have e1 : (cur.setIfInBounds 0 (.string t)).toList = cur.toList.set 0 (.string t) := by simp
      rw [e1, hn]
      rw [hn] at htk
      cases hc : cur.toList with
      | nil => rw [hc] at htk; simp [strs] at htk
      | cons x r =>
        rw [hc] at htk
        rw [Nat.mul_one] at htk ⊢
        rw [List.set_cons_zero, List.take_succ_cons]
        rw [List.take_succ_cons] at htk
        simp only [strs, List.map_cons, List.cons.injEq] at htk ⊢
        exact ⟨trivial, htk.2⟩
theorem app_ne (s : ByteArray) : s ++ ⟨#[120]⟩ ≠ s := fun e => by
  have := congrArg ByteArray.size e
  rw [ByteArray.size_append] at this
  have h1 : (⟨#[120]⟩ : ByteArray).size = 1 := rfl
  omega
set_option maxRecDepth 100000 in
set_option maxHeartbeats 4000000 in
theorem finds_ok (v : Value) (p : Pg) (key : ByteArray) (w : World) (h : PgV w v p) (hf : p.fits) (hm : mayP p = true) : Calls Try.prog 5 #[v, .string key] w fun e w' => e = .returned (.bool true) ∧ w.grownBy w' none := by
  obtain ⟨s1, s2, s3, s4, -, -⟩ := may_small hm
  have S4 := hid s4
  clear s4
  have CR : Hid (∀ W, w.grownBy W none → Calls Try.prog 9 #[v] W (RfP W p)) := fun W hW => ref_any v p W (h.kept hW) hf
  have CK : Hid (∀ W u, PgV W u (cutP p) → Calls Try.prog 8 #[u] W fun e w' => e = .returned (.int .i64 0) ∧ W.grownBy w' none) := fun W u hW => by
    have := rcheck_any u _ W hW (cut_fits p)
    rwa [chk_same, chk_zero hm] at this
  have CF : Hid (∀ W, w.grownBy W none → Calls Try.prog 16 #[v, .string key] W fun e w' => e = .returned (.tuple #[.int .i64 (findN p.keys key), .bool (findIs p.keys key)]) ∧ W.grownBy w' none) := fun W hW => find_any v p key W (h.kept hW) hf
  have CD : Hid (∀ W, w.grownBy W none → Calls Try.prog 18 #[v, .string key] W fun e w' => e = .returned (.int .i64 (findN p.keys key + if findIs p.keys key then 1 else 0)) ∧ W.grownBy w' none) := fun W hW => kid_any v p key W (h.kept hW) hf (by omega)
  have CC : Hid (∀ W, w.grownBy W none → Calls Try.prog 17 #[v] W (ClP W p)) := fun W hW => clone_pg v p W (h.kept hW) (by omega) (by omega) (by omega)
  have CS : Hid (∀ W u q, w.grownBy W none → PgV W u q → Calls Try.prog 14 #[v, u] W fun e w' => e = .returned (.bool (samePg p q)) ∧ W.grownBy w' none) := fun W u q hW hu => same_any v u p q W (h.kept hW) hu hf
  obtain ⟨t1, t2⟩ := cnt_find key p.keys _ (may_rise hm)
  obtain ⟨a, b, c, rfl, ha, hb, hc⟩ := h
  obtain ⟨pa, ca, ga, oa, rfl, pA, cA⟩ := ha
  obtain ⟨pb, cb, gb, ob, rfl, -, -⟩ := hb
  obtain ⟨pc, cc, gc, oc, rfl, -, -⟩ := hc
  have PP : Hid (∀ q : Pg, samePg p q = true ↔ p = q) := fun q => samePg_iff p q
  obtain ⟨lf, l, vs, kd⟩ := p
  simp only at *
  obtain ⟨n1, hn1⟩ : ∃ n, l.length = n := ⟨_, rfl⟩
  obtain ⟨n2, hn2⟩ : ∃ n, vs.length = n := ⟨_, rfl⟩
  obtain ⟨n3, hn3⟩ : ∃ n, kd.length = n := ⟨_, rfl⟩
  rw [hn1, hn2, hn3]
  rw [hn1, hn2, hn3] at CR CF CD CC CS
  have N1 := hid hn1
  have N2 := hid hn2
  have N3 := hid hn3
  have PA : Hid (0 < n1 → pa = some ⟨ga, oa, none⟩) := by rw [← hn1]; exact pA
  have H0 : Hid (∀ i, (h : i < l.length) → w.cell? ⟨ga, oa + i, none⟩ = some (.string l[i])) := cA
  have T1 := hid t1
  have T2 := hid t2
  have z1 : (n1 : Int) ≤ 8 := by omega
  clear pA cA t1 t2 hm hf
  obtain ⟨M, hM⟩ : ∃ M, findN l key = M := ⟨_, rfl⟩
  obtain ⟨X, hX⟩ : ∃ X, findIs l key = X := ⟨_, rfl⟩
  have hMl : M ≤ n1 := by rw [← hM, ← hn1]; exact findN_le l key
  rw [hM, hX] at CF CD
  rw [hM] at T1
  rw [hX] at T2
  clear hM hX hn1 hn2 hn3
  have m0 : (0 : Int) ≤ M := by omega
  have m8 : (M : Int) ≤ 8 := by omega
  go_enter Try.func5, Try.ntmps5
  go_wp2_with (first
    | (go_at_call 9; refine (CR.out _ (grown_alloc (grown_refl _ _) _)).mono ?_; rintro e w1 ⟨u, rfl, hpg, hg⟩; have G1 : Hid (w.grownBy w1 none) := grown_none (grown_alloc (grown_refl _ _) _) hg; have O1 : Hid (PgV w1 u (cutP ⟨lf, l, vs, kd⟩)) := hpg.pgV; have B1 : Hid (Blk w1 w.heap.size 25 #[.bool lf, .slice pa n1 ca, .slice pb n2 cb, .slice pc n3 cc]) := (Blk.new w 25 _).kept hg (by simp); clear hpg hg CR)
    | (go_at_call 8; refine (CK.out _ _ O1.out).mono ?_; rintro e w2 ⟨rfl, hg⟩; have G2 : Hid (w.grownBy w2 none) := grown_none G1.out hg; have B2 : Hid (Blk w2 w.heap.size 25 #[.bool lf, .slice pa n1 ca, .slice pb n2 cb, .slice pc n3 cc]) := B1.out.kept hg (by simp); have q0 := B2.out.cell 0; have q1 := B2.out.cell 1; have q2 := B2.out.cell 2; have q3 := B2.out.cell 3; simp at q0 q1 q2 q3; clear hg CK G1 B1 O1)
    | (go_at_call 16; refine (CF.out _ G2.out).mono ?_; rintro e w3 ⟨rfl, hg⟩; have G3 : Hid (w.grownBy w3 none) := grown_none G2.out hg; have B3 : Hid (Blk w3 w.heap.size 25 #[.bool lf, .slice pa n1 ca, .slice pb n2 cb, .slice pc n3 cc]) := B2.out.kept hg (by simp); clear hg CF G2 B2 q0 q1 q2 q3))
  go_loopw [7, 8, 9] (fun bl th i wr => ∃ k : Nat, k ≤ n1 ∧ i = .int .i64 k ∧ bl = .int .i64 ((l.take k).countP (blw key)) ∧ th = .bool ((l.take k).any (sam key)) ∧ Blk wr w.heap.size 25 #[.bool lf, .slice pa n1 ca, .slice pb n2 cb, .slice pc n3 cc] ∧ w.grownBy wr none) (fun _ _ i _ => n1 - (intOf i).toNat)
  case atStart => exact ⟨0, Nat.zero_le _, rfl, rfl, rfl, B3.out, G3.out⟩
  case round =>
    obtain ⟨k, hk, rfl, rfl, rfl, hb, hg⟩ := hrel
    have B := hid hb
    have G := hid hg
    clear hb hg B3 G3
    have q1 := B.out.cell 1
    simp at q1
    have k0 : (0 : Int) ≤ k := by omega
    by_cases hlt : k < n1
    · have hkl : k < l.length := by rw [N1.out]; exact hlt
      have hp := PA.out (by omega)
      subst hp
      have c0 := cell_kept G.out (H0.out k hkl)
      have k1 : (k : Int) < n1 := by omega
      have E1 := hid (take_cnt key hkl)
      have E2 := hid (take_any' key hkl)
      have hcp : (l.take k).countP (blw key) ≤ 8 := by
        have := List.countP_le_length (p := blw key) (l := l.take k)
        rw [List.length_take] at this
        omega
      have bD : blw key l[k] = Op.bytesLess l[k].toList key.toList := rfl
      have sD : sam key l[k] = (l[k].toList == key.toList) := rfl
      clear H0 PA CD CC CS
      obtain ⟨cn, hcn⟩ : ∃ n, (l.take k).countP (blw key) = n := ⟨_, rfl⟩
      obtain ⟨an, han⟩ : ∃ n, (l.take k).any (sam key) = n := ⟨_, rfl⟩
      rw [hcn] at hcp ⊢
      rw [hcn] at E1
      rw [han] at E2 ⊢
      rw [bD] at E1
      rw [sD] at E2
      clear hcn han bD sD
      have c80 : (cn : Int) ≤ 8 := by omega
      have c81 : (0 : Int) ≤ cn := by omega
      generalize l[k] = s at *
      by_cases hx : Op.bytesLess s.toList key.toList = true
      · have e1 := E1.out
        rw [hx, if_pos rfl] at e1
        have E3 := hid e1
        clear e1 E1
        cases an
        all_goals
          go_wp2
          go_round
          case rel =>
            refine ⟨k + 1, by omega, by go_num, ?_, ?_, B.out, G.out⟩
            · rw [E3.out]; go_num
            · rw [E2.out]; simp
          case measure => simp [intOf]; omega
      · have hx' : Op.bytesLess s.toList key.toList = false := by simpa using hx
        have e1 := E1.out
        rw [hx', if_neg (by simp)] at e1
        have E3 := hid e1
        clear e1 E1 hx
        cases an
        all_goals
          go_wp2
          go_round
          case rel =>
            refine ⟨k + 1, by omega, by go_num, ?_, ?_, B.out, G.out⟩
            · rw [E3.out]; go_num
            · rw [E2.out]; simp
          case measure => simp [intOf]; omega
    · obtain rfl : n1 = k := by omega
      have eT : l.take n1 = l := by rw [← N1.out, List.take_length]
      rw [eT, T1.out, T2.out]
      clear T1 T2 eT H0 PA
      have q0 := B.out.cell 0
      have q2 := B.out.cell 2
      have q3 := B.out.cell 3
      simp at q0 q2 q3
      by_cases hz : 0 < n1
      · obtain ⟨s, r, hl⟩ : ∃ s r, l = s :: r := by
          cases l with
          | nil => have := N1.out; simp at this; omega
          | cons s r => exact ⟨s, r, rfl⟩
        have hs64 : s.size ≤ 64 := S4.out s (by show s ∈ l; rw [hl]; exact List.mem_cons_self)
        have HL := hid hl
        clear hl
        cases X
        all_goals
          go_wp2_with (first
            | (go_at_call 17; refine (CC.out _ G.out).mono ?_; rintro e w5 ⟨a5, b5, c5, rfl, o1, o2, o3, hg, hd⟩; have G5 : Hid (w.grownBy w5 none) := grown_none G.out hg; have B5 : Hid (Blk w5 w.heap.size 25 #[.bool lf, .slice pa n1 ca, .slice pb n2 cb, .slice pc n3 cc]) := B.out.kept hg (by simp); have hw5 : w.heap.size < w5.heap.size := B5.out.lt; rw [N1.out] at o1; rw [N2.out] at o2; rw [N3.out] at o3; obtain ⟨qa, da, rfl⟩ := owns_slice o1; obtain ⟨qb, db, rfl⟩ := owns_slice o2; obtain ⟨qc, dc, rfl⟩ := owns_slice o3; have GL : Hid (∀ g, (Value.slice qa n1 da).ownBlock = some g → g < w5.heap.size) := (fun g hg => (o1.lt g hg).2); have GB : Hid (w.heap.size < wr.heap.size) := B.out.lt; have O1 := hid o1; have O2 := hid o2; have O3 := hid o3; have HD := hid hd; clear hg hd o1 o2 o3 CC q0 q1 q2 q3 B G)
            | (go_at_call 10; refine (awake_any _).mono ?_; rintro e w7 ⟨rfl, hg⟩; have G7 : Hid (w.grownBy w7 none) := grown_none (grown_alloc G5.out _) hg; have B7 : Hid (Blk w7 w.heap.size 25 #[.bool lf, .slice pa n1 ca, .slice pb n2 cb, .slice pc n3 cc]) := (B5.out.alloc _).kept hg (by simp); have C7 : Hid (Blk w7 w5.heap.size 25 #[.bool lf, .slice qa n1 da, .slice qb n2 db, .slice qc n3 dc]) := (Blk.new w5 25 _).kept hg (by simp); have P1 := hid (owns_keptN (O1.out.alloc (.cells #[.bool lf, .slice qa n1 da, .slice qb n2 db, .slice qc n3 dc] 25)) hg); have P2 := hid (owns_keptN (O2.out.alloc (.cells #[.bool lf, .slice qa n1 da, .slice qb n2 db, .slice qc n3 dc] 25)) hg); have P3 := hid (owns_keptN (O3.out.alloc (.cells #[.bool lf, .slice qa n1 da, .slice qb n2 db, .slice qc n3 dc] 25)) hg); have q0 := B7.out.cell 0; have q1 := B7.out.cell 1; have q2 := B7.out.cell 2; have q3 := B7.out.cell 3; simp at q0 q1 q2 q3; clear hg G5 B5 O1 O2 O3)
            | (go_at_call 18; refine (CD.out _ G7.out).mono ?_; rintro e w8 ⟨rfl, hg⟩; have G8 : Hid (w.grownBy w8 none) := grown_none G7.out hg; have B8 : Hid (Blk w8 w.heap.size 25 #[.bool lf, .slice pa n1 ca, .slice pb n2 cb, .slice pc n3 cc]) := B7.out.kept hg (by simp); have C8 : Hid (Blk w8 w5.heap.size 25 #[.bool lf, .slice qa n1 da, .slice qb n2 db, .slice qc n3 dc]) := C7.out.kept hg (by simp); have Q1 := hid (owns_keptN P1.out hg); have Q2 := hid (owns_keptN P2.out hg); have Q3 := hid (owns_keptN P3.out hg); clear q0 q1 q2 q3; have q0 := B8.out.cell 0; have q1 := B8.out.cell 1; have q2 := B8.out.cell 2; have q3 := B8.out.cell 3; have r0 := C8.out.cell 0; have r1 := C8.out.cell 1; have r2 := C8.out.cell 2; have r3 := C8.out.cell 3; simp at q0 q1 q2 q3 r0 r1 r2 r3; clear hg G7 B7 C7 P1 P2 P3 CD)
            | (go_at_call 14; refine (CS.out _ _ ⟨lf, l, vs, kd⟩ G8.out ⟨_, _, _, rfl, RowV.owns (by rw [N1.out]; exact Q1.out), RowV.owns (by rw [N2.out]; exact Q2.out), RowV.owns (by rw [N3.out]; exact Q3.out)⟩).mono ?_; rintro e w9 ⟨rfl, hg⟩; have sp : samePg ⟨lf, l, vs, kd⟩ ⟨lf, l, vs, kd⟩ = true := (samePg_iff _ _).mpr rfl; rw [sp]; clear sp; have G9 : Hid (w.grownBy w9 none) := grown_none G8.out hg; have B9 : Hid (Blk w9 w.heap.size 25 #[.bool lf, .slice pa n1 ca, .slice pb n2 cb, .slice pc n3 cc]) := B8.out.kept hg (by simp); have C9 : Hid (Blk w9 w5.heap.size 25 #[.bool lf, .slice qa n1 da, .slice qb n2 db, .slice qc n3 dc]) := C8.out.kept hg (by simp); have R1 := hid (owns_keptN Q1.out hg); have R2 := hid (owns_keptN Q2.out hg); have R3 := hid (owns_keptN Q3.out hg); clear q0 q1 q2 q3 r0 r1 r2 r3; have r1 := C9.out.cell 1; simp at r1; obtain ⟨g, cap, hsl, hbg, hob, hcg, hfg, hput⟩ := row_put (t := s ++ ⟨#[120]⟩) (by rw [← HL.out]; exact R1.out); injection hsl with hs1 hs2 hs3; subst hs1; subst hs3; have PUT := hid hput; have hgd := HD.out g hob; have gw5 : g < w5.heap.size := GL.out g hob; have gw : w.heap.size < g := (by have := GB.out; omega); clear hput hob; have X9 := hid (B9.out.other (a := ⟨g, 0, none⟩) (.string (s ++ ⟨#[120]⟩)) (by show w.heap.size ≠ g; omega)); have Y9 := hid (C9.out.other (a := ⟨g, 0, none⟩) (.string (s ++ ⟨#[120]⟩)) (by show w5.heap.size ≠ g; omega)); have x0 := X9.out.cell 0; have x1 := X9.out.cell 1; have x2 := X9.out.cell 2; have x3 := X9.out.cell 3; have y0 := Y9.out.cell 0; have y1 := Y9.out.cell 1; have y2 := Y9.out.cell 2; have y3 := Y9.out.cell 3; simp only [List.getElem?_toArray, List.getElem?_cons_zero, List.getElem?_cons_succ] at x0 x1 x2 x3 y0 y1 y2 y3; clear hg G8 B8 C8 Q1 Q2 Q3))
          refine (CS.out _ _ ⟨lf, (s ++ ⟨#[120]⟩) :: r, vs, kd⟩ (grown_set_new G9.out (a := ⟨g, 0, none⟩) _ (by show w.heap.size ≤ g; omega)) ⟨_, _, _, rfl, RowV.owns (by rw [show ((s ++ ⟨#[120]⟩) :: r).length = n1 by rw [← N1.out, HL.out]; rfl]; exact PUT.out), RowV.owns (by rw [N2.out]; exact ownsRow_setCell_other R2.out (a := ⟨g, 0, none⟩) hgd.1 _), RowV.owns (by rw [N3.out]; exact ownsRow_setCell_other R3.out (a := ⟨g, 0, none⟩) hgd.2 _)⟩).mono ?_
          rintro e w11 ⟨rfl, hg⟩
          have sp : samePg ⟨lf, l, vs, kd⟩ ⟨lf, (s ++ ⟨#[120]⟩) :: r, vs, kd⟩ = false := by
            cases e : samePg ⟨lf, l, vs, kd⟩ ⟨lf, (s ++ ⟨#[120]⟩) :: r, vs, kd⟩ with
            | false => rfl
            | true =>
              have e2 := (samePg_iff _ _).mp e
              rw [HL.out] at e2
              simp at e2
              exact absurd e2.symm (app_ne s)
          rw [sp]
          clear sp
          have G11 : Hid (w.grownBy w11 none) := grown_none (grown_set_new G9.out (a := ⟨g, 0, none⟩) _ (by show w.heap.size ≤ g; omega)) hg
          clear hg
          go_wp2
          go_ret
          exact ⟨rfl, G11.out⟩
      · have hzd : decide (0 < n1) = false := decide_eq_false hz
        cases X
        all_goals
          go_wp2_with (first
            | (go_at_call 17; refine (CC.out _ G.out).mono ?_; rintro e w5 ⟨a5, b5, c5, rfl, o1, o2, o3, hg, hd⟩; have G5 : Hid (w.grownBy w5 none) := grown_none G.out hg; have B5 : Hid (Blk w5 w.heap.size 25 #[.bool lf, .slice pa n1 ca, .slice pb n2 cb, .slice pc n3 cc]) := B.out.kept hg (by simp); have hw5 : w.heap.size < w5.heap.size := B5.out.lt; rw [N1.out] at o1; rw [N2.out] at o2; rw [N3.out] at o3; obtain ⟨qa, da, rfl⟩ := owns_slice o1; obtain ⟨qb, db, rfl⟩ := owns_slice o2; obtain ⟨qc, dc, rfl⟩ := owns_slice o3; have O1 := hid o1; have O2 := hid o2; have O3 := hid o3; have HD := hid hd; clear hg hd o1 o2 o3 CC q0 q1 q2 q3 B G)
            | (go_at_call 10; refine (awake_any _).mono ?_; rintro e w7 ⟨rfl, hg⟩; have G7 : Hid (w.grownBy w7 none) := grown_none (grown_alloc G5.out _) hg; have B7 : Hid (Blk w7 w.heap.size 25 #[.bool lf, .slice pa n1 ca, .slice pb n2 cb, .slice pc n3 cc]) := (B5.out.alloc _).kept hg (by simp); have C7 : Hid (Blk w7 w5.heap.size 25 #[.bool lf, .slice qa n1 da, .slice qb n2 db, .slice qc n3 dc]) := (Blk.new w5 25 _).kept hg (by simp); have P1 := hid (owns_keptN (O1.out.alloc (.cells #[.bool lf, .slice qa n1 da, .slice qb n2 db, .slice qc n3 dc] 25)) hg); have P2 := hid (owns_keptN (O2.out.alloc (.cells #[.bool lf, .slice qa n1 da, .slice qb n2 db, .slice qc n3 dc] 25)) hg); have P3 := hid (owns_keptN (O3.out.alloc (.cells #[.bool lf, .slice qa n1 da, .slice qb n2 db, .slice qc n3 dc] 25)) hg); have q0 := B7.out.cell 0; have q1 := B7.out.cell 1; have q2 := B7.out.cell 2; have q3 := B7.out.cell 3; simp at q0 q1 q2 q3; clear hg G5 B5 O1 O2 O3)
            | (go_at_call 18; refine (CD.out _ G7.out).mono ?_; rintro e w8 ⟨rfl, hg⟩; have G8 : Hid (w.grownBy w8 none) := grown_none G7.out hg; have B8 : Hid (Blk w8 w.heap.size 25 #[.bool lf, .slice pa n1 ca, .slice pb n2 cb, .slice pc n3 cc]) := B7.out.kept hg (by simp); have C8 : Hid (Blk w8 w5.heap.size 25 #[.bool lf, .slice qa n1 da, .slice qb n2 db, .slice qc n3 dc]) := C7.out.kept hg (by simp); have Q1 := hid (owns_keptN P1.out hg); have Q2 := hid (owns_keptN P2.out hg); have Q3 := hid (owns_keptN P3.out hg); clear q0 q1 q2 q3; have q0 := B8.out.cell 0; have q1 := B8.out.cell 1; have q2 := B8.out.cell 2; have q3 := B8.out.cell 3; have r0 := C8.out.cell 0; have r1 := C8.out.cell 1; have r2 := C8.out.cell 2; have r3 := C8.out.cell 3; simp at q0 q1 q2 q3 r0 r1 r2 r3; clear hg G7 B7 C7 P1 P2 P3 CD)
            | (go_at_call 14; refine (CS.out _ _ ⟨lf, l, vs, kd⟩ G8.out ⟨_, _, _, rfl, RowV.owns (by rw [N1.out]; exact Q1.out), RowV.owns (by rw [N2.out]; exact Q2.out), RowV.owns (by rw [N3.out]; exact Q3.out)⟩).mono ?_; rintro e w9 ⟨rfl, hg⟩; have sp : samePg ⟨lf, l, vs, kd⟩ ⟨lf, l, vs, kd⟩ = true := (samePg_iff _ _).mpr rfl; rw [sp]; clear sp; have G9 : Hid (w.grownBy w9 none) := grown_none G8.out hg; have B9 : Hid (Blk w9 w.heap.size 25 #[.bool lf, .slice pa n1 ca, .slice pb n2 cb, .slice pc n3 cc]) := B8.out.kept hg (by simp); have C9 : Hid (Blk w9 w5.heap.size 25 #[.bool lf, .slice qa n1 da, .slice qb n2 db, .slice qc n3 dc]) := C8.out.kept hg (by simp); have R1 := hid (owns_keptN Q1.out hg); have R2 := hid (owns_keptN Q2.out hg); have R3 := hid (owns_keptN Q3.out hg); clear q0 q1 q2 q3 r0 r1 r2 r3; have r1 := C9.out.cell 1; simp at r1; clear hg G8 B8 C8 Q1 Q2 Q3))
          go_ret
          exact ⟨rfl, G9.out⟩
end Go.Proofs.Ytomknaendicpkaa
