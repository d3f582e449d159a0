/-
  walk: a page with kids.
-/
import Derived.Deep.CutBlock
import Derived.Test.YtbhmmcelndmijaaGreatKWk
import Derived.Test.YtbhmmcelndmijaaGreatKSg
import Derived.Test.YtbhmmcelndmijaaGreatGt
import Derived.Test.YtbhmmcelndmijaaGreatKPn
import Derived.Test.YtbhmmcelndmijaaGreatSl2
namespace Go.Proofs.YtbhmmcelndmijaaGreat
open Go.RowKit Go.Maps Go.Shelf
attribute [local go_sem] Oper.semAt_some
theorem kf_of {B : Nat} {W V : World} (h : W.grownBy V none) : Kf B W V := ⟨h.size, fun i _ hi => h.block i hi (by simp)⟩
theorem rowV_kept {α : Type} {enc : α → Value} {w V : World} {base : Nat} {t : TypeId} {v : Value} {l : List α} (h : w.ownsRow base t 1 v l.length (l.map enc)) (hV : ∀ g, base ≤ g → g < w.heap.size → V.heap[g]? = w.heap[g]?) : Pa.RowV enc V v l := by
  have h' := h
  rcases h'.2 with ⟨rfl, e⟩ | ⟨g, cap, cur, rfl, hb, hh, _⟩
  · have e' : l = [] := List.eq_nil_of_length_eq_zero (by omega)
    subst e'
    exact Pa.RowV.nil enc V
  · refine ⟨_, cap, g, 0, rfl, fun _ => rfl, fun i hi => ?_⟩
    have hc := h.cellAt i (by omega)
    have hlt := (h.lt g rfl)
    rw [World.cell?_of_block (hV g hlt.1 hlt.2), Nat.zero_add, hc, List.getElem?_map, List.getElem?_eq_getElem hi]
    rfl
theorem pgV_kept {w V : World} {base : Nat} {v : Value} {p : Pa.Pg} (h : Pa.PgO w base v p) (hV : ∀ g, base ≤ g → g < w.heap.size → V.heap[g]? = w.heap[g]?) : Pa.PgV V v p := by
  obtain ⟨a, b, c, rfl, _, h1, h2, h3⟩ := h
  exact ⟨a, b, c, rfl, rowV_kept h1 hV, rowV_kept h2 hV, rowV_kept h3 hV⟩
set_option maxRecDepth 100000 in
set_option maxHeartbeats 8000000 in
theorem walk_node (l n B : Nat) (P : Nat → Prop) (J : Nat → World → Prop) (hJ : ∀ k A A', J k A → Stay B A A' → J k A')
    (b K0 : Nat) (at_ : Int) (lo hi fr : ByteArray) (p : Pa.Pg) (off : Nat → Nat) (W : World) (hB : B ≤ W.heap.size) (hPB : ∀ i, P i → i < B) (hlf : p.leaf = false) (hk0 : 0 < p.keys.length) (hn1 : p.keys.length ≤ 1000) (hkl : p.kids.length = p.keys.length + 1) (hfit : p.fits) (hK0 : (Pa.findN p.keys fr + if Pa.findIs p.keys fr then 1 else 0) = K0) (hK1 : K0 ≤ p.keys.length)
    (h42 : ∀ V, W.grownBy V none → Calls Tryz.prog 42 #[.pointer (some ⟨b, 0, none⟩), .int .i64 at_, .agg #[.string lo, .string hi]] V (Pa.DecPost V p 0))
    (h45 : ∀ m (i : Nat) x W1, K0 ≤ i → p.kids[i]? = some x → KQ P W W1 → W.heap.size ≤ W1.heap.size → J (off i) W1 → CallsIn Fence.wide m Tryz.prog 45 #[.pointer (some ⟨b, 0, none⟩), .int .i64 x, .agg #[.string (loK lo p.keys i), .string (hiK hi p.keys i)], .string fr, .func (.yield l) #[] #[]] W1 (WkP P B J (off (i + 1)) W1)) (h0 : J (off K0) W) :
    CallsIn Fence.wide n Tryz.prog 45 #[.pointer (some ⟨b, 0, none⟩), .int .i64 at_, .agg #[.string lo, .string hi], .string fr, .func (.yield l) #[] #[]] W (WkP P B J (off p.kids.length) W) := by
  have C42 := hid h42
  have C40 : Hid (∀ V v, Pa.PgV V v p → Calls Tryz.prog 40 #[v, .string fr] V fun e w' => e = .returned (.int .i64 K0) ∧ V.grownBy w' none) := fun V v hv => by
    have := Pa.kid_any v p fr V hv hfit hn1
    have e : ((Pa.findN p.keys fr : Int) + if Pa.findIs p.keys fr = true then 1 else 0) = (K0 : Int) := by rw [← hK0]; split <;> simp
    rw [e] at this
    exact this
  have C41 : Hid (∀ V v i, i ≤ p.keys.length → Pa.PgV V v p → Calls Tryz.prog 41 #[.agg #[.string lo, .string hi], v, .int .i64 (i : Nat)] V fun e w' => e = .returned (.agg #[.string (loK lo p.keys i), .string (hiK hi p.keys i)]) ∧ V.grownBy w' none) := fun V v i hii hv => below_any lo hi p v i V hv hii (by omega)
  have C45 := hid h45
  have HJ := hid hJ
  have H0 := hid h0
  have HPB := hid hPB
  have HKL := hid (And.intro hkl trivial)
  clear h42 h45 hJ h0 hfit hPB hK0 hkl
  obtain ⟨Q0, hQ0⟩ : ∃ Q, Q = WkP P B J (off p.kids.length) W := ⟨_, rfl⟩
  rw [← hQ0]
  have HQ := hid (And.intro hQ0 trivial)
  clear hQ0
  refine callsIn_of_wp Tryz.func45 rfl trivial ?_ rfl
  simp only [Tryz.ntmps45, List.size_toArray, List.length_cons, List.length_nil, Nat.reduceAdd, Nat.reduceSub, Array.replicate_succ, Array.replicate_zero, List.push_toArray, List.append_toArray, List.nil_append, List.cons_append]
  refine wpIn_wide.2 ?_
  go_upto_region 2 with (first
    | (go_at_call 42; refine (C42.out _ (grown_alloc (grown_refl W none) _)).mono ?_; rintro e w2 ⟨u, rfl, o2, g2⟩; have O2 := hid o2; have G2 := hid (grown_none (grown_alloc (grown_refl W none) _) g2); have S2 := hid ((Blk.new W 76 #[.string lo, .string hi]).kept g2 (by simp)); obtain ⟨p1, k1, p2, k2, p3, k3, rfl⟩ := PgO.form o2; clear o2 g2 C42))
  obtain ⟨g3, rfl, u3, v3, x3⟩ := kid_blk O2.out (by have := HKL.out.1; omega)
  rw [World.size_alloc] at u3
  have X3 := hid x3
  have V2 := hid (O2.out.pgV.kept (grown_alloc (grown_refl w2 none) (.cells #[.bool p.leaf, .slice p1 p.keys.length k1, .slice p2 p.vals.length k2, .slice (some ⟨g3, 0, none⟩) p.kids.length k3] 70)))
  have BX := hid (Blk.new w2 70 #[.bool p.leaf, .slice p1 p.keys.length k1, .slice p2 p.vals.length k2, .slice (some ⟨g3, 0, none⟩) p.kids.length k3])
  have G3 := hid (grown_alloc (grown_refl w2 none) (.cells #[.bool p.leaf, .slice p1 p.keys.length k1, .slice p2 p.vals.length k2, .slice (some ⟨g3, 0, none⟩) p.kids.length k3] 70))
  have hs2 := G2.out.size
  have hsl := S2.out.lt
  have O2L := O2
  rw [World.size_alloc] at O2L
  clear O2
  rw [hlf] at *
  generalize w2.alloc (.cells #[.bool false, .slice p1 p.keys.length k1, .slice p2 p.vals.length k2, .slice (some ⟨g3, 0, none⟩) p.kids.length k3] 70) = w3 at *
  have hb2 := BX.out.lt
  generalize hbx : w2.heap.size = bx at *
  have c0 := BX.out.cell 0
  have c1 := BX.out.cell 1
  have c2 := BX.out.cell 2
  have c3 := BX.out.cell 3
  simp at c0 c1 c2 c3
  clear x3
  go_upto_region 12 with fail
  have C40w := hid (C40.out w3 _ V2.out)
  clear C40
  go_wp2_with (first
    | (go_at_call 40; refine C40w.out.mono ?_; rintro e w4 ⟨rfl, g4⟩; have G4 := hid g4; have B4 := hid (BX.out.kept g4 (by simp)); clear g4 C40w))
  have SS : Hid (∀ V, Kf B w4 V → V.cell? ⟨bx, 0, none⟩ = some (.bool false) ∧ V.cell? ⟨bx, 1, none⟩ = some (.slice p1 p.keys.length k1) ∧ V.cell? ⟨bx, 2, none⟩ = some (.slice p2 p.vals.length k2) ∧ V.cell? ⟨bx, 3, none⟩ = some (.slice (some ⟨g3, 0, none⟩) p.kids.length k3) ∧ V.cell? ⟨W.heap.size, 0, none⟩ = some (.string lo) ∧ V.cell? ⟨W.heap.size, 1, none⟩ = some (.string hi) ∧ ∀ i x, p.kids[i]? = some x → V.cell? ⟨g3, i, none⟩ = some (.int .i64 x)) := fun V hV => by
    have s4 := G4.out.size
    have b4 : Blk V bx 70 _ := (hV.same bx (by omega) B4.out.lt).trans B4.out
    have d0 := b4.cell 0
    have d1 := b4.cell 1
    have d2 := b4.cell 2
    have d3 := b4.cell 3
    simp at d0 d1 d2 d3
    have e3 : V.heap[g3]? = w2.heap[g3]? := (hV.same g3 (by omega) (by omega)).trans ((G4.out.block g3 (by omega) (by simp)).trans (G3.out.block g3 (by omega) (by simp)))
    have s5 : Blk V W.heap.size 76 _ := (hV.same W.heap.size hB (by omega)).trans ((G4.out.block W.heap.size (by omega) (by simp)).trans ((G3.out.block W.heap.size (by omega) (by simp)).trans S2.out))
    have d4 := s5.cell 0
    have d5 := s5.cell 1
    simp at d4 d5
    exact ⟨d0, d1, d2, d3, d4, d5, X3.out V e3⟩
  have PV : Hid (∀ V, Kf B w4 V → Pa.PgV V (.agg #[.bool false, .slice p1 p.keys.length k1, .slice p2 p.vals.length k2, .slice (some ⟨g3, 0, none⟩) p.kids.length k3]) p) := fun V hV => by
    have s4 := G4.out.size
    have e := pgV_kept O2L.out (V := V) (fun q q1 q2 => (hV.same q (by omega) (by omega)).trans ((G4.out.block q (by omega) (by simp)).trans (G3.out.block q (by omega) (by simp))))
    exact e
  have GA : Hid (W.grownBy w4 none) := grown_none (grown_none G2.out G3.out) G4.out
  have J4 : Hid (J (off K0) w4) := HJ.out _ W w4 H0.out (Stay.grown GA.out)
  have Q4 : Hid (KQ P W w4) := fun i hi => GA.out.block i (by have := HPB.out i hi; omega) (by simp)
  have F4 : Hid (Kf B W w4) := ⟨GA.out.size, fun i _ hi => GA.out.block i hi (by simp)⟩
  generalize hM : p.kids.length = M at *
  have HM := hid (And.intro hM trivial)
  clear hM B4 G4 G3 G2 BX V2 X3 c0 c1 c2 c3 H0 hs2 hb2 u3 v3 hbx O2L S2 hsl
  have hdd : ∀ k : Nat, (Fence.wide.depth.isSome = true → 1 ≤ k) := fun k h => by cases h
  have MX : Tryz.prog.follows .mixedOrders = true := by kernel_rfl
  go_loopg [16] (M - K0) (fun gk s16 wr => ∃ i : Nat, s16 = .int .i64 i ∧ i + gk = M ∧ K0 ≤ i ∧ J (off i) wr ∧ KQ P W wr ∧ Kf B w4 wr)
  case atStart => exact ⟨K0, rfl, by have := HKL.out.1; omega, Nat.le_refl _, J4.out, Q4.out, ⟨Nat.le_refl _, fun _ _ _ => rfl⟩⟩
  case round =>
    obtain ⟨i, rfl, hii, hFi, hj, hq, hf⟩ := hrel
    have JR := hid hj
    have QR := hid hq
    have FR := hid hf
    obtain ⟨y0, y1, y2, y3, y4, y5, y6⟩ := SS.out wr hf
    clear hj hq hf
    cases gk with
    | zero =>
      obtain rfl : i = M := by omega
      clear y6
      go_wp2_with fail
      rw [HQ.out.1]
      exact ⟨rfl, JR.out, QR.out, F4.out.trans FR.out⟩
    | succ gk =>
      have hil := HKL.out.1
      obtain ⟨kd, hkd⟩ : ∃ x, p.kids[i]? = some x := ⟨_, List.getElem?_eq_getElem (by have := HM.out.1; omega)⟩
      have z1 := y6 i kd hkd
      have i0 : (0 : Int) ≤ (i : Int) := by omega
      have i1 : (i : Int) < M := by omega
      have i2 : (i : Int).toNat = i := by omega
      have wi : IntKind.i64.wrap ((i : Int) + 1) = (i : Int) + 1 := by rw [IntKind.wrap_i64]; omega
      have hBw : B ≤ wr.heap.size := by have := FR.out.size; have := F4.out.size; omega
      have D41 := hid (C41.out wr.drew _ i (by omega) (PV.out wr.drew ⟨FR.out.size, FR.out.same⟩))
      have D45 : Hid (∀ V, wr.drew.grownBy V none → CallsIn Fence.wide (n - 1) Tryz.prog 45 #[.pointer (some ⟨b, 0, none⟩), .int .i64 kd, .agg #[.string (loK lo p.keys i), .string (hiK hi p.keys i)], .string fr, .func (.yield l) #[] #[]] V (WkP P B J (off (i + 1)) V)) := fun V hV => C45.out _ i kd V hFi hkd (QR.out.trans (fun j hj => hV.block j (by have := HPB.out j hj; have := FR.out.size; have := F4.out.size; show j < wr.heap.size; omega) (by simp))) (by have := FR.out.size; have := F4.out.size; have := hV.size; have h9 : wr.drew.heap.size = wr.heap.size := rfl; omega) (HJ.out _ _ _ JR.out ((stay_drew _ _).trans (Stay.grown hV)))
      have SK : Hid (∀ V, wr.drew.grownBy V none → V.cell? ⟨bx, 0, none⟩ = some (.bool false) ∧ V.cell? ⟨bx, 1, none⟩ = some (.slice p1 p.keys.length k1) ∧ V.cell? ⟨bx, 2, none⟩ = some (.slice p2 p.vals.length k2) ∧ V.cell? ⟨bx, 3, none⟩ = some (.slice (some ⟨g3, 0, none⟩) M k3) ∧ V.cell? ⟨g3, i, none⟩ = some (.int .i64 kd)) := fun V hV => by
        obtain ⟨q0, q1, q2, q3, _, _, q6⟩ := SS.out V (FR.out.trans ⟨hV.size, fun j _ hj => hV.block j hj (by simp)⟩)
        exact ⟨q0, q1, q2, q3, q6 i kd hkd⟩
      clear y6 hkd C41 C45 PV SS hil
      generalize loK lo p.keys i = lo2 at *
      generalize hiK hi p.keys i = hi2 at *
      go_upto_region 15 with fail
      refine (wpIn_wide (n := n)).1 ?_
      gi_cut [78] from 100 (fun c78 Y => c78 = .bool false ∧ J (off (i + 1)) Y ∧ KQ P wr Y ∧ Kf B wr Y)
      case first =>
        clear JR QR FR HQ HJ F4 Q4 J4 GA HM HKL
        gi_region_with_o (first
          | (refine ⟨trivial, hdd _, ?_⟩; gi_at_call 41; refine (callsIn_wide.2 D41.out).mono ?_; rintro e w6 ⟨rfl, g6⟩; have D45w := hid (D45.out w6 g6); obtain ⟨t0, t1, t2, t3, t4⟩ := SK.out w6 g6; have G6 := hid g6; clear g6 D41)
          | (refine ⟨trivial, hdd _, ?_⟩; gi_at_call 45; refine D45w.out.mono ?_; rintro e w7 ⟨rfl, j7, q7, f7⟩))
        all_goals (
          (try gi_wp2_with fail)
          gi_meet
          exact ⟨rfl, j7, KQ.trans (fun j hj => G6.out.block j (by have := HPB.out j hj; show j < wr.heap.size; omega) (by simp)) q7, Kf.trans ⟨G6.out.size, fun j _ hj => G6.out.block j hj (by simp)⟩ f7⟩)
      case rest =>
        obtain ⟨rfl, j7, q7, f7⟩ := hcut
        have J7 := hid j7
        have Q7 := hid q7
        have F7 := hid f7
        clear j7 q7 f7
        gi_wp2_with fail
        go_wp2_with fail
        go_roundg gk
        case measure => omega
        case rel => exact ⟨i + 1, by simp, by omega, by omega, J7.out, QR.out.trans Q7.out, FR.out.trans F7.out⟩
end Go.Proofs.YtbhmmcelndmijaaGreat
/-
  walk, of a tree that is laid.
-/
namespace Go.Proofs.YtbhmmcelndmijaaGreat
open Go.RowKit Go.Maps Go.Shelf
theorem from_drop (k : ByteArray) : ∀ l : List (ByteArray × ByteArray), Bt.fromL kl k l = l.drop (Pa.findN (l.map Prod.fst) k)
  | [] => rfl
  | (a, b) :: r => by
    have ih := from_drop k r
    unfold Bt.fromL at ih ⊢
    by_cases h : Op.bytesLess a.toList k.toList = true
    · have e1 : Pa.findN (((a, b) :: r).map Prod.fst) k = Pa.findN (r.map Prod.fst) k + 1 := by show (if _ then _ else _) = _; rw [if_pos h]
      rw [e1, List.drop_succ_cons, ← ih, List.dropWhile_cons]
      exact if_pos h
    · have e1 : Pa.findN (((a, b) :: r).map Prod.fst) k = 0 := by show (if _ then _ else _) = _; rw [if_neg h]
      rw [e1, List.drop_zero, List.dropWhile_cons]
      exact if_neg h
theorem flat_at {α β : Type} (f : α → List β) : ∀ (L : List α) (m : Nat) (x : α), L[m]? = some x → ∀ j, j < (f x).length → ((L.map f).flatten)[(((L.take m).map f).flatten).length + j]? = (f x)[j]?
  | [], m, x, h, _, _ => by simp at h
  | y :: L, 0, x, h, j, hj => by
    obtain rfl : y = x := by simpa using h
    simp [List.getElem?_append_left hj]
  | y :: L, m + 1, x, h, j, hj => by
    have ih := flat_at f L m x (by simpa using h) j hj
    simp only [List.take_succ_cons, List.map_cons, List.flatten_cons, List.length_append]
    rw [List.getElem?_append_right (by omega), show (f y).length + ((List.map f (List.take m L)).flatten).length + j - (f y).length = ((List.map f (List.take m L)).flatten).length + j by omega]
    exact ih
theorem flat_next {α β : Type} (f : α → List β) (L : List α) (m : Nat) (x : α) (h : L[m]? = some x) : (((L.take (m + 1)).map f).flatten).length = (((L.take m).map f).flatten).length + (f x).length := by
  rw [List.take_add_one, h]
  simp
theorem flat_le {α β : Type} (f : α → List β) (L : List α) (m : Nat) : (((L.take m).map f).flatten).length ≤ ((L.map f).flatten).length := by
  have e : (L.map f).flatten = ((L.take m).map f).flatten ++ ((L.drop m).map f).flatten := by rw [← List.flatten_append, ← List.map_append, List.take_append_drop]
  rw [e, List.length_append]
  omega
theorem walk_any (l B : Nat) (P : Nat → Prop) (J : Nat → World → Prop) (Lst : List (ByteArray × ByteArray)) (hJ : ∀ k A A', J k A → Stay B A A' → J k A')
    (hY : ∀ m k x W1, Lst[k]? = some x → J k W1 → YieldAt Fence.wide m Tryz.prog l #[.string x.1, .string x.2] W1 fun e W' => e = .returned (.bool true) ∧ J (k + 1) W' ∧ KQ P W1 W' ∧ Kf B W1 W')
    (hPB : ∀ i, P i → i < B) (base b lb : Nat) (g : Lg) (root : Int) (ok : LgOk g) (hl : g.recs.length ≤ 1000000) (w : World) (hw : B ≤ w.heap.size) (hT : ∀ V, KQ P w V → w.heap.size ≤ V.heap.size → StM base b lb g root V) (fr : ByteArray) :
    ∀ (d : Nat) (t : Tr d) (p : Pa.Pg) (at_ : Int) (a : Nat) (lo hi : Option ByteArray), Bt.Good kl d lo hi t → Bt.AllK KeyOk ValOk d t → 1 ≤ Bt.nk d t → Bt.nk d t ≤ 8 → PageAt g.recs at_ p → Is g.recs d t p → (∀ k, hi = some k → KeyOk k) → (∀ i, i < (Bt.walkT kl fr d t).length → Lst[a + i]? = (Bt.walkT kl fr d t)[i]?) →
    ∀ n W, KQ P w W → w.heap.size ≤ W.heap.size → J a W → CallsIn Fence.wide n Tryz.prog 45 #[.pointer (some ⟨b, 0, none⟩), .int .i64 at_, .agg #[.string (opT lo), .string (opT hi)], .string fr, .func (.yield l) #[] #[]] W (WkP P B J (a + (Bt.walkT kl fr d t).length) W)
  | 0, tl, p, at_, a, lo, hi, hG, hA, h1, h8, hP, hI, hh, hs, n, W, hK, hZ, h0 => by
    have hk := is_nk g.recs 0 hI
    have hH := holds_good g.recs 0 hG hA hI hh
    have hp' : p = ⟨true, (show List (ByteArray × ByteArray) from tl).map Prod.fst, (show List (ByteArray × ByteArray) from tl).map Prod.snd, []⟩ := hI
    have e1 : p.keys = (show List (ByteArray × ByteArray) from tl).map Prod.fst := by rw [hp']
    have e2 : p.vals = (show List (ByteArray × ByteArray) from tl).map Prod.snd := by rw [hp']
    have e4 : p.kids = [] := by rw [hp']
    have hwt : (Bt.walkT kl fr 0 tl : List (ByteArray × ByteArray)) = List.drop (Pa.findN p.keys fr) (show List (ByteArray × ByteArray) from tl) := by rw [e1]; exact from_drop fr tl
    have hlen : (Bt.walkT kl fr 0 tl).length = p.keys.length - Pa.findN p.keys fr := by
      rw [hwt, List.length_drop, e1, List.length_map]
    rw [hlen] at hs ⊢
    refine walk_leaf l n B P J Lst hJ hY b a at_ _ _ fr p W (by omega) hPB (by rw [hp']) (by omega) (by omega) (by rw [e1, e2, List.length_map, List.length_map]) ⟨by omega, by rw [e2, List.length_map]; rw [e1, List.length_map] at hk; omega, by rw [e4]; exact Nat.zero_le _⟩ (fun V hV => ?_) ?_ h0
    · have hS := hT V (hK.trans (fun i hi => hV.block i (by have := hPB i hi; omega) (by simp))) (Nat.le_trans hZ hV.size)
      exact read_page base b lb g root at_ _ _ p V hS.tree hS.log ok.asc hl hP hH
    · intro i x y hx hy hF
      have hil : i < p.keys.length := (List.getElem?_eq_some_iff.1 hx).1
      rw [hs (i - Pa.findN p.keys fr) (by omega)]
      rw [hwt, List.getElem?_drop, show Pa.findN p.keys fr + (i - Pa.findN p.keys fr) = i by omega]
      rw [e1, List.getElem?_map] at hx
      rw [e2, List.getElem?_map] at hy
      cases hz : (show List (ByteArray × ByteArray) from tl)[i]? with
      | none => rw [hz] at hx; cases hx
      | some z =>
        rw [hz] at hx hy
        have q1 : z.1 = x := by simpa using hx
        have q2 : z.2 = y := by simpa using hy
        rw [← q1, ← q2]
  | d + 1, (ks, ts), p, at_, a, lo, hi, hG, hA, h1, h8, hP, hI, hh, hs, n, W, hK, hZ, h0 => by
    have hk := is_nk g.recs (d + 1) (t := ((ks, ts) : Tr (d + 1))) hI
    have hH := holds_good g.recs (d + 1) (t := ((ks, ts) : Tr (d + 1))) hG hA hI hh
    obtain ⟨is, hp, hil, hkids⟩ := hI
    have hlen := Bt.GL.len (lt := kl) hG
    obtain ⟨hpw, _, h3⟩ := gl_pw hG
    have e1 : p.keys = ks := by rw [hp]
    have e2 : p.kids = is := by rw [hp]
    have e3 : p.vals = [] := by rw [hp]
    have hkl : p.kids.length = p.keys.length + 1 := by rw [e1, e2, hil, hlen]
    have hkt : p.kids.length = ts.length := by rw [e2, hil]
    have hn8 : ks.length ≤ 8 := h8
    have hK1 := (Bt.kid_take (lt := kl) fr ks).1
    obtain ⟨K0, hK0⟩ : ∃ K0, Bt.kid kl fr ks = K0 := ⟨_, rfl⟩
    have hw2 : Bt.walkT kl fr (d + 1) ((ks, ts) : Tr (d + 1)) = ((ts.drop K0).map (Bt.walkT kl fr d)).flatten := by rw [← hK0]; rfl
    rw [hw2] at hs ⊢
    rw [hK0] at hK1
    obtain ⟨off, hoff⟩ : ∃ off : Nat → Nat, off = fun i => a + ((((ts.drop K0).take (i - K0)).map (Bt.walkT kl fr d)).flatten).length := ⟨_, rfl⟩
    have o0 : off K0 = a := by rw [hoff]; simp
    have oM : off p.kids.length = a + (((ts.drop K0).map (Bt.walkT kl fr d)).flatten).length := by
      rw [hoff]
      show a + _ = _
      rw [List.take_of_length_le (by rw [List.length_drop]; omega)]
    rw [← oM]
    refine walk_node l n B P J hJ b K0 at_ _ _ fr p off W (by omega) hPB (by rw [hp]) (by omega) (by omega) hkl ⟨by omega, by rw [e3]; exact Nat.zero_le _, by omega⟩ ?_ (by rw [e1]; exact hK1) (fun V hV => ?_) ?_ (by rw [o0]; exact h0)
    · rw [e1, ← hK0]; exact kid_find fr hpw
    · have hS := hT V (hK.trans (fun i hi => hV.block i (by have := hPB i hi; omega) (by simp))) (Nat.le_trans hZ hV.size)
      exact read_page base b lb g root at_ _ _ p V hS.tree hS.log ok.asc hl hP hH
    · intro m i x W1 hKi hx hKQ hsz hj
      rw [e2] at hx
      have hi1 : i < is.length := (List.getElem?_eq_some_iff.1 hx).1
      have hi2 : i < ts.length := by omega
      obtain ⟨t, ht⟩ : ∃ t, ts[i]? = some t := ⟨_, List.getElem?_eq_getElem hi2⟩
      obtain ⟨_, q, hq1, hq2⟩ := hkids i x t hx ht
      obtain ⟨g1, g2, g3⟩ := gl_at hG i t ht
      have hd : (ts.drop K0)[i - K0]? = some t := by rw [List.getElem?_drop, show K0 + (i - K0) = i by omega]; exact ht
      have hstep : off (i + 1) = off i + (Bt.walkT kl fr d t).length := by
        rw [hoff]
        show a + _ = a + _ + _
        rw [show i + 1 - K0 = (i - K0) + 1 by omega, flat_next _ _ _ t hd, Nat.add_assoc]
      have htm : t ∈ ts := List.mem_of_getElem? ht
      have hki : ∀ k, hiI hi ks i = some k → KeyOk k := fun k hk2 => by
        unfold hiI at hk2
        split at hk2
        · exact hA.1 k (List.mem_of_getElem? hk2)
        · exact hh k hk2
      rw [e1, lo_span lo ks i (by omega), hi_span hi ks i, hstep]
      refine walk_any l B P J Lst hJ hY hPB base b lb g root ok hl w hw hT fr d t q x (off i) _ _ g1 (hA.2 t htm) (by omega) g3 hq1 hq2 hki ?_ m W1 (hK.trans hKQ) (Nat.le_trans hZ hsz) hj
      intro j hj2
      have f1 := flat_at (Bt.walkT kl fr d) (ts.drop K0) (i - K0) t hd j hj2
      have f2 : (((List.take (i - K0) (ts.drop K0)).map (Bt.walkT kl fr d)).flatten).length + j < (((ts.drop K0).map (Bt.walkT kl fr d)).flatten).length := by
        have a1 := flat_next (Bt.walkT kl fr d) (ts.drop K0) (i - K0) t hd
        have a2 := flat_le (Bt.walkT kl fr d) (ts.drop K0) (i - K0 + 1)
        omega
      have f3 := hs _ f2
      rw [f1] at f3
      rw [hoff]
      show Lst[a + _ + j]? = _
      rw [Nat.add_assoc]
      exact f3
end Go.Proofs.YtbhmmcelndmijaaGreat
/-
  All: the keys from one on, as an iterator.
-/
namespace Go.Proofs.YtbhmmcelndmijaaGreat
open Go.RowKit Go.Maps Go.Shelf
attribute [local go_sem] Oper.semAt_some
/-- What All leaves: its boxes. -/
def AlP (b : Nat) (root : Int) (fr : ByteArray) (w : World) (e : Ending) (w' : World) : Prop := ∃ rb tb fb, e = .returned (.func (.func 44) #[] #[.pointer (some ⟨rb, 0, none⟩), .pointer (some ⟨tb, 0, none⟩), .pointer (some ⟨fb, 0, none⟩)]) ∧ (w.heap.size ≤ rb ∧ w.heap.size ≤ tb ∧ w.heap.size ≤ fb) ∧ Blk w' rb 3 #[.int .i64 root] ∧ Blk w' tb 23 #[.pointer (some ⟨b, 0, none⟩)] ∧ Blk w' fb 9 #[.string fr] ∧ w.grownBy w' none
set_option maxRecDepth 100000 in
theorem all_mk (b lb : Nat) (root : Int) (fr : ByteArray) (w : World) (hT : IsTree w b lb root) : Calls Tryz.prog 25 #[.pointer (some ⟨b, 0, none⟩), .string fr] w (AlP b root fr w) := by
  have C11 : Hid (∀ W, w.grownBy W none → Calls Tryz.prog 11 #[.pointer (some ⟨b, 0, none⟩)] W fun e w' => e = .returned (.int .i64 root) ∧ W.grownBy w' none) := fun W hW => root_any b lb root W (hT.kept hW)
  clear hT
  have G2 := hid (grown_alloc (grown_alloc (grown_refl w none) (.cells #[.pointer (some ⟨b, 0, none⟩)] 23)) (.cells #[.string fr] 9))
  have B1 := hid ((Blk.new w 23 #[.pointer (some ⟨b, 0, none⟩)]).alloc (.cells #[.string fr] 9))
  have B2 : Hid (Blk ((w.alloc (.cells #[.pointer (some ⟨b, 0, none⟩)] 23)).alloc (.cells #[.string fr] 9)) (w.heap.size + 1) 9 #[.string fr]) := hid (by have h := Blk.new (w.alloc (.cells #[.pointer (some ⟨b, 0, none⟩)] 23)) 9 #[.string fr]; simp at h; exact h)
  obtain ⟨Q0, hQ0⟩ : ∃ Q, Q = AlP b root fr w := ⟨_, rfl⟩
  rw [← hQ0]
  have HQ := hid (And.intro hQ0 trivial)
  clear hQ0
  go_enter Tryz.func25, Tryz.ntmps25
  go_wp2_with (first
    | (go_at_call 11; refine (C11.out _ G2.out).mono ?_; rintro e w3 ⟨rfl, g3⟩; have G3 := hid (grown_none G2.out g3); replace B1 := hid (B1.out.kept g3 (by simp)); replace B2 := hid (B2.out.kept g3 (by simp)); clear g3))
  rw [HQ.out.1]
  have h1 := B1.out.lt
  exact ⟨w3.heap.size, w.heap.size, w.heap.size + 1, rfl, ⟨G3.out.size, Nat.le_refl _, Nat.le_succ _⟩, Blk.new w3 3 _, B1.out.alloc _, B2.out.alloc _, grown_alloc G3.out _⟩
def EncP (Lst : List (ByteArray × ByteArray)) (k : Nat) (_ : World) (args : Array Value) : Prop := ∃ x, Lst[k]? = some x ∧ args = #[.string x.1, .string x.2]
/-- What a tree has from a key on. -/
def fromR (fr : ByteArray) (r : Rt) : List (ByteArray × ByteArray) := Bt.fromL kl fr (Bt.flatR r)
set_option maxRecDepth 100000 in
set_option maxHeartbeats 1000000 in
theorem all_seq {n0 : Nat} {r : Rt} {g : Lg} {root : Int} (hS : StG n0 r g root) (hn0 : n0 ≤ 300) (n base b lb rb tb fb : Nat) (P : Nat → Prop) (fr : ByteArray) (w : World) (hP : ∀ i, P i → i < w.heap.size) (hT : ∀ V, KQ P w V → w.heap.size ≤ V.heap.size → StM base b lb g root V)
    (h1 : Blk w rb 3 #[.int .i64 root]) (h2 : Blk w tb 23 #[.pointer (some ⟨b, 0, none⟩)]) (h3 : Blk w fb 9 #[.string fr]) :
    SeqN Tryz.prog n 44 #[.pointer (some ⟨rb, 0, none⟩), .pointer (some ⟨tb, 0, none⟩), .pointer (some ⟨fb, 0, none⟩)] (EncP (fromR fr r)) (KQ P) (fromR fr r).length w := by
  intro l J W hW hlW hJ hY h0
  have hws := hW.size
  have kW : KQ P w W := fun i hi => hW.block i (hP i hi)
  have c1 : W.cell? ⟨rb, 0, none⟩ = some (.int .i64 root) := by rw [World.cell?_of_block (hW.block rb h1.lt), h1.cell]; rfl
  have c2 : W.cell? ⟨tb, 0, none⟩ = some (.pointer (some ⟨b, 0, none⟩)) := by rw [World.cell?_of_block (hW.block tb h2.lt), h2.cell]; rfl
  have c3 : W.cell? ⟨fb, 0, none⟩ = some (.string fr) := by rw [World.cell?_of_block (hW.block fb h3.lt), h3.cell]; rfl
  have hdd : ∀ k : Nat, (Fence.wide.depth.isSome = true → 1 ≤ k) := fun k h => by cases h
  match r, hS with
  | none, hS =>
    have hr : root = -1 := hS.laid
    subst hr
    have hN : (fromR fr none).length = 0 := rfl
    rw [hN]
    refine callsIn_of_wp Tryz.func44 rfl trivial ?_ rfl
    simp only [Tryz.ntmps44, List.size_toArray, List.length_cons, List.length_nil, Nat.reduceAdd, Nat.reduceSub, Array.replicate_succ, Array.replicate_zero, List.push_toArray, List.append_toArray, List.nil_append, List.cons_append]
    have H0 := hid h0
    clear h0 hY hJ hW hT h1 h2 h3
    gi_wp2_with fail
    go_end0
    exact ⟨⟨_, rfl⟩, H0.out⟩
  | some ⟨d, t⟩, hS =>
    obtain ⟨⟨r0, r1⟩, p, hp1, hp2⟩ := hS.laid
    obtain ⟨q1, q2, q3⟩ := hS.good
    have hwk : Bt.walkT kl fr d t = fromR fr (some ⟨d, t⟩) := Bt.walkT_good ordK fr d none none t q1
    have hv := walk_any l W.heap.size P J (fromR fr (some ⟨d, t⟩)) hJ (fun m k x W1 hx hj => hY m k _ W1 (List.getElem?_eq_some_iff.1 hx).1 hj ⟨x, hx, rfl⟩) (fun i hi => by have := hP i hi; omega) base b lb g root hS.ok (by have := hS.cnt; omega) W (Nat.le_refl _) (fun V hV hz => hT V (kW.trans hV) (by omega)) fr d t p root 0 none none q1 hS.all q2 q3 hp1 hp2 (fun k hk => by cases hk) (fun i _ => by rw [Nat.zero_add, hwk]) (n - 1) W (KQ.refl _ _) (Nat.le_refl _) h0
    rw [hwk, Nat.zero_add] at hv
    have HV := hid hv
    have hne : (root == -1) = false := by have : ¬ root = -1 := by omega
                                          simpa using this
    have hne2 : ¬ root = -1 := by omega
    generalize (fromR fr (some ⟨d, t⟩)).length = NN at *
    clear hv hY hJ hW hT h1 h2 h3 h0 hp1 hp2 q1 q2 q3 hS hwk
    refine callsIn_of_wp Tryz.func44 rfl trivial ?_ rfl
    simp only [Tryz.ntmps44, List.size_toArray, List.length_cons, List.length_nil, Nat.reduceAdd, Nat.reduceSub, Array.replicate_succ, Array.replicate_zero, List.push_toArray, List.append_toArray, List.nil_append, List.cons_append]
    gi_wp2_with (first
      | (refine ⟨trivial, hdd _, ?_⟩; gi_at_call 45; refine HV.out.mono ?_; clear HV; rintro e W1 ⟨rfl, hJ1, _⟩)
      | (refine ⟨trivial, ?_⟩; gi_at_call 45; refine HV.out.mono ?_; clear HV; rintro e W1 ⟨rfl, hJ1, _⟩))
    go_end0
    exact ⟨⟨_, rfl⟩, hJ1⟩
end Go.Proofs.YtbhmmcelndmijaaGreat
/-
  The law's model: find.
-/
namespace Go.Proofs.YtbhmmcelndmijaaGreat
open Go.RowKit Go.Maps
/-- A slice of pairs reads as a list. -/
def PrV (w : World) (v : Value) (l : Prs) : Prop := ∃ (pa : Option Addr) (cap g o : Nat), v = .slice pa l.length cap ∧ (0 < l.length → pa = some ⟨g, o, none⟩) ∧ ∀ i, (h : i < l.length) → w.cell? ⟨g, o + i * 2, none⟩ = some (.string l[i].1) ∧ w.cell? ⟨g, o + i * 2 + 1, none⟩ = some (.string l[i].2)
set_option maxRecDepth 100000 in
set_option maxHeartbeats 2000000 in
theorem mfind_any (v : Value) (l : Prs) (k : ByteArray) (w : World) (h : PrV w v l) (hl : l.length ≤ 1000000) :
    Calls Tryz.prog 22 #[v, .string k] w fun e w' => e = .returned (.tuple #[.int .i64 (Pa.findN (l.map Prod.fst) k), .bool (Pa.findIs (l.map Prod.fst) k)]) ∧ w.grownBy w' none := by
  obtain ⟨pa, cap, g, o, rfl, h0, hc⟩ := h
  have hNle := Pa.findN_le (l.map Prod.fst) k
  have hlt := Pa.findN_lt (l.map Prod.fst) k
  have hat := Pa.findN_at (l.map Prod.fst) k
  rw [List.length_map] at hNle
  have his : ∀ h : Pa.findN (l.map Prod.fst) k < l.length, Pa.findIs (l.map Prod.fst) k = (l[Pa.findN (l.map Prod.fst) k].1.toList == k.toList) := fun h => by
    unfold Pa.findIs
    rw [List.getElem?_map, List.getElem?_eq_getElem h]
    rfl
  have hisn : ¬ Pa.findN (l.map Prod.fst) k < l.length → Pa.findIs (l.map Prod.fst) k = false := fun h => by
    unfold Pa.findIs
    rw [List.getElem?_map, List.getElem?_eq_none (by omega)]
    rfl
  have A1 : Hid (∀ n, (hn : n < l.length) → n < Pa.findN (l.map Prod.fst) k → Op.bytesLess l[n].1.toList k.toList = true) := fun n hn hx => by
    have := hlt n (by rw [List.length_map]; exact hn) hx
    rw [List.getElem_map] at this
    exact this
  have A2 : Hid (∀ hn : Pa.findN (l.map Prod.fst) k < l.length, Op.bytesLess l[Pa.findN (l.map Prod.fst) k].1.toList k.toList = false) := fun hn => by
    have := hat (by rw [List.length_map]; exact hn)
    rw [List.getElem_map] at this
    exact this
  have A3 := hid his
  have A4 := hid hisn
  have HC := hid hc
  generalize Pa.findIs (l.map Prod.fst) k = IS at *
  generalize Pa.findN (l.map Prod.fst) k = N at *
  clear hlt hat his hisn hc
  go_enter Tryz.func22, Tryz.ntmps22
  go_wp2_with fail
  go_loopg [6] N (fun gk s6 wr => wr = w ∧ ∃ n : Nat, s6 = .int .i64 n ∧ n + gk = N)
  case atStart => exact ⟨rfl, 0, rfl, by omega⟩
  case round =>
    obtain ⟨hw, n, rfl, hn⟩ := hrel
    have hw' := hw.symm
    clear hw
    subst hw'
    cases gk with
    | zero =>
      have hnN : n = N := by omega
      subst hnN
      by_cases hb : n < l.length
      · obtain ⟨c1, -⟩ := HC.out n hb
        have l1 := A2.out hb
        have i1 : (n : Int) < l.length := by omega
        have e1 := A3.out hb
        obtain rfl := h0 (by omega)
        have e2 := hid (And.intro e1 trivial)
        clear A1 A2 A3 A4 HC e1
        go_wp2_with fail
        go_quiet (fail)
        go_wp2_with fail
        go_ret2
        rw [e2.out.1]
        exact ⟨rfl, Pa.grown_drewN (grown_refl _ _) _⟩
      · have e1 := A4.out hb
        subst e1
        have i1 : ¬ ((n : Int) < l.length) := by omega
        clear A1 A2 A3 A4 HC
        go_wp2_with fail
        go_quiet (fail)
        go_wp2_with fail
        go_ret2
        exact ⟨rfl, Pa.grown_drewN (grown_refl _ _) _⟩
    | succ gk =>
      have hb : n < l.length := by omega
      obtain ⟨c1, -⟩ := HC.out n hb
      have l1 := A1.out n hb (by omega)
      have i1 : (n : Int) < l.length := by omega
      obtain rfl := h0 (by omega)
      have wi : IntKind.i64.wrap ((n : Int) + 1) = (n : Int) + 1 := by rw [IntKind.wrap_i64]; omega
      clear A1 A2 A3 A4 HC
      go_wp2_with fail
      go_roundg gk
      case measure => omega
      case rel => exact ⟨rfl, n + 1, by simp, by omega⟩
end Go.Proofs.YtbhmmcelndmijaaGreat
/-
  has: a tree has just the keys of the model, from one on.
-/
namespace Go.Proofs.YtbhmmcelndmijaaGreat
open Go.RowKit Go.Maps Go.Shelf
attribute [local go_sem] Oper.semAt_some
theorem StM.same {base b lb : Nat} {g : Lg} {root : Int} {w V : World} (h : StM base b lb g root w) (hk : ∀ (i : Nat) (cs : Array Value) (t : TypeId) (fz : Nat × Nat), w.heap[i]? = some (Obj.cells cs t fz) → t ≠ 3 → V.heap[i]? = w.heap[i]?) : StM base b lb g root V := by
  obtain ⟨h1, h0, vr, vw, h2, h3, h4⟩ := h
  have h1' : w.heap[b]? = some (Obj.cells #[.pointer (some ⟨lb, 0, none⟩), .int .i64 root] 68 (0, 0)) := h1
  have h2' : w.heap[lb]? = some (Obj.cells (rowG g.d vr vw g.com g.len g.root g.marked) 87 (0, 0)) := h2
  exact ⟨(hk b _ _ _ h1' (by decide)).trans h1', h0, vr, vw, (hk lb _ _ _ h2' (by decide)).trans h2', row_same h3 (fun q cur hq => hk q cur 111 (0, 0) hq (by decide)), row_same h4 (fun q cur hq => hk q cur 5 (0, 0) hq (by decide))⟩
theorem PrV.kept {w w' : World} {v : Value} {l : Prs} (h : PrV w v l) (hg : w.grownBy w' none) : PrV w' v l := by
  obtain ⟨pa, cap, g, o, e, h0, hc⟩ := h
  exact ⟨pa, cap, g, o, e, h0, fun i hi => ⟨Pa.cell_kept hg (hc i hi).1, Pa.cell_kept hg (hc i hi).2⟩⟩
theorem grown_ob' {w w' w'' : World} {o : Option Nat} (h : w.grownBy w' none) (g : w'.grownBy w'' o) (ho : ∀ r, o = some r → w.heap.size ≤ r) : w.grownBy w'' none :=
  ⟨g.os.trans h.os, g.tape.trans h.tape, g.output.trans h.output, Nat.le_trans h.size g.size, fun i hi hn => (g.block i (Nat.lt_of_lt_of_le hi h.size) (fun e => by have := ho i e.symm; omega)).trans (h.block i hi hn)⟩
theorem results_b {fn : Func} {p : Tmp} (h : fn.results = #[.cell p 4]) (tmps : Array Value) (w : World) (g : Nat) {x : Value} (hp : tmps.getD p undef = .pointer (some ⟨g, 0, none⟩)) (hg : Blk w g 4 #[x]) : (results fn tmps).run Tryz.prog w = .ok x w := by
  have hp' : tmps[p]?.getD undef = .pointer (some ⟨g, 0, none⟩) := by simpa using hp
  have hc : w.cell? ⟨g, 0, none⟩ = some x := by rw [hg.cell]; rfl
  have hagg : (isAgg 4).run Tryz.prog w = .ok false w := by
    unfold isAgg
    rw [Sem.run_bind, run_underlying Tryz.underlying4 w]
    rfl
  simp [results, h, hp', asAddr, loadVar, Sem.run_bind, hagg, run_load, hc]
set_option maxRecDepth 100000 in
set_option maxHeartbeats 4000000 in
theorem has_any {n0 : Nat} {r : Rt} {g : Lg} {root : Int} (hS : StG n0 r g root) (hn0 : n0 ≤ 300) (base b lb : Nat) (v : Value) (fr : ByteArray) (w : World) (hM : StM base b lb g root w) (hm : PrV w v (Bt.flatR r)) :
    Calls Tryz.prog 10 #[.pointer (some ⟨b, 0, none⟩), v, .string fr] w fun e w' => e = .returned (.bool true) ∧ w.grownBy w' none := by
  have hfew := hS.few
  have HS := hid hS
  have HSQ := hid (And.intro rfl trivial : fromR fr r = fromR fr r ∧ True)
  have hdr : fromR fr r = (Bt.flatR r).drop (Pa.findN ((Bt.flatR r).map Prod.fst) fr) := from_drop fr _
  have hNle := Pa.findN_le ((Bt.flatR r).map Prod.fst) fr
  rw [List.length_map] at hNle
  have C22 : Hid (∀ W, w.grownBy W none → Calls Tryz.prog 22 #[v, .string fr] W fun e w' => e = .returned (.tuple #[.int .i64 (Pa.findN ((Bt.flatR r).map Prod.fst) fr), .bool (Pa.findIs ((Bt.flatR r).map Prod.fst) fr)]) ∧ W.grownBy w' none) := fun W hW => mfind_any v _ fr W (hm.kept hW) (by omega)
  have C25 : Hid (∀ W, w.grownBy W none → Calls Tryz.prog 25 #[.pointer (some ⟨b, 0, none⟩), .string fr] W (AlP b root fr W)) := fun W hW => all_mk b lb root fr W (hM.kept hW).tree
  have HM := hid hM
  obtain ⟨pa, cap, gm, om, rfl, hp0, hpc⟩ := hm
  have HP0 := hid hp0
  have HPC : Hid (∀ i x, (Bt.flatR r)[i]? = some x → w.cell? ⟨gm, om + i * 2, none⟩ = some (.string x.1) ∧ w.cell? ⟨gm, om + i * 2 + 1, none⟩ = some (.string x.2)) := hid (fun i x hx => by
    obtain ⟨h1, h2⟩ := List.getElem?_eq_some_iff.1 hx
    have h3 := hpc i h1
    rw [h2] at h3
    exact h3)
  have HD := hid hdr
  generalize Pa.findN ((Bt.flatR r).map Prod.fst) fr = Fi at *
  generalize Pa.findIs ((Bt.flatR r).map Prod.fst) fr = is at *
  clear hM hS hdr hp0 hpc
  refine (callsIn_wide (n := 5)).1 ?_
  refine callsIn_of_wp_marks Tryz.func10 rfl trivial ?_ rfl
  simp only [Tryz.ntmps10, List.size_toArray, List.length_cons, List.length_nil, Nat.reduceAdd, Nat.reduceSub, Array.replicate_succ, Array.replicate_zero, List.push_toArray, List.append_toArray, List.nil_append, List.cons_append]
  refine wpIn_wide.2 ?_
  have B0 := hid ((Blk.new w 28 #[.slice pa (Bt.flatR r).length cap]).alloc (.cells #[.bool false] 4))
  have B1 : Hid (Blk ((w.alloc (.cells #[.slice pa (Bt.flatR r).length cap] 28)).alloc (.cells #[.bool false] 4)) (w.heap.size + 1) 4 #[.bool false]) := hid (by have h := Blk.new (w.alloc (.cells #[.slice pa (Bt.flatR r).length cap] 28)) 4 #[.bool false]; simp at h; exact h)
  have G2 := hid (grown_alloc (grown_alloc (grown_refl w none) (.cells #[.slice pa (Bt.flatR r).length cap] 28)) (.cells #[.bool false] 4))
  go_wp2_with (first
    | (go_at_call 22; refine (C22.out _ G2.out).mono ?_; rintro e w3 ⟨rfl, g3⟩; have G3 := hid (grown_none G2.out g3); replace B0 := hid (B0.out.kept g3 (by simp)); replace B1 := hid (B1.out.kept g3 (by simp)); have h43 := B1.out.lt; clear g3 C22)
    | (go_at_call 25; refine (C25.out _ (grown_alloc G3.out _)).mono ?_; rintro e w5 ⟨rb, tb, fb, rfl, hrb, q1, q2, q3, g5⟩; have G5 := hid (grown_none (grown_alloc G3.out _) g5); replace B0 := hid ((B0.out.alloc _).kept g5 (by simp)); replace B1 := hid ((B1.out.alloc _).kept g5 (by simp)); have B2 := hid ((Blk.new w3 3 #[.int .i64 Fi]).kept g5 (by simp)); have A1 := hid q1; have A2 := hid q2; have A3 := hid q3; have HRB := hid hrb; have hw5 := g5.size; have hN43 : Hid (w.heap.size + 1 < w3.heap.size ∧ True) := hid ⟨h43, trivial⟩; clear g5 q1 q2 q3 hrb C25))
  have hN3 := B0.out.lt
  have hN4 := B1.out.lt
  have hN5 := B2.out.lt
  have hsz : w.heap.size ≤ w5.heap.size := G5.out.size
  have hTT : Hid (∀ V, KQ (fun i => i < w5.heap.size ∧ i ≠ w3.heap.size) w5 V → w5.heap.size ≤ V.heap.size → StM base b lb g root V) := fun V hV _ => (HM.out.kept G5.out).same (fun i cs t fz hi ht => hV i ⟨(Array.getElem?_eq_some_iff.1 hi).1, fun e => by
    subst e
    have h2 : w5.heap[w3.heap.size]? = some (Obj.cells #[.int .i64 Fi] 3 (0, 0)) := B2.out
    rw [hi] at h2
    injection h2 with q
    injection q with q1 q2 q3
    exact ht q2⟩)
  obtain ⟨NN, hNN⟩ : ∃ NN, (fromR fr r).length = NN := ⟨_, rfl⟩
  have hNN2 : Fi + NN = (Bt.flatR r).length := by rw [← hNN, HD.out, List.length_drop]; omega
  have SQ := all_seq HS.out hn0 (5 - 1) base b lb rb tb fb (fun i => i < w5.heap.size ∧ i ≠ w3.heap.size) fr w5 (fun i hi => hi.1) hTT.out A1.out A2.out A3.out
  rw [hNN] at SQ
  have hL : Hid (∀ k x, (fromR fr r)[k]? = some x → (Bt.flatR r)[Fi + k]? = some x) := fun k x hx => by rw [HD.out, List.getElem?_drop] at hx; exact hx
  generalize hLn : (Bt.flatR r).length = Ln at *
  have HLn := hid (And.intro hLn trivial)
  clear hLn
  have G5w := G5
  refine (wpIn_wide (n := 5)).1 ?_
  refine range_cnt (N := NN) (gf := 44) (lb := #[.pointer (some ⟨rb, 0, none⟩), .pointer (some ⟨tb, 0, none⟩), .pointer (some ⟨fb, 0, none⟩)]) rfl (enters_of Tryz.func44 (by kernel_rfl) rfl) SQ
    (fun h k => KQ.trans h k) (fun V o' i hi => World.putObj_heap_other (by have := hi.1; omega)) (fun A B hA hg i hi => hg.block i (by have := hi.1; omega) (by simp)) (fun k V args h => by obtain ⟨x, _, rfl⟩ := h; rfl) (fun k args A A' h _ => h)
    (fun k V => Hid (Blk V w3.heap.size 3 #[.int .i64 (Fi + k : Nat)] ∧ Blk V w.heap.size 28 #[.slice pa Ln cap] ∧ Blk V (w.heap.size + 1) 4 #[.bool false] ∧ w.grownBy V none)) ?hI ?hstart
    (fun k args a' _ => a' = { tmps := #[.pointer (some ⟨b, 0, none⟩), .slice pa Ln cap, .string fr, undef, .pointer (some ⟨w.heap.size, 0, none⟩), undef, .pointer (some ⟨w.heap.size + 1, 0, none⟩), .pointer (some ⟨w3.heap.size, 0, none⟩), .bool is, args[0]!, args[1]!, .tuple #[.int .i64 Fi, .bool is], .slice pa Ln cap, .string fr, .tuple #[.int .i64 Fi, .bool is], .int .i64 Fi, .bool is, .pointer (some ⟨b, 0, none⟩), .string fr, .func (.func 44) #[] #[.pointer (some ⟨rb, 0, none⟩), .pointer (some ⟨tb, 0, none⟩), .pointer (some ⟨fb, 0, none⟩)], args[0]!, args[1]!, undef, undef, undef, undef, undef, undef, undef, undef, undef, undef, undef, undef, undef, undef, undef, undef, undef, undef, undef, undef, undef, undef, undef, undef, undef, undef, undef, undef], defers := [] }) (fun _ _ _ _ _ h _ => h) ?assign ?body ?done
  case hI =>
    rintro k A A' h hs
    obtain ⟨i1, i2, i3, i5⟩ := h.out
    exact hid ⟨hs.same _ _ i1 (Or.inr rfl), hs.same _ _ i2 (Or.inr rfl), hs.same _ _ i3 (Or.inr rfl), Stay.after i5 hs hsz⟩
  case hstart => exact hid ⟨B2.out, B0.out, B1.out, G5.out⟩
  case assign =>
    rintro m l1 k args V K _ ⟨x, hx, rfl⟩ hK
    gi_wp2
    exact hK _ _ (grown_refl _ _) rfl
  case body =>
    rintro m l1 k args a' V hl1 hk h ⟨x, hx, rfl⟩ rfl
    obtain ⟨i1, i2, i3, i5⟩ := h.out
    clear h
    obtain ⟨x1, x2⟩ := HPC.out _ x (hL.out k x hx)
    replace x1 := Pa.cell_kept i5 x1
    replace x2 := Pa.cell_kept i5 x2
    have hFk : Fi + k < Ln := by omega
    have hw3 : w.heap.size + 1 < w3.heap.size := hN43.out.1
    obtain rfl := HP0.out (by omega)
    have c1 : V.cell? ⟨w3.heap.size, 0, none⟩ = some (.int .i64 (Fi + k : Nat)) := by rw [i1.cell]; rfl
    have c2 : V.cell? ⟨w.heap.size, 0, none⟩ = some (.slice (some ⟨gm, om, none⟩) Ln cap) := by rw [i2.cell]; rfl
    have f1 := i1.frozen 0
    obtain ⟨kx, hkx⟩ : ∃ kx, Fi + k = kx := ⟨_, rfl⟩
    rw [hkx] at c1 x1 x2 hFk i1
    have j0 : (0 : Int) ≤ (kx : Int) := by omega
    have j1 : (kx : Int) < Ln := by omega
    have j2 : (kx : Int).toNat = kx := by omega
    have wi : IntKind.i64.wrap ((kx : Int) + 1) = (kx : Int) + 1 := by rw [IntKind.wrap_i64]; omega
    have fin : Hid (Hid (Blk (V.setCell ⟨w3.heap.size, 0, none⟩ (.int .i64 ((kx : Int) + 1))) w3.heap.size 3 #[.int .i64 (Fi + (k + 1) : Nat)] ∧ Blk (V.setCell ⟨w3.heap.size, 0, none⟩ (.int .i64 ((kx : Int) + 1))) w.heap.size 28 #[.slice (some ⟨gm, om, none⟩) Ln cap] ∧ Blk (V.setCell ⟨w3.heap.size, 0, none⟩ (.int .i64 ((kx : Int) + 1))) (w.heap.size + 1) 4 #[.bool false] ∧ w.grownBy (V.setCell ⟨w3.heap.size, 0, none⟩ (.int .i64 ((kx : Int) + 1))) none) ∧ KQ (fun i => i < w5.heap.size ∧ i ≠ w3.heap.size) V (V.setCell ⟨w3.heap.size, 0, none⟩ (.int .i64 ((kx : Int) + 1))) ∧ Kf w5.heap.size V (V.setCell ⟨w3.heap.size, 0, none⟩ (.int .i64 ((kx : Int) + 1)))) := hid ⟨hid ⟨by
        have h := i1.set 0 (.int .i64 ((kx : Int) + 1))
        have e : ((Fi + (k + 1) : Nat) : Int) = (kx : Int) + 1 := by omega
        rw [e]
        exact h, i2.other _ (show w.heap.size ≠ w3.heap.size by omega), i3.other _ (show w.heap.size + 1 ≠ w3.heap.size by omega), grown_set_new i5 _ (show w.heap.size ≤ w3.heap.size by omega)⟩, fun i hi => heap_setCell_other _ _ _ _ (show i ≠ w3.heap.size from hi.2), ⟨by simp, fun i h1 h2 => heap_setCell_other _ _ _ _ (show i ≠ w3.heap.size by omega)⟩⟩
    have I1 := hid i1
    have I2 := hid i2
    have I3 := hid i3
    have I5 := hid i5
    obtain ⟨xa, xb⟩ := x
    simp only [] at x1 x2
    clear i1 i2 i3 i5 hx hL SQ HPC HD HS
    gi_wp2
    exact fin.out
  case done =>
    rintro D V hD h hK
    obtain ⟨i1, i2, i3, i5⟩ := h.out
    clear h
    have hw3 : w.heap.size + 1 < w3.heap.size := hN43.out.1
    rw [hNN2] at i1
    have c1 : V.cell? ⟨w3.heap.size, 0, none⟩ = some (.int .i64 Ln) := by rw [i1.cell]; rfl
    have c2 : V.cell? ⟨w.heap.size, 0, none⟩ = some (.slice pa Ln cap) := by rw [i2.cell]; rfl
    have c3 : V.cell? ⟨w.heap.size + 1, 0, none⟩ = some (.bool false) := by rw [i3.cell]; rfl
    have f3 := i3.frozen 0
    have B3 := hid (i3.set 0 (.bool true))
    have B4 := hid (grown_set_new i5 (a := ⟨w.heap.size + 1, 0, none⟩) (.bool true) (show w.heap.size ≤ w.heap.size + 1 by omega))
    have KD := hid hK
    clear i1 i2 i3 i5 hK hL SQ HPC HD HS
    go_wp2_with fail
    have hKV : (V.setCell ⟨w.heap.size + 1, 0, none⟩ (.bool true)).heap[D]? = some (.deferred (some [])) := (heap_setCell_other _ _ _ _ (show D ≠ w.heap.size + 1 by omega)).trans KD.out
    refine ⟨by simp, .inl ⟨_, _, rfl, run_takeDeferred hKV, ?_⟩⟩
    refine ⟨_, results_b rfl _ _ (w.heap.size + 1) rfl (B3.out.kept (grownBy_putObj' _ D (.deferred none)) (by simp; omega)), rfl, ?_⟩
    exact grown_ob' B4.out (grownBy_putObj' _ D (.deferred none)) (fun r e => by cases e; omega)
end Go.Proofs.YtbhmmcelndmijaaGreat
/-
  The law's model: a list with a key.
-/
namespace Go.Proofs.YtbhmmcelndmijaaGreat
open Go.RowKit Go.Maps Go.Shelf
def prL (p : ByteArray × ByteArray) : List Value := [.string p.1, .string p.2]
def prsL (l : Prs) : List Value := l.flatMap prL
theorem prsL_len (l : Prs) : (prsL l).length = l.length * 2 := by
  induction l with
  | nil => rfl
  | cons p l ih =>
    have e : prsL (p :: l) = prL p ++ prsL l := rfl
    rw [e, List.length_append, ih]
    simp [prL]
    omega
theorem prsL_app (l m : Prs) : prsL (l ++ m) = prsL l ++ prsL m := by
  unfold prsL
  rw [List.flatMap_append]
theorem prsL_one (l : Prs) : ∀ u ∈ prsL l, u.oneCell' = true := fun u hu => by
  unfold prsL at hu
  obtain ⟨p, _, hp⟩ := List.mem_flatMap.1 hu
  simp only [prL, List.mem_cons, List.not_mem_nil, or_false] at hp
  rcases hp with rfl | rfl <;> rfl
theorem prsL_get : ∀ (l : Prs) (i : Nat) (h : i < l.length), (prsL l)[i * 2]? = some (.string l[i].1) ∧ (prsL l)[i * 2 + 1]? = some (.string l[i].2)
  | [], i, h => absurd h (Nat.not_lt_zero _)
  | p :: l, 0, _ => ⟨rfl, rfl⟩
  | p :: l, i + 1, h => by
    have e : prsL (p :: l) = .string p.1 :: .string p.2 :: prsL l := rfl
    have e1 : (i + 1) * 2 = i * 2 + 1 + 1 := by omega
    have := prsL_get l i (by simp at h; omega)
    rw [e, e1, List.getElem?_cons_succ, List.getElem?_cons_succ, List.getElem?_cons_succ, List.getElem?_cons_succ]
    exact this
/-- A slice of pairs in a block of its own. -/
def PrB (base : Nat) (w : World) (v : Value) (l : Prs) : Prop := ∃ g cap cur, v = .slice (some ⟨g, 0, none⟩) l.length cap ∧ base ≤ g ∧ Blk w g 62 cur ∧ l.length ≤ cap ∧ cap ≤ maxLen ∧ cur.size = cap * 2 ∧ cur.toList.take (l.length * 2) = prsL l
theorem PrB.mono {base base' : Nat} {w : World} {v : Value} {l : Prs} (h : PrB base w v l) (hb : base' ≤ base) : PrB base' w v l := by
  obtain ⟨g, cap, cur, e, h1, h2⟩ := h
  exact ⟨g, cap, cur, e, by omega, h2⟩
theorem PrB.same {base : Nat} {w w' : World} {v : Value} {l : Prs} (h : PrB base w v l) (hk : ∀ (g : Nat) (cur : Array Value), w.heap[g]? = some (Obj.cells cur 62 (0, 0)) → w'.heap[g]? = w.heap[g]?) : PrB base w' v l := by
  obtain ⟨g, cap, cur, e, h1, h2, h3⟩ := h
  have h2' : w.heap[g]? = some (Obj.cells cur 62 (0, 0)) := h2
  exact ⟨g, cap, cur, e, h1, (hk g cur h2').trans h2', h3⟩
theorem PrB.kept {base : Nat} {w w' : World} {v : Value} {l : Prs} (h : PrB base w v l) (hg : w.grownBy w' none) : PrB base w' v l :=
  h.same fun g cur hc => hg.block g (Array.getElem?_eq_some_iff.1 hc).1 (by simp)
theorem PrB.cells {base : Nat} {w : World} {l : Prs} {g len cap : Nat} (h : PrB base w (.slice (some ⟨g, 0, none⟩) len cap) l) : ∀ j u, (prsL l)[j]? = some u → w.cell? ⟨g, j, none⟩ = some u := by
  obtain ⟨g', cap', cur, e, h1, h2, h3, h4, h5, h6⟩ := h
  injection e with e1 _ _
  injection e1 with e1
  injection e1 with e1
  subst e1
  intro j u hj
  rw [Blk.cell h2 j]
  exact Sl.take_get h6 hj
theorem PrB.prv {base : Nat} {w : World} {v : Value} {l : Prs} (h : PrB base w v l) : PrV w v l := by
  obtain ⟨g, cap, cur, rfl, h1, h2, h3⟩ := h
  have hc := PrB.cells (base := base) (g := g) (cap := cap) ⟨g, cap, cur, rfl, h1, h2, h3⟩
  refine ⟨some ⟨g, 0, none⟩, cap, g, 0, rfl, fun _ => rfl, fun i hi => ?_⟩
  have := prsL_get l i hi
  rw [Nat.zero_add]
  exact ⟨hc _ _ this.1, hc _ _ this.2⟩
theorem PrB.owns {base : Nat} {w : World} {v : Value} {l : Prs} (h : PrB base w v l) : w.ownsRow base 62 2 v l.length (prsL l) := by
  obtain ⟨g, cap, cur, rfl, h1, h2, h3, h4, h5, h6⟩ := h
  exact ⟨prsL_len l, Or.inr ⟨g, cap, cur, rfl, h1, h2, h3, h4, h5, h6⟩⟩
theorem info62 : (Tryz.prog.info? 62).map (fun i => (i.zero, i.size, i.bytes)) = some (some (.agg #[.string ⟨#[]⟩, .string ⟨#[]⟩]), 2, 32) := by kernel_rfl
theorem append_prs {ops : Array Oper} {rest : List Oper} {o : Oper} {a : Act} {w : World} {Q : Exit → Act → World → Prop} (base : Nat) (l m : Prs) (ml : Nat) (v : Value) (ad : Addr) (c : Nat) (hml : m.length = ml) (hrow : PrB base w v l) (hcell : ∀ j u, (prsL m)[j]? = some u → w.cell? (ad.add j) = some u) (hk : l.length + m.length ≤ 1000000) (hbase : base ≤ w.heap.size) (s x : Operand)
    (hgd : o.guard = none) (ho : o.op = .call { callee := .builtin .append, args := #[s, x], argTypes := #[28, 28] }) (hs : a.eval s = v) (hx : a.eval x = .slice (some ad) ml c)
    (h : ∀ v' w', PrB base w' v' (l ++ m) → w.grownBy w' v.ownBlock → wpList Tryz.prog ops Q rest (a.put o.dst v') w') : wpList Tryz.prog ops Q (o :: rest) a w := by
  subst hml
  obtain ⟨i62, hi, hz0, hz1, hz2⟩ := info_parts info62
  refine wpList_append_own w hgd s x 28 ho base 62 i62 _ 2 32 Tryz.underlying28 hi hz0 hz1 hz2 rfl (by decide) v l.length (prsL l) hs hrow.owns ad m.length c (prsL m) hx (prsL_len m) hcell (prsL_one m) (by unfold maxLen; omega) (by omega) hbase ?_
  intro v' w' h2 h3 h4
  refine h v' w' ?_ h3
  rw [← prsL_app] at h2
  rcases h2.2 with ⟨rfl, _⟩ | ⟨g, cap, cur, rfl, q1, q2, q3, q4, q5, q6⟩
  · obtain ⟨g, cap, cur, rfl, _⟩ := hrow
    have := (h4.1 rfl).1
    injection this with t1 _ _
    cases t1
  · refine ⟨g, cap, cur, ?_, q1, q2, ?_, q4, q5, ?_⟩
    · rw [List.length_append]
    · rw [List.length_append]; exact q3
    · rw [List.length_append]; exact q6
theorem prsL_take {l : Prs} {n j : Nat} {u : Value} (h : (prsL (l.take n))[j]? = some u) : (prsL l)[j]? = some u := by
  have e : prsL l = prsL (l.take n) ++ prsL (l.drop n) := by rw [← prsL_app, List.take_append_drop]
  rw [e, List.getElem?_append_left (List.getElem?_eq_some_iff.1 h).1]
  exact h
theorem prsL_drop {l : Prs} {n j : Nat} {u : Value} (hn : n ≤ l.length) (h : (prsL (l.drop n))[j]? = some u) : (prsL l)[n * 2 + j]? = some u := by
  have e : prsL l = prsL (l.take n) ++ prsL (l.drop n) := by rw [← prsL_app, List.take_append_drop]
  have hl : (prsL (l.take n)).length = n * 2 := by rw [prsL_len, List.length_take, Nat.min_eq_left hn]
  rw [e, List.getElem?_append_right (by omega), hl, Nat.add_sub_cancel_left]
  exact h
theorem prB_none {base : Nat} (w : World) (hb : base ≤ w.heap.size) : PrB base (w.alloc (.cells #[] 62)) (.slice (some ⟨w.heap.size, 0, none⟩) 0 0) [] :=
  ⟨w.heap.size, 0, #[], rfl, hb, Blk.new w 62 #[], Nat.le_refl _, Nat.zero_le _, rfl, rfl⟩
theorem pr_cells (w : World) (k x : ByteArray) : ∀ j u, (prsL [(k, x)])[j]? = some u → (w.alloc (.cells #[.string k, .string x] 62)).cell? ((⟨w.heap.size, 0, none⟩ : Addr).add j) = some u := by
  intro j u hj
  have B := Blk.new w 62 #[.string k, .string x]
  rw [add_at, B.cell, Nat.zero_add]
  match j, hj with
  | 0, h => exact h
  | 1, h => exact h
theorem own_ge {base : Nat} {w : World} {v : Value} {l : Prs} (h : PrB base w v l) {r : Nat} (e : v.ownBlock = some r) : base ≤ r := by
  obtain ⟨g, cap, cur, rfl, h1, _⟩ := h
  injection e with e
  subst e
  exact h1
theorem size_alloc (w : World) (o : Obj) : (w.alloc o).heap.size = w.heap.size + 1 := by simp
/-- A list with a key, at its place. -/
def withL (k x : ByteArray) (l : Prs) : Prs := l.take (Pa.findN (l.map Prod.fst) k) ++ (k, x) :: (if Pa.findIs (l.map Prod.fst) k then l.drop (Pa.findN (l.map Prod.fst) k + 1) else l.drop (Pa.findN (l.map Prod.fst) k))
def MwP (base : Nat) (l : Prs) (w : World) (e : Ending) (w' : World) : Prop := ∃ v', e = .returned v' ∧ PrB base w' v' l ∧ w.grownBy w' none
set_option maxRecDepth 100000 in
set_option maxHeartbeats 4000000 in
theorem mwith_any (base : Nat) (v : Value) (l : Prs) (k x : ByteArray) (w : World) (h : PrB base w v l) (hl : l.length ≤ 1000) (hb : base ≤ w.heap.size) :
    Calls Tryz.prog 17 #[v, .string k, .string x] w (MwP base (withL k x l) w) := by
  have C22 : Hid (Calls Tryz.prog 22 #[v, .string k] w fun e w' => e = .returned (.tuple #[.int .i64 (Pa.findN (l.map Prod.fst) k), .bool (Pa.findIs (l.map Prod.fst) k)]) ∧ w.grownBy w' none) := mfind_any v _ k w h.prv (by omega)
  have hNle := Pa.findN_le (l.map Prod.fst) k
  rw [List.length_map] at hNle
  have his : Pa.findIs (l.map Prod.fst) k = true → Pa.findN (l.map Prod.fst) k < l.length := fun e => by
    apply Nat.lt_of_not_le
    intro hx
    unfold Pa.findIs at e
    rw [List.getElem?_map, List.getElem?_eq_none hx] at e
    cases e
  have HPost : Hid (withL k x l = l.take (Pa.findN (l.map Prod.fst) k) ++ (k, x) :: (if Pa.findIs (l.map Prod.fst) k then l.drop (Pa.findN (l.map Prod.fst) k + 1) else l.drop (Pa.findN (l.map Prod.fst) k)) ∧ True) := ⟨rfl, trivial⟩
  generalize hwl : withL k x l = lw at *
  clear hwl
  have H := hid h
  obtain ⟨g, cap, cur, rfl, hg, hB, hcap, hmax, hcs, hct⟩ := h
  have hgl := hB.lt
  generalize Pa.findN (l.map Prod.fst) k = F at *
  generalize Pa.findIs (l.map Prod.fst) k = is at *
  clear hB hct hcs
  go_enter Tryz.func17, Tryz.ntmps17
  have f0 : (0 : Int) ≤ (F : Int) := by omega
  have f1 : (F : Int) ≤ l.length := by omega
  have f2 : (F : Int).toNat = F := by omega
  have f3 : IntKind.i64.wrap ((F : Int) + 1) = (F : Int) + 1 := by rw [IntKind.wrap_i64]; omega
  have TL : Hid ((l.take F).length = F ∧ True) := ⟨by rw [List.length_take, Nat.min_eq_left hNle], trivial⟩
  have TC : Hid (∀ W, w.grownBy W none → ∀ j u, (prsL (l.take F))[j]? = some u → W.cell? ((⟨g, 0, none⟩ : Addr).add j) = some u) := fun W hW j u hj => by
    rw [add_at, Nat.zero_add]
    exact (H.out.kept hW).cells _ _ (prsL_take hj)
  rcases is with _ | _
  · by_cases hcF : cap = F
    · subst hcF
      skip
      have RC : Hid (∀ W, w.grownBy W none → ∀ j u, (prsL (l.drop cap))[j]? = some u → W.cell? ((⟨g, 0, none⟩ : Addr).add j) = some u) := fun W hW j u hj => by
        have e0 : l.drop cap = [] := List.drop_eq_nil_of_le (by omega)
        rw [e0] at hj
        cases hj
      have RL : Hid ((l.drop cap).length = 0 ∧ True) := ⟨by rw [List.length_drop]; omega, trivial⟩
      go_wp2_with (first
        | (go_at_call 22; refine C22.out.mono ?_; rintro e w1 ⟨rfl, g1⟩; have G1 := hid g1; clear g1)
        | (at_builtin; refine append_prs w.heap.size [] (l.take cap) cap _ ⟨g, 0, none⟩ _ TL.out.1 (prB_none w1 G1.out.size) (TC.out _ (grown_alloc G1.out _)) (by rw [TL.out.1, List.length_nil]; omega) (by have := G1.out.size; rw [size_alloc]; omega) _ _ rfl rfl rfl rfl ?_; intro v2 w2 p2 g2; have P2 : Hid (PrB w.heap.size w2 v2 (l.take cap)) := p2; have G2 := hid (grown_ob' (grown_alloc G1.out _) g2 (fun r e => own_ge (prB_none w1 G1.out.size) e)); clear p2 g2)
        | (at_builtin; refine append_prs w.heap.size (l.take cap) [(k, x)] 1 v2 ⟨w2.heap.size, 0, none⟩ _ rfl (P2.out.kept (grown_alloc (grown_refl _ _) _)) (pr_cells w2 k x) (by rw [TL.out.1]; simp; omega) (by have := G2.out.size; rw [size_alloc]; omega) _ _ rfl rfl rfl rfl ?_; intro v3 w3 p3 g3; have P3 := hid p3; have G3 := hid (grown_ob' (grown_alloc G2.out _) g3 (fun r e => own_ge P2.out e)); clear p3 g3)
        | (at_builtin; refine append_prs w.heap.size (l.take cap ++ [(k, x)]) (l.drop cap) (0) v3 ⟨g, 0, none⟩ _ RL.out.1 P3.out (RC.out _ G3.out) (by rw [RL.out.1, List.length_append, TL.out.1]; simp; omega) G3.out.size _ _ rfl rfl rfl rfl ?_; intro v4 w4 p4 g4; have P4 := hid p4; have G4 := hid (grown_ob' G3.out g4 (fun r e => own_ge P3.out e)); clear p4 g4))
      go_ret
      refine ⟨v4, rfl, ?_, G4.out⟩
      have e := HPost.out.1
      subst e
      have h4 := P4.out.mono hb
      rw [List.append_assoc] at h4
      exact h4
    · skip
      have RC : Hid (∀ W, w.grownBy W none → ∀ j u, (prsL (l.drop F))[j]? = some u → W.cell? ((⟨g, F * 2, none⟩ : Addr).add j) = some u) := fun W hW j u hj => by
        rw [add_at]
        exact (H.out.kept hW).cells _ _ (prsL_drop (by omega) hj)
      have RL : Hid ((l.drop F).length = l.length - F ∧ True) := ⟨by rw [List.length_drop], trivial⟩
      go_wp2_with (first
        | (go_at_call 22; refine C22.out.mono ?_; rintro e w1 ⟨rfl, g1⟩; have G1 := hid g1; clear g1)
        | (at_builtin; refine append_prs w.heap.size [] (l.take F) F _ ⟨g, 0, none⟩ _ TL.out.1 (prB_none w1 G1.out.size) (TC.out _ (grown_alloc G1.out _)) (by rw [TL.out.1, List.length_nil]; omega) (by have := G1.out.size; rw [size_alloc]; omega) _ _ rfl rfl rfl rfl ?_; intro v2 w2 p2 g2; have P2 : Hid (PrB w.heap.size w2 v2 (l.take F)) := p2; have G2 := hid (grown_ob' (grown_alloc G1.out _) g2 (fun r e => own_ge (prB_none w1 G1.out.size) e)); clear p2 g2)
        | (at_builtin; refine append_prs w.heap.size (l.take F) [(k, x)] 1 v2 ⟨w2.heap.size, 0, none⟩ _ rfl (P2.out.kept (grown_alloc (grown_refl _ _) _)) (pr_cells w2 k x) (by rw [TL.out.1]; simp; omega) (by have := G2.out.size; rw [size_alloc]; omega) _ _ rfl rfl rfl rfl ?_; intro v3 w3 p3 g3; have P3 := hid p3; have G3 := hid (grown_ob' (grown_alloc G2.out _) g3 (fun r e => own_ge P2.out e)); clear p3 g3)
        | (at_builtin; refine append_prs w.heap.size (l.take F ++ [(k, x)]) (l.drop F) (l.length - F) v3 ⟨g, F * 2, none⟩ _ RL.out.1 P3.out (RC.out _ G3.out) (by rw [RL.out.1, List.length_append, TL.out.1]; simp; omega) G3.out.size _ _ rfl rfl rfl rfl ?_; intro v4 w4 p4 g4; have P4 := hid p4; have G4 := hid (grown_ob' G3.out g4 (fun r e => own_ge P3.out e)); clear p4 g4))
      go_ret
      refine ⟨v4, rfl, ?_, G4.out⟩
      have e := HPost.out.1
      subst e
      have h4 := P4.out.mono hb
      rw [List.append_assoc] at h4
      exact h4
  · have hlt := his rfl
    have hn0 : ¬ cap = F := by omega
    by_cases hcF : cap = F + 1
    · subst hcF
      skip
      have RC : Hid (∀ W, w.grownBy W none → ∀ j u, (prsL (l.drop (F + 1)))[j]? = some u → W.cell? ((⟨g, 0, none⟩ : Addr).add j) = some u) := fun W hW j u hj => by
        have e0 : l.drop (F + 1) = [] := List.drop_eq_nil_of_le (by omega)
        rw [e0] at hj
        cases hj
      have RL : Hid ((l.drop (F + 1)).length = 0 ∧ True) := ⟨by rw [List.length_drop]; omega, trivial⟩
      go_wp2_with (first
        | (go_at_call 22; refine C22.out.mono ?_; rintro e w1 ⟨rfl, g1⟩; have G1 := hid g1; clear g1)
        | (at_builtin; refine append_prs w.heap.size [] (l.take F) F _ ⟨g, 0, none⟩ _ TL.out.1 (prB_none w1 G1.out.size) (TC.out _ (grown_alloc G1.out _)) (by rw [TL.out.1, List.length_nil]; omega) (by have := G1.out.size; rw [size_alloc]; omega) _ _ rfl rfl rfl rfl ?_; intro v2 w2 p2 g2; have P2 : Hid (PrB w.heap.size w2 v2 (l.take F)) := p2; have G2 := hid (grown_ob' (grown_alloc G1.out _) g2 (fun r e => own_ge (prB_none w1 G1.out.size) e)); clear p2 g2)
        | (at_builtin; refine append_prs w.heap.size (l.take F) [(k, x)] 1 v2 ⟨w2.heap.size, 0, none⟩ _ rfl (P2.out.kept (grown_alloc (grown_refl _ _) _)) (pr_cells w2 k x) (by rw [TL.out.1]; simp; omega) (by have := G2.out.size; rw [size_alloc]; omega) _ _ rfl rfl rfl rfl ?_; intro v3 w3 p3 g3; have P3 := hid p3; have G3 := hid (grown_ob' (grown_alloc G2.out _) g3 (fun r e => own_ge P2.out e)); clear p3 g3)
        | (at_builtin; refine append_prs w.heap.size (l.take F ++ [(k, x)]) (l.drop (F + 1)) (0) v3 ⟨g, 0, none⟩ _ RL.out.1 P3.out (RC.out _ G3.out) (by rw [RL.out.1, List.length_append, TL.out.1]; simp; omega) G3.out.size _ _ rfl rfl rfl rfl ?_; intro v4 w4 p4 g4; have P4 := hid p4; have G4 := hid (grown_ob' G3.out g4 (fun r e => own_ge P3.out e)); clear p4 g4))
      go_ret
      refine ⟨v4, rfl, ?_, G4.out⟩
      have e := HPost.out.1
      subst e
      have h4 := P4.out.mono hb
      rw [List.append_assoc] at h4
      exact h4
    · skip
      have RC : Hid (∀ W, w.grownBy W none → ∀ j u, (prsL (l.drop (F + 1)))[j]? = some u → W.cell? ((⟨g, (F + 1) * 2, none⟩ : Addr).add j) = some u) := fun W hW j u hj => by
        rw [add_at]
        exact (H.out.kept hW).cells _ _ (prsL_drop (by omega) hj)
      have RL : Hid ((l.drop (F + 1)).length = l.length - (F + 1) ∧ True) := ⟨by rw [List.length_drop], trivial⟩
      go_wp2_with (first
        | (go_at_call 22; refine C22.out.mono ?_; rintro e w1 ⟨rfl, g1⟩; have G1 := hid g1; clear g1)
        | (at_builtin; refine append_prs w.heap.size [] (l.take F) F _ ⟨g, 0, none⟩ _ TL.out.1 (prB_none w1 G1.out.size) (TC.out _ (grown_alloc G1.out _)) (by rw [TL.out.1, List.length_nil]; omega) (by have := G1.out.size; rw [size_alloc]; omega) _ _ rfl rfl rfl rfl ?_; intro v2 w2 p2 g2; have P2 : Hid (PrB w.heap.size w2 v2 (l.take F)) := p2; have G2 := hid (grown_ob' (grown_alloc G1.out _) g2 (fun r e => own_ge (prB_none w1 G1.out.size) e)); clear p2 g2)
        | (at_builtin; refine append_prs w.heap.size (l.take F) [(k, x)] 1 v2 ⟨w2.heap.size, 0, none⟩ _ rfl (P2.out.kept (grown_alloc (grown_refl _ _) _)) (pr_cells w2 k x) (by rw [TL.out.1]; simp; omega) (by have := G2.out.size; rw [size_alloc]; omega) _ _ rfl rfl rfl rfl ?_; intro v3 w3 p3 g3; have P3 := hid p3; have G3 := hid (grown_ob' (grown_alloc G2.out _) g3 (fun r e => own_ge P2.out e)); clear p3 g3)
        | (at_builtin; refine append_prs w.heap.size (l.take F ++ [(k, x)]) (l.drop (F + 1)) (l.length - (F + 1)) v3 ⟨g, (F + 1) * 2, none⟩ _ RL.out.1 P3.out (RC.out _ G3.out) (by rw [RL.out.1, List.length_append, TL.out.1]; simp; omega) G3.out.size _ _ rfl rfl rfl rfl ?_; intro v4 w4 p4 g4; have P4 := hid p4; have G4 := hid (grown_ob' G3.out g4 (fun r e => own_ge P3.out e)); clear p4 g4))
      go_ret
      refine ⟨v4, rfl, ?_, G4.out⟩
      have e := HPost.out.1
      subst e
      have h4 := P4.out.mono hb
      rw [List.append_assoc] at h4
      exact h4
end Go.Proofs.YtbhmmcelndmijaaGreat
/-
  The law's model: a list without a key.
-/
namespace Go.Proofs.YtbhmmcelndmijaaGreat
open Go.RowKit Go.Maps Go.Shelf
theorem step_prs {ops : Array Oper} {o : Oper} {a : Act} {w : World} {K : Act → World → Prop} {Q : Exit → Act → World → Prop} {E : Prop} (s x : Operand) (hg : o.guard = none) (ho : o.op = Op.call { callee := Callee.builtin Builtin.append, args := #[s, x], argTypes := #[28, 28] }) (base : Nat) (l m : Prs) (ml : Nat) (v : Value) (ad : Addr) (c : Nat) (hml : m.length = ml) (hrow : PrB base w v l) (hcell : ∀ j u, (prsL m)[j]? = some u → w.cell? (ad.add j) = some u) (hk : l.length + m.length ≤ 1000000) (hbase : base ≤ w.heap.size)
    (hs : a.eval s = v) (hx : a.eval x = .slice (some ad) ml c)
    (hK : ∀ v' w', PrB base w' v' (l ++ m) → w.grownBy w' v.ownBlock → K (a.put o.dst v') w') :
    if Region.wanted o (yielded ops a.tmps) = true then Oper.wp Tryz.prog o a w K Q else E := by
  have hw : Region.wanted o (yielded ops a.tmps) = true := by simp [Region.wanted, hg]
  rw [if_pos hw]
  subst hml
  obtain ⟨i62, hi, hz0, hz1, hz2⟩ := info_parts info62
  refine wp_append_own w s x 28 ho base 62 i62 _ 2 32 Tryz.underlying28 hi hz0 hz1 hz2 rfl (by decide) v l.length (prsL l) hs hrow.owns ad m.length c (prsL m) hx (prsL_len m) hcell (prsL_one m) (by unfold maxLen; omega) (by omega) hbase ?_
  intro v' w' h2 h3 h4
  refine hK v' w' ?_ h3
  rw [← prsL_app] at h2
  rcases h2.2 with ⟨rfl, _⟩ | ⟨g, cap, cur, rfl, q1, q2, q3, q4, q5, q6⟩
  · obtain ⟨g, cap, cur, rfl, _⟩ := hrow
    have := (h4.1 rfl).1
    injection this with t1 _ _
    cases t1
  · refine ⟨g, cap, cur, ?_, q1, q2, ?_, q4, q5, ?_⟩
    · rw [List.length_append]
    · rw [List.length_append]; exact q3
    · rw [List.length_append]; exact q6
theorem PrB.drew {base : Nat} {w : World} {v : Value} {l : Prs} (h : PrB base w v l) : PrB base w.drew v l := h
/-- A list without a key. -/
def lessL (k : ByteArray) (l : Prs) : Prs := if Pa.findIs (l.map Prod.fst) k then l.take (Pa.findN (l.map Prod.fst) k) ++ l.drop (Pa.findN (l.map Prod.fst) k + 1) else l
set_option maxRecDepth 100000 in
set_option maxHeartbeats 4000000 in
theorem mless_any (base : Nat) (v : Value) (l : Prs) (k : ByteArray) (w : World) (h : PrB base w v l) (hl : l.length ≤ 1000) (hb : base ≤ w.heap.size) :
    Calls Tryz.prog 23 #[v, .string k] w (MwP base (lessL k l) w) := by
  have C22 : Hid (Calls Tryz.prog 22 #[v, .string k] w fun e w' => e = .returned (.tuple #[.int .i64 (Pa.findN (l.map Prod.fst) k), .bool (Pa.findIs (l.map Prod.fst) k)]) ∧ w.grownBy w' none) := mfind_any v _ k w h.prv (by omega)
  have hNle := Pa.findN_le (l.map Prod.fst) k
  rw [List.length_map] at hNle
  have his : Pa.findIs (l.map Prod.fst) k = true → Pa.findN (l.map Prod.fst) k < l.length := fun e => by
    apply Nat.lt_of_not_le
    intro hx
    unfold Pa.findIs at e
    rw [List.getElem?_map, List.getElem?_eq_none hx] at e
    cases e
  have HPost : Hid (lessL k l = (if Pa.findIs (l.map Prod.fst) k then l.take (Pa.findN (l.map Prod.fst) k) ++ l.drop (Pa.findN (l.map Prod.fst) k + 1) else l) ∧ True) := ⟨rfl, trivial⟩
  generalize hwl : lessL k l = lw at *
  clear hwl
  have H := hid h
  obtain ⟨g, cap, cur, rfl, hg, hB, hcap, hmax, hcs, hct⟩ := h
  have hgl := hB.lt
  generalize Pa.findN (l.map Prod.fst) k = F at *
  generalize Pa.findIs (l.map Prod.fst) k = is at *
  clear hB hct hcs
  go_enter Tryz.func23, Tryz.ntmps23
  have f0 : (0 : Int) ≤ (F : Int) := by omega
  have f1 : (F : Int) ≤ l.length := by omega
  have f2 : (F : Int).toNat = F := by omega
  have f3 : IntKind.i64.wrap ((F : Int) + 1) = (F : Int) + 1 := by rw [IntKind.wrap_i64]; omega
  have TL : Hid ((l.take F).length = F ∧ True) := ⟨by rw [List.length_take, Nat.min_eq_left hNle], trivial⟩
  have TC : Hid (∀ W, w.grownBy W none → ∀ j u, (prsL (l.take F))[j]? = some u → W.cell? ((⟨g, 0, none⟩ : Addr).add j) = some u) := fun W hW j u hj => by
    rw [add_at, Nat.zero_add]
    exact (H.out.kept hW).cells _ _ (prsL_take hj)
  rcases is with _ | _
  · go_wp2_with (first
      | (go_at_call 22; refine C22.out.mono ?_; rintro e w1 ⟨rfl, g1⟩; have G1 := hid g1; clear g1))
    go_ret
    refine ⟨_, rfl, ?_, G1.out⟩
    have e := HPost.out.1
    subst e
    exact H.out.kept G1.out
  · have hlt := his rfl
    have hlt2 : (F : Int) + 1 ≤ l.length := by omega
    have f4 : (0 : Int) ≤ (F : Int) + 1 := by omega
    have f5 : ((F : Int) + 1).toNat = F + 1 := by omega
    have f6 : (F : Int) ≤ cap := by omega
    have f7 : (F : Int) ≤ (F : Int) + 1 := by omega
    by_cases hcF : cap = F + 1
    · subst hcF
      have RC : Hid (∀ W, w.grownBy W none → ∀ j u, (prsL (l.drop (F + 1)))[j]? = some u → W.cell? ((⟨g, 0, none⟩ : Addr).add j) = some u) := fun W hW j u hj => by
        have e0 : l.drop (F + 1) = [] := List.drop_eq_nil_of_le (by omega)
        rw [e0] at hj
        cases hj
      have RL : Hid ((l.drop (F + 1)).length = 0 ∧ True) := ⟨by rw [List.length_drop]; omega, trivial⟩
      go_wp2_with (first
        | (go_at_call 22; refine C22.out.mono ?_; rintro e w1 ⟨rfl, g1⟩; have G1 := hid g1; clear g1))
      go_region_law (first
        | (refine step_prs (.tmp 16) (.tmp 19) rfl rfl w.heap.size [] (l.take F) F _ ⟨g, 0, none⟩ _ TL.out.1 (PrB.drew (prB_none w1 G1.out.size)) (TC.out _ (grown_drew (grown_alloc G1.out _))) (by rw [TL.out.1, List.length_nil]; omega) (by have := G1.out.size; show w.heap.size ≤ (w1.alloc (.cells #[] 62)).heap.size; rw [size_alloc]; omega) rfl rfl ?_; intro v2 w2 p2 g2; have P2 : Hid (PrB w.heap.size w2 v2 (l.take F)) := p2; have G2 := hid (grown_ob' (grown_drew (grown_alloc G1.out (.cells #[] 62))) g2 (fun r e => own_ge (prB_none w1 G1.out.size) e)); clear p2 g2)
        | (refine step_prs (.tmp 20) (.tmp 24) rfl rfl w.heap.size (l.take F) (l.drop (F + 1)) (0) _ ⟨g, 0, none⟩ _ RL.out.1 P2.out (RC.out _ G2.out) (by rw [RL.out.1, TL.out.1]; omega) G2.out.size rfl rfl ?_; intro v3 w3 p3 g3; have P3 := hid p3; have G3 := hid (grown_ob' G2.out g3 (fun r e => own_ge P2.out e)); clear p3 g3))
      go_wp2_with fail
      go_ret
      refine ⟨_, rfl, ?_, G3.out⟩
      have e := HPost.out.1
      subst e
      exact P3.out.mono hb
    · have RC : Hid (∀ W, w.grownBy W none → ∀ j u, (prsL (l.drop (F + 1)))[j]? = some u → W.cell? ((⟨g, (F + 1) * 2, none⟩ : Addr).add j) = some u) := fun W hW j u hj => by
        rw [add_at]
        exact (H.out.kept hW).cells _ _ (prsL_drop (by omega) hj)
      have RL : Hid ((l.drop (F + 1)).length = l.length - (F + 1) ∧ True) := ⟨by rw [List.length_drop], trivial⟩
      go_wp2_with (first
        | (go_at_call 22; refine C22.out.mono ?_; rintro e w1 ⟨rfl, g1⟩; have G1 := hid g1; clear g1))
      go_region_law (first
        | (refine step_prs (.tmp 16) (.tmp 19) rfl rfl w.heap.size [] (l.take F) F _ ⟨g, 0, none⟩ _ TL.out.1 (PrB.drew (prB_none w1 G1.out.size)) (TC.out _ (grown_drew (grown_alloc G1.out _))) (by rw [TL.out.1, List.length_nil]; omega) (by have := G1.out.size; show w.heap.size ≤ (w1.alloc (.cells #[] 62)).heap.size; rw [size_alloc]; omega) rfl rfl ?_; intro v2 w2 p2 g2; have P2 : Hid (PrB w.heap.size w2 v2 (l.take F)) := p2; have G2 := hid (grown_ob' (grown_drew (grown_alloc G1.out (.cells #[] 62))) g2 (fun r e => own_ge (prB_none w1 G1.out.size) e)); clear p2 g2)
        | (refine step_prs (.tmp 20) (.tmp 24) rfl rfl w.heap.size (l.take F) (l.drop (F + 1)) (l.length - (F + 1)) _ ⟨g, (F + 1) * 2, none⟩ _ RL.out.1 P2.out (RC.out _ G2.out) (by rw [RL.out.1, TL.out.1]; omega) G2.out.size rfl rfl ?_; intro v3 w3 p3 g3; have P3 := hid p3; have G3 := hid (grown_ob' G2.out g3 (fun r e => own_ge P2.out e)); clear p3 g3))
      go_wp2_with fail
      go_ret
      refine ⟨_, rfl, ?_, G3.out⟩
      have e := HPost.out.1
      subst e
      exact P3.out.mono hb
end Go.Proofs.YtbhmmcelndmijaaGreat
/-
  The law's may.
-/
namespace Go.Proofs.YtbhmmcelndmijaaGreat
open Go.RowKit Go.Maps
def mayB (k x : ByteArray) : Bool := decide ((1 : Int) ≤ k.size) && (decide ((k.size : Int) ≤ 64) && decide ((x.size : Int) ≤ 8192))
theorem mayB_iff (k x : ByteArray) : mayB k x = true ↔ KeyOk k ∧ ValOk x := by
  have e : k.toList.length = k.size := by rw [ByteArray.toList_eq]; simp
  unfold mayB KeyOk ValOk
  simp only [Bool.and_eq_true, decide_eq_true_eq]
  constructor
  · rintro ⟨h1, h2, h3⟩
    refine ⟨⟨by omega, fun h => ?_⟩, by omega⟩
    rw [h] at e
    simp at e
    omega
  · rintro ⟨⟨h1, h2⟩, h3⟩
    have : 0 < k.toList.length := List.length_pos_iff.2 h2
    exact ⟨by omega, by omega, by omega⟩
set_option maxRecDepth 100000 in
set_option maxHeartbeats 1000000 in
theorem may_any (c : Int) (k x : ByteArray) (w : World) : Calls Tryz.prog 24 #[.agg #[.int .i64 c, .string k, .string x]] w fun e w' => e = .returned (.bool (mayB k x)) ∧ w.grownBy w' none := by
  obtain ⟨B, hB⟩ : ∃ B, mayB k x = B := ⟨_, rfl⟩
  rw [hB]
  unfold mayB at hB
  by_cases h1 : (1 : Int) ≤ k.size
  · by_cases h2 : (k.size : Int) ≤ 64
    · by_cases h3 : (x.size : Int) ≤ 8192
      · rw [decide_eq_true h1, decide_eq_true h2, decide_eq_true h3] at hB
        subst hB
        go_enter Tryz.func24, Tryz.ntmps24
        go_wp2_with fail
        go_ret
        exact ⟨rfl, grown_alloc (grown_refl _ _) _⟩
      · rw [decide_eq_true h1, decide_eq_true h2, decide_eq_false h3] at hB
        subst hB
        go_enter Tryz.func24, Tryz.ntmps24
        go_wp2_with fail
        go_ret
        exact ⟨rfl, grown_alloc (grown_refl _ _) _⟩
    · rw [decide_eq_true h1, decide_eq_false h2] at hB
      subst hB
      go_enter Tryz.func24, Tryz.ntmps24
      go_wp2_with fail
      go_ret
      exact ⟨rfl, grown_alloc (grown_refl _ _) _⟩
  · rw [decide_eq_false h1] at hB
    subst hB
    go_enter Tryz.func24, Tryz.ntmps24
    go_wp2_with fail
    go_ret
    exact ⟨rfl, grown_alloc (grown_refl _ _) _⟩
end Go.Proofs.YtbhmmcelndmijaaGreat
/-
  The law's one: an act done to a tree and to its model.
-/
namespace Go.Proofs.YtbhmmcelndmijaaGreat
open Go.RowKit Go.Maps Go.Shelf
theorem look_is (k : ByteArray) (l : Prs) : (Bt.look kl k l).isSome = Pa.findIs (l.map Prod.fst) k := by
  rw [look_find]
  cases h : Pa.findIs (l.map Prod.fst) k with
  | false => rfl
  | true =>
    have : Pa.findN (l.map Prod.fst) k < l.length := by
      apply Nat.lt_of_not_le
      intro hx
      unfold Pa.findIs at h
      rw [List.getElem?_map, List.getElem?_eq_none hx] at h
      cases h
    rw [List.getElem?_eq_getElem this]
    rfl
theorem with_ins (k x : ByteArray) (l : Prs) : withL k x l = Bt.ins kl k x l := by
  rw [ins_find k x l]
  unfold withL
  cases Pa.findIs (l.map Prod.fst) k <;> simp
theorem less_del (k : ByteArray) (l : Prs) : lessL k l = Bt.del kl k l := by
  rw [del_find k l]
  unfold lessL
  cases Pa.findIs (l.map Prod.fst) k <;> simp
theorem tt_none {base lb b : Nat} {w w' : World} (h : w.grownBy w' none) : TT base lb b w w' := ⟨h.os, h.tape, h.output, h.size, fun i hi _ _ => h.block i hi (by simp)⟩
theorem tt_keep {base lb b : Nat} {g : Lg} {root : Int} {W W' : World} (hM : StM base b lb g root W) (h : TT base lb b W W') {i : Nat} {cs : Array Value} {t : TypeId} {fz : Nat × Nat} (hi : W.heap[i]? = some (Obj.cells cs t fz)) (h1 : t ≠ 68) (h2 : t ≠ 87) (h3 : t ≠ 111) (h4 : t ≠ 5) : W'.heap[i]? = W.heap[i]? := by
  obtain ⟨m1, m0, vr, vw, m2, _, _⟩ := hM
  have m1' : W.heap[b]? = some (Obj.cells #[.pointer (some ⟨lb, 0, none⟩), .int .i64 root] 68 (0, 0)) := m1
  have m2' : W.heap[lb]? = some (Obj.cells (rowG g.d vr vw g.com g.len g.root g.marked) 87 (0, 0)) := m2
  refine h.keep i (Array.getElem?_eq_some_iff.1 hi).1 (fun e => ?_) (Or.inr ⟨fun e => ?_, fun cs' t' fz' hi' => ?_⟩)
  · subst e
    rw [hi] at m1'
    injection m1' with q
    injection q with q1 q2 q3
    exact h1 q2
  · subst e
    rw [hi] at m2'
    injection m2' with q
    injection q with q1 q2 q3
    exact h2 q2
  · rw [hi] at hi'
    injection hi' with q
    injection q with q1 q2 q3
    subst q2
    exact ⟨h3, h4⟩
theorem PrB.tt {bm base lb b : Nat} {g : Lg} {root : Int} {W W' : World} {v : Value} {l : Prs} (h : PrB bm W v l) (hM : StM base b lb g root W) (ht : TT base lb b W W') : PrB bm W' v l := h.same fun g cur hc => tt_keep hM ht hc (by decide) (by decide) (by decide) (by decide)
theorem Blk.tt {base lb b i : Nat} {g : Lg} {root : Int} {W W' : World} {t : TypeId} {cs : Array Value} (h : Blk W i t cs) (hM : StM base b lb g root W) (ht : TT base lb b W W') (h1 : t ≠ 68) (h2 : t ≠ 87) (h3 : t ≠ 111) (h4 : t ≠ 5) : Blk W' i t cs := (tt_keep hM ht (show W.heap[i]? = some (Obj.cells cs t (0, 0)) from h) h1 h2 h3 h4).trans h
/-- What an act leaves. -/
def OnP (n base bm b lb : Nat) (g : Lg) (w : World) (e : Ending) (w' : World) : Prop := ∃ r2 g2 a2 v', e = .returned (.tuple #[v', .bool true]) ∧ StG (n + 1) r2 g2 a2 ∧ Ext g.recs g2.recs ∧ StM base b lb g2 a2 w' ∧ PrB bm w' v' (Bt.flatR r2) ∧ TT base lb b w w'
theorem is_lt {l : Prs} {k : ByteArray} (e : Pa.findIs (l.map Prod.fst) k = true) : Pa.findN (l.map Prod.fst) k < l.length := by
  apply Nat.lt_of_not_le
  intro hx
  unfold Pa.findIs at e
  rw [List.getElem?_map, List.getElem?_eq_none hx] at e
  cases e
set_option maxRecDepth 100000 in
set_option maxHeartbeats 4000000 in
theorem one_del {n : Nat} {r : Rt} {g : Lg} {root : Int} (hS : StG n r g root) (hn : n < 300) (base bm b lb : Nat) (v : Value) (c : Int) (k x : ByteArray) (w : World) (hM : StM base b lb g root w) (hm : PrB bm w v (Bt.flatR r)) (_hb : bm ≤ w.heap.size) (hc : c = 3 ∨ c = 4) :
    Calls Tryz.prog 9 #[.pointer (some ⟨b, 0, none⟩), v, .agg #[.int .i64 c, .string k, .string x]] w (OnP n base bm b lb g w) := by
  have hfew := hS.few
  have C22 : Hid (∀ W, w.grownBy W none → Calls Tryz.prog 22 #[v, .string k] W fun e w' => e = .returned (.tuple #[.int .i64 (Pa.findN ((Bt.flatR r).map Prod.fst) k), .bool (Pa.findIs ((Bt.flatR r).map Prod.fst) k)]) ∧ W.grownBy w' none) := fun W hW => mfind_any v _ k W (hm.kept hW).prv (by omega)
  have B0 := hid (Blk.new w 32 #[.int .i64 c, .string k, .string x])
  have G0 := hid (grown_alloc (grown_refl w none) (.cells #[.int .i64 c, .string k, .string x] 32))
  have HM := hid hM
  have HP := hid hm
  have HS := hid hS
  obtain ⟨r2, g2, a2, s2, hr2, hx2, h12⟩ := StG.del hS hn base b lb k
  have S2 := hid s2
  have X2 := hid hx2
  have R2 : Hid (Bt.flatR r2 = lessL k (Bt.flatR r) ∧ True) := ⟨by rw [hr2, less_del], trivial⟩
  rw [look_is] at h12
  have C12 := hid h12
  have C23 : Hid (∀ W, PrB bm W v (Bt.flatR r) → bm ≤ W.heap.size → Calls Tryz.prog 23 #[v, .string k] W (MwP bm (lessL k (Bt.flatR r)) W)) := fun W hW hb' => mless_any bm v _ k W hW (by omega) hb'
  clear s2 hx2 hr2 h12 hM hm hS hfew
  generalize Pa.findN ((Bt.flatR r).map Prod.fst) k = F at *
  generalize Pa.findIs ((Bt.flatR r).map Prod.fst) k = is at *
  rcases hc with rfl | rfl
  all_goals
    go_enter Tryz.func9, Tryz.ntmps9
    go_wp2_with (first
      | (go_at_call 22; refine (C22.out _ G0.out).mono ?_; rintro e w1 ⟨rfl, g1⟩; have G1 := hid (grown_none G0.out g1); have B1 := hid (B0.out.kept g1 (by simp)); have d0 := B1.out.cell 0; have d1 := B1.out.cell 1; have d2 := B1.out.cell 2; simp at d0 d1 d2; clear g1)
      | (go_at_call 12; refine (C12.out w1 (HM.out.kept G1.out)).mono ?_; rintro e w2 ⟨rfl, m2, t2⟩; have M2 := hid m2; have T2 := hid t2; have P2 := hid ((HP.out.kept G1.out).tt (HM.out.kept G1.out) t2); have B2 := hid (B1.out.tt (HM.out.kept G1.out) t2 (by decide) (by decide) (by decide) (by decide)); have e1 := B2.out.cell 1; simp at e1; clear m2 t2)
      | (go_at_call 23; refine (C23.out w2 P2.out (Nat.le_trans _hb (Nat.le_trans G1.out.size T2.out.size))).mono ?_; rintro e w3 ⟨v3, rfl, p3, g3⟩; have P3 := hid p3; have G3 := hid g3; clear p3 g3))
    refine bodyPost_ret (results_tmp2 rfl _ _ _) rfl ?_
    refine ⟨r2, g2, a2, v3, rfl, S2.out, X2.out, M2.out.kept G3.out, ?_, TT.trans (tt_none G1.out) (TT.trans T2.out (tt_none G3.out))⟩
    rw [R2.out.1]
    exact P3.out
set_option maxRecDepth 100000 in
set_option maxHeartbeats 4000000 in
theorem one_get {n : Nat} {r : Rt} {g : Lg} {root : Int} (hS : StG n r g root) (hn : n < 300) (base bm b lb : Nat) (v : Value) (c : Int) (k x : ByteArray) (w : World) (hM : StM base b lb g root w) (hm : PrB bm w v (Bt.flatR r)) (_hb : bm ≤ w.heap.size) (hc : c = 5) :
    Calls Tryz.prog 9 #[.pointer (some ⟨b, 0, none⟩), v, .agg #[.int .i64 c, .string k, .string x]] w (OnP n base bm b lb g w) := by
  have hfew := hS.few
  have C22 : Hid (∀ W, w.grownBy W none → Calls Tryz.prog 22 #[v, .string k] W fun e w' => e = .returned (.tuple #[.int .i64 (Pa.findN ((Bt.flatR r).map Prod.fst) k), .bool (Pa.findIs ((Bt.flatR r).map Prod.fst) k)]) ∧ W.grownBy w' none) := fun W hW => mfind_any v _ k W (hm.kept hW).prv (by omega)
  have B0 := hid (Blk.new w 32 #[.int .i64 c, .string k, .string x])
  have G0 := hid (grown_alloc (grown_refl w none) (.cells #[.int .i64 c, .string k, .string x] 32))
  have HM := hid hM
  have HP := hid hm
  have HS := hid hS
  have hget := StG.get hS (by omega) base b lb k
  rw [look_is] at hget
  have hlk := look_find k (Bt.flatR r)
  have S2 := hid hS.mono
  have hNle := Pa.findN_le ((Bt.flatR r).map Prod.fst) k
  rw [List.length_map] at hNle
  obtain ⟨gm, cap, cur, rfl, hg, hB, hcap, hmax, hcs, hct⟩ := hm
  have hpc := HP.out.cells
  have hpg := prsL_get (Bt.flatR r)
  clear hB hcs hct hM hS
  subst hc
  cases his : Pa.findIs ((Bt.flatR r).map Prod.fst) k with
  | false =>
    rw [his] at hlk hget C22
    have e0 : Bt.look kl k (Bt.flatR r) = none := hlk
    rw [e0] at hget
    have C21 : Hid (∀ W, w.grownBy W none → Calls Tryz.prog 21 #[.pointer (some ⟨b, 0, none⟩), .string k] W fun e w' => e = .returned (.tuple #[.string ⟨#[]⟩, .int .i64 2]) ∧ W.grownBy w' none) := fun W hW => hget W (HM.out.kept hW)
    clear hlk hget e0 his hpc hpg
    generalize Pa.findN ((Bt.flatR r).map Prod.fst) k = F at *
    generalize hLn : (Bt.flatR r).length = Ln at *
    go_enter Tryz.func9, Tryz.ntmps9
    go_wp2_with (first
      | (go_at_call 22; refine (C22.out _ G0.out).mono ?_; rintro e w1 ⟨rfl, g1⟩; have G1 := hid (grown_none G0.out g1); have B1 := hid (B0.out.kept g1 (by simp)); have d0 := B1.out.cell 0; have d1 := B1.out.cell 1; have d2 := B1.out.cell 2; simp at d0 d1 d2; clear g1)
      | (go_at_call 21; refine (C21.out w1 G1.out).mono ?_; rintro e w2 ⟨rfl, g2⟩; have G2 := hid (grown_none G1.out g2); clear g2))
    refine bodyPost_ret (results_tmp2 rfl _ _ _) rfl ?_
    exact ⟨r, g, root, _, rfl, S2.out, Ext.refl _, HM.out.kept G2.out, HP.out.kept G2.out, tt_none G2.out⟩
  | true =>
    rw [his] at hlk hget C22
    have hlt := is_lt his
    have hx2 := (hpg _ hlt).2
    rw [if_pos rfl, List.getElem?_eq_getElem hlt] at hlk
    have e0 : Bt.look kl k (Bt.flatR r) = some (Bt.flatR r)[Pa.findN ((Bt.flatR r).map Prod.fst) k].2 := hlk
    rw [e0] at hget
    have hcell := hpc _ _ hx2
    clear hlk e0 hpc hpg hx2
    generalize (Bt.flatR r)[Pa.findN ((Bt.flatR r).map Prod.fst) k].2 = y at *
    have C21 : Hid (∀ W, w.grownBy W none → Calls Tryz.prog 21 #[.pointer (some ⟨b, 0, none⟩), .string k] W fun e w' => e = .returned (.tuple #[.string y, .int .i64 0]) ∧ W.grownBy w' none) := fun W hW => hget W (HM.out.kept hW)
    have HC := hid hcell
    clear hget his hcell
    generalize Pa.findN ((Bt.flatR r).map Prod.fst) k = F at *
    generalize hLn : (Bt.flatR r).length = Ln at *
    have f0 : (0 : Int) ≤ (F : Int) := by omega
    have f1 : (F : Int) < Ln := by omega
    have f2 : (F : Int).toNat = F := by omega
    go_enter Tryz.func9, Tryz.ntmps9
    go_wp2_with (first
      | (go_at_call 22; refine (C22.out _ G0.out).mono ?_; rintro e w1 ⟨rfl, g1⟩; have G1 := hid (grown_none G0.out g1); have B1 := hid (B0.out.kept g1 (by simp)); have d0 := B1.out.cell 0; have d1 := B1.out.cell 1; have d2 := B1.out.cell 2; simp at d0 d1 d2; clear g1)
      | (go_at_call 21; refine (C21.out w1 G1.out).mono ?_; rintro e w2 ⟨rfl, g2⟩; have G2 := hid (grown_none G1.out g2); have hy := Pa.cell_kept G2.out HC.out; have hy2 : w2.drew.cell? ⟨gm, F * 2 + 1, none⟩ = some (.string y) := hy; clear g2))
    go_region_held3 (fun V => V.cell? ⟨gm, F * 2 + 1, none⟩ = some (.string y)) (first | assumption | exact hy2 | go_keep) (fail)
    all_goals
      go_wp2_with fail
      refine bodyPost_ret (results_tmp2 rfl _ _ _) rfl ?_
      exact ⟨r, g, root, _, rfl, S2.out, Ext.refl _, HM.out.kept (grown_drew G2.out), HP.out.kept (grown_drew G2.out), tt_none (grown_drew G2.out)⟩
set_option maxRecDepth 100000 in
set_option maxHeartbeats 4000000 in
theorem one_put {n : Nat} {r : Rt} {g : Lg} {root : Int} (hS : StG n r g root) (hn : n < 300) (base bm b lb : Nat) (v : Value) (c : Int) (k x : ByteArray) (w : World) (hM : StM base b lb g root w) (hm : PrB bm w v (Bt.flatR r)) (_hb : bm ≤ w.heap.size) (hk : KeyOk k) (hv : ValOk x) (h3 : ¬ c = 3) (h4 : ¬ c = 4) (h5 : ¬ c = 5) :
    Calls Tryz.prog 9 #[.pointer (some ⟨b, 0, none⟩), v, .agg #[.int .i64 c, .string k, .string x]] w (OnP n base bm b lb g w) := by
  have hfew := hS.few
  have C22 : Hid (∀ W, w.grownBy W none → Calls Tryz.prog 22 #[v, .string k] W fun e w' => e = .returned (.tuple #[.int .i64 (Pa.findN ((Bt.flatR r).map Prod.fst) k), .bool (Pa.findIs ((Bt.flatR r).map Prod.fst) k)]) ∧ W.grownBy w' none) := fun W hW => mfind_any v _ k W (hm.kept hW).prv (by omega)
  have B0 := hid (Blk.new w 32 #[.int .i64 c, .string k, .string x])
  have G0 := hid (grown_alloc (grown_refl w none) (.cells #[.int .i64 c, .string k, .string x] 32))
  have HM := hid hM
  have HP := hid hm
  have HS := hid hS
  obtain ⟨g2, a2, s2, hx2, h12⟩ := StG.put hS hn base b lb k x hk hv
  have S2 := hid s2
  have X2 := hid hx2
  have R2 : Hid (Bt.flatR (Bt.putR kl k x r) = withL k x (Bt.flatR r) ∧ True) := ⟨by rw [(Bt.putR_good ordK k x r hS.good).2, with_ins], trivial⟩
  have C13 := hid h12
  have C17 : Hid (∀ W, PrB bm W v (Bt.flatR r) → bm ≤ W.heap.size → Calls Tryz.prog 17 #[v, .string k, .string x] W (MwP bm (withL k x (Bt.flatR r)) W)) := fun W hW hb' => mwith_any bm v _ k x W hW (by omega) hb'
  have hmay : mayB k x = true := (mayB_iff k x).2 ⟨hk, hv⟩
  have C24 : Hid (∀ W, Calls Tryz.prog 24 #[.agg #[.int .i64 c, .string k, .string x]] W fun e w' => e = .returned (.bool true) ∧ W.grownBy w' none) := fun W => by
    have := may_any c k x W
    rw [hmay] at this
    exact this
  clear s2 hx2 h12 hM hm hS hfew hk hv hmay
  generalize Bt.putR kl k x r = r2 at *
  generalize Pa.findN ((Bt.flatR r).map Prod.fst) k = F at *
  generalize Pa.findIs ((Bt.flatR r).map Prod.fst) k = is at *
  go_enter Tryz.func9, Tryz.ntmps9
  go_wp2_with (first
    | (go_at_call 22; refine (C22.out _ G0.out).mono ?_; rintro e w1 ⟨rfl, g1⟩; have G1 := hid (grown_none G0.out g1); have B1 := hid (B0.out.kept g1 (by simp)); have d0 := B1.out.cell 0; have d1 := B1.out.cell 1; have d2 := B1.out.cell 2; simp at d0 d1 d2; clear g1)
    | (go_at_call 13; refine (C13.out w1 (HM.out.kept G1.out)).mono ?_; rintro e w2 ⟨rfl, m2, t2⟩; have M2 := hid m2; have T2 := hid t2; have P2 := hid ((HP.out.kept G1.out).tt (HM.out.kept G1.out) t2); have B2 := hid (B1.out.tt (HM.out.kept G1.out) t2 (by decide) (by decide) (by decide) (by decide)); have e0 := B2.out.cell 0; have e1 := B2.out.cell 1; have e2 := B2.out.cell 2; simp at e0 e1 e2; clear m2 t2)
    | (go_at_call 24; refine (C24.out w2).mono ?_; rintro e w3 ⟨rfl, g3⟩; have G3 := hid g3; have P3 := hid (P2.out.kept g3); have B3 := hid (B2.out.kept g3 (by simp)); have i1 := B3.out.cell 1; have i2 := B3.out.cell 2; simp at i1 i2; clear g3)
    | (go_at_call 17; refine (C17.out w3 P3.out (Nat.le_trans _hb (Nat.le_trans G1.out.size (Nat.le_trans T2.out.size G3.out.size)))).mono ?_; rintro e w4 ⟨v4, rfl, p4, g4⟩; have P4 := hid p4; have G4 := hid (grown_none G3.out g4); clear p4 g4))
  refine bodyPost_ret (results_tmp2 rfl _ _ _) rfl ?_
  refine ⟨r2, g2, a2, v4, rfl, S2.out, X2.out, M2.out.kept G4.out, ?_, TT.trans (tt_none G1.out) (TT.trans T2.out (tt_none G4.out))⟩
  rw [R2.out.1]
  exact P4.out
set_option maxRecDepth 100000 in
set_option maxHeartbeats 4000000 in
theorem one_no {n : Nat} {r : Rt} {g : Lg} {root : Int} (hS : StG n r g root) (hn : n < 300) (base bm b lb : Nat) (v : Value) (c : Int) (k x : ByteArray) (w : World) (hM : StM base b lb g root w) (hm : PrB bm w v (Bt.flatR r)) (_hb : bm ≤ w.heap.size) (hno : ¬ (KeyOk k ∧ ValOk x)) (h3 : ¬ c = 3) (h4 : ¬ c = 4) (h5 : ¬ c = 5) :
    Calls Tryz.prog 9 #[.pointer (some ⟨b, 0, none⟩), v, .agg #[.int .i64 c, .string k, .string x]] w (OnP n base bm b lb g w) := by
  have hfew := hS.few
  have C22 : Hid (∀ W, w.grownBy W none → Calls Tryz.prog 22 #[v, .string k] W fun e w' => e = .returned (.tuple #[.int .i64 (Pa.findN ((Bt.flatR r).map Prod.fst) k), .bool (Pa.findIs ((Bt.flatR r).map Prod.fst) k)]) ∧ W.grownBy w' none) := fun W hW => mfind_any v _ k W (hm.kept hW).prv (by omega)
  have B0 := hid (Blk.new w 32 #[.int .i64 c, .string k, .string x])
  have G0 := hid (grown_alloc (grown_refl w none) (.cells #[.int .i64 c, .string k, .string x] 32))
  have HM := hid hM
  have HP := hid hm
  have HS := hid hS
  have C13 := hid (StG.putNo hS base b lb k x hno)
  have S2 := hid hS.mono
  have hmay : mayB k x = false := by
    cases h : mayB k x with
    | false => rfl
    | true => exact absurd ((mayB_iff k x).1 h) hno
  have C24 : Hid (∀ W, Calls Tryz.prog 24 #[.agg #[.int .i64 c, .string k, .string x]] W fun e w' => e = .returned (.bool false) ∧ W.grownBy w' none) := fun W => by
    have := may_any c k x W
    rw [hmay] at this
    exact this
  clear hM hm hS hfew hno hmay
  generalize Pa.findN ((Bt.flatR r).map Prod.fst) k = F at *
  generalize Pa.findIs ((Bt.flatR r).map Prod.fst) k = is at *
  go_enter Tryz.func9, Tryz.ntmps9
  go_wp2_with (first
    | (go_at_call 22; refine (C22.out _ G0.out).mono ?_; rintro e w1 ⟨rfl, g1⟩; have G1 := hid (grown_none G0.out g1); have B1 := hid (B0.out.kept g1 (by simp)); have d0 := B1.out.cell 0; have d1 := B1.out.cell 1; have d2 := B1.out.cell 2; simp at d0 d1 d2; clear g1)
    | (go_at_call 13; refine (C13.out w1 (HM.out.kept G1.out)).mono ?_; rintro e w2 ⟨rfl, m2, t2⟩; have M2 := hid m2; have T2 := hid t2; have P2 := hid ((HP.out.kept G1.out).tt (HM.out.kept G1.out) t2); have B2 := hid (B1.out.tt (HM.out.kept G1.out) t2 (by decide) (by decide) (by decide) (by decide)); have e0 := B2.out.cell 0; have e1 := B2.out.cell 1; have e2 := B2.out.cell 2; simp at e0 e1 e2; clear m2 t2)
    | (go_at_call 24; refine (C24.out w2).mono ?_; rintro e w3 ⟨rfl, g3⟩; have G3 := hid g3; have P3 := hid (P2.out.kept g3); clear g3))
  refine bodyPost_ret (results_tmp2 rfl _ _ _) rfl ?_
  exact ⟨r, g, root, v, rfl, S2.out, Ext.refl _, M2.out.kept G3.out, P3.out, TT.trans (tt_none G1.out) (TT.trans T2.out (tt_none G3.out))⟩
theorem one_any {n : Nat} {r : Rt} {g : Lg} {root : Int} (hS : StG n r g root) (hn : n < 300) (base bm b lb : Nat) (v : Value) (c : Int) (k x : ByteArray) (w : World) (hM : StM base b lb g root w) (hm : PrB bm w v (Bt.flatR r)) (hb : bm ≤ w.heap.size) :
    Calls Tryz.prog 9 #[.pointer (some ⟨b, 0, none⟩), v, .agg #[.int .i64 c, .string k, .string x]] w (OnP n base bm b lb g w) := by
  by_cases h3 : c = 3
  · exact one_del hS hn base bm b lb v c k x w hM hm hb (Or.inl h3)
  by_cases h4 : c = 4
  · exact one_del hS hn base bm b lb v c k x w hM hm hb (Or.inr h4)
  by_cases h5 : c = 5
  · exact one_get hS hn base bm b lb v c k x w hM hm hb h5
  by_cases hk : KeyOk k ∧ ValOk x
  · exact one_put hS hn base bm b lb v c k x w hM hm hb hk.1 hk.2 h3 h4 h5
  · exact one_no hS hn base bm b lb v c k x w hM hm hb hk h3 h4 h5
end Go.Proofs.YtbhmmcelndmijaaGreat
/-
  BtreePlays: the law's walk.
-/
namespace Go.Proofs.YtbhmmcelndmijaaGreat
open Go.RowKit Go.Maps
theorem StG.nil {n : Nat} {r : Rt} {g : Lg} {root : Int} (h : StG n r g root) : ((Bt.flatR r).length = 0 ∧ root < 0) ∨ (¬ (Bt.flatR r).length = 0 ∧ ¬ root < 0) := by
  match r, h with
  | none, h =>
    have hr : root = -1 := h.laid
    exact Or.inl ⟨rfl, by omega⟩
  | some ⟨d, t⟩, h =>
    have hr : 0 ≤ root := h.laid.1.1
    have h1 := Bt.deep_root (lt := kl) d t h.good
    have h2 : 1 ≤ 4 ^ d := Nat.one_le_pow _ _ (by decide)
    exact Or.inr ⟨by show ¬ (Bt.flat d t).length = 0; omega, by omega⟩
set_option maxRecDepth 100000 in
set_option maxHeartbeats 40000000 in
theorem plays_law (pa : Option Addr) (n cap g o : Nat) (A : Nat → Ac) (fr : ByteArray) (w : World) (hp : 0 < n → pa = some ⟨g, o, none⟩) (hA : ∀ j, j < n → AcAt w g (o + j * 3) (A j)) (hn : n ≤ 9223372036854775807) : Calls Tryz.prog 3 #[.slice pa n cap, .string fr] w fun e w' => e = .returned (.bool true) ∧ w.grownBy w' none := by
  have C7 := hid (fresh_any w)
  have C8 : Hid (∀ W, Calls Tryz.prog 8 #[] W fun e w' => e = .returned (.bool true) ∧ W.grownBy w' none) := fun W => awake_any W
  have HP := hid hp
  have HA := hid hA
  clear hp hA
  go_enter Tryz.func3, Tryz.ntmps3
  go_wp2_with (first
    | (go_at_call 7; refine C7.out.mono ?_; rintro e w1 ⟨b, lb, d, rfl, hb, t1, l1, g1⟩; have M1 : Hid (StM w.heap.size b lb (newL d) (-1) w1) := ⟨t1, l1⟩; have G1 := hid g1; have HB := hid hb; clear t1 l1 g1 hb C7)
    | (go_at_call 8; refine (C8.out _).mono ?_; rintro e w2 ⟨rfl, g2⟩; have M2 := hid (M1.out.kept g2); have G2 := hid (grown_none G1.out g2); clear g2 C8))
  have S0 := hid (st_new d)
  go_loopg [8, 9, 10] (min n 300) (fun gk s8 s9 s10 wr => ∃ (i : Nat) (r : Rt) (gl : Lg) (root : Int) (m8 : Value), m8 = s8 ∧ s9 = .int .i64 i ∧ i + gk = min n 300 ∧ StG i r gl root ∧ StM w.heap.size b lb gl root wr ∧ PrB w.heap.size wr m8 (Bt.flatR r) ∧ w.grownBy wr none)
  case atStart => exact ⟨0, none, newL d, -1, _, rfl, rfl, by omega, S0.out, M2.out.kept (grown_alloc (grown_refl _ _) _), prB_none w2 G2.out.size, grown_alloc G2.out _⟩
  case round =>
    obtain ⟨i, r, gl, root, m8, rfl, rfl, hi, hs, hm, hpr, hg⟩ := hrel
    have S3 := hid hs
    have M3 := hid hm
    have G3 := hid hg
    have P3 := hid hpr
    clear hs hm hg hpr M1 M2 G1 G2 S0
    have j0 : (0 : Int) ≤ (i : Int) := by omega
    cases gk with
    | zero =>
      have C10 : Hid (∀ f W, wr.grownBy W none → Calls Tryz.prog 10 #[.pointer (some ⟨b, 0, none⟩), m8, .string f] W fun e w' => e = .returned (.bool true) ∧ W.grownBy w' none) := fun f W hW => has_any S3.out (by omega) w.heap.size b lb m8 f W (M3.out.kept hW) (P3.out.kept hW).prv
      have C11 : Hid (∀ W, wr.grownBy W none → Calls Tryz.prog 11 #[.pointer (some ⟨b, 0, none⟩)] W fun e w' => e = .returned (.int .i64 root) ∧ W.grownBy w' none) := fun W hW => root_any b lb root W (M3.out.kept hW).tree
      have hnil := S3.out.nil
      obtain ⟨gm, cm, cur, rfl, _⟩ := P3.out
      generalize (Bt.flatR r).length = Lm at *
      have GZ := hid (grown_refl wr none)
      have hex : (i : Int) < n ∧ ¬ ((i : Int) < 300) ∨ ¬ ((i : Int) < n) := by omega
      rcases hnil with ⟨rfl, hr⟩ | ⟨hl0, hr⟩
      all_goals
        rcases hex with ⟨j1, j2⟩ | j1
        all_goals
          go_wp2_with (first
            | (go_at_call 10; refine (C10.out _ _ GZ.out).mono ?_; rintro e w6 ⟨rfl, hg⟩; replace GZ := hid (grown_none GZ.out hg); clear hg)
            | (go_at_call 11; refine (C11.out _ GZ.out).mono ?_; rintro e w7 ⟨rfl, hg⟩; replace GZ := hid (grown_none GZ.out hg); clear hg))
          go_ret
          refine ⟨?_, grown_none G3.out GZ.out⟩
          first
            | rfl
            | (show Ending.returned (.bool (((Lm : Int) == 0) == decide (root < 0))) = _
               have k1 : ((Lm : Int) == 0) = false := beq_eq_false_iff_ne.2 (by omega)
               have k2 : decide (root < 0) = false := decide_eq_false (by omega)
               rw [k1, k2]
               rfl)
    | succ gk =>
      have j1 : (i : Int) < n := by omega
      have j2 : (i : Int) < 300 := by omega
      have j3 : (i : Int).toNat = i := by omega
      obtain rfl := HP.out (by omega)
      have wi : IntKind.i64.wrap ((i : Int) + 1) = (i : Int) + 1 := by rw [IntKind.wrap_i64]; omega
      have ax := HA.out i (by omega)
      generalize A i = x at *
      obtain ⟨kd, key, val⟩ := x
      obtain ⟨a0, a1, a2'⟩ := ax.kept G3.out
      clear ax HA HP
      simp only [] at a0 a1 a2'
      have C9 := hid (one_any S3.out (by omega) w.heap.size w.heap.size b lb m8 kd key val wr M3.out P3.out G3.out.size)
      clear S3 M3 P3
      go_upto_region 12 with (first
        | (go_at_call 9; refine C9.out.mono ?_; rintro e w5 ⟨r2, g2, a2, v5, rfl, s5, _, m5, p5, tt⟩; have S5 := hid s5; have M5 := hid m5; have P5 := hid p5; have G5 := hid (TT.grown G3.out tt HB.out); clear s5 m5 p5 tt))
      clear C9 a0 a1 a2'
      by_cases c16 : (i : Int) % 16 = 0
      · have q16 : ((i : Int) % 16 = 0) = True := eq_true c16
        clear c16
        have C10 : Hid (Calls Tryz.prog 10 #[.pointer (some ⟨b, 0, none⟩), v5, .string fr] w5 fun e w' => e = .returned (.bool true) ∧ w5.grownBy w' none) := has_any S5.out (by omega) w.heap.size b lb v5 fr w5 M5.out P5.out.prv
        go_wp2_with (first
          | (go_at_call 10; refine C10.out.mono ?_; rintro e w6 ⟨rfl, hg⟩; have G6 := hid hg; clear hg))
        go_roundg gk
        case measure => omega
        case rel => exact ⟨i + 1, r2, g2, a2, v5, rfl, by simp, by omega, S5.out, M5.out.kept G6.out, P5.out.kept G6.out, grown_none G5.out G6.out⟩
      · have q16 : ((i : Int) % 16 = 0) = False := eq_false c16
        clear c16
        go_wp2_with fail
        go_roundg gk
        case measure => omega
        case rel => exact ⟨i + 1, r2, g2, a2, v5, rfl, by simp, by omega, S5.out, M5.out, P5.out, G5.out⟩
end Go.Proofs.YtbhmmcelndmijaaGreat
