/-
  Spans: which keys may stand at a place of a tree: below. Spans: a page whose keys may stand there is held. What was encoded is decoded again.
-/
import Derived.Test.YtbhmmcelndmijaaGreatKPRbytes
import Derived.Test.YtbhmmcelndmijaaGreatPDecode
import Derived.Test.YtbhmmcelndmijaaGreatKPWUnEq
namespace Go.Proofs.YtbhmmcelndmijaaGreat
open Go.RowKit Pa
theorem size76 : (Tryz.prog.info? 76).map (·.size) = some 2 := by kernel_rfl
theorem results_sp {fn : Func} {p : Tmp} (h : fn.results = #[.cell p 76]) (tmps : Array Value) (w : World) (g : Nat) {x y : Value} (hp : tmps.getD p undef = .pointer (some ⟨g, 0, none⟩)) (hg : Blk w g 76 #[x, y]) : (results fn tmps).run Tryz.prog w = .ok (.agg #[x, y]) w :=
  results_cell_row h _ _ g 76 _ (0, 0) _ hp hg Tryz.underlying76 rfl size76
theorem third (w : World) (a b : Obj) (t : TypeId) (cs : Array Value) : Blk (((w.alloc a).alloc b).alloc (.cells cs t)) (w.heap.size + 1 + 1) t cs := by
  have := Blk.new ((w.alloc a).alloc b) t cs
  rw [World.size_alloc, World.size_alloc] at this
  exact this
def loK (lo : ByteArray) (l : List ByteArray) (k : Nat) : ByteArray := if 0 < k then l.getD (k - 1) ⟨#[]⟩ else lo
def hiK (hi : ByteArray) (l : List ByteArray) (k : Nat) : ByteArray := if k < l.length then l.getD k ⟨#[]⟩ else hi
set_option maxRecDepth 100000 in
set_option maxHeartbeats 1000000 in
theorem below_any (lo hi : ByteArray) (p : Pg) (v : Value) (k : Nat) (w : World) (hv : PgV w v p) (hk : k ≤ p.keys.length) (hl : p.keys.length ≤ 1000000) :
    Calls Tryz.prog 41 #[.agg #[.string lo, .string hi], v, .int .i64 k] w fun e w' => e = .returned (.agg #[.string (loK lo p.keys k), .string (hiK hi p.keys k)]) ∧ w.grownBy w' none := by
  obtain ⟨a, b, c, rfl, ha, hb, hc⟩ := hv
  obtain ⟨pa, ca, ga, oa, rfl, pA, cA⟩ := ha
  obtain ⟨pb, cb, gb, ob, rfl, -, -⟩ := hb
  obtain ⟨pc, cc, gc, oc, rfl, -, -⟩ := hc
  obtain ⟨leaf, l, vals, kids⟩ := p
  simp only at *
  generalize vals.length = n2 at *
  generalize kids.length = n3 at *
  have z1 : (l.length : Int) ≤ 1000000 := by omega
  have z2 : (k : Int) ≤ (l.length : Int) := by omega
  have z0 : (0 : Int) ≤ (k : Int) := by omega
  unfold loK hiK
  have CA : Hid (∀ (q : ByteArray) i, (h : i < l.length) → (((w.alloc (.cells #[.string q, .string hi] 76)).alloc (.cells #[.bool leaf, .slice (some ⟨ga, oa, none⟩) l.length ca, .slice pb n2 cb, .slice pc n3 cc] 70)).alloc (.cells #[.string ⟨#[]⟩, .string ⟨#[]⟩] 76)).cell? ⟨ga, oa + i, none⟩ = some (.string (l.getD i ⟨#[]⟩))) := fun q i h => by
    have := cA i h
    rw [List.getD_eq_getElem?_getD, List.getElem?_eq_getElem h]
    exact cell_kept (grown_alloc (grown_alloc (grown_alloc (grown_refl w none) _) _) _) this
  have PA : Hid (0 < l.length → pa = some ⟨ga, oa, none⟩) := pA
  clear pA cA
  by_cases h0 : 0 < k
  · have hp := PA.out (by omega)
    subst hp
    have c1 := CA.out lo (k - 1) (by omega)
    have h0' : (0 : Int) < (k : Int) := by omega
    by_cases h1 : k < l.length
    · have c2 := CA.out (l.getD (k - 1) ⟨#[]⟩) k h1
      have h1' : (k : Int) < (l.length : Int) := by omega
      rw [if_pos h0, if_pos h1]
      clear CA PA
      generalize l.getD (k - 1) ⟨#[]⟩ = x at *
      generalize l.getD k ⟨#[]⟩ = y at *
      go_enter Tryz.func41, Tryz.ntmps41
      go_wp2
      refine bodyPost_ret (results_sp Tryz.results41 _ _ (w.heap.size + 1 + 1) rfl (third w _ _ 76 _)) rfl ?_
      exact ⟨rfl, grown_alloc (grown_alloc (grown_alloc (grown_refl w none) _) _) _⟩
    · have h1' : ¬ (k : Int) < (l.length : Int) := by omega
      rw [if_pos h0, if_neg h1]
      clear CA PA
      generalize l.getD (k - 1) ⟨#[]⟩ = x at *
      go_enter Tryz.func41, Tryz.ntmps41
      go_wp2
      refine bodyPost_ret (results_sp Tryz.results41 _ _ (w.heap.size + 1 + 1) rfl (third w _ _ 76 _)) rfl ?_
      exact ⟨rfl, grown_alloc (grown_alloc (grown_alloc (grown_refl w none) _) _) _⟩
  · have h0' : ¬ (0 : Int) < (k : Int) := by omega
    by_cases h1 : k < l.length
    · have hp := PA.out (by omega)
      subst hp
      have c2 := CA.out lo k h1
      have h1' : (k : Int) < (l.length : Int) := by omega
      rw [if_neg h0, if_pos h1]
      clear CA PA
      generalize l.getD k ⟨#[]⟩ = y at *
      go_enter Tryz.func41, Tryz.ntmps41
      go_wp2
      refine bodyPost_ret (results_sp Tryz.results41 _ _ (w.heap.size + 1 + 1) rfl (third w _ _ 76 _)) rfl ?_
      exact ⟨rfl, grown_alloc (grown_alloc (grown_alloc (grown_refl w none) _) _) _⟩
    · have h1' : ¬ (k : Int) < (l.length : Int) := by omega
      rw [if_neg h0, if_neg h1]
      clear CA PA
      go_enter Tryz.func41, Tryz.ntmps41
      go_wp2
      refine bodyPost_ret (results_sp Tryz.results41 _ _ (w.heap.size + 1 + 1) rfl (third w _ _ 76 _)) rfl ?_
      exact ⟨rfl, grown_alloc (grown_alloc (grown_alloc (grown_refl w none) _) _) _⟩
end Go.Proofs.YtbhmmcelndmijaaGreat
namespace Go.Proofs.YtbhmmcelndmijaaGreat
open Go.RowKit Pa
/-- May a page's keys stand within the span? -/
structure Holds (lo hi : ByteArray) (p : Pg) : Prop where
  low : ∀ a, p.keys.head? = some a → Op.bytesLess a.toList lo.toList = false ∧ ((a.toList == lo.toList) = false ∨ p.leaf = true)
  high : ∀ a, p.keys.getLast? = some a → hi = ⟨#[]⟩ ∨ Op.bytesLess a.toList hi.toList = true
set_option maxRecDepth 100000 in
set_option maxHeartbeats 1000000 in
theorem holds_any (lo hi : ByteArray) (p : Pg) (v : Value) (w : World) (hv : PgV w v p) (hl : p.keys.length ≤ 1000000) (hH : Holds lo hi p) :
    Calls Tryz.prog 64 #[.agg #[.string lo, .string hi], v] w fun e w' => e = .returned (.bool true) ∧ w.grownBy w' none := by
  obtain ⟨a, b, c, rfl, ha, hb, hc⟩ := hv
  obtain ⟨pa, ca, ga, oa, rfl, pA, cA⟩ := ha
  obtain ⟨pb, cb, gb, ob, rfl, -, -⟩ := hb
  obtain ⟨pc, cc, gc, oc, rfl, -, -⟩ := hc
  obtain ⟨leaf, l, vals, kids⟩ := p
  obtain ⟨hlo, hhi⟩ := hH
  simp only at *
  generalize vals.length = n2 at *
  generalize kids.length = n3 at *
  by_cases h0 : l.length = 0
  · have e : l = [] := List.eq_nil_of_length_eq_zero h0
    subst e
    clear cA pA hlo hhi
    go_enter Tryz.func64, Tryz.ntmps64
    go_wp2
    go_ret
    exact ⟨rfl, grown_alloc (grown_alloc (grown_refl w none) _) _⟩
  · have z1 : (l.length : Int) ≤ 1000000 := by omega
    have z2 : (0 : Int) < (l.length : Int) := by omega
    have hp := pA (by omega)
    subst hp
    have c0 := cA 0 (by omega)
    have c1 := cA (l.length - 1) (by omega)
    obtain ⟨x, hx⟩ : ∃ x, l[0]'(by omega) = x := ⟨_, rfl⟩
    obtain ⟨y, hy⟩ : ∃ y, l[l.length - 1]'(by omega) = y := ⟨_, rfl⟩
    have q1 := hlo x (by rw [List.head?_eq_getElem?, List.getElem?_eq_getElem (by omega), hx])
    have q2 := hhi y (by rw [List.getLast?_eq_getElem?, List.getElem?_eq_getElem (by omega), hy])
    rw [hx] at c0
    rw [hy] at c1
    clear hx hy hlo hhi cA pA
    generalize hn : l.length = n at *
    have G2 := grown_alloc (grown_alloc (grown_refl w none) (.cells #[.string lo, .string hi] 76)) (.cells #[.bool leaf, .slice (some ⟨ga, oa, none⟩) n ca, .slice pb n2 cb, .slice pc n3 cc] 70)
    have d0 := cell_kept G2 c0
    have d1 := cell_kept G2 c1
    have GG : Hid (w.grownBy ((w.alloc (.cells #[.string lo, .string hi] 76)).alloc (.cells #[.bool leaf, .slice (some ⟨ga, oa, none⟩) n ca, .slice pb n2 cb, .slice pc n3 cc] 70)) none) := G2
    have iw : IntKind.i64.wrap ((n : Int) - 1) = (n : Int) - 1 := by rw [IntKind.wrap_i64]; omega
    have iv : ((n : Int) - 1).toNat = n - 1 := by omega
    have i1 : (0 : Int) ≤ (n : Int) - 1 := by omega
    have i2 : (n : Int) - 1 < (n : Int) := by omega
    simp only [Nat.add_zero] at d0
    clear c0 c1 G2 hl h0 hn
    obtain ⟨q1, q3⟩ := q1
    go_enter Tryz.func64, Tryz.ntmps64
    go_wp2_with fail
    go_quiet (fail)
    have hh : hi = ⟨#[]⟩ ∨ (hi ≠ ⟨#[]⟩ ∧ Op.bytesLess y.toList hi.toList = true) := by
      by_cases h : hi = ⟨#[]⟩
      · exact Or.inl h
      · exact Or.inr ⟨h, q2.resolve_left h⟩
    have hq : (x.toList == lo.toList) = false ∨ ((x.toList == lo.toList) = true ∧ leaf = true) := by
      cases hx : (x.toList == lo.toList) with
      | false => exact Or.inl rfl
      | true => exact Or.inr ⟨rfl, q3.resolve_left (by rw [hx]; simp)⟩
    clear q2 q3
    rcases hh with rfl | ⟨h1, h2⟩
    · rcases hq with q3 | ⟨q3, rfl⟩
      · go_wp2_with fail
        go_ret
        exact ⟨rfl, grown_drewN GG.out _⟩
      · go_wp2_with fail
        go_ret
        exact ⟨rfl, grown_drewN GG.out _⟩
    · have h3 : hi.toList ≠ [] := fun e => h1 (toList_inj (e.trans (by decide +kernel)))
      have h4 : (hi.toList == []) = false := by cases hz : hi.toList with | nil => exact absurd hz h3 | cons _ _ => rfl
      have h5 : hi.toList.isEmpty = false := by cases hz : hi.toList with | nil => exact absurd hz h3 | cons _ _ => rfl
      rcases hq with q3 | ⟨q3, rfl⟩
      · go_wp2_with fail
        go_ret
        exact ⟨rfl, grown_drewN GG.out _⟩
      · go_wp2_with fail
        go_ret
        exact ⟨rfl, grown_drewN GG.out _⟩
end Go.Proofs.YtbhmmcelndmijaaGreat
namespace Go.Proofs.YtbhmmcelndmijaaGreat.Pa
open Go.RowKit
def mkS (A : List UInt8) : ByteArray := ⟨A.toArray⟩
theorem mkS_size (A : List UInt8) : (mkS A).size = A.length := mk_size A
theorem mkS_data (s : ByteArray) : mkS s.data.toList = s := by
  apply bytes_ext
  simp [mkS]
theorem front_V (A R : List UInt8) (n : Nat) (h : A.length = n) : takeV (mkS (A ++ R)) n = mkS A := by
  unfold takeV
  rw [if_neg (by rw [mkS_size, List.length_append]; omega)]
  apply bytes_ext
  rw [ext_list]
  show ((A ++ R).toArray.toList.take n).drop 0 = A.toArray.toList
  simp [h]
theorem front_S (A R : List UInt8) (n : Nat) (h : A.length = n) : takeS (mkS (A ++ R)) 0 n = mkS R := by
  unfold takeS
  rw [if_neg (by rw [mkS_size, List.length_append]; omega)]
  apply bytes_ext
  rw [ext_list, mkS_size]
  show ((A ++ R).take (A ++ R).length).drop n = R
  rw [List.take_length, ← h, List.drop_left]
theorem front_E (A R : List UInt8) (n : Nat) (h : A.length = n) : takeE (mkS (A ++ R)) 0 n = 0 := by
  unfold takeE
  rw [if_neg (by rw [mkS_size, List.length_append]; omega)]
theorem fail_s (s : ByteArray) (e : Nat) : failS s e 0 = s := by
  unfold failS
  simp
theorem fail_e (e : Nat) : failE e 0 = e := by
  unfold failE
  simp
theorem num_val (n k : Nat) (h : n < 2 ^ (8 * k)) : leT (mkS (numL n k)) (mkS (numL n k)).size = n := by
  have e : mkS (numL n k) = numS n k := rfl
  rw [mkS_size, numL_len, e, le_num n k k (Nat.le_refl _), Nat.mod_eq_of_lt h]
theorem cnt_front (n : Nat) (R : List UInt8) (m : Int) (hn : n < 4294967296) (hm : (n : Int) ≤ m) : cntN (mkS (numL n 4 ++ R)) 0 m = n ∧ cntS (mkS (numL n 4 ++ R)) 0 m = mkS R ∧ cntE (mkS (numL n 4 ++ R)) 0 m = 0 := by
  have hl := numL_len n 4
  have hE := front_E (numL n 4) R 4 hl
  have hS := front_S (numL n 4) R 4 hl
  have hR : cntR (mkS (numL n 4 ++ R)) = n := by
    unfold cntR
    rw [front_V (numL n 4) R 4 hl]
    exact num_val n 4 (by simpa using hn)
  have hF : cntF (mkS (numL n 4 ++ R)) 0 m = 0 := by
    unfold cntF
    rw [hE, hR, if_neg (by simp), if_neg (by omega)]
  refine ⟨?_, ?_, ?_⟩
  · unfold cntN
    rw [hE, hR, if_neg (by simp), if_neg (by omega)]
  · unfold cntS
    rw [hF, fail_s, hS]
  · unfold cntE
    rw [hF, fail_e, hE]
theorem txt_front (s : ByteArray) (R : List UInt8) (m : Int) (hn : s.size < 4294967296) (hm : (s.size : Int) ≤ m) : txtV (mkS (txL s ++ R)) 0 m = s ∧ txtS (mkS (txL s ++ R)) 0 m = mkS R ∧ txtE (mkS (txL s ++ R)) 0 m = 0 := by
  have e : txL s ++ R = numL s.size 4 ++ (s.data.toList ++ R) := by unfold txL; rw [List.append_assoc]
  obtain ⟨c1, c2, c3⟩ := cnt_front s.size (s.data.toList ++ R) m hn hm
  have hl : s.data.toList.length = s.size := bytes_len s
  rw [e]
  unfold txtV txtS txtE
  rw [c1, c2, c3]
  refine ⟨?_, front_S _ _ _ hl, front_E _ _ _ hl⟩
  rw [front_V _ _ _ hl, mkS_data]
theorem txts_front (m : Int) (R : List UInt8) (l : List ByteArray) (a : Nat) (h : ∀ s ∈ l, s.size < 4294967296 ∧ (s.size : Int) ≤ m) : ∀ k, k ≤ l.length → ∃ a', txtsN m ⟨mkS (txs l ++ R), a, 0⟩ k = (l.take k, ⟨mkS (txs (l.drop k) ++ R), a', 0⟩)
  | 0, _ => ⟨a, by rfl⟩
  | k + 1, hk => by
    obtain ⟨a', ih⟩ := txts_front m R l a h k (by omega)
    have hlt : k < l.length := by omega
    have ed : txs (l.drop k) ++ R = txL l[k] ++ (txs (l.drop (k + 1)) ++ R) := by
      rw [List.drop_eq_getElem_cons hlt]
      unfold txs
      rw [List.flatMap_cons, List.append_assoc]
    obtain ⟨h1, h2⟩ := h l[k] (List.getElem_mem hlt)
    obtain ⟨t1, t2, t3⟩ := txt_front l[k] (txs (l.drop (k + 1)) ++ R) m h1 h2
    refine ⟨txtA (mkS (txs (l.drop k) ++ R)) a' 0 m, ?_⟩
    show ((txtsN m _ k).1 ++ [txtV (txtsN m _ k).2.s (txtsN m _ k).2.e m], txtR m (txtsN m _ k).2) = _
    rw [ih]
    simp only
    unfold txtR
    simp only
    rw [ed, t1, t2, t3, List.take_succ_eq_append_getElem hlt]
theorem cnts_front (m : Int) (R : List UInt8) (l : List Int) (a : Nat) (h : ∀ s ∈ l, 0 ≤ s ∧ s < 4294967296 ∧ s ≤ m) : ∀ k, k ≤ l.length → ∃ a', cntsN m ⟨mkS (nus l ++ R), a, 0⟩ k = (l.take k, ⟨mkS (nus (l.drop k) ++ R), a', 0⟩)
  | 0, _ => ⟨a, by rfl⟩
  | k + 1, hk => by
    obtain ⟨a', ih⟩ := cnts_front m R l a h k (by omega)
    have hlt : k < l.length := by omega
    have ed : nus (l.drop k) ++ R = numL l[k].toNat 4 ++ (nus (l.drop (k + 1)) ++ R) := by
      rw [List.drop_eq_getElem_cons hlt]
      unfold nus
      rw [List.flatMap_cons, List.append_assoc]
    obtain ⟨h1, h2, h3⟩ := h l[k] (List.getElem_mem hlt)
    obtain ⟨t1, t2, t3⟩ := cnt_front l[k].toNat (nus (l.drop (k + 1)) ++ R) m (by omega) (by omega)
    have e1 : ((l[k].toNat : Nat) : Int) = l[k] := by omega
    refine ⟨takeA (mkS (nus (l.drop k) ++ R)) a' 4, ?_⟩
    show ((cntsN m _ k).1 ++ [((cntN (cntsN m _ k).2.s (cntsN m _ k).2.e m : Nat) : Int)], cntRs m (cntsN m _ k).2) = _
    rw [ih]
    simp only
    unfold cntRs
    simp only
    rw [ed, t1, t2, t3, e1, List.take_succ_eq_append_getElem hlt]
theorem bol_front (x : Bool) (R : List UInt8) (a : Nat) : bolN (mkS (numL (if x then 1 else 0) 1 ++ R)) = (if x then 1 else 0) ∧ bolR ⟨mkS (numL (if x then 1 else 0) 1 ++ R), a, 0⟩ = ⟨mkS R, takeA (mkS (numL (if x then 1 else 0) 1 ++ R)) a 1, 0⟩ := by
  have hl := numL_len (if x then 1 else 0) 1
  have hN : bolN (mkS (numL (if x then 1 else 0) 1 ++ R)) = (if x then 1 else 0) := by
    unfold bolN
    rw [front_V _ R 1 hl]
    exact num_val _ 1 (by cases x <;> decide)
  have hF : bolF (mkS (numL (if x then 1 else 0) 1 ++ R)) = 0 := by
    unfold bolF
    rw [hN, if_neg (by cases x <;> decide)]
  refine ⟨hN, ?_⟩
  unfold bolR bolS bolE
  simp only
  rw [hF, fail_s, fail_e, front_S _ R 1 hl, front_E _ R 1 hl]
theorem one_front (n : Nat) (R : List UInt8) (a : Nat) (h : n < 256) : oneN ⟨mkS (numL n 1 ++ R), a, 0⟩ = n ∧ oneR ⟨mkS (numL n 1 ++ R), a, 0⟩ = ⟨mkS R, takeA (mkS (numL n 1 ++ R)) a 1, 0⟩ := by
  have hl := numL_len n 1
  constructor
  · unfold oneN
    simp only
    rw [front_V _ R 1 hl]
    exact num_val _ 1 (by simpa using h)
  · unfold oneR
    simp only
    rw [front_S _ R 1 hl, front_E _ R 1 hl]
theorem may_vals {p : Pg} (h : mayP p = true) : p.leaf = true → p.vals.length = p.keys.length ∧ p.kids = [] := fun hl => by
  unfold mayP restB at h
  rw [hl] at h
  simp only [if_true, Bool.and_eq_true, decide_eq_true_eq] at h
  exact ⟨by omega, List.eq_nil_of_length_eq_zero (by omega)⟩
theorem may_kids {p : Pg} (h : mayP p = true) : p.leaf = false → p.kids.length = p.keys.length + 1 ∧ p.vals = [] := fun hl => by
  unfold mayP restB at h
  rw [hl] at h
  simp only [Bool.false_eq_true, if_false, Bool.and_eq_true, decide_eq_true_eq] at h
  exact ⟨by omega, List.eq_nil_of_length_eq_zero (by omega)⟩
theorem take_enc {p : Pg} (hm : mayP p = true) : ∃ a, takeP ⟨mkS (encL p), 0, 0⟩ = (p, ⟨mkS [], a, 0⟩) := by
  obtain ⟨s1, s2, s3, s4, s5, s6⟩ := may_small hm
  have e0 : encL p = numL (if p.leaf then 1 else 0) 1 ++ (numL p.keys.length 1 ++ (txs p.keys ++ (txs p.vals ++ nus p.kids))) := by
    unfold encL
    simp only [List.append_assoc]
  obtain ⟨b1, b2⟩ := bol_front p.leaf (numL p.keys.length 1 ++ (txs p.keys ++ (txs p.vals ++ nus p.kids))) 0
  obtain ⟨o1, o2⟩ := one_front p.keys.length (txs p.keys ++ (txs p.vals ++ nus p.kids)) (takeA (mkS (numL (if p.leaf then 1 else 0) 1 ++ (numL p.keys.length 1 ++ (txs p.keys ++ (txs p.vals ++ nus p.kids))))) 0 1) (by omega)
  obtain ⟨a1, t1⟩ := txts_front 64 (txs p.vals ++ nus p.kids) p.keys (takeA (mkS (numL p.keys.length 1 ++ (txs p.keys ++ (txs p.vals ++ nus p.kids)))) (takeA (mkS (numL (if p.leaf then 1 else 0) 1 ++ (numL p.keys.length 1 ++ (txs p.keys ++ (txs p.vals ++ nus p.kids))))) 0 1) 1) (fun s hs => by have := s4 s hs; omega) p.keys.length (Nat.le_refl _)
  rw [List.take_length, List.drop_length] at t1
  have t1' : txs [] ++ (txs p.vals ++ nus p.kids) = txs p.vals ++ nus p.kids := rfl
  rw [t1'] at t1
  rw [e0]
  unfold takeP
  simp only
  rw [b1, b2, o1, o2, t1]
  simp only
  cases hl : p.leaf with
  | true =>
    obtain ⟨v1, v2⟩ := may_vals hm hl
    obtain ⟨a2, t2⟩ := txts_front 8192 (nus p.kids) p.vals a1 (fun s hs => by have := s5 s hs; omega) p.vals.length (Nat.le_refl _)
    rw [List.take_length, List.drop_length, v1] at t2
    have t2' : txs [] ++ nus p.kids = [] := by rw [v2]; rfl
    rw [t2'] at t2
    simp only [if_true]
    rw [t2]
    refine ⟨a2, ?_⟩
    simp only
    cases p
    simp only at hl v2
    subst hl; subst v2
    rfl
  | false =>
    obtain ⟨v1, v2⟩ := may_kids hm hl
    obtain ⟨a2, t2⟩ := cnts_front 2147483647 [] p.kids a1 (fun s hs => by have := s6 s hs; omega) p.kids.length (Nat.le_refl _)
    rw [List.take_length, List.drop_length, v1] at t2
    have t2' : nus [] ++ ([] : List UInt8) = [] := rfl
    rw [t2'] at t2
    have t3 : txs p.vals ++ nus p.kids = nus p.kids ++ [] := by rw [v2, List.append_nil]; rfl
    rw [t3]
    simp only [Bool.false_eq_true, if_false]
    rw [if_neg (by decide), t2]
    refine ⟨a2, ?_⟩
    simp only
    cases p
    simp only at hl v2
    subst hl; subst v2
    rfl
theorem dec_enc {p : Pg} (hm : mayP p = true) : decE ⟨(encL p).toArray⟩ = 0 ∧ decP ⟨(encL p).toArray⟩ = p := by
  obtain ⟨a, h⟩ := take_enc hm
  have h' : takeP ⟨⟨(encL p).toArray⟩, 0, 0⟩ = (p, ⟨mkS [], a, 0⟩) := h
  have he : decE ⟨(encL p).toArray⟩ = 0 := by
    unfold decE
    rw [h']
    simp only
    rw [hm]
    rfl
  refine ⟨he, ?_⟩
  unfold decP
  rw [he, h']
  rfl
end Go.Proofs.YtbhmmcelndmijaaGreat.Pa
