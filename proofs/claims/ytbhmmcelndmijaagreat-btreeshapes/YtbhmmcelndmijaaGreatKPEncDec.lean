/-
  A leaf without a key: leafWithout. The document's bytes of a page: those of the program. The bytes of a number that was read out of bytes are these bytes. What was encoded is decoded again.
-/
import Derived.Test.YtbhmmcelndmijaaGreatKLy
import Derived.Test.YtbhmmcelndmijaaGreatPEnc
import Derived.Test.YtbhmmcelndmijaaGreatKPWRefBool
import Derived.Test.YtbhmmcelndmijaaGreatPDecode
namespace Go.Proofs.YtbhmmcelndmijaaGreat
open Go.RowKit Go.Maps
def leafD (p : Pa.Pg) (k : ByteArray) : Pa.Pg :=
  if Pa.findIs p.keys k then { p with keys := p.keys.take (Pa.findN p.keys k) ++ p.keys.drop (Pa.findN p.keys k + 1), vals := p.vals.take (Pa.findN p.keys k) ++ p.vals.drop (Pa.findN p.keys k + 1) } else p
set_option maxRecDepth 100000 in
set_option maxHeartbeats 2000000 in
theorem leafWithout_no (base : Nat) (v : Value) (p : Pa.Pg) (k : ByteArray) (w : World) (h : Pa.PgO w base v p) (hl : p.vals.length = p.keys.length) (hn : p.keys.length ≤ 1000) (hk : p.kids.length ≤ 1000) (his : Pa.findIs p.keys k = false) :
    Calls Tryz.prog 46 #[v, .string k] w fun e w' => ∃ v', e = .returned (.tuple #[v', .bool false]) ∧ Pa.PgO w' base v' p ∧ PT base w w' := by
  have CF : Hid (∀ W, w.grownBy W none → Calls Tryz.prog 43 #[v, .string k] W fun e w' => e = .returned (.tuple #[.int .i64 (Pa.findN p.keys k), .bool false]) ∧ W.grownBy w' none) := fun W hW => by
    have := Pa.find_any v p k W (h.pgV.kept hW) ⟨by omega, by omega, by omega⟩
    rwa [his] at this
  obtain ⟨a, b, c, rfl, hf, h1, h2, h3⟩ := h
  obtain ⟨pa, ca, rfl⟩ := Pa.owns_slice h1
  obtain ⟨pb, cb, rfl⟩ := Pa.owns_slice h2
  obtain ⟨pc, cc, rfl⟩ := Pa.owns_slice h3
  have O1 := hid h1
  have O2 := hid h2
  have O3 := hid h3
  have FF := hid hf
  clear h1 h2 h3 his hf hl
  generalize Pa.findN p.keys k = m at *
  have G0 : Hid (w.grownBy ((w.alloc (.cells #[.bool p.leaf, .slice pa p.keys.length ca, .slice pb p.vals.length cb, .slice pc p.kids.length cc] 70)).alloc (.cells #[.bool false, .slice none 0 0, .slice none 0 0, .slice none 0 0] 70)) none) := grown_alloc (grown_alloc (grown_refl w none) _) _
  have BX : Hid (Blk ((w.alloc (.cells #[.bool p.leaf, .slice pa p.keys.length ca, .slice pb p.vals.length cb, .slice pc p.kids.length cc] 70)).alloc (.cells #[.bool false, .slice none 0 0, .slice none 0 0, .slice none 0 0] 70)) w.heap.size 70 #[.bool p.leaf, .slice pa p.keys.length ca, .slice pb p.vals.length cb, .slice pc p.kids.length cc]) := (Blk.new w 70 _).alloc _
  have BR : Hid (Blk ((w.alloc (.cells #[.bool p.leaf, .slice pa p.keys.length ca, .slice pb p.vals.length cb, .slice pc p.kids.length cc] 70)).alloc (.cells #[.bool false, .slice none 0 0, .slice none 0 0, .slice none 0 0] 70)) (w.heap.size + 1) 70 #[.bool false, .slice none 0 0, .slice none 0 0, .slice none 0 0]) := (by
    have := Blk.new (w.alloc (.cells #[.bool p.leaf, .slice pa p.keys.length ca, .slice pb p.vals.length cb, .slice pc p.kids.length cc] 70)) 70 #[.bool false, .slice none 0 0, .slice none 0 0, .slice none 0 0]
    rw [World.size_alloc] at this
    exact this)
  obtain ⟨P, hP⟩ : ∃ P : Ending → World → Prop, P = fun e w' => ∃ v', e = .returned (.tuple #[v', .bool false]) ∧ Pa.PgO w' base v' p ∧ PT base w w' := ⟨_, rfl⟩
  rw [← hP]
  have HP := hid (And.intro hP trivial)
  clear hP
  go_enter Tryz.func46, Tryz.ntmps46
  go_wp2_with (first
    | (go_at_call 43; refine (CF.out _ G0.out).mono ?_; rintro e w1 ⟨rfl, g1⟩; have G1 := hid (grown_none G0.out g1); have X1 := hid (BX.out.kept g1 (by simp)); have R1 := hid (BR.out.kept g1 (by simp)); have x0 := X1.out.cell 0; have x1 := X1.out.cell 1; have x2 := X1.out.cell 2; have x3 := X1.out.cell 3; simp at x0 x1 x2 x3; clear g1 CF)
    | (refine Pa.q_is_store 70 (.tmp 4) (.tmp 29) rfl ?_; refine Pa.store_pg 70 Pa.size25 (w.heap.size + 1) R1.out _ _ rfl rfl rfl rfl ?_; intro w5 hb5 hg5; have B5 := hid hb5; have G5 := hid hg5; clear hb5 hg5))
  refine bodyPost_ret (Pa.results_pg2 Tryz.results46 _ _ (w.heap.size + 1) rfl B5.out) rfl ?_
  rw [HP.out.1]
  have far5 : ∀ (e : TypeId) (a : Value) (n : Nat) (xs : List Value), e ≠ 70 → w1.ownsRow base e 1 a n xs → w5.ownsRow base e 1 a n xs := fun e a n xs he h => rowG_kept h R1.out (fun q => he q.symm) G5.out
  exact ⟨_, rfl, ⟨_, _, _, rfl, FF.out, far5 _ _ _ _ (by decide) (row_none O1.out G1.out), far5 _ _ _ _ (by decide) (row_none O2.out G1.out), far5 _ _ _ _ (by decide) (row_none O3.out G1.out)⟩, (PT.of_none G1.out).through G5.out (Nat.le_succ _)⟩
set_option maxRecDepth 100000 in
set_option maxHeartbeats 2000000 in
theorem leafWithout_is (base : Nat) (v : Value) (p : Pa.Pg) (k : ByteArray) (w : World) (h : Pa.PgO w base v p) (hl : p.vals.length = p.keys.length) (hn : p.keys.length ≤ 1000) (hk : p.kids.length ≤ 1000) (his : Pa.findIs p.keys k = true) (hlt : Pa.findN p.keys k < p.keys.length) :
    Calls Tryz.prog 46 #[v, .string k] w fun e w' => ∃ v', e = .returned (.tuple #[v', .bool true]) ∧ Pa.PgO w' base v' (leafD p k) ∧ PT base w w' := by
  have eP : leafD p k = { p with keys := p.keys.take (Pa.findN p.keys k) ++ p.keys.drop (Pa.findN p.keys k + 1), vals := p.vals.take (Pa.findN p.keys k) ++ p.vals.drop (Pa.findN p.keys k + 1) } := by unfold leafD; rw [if_pos his]
  rw [eP]
  have CF : Hid (∀ W, w.grownBy W none → Calls Tryz.prog 43 #[v, .string k] W fun e w' => e = .returned (.tuple #[.int .i64 (Pa.findN p.keys k), .bool true]) ∧ W.grownBy w' none) := fun W hW => by
    have := Pa.find_any v p k W (h.pgV.kept hW) ⟨by omega, by omega, by omega⟩
    rwa [his] at this
  obtain ⟨a, b, c, rfl, hf, h1, h2, h3⟩ := h
  obtain ⟨pa, ca, rfl⟩ := Pa.owns_slice h1
  obtain ⟨pb, cb, rfl⟩ := Pa.owns_slice h2
  obtain ⟨pc, cc, rfl⟩ := Pa.owns_slice h3
  have O1 := hid h1
  have O2 := hid h2
  have O3 := hid h3
  have FF := hid hf
  clear h1 h2 h3 his eP hf
  obtain ⟨m, em⟩ : ∃ m, Pa.findN p.keys k = m := ⟨_, rfl⟩
  rw [em] at CF hlt ⊢
  clear em
  have CK : Hid (∀ W u, W.ownsRow base 9 1 u p.keys.length (Pa.strs p.keys) → Calls Tryz.prog 65 #[u, .int .i64 m, .int .i64 (m + 1 : Nat)] W fun e w' => ∃ v', e = .returned v' ∧ w'.ownsRow base 9 1 v' (p.keys.take m ++ p.keys.drop (m + 1)).length (Pa.strs (p.keys.take m ++ p.keys.drop (m + 1))) ∧ W.grownBy w' u.ownBlock ∧ v'.ownBlock = u.ownBlock) := fun W u g1 => Sl.delstring_any base m u p.keys W g1 hlt
  have CV : Hid (∀ W u, W.ownsRow base 9 1 u p.vals.length (Pa.strs p.vals) → Calls Tryz.prog 65 #[u, .int .i64 m, .int .i64 (m + 1 : Nat)] W fun e w' => ∃ v', e = .returned v' ∧ w'.ownsRow base 9 1 v' (p.vals.take m ++ p.vals.drop (m + 1)).length (Pa.strs (p.vals.take m ++ p.vals.drop (m + 1))) ∧ W.grownBy w' u.ownBlock ∧ v'.ownBlock = u.ownBlock) := fun W u g1 => Sl.delstring_any base m u p.vals W g1 (by omega)
  have m0 : (0 : Int) ≤ m := by omega
  have m1 : (m : Int) ≤ 1000 := by omega
  clear hl hlt
  generalize p.keys.take m ++ p.keys.drop (m + 1) = K2 at *
  generalize p.vals.take m ++ p.vals.drop (m + 1) = V2 at *
  have G0 : Hid (w.grownBy ((w.alloc (.cells #[.bool p.leaf, .slice pa p.keys.length ca, .slice pb p.vals.length cb, .slice pc p.kids.length cc] 70)).alloc (.cells #[.bool false, .slice none 0 0, .slice none 0 0, .slice none 0 0] 70)) none) := grown_alloc (grown_alloc (grown_refl w none) _) _
  have BX : Hid (Blk ((w.alloc (.cells #[.bool p.leaf, .slice pa p.keys.length ca, .slice pb p.vals.length cb, .slice pc p.kids.length cc] 70)).alloc (.cells #[.bool false, .slice none 0 0, .slice none 0 0, .slice none 0 0] 70)) w.heap.size 70 #[.bool p.leaf, .slice pa p.keys.length ca, .slice pb p.vals.length cb, .slice pc p.kids.length cc]) := (Blk.new w 70 _).alloc _
  have BR : Hid (Blk ((w.alloc (.cells #[.bool p.leaf, .slice pa p.keys.length ca, .slice pb p.vals.length cb, .slice pc p.kids.length cc] 70)).alloc (.cells #[.bool false, .slice none 0 0, .slice none 0 0, .slice none 0 0] 70)) (w.heap.size + 1) 70 #[.bool false, .slice none 0 0, .slice none 0 0, .slice none 0 0]) := (by
    have := Blk.new (w.alloc (.cells #[.bool p.leaf, .slice pa p.keys.length ca, .slice pb p.vals.length cb, .slice pc p.kids.length cc] 70)) 70 #[.bool false, .slice none 0 0, .slice none 0 0, .slice none 0 0]
    rw [World.size_alloc] at this
    exact this)
  obtain ⟨P, hP⟩ : ∃ P : Ending → World → Prop, P = fun e w' => ∃ v', e = .returned (.tuple #[v', .bool true]) ∧ Pa.PgO w' base v' { p with keys := K2, vals := V2 } ∧ PT base w w' := ⟨_, rfl⟩
  rw [← hP]
  have HP := hid (And.intro hP trivial)
  clear hP
  go_enter Tryz.func46, Tryz.ntmps46
  go_wp2_with (first
    | (go_at_call 43; refine (CF.out _ G0.out).mono ?_; rintro e w1 ⟨rfl, g1⟩; have G1 := hid (grown_none G0.out g1); have X1 := hid (BX.out.kept g1 (by simp)); have R1 := hid (BR.out.kept g1 (by simp)); have x0 := X1.out.cell 0; have x1 := X1.out.cell 1; have x2 := X1.out.cell 2; have x3 := X1.out.cell 3; simp at x0 x1 x2 x3; clear g1 CF))
  refine Pa.calls_at (args := #[.slice pa p.keys.length ca, .int .i64 m, .int .i64 (m + 1 : Nat)]) (by rw [Int.natCast_add]; rfl) ?_
  refine (CK.out _ _ (row_none O1.out G1.out)).mono ?_
  rintro e w2 ⟨u1, rfl, ho2, hg2, hx2⟩
  obtain ⟨qa, da, rfl⟩ := Pa.owns_slice ho2
  have A2 := hid ho2
  have B2 := hid (row_far (row_none O2.out G1.out) (far_symm FF.out) hg2)
  have D2 := hid (row_type (row_none O3.out G1.out) (row_none O1.out G1.out) (by decide) hg2)
  have X2 := hid (blk_row X1.out (row_none O1.out G1.out) (by decide) hg2)
  have R2 := hid (blk_row R1.out (row_none O1.out G1.out) (by decide) hg2)
  have P2 := hid ((PT.of_none (base := base) G1.out).trans (PT.of_own (row_none O1.out G1.out) (Or.inl rfl) hg2))
  have FA : Hid (Pa.Far (.slice qa K2.length da) (.slice pb p.vals.length cb)) := fun y e1 e2 => FF.out y (by rw [← hx2]; exact e1) e2
  clear ho2 hg2 hx2 x0 x1 x2 x3 CK
  have x1 := X2.out.cell 1
  have f1 := X2.out.frozen 1
  simp at x1
  have X3 := hid (X2.out.set 1 (.slice qa K2.length da))
  have GS : Hid (w2.grownBy (w2.setCell ⟨w.heap.size, 1, none⟩ (.slice qa K2.length da)) (some w.heap.size)) := grown_set (grown_refl _ _) 1 _
  have x2 : (w2.setCell ⟨w.heap.size, 1, none⟩ (.slice qa K2.length da)).cell? ⟨w.heap.size, 2, none⟩ = some (.slice pb p.vals.length cb) := X3.out.cell 2
  go_wp2_with fail
  refine Pa.calls_at (args := #[.slice pb p.vals.length cb, .int .i64 m, .int .i64 (m + 1 : Nat)]) (by rw [Int.natCast_add]; rfl) ?_
  have A3 := hid (rowG_kept A2.out X2.out (by decide) GS.out)
  have B3 := hid (rowG_kept B2.out X2.out (by decide) GS.out)
  have D3 := hid (rowG_kept D2.out X2.out (by decide) GS.out)
  have R3 := hid (R2.out.other (a := ⟨w.heap.size, 1, none⟩) (.slice qa K2.length da) (by show w.heap.size + 1 ≠ w.heap.size; omega))
  have P3 := hid (P2.out.through GS.out (Nat.le_refl _))
  generalize (w2.setCell ⟨w.heap.size, 1, none⟩ (.slice qa K2.length da)) = w3 at *
  clear A2 B2 D2 X2 R2 P2 GS x1 f1
  refine (CV.out _ _ B3.out).mono ?_
  rintro e w4 ⟨u2, rfl, ho4, hg4, hx4⟩
  obtain ⟨qb, db, rfl⟩ := Pa.owns_slice ho4
  have B4 := hid ho4
  have A4 := hid (row_far A3.out FA.out hg4)
  have D4 := hid (row_type D3.out B3.out (by decide) hg4)
  have X4 := hid (blk_row X3.out B3.out (by decide) hg4)
  have R4 := hid (blk_row R3.out B3.out (by decide) hg4)
  have P4 := hid (P3.out.trans (PT.of_own B3.out (Or.inl rfl) hg4))
  have F4 : Hid (Pa.Far (.slice qa K2.length da) (.slice qb V2.length db)) := fun y e1 e2 => FA.out y e1 (by rw [← hx4]; exact e2)
  clear ho4 hg4 hx4 CV A3 B3 D3 R3 P3 x2 FA X3
  have x0 := X4.out.cell 0
  have x1 := X4.out.cell 1
  have x2 := X4.out.cell 2
  have x3 := X4.out.cell 3
  have f2 := X4.out.frozen 2
  simp at x0 x1 x2 x3
  have X5 := hid (X4.out.set 2 (.slice qb V2.length db))
  have GS : Hid (w4.grownBy (w4.setCell ⟨w.heap.size, 2, none⟩ (.slice qb V2.length db)) (some w.heap.size)) := grown_set (grown_refl _ _) 2 _
  have R5 := hid (R4.out.other (a := ⟨w.heap.size, 2, none⟩) (.slice qb V2.length db) (by show w.heap.size + 1 ≠ w.heap.size; omega))
  go_wp2_with (refine Pa.q_is_store 70 (.tmp 4) (.tmp 29) rfl ?_; refine Pa.store_pg 70 Pa.size25 (w.heap.size + 1) R5.out _ _ rfl rfl rfl rfl ?_; intro w5 hb5 hg5; have B5 := hid hb5; have G5 := hid hg5; clear hb5 hg5)
  refine bodyPost_ret (Pa.results_pg2 Tryz.results46 _ _ (w.heap.size + 1) rfl B5.out) rfl ?_
  rw [HP.out.1]
  have far5 : ∀ (e : TypeId) (a : Value) (n : Nat) (xs : List Value), e ≠ 70 → w4.ownsRow base e 1 a n xs → w5.ownsRow base e 1 a n xs := fun e a n xs he h => rowG_kept (rowG_kept h X4.out (fun q => he q.symm) GS.out) R5.out (fun q => he q.symm) G5.out
  exact ⟨_, rfl, ⟨_, _, _, rfl, F4.out, far5 _ _ _ _ (by decide) A4.out, far5 _ _ _ _ (by decide) B4.out, far5 _ _ _ _ (by decide) D4.out⟩, (P4.out.through GS.out (Nat.le_refl _)).through G5.out (Nat.le_succ _)⟩
end Go.Proofs.YtbhmmcelndmijaaGreat
namespace Go.Proofs.YtbhmmcelndmijaaGreat.Pa
open Go.RowKit
theorem mk_app (A : List UInt8) (t : ByteArray) : (⟨A.toArray⟩ : ByteArray) ++ t = ⟨(A ++ t.data.toList).toArray⟩ := by
  apply bytes_ext
  simp
theorem mk_size (A : List UInt8) : (⟨A.toArray⟩ : ByteArray).size = A.length := by
  rw [← bytes_len]
theorem tx_data (s : ByteArray) : (numS s.size 4 ++ s).data.toList = txL s := by
  unfold txL
  simp [numS]
end Go.Proofs.YtbhmmcelndmijaaGreat.Pa
namespace Go.Proofs.YtbhmmcelndmijaaGreat.Pa
open Go.RowKit
theorem byt_le (V : ByteArray) (k i : Nat) (h : i < k) : byt (leT V k) i = (V.data.getD i 0).toNat := by
  induction k with
  | zero => omega
  | succ k ih =>
    have hb : (V.data.getD i 0).toNat < 256 := UInt8.toNat_lt _
    have hlt := leT_lt V k
    unfold byt
    show (leT V k + (V.data.getD k 0).toNat * 2 ^ (8 * k)) / 2 ^ (8 * i) % 256 = _
    by_cases e : i = k
    · subst e
      rw [Nat.add_mul_div_right _ _ (Nat.pow_pos (by decide)), Nat.div_eq_of_lt hlt, Nat.zero_add, Nat.mod_eq_of_lt hb]
    · have h2 := ih (by omega)
      unfold byt at h2
      have e2 : 2 ^ (8 * k) = 2 ^ (8 * (k - i)) * 2 ^ (8 * i) := by rw [← Nat.pow_add]; congr 1; omega
      rw [e2, ← Nat.mul_assoc, Nat.add_mul_div_right _ _ (Nat.pow_pos (by decide)), show 8 * (k - i) = 8 * (k - i - 1) + 8 by omega, Nat.pow_add, show (2 : Nat) ^ 8 = 256 from rfl, ← Nat.mul_assoc, Nat.add_mul_mod_self_right, h2]
theorem numS_le (V : ByteArray) (k : Nat) (h : V.size = k) : numS (leT V k) k = V := by
  apply bytes_ext
  rw [numS_list]
  apply List.ext_getElem
  · rw [numL_len, bytes_len, h]
  · intro i h1 h2
    have hi : i < k := by rw [numL_len] at h1; exact h1
    have e1 := numL_at (leT V k) k i h1
    have e2 := byt_le V k i hi
    have e3 : V.data.getD i 0 = V.data.toList[i] := by
      rw [getD_byte V i (by omega)]
      rfl
    rw [e2, e3] at e1
    exact UInt8.toNat_inj.1 (by omega)
theorem takeE_zero (s : ByteArray) (e n : Nat) (h : takeE s e n = 0) : n ≤ s.size ∧ e = 0 := by
  unfold takeE failE at h
  by_cases h1 : s.size < n
  · rw [if_pos h1] at h
    split at h
    · next q => omega
    · omega
  · rw [if_neg h1] at h
    exact ⟨by omega, h⟩
theorem failE_zero (e f : Nat) (h : failE e f = 0) : e = 0 ∧ f = 0 := by
  unfold failE at h
  split at h
  · next q => omega
  · next q => omega
theorem ext_list (s : ByteArray) (p m : Nat) : (s.extract p m).data.toList = (s.data.toList.take m).drop p := by
  rw [ByteArray.data_extract, Array.toList_extract, List.extract_eq_take_drop, List.drop_take]
theorem ext_cut (s : ByteArray) (p n : Nat) (hp : p ≤ s.size) : s.extract p (p + (4 + n)) = (s.extract p s.size).extract 0 4 ++ ((s.extract p s.size).extract 4 (s.extract p s.size).size).extract 0 n := by
  apply bytes_ext
  rw [append_list]
  simp only [ext_list]
  have e1 : s.data.toList.take s.size = s.data.toList := List.take_of_length_le (by rw [bytes_len]; exact Nat.le_refl _)
  have e2 : (s.extract p s.size).size = s.size - p := by rw [ByteArray.size_extract]; omega
  rw [e1, e2, List.drop_take, List.take_of_length_le (l := s.data.toList.drop p) (i := s.size - p) (by rw [List.length_drop, bytes_len]; exact Nat.le_refl _), show p + (4 + n) - p = 4 + n by omega, List.take_add]
  simp
end Go.Proofs.YtbhmmcelndmijaaGreat.Pa
namespace Go.Proofs.YtbhmmcelndmijaaGreat.Pa
open Go.RowKit
def mkS (A : List UInt8) : ByteArray := ⟨A.toArray⟩
theorem mkS_size (A : List UInt8) : (mkS A).size = A.length := mk_size A
theorem mkS_data (s : ByteArray) : mkS s.data.toList = s := by
  apply bytes_ext
  simp [mkS]
theorem front_V (A R : List UInt8) (n : Nat) (h : A.length = n) : takeV (mkS (A ++ R)) n = mkS A := by
  unfold takeV
  rw [if_neg (by rw [mkS_size, List.length_append]; omega)]
  apply bytes_ext
  rw [ext_list]
  show ((A ++ R).toArray.toList.take n).drop 0 = A.toArray.toList
  simp [h]
theorem front_S (A R : List UInt8) (n : Nat) (h : A.length = n) : takeS (mkS (A ++ R)) 0 n = mkS R := by
  unfold takeS
  rw [if_neg (by rw [mkS_size, List.length_append]; omega)]
  apply bytes_ext
  rw [ext_list, mkS_size]
  show ((A ++ R).take (A ++ R).length).drop n = R
  rw [List.take_length, ← h, List.drop_left]
theorem front_E (A R : List UInt8) (n : Nat) (h : A.length = n) : takeE (mkS (A ++ R)) 0 n = 0 := by
  unfold takeE
  rw [if_neg (by rw [mkS_size, List.length_append]; omega)]
theorem fail_s (s : ByteArray) (e : Nat) : failS s e 0 = s := by
  unfold failS
  simp
theorem fail_e (e : Nat) : failE e 0 = e := by
  unfold failE
  simp
theorem num_val (n k : Nat) (h : n < 2 ^ (8 * k)) : leT (mkS (numL n k)) (mkS (numL n k)).size = n := by
  have e : mkS (numL n k) = numS n k := rfl
  rw [mkS_size, numL_len, e, le_num n k k (Nat.le_refl _), Nat.mod_eq_of_lt h]
theorem cnt_front (n : Nat) (R : List UInt8) (m : Int) (hn : n < 4294967296) (hm : (n : Int) ≤ m) : cntN (mkS (numL n 4 ++ R)) 0 m = n ∧ cntS (mkS (numL n 4 ++ R)) 0 m = mkS R ∧ cntE (mkS (numL n 4 ++ R)) 0 m = 0 := by
  have hl := numL_len n 4
  have hE := front_E (numL n 4) R 4 hl
  have hS := front_S (numL n 4) R 4 hl
  have hR : cntR (mkS (numL n 4 ++ R)) = n := by
    unfold cntR
    rw [front_V (numL n 4) R 4 hl]
    exact num_val n 4 (by simpa using hn)
  have hF : cntF (mkS (numL n 4 ++ R)) 0 m = 0 := by
    unfold cntF
    rw [hE, hR, if_neg (by simp), if_neg (by omega)]
  refine ⟨?_, ?_, ?_⟩
  · unfold cntN
    rw [hE, hR, if_neg (by simp), if_neg (by omega)]
  · unfold cntS
    rw [hF, fail_s, hS]
  · unfold cntE
    rw [hF, fail_e, hE]
theorem txt_front (s : ByteArray) (R : List UInt8) (m : Int) (hn : s.size < 4294967296) (hm : (s.size : Int) ≤ m) : txtV (mkS (txL s ++ R)) 0 m = s ∧ txtS (mkS (txL s ++ R)) 0 m = mkS R ∧ txtE (mkS (txL s ++ R)) 0 m = 0 := by
  have e : txL s ++ R = numL s.size 4 ++ (s.data.toList ++ R) := by unfold txL; rw [List.append_assoc]
  obtain ⟨c1, c2, c3⟩ := cnt_front s.size (s.data.toList ++ R) m hn hm
  have hl : s.data.toList.length = s.size := bytes_len s
  rw [e]
  unfold txtV txtS txtE
  rw [c1, c2, c3]
  refine ⟨?_, front_S _ _ _ hl, front_E _ _ _ hl⟩
  rw [front_V _ _ _ hl, mkS_data]
theorem txts_front (m : Int) (R : List UInt8) (l : List ByteArray) (a : Nat) (h : ∀ s ∈ l, s.size < 4294967296 ∧ (s.size : Int) ≤ m) : ∀ k, k ≤ l.length → ∃ a', txtsN m ⟨mkS (txs l ++ R), a, 0⟩ k = (l.take k, ⟨mkS (txs (l.drop k) ++ R), a', 0⟩)
  | 0, _ => ⟨a, by rfl⟩
  | k + 1, hk => by
    obtain ⟨a', ih⟩ := txts_front m R l a h k (by omega)
    have hlt : k < l.length := by omega
    have ed : txs (l.drop k) ++ R = txL l[k] ++ (txs (l.drop (k + 1)) ++ R) := by
      rw [List.drop_eq_getElem_cons hlt]
      unfold txs
      rw [List.flatMap_cons, List.append_assoc]
    obtain ⟨h1, h2⟩ := h l[k] (List.getElem_mem hlt)
    obtain ⟨t1, t2, t3⟩ := txt_front l[k] (txs (l.drop (k + 1)) ++ R) m h1 h2
    refine ⟨txtA (mkS (txs (l.drop k) ++ R)) a' 0 m, ?_⟩
    show ((txtsN m _ k).1 ++ [txtV (txtsN m _ k).2.s (txtsN m _ k).2.e m], txtR m (txtsN m _ k).2) = _
    rw [ih]
    simp only
    unfold txtR
    simp only
    rw [ed, t1, t2, t3, List.take_succ_eq_append_getElem hlt]
theorem cnts_front (m : Int) (R : List UInt8) (l : List Int) (a : Nat) (h : ∀ s ∈ l, 0 ≤ s ∧ s < 4294967296 ∧ s ≤ m) : ∀ k, k ≤ l.length → ∃ a', cntsN m ⟨mkS (nus l ++ R), a, 0⟩ k = (l.take k, ⟨mkS (nus (l.drop k) ++ R), a', 0⟩)
  | 0, _ => ⟨a, by rfl⟩
  | k + 1, hk => by
    obtain ⟨a', ih⟩ := cnts_front m R l a h k (by omega)
    have hlt : k < l.length := by omega
    have ed : nus (l.drop k) ++ R = numL l[k].toNat 4 ++ (nus (l.drop (k + 1)) ++ R) := by
      rw [List.drop_eq_getElem_cons hlt]
      unfold nus
      rw [List.flatMap_cons, List.append_assoc]
    obtain ⟨h1, h2, h3⟩ := h l[k] (List.getElem_mem hlt)
    obtain ⟨t1, t2, t3⟩ := cnt_front l[k].toNat (nus (l.drop (k + 1)) ++ R) m (by omega) (by omega)
    have e1 : ((l[k].toNat : Nat) : Int) = l[k] := by omega
    refine ⟨takeA (mkS (nus (l.drop k) ++ R)) a' 4, ?_⟩
    show ((cntsN m _ k).1 ++ [((cntN (cntsN m _ k).2.s (cntsN m _ k).2.e m : Nat) : Int)], cntRs m (cntsN m _ k).2) = _
    rw [ih]
    simp only
    unfold cntRs
    simp only
    rw [ed, t1, t2, t3, e1, List.take_succ_eq_append_getElem hlt]
theorem bol_front (x : Bool) (R : List UInt8) (a : Nat) : bolN (mkS (numL (if x then 1 else 0) 1 ++ R)) = (if x then 1 else 0) ∧ bolR ⟨mkS (numL (if x then 1 else 0) 1 ++ R), a, 0⟩ = ⟨mkS R, takeA (mkS (numL (if x then 1 else 0) 1 ++ R)) a 1, 0⟩ := by
  have hl := numL_len (if x then 1 else 0) 1
  have hN : bolN (mkS (numL (if x then 1 else 0) 1 ++ R)) = (if x then 1 else 0) := by
    unfold bolN
    rw [front_V _ R 1 hl]
    exact num_val _ 1 (by cases x <;> decide)
  have hF : bolF (mkS (numL (if x then 1 else 0) 1 ++ R)) = 0 := by
    unfold bolF
    rw [hN, if_neg (by cases x <;> decide)]
  refine ⟨hN, ?_⟩
  unfold bolR bolS bolE
  simp only
  rw [hF, fail_s, fail_e, front_S _ R 1 hl, front_E _ R 1 hl]
theorem one_front (n : Nat) (R : List UInt8) (a : Nat) (h : n < 256) : oneN ⟨mkS (numL n 1 ++ R), a, 0⟩ = n ∧ oneR ⟨mkS (numL n 1 ++ R), a, 0⟩ = ⟨mkS R, takeA (mkS (numL n 1 ++ R)) a 1, 0⟩ := by
  have hl := numL_len n 1
  constructor
  · unfold oneN
    simp only
    rw [front_V _ R 1 hl]
    exact num_val _ 1 (by simpa using h)
  · unfold oneR
    simp only
    rw [front_S _ R 1 hl, front_E _ R 1 hl]
theorem may_vals {p : Pg} (h : mayP p = true) : p.leaf = true → p.vals.length = p.keys.length ∧ p.kids = [] := fun hl => by
  unfold mayP restB at h
  rw [hl] at h
  simp only [if_true, Bool.and_eq_true, decide_eq_true_eq] at h
  exact ⟨by omega, List.eq_nil_of_length_eq_zero (by omega)⟩
theorem may_kids {p : Pg} (h : mayP p = true) : p.leaf = false → p.kids.length = p.keys.length + 1 ∧ p.vals = [] := fun hl => by
  unfold mayP restB at h
  rw [hl] at h
  simp only [Bool.false_eq_true, if_false, Bool.and_eq_true, decide_eq_true_eq] at h
  exact ⟨by omega, List.eq_nil_of_length_eq_zero (by omega)⟩
theorem take_enc {p : Pg} (hm : mayP p = true) : ∃ a, takeP ⟨mkS (encL p), 0, 0⟩ = (p, ⟨mkS [], a, 0⟩) := by
  obtain ⟨s1, s2, s3, s4, s5, s6⟩ := may_small hm
  have e0 : encL p = numL (if p.leaf then 1 else 0) 1 ++ (numL p.keys.length 1 ++ (txs p.keys ++ (txs p.vals ++ nus p.kids))) := by
    unfold encL
    simp only [List.append_assoc]
  obtain ⟨b1, b2⟩ := bol_front p.leaf (numL p.keys.length 1 ++ (txs p.keys ++ (txs p.vals ++ nus p.kids))) 0
  obtain ⟨o1, o2⟩ := one_front p.keys.length (txs p.keys ++ (txs p.vals ++ nus p.kids)) (takeA (mkS (numL (if p.leaf then 1 else 0) 1 ++ (numL p.keys.length 1 ++ (txs p.keys ++ (txs p.vals ++ nus p.kids))))) 0 1) (by omega)
  obtain ⟨a1, t1⟩ := txts_front 64 (txs p.vals ++ nus p.kids) p.keys (takeA (mkS (numL p.keys.length 1 ++ (txs p.keys ++ (txs p.vals ++ nus p.kids)))) (takeA (mkS (numL (if p.leaf then 1 else 0) 1 ++ (numL p.keys.length 1 ++ (txs p.keys ++ (txs p.vals ++ nus p.kids))))) 0 1) 1) (fun s hs => by have := s4 s hs; omega) p.keys.length (Nat.le_refl _)
  rw [List.take_length, List.drop_length] at t1
  have t1' : txs [] ++ (txs p.vals ++ nus p.kids) = txs p.vals ++ nus p.kids := rfl
  rw [t1'] at t1
  rw [e0]
  unfold takeP
  simp only
  rw [b1, b2, o1, o2, t1]
  simp only
  cases hl : p.leaf with
  | true =>
    obtain ⟨v1, v2⟩ := may_vals hm hl
    obtain ⟨a2, t2⟩ := txts_front 8192 (nus p.kids) p.vals a1 (fun s hs => by have := s5 s hs; omega) p.vals.length (Nat.le_refl _)
    rw [List.take_length, List.drop_length, v1] at t2
    have t2' : txs [] ++ nus p.kids = [] := by rw [v2]; rfl
    rw [t2'] at t2
    simp only [if_true]
    rw [t2]
    refine ⟨a2, ?_⟩
    simp only
    cases p
    simp only at hl v2
    subst hl; subst v2
    rfl
  | false =>
    obtain ⟨v1, v2⟩ := may_kids hm hl
    obtain ⟨a2, t2⟩ := cnts_front 2147483647 [] p.kids a1 (fun s hs => by have := s6 s hs; omega) p.kids.length (Nat.le_refl _)
    rw [List.take_length, List.drop_length, v1] at t2
    have t2' : nus [] ++ ([] : List UInt8) = [] := rfl
    rw [t2'] at t2
    have t3 : txs p.vals ++ nus p.kids = nus p.kids ++ [] := by rw [v2, List.append_nil]; rfl
    rw [t3]
    simp only [Bool.false_eq_true, if_false]
    rw [if_neg (by decide), t2]
    refine ⟨a2, ?_⟩
    simp only
    cases p
    simp only at hl v2
    subst hl; subst v2
    rfl
theorem dec_enc {p : Pg} (hm : mayP p = true) : decE ⟨(encL p).toArray⟩ = 0 ∧ decP ⟨(encL p).toArray⟩ = p := by
  obtain ⟨a, h⟩ := take_enc hm
  have h' : takeP ⟨⟨(encL p).toArray⟩, 0, 0⟩ = (p, ⟨mkS [], a, 0⟩) := h
  have he : decE ⟨(encL p).toArray⟩ = 0 := by
    unfold decE
    rw [h']
    simp only
    rw [hm]
    rfl
  refine ⟨he, ?_⟩
  unfold decP
  rw [he, h']
  rfl
end Go.Proofs.YtbhmmcelndmijaaGreat.Pa
