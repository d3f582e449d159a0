/-
  Same: two pages held together. Find, Kid: where a key stands, and which kid has it. The law WireLowest walked: of whatever number and whatever count of bytes it answers true, and nothing that was there turns. The document's reader, which goes from hand to hand by value. The document's reader: numbers, counts, texts, marks and the end. Marks, digests and the end: the program's reader and the document's.
-/
import Derived.Test.YtbhmmcelndmijaaGreatPEnc
import Derived.Test.YtbhmmcelndmijaaGreatKPWPutC
import Derived.Laws.ResultCell
import Derived.Laws.Rows
namespace Go.Proofs.YtbhmmcelndmijaaGreat.Pa
open Go.RowKit
theorem calls_with {P : Program} {f : FuncId} {args args' : Array Value} {w : World} {Q : Ending → World → Prop} (e : args' = args) (h : Calls P f args w Q) : Calls P f args' w Q := by
  rw [e]
  exact h
def samePg (p q : Pg) : Bool := (p.leaf == q.leaf) && (eqS p.keys q.keys && (eqS p.vals q.vals && eqI p.kids q.kids))
theorem samePg_iff (p q : Pg) : samePg p q = true ↔ p = q := by
  unfold samePg
  rw [Bool.and_eq_true, Bool.and_eq_true, Bool.and_eq_true, eqS_iff, eqS_iff, eqI_iff, beq_iff_eq]
  cases p; cases q
  simp
end Go.Proofs.YtbhmmcelndmijaaGreat.Pa
namespace Go.Proofs.YtbhmmcelndmijaaGreat.Pa
open Go.RowKit
/-- How many keys stand below one, up to the first that does not. -/
def findN : List ByteArray → ByteArray → Nat
  | [], _ => 0
  | a :: r, k => if Op.bytesLess a.toList k.toList then findN r k + 1 else 0
def findIs (l : List ByteArray) (k : ByteArray) : Bool := match l[findN l k]? with
  | some a => a.toList == k.toList
  | none => false
theorem findN_le : ∀ (l : List ByteArray) (k : ByteArray), findN l k ≤ l.length
  | [], _ => Nat.le_refl _
  | a :: r, k => by
    have := findN_le r k
    unfold findN
    split
    · rw [List.length_cons]; omega
    · omega
theorem findN_lt : ∀ (l : List ByteArray) (n : ByteArray) (k : Nat), (h : k < l.length) → k < findN l n → Op.bytesLess l[k].toList n.toList = true
  | [], _, k, h, _ => absurd h (Nat.not_lt_zero _)
  | p :: r, n, k, h, hk => by
    unfold findN at hk
    by_cases hb : Op.bytesLess p.toList n.toList = true
    · rw [if_pos hb] at hk
      match k, h, hk with
      | 0, _, _ => exact hb
      | k + 1, h, hk => exact findN_lt r n k (by simpa using h) (by omega)
    · rw [if_neg hb] at hk
      omega
theorem findN_at : ∀ (l : List ByteArray) (n : ByteArray), (h : findN l n < l.length) → Op.bytesLess l[findN l n].toList n.toList = false
  | [], _, h => absurd h (Nat.not_lt_zero _)
  | p :: r, n, h => by
    by_cases hb : Op.bytesLess p.toList n.toList = true
    · have e : findN (p :: r) n = findN r n + 1 := by show (if _ then _ else _) = _; rw [if_pos hb]
      have h' : findN r n < r.length := by rw [e] at h; simpa using h
      have ih := findN_at r n h'
      have e2 : (p :: r)[findN (p :: r) n] = r[findN r n] := by
        simp only [e, List.getElem_cons_succ]
      rw [e2]
      exact ih
    · have e : findN (p :: r) n = 0 := by show (if _ then _ else _) = _; rw [if_neg hb]
      have e2 : (p :: r)[findN (p :: r) n] = p := by simp only [e, List.getElem_cons_zero]
      rw [e2]
      simpa using hb
set_option maxRecDepth 100000 in
set_option maxHeartbeats 1000000 in
theorem find_any (v : Value) (p : Pg) (n : ByteArray) (w : World) (h : PgV w v p) (hf : p.fits) : Calls Tryz.prog 43 #[v, .string n] w fun e w' => e = .returned (.tuple #[.int .i64 (findN p.keys n), .bool (findIs p.keys n)]) ∧ w.grownBy w' none := by
  obtain ⟨f1, f2, f3⟩ := hf
  obtain ⟨a, b, c, rfl, ha, hb, hc⟩ := h
  obtain ⟨pa, ca, ga, oa, rfl, pA, cA⟩ := ha
  obtain ⟨pb, cb, gb, ob, rfl, -, -⟩ := hb
  obtain ⟨pc, cc, gc, oc, rfl, -, -⟩ := hc
  obtain ⟨leaf, l, vals, kids⟩ := p
  simp only at *
  have PA : Hid (0 < l.length → pa = some ⟨ga, oa, none⟩) := pA
  have H0 : Hid (∀ i, (h : i < l.length) → w.cell? ⟨ga, oa + i, none⟩ = some (.string l[i])) := cA
  clear pA cA
  have z1 : (l.length : Int) ≤ 9223372036854775807 := by omega
  generalize vals.length = n2 at *
  generalize kids.length = n3 at *
  have hfl := findN_le l n
  have HL := hid (findN_lt l n)
  have HT := hid (findN_at l n)
  obtain ⟨m, em⟩ : ∃ m, findN l n = m := ⟨_, rfl⟩
  obtain ⟨bb, eb⟩ : ∃ bb, findIs l n = bb := ⟨_, rfl⟩
  have EM : Hid (findN l n = m) := em
  have EB : Hid (findIs l n = bb) := eb
  rw [em, eb]
  rw [em] at hfl
  clear em eb
  have BX : Hid (Blk (w.alloc (.cells #[.bool leaf, .slice pa l.length ca, .slice pb n2 cb, .slice pc n3 cc] 70)) w.heap.size 70 #[.bool leaf, .slice pa l.length ca, .slice pb n2 cb, .slice pc n3 cc]) := Blk.new w 70 _
  go_enter Tryz.func43, Tryz.ntmps43
  go_wp2
  go_loopw [11] (fun i wr => ∃ k : Nat, k ≤ m ∧ i = .int .i64 k ∧ Blk wr w.heap.size 70 #[.bool leaf, .slice pa l.length ca, .slice pb n2 cb, .slice pc n3 cc] ∧ w.grownBy wr none) (fun i _ => l.length - (intOf i).toNat)
  case atStart => exact ⟨0, Nat.zero_le _, rfl, BX.out, grown_alloc (grown_refl _ _) _⟩
  case round =>
    obtain ⟨k, hk, rfl, hb, hg⟩ := hrel
    have B := hid hb
    have G := hid hg
    have q1 := hb.cell 1
    simp at q1
    clear hb hg BX
    have k0 : (0 : Int) ≤ k := by omega
    by_cases hlt : k < m
    · have hkl : k < l.length := by omega
      have hp := PA.out (by omega)
      subst hp
      have c0 := cell_kept G.out (H0.out k hkl)
      have hb := HL.out k hkl (by rw [EM.out]; exact hlt)
      have k1 : (k : Int) < l.length := by omega
      clear HL HT H0
      generalize l[k] = a at *
      go_wp2
      go_round
      case rel => exact ⟨k + 1, by omega, by go_num, B.out, G.out⟩
      case measure => simp [intOf]; omega
    · obtain rfl : k = m := by omega
      by_cases hkl : k < l.length
      · have hp := PA.out (by omega)
        subst hp
        have c0 := cell_kept G.out (H0.out k hkl)
        have ht : Op.bytesLess l[k].toList n.toList = false := by
          have hx := HT.out (by rw [EM.out]; exact hkl)
          have e2 : l[findN l n]'(by rw [EM.out]; exact hkl) = l[k] := by simp only [EM.out]
          rw [e2] at hx
          exact hx
        have he : (l[k].toList == n.toList) = bb := by
          rw [← EB.out]
          unfold findIs
          rw [EM.out, List.getElem?_eq_getElem hkl]
        have k1 : (k : Int) < l.length := by omega
        clear HL HT H0
        generalize l[k] = a at *
        go_wp2
        go_ret2
        exact ⟨rfl, G.out⟩
      · have e3 : bb = false := by
          rw [← EB.out]
          unfold findIs
          rw [EM.out, List.getElem?_eq_none (by omega)]
        subst e3
        have k2 : k = l.length := by omega
        have k1 : ¬ (k : Int) < l.length := by omega
        clear HL HT H0 PA
        go_wp2
        go_ret2
        exact ⟨rfl, G.out⟩
set_option maxRecDepth 100000 in
set_option maxHeartbeats 400000 in
theorem kid_any (v : Value) (p : Pg) (n : ByteArray) (w : World) (h : PgV w v p) (hf : p.fits) (hs : p.keys.length ≤ 1000) : Calls Tryz.prog 40 #[v, .string n] w fun e w' => e = .returned (.int .i64 (findN p.keys n + if findIs p.keys n then 1 else 0)) ∧ w.grownBy w' none := by
  have C : Hid (∀ W, w.grownBy W none → Calls Tryz.prog 43 #[v, .string n] W fun e w' => e = .returned (.tuple #[.int .i64 (findN p.keys n), .bool (findIs p.keys n)]) ∧ W.grownBy w' none) := fun W hW => find_any v p n W (h.kept hW) hf
  have hfl := findN_le p.keys n
  have hfl2 : (findN p.keys n : Int) ≤ 1000 := by omega
  have hfl3 : (0 : Int) ≤ findN p.keys n := by omega
  obtain ⟨a, b, c, rfl, ha, hb, hc⟩ := h
  obtain ⟨pa, ca, ga, oa, rfl, -, -⟩ := ha
  obtain ⟨pb, cb, gb, ob, rfl, -, -⟩ := hb
  obtain ⟨pc, cc, gc, oc, rfl, -, -⟩ := hc
  clear hfl hf hs
  generalize p.keys.length = n1 at *
  generalize p.vals.length = n2 at *
  generalize p.kids.length = n3 at *
  generalize p.leaf = l at *
  generalize findN p.keys n = m at *
  generalize findIs p.keys n = x at *
  cases x
  all_goals
    go_enter Tryz.func40, Tryz.ntmps40
    go_wp2_with (go_at_call 43; refine (C.out _ (grown_alloc (grown_refl _ _) _)).mono ?_; rintro e w1 ⟨rfl, hg⟩; have G1 : Hid (w.grownBy w1 none) := grown_none (grown_alloc (grown_refl _ _) _) hg; clear hg C)
    go_ret
    refine ⟨?_, G1.out⟩
    simp
end Go.Proofs.YtbhmmcelndmijaaGreat.Pa
namespace Go.Proofs.YtbhmmcelndmijaaGreat.Pa
open Go.RowKit
theorem extract_all (s : ByteArray) (n : Nat) (h : s.size = n) : s.extract 0 n = s := by
  apply bytes_ext
  rw [ByteArray.data_extract, Array.toList_extract]
  show s.data.toList.extract 0 n = _
  rw [← h, ← bytes_len]
  simp only [List.extract_eq_take_drop, List.drop_zero, Nat.sub_zero, List.take_length]
theorem extract_none (s : ByteArray) (n m : Nat) (h : m ≤ n) : s.extract n m = ⟨#[]⟩ := by
  apply ByteArray.ext
  apply Array.eq_empty_of_size_eq_zero
  show (s.extract n m).size = 0
  rw [ByteArray.size_extract]
  omega
theorem num_at (n k i : Nat) (h : i < k) : ((numS n k).data.getD i 0).toNat = byt n i := by
  have h1 : i < (numL n k).length := by rw [numL_len]; exact h
  have e : (numS n k).data.getD i 0 = (numL n k)[i] := by
    show (numL n k).toArray.getD i 0 = _
    rw [Array.getD_eq_getD_getElem?, List.getElem?_toArray, List.getElem?_eq_getElem h1]
    rfl
  rw [e]
  have := numL_at n k i h1
  omega
theorem le_num (n k : Nat) : ∀ j, j ≤ k → leT (numS n k) j = n % 2 ^ (8 * j)
  | 0, _ => by rw [Nat.mul_zero, Nat.pow_zero, Nat.mod_one]; rfl
  | j + 1, h => by
    show leT (numS n k) j + ((numS n k).data.getD j 0).toNat * 2 ^ (8 * j) = _
    rw [le_num n k j (by omega), num_at n k j (by omega), show 8 * (j + 1) = 8 * j + 8 by omega, Nat.pow_add, Nat.mod_mul]
    unfold byt
    rw [Nat.mul_comm (2 ^ (8 * j))]
end Go.Proofs.YtbhmmcelndmijaaGreat.Pa
namespace Go.Proofs.YtbhmmcelndmijaaGreat.Pa
open Go.RowKit
theorem q_is_store {P : Program} {ops : Array Oper} {rest : List Oper} {o : Oper} {a : Act} {w : World} {Q : Exit → Act → World → Prop} (ty : TypeId) (x y : Operand) (_ho : o.op = .store ty x y) (h : wpList P ops Q (o :: rest) a w) : wpList P ops Q (o :: rest) a w := h
theorem _root_.Go.Proofs.YtbhmmcelndmijaaGreat.Blk.new2P (w : World) (o : Obj) (t : TypeId) (cs : Array Value) : Blk ((w.alloc o).alloc (.cells cs t)) (w.heap.size + 1) t cs := by
  have h := Blk.new (w.alloc o) t cs
  rwa [show (w.alloc o).heap.size = w.heap.size + 1 by simp] at h
/-- Behind an error nothing is left. -/
def Shut (s : ByteArray) (e : Nat) : Prop := e ≠ 0 → s = ⟨#[]⟩
theorem extract_nil (n m : Nat) : (⟨#[]⟩ : ByteArray).extract n m = ⟨#[]⟩ := by
  apply bytes_ext
  rw [ByteArray.data_extract, Array.toList_extract]
  simp
theorem take_shut (s : ByteArray) (e n : Nat) (he : Shut s e) : Shut (takeS s e n) (takeE s e n) := by
  intro h
  unfold takeS takeE at *
  by_cases h1 : s.size < n
  · rw [if_pos h1] at h
    rw [if_pos h1]
    unfold failS
    split
    · next q => exact he (by omega)
    · rfl
  · rw [if_neg h1] at h
    rw [if_neg h1, he h]
    exact extract_nil _ _
theorem fail_shut (s : ByteArray) (e f : Nat) (he : Shut s e) : Shut (failS s e f) (failE e f) := by
  intro h
  unfold failS failE at *
  by_cases h1 : f = 0 ∨ e ≠ 0
  · rw [if_pos h1] at h
    rw [if_pos h1]
    exact he h
  · rw [if_neg h1]
end Go.Proofs.YtbhmmcelndmijaaGreat.Pa
namespace Go.Proofs.YtbhmmcelndmijaaGreat.Pa
open Go.RowKit
theorem le_down (V : ByteArray) (k X c : Nat) (hk : k < V.size) (hV : V.size ≤ 8) (hc : (V[k]'hk).toNat = c) (h : X * 2 ^ (8 * (k + 1)) + leT V (k + 1) = leT V V.size) : (X * 256 + c) * 2 ^ (8 * k) + leT V k = leT V V.size ∧ X < 2 ^ 56 := by
  have e1 : (X * 256 + c) * 2 ^ (8 * k) + leT V k = leT V V.size := by
    rw [← h]
    show _ = X * 2 ^ (8 * (k + 1)) + (leT V k + (V.data.getD k 0).toNat * 2 ^ (8 * k))
    rw [getD_byte V k hk, hc, show 8 * (k + 1) = 8 * k + 8 by omega, Nat.pow_add, Nat.add_mul, Nat.mul_assoc, show (2 : Nat) ^ 8 = 256 from rfl, Nat.mul_comm 256]
    omega
  refine ⟨e1, ?_⟩
  have h1 := leT_lt V V.size
  have h2 : 2 ^ (8 * V.size) ≤ 2 ^ 64 := Nat.pow_le_pow_right (by omega) (by omega)
  have h3 : X * 256 + c ≤ (X * 256 + c) * 2 ^ (8 * k) := Nat.le_mul_of_pos_right _ (Nat.pow_pos (by decide))
  omega
theorem takeV_le (s : ByteArray) (n : Nat) : (takeV s n).size ≤ n := by
  unfold takeV
  split
  · exact Nat.zero_le _
  · rw [ByteArray.size_extract]; omega
theorem cntR_none (s : ByteArray) (e : Nat) (he : Shut s e) (h : takeE s e 4 ≠ 0) : cntR s = 0 := by
  have h1 : s.size < 4 := by
    by_cases h1 : s.size < 4
    · exact h1
    · unfold takeE at h
      rw [if_neg h1] at h
      rw [he h]
      decide
  unfold cntR
  have e4 : takeV s 4 = ⟨#[]⟩ := by unfold takeV; rw [if_pos h1]
  rw [e4]
  rfl
theorem cnt_shut (s : ByteArray) (e : Nat) (most : Int) (he : Shut s e) : Shut (cntS s e most) (cntE s e most) := fail_shut _ _ _ (take_shut _ _ _ he)
end Go.Proofs.YtbhmmcelndmijaaGreat.Pa
namespace Go.Proofs.YtbhmmcelndmijaaGreat.Pa
open Go.RowKit
def bolN (s : ByteArray) : Nat := leT (takeV s 1) (takeV s 1).size
def bolF (s : ByteArray) : Nat := if 1 < bolN s then 6 else 0
def bolS (s : ByteArray) (e : Nat) : ByteArray := failS (takeS s e 1) (takeE s e 1) (bolF s)
def bolE (s : ByteArray) (e : Nat) : Nat := failE (takeE s e 1) (bolF s)
theorem bolN_lt (s : ByteArray) : bolN s < 256 := by
  have h1 := leT_lt (takeV s 1) (takeV s 1).size
  have h2 := takeV_le s 1
  have h3 : 2 ^ (8 * (takeV s 1).size) ≤ 2 ^ 8 := Nat.pow_le_pow_right (by omega) (by omega)
  unfold bolN
  omega
theorem bolN_none (s : ByteArray) (e : Nat) (he : Shut s e) (h : takeE s e 1 ≠ 0) : bolN s = 0 := by
  have h1 : s.size < 1 := by
    by_cases h1 : s.size < 1
    · exact h1
    · unfold takeE at h
      rw [if_neg h1] at h
      rw [he h]
      decide
  unfold bolN
  have e4 : takeV s 1 = ⟨#[]⟩ := by unfold takeV; rw [if_pos h1]
  rw [e4]
  rfl
set_option maxRecDepth 100000 in
set_option maxHeartbeats 400000 in
theorem rbool_any (b : Nat) (s : ByteArray) (a e : Nat) (w : World) (h : Blk w b 141 (rd s a e)) (ha : (a : Int) + (s.size : Int) ≤ 9223372036854775807) : Calls Tryz.prog 75 #[.pointer (some ⟨b, 0, none⟩)] w fun r w' => r = .returned (.bool ((bolN s : Int) == 1)) ∧ Blk w' b 141 (rd (bolS s e) (takeA s a 1) (bolE s e)) ∧ w.grownBy w' (some b) := by
  have C : Hid (Calls Tryz.prog 76 #[.pointer (some ⟨b, 0, none⟩), .int .i64 1] w fun r w' => r = .returned (.int .u64 ((bolN s : Nat) : Int)) ∧ Blk w' b 141 (rd (takeS s e 1) (takeA s a 1) (takeE s e 1)) ∧ w.grownBy w' (some b)) := rnumber_any b s a e 1 w h ha (by omega)
  have hlt := bolN_lt s
  unfold bolS bolE bolF
  generalize bolN s = n at *
  generalize takeS s e 1 = S at *
  generalize takeA s a 1 = A at *
  generalize takeE s e 1 = E at *
  clear h
  have n0 : (n : Int) < 256 := by omega
  have n1 : (0 : Int) ≤ (n : Int) := by omega
  clear hlt
  by_cases hn : 1 < n
  · rw [if_pos hn]
    have h1 : (1 : Int) < (n : Int) := by omega
    have h2 : ((n : Int) == 1) = false := by simp; omega
    clear hn
    go_enter Tryz.func75, Tryz.ntmps75
    go_wp2_with (first | (go_at_call 76; refine C.out.mono ?_; rintro r w1 ⟨rfl, hb1, hg1⟩; have B1 : Hid (Blk w1 b 141 (rd S A E)) := hb1; have G1 : Hid (w.grownBy w1 (some b)) := hg1; clear hb1 hg1) | (go_at_call 80; refine (fail_any b S A E 6 _ B1.out).mono ?_; rintro r w2 ⟨rfl, hb2, hg2⟩; have B2 : Hid (Blk w2 b 141 (rd (failS S E 6) A (failE E 6))) := hb2; have G2 : Hid (w.grownBy w2 (some b)) := grown_trans G1.out hg2; clear hb2 hg2 B1 G1))
    go_ret
    exact ⟨by rw [h2]; rfl, B2.out, G2.out⟩
  · rw [if_neg hn]
    have e1 : failS S E 0 = S := by unfold failS; rw [if_pos (Or.inl rfl)]
    have e2 : failE E 0 = E := by unfold failE; rw [if_pos (Or.inl rfl)]
    rw [e1, e2]
    have h1 : ¬ ((1 : Int) < (n : Int)) := by omega
    clear hn e1 e2
    go_enter Tryz.func75, Tryz.ntmps75
    go_wp2_with (first | (go_at_call 76; refine C.out.mono ?_; rintro r w1 ⟨rfl, hb1, hg1⟩; have B1 : Hid (Blk w1 b 141 (rd S A E)) := hb1; have G1 : Hid (w.grownBy w1 (some b)) := hg1; clear hb1 hg1))
    go_ret
    exact ⟨rfl, B1.out, G1.out⟩
theorem bol_shut (s : ByteArray) (e : Nat) (he : Shut s e) : Shut (bolS s e) (bolE s e) := fail_shut _ _ _ (take_shut _ _ _ he)
end Go.Proofs.YtbhmmcelndmijaaGreat.Pa
