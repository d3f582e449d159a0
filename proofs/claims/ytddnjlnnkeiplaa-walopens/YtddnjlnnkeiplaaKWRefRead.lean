/-
  The contract of the document's Number. The contracts that the law WirePuts leans on: few, the document's Text and Hash, the writer's Bool. The law WireLowest walked: of whatever number and whatever count of bytes it answers true, and nothing that was there turns. The document's reader, which goes from hand to hand by value.
-/
import Derived.Test.YtddnjlnnkeiplaaKWText
import Derived.Laws.ResultCell
import Derived.Laws.Rows
namespace Go.Proofs.Ytddnjlnnkeiplaa.Wi
open Go.RowKit
theorem append_list (a b : ByteArray) : (a ++ b).data.toList = a.data.toList ++ b.data.toList := by
  rw [ByteArray.data_append, Array.toList_append]
theorem bytes_ext {a b : ByteArray} (h : a.data.toList = b.data.toList) : a = b := ByteArray.ext (Array.toList_inj.1 h)
theorem one_byte (W : World) (b : Nat) (cap : Nat) (n : Int) (m : Nat) (hm : m < 256) (hn : n = (m : Int)) (h : W.cell? ⟨b, 0, none⟩ = some (.int .u8 n)) :
    (convert 75 9 (.slice (some ⟨b, 0, none⟩) 1 cap)).run Try.prog W = .ok (.string ⟨#[UInt8.ofNat m]⟩) W := by
  have e := run_convert_bytes_back (P := Try.prog) W 75 9 5 ⟨b, 0, none⟩ cap [UInt8.ofNat m] Try.underlying75 Try.underlying5 Try.underlying9 (fun j hj => by
    have hj0 : j = 0 := by simpa using hj
    subst hj0
    rw [add_off, h, hn]
    show some (Value.int .u8 (m : Int)) = some (Value.int .u8 ((UInt8.ofNat m).toNat : Int))
    rw [UInt8.toNat_ofNat', Nat.mod_eq_of_lt hm])
  exact e
theorem div_step (m j : Nat) : m / 2 ^ (8 * j) / 256 = m / 2 ^ (8 * (j + 1)) := by
  rw [Nat.div_div_eq_div_mul, show (256 : Nat) = 2 ^ 8 from rfl, ← Nat.pow_add]
  congr 2
theorem numL_succ (n k : Nat) : numL n (k + 1) = numL n k ++ [UInt8.ofNat (n / 2 ^ (8 * k) % 256)] := by
  unfold numL
  rw [List.range_succ, List.map_append]
  rfl
set_option maxRecDepth 100000 in
set_option maxHeartbeats 400000 in
theorem refNumber_any (n : Nat) (bytes : Int) (w : World) (hn : n < 18446744073709551616) : Calls Try.prog 53 #[.int .u64 n, .int .i64 bytes] w fun e w' => e = .returned (.string (numS n (asked bytes))) ∧ w.grownBy w' none := by
  obtain ⟨k, ek⟩ : ∃ k, asked bytes = k := ⟨_, rfl⟩
  have hk8 : k ≤ 8 := by rw [← ek]; unfold asked; omega
  have hkb : ∀ j : Nat, j < k → (j : Int) < bytes := fun j hj => by rw [← ek] at hj; unfold asked at hj; omega
  have hke : k < 8 → bytes ≤ (k : Int) := fun h => by rw [← ek] at h ⊢; unfold asked at h ⊢; omega
  rw [ek]
  obtain ⟨R, eR⟩ : ∃ R, numS n k = R := ⟨_, rfl⟩
  rw [eR]
  have ER : Hid (numS n k = R) := eR
  have HB : Hid (∀ j : Nat, j < k → (j : Int) < bytes) := hkb
  have HE : Hid (k < 8 → bytes ≤ (k : Int)) := hke
  clear eR ek hkb hke
  go_enter Try.func53, Try.ntmps53
  go_wp2
  go_loopw [0, 5, 6] (fun x v i wr => ∃ (B : ByteArray) (j : Nat), j ≤ k ∧ i = .int .i64 j ∧ x = .int .u64 ((n / 2 ^ (8 * j) : Nat) : Int) ∧ v = .string B ∧ B.data.toList = numL n j ∧ w.grownBy wr none) (fun _ _ i _ => 8 - (intOf i).toNat)
  case atStart =>
    refine ⟨_, 0, Nat.zero_le _, rfl, ?_, rfl, rfl, grown_refl _ _⟩
    rw [Nat.mul_zero, Nat.pow_zero, Nat.div_one]
  case round =>
    obtain ⟨B, j, hj, rfl, rfl, rfl, hB, h3⟩ := hrel
    have H3 : Hid (w.grownBy wr none) := h3
    have HBl : Hid (B.data.toList = numL n j) := hB
    have hBs : B.size = j := by rw [← bytes_len, hB, numL_len]
    have hBi : (B.size : Int) ≤ 8 := by omega
    clear h3 hB
    have hle : n / 2 ^ (8 * j) ≤ n := Nat.div_le_self _ _
    have j0 : (0 : Int) ≤ (j : Int) := by omega
    by_cases hjk : j < k
    · have d1 : (j : Int) < bytes := HB.out j hjk
      have d2 : (j : Int) < 8 := by omega
      have ST : Hid (numL n (j + 1) = numL n j ++ [UInt8.ofNat (n / 2 ^ (8 * j) % 256)]) := numL_succ n j
      have SS : Hid (n / 2 ^ (8 * j) / 256 = n / 2 ^ (8 * (j + 1))) := div_step n j
      generalize n / 2 ^ (8 * j) = x at *
      have x0 : (0 : Int) ≤ (x : Int) := by omega
      have x1 : (x : Int) < 18446744073709551616 := by omega
      have hcv := one_byte (wr.alloc (.cells #[.int .u8 ((x : Int) % 256)] 5)) wr.heap.size 1 ((x : Int) % 256) (x % 256) (by omega) (by omega) (by rw [(Blk.new wr 5 #[.int .u8 ((x : Int) % 256)]).cell]; rfl)
      obtain ⟨V, hV⟩ : ∃ V : ByteArray, V = ⟨#[UInt8.ofNat (x % 256)]⟩ := ⟨_, rfl⟩
      have hVs : V.size = 1 := by rw [hV]; rfl
      have HVl : Hid (V.data.toList = [UInt8.ofNat (x % 256)]) := by
        have e : V.data.toList = [UInt8.ofNat (x % 256)] := by rw [hV]
        exact e
      rw [← hV] at hcv
      clear hV hn hle
      go_wp2
      go_roundw
      case rel =>
        refine ⟨_, j + 1, by omega, by go_num, ?_, rfl, ?_, grown_alloc H3.out _⟩
        · rw [← SS.out]; rfl
        · rw [append_list, HBl.out, HVl.out, ST.out]
      case measure => simp [intOf]; omega
    · have e : j = k := by omega
      subst e
      have eB : B = R := by
        rw [← ER.out]
        exact bytes_ext HBl.out
      subst eB
      clear hn hle
      generalize n / 2 ^ (8 * j) = x at *
      by_cases h8 : j < 8
      · have d1 : ¬ ((j : Int) < bytes) := by have := HE.out h8; omega
        go_wp2
        go_ret
        exact ⟨rfl, H3.out⟩
      · have d2 : ¬ ((j : Int) < 8) := by omega
        by_cases d1 : (j : Int) < bytes
        · go_wp2
          go_ret
          exact ⟨rfl, H3.out⟩
        · go_wp2
          go_ret
          exact ⟨rfl, H3.out⟩
end Go.Proofs.Ytddnjlnnkeiplaa.Wi
namespace Go.Proofs.Ytddnjlnnkeiplaa.Wi
open Go.RowKit
/-- The first 600 bytes at most. -/
def fewS (s : ByteArray) : ByteArray := if 600 < s.size then s.extract 0 600 else s
theorem fewS_size (s : ByteArray) : (fewS s).size ≤ 600 := by
  unfold fewS
  split
  · rw [ByteArray.size_extract]; omega
  · omega
set_option maxRecDepth 100000 in
set_option maxHeartbeats 400000 in
theorem refText_any (s : ByteArray) (w : World) (hs : s.size ≤ 1000000000) : Calls Try.prog 52 #[.string s] w fun e w' => e = .returned (.string (numS s.size 4 ++ s)) ∧ w.grownBy w' none := by
  have C : Hid (∀ w, Calls Try.prog 53 #[.int .u64 s.size, .int .i64 4] w fun e w' => e = .returned (.string (numS s.size 4)) ∧ w.grownBy w' none) := fun w => refNumber_any s.size 4 w (by omega)
  have hz := numS_size s.size 4
  generalize numS s.size 4 = S at *
  have i0 : (s.size : Int) ≤ 1000000000 := by omega
  have i1 : (S.size : Int) = 4 := by omega
  clear hs
  go_enter Try.func52, Try.ntmps52
  go_wp2_with (go_at_call 53; refine (C.out _).mono ?_; rintro e w1 ⟨rfl, hg1⟩; have G1 : Hid (w.grownBy w1 none) := hg1; clear hg1)
  go_ret
  exact ⟨rfl, G1.out⟩
theorem fill_step (s : List UInt8) (j : Nat) : s ++ List.replicate j 0 ++ [0] = s ++ List.replicate (j + 1) 0 := by
  rw [List.replicate_succ', List.append_assoc]
theorem setRow_blk {w : World} {g : Nat} {t : TypeId} {old : Array Value} (hg : Blk w g t old) (cells : Array Value) : Blk (w.setRow g cells) g t cells := setRow_heap w g old cells t (0, 0) hg
theorem setRow_grown (w : World) (g : Nat) (cells : Array Value) : w.grownBy (w.setRow g cells) (some g) :=
  ⟨rfl, rfl, rfl, by simp, fun k _ hn => setRow_other w g k cells (fun e => hn (by rw [e]))⟩
end Go.Proofs.Ytddnjlnnkeiplaa.Wi
namespace Go.Proofs.Ytddnjlnnkeiplaa.Wi
open Go.RowKit
theorem extract_all (s : ByteArray) (n : Nat) (h : s.size = n) : s.extract 0 n = s := by
  apply bytes_ext
  rw [ByteArray.data_extract, Array.toList_extract]
  show s.data.toList.extract 0 n = _
  rw [← h, ← bytes_len]
  simp only [List.extract_eq_take_drop, List.drop_zero, Nat.sub_zero, List.take_length]
theorem extract_none (s : ByteArray) (n m : Nat) (h : m ≤ n) : s.extract n m = ⟨#[]⟩ := by
  apply ByteArray.ext
  apply Array.eq_empty_of_size_eq_zero
  show (s.extract n m).size = 0
  rw [ByteArray.size_extract]
  omega
theorem num_at (n k i : Nat) (h : i < k) : ((numS n k).data.getD i 0).toNat = byt n i := by
  have h1 : i < (numL n k).length := by rw [numL_len]; exact h
  have e : (numS n k).data.getD i 0 = (numL n k)[i] := by
    show (numL n k).toArray.getD i 0 = _
    rw [Array.getD_eq_getD_getElem?, List.getElem?_toArray, List.getElem?_eq_getElem h1]
    rfl
  rw [e]
  have := numL_at n k i h1
  omega
theorem le_num (n k : Nat) : ∀ j, j ≤ k → leT (numS n k) j = n % 2 ^ (8 * j)
  | 0, _ => by rw [Nat.mul_zero, Nat.pow_zero, Nat.mod_one]; rfl
  | j + 1, h => by
    show leT (numS n k) j + ((numS n k).data.getD j 0).toNat * 2 ^ (8 * j) = _
    rw [le_num n k j (by omega), num_at n k j (by omega), show 8 * (j + 1) = 8 * j + 8 by omega, Nat.pow_add, Nat.mod_mul]
    unfold byt
    rw [Nat.mul_comm (2 ^ (8 * j))]
end Go.Proofs.Ytddnjlnnkeiplaa.Wi
namespace Go.Proofs.Ytddnjlnnkeiplaa.Wi
open Go.RowKit
theorem size46 : (Try.prog.info? 93).map (·.size) = some 3 := by kernel_rfl
theorem q_is_store {P : Program} {ops : Array Oper} {rest : List Oper} {o : Oper} {a : Act} {w : World} {Q : Exit → Act → World → Prop} (ty : TypeId) (x y : Operand) (_ho : o.op = .store ty x y) (h : wpList P ops Q (o :: rest) a w) : wpList P ops Q (o :: rest) a w := h
theorem _root_.Go.Proofs.Ytddnjlnnkeiplaa.Blk.new2 (w : World) (o : Obj) (t : TypeId) (cs : Array Value) : Blk ((w.alloc o).alloc (.cells cs t)) (w.heap.size + 1) t cs := by
  have h := Blk.new (w.alloc o) t cs
  rwa [show (w.alloc o).heap.size = w.heap.size + 1 by simp] at h
/-- A reader stored whole. -/
theorem store_rd {ops : Array Oper} {rest : List Oper} {o : Oper} {a : Act} {w : World} {Q : Exit → Act → World → Prop} (g : Nat) {s s' : ByteArray} {i i' e e' : Nat} (hg : Blk w g 93 (rd s' i' e')) (x y : Operand)
    (hgd : o.guard = none) (ho : o.op = .store 93 x y) (hx : a.eval x = .pointer (some ⟨g, 0, none⟩)) (hy : a.eval y = .agg #[.string s, .int .i64 i, .int .i64 e])
    (h : ∀ w', Blk w' g 93 (rd s i e) → w.grownBy w' (some g) → wpList Try.prog ops Q rest (a.put o.dst undef) w') : wpList Try.prog ops Q (o :: rest) a w :=
  wpList_store_row hgd 93 x y ho g _ hx hy 93 _ hg size46 rfl (by simp [Value.oneCell']) (h _ (setRow_blk hg _) (setRow_grown w g _))
/-- What a function hands back: the reader, and something. -/
theorem results_pair {fn : Func} {p u : Tmp} (h : fn.results = #[.cell p 93, .tmp u]) (tmps : Array Value) (w : World) (g : Nat) {s : ByteArray} {i e : Nat} (hp : tmps.getD p undef = .pointer (some ⟨g, 0, none⟩)) (hg : Blk w g 93 (rd s i e)) :
    (results fn tmps).run Try.prog w = .ok (.tuple #[.agg #[.string s, .int .i64 i, .int .i64 e], tmps.getD u undef]) w := by
  rw [results_cell_tmp h, hp]
  have hl := run_loadVar_row (P := Try.prog) w g 93 93 (rd s i e) (0, 0) _ hg Try.underlying93 rfl size46
  simp [asAddr, hl, Result.andThen, rd]
theorem results_one {fn : Func} {p : Tmp} (h : fn.results = #[.cell p 93]) (tmps : Array Value) (w : World) (g : Nat) {s : ByteArray} {i e : Nat} (hp : tmps.getD p undef = .pointer (some ⟨g, 0, none⟩)) (hg : Blk w g 93 (rd s i e)) :
    (results fn tmps).run Try.prog w = .ok (.agg #[.string s, .int .i64 i, .int .i64 e]) w :=
  results_cell_row h _ _ g 93 _ (0, 0) _ hp hg Try.underlying93 rfl size46
set_option maxRecDepth 100000 in
set_option maxHeartbeats 400000 in
theorem refFail_any (s : ByteArray) (a e f : Nat) (w : World) : Calls Try.prog 71 #[.agg #[.string s, .int .i64 a, .int .i64 e], .int .i64 f] w fun r w' => r = .returned (.agg #[.string ⟨#[]⟩, .int .i64 a, .int .i64 f]) ∧ w.grownBy w' none := by
  go_enter Try.func71, Try.ntmps71
  go_wp2
  refine bodyPost_ret (results_one Try.results71 _ _ (w.heap.size + 1) rfl (Blk.new2 w _ _ _)) rfl ⟨rfl, grown_alloc (grown_alloc (grown_refl _ _) _) _⟩
/-- Behind an error nothing is left. -/
def Shut (s : ByteArray) (e : Nat) : Prop := e ≠ 0 → s = ⟨#[]⟩
set_option maxRecDepth 100000 in
set_option maxHeartbeats 400000 in
theorem refBytes_bad (s : ByteArray) (a e : Nat) (n : Int) (w : World) (he : (e : Int) ≠ 0) : Calls Try.prog 70 #[.agg #[.string s, .int .i64 a, .int .i64 e], .int .i64 n] w fun r w' => r = .returned (.tuple #[.agg #[.string s, .int .i64 a, .int .i64 e], .string ⟨#[]⟩]) ∧ w.grownBy w' none := by
  have he' : ((e : Int) != 0) = true := by rw [bne_iff_ne]; omega
  go_enter Try.func70, Try.ntmps70
  go_wp2
  exact bodyPost_ret (results_pair Try.results70 _ _ (w.heap.size + 1) rfl (Blk.new2 w _ _ _)) rfl ⟨rfl, grown_alloc (grown_alloc (grown_refl _ _) _) _⟩
set_option maxRecDepth 100000 in
set_option maxHeartbeats 400000 in
theorem refBytes_neg (s : ByteArray) (a : Nat) (n : Int) (w : World) (hn : n < 0) : Calls Try.prog 70 #[.agg #[.string s, .int .i64 a, .int .i64 0], .int .i64 n] w fun r w' => r = .returned (.tuple #[.agg #[.string ⟨#[]⟩, .int .i64 a, .int .i64 1], .string ⟨#[]⟩]) ∧ w.grownBy w' none := by
  have C : Hid (∀ w, Calls Try.prog 71 #[.agg #[.string s, .int .i64 a, .int .i64 0], .int .i64 1] w fun r w' => r = .returned (.agg #[.string ⟨#[]⟩, .int .i64 a, .int .i64 1]) ∧ w.grownBy w' none) := fun w => refFail_any s a 0 1 w
  go_enter Try.func70, Try.ntmps70
  go_wp2_with (first | (go_at_call 71; refine (C.out _).mono ?_; rintro r w1 ⟨rfl, hg1⟩; have B1 : Hid (Blk w1 (w.heap.size + 1) 93 (rd ⟨#[]⟩ 0 0)) := (Blk.new2 w _ _ _).kept hg1 (by simp); have G1 : Hid (w.grownBy w1 none) := grown_none (grown_alloc (grown_alloc (grown_refl _ _) _) _) hg1; clear hg1) | (refine q_is_store 93 (.tmp 4) (.tmp 15) rfl ?_; refine store_rd (w.heap.size + 1) B1.out _ _ rfl rfl rfl rfl ?_; intro w2 hb2 hg2; have B2 : Hid (Blk w2 (w.heap.size + 1) 93 (rd ⟨#[]⟩ a 1)) := hb2; have G2 : Hid (w.grownBy w2 none) := grown_through G1.out hg2 (by omega); clear hb2 hg2 B1 G1))
  exact bodyPost_ret (results_pair Try.results70 _ _ (w.heap.size + 1) rfl B2.out) rfl ⟨rfl, G2.out⟩
set_option maxRecDepth 100000 in
set_option maxHeartbeats 400000 in
theorem refBytes_short (s : ByteArray) (a n : Nat) (w : World) (hn : (s.size : Int) < (n : Int)) : Calls Try.prog 70 #[.agg #[.string s, .int .i64 a, .int .i64 0], .int .i64 n] w fun r w' => r = .returned (.tuple #[.agg #[.string ⟨#[]⟩, .int .i64 a, .int .i64 4], .string ⟨#[]⟩]) ∧ w.grownBy w' none := by
  have C : Hid (∀ w, Calls Try.prog 71 #[.agg #[.string s, .int .i64 a, .int .i64 0], .int .i64 4] w fun r w' => r = .returned (.agg #[.string ⟨#[]⟩, .int .i64 a, .int .i64 4]) ∧ w.grownBy w' none) := fun w => refFail_any s a 0 4 w
  have n0 : ¬ ((n : Int) < 0) := by omega
  go_enter Try.func70, Try.ntmps70
  go_wp2_with (first | (go_at_call 71; refine (C.out _).mono ?_; rintro r w1 ⟨rfl, hg1⟩; have B1 : Hid (Blk w1 (w.heap.size + 1) 93 (rd ⟨#[]⟩ 0 0)) := (Blk.new2 w _ _ _).kept hg1 (by simp); have G1 : Hid (w.grownBy w1 none) := grown_none (grown_alloc (grown_alloc (grown_refl _ _) _) _) hg1; clear hg1) | (refine q_is_store 93 (.tmp 4) (.tmp 23) rfl ?_; refine store_rd (w.heap.size + 1) B1.out _ _ rfl rfl rfl rfl ?_; intro w2 hb2 hg2; have B2 : Hid (Blk w2 (w.heap.size + 1) 93 (rd ⟨#[]⟩ a 4)) := hb2; have G2 : Hid (w.grownBy w2 none) := grown_through G1.out hg2 (by omega); clear hb2 hg2 B1 G1))
  exact bodyPost_ret (results_pair Try.results70 _ _ (w.heap.size + 1) rfl B2.out) rfl ⟨rfl, G2.out⟩
set_option maxRecDepth 100000 in
set_option maxHeartbeats 400000 in
theorem refBytes_in (s : ByteArray) (a n : Nat) (w : World) (hn : (n : Int) ≤ (s.size : Int)) (ha : (a : Int) + (s.size : Int) ≤ 281474976710656) : Calls Try.prog 70 #[.agg #[.string s, .int .i64 a, .int .i64 0], .int .i64 n] w fun r w' => r = .returned (.tuple #[.agg #[.string (s.extract n s.size), .int .i64 (a + n : Nat), .int .i64 0], .string (s.extract 0 n)]) ∧ w.grownBy w' none := by
  have n0 : ¬ ((n : Int) < 0) := by omega
  have n1 : (0 : Int) ≤ (n : Int) := by omega
  have n2 : ¬ ((s.size : Int) < (n : Int)) := by omega
  have a0 : (0 : Int) ≤ (a : Int) := by omega
  go_enter Try.func70, Try.ntmps70
  go_wp2
  go_region
  go_wp2
  exact bodyPost_ret (results_pair (s := s.extract n s.size) (i := a + n) (e := 0) Try.results70 _ _ (w.heap.size + 1) rfl (Blk.new2 w _ _ _).drew) rfl ⟨rfl, grown_drew (grown_alloc (grown_alloc (grown_refl _ _) _) _)⟩
theorem extract_nil (n m : Nat) : (⟨#[]⟩ : ByteArray).extract n m = ⟨#[]⟩ := by
  apply bytes_ext
  rw [ByteArray.data_extract, Array.toList_extract]
  simp
theorem refBytes_any (s : ByteArray) (a e n : Nat) (w : World) (he : Shut s e) (ha : (a : Int) + (s.size : Int) ≤ 281474976710656) : Calls Try.prog 70 #[.agg #[.string s, .int .i64 a, .int .i64 e], .int .i64 n] w fun r w' => r = .returned (.tuple #[.agg #[.string (takeS s e n), .int .i64 (takeA s a n), .int .i64 (takeE s e n)], .string (takeV s n)]) ∧ w.grownBy w' none := by
  by_cases h0 : e = 0
  · subst h0
    by_cases h1 : s.size < n
    · have e1 : takeS s 0 n = ⟨#[]⟩ := by unfold takeS failS; rw [if_pos h1, if_neg (by decide)]
      have e2 : takeA s a n = a := by unfold takeA; rw [if_pos h1]
      have e3 : takeE s 0 n = 4 := by unfold takeE failE; rw [if_pos h1, if_neg (by decide)]
      have e4 : takeV s n = ⟨#[]⟩ := by unfold takeV; rw [if_pos h1]
      rw [e1, e2, e3, e4]
      exact refBytes_short s a n w (by omega)
    · have e1 : takeS s 0 n = s.extract n s.size := by unfold takeS; rw [if_neg h1]
      have e2 : takeA s a n = a + n := by unfold takeA; rw [if_neg h1]
      have e3 : takeE s 0 n = 0 := by unfold takeE; rw [if_neg h1]
      have e4 : takeV s n = s.extract 0 n := by unfold takeV; rw [if_neg h1]
      rw [e1, e2, e3, e4]
      exact refBytes_in s a n w (by omega) ha
  · have hs := he h0
    subst hs
    have z : (⟨#[]⟩ : ByteArray).size = 0 := rfl
    have e1 : takeS ⟨#[]⟩ e n = ⟨#[]⟩ := by unfold takeS failS; rw [if_pos (Or.inr h0)]; split <;> first | rfl | exact extract_nil _ _
    have e2 : takeA ⟨#[]⟩ a n = a := by unfold takeA; split <;> omega
    have e3 : takeE ⟨#[]⟩ e n = e := by unfold takeE failE; rw [if_pos (Or.inr h0)]; split <;> rfl
    have e4 : takeV ⟨#[]⟩ n = ⟨#[]⟩ := by unfold takeV; split <;> first | rfl | exact extract_nil _ _
    rw [e1, e2, e3, e4]
    exact refBytes_bad ⟨#[]⟩ a e n w (by omega)
theorem refBytesNeg_any (s : ByteArray) (a e : Nat) (n : Int) (w : World) (hn : n < 0) : Calls Try.prog 70 #[.agg #[.string s, .int .i64 a, .int .i64 e], .int .i64 n] w fun r w' => r = .returned (.tuple #[.agg #[.string (failS s e 1), .int .i64 a, .int .i64 (failE e 1)], .string ⟨#[]⟩]) ∧ w.grownBy w' none := by
  by_cases h0 : e = 0
  · subst h0
    exact refBytes_neg s a n w hn
  · have e1 : failS s e 1 = s := by unfold failS; rw [if_pos (Or.inr h0)]
    have e2 : failE e 1 = e := by unfold failE; rw [if_pos (Or.inr h0)]
    rw [e1, e2]
    exact refBytes_bad s a e n w (by omega)
theorem take_shut (s : ByteArray) (e n : Nat) (he : Shut s e) : Shut (takeS s e n) (takeE s e n) := by
  intro h
  unfold takeS takeE at *
  by_cases h1 : s.size < n
  · rw [if_pos h1] at h
    rw [if_pos h1]
    unfold failS
    split
    · next q => exact he (by omega)
    · rfl
  · rw [if_neg h1] at h
    rw [if_neg h1, he h]
    exact extract_nil _ _
theorem fail_shut (s : ByteArray) (e f : Nat) (he : Shut s e) : Shut (failS s e f) (failE e f) := by
  intro h
  unfold failS failE at *
  by_cases h1 : f = 0 ∨ e ≠ 0
  · rw [if_pos h1] at h
    rw [if_pos h1]
    exact he h
  · rw [if_neg h1]
end Go.Proofs.Ytddnjlnnkeiplaa.Wi
