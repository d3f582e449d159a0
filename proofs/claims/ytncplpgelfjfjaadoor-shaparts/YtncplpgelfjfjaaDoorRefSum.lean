/-
  The contract of cupelref01.Sum: of whatever text that is not too long it answers the digest that the program's sponge has of it, and nothing that was there turns.
-/
import Derived.Test.YtncplpgelfjfjaaDoorPad
import Derived.Test.YtncplpgelfjfjaaDoorRefTurn
import Derived.Deep.RegionHeld3
namespace Go.Proofs.YtncplpgelfjfjaaDoor
open Go.RowKit
theorem rem136 (n : Nat) : (n : Int).tmod 136 = ((n % 136 : Nat) : Int) := by
  rw [Int.tmod_eq_emod_of_nonneg (by omega)]; omega
theorem append_list (a b : ByteArray) : (a ++ b).data.toList = a.data.toList ++ b.data.toList := by
  rw [ByteArray.data_append, Array.toList_append]
theorem fill_step (s : List UInt8) (j : Nat) : s ++ 6 :: List.replicate j 0 ++ [0] = s ++ 6 :: List.replicate (j + 1) 0 := by
  rw [List.replicate_succ']
  simp
theorem one_byte (W : World) (b : Nat) (cap : Nat) (n : Int) (m : Nat) (hm : m < 256) (hn : n = (m : Int)) (h : W.cell? ⟨b, 0, none⟩ = some (.int .u8 n)) :
    (convert 47 9 (.slice (some ⟨b, 0, none⟩) 1 cap)).run Tryd.prog W = .ok (.string ⟨#[UInt8.ofNat m]⟩) W := by
  have e := run_convert_bytes_back (P := Tryd.prog) W 47 9 5 ⟨b, 0, none⟩ cap [UInt8.ofNat m] Tryd.underlying47 Tryd.underlying5 Tryd.underlying9 (fun j hj => by
    have hj0 : j = 0 := by simpa using hj
    subst hj0
    rw [add_off, h, hn]
    show some (Value.int .u8 (m : Int)) = some (Value.int .u8 ((UInt8.ofNat m).toNat : Int))
    rw [UInt8.toNat_ofNat', Nat.mod_eq_of_lt hm])
  exact e
/-- The numbers when so many bytes were soaked up. -/
def soakF (L : List UInt8) (n : Nat) : Nat → BitVec 64 := (soak (fun _ => 0, 0) (L.take n)).1
theorem soakF_block (L : List UInt8) (n : Nat) (h0 : n % 136 = 0) (h : n + 136 ≤ L.length) : soakF L (n + 136) = turn (layers (soakF L n) ((L.drop n).take 136)) := by
  unfold soakF
  have hc := soak_count (L.take n) (fun _ => 0, 0) (by decide)
  rw [show ((fun _ => 0, 0) : (Nat → BitVec 64) × Nat).2 = 0 from rfl, Nat.zero_add, List.length_take, Nat.min_eq_left (by omega), h0] at hc
  rw [List.take_add, soak_append]
  generalize soak (fun _ => 0, 0) (L.take n) = x at *
  obtain ⟨G, q⟩ := x
  have hq : q = 0 := hc
  subst hq
  rw [soak_block _ _ (by rw [List.length_take, List.length_drop]; omega)]
theorem layers_at (F : Nat → BitVec 64) (L : List UInt8) (n i : Nat) (h : n + i < L.length) : layers F ((L.drop n).take (i + 1)) = layB (layers F ((L.drop n).take i)) L[n + i].toNat i := by
  rw [layers_take F (L.drop n) i (by rw [List.length_drop]; omega), List.getElem_drop]
theorem lay_val' (x : BitVec 64) (b k : Nat) (h : b < 256) : bits .xor .u64 (U x) (IntKind.u64.wrap ((b : Int) * 2 ^ (k * 8))) = U (x ^^^ (BitVec.ofNat 64 b <<< (8 * k))) := by
  rw [lay_val _ _ _ h, Nat.mul_comm]
theorem layB_upd (F : Nat → BitVec 64) (b q i : Nat) : upd (lan F) (q / 8) (U (F (q / 8) ^^^ (BitVec.ofNat 64 b <<< (8 * (q % 8))))) i = lan (layB F b q) i := by
  unfold upd
  rw [lan_at, lan_at]
  unfold layB
  by_cases h : i = q / 8
  · rw [if_pos h, if_pos h, h]
  · rw [if_neg h, if_neg h]
theorem info5 : (Tryd.prog.info? 5).map (fun i => (i.zero, i.size, i.bytes)) = some (some (.int .u8 0), 1, 1) := by kernel_rfl
theorem grown_own {a b c : World} {row : Option Nat} (h : a.grownBy b none) (g : b.grownBy c row) (hr : ∀ k, row = some k → a.heap.size ≤ k) : a.grownBy c none := by
  cases row with
  | none => exact grown_none h g
  | some k => exact grown_through h g (hr k rfl)
theorem Blk.kept_own {w w' : World} {b : Nat} {t : TypeId} {cs : Array Value} {row : Option Nat} (h : Blk w b t cs) (hg : w.grownBy w' row) (hr : ∀ k, row = some k → b < k) : Blk w' b t cs :=
  h.kept hg (fun e => by have := hr b e.symm; omega)
theorem bytes_step (F : Nat → BitVec 64) (k : Nat) : (List.range k).map (fun i => Value.int .u8 (byteI F i)) ++ [Value.int .u8 (byteI F k)] = (List.range (k + 1)).map (fun i => Value.int .u8 (byteI F i)) := by
  rw [List.range_succ, List.map_append]
  rfl
theorem owned_str (F : Nat → BitVec 64) (w : World) (base : Nat) (v : Value) (h : w.ownsRow base 5 1 v 32 ((List.range 32).map (fun i => Value.int .u8 (byteI F i)))) : (convert 47 9 v).run Tryd.prog w = .ok (.string ⟨(dstr F).toArray⟩) w := by
  rcases h.2 with ⟨_, h0⟩ | ⟨g, cap, cur, rfl, _, hg, _, _, _, hcur⟩
  · omega
  · have e := run_convert_bytes_back (P := Tryd.prog) w 47 9 5 ⟨g, 0, none⟩ cap (dstr F) Tryd.underlying47 Tryd.underlying5 Tryd.underlying9 (fun j hj => by
      rw [dstr_len] at hj
      rw [dstr_at, add_off, cell_of_row w g j cur 5 (0, 0) hg, ← Array.getElem?_toList]
      have h2 := congrArg (fun l : List Value => l[j]?) hcur
      simp only [List.getElem?_take, List.getElem?_map, List.getElem?_range hj] at h2
      rw [if_pos (by omega)] at h2
      rw [h2]
      rfl)
    rw [dstr_len] at e
    exact e
theorem dropLast_take (L : List UInt8) (m : Nat) (h : L.length = m + 1) : L.dropLast = L.take m := by
  rw [List.dropLast_eq_take, h]
  rfl
theorem getLastD_at (L : List UInt8) (m : Nat) (h : L.length = m + 1) : L.getLastD 0 = L[m]'(by omega) := by
  have hne : L ≠ [] := by intro e; rw [e] at h; cases h
  rw [List.getLastD_eq_getLast?, List.getLast?_eq_some_getLast hne, Option.getD_some, List.getLast_eq_getElem hne]
  congr 1
  omega
theorem mark_of (T : ByteArray) (m : Nat) (hm : m < T.size) (h : T.size = m + 1) (c : Nat) (ec : (T[m]'hm).toNat = c) : (T.extract 0 m ++ ⟨#[UInt8.ofNat (c + 128)]⟩ : ByteArray).data.toList = markL T.data.toList := by
  have hl : T.data.toList.length = m + 1 := by rw [bytes_len, h]
  rw [append_list]
  unfold markL
  rw [getLastD_at _ m hl, dropLast_take _ m hl, ByteArray.data_extract, Array.toList_extract]
  have e : T.data.toList[m] = T[m]'hm := rfl
  rw [e, ← ec]
  have e2 : UInt8.ofNat ((T[m]'hm).toNat + 128) = T[m]'hm + 128 := by
    apply UInt8.toNat_inj.1
    rw [UInt8.toNat_ofNat', UInt8.toNat_add]
    rfl
  show T.data.toList.extract 0 m ++ [UInt8.ofNat ((T[m]'hm).toNat + 128)] = _
  rw [e2]
  simp
theorem last_small (T : ByteArray) (m : Nat) (hm : m < T.size) (l : List UInt8) (j : Nat) (hT : T.data.toList = l ++ 6 :: List.replicate j 0) (hn : T.size = l.length + 1 + j) (h : T.size = m + 1) : (T[m]'hm).toNat < 128 := by
  have e : T.data.toList[m]'(by rw [bytes_len]; exact hm) = T[m]'hm := rfl
  rw [← e]
  have e1 : T.data.toList[m]? = if j = 0 then some 6 else some 0 := by
    rw [hT, List.getElem?_append_right (by omega)]
    by_cases h0 : j = 0
    · subst h0
      rw [show m - l.length = 0 by omega]
      rfl
    · rw [if_neg h0, show m - l.length = (j - 1) + 1 by omega, List.getElem?_cons_succ, List.getElem?_replicate, if_pos (by omega)]
  rw [List.getElem?_eq_getElem (by rw [bytes_len]; exact hm)] at e1
  by_cases h0 : j = 0
  · rw [if_pos h0] at e1
    rw [Option.some.inj e1]
    decide
  · rw [if_neg h0] at e1
    rw [Option.some.inj e1]
    decide
set_option maxRecDepth 100000 in
set_option maxHeartbeats 400000 in
theorem refSum_any (s : ByteArray) (w : World) (hs : s.size ≤ 1000000) : Calls Tryd.prog 13 #[.string s] w fun e w' => e = .returned (.string (digestS s)) ∧ w.grownBy w' none := by
  have i0 : (s.size : Int) ≤ 1000000 := by omega
  go_enter Tryd.func13, Tryd.ntmps13
  go_wp2
  go_loop [0] (fun v => ∃ (T : ByteArray) (j : Nat), v = .string T ∧ T.data.toList = s.data.toList ++ 6 :: List.replicate j 0 ∧ j ≤ 135 - s.size % 136) (fun v => 1000200 - (match v with | .string T => T.size | _ => 0))
  case atStart =>
    refine ⟨_, 0, rfl, ?_, by omega⟩
    rw [append_list]
    rfl
  case round =>
    obtain ⟨T, j, rfl, hT, hj⟩ := hrel
    have hsz : T.size = s.size + 1 + j := by
      rw [← bytes_len, hT, List.length_append, List.length_cons, List.length_replicate, bytes_len]
      omega
    have hr := rem136 T.size
    have t0 : (T.size : Int) ≤ 1000200 := by omega
    have HTl : Hid (T.data.toList = s.data.toList ++ 6 :: List.replicate j 0) := hT
    have HSz : Hid (T.size = s.size + 1 + j) := hsz
    clear hT hsz
    by_cases hz : T.size % 136 = 0
    · rw [hz] at hr
      have hj2 : j = 135 - s.size % 136 := by have := HSz.out; omega
      have HF : Hid (T.data.toList = fillL s.data.toList) := by
        have := HTl.out
        rw [hj2] at this
        unfold fillL
        rw [bytes_len]
        exact this
      obtain ⟨m, hm⟩ : ∃ m, T.size = m + 1 := ⟨T.size - 1, by have := HSz.out; omega⟩
      have hmt : m < T.size := by omega
      obtain ⟨c, ec⟩ : ∃ c : Nat, (T[m]'hmt).toNat = c := ⟨_, rfl⟩
      have hc : c < 128 := by rw [← ec]; exact last_small T m hmt _ j HTl.out (by rw [bytes_len]; exact HSz.out) hm
      have m0 : (0 : Int) ≤ (m : Int) := by omega
      have m1 : (m : Int) ≤ (T.size : Int) := by omega
      have m2 : (m : Int) < (T.size : Int) := by omega
      have hw : IntKind.i64.wrap ((T.size : Int) - 1) = (m : Int) := by rw [i64_in _ (by omega)]; omega
      have hw8 : IntKind.u8.wrap ((c : Int) + 128) = ((c + 128 : Nat) : Int) := by rw [IntKind.wrap_u8]; omega
      have HM : Hid (T.size = m + 1) := hm
      have hcv := one_byte (w.alloc (.cells #[.int .u8 ((c : Int) + 128)] 5)).drew w.heap.size 1 ((c : Int) + 128) (c + 128) (by omega) (by omega) (by rw [(Blk.new w 5 #[.int .u8 ((c : Int) + 128)]).drew.cell]; rfl)
      obtain ⟨V, hV⟩ : ∃ V : ByteArray, V = ⟨#[UInt8.ofNat (c + 128)]⟩ := ⟨_, rfl⟩
      have hVs : V.size = 1 := by rw [hV]; rfl
      rw [← hV] at hcv
      have HV : Hid (V = ⟨#[UInt8.ofNat (c + 128)]⟩) := hV
      clear hV
      clear hm hz hj hj2
      go_wp2
      go_region
      have HX : Hid ((T.extract 0 m ++ V).data.toList = markL (fillL s.data.toList)) := by
        rw [HV.out, ← HF.out]
        exact mark_of T m hmt HM.out c ec
      have hXs : (T.extract 0 m ++ V).size = T.size := by
        rw [ByteArray.size_append, ByteArray.size_extract, hVs, HM.out]; omega
      have hN : T.size % 136 = 0 := by have := fill_len s.data.toList; rw [← HF.out, bytes_len] at this; exact this
      have G1 : Hid (w.grownBy (w.alloc (.cells #[.int .u8 ((c : Int) + 128)] 5)).drew none) := grown_drew (grown_alloc (grown_refl _ _) _)
      generalize T.extract 0 m ++ V = X at *
      generalize (w.alloc (.cells #[.int .u8 ((c : Int) + 128)] 5)).drew = w1 at *
      rw [← hXs] at hN t0
      clear hcv hw8 hw m0 m1 m2 hc ec HV hVs HM HF HSz HTl hr hXs
      go_wp2_with (first | (refine build_zero 23 _ built23 rfl rfl ?_) | (refine q_is_store 23 (.tmp 3) (.tmp 30) rfl ?_; refine store_blk 23 w1.heap.size 23 _ (arr .u64 25 (fun _ => 0)) (Blk.new _ _ _) (by rw [arr_size]; exact size23) (by rw [arr_size]; rfl) (arr_one _ _ _) _ _ rfl rfl rfl rfl ?_; intro w2 hb2 hg2; have B2 : Hid (Blk w2 w1.heap.size 23 (arr .u64 25 (lan (soakF X.data.toList 0)))) := (hb2.congr (fun _ _ => rfl)); have G2 : Hid (w.grownBy w2 none) := (grown_none G1.out (grown_through (grown_alloc (grown_refl _ _) _) hg2 (Nat.le_refl _))); have hw12 : w.heap.size ≤ w1.heap.size := G1.out.size; have hlt2 : w1.heap.size < w2.heap.size := hb2.lt; clear hb2 hg2 G1))
      have xs := bytes_len X
      go_loopw [4] (fun v wr => ∃ A : Nat, A % 136 = 0 ∧ A ≤ X.size ∧ v = .int .i64 A ∧ Blk wr w1.heap.size 23 (arr .u64 25 (lan (soakF X.data.toList A))) ∧ w.grownBy wr none) (fun v _ => X.size - (intOf v).toNat)
      case atStart => exact ⟨0, rfl, Nat.zero_le _, rfl, B2.out, G2.out⟩
      case round =>
        clear B2 G2
        obtain ⟨A, hA0, hA, rfl, h1, h3⟩ := hrel
        by_cases hlt : A < X.size
        · have H1 : Hid (Blk wr w1.heap.size 23 (arr .u64 25 (lan (soakF X.data.toList A)))) := h1
          have H3 : Hid (w.grownBy wr none) := h3
          have hA2 : A + 136 ≤ X.size := by omega
          have a0 : (0 : Int) ≤ (A : Int) := by omega
          have a1 : (A : Int) < (X.size : Int) := by omega
          have d1 : decide ((A : Int) < (X.size : Int)) = true := by simp; omega
          clear h1 h3
          go_wp2
          go_loopw [5] (fun v wr => ∃ i : Nat, i ≤ 136 ∧ v = .int .i64 i ∧ Blk wr w1.heap.size 23 (arr .u64 25 (lan (layers (soakF X.data.toList A) ((X.data.toList.drop A).take i)))) ∧ w.grownBy wr none) (fun v _ => 136 - (intOf v).toNat)
          case atStart => exact ⟨0, by omega, rfl, H1.out, H3.out⟩
          case round =>
            clear H1 H3
            obtain ⟨i, hi, rfl, h1, h3⟩ := hrel
            by_cases hlt2 : i < 136
            · have hAi : A + i < X.size := by omega
              have eL := layers_at (soakF X.data.toList A) X.data.toList A i (by omega)
              obtain ⟨n, en⟩ : ∃ n, A + i = n := ⟨_, rfl⟩
              have hn : n < X.size := by omega
              have eb : X.data.toList[A + i]'(by omega) = X[n]'hn := by subst en; rfl
              rw [eb] at eL
              obtain ⟨b, ebb⟩ : ∃ b : Nat, (X[n]'hn).toNat = b := ⟨_, rfl⟩
              have hb : b < 256 := by rw [← ebb]; exact UInt8.toNat_lt _
              have EL : Hid (layers (soakF X.data.toList A) ((X.data.toList.drop A).take (i + 1)) = layB (layers (soakF X.data.toList A) ((X.data.toList.drop A).take i)) b i) := by
                rw [← ebb]
                exact eL
              clear eL eb
              generalize layers (soakF X.data.toList A) ((X.data.toList.drop A).take i) = F at *
              obtain ⟨l, el⟩ : ∃ l, l = i / 8 := ⟨_, rfl⟩
              obtain ⟨r, er⟩ : ∃ r, r = i % 8 := ⟨_, rfl⟩
              have c := h1.ints l (by omega)
              rw [lan_at] at c
              have f := h1.frozen l
              have H1 : Hid (Blk wr w1.heap.size 23 (arr .u64 25 (lan F))) := h1
              have H3 : Hid (w.grownBy wr none) := h3
              have e0 : (0 : Int) ≤ (i : Int) := by omega
              have e1 : (i : Int) < 136 := by omega
              have e2 : (0 : Int) ≤ (l : Int) := by omega
              have e3 : (l : Int) < 25 := by omega
              have e4 : (0 : Int) ≤ (b : Int) := by omega
              have e5 : (b : Int) < 256 := by omega
              have x1 : IntKind.i64.wrap ((i : Int) / 8) = (l : Int) := by rw [i64_in _ (by omega)]; omega
              have x2 : (i : Int).tmod 8 = (r : Int) := by rw [Int.tmod_eq_emod_of_nonneg (by omega)]; omega
              have x3 : IntKind.i64.wrap ((A : Int) + (i : Int)) = (n : Int) := by rw [i64_in _ (by omega)]; omega
              obtain ⟨q, eq⟩ : ∃ q, r * 8 = q := ⟨_, rfl⟩
              have x4 : IntKind.i64.wrap ((r : Int) * 8) = (q : Int) := by rw [i64_in _ (by omega)]; omega
              have q0 : (0 : Int) ≤ (q : Int) := by omega
              have q1 : (q : Int) < 64 := by omega
              have r8 : (r : Int) < 8 := by omega
              have r0 : (0 : Int) ≤ (r : Int) := by omega
              have g0 : (0 : Int) ≤ (n : Int) := by omega
              have g1 : (n : Int) < (X.size : Int) := by omega
              have EQ : Hid (r * 8 = q) := eq
              have ER : Hid (r = i % 8) := er
              have EI : Hid (l = i / 8) := el
              clear h1 h3 el er en eq hAi
              go_wp2
              go_region
              go_wp2
              go_roundw
              case rel =>
                refine ⟨i + 1, by omega, by go_num, ?_, grown_drew (grown_set_new H3.out _ hw12)⟩
                rw [EL.out, ← EQ.out, lay_val' _ _ _ hb]
                refine Blk.drew ((H1.out.seti l _).congr (fun k _ => ?_))
                rw [EI.out, ER.out]
                exact layB_upd F b i k
              case measure => simp [intOf]; omega
            · have e : i = 136 := by omega
              subst e
              have H1 : Hid (Blk wr w1.heap.size 23 (arr .u64 25 (lan (layers (soakF X.data.toList A) ((X.data.toList.drop A).take 136))))) := h1
              have H3 : Hid (w.grownBy wr none) := h3
              clear h1 h3
              have EB : Hid (soakF X.data.toList (A + 136) = turn (layers (soakF X.data.toList A) ((X.data.toList.drop A).take 136))) := soakF_block _ _ hA0 (by omega)
              generalize layers (soakF X.data.toList A) ((X.data.toList.drop A).take 136) = F at *
              go_wp2_with (first | (refine q_is_load 23 (.tmp 3) rfl ?_; refine load_blk 23 w1.heap.size 23 _ H1.out _ Tryd.underlying23 rfl (by rw [arr_size]; exact size23) _ rfl rfl rfl ?_) | (go_at_call 10; refine (refTurn_any F _).mono ?_; rintro e w4 ⟨rfl, hg4⟩; have B4 : Hid (Blk w4 w1.heap.size 23 (arr .u64 25 (lan F))) := H1.out.kept hg4 (by simp); have G4 : Hid (w.grownBy w4 none) := grown_none H3.out hg4; clear hg4 H1 H3) | (refine q_is_store 23 (.tmp 3) (.tmp 59) rfl ?_; refine store_blk 23 w1.heap.size 23 _ (arr .u64 25 (lan (turn F))) B4.out (by rw [arr_size]; exact size23) (by rw [arr_size, arr_size]) (arr_one _ _ _) _ _ rfl rfl rfl rfl ?_; intro w5 hb5 hg5; have B5 : Hid (Blk w5 w1.heap.size 23 (arr .u64 25 (lan (turn F)))) := hb5; have G5 : Hid (w.grownBy w5 none) := grown_through G4.out hg5 hw12; clear hb5 hg5 G4 B4))
              go_roundw
              case rel =>
                refine ⟨A + 136, by omega, by omega, by go_num, ?_, G5.out⟩
                rw [EB.out]
                exact B5.out
              case measure => simp [intOf]; omega
        · have e : A = X.size := by omega
          subst e
          have H1 : Hid (Blk wr w1.heap.size 23 (arr .u64 25 (lan (soakF X.data.toList X.size)))) := h1
          have H3 : Hid (w.grownBy wr none) := h3
          clear h1 h3
          have hwr : w1.heap.size < wr.heap.size := H1.out.lt
          have ED : Hid (dstr (soakF X.data.toList X.size) = digestL s.data.toList) := by
            have e : dstr (soakF X.data.toList X.size) = digestL s.data.toList := by
              rw [← digest_of_pad, ← HX.out]
              unfold soakF
              rw [← xs, List.take_length]
            exact e
          generalize soakF X.data.toList X.size = F at *
          go_wp2
          go_loopw [6, 7] (fun v i wr => ∃ k : Nat, k ≤ 32 ∧ i = .int .i64 k ∧ wr.ownsRow (w1.heap.size + 1) 5 1 v k ((List.range k).map (fun i => Value.int .u8 (byteI F i))) ∧ Blk wr w1.heap.size 23 (arr .u64 25 (lan F)) ∧ w.grownBy wr none) (fun _ i _ => 32 - (intOf i).toNat)
          case atStart => exact ⟨0, by omega, rfl, World.ownsRow_lit wr #[] 0 (by omega) (by decide) rfl, H1.out.alloc _, grown_alloc H3.out _⟩
          case round =>
            clear H1 H3 hwr
            obtain ⟨k, hk, rfl, hown, h1, h3⟩ := hrel
            by_cases hlt3 : k < 32
            · obtain ⟨i5, hi5, hz0, hz1, hz2⟩ := info_parts info5
              have cl := h1.ints (k / 8) (by omega)
              rw [lan_at] at cl
              have EB : Hid (byteI F k = U (F (k / 8)) / 2 ^ (k % 8 * 8) % 256) := by
                have e : byteI F k = U (F (k / 8)) / 2 ^ (k % 8 * 8) % 256 := by
                  unfold byteI
                  rw [Nat.mul_comm]
                exact e
              have u0 := U_lo (F (k / 8))
              have u1 := U_hi (F (k / 8))
              have k0 : (0 : Int) ≤ (k : Int) := by omega
              have k1 : (k : Int) < 32 := by omega
              have H1 : Hid (Blk wr w1.heap.size 23 (arr .u64 25 (lan F))) := h1
              have H3 : Hid (w.grownBy wr none) := h3
              have HO : Hid (wr.ownsRow (w1.heap.size + 1) 5 1 u6 k ((List.range k).map (fun i => Value.int .u8 (byteI F i)))) := hown
              have hlt4 : w1.heap.size + 1 ≤ wr.heap.size := h1.lt
              generalize F (k / 8) = x at *
              clear h1 h3 hown
              go_wp2_with (at_builtin; refine wpList_append_own _ rfl _ _ 47 rfl (w1.heap.size + 1) 5 i5 (.int .u8 0) 1 1 Tryd.underlying47 hi5 hz0 hz1 hz2 rfl (by decide) _ _ _ rfl (HO.out.alloc _) ⟨wr.heap.size, 0, none⟩ 1 1 [.int .u8 (U x / 2 ^ (k % 8 * 8) % 256)] rfl rfl ?c1 ?c2 ?c3 ?c4 ?c5 ?_)
              case c1 =>
                intro j u hj
                match j, hj with
                | 0, hj =>
                  rw [List.getElem?_cons_zero] at hj
                  rw [← hj, add_off, (Blk.new wr 5 _).cell]
                  rfl
              case c2 => intro u hu; rw [List.mem_singleton] at hu; subst hu; rfl
              case c3 => unfold maxLen; omega
              case c4 => omega
              case c5 => simp; omega
              intro v' w5 hown' hgrow _
              have hlo := HO.out.lt
              rw [← EB.out, bytes_step] at hown'
              have R1 : Hid (w5.ownsRow (w1.heap.size + 1) 5 1 v' (k + 1) ((List.range (k + 1)).map (fun i => Value.int .u8 (byteI F i)))) := hown'
              have R2 : Hid (Blk w5 w1.heap.size 23 (arr .u64 25 (lan F))) := (H1.out.alloc _).kept_own hgrow (fun g e => (by have := (hlo g e).1; omega))
              have R3 : Hid (w.grownBy w5 none) := grown_own (grown_alloc H3.out _) hgrow (fun g e => (by have := (hlo g e).1; omega))
              clear hown' hgrow hlo HO H1 H3 cl u0 u1 EB
              go_wp2
              go_roundw
              case rel => exact ⟨k + 1, by omega, by go_num, R1.out, R2.out, R3.out⟩
              case measure => simp [intOf]; omega
            · have e : k = 32 := by omega
              subst e
              have H3 : Hid (w.grownBy wr none) := h3
              have R := owned_str F wr _ _ hown
              rw [ED.out] at R
              clear h1 h3 hown
              go_wp2
              go_ret
              exact ⟨rfl, H3.out⟩
    · have hz' : ¬ (((T.size % 136 : Nat) : Int) = 0) := by omega
      go_wp2
      go_round
      case rel =>
        refine ⟨_, j + 1, rfl, ?_, by have := HSz.out; omega⟩
        rw [append_list, HTl.out]
        exact fill_step _ _
      case measure =>
        show 1000200 - (T ++ ⟨#[0]⟩ : ByteArray).size < 1000200 - T.size
        rw [ByteArray.size_append]
        have := HSz.out
        show 1000200 - (T.size + 1) < 1000200 - T.size
        omega
end Go.Proofs.YtncplpgelfjfjaaDoor
