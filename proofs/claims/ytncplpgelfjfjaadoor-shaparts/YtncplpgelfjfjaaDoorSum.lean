/-
  The contract of Digest.Sum: of a sponge with these numbers and so many bytes since the last turn it answers the 32 bytes of the sponge that is closed and turned, and nothing that was there turns.
-/
import Derived.Test.YtncplpgelfjfjaaDoorLay
import Derived.Deep.MidRow
import Derived.Laws.IdiomStrings
namespace Go.Proofs.YtncplpgelfjfjaaDoor
open Go.RowKit
theorem q_is_store {P : Program} {ops : Array Oper} {rest : List Oper} {o : Oper} {a : Act} {w : World} {Q : Exit → Act → World → Prop} (ty : TypeId) (x y : Operand) (_ho : o.op = .store ty x y) (h : wpList P ops Q (o :: rest) a w) : wpList P ops Q (o :: rest) a w := h
theorem q_is_load {P : Program} {ops : Array Oper} {rest : List Oper} {o : Oper} {a : Act} {w : World} {Q : Exit → Act → World → Prop} (ty : TypeId) (x : Operand) (_ho : o.op = .load ty x) (h : wpList P ops Q (o :: rest) a w) : wpList P ops Q (o :: rest) a w := h
theorem dig_one (F : Nat → BitVec 64) (p : Nat) : (dig F p).all (·.oneCell') = true := by
  unfold dig
  rw [Array.all_push, arr_one]
  rfl
theorem dig_range {w : World} {d : Nat} {t : TypeId} {F : Nat → BitVec 64} {p : Nat} (h : Blk w d t (dig F p)) : w.rangeAt d 0 (arr .u64 25 (lan F)).toList := by
  intro j v hv
  rw [Nat.zero_add, h.cell]
  have hj : j < 25 := by
    by_cases hj : j < 25
    · exact hj
    · rw [List.getElem?_eq_none (by rw [Array.length_toList, arr_size]; omega)] at hv; cases hv
  rw [dig_lane F p j hj]
  have := arr_get .u64 25 (lan F) j hj
  rw [Array.getElem?_toList, this, lan_at] at hv
  exact hv
theorem load_lanes {ops : Array Oper} {rest : List Oper} {o : Oper} {a : Act} {w : World} {Q : Exit → Act → World → Prop} {d : Nat} {t : TypeId} {F : Nat → BitVec 64} {p : Nat} (h0 : Blk w d t (dig F p)) (x : Operand)
    (hgd : o.guard = none) (ho : o.op = .load 23 x) (hx : a.eval x = .pointer (some ⟨d, 0, none⟩))
    (h : wpList Tryd.prog ops Q rest (a.put o.dst (.agg (arr .u64 25 (lan F)))) w) : wpList Tryd.prog ops Q (o :: rest) a w := by
  refine wpList_load_mid hgd 23 x ho d 0 hx (arr .u64 25 (lan F)).toList _ (dig_range h0) Tryd.underlying23 rfl (by rw [Array.length_toList, arr_size]; exact size23) ?_
  simpa using h
theorem size50 : (Tryd.prog.info? 50).map (·.size) = some 26 := by kernel_rfl
theorem zero32 : (#[.int .u8 0, .int .u8 0, .int .u8 0, .int .u8 0, .int .u8 0, .int .u8 0, .int .u8 0, .int .u8 0, .int .u8 0, .int .u8 0, .int .u8 0, .int .u8 0, .int .u8 0, .int .u8 0, .int .u8 0, .int .u8 0, .int .u8 0, .int .u8 0, .int .u8 0, .int .u8 0, .int .u8 0, .int .u8 0, .int .u8 0, .int .u8 0, .int .u8 0, .int .u8 0, .int .u8 0, .int .u8 0, .int .u8 0, .int .u8 0, .int .u8 0, .int .u8 0] : Array Value) = arr .u8 32 (fun _ => 0) := by rfl
theorem new32 (w : World) : Blk (w.alloc (.cells #[.int .u8 0, .int .u8 0, .int .u8 0, .int .u8 0, .int .u8 0, .int .u8 0, .int .u8 0, .int .u8 0, .int .u8 0, .int .u8 0, .int .u8 0, .int .u8 0, .int .u8 0, .int .u8 0, .int .u8 0, .int .u8 0, .int .u8 0, .int .u8 0, .int .u8 0, .int .u8 0, .int .u8 0, .int .u8 0, .int .u8 0, .int .u8 0, .int .u8 0, .int .u8 0, .int .u8 0, .int .u8 0, .int .u8 0, .int .u8 0, .int .u8 0, .int .u8 0] 52)) w.heap.size 52 (arr .u8 32 (fun _ => 0)) := by rw [← zero32]; exact Blk.new w 52 _
/-- A byte of the digest. -/
def byteN (G : Nat → BitVec 64) (i : Nat) : Nat := (G (i / 8)).toNat / 2 ^ (8 * (i % 8)) % 256
def byteI (G : Nat → BitVec 64) (i : Nat) : Int := U (G (i / 8)) / 2 ^ (8 * (i % 8)) % 256
theorem byteI_N (G : Nat → BitVec 64) (i : Nat) : byteI G i = (byteN G i : Int) := by
  unfold byteI byteN U
  have e : ∀ m : Nat, (2 : Int) ^ m = ((2 ^ m : Nat) : Int) := fun m => (Int.natCast_pow 2 m).symm
  rw [e]
  generalize 2 ^ (8 * (i % 8)) = m
  rfl
/-- The digest's bytes. -/
def dstr (G : Nat → BitVec 64) : List UInt8 := (List.range 32).map (fun i => UInt8.ofNat (byteN G i))
theorem dstr_len (G : Nat → BitVec 64) : (dstr G).length = 32 := by simp [dstr]
theorem dstr_at (G : Nat → BitVec 64) (i : Nat) (h : i < (dstr G).length) : (((dstr G)[i].toNat : Nat) : Int) = byteI G i := by
  rw [byteI_N]
  have e : (dstr G)[i] = UInt8.ofNat (byteN G i) := (List.getElem_map _).trans (by rw [List.getElem_range])
  rw [e, UInt8.toNat_ofNat', Nat.mod_eq_of_lt]
  exact Nat.mod_lt _ (by decide)
theorem add_off (b j : Nat) : (⟨b, 0, none⟩ : Addr).add j = ⟨b, j, none⟩ := by
  cases j <;> simp [Addr.add]
theorem str_run (G : Nat → BitVec 64) (w : World) (b : Nat) (t : TypeId) (h : Blk w b t (arr .u8 32 (byteI G))) : (convert 47 9 (.slice (some ⟨b, 0, none⟩) 32 32)).run Tryd.prog w = .ok (.string ⟨(dstr G).toArray⟩) w := by
  have e := run_convert_bytes_back (P := Tryd.prog) w 47 9 5 ⟨b, 0, none⟩ 32 (dstr G) Tryd.underlying47 Tryd.underlying5 Tryd.underlying9 (fun j hj => by
    rw [dstr_at]
    have := h.ints j (by rw [dstr_len] at hj; exact hj)
    rw [add_off]
    exact this)
  rw [dstr_len] at e
  exact e
set_option maxRecDepth 100000 in
set_option maxHeartbeats 400000 in
theorem sum_any (d : Nat) (F : Nat → BitVec 64) (p : Nat) (w : World) (hb : Blk w d 50 (dig F p)) (ht : Tabs w) (hp : p < 136) :
    Calls Tryd.prog 16 #[.pointer (some ⟨d, 0, none⟩)] w fun e w' => e = .returned (.string ⟨(dstr (turn (layB (layB F 6 p) 128 135))).toArray⟩) ∧ w.grownBy w' none := by
  have HB : Hid (Blk w d 50 (dig F p)) := hb
  have HT : Hid (Tabs w) := ht
  have hz := ht.lt
  clear hb ht
  go_enter Tryd.func16, Tryd.ntmps16
  go_wp2_with (first | (refine q_is_load 50 (.tmp 10) rfl ?_; refine load_blk 50 d 50 _ HB.out _ Tryd.underlying50 rfl (by rw [dig_size]; exact size50) _ rfl rfl rfl ?_) | (refine q_is_store 50 (.tmp 3) (.tmp 11) rfl ?_; refine store_blk 50 w.heap.size 50 _ (dig F p) (Blk.new _ _ _) (by rw [dig_size]; exact size50) (by rw [dig_size]; rfl) (dig_one _ _) _ _ rfl rfl rfl rfl ?_; intro w1 hb1 hg1; have c25 : w1.cell? ⟨w.heap.size, 25, none⟩ = some (.int .i64 p) := (by rw [hb1.cell, dig_at]); have G1 : Hid (w.grownBy w1 none) := grown_through (grown_alloc (grown_refl _ _) _) hg1 (Nat.le_refl _); have B1 : Hid (Blk w1 w.heap.size 50 (dig F p)) := hb1; clear hb1 hg1) | (go_at_call 26; fail))
  refine (lay_any w.heap.size 50 F p 6 p w1 B1.out hp (by omega)).mono ?_
  rintro e w2 ⟨rfl, hb2, hg2⟩
  have G2 : Hid (w.grownBy w2 none) := grown_through G1.out hg2 (Nat.le_refl _)
  have B2 : Hid (Blk w2 w.heap.size 50 (dig (layB F 6 p) p)) := hb2
  clear hb2 hg2 G1 B1 c25
  go_wp2_with (go_at_call 26; fail)
  refine (lay_any w.heap.size 50 (layB F 6 p) p 128 135 w2 B2.out (by omega) (by omega)).mono ?_
  rintro e w3 ⟨rfl, hb3, hg3⟩
  have G3 : Hid (w.grownBy w3 none) := grown_through G2.out hg3 (Nat.le_refl _)
  have B3 : Hid (Blk w3 w.heap.size 50 (dig (layB (layB F 6 p) 128 135) p)) := hb3
  clear hb3 hg3 G2 B2
  obtain ⟨G, eG⟩ : ∃ G, G = layB (layB F 6 p) 128 135 := ⟨_, rfl⟩
  rw [← eG] at B3
  have EG : Hid (G = layB (layB F 6 p) 128 135) := eG
  clear eG
  have T3 : Hid (Tabs w3) := HT.out.kept G3.out (by simp) (by simp) (by simp)
  go_wp2_with (first | (refine q_is_load 23 (.tmp 16) rfl ?_; refine load_lanes B3.out _ rfl rfl rfl ?_) | (go_at_call 9; refine (turn_any G w3 T3.out).mono ?_; rintro e w4 ⟨rfl, hg4⟩) | (refine q_is_store 23 (.tmp 4) (.tmp 18) rfl ?_; refine store_blk 23 w4.heap.size 23 _ (arr .u64 25 (lan (turn G))) (Blk.new _ _ _) (by rw [arr_size]; exact size23) (by rw [arr_size]; rfl) (arr_one _ _ _) _ _ rfl rfl rfl rfl ?_; intro w5 hb5 hg5; have G5 : Hid (w.grownBy w5 none) := (grown_none G3.out (grown_through (grown_alloc hg4 _) hg5 hg4.size)); have B5 : Hid (Blk w5 w4.heap.size 23 (arr .u64 25 (lan (turn G)))) := hb5; clear hb5 hg5 G3 B3 T3))
  have hw45 : w4.heap.size < w5.heap.size := B5.out.lt
  have hne : w4.heap.size ≠ w5.heap.size := by omega
  have hne' : w5.heap.size ≠ w4.heap.size := Ne.symm hne
  have hlw : w.heap.size ≤ w5.heap.size := G5.out.size
  clear hg4
  go_loopw [19] (fun i wr => ∃ k : Nat, k ≤ 32 ∧ i = .int .i64 k ∧ Blk wr w4.heap.size 23 (arr .u64 25 (lan (turn G))) ∧ Blk wr w5.heap.size 52 (arr .u8 32 (fun j => if j < k then byteI (turn G) j else 0)) ∧ w.grownBy wr none) (fun i _ => 32 - (intOf i).toNat)
  case atStart => exact ⟨0, by omega, rfl, B5.out.alloc _, (new32 w5).congr (fun i _ => by rw [if_neg (Nat.not_lt_zero i)]), grown_alloc G5.out _⟩
  case round =>
    clear B5 G5
    obtain ⟨k, hk, rfl, h1, h2, h3⟩ := hrel
    by_cases hlt : k < 32
    · obtain ⟨l, el⟩ : ∃ l, l = k / 8 := ⟨_, rfl⟩
      have cl := h1.ints (k / 8) (by omega)
      rw [lan_at] at cl
      have cb := h2.ints k hlt
      have fb := h2.frozen k
      have i0 : (0 : Int) ≤ (k : Int) := by omega
      have i1 : (k : Int) < 32 := by omega
      have EB : Hid (byteI (turn G) k = U (turn G (k / 8)) / 2 ^ (8 * (k % 8)) % 256) := rfl
      have u0 := U_lo (turn G (k / 8))
      have u1 := U_hi (turn G (k / 8))
      generalize turn G (k / 8) = x at *
      have H1 : Hid (Blk wr w4.heap.size 23 (arr .u64 25 (lan (turn G)))) := h1
      have H2 : Hid (Blk wr w5.heap.size 52 (arr .u8 32 (fun j => if j < k then byteI (turn G) j else 0))) := h2
      have H3 : Hid (w.grownBy wr none) := h3
      clear h1 h2 h3 el
      go_wp2
      go_roundw
      case rel =>
        refine ⟨k + 1, by omega, by go_num, H1.out.other _ hne, (H2.out.seti k _).congr (fun i hi => ?_), grown_set_new H3.out _ hlw⟩
        rw [← EB.out]
        unfold upd
        by_cases e : i = k
        · rw [if_pos e, if_pos (by omega), e]
        · rw [if_neg e]
          dsimp only
          by_cases e2 : i < k
          · rw [if_pos e2, if_pos (by omega)]
          · rw [if_neg e2, if_neg (by omega)]
      case measure => simp [intOf]; omega
    · have e : k = 32 := by omega
      subst e
      have H2 : Hid (Blk wr w5.heap.size 52 (arr .u8 32 (byteI (turn G)))) := h2.congr (fun i hi => by rw [if_pos hi])
      have H3 : Hid (w.grownBy wr none) := h3
      clear h1 h2 h3
      have R := str_run _ _ _ _ H2.out
      go_wp2
      go_ret
      rw [← EG.out]
      exact ⟨rfl, H3.out⟩
end Go.Proofs.YtncplpgelfjfjaaDoor
