/-
  The exported changes of a disk; Sync; how many changes there were. strings.Clone, by the library's own contract: the same bytes. The contract of wire.Number: a number's lowest bytes, the lowest first.
-/
import Derived.Test.YtddnjlnnkeiplaaKXRef
import Derived.Test.YtddnjlnnkeiplaaKXChgs
import Derived.Test.YtddnjlnnkeiplaaKFs
import Derived.Test.YtddnjlnnkeiplaaProg
import Derived.Shelf.Pu.Clone
import Derived.KernelRfl
import Derived.WalkKit
import Derived.Laws.IdiomStrings
namespace Go.Proofs.Ytddnjlnnkeiplaa.X
open Go.RowKit Go.Maps
variable {xt : Xt}
set_option maxRecDepth 100000 in
theorem append_all (base b : Nat) (k : Dk) (a s : ByteArray) (w : World) (h : IsDisk xt w base b k) (hS : Small k) (hc : Fine ⟨0, a, s, ⟨#[]⟩, 0⟩) (hP : xt.pp = none ∧ xt.pn = 0 ∧ xt.pc = 0) (hZ : sizeF k.now ≤ 1000000000) :
    Calls Try.prog 62 #[.pointer (some ⟨b, 0, none⟩), .string a, .string s] w fun e w' => e = .returned (.int .i64 (ansX xt k ⟨0, a, s, ⟨#[]⟩, 0⟩ : Nat)) ∧ IsDisk xt w' base b (nextX xt k ⟨0, a, s, ⟨#[]⟩, 0⟩) ∧ Tend base b w w' := by
  have CP : Hid (Calls Try.prog 57 #[.pointer (some ⟨b, 0, none⟩), .agg #[.int .i64 0, .string a, .string s, .string ⟨#[]⟩, .int .i64 0]] w fun e w' => e = .returned (.int .i64 (ansX xt k ⟨0, a, s, ⟨#[]⟩, 0⟩ : Nat)) ∧ IsDisk xt w' base b (nextX xt k ⟨0, a, s, ⟨#[]⟩, 0⟩) ∧ Tend base b w w') := perform_all base b k ⟨0, a, s, ⟨#[]⟩, 0⟩ w h hS hc hP hZ
  clear h hS hc hZ hP
  generalize ansX xt k ⟨0, a, s, ⟨#[]⟩, 0⟩ = r at *
  generalize nextX xt k ⟨0, a, s, ⟨#[]⟩, 0⟩ = k' at *
  go_enter Try.func62, Try.ntmps62
  go_wp2_with (go_at_call 57; refine CP.out.mono ?_; rintro e w' ⟨rfl, h1, h2⟩; have R1 : Hid (IsDisk xt w' base b k') := h1; have R2 : Hid (Tend base b w w') := h2; clear h1 h2)
  go_ret
  exact ⟨rfl, R1.out, R2.out⟩
theorem ans_old (xt : Xt) (k : Dk) (c : Chg) (h : 1 < c.kind) : ansX xt k c = Ytddnjlnnkeiplaa.ansF k c := by
  unfold ansX Ytddnjlnnkeiplaa.ansF refX Ytddnjlnnkeiplaa.refF
  have h1 : ¬ c.kind ≤ 1 := by omega
  simp only [if_neg h1]
  rfl
theorem next_old (xt : Xt) (k : Dk) (c : Chg) (h : 1 < c.kind) : nextX xt k c = Ytddnjlnnkeiplaa.nextD k c := by
  unfold nextX Ytddnjlnnkeiplaa.nextD
  rw [ans_old xt k c h]
set_option maxRecDepth 100000 in
theorem remove_all (base b : Nat) (k : Dk) (a : ByteArray) (w : World) (h : IsDisk xt w base b k) (hS : Small k) (hc : Fine ⟨3, a, ⟨#[]⟩, ⟨#[]⟩, 0⟩) (hP : xt.pp = none ∧ xt.pn = 0 ∧ xt.pc = 0) (hZ : sizeF k.now ≤ 1000000000) :
    Calls Try.prog 39 #[.pointer (some ⟨b, 0, none⟩), .string a] w fun e w' => e = .returned (.int .i64 (ansX xt k ⟨3, a, ⟨#[]⟩, ⟨#[]⟩, 0⟩ : Nat)) ∧ IsDisk xt w' base b (nextX xt k ⟨3, a, ⟨#[]⟩, ⟨#[]⟩, 0⟩) ∧ Tend base b w w' := by
  have CP : Hid (Calls Try.prog 57 #[.pointer (some ⟨b, 0, none⟩), .agg #[.int .i64 3, .string a, .string ⟨#[]⟩, .string ⟨#[]⟩, .int .i64 0]] w fun e w' => e = .returned (.int .i64 (ansX xt k ⟨3, a, ⟨#[]⟩, ⟨#[]⟩, 0⟩ : Nat)) ∧ IsDisk xt w' base b (nextX xt k ⟨3, a, ⟨#[]⟩, ⟨#[]⟩, 0⟩) ∧ Tend base b w w') := perform_all base b k ⟨3, a, ⟨#[]⟩, ⟨#[]⟩, 0⟩ w h hS hc hP hZ
  clear h hS hc hZ hP
  generalize ansX xt k ⟨3, a, ⟨#[]⟩, ⟨#[]⟩, 0⟩ = r at *
  generalize nextX xt k ⟨3, a, ⟨#[]⟩, ⟨#[]⟩, 0⟩ = k' at *
  go_enter Try.func39, Try.ntmps39
  go_wp2_with (go_at_call 57; refine CP.out.mono ?_; rintro e w' ⟨rfl, h1, h2⟩; have R1 : Hid (IsDisk xt w' base b k') := h1; have R2 : Hid (Tend base b w w') := h2; clear h1 h2)
  go_ret
  exact ⟨rfl, R1.out, R2.out⟩
set_option maxRecDepth 100000 in
theorem truncate_all (base b : Nat) (k : Dk) (a : ByteArray) (n : Int) (w : World) (h : IsDisk xt w base b k) (hS : Small k) (hc : Fine ⟨4, a, ⟨#[]⟩, ⟨#[]⟩, n⟩) (hP : xt.pp = none ∧ xt.pn = 0 ∧ xt.pc = 0) (hZ : sizeF k.now ≤ 1000000000) :
    Calls Try.prog 41 #[.pointer (some ⟨b, 0, none⟩), .string a, .int .i64 n] w fun e w' => e = .returned (.int .i64 (ansX xt k ⟨4, a, ⟨#[]⟩, ⟨#[]⟩, n⟩ : Nat)) ∧ IsDisk xt w' base b (nextX xt k ⟨4, a, ⟨#[]⟩, ⟨#[]⟩, n⟩) ∧ Tend base b w w' := by
  have CP : Hid (Calls Try.prog 57 #[.pointer (some ⟨b, 0, none⟩), .agg #[.int .i64 4, .string a, .string ⟨#[]⟩, .string ⟨#[]⟩, .int .i64 n]] w fun e w' => e = .returned (.int .i64 (ansX xt k ⟨4, a, ⟨#[]⟩, ⟨#[]⟩, n⟩ : Nat)) ∧ IsDisk xt w' base b (nextX xt k ⟨4, a, ⟨#[]⟩, ⟨#[]⟩, n⟩) ∧ Tend base b w w') := perform_all base b k ⟨4, a, ⟨#[]⟩, ⟨#[]⟩, n⟩ w h hS hc hP hZ
  clear h hS hc hZ hP
  generalize ansX xt k ⟨4, a, ⟨#[]⟩, ⟨#[]⟩, n⟩ = r at *
  generalize nextX xt k ⟨4, a, ⟨#[]⟩, ⟨#[]⟩, n⟩ = k' at *
  go_enter Try.func41, Try.ntmps41
  go_wp2_with (go_at_call 57; refine CP.out.mono ?_; rintro e w' ⟨rfl, h1, h2⟩; have R1 : Hid (IsDisk xt w' base b k') := h1; have R2 : Hid (Tend base b w w') := h2; clear h1 h2)
  go_ret
  exact ⟨rfl, R1.out, R2.out⟩
set_option maxRecDepth 100000 in
theorem sync_dead (base b : Nat) (k : Dk) (w : World) (h : IsDisk xt w base b k) (hd : k.dead = true) :
    Calls Try.prog 31 #[.pointer (some ⟨b, 0, none⟩)] w fun e w' => e = .returned (.int .i64 7) ∧ w' = w := by
  obtain ⟨hb0, vn, vs, vl, hB, _⟩ := h
  have c8 := hB.e8
  rw [hd] at c8
  clear hB
  go_enter Try.func31, Try.ntmps31
  go_wp2_with (go_at_call 27; refine (dead_any b true _ c8).mono ?_; rintro e w' ⟨rfl, hw⟩; have hw2 := hw.symm; clear hw; subst hw2)
  go_ret
  exact ⟨rfl, rfl⟩
set_option maxRecDepth 100000 in
set_option maxHeartbeats 1000000 in
theorem sync_any (base b : Nat) (k : Dk) (w : World) (h : IsDisk xt w base b k) (hd : k.dead = false) (hf : Fits k.now 1000000) :
    Calls Try.prog 31 #[.pointer (some ⟨b, 0, none⟩)] w fun e w' => e = .returned (.int .i64 0) ∧ IsDisk xt w' base b (syncD k) ∧ w.grownBy w' (some b) := by
  obtain ⟨hb0, vn, vs, vl, hB, hm, hsu, hne, hl⟩ := h
  have c8 := hB.e8
  have c0 := hB.e0
  rw [hd] at c8
  have CC : Hid (Calls Try.prog 58 #[vn] w fun e w' => e = .returned (.map (some w.heap.size)) ∧ OwnsF w' w.heap.size k.now ∧ w.grownBy w' none) := fsclone_any base vn k.now w hm hf
  have HB : Hid (Blk w b 73 (rowD xt vn vs vl k.unsure k.changes k.dead)) := hB
  have HM : Hid (MapV w base vn k.now) := hm
  have hbw := hB.lt
  clear hB hm hsu hne hl hf
  go_enter Try.func31, Try.ntmps31
  go_wp2_with (first | (go_at_call 27; refine (dead_any b false _ c8).mono ?_; rintro e w' ⟨rfl, hw⟩; have hw2 := hw.symm; clear hw; subst hw2) | (go_at_call 58; refine CC.out.mono ?_; clear CC; rintro e w1 ⟨rfl, ho1, hg1⟩; have O1 : Hid (OwnsF w1 w.heap.size k.now) := ho1; have G1 : Hid (w.grownBy w1 none) := hg1; have B1 : Hid (Blk w1 b 73 (rowD xt vn vs vl k.unsure k.changes k.dead)) := HB.out.kept hg1 (by simp); have d1 := B1.out.e1; have d2 := B1.out.e2; have d3 := B1.out.e3; have f1 := B1.out.frozen 1; have f2 := B1.out.frozen 2; have f3 := B1.out.frozen 3; clear ho1 hg1))
  go_ret
  have BF := ((B1.out.set 1 (.map (some w.heap.size))).set 2 (.slice none 0 0)).set 3 (.int .i64 0)
  have GF := grown_set (grown_set (grown_set (grown_refl w1 (some b)) 1 (.map (some w.heap.size))) 2 (.slice none 0 0)) 3 (.int .i64 0)
  have gb : some w.heap.size ≠ some b := fun e => by have := Option.some.inj e; omega
  refine ⟨rfl, ⟨hb0, vn, .map (some w.heap.size), .slice none 0 0, BF, (HM.out.kept G1.out (fun _ _ => by simp)).kept GF (fun g e => ?_), Or.inr ⟨w.heap.size, rfl, by omega, O1.out.kept GF gb⟩, ?_, ⟨rfl, Or.inl ⟨rfl, rfl⟩⟩⟩, ?_⟩
  · rcases HM.out with ⟨e', _⟩ | ⟨g', e', _, ho⟩
    · rw [e'] at e; cases e
    · rw [e'] at e
      cases e
      exact fun e => HB.out.ne_map ho (Option.some.inj e).symm
  · intro g e1 e2
    rcases HM.out with ⟨e', _⟩ | ⟨g', e', _, ho⟩
    · rw [e'] at e1; cases e1
    · rw [e'] at e1
      cases e1
      injection e2 with e3
      have := Option.some.inj e3
      have := ho.lt
      omega
  · exact World.grownBy.andThen (World.grownBy.but G1.out (some b)) GF (fun j e => Or.inr (by rw [← e]))
set_option maxRecDepth 100000 in
theorem changes_any (base b : Nat) (k : Dk) (w : World) (h : IsDisk xt w base b k) : Calls Try.prog 25 #[.pointer (some ⟨b, 0, none⟩)] w fun e w' => e = .returned (.int .i64 k.changes) ∧ w' = w := by
  obtain ⟨hb0, vn, vs, vl, hB, _⟩ := h
  have c5 := hB.e5
  clear hB
  go_enter Try.func25, Try.ntmps25
  go_wp2
  go_ret
  exact ⟨rfl, rfl⟩
end Go.Proofs.Ytddnjlnnkeiplaa.X
namespace Go.Proofs.Ytddnjlnnkeiplaa.Wi
open Go.RowKit Go.Shelf
def ren : Ren := { f := fun _ => 92, t := fun n => if n = 37 then 75 else if n = 47 then 137 else n, g := fun n => n }
theorem lays : LaysPu.n25 Try.prog ren := by
  constructor <;> first | kernel_rfl | (intro w; kernel_rfl)
theorem cloneLite_any (s : ByteArray) (w : World) (hs : s.size ≤ 281474976710656) : Calls Try.prog 92 #[.string s] w fun e w' => e = .returned (.string s) ∧ w.grownBy w' none :=
  (AnyPu.stringslite_Clone lays s w hs).mono fun _ _ h => ⟨h.1, h.2.os, h.2.tape, h.2.output, h.2.size, fun k hk _ => h.2.block k hk⟩
set_option maxRecDepth 100000 in
set_option maxHeartbeats 400000 in
theorem clone_any (s : ByteArray) (w : World) (hs : s.size ≤ 281474976710656) : Calls Try.prog 91 #[.string s] w fun e w' => e = .returned (.string s) ∧ w.grownBy w' none := by
  go_enter Try.func91, Try.ntmps91
  go_wp2_with (go_at_call 92; refine (cloneLite_any s _ hs).mono ?_; rintro e w1 ⟨rfl, hg1⟩)
  go_ret
  exact ⟨rfl, hg1⟩
end Go.Proofs.Ytddnjlnnkeiplaa.Wi
namespace Go.Proofs.Ytddnjlnnkeiplaa.Wi
open Go.RowKit
/-- The byte at a place. -/
def byt (n i : Nat) : Nat := n / 2 ^ (8 * i) % 256
def numL (n k : Nat) : List UInt8 := (List.range k).map (fun i => UInt8.ofNat (byt n i))
def numS (n k : Nat) : ByteArray := ⟨(numL n k).toArray⟩
theorem numL_len (n k : Nat) : (numL n k).length = k := by
  unfold numL
  rw [List.length_map, List.length_range]
theorem numL_at (n k i : Nat) (h : i < (numL n k).length) : (((numL n k)[i].toNat : Nat) : Int) = ((byt n i : Nat) : Int) := by
  have e : (numL n k)[i] = UInt8.ofNat (byt n i) := (List.getElem_map _).trans (by rw [List.getElem_range])
  rw [e, UInt8.toNat_ofNat', Nat.mod_eq_of_lt]
  exact Nat.mod_lt _ (by decide)
theorem add_off (b j : Nat) : (⟨b, 0, none⟩ : Addr).add j = ⟨b, j, none⟩ := by
  cases j <;> simp [Addr.add]
theorem zero8 : (#[.int .u8 0, .int .u8 0, .int .u8 0, .int .u8 0, .int .u8 0, .int .u8 0, .int .u8 0, .int .u8 0] : Array Value) = arr .u8 8 (fun _ => 0) := by rfl
theorem num_run (n k cap : Nat) (hk : k ≤ 8) (w : World) (b : Nat) (t : TypeId) (h : Blk w b t (arr .u8 8 (fun i => (byt n i : Nat)))) : (convert 75 9 (.slice (some ⟨b, 0, none⟩) k cap)).run Try.prog w = .ok (.string (numS n k)) w := by
  have e := run_convert_bytes_back (P := Try.prog) w 75 9 5 ⟨b, 0, none⟩ cap (numL n k) Try.underlying75 Try.underlying5 Try.underlying9 (fun j hj => by
    rw [numL_at]
    have := h.ints j (by rw [numL_len] at hj; omega)
    rw [add_off]
    exact this)
  rw [numL_len] at e
  exact e
theorem byt_int (n i : Nat) : (n : Int) / 2 ^ (8 * i) % 256 = ((byt n i : Nat) : Int) := by
  unfold byt
  have e : ∀ m : Nat, (2 : Int) ^ m = ((2 ^ m : Nat) : Int) := fun m => (Int.natCast_pow 2 m).symm
  rw [e]
  generalize 2 ^ (8 * i) = m
  rfl
/-- How many bytes are asked for. -/
def asked (b : Int) : Nat := (min (max b 0) 8).toNat
set_option maxRecDepth 100000 in
set_option maxHeartbeats 400000 in
theorem number_any (n : Nat) (bytes : Int) (w : World) (hn : n < 18446744073709551616) : Calls Try.prog 67 #[.int .u64 n, .int .i64 bytes] w fun e w' => e = .returned (.string (numS n (asked bytes))) ∧ w.grownBy w' none := by
  have i0 : (n : Int) < 18446744073709551616 := by omega
  have i1 : (0 : Int) ≤ (n : Int) := by omega
  obtain ⟨k, ek⟩ : ∃ k, asked bytes = k := ⟨_, rfl⟩
  have hk8 : k ≤ 8 := by rw [← ek]; unfold asked; omega
  have hmm : min (max bytes 0) 8 = (k : Int) := by rw [← ek]; unfold asked; omega
  rw [ek]
  obtain ⟨R, eR⟩ : ∃ R, numS n k = R := ⟨_, rfl⟩
  rw [eR]
  have ER : Hid (numS n k = R) := eR
  clear eR ek hn
  go_enter Try.func67, Try.ntmps67
  go_wp2
  go_loopw [7] (fun i wr => ∃ k : Nat, k ≤ 8 ∧ i = .int .i64 k ∧ Blk wr w.heap.size 125 (arr .u8 8 (fun j => if j < k then ((byt n j : Nat) : Int) else 0)) ∧ w.grownBy wr none) (fun i _ => 8 - (intOf i).toNat)
  case atStart =>
    refine ⟨0, by omega, rfl, ?_, grown_alloc (grown_refl _ _) _⟩
    have h := Blk.new w 125 #[.int .u8 0, .int .u8 0, .int .u8 0, .int .u8 0, .int .u8 0, .int .u8 0, .int .u8 0, .int .u8 0]
    rw [zero8] at h
    exact h.congr (fun i _ => by rw [if_neg (Nat.not_lt_zero i)])
  case round =>
    obtain ⟨j, hj, rfl, h2, h3⟩ := hrel
    by_cases hlt : j < 8
    · have cb := h2.ints j hlt
      have fb := h2.frozen j
      have k0 : (0 : Int) ≤ (j : Int) := by omega
      have k1 : (j : Int) < 8 := by omega
      have EB : Hid ((n : Int) / 2 ^ (8 * j) % 256 = ((byt n j : Nat) : Int)) := byt_int n j
      have H2 : Hid (Blk wr w.heap.size 125 (arr .u8 8 (fun i => if i < j then ((byt n i : Nat) : Int) else 0))) := h2
      have H3 : Hid (w.grownBy wr none) := h3
      clear h2 h3
      go_wp2
      go_roundw
      case rel =>
        refine ⟨j + 1, by omega, by go_num, (H2.out.seti j _).congr (fun i hi => ?_), grown_set_new H3.out _ (Nat.le_refl _)⟩
        rw [EB.out]
        unfold upd
        by_cases e : i = j
        · rw [if_pos e, if_pos (by omega), e]
        · rw [if_neg e]
          dsimp only
          by_cases e2 : i < j
          · rw [if_pos e2, if_pos (by omega)]
          · rw [if_neg e2, if_neg (by omega)]
      case measure => simp [intOf]; omega
    · have e : j = 8 := by omega
      subst e
      have H2 : Hid (Blk wr w.heap.size 125 (arr .u8 8 (fun i => ((byt n i : Nat) : Int)))) := h2.congr (fun i hi => by rw [if_pos hi])
      have H3 : Hid (w.grownBy wr none) := h3
      clear h2 h3
      have k2 : (k : Int) ≤ 8 := by omega
      have R0 := num_run n k 8 hk8 _ _ _ H2.out
      rw [ER.out] at R0
      go_wp2
      go_ret
      exact ⟨rfl, H3.out⟩
end Go.Proofs.Ytddnjlnnkeiplaa.Wi
