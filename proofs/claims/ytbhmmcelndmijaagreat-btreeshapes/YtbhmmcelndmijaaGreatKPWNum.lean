/-
  Which pages may be: Check. strings.Clone, by the library's own contract: the same bytes. The contract of wire.Number: a number's lowest bytes, the lowest first.
-/
import Derived.Test.YtbhmmcelndmijaaGreatKPCon
import Derived.Test.YtbhmmcelndmijaaGreatProg
import Derived.Shelf.Pu.Clone
import Derived.KernelRfl
import Derived.WalkKit
import Derived.Laws.IdiomStrings
namespace Go.Proofs.YtbhmmcelndmijaaGreat.Pa
open Go.RowKit
theorem less_flip : ∀ (s t : List UInt8), Op.bytesLess s t = true → Op.bytesLess t s = false ∧ ¬ t = s
  | [], [], h => by simp [Op.bytesLess] at h
  | _ :: _, [], h => by simp [Op.bytesLess] at h
  | [], _ :: _, _ => by simp [Op.bytesLess]
  | a :: x, b :: y, h => by
    have ih := less_flip x y
    simp only [Op.bytesLess, Bool.or_eq_true, decide_eq_true_eq, Bool.and_eq_true, beq_iff_eq] at h
    rcases h with h | ⟨rfl, h⟩
    · have h1 : ¬ b < a := fun e => by
        rw [UInt8.lt_iff_toNat_lt] at h e; omega
      have h2 : ¬ b = a := fun e => by
        subst e
        rw [UInt8.lt_iff_toNat_lt] at h; omega
      simp [Op.bytesLess, h1, h2]
    · obtain ⟨h1, h2⟩ := ih h
      have h3 : ¬ a < a := fun e => by rw [UInt8.lt_iff_toNat_lt] at e; omega
      simp [Op.bytesLess, h1, h2, h3]
theorem less_else : ∀ (s t : List UInt8), Op.bytesLess s t = false → Op.bytesLess t s = true ∨ t = s
  | [], [], _ => Or.inr rfl
  | _ :: _, [], _ => Or.inl (by simp [Op.bytesLess])
  | [], _ :: _, h => by simp [Op.bytesLess] at h
  | a :: x, b :: y, h => by
    have ih := less_else x y
    simp only [Op.bytesLess, Bool.or_eq_false_iff, decide_eq_false_iff_not] at h
    obtain ⟨h1, h2⟩ := h
    by_cases e : a = b
    · subst e
      have h3 : Op.bytesLess x y = false := by simpa using h2
      rcases ih h3 with h4 | rfl
      · left; simp [Op.bytesLess, h4]
      · right; rfl
    · left
      have h5 : b < a := by
        have h6 : ¬ a.toNat = b.toNat := fun x => e (UInt8.toNat_inj.mp x)
        rw [UInt8.lt_iff_toNat_lt] at h1 ⊢
        omega
      simp [Op.bytesLess, h5]
structure Pg where
  leaf : Bool
  keys : List ByteArray
  vals : List ByteArray
  kids : List Int
/-- Each key is above the one ahead, and none is too long. -/
def riseB : ByteArray → List ByteArray → Bool
  | _, [] => true
  | a, k :: r => Op.bytesLess a.toList k.toList && (!decide (64 < (k.size : Int)) && riseB k r)
def mayK (l : List ByteArray) : Bool := !decide (8 < (l.length : Int)) && riseB ⟨#[]⟩ l
def restB (p : Pg) : Bool := if p.leaf then decide ((p.vals.length : Int) = p.keys.length) && (decide ((p.kids.length : Int) = 0) && !p.vals.any longB) else decide (0 < (p.keys.length : Int)) && (decide ((p.kids.length : Int) = p.keys.length + 1) && (decide ((p.vals.length : Int) = 0) && !p.kids.any outB))
def mayP (p : Pg) : Bool := mayK p.keys && restB p
def chk (p : Pg) : Int := if mayP p then 0 else 6
/-- A page as a value: its three slices read as its lists. -/
def PgV (w : World) (v : Value) (p : Pg) : Prop := ∃ a b c, v = .agg #[.bool p.leaf, a, b, c] ∧ RowV Value.string w a p.keys ∧ RowV Value.string w b p.vals ∧ RowV (Value.int .i64) w c p.kids
def Pg.fits (p : Pg) : Prop := p.keys.length ≤ 9223372036854775807 ∧ p.vals.length ≤ 9223372036854775807 ∧ p.kids.length ≤ 9223372036854775807
theorem PgV.kept {w w' : World} {v : Value} {p : Pg} (h : PgV w v p) (hg : w.grownBy w' none) : PgV w' v p := by
  obtain ⟨a, b, c, rfl, h1, h2, h3⟩ := h
  exact ⟨a, b, c, rfl, h1.kept hg, h2.kept hg, h3.kept hg⟩
set_option maxRecDepth 100000 in
set_option maxHeartbeats 1000000 in
theorem keysMayBe_any (a : Value) (l : List ByteArray) (w : World) (ha : RowV Value.string w a l) (hl : l.length ≤ 9223372036854775807) :
    Calls Tryz.prog 71 #[a] w fun e w' => e = .returned (.bool (mayK l)) ∧ w.grownBy w' none := by
  obtain ⟨pa, ca, ga, oa, rfl, hpa, hca⟩ := ha
  have HA : Hid (∀ i, (h : i < l.length) → w.cell? ⟨ga, oa + i, none⟩ = some (.string l[i])) := hca
  have PA : Hid (0 < l.length → pa = some ⟨ga, oa, none⟩) := hpa
  clear hca hpa
  have hll : (l.length : Int) ≤ 9223372036854775807 := by omega
  by_cases h8 : 8 < (l.length : Int)
  · have e : mayK l = false := by simp [mayK, h8]
    rw [e]
    clear e
    go_enter Tryz.func71, Tryz.ntmps71
    go_wp2
    go_ret
    exact ⟨rfl, grown_refl _ _⟩
  · have e : mayK l = riseB ⟨#[]⟩ l := by simp [mayK, h8]
    rw [e]
    clear e
    obtain ⟨x, hx⟩ : ∃ x, riseB ⟨#[]⟩ l = x := ⟨_, rfl⟩
    rw [hx]
    have EX : Hid (riseB ⟨#[]⟩ l = x) := hx
    clear hx
    go_enter Tryz.func71, Tryz.ntmps71
    go_wp2
    go_loopw [3, 11] (fun p i wr => ∃ (k : Nat) (s : ByteArray), k ≤ l.length ∧ p = .string s ∧ i = .int .i64 k ∧ w.grownBy wr none ∧ Hid (riseB s (l.drop k) = x)) (fun _ i _ => l.length - (intOf i).toNat)
    case atStart => exact ⟨0, _, Nat.zero_le _, rfl, rfl, grown_refl _ _, EX.out⟩
    case round =>
      obtain ⟨k, s, hk, rfl, rfl, hg, HK⟩ := hrel
      have HG : Hid (w.grownBy wr none) := hg
      clear hg
      have k0 : (0 : Int) ≤ k := by omega
      by_cases hlt : k < l.length
      · have hp := PA.out (by omega)
        subst hp
        have c0 := cell_kept HG.out (HA.out k hlt)
        have k1 : (k : Int) < l.length := by omega
        have hr := HK.out
        rw [List.drop_eq_getElem_cons hlt] at hr
        unfold riseB at hr
        clear HA HK EX
        generalize l[k] = t at *
        by_cases hb : Op.bytesLess s.toList t.toList = true
        · obtain ⟨b1, b0⟩ := less_flip _ _ hb
          have b2 : (t.toList == s.toList) = false := by simpa using b0
          clear b0
          by_cases h64 : 64 < (t.size : Int)
          · have ex : x = false := by rw [← hr, hb]; simp [h64]
            subst ex
            clear hr
            go_wp2
            go_ret
            exact ⟨rfl, HG.out⟩
          · have HR : Hid (riseB t (l.drop (k + 1)) = x) := by rw [← hr, hb]; simp [h64, Hid]
            clear hr
            go_wp2
            go_round
            case rel => exact ⟨k + 1, t, by omega, rfl, by go_num, HG.out, HR⟩
            case measure => simp [intOf]; omega
        · have hb' : Op.bytesLess s.toList t.toList = false := by simpa using hb
          have ex : x = false := by rw [← hr, hb']; rfl
          subst ex
          clear hr hb
          rcases less_else _ _ hb' with b1 | b2
          · go_wp2
            go_ret
            exact ⟨rfl, HG.out⟩
          · have b3 : (t.toList == s.toList) = true := by simpa using b2
            clear b2
            go_wp2
            go_ret
            exact ⟨rfl, HG.out⟩
      · obtain rfl : k = l.length := by omega
        have ex : x = true := by rw [← HK.out, List.drop_length]; rfl
        subst ex
        clear HA HK EX
        go_wp2
        go_ret
        exact ⟨rfl, HG.out⟩
theorem int_len (a b : Nat) (h : (a : Int) = b) : a = b := by omega
set_option maxRecDepth 100000 in
set_option maxHeartbeats 2000000 in
theorem restMayBe_any (v : Value) (p : Pg) (w : World) (h : PgV w v p) (hf : p.fits) (hk : p.keys.length ≤ 8) : Calls Tryz.prog 72 #[v] w fun e w' => e = .returned (.bool (restB p)) ∧ w.grownBy w' none := by
  obtain ⟨a, b, c, rfl, ha, hb, hc⟩ := h
  obtain ⟨leaf, keys, vals, kids⟩ := p
  obtain ⟨f1, f2, f3⟩ := hf
  simp only at ha hb hc f1 f2 f3 hk
  have HB : Hid (RowV Value.string w b vals) := hb
  have HC : Hid (RowV (Value.int .i64) w c kids) := hc
  obtain ⟨pa, ca, ga, oa, rfl, -, -⟩ := ha
  obtain ⟨pb, cb, gb, ob, rfl, -, -⟩ := hb
  obtain ⟨pc, cc, gc, oc, rfl, -, -⟩ := hc
  have CB : Hid (∀ W, w.grownBy W none → Calls Tryz.prog 99 #[.slice pb vals.length cb, .func (.func 100) #[] #[]] W fun e w' => e = .returned (.bool (vals.any longB)) ∧ W.grownBy w' none) := fun W hW => conS_any _ vals W (HB.out.kept hW) f2
  have CC : Hid (∀ W, w.grownBy W none → Calls Tryz.prog 101 #[.slice pc kids.length cc, .func (.func 102) #[] #[]] W fun e w' => e = .returned (.bool (kids.any outB)) ∧ W.grownBy w' none) := fun W hW => conI_any _ kids W (HC.out.kept hW) f3
  have g1 : (keys.length : Int) ≤ 8 := by omega
  clear HB HC f1 hk
  cases leaf with
  | true =>
    clear CC
    have e : restB ⟨true, keys, vals, kids⟩ = (decide ((vals.length : Int) = keys.length) && (decide ((kids.length : Int) = 0) && !vals.any longB)) := rfl
    rw [e]
    clear e
    generalize vals.any longB = x at *
    generalize keys.length = n1 at *
    generalize vals.length = n2 at *
    generalize kids.length = n3 at *
    by_cases h1 : (n2 : Int) = n1
    · have d1 : decide ((n2 : Int) = n1) = true := decide_eq_true h1
      by_cases h2 : (n3 : Int) = 0
      · have d2 : decide ((n3 : Int) = 0) = true := decide_eq_true h2
        rw [d1, d2]
        simp only [Bool.true_and]
        cases x
        · go_enter Tryz.func72, Tryz.ntmps72
          go_wp2_with (go_at_call 99; refine (CB.out _ (grown_alloc (grown_refl _ _) _)).mono ?_; rintro e w1 ⟨rfl, hg⟩)
          go_ret
          exact ⟨rfl, grown_none (grown_alloc (grown_refl _ _) _) hg⟩
        · go_enter Tryz.func72, Tryz.ntmps72
          go_wp2_with (go_at_call 99; refine (CB.out _ (grown_alloc (grown_refl _ _) _)).mono ?_; rintro e w1 ⟨rfl, hg⟩)
          go_ret
          exact ⟨rfl, grown_none (grown_alloc (grown_refl _ _) _) hg⟩
      · have d2 : decide ((n3 : Int) = 0) = false := decide_eq_false h2
        rw [d1, d2]
        simp only [Bool.true_and, Bool.false_and]
        go_enter Tryz.func72, Tryz.ntmps72
        go_wp2
        go_ret
        exact ⟨rfl, grown_alloc (grown_refl _ _) _⟩
    · have d1 : decide ((n2 : Int) = n1) = false := decide_eq_false h1
      rw [d1]
      simp only [Bool.false_and]
      go_enter Tryz.func72, Tryz.ntmps72
      go_wp2
      go_ret
      exact ⟨rfl, grown_alloc (grown_refl _ _) _⟩
  | false =>
    clear CB
    have e : restB ⟨false, keys, vals, kids⟩ = (decide (0 < (keys.length : Int)) && (decide ((kids.length : Int) = keys.length + 1) && (decide ((vals.length : Int) = 0) && !kids.any outB))) := rfl
    rw [e]
    clear e
    generalize kids.any outB = x at *
    generalize keys.length = n1 at *
    generalize vals.length = n2 at *
    generalize kids.length = n3 at *
    by_cases h1 : 0 < (n1 : Int)
    · have d1 : decide (0 < (n1 : Int)) = true := decide_eq_true h1
      by_cases h2 : (n3 : Int) = n1 + 1
      · have d2 : decide ((n3 : Int) = n1 + 1) = true := decide_eq_true h2
        by_cases h3 : (n2 : Int) = 0
        · have d3 : decide ((n2 : Int) = 0) = true := decide_eq_true h3
          rw [d1, d2, d3]
          simp only [Bool.true_and]
          cases x
          · go_enter Tryz.func72, Tryz.ntmps72
            go_wp2_with (go_at_call 101; refine (CC.out _ (grown_alloc (grown_refl _ _) _)).mono ?_; rintro e w1 ⟨rfl, hg⟩)
            go_ret
            exact ⟨rfl, grown_none (grown_alloc (grown_refl _ _) _) hg⟩
          · go_enter Tryz.func72, Tryz.ntmps72
            go_wp2_with (go_at_call 101; refine (CC.out _ (grown_alloc (grown_refl _ _) _)).mono ?_; rintro e w1 ⟨rfl, hg⟩)
            go_ret
            exact ⟨rfl, grown_none (grown_alloc (grown_refl _ _) _) hg⟩
        · have d3 : decide ((n2 : Int) = 0) = false := decide_eq_false h3
          rw [d1, d2, d3]
          simp only [Bool.true_and, Bool.false_and]
          go_enter Tryz.func72, Tryz.ntmps72
          go_wp2
          go_ret
          exact ⟨rfl, grown_alloc (grown_refl _ _) _⟩
      · have d2 : decide ((n3 : Int) = n1 + 1) = false := decide_eq_false h2
        rw [d1, d2]
        simp only [Bool.true_and, Bool.false_and]
        go_enter Tryz.func72, Tryz.ntmps72
        go_wp2
        go_ret
        exact ⟨rfl, grown_alloc (grown_refl _ _) _⟩
    · have d1 : decide (0 < (n1 : Int)) = false := decide_eq_false h1
      rw [d1]
      simp only [Bool.false_and]
      go_enter Tryz.func72, Tryz.ntmps72
      go_wp2
      go_ret
      exact ⟨rfl, grown_alloc (grown_refl _ _) _⟩
set_option maxRecDepth 100000 in
set_option maxHeartbeats 1000000 in
theorem check_any (v : Value) (p : Pg) (w : World) (h : PgV w v p) (hf : p.fits) : Calls Tryz.prog 50 #[v] w fun e w' => e = .returned (.int .i64 (chk p)) ∧ w.grownBy w' none := by
  have H : Hid (PgV w v p) := h
  have C : Hid (mayK p.keys = true → ∀ W, w.grownBy W none → Calls Tryz.prog 72 #[v] W fun e w' => e = .returned (.bool (restB p)) ∧ W.grownBy w' none) := fun hk W hW => restMayBe_any v p W (H.out.kept hW) hf (by unfold mayK at hk; simp at hk; omega)
  obtain ⟨a, b, c, rfl, ha, hb, hc⟩ := h
  have D : Hid (∀ W, w.grownBy W none → Calls Tryz.prog 71 #[a] W fun e w' => e = .returned (.bool (mayK p.keys)) ∧ W.grownBy w' none) := fun W hW => keysMayBe_any a p.keys W (ha.kept hW) hf.1
  obtain ⟨pa, ca, ga, oa, rfl, -, -⟩ := ha
  obtain ⟨pb, cb, gb, ob, rfl, -, -⟩ := hb
  obtain ⟨pc, cc, gc, oc, rfl, -, -⟩ := hc
  have e : chk p = if (mayK p.keys && restB p) = true then 0 else 6 := rfl
  rw [e]
  clear e H
  generalize p.keys.length = n1 at *
  generalize p.vals.length = n2 at *
  generalize p.kids.length = n3 at *
  generalize p.leaf = lf at *
  generalize mayK p.keys = x at *
  generalize restB p = y at *
  cases x with
  | false =>
    go_enter Tryz.func50, Tryz.ntmps50
    go_wp2_with (go_at_call 71; refine (D.out _ (grown_alloc (grown_refl _ _) _)).mono ?_; rintro e w1 ⟨rfl, hg⟩)
    go_ret
    exact ⟨rfl, grown_none (grown_alloc (grown_refl _ _) _) hg⟩
  | true =>
    have C2 : Hid (∀ W, w.grownBy W none → Calls Tryz.prog 72 #[.agg #[.bool lf, .slice pa n1 ca, .slice pb n2 cb, .slice pc n3 cc]] W fun e w' => e = .returned (.bool y) ∧ W.grownBy w' none) := C.out rfl
    clear C
    have B0 : Hid (∀ W, (w.alloc (.cells #[.bool lf, .slice pa n1 ca, .slice pb n2 cb, .slice pc n3 cc] 70)).grownBy W none → Blk W w.heap.size 70 #[.bool lf, .slice pa n1 ca, .slice pb n2 cb, .slice pc n3 cc]) := fun W hW => (Blk.new w 70 _).kept hW (by simp)
    cases y with
    | true =>
      go_enter Tryz.func50, Tryz.ntmps50
      go_wp2_with (first | (go_at_call 71; refine (D.out _ (grown_alloc (grown_refl _ _) _)).mono ?_; rintro e w1 ⟨rfl, hg⟩; have B1 := B0.out _ hg; have HG : Hid (w.grownBy w1 none) := (grown_none (grown_alloc (grown_refl _ _) _) hg); clear D hg B0; have q0 := B1.cell 0; have q1 := B1.cell 1; have q2 := B1.cell 2; have q3 := B1.cell 3; simp at q0 q1 q2 q3) | (go_at_call 72; refine (C2.out _ HG.out).mono ?_; rintro e w2 ⟨rfl, hg⟩))
      go_ret
      exact ⟨rfl, grown_none HG.out hg⟩
    | false =>
      go_enter Tryz.func50, Tryz.ntmps50
      go_wp2_with (first | (go_at_call 71; refine (D.out _ (grown_alloc (grown_refl _ _) _)).mono ?_; rintro e w1 ⟨rfl, hg⟩; have B1 := B0.out _ hg; have HG : Hid (w.grownBy w1 none) := (grown_none (grown_alloc (grown_refl _ _) _) hg); clear D hg B0; have q0 := B1.cell 0; have q1 := B1.cell 1; have q2 := B1.cell 2; have q3 := B1.cell 3; simp at q0 q1 q2 q3) | (go_at_call 72; refine (C2.out _ HG.out).mono ?_; rintro e w2 ⟨rfl, hg⟩))
      go_ret
      exact ⟨rfl, grown_none HG.out hg⟩
end Go.Proofs.YtbhmmcelndmijaaGreat.Pa
namespace Go.Proofs.YtbhmmcelndmijaaGreat.Pa
open Go.RowKit Go.Shelf
def ren : Ren := { f := fun _ => 132, t := fun n => if n = 37 then 85 else if n = 47 then 197 else n, g := fun n => n }
theorem lays : LaysPu.n25 Tryz.prog ren := by
  constructor <;> first | kernel_rfl | (intro w; kernel_rfl)
theorem cloneLite_any (s : ByteArray) (w : World) (hs : s.size ≤ 281474976710656) : Calls Tryz.prog 132 #[.string s] w fun e w' => e = .returned (.string s) ∧ w.grownBy w' none :=
  (AnyPu.stringslite_Clone lays s w hs).mono fun _ _ h => ⟨h.1, h.2.os, h.2.tape, h.2.output, h.2.size, fun k hk _ => h.2.block k hk⟩
set_option maxRecDepth 100000 in
set_option maxHeartbeats 400000 in
theorem clone_any (s : ByteArray) (w : World) (hs : s.size ≤ 281474976710656) : Calls Tryz.prog 131 #[.string s] w fun e w' => e = .returned (.string s) ∧ w.grownBy w' none := by
  go_enter Tryz.func131, Tryz.ntmps131
  go_wp2_with (go_at_call 132; refine (cloneLite_any s _ hs).mono ?_; rintro e w1 ⟨rfl, hg1⟩)
  go_ret
  exact ⟨rfl, hg1⟩
end Go.Proofs.YtbhmmcelndmijaaGreat.Pa
namespace Go.Proofs.YtbhmmcelndmijaaGreat.Pa
open Go.RowKit
/-- The byte at a place. -/
def byt (n i : Nat) : Nat := n / 2 ^ (8 * i) % 256
def numL (n k : Nat) : List UInt8 := (List.range k).map (fun i => UInt8.ofNat (byt n i))
def numS (n k : Nat) : ByteArray := ⟨(numL n k).toArray⟩
theorem numL_len (n k : Nat) : (numL n k).length = k := by
  unfold numL
  rw [List.length_map, List.length_range]
theorem numL_at (n k i : Nat) (h : i < (numL n k).length) : (((numL n k)[i].toNat : Nat) : Int) = ((byt n i : Nat) : Int) := by
  have e : (numL n k)[i] = UInt8.ofNat (byt n i) := (List.getElem_map _).trans (by rw [List.getElem_range])
  rw [e, UInt8.toNat_ofNat', Nat.mod_eq_of_lt]
  exact Nat.mod_lt _ (by decide)
theorem add_off (b j : Nat) : (⟨b, 0, none⟩ : Addr).add j = ⟨b, j, none⟩ := by
  cases j <;> simp [Addr.add]
theorem zero8 : (#[.int .u8 0, .int .u8 0, .int .u8 0, .int .u8 0, .int .u8 0, .int .u8 0, .int .u8 0, .int .u8 0] : Array Value) = arr .u8 8 (fun _ => 0) := by rfl
theorem num_run (n k cap : Nat) (hk : k ≤ 8) (w : World) (b : Nat) (t : TypeId) (h : Blk w b t (arr .u8 8 (fun i => (byt n i : Nat)))) : (convert 85 9 (.slice (some ⟨b, 0, none⟩) k cap)).run Tryz.prog w = .ok (.string (numS n k)) w := by
  have e := run_convert_bytes_back (P := Tryz.prog) w 85 9 5 ⟨b, 0, none⟩ cap (numL n k) Tryz.underlying85 Tryz.underlying5 Tryz.underlying9 (fun j hj => by
    rw [numL_at]
    have := h.ints j (by rw [numL_len] at hj; omega)
    rw [add_off]
    exact this)
  rw [numL_len] at e
  exact e
theorem byt_int (n i : Nat) : (n : Int) / 2 ^ (8 * i) % 256 = ((byt n i : Nat) : Int) := by
  unfold byt
  have e : ∀ m : Nat, (2 : Int) ^ m = ((2 ^ m : Nat) : Int) := fun m => (Int.natCast_pow 2 m).symm
  rw [e]
  generalize 2 ^ (8 * i) = m
  rfl
/-- How many bytes are asked for. -/
def asked (b : Int) : Nat := (min (max b 0) 8).toNat
set_option maxRecDepth 100000 in
set_option maxHeartbeats 400000 in
theorem number_any (n : Nat) (bytes : Int) (w : World) (hn : n < 18446744073709551616) : Calls Tryz.prog 130 #[.int .u64 n, .int .i64 bytes] w fun e w' => e = .returned (.string (numS n (asked bytes))) ∧ w.grownBy w' none := by
  have i0 : (n : Int) < 18446744073709551616 := by omega
  have i1 : (0 : Int) ≤ (n : Int) := by omega
  obtain ⟨k, ek⟩ : ∃ k, asked bytes = k := ⟨_, rfl⟩
  have hk8 : k ≤ 8 := by rw [← ek]; unfold asked; omega
  have hmm : min (max bytes 0) 8 = (k : Int) := by rw [← ek]; unfold asked; omega
  rw [ek]
  obtain ⟨R, eR⟩ : ∃ R, numS n k = R := ⟨_, rfl⟩
  rw [eR]
  have ER : Hid (numS n k = R) := eR
  clear eR ek hn
  go_enter Tryz.func130, Tryz.ntmps130
  go_wp2
  go_loopw [7] (fun i wr => ∃ k : Nat, k ≤ 8 ∧ i = .int .i64 k ∧ Blk wr w.heap.size 196 (arr .u8 8 (fun j => if j < k then ((byt n j : Nat) : Int) else 0)) ∧ w.grownBy wr none) (fun i _ => 8 - (intOf i).toNat)
  case atStart =>
    refine ⟨0, by omega, rfl, ?_, grown_alloc (grown_refl _ _) _⟩
    have h := Blk.new w 196 #[.int .u8 0, .int .u8 0, .int .u8 0, .int .u8 0, .int .u8 0, .int .u8 0, .int .u8 0, .int .u8 0]
    rw [zero8] at h
    exact h.congr (fun i _ => by rw [if_neg (Nat.not_lt_zero i)])
  case round =>
    obtain ⟨j, hj, rfl, h2, h3⟩ := hrel
    by_cases hlt : j < 8
    · have cb := h2.ints j hlt
      have fb := h2.frozen j
      have k0 : (0 : Int) ≤ (j : Int) := by omega
      have k1 : (j : Int) < 8 := by omega
      have EB : Hid ((n : Int) / 2 ^ (8 * j) % 256 = ((byt n j : Nat) : Int)) := byt_int n j
      have H2 : Hid (Blk wr w.heap.size 196 (arr .u8 8 (fun i => if i < j then ((byt n i : Nat) : Int) else 0))) := h2
      have H3 : Hid (w.grownBy wr none) := h3
      clear h2 h3
      go_wp2
      go_roundw
      case rel =>
        refine ⟨j + 1, by omega, by go_num, (H2.out.seti j _).congr (fun i hi => ?_), grown_set_new H3.out _ (Nat.le_refl _)⟩
        rw [EB.out]
        unfold upd
        by_cases e : i = j
        · rw [if_pos e, if_pos (by omega), e]
        · rw [if_neg e]
          dsimp only
          by_cases e2 : i < j
          · rw [if_pos e2, if_pos (by omega)]
          · rw [if_neg e2, if_neg (by omega)]
      case measure => simp [intOf]; omega
    · have e : j = 8 := by omega
      subst e
      have H2 : Hid (Blk wr w.heap.size 196 (arr .u8 8 (fun i => ((byt n i : Nat) : Int)))) := h2.congr (fun i hi => by rw [if_pos hi])
      have H3 : Hid (w.grownBy wr none) := h3
      clear h2 h3
      have k2 : (k : Int) ≤ 8 := by omega
      have R0 := num_run n k 8 hk8 _ _ _ H2.out
      rw [ER.out] at R0
      go_wp2
      go_ret
      exact ⟨rfl, H3.out⟩
end Go.Proofs.YtbhmmcelndmijaaGreat.Pa
