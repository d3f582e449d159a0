/-
  Which pages may be: Check.
-/
import Derived.Test.YtomknaendicpkaaCon
namespace Go.Proofs.Ytomknaendicpkaa
open Go.RowKit
theorem less_flip : ∀ (s t : List UInt8), Op.bytesLess s t = true → Op.bytesLess t s = false ∧ ¬ t = s
  | [], [], h => by simp [Op.bytesLess] at h
  | _ :: _, [], h => by simp [Op.bytesLess] at h
  | [], _ :: _, _ => by simp [Op.bytesLess]
  | a :: x, b :: y, h => by
    have ih := less_flip x y
    simp only [Op.bytesLess, Bool.or_eq_true, decide_eq_true_eq, Bool.and_eq_true, beq_iff_eq] at h
    rcases h with h | ⟨rfl, h⟩
    · have h1 : ¬ b < a := fun e => by
        rw [UInt8.lt_iff_toNat_lt] at h e; omega
      have h2 : ¬ b = a := fun e => by
        subst e
        rw [UInt8.lt_iff_toNat_lt] at h; omega
      simp [Op.bytesLess, h1, h2]
    · obtain ⟨h1, h2⟩ := ih h
      have h3 : ¬ a < a := fun e => by rw [UInt8.lt_iff_toNat_lt] at e; omega
      simp [Op.bytesLess, h1, h2, h3]
theorem less_else : ∀ (s t : List UInt8), Op.bytesLess s t = false → Op.bytesLess t s = true ∨ t = s
  | [], [], _ => Or.inr rfl
  | _ :: _, [], _ => Or.inl (by simp [Op.bytesLess])
  | [], _ :: _, h => by simp [Op.bytesLess] at h
  | a :: x, b :: y, h => by
    have ih := less_else x y
    simp only [Op.bytesLess, Bool.or_eq_false_iff, decide_eq_false_iff_not] at h
    obtain ⟨h1, h2⟩ := h
    by_cases e : a = b
    · subst e
      have h3 : Op.bytesLess x y = false := by simpa using h2
      rcases ih h3 with h4 | rfl
      · left; simp [Op.bytesLess, h4]
      · right; rfl
    · left
      have h5 : b < a := by
        have h6 : ¬ a.toNat = b.toNat := fun x => e (UInt8.toNat_inj.mp x)
        rw [UInt8.lt_iff_toNat_lt] at h1 ⊢
        omega
      simp [Op.bytesLess, h5]
structure Pg where
  leaf : Bool
  keys : List ByteArray
  vals : List ByteArray
  kids : List Int
/-- Each key is above the one ahead, and none is too long. -/
def riseB : ByteArray → List ByteArray → Bool
  | _, [] => true
  | a, k :: r => Op.bytesLess a.toList k.toList && (!decide (64 < (k.size : Int)) && riseB k r)
def mayK (l : List ByteArray) : Bool := !decide (8 < (l.length : Int)) && riseB ⟨#[]⟩ l
def restB (p : Pg) : Bool := if p.leaf then decide ((p.vals.length : Int) = p.keys.length) && (decide ((p.kids.length : Int) = 0) && !p.vals.any longB) else decide (0 < (p.keys.length : Int)) && (decide ((p.kids.length : Int) = p.keys.length + 1) && (decide ((p.vals.length : Int) = 0) && !p.kids.any outB))
def mayP (p : Pg) : Bool := mayK p.keys && restB p
def chk (p : Pg) : Int := if mayP p then 0 else 6
/-- A page as a value: its three slices read as its lists. -/
def PgV (w : World) (v : Value) (p : Pg) : Prop := ∃ a b c, v = .agg #[.bool p.leaf, a, b, c] ∧ RowV Value.string w a p.keys ∧ RowV Value.string w b p.vals ∧ RowV (Value.int .i64) w c p.kids
def Pg.fits (p : Pg) : Prop := p.keys.length ≤ 9223372036854775807 ∧ p.vals.length ≤ 9223372036854775807 ∧ p.kids.length ≤ 9223372036854775807
theorem PgV.kept {w w' : World} {v : Value} {p : Pg} (h : PgV w v p) (hg : w.grownBy w' none) : PgV w' v p := by
  obtain ⟨a, b, c, rfl, h1, h2, h3⟩ := h
  exact ⟨a, b, c, rfl, h1.kept hg, h2.kept hg, h3.kept hg⟩
set_option maxRecDepth 100000 in
set_option maxHeartbeats 1000000 in
theorem keysMayBe_any (a : Value) (l : List ByteArray) (w : World) (ha : RowV Value.string w a l) (hl : l.length ≤ 9223372036854775807) :
    Calls Try.prog 25 #[a] w fun e w' => e = .returned (.bool (mayK l)) ∧ w.grownBy w' none := by
  obtain ⟨pa, ca, ga, oa, rfl, hpa, hca⟩ := ha
  have HA : Hid (∀ i, (h : i < l.length) → w.cell? ⟨ga, oa + i, none⟩ = some (.string l[i])) := hca
  have PA : Hid (0 < l.length → pa = some ⟨ga, oa, none⟩) := hpa
  clear hca hpa
  have hll : (l.length : Int) ≤ 9223372036854775807 := by omega
  by_cases h8 : 8 < (l.length : Int)
  · have e : mayK l = false := by simp [mayK, h8]
    rw [e]
    clear e
    go_enter Try.func25, Try.ntmps25
    go_wp2
    go_ret
    exact ⟨rfl, grown_refl _ _⟩
  · have e : mayK l = riseB ⟨#[]⟩ l := by simp [mayK, h8]
    rw [e]
    clear e
    obtain ⟨x, hx⟩ : ∃ x, riseB ⟨#[]⟩ l = x := ⟨_, rfl⟩
    rw [hx]
    have EX : Hid (riseB ⟨#[]⟩ l = x) := hx
    clear hx
    go_enter Try.func25, Try.ntmps25
    go_wp2
    go_loopw [3, 11] (fun p i wr => ∃ (k : Nat) (s : ByteArray), k ≤ l.length ∧ p = .string s ∧ i = .int .i64 k ∧ w.grownBy wr none ∧ Hid (riseB s (l.drop k) = x)) (fun _ i _ => l.length - (intOf i).toNat)
    case atStart => exact ⟨0, _, Nat.zero_le _, rfl, rfl, grown_refl _ _, EX.out⟩
    case round =>
      obtain ⟨k, s, hk, rfl, rfl, hg, HK⟩ := hrel
      have HG : Hid (w.grownBy wr none) := hg
      clear hg
      have k0 : (0 : Int) ≤ k := by omega
      by_cases hlt : k < l.length
      · have hp := PA.out (by omega)
        subst hp
        have c0 := cell_kept HG.out (HA.out k hlt)
        have k1 : (k : Int) < l.length := by omega
        have hr := HK.out
        rw [List.drop_eq_getElem_cons hlt] at hr
        unfold riseB at hr
        clear HA HK EX
        generalize l[k] = t at *
        by_cases hb : Op.bytesLess s.toList t.toList = true
        · obtain ⟨b1, b0⟩ := less_flip _ _ hb
          have b2 : (t.toList == s.toList) = false := by simpa using b0
          clear b0
          by_cases h64 : 64 < (t.size : Int)
          · have ex : x = false := by rw [← hr, hb]; simp [h64]
            subst ex
            clear hr
            go_wp2
            go_ret
            exact ⟨rfl, HG.out⟩
          · have HR : Hid (riseB t (l.drop (k + 1)) = x) := by rw [← hr, hb]; simp [h64, Hid]
            clear hr
            go_wp2
            go_round
            case rel => exact ⟨k + 1, t, by omega, rfl, by go_num, HG.out, HR⟩
            case measure => simp [intOf]; omega
        · have hb' : Op.bytesLess s.toList t.toList = false := by simpa using hb
          have ex : x = false := by rw [← hr, hb']; rfl
          subst ex
          clear hr hb
          rcases less_else _ _ hb' with b1 | b2
          · go_wp2
            go_ret
            exact ⟨rfl, HG.out⟩
          · have b3 : (t.toList == s.toList) = true := by simpa using b2
            clear b2
            go_wp2
            go_ret
            exact ⟨rfl, HG.out⟩
      · obtain rfl : k = l.length := by omega
        have ex : x = true := by rw [← HK.out, List.drop_length]; rfl
        subst ex
        clear HA HK EX
        go_wp2
        go_ret
        exact ⟨rfl, HG.out⟩
theorem int_len (a b : Nat) (h : (a : Int) = b) : a = b := by omega
set_option maxRecDepth 100000 in
set_option maxHeartbeats 2000000 in
theorem restMayBe_any (v : Value) (p : Pg) (w : World) (h : PgV w v p) (hf : p.fits) (hk : p.keys.length ≤ 8) : Calls Try.prog 26 #[v] w fun e w' => e = .returned (.bool (restB p)) ∧ w.grownBy w' none := by
  obtain ⟨a, b, c, rfl, ha, hb, hc⟩ := h
  obtain ⟨leaf, keys, vals, kids⟩ := p
  obtain ⟨f1, f2, f3⟩ := hf
  simp only at ha hb hc f1 f2 f3 hk
  have HB : Hid (RowV Value.string w b vals) := hb
  have HC : Hid (RowV (Value.int .i64) w c kids) := hc
  obtain ⟨pa, ca, ga, oa, rfl, -, -⟩ := ha
  obtain ⟨pb, cb, gb, ob, rfl, -, -⟩ := hb
  obtain ⟨pc, cc, gc, oc, rfl, -, -⟩ := hc
  have CB : Hid (∀ W, w.grownBy W none → Calls Try.prog 43 #[.slice pb vals.length cb, .func (.func 44) #[] #[]] W fun e w' => e = .returned (.bool (vals.any longB)) ∧ W.grownBy w' none) := fun W hW => conS_any _ vals W (HB.out.kept hW) f2
  have CC : Hid (∀ W, w.grownBy W none → Calls Try.prog 45 #[.slice pc kids.length cc, .func (.func 46) #[] #[]] W fun e w' => e = .returned (.bool (kids.any outB)) ∧ W.grownBy w' none) := fun W hW => conI_any _ kids W (HC.out.kept hW) f3
  have g1 : (keys.length : Int) ≤ 8 := by omega
  clear HB HC f1 hk
  cases leaf with
  | true =>
    clear CC
    have e : restB ⟨true, keys, vals, kids⟩ = (decide ((vals.length : Int) = keys.length) && (decide ((kids.length : Int) = 0) && !vals.any longB)) := rfl
    rw [e]
    clear e
    generalize vals.any longB = x at *
    generalize keys.length = n1 at *
    generalize vals.length = n2 at *
    generalize kids.length = n3 at *
    by_cases h1 : (n2 : Int) = n1
    · have d1 : decide ((n2 : Int) = n1) = true := decide_eq_true h1
      by_cases h2 : (n3 : Int) = 0
      · have d2 : decide ((n3 : Int) = 0) = true := decide_eq_true h2
        rw [d1, d2]
        simp only [Bool.true_and]
        cases x
        · go_enter Try.func26, Try.ntmps26
          go_wp2_with (go_at_call 43; refine (CB.out _ (grown_alloc (grown_refl _ _) _)).mono ?_; rintro e w1 ⟨rfl, hg⟩)
          go_ret
          exact ⟨rfl, grown_none (grown_alloc (grown_refl _ _) _) hg⟩
        · go_enter Try.func26, Try.ntmps26
          go_wp2_with (go_at_call 43; refine (CB.out _ (grown_alloc (grown_refl _ _) _)).mono ?_; rintro e w1 ⟨rfl, hg⟩)
          go_ret
          exact ⟨rfl, grown_none (grown_alloc (grown_refl _ _) _) hg⟩
      · have d2 : decide ((n3 : Int) = 0) = false := decide_eq_false h2
        rw [d1, d2]
        simp only [Bool.true_and, Bool.false_and]
        go_enter Try.func26, Try.ntmps26
        go_wp2
        go_ret
        exact ⟨rfl, grown_alloc (grown_refl _ _) _⟩
    · have d1 : decide ((n2 : Int) = n1) = false := decide_eq_false h1
      rw [d1]
      simp only [Bool.false_and]
      go_enter Try.func26, Try.ntmps26
      go_wp2
      go_ret
      exact ⟨rfl, grown_alloc (grown_refl _ _) _⟩
  | false =>
    clear CB
    have e : restB ⟨false, keys, vals, kids⟩ = (decide (0 < (keys.length : Int)) && (decide ((kids.length : Int) = keys.length + 1) && (decide ((vals.length : Int) = 0) && !kids.any outB))) := rfl
    rw [e]
    clear e
    generalize kids.any outB = x at *
    generalize keys.length = n1 at *
    generalize vals.length = n2 at *
    generalize kids.length = n3 at *
    by_cases h1 : 0 < (n1 : Int)
    · have d1 : decide (0 < (n1 : Int)) = true := decide_eq_true h1
      by_cases h2 : (n3 : Int) = n1 + 1
      · have d2 : decide ((n3 : Int) = n1 + 1) = true := decide_eq_true h2
        by_cases h3 : (n2 : Int) = 0
        · have d3 : decide ((n2 : Int) = 0) = true := decide_eq_true h3
          rw [d1, d2, d3]
          simp only [Bool.true_and]
          cases x
          · go_enter Try.func26, Try.ntmps26
            go_wp2_with (go_at_call 45; refine (CC.out _ (grown_alloc (grown_refl _ _) _)).mono ?_; rintro e w1 ⟨rfl, hg⟩)
            go_ret
            exact ⟨rfl, grown_none (grown_alloc (grown_refl _ _) _) hg⟩
          · go_enter Try.func26, Try.ntmps26
            go_wp2_with (go_at_call 45; refine (CC.out _ (grown_alloc (grown_refl _ _) _)).mono ?_; rintro e w1 ⟨rfl, hg⟩)
            go_ret
            exact ⟨rfl, grown_none (grown_alloc (grown_refl _ _) _) hg⟩
        · have d3 : decide ((n2 : Int) = 0) = false := decide_eq_false h3
          rw [d1, d2, d3]
          simp only [Bool.true_and, Bool.false_and]
          go_enter Try.func26, Try.ntmps26
          go_wp2
          go_ret
          exact ⟨rfl, grown_alloc (grown_refl _ _) _⟩
      · have d2 : decide ((n3 : Int) = n1 + 1) = false := decide_eq_false h2
        rw [d1, d2]
        simp only [Bool.true_and, Bool.false_and]
        go_enter Try.func26, Try.ntmps26
        go_wp2
        go_ret
        exact ⟨rfl, grown_alloc (grown_refl _ _) _⟩
    · have d1 : decide (0 < (n1 : Int)) = false := decide_eq_false h1
      rw [d1]
      simp only [Bool.false_and]
      go_enter Try.func26, Try.ntmps26
      go_wp2
      go_ret
      exact ⟨rfl, grown_alloc (grown_refl _ _) _⟩
set_option maxRecDepth 100000 in
set_option maxHeartbeats 1000000 in
theorem check_any (v : Value) (p : Pg) (w : World) (h : PgV w v p) (hf : p.fits) : Calls Try.prog 11 #[v] w fun e w' => e = .returned (.int .i64 (chk p)) ∧ w.grownBy w' none := by
  have H : Hid (PgV w v p) := h
  have C : Hid (mayK p.keys = true → ∀ W, w.grownBy W none → Calls Try.prog 26 #[v] W fun e w' => e = .returned (.bool (restB p)) ∧ W.grownBy w' none) := fun hk W hW => restMayBe_any v p W (H.out.kept hW) hf (by unfold mayK at hk; simp at hk; omega)
  obtain ⟨a, b, c, rfl, ha, hb, hc⟩ := h
  have D : Hid (∀ W, w.grownBy W none → Calls Try.prog 25 #[a] W fun e w' => e = .returned (.bool (mayK p.keys)) ∧ W.grownBy w' none) := fun W hW => keysMayBe_any a p.keys W (ha.kept hW) hf.1
  obtain ⟨pa, ca, ga, oa, rfl, -, -⟩ := ha
  obtain ⟨pb, cb, gb, ob, rfl, -, -⟩ := hb
  obtain ⟨pc, cc, gc, oc, rfl, -, -⟩ := hc
  have e : chk p = if (mayK p.keys && restB p) = true then 0 else 6 := rfl
  rw [e]
  clear e H
  generalize p.keys.length = n1 at *
  generalize p.vals.length = n2 at *
  generalize p.kids.length = n3 at *
  generalize p.leaf = lf at *
  generalize mayK p.keys = x at *
  generalize restB p = y at *
  cases x with
  | false =>
    go_enter Try.func11, Try.ntmps11
    go_wp2_with (go_at_call 25; refine (D.out _ (grown_alloc (grown_refl _ _) _)).mono ?_; rintro e w1 ⟨rfl, hg⟩)
    go_ret
    exact ⟨rfl, grown_none (grown_alloc (grown_refl _ _) _) hg⟩
  | true =>
    have C2 : Hid (∀ W, w.grownBy W none → Calls Try.prog 26 #[.agg #[.bool lf, .slice pa n1 ca, .slice pb n2 cb, .slice pc n3 cc]] W fun e w' => e = .returned (.bool y) ∧ W.grownBy w' none) := C.out rfl
    clear C
    have B0 : Hid (∀ W, (w.alloc (.cells #[.bool lf, .slice pa n1 ca, .slice pb n2 cb, .slice pc n3 cc] 25)).grownBy W none → Blk W w.heap.size 25 #[.bool lf, .slice pa n1 ca, .slice pb n2 cb, .slice pc n3 cc]) := fun W hW => (Blk.new w 25 _).kept hW (by simp)
    cases y with
    | true =>
      go_enter Try.func11, Try.ntmps11
      go_wp2_with (first | (go_at_call 25; refine (D.out _ (grown_alloc (grown_refl _ _) _)).mono ?_; rintro e w1 ⟨rfl, hg⟩; have B1 := B0.out _ hg; have HG : Hid (w.grownBy w1 none) := (grown_none (grown_alloc (grown_refl _ _) _) hg); clear D hg B0; have q0 := B1.cell 0; have q1 := B1.cell 1; have q2 := B1.cell 2; have q3 := B1.cell 3; simp at q0 q1 q2 q3) | (go_at_call 26; refine (C2.out _ HG.out).mono ?_; rintro e w2 ⟨rfl, hg⟩))
      go_ret
      exact ⟨rfl, grown_none HG.out hg⟩
    | false =>
      go_enter Try.func11, Try.ntmps11
      go_wp2_with (first | (go_at_call 25; refine (D.out _ (grown_alloc (grown_refl _ _) _)).mono ?_; rintro e w1 ⟨rfl, hg⟩; have B1 := B0.out _ hg; have HG : Hid (w.grownBy w1 none) := (grown_none (grown_alloc (grown_refl _ _) _) hg); clear D hg B0; have q0 := B1.cell 0; have q1 := B1.cell 1; have q2 := B1.cell 2; have q3 := B1.cell 3; simp at q0 q1 q2 q3) | (go_at_call 26; refine (C2.out _ HG.out).mono ?_; rintro e w2 ⟨rfl, hg⟩))
      go_ret
      exact ⟨rfl, grown_none HG.out hg⟩
end Go.Proofs.Ytomknaendicpkaa
