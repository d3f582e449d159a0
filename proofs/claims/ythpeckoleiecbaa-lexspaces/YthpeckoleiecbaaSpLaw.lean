/-
  LexSpaces: the law's own walk.
-/
import Derived.Test.YthpeckoleiecbaaSpM
import Derived.Test.YthpeckoleiecbaaAw
import Derived.Deep.RegionWith
import Derived.Deep.RegionHeld3
import Derived.Deep.QuietTactic
import Derived.BigQuiet
namespace Go.Proofs.Ythpeckoleiecbaa
open Go.RowKit
theorem cell_kept {w w' : World} {a : Addr} {v : Value} (hg : w.grownBy w' none) (hc : w.cell? a = some v) : w'.cell? a = some v := ((grown_below hg).cell (p := a) (World.block_lt_of_cell? _ _ hc)).trans hc
/-- A slice of whole numbers that reads as a list. -/
def NumsV (w : World) (v : Value) (xs : List Int) : Prop := ∃ pa c g o, v = .slice pa xs.length c ∧ (0 < xs.length → pa = some ⟨g, o, none⟩) ∧ ∀ i, (h : i < xs.length) → w.cell? ⟨g, o + i, none⟩ = some (.int .i64 xs[i])
/-- Which text is put behind a word. -/
def pk (xs : List Int) (i : Nat) : Nat := if h : 0 < xs.length then (((xs[i % xs.length]'(Nat.mod_lt _ h)).tmod 4 + 4).tmod 4).toNat else 0
theorem pk_lt (xs : List Int) (i : Nat) : pk xs i < 4 := by
  unfold pk
  split
  · generalize xs[i % xs.length]'_ = x
    have h1 : (x.tmod 4 + 4).tmod 4 < 4 := Int.tmod_lt_of_pos _ (by decide)
    omega
  · decide
def bs' (l : List UInt8) : ByteArray := ⟨l.toArray⟩
theorem bs'_toList (l : List UInt8) : (bs' l).toList = l := by unfold bs'; rw [ByteArray.toList_eq]
theorem bs'_size (l : List UInt8) : (bs' l).size = l.length := by rw [← size_toList, bs'_toList]
theorem bs'_append (a b : List UInt8) : bs' a ++ bs' b = bs' (a ++ b) := by
  apply bytes_ext
  rw [ByteArray.data_append, Array.toList_append]
  simp [bs']
theorem out_step (ks : Nat → Nat) (l : List Tk) (k : Nat) (h : k < l.length) : bs' (outOf ks 0 (l.take k)) ++ (tkS l[k] ++ bs' (sepL (ks k))) = bs' (outOf ks 0 (l.take (k + 1))) := by
  rw [show tkS l[k] = bs' l[k].s from rfl, bs'_append, bs'_append, List.take_succ_eq_append_getElem h, outOf_append]
  congr 2
  show _ = l[k].s ++ (sepL (ks (0 + (l.take k).length)) ++ [])
  rw [List.append_nil, List.length_take, Nat.zero_add, Nat.min_eq_left (by omega)]
theorem toks_small (n : Nat) : ∀ (f : Nat) (L : List UInt8), L.length < f → ∀ (l : List Tk), toksA n L = .ok l → ∀ t ∈ l, t.s.length ≤ L.length
  | 0, _, h, _, _, _, _ => absurd h (Nat.not_lt_zero _)
  | f + 1, [], _, l, hl, t, ht => by
    rw [toksA_nil] at hl
    injection hl with hl
    subst hl
    simp at ht
    subst ht
    exact Nat.le_refl _
  | f + 1, c :: r, hf, l, hl, t, ht => by
    by_cases h : wordK (c :: r) = 0
    · rw [toksA_bad n c r h] at hl
      cases hl
    · have h1 := wordN_pos c r h
      have h2 := toksA_ok n c r h []
      rw [ahead_nil, hl, List.nil_append] at h2
      obtain ⟨l', e1, rfl⟩ := ahead_one h2.symm
      have hlen := skip_le ((c :: r).drop (wordN (c :: r)))
      rw [List.length_drop, List.length_cons] at hlen
      rw [List.length_cons] at hf
      rcases List.mem_cons.1 ht with rfl | ht
      · exact List.length_take_le' _ _
      · have := toks_small n f _ (by omega) l' e1 t ht
        rw [List.length_cons]
        omega
theorem tok_small (L : List UInt8) (l : List Tk) (h : toks L = .ok l) (k : Nat) (hk : k < l.length) : (tkS l[k]).size ≤ L.length := by
  rw [toks_eq] at h
  have h1 := toks_small L.length _ _ (Nat.lt_succ_self _) l h l[k] (List.getElem_mem hk)
  have h2 := skip_le L
  rw [show (tkS l[k]).size = l[k].s.length from bs'_size _]
  omega
set_option maxRecDepth 100000 in
set_option maxHeartbeats 2000000 in
theorem spaces_ok (s : ByteArray) (v : Value) (xs : List Int) (w : World) (hs : s.size ≤ 1000) (hv : NumsV w v xs) (hx : (xs.length : Int) ≤ 9223372036854775807) (l : List Tk) (hl : toks s.toList = .ok l) : Calls Try.prog 5 #[.string s, v] w fun e w' => e = .returned (.bool true) ∧ w.grownBy w' none := by
  obtain ⟨pa, ca, g, o, rfl, hp, hc⟩ := hv
  have PA := hid hp
  have PC := hid hc
  clear hp hc
  have CA : Hid (∀ W, Calls Try.prog 9 #[] W fun e w' => e = .returned (.bool true) ∧ W.grownBy w' none) := awake_any
  have C1 : Hid (∀ W, Calls Try.prog 7 #[.string s] W (TokPost 31 W (.ok l))) := fun W => by have := tokens_any s W (by omega); rwa [hl] at this
  have hs1 : ¬ (1000 : Int) < s.size := by omega
  have HL := hid hl
  clear hl
  go_enter Try.func5, Try.ntmps5
  go_wp2_with (go_at_call 7; refine (C1.out _).mono ?_; rintro e w1 ⟨v1, rfl, ht, hg⟩; have G1 := hid hg; have T1 := hid ht; obtain ⟨pl, cl, rfl, x1, x2, _⟩ := row_form ht; clear C1 hg ht)
  have ll : (l.length : Int) ≤ 9223372036854775807 := by unfold maxLen at x2; omega
  clear x1 x2
  go_loopw [8, 9] (fun t i wr => ∃ k : Nat, k ≤ l.length ∧ i = .int .i64 k ∧ t = .string (bs' (outOf (pk xs) 0 (l.take k))) ∧ (outOf (pk xs) 0 (l.take k)).length ≤ 4000 ∧ w1.grownBy wr none) (fun _ i _ => l.length - (intOf i).toNat)
  case atStart => exact ⟨0, Nat.zero_le _, rfl, rfl, Nat.zero_le _, grown_refl _ _⟩
  case round =>
    obtain ⟨k, hk, rfl, rfl, hlen, hg⟩ := hrel
    have GG := hid hg
    have k0 : (0 : Int) ≤ k := by omega
    clear hg
    by_cases hlt : k < l.length
    · have k1 : (k : Int) < l.length := by omega
      obtain ⟨gl, rfl, a1, a2, a3⟩ := (T1.out.kept GG.out).cell k hlt
      have OS := hid (out_step (pk xs) l k hlt)
      have zA : (bs' (outOf (pk xs) 0 (l.take k))).size ≤ 4000 := by rw [bs'_size]; exact hlen
      by_cases hn : 0 < xs.length
      · have e := PA.out hn
        subst e
        have hm := Nat.mod_lt k hn
        have c0 := cell_kept (grown_none G1.out GG.out) (PC.out (k % xs.length) hm)
        have hq : pk xs k = (((xs[k % xs.length]'hm).tmod 4 + 4).tmod 4).toNat := by unfold pk; rw [dif_pos hn]
        have hq4 := pk_lt xs k
        generalize xs[k % xs.length]'hm = X at *
        generalize pk xs k = q at *
        have n0 : (0 : Int) < xs.length := by omega
        have hw : wrap64 (X.tmod 4 + 4) = X.tmod 4 + 4 := by
          have h1 : X.tmod 4 < 4 := Int.tmod_lt_of_pos _ (by decide)
          have h2 : -4 < X.tmod 4 := Int.lt_tmod_of_pos _ (by decide)
          unfold wrap64
          omega
        have hqq : (wrap64 (X.tmod 4 + 4)).tmod 4 = (q : Int) := by
          have h1 : X.tmod 4 < 4 := Int.tmod_lt_of_pos _ (by decide)
          have h2 : -4 < X.tmod 4 := Int.lt_tmod_of_pos _ (by decide)
          have h3 : 0 ≤ (X.tmod 4 + 4).tmod 4 := Int.tmod_nonneg _ (by omega)
          rw [hw, hq]
          omega
        have QQ := hid hqq
        have HQ := hid hq
        clear hw hqq hq
        go_wp2_with fail
        rw [QQ.out]
        clear QQ HQ
        obtain ⟨B, hB⟩ : ∃ B, bs' (outOf (pk xs) 0 (l.take (k + 1))) = B := ⟨_, rfl⟩
        have zB : B.size = (outOf (pk xs) 0 (l.take (k + 1))).length := by rw [← hB, bs'_size]
        have NB := hid hB
        have NZ := hid zB
        have OS2 := OS.out
        rw [hB] at OS2
        clear hB zB OS
        have zT : (tkS l[k]).size ≤ 1000 := by have := tok_small _ l HL.out k hlt; rw [size_toList] at this; omega
        generalize bs' (outOf (pk xs) 0 (l.take k)) = A at *
        generalize tkS l[k] = T at *
        clear a1 a3 CA
        have key : ∀ sep : ByteArray, sep.size ≤ 14 → A ++ (T ++ sep) = B → B.size ≤ 9000 ∧ ¬ 9223372036854775807 < T.size + sep.size ∧ ¬ 9223372036854775807 < A.size + (T ++ sep).size := fun sep hs e => by
          rw [← e, ByteArray.size_append, ByteArray.size_append]
          omega
        have c1 : wr.drew.cell? ⟨gl, k * 3 + 1, none⟩ = some (.string T) := a2
        have c2 : ∀ o : Obj, (wr.drew.alloc o).cell? ⟨gl, k * 3 + 1, none⟩ = some (.string T) := fun o => cell_kept (grown_alloc (grown_refl _ _) _) c1
        have c3 : ∀ o : Obj, (wr.alloc o).drew.cell? ⟨gl, k * 3 + 1, none⟩ = some (.string T) := fun o => cell_kept (grown_drew (grown_alloc (grown_refl _ _) _)) a2
        rcases (show q = 0 ∨ q = 1 ∨ q = 2 ∨ q = 3 by omega) with rfl | rfl | rfl | rfl
        · obtain ⟨z1, z2, z3⟩ := key ⟨#[32]⟩ (by decide) OS2
          have e : A ++ (T ++ ⟨#[32]⟩) = B := OS2
          clear OS2 key
          by_cases hb : 4000 < B.size
          · have ib : (4000 : Int) < B.size := by omega
            go_region_with fail
            all_goals (
              go_wp2
              go_ret
              exact ⟨rfl, grown_none G1.out (by first | exact grown_drew (grown_alloc GG.out _) | exact grown_alloc (grown_drew GG.out) _)⟩)
          · have ib : ¬ (4000 : Int) < B.size := by omega
            go_region_with fail
            all_goals (
              go_wp2
              go_round
              case rel => exact ⟨k + 1, by omega, by go_num, by rw [NB.out], by have := NZ.out; omega, by first | exact grown_drew (grown_alloc GG.out _) | exact grown_alloc (grown_drew GG.out) _⟩
              case measure => simp [intOf]; omega)

        · obtain ⟨z1, z2, z3⟩ := key ⟨#[9, 32]⟩ (by decide) OS2
          have e : A ++ (T ++ ⟨#[9, 32]⟩) = B := OS2
          clear OS2 key
          by_cases hb : 4000 < B.size
          · have ib : (4000 : Int) < B.size := by omega
            go_region_with fail
            all_goals (
              go_wp2
              go_ret
              exact ⟨rfl, grown_none G1.out (by first | exact grown_drew (grown_alloc GG.out _) | exact grown_alloc (grown_drew GG.out) _)⟩)
          · have ib : ¬ (4000 : Int) < B.size := by omega
            go_region_with fail
            all_goals (
              go_wp2
              go_round
              case rel => exact ⟨k + 1, by omega, by go_num, by rw [NB.out], by have := NZ.out; omega, by first | exact grown_drew (grown_alloc GG.out _) | exact grown_alloc (grown_drew GG.out) _⟩
              case measure => simp [intOf]; omega)

        · obtain ⟨z1, z2, z3⟩ := key ⟨#[10]⟩ (by decide) OS2
          have e : A ++ (T ++ ⟨#[10]⟩) = B := OS2
          clear OS2 key
          by_cases hb : 4000 < B.size
          · have ib : (4000 : Int) < B.size := by omega
            go_region_with fail
            all_goals (
              go_wp2
              go_ret
              exact ⟨rfl, grown_none G1.out (by first | exact grown_drew (grown_alloc GG.out _) | exact grown_alloc (grown_drew GG.out) _)⟩)
          · have ib : ¬ (4000 : Int) < B.size := by omega
            go_region_with fail
            all_goals (
              go_wp2
              go_round
              case rel => exact ⟨k + 1, by omega, by go_num, by rw [NB.out], by have := NZ.out; omega, by first | exact grown_drew (grown_alloc GG.out _) | exact grown_alloc (grown_drew GG.out) _⟩
              case measure => simp [intOf]; omega)

        · obtain ⟨z1, z2, z3⟩ := key ⟨#[32, 47, 47, 32, 97, 32, 110, 111, 116, 101, 32, 58, 61, 10]⟩ (by decide) OS2
          have e : A ++ (T ++ ⟨#[32, 47, 47, 32, 97, 32, 110, 111, 116, 101, 32, 58, 61, 10]⟩) = B := OS2
          clear OS2 key
          by_cases hb : 4000 < B.size
          · have ib : (4000 : Int) < B.size := by omega
            go_region_with fail
            all_goals (
              go_wp2
              go_ret
              exact ⟨rfl, grown_none G1.out (by first | exact grown_drew (grown_alloc GG.out _) | exact grown_alloc (grown_drew GG.out) _)⟩)
          · have ib : ¬ (4000 : Int) < B.size := by omega
            go_region_with fail
            all_goals (
              go_wp2
              go_round
              case rel => exact ⟨k + 1, by omega, by go_num, by rw [NB.out], by have := NZ.out; omega, by first | exact grown_drew (grown_alloc GG.out _) | exact grown_alloc (grown_drew GG.out) _⟩
              case measure => simp [intOf]; omega)

      · have hq : pk xs k = 0 := by unfold pk; rw [dif_neg hn]
        rw [hq] at OS
        have n0 : ¬ (0 : Int) < xs.length := by omega
        clear hq
        go_wp2_with fail
        obtain ⟨B, hB⟩ : ∃ B, bs' (outOf (pk xs) 0 (l.take (k + 1))) = B := ⟨_, rfl⟩
        have zB : B.size = (outOf (pk xs) 0 (l.take (k + 1))).length := by rw [← hB, bs'_size]
        have NB := hid hB
        have NZ := hid zB
        have OS2 := OS.out
        rw [hB] at OS2
        clear hB zB OS
        have zT : (tkS l[k]).size ≤ 1000 := by have := tok_small _ l HL.out k hlt; rw [size_toList] at this; omega
        generalize bs' (outOf (pk xs) 0 (l.take k)) = A at *
        generalize tkS l[k] = T at *
        clear a1 a3 CA
        have key : ∀ sep : ByteArray, sep.size ≤ 14 → A ++ (T ++ sep) = B → B.size ≤ 9000 ∧ ¬ 9223372036854775807 < T.size + sep.size ∧ ¬ 9223372036854775807 < A.size + (T ++ sep).size := fun sep hs e => by
          rw [← e, ByteArray.size_append, ByteArray.size_append]
          omega
        have c1 : wr.drew.cell? ⟨gl, k * 3 + 1, none⟩ = some (.string T) := a2
        have c2 : ∀ o : Obj, (wr.drew.alloc o).cell? ⟨gl, k * 3 + 1, none⟩ = some (.string T) := fun o => cell_kept (grown_alloc (grown_refl _ _) _) c1
        have c3 : ∀ o : Obj, (wr.alloc o).drew.cell? ⟨gl, k * 3 + 1, none⟩ = some (.string T) := fun o => cell_kept (grown_drew (grown_alloc (grown_refl _ _) _)) a2
        obtain ⟨z1, z2, z3⟩ := key ⟨#[32]⟩ (by decide) OS2
        have e : A ++ (T ++ ⟨#[32]⟩) = B := OS2
        clear OS2 key
        by_cases hb : 4000 < B.size
        · have ib : (4000 : Int) < B.size := by omega
          go_region_with fail
          all_goals (
            go_wp2
            go_ret
            exact ⟨rfl, grown_none G1.out (by first | exact grown_drew (grown_alloc GG.out _) | exact grown_alloc (grown_drew GG.out) _)⟩)
        · have ib : ¬ (4000 : Int) < B.size := by omega
          go_region_with fail
          all_goals (
            go_wp2
            go_round
            case rel => exact ⟨k + 1, by omega, by go_num, by rw [NB.out], by have := NZ.out; omega, by first | exact grown_drew (grown_alloc GG.out _) | exact grown_alloc (grown_drew GG.out) _⟩
            case measure => simp [intOf]; omega)

    · have k1 : ¬ (k : Int) < l.length := by omega
      have e : k = l.length := by omega
      subst e
      rw [List.take_length] at hlen ⊢
      obtain ⟨m, hm, hA1, hA2⟩ := spaces_toks (pk xs) s.toList l HL.out
      have C2 : Hid (∀ W, Calls Try.prog 7 #[.string (bs' (outOf (pk xs) 0 l))] W (TokPost 31 W (.ok m))) := fun W => by
        have := tokens_any (bs' (outOf (pk xs) 0 l)) W (by rw [bs'_size]; omega)
        rwa [bs'_toList, hm] at this
      have T0 := hid (T1.out.kept GG.out)
      have G0 := hid (grown_none G1.out GG.out)
      generalize bs' (outOf (pk xs) 0 l) = O at *
      clear hm hlen HL T1 GG G1 PA PC
      have ML : (m.length : Int) = l.length := by omega
      have HM := hid hA1
      have HA := hid hA2
      clear hA2
      go_wp2_with (first
        | (go_at_call 7; refine (C2.out _).mono ?_; rintro e w2 ⟨v2, rfl, ht, hg⟩; have G2 := hid (grown_none G0.out hg); have T2 := hid ht; have T1' := hid (T0.out.kept hg); obtain ⟨pm, cm, rfl, _⟩ := row_form ht; rw [hA1] at T2; rw [hA1]; clear C2 hg ht)
        | (go_at_call 9; refine (CA.out _).mono ?_; rintro e w3 ⟨rfl, hg⟩; have G3 := hid (grown_none G2.out hg); have U1 := hid (T1'.out.kept hg); have U2 := hid (T2.out.kept hg); clear CA hg T1' T2))
      go_loopw [14] (fun i wr => ∃ k : Nat, k ≤ l.length ∧ i = .int .i64 k ∧ w3.grownBy wr none) (fun i _ => l.length - (intOf i).toNat)
      case atStart => exact ⟨0, Nat.zero_le _, rfl, grown_refl _ _⟩
      case round =>
        obtain ⟨k, hk, rfl, hg⟩ := hrel
        have GG := hid hg
        have k0 : (0 : Int) ≤ k := by omega
        clear hg
        by_cases hlt : k < l.length
        · have k1 : (k : Int) < l.length := by omega
          have hkm : k < m.length := by omega
          obtain ⟨ga, rfl, a1, a2, a3⟩ := (U1.out.kept GG.out).cell k hlt
          obtain ⟨gb, rfl, b1, b2, b3⟩ := (U2.out.kept GG.out).cell k hkm
          obtain ⟨q1, q2⟩ := HA.out k hlt hkm
          rw [q1] at b1
          rw [show tkS m[k] = tkS l[k] by unfold tkS; rw [q2]] at b2
          clear q1 q2 a3 b3
          generalize tkS l[k] = T at *
          generalize l[k].kind = kd at *
          have e1 : ((kd : Int) != (kd : Int)) = false := by simp
          have e2 : (T.toList == T.toList) = true := by simp
          go_wp2_with fail
          go_quiet (fail)
          go_wp2
          go_round
          case rel => exact ⟨k + 1, by omega, by go_num, grown_drewN GG.out _⟩
          case measure => simp [intOf]; omega
        · have k1 : ¬ (k : Int) < l.length := by omega
          go_wp2
          go_ret
          exact ⟨rfl, grown_none G3.out GG.out⟩
end Go.Proofs.Ythpeckoleiecbaa
