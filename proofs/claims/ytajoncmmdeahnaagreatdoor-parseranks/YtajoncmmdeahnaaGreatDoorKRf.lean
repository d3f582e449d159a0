/-
  A printer: what it gathers. Print: what is said, from one call to the next; small numbers. Print: a node's kid, an expression.
-/
import Derived.Test.YtajoncmmdeahnaaGreatDoorYWWrite
import Derived.Test.YtajoncmmdeahnaaGreatDoorKPb
import Derived.Lib.Builder
import Derived.Lib.UnsafeStr
import Derived.Laws.Externs
import Derived.Deep.QuietTactic
import Derived.BigQuiet
import Derived.Shelf.RegionOpen
namespace Go.Proofs.YtajoncmmdeahnaaGreatDoor.Pt
open Go.RowKit
def Tp (w : World) (k : Nat) : Prop := ∃ cs, w.heap[k]? = some (.cells cs 5 (0, 0)) ∨ w.heap[k]? = some (.cells cs 66 (0, 0))
structure TyP (w w' : World) : Prop where
  size : w.heap.size ≤ w'.heap.size
  keep : ∀ k, k < w.heap.size → ¬ Tp w k → w'.heap[k]? = w.heap[k]?
theorem TyP.of_none {w w' : World} (h : w.grownBy w' none) : TyP w w' := ⟨h.size, fun k hk _ => h.block k hk (by simp)⟩
theorem TyP.of_row {w w' : World} {row : Option Nat} (h : w.grownBy w' row) (hr : ∀ r, row = some r → Tp w r) : TyP w w' := ⟨h.size, fun k hk hn => h.block k hk (fun e => hn (hr k e.symm))⟩
theorem TyP.trans {a b c : World} (h : TyP a b) (k : TyP b c) : TyP a c := ⟨Nat.le_trans h.size k.size, fun i hi hn => by
  have e := h.keep i hi hn
  have hn' : ¬ Tp b i := fun ⟨cs, ht⟩ => hn ⟨cs, by rw [e] at ht; exact ht⟩
  exact (k.keep i (Nat.lt_of_lt_of_le hi h.size) hn').trans e⟩
structure PB (b : Nat) (w w' : World) : Prop where
  bel : Below b w w'
  ty : TyP w w'
theorem PB.trans {n : Nat} {a b c : World} (h : PB n a b) (k : PB n b c) : PB n a c := ⟨h.bel.trans k.bel, h.ty.trans k.ty⟩
theorem pb_none {w w' : World} {b : Nat} (h : w.grownBy w' none) (hb : b < w.heap.size) : PB b w w' := ⟨(Below.refl b w).grown h (by omega) (fun k e => by cases e), TyP.of_none h⟩
theorem blk_typ {w w' : World} {k : Nat} {t : TypeId} {cs : Array Value} (h : Blk w k t cs) (hk : TyP w w') (h1 : t ≠ 5) (h2 : t ≠ 66) : Blk w' k t cs := (hk.keep k h.lt (fun ⟨cs', ht⟩ => by
  have h' : w.heap[k]? = some (.cells cs t (0, 0)) := h
  rcases ht with ht | ht
  · rw [h'] at ht; injection ht with ht; injection ht with _ ht; exact h1 ht
  · rw [h'] at ht; injection ht with ht; injection ht with _ ht; exact h2 ht)).trans h
def Prn (w : World) (b : Nat) (l : List UInt8) : Prop := ∃ p v, Blk w b 66 #[.pointer p, v] ∧ (p = none ∨ p = some ⟨b, 0, none⟩) ∧ w.ownsRow (b + 1) 5 1 v l.length (byL l)
theorem Prn.kept {w w' : World} {b : Nat} {l : List UInt8} (h : Prn w b l) (g : w.grownBy w' none) : Prn w' b l := by
  obtain ⟨p, v, h1, h2, h3⟩ := h
  refine ⟨p, v, h1.kept g (by simp), h2, h3.kept g ?_⟩
  cases hv : v.ownBlock with
  | none => exact Or.inl rfl
  | some b => exact Or.inr (by simp)
theorem Prn.lt {w : World} {b : Nat} {l : List UInt8} (h : Prn w b l) : b < w.heap.size := by
  obtain ⟨p, v, h1, _⟩ := h
  exact h1.lt
theorem info84 : (Tryz.prog.info? 64).map (fun i => (i.size)) = some 2 := by kernel_rfl
theorem lies84 : liesAt Tryz.prog Tryz.prog.depth 66 (2 / Tryz.prog.cellsOf 66) 0 64 1 = true := by kernel_rfl
theorem shape_of {w : World} {b : Nat} {t : TypeId} {cs : Array Value} (h : Blk w b t cs) : w.shape? b = some (t, cs.size) := by
  have h' : w.heap[b]? = some (.cells cs t (0, 0)) := h
  simp [World.shape?, h']
set_option maxRecDepth 100000 in
set_option maxHeartbeats 1000000 in
theorem copyCheck_any (b : Nat) (p : Option Addr) (v : Value) (w : World) (hB : Blk w b 66 #[.pointer p, v]) (hp : p = none ∨ p = some ⟨b, 0, none⟩) : Calls Tryz.prog 168 #[.pointer (some ⟨b, 0, none⟩)] w fun e w' => e = .returned (.tuple #[]) ∧ Blk w' b 66 #[.pointer (some ⟨b, 0, none⟩), v] ∧ w.grownBy w' (some b) := by
  have H := hid hB
  have c0 : w.cell? ⟨b, 0, none⟩ = some (.pointer p) := by rw [hB.cell]; rfl
  have f0 := hB.frozen 0
  have hsh : w.shape? b = some (66, 2) := shape_of hB
  obtain ⟨j, hj, hjs⟩ := Option.map_eq_some_iff.1 info84
  rcases hp with rfl | rfl
  · have HJ := hid hj
    have HJS := hid hjs
    have HSH := hid hsh
    clear hj hjs hsh hB
    go_enter Tryz.func168, Tryz.ntmps168
    go_wp2
    rw [Lib.run_to_unsafe w ⟨b, 0, none⟩ Tryz.underlying62 Tryz.underlying215 HJ.out (by rw [HJS.out]; decide) HSH.out (Nat.zero_lt_succ 1)]
    simp only [Result.andThen]
    rw [Oper.upon_value]
    go_wp2
    rw [run_callFunc_extern Tryz.func201 (by kernel_rfl) (by kernel_rfl) (by kernel_rfl) (e := Extern.AbiNoEscape.same) (by kernel_rfl)]
    rw [Lib.run_noEscape]
    simp only [Result.andThen]
    rw [Oper.upon_value]
    go_wp2
    rw [Lib.run_from_unsafe w ⟨b, 0, none⟩ Tryz.underlying215 Tryz.underlying62 HJ.out HSH.out lies84]
    simp only [Result.andThen]
    rw [Oper.upon_value]
    go_wp2
    go_end0
    exact ⟨rfl, H.out.set 0 _, grown_set (grown_refl w _) 0 _⟩
  · have HJ := hid hj
    clear hj hjs hsh hB
    go_enter Tryz.func168, Tryz.ntmps168
    go_wp2
    rw [Lib.run_neq_ptr_same w _ Tryz.underlying62 HJ.out]
    go_wp2
    go_end0
    exact ⟨rfl, H.out, grown_refl w _⟩
theorem row5p {w : World} {base n : Nat} {v : Value} {xs : List Value} (h : w.ownsRow base 5 1 v n xs) : ∀ r, v.ownBlock = some r → Tp w r := fun r hr => by
  rcases h.2 with ⟨rfl, _⟩ | ⟨g, cap, cur, rfl, _, hg, _⟩
  · cases hr
  · obtain rfl : g = r := Option.some.inj hr
    exact ⟨cur, Or.inl hg⟩
theorem slice_form {w : World} {base n : Nat} {e : TypeId} {sz : Nat} {v : Value} {xs : List Value} (h : w.ownsRow base e sz v n xs) : ∃ p c, v = .slice p n c := by
  rcases h.2 with ⟨rfl, h0⟩ | ⟨g, cap, cur, rfl, _⟩
  · exact ⟨none, 0, by rw [h0]⟩
  · exact ⟨_, cap, rfl⟩
set_option maxRecDepth 100000 in
set_option maxHeartbeats 1000000 in
theorem writeString_any (b : Nat) (l : List UInt8) (s : ByteArray) (w : World) (h : Prn w b l) (hl : l.length + s.size ≤ 100000) : Calls Tryz.prog 127 #[.pointer (some ⟨b, 0, none⟩), .string s] w fun e w' => (∃ v, e = .returned v) ∧ Prn w' b (l ++ s.data.toList) ∧ PB b w w' := by
  obtain ⟨p, v, h1, h2, h3⟩ := h
  have hbl : b < w.heap.size := h1.lt
  have hlo0 := h3.lt
  have CC := hid (copyCheck_any b p v w h1 h2)
  have H3 := hid h3
  have GC : Hid (∀ w1, w.grownBy w1 (some b) → w1.ownsRow (b + 1) 5 1 v l.length (byL l) ∧ PB b w w1) := fun w1 hg => by
    refine ⟨h3.kept hg ?_, ⟨(Below.refl b w).grown hg (by omega) (fun k e => by have := Option.some.inj e; omega), TyP.of_row hg (fun r e => by cases e; exact ⟨_, Or.inr h1⟩)⟩⟩
    cases hv : v.ownBlock with
    | none => exact Or.inl rfl
    | some g =>
      refine Or.inr (fun e => ?_)
      have h8 := (hlo0 g hv).1
      have h9 := Option.some.inj e
      omega
  obtain ⟨i5, hi5, hz0, hz1, hz2⟩ := info_parts info5
  clear h1 h2 h3 hlo0
  go_enter Tryz.func127, Tryz.ntmps127
  go_wp2_with (first
    | (go_at_call 168; refine CC.out.mono ?_; clear CC; rintro e w1 ⟨rfl, hb1, hg1⟩; obtain ⟨ho1, hp1⟩ := GC.out w1 hg1; have B1 := hid hb1; have O1 := hid ho1; have P1 := hid hp1; have c1 : w1.cell? ⟨b, 1, none⟩ = some v := (by rw [hb1.cell]; rfl); have hb1' : b + 1 ≤ w1.heap.size := hb1.lt; clear hb1 hg1 ho1 hp1 GC)
    | (at_builtin; refine Lib.wpList_append_own_string _ rfl _ _ 24 9 rfl (b + 1) 5 i5 Tryz.underlying24 Tryz.underlying9 hi5 hz0 hz1 hz2 _ _ _ rfl O1.out s rfl (by unfold maxLen; omega) (by omega) hb1' ?_; intro v' w2 hown hg _; have hlo := O1.out.lt; have B2 := hid (B1.out.kept hg (fun e => (by have := (hlo b e.symm).1; omega))); have f2 : w2.frozen? ⟨b, 1, none⟩ = false := B2.out.frozen 1; have c2 : w2.cell? ⟨b, 1, none⟩ = some v := (by rw [B2.out.cell]; rfl); have P2 := hid (P1.out.trans ⟨(Below.refl b w1).grown hg (by omega) (fun k e => (by have := (hlo k e).1; omega)), TyP.of_row hg (row5p O1.out)⟩); rw [byL_append] at hown; obtain ⟨pf, cf, ef⟩ := slice_form hown; subst ef; have O2 := hid hown; clear hown hg hlo c1))
  go_ret2
  have hlen : l.length + s.size = (l ++ s.data.toList).length := by rw [List.length_append, bytes_len]
  have o2 := O2.out
  have gs := grown_set (grown_refl w2 (some b)) 1 (.slice pf (l.length + s.size) cf)
  have hlo := o2.lt
  refine ⟨⟨_, rfl⟩, ⟨_, _, B2.out.set 1 _, Or.inr rfl, ?_⟩, P2.out.trans ⟨(Below.refl b w2).setCell (Nat.le_refl _) _, TyP.of_row gs (fun r e => by cases e; exact ⟨_, Or.inr B2.out⟩)⟩⟩
  rw [← hlen]
  refine o2.kept gs ?_
  cases hv : (Value.slice pf (l.length + s.size) cf).ownBlock with
  | none => exact Or.inl rfl
  | some k => exact Or.inr (fun e => by have := (hlo k hv).1; have := Option.some.inj e; omega)
def cat (ps : List ByteArray) : List UInt8 := ps.flatMap (fun s => s.data.toList)
theorem cat_snoc (ps : List ByteArray) (s : ByteArray) : cat (ps ++ [s]) = cat ps ++ s.data.toList := by simp [cat]
set_option maxRecDepth 100000 in
set_option maxHeartbeats 1000000 in
theorem say_any (b : Nat) (l : List UInt8) (ps : List ByteArray) (g c : Nat) (w : World) (h : Prn w b l) (hg : Blk w g 9 (ps.map Value.string).toArray) (hl : l.length + (cat ps).length ≤ 100000) (hn : ps.length ≤ 10) : Calls Tryz.prog 83 #[.pointer (some ⟨b, 0, none⟩), .slice (some ⟨g, 0, none⟩) ps.length c] w fun e w' => e = .returned (.tuple #[]) ∧ Prn w' b (l ++ cat ps) ∧ PB b w w' := by
  have H := hid h
  have HG := hid hg
  have hb := h.lt
  have HLL := hid hl
  obtain ⟨n, hnn⟩ : ∃ n, ps.length = n := ⟨_, rfl⟩
  have HN := hid hnn
  rw [hnn] at hn ⊢
  have i1 : (n : Int) ≤ 10 := by omega
  clear h hg hl hnn
  go_enter Tryz.func83, Tryz.ntmps83
  go_wp2
  go_loopw [8] (fun i wr => ∃ j : Nat, j ≤ n ∧ i = .int .i64 j ∧ Prn wr b (l ++ cat (ps.take j)) ∧ PB b w wr) (fun i _ => n - (intOf i).toNat)
  case atStart => exact ⟨0, Nat.zero_le _, rfl, by rw [List.take_zero]; simpa [cat] using H.out, pb_none (grown_refl _ _) hb⟩
  case round =>
    obtain ⟨j, hj, rfl, hP, hPB⟩ := hrel
    have PP := hid hP
    have PBB := hid hPB
    have j0 : (0 : Int) ≤ j := by omega
    have hgw := blk_typ HG.out hPB.ty (by decide) (by decide)
    by_cases hlt : j < n
    · have j1 : (j : Int) < n := by omega
      have hjk : j < ps.length := by rw [HN.out]; exact hlt
      have c0 : wr.cell? ⟨g, j, none⟩ = some (.string ps[j]) := by
        rw [hgw.cell]
        simp [hjk]
      have TS : ps.take (j + 1) = ps.take j ++ [ps[j]] := List.take_succ_eq_append_getElem hjk
      have hle : (l ++ cat (ps.take j)).length + (ps[j]).size ≤ 100000 := by
        have h1 := HLL.out
        have h2 : cat ps = cat (ps.take (j + 1)) ++ cat (ps.drop (j + 1)) := by
          unfold cat
          rw [← List.flatMap_append, List.take_append_drop]
        rw [h2, TS, cat_snoc] at h1
        simp only [List.length_append, bytes_len] at h1 ⊢
        omega
      have CW := hid (writeString_any b (l ++ cat (ps.take j)) ps[j] wr hP hle)
      have TT : Hid (l ++ cat (ps.take (j + 1)) = l ++ cat (ps.take j) ++ (ps[j]).data.toList) := by show _ = _; rw [TS, cat_snoc, List.append_assoc]
      clear hP hPB hgw TS hle
      generalize ps[j] = t at *
      generalize l ++ cat (ps.take j) = A at *
      go_wp2_with (go_at_call 127; refine CW.out.mono ?_; clear CW; rintro e w2 ⟨⟨v2, rfl⟩, hp2, hb2⟩; have P2 := hid hp2; have B2 := hid (PBB.out.trans hb2); clear hp2 hb2)
      go_roundw
      case rel => exact ⟨j + 1, by omega, by go_num, by rw [TT.out]; exact P2.out, B2.out⟩
      case measure => simp [intOf]; omega
    · have hjL : j = n := by omega
      subst hjL
      have j1 : ¬ (j : Int) < j := by omega
      have TA : l ++ cat (ps.take j) = l ++ cat ps := by rw [List.take_of_length_le (by rw [HN.out]; exact Nat.le_refl _)]
      rw [TA] at PP
      clear hP hPB hgw TA
      go_wp2
      go_end0
      exact ⟨rfl, PP.out, PBB.out⟩
set_option maxRecDepth 100000 in
set_option maxHeartbeats 1000000 in
theorem string_any (b : Nat) (l : List UInt8) (w : World) (h : Prn w b l) (h0 : l ≠ []) : Calls Tryz.prog 25 #[.pointer (some ⟨b, 0, none⟩)] w fun e w' => e = .returned (.string ⟨l.toArray⟩) ∧ Below b w w' := by
  obtain ⟨p, v, h1, h2, hown⟩ := h
  have hl0 : l.length ≠ 0 := by simpa using h0
  obtain ⟨g, cap, cur, rfl, hbg, hg, hnc, hcm, hcs, htake⟩ : ∃ g cap cur, v = .slice (some ⟨g, 0, none⟩) l.length cap ∧ b + 1 ≤ g ∧ w.heap[g]? = some (.cells cur 5 (0, 0)) ∧ l.length ≤ cap ∧ cap ≤ maxLen ∧ cur.size = cap * 1 ∧ cur.toList.take (l.length * 1) = byL l := by
    rcases hown.2 with ⟨_, hz⟩ | ⟨g, cap, cur, hv, r⟩
    · exact absurd hz hl0
    · exact ⟨g, cap, cur, hv, r⟩
  have c1 : w.drew.cell? ⟨b, 1, none⟩ = some (.slice (some ⟨g, 0, none⟩) l.length cap) := by
    rw [h1.drew.cell]; rfl
  have hSD : (Builtin.unsafeSliceData_ #[24] 97 #[.slice (some ⟨g, 0, none⟩) l.length cap]).run Tryz.prog w.drew = .ok (.pointer (some ⟨g, 0, none⟩)) w.drew :=
    Lib.run_unsafeSliceData_row _ _ _ _ _ _ (by omega)
  have hUS : (Builtin.unsafeString_ #[97, 3] 9 #[.pointer (some ⟨g, 0, none⟩), .int .i64 l.length]).run Tryz.prog w.drew = .ok (.string ⟨l.toArray⟩) (w.drew.freeze ⟨g, 0, none⟩ l.length) := by
    refine Lib.run_unsafeString_row w.drew 97 3 9 5 Tryz.underlying97 (by kernel_rfl) g cur.size (by have hg' : w.drew.heap[g]? = some (.cells cur 5 (0, 0)) := hg; simp [World.shape?, hg']) l h0 (by omega) (by unfold maxLen at hcm; omega) ?_
    intro j x hx
    have := hown.cells (g := g) rfl j (.int .u8 x.toNat) (by simp [byL, hx])
    exact this
  have hbg' := hid hbg
  clear h1 h2 hown hg hcs htake h0 hl0 hbg
  unfold maxLen at hcm
  go_enter Tryz.func25, Tryz.ntmps25
  go_wp2
  go_region
  all_goals (go_wp2; go_ret; exact ⟨rfl, Lib.below_freeze (Below.drew (Below.refl b w)) (p := ⟨g, 0, none⟩) (by have := hbg'.out; show b ≤ g; omega) _⟩)
end Go.Proofs.YtajoncmmdeahnaaGreatDoor.Pt
namespace Go.Proofs.YtajoncmmdeahnaaGreatDoor.Pt
open Go.RowKit
set_option maxRecDepth 100000 in
theorem small_1 (w : World) : Calls Tryz.prog 100 #[.int .i64 1] w fun e w' => e = .returned (.string ⟨#[49]⟩) ∧ w' = w := by
  go_enter Tryz.func100, Tryz.ntmps100
  go_wp2
  go_ret
  exact ⟨rfl, rfl⟩
set_option maxRecDepth 100000 in
theorem fmti_1 (w : World) : Calls Tryz.prog 56 #[.int .i64 1, .int .i64 10] w fun e w' => e = .returned (.string ⟨#[49]⟩) ∧ w' = w := by
  go_enter Tryz.func56, Tryz.ntmps56
  go_wp2_with (go_at_call 100; refine (small_1 _).mono ?_; rintro e w1 ⟨rfl, hw⟩; replace hw := hw.symm; subst hw)
  go_ret
  exact ⟨rfl, rfl⟩
set_option maxRecDepth 100000 in
theorem fmt_1 (w : World) : Calls Tryz.prog 90 #[.int .i64 1, .int .i64 10] w fun e w' => e = .returned (.string ⟨#[49]⟩) ∧ w' = w := by
  go_enter Tryz.func90, Tryz.ntmps90
  go_wp2_with (go_at_call 56; refine (fmti_1 _).mono ?_; rintro e w1 ⟨rfl, hw⟩; replace hw := hw.symm; subst hw)
  go_ret
  exact ⟨rfl, rfl⟩
set_option maxRecDepth 100000 in
theorem small_2 (w : World) : Calls Tryz.prog 100 #[.int .i64 2] w fun e w' => e = .returned (.string ⟨#[50]⟩) ∧ w' = w := by
  go_enter Tryz.func100, Tryz.ntmps100
  go_wp2
  go_ret
  exact ⟨rfl, rfl⟩
set_option maxRecDepth 100000 in
theorem fmti_2 (w : World) : Calls Tryz.prog 56 #[.int .i64 2, .int .i64 10] w fun e w' => e = .returned (.string ⟨#[50]⟩) ∧ w' = w := by
  go_enter Tryz.func56, Tryz.ntmps56
  go_wp2_with (go_at_call 100; refine (small_2 _).mono ?_; rintro e w1 ⟨rfl, hw⟩; replace hw := hw.symm; subst hw)
  go_ret
  exact ⟨rfl, rfl⟩
set_option maxRecDepth 100000 in
theorem fmt_2 (w : World) : Calls Tryz.prog 90 #[.int .i64 2, .int .i64 10] w fun e w' => e = .returned (.string ⟨#[50]⟩) ∧ w' = w := by
  go_enter Tryz.func90, Tryz.ntmps90
  go_wp2_with (go_at_call 56; refine (fmti_2 _).mono ?_; rintro e w1 ⟨rfl, hw⟩; replace hw := hw.symm; subst hw)
  go_ret
  exact ⟨rfl, rfl⟩
set_option maxRecDepth 100000 in
theorem small_3 (w : World) : Calls Tryz.prog 100 #[.int .i64 3] w fun e w' => e = .returned (.string ⟨#[51]⟩) ∧ w' = w := by
  go_enter Tryz.func100, Tryz.ntmps100
  go_wp2
  go_ret
  exact ⟨rfl, rfl⟩
set_option maxRecDepth 100000 in
theorem fmti_3 (w : World) : Calls Tryz.prog 56 #[.int .i64 3, .int .i64 10] w fun e w' => e = .returned (.string ⟨#[51]⟩) ∧ w' = w := by
  go_enter Tryz.func56, Tryz.ntmps56
  go_wp2_with (go_at_call 100; refine (small_3 _).mono ?_; rintro e w1 ⟨rfl, hw⟩; replace hw := hw.symm; subst hw)
  go_ret
  exact ⟨rfl, rfl⟩
set_option maxRecDepth 100000 in
theorem fmt_3 (w : World) : Calls Tryz.prog 90 #[.int .i64 3, .int .i64 10] w fun e w' => e = .returned (.string ⟨#[51]⟩) ∧ w' = w := by
  go_enter Tryz.func90, Tryz.ntmps90
  go_wp2_with (go_at_call 56; refine (fmti_3 _).mono ?_; rintro e w1 ⟨rfl, hw⟩; replace hw := hw.symm; subst hw)
  go_ret
  exact ⟨rfl, rfl⟩
def numT (n : Int) : Option (List UInt8) := if n = 1 then some [49] else if n = 2 then some [50] else if n = 3 then some [51] else none
theorem fmt_num (n : Int) (t : List UInt8) (h : numT n = some t) (w : World) : Calls Tryz.prog 90 #[.int .i64 n, .int .i64 10] w fun e w' => e = .returned (.string ⟨t.toArray⟩) ∧ w' = w := by
  unfold numT at h
  split at h
  · rename_i e; subst e; cases h; exact fmt_1 w
  split at h
  · rename_i e; subst e; cases h; exact fmt_2 w
  split at h
  · rename_i e; subst e; cases h; exact fmt_3 w
  · cases h
def SayP (w : World) (b : Nat) (l : List UInt8) (e : Ending) (w' : World) : Prop := e = .returned (.tuple #[]) ∧ Prn w' b l ∧ PB b w w'
def PC (f : FuncId) (φ : Nd → Option (List UInt8)) : Prop := ∀ (b : Nat) (x : Nd) (t l : List UInt8) (v : Value) (W : World), φ x = some t → Prn W b l → NdV W (fun i => i < b) v x → l.length + t.length ≤ 5000 → Calls Tryz.prog f #[.pointer (some ⟨b, 0, none⟩), v] W (SayP W b (l ++ t))
structure St (w w1 : World) (b B : Nat) (l : List UInt8) (x : Nd) (q : Value) : Prop where
  prn : Prn w1 b l
  ks : KsV w1 (fun i => i < b) q x.kids
  box : Blk w1 B 27 #[.int .i64 x.kind, .int .i64 x.ty, .string x.txt, .int .i64 x.num, q]
  pb : PB b w w1
theorem St.zero {w : World} {b : Nat} {l : List UInt8} {x : Nd} {q : Value} (h : Prn w b l) (k : KsV w (fun i => i < b) q x.kids) : St w (w.alloc (.cells #[.int .i64 x.kind, .int .i64 x.ty, .string x.txt, .int .i64 x.num, q] 27)) b w.heap.size l x q :=
  ⟨h.kept (grown_alloc (grown_refl _ _) _), k.kept (grown_alloc (grown_refl _ _) _), Blk.new w 27 _, pb_none (grown_alloc (grown_refl w none) _) h.lt⟩
theorem ks_below {w w' : World} {b : Nat} {q : Value} {ks : List Nd} (h : KsV w (fun i => i < b) q ks) (hb : Below b w w') : KsV w' (fun i => i < b) q ks := h.keptP (fun i hi _ => hb.block i hi) (fun _ h _ => h)
theorem St.say {w w1 w2 : World} {b B : Nat} {l l' : List UInt8} {x : Nd} {q : Value} (h : St w w1 b B l x q) (hp : Prn w2 b l') (hb : PB b w1 w2) : St w w2 b B l' x q :=
  ⟨hp, ks_below h.ks hb.bel, blk_typ h.box hb.ty (by decide) (by decide), h.pb.trans hb⟩
theorem St.alloc {w w1 : World} {b B : Nat} {l : List UInt8} {x : Nd} {q : Value} (h : St w w1 b B l x q) (o : Obj) : St w (w1.alloc o) b B l x q :=
  ⟨h.prn.kept (grown_alloc (grown_refl _ _) _), h.ks.kept (grown_alloc (grown_refl _ _) _), h.box.alloc _, h.pb.trans (pb_none (grown_alloc (grown_refl w1 none) _) h.prn.lt)⟩
theorem St.cells {w w1 : World} {b B : Nat} {l : List UInt8} {x : Nd} {q : Value} (h : St w w1 b B l x q) : w1.cell? ⟨B, 0, none⟩ = some (.int .i64 x.kind) ∧ w1.cell? ⟨B, 1, none⟩ = some (.int .i64 x.ty) ∧ w1.cell? ⟨B, 2, none⟩ = some (.string x.txt) ∧ w1.cell? ⟨B, 3, none⟩ = some (.int .i64 x.num) ∧ w1.cell? ⟨B, 4, none⟩ = some q :=
  ⟨h.box.cell 0, h.box.cell 1, h.box.cell 2, h.box.cell 3, h.box.cell 4⟩
def StP (w : World) (b B : Nat) (l : List UInt8) (x : Nd) (q : Value) (e : Ending) (w2 : World) : Prop := e = .returned (.tuple #[]) ∧ St w w2 b B l x q
theorem St.texts {w w1 : World} {b B : Nat} {l : List UInt8} {x : Nd} {q : Value} (h : St w w1 b B l x q) (ps : List ByteArray) (hl : l.length + (cat ps).length ≤ 5000) (hn : ps.length ≤ 10) : Calls Tryz.prog 83 #[.pointer (some ⟨b, 0, none⟩), .slice (some ⟨w1.heap.size, 0, none⟩) ps.length ps.length] (w1.alloc (.cells (ps.map Value.string).toArray 9)) (StP w b B (l ++ cat ps) x q) :=
  (say_any b l ps w1.heap.size ps.length (w1.alloc (.cells (ps.map Value.string).toArray 9)) (h.alloc _).prn (Blk.new w1 9 _) (by omega) hn).mono (by
    rintro e w2 ⟨rfl, hp, hb⟩
    exact ⟨rfl, (h.alloc _).say hp hb⟩)
theorem St.text1 {w w1 : World} {b B : Nat} {l : List UInt8} {x : Nd} {q : Value} (h : St w w1 b B l x q) (s : ByteArray) (hl : l.length + s.data.toList.length ≤ 5000) : Calls Tryz.prog 83 #[.pointer (some ⟨b, 0, none⟩), .slice (some ⟨w1.heap.size, 0, none⟩) 1 1] (w1.alloc (.cells #[.string s] 9)) (StP w b B (l ++ s.data.toList) x q) := by
  have h1 := h.texts [s] (by simpa [cat] using hl) (by simp)
  have e : cat [s] = s.data.toList := by simp [cat]
  rw [e] at h1
  exact h1
theorem St.text3 {w w1 : World} {b B : Nat} {l : List UInt8} {x : Nd} {q : Value} (h : St w w1 b B l x q) (s t u : ByteArray) (hl : l.length + (s.data.toList.length + (t.data.toList.length + u.data.toList.length)) ≤ 5000) : Calls Tryz.prog 83 #[.pointer (some ⟨b, 0, none⟩), .slice (some ⟨w1.heap.size, 0, none⟩) 3 3] (w1.alloc (.cells #[.string s, .string t, .string u] 9)) (StP w b B (l ++ (s.data.toList ++ (t.data.toList ++ u.data.toList))) x q) := by
  have h1 := h.texts [s, t, u] (by simpa [cat] using hl) (by simp)
  have e : cat [s, t, u] = s.data.toList ++ (t.data.toList ++ u.data.toList) := by simp [cat]
  rw [e] at h1
  exact h1
theorem St.sub {w w1 : World} {b B : Nat} {l t : List UInt8} {x y : Nd} {q v : Value} {f : FuncId} {φ : Nd → Option (List UInt8)} (h : St w w1 b B l x q) (C : PC f φ) (ht : φ y = some t) (hv : NdV w1 (fun i => i < b) v y) (hl : l.length + t.length ≤ 5000) : Calls Tryz.prog f #[.pointer (some ⟨b, 0, none⟩), v] w1 (StP w b B (l ++ t) x q) :=
  (C b y t l v w1 ht h.prn hv hl).mono (by
    rintro e w2 ⟨rfl, hp, hb⟩
    exact ⟨rfl, h.say hp hb⟩)
theorem St.self {w w1 : World} {b B : Nat} {l : List UInt8} {x : Nd} {q : Value} (h : St w w1 b B l x q) : NdV w1 (fun i => i < b) (.agg #[.int .i64 x.kind, .int .i64 x.ty, .string x.txt, .int .i64 x.num, q]) x := ⟨q, rfl, h.ks⟩
end Go.Proofs.YtajoncmmdeahnaaGreatDoor.Pt
namespace Go.Proofs.YtajoncmmdeahnaaGreatDoor.Pt
open Go.RowKit
def KC (φ : Nd → Option (List UInt8)) : Prop := ∀ (b i : Nat) (x : Nd) (t l : List UInt8) (v : Value) (W : World) (hi : i < x.kids.length), φ x.kids[i] = some t → Prn W b l → NdV W (fun i => i < b) v x → l.length + t.length ≤ 5000 → Calls Tryz.prog 85 #[.pointer (some ⟨b, 0, none⟩), v, .int .i64 i] W (SayP W b (l ++ t))
set_option maxRecDepth 100000 in
set_option maxHeartbeats 1000000 in
theorem kid_any (φ : Nd → Option (List UInt8)) (CN : PC 24 φ) : KC φ := by
  intro b i x t l v W hi ht hp hv hl
  obtain ⟨q, rfl, hk⟩ := hv
  obtain ⟨p, cap, rfl, hle, hcap, _⟩ := hk.form
  have hn : x.kids.length ≤ 9223372036854775807 := by unfold maxLen at hcap; omega
  have S0 := St.zero hp hk
  obtain ⟨g, rfl, hgb, hat⟩ := S0.ks.at i hi
  obtain ⟨qy, c0, c1, c2, c3, c4, hky⟩ := hat.cells
  rw [Nat.mul_comm 5 i] at c0 c1 c2 c3 c4
  have CS : Hid (Calls Tryz.prog 24 #[.pointer (some ⟨b, 0, none⟩), .agg #[.int .i64 (x.kids[i]).kind, .int .i64 (x.kids[i]).ty, .string (x.kids[i]).txt, .int .i64 (x.kids[i]).num, qy]] (W.alloc (.cells #[.int .i64 x.kind, .int .i64 x.ty, .string x.txt, .int .i64 x.num, .slice (some ⟨g, 0, none⟩) x.kids.length cap] 27)) (StP W b W.heap.size (l ++ t) x (.slice (some ⟨g, 0, none⟩) x.kids.length cap))) := S0.sub CN ht ⟨qy, rfl, hky⟩ hl
  clear hp hk S0 hat hky ht CN
  generalize x.kids[i] = y at CS c0 c1 c2 c3 c4
  generalize hL : x.kids.length = L at *
  go_enter Tryz.func85, Tryz.ntmps85
  go_wp2_with (go_at_call 24; refine CS.out.mono ?_; clear CS; rintro e w2 ⟨rfl, hs⟩; have S2 := hid hs; clear hs)
  go_end0
  exact ⟨rfl, S2.out.prn, S2.out.pb⟩
end Go.Proofs.YtajoncmmdeahnaaGreatDoor.Pt
