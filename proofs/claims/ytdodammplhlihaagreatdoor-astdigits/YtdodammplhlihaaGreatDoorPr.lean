/-
  A printer: what it gathers.
-/
import Derived.Test.YtdodammplhlihaaGreatDoorWWrite
import Derived.Test.YtdodammplhlihaaGreatDoorAb
import Derived.Lib.Builder
import Derived.Lib.UnsafeStr
import Derived.Laws.Externs
import Derived.Deep.QuietTactic
import Derived.BigQuiet
import Derived.Shelf.RegionOpen
namespace Go.Proofs.YtdodammplhlihaaGreatDoor.Tr
open Go.RowKit
/-- A block of bytes, or a printer's. -/
def Tp (w : World) (k : Nat) : Prop := ∃ cs, w.heap[k]? = some (.cells cs 5 (0, 0)) ∨ w.heap[k]? = some (.cells cs 77 (0, 0))
structure TyP (w w' : World) : Prop where
  size : w.heap.size ≤ w'.heap.size
  keep : ∀ k, k < w.heap.size → ¬ Tp w k → w'.heap[k]? = w.heap[k]?
theorem TyP.of_none {w w' : World} (h : w.grownBy w' none) : TyP w w' := ⟨h.size, fun k hk _ => h.block k hk (by simp)⟩
theorem TyP.of_row {w w' : World} {row : Option Nat} (h : w.grownBy w' row) (hr : ∀ r, row = some r → Tp w r) : TyP w w' := ⟨h.size, fun k hk hn => h.block k hk (fun e => hn (hr k e.symm))⟩
theorem TyP.trans {a b c : World} (h : TyP a b) (k : TyP b c) : TyP a c := ⟨Nat.le_trans h.size k.size, fun i hi hn => by
  have e := h.keep i hi hn
  have hn' : ¬ Tp b i := fun ⟨cs, ht⟩ => hn ⟨cs, by rw [e] at ht; exact ht⟩
  exact (k.keep i (Nat.lt_of_lt_of_le hi h.size) hn').trans e⟩
structure PB (b : Nat) (w w' : World) : Prop where
  bel : Below b w w'
  ty : TyP w w'
theorem PB.trans {n : Nat} {a b c : World} (h : PB n a b) (k : PB n b c) : PB n a c := ⟨h.bel.trans k.bel, h.ty.trans k.ty⟩
theorem pb_none {w w' : World} {b : Nat} (h : w.grownBy w' none) (hb : b < w.heap.size) : PB b w w' := ⟨(Below.refl b w).grown h (by omega) (fun k e => by cases e), TyP.of_none h⟩
theorem _root_.Go.Proofs.YtdodammplhlihaaGreatDoor.Blk.typ {w w' : World} {k : Nat} {t : TypeId} {cs : Array Value} (h : Blk w k t cs) (hk : TyP w w') (h1 : t ≠ 5) (h2 : t ≠ 77) : Blk w' k t cs := (hk.keep k h.lt (fun ⟨cs', ht⟩ => by
  have h' : w.heap[k]? = some (.cells cs t (0, 0)) := h
  rcases ht with ht | ht
  · rw [h'] at ht; injection ht with ht; injection ht with _ ht; exact h1 ht
  · rw [h'] at ht; injection ht with ht; injection ht with _ ht; exact h2 ht)).trans h
/-- A printer that has gathered these bytes. -/
def Prn (w : World) (b : Nat) (l : List UInt8) : Prop := ∃ p v, Blk w b 77 #[.pointer p, v] ∧ (p = none ∨ p = some ⟨b, 0, none⟩) ∧ w.ownsRow (b + 1) 5 1 v l.length (byL l)
theorem Prn.kept {w w' : World} {b : Nat} {l : List UInt8} (h : Prn w b l) (g : w.grownBy w' none) : Prn w' b l := by
  obtain ⟨p, v, h1, h2, h3⟩ := h
  refine ⟨p, v, h1.kept g (by simp), h2, h3.kept g ?_⟩
  cases hv : v.ownBlock with
  | none => exact Or.inl rfl
  | some b => exact Or.inr (by simp)
theorem Prn.lt {w : World} {b : Nat} {l : List UInt8} (h : Prn w b l) : b < w.heap.size := by
  obtain ⟨p, v, h1, _⟩ := h
  exact h1.lt
theorem info84 : (Tryz.prog.info? 75).map (fun i => (i.size)) = some 2 := by kernel_rfl
theorem lies84 : liesAt Tryz.prog Tryz.prog.depth 77 (2 / Tryz.prog.cellsOf 77) 0 75 1 = true := by kernel_rfl
theorem shape_of {w : World} {b : Nat} {t : TypeId} {cs : Array Value} (h : Blk w b t cs) : w.shape? b = some (t, cs.size) := by
  have h' : w.heap[b]? = some (.cells cs t (0, 0)) := h
  simp [World.shape?, h']
set_option maxRecDepth 100000 in
set_option maxHeartbeats 1000000 in
theorem copyCheck_any (b : Nat) (p : Option Addr) (v : Value) (w : World) (hB : Blk w b 77 #[.pointer p, v]) (hp : p = none ∨ p = some ⟨b, 0, none⟩) : Calls Tryz.prog 130 #[.pointer (some ⟨b, 0, none⟩)] w fun e w' => e = .returned (.tuple #[]) ∧ Blk w' b 77 #[.pointer (some ⟨b, 0, none⟩), v] ∧ w.grownBy w' (some b) := by
  have H := hid hB
  have c0 : w.cell? ⟨b, 0, none⟩ = some (.pointer p) := by rw [hB.cell]; rfl
  have f0 := hB.frozen 0
  have hsh : w.shape? b = some (77, 2) := shape_of hB
  obtain ⟨j, hj, hjs⟩ := Option.map_eq_some_iff.1 info84
  rcases hp with rfl | rfl
  · have HJ := hid hj
    have HJS := hid hjs
    have HSH := hid hsh
    clear hj hjs hsh hB
    go_enter Tryz.func130, Tryz.ntmps130
    go_wp2
    rw [Lib.run_to_unsafe w ⟨b, 0, none⟩ Tryz.underlying73 Tryz.underlying199 HJ.out (by rw [HJS.out]; decide) HSH.out (Nat.zero_lt_succ 1)]
    simp only [Result.andThen]
    rw [Oper.upon_value]
    go_wp2
    rw [run_callFunc_extern Tryz.func145 (by kernel_rfl) (by kernel_rfl) (by kernel_rfl) (e := Extern.AbiNoEscape.same) (by kernel_rfl)]
    rw [Lib.run_noEscape]
    simp only [Result.andThen]
    rw [Oper.upon_value]
    go_wp2
    rw [Lib.run_from_unsafe w ⟨b, 0, none⟩ Tryz.underlying199 Tryz.underlying73 HJ.out HSH.out lies84]
    simp only [Result.andThen]
    rw [Oper.upon_value]
    go_wp2
    go_end0
    exact ⟨rfl, H.out.set 0 _, grown_set (grown_refl w _) 0 _⟩
  · have HJ := hid hj
    clear hj hjs hsh hB
    go_enter Tryz.func130, Tryz.ntmps130
    go_wp2
    rw [Lib.run_neq_ptr_same w _ Tryz.underlying73 HJ.out]
    go_wp2
    go_end0
    exact ⟨rfl, H.out, grown_refl w _⟩
theorem row5p {w : World} {base n : Nat} {v : Value} {xs : List Value} (h : w.ownsRow base 5 1 v n xs) : ∀ r, v.ownBlock = some r → Tp w r := fun r hr => by
  rcases h.2 with ⟨rfl, _⟩ | ⟨g, cap, cur, rfl, _, hg, _⟩
  · cases hr
  · obtain rfl : g = r := Option.some.inj hr
    exact ⟨cur, Or.inl hg⟩
theorem slice_form {w : World} {base n : Nat} {e : TypeId} {sz : Nat} {v : Value} {xs : List Value} (h : w.ownsRow base e sz v n xs) : ∃ p c, v = .slice p n c := by
  rcases h.2 with ⟨rfl, h0⟩ | ⟨g, cap, cur, rfl, _⟩
  · exact ⟨none, 0, by rw [h0]⟩
  · exact ⟨_, cap, rfl⟩
set_option maxRecDepth 100000 in
set_option maxHeartbeats 1000000 in
theorem writeString_any (b : Nat) (l : List UInt8) (s : ByteArray) (w : World) (h : Prn w b l) (hl : l.length + s.size ≤ 100000) : Calls Tryz.prog 112 #[.pointer (some ⟨b, 0, none⟩), .string s] w fun e w' => (∃ v, e = .returned v) ∧ Prn w' b (l ++ s.data.toList) ∧ PB b w w' := by
  obtain ⟨p, v, h1, h2, h3⟩ := h
  have hbl : b < w.heap.size := h1.lt
  have hlo0 := h3.lt
  have CC := hid (copyCheck_any b p v w h1 h2)
  have H3 := hid h3
  have GC : Hid (∀ w1, w.grownBy w1 (some b) → w1.ownsRow (b + 1) 5 1 v l.length (byL l) ∧ PB b w w1) := fun w1 hg => by
    refine ⟨h3.kept hg ?_, ⟨(Below.refl b w).grown hg (by omega) (fun k e => by have := Option.some.inj e; omega), TyP.of_row hg (fun r e => by cases e; exact ⟨_, Or.inr h1⟩)⟩⟩
    cases hv : v.ownBlock with
    | none => exact Or.inl rfl
    | some g =>
      refine Or.inr (fun e => ?_)
      have h8 := (hlo0 g hv).1
      have h9 := Option.some.inj e
      omega
  obtain ⟨i5, hi5, hz0, hz1, hz2⟩ := info_parts info5
  clear h1 h2 h3 hlo0
  go_enter Tryz.func112, Tryz.ntmps112
  go_wp2_with (first
    | (go_at_call 130; refine CC.out.mono ?_; clear CC; rintro e w1 ⟨rfl, hb1, hg1⟩; obtain ⟨ho1, hp1⟩ := GC.out w1 hg1; have B1 := hid hb1; have O1 := hid ho1; have P1 := hid hp1; have c1 : w1.cell? ⟨b, 1, none⟩ = some v := (by rw [hb1.cell]; rfl); have hb1' : b + 1 ≤ w1.heap.size := hb1.lt; clear hb1 hg1 ho1 hp1 GC)
    | (at_builtin; refine Lib.wpList_append_own_string _ rfl _ _ 24 9 rfl (b + 1) 5 i5 Tryz.underlying24 Tryz.underlying9 hi5 hz0 hz1 hz2 _ _ _ rfl O1.out s rfl (by unfold maxLen; omega) (by omega) hb1' ?_; intro v' w2 hown hg _; have hlo := O1.out.lt; have B2 := hid (B1.out.kept hg (fun e => (by have := (hlo b e.symm).1; omega))); have f2 : w2.frozen? ⟨b, 1, none⟩ = false := B2.out.frozen 1; have c2 : w2.cell? ⟨b, 1, none⟩ = some v := (by rw [B2.out.cell]; rfl); have P2 := hid (P1.out.trans ⟨(Below.refl b w1).grown hg (by omega) (fun k e => (by have := (hlo k e).1; omega)), TyP.of_row hg (row5p O1.out)⟩); rw [byL_append] at hown; obtain ⟨pf, cf, ef⟩ := slice_form hown; subst ef; have O2 := hid hown; clear hown hg hlo c1))
  go_ret2
  have hlen : l.length + s.size = (l ++ s.data.toList).length := by rw [List.length_append, bytes_len]
  have o2 := O2.out
  have gs := grown_set (grown_refl w2 (some b)) 1 (.slice pf (l.length + s.size) cf)
  have hlo := o2.lt
  refine ⟨⟨_, rfl⟩, ⟨_, _, B2.out.set 1 _, Or.inr rfl, ?_⟩, P2.out.trans ⟨(Below.refl b w2).setCell (Nat.le_refl _) _, TyP.of_row gs (fun r e => by cases e; exact ⟨_, Or.inr B2.out⟩)⟩⟩
  rw [← hlen]
  refine o2.kept gs ?_
  cases hv : (Value.slice pf (l.length + s.size) cf).ownBlock with
  | none => exact Or.inl rfl
  | some k => exact Or.inr (fun e => by have := (hlo k hv).1; have := Option.some.inj e; omega)
/-- The bytes of texts, one behind the other. -/
def cat (ps : List ByteArray) : List UInt8 := ps.flatMap (fun s => s.data.toList)
theorem cat_snoc (ps : List ByteArray) (s : ByteArray) : cat (ps ++ [s]) = cat ps ++ s.data.toList := by simp [cat]
set_option maxRecDepth 100000 in
set_option maxHeartbeats 1000000 in
theorem say_any (b : Nat) (l : List UInt8) (ps : List ByteArray) (g c : Nat) (w : World) (h : Prn w b l) (hg : Blk w g 9 (ps.map Value.string).toArray) (hl : l.length + (cat ps).length ≤ 100000) (hn : ps.length ≤ 10) : Calls Tryz.prog 87 #[.pointer (some ⟨b, 0, none⟩), .slice (some ⟨g, 0, none⟩) ps.length c] w fun e w' => e = .returned (.tuple #[]) ∧ Prn w' b (l ++ cat ps) ∧ PB b w w' := by
  have H := hid h
  have HG := hid hg
  have hb := h.lt
  have HLL := hid hl
  obtain ⟨n, hnn⟩ : ∃ n, ps.length = n := ⟨_, rfl⟩
  have HN := hid hnn
  rw [hnn] at hn ⊢
  have i1 : (n : Int) ≤ 10 := by omega
  clear h hg hl hnn
  go_enter Tryz.func87, Tryz.ntmps87
  go_wp2
  go_loopw [8] (fun i wr => ∃ j : Nat, j ≤ n ∧ i = .int .i64 j ∧ Prn wr b (l ++ cat (ps.take j)) ∧ PB b w wr) (fun i _ => n - (intOf i).toNat)
  case atStart => exact ⟨0, Nat.zero_le _, rfl, by rw [List.take_zero]; simpa [cat] using H.out, pb_none (grown_refl _ _) hb⟩
  case round =>
    obtain ⟨j, hj, rfl, hP, hPB⟩ := hrel
    have PP := hid hP
    have PBB := hid hPB
    have j0 : (0 : Int) ≤ j := by omega
    have hgw := HG.out.typ hPB.ty (by decide) (by decide)
    by_cases hlt : j < n
    · have j1 : (j : Int) < n := by omega
      have hjk : j < ps.length := by rw [HN.out]; exact hlt
      have c0 : wr.cell? ⟨g, j, none⟩ = some (.string ps[j]) := by
        rw [hgw.cell]
        simp [hjk]
      have TS : ps.take (j + 1) = ps.take j ++ [ps[j]] := List.take_succ_eq_append_getElem hjk
      have hle : (l ++ cat (ps.take j)).length + (ps[j]).size ≤ 100000 := by
        have h1 := HLL.out
        have h2 : cat ps = cat (ps.take (j + 1)) ++ cat (ps.drop (j + 1)) := by
          unfold cat
          rw [← List.flatMap_append, List.take_append_drop]
        rw [h2, TS, cat_snoc] at h1
        simp only [List.length_append, bytes_len] at h1 ⊢
        omega
      have CW := hid (writeString_any b (l ++ cat (ps.take j)) ps[j] wr hP hle)
      have TT : Hid (l ++ cat (ps.take (j + 1)) = l ++ cat (ps.take j) ++ (ps[j]).data.toList) := by show _ = _; rw [TS, cat_snoc, List.append_assoc]
      clear hP hPB hgw TS hle
      generalize ps[j] = t at *
      generalize l ++ cat (ps.take j) = A at *
      go_wp2_with (go_at_call 112; refine CW.out.mono ?_; clear CW; rintro e w2 ⟨⟨v2, rfl⟩, hp2, hb2⟩; have P2 := hid hp2; have B2 := hid (PBB.out.trans hb2); clear hp2 hb2)
      go_roundw
      case rel => exact ⟨j + 1, by omega, by go_num, by rw [TT.out]; exact P2.out, B2.out⟩
      case measure => simp [intOf]; omega
    · have hjL : j = n := by omega
      subst hjL
      have j1 : ¬ (j : Int) < j := by omega
      have TA : l ++ cat (ps.take j) = l ++ cat ps := by rw [List.take_of_length_le (by rw [HN.out]; exact Nat.le_refl _)]
      rw [TA] at PP
      clear hP hPB hgw TA
      go_wp2
      go_end0
      exact ⟨rfl, PP.out, PBB.out⟩
set_option maxRecDepth 100000 in
set_option maxHeartbeats 1000000 in
theorem string_any (b : Nat) (l : List UInt8) (w : World) (h : Prn w b l) (h0 : l ≠ []) : Calls Tryz.prog 45 #[.pointer (some ⟨b, 0, none⟩)] w fun e w' => e = .returned (.string ⟨l.toArray⟩) ∧ Below b w w' := by
  obtain ⟨p, v, h1, h2, hown⟩ := h
  have hl0 : l.length ≠ 0 := by simpa using h0
  obtain ⟨g, cap, cur, rfl, hbg, hg, hnc, hcm, hcs, htake⟩ : ∃ g cap cur, v = .slice (some ⟨g, 0, none⟩) l.length cap ∧ b + 1 ≤ g ∧ w.heap[g]? = some (.cells cur 5 (0, 0)) ∧ l.length ≤ cap ∧ cap ≤ maxLen ∧ cur.size = cap * 1 ∧ cur.toList.take (l.length * 1) = byL l := by
    rcases hown.2 with ⟨_, hz⟩ | ⟨g, cap, cur, hv, r⟩
    · exact absurd hz hl0
    · exact ⟨g, cap, cur, hv, r⟩
  have c1 : w.drew.cell? ⟨b, 1, none⟩ = some (.slice (some ⟨g, 0, none⟩) l.length cap) := by
    rw [h1.drew.cell]; rfl
  have hSD : (Builtin.unsafeSliceData_ #[24] 102 #[.slice (some ⟨g, 0, none⟩) l.length cap]).run Tryz.prog w.drew = .ok (.pointer (some ⟨g, 0, none⟩)) w.drew :=
    Lib.run_unsafeSliceData_row _ _ _ _ _ _ (by omega)
  have hUS : (Builtin.unsafeString_ #[102, 3] 9 #[.pointer (some ⟨g, 0, none⟩), .int .i64 l.length]).run Tryz.prog w.drew = .ok (.string ⟨l.toArray⟩) (w.drew.freeze ⟨g, 0, none⟩ l.length) := by
    refine Lib.run_unsafeString_row w.drew 102 3 9 5 Tryz.underlying102 (by kernel_rfl) g cur.size (by have hg' : w.drew.heap[g]? = some (.cells cur 5 (0, 0)) := hg; simp [World.shape?, hg']) l h0 (by omega) (by unfold maxLen at hcm; omega) ?_
    intro j x hx
    have := hown.cells (g := g) rfl j (.int .u8 x.toNat) (by simp [byL, hx])
    exact this
  have hbg' := hid hbg
  clear h1 h2 hown hg hcs htake h0 hl0 hbg
  unfold maxLen at hcm
  go_enter Tryz.func45, Tryz.ntmps45
  go_wp2
  go_region
  all_goals (go_wp2; go_ret; exact ⟨rfl, Lib.below_freeze (Below.drew (Below.refl b w)) (p := ⟨g, 0, none⟩) (by have := hbg'.out; show b ≤ g; omega) _⟩)
end Go.Proofs.YtdodammplhlihaaGreatDoor.Tr
