/-
  The law's cut: at most six texts, each cut. Plan: none, or one fall.
-/
import Derived.Test.YtddnjlnnkeiplaaKMdl
import Derived.Test.YtddnjlnnkeiplaaKXDel
namespace Go.Proofs.Ytddnjlnnkeiplaa
open Go.RowKit Go.Maps
def strs (l : List ByteArray) : List Value := l.map Value.string
theorem info9 : (Try.prog.info? 9).map (fun i => (i.zero, i.size, i.bytes)) = some (some (.string ⟨#[]⟩), 1, 16) := by kernel_rfl
theorem append_str {ops : Array Oper} {rest : List Oper} {o : Oper} {a : Act} {w : World} {Q : Exit → Act → World → Prop} (base : Nat) (l : List ByteArray) (t : ByteArray) (v : Value) (ad : Addr) (c : Nat) (hrow : w.ownsRow base 9 1 v l.length (strs l)) (hcell : w.cell? ad = some (.string t)) (hk : l.length < 100000) (hbase : base ≤ w.heap.size) (s x : Operand)
    (hgd : o.guard = none) (ho : o.op = .call { callee := .builtin .append, args := #[s, x], argTypes := #[33, 33] }) (hs : a.eval s = v) (hx : a.eval x = .slice (some ad) 1 c)
    (h : ∀ v' w', w'.ownsRow base 9 1 v' (l ++ [t]).length (strs (l ++ [t])) → w.grownBy w' v.ownBlock → wpList Try.prog ops Q rest (a.put o.dst v') w') : wpList Try.prog ops Q (o :: rest) a w := by
  obtain ⟨i3, hi3, hz0, hz1, hz2⟩ := info_parts info9
  have hnews : ∀ j u, [Value.string t][j]? = some u → w.cell? (ad.add j) = some u := by
    intro j u hj
    match j, hj with
    | 0, hj =>
      rw [List.getElem?_cons_zero] at hj
      rw [← hj]
      exact hcell
  have h1 : ∀ u ∈ [Value.string t], u.oneCell' = true := by
    intro u hu; rw [List.mem_singleton] at hu; subst hu; rfl
  refine wpList_append_own w hgd s x 33 ho base 9 i3 _ 1 16 Try.underlying33 hi3 hz0 hz1 hz2 rfl (by decide) v l.length (strs l) hs hrow ad 1 c [.string t] hx rfl hnews h1 (by unfold maxLen; omega) (by omega) hbase ?_
  intro v' w' hown' hg _
  refine h v' w' ?_ hg
  rw [List.length_append]
  have e : strs (l ++ [t]) = strs l ++ [.string t] := by unfold strs; rw [List.map_append]; rfl
  rw [e]
  exact hown'
def cutK (S : Nat → ByteArray) (k : Nat) : List ByteArray := (List.range k).map fun j => fewS (S j)
theorem cutK_len (S : Nat → ByteArray) (k : Nat) : (cutK S k).length = k := by simp [cutK]
theorem cutK_snoc (S : Nat → ByteArray) (k : Nat) : cutK S k ++ [fewS (S k)] = cutK S (k + 1) := by
  unfold cutK
  rw [List.range_succ, List.map_append]
  rfl
def CutPost (w : World) (l : List ByteArray) (e : Ending) (w' : World) : Prop := ∃ v, e = .returned v ∧ w'.ownsRow w.heap.size 9 1 v l.length (strs l) ∧ w.grownBy w' none
theorem grown_own {w w1 w2 : World} {base e n size : Nat} {u : Value} {xs : List Value} (h : w.grownBy w1 none) (hr : w1.ownsRow base e size u n xs) (h2 : w1.grownBy w2 u.ownBlock) (hb : w.heap.size ≤ base) : w.grownBy w2 none :=
  ⟨h2.os.trans h.os, h2.tape.trans h.tape, h2.output.trans h.output, Nat.le_trans h.size h2.size, fun i hi _ => (h2.block i (Nat.lt_of_lt_of_le hi h.size) (fun e => by have := (World.ownsRow.lt hr i e.symm).1; omega)).trans (h.block i hi (by simp))⟩
set_option maxRecDepth 100000 in
set_option maxHeartbeats 1000000 in
theorem cut_any (pa : Option Addr) (n cap xb xo : Nat) (S : Nat → ByteArray) (w : World) (hpa : 0 < n → pa = some ⟨xb, xo, none⟩) (hc : ∀ j, j < n → w.cell? ⟨xb, xo + j, none⟩ = some (.string (S j))) (hn : n ≤ 9223372036854775807) :
    Calls Try.prog 19 #[.slice pa n cap] w (CutPost w (cutK S (min n 6))) := by
  have PA := hid hpa
  have HC := hid hc
  have CF : Hid (∀ s W, Calls Try.prog 14 #[.string s] W fun e w' => e = .returned (.string (fewS s)) ∧ w' = W) := few_any
  have hn' : (n : Int) ≤ 9223372036854775807 := by omega
  obtain ⟨m, hm⟩ : ∃ m, min n 6 = m := ⟨_, rfl⟩
  have hmn : m ≤ n := by omega
  have hm6 : m ≤ 6 := by omega
  have hmx : m = n ∨ m = 6 := by omega
  have E1 : Hid ((w.alloc (.cells #[] 9)).ownsRow w.heap.size 9 1 (.slice (some ⟨w.heap.size, 0, none⟩) 0 0) 0 (strs (cutK S 0))) := ⟨rfl, Or.inr ⟨w.heap.size, 0, #[], rfl, Nat.le_refl _, Blk.new w 9 _, Nat.le_refl _, Nat.zero_le _, rfl, rfl⟩⟩
  rw [hm]
  clear hpa hc hm
  obtain ⟨P, hP⟩ : ∃ P, P = CutPost w (cutK S m) := ⟨_, rfl⟩
  rw [← hP]
  have HP := hid hP
  clear hP
  go_enter Try.func19, Try.ntmps19
  go_wp2
  go_loopw [3, 4] (fun ov iv wr => ∃ k : Nat, k ≤ m ∧ iv = .int .i64 k ∧ wr.ownsRow w.heap.size 9 1 ov k (strs (cutK S k)) ∧ w.grownBy wr none) (fun _ iv _ => m - (intOf iv).toNat)
  case atStart => exact ⟨0, Nat.zero_le _, rfl, E1.out, grown_alloc (grown_refl _ _) _⟩
  case round =>
    obtain ⟨k, hk, rfl, hrow, hg⟩ := hrel
    obtain ⟨po, co, rfl, _⟩ := row_form hrow
    have R := hid hrow
    have G := hid hg
    have hsz : w.heap.size ≤ wr.heap.size := hg.size
    clear hrow hg E1
    have k0 : (0 : Int) ≤ k := by omega
    by_cases hlt : k < m
    · have hkn : k < n := by omega
      have hp := PA.out (by omega)
      subst hp
      have c0 := cell_kept (HC.out k hkn) G.out
      have k1 : (k : Int) < n := by omega
      have k6 : (k : Int) < 6 := by omega
      have CE := hid (CF.out (S k))
      have SN := hid (cutK_snoc S k)
      clear PA HC CF
      generalize S k = x at *
      generalize fewS x = y at *
      go_wp2_with (first
        | (go_at_call 14; refine (CE.out _).mono ?_; rintro e w2 ⟨rfl, hw⟩; have hw2 := hw.symm; clear hw; subst hw2; clear CE)
        | (at_builtin; refine append_str w.heap.size (cutK S k) y _ ⟨wr.heap.size, 0, none⟩ 1 (by rw [cutK_len]; exact R.out.alloc _) ((Blk.new wr 9 _).cell 0) (by rw [cutK_len]; omega) (by rw [World.size_alloc]; omega) _ _ rfl rfl rfl rfl ?_))
      intro v4 w4 h4 g4
      rw [SN.out, cutK_len] at h4
      have R4 := hid h4
      have G4 := hid (grown_own (grown_alloc G.out _) (R.out.alloc _) g4 (Nat.le_refl _))
      clear h4 g4
      go_wp2
      go_roundw
      case rel => exact ⟨k + 1, by omega, by go_num, R4.out, G4.out⟩
      case measure => simp [intOf]; omega
    · obtain rfl : k = m := by omega
      have HE : Hid (P (.returned (.slice po k co)) wr) := hid (by rw [HP.out]; exact ⟨_, rfl, by rw [cutK_len]; exact R.out, G.out⟩)
      clear HP PA HC CF R
      rcases hmx with e | e
      · have k1 : ¬ (k : Int) < n := by omega
        clear e
        go_wp2
        exact HE.out
      · have k1 : ¬ (k : Int) < 6 := by omega
        have hkn : k ≤ n := by omega
        by_cases hn2 : (k : Int) < n
        · clear e
          go_wp2
          exact HE.out
        · clear e
          go_wp2
          exact HE.out
end Go.Proofs.Ytddnjlnnkeiplaa
namespace Go.Proofs.Ytddnjlnnkeiplaa.X
open Go.RowKit Go.Maps
variable {xt : Xt}
theorem info35 : (Try.prog.info? 35).map (fun i => (i.zero, i.size, i.bytes)) = some (some (.agg #[.int .i64 0, .int .i64 0, .int .i64 0]), 3, 24) := by kernel_rfl
theorem eql_nil55 (w : World) : (binOp BinOp.eql 55 (.slice none 0 0) (.slice none 0 0)).run Try.prog w = .ok (.bool true) w := by kernel_rfl
theorem eql_some55 (a : Addr) (c : Nat) (w : World) : (binOp BinOp.eql 55 (.slice (some a) 1 c) (.slice none 0 0)).run Try.prog w = .ok (.bool false) w := by kernel_rfl
set_option maxRecDepth 100000 in
theorem clone_nil (w : World) : Calls Try.prog 51 #[.slice none 0 0] w fun e w' => e = .returned (.slice none 0 0) ∧ w' = w := by
  have he := eql_nil55
  go_enter Try.func51, Try.ntmps51
  go_wp2
  go_ret
  exact ⟨rfl, rfl⟩
theorem append_fa {ops : Array Oper} {rest : List Oper} {o : Oper} {a : Act} {w : World} {Q : Exit → Act → World → Prop} (base : Nat) (f : Fa) (v : Value) (ad : Addr) (c : Nat) (hrow : w.ownsRow base 35 3 v 0 []) (hcell : ∀ j u, (faL f)[j]? = some u → w.cell? (ad.add j) = some u) (hbase : base ≤ w.heap.size) (s x : Operand)
    (hgd : o.guard = none) (ho : o.op = .call { callee := .builtin .append, args := #[s, x], argTypes := #[55, 55] }) (hs : a.eval s = v) (hx : a.eval x = .slice (some ad) 1 c)
    (h : ∀ v' w', w'.ownsRow base 35 3 v' 1 (faL f) → w.grownBy w' v.ownBlock → wpList Try.prog ops Q rest (a.put o.dst v') w') : wpList Try.prog ops Q (o :: rest) a w := by
  obtain ⟨i3, hi3, hz0, hz1, hz2⟩ := info_parts info35
  have h1 : ∀ u ∈ faL f, u.oneCell' = true := by
    intro u hu
    simp [faL] at hu
    rcases hu with rfl | rfl | rfl <;> rfl
  refine wpList_append_own w hgd s x 55 ho base 35 i3 _ 3 24 Try.underlying55 hi3 hz0 hz1 hz2 rfl (by decide) v 0 [] hs hrow ad 1 c (faL f) hx rfl hcell h1 (by unfold maxLen; omega) (by omega) hbase ?_
  intro v' w' hown' hg _
  exact h v' w' hown' hg
def ClonePost (w : World) (f : Fa) (e : Ending) (w' : World) : Prop := ∃ g c, e = .returned (.slice (some ⟨g, 0, none⟩) 1 c) ∧ w.heap.size ≤ g ∧ w'.ownsRow w.heap.size 35 3 (.slice (some ⟨g, 0, none⟩) 1 c) 1 (faL f) ∧ w.grownBy w' none
set_option maxRecDepth 100000 in
set_option maxHeartbeats 1000000 in
theorem clone_one (a : Addr) (c : Nat) (f : Fa) (w : World) (h : ∀ j u, (faL f)[j]? = some u → w.cell? (a.add j) = some u) :
    Calls Try.prog 51 #[.slice (some a) 1 c] w (ClonePost w f) := by
  obtain ⟨P, hP⟩ : ∃ P, P = ClonePost w f := ⟨_, rfl⟩
  rw [← hP]
  have HP := hid (And.intro hP trivial)
  clear hP
  have HC := hid h
  clear h
  have he := eql_some55 a c
  go_enter Try.func51, Try.ntmps51
  have E0 : Hid ((w.alloc (.cells #[] 35)).ownsRow w.heap.size 35 3 (.slice (some ⟨w.heap.size, 0, none⟩) 0 0) 0 []) := ⟨rfl, Or.inr ⟨w.heap.size, 0, #[], rfl, Nat.le_refl _, Blk.new w 35 _, Nat.le_refl _, Nat.zero_le _, rfl, rfl⟩⟩
  have G0 : Hid (w.grownBy (w.alloc (.cells #[] 35)) none) := grown_alloc (grown_refl _ _) _
  go_wp2_with (at_builtin; refine append_fa w.heap.size f _ a c E0.out (fun j u hu => cell_kept (HC.out j u hu) G0.out (fun _ e => by cases e)) G0.out.size _ _ rfl rfl rfl rfl ?_)
  intro v' w' h2 g2
  have H2 := hid h2
  have G2 := hid (grown_own G0.out E0.out g2 (Nat.le_refl _))
  obtain ⟨g, c2, rfl, hgb⟩ : ∃ g c2, v' = .slice (some ⟨g, 0, none⟩) 1 c2 ∧ w.heap.size ≤ g := by
    rcases h2.2 with ⟨_, e⟩ | ⟨g, cap, cur, e, hb, _⟩
    · omega
    · exact ⟨g, cap, e, hb⟩
  have FF : Hid (P (.returned (.slice (some ⟨g, 0, none⟩) 1 c2)) w') := (by
    show P _ _
    rw [HP.out.1]
    exact ⟨g, c2, rfl, hgb, H2.out, G2.out⟩)
  clear h2 g2 HP
  go_wp2
  exact FF.out
/-- A disk whose plan is one fall. -/
def FallAt (w : World) (base g c : Nat) (f : Fa) : Prop := w.ownsRow base 35 3 (.slice (some ⟨g, 0, none⟩) 1 c) 1 (faL f)
def PlanPost (xt : Xt) (base b : Nat) (k : Dk) (f : Fa) (w : World) (e : Ending) (w' : World) : Prop := ∃ g c, e = .returned (.tuple #[]) ∧ w.heap.size ≤ g ∧ IsDisk { xt with pp := some ⟨g, 0, none⟩, pn := 1, pc := c } w' base b k ∧ FallAt w' w.heap.size g c f ∧ w.grownBy w' (some b)
set_option maxRecDepth 100000 in
set_option maxHeartbeats 1000000 in
theorem plan_one (base b : Nat) (k : Dk) (a : Addr) (c : Nat) (f : Fa) (w : World) (h : IsDisk xt w base b k) (hf : ∀ j u, (faL f)[j]? = some u → w.cell? (a.add j) = some u) :
    Calls Try.prog 26 #[.pointer (some ⟨b, 0, none⟩), .slice (some a) 1 c] w (PlanPost xt base b k f w) := by
  have hbw := h.lt
  have CL : Hid (∀ W, w.grownBy W none → Calls Try.prog 51 #[.slice (some a) 1 c] W (ClonePost W f)) := hid (fun W hW => clone_one a c f W (fun j u hu => cell_kept (hf j u hu) hW (fun _ e => by cases e)))
  obtain ⟨hb0, vn, vs, vl, hB, hn, hsu, hne, hl⟩ := h
  have HB := hid hB
  have HN := hid hn
  have HS := hid hsu
  have HE := hid hne
  have HL := hid hl
  have c4 := hB.e4
  have f4 := hB.frozen 4
  obtain ⟨P, hP⟩ : ∃ P, P = PlanPost xt base b k f w := ⟨_, rfl⟩
  rw [← hP]
  have HP := hid (And.intro hP trivial)
  clear hP hB hn hsu hne hl hf
  go_enter Try.func26, Try.ntmps26
  go_wp2_with (go_at_call 51
               refine (CL.out _ (grown_refl _ _)).mono ?_
               rintro e w1 ⟨g, c2, rfl, hg, r1, g1⟩
               have B1 := HB.out.kept g1 (by simp)
               have d4 := B1.e4
               have v4 := B1.frozen 4
               have G := grown_set (grown_refl w1 (some b)) 4 (.slice (some ⟨g, 0, none⟩) 1 c2)
               have FF : Hid (P (.returned (.tuple #[])) (w1.setCell ⟨b, 4, none⟩ (.slice (some ⟨g, 0, none⟩) 1 c2))) := (by
                 show P _ _
                 rw [HP.out.1]
                 exact ⟨g, c2, rfl, hg, ⟨hb0, vn, vs, vl, B1.set 4 _, (HN.out.kept g1 (fun _ _ => by simp)).set B1 4 _, (HS.out.kept g1 (fun _ _ => by simp)).set B1 4 _, HE.out, owns_self (row_none HL.out g1) B1 G⟩, rowG_kept r1 B1 (by decide) G, World.grownBy.andThen (World.grownBy.but g1 (some b)) G (fun j e => Or.inr (by rw [← e]))⟩)
               clear HP HB HN HS HE HL r1 g1 B1 G CL c4 f4)
  first
  | exact bodyPost_end (results_none rfl _ _ _) rfl FF.out
  | exact bodyPost_ret (results_none rfl _ _ _) rfl FF.out
set_option maxRecDepth 100000 in
theorem plan_none (base b : Nat) (k : Dk) (w : World) (h : IsDisk xt w base b k) :
    Calls Try.prog 26 #[.pointer (some ⟨b, 0, none⟩), .slice none 0 0] w fun e w' => e = .returned (.tuple #[]) ∧ IsDisk { xt with pp := none, pn := 0, pc := 0 } w' base b k ∧ w.grownBy w' (some b) := by
  have hbw := h.lt
  obtain ⟨hb0, vn, vs, vl, hB, hn, hsu, hne, hl⟩ := h
  have c4 := hB.e4
  have f4 := hB.frozen 4
  have CL := hid clone_nil
  have G := grown_set (grown_refl w (some b)) 4 (.slice none 0 0)
  have R1 : Hid (IsDisk { xt with pp := none, pn := 0, pc := 0 } (w.setCell ⟨b, 4, none⟩ (.slice none 0 0)) base b k) := ⟨hb0, vn, vs, vl, hB.set 4 _, hn.set hB 4 _, hsu.set hB 4 _, hne, owns_self hl hB G⟩
  have R2 := hid G
  clear hB hn hsu hne hl G
  go_enter Try.func26, Try.ntmps26
  go_wp2_with (go_at_call 51; refine (CL.out _).mono ?_; rintro e w1 ⟨rfl, hw⟩; have hw2 := hw.symm; clear hw; subst hw2; clear CL)
  first
  | exact bodyPost_end (results_none rfl _ _ _) rfl ⟨rfl, R1.out, R2.out⟩
  | exact bodyPost_ret (results_none rfl _ _ _) rfl ⟨rfl, R1.out, R2.out⟩
end Go.Proofs.Ytddnjlnnkeiplaa.X
