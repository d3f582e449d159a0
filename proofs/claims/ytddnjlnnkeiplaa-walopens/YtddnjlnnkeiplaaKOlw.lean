/-
  An opening of a file of any bytes, wherever a fall strikes: the next one finds the same. Clone: a disk of its own that is the same. WalOpens: the file's text; what a log answers by its own cells; a log that is loaded does not hang on its disk's place.
-/
import Derived.Test.YtddnjlnnkeiplaaXOpl
import Derived.Test.YtddnjlnnkeiplaaFd
import Derived.Test.YtddnjlnnkeiplaaKPref
import Derived.Test.YtddnjlnnkeiplaaMore
import Derived.Test.YtddnjlnnkeiplaaRepl
namespace Go.Proofs.Ytddnjlnnkeiplaa.X
open Go.RowKit Go.Maps
theorem cut_dt (T : ByteArray) (c n : Nat) (hn : n ≤ T.size) : syncD (stepD (Dt (some T) none c false) (cutC n)) = Dt (some (T.extract 0 n)) none (c + 1) false := by
  unfold syncD stepD Dt
  have e : doF (fs2 (some T) none) (cutC n) = oneF (T.extract 0 n) := cut_one T n hn
  simp only [e]
  rfl
theorem cut_mid (T r : ByteArray) (c n : Nat) (hn : n ≤ T.size) : syncD (stepD (midK (some T) r c) (cutC n)) = Dt (some (T.extract 0 n)) none (c + 2) false := by
  unfold syncD stepD midK
  have e : doF (fsF (some T)) (cutC n) = oneF (T.extract 0 n) := cut_one T n hn
  simp only [e]
  rfl
theorem fail_mid (F : Option ByteArray) (r : ByteArray) (c : Nat) (keep torn : Int) : ∃ N2, failD (midK F r c) keep torn okR = Dt F N2 (c + 1) true ∧ (N2 = none ∨ N2 = some r) := by
  unfold failD lostF
  show ∃ N2, (⟨foldF (twoO F r) (stTo keep torn okR 1).1, foldF (twoO F r) (stTo keep torn okR 1).1, [], 0, c + 1, true⟩ : Dk) = Dt F N2 (c + 1) true ∧ (N2 = none ∨ N2 = some r)
  by_cases hk : keptB keep 0 = true
  · refine ⟨none, ?_, Or.inl rfl⟩
    have e : (stTo keep torn okR 1).1 = [okR 0] := by
      show (if keptB keep 0 then _ else _ : List OkChg × Bool).1 = _
      rw [if_pos hk]
      rfl
    rw [e]
    have e2 : foldF (twoO F r) [okR 0] = fsF F := del_twoO F r
    rw [e2]
    rfl
  · refine ⟨some r, ?_, Or.inr rfl⟩
    have e : (stTo keep torn okR 1).1 = [] := by
      show (if keptB keep 0 then _ else (if true = true then (if torn ≤ 0 ∨ 1 < (okR 0).1.kind then _ else _) else _) : List OkChg × Bool).1 = _
      rw [if_neg hk, if_pos rfl, if_pos (Or.inr (by show 1 < 3; decide))]
      rfl
    rw [e]
    rfl
theorem read_any1 (T : ByteArray) : readS (fsF (some T)) ⟨#[108, 111, 103]⟩ = T := read_fs (some T)
theorem ans_cut (T : ByteArray) (c n : Nat) (h0 : 0 < T.size) (hn : n ≤ T.size) : ansF (Dt (some T) none c false) (cutC n) = 0 := cut_ans _ n rfl (by show 0 < (readS (fsF (some T)) _).size; rw [read_any1]; exact h0) (by show n ≤ (readS (fsF (some T)) _).size; rw [read_any1]; exact hn)
theorem ans_cutm (T r : ByteArray) (c n : Nat) (h0 : 0 < T.size) (hn : n ≤ T.size) : ansF (midK (some T) r c) (cutC n) = 0 := cut_ans _ n rfl (by show 0 < (readS (fsF (some T)) _).size; rw [read_any1]; exact h0) (by show n ≤ (readS (fsF (some T)) _).size; rw [read_any1]; exact hn)
def OneP (base d gp : Nat) (rm : Int) (T : ByteArray) (c : Nat) (pl : Option Fa) (w : World) (e : Ending) (w' : World) : Prop :=
  ∃ b ct T2 c2, e = .returned (.tuple #[.pointer (some ⟨b, 0, none⟩), .int .i64 (ct : Nat), .int .i64 0]) ∧ w.heap.size ≤ b ∧ IsLog w' base b (loadG T d) ∧ T2.size ≤ 4500 ∧ loadG T2 d = loadG T d ∧ c2 ≤ c + 2 ∧ IsP w' base d gp false rm (Dt (some T2) none c2 false) pl
def TwoP (base d gp : Nat) (rm : Int) (T : ByteArray) (c : Nat) (pl : Option Fa) (e : Ending) (w' : World) : Prop :=
  pl ≠ none ∧ e = .returned (.tuple #[.pointer none, .int .i64 0, .int .i64 7]) ∧ ∃ N2 c2, (N2.getD ⟨#[]⟩).size ≤ 4500 ∧ c2 ≤ c + 1 ∧ IsP w' base d gp false rm (Dt (some T) N2 c2 true) none
theorem hits_some {pl : Option Fa} {c : Nat} (h : hits pl c = true) : pl ≠ none := fun e => by rw [e] at h; cases h
theorem fits_cut (T : ByteArray) (n : Nat) (hT : T.size ≤ 4500) : Fits (doF (fsF (some T)) (cutC n)) 1000000 :=
  (fits_do (C := 10) (show Fits (fsF (some T)) 500000 from fits_fs (some T) _ (by show T.size ≤ _; omega) (by decide)) (cutC n) (by show 0 ≤ 10; decide) (by show 3 ≤ _; decide) (by show 0 ≤ _; decide)).mono (by decide)
theorem openany {base d gp : Nat} {rm : Int} {T : ByteArray} {N : Option ByteArray} {c : Nat} {pl : Option Fa} {W : World} (hd : IsP W base d gp false rm (Dt (some T) N c false) pl) (hT : T.size ≤ 4500) (hN : (N.getD ⟨#[]⟩).size ≤ 4500) (hc : c ≤ 100) :
    Calls Try.prog 10 #[.pointer (some ⟨d, 0, none⟩)] W fun e w' => (OneP base d gp rm T c pl W e w' ∨ TwoP base d gp rm T c pl e w') ∧ LowP base gp W w' ∧ Kp W w' := by
  obtain ⟨hn, hag⟩ := load_again T d hT
  have hM : Mod (some T) N c := ⟨by show T.size ≤ _; omega, by omega, by omega⟩
  have hld : ∀ W b, IsLog W base b (newL d) → Calls Try.prog 40 #[.pointer (some ⟨b, 0, none⟩), .string T] W fun e w' => e = .returned (.tuple #[]) ∧ IsLog w' base b (loadG T d) ∧ LT base b W w' := fun W b hW => load_any base b d T W hW hT
  have hz : (T.extract 0 (loadG T d).len).size ≤ 4500 := by rw [ByteArray.size_extract]; omega
  cases N with
  | none =>
    have ha := ans_rem (some T) c
    have en : nextQ pl (Dt (some T) none c false) remC okL = Dt (some T) none c false := by unfold nextQ; rw [if_neg (by rw [ha]; decide)]
    have ea : ansQ pl (Dt (some T) none c false) remC = 2 := by unfold ansQ; rw [ha]; rfl
    have ep : planQ pl (Dt (some T) none c false) remC = pl := by unfold planQ; rw [ha, if_neg (fun h => by cases h.1)]
    by_cases h0 : T.size - (loadG T d).len = 0
    · refine (openk_q base d gp rm (Dt (some T) none c false) pl okL okL (loadG T d) 2 (Dt (some T) none c false) (Dt (some T) none c false) pl W hd (able_dt hM false) ea (Or.inr rfl) en ep rfl (able_dt hM false) T (read_any1 T) hld hn (by omega) (Or.inl ⟨h0, rfl⟩)).mono ?_
      rintro e w' ⟨b, he, hb, hl, hp, hT1, hK⟩
      exact ⟨Or.inl ⟨b, _, T, c, he, hb, hl, hT, rfl, by omega, hp⟩, hT1, hK⟩
    · have h2 := ans_cut T c (loadG T d).len (by omega) hn
      cases hx : hits pl c with
      | true =>
        obtain ⟨⟨q1, q2, q3⟩, q4⟩ := next_hit (L := okL) h2 hx
        have ec : ansQ pl (Dt (some T) none c false) (cutC (loadG T d).len) = 7 := by rw [ansQ_hit h2]; rw [show (Dt (some T) none c false).changes = c from rfl, hx]; rfl
        refine (openk_struck2 base d gp rm (Dt (some T) none c false) pl okL okL (loadG T d) 2 (Dt (some T) none c false) pl W hd (able_dt hM false) ea (Or.inr rfl) en ep rfl (able_dt hM false) T (read_any1 T) hld hn (by omega) (by omega) ec).mono ?_
        rintro e w' ⟨he, hp, hT1, hK⟩
        rw [q3, q4, fail_dt] at hp
        exact ⟨Or.inr ⟨hits_some hx, he, none, c, by show 0 ≤ _; omega, by omega, hp⟩, hT1, hK⟩
      | false =>
        obtain ⟨q1, q2, q3⟩ := next_free (L := okL) h2 hx
        refine (openk_q base d gp rm (Dt (some T) none c false) pl okL okL (loadG T d) 2 (Dt (some T) none c false) _ pl W hd (able_dt hM false) ea (Or.inr rfl) en ep rfl (able_dt hM false) T (read_any1 T) hld hn (by omega) (Or.inr ⟨by omega, q1, fits_cut T _ hT, rfl⟩)).mono ?_
        rintro e w' ⟨b, he, hb, hl, hp, hT1, hK⟩
        rw [cut_dt T c _ hn] at hp
        exact ⟨Or.inl ⟨b, _, _, c + 1, he, hb, hl, hz, hag, by omega, hp⟩, hT1, hK⟩
  | some r =>
    have ha := ans_rem2 (some T) r c
    cases hx : hits pl c with
    | true =>
      obtain ⟨⟨q1, q2, q3⟩, q4⟩ := next_hit (L := okL) ha hx
      have ec : ansQ pl (Dt (some T) (some r) c false) remC = 7 := by rw [ansQ_hit ha]; rw [show (Dt (some T) (some r) c false).changes = c from rfl, hx]; rfl
      refine (openk_struck base d gp rm (Dt (some T) (some r) c false) pl okL W hd (able_dt hM false) ec).mono ?_
      rintro e w' ⟨he, hp, hT1, hK⟩
      rw [q3, q4, fail_dt] at hp
      exact ⟨Or.inr ⟨hits_some hx, he, some r, c, hN, by omega, hp⟩, hT1, hK⟩
    | false =>
      obtain ⟨q1, q2, q3⟩ := next_free (L := okL) ha hx
      rw [step_rem] at q2
      by_cases h0 : T.size - (loadG T d).len = 0
      · refine (openk_q base d gp rm (Dt (some T) (some r) c false) pl okL okR (loadG T d) 0 (midK (some T) r c) (Dt (some T) none (c + 1) false) pl W hd (able_dt hM false) q1 (Or.inl rfl) q2 q3 rfl (able_mid hM) T (read_any1 T) hld hn (by omega) (Or.inl ⟨h0, rfl⟩)).mono ?_
        rintro e w' ⟨b, he, hb, hl, hp, hT1, hK⟩
        exact ⟨Or.inl ⟨b, _, T, c + 1, he, hb, hl, hT, rfl, by omega, hp⟩, hT1, hK⟩
      · have h2 := ans_cutm T r c (loadG T d).len (by omega) hn
        cases hy : hits pl (c + 1) with
        | true =>
          obtain ⟨⟨u1, u2, u3⟩, u4⟩ := next_hit (L := okR) h2 hy
          have ec : ansQ pl (midK (some T) r c) (cutC (loadG T d).len) = 7 := by rw [ansQ_hit h2]; rw [show (midK (some T) r c).changes = c + 1 from rfl, hy]; rfl
          obtain ⟨N2, f1, f2⟩ := fail_mid (some T) r c u1 u2
          refine (openk_struck2 base d gp rm (Dt (some T) (some r) c false) pl okL okR (loadG T d) 0 (midK (some T) r c) pl W hd (able_dt hM false) q1 (Or.inl rfl) q2 q3 rfl (able_mid hM) T (read_any1 T) hld hn (by omega) (by omega) ec).mono ?_
          rintro e w' ⟨he, hp, hT1, hK⟩
          rw [u3, u4, f1] at hp
          refine ⟨Or.inr ⟨hits_some hy, he, N2, c + 1, ?_, Nat.le_refl _, hp⟩, hT1, hK⟩
          rcases f2 with rfl | rfl
          · show 0 ≤ _
            omega
          · exact hN
        | false =>
          obtain ⟨u1, u2, u3⟩ := next_free (L := okR) h2 hy
          refine (openk_q base d gp rm (Dt (some T) (some r) c false) pl okL okR (loadG T d) 0 (midK (some T) r c) _ pl W hd (able_dt hM false) q1 (Or.inl rfl) q2 q3 rfl (able_mid hM) T (read_any1 T) hld hn (by omega) (Or.inr ⟨by omega, u1, fits_cut T _ hT, rfl⟩)).mono ?_
          rintro e w' ⟨b, he, hb, hl, hp, hT1, hK⟩
          rw [cut_mid T r c _ hn] at hp
          exact ⟨Or.inl ⟨b, _, _, c + 2, he, hb, hl, hz, hag, by omega, hp⟩, hT1, hK⟩
/-- Within the loop: whatever it answers. -/
theorem openloop {base d gp : Nat} {rm : Int} {T : ByteArray} {N : Option ByteArray} {c : Nat} {pl : Option Fa} {W : World} (hd : IsP W base d gp false rm (Dt (some T) N c false) pl) (hT : T.size ≤ 4500) (hN : (N.getD ⟨#[]⟩).size ≤ 4500) (hc : c ≤ 100) :
    Calls Try.prog 10 #[.pointer (some ⟨d, 0, none⟩)] W fun e w' => ∃ v T2 N2 c2 dd2 pl2, e = .returned v ∧ T2.size ≤ 4500 ∧ loadG T2 d = loadG T d ∧ (N2.getD ⟨#[]⟩).size ≤ 4500 ∧ c2 ≤ c + 2 ∧ IsP w' base d gp false rm (Dt (some T2) N2 c2 dd2) pl2 ∧ LowP base gp W w' ∧ Kp W w' := by
  refine (openany hd hT hN hc).mono ?_
  rintro e w' ⟨h | h, hT1, hK⟩
  · obtain ⟨b, ct, T2, c2, he, hb, hl, h1, h2, h3, hp⟩ := h
    exact ⟨_, T2, none, c2, false, pl, he, h1, h2, by show 0 ≤ _; omega, h3, hp, hT1, hK⟩
  · obtain ⟨_, he, N2, c2, h1, h2, hp⟩ := h
    exact ⟨_, T, N2, c2, true, none, he, hT, rfl, h1, by omega, hp, hT1, hK⟩
/-- At last: it opens. -/
theorem openlast {base d gp : Nat} {rm : Int} {T : ByteArray} {N : Option ByteArray} {c : Nat} {W : World} (hd : IsP W base d gp false rm (Dt (some T) N c false) none) (hT : T.size ≤ 4500) (hN : (N.getD ⟨#[]⟩).size ≤ 4500) (hc : c ≤ 100) :
    Calls Try.prog 10 #[.pointer (some ⟨d, 0, none⟩)] W fun e w' => ∃ b ct, e = .returned (.tuple #[.pointer (some ⟨b, 0, none⟩), .int .i64 (ct : Nat), .int .i64 0]) ∧ W.heap.size ≤ b ∧ IsLog w' base b (loadG T d) ∧ LowP base gp W w' ∧ Kp W w' := by
  refine (openany hd hT hN hc).mono ?_
  rintro e w' ⟨h | h, hT1, hK⟩
  · obtain ⟨b, ct, T2, c2, he, hb, hl, h1, h2, h3, hp⟩ := h
    exact ⟨b, ct, he, hb, hl, hT1, hK⟩
  · exact absurd rfl h.1
end Go.Proofs.Ytddnjlnnkeiplaa.X
namespace Go.Proofs.Ytddnjlnnkeiplaa
open Go.RowKit Go.Maps
theorem eql_slice (g n c : Nat) (w : World) : (binOp BinOp.eql 71 (.slice (some ⟨g, 0, none⟩) n c) (.slice none 0 0)).run Try.prog w = .ok (.bool false) w := by kernel_rfl
theorem eql_slice0 (w : World) : (binOp BinOp.eql 71 (.slice none 0 0) (.slice none 0 0)).run Try.prog w = .ok (.bool true) w := by kernel_rfl
theorem eql_plan0 (w : World) : (binOp BinOp.eql 55 (.slice none 0 0) (.slice none 0 0)).run Try.prog w = .ok (.bool true) w := by kernel_rfl
theorem looseL_one (l : List Chg) : ∀ u ∈ looseL l, u.oneCell' = true := by
  intro u hu
  unfold looseL at hu
  rw [List.mem_flatMap] at hu
  obtain ⟨c, _, hc⟩ := hu
  unfold Chg.cells at hc
  simp only [List.mem_cons, List.not_mem_nil, or_false] at hc
  rcases hc with rfl | rfl | rfl | rfl | rfl <;> rfl
set_option maxRecDepth 100000 in
set_option maxHeartbeats 1000000 in
theorem slclone_any (base : Nat) (vl : Value) (loose : List Chg) (w : World) (hl : w.ownsRow base 101 5 vl loose.length (looseL loose)) (h63 : loose.length ≤ 1000) :
    Calls Try.prog 60 #[vl] w fun e w' => ∃ v', e = .returned v' ∧ w'.ownsRow w.heap.size 101 5 v' loose.length (looseL loose) ∧ w.grownBy w' none := by
  have hq0 := eql_slice0
  have hl' := hl
  rcases hl'.2 with ⟨rfl, hn⟩ | ⟨g, cap, cur, rfl, _⟩
  · have hz : looseL loose = [] := List.eq_nil_of_length_eq_zero (by rw [hl.1, hn])
    rw [hz, hn]
    clear hl hl' hz hn
    go_enter Try.func60, Try.ntmps60
    go_wp2
    go_ret
    exact ⟨_, rfl, World.ownsRow_nil w w.heap.size 101 5, grown_refl _ _⟩
  · have hq := eql_slice g loose.length cap
    have hg : g < w.heap.size := (hl.lt g rfl).2
    have HC : Hid (∀ j u, (looseL loose)[j]? = some u → (w.alloc (.cells #[] 101)).cell? ((⟨g, 0, none⟩ : Addr).add j) = some u) := fun j u hj => by
      have h1 := hl.cells (g := g) rfl j u hj
      rw [← h1]
      refine World.cell?_of_block ?_
      have e : ((⟨g, 0, none⟩ : Addr).add j).block = g := by by_cases h : j = 0 <;> simp [Addr.add, h]
      rw [e]
      exact Below.heap_alloc w _ g hg
    have H0 : Hid ((w.alloc (.cells #[] 101)).ownsRow w.heap.size 101 5 (.slice (some ⟨w.heap.size, 0, none⟩) 0 0) 0 []) := ⟨rfl, Or.inr ⟨w.heap.size, 0, #[], rfl, Nat.le_refl _, heap_alloc_new w _, Nat.le_refl _, Nat.zero_le _, rfl, rfl⟩⟩
    have HL : Hid ((looseL loose).length = loose.length * 5) := looseL_len loose
    have HO : Hid (∀ u ∈ looseL loose, u.oneCell' = true) := looseL_one loose
    obtain ⟨i80, hi, hz0, hz1, hz2⟩ := info_parts info80
    clear hl hl'
    go_enter Try.func60, Try.ntmps60
    go_wp2_with (at_builtin; refine wpList_append_own _ rfl _ _ 71 rfl w.heap.size 101 i80 _ 5 64 Try.underlying71 hi hz0 hz1 hz2 rfl (by decide) _ _ _ rfl H0.out ⟨g, 0, none⟩ loose.length cap (looseL loose) rfl HL.out HC.out HO.out (by unfold maxLen; omega) (by omega) (by simp) ?_)
    intro v' w' h1 h2 _
    have R1 : Hid (w'.ownsRow w.heap.size 101 5 v' loose.length (looseL loose)) := h1
    have R2 : Hid (w.grownBy w' none) := grown_through (grown_alloc (grown_refl _ _) _) h2 (Nat.le_refl _)
    clear h1 h2
    go_wp2
    go_ret
    exact ⟨_, rfl, R1.out, R2.out⟩
set_option maxRecDepth 100000 in
theorem plclone_none (w : World) : Calls Try.prog 51 #[.slice none 0 0] w fun e w' => e = .returned (.slice none 0 0) ∧ w' = w := by
  have hq := eql_plan0
  go_enter Try.func51, Try.ntmps51
  go_wp2
  go_ret
  exact ⟨rfl, rfl⟩
theorem MapV.form {w : World} {base : Nat} {v : Value} {l : FS} (h : MapV w base v l) : ∃ o, v = .map o := by
  rcases h with ⟨rfl, _⟩ | ⟨g, rfl, _⟩
  · exact ⟨_, rfl⟩
  · exact ⟨_, rfl⟩
theorem size_set (w : World) (a : Addr) (v : Value) : (w.setCell a v).heap.size = w.heap.size := by simp [World.setCell]
theorem owns_base {w : World} {base base' n : Nat} {v : Value} {xs : List Value} (h : w.ownsRow base 101 5 v n xs) (hb : base' ≤ base) : w.ownsRow base' 101 5 v n xs := by
  refine ⟨h.1, ?_⟩
  rcases h.2 with h | ⟨g, cap, cur, e, hg, r⟩
  · exact Or.inl h
  · exact Or.inr ⟨g, cap, cur, e, Nat.le_trans hb hg, r⟩
theorem Blk.d7 {w : World} {b : Nat} {vn vs vl : Value} {u c : Nat} {dd : Bool} (h : Blk w b 73 (rowD vn vs vl u c dd)) : w.cell? ⟨b, 7, none⟩ = some (.int .i64 0) := by rw [h.cell]; rfl
set_option maxRecDepth 100000 in
set_option maxHeartbeats 2000000 in
theorem clone_any (base b : Nat) (k : Dk) (w : World) (h : IsDisk w base b k) (hfn : Fits k.now 1000000) (hfs : Fits k.sure 1000000) (h63 : k.loose.length ≤ 1000) :
    Calls Try.prog 38 #[.pointer (some ⟨b, 0, none⟩)] w fun e w' => e = .returned (.pointer (some ⟨w.heap.size, 0, none⟩)) ∧ IsDisk w' w.heap.size w.heap.size k ∧ w.grownBy w' none := by
  obtain ⟨hb0, vn, vs, vl, hB, hm, hsu, hne, hl⟩ := h
  obtain ⟨pa, cp, rfl⟩ := owns_slice hl
  obtain ⟨on, rfl⟩ := hm.form
  obtain ⟨os, rfl⟩ := hsu.form
  have hbw := hB.lt
  have HB : Hid (Blk w b 73 (rowD (.map on) (.map os) (.slice pa k.loose.length cp) k.unsure k.changes k.dead)) := hB
  have C1 : Hid (∀ W, w.grownBy W none → Calls Try.prog 58 #[.map on] W fun e w' => e = .returned (.map (some W.heap.size)) ∧ OwnsF w' W.heap.size k.now ∧ W.grownBy w' none) := fun W hg => fsclone_any base (.map on) k.now W (hm.kept hg (fun _ _ => by simp)) hfn
  have C2 : Hid (∀ W, w.grownBy W none → Calls Try.prog 58 #[.map os] W fun e w' => e = .returned (.map (some W.heap.size)) ∧ OwnsF w' W.heap.size k.sure ∧ W.grownBy w' none) := fun W hg => fsclone_any base (.map os) k.sure W (hsu.kept hg (fun _ _ => by simp)) hfs
  have C3 : Hid (∀ W, w.grownBy W none → Calls Try.prog 60 #[.slice pa k.loose.length cp] W fun e w' => ∃ v', e = .returned v' ∧ w'.ownsRow W.heap.size 101 5 v' k.loose.length (looseL k.loose) ∧ W.grownBy w' none) := fun W hg => slclone_any base _ k.loose W (hl.kept hg (by cases (Value.slice pa k.loose.length cp).ownBlock with | none => exact Or.inl rfl | some x => exact Or.inr (by simp))) h63
  have d0 := hB.d0
  have d1 := hB.d1
  have d2 := hB.d2
  have d3 := hB.d3
  have d4 := hB.d4
  have d5 := hB.d5
  have d6 := hB.d6
  have d7 := hB.d7
  have d8 := hB.d8
  clear hB hm hsu hne hl
  go_enter Try.func38, Try.ntmps38
  go_wp2_with (first
    | (go_at_call 58; refine (C1.out _ (grown_alloc (grown_refl _ _) _)).mono ?_; clear C1; rintro e w2 ⟨rfl, ho, hg⟩; have G2 : Hid (w.grownBy w2 none) := grown_none (grown_alloc (grown_refl _ _) _) hg; have Q2 : Hid (Blk w2 w.heap.size 73 (rowD (.map on) (.map os) (.slice pa k.loose.length cp) k.unsure k.changes k.dead)) := (Blk.new w 73 _).kept hg (by simp); rw [World.size_alloc] at ho; have O2 : Hid (OwnsF w2 (w.heap.size + 1) k.now) := ho; have hz2 : w.heap.size + 1 < w2.heap.size := ho.lt; have x0 := Q2.out.d0; have f0 := Q2.out.frozen 0; have y1 : (w2.setCell ⟨w.heap.size, 0, none⟩ (.map (some (w.heap.size + 1)))).cell? ⟨b, 1, none⟩ = some (.map os) := ((HB.out.kept G2.out (by simp)).other _ (show b ≠ w.heap.size by omega)).d1; clear ho hg)
    | (go_at_call 58; refine (C2.out _ (grown_set_new G2.out _ (Nat.le_refl _))).mono ?_; clear C2; rintro e w3 ⟨rfl, ho, hg⟩; have G3 : Hid (w.grownBy w3 none) := grown_none (grown_set_new G2.out _ (Nat.le_refl _)) hg; have Q3 : Hid (Blk w3 w.heap.size 73 (rowD (.map (some (w.heap.size + 1))) (.map os) (.slice pa k.loose.length cp) k.unsure k.changes k.dead)) := (Q2.out.set 0 _).kept hg (by simp); have O3 : Hid (OwnsF w3 (w.heap.size + 1) k.now) := (O2.out.set (by show w.heap.size + 1 ≠ w.heap.size; omega) _).kept hg (by simp); rw [size_set] at ho; have P3 : Hid (OwnsF w3 w2.heap.size k.sure) := ho; have hz3 : w2.heap.size < w3.heap.size := ho.lt; have x1 := Q3.out.d1; have f1 := Q3.out.frozen 1; have y2 : (w3.setCell ⟨w.heap.size, 1, none⟩ (.map (some w2.heap.size))).cell? ⟨b, 2, none⟩ = some (.slice pa k.loose.length cp) := ((HB.out.kept G3.out (by simp)).other _ (show b ≠ w.heap.size by omega)).d2; clear ho hg)
    | (go_at_call 60; refine (C3.out _ (grown_set_new G3.out _ (Nat.le_refl _))).mono ?_; clear C3; rintro e w4 ⟨v4, rfl, ho, hg⟩; obtain ⟨pb, cb, rfl⟩ := owns_slice ho; have G4 : Hid (w.grownBy w4 none) := grown_none (grown_set_new G3.out _ (Nat.le_refl _)) hg; have Q4 : Hid (Blk w4 w.heap.size 73 (rowD (.map (some (w.heap.size + 1))) (.map (some w2.heap.size)) (.slice pa k.loose.length cp) k.unsure k.changes k.dead)) := (Q3.out.set 1 _).kept hg (by simp); have O4 : Hid (OwnsF w4 (w.heap.size + 1) k.now) := (O3.out.set (by show w.heap.size + 1 ≠ w.heap.size; omega) _).kept hg (by simp); have P4 : Hid (OwnsF w4 w2.heap.size k.sure) := (P3.out.set (by show w2.heap.size ≠ w.heap.size; omega) _).kept hg (by simp); have L4 : Hid (w4.ownsRow w.heap.size 101 5 (.slice pb k.loose.length cb) k.loose.length (looseL k.loose)) := owns_base ho (by rw [size_set]; omega); have x2 := Q4.out.d2; have f2 := Q4.out.frozen 2; have y4 : (w4.setCell ⟨w.heap.size, 2, none⟩ (.slice pb k.loose.length cb)).cell? ⟨b, 4, none⟩ = some (.slice none 0 0) := ((HB.out.kept G4.out (by simp)).other _ (show b ≠ w.heap.size by omega)).d4; clear ho hg)
    | (go_at_call 51; refine (plclone_none _).mono ?_; rintro e w' ⟨rfl, hw⟩; have hw2 := hw.symm; clear hw; subst hw2; have x4 : (w4.setCell ⟨w.heap.size, 2, none⟩ (.slice pb k.loose.length cb)).cell? ⟨w.heap.size, 4, none⟩ = some (.slice none 0 0) := (Q4.out.set 2 (.slice pb k.loose.length cb)).d4; have f4 := (Q4.out.set 2 (.slice pb k.loose.length cb)).frozen 4))
  go_ret
  have GF := grown_set (grown_set (grown_refl w4 (some w.heap.size)) 2 (.slice pb k.loose.length cb)) 4 (.slice none 0 0)
  have n1 : some (w.heap.size + 1) ≠ some w.heap.size := fun e => by have := Option.some.inj e; omega
  have n2 : some w2.heap.size ≠ some w.heap.size := fun e => by have := Option.some.inj e; omega
  refine ⟨rfl, ⟨Nat.le_refl _, .map (some (w.heap.size + 1)), .map (some w2.heap.size), .slice pb k.loose.length cb, (Q4.out.set 2 _).set 4 _, Or.inr ⟨_, rfl, by omega, O4.out.kept GF n1⟩, Or.inr ⟨_, rfl, by omega, P4.out.kept GF n2⟩, ?_, owns_self L4.out Q4.out GF⟩, grown_through G4.out GF (Nat.le_refl _)⟩
  intro g e1 e2
  cases e1
  injection e2 with e3
  have := Option.some.inj e3
  omega
end Go.Proofs.Ytddnjlnnkeiplaa
namespace Go.Proofs.Ytddnjlnnkeiplaa
open Go.RowKit Go.Maps
set_option maxRecDepth 100000 in
theorem lroot_b {w : World} {b d : Nat} {vr vw : Value} {com len : Nat} {root : ByteArray} {mk : Bool} (hb : Blk w b 77 (rowG d vr vw com len root mk)) : Calls Try.prog 35 #[.pointer (some ⟨b, 0, none⟩)] w fun e w' => e = .returned (.tuple #[.string root, .bool mk]) ∧ w.grownBy w' none := by
  obtain ⟨⟨c0, c1, c2, c3, c4, c5, c6⟩, _⟩ := hb.g7
  clear hb c0 c1 c2 c3 c4
  go_enter Try.func35, Try.ntmps35
  go_wp2_with fail
  go_quiet (fail)
  go_wp2
  go_ret2
  exact ⟨rfl, grown_drewN (grown_refl _ _) _⟩
set_option maxRecDepth 100000 in
theorem llen_b {w : World} {b d : Nat} {vr vw : Value} {com len : Nat} {root : ByteArray} {mk : Bool} (hb : Blk w b 77 (rowG d vr vw com len root mk)) : Calls Try.prog 36 #[.pointer (some ⟨b, 0, none⟩)] w fun e w' => e = .returned (.int .i64 len) ∧ w' = w := by
  obtain ⟨⟨c0, c1, c2, c3, c4, c5, c6⟩, _⟩ := hb.g7
  clear hb c0 c1 c2 c4 c5 c6
  go_enter Try.func36, Try.ntmps36
  go_wp2
  go_ret
  exact ⟨rfl, rfl⟩
def atD (x : Nat) (g : Lg) : Lg := ⟨x, g.recs, g.com, g.len, g.wait, g.root, g.marked⟩
def stepC (L : List UInt8) (ux p : Nat) (g : Lg) : Option (Nat × Lg) := match L with
  | [] => none
  | c :: r => if c = 100 then some (ux, { g with recs := g.recs ++ [(p, ⟨r.toArray⟩)] })
    else if c = 109 then some (ux, { g with com := g.recs.length, len := ux, wait := ⟨#[]⟩, root := ⟨r.toArray⟩, marked := true })
    else none
theorem stepC_d (L : List UInt8) (ux p x : Nat) (g : Lg) : stepC L ux p (atD x g) = (stepC L ux p g).map (fun q => (q.1, atD x q.2)) := by
  cases L with
  | nil => rfl
  | cons c r =>
    unfold stepC
    by_cases h1 : c = 100
    · simp only [if_pos h1]; rfl
    · simp only [if_neg h1]
      by_cases h2 : c = 109
      · simp only [if_pos h2]; rfl
      · simp only [if_neg h2]; rfl
theorem stepG_C (s : ByteArray) (p : Nat) (g : Lg) : stepG s p g = stepC (unV s p).data.toList (unX s p) p g := by
  unfold stepG stepC
  generalize (unV s p).data.toList = L
  generalize unX s p = ux
  cases L <;> rfl
theorem step_d (s : ByteArray) (p x : Nat) (g : Lg) : stepG s p (atD x g) = (stepG s p g).map (fun q => (q.1, atD x q.2)) := by
  rw [stepG_C, stepG_C, stepC_d]
theorem run_d (s : ByteArray) (x : Nat) : ∀ (f p : Nat) (g : Lg), runG s f p (atD x g) = atD x (runG s f p g)
  | 0, _, _ => rfl
  | f + 1, p, g => by
    rw [runG, runG, step_d]
    cases stepG s p g with
    | none => rfl
    | some q => exact run_d s x f q.1 q.2
theorem load_d (s : ByteArray) (d x : Nat) : loadG s x = atD x (loadG s d) := by
  have e : newL x = atD x (newL d) := rfl
  unfold loadG parseG
  rw [e, run_d]
  generalize runG s (s.size + 1) 0 (newL d) = G
  rfl
def rootB : ByteArray := ⟨#[109, 114, 111, 111, 116]⟩
/-- The file's text, up to a record. -/
def opT (l : List ByteArray) : Nat → ByteArray
  | 0 => ⟨#[]⟩
  | k + 1 => if k % 2 = 1 then (opT l k ++ Wi.frmS (⟨#[100]⟩ ++ l.getD k ⟨#[]⟩)) ++ Wi.frmS (rootB ++ l.getD k ⟨#[]⟩) else opT l k ++ Wi.frmS (⟨#[100]⟩ ++ l.getD k ⟨#[]⟩)
theorem opT_size {l : List ByteArray} (hl : ∀ k, (l.getD k ⟨#[]⟩).size ≤ 300) : ∀ k, (opT l k).size ≤ k * 622
  | 0 => Nat.le_refl _
  | k + 1 => by
    have h1 := opT_size hl k
    have h2 := hl k
    have h3 : (Wi.frmS (⟨#[100]⟩ ++ l.getD k ⟨#[]⟩)).size ≤ 309 := by rw [Wi.frmS_size, one_size]; omega
    have h4 : (Wi.frmS (rootB ++ l.getD k ⟨#[]⟩)).size ≤ 313 := by rw [Wi.frmS_size, ByteArray.size_append]; show 5 + _ + 8 ≤ _; omega
    unfold opT
    split
    · rw [ByteArray.size_append, ByteArray.size_append]; omega
    · rw [ByteArray.size_append]; omega
end Go.Proofs.Ytddnjlnnkeiplaa
