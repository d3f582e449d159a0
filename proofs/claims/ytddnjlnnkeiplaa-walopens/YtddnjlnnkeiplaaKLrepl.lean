/-
  Frames of records and of a marker, and what they say. Replace: other records, and a marker, in the place of all.
-/
import Derived.Test.YtddnjlnnkeiplaaKPref
import Derived.Test.YtddnjlnnkeiplaaRepl
import Derived.Test.YtddnjlnnkeiplaaKLlay
namespace Go.Proofs.Ytddnjlnnkeiplaa
open Go.RowKit Go.Maps
def txtK (l : List ByteArray) : Nat → ByteArray
  | 0 => ⟨#[]⟩
  | k + 1 => txtK l k ++ Wi.frmS (⟨#[100]⟩ ++ l.getD k ⟨#[]⟩)
theorem one_size (c : UInt8) (r : ByteArray) : (⟨#[c]⟩ ++ r : ByteArray).size = r.size + 1 := by rw [ByteArray.size_append]; show 1 + _ = _; omega
theorem txtK_size (l : List ByteArray) : ∀ k, (txtK l k).size = offK l k
  | 0 => rfl
  | k + 1 => by
    show (txtK l k ++ Wi.frmS _).size = offK l k + _
    rw [ByteArray.size_append, txtK_size l k, Wi.frmS_size, one_size]
theorem app_assoc (a b c : ByteArray) : a ++ b ++ c = a ++ (b ++ c) := bytes_ext (by simp only [Wi.append_list, List.append_assoc])
theorem txtK_split (l : List ByteArray) (k : Nat) : ∀ j, ∃ Q, txtK l (k + j) = txtK l k ++ Q
  | 0 => ⟨⟨#[]⟩, bytes_ext (by rw [Wi.append_list]; simp)⟩
  | j + 1 => by
    obtain ⟨Q, hQ⟩ := txtK_split l k j
    refine ⟨Q ++ Wi.frmS (⟨#[100]⟩ ++ l.getD (k + j) ⟨#[]⟩), ?_⟩
    show txtK l (k + j) ++ _ = _
    rw [hQ, app_assoc]
    rfl
theorem cons_list (c : UInt8) (r : ByteArray) : (⟨#[c]⟩ ++ r : ByteArray).data.toList = c :: r.data.toList := by rw [Wi.append_list]; rfl
theorem unV_frame (P t Q s : ByteArray) (p : Nat) (ht : t.size ≤ 1000) (hs : s = P ++ (Wi.frmS t ++ Q)) (hp : p = P.size) : unV s p = t ∧ unX s p = p + t.size + 8 := by
  obtain ⟨a1, a2, a3⟩ := Wi.un_frame P t Q s p (by omega) hs hp
  have hk : okU s p = true := (okU_iff s p).2 ⟨a2, by rw [a1]; exact a3⟩
  unfold unV unX
  rw [if_pos hk, if_pos hk, a1]
  exact ⟨rfl, rfl⟩
theorem step_frec (P r Q s : ByteArray) (p : Nat) (g : Lg) (hr : r.size ≤ 900) (hs : s = P ++ (Wi.frmS (⟨#[100]⟩ ++ r) ++ Q)) (hp : p = P.size) : stepG s p g = some (p + (r.size + 9), { g with recs := g.recs ++ [(p, r)] }) := by
  obtain ⟨a1, a2⟩ := unV_frame P _ Q s p (by rw [one_size]; omega) hs hp
  unfold stepG
  rw [a1, cons_list, a2, one_size]
  simp only [if_true]
  have e : p + (r.size + 1) + 8 = p + (r.size + 9) := by omega
  rw [e]
theorem step_fmark (P r Q s : ByteArray) (p : Nat) (g : Lg) (hr : r.size ≤ 900) (hs : s = P ++ (Wi.frmS (⟨#[109]⟩ ++ r) ++ Q)) (hp : p = P.size) : stepG s p g = some (p + (r.size + 9), { g with com := g.recs.length, len := p + (r.size + 9), wait := ⟨#[]⟩, root := r, marked := true }) := by
  obtain ⟨a1, a2⟩ := unV_frame P _ Q s p (by rw [one_size]; omega) hs hp
  unfold stepG
  rw [a1, cons_list, a2, one_size]
  have e : p + (r.size + 1) + 8 = p + (r.size + 9) := by omega
  rw [e]
  have h1 : ¬ (109 : UInt8) = 100 := by decide
  simp only [if_neg h1, if_true]
/-- The state behind so many records. -/
def midG (d : Nat) (l : List ByteArray) (k : Nat) : Lg := { newL d with recs := plcK l k }
def wholeT (l : List ByteArray) (root : ByteArray) : ByteArray := txtK l l.length ++ Wi.frmS (⟨#[109]⟩ ++ root)
def endT (l : List ByteArray) (root : ByteArray) : Nat := offK l l.length + (root.size + 9)
theorem wholeT_size (l : List ByteArray) (root : ByteArray) : (wholeT l root).size = endT l root := by
  unfold wholeT endT
  rw [ByteArray.size_append, txtK_size, Wi.frmS_size, one_size]
/-- The state behind the marker. -/
def topG (d : Nat) (l : List ByteArray) (root : ByteArray) : Lg := ⟨d, plcK l l.length, l.length, endT l root, ⟨#[]⟩, root, true⟩
theorem runG_some {s : ByteArray} {f p x : Nat} {g g' : Lg} (h : stepG s p g = some (x, g')) : runG s (f + 1) p g = runG s f x g' := by
  conv => lhs; unfold runG
  rw [h]
theorem run_one {s : ByteArray} {p x : Nat} {g g' : Lg} (hp : p ≤ s.size) (h : stepG s p g = some (x, g')) : runG s (s.size + 1 - p) p g = runG s (s.size + 1 - x) x g' := by
  have hx := stepG_lt hp h
  have e : s.size + 1 - p = (s.size - p) + 1 := by omega
  rw [e, runG_some h]
  exact runG_stable s _ _ x g' hx.2.1 (by omega) (Nat.le_refl _)
theorem run_mid (d : Nat) (l : List ByteArray) (root rest s : ByteArray) (hl : ∀ t ∈ l, t.size ≤ 300) (hs : s = wholeT l root ++ rest) : ∀ k, k ≤ l.length → offK l k ≤ s.size ∧ Inv s (offK l k) (midG d l k) ∧ runG s (s.size + 1 - offK l k) (offK l k) (midG d l k) = parseG s d
  | 0, _ => ⟨Nat.zero_le _, inv_new s d, rfl⟩
  | k + 1, hk => by
    obtain ⟨h1, h2, h3⟩ := run_mid d l root rest s hl hs k (by omega)
    obtain ⟨Q, hQ⟩ := txtK_split l (k + 1) (l.length - (k + 1))
    have e1 : k + 1 + (l.length - (k + 1)) = l.length := by omega
    rw [e1] at hQ
    have hq : stepG s (offK l k) (midG d l k) = some (offK l (k + 1), midG d l (k + 1)) := by
      have := step_frec (txtK l k) (l.getD k ⟨#[]⟩) (Q ++ (Wi.frmS (⟨#[109]⟩ ++ root) ++ rest)) s (offK l k) (midG d l k) (by have := getD_size hl k; omega) (by
        rw [hs]
        unfold wholeT
        rw [hQ]
        show txtK l k ++ Wi.frmS _ ++ Q ++ _ ++ _ = _
        simp only [app_assoc]) (txtK_size l k).symm
      rw [this]
      have e2 : ({ midG d l k with recs := (midG d l k).recs ++ [(offK l k, l.getD k ⟨#[]⟩)] } : Lg) = midG d l (k + 1) := by
        unfold midG
        rw [← plcK_snoc]
      rw [e2]
      rfl
    refine ⟨(stepG_lt h1 hq).2.1, h2.step h1 hq, ?_⟩
    rw [← h3, run_one h1 hq]
theorem run_top (d : Nat) (l : List ByteArray) (root rest s : ByteArray) (hl : ∀ t ∈ l, t.size ≤ 300) (hr : root.size ≤ 300) (hs : s = wholeT l root ++ rest) : endT l root ≤ s.size ∧ Inv s (endT l root) (topG d l root) ∧ runG s (s.size + 1 - endT l root) (endT l root) (topG d l root) = parseG s d := by
  obtain ⟨h1, h2, h3⟩ := run_mid d l root rest s hl hs l.length (Nat.le_refl _)
  have hq : stepG s (offK l l.length) (midG d l l.length) = some (endT l root, topG d l root) := by
    have := step_fmark (txtK l l.length) root rest s (offK l l.length) (midG d l l.length) (by omega) (by
      rw [hs]
      unfold wholeT
      rw [app_assoc]) (txtK_size l l.length).symm
    rw [this]
    have e2 : ({ midG d l l.length with com := (midG d l l.length).recs.length, len := offK l l.length + (root.size + 9), wait := ⟨#[]⟩, root := root, marked := true } : Lg) = topG d l root := by
      unfold midG topG newL endT
      simp only [plcK_len]
    rw [e2]
    rfl
  refine ⟨(stepG_lt h1 hq).2.1, h2.step h1 hq, ?_⟩
  rw [← h3, run_one h1 hq]
theorem atR_mem {l : List (Nat × ByteArray)} (h : Asc l) {r : Nat × ByteArray} (hr : r ∈ l) : atR l r.1 = some r.2 := by
  obtain ⟨i, hi, rfl⟩ := List.getElem_of_mem hr
  have e : findR l l[i].1 = i := by
    by_cases h1 : findR l l[i].1 < i
    · have h2 := findR_ge l l[i].1 h (findR l l[i].1) (by omega) (Nat.le_refl _)
      have := h _ i hi h1
      omega
    · by_cases h2 : i < findR l l[i].1
      · have := findR_lt l l[i].1 i hi h2
        omega
      · omega
  unfold atR
  rw [e, List.getElem?_eq_getElem hi]
  simp
theorem asc_take {l : List (Nat × ByteArray)} (h : Asc l) (n : Nat) : Asc (l.take n) := by
  intro i j hj hi
  have hj' : j < l.length := by rw [List.length_take] at hj; omega
  rw [List.getElem_take, List.getElem_take]
  exact h i j hj' hi
end Go.Proofs.Ytddnjlnnkeiplaa
namespace Go.Proofs.Ytddnjlnnkeiplaa
open Go.RowKit Go.Maps
/-- The next log behind so many records. -/
def nxtG (d : Nat) (l : List ByteArray) (k : Nat) : Lg := ⟨d, plcK l k, 0, 0, txtK l k, ⟨#[]⟩, false⟩
theorem nxt_step (d : Nat) (l : List ByteArray) (k : Nat) : ({ nxtG d l k with recs := (nxtG d l k).recs ++ [((nxtG d l k).len + (nxtG d l k).wait.size, l.getD k ⟨#[]⟩)], wait := (nxtG d l k).wait ++ Wi.frmS (⟨#[100]⟩ ++ l.getD k ⟨#[]⟩) } : Lg) = nxtG d l (k + 1) := by
  unfold nxtG
  simp only
  rw [txtK_size, Nat.zero_add, plcK_snoc]
  rfl
theorem own_down {w : World} {base base' e size n : Nat} {v : Value} {xs : List Value} (h : w.ownsRow base e size v n xs) (hb : base' ≤ base) : w.ownsRow base' e size v n xs := by
  refine ⟨h.1, h.2.imp id ?_⟩
  rintro ⟨g, cap, cur, e, hg, r⟩
  exact ⟨g, cap, cur, e, Nat.le_trans hb hg, r⟩
set_option maxRecDepth 100000 in
set_option maxHeartbeats 2000000 in
theorem replace_dn (base b bl : Nat) (g : Lg) (F : Option ByteArray) (c : Nat) (v : Value) (l : List ByteArray) (root : ByteArray) (w : World) (h : IsLog w base b g) (hd : IsDisk w base g.d (Dn F c)) (hF : (F.getD ⟨#[]⟩).size ≤ 500000) (hc : c ≤ 1000)
    (hv : w.ownsRow bl 9 1 v l.length (strs l)) (hl : l.length ≤ 6) (hs : ∀ t ∈ l, t.size ≤ 300) (hr : root.size ≤ 300) :
    Calls Try.prog 18 #[.pointer (some ⟨b, 0, none⟩), v, .string root] w fun e w' => e = .returned (.int .i64 0) ∧ IsLog w' base b (topG g.d l root) ∧ IsDisk w' base g.d (Dn (some (wholeT l root)) (c + 2)) ∧ Low base w w' := by
  obtain ⟨pa, ca, rfl, _⟩ := row_form hv
  have hoff := offK_le hs
  have hb0 : base ≤ b := h.1
  obtain ⟨cb, hcb⟩ := h.blk
  have BL := hid hcb
  have hbw : b < w.heap.size := hcb.lt
  have AP : Hid (∀ k W, k ≤ 6 → IsLog W w.heap.size w.heap.size (nxtG g.d l k) → Calls Try.prog 22 #[.pointer (some ⟨w.heap.size, 0, none⟩), .string (l.getD k ⟨#[]⟩)] W fun e w' => e = .returned (.tuple #[.int .i64 (offK l k), .int .i64 0]) ∧ IsLog w' w.heap.size w.heap.size (nxtG g.d l (k + 1)) ∧ LT w.heap.size w.heap.size W w') := fun k W hk hW => by
    have o1 := hoff k
    have := lappend_any w.heap.size w.heap.size (nxtG g.d l k) (l.getD k ⟨#[]⟩) W hW (by show (plcK l k).length ≤ _; rw [plcK_len]; omega) (by show (txtK l k).size ≤ _; rw [txtK_size]; omega) (by show 0 ≤ _; decide) (by have := getD_size hs k; omega)
    rw [nxt_step] at this
    have e : (nxtG g.d l k).len + (nxtG g.d l k).wait.size = offK l k := by
      show 0 + (txtK l k).size = _
      rw [txtK_size, Nat.zero_add]
    rw [e] at this
    exact this
  have wz := wholeT_size l root
  have o6 := hoff l.length
  have we : endT l root ≤ 3000 := by unfold endT; omega
  have SE : Hid (∀ W, IsLog W w.heap.size w.heap.size (nxtG g.d l l.length) → Calls Try.prog 42 #[.pointer (some ⟨w.heap.size, 0, none⟩), .string root] W fun e w' => e = .returned (.tuple #[.string (wholeT l root), .int .i64 0]) ∧ W.grownBy w' none) := fun W hW => sealed_any w.heap.size w.heap.size (nxtG g.d l l.length) root W hW (by show (txtK l l.length).size ≤ _; rw [txtK_size]; omega) (by omega)
  have LY : Hid (∀ W, IsLog W base b g → IsDisk W base g.d (Dn F c) → Calls Try.prog 46 #[.pointer (some ⟨b, 0, none⟩), .string (wholeT l root)] W fun e w' => e = .returned (.int .i64 0) ∧ IsLog w' base b g ∧ IsDisk w' base g.d (Dn (some (wholeT l root)) (c + 2)) ∧ Tend base g.d W w') := fun W h1 h2 => lay_dn base b g F c (wholeT l root) W h1 h2 hF hc (by omega)
  have MK : Hid (∀ W, IsLog W w.heap.size w.heap.size (nxtG g.d l l.length) → Calls Try.prog 44 #[.pointer (some ⟨w.heap.size, 0, none⟩), .int .i64 (endT l root), .string root] W fun e w' => e = .returned (.tuple #[]) ∧ IsLog w' w.heap.size w.heap.size (topG g.d l root) ∧ W.grownBy w' (some w.heap.size)) := fun W hW => by
    have := mark_any w.heap.size w.heap.size (nxtG g.d l l.length) (endT l root) root W hW (by show (plcK l l.length).length ≤ _; rw [plcK_len]; omega)
    have e : ({ nxtG g.d l l.length with com := (nxtG g.d l l.length).recs.length, len := endT l root, wait := ⟨#[]⟩, root := root, marked := true } : Lg) = topG g.d l root := by
      unfold nxtG topG
      simp only [plcK_len]
    rw [e] at this
    exact this
  have HL := hid h
  have HD := hid hd
  have HV := hid hv
  have N0 : Hid (IsLog (w.alloc (.cells #[.pointer (some ⟨g.d, 0, none⟩), .slice none 0 0, .int .i64 0, .int .i64 0, .slice none 0 0, .string ⟨#[]⟩, .bool false] 77)) w.heap.size w.heap.size (nxtG g.d l 0)) := newL_is (Nat.le_refl _)
  obtain ⟨_, vr, vw, hb, _, _⟩ := h
  have c0 := hb.g7.1.1
  have n6 : (l.length : Int) ≤ 6 := by omega
  have wz2 : ((wholeT l root).size : Int) = (endT l root : Int) := by rw [wz]
  have WZ := hid (And.intro wz2 trivial)
  have we2 : ((wholeT l root).size : Int) ≤ 3000 := by omega
  clear hb hd hv hcb hoff o6 wz wz2 we hF hc hs
  go_enter Try.func18, Try.ntmps18
  go_wp2
  go_loopw [24] (fun iv wr => ∃ k : Nat, k ≤ l.length ∧ iv = .int .i64 k ∧ IsLog wr w.heap.size w.heap.size (nxtG g.d l k) ∧ w.grownBy wr none) (fun iv _ => l.length - (intOf iv).toNat)
  case atStart => exact ⟨0, Nat.zero_le _, rfl, N0.out, grown_alloc (grown_refl _ _) _⟩
  case round =>
    obtain ⟨k, hk, rfl, hlog, hg⟩ := hrel
    have LK := hid hlog
    have GK := hid hg
    clear hlog hg N0
    have k0 : (0 : Int) ≤ k := by omega
    by_cases hlt : k < l.length
    · have k1 : (k : Int) < l.length := by omega
      obtain ⟨gx, rfl, cx⟩ := str_cell HV.out k hlt
      have cx1 := cell_kept cx GK.out (fun _ e => by cases e)
      have CE := hid (AP.out k _ (by omega) LK.out)
      clear AP SE LY MK cx HV
      generalize l.getD k ⟨#[]⟩ = x at *
      generalize offK l k = off at *
      go_wp2_with (go_at_call 22; refine CE.out.mono ?_; rintro e w2 ⟨rfl, h2, t2⟩; have L2 := hid h2; have G2 := hid (LT.grown GK.out t2); clear h2 t2 CE)
      go_round
      case rel => exact ⟨k + 1, by omega, by go_num, L2.out, G2.out⟩
      case measure => simp [intOf]; omega
    · obtain rfl : k = l.length := by omega
      have k1 : ¬ (l.length : Int) < l.length := by omega
      clear AP HV hk hlt
      generalize hn : l.length = n at *
      generalize hTx : wholeT l root = Tx at *
      have TX := hid (And.intro hTx trivial)
      clear hTx
      generalize endT l root = En at *
      have hbB : base ≤ w.heap.size := by omega
      go_wp2_with (first
        | (go_at_call 42; refine (SE.out _ LK.out).mono ?_; rintro e w3 ⟨rfl, g3⟩; have G3 := hid (grown_none GK.out g3); have N3 := hid (LK.out.kept g3); have L3 := hid (HL.out.kept G3.out); have D3 := hid (HD.out.kept G3.out); clear g3 SE)
        | (go_at_call 46; refine (LY.out _ L3.out D3.out).mono ?_; rintro e w4 ⟨rfl, l4, d4, t4⟩; obtain ⟨_, q3⟩ := D3.out.blk; have N4 := hid (N3.out.keptD q3 t4); have L4 := hid l4; have D4 := hid d4; have T4 := hid (Low.trans (Low.of_none (base := base) G3.out) (Low.of_tend t4 D3.out.blk)); clear l4 d4 t4 LY q3)
        | (go_at_call 44; refine calls_at (args := #[.pointer (some ⟨w.heap.size, 0, none⟩), .int .i64 En, .string root]) (by rw [← WZ.out.1]) ?_; refine (MK.out _ N4.out).mono ?_; rintro e w5 ⟨rfl, n5, g5⟩; have N5 := hid n5; obtain ⟨_, q4⟩ := N4.out.blk; have D5 := hid (IsDisk.keptL D4.out q4 (LT.of_self (base := base) g5 hbB)); have T5 := hid (Low.trans T4.out (Low.of_lt (LT.of_self (base := base) g5 hbB) ⟨_, q4⟩)); obtain ⟨_, vr4, vw4, hb4, _, _⟩ := L4.out; have B5 := hid (hb4.kept g5 (fun e => by have := Option.some.inj e; omega)); obtain ⟨_, vr5, vw5, hb5, hr5, hw5⟩ := n5; have M5 := hid hb5; have R5 := hid hr5; have W5 := hid hw5; obtain ⟨pr5, cr5, rfl, _⟩ := row_form hr5; obtain ⟨pw5, cw5, rfl, _⟩ := row_form hw5; obtain ⟨⟨a0, a1, a2, a3, a4, a5, a6⟩, _⟩ := hb5.g7; obtain ⟨⟨b0, b1, b2, b3, b4, b5, b6⟩, f1, f2, f3, f4, f5, f6⟩ := B5.out.g7; have f0 := B5.out.frozen 0; clear hb5 hr5 hw5 hb4 g5 MK q4))
      have H6 := grown_set (grown_set (grown_set (grown_set (grown_set (grown_set (grown_set (grown_refl w5 (some b)) 0 (.pointer (some ⟨(topG g.d l root).d, 0, none⟩))) 1 (.slice pr5 (topG g.d l root).recs.length cr5)) 2 (.int .i64 (topG g.d l root).com)) 3 (.int .i64 (topG g.d l root).len)) 4 (.slice pw5 (topG g.d l root).wait.size cw5)) 5 (.string (topG g.d l root).root)) 6 (.bool (topG g.d l root).marked)
      have B6 := ((((((B5.out.set 0 (.pointer (some ⟨(topG g.d l root).d, 0, none⟩))).set 1 (.slice pr5 (topG g.d l root).recs.length cr5)).set 2 (.int .i64 (topG g.d l root).com)).set 3 (.int .i64 (topG g.d l root).len)).set 4 (.slice pw5 (topG g.d l root).wait.size cw5)).set 5 (.string (topG g.d l root).root)).set 6 (.bool (topG g.d l root).marked)
      have R6 := own_down (rowG_kept R5.out B5.out (by decide) H6) hbB
      have W6 := own_down (rowG_kept W5.out B5.out (by decide) H6) hbB
      have D6 := IsDisk.keptL D5.out B5.out (LT.of_self (base := base) H6 hb0)
      have T6 := Low.trans T5.out (Low.of_lt (LT.of_self (base := base) H6 hb0) ⟨_, B5.out⟩)
      go_ret
      rw [TX.out.1]
      exact ⟨rfl, ⟨hb0, _, _, B6, R6, W6⟩, D6, T6⟩
end Go.Proofs.Ytddnjlnnkeiplaa
