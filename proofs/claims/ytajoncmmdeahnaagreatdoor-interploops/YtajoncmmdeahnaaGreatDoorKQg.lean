/-
  The checker: which nodes some text has. The parser: a literal. The checker: which nodes some text has: expressions, and all. The parser: a constant.
-/
import Derived.Test.YtajoncmmdeahnaaGreatDoorKCb
import Derived.Test.YtajoncmmdeahnaaGreatDoorKDPs
import Derived.Test.YtajoncmmdeahnaaGreatDoorPi6
import Derived.Test.YtajoncmmdeahnaaGreatDoorKPf
import Derived.Test.YtajoncmmdeahnaaGreatDoorKPh
import Derived.Deep.RegionLaw
import Derived.Test.YtajoncmmdeahnaaGreatDoorKQa
namespace Go.Proofs.YtajoncmmdeahnaaGreatDoor
open Go.RowKit
namespace Ck
def eB (s : ByteArray) : Bool := s.data.toList.isEmpty
def bareB (t : Int) (s : ByteArray) (n : Int) : Bool := t == 0 && eB s && n == 0
def tyB (t : Int) : Bool := t == 1 || t == 2 || t == 3
def typedB (t : Int) (s : ByteArray) (n : Int) : Bool := tyB t && nmB s.data.toList && n == 0
def dgB (s : List UInt8) : Option Bool := if 16 < s.length then some false else match s.dropWhile Pm.dgt with
  | 46 :: B => if B.all Pm.dgt then some (Pm.ahD (s.takeWhile Pm.dgt) ++ 46 :: Pm.beD B == s) else none
  | _ => none
def btN (s : List UInt8) : Option Int := if Pm.okFl s then some (Pm.flN s).num else none
def fexpB (k : Int) (s : ByteArray) (n : Int) (l : Nat) : Option Bool :=
  if k = 20 then some (eB s && decide (0 ≤ n) && l == 0)
  else if k = 21 then (if dgB s.data.toList = some true ∧ btN s.data.toList = some n then some (l == 0) else none)
  else if k = 22 then some (eB s && (n == 0 || n == 1) && l == 0)
  else if k = 23 then some (n == 0 && nmB s.data.toList && l == 0)
  else if k = 24 then some (n == 0 && nmB s.data.toList && decide (l ≤ 6))
  else if k = 25 ∨ k = 26 then some (n == 0)
  else some (n == 0 && eB s)
def formB (k t : Int) (s : ByteArray) (n : Int) (l : Nat) : Option Bool :=
  if k = 1 then some (bareB t s n)
  else if k = 2 then some (typedB t s n && l == 1)
  else if k = 3 then some (typedB t s n && decide (1 ≤ l) && decide (l ≤ 7))
  else if k = 5 then some (typedB t s n && l == 0)
  else if k = 4 ∨ k = 7 ∨ k = 8 then some (t == 0 && n == 0 && nmB s.data.toList && l == 1)
  else if k = 6 then some (bareB t s n && decide (l ≤ 32))
  else if k = 9 then some (bareB t s n && (l == 2 || l == 3))
  else if k = 10 then some (bareB t s n && l == 2)
  else if k = 11 ∨ k = 12 ∨ k = 13 then some (bareB t s n && l == 1)
  else if k = 14 then some (bareB t s n && l == 0)
  else fexpB k s n l
def BP (b : Bool) (w : World) (e : Ending) (w' : World) : Prop := e = .returned (.bool b) ∧ w.grownBy w' none
theorem natI (l m : Nat) : ((l : Int) == (m : Int)) = (l == m) := by rw [Bool.eq_iff_iff, beq_iff_eq, beq_iff_eq]; omega
theorem natI0 (l : Nat) : ((l : Int) == 0) = (l == 0) := natI l 0
theorem natI1 (l : Nat) : ((l : Int) == 1) = (l == 1) := natI l 1
theorem natI2 (l : Nat) : ((l : Int) == 2) = (l == 2) := natI l 2
theorem natI3 (l : Nat) : ((l : Int) == 3) = (l == 3) := natI l 3
theorem natLe (l m : Nat) : decide ((l : Int) ≤ (m : Int)) = decide (l ≤ m) := by rw [decide_eq_decide]; omega
theorem eB_iff (s : ByteArray) : (s.toList = []) ↔ eB s = true := by unfold eB; rw [List.isEmpty_iff, ByteArray.toList_eq]
theorem isName_data (s : ByteArray) (w : World) (hs : (s.size : Int) ≤ 9223372036854775807) : Calls Tryz.prog 51 #[.string s] w fun e w' => e = .returned (.bool (nmB s.data.toList)) ∧ w' = w := by
  rw [← ByteArray.toList_eq]
  exact isName_any s w hs
set_option maxRecDepth 100000 in
set_option maxHeartbeats 1000000 in
theorem isBare_any (k t : Int) (s : ByteArray) (n : Int) (p : Option Addr) (l c : Nat) (w : World) : Calls Tryz.prog 49 #[.agg #[.int .i64 k, .int .i64 t, .string s, .int .i64 n, .slice p l c]] w (BP (bareB t s n) w) := by
  unfold bareB
  have e1 := eB_iff s
  cases h1 : (t == 0) <;> cases h2 : eB s <;> cases h3 : (n == 0)
  all_goals
    rw [h2] at e1
    simp only [Bool.false_eq_true, iff_false, iff_true] at e1
    clear h2
    go_enter Tryz.func49, Tryz.ntmps49
    go_wp2_with fail
    go_ret
    first
      | exact ⟨rfl, G1.out⟩
      | exact ⟨rfl, grown_alloc (grown_refl w none) _⟩
theorem typeName_any (t : Int) (w : World) : Calls Tryz.prog 84 #[.int .i64 t] w fun e w' => (∃ s : ByteArray, e = .returned (.string s) ∧ (s.toList = [] ↔ tyB t = false)) ∧ w' = w := by
  by_cases h1 : t = 1
  · subst h1
    go_enter Tryz.func84, Tryz.ntmps84
    go_wp2
    go_ret
    exact ⟨⟨_, rfl, by rw [ByteArray.toList_eq]; simp [tyB]⟩, rfl⟩
  by_cases h2 : t = 2
  · subst h2
    go_enter Tryz.func84, Tryz.ntmps84
    go_wp2
    go_ret
    exact ⟨⟨_, rfl, by rw [ByteArray.toList_eq]; simp [tyB]⟩, rfl⟩
  by_cases h3 : t = 3
  · subst h3
    go_enter Tryz.func84, Tryz.ntmps84
    go_wp2
    go_ret
    exact ⟨⟨_, rfl, by rw [ByteArray.toList_eq]; simp [tyB]⟩, rfl⟩
  have e1 : (t == 1) = false := by rw [beq_eq_false_iff_ne]; exact h1
  have e2 : (t == 2) = false := by rw [beq_eq_false_iff_ne]; exact h2
  have e3 : (t == 3) = false := by rw [beq_eq_false_iff_ne]; exact h3
  clear h1 h2 h3
  have e4 : tyB t = false := by unfold tyB; rw [e1, e2, e3]; rfl
  go_enter Tryz.func84, Tryz.ntmps84
  go_wp2
  go_ret
  exact ⟨⟨_, rfl, by rw [e4, ByteArray.toList_eq]; simp⟩, rfl⟩
set_option maxRecDepth 100000 in
set_option maxHeartbeats 1000000 in
theorem isTyped_any (k t : Int) (s : ByteArray) (n : Int) (p : Option Addr) (l c : Nat) (w : World) (hs : (s.size : Int) ≤ 9223372036854775807) : Calls Tryz.prog 50 #[.agg #[.int .i64 k, .int .i64 t, .string s, .int .i64 n, .slice p l c]] w (BP (typedB t s n) w) := by
  have CN : Hid (∀ W, Calls Tryz.prog 51 #[.string s] W fun e w' => e = .returned (.bool (nmB s.data.toList)) ∧ w' = W) := fun W => isName_data s W hs
  obtain ⟨ts, hts⟩ : ∃ ts : Bool, tyB t = ts := ⟨_, rfl⟩
  have CT : Hid (∀ W, Calls Tryz.prog 84 #[.int .i64 t] W fun e w' => (∃ s : ByteArray, e = .returned (.string s) ∧ (s.toList = [] ↔ ts = false)) ∧ w' = W) := fun W => by rw [← hts]; exact typeName_any t W
  unfold typedB
  rw [hts]
  generalize nmB s.data.toList = nb at *
  clear hts hs
  cases ts <;> cases nb <;> cases h3 : (n == 0)
  all_goals
    go_enter Tryz.func50, Tryz.ntmps50
    go_wp2_with (first
      | (go_at_call 84; refine (CT.out _).mono ?_; rintro e w1 ⟨⟨s9, rfl, h9⟩, hw⟩; replace hw := hw.symm; subst hw; simp only [Bool.true_eq_false, iff_false, iff_true] at h9; (try have h8 : s9.toList.isEmpty = false := by simpa using h9); clear CT)
      | (go_at_call 51; refine (CN.out _).mono ?_; rintro e w1 ⟨rfl, hw⟩; replace hw := hw.symm; subst hw; clear CN))
    go_ret
    first
      | exact ⟨rfl, G1.out⟩
      | exact ⟨rfl, grown_alloc (grown_refl w none) _⟩
theorem dgB_parts {s : List UInt8} {b : Bool} (h : dgB s = some b) (h16 : ¬ 16 < s.length) : s = s.takeWhile Pm.dgt ++ 46 :: (s.dropWhile Pm.dgt).drop 1 ∧ (∀ c ∈ s.takeWhile Pm.dgt, Dg.isD c) ∧ (∀ c ∈ (s.dropWhile Pm.dgt).drop 1, Dg.isD c) ∧ b = (Pm.ahD (s.takeWhile Pm.dgt) ++ 46 :: Pm.beD ((s.dropWhile Pm.dgt).drop 1) == s) := by
  have e0 := List.takeWhile_append_dropWhile (p := Pm.dgt) (l := s)
  have ha : ∀ c ∈ s.takeWhile Pm.dgt, Dg.isD c := fun c hc => Pm.dgt_iff (List.all_eq_true.1 List.all_takeWhile c hc)
  unfold dgB at h
  rw [if_neg h16] at h
  split at h
  · rename_i B hB
    by_cases hb : B.all Pm.dgt = true
    · rw [if_pos hb] at h
      injection h with h
      rw [hB] at e0 ⊢
      exact ⟨e0.symm, ha, fun c hc => Pm.dgt_iff (List.all_eq_true.1 hb c hc), h.symm⟩
    · rw [if_neg hb] at h
      cases h
  · cases h
set_option maxRecDepth 100000 in
set_option maxHeartbeats 1000000 in
theorem isDigits_any (s : ByteArray) (b : Bool) (w : World) (h : dgB s.data.toList = some b) : Calls Tryz.prog 95 #[.string s] w (BP b w) := by
  have hl : s.data.toList.length = s.size := Array.length_toList
  by_cases h16 : 16 < s.data.toList.length
  · unfold dgB at h
    rw [if_pos h16] at h
    injection h with h
    subst h
    have i16 : decide ((s.size : Int) ≤ 16) = false := by rw [decide_eq_false_iff_not]; omega
    clear h16 hl
    go_enter Tryz.func95, Tryz.ntmps95
    go_wp2_with fail
    go_ret
    exact ⟨rfl, grown_refl _ _⟩
  · obtain ⟨e, hA, hB, rfl⟩ := dgB_parts h h16
    have i16 : decide ((s.size : Int) ≤ 16) = true := by rw [decide_eq_true_eq]; omega
    generalize hAA : s.data.toList.takeWhile Pm.dgt = A at *
    generalize hBB : (s.data.toList.dropWhile Pm.dgt).drop 1 = B at *
    have hs : s = Dg.mkS (A ++ 46 :: B) := by
      apply Lw.bytes_ext
      rw [e]
      show _ = (A ++ 46 :: B).toArray.toList
      simp
    have hlen : A.length + B.length ≤ 40 := by
      have := congrArg List.length e
      rw [List.length_append, List.length_cons] at this
      omega
    have C : Hid (∀ W, Calls Tryz.prog 129 #[.string s] W fun e w' => e = .returned (.string (Dg.mkS (Pm.ahD A ++ 46 :: Pm.beD B))) ∧ W.grownBy w' none) := fun W => by
      rw [hs]
      exact Dg.digits_any A B W hA hB hlen
    have EQ : ((Dg.mkS (Pm.ahD A ++ 46 :: Pm.beD B)).toList == s.toList) = (Pm.ahD A ++ 46 :: Pm.beD B == s.data.toList) := by
      rw [ByteArray.toList_eq, ByteArray.toList_eq]
      show ((Pm.ahD A ++ 46 :: Pm.beD B).toArray.toList == _) = _
      simp
    rw [← EQ]
    clear EQ hlen hs hBB hAA e h16 h hl hA hB
    go_enter Tryz.func95, Tryz.ntmps95
    go_wp2_with (go_at_call 129; refine (C.out _).mono ?_; rintro e w1 ⟨rfl, g⟩; have G1 := hid g; clear g C)
    go_ret
    exact ⟨rfl, G1.out⟩
end Ck
end Go.Proofs.YtajoncmmdeahnaaGreatDoor
namespace Go.Proofs.YtajoncmmdeahnaaGreatDoor
open Go.RowKit
namespace Pm
set_option maxRecDepth 100000 in
set_option maxHeartbeats 1000000 in
theorem literal_true {b tg cp : Nat} {all : List Tk} {p : Ps} {t : Tk} {r : List Tk} (w : World) (hP : PsA w b tg cp all p) (hw : p.ws = t :: r) (hk2 : t.kind ≠ 2) (hk3 : t.kind ≠ 3) (ht : t.s = wTrue) (hx : (passP >>= fun _ => madeP (.mk (22) (0) ⟨#[]⟩ (1) [])) p ≠ .error none) :
    Calls Tryz.prog 164 #[.pointer (some ⟨b, 0, none⟩)] w (PrP (nV w.heap.size) b tg cp all w ((passP >>= fun _ => madeP (.mk (22) (0) ⟨#[]⟩ (1) [])) p)) := by
  have hbl := hP.lt
  have htl := hP.tgl
  have C38 : Hid (∀ W, w.grownBy W none → Calls Tryz.prog 38 #[.pointer (some ⟨b, 0, none⟩)] W fun e w' => e = .returned (.agg #[.int .i64 t.kind, .string (tkS t), .int .i64 t.pl]) ∧ W.grownBy w' none) := fun W hW => next_any W (hP.kept hW) hw
  rw [show tkS t = ⟨#[116, 114, 117, 101]⟩ by unfold tkS; rw [ht]; rfl] at C38
  have hN : passP p ≠ .error none := bnd_ne hx
  have C43 : Hid (∀ W, PsA W b tg cp all p → Calls Tryz.prog 43 #[.pointer (some ⟨b, 0, none⟩)] W (PrP uV b tg cp all W (passP p))) := fun W hW => pass_any W hW hN
  have C42 : Hid (∀ q x k t s n ps l c W, PsA W b tg cp all q → madeP x q ≠ .error none → Calls Tryz.prog 42 #[.pointer (some ⟨b, 0, none⟩), .agg #[.int .i64 k, .int .i64 t, .string s, .int .i64 n, .slice ps l c]] W (PrP (fun _ _ v => v = .agg #[.int .i64 k, .int .i64 t, .string s, .int .i64 n, .slice ps l c]) b tg cp all W (madeP x q))) := fun q x k t s n ps l c W hW h => made_any x k t s n ps l c W hW h
  have X0 := hid (Blk.new w 27 #[.int .i64 0, .int .i64 0, .string ⟨#[]⟩, .int .i64 0, .slice none 0 0])
  have P0 := hid hP
  have HX := hid hx
  have HN := hid hN
  have k2 : ((t.kind : Int) == 2) = false := by rw [beq_eq_false_iff_ne]; omega
  have k3 : ((t.kind : Int) == 3) = false := by rw [beq_eq_false_iff_ne]; omega
  have f1 := fld1
  clear hP hw hx hN
  generalize (t.kind : Int) = kd at *
  go_enter Tryz.func164, Tryz.ntmps164
  go_wp2_with (first
    | (go_at_call 38; refine (C38.out _ (grown_alloc (grown_refl _ _) _)).mono ?_; rintro e w1 ⟨rfl, g⟩; have P1 := hid (P0.out.kept (grown_none (grown_alloc (grown_refl _ _) _) g)); have G1 : Hid (w.grownBy w1 (some b)) := hid (grown_b (b := b) (grown_none (grown_alloc (grown_refl _ _) _) g)); have X1 := hid (X0.out.kept g (by simp)); have s1 := g.size; rw [World.size_alloc] at s1; have P3 := hid (P1.out.kept (grown_alloc (grown_alloc (grown_refl w1 none) (.cells #[.int .i64 kd, .string ⟨#[116, 114, 117, 101]⟩, .int .i64 t.pl] 88)) (.cells #[.int .i64 22, .int .i64 0, .string ⟨#[]⟩, .int .i64 1, .slice none 0 0] 27))); have G3 := hid (Loc.grown G1.out (((Loc.refl w.heap.size w1).alloc (.cells #[.int .i64 kd, .string ⟨#[116, 114, 117, 101]⟩, .int .i64 t.pl] 88)).alloc (.cells #[.int .i64 22, .int .i64 0, .string ⟨#[]⟩, .int .i64 1, .slice none 0 0] 27))); have X3 := hid ((X1.out.alloc (.cells #[.int .i64 kd, .string ⟨#[116, 114, 117, 101]⟩, .int .i64 t.pl] 88)).alloc (.cells #[.int .i64 22, .int .i64 0, .string ⟨#[]⟩, .int .i64 1, .slice none 0 0] 27)); have Y3 := hid (Blk.new (w1.alloc (.cells #[.int .i64 kd, .string ⟨#[116, 114, 117, 101]⟩, .int .i64 t.pl] 88)) 27 #[.int .i64 22, .int .i64 0, .string ⟨#[]⟩, .int .i64 1, .slice none 0 0]); rw [World.size_alloc] at Y3; clear g)
    | (go_at_call 43; refine (C43.out _ P3.out).mono ?_; intro e w4 hh0; rcases PrP.cases hh0 HN.out with hh | hh; (case inl => obtain ⟨at_, n9, hz, rfl, g⟩ := hh; exact ⟨rfl, by rw [bnd_err hz]; exact ⟨rfl, grown_bb G3.out g⟩⟩); obtain ⟨a4, q4, v4, hz, rfl, hv, pp, g⟩ := hh; have hv' : v4 = _ := hv; subst hv'; have HZ4 := hid (And.intro hz trivial); have P4 := hid pp; have G4 := hid (grown_bb G3.out g); have X4 := hid (X3.out.kept g (lt_nb hbl _ (Nat.le_refl _))); have Y4 := hid (Y3.out.kept g (lt_nb hbl _ (by omega))); have y0 := Y4.out.cell 0; have y1 := Y4.out.cell 1; have y2 := Y4.out.cell 2; have y3 := Y4.out.cell 3; have y4 := Y4.out.cell 4; simp at y0 y1 y2 y3 y4; clear hz pp g hh0)
    | (go_at_call 42; refine (C42.out q4 (.mk (22) (0) ⟨#[]⟩ (1) []) (22) (0) ⟨#[]⟩ (1) none 0 0 _ P4.out (by have h := HX.out; rw [bnd_ok HZ4.out.1] at h; exact h)).mono ?_; intro e w7 hh0; rcases PrP.cases hh0 (by have h := HX.out; rw [bnd_ok HZ4.out.1] at h; exact h) with hh | hh; (case inl => obtain ⟨at_, n9, hz, rfl, g⟩ := hh; exact ⟨rfl, by rw [bnd_ok HZ4.out.1, hz]; exact ⟨rfl, grown_bb G4.out g⟩⟩); obtain ⟨a7, q7, v7, hz, rfl, hv, pp, g⟩ := hh; have hv' : v7 = _ := hv; subst hv'; obtain rfl := made_ok hz; have HZ7 := hid (And.intro hz trivial); have P7 := hid pp; have G7 := hid (grown_bb G4.out g); have X7 := hid (X4.out.kept g (lt_nb hbl _ (Nat.le_refl _))); clear hz pp g hh0)
    | (refine store_nd (.tmp 2) (.tmp 43) rfl rfl w.heap.size X7.out rfl rfl ?_; intro w8 b8 g8; have Z8 := hid b8; have G8 := hid (grown_to G7.out g8 (Nat.le_refl _)); have P8 := hid (P7.out.keptG g8 (by omega) (by omega)); clear b8 g8))
  refine bodyPost_ret (results_nd rfl _ _ w.heap.size rfl Z8.out) rfl ?_
  rw [bnd_ok HZ4.out.1, HZ7.out.1]
  exact ⟨_, rfl, ⟨_, rfl, KsV.nil _ _⟩, P8.out, G8.out⟩
set_option maxRecDepth 100000 in
set_option maxHeartbeats 1000000 in
theorem literal_false {b tg cp : Nat} {all : List Tk} {p : Ps} {t : Tk} {r : List Tk} (w : World) (hP : PsA w b tg cp all p) (hw : p.ws = t :: r) (hk2 : t.kind ≠ 2) (hk3 : t.kind ≠ 3) (ht : t.s = wFalse) (hx : (passP >>= fun _ => madeP (.mk (22) (0) ⟨#[]⟩ (0) [])) p ≠ .error none) :
    Calls Tryz.prog 164 #[.pointer (some ⟨b, 0, none⟩)] w (PrP (nV w.heap.size) b tg cp all w ((passP >>= fun _ => madeP (.mk (22) (0) ⟨#[]⟩ (0) [])) p)) := by
  have hbl := hP.lt
  have htl := hP.tgl
  have C38 : Hid (∀ W, w.grownBy W none → Calls Tryz.prog 38 #[.pointer (some ⟨b, 0, none⟩)] W fun e w' => e = .returned (.agg #[.int .i64 t.kind, .string (tkS t), .int .i64 t.pl]) ∧ W.grownBy w' none) := fun W hW => next_any W (hP.kept hW) hw
  rw [show tkS t = ⟨#[102, 97, 108, 115, 101]⟩ by unfold tkS; rw [ht]; rfl] at C38
  have hN : passP p ≠ .error none := bnd_ne hx
  have C43 : Hid (∀ W, PsA W b tg cp all p → Calls Tryz.prog 43 #[.pointer (some ⟨b, 0, none⟩)] W (PrP uV b tg cp all W (passP p))) := fun W hW => pass_any W hW hN
  have C42 : Hid (∀ q x k t s n ps l c W, PsA W b tg cp all q → madeP x q ≠ .error none → Calls Tryz.prog 42 #[.pointer (some ⟨b, 0, none⟩), .agg #[.int .i64 k, .int .i64 t, .string s, .int .i64 n, .slice ps l c]] W (PrP (fun _ _ v => v = .agg #[.int .i64 k, .int .i64 t, .string s, .int .i64 n, .slice ps l c]) b tg cp all W (madeP x q))) := fun q x k t s n ps l c W hW h => made_any x k t s n ps l c W hW h
  have X0 := hid (Blk.new w 27 #[.int .i64 0, .int .i64 0, .string ⟨#[]⟩, .int .i64 0, .slice none 0 0])
  have P0 := hid hP
  have HX := hid hx
  have HN := hid hN
  have k2 : ((t.kind : Int) == 2) = false := by rw [beq_eq_false_iff_ne]; omega
  have k3 : ((t.kind : Int) == 3) = false := by rw [beq_eq_false_iff_ne]; omega
  have f1 := fld1
  clear hP hw hx hN
  generalize (t.kind : Int) = kd at *
  go_enter Tryz.func164, Tryz.ntmps164
  go_wp2_with (first
    | (go_at_call 38; refine (C38.out _ (grown_alloc (grown_refl _ _) _)).mono ?_; rintro e w1 ⟨rfl, g⟩; have P1 := hid (P0.out.kept (grown_none (grown_alloc (grown_refl _ _) _) g)); have G1 : Hid (w.grownBy w1 (some b)) := hid (grown_b (b := b) (grown_none (grown_alloc (grown_refl _ _) _) g)); have X1 := hid (X0.out.kept g (by simp)); have s1 := g.size; rw [World.size_alloc] at s1; have P3 := hid (P1.out.kept (grown_alloc (grown_alloc (grown_refl w1 none) (.cells #[.int .i64 kd, .string ⟨#[102, 97, 108, 115, 101]⟩, .int .i64 t.pl] 88)) (.cells #[.int .i64 22, .int .i64 0, .string ⟨#[]⟩, .int .i64 0, .slice none 0 0] 27))); have G3 := hid (Loc.grown G1.out (((Loc.refl w.heap.size w1).alloc (.cells #[.int .i64 kd, .string ⟨#[102, 97, 108, 115, 101]⟩, .int .i64 t.pl] 88)).alloc (.cells #[.int .i64 22, .int .i64 0, .string ⟨#[]⟩, .int .i64 0, .slice none 0 0] 27))); have X3 := hid ((X1.out.alloc (.cells #[.int .i64 kd, .string ⟨#[102, 97, 108, 115, 101]⟩, .int .i64 t.pl] 88)).alloc (.cells #[.int .i64 22, .int .i64 0, .string ⟨#[]⟩, .int .i64 0, .slice none 0 0] 27)); have Y3 := hid (Blk.new (w1.alloc (.cells #[.int .i64 kd, .string ⟨#[102, 97, 108, 115, 101]⟩, .int .i64 t.pl] 88)) 27 #[.int .i64 22, .int .i64 0, .string ⟨#[]⟩, .int .i64 0, .slice none 0 0]); rw [World.size_alloc] at Y3; clear g)
    | (go_at_call 43; refine (C43.out _ P3.out).mono ?_; intro e w4 hh0; rcases PrP.cases hh0 HN.out with hh | hh; (case inl => obtain ⟨at_, n9, hz, rfl, g⟩ := hh; exact ⟨rfl, by rw [bnd_err hz]; exact ⟨rfl, grown_bb G3.out g⟩⟩); obtain ⟨a4, q4, v4, hz, rfl, hv, pp, g⟩ := hh; have hv' : v4 = _ := hv; subst hv'; have HZ4 := hid (And.intro hz trivial); have P4 := hid pp; have G4 := hid (grown_bb G3.out g); have X4 := hid (X3.out.kept g (lt_nb hbl _ (Nat.le_refl _))); have Y4 := hid (Y3.out.kept g (lt_nb hbl _ (by omega))); have y0 := Y4.out.cell 0; have y1 := Y4.out.cell 1; have y2 := Y4.out.cell 2; have y3 := Y4.out.cell 3; have y4 := Y4.out.cell 4; simp at y0 y1 y2 y3 y4; clear hz pp g hh0)
    | (go_at_call 42; refine (C42.out q4 (.mk (22) (0) ⟨#[]⟩ (0) []) (22) (0) ⟨#[]⟩ (0) none 0 0 _ P4.out (by have h := HX.out; rw [bnd_ok HZ4.out.1] at h; exact h)).mono ?_; intro e w7 hh0; rcases PrP.cases hh0 (by have h := HX.out; rw [bnd_ok HZ4.out.1] at h; exact h) with hh | hh; (case inl => obtain ⟨at_, n9, hz, rfl, g⟩ := hh; exact ⟨rfl, by rw [bnd_ok HZ4.out.1, hz]; exact ⟨rfl, grown_bb G4.out g⟩⟩); obtain ⟨a7, q7, v7, hz, rfl, hv, pp, g⟩ := hh; have hv' : v7 = _ := hv; subst hv'; obtain rfl := made_ok hz; have HZ7 := hid (And.intro hz trivial); have P7 := hid pp; have G7 := hid (grown_bb G4.out g); have X7 := hid (X4.out.kept g (lt_nb hbl _ (Nat.le_refl _))); clear hz pp g hh0)
    | (refine store_nd (.tmp 2) (.tmp 43) rfl rfl w.heap.size X7.out rfl rfl ?_; intro w8 b8 g8; have Z8 := hid b8; have G8 := hid (grown_to G7.out g8 (Nat.le_refl _)); have P8 := hid (P7.out.keptG g8 (by omega) (by omega)); clear b8 g8))
  refine bodyPost_ret (results_nd rfl _ _ w.heap.size rfl Z8.out) rfl ?_
  rw [bnd_ok HZ4.out.1, HZ7.out.1]
  exact ⟨_, rfl, ⟨_, rfl, KsV.nil _ _⟩, P8.out, G8.out⟩
set_option maxRecDepth 100000 in
set_option maxHeartbeats 1000000 in
theorem literal_int {b tg cp : Nat} {all : List Tk} {p : Ps} {t : Tk} {r : List Tk} (w : World) (hP : PsA w b tg cp all p) (hw : p.ws = t :: r) (hk2 : t.kind = 2) (hok : okI t.s = true) (hx : (passP >>= fun _ => madeP (.mk (20) (0) ⟨#[]⟩ (digF 0 t.s : Nat) [])) p ≠ .error none) :
    Calls Tryz.prog 164 #[.pointer (some ⟨b, 0, none⟩)] w (PrP (nV w.heap.size) b tg cp all w ((passP >>= fun _ => madeP (.mk (20) (0) ⟨#[]⟩ (digF 0 t.s : Nat) [])) p)) := by
  have hbl := hP.lt
  have htl := hP.tgl
  have C38 : Hid (∀ W, w.grownBy W none → Calls Tryz.prog 38 #[.pointer (some ⟨b, 0, none⟩)] W fun e w' => e = .returned (.agg #[.int .i64 t.kind, .string (tkS t), .int .i64 t.pl]) ∧ W.grownBy w' none) := fun W hW => next_any W (hP.kept hW) hw
  have C195 : Hid (∀ W, Calls Tryz.prog 195 #[.string (tkS t), .int .i64 10, .int .i64 64] W fun e w' => e = .returned (.tuple #[.int .i64 (digF 0 t.s : Nat), .nilIface]) ∧ W.grownBy w' none) := fun W => by
    unfold okI at hok
    rw [Bool.and_eq_true, Bool.and_eq_true, Bool.and_eq_true, decide_eq_true_eq, decide_eq_true_eq] at hok
    obtain ⟨⟨⟨h1, h2⟩, h3⟩, h4⟩ := hok
    exact parseInt_digits t.s W (by intro e; rw [e] at h1; exact absurd h1 (by decide)) h2 h3 h4
  have hN : passP p ≠ .error none := bnd_ne hx
  have C43 : Hid (∀ W, PsA W b tg cp all p → Calls Tryz.prog 43 #[.pointer (some ⟨b, 0, none⟩)] W (PrP uV b tg cp all W (passP p))) := fun W hW => pass_any W hW hN
  have C42 : Hid (∀ q x k t s n ps l c W, PsA W b tg cp all q → madeP x q ≠ .error none → Calls Tryz.prog 42 #[.pointer (some ⟨b, 0, none⟩), .agg #[.int .i64 k, .int .i64 t, .string s, .int .i64 n, .slice ps l c]] W (PrP (fun _ _ v => v = .agg #[.int .i64 k, .int .i64 t, .string s, .int .i64 n, .slice ps l c]) b tg cp all W (madeP x q))) := fun q x k t s n ps l c W hW h => made_any x k t s n ps l c W hW h
  have X0 := hid (Blk.new w 27 #[.int .i64 0, .int .i64 0, .string ⟨#[]⟩, .int .i64 0, .slice none 0 0])
  have P0 := hid hP
  have HX := hid hx
  have HN := hid hN
  have k2 : ((t.kind : Int) == 2) = true := by rw [hk2]; rfl
  have f1 := fld1
  generalize tkS t = S at *
  generalize ((digF 0 t.s : Nat) : Int) = D at *
  clear hP hw hx hN
  generalize (t.kind : Int) = kd at *
  go_enter Tryz.func164, Tryz.ntmps164
  go_wp2_with (first
    | (go_at_call 38; refine (C38.out _ (grown_alloc (grown_refl _ _) _)).mono ?_; rintro e w1 ⟨rfl, g⟩; have P1 := hid (P0.out.kept (grown_none (grown_alloc (grown_refl _ _) _) g)); have G1 : Hid (w.grownBy w1 (some b)) := hid (grown_b (b := b) (grown_none (grown_alloc (grown_refl _ _) _) g)); have X1 := hid (X0.out.kept g (by simp)); have s1 := g.size; rw [World.size_alloc] at s1; have P3 := hid (P1.out.kept (grown_alloc (grown_alloc (grown_refl w1 none) (.cells #[.int .i64 kd, .string S, .int .i64 t.pl] 88)) (.cells #[.int .i64 20, .int .i64 0, .string ⟨#[]⟩, .int .i64 0, .slice none 0 0] 27))); have G3 := hid (Loc.grown G1.out (((Loc.refl w.heap.size w1).alloc (.cells #[.int .i64 kd, .string S, .int .i64 t.pl] 88)).alloc (.cells #[.int .i64 20, .int .i64 0, .string ⟨#[]⟩, .int .i64 0, .slice none 0 0] 27))); have X3 := hid ((X1.out.alloc (.cells #[.int .i64 kd, .string S, .int .i64 t.pl] 88)).alloc (.cells #[.int .i64 20, .int .i64 0, .string ⟨#[]⟩, .int .i64 0, .slice none 0 0] 27)); have Y3 := hid (Blk.new (w1.alloc (.cells #[.int .i64 kd, .string S, .int .i64 t.pl] 88)) 27 #[.int .i64 20, .int .i64 0, .string ⟨#[]⟩, .int .i64 0, .slice none 0 0]); rw [World.size_alloc] at Y3; clear g)
    | (go_at_call 195; refine (C195.out _).mono ?_; rintro e w5 ⟨rfl, g⟩; have P5 := hid (P3.out.kept g); have G5 := hid (grown_none G3.out g); have X5 := hid (X3.out.kept g (by simp)); have Y5 := hid (Y3.out.kept g (by simp)); have z3 := Y5.out.frozen 3; have z4 := Y5.out.cell 3; simp at z4; have P3 := hid (P5.out.keptG (grown_set (grown_refl w5 (some (w1.heap.size + 1))) 3 (.int .i64 D)) (by omega) (by omega)); have G3 := hid (grown_set_new G5.out (a := ⟨w1.heap.size + 1, 3, none⟩) (.int .i64 D) (by show _ ≤ w1.heap.size + 1; omega)); have X3 := hid (X5.out.other (a := ⟨w1.heap.size + 1, 3, none⟩) (.int .i64 D) (by show _ ≠ w1.heap.size + 1; omega)); have Y3 := hid (Y5.out.set 3 (.int .i64 D)); simp at Y3; clear g)
    | (go_at_call 43; refine (C43.out _ P3.out).mono ?_; intro e w4 hh0; rcases PrP.cases hh0 HN.out with hh | hh; (case inl => obtain ⟨at_, n9, hz, rfl, g⟩ := hh; exact ⟨rfl, by rw [bnd_err hz]; exact ⟨rfl, grown_bb G3.out g⟩⟩); obtain ⟨a4, q4, v4, hz, rfl, hv, pp, g⟩ := hh; have hv' : v4 = _ := hv; subst hv'; have HZ4 := hid (And.intro hz trivial); have P4 := hid pp; have G4 := hid (grown_bb G3.out g); have X4 := hid (X3.out.kept g (lt_nb hbl _ (Nat.le_refl _))); have Y4 := hid (Y3.out.kept g (lt_nb hbl _ (by omega))); have y0 := Y4.out.cell 0; have y1 := Y4.out.cell 1; have y2 := Y4.out.cell 2; have y3 := Y4.out.cell 3; have y4 := Y4.out.cell 4; simp at y0 y1 y2 y3 y4; clear hz pp g hh0)
    | (go_at_call 42; refine (C42.out q4 (.mk (20) (0) ⟨#[]⟩ (D) []) (20) (0) ⟨#[]⟩ (D) none 0 0 _ P4.out (by have h := HX.out; rw [bnd_ok HZ4.out.1] at h; exact h)).mono ?_; intro e w7 hh0; rcases PrP.cases hh0 (by have h := HX.out; rw [bnd_ok HZ4.out.1] at h; exact h) with hh | hh; (case inl => obtain ⟨at_, n9, hz, rfl, g⟩ := hh; exact ⟨rfl, by rw [bnd_ok HZ4.out.1, hz]; exact ⟨rfl, grown_bb G4.out g⟩⟩); obtain ⟨a7, q7, v7, hz, rfl, hv, pp, g⟩ := hh; have hv' : v7 = _ := hv; subst hv'; obtain rfl := made_ok hz; have HZ7 := hid (And.intro hz trivial); have P7 := hid pp; have G7 := hid (grown_bb G4.out g); have X7 := hid (X4.out.kept g (lt_nb hbl _ (Nat.le_refl _))); clear hz pp g hh0)
    | (refine store_nd (.tmp 2) (.tmp 43) rfl rfl w.heap.size X7.out rfl rfl ?_; intro w8 b8 g8; have Z8 := hid b8; have G8 := hid (grown_to G7.out g8 (Nat.le_refl _)); have P8 := hid (P7.out.keptG g8 (by omega) (by omega)); clear b8 g8))
  refine bodyPost_ret (results_nd rfl _ _ w.heap.size rfl Z8.out) rfl ?_
  rw [bnd_ok HZ4.out.1, HZ7.out.1]
  exact ⟨_, rfl, ⟨_, rfl, KsV.nil _ _⟩, P8.out, G8.out⟩
theorem literal_eq {p : Ps} {t : Tk} {r : List Tk} (hw : p.ws = t :: r) : literalP p = (if (t.kind == 2) = true then (if okI t.s = true then (passP >>= fun _ => madeP (.mk 20 0 ⟨#[]⟩ (digF 0 t.s : Nat) [])) p else .error none) else if (t.kind == 3) = true then (if okFl t.s = true then (passP >>= fun _ => madeP (flN t.s)) p else .error none) else if (t.s == wTrue) = true then (passP >>= fun _ => madeP (.mk 22 0 ⟨#[]⟩ 1 [])) p else if (t.s == wFalse) = true then (passP >>= fun _ => madeP (.mk 22 0 ⟨#[]⟩ 0 [])) p else .error (some (t.pl, 110))) := by
  unfold literalP
  rw [bnd_ok (nxt_eq hw)]
  by_cases h1 : (t.kind == 2) = true
  · rw [if_pos h1, if_pos h1]
    by_cases h2 : okI t.s = true
    · rw [if_pos h2, if_pos h2]
    · rw [if_neg h2, if_neg h2]
  · rw [if_neg h1, if_neg h1]
    by_cases h2 : (t.kind == 3) = true
    · rw [if_pos h2, if_pos h2]
      by_cases h3 : okFl t.s = true
      · rw [if_pos h3, if_pos h3]
      · rw [if_neg h3, if_neg h3]
    · rw [if_neg h2, if_neg h2]
      by_cases h3 : (t.s == wTrue) = true
      · rw [if_pos h3, if_pos h3]
      · rw [if_neg h3, if_neg h3]
        by_cases h4 : (t.s == wFalse) = true
        · rw [if_pos h4, if_pos h4]
        · rw [if_neg h4, if_neg h4, fail_eq 110 hw]
set_option maxRecDepth 100000 in
set_option maxHeartbeats 1000000 in
theorem literal_none {b tg cp : Nat} {all : List Tk} {p : Ps} {t : Tk} {r : List Tk} (w : World) (hP : PsA w b tg cp all p) (hw : p.ws = t :: r) (h2 : ¬ (t.kind == 2) = true) (h3 : ¬ (t.kind == 3) = true) (h4 : ¬ (t.s == wTrue) = true) (h5 : ¬ (t.s == wFalse) = true) :
    Calls Tryz.prog 164 #[.pointer (some ⟨b, 0, none⟩)] w (PrP (nV w.heap.size) b tg cp all w (.error (some (t.pl, 110)))) := by
  have C38 : Hid (∀ W, w.grownBy W none → Calls Tryz.prog 38 #[.pointer (some ⟨b, 0, none⟩)] W fun e w' => e = .returned (.agg #[.int .i64 t.kind, .string (tkS t), .int .i64 t.pl]) ∧ W.grownBy w' none) := fun W hW => next_any W (hP.kept hW) hw
  have C82 : Hid (∀ W, w.grownBy W none → _) := fun W hW => fail_any 110 W (hP.kept hW) hw
  have k2 : ((t.kind : Int) == 2) = false := by rw [beq_eq_false_iff_ne]; intro e; exact h2 (by rw [beq_iff_eq]; omega)
  have k3 : ((t.kind : Int) == 3) = false := by rw [beq_eq_false_iff_ne]; intro e; exact h3 (by rw [beq_iff_eq]; omega)
  have k4 : (t.s == [116, 114, 117, 101]) = false := by rw [Bool.not_eq_true] at h4; exact h4
  have k5 : (t.s == [102, 97, 108, 115, 101]) = false := by rw [Bool.not_eq_true] at h5; exact h5
  have f1 := fld1
  unfold tkS at C38
  clear hP hw h2 h3 h4 h5
  generalize (t.kind : Int) = kd at *
  generalize t.s = ts at *
  go_enter Tryz.func164, Tryz.ntmps164
  go_wp2_with (first
    | (go_at_call 38; refine (C38.out _ (grown_alloc (grown_refl _ _) _)).mono ?_; rintro e w1 ⟨rfl, g⟩; have G1 := hid (grown_none (grown_alloc (grown_refl w none) _) g); clear g)
    | (go_at_call 82; refine (C82.out _ (grown_alloc (grown_alloc G1.out _) _)).mono ?_; rintro e w2 ⟨rfl, g⟩; have G2 := hid (grown_none (grown_alloc (grown_alloc G1.out _) _) g); clear g))
  exact ⟨rfl, rfl, grown_b G2.out⟩
theorem literal_any {b tg cp : Nat} {all : List Tk} {p : Ps} (w : World) (hP : PsA w b tg cp all p) (hx : literalP p ≠ .error none) :
    Calls Tryz.prog 164 #[.pointer (some ⟨b, 0, none⟩)] w (PrP (nV w.heap.size) b tg cp all w (literalP p)) := by
  match hw : p.ws with
  | [] => exact absurd (by unfold literalP; rw [bnd_err (nxt_nil hw)]) hx
  | t :: r =>
    rw [literal_eq hw] at hx ⊢
    by_cases h1 : (t.kind == 2) = true
    · rw [if_pos h1] at hx ⊢
      by_cases h2 : okI t.s = true
      · rw [if_pos h2] at hx ⊢
        exact literal_int w hP hw (by rw [beq_iff_eq] at h1; exact h1) h2 hx
      · rw [if_neg h2] at hx
        exact absurd rfl hx
    · rw [if_neg h1] at hx ⊢
      by_cases h2 : (t.kind == 3) = true
      · rw [if_pos h2] at hx ⊢
        by_cases h3 : okFl t.s = true
        · exact (Bool.false_ne_true h3).elim
        · rw [if_neg h3] at hx
          exact absurd rfl hx
      · rw [if_neg h2] at hx ⊢
        have n2 : t.kind ≠ 2 := fun e => h1 (by rw [e]; rfl)
        have n3 : t.kind ≠ 3 := fun e => h2 (by rw [e]; rfl)
        by_cases h3 : (t.s == wTrue) = true
        · rw [if_pos h3] at hx ⊢
          exact literal_true w hP hw n2 n3 (by rw [beq_iff_eq] at h3; exact h3) hx
        · rw [if_neg h3] at hx ⊢
          by_cases h4 : (t.s == wFalse) = true
          · rw [if_pos h4] at hx ⊢
            exact literal_false w hP hw n2 n3 (by rw [beq_iff_eq] at h4; exact h4) hx
          · rw [if_neg h4] at hx ⊢
            exact literal_none w hP hw h1 h2 h3 h4
end Pm
end Go.Proofs.YtajoncmmdeahnaaGreatDoor
namespace Go.Proofs.YtajoncmmdeahnaaGreatDoor
open Go.RowKit
namespace Ck
theorem natLe6 (l : Nat) : decide ((l : Int) ≤ 6) = decide (l ≤ 6) := natLe l 6
theorem natLe7 (l : Nat) : decide ((l : Int) ≤ 7) = decide (l ≤ 7) := natLe l 7
theorem natLe32 (l : Nat) : decide ((l : Int) ≤ 32) = decide (l ≤ 32) := natLe l 32
theorem natGe1 (l : Nat) : decide (1 ≤ (l : Int)) = decide (1 ≤ l) := natLe 1 l
set_option maxRecDepth 100000 in
set_option maxHeartbeats 1000000 in
theorem fexp20 (t : Int) (s : ByteArray) (n : Int) (p : Option Addr) (l c : Nat) (w : World) : Calls Tryz.prog 52 #[.agg #[.int .i64 20, .int .i64 t, .string s, .int .i64 n, .slice p l c]] w (BP (eB s && decide (0 ≤ n) && l == 0) w) := by
  have e1 := eB_iff s
  cases h2 : eB s <;> cases h3 : decide (0 ≤ n) <;> cases h4 : (l == 0)
  all_goals
    have e5 : s.toList.isEmpty = eB s := by unfold eB; rw [ByteArray.toList_eq]
    rw [h2] at e1 e5
    simp only [Bool.false_eq_true, iff_false, iff_true] at e1
    clear h2
    have i0 := natI0 l
    rw [h4] at i0
    clear h4
    go_enter Tryz.func52, Tryz.ntmps52
    go_wp2_with fail
    go_ret
    first
      | exact ⟨rfl, G1.out⟩
      | exact ⟨rfl, grown_alloc (grown_refl w none) _⟩
set_option maxRecDepth 100000 in
set_option maxHeartbeats 1000000 in
theorem fexp22 (t : Int) (s : ByteArray) (n : Int) (p : Option Addr) (l c : Nat) (w : World) : Calls Tryz.prog 52 #[.agg #[.int .i64 22, .int .i64 t, .string s, .int .i64 n, .slice p l c]] w (BP (eB s && (n == 0 || n == 1) && l == 0) w) := by
  have e1 := eB_iff s
  cases h2 : eB s <;> cases h3 : (n == 0) <;> cases h5 : (n == 1) <;> cases h4 : (l == 0)
  all_goals first | (exfalso; rw [beq_iff_eq] at h3 h5; omega) | skip
  all_goals
    have e5 : s.toList.isEmpty = eB s := by unfold eB; rw [ByteArray.toList_eq]
    rw [h2] at e1 e5
    simp only [Bool.false_eq_true, iff_false, iff_true] at e1
    clear h2
    have i0 := natI0 l
    rw [h4] at i0
    clear h4
    go_enter Tryz.func52, Tryz.ntmps52
    go_wp2_with fail
    go_ret
    first
      | exact ⟨rfl, G1.out⟩
      | exact ⟨rfl, grown_alloc (grown_refl w none) _⟩
set_option maxRecDepth 100000 in
set_option maxHeartbeats 1000000 in
theorem fexp23 (t : Int) (s : ByteArray) (n : Int) (p : Option Addr) (l c : Nat) (w : World) (hs : (s.size : Int) ≤ 9223372036854775807) : Calls Tryz.prog 52 #[.agg #[.int .i64 23, .int .i64 t, .string s, .int .i64 n, .slice p l c]] w (BP (n == 0 && nmB s.data.toList && l == 0) w) := by
  have CN : Hid (∀ W, Calls Tryz.prog 51 #[.string s] W fun e w' => e = .returned (.bool (nmB s.data.toList)) ∧ w' = W) := fun W => isName_data s W hs
  generalize nmB s.data.toList = nb at *
  clear hs
  cases h3 : (n == 0) <;> cases nb <;> cases h4 : (l == 0)
  all_goals
    have i0 := natI0 l
    rw [h4] at i0
    clear h4
    go_enter Tryz.func52, Tryz.ntmps52
    go_wp2_with (first
      | (go_at_call 51; refine (CN.out _).mono ?_; rintro e w1 ⟨rfl, hw⟩; replace hw := hw.symm; subst hw; clear CN))
    go_ret
    first
      | exact ⟨rfl, G1.out⟩
      | exact ⟨rfl, grown_alloc (grown_refl w none) _⟩
set_option maxRecDepth 100000 in
set_option maxHeartbeats 1000000 in
theorem fexp24 (t : Int) (s : ByteArray) (n : Int) (p : Option Addr) (l c : Nat) (w : World) (hs : (s.size : Int) ≤ 9223372036854775807) : Calls Tryz.prog 52 #[.agg #[.int .i64 24, .int .i64 t, .string s, .int .i64 n, .slice p l c]] w (BP (n == 0 && nmB s.data.toList && decide (l ≤ 6)) w) := by
  have CN : Hid (∀ W, Calls Tryz.prog 51 #[.string s] W fun e w' => e = .returned (.bool (nmB s.data.toList)) ∧ w' = W) := fun W => isName_data s W hs
  generalize nmB s.data.toList = nb at *
  clear hs
  cases h3 : (n == 0) <;> cases nb <;> cases h4 : decide (l ≤ 6)
  all_goals
    have i0 := natLe6 l
    rw [h4] at i0
    clear h4
    go_enter Tryz.func52, Tryz.ntmps52
    go_wp2_with (first
      | (go_at_call 51; refine (CN.out _).mono ?_; rintro e w1 ⟨rfl, hw⟩; replace hw := hw.symm; subst hw; clear CN))
    go_ret
    first
      | exact ⟨rfl, G1.out⟩
      | exact ⟨rfl, grown_alloc (grown_refl w none) _⟩
set_option maxRecDepth 100000 in
set_option maxHeartbeats 1000000 in
theorem fexp25 (t : Int) (s : ByteArray) (n : Int) (p : Option Addr) (l c : Nat) (w : World) : Calls Tryz.prog 52 #[.agg #[.int .i64 25, .int .i64 t, .string s, .int .i64 n, .slice p l c]] w (BP (n == 0) w) := by
  cases h3 : (n == 0)
  all_goals
    go_enter Tryz.func52, Tryz.ntmps52
    go_wp2_with fail
    go_ret
    first
      | exact ⟨rfl, G1.out⟩
      | exact ⟨rfl, grown_alloc (grown_refl w none) _⟩
set_option maxRecDepth 100000 in
set_option maxHeartbeats 1000000 in
theorem fexp26 (t : Int) (s : ByteArray) (n : Int) (p : Option Addr) (l c : Nat) (w : World) : Calls Tryz.prog 52 #[.agg #[.int .i64 26, .int .i64 t, .string s, .int .i64 n, .slice p l c]] w (BP (n == 0) w) := by
  cases h3 : (n == 0)
  all_goals
    go_enter Tryz.func52, Tryz.ntmps52
    go_wp2_with fail
    go_ret
    first
      | exact ⟨rfl, G1.out⟩
      | exact ⟨rfl, grown_alloc (grown_refl w none) _⟩
set_option maxRecDepth 100000 in
set_option maxHeartbeats 1000000 in
theorem fexpO (k t : Int) (n20 : k ≠ 20) (n21 : k ≠ 21) (n22 : k ≠ 22) (n23 : k ≠ 23) (n24 : k ≠ 24) (n25 : k ≠ 25) (n26 : k ≠ 26) (s : ByteArray) (n : Int) (p : Option Addr) (l c : Nat) (w : World) : Calls Tryz.prog 52 #[.agg #[.int .i64 k, .int .i64 t, .string s, .int .i64 n, .slice p l c]] w (BP (n == 0 && eB s) w) := by
  have k20 : (k == 20) = false := by rw [beq_eq_false_iff_ne]; exact n20
  have k21 : (k == 21) = false := by rw [beq_eq_false_iff_ne]; exact n21
  have k22 : (k == 22) = false := by rw [beq_eq_false_iff_ne]; exact n22
  have k23 : (k == 23) = false := by rw [beq_eq_false_iff_ne]; exact n23
  have k24 : (k == 24) = false := by rw [beq_eq_false_iff_ne]; exact n24
  have k25 : (k == 25) = false := by rw [beq_eq_false_iff_ne]; exact n25
  have k26 : (k == 26) = false := by rw [beq_eq_false_iff_ne]; exact n26
  clear n20 n21 n22 n23 n24 n25 n26
  have e1 := eB_iff s
  cases h3 : (n == 0) <;> cases h2 : eB s
  all_goals
    have e5 : s.toList.isEmpty = eB s := by unfold eB; rw [ByteArray.toList_eq]
    rw [h2] at e1 e5
    simp only [Bool.false_eq_true, iff_false, iff_true] at e1
    clear h2
    go_enter Tryz.func52, Tryz.ntmps52
    go_wp2_with fail
    go_ret
    first
      | exact ⟨rfl, G1.out⟩
      | exact ⟨rfl, grown_alloc (grown_refl w none) _⟩
set_option maxRecDepth 100000 in
set_option maxHeartbeats 4000000 in
theorem fexp21 (t : Int) (s : ByteArray) (n : Int) (p : Option Addr) (l c : Nat) (w : World) (hG : Pm.GlB w w.heap.size) (b : Bool) (hb : fexpB 21 s n l = some b) : Calls Tryz.prog 52 #[.agg #[.int .i64 21, .int .i64 t, .string s, .int .i64 n, .slice p l c]] w (BP b w) := by
  unfold fexpB at hb
  rw [if_neg (by decide), if_pos rfl] at hb
  by_cases hd : dgB s.data.toList = some true ∧ btN s.data.toList = some n
  · rw [if_pos hd] at hb
    injection hb with hb
    subst hb
    obtain ⟨hd, hB⟩ := hd
    have C95 : Hid (∀ W, Calls Tryz.prog 95 #[.string s] W (BP true W)) := fun W => isDigits_any s true W hd
    have _ := hG
    have C96 : Hid (∀ W, w.grownBy W none → Calls Tryz.prog 96 #[.string s] W fun e w' => e = .returned (.int .i64 n) ∧ W.grownBy w' none) := fun W _ => by
      unfold btN at hB
      by_cases ho : Pm.okFl s.data.toList = true
      · exact (Bool.false_ne_true ho).elim
      · rw [if_neg ho] at hB
        cases hB
    have i0 := natI0 l
    clear hd hB hG
    generalize (l == 0) = lb at *
    go_enter Tryz.func52, Tryz.ntmps52
    go_wp2_with fail
    have GD := hid (grown_drew (grown_alloc (grown_refl w none) (.cells #[.int .i64 21, .int .i64 t, .string s, .int .i64 n, .slice p l c] 27)))
    have YD := hid (Blk.new w 27 #[.int .i64 21, .int .i64 t, .string s, .int .i64 n, .slice p l c]).drew
    go_region_law (first
      | (go_simp; go_at_call 95; refine (C95.out _).mono ?_; rintro e w1 ⟨rfl, g⟩; have G1 := hid (grown_none GD.out g); have Y1 := YD.out.kept g (by simp); have y2 := Y1.cell 2; have y3 := Y1.cell 3; simp at y2 y3; have YH := hid Y1; clear g Y1)
      | (go_simp; go_at_call 96; refine (C96.out _ G1.out).mono ?_; rintro e w2 ⟨rfl, g⟩; have G2 := hid (grown_none G1.out g); have Y2 := YH.out.kept g (by simp); have z2 := Y2.cell 2; have z3 := Y2.cell 3; simp at z2 z3; clear g Y2))
    all_goals
      go_wp2
      go_simp
      refine bodyPost_ret (v := .bool lb) ?_ ?_ ⟨rfl, G2.out⟩
      · simp [results, Tryz.results52, go_sem]
      · simp [go_sem]
  · rw [if_neg hd] at hb
    cases hb
theorem fexp_any (k t : Int) (s : ByteArray) (n : Int) (p : Option Addr) (l c : Nat) (w : World) (hs : (s.size : Int) ≤ 9223372036854775807) (hG : Pm.GlB w w.heap.size) (b : Bool) (hb : fexpB k s n l = some b) : Calls Tryz.prog 52 #[.agg #[.int .i64 k, .int .i64 t, .string s, .int .i64 n, .slice p l c]] w (BP b w) := by
  by_cases k1 : k = 21
  · subst k1; exact fexp21 t s n p l c w hG b hb
  unfold fexpB at hb
  by_cases k0 : k = 20
  · subst k0; rw [if_pos rfl] at hb; injection hb with hb; subst hb; exact fexp20 t s n p l c w
  rw [if_neg k0, if_neg k1] at hb
  by_cases k2 : k = 22
  · subst k2; rw [if_pos rfl] at hb; injection hb with hb; subst hb; exact fexp22 t s n p l c w
  rw [if_neg k2] at hb
  by_cases k3 : k = 23
  · subst k3; rw [if_pos rfl] at hb; injection hb with hb; subst hb; exact fexp23 t s n p l c w hs
  rw [if_neg k3] at hb
  by_cases k4 : k = 24
  · subst k4; rw [if_pos rfl] at hb; injection hb with hb; subst hb; exact fexp24 t s n p l c w hs
  rw [if_neg k4] at hb
  by_cases k5 : k = 25
  · subst k5; rw [if_pos (Or.inl rfl)] at hb; injection hb with hb; subst hb; exact fexp25 t s n p l c w
  by_cases k6 : k = 26
  · subst k6; rw [if_pos (Or.inr rfl)] at hb; injection hb with hb; subst hb; exact fexp26 t s n p l c w
  rw [if_neg (fun h => h.elim k5 k6)] at hb
  injection hb with hb
  subst hb
  exact fexpO k t k0 k1 k2 k3 k4 k5 k6 s n p l c w
end Ck
end Go.Proofs.YtajoncmmdeahnaaGreatDoor
namespace Go.Proofs.YtajoncmmdeahnaaGreatDoor
open Go.RowKit
namespace Pm
set_option maxRecDepth 100000 in
set_option maxHeartbeats 4000000 in
theorem constant_plain {b tg cp : Nat} {all : List Tk} {p : Ps} {t : Tk} {r : List Tk} (w : World) (hP : PsA w b tg cp all p) (hw : p.ws = t :: r) (ht : (t.s == [45]) = false) (hx : literalP p ≠ .error none) :
    Calls Tryz.prog 123 #[.pointer (some ⟨b, 0, none⟩)] w (PrP (nV w.heap.size) b tg cp all w (literalP p)) := by
  have hbl := hP.lt
  have htl := hP.tgl
  have X0 := hid (Blk.new w 27 #[.int .i64 0, .int .i64 0, .string ⟨#[]⟩, .int .i64 0, .slice none 0 0])
  have G0 := hid (grown_refl w (some b))
  have P0 := hid hP
  have C39 : Hid (∀ W, w.grownBy W none → Calls Tryz.prog 39 #[.pointer (some ⟨b, 0, none⟩), .string ⟨#[45]⟩] W fun e w' => e = .returned (.bool (t.s == [45])) ∧ W.grownBy w' none) := fun W hW => sees_any [45] W (hP.kept hW) hw
  rw [ht] at C39
  have HX := hid hx
  have CX : Hid (∀ q W, PsA W b tg cp all q → literalP q ≠ .error none → Calls Tryz.prog 164 #[.pointer (some ⟨b, 0, none⟩)] W (PrP (nV W.heap.size) b tg cp all W (literalP q))) := fun q W hW h => literal_any W hW h
  clear hx hw hP ht
  go_enter Tryz.func123, Tryz.ntmps123
  go_wp2_with (first
    | (go_at_call 39; refine (C39.out _ (by repeat (first | exact grown_refl _ _ | refine grown_alloc ?_ _))).mono ?_; rintro e w1 ⟨rfl, g⟩; have P1 := hid (P0.out.kept (grown_none (by repeat (first | exact grown_refl _ _ | refine grown_alloc ?_ _)) g)); have G1 : Hid (w.grownBy w1 (some b)) := hid (grown_b (b := b) (grown_none (by repeat (first | exact grown_refl _ _ | refine grown_alloc ?_ _)) g)); have X1 := hid (X0.out.kept g (by simp)); have s1 := g.size; rw [World.size_alloc] at s1; clear g)
    | (go_at_call 164; refine (CX.out p _ P1.out HX.out).mono ?_; intro e w2 hh0; rcases PrP.cases hh0 HX.out with hh | hh; (case inl => obtain ⟨at_, n, hz, rfl, g⟩ := hh; exact ⟨rfl, by rw [hz]; exact ⟨rfl, grown_bb G1.out g⟩⟩); obtain ⟨a2, q2, v2, hz, rfl, hv, pp, g⟩ := hh; obtain ⟨qs2, rfl, hk⟩ := hv; obtain ⟨ps2, cs2, rfl, _, _, _⟩ := hk.form; have HZ2 := hid (And.intro hz trivial); have P2 := hid pp; have G2 := hid (grown_bb G1.out g); have K2 := hid hk; have X2 := hid (X1.out.kept g (lt_nb hbl _ (by omega))); have s12 := g.size; clear hz pp g hh0)
    | (refine store_nd (.tmp 2) (.tmp 9) rfl rfl w.heap.size X2.out rfl rfl ?_; intro w9 b9 g9; have Z9 := hid b9; have G9 := hid (grown_to G2.out g9 (Nat.le_refl _)); have P9 := hid (P2.out.keptG g9 (by omega) (by omega)); have K9 := hid (K2.out.keptB g9 (by omega)); clear b9 g9))
  refine bodyPost_ret (results_nd rfl _ _ w.heap.size rfl Z9.out) rfl ?_
  rw [HZ2.out.1]
  exact ⟨_, rfl, ⟨_, rfl, K9.out.mono (fun g hg _ => by have h5 : w1.heap.size ≤ g := hg; omega)⟩, P9.out, G9.out⟩
theorem constant_any {b tg cp : Nat} {all : List Tk} {p : Ps} (w : World) (hP : PsA w b tg cp all p) (hx : constantP p ≠ .error none) :
    Calls Tryz.prog 123 #[.pointer (some ⟨b, 0, none⟩)] w (PrP (nV w.heap.size) b tg cp all w (constantP p)) := by
  match hw : p.ws with
  | [] => exact absurd (by unfold constantP; rw [bnd_err (sees_nil [45] hw)]) hx
  | t :: r =>
    cases ht : (t.s == [45]) with
    | false =>
      have e : constantP p = literalP p := by
        unfold constantP
        rw [bnd_ok (sees_eq [45] hw), ht]
        rfl
      rw [e] at hx ⊢
      exact constant_plain w hP hw ht hx
    | true =>
      have e : constantP p = .error none := by
        unfold constantP
        rw [bnd_ok (sees_eq [45] hw), ht]
        rfl
      exact absurd e hx
end Pm
end Go.Proofs.YtajoncmmdeahnaaGreatDoor
