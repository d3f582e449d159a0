/-
  shape: a page, and all below, is as it must be.
-/
import Derived.Test.YtbhmmcelndmijaaGreatGt
import Derived.Test.YtbhmmcelndmijaaGreatJf
namespace Go.Proofs.YtbhmmcelndmijaaGreat
open Go.RowKit Go.Maps
/-- What the rows of a page hold. -/
theorem key_cells {w : World} {bp k1 : Nat} {b c : Value} {p1 : Option Addr} {p : Pa.Pg} (h : Pa.PgO w bp (.agg #[.bool p.leaf, .slice p1 p.keys.length k1, b, c]) p) (h0 : 0 < p.keys.length) : ∃ g3, p1 = some ⟨g3, 0, none⟩ ∧ ∀ i x, p.keys[i]? = some x → ∀ W, w.grownBy W none → W.cell? ⟨g3, i, none⟩ = some (.string x) := by
  obtain ⟨g3, rfl, _, _⟩ := PgO.key h (List.getElem?_eq_getElem h0)
  refine ⟨g3, rfl, fun i x hi W hW => ?_⟩
  obtain ⟨g4, e, _, hc⟩ := PgO.key h hi
  injection e with e
  injection e with e
  subst e
  exact hc W hW
theorem kid_cells {w : World} {bp k3 : Nat} {a b : Value} {p3 : Option Addr} {p : Pa.Pg} (h : Pa.PgO w bp (.agg #[.bool p.leaf, a, b, .slice p3 p.kids.length k3]) p) (h0 : 0 < p.kids.length) : ∃ g3, p3 = some ⟨g3, 0, none⟩ ∧ ∀ i x, p.kids[i]? = some x → ∀ W, w.grownBy W none → W.cell? ⟨g3, i, none⟩ = some (.int .i64 x) := by
  obtain ⟨g3, rfl, _, _⟩ := PgO.kid h (List.getElem?_eq_getElem h0)
  refine ⟨g3, rfl, fun i x hi W hW => ?_⟩
  obtain ⟨g4, e, _, hc⟩ := PgO.kid h hi
  injection e with e
  injection e with e
  subst e
  exact hc W hW
/-- Its keys may stand between these. -/
def Btw (lo hi : ByteArray) (ks : List ByteArray) : Prop := ∀ (i : Nat) (x : ByteArray), ks[i]? = some x → Op.bytesLess x.toList lo.toList = false ∧ (hi.toList = [] ∨ Op.bytesLess x.toList hi.toList = true)
set_option maxRecDepth 100000 in
set_option maxHeartbeats 4000000 in
theorem shape_leaf_re (base lb : Nat) (g : Lg) (a : Int) (s lo hi : ByteArray) (p : Pa.Pg) (w : World) (hL : IsLog w base lb g)
    (h32 : ∀ W, w.grownBy W none → Calls Tryz.prog 32 #[.pointer (some ⟨lb, 0, none⟩), .int .i64 a] W fun e w' => e = .returned (.tuple #[.string s, .int .i64 0]) ∧ W.grownBy w' none)
    (h33 : ∀ W, Calls Tryz.prog 33 #[.string s] W (Pa.DecPost W p 0)) (hlf : p.leaf = true) (h0 : 0 < p.keys.length) (hn : p.keys.length ≤ 1000000) (hb : Btw lo hi p.keys) (he : hi.toList = []) :
    Calls Tryz.prog 14 #[.pointer (some ⟨lb, 0, none⟩), .int .i64 a, .bool true, .string lo, .string hi] w fun e w' => e = .returned (.int .i64 1) ∧ w.grownBy w' none := by
  have C32 := hid (h32 w (grown_refl _ _))
  have C33 := hid h33
  have HB := hid hb
  have HL := hid hL
  clear h32 h33 hb hL
  have q1 : ¬ ((p.keys.length : Int) = 0) := by omega

  go_enter Tryz.func14, Tryz.ntmps14
  go_upto_region 3 with (first
    | (go_at_call 32; refine C32.out.mono ?_; rintro e w1 ⟨rfl, g1⟩; have G1 := hid g1; clear g1 C32)
    | (go_at_call 33; refine (C33.out _).mono ?_; rintro e w2 ⟨u, rfl, o2, g2⟩; have O2 := hid o2; have G2 := hid (grown_none G1.out g2); obtain ⟨p1, k1, p2, k2, p3, k3, rfl⟩ := PgO.form o2; clear o2 g2 C33))
  obtain ⟨g1, rfl, hk⟩ := key_cells O2.out h0
  have HK := hid hk
  rw [hlf] at *
  have B3 := hid (Blk.new w2 70 #[.bool true, .slice (some ⟨g1, 0, none⟩) p.keys.length k1, .slice p2 p.vals.length k2, .slice p3 p.kids.length k3])
  have G23 := hid (grown_alloc (grown_refl w2 none) (Obj.cells #[.bool true, .slice (some ⟨g1, 0, none⟩) p.keys.length k1, .slice p2 p.vals.length k2, .slice p3 p.kids.length k3] 70))
  generalize w2.alloc (Obj.cells #[.bool true, .slice (some ⟨g1, 0, none⟩) p.keys.length k1, .slice p2 p.vals.length k2, .slice p3 p.kids.length k3] 70) = w3 at *
  generalize w2.heap.size = b at *
  clear hk O2
  have c0 := B3.out.cell 0
  have c1 := B3.out.cell 1
  have c3 := B3.out.cell 3
  simp at c0 c1 c3
  generalize hN : p.keys.length = N at *
  have HN := hid (And.intro hN trivial)
  clear hN
  go_wp2_with fail
  go_loopg [15] N (fun gk s15 wr => wr = w3 ∧ ∃ n : Nat, s15 = .int .i64 n ∧ n + gk = N)
  case atStart => exact ⟨rfl, 0, rfl, by omega⟩
  case round =>
    obtain ⟨hw, n, rfl, hn2⟩ := hrel
    replace hw := hw.symm
    subst hw
    cases gk with
    | zero =>
      obtain rfl : n = N := by omega
      clear hn2
      go_wp2_with fail
      go_ret
      exact ⟨rfl, grown_none (grown_none G2.out G23.out) (grown_refl _ _)⟩
    | succ gk =>
      have i0 : n < p.keys.length := by have := HN.out.1; omega
      have i1 : (n : Int) < N := by omega
      obtain ⟨key, hkey⟩ : ∃ x, p.keys[n]? = some x := ⟨_, List.getElem?_eq_getElem i0⟩
      have x1 := HK.out n key hkey w3 G23.out
      obtain ⟨x2, x3⟩ := HB.out n key hkey
      clear i0 hkey
      have wi : IntKind.i64.wrap ((n : Int) + 1) = (n : Int) + 1 := by rw [IntKind.wrap_i64]; omega
      
      clear HK HB HL HN c0 c3 B3 G23 
      clear x3
      go_wp2_with fail
      go_roundg gk
      case measure => omega
      case rel => exact ⟨rfl, n + 1, by simp, by omega⟩
set_option maxRecDepth 100000 in
set_option maxHeartbeats 4000000 in
theorem shape_node_re (base lb : Nat) (g : Lg) (a : Int) (s lo hi : ByteArray) (p : Pa.Pg) (w : World) (hL : IsLog w base lb g)
    (h32 : ∀ W, w.grownBy W none → Calls Tryz.prog 32 #[.pointer (some ⟨lb, 0, none⟩), .int .i64 a] W fun e w' => e = .returned (.tuple #[.string s, .int .i64 0]) ∧ W.grownBy w' none)
    (h33 : ∀ W, Calls Tryz.prog 33 #[.string s] W (Pa.DecPost W p 0)) (hlf : p.leaf = false) (h0 : 0 < p.keys.length) (hn : p.keys.length ≤ 1000000) (hb : Btw lo hi p.keys) (he : hi.toList = []) (D : Nat) (hD0 : 1 ≤ D) (hD1 : D ≤ 1000) (hk0 : 0 < p.kids.length) (hkl : p.kids.length = p.keys.length + 1)
    (h14 : ∀ (i : Nat) (x : Int), p.kids[i]? = some x → ∀ W, w.grownBy W none → Calls Tryz.prog 14 #[.pointer (some ⟨lb, 0, none⟩), .int .i64 x, .bool false, .string (loK lo p.keys i), .string (hiK hi p.keys i)] W fun e w' => e = .returned (.int .i64 D) ∧ W.grownBy w' none) :
    Calls Tryz.prog 14 #[.pointer (some ⟨lb, 0, none⟩), .int .i64 a, .bool true, .string lo, .string hi] w fun e w' => e = .returned (.int .i64 (D + 1)) ∧ w.grownBy w' none := by
  have C32 := hid (h32 w (grown_refl _ _))
  have C33 := hid h33
  have HB := hid hb
  have HL := hid hL
  have C14 := hid h14
  have KC := hid (And.intro hkl trivial)
  clear h14 hkl
  clear h32 h33 hb hL
  have q1 : ¬ ((p.keys.length : Int) = 0) := by omega

  go_enter Tryz.func14, Tryz.ntmps14
  go_upto_region 3 with (first
    | (go_at_call 32; refine C32.out.mono ?_; rintro e w1 ⟨rfl, g1⟩; have G1 := hid g1; clear g1 C32)
    | (go_at_call 33; refine (C33.out _).mono ?_; rintro e w2 ⟨u, rfl, o2, g2⟩; have O2 := hid o2; have G2 := hid (grown_none G1.out g2); obtain ⟨p1, k1, p2, k2, p3, k3, rfl⟩ := PgO.form o2; clear o2 g2 C33))
  obtain ⟨g1, rfl, hk⟩ := key_cells O2.out h0
  have HK := hid hk
  obtain ⟨g3, rfl, hkk⟩ := kid_cells O2.out hk0
  have HKK := hid hkk
  clear hkk
  rw [hlf] at *
  have B3 := hid (Blk.new w2 70 #[.bool false, .slice (some ⟨g1, 0, none⟩) p.keys.length k1, .slice p2 p.vals.length k2, .slice (some ⟨g3, 0, none⟩) p.kids.length k3])
  have G23 := hid (grown_alloc (grown_refl w2 none) (Obj.cells #[.bool false, .slice (some ⟨g1, 0, none⟩) p.keys.length k1, .slice p2 p.vals.length k2, .slice (some ⟨g3, 0, none⟩) p.kids.length k3] 70))
  generalize w2.alloc (Obj.cells #[.bool false, .slice (some ⟨g1, 0, none⟩) p.keys.length k1, .slice p2 p.vals.length k2, .slice (some ⟨g3, 0, none⟩) p.kids.length k3] 70) = w3 at *
  generalize w2.heap.size = b at *
  clear hk O2
  have c0 := B3.out.cell 0
  have c1 := B3.out.cell 1
  have c3 := B3.out.cell 3
  simp at c0 c1 c3
  generalize hN : p.keys.length = N at *
  have HN := hid (And.intro hN trivial)
  clear hN
  go_wp2_with fail
  go_loopg [15] N (fun gk s15 wr => wr = w3 ∧ ∃ n : Nat, s15 = .int .i64 n ∧ n + gk = N)
  case atStart => exact ⟨rfl, 0, rfl, by omega⟩
  case round =>
    obtain ⟨hw, n, rfl, hn2⟩ := hrel
    replace hw := hw.symm
    subst hw
    cases gk with
    | zero =>
      obtain rfl : n = N := by omega
      clear hn2
      have HKN := hid KC.out.1
      generalize hM : p.kids.length = M at *
      have HM := hid (And.intro hM trivial)
      clear hM
      go_wp2_with fail
      go_loopg [16, 17] M (fun gk s16 s17 wr => w3.grownBy wr none ∧ ∃ i : Nat, s17 = .int .i64 i ∧ i + gk = M ∧ s16 = .int .i64 (if i = 0 then 0 else D))
      case atStart => exact ⟨grown_refl _ _, 0, rfl, by omega, rfl⟩
      case round =>
        obtain ⟨hg, i, rfl, hi2, rfl⟩ := hrel
        have GR := hid hg
        clear hg
        have b3 := B3.out.kept GR.out (by simp)
        have d1 := b3.cell 1
        have d3 := b3.cell 3
        simp at d1 d3
        clear b3
        have wd : IntKind.i64.wrap ((D : Int) + 1) = (D : Int) + 1 := by rw [IntKind.wrap_i64]; omega
        cases gk with
        | zero =>
          obtain rfl : i = M := by omega
          rw [if_neg (by omega)]
          go_wp2_with fail
          go_ret
          exact ⟨rfl, grown_none (grown_none G2.out G23.out) GR.out⟩
        | succ gk =>
          obtain ⟨kd, hkd⟩ : ∃ x, p.kids[i]? = some x := ⟨_, List.getElem?_eq_getElem (by have := HM.out.1; omega)⟩
          have x0 := HKK.out i kd hkd wr (grown_none G23.out GR.out)
          have CI := hid (C14.out i kd hkd wr (grown_none (grown_none G2.out G23.out) GR.out))
          have j0 : (0 : Int) ≤ (i : Int) := by omega
          have j1 : (i : Int) < M := by omega
          have wi : IntKind.i64.wrap ((i : Int) + 1) = (i : Int) + 1 := by have := HKN.out; rw [IntKind.wrap_i64]; omega
          by_cases hz : i = 0
          · subst hz
            obtain ⟨key, hkey⟩ : ∃ x, p.keys[0]? = some x := ⟨_, List.getElem?_eq_getElem (by have := HN.out.1; omega)⟩
            have x1 := HK.out 0 key hkey wr (grown_none G23.out GR.out)
            have e1 : loK lo p.keys 0 = lo := rfl
            have e2 : hiK hi p.keys 0 = key := by unfold hiK; rw [if_pos (by have := HN.out.1; omega), List.getD_eq_getElem?_getD, hkey]; rfl
            rw [e1, e2] at CI
            have j2 : (0 : Int) < n := by omega
            have j3 : ¬ ((D : Int) < 0) := by omega
            rw [if_pos rfl]
            clear e1 e2 hkey hkd C14 HK HKK HB HL
            go_wp2_with (first
              | (go_at_call 14; refine CI.out.mono ?_; rintro e w5 ⟨rfl, hg⟩; have G5 := hid (grown_none GR.out hg); clear hg))
            go_roundg gk
            case measure => omega
            case rel => exact ⟨G5.out, 1, rfl, by omega, by simp⟩
          · obtain ⟨key, hkey⟩ : ∃ x, p.keys[i - 1]? = some x := ⟨_, List.getElem?_eq_getElem (by have := HN.out.1; have := HKN.out; omega)⟩
            have x1 := HK.out (i - 1) key hkey wr (grown_none G23.out GR.out)
            have e1 : loK lo p.keys i = key := by unfold loK; rw [if_pos (by omega), List.getD_eq_getElem?_getD, hkey]; rfl
            have j2 : (0 : Int) < (i : Int) := by omega
            have j3 : ¬ ((D : Int) < 0) := by omega
            have j4 : IntKind.i64.wrap ((i : Int) - 1) = ((i - 1 : Nat) : Int) := by have := HKN.out; rw [IntKind.wrap_i64]; omega
            have j5 : ((i - 1 : Nat) : Int) < n := by have := HKN.out; omega
            have j6 : (0 : Int) < (D : Int) := by omega
            rw [if_neg hz]
            by_cases hl2 : i < n
            · obtain ⟨key2, hkey2⟩ : ∃ x, p.keys[i]? = some x := ⟨_, List.getElem?_eq_getElem (by have := HN.out.1; omega)⟩
              have x2 := HK.out i key2 hkey2 wr (grown_none G23.out GR.out)
              have e2 : hiK hi p.keys i = key2 := by unfold hiK; rw [if_pos (by have := HN.out.1; omega), List.getD_eq_getElem?_getD, hkey2]; rfl
              rw [e1, e2] at CI
              have j7 : (i : Int) < n := by omega
              clear e1 e2 hkey hkey2 hkd C14 HK HKK HB HL
              generalize i - 1 = im at *
              go_wp2_with (first
                | (go_at_call 14; refine CI.out.mono ?_; rintro e w5 ⟨rfl, hg⟩; have G5 := hid (grown_none GR.out hg); clear hg))
              go_roundg gk
              case measure => omega
              case rel => exact ⟨G5.out, i + 1, by simp, by omega, by rw [if_neg (by omega)]⟩
            · have e2 : hiK hi p.keys i = hi := by unfold hiK; rw [if_neg (by have := HN.out.1; omega)]
              rw [e1, e2] at CI
              have j7 : ¬ ((i : Int) < n) := by omega
              clear e1 e2 hkey hkd C14 HK HKK HB HL
              generalize i - 1 = im at *
              go_wp2_with (first
                | (go_at_call 14; refine CI.out.mono ?_; rintro e w5 ⟨rfl, hg⟩; have G5 := hid (grown_none GR.out hg); clear hg))
              go_roundg gk
              case measure => omega
              case rel => exact ⟨G5.out, i + 1, by simp, by omega, by rw [if_neg (by omega)]⟩
    | succ gk =>
      have i0 : n < p.keys.length := by have := HN.out.1; omega
      have i1 : (n : Int) < N := by omega
      obtain ⟨key, hkey⟩ : ∃ x, p.keys[n]? = some x := ⟨_, List.getElem?_eq_getElem i0⟩
      have x1 := HK.out n key hkey w3 G23.out
      obtain ⟨x2, x3⟩ := HB.out n key hkey
      clear i0 hkey
      have wi : IntKind.i64.wrap ((n : Int) + 1) = (n : Int) + 1 := by rw [IntKind.wrap_i64]; omega
      
      clear HK HB HL HN c0 c3 B3 G23 C14 KC HKK
      clear x3
      go_wp2_with fail
      go_roundg gk
      case measure => omega
      case rel => exact ⟨rfl, n + 1, by simp, by omega⟩
set_option maxRecDepth 100000 in
set_option maxHeartbeats 4000000 in
theorem shape_leaf_rf (base lb : Nat) (g : Lg) (a : Int) (s lo hi : ByteArray) (p : Pa.Pg) (w : World) (hL : IsLog w base lb g)
    (h32 : ∀ W, w.grownBy W none → Calls Tryz.prog 32 #[.pointer (some ⟨lb, 0, none⟩), .int .i64 a] W fun e w' => e = .returned (.tuple #[.string s, .int .i64 0]) ∧ W.grownBy w' none)
    (h33 : ∀ W, Calls Tryz.prog 33 #[.string s] W (Pa.DecPost W p 0)) (hlf : p.leaf = true) (h0 : 0 < p.keys.length) (hn : p.keys.length ≤ 1000000) (hb : Btw lo hi p.keys) (he : ¬ hi.toList = []) :
    Calls Tryz.prog 14 #[.pointer (some ⟨lb, 0, none⟩), .int .i64 a, .bool true, .string lo, .string hi] w fun e w' => e = .returned (.int .i64 1) ∧ w.grownBy w' none := by
  have C32 := hid (h32 w (grown_refl _ _))
  have C33 := hid h33
  have HB := hid hb
  have HL := hid hL
  clear h32 h33 hb hL
  have q1 : ¬ ((p.keys.length : Int) = 0) := by omega

  go_enter Tryz.func14, Tryz.ntmps14
  go_upto_region 3 with (first
    | (go_at_call 32; refine C32.out.mono ?_; rintro e w1 ⟨rfl, g1⟩; have G1 := hid g1; clear g1 C32)
    | (go_at_call 33; refine (C33.out _).mono ?_; rintro e w2 ⟨u, rfl, o2, g2⟩; have O2 := hid o2; have G2 := hid (grown_none G1.out g2); obtain ⟨p1, k1, p2, k2, p3, k3, rfl⟩ := PgO.form o2; clear o2 g2 C33))
  obtain ⟨g1, rfl, hk⟩ := key_cells O2.out h0
  have HK := hid hk
  rw [hlf] at *
  have B3 := hid (Blk.new w2 70 #[.bool true, .slice (some ⟨g1, 0, none⟩) p.keys.length k1, .slice p2 p.vals.length k2, .slice p3 p.kids.length k3])
  have G23 := hid (grown_alloc (grown_refl w2 none) (Obj.cells #[.bool true, .slice (some ⟨g1, 0, none⟩) p.keys.length k1, .slice p2 p.vals.length k2, .slice p3 p.kids.length k3] 70))
  generalize w2.alloc (Obj.cells #[.bool true, .slice (some ⟨g1, 0, none⟩) p.keys.length k1, .slice p2 p.vals.length k2, .slice p3 p.kids.length k3] 70) = w3 at *
  generalize w2.heap.size = b at *
  clear hk O2
  have c0 := B3.out.cell 0
  have c1 := B3.out.cell 1
  have c3 := B3.out.cell 3
  simp at c0 c1 c3
  generalize hN : p.keys.length = N at *
  have HN := hid (And.intro hN trivial)
  clear hN
  go_wp2_with fail
  go_loopg [15] N (fun gk s15 wr => wr = w3 ∧ ∃ n : Nat, s15 = .int .i64 n ∧ n + gk = N)
  case atStart => exact ⟨rfl, 0, rfl, by omega⟩
  case round =>
    obtain ⟨hw, n, rfl, hn2⟩ := hrel
    replace hw := hw.symm
    subst hw
    cases gk with
    | zero =>
      obtain rfl : n = N := by omega
      clear hn2
      go_wp2_with fail
      go_ret
      exact ⟨rfl, grown_none (grown_none G2.out G23.out) (grown_refl _ _)⟩
    | succ gk =>
      have i0 : n < p.keys.length := by have := HN.out.1; omega
      have i1 : (n : Int) < N := by omega
      obtain ⟨key, hkey⟩ : ∃ x, p.keys[n]? = some x := ⟨_, List.getElem?_eq_getElem i0⟩
      have x1 := HK.out n key hkey w3 G23.out
      obtain ⟨x2, x3⟩ := HB.out n key hkey
      clear i0 hkey
      have wi : IntKind.i64.wrap ((n : Int) + 1) = (n : Int) + 1 := by rw [IntKind.wrap_i64]; omega
      replace x3 := x3.resolve_left he
      clear HK HB HL HN c0 c3 B3 G23 
      
      go_wp2_with fail
      go_roundg gk
      case measure => omega
      case rel => exact ⟨rfl, n + 1, by simp, by omega⟩
set_option maxRecDepth 100000 in
set_option maxHeartbeats 4000000 in
theorem shape_node_rf (base lb : Nat) (g : Lg) (a : Int) (s lo hi : ByteArray) (p : Pa.Pg) (w : World) (hL : IsLog w base lb g)
    (h32 : ∀ W, w.grownBy W none → Calls Tryz.prog 32 #[.pointer (some ⟨lb, 0, none⟩), .int .i64 a] W fun e w' => e = .returned (.tuple #[.string s, .int .i64 0]) ∧ W.grownBy w' none)
    (h33 : ∀ W, Calls Tryz.prog 33 #[.string s] W (Pa.DecPost W p 0)) (hlf : p.leaf = false) (h0 : 0 < p.keys.length) (hn : p.keys.length ≤ 1000000) (hb : Btw lo hi p.keys) (he : ¬ hi.toList = []) (D : Nat) (hD0 : 1 ≤ D) (hD1 : D ≤ 1000) (hk0 : 0 < p.kids.length) (hkl : p.kids.length = p.keys.length + 1)
    (h14 : ∀ (i : Nat) (x : Int), p.kids[i]? = some x → ∀ W, w.grownBy W none → Calls Tryz.prog 14 #[.pointer (some ⟨lb, 0, none⟩), .int .i64 x, .bool false, .string (loK lo p.keys i), .string (hiK hi p.keys i)] W fun e w' => e = .returned (.int .i64 D) ∧ W.grownBy w' none) :
    Calls Tryz.prog 14 #[.pointer (some ⟨lb, 0, none⟩), .int .i64 a, .bool true, .string lo, .string hi] w fun e w' => e = .returned (.int .i64 (D + 1)) ∧ w.grownBy w' none := by
  have C32 := hid (h32 w (grown_refl _ _))
  have C33 := hid h33
  have HB := hid hb
  have HL := hid hL
  have C14 := hid h14
  have KC := hid (And.intro hkl trivial)
  clear h14 hkl
  clear h32 h33 hb hL
  have q1 : ¬ ((p.keys.length : Int) = 0) := by omega

  go_enter Tryz.func14, Tryz.ntmps14
  go_upto_region 3 with (first
    | (go_at_call 32; refine C32.out.mono ?_; rintro e w1 ⟨rfl, g1⟩; have G1 := hid g1; clear g1 C32)
    | (go_at_call 33; refine (C33.out _).mono ?_; rintro e w2 ⟨u, rfl, o2, g2⟩; have O2 := hid o2; have G2 := hid (grown_none G1.out g2); obtain ⟨p1, k1, p2, k2, p3, k3, rfl⟩ := PgO.form o2; clear o2 g2 C33))
  obtain ⟨g1, rfl, hk⟩ := key_cells O2.out h0
  have HK := hid hk
  obtain ⟨g3, rfl, hkk⟩ := kid_cells O2.out hk0
  have HKK := hid hkk
  clear hkk
  rw [hlf] at *
  have B3 := hid (Blk.new w2 70 #[.bool false, .slice (some ⟨g1, 0, none⟩) p.keys.length k1, .slice p2 p.vals.length k2, .slice (some ⟨g3, 0, none⟩) p.kids.length k3])
  have G23 := hid (grown_alloc (grown_refl w2 none) (Obj.cells #[.bool false, .slice (some ⟨g1, 0, none⟩) p.keys.length k1, .slice p2 p.vals.length k2, .slice (some ⟨g3, 0, none⟩) p.kids.length k3] 70))
  generalize w2.alloc (Obj.cells #[.bool false, .slice (some ⟨g1, 0, none⟩) p.keys.length k1, .slice p2 p.vals.length k2, .slice (some ⟨g3, 0, none⟩) p.kids.length k3] 70) = w3 at *
  generalize w2.heap.size = b at *
  clear hk O2
  have c0 := B3.out.cell 0
  have c1 := B3.out.cell 1
  have c3 := B3.out.cell 3
  simp at c0 c1 c3
  generalize hN : p.keys.length = N at *
  have HN := hid (And.intro hN trivial)
  clear hN
  go_wp2_with fail
  go_loopg [15] N (fun gk s15 wr => wr = w3 ∧ ∃ n : Nat, s15 = .int .i64 n ∧ n + gk = N)
  case atStart => exact ⟨rfl, 0, rfl, by omega⟩
  case round =>
    obtain ⟨hw, n, rfl, hn2⟩ := hrel
    replace hw := hw.symm
    subst hw
    cases gk with
    | zero =>
      obtain rfl : n = N := by omega
      clear hn2
      have HKN := hid KC.out.1
      generalize hM : p.kids.length = M at *
      have HM := hid (And.intro hM trivial)
      clear hM
      go_wp2_with fail
      go_loopg [16, 17] M (fun gk s16 s17 wr => w3.grownBy wr none ∧ ∃ i : Nat, s17 = .int .i64 i ∧ i + gk = M ∧ s16 = .int .i64 (if i = 0 then 0 else D))
      case atStart => exact ⟨grown_refl _ _, 0, rfl, by omega, rfl⟩
      case round =>
        obtain ⟨hg, i, rfl, hi2, rfl⟩ := hrel
        have GR := hid hg
        clear hg
        have b3 := B3.out.kept GR.out (by simp)
        have d1 := b3.cell 1
        have d3 := b3.cell 3
        simp at d1 d3
        clear b3
        have wd : IntKind.i64.wrap ((D : Int) + 1) = (D : Int) + 1 := by rw [IntKind.wrap_i64]; omega
        cases gk with
        | zero =>
          obtain rfl : i = M := by omega
          rw [if_neg (by omega)]
          go_wp2_with fail
          go_ret
          exact ⟨rfl, grown_none (grown_none G2.out G23.out) GR.out⟩
        | succ gk =>
          obtain ⟨kd, hkd⟩ : ∃ x, p.kids[i]? = some x := ⟨_, List.getElem?_eq_getElem (by have := HM.out.1; omega)⟩
          have x0 := HKK.out i kd hkd wr (grown_none G23.out GR.out)
          have CI := hid (C14.out i kd hkd wr (grown_none (grown_none G2.out G23.out) GR.out))
          have j0 : (0 : Int) ≤ (i : Int) := by omega
          have j1 : (i : Int) < M := by omega
          have wi : IntKind.i64.wrap ((i : Int) + 1) = (i : Int) + 1 := by have := HKN.out; rw [IntKind.wrap_i64]; omega
          by_cases hz : i = 0
          · subst hz
            obtain ⟨key, hkey⟩ : ∃ x, p.keys[0]? = some x := ⟨_, List.getElem?_eq_getElem (by have := HN.out.1; omega)⟩
            have x1 := HK.out 0 key hkey wr (grown_none G23.out GR.out)
            have e1 : loK lo p.keys 0 = lo := rfl
            have e2 : hiK hi p.keys 0 = key := by unfold hiK; rw [if_pos (by have := HN.out.1; omega), List.getD_eq_getElem?_getD, hkey]; rfl
            rw [e1, e2] at CI
            have j2 : (0 : Int) < n := by omega
            have j3 : ¬ ((D : Int) < 0) := by omega
            rw [if_pos rfl]
            clear e1 e2 hkey hkd C14 HK HKK HB HL
            go_wp2_with (first
              | (go_at_call 14; refine CI.out.mono ?_; rintro e w5 ⟨rfl, hg⟩; have G5 := hid (grown_none GR.out hg); clear hg))
            go_roundg gk
            case measure => omega
            case rel => exact ⟨G5.out, 1, rfl, by omega, by simp⟩
          · obtain ⟨key, hkey⟩ : ∃ x, p.keys[i - 1]? = some x := ⟨_, List.getElem?_eq_getElem (by have := HN.out.1; have := HKN.out; omega)⟩
            have x1 := HK.out (i - 1) key hkey wr (grown_none G23.out GR.out)
            have e1 : loK lo p.keys i = key := by unfold loK; rw [if_pos (by omega), List.getD_eq_getElem?_getD, hkey]; rfl
            have j2 : (0 : Int) < (i : Int) := by omega
            have j3 : ¬ ((D : Int) < 0) := by omega
            have j4 : IntKind.i64.wrap ((i : Int) - 1) = ((i - 1 : Nat) : Int) := by have := HKN.out; rw [IntKind.wrap_i64]; omega
            have j5 : ((i - 1 : Nat) : Int) < n := by have := HKN.out; omega
            have j6 : (0 : Int) < (D : Int) := by omega
            rw [if_neg hz]
            by_cases hl2 : i < n
            · obtain ⟨key2, hkey2⟩ : ∃ x, p.keys[i]? = some x := ⟨_, List.getElem?_eq_getElem (by have := HN.out.1; omega)⟩
              have x2 := HK.out i key2 hkey2 wr (grown_none G23.out GR.out)
              have e2 : hiK hi p.keys i = key2 := by unfold hiK; rw [if_pos (by have := HN.out.1; omega), List.getD_eq_getElem?_getD, hkey2]; rfl
              rw [e1, e2] at CI
              have j7 : (i : Int) < n := by omega
              clear e1 e2 hkey hkey2 hkd C14 HK HKK HB HL
              generalize i - 1 = im at *
              go_wp2_with (first
                | (go_at_call 14; refine CI.out.mono ?_; rintro e w5 ⟨rfl, hg⟩; have G5 := hid (grown_none GR.out hg); clear hg))
              go_roundg gk
              case measure => omega
              case rel => exact ⟨G5.out, i + 1, by simp, by omega, by rw [if_neg (by omega)]⟩
            · have e2 : hiK hi p.keys i = hi := by unfold hiK; rw [if_neg (by have := HN.out.1; omega)]
              rw [e1, e2] at CI
              have j7 : ¬ ((i : Int) < n) := by omega
              clear e1 e2 hkey hkd C14 HK HKK HB HL
              generalize i - 1 = im at *
              go_wp2_with (first
                | (go_at_call 14; refine CI.out.mono ?_; rintro e w5 ⟨rfl, hg⟩; have G5 := hid (grown_none GR.out hg); clear hg))
              go_roundg gk
              case measure => omega
              case rel => exact ⟨G5.out, i + 1, by simp, by omega, by rw [if_neg (by omega)]⟩
    | succ gk =>
      have i0 : n < p.keys.length := by have := HN.out.1; omega
      have i1 : (n : Int) < N := by omega
      obtain ⟨key, hkey⟩ : ∃ x, p.keys[n]? = some x := ⟨_, List.getElem?_eq_getElem i0⟩
      have x1 := HK.out n key hkey w3 G23.out
      obtain ⟨x2, x3⟩ := HB.out n key hkey
      clear i0 hkey
      have wi : IntKind.i64.wrap ((n : Int) + 1) = (n : Int) + 1 := by rw [IntKind.wrap_i64]; omega
      replace x3 := x3.resolve_left he
      clear HK HB HL HN c0 c3 B3 G23 C14 KC HKK
      
      go_wp2_with fail
      go_roundg gk
      case measure => omega
      case rel => exact ⟨rfl, n + 1, by simp, by omega⟩
set_option maxRecDepth 100000 in
set_option maxHeartbeats 4000000 in
theorem shape_leaf_ke (base lb : Nat) (g : Lg) (a : Int) (s lo hi : ByteArray) (p : Pa.Pg) (w : World) (hL : IsLog w base lb g)
    (h32 : ∀ W, w.grownBy W none → Calls Tryz.prog 32 #[.pointer (some ⟨lb, 0, none⟩), .int .i64 a] W fun e w' => e = .returned (.tuple #[.string s, .int .i64 0]) ∧ W.grownBy w' none)
    (h33 : ∀ W, Calls Tryz.prog 33 #[.string s] W (Pa.DecPost W p 0)) (hlf : p.leaf = true) (h0 : 0 < p.keys.length) (hn : p.keys.length ≤ 1000000) (h4 : 4 ≤ p.keys.length) (hb : Btw lo hi p.keys) (he : hi.toList = []) :
    Calls Tryz.prog 14 #[.pointer (some ⟨lb, 0, none⟩), .int .i64 a, .bool false, .string lo, .string hi] w fun e w' => e = .returned (.int .i64 1) ∧ w.grownBy w' none := by
  have C32 := hid (h32 w (grown_refl _ _))
  have C33 := hid h33
  have HB := hid hb
  have HL := hid hL
  clear h32 h33 hb hL
  have q1 : ¬ ((p.keys.length : Int) = 0) := by omega
  have q2 : ¬ ((p.keys.length : Int) < 4) := by omega
  go_enter Tryz.func14, Tryz.ntmps14
  go_upto_region 3 with (first
    | (go_at_call 32; refine C32.out.mono ?_; rintro e w1 ⟨rfl, g1⟩; have G1 := hid g1; clear g1 C32)
    | (go_at_call 33; refine (C33.out _).mono ?_; rintro e w2 ⟨u, rfl, o2, g2⟩; have O2 := hid o2; have G2 := hid (grown_none G1.out g2); obtain ⟨p1, k1, p2, k2, p3, k3, rfl⟩ := PgO.form o2; clear o2 g2 C33))
  obtain ⟨g1, rfl, hk⟩ := key_cells O2.out h0
  have HK := hid hk
  rw [hlf] at *
  have B3 := hid (Blk.new w2 70 #[.bool true, .slice (some ⟨g1, 0, none⟩) p.keys.length k1, .slice p2 p.vals.length k2, .slice p3 p.kids.length k3])
  have G23 := hid (grown_alloc (grown_refl w2 none) (Obj.cells #[.bool true, .slice (some ⟨g1, 0, none⟩) p.keys.length k1, .slice p2 p.vals.length k2, .slice p3 p.kids.length k3] 70))
  generalize w2.alloc (Obj.cells #[.bool true, .slice (some ⟨g1, 0, none⟩) p.keys.length k1, .slice p2 p.vals.length k2, .slice p3 p.kids.length k3] 70) = w3 at *
  generalize w2.heap.size = b at *
  clear hk O2
  have c0 := B3.out.cell 0
  have c1 := B3.out.cell 1
  have c3 := B3.out.cell 3
  simp at c0 c1 c3
  generalize hN : p.keys.length = N at *
  have HN := hid (And.intro hN trivial)
  clear hN
  go_wp2_with fail
  · rename_i hx
    rcases hx with hx | hx
    · omega
    · simp at hx; omega
  go_loopg [15] N (fun gk s15 wr => wr = w3 ∧ ∃ n : Nat, s15 = .int .i64 n ∧ n + gk = N)
  case atStart => exact ⟨rfl, 0, rfl, by omega⟩
  case round =>
    obtain ⟨hw, n, rfl, hn2⟩ := hrel
    replace hw := hw.symm
    subst hw
    cases gk with
    | zero =>
      obtain rfl : n = N := by omega
      clear hn2
      go_wp2_with fail
      go_ret
      exact ⟨rfl, grown_none (grown_none G2.out G23.out) (grown_refl _ _)⟩
    | succ gk =>
      have i0 : n < p.keys.length := by have := HN.out.1; omega
      have i1 : (n : Int) < N := by omega
      obtain ⟨key, hkey⟩ : ∃ x, p.keys[n]? = some x := ⟨_, List.getElem?_eq_getElem i0⟩
      have x1 := HK.out n key hkey w3 G23.out
      obtain ⟨x2, x3⟩ := HB.out n key hkey
      clear i0 hkey
      have wi : IntKind.i64.wrap ((n : Int) + 1) = (n : Int) + 1 := by rw [IntKind.wrap_i64]; omega
      
      clear HK HB HL HN c0 c3 B3 G23 
      clear x3
      go_wp2_with fail
      go_roundg gk
      case measure => omega
      case rel => exact ⟨rfl, n + 1, by simp, by omega⟩
set_option maxRecDepth 100000 in
set_option maxHeartbeats 4000000 in
theorem shape_node_ke (base lb : Nat) (g : Lg) (a : Int) (s lo hi : ByteArray) (p : Pa.Pg) (w : World) (hL : IsLog w base lb g)
    (h32 : ∀ W, w.grownBy W none → Calls Tryz.prog 32 #[.pointer (some ⟨lb, 0, none⟩), .int .i64 a] W fun e w' => e = .returned (.tuple #[.string s, .int .i64 0]) ∧ W.grownBy w' none)
    (h33 : ∀ W, Calls Tryz.prog 33 #[.string s] W (Pa.DecPost W p 0)) (hlf : p.leaf = false) (h0 : 0 < p.keys.length) (hn : p.keys.length ≤ 1000000) (h4 : 4 ≤ p.keys.length) (hb : Btw lo hi p.keys) (he : hi.toList = []) (D : Nat) (hD0 : 1 ≤ D) (hD1 : D ≤ 1000) (hk0 : 0 < p.kids.length) (hkl : p.kids.length = p.keys.length + 1)
    (h14 : ∀ (i : Nat) (x : Int), p.kids[i]? = some x → ∀ W, w.grownBy W none → Calls Tryz.prog 14 #[.pointer (some ⟨lb, 0, none⟩), .int .i64 x, .bool false, .string (loK lo p.keys i), .string (hiK hi p.keys i)] W fun e w' => e = .returned (.int .i64 D) ∧ W.grownBy w' none) :
    Calls Tryz.prog 14 #[.pointer (some ⟨lb, 0, none⟩), .int .i64 a, .bool false, .string lo, .string hi] w fun e w' => e = .returned (.int .i64 (D + 1)) ∧ w.grownBy w' none := by
  have C32 := hid (h32 w (grown_refl _ _))
  have C33 := hid h33
  have HB := hid hb
  have HL := hid hL
  have C14 := hid h14
  have KC := hid (And.intro hkl trivial)
  clear h14 hkl
  clear h32 h33 hb hL
  have q1 : ¬ ((p.keys.length : Int) = 0) := by omega
  have q2 : ¬ ((p.keys.length : Int) < 4) := by omega
  go_enter Tryz.func14, Tryz.ntmps14
  go_upto_region 3 with (first
    | (go_at_call 32; refine C32.out.mono ?_; rintro e w1 ⟨rfl, g1⟩; have G1 := hid g1; clear g1 C32)
    | (go_at_call 33; refine (C33.out _).mono ?_; rintro e w2 ⟨u, rfl, o2, g2⟩; have O2 := hid o2; have G2 := hid (grown_none G1.out g2); obtain ⟨p1, k1, p2, k2, p3, k3, rfl⟩ := PgO.form o2; clear o2 g2 C33))
  obtain ⟨g1, rfl, hk⟩ := key_cells O2.out h0
  have HK := hid hk
  obtain ⟨g3, rfl, hkk⟩ := kid_cells O2.out hk0
  have HKK := hid hkk
  clear hkk
  rw [hlf] at *
  have B3 := hid (Blk.new w2 70 #[.bool false, .slice (some ⟨g1, 0, none⟩) p.keys.length k1, .slice p2 p.vals.length k2, .slice (some ⟨g3, 0, none⟩) p.kids.length k3])
  have G23 := hid (grown_alloc (grown_refl w2 none) (Obj.cells #[.bool false, .slice (some ⟨g1, 0, none⟩) p.keys.length k1, .slice p2 p.vals.length k2, .slice (some ⟨g3, 0, none⟩) p.kids.length k3] 70))
  generalize w2.alloc (Obj.cells #[.bool false, .slice (some ⟨g1, 0, none⟩) p.keys.length k1, .slice p2 p.vals.length k2, .slice (some ⟨g3, 0, none⟩) p.kids.length k3] 70) = w3 at *
  generalize w2.heap.size = b at *
  clear hk O2
  have c0 := B3.out.cell 0
  have c1 := B3.out.cell 1
  have c3 := B3.out.cell 3
  simp at c0 c1 c3
  generalize hN : p.keys.length = N at *
  have HN := hid (And.intro hN trivial)
  clear hN
  go_wp2_with fail
  · rename_i hx
    rcases hx with hx | hx
    · omega
    · simp at hx; omega
  go_loopg [15] N (fun gk s15 wr => wr = w3 ∧ ∃ n : Nat, s15 = .int .i64 n ∧ n + gk = N)
  case atStart => exact ⟨rfl, 0, rfl, by omega⟩
  case round =>
    obtain ⟨hw, n, rfl, hn2⟩ := hrel
    replace hw := hw.symm
    subst hw
    cases gk with
    | zero =>
      obtain rfl : n = N := by omega
      clear hn2
      have HKN := hid KC.out.1
      generalize hM : p.kids.length = M at *
      have HM := hid (And.intro hM trivial)
      clear hM
      go_wp2_with fail
      go_loopg [16, 17] M (fun gk s16 s17 wr => w3.grownBy wr none ∧ ∃ i : Nat, s17 = .int .i64 i ∧ i + gk = M ∧ s16 = .int .i64 (if i = 0 then 0 else D))
      case atStart => exact ⟨grown_refl _ _, 0, rfl, by omega, rfl⟩
      case round =>
        obtain ⟨hg, i, rfl, hi2, rfl⟩ := hrel
        have GR := hid hg
        clear hg
        have b3 := B3.out.kept GR.out (by simp)
        have d1 := b3.cell 1
        have d3 := b3.cell 3
        simp at d1 d3
        clear b3
        have wd : IntKind.i64.wrap ((D : Int) + 1) = (D : Int) + 1 := by rw [IntKind.wrap_i64]; omega
        cases gk with
        | zero =>
          obtain rfl : i = M := by omega
          rw [if_neg (by omega)]
          go_wp2_with fail
          go_ret
          exact ⟨rfl, grown_none (grown_none G2.out G23.out) GR.out⟩
        | succ gk =>
          obtain ⟨kd, hkd⟩ : ∃ x, p.kids[i]? = some x := ⟨_, List.getElem?_eq_getElem (by have := HM.out.1; omega)⟩
          have x0 := HKK.out i kd hkd wr (grown_none G23.out GR.out)
          have CI := hid (C14.out i kd hkd wr (grown_none (grown_none G2.out G23.out) GR.out))
          have j0 : (0 : Int) ≤ (i : Int) := by omega
          have j1 : (i : Int) < M := by omega
          have wi : IntKind.i64.wrap ((i : Int) + 1) = (i : Int) + 1 := by have := HKN.out; rw [IntKind.wrap_i64]; omega
          by_cases hz : i = 0
          · subst hz
            obtain ⟨key, hkey⟩ : ∃ x, p.keys[0]? = some x := ⟨_, List.getElem?_eq_getElem (by have := HN.out.1; omega)⟩
            have x1 := HK.out 0 key hkey wr (grown_none G23.out GR.out)
            have e1 : loK lo p.keys 0 = lo := rfl
            have e2 : hiK hi p.keys 0 = key := by unfold hiK; rw [if_pos (by have := HN.out.1; omega), List.getD_eq_getElem?_getD, hkey]; rfl
            rw [e1, e2] at CI
            have j2 : (0 : Int) < n := by omega
            have j3 : ¬ ((D : Int) < 0) := by omega
            rw [if_pos rfl]
            clear e1 e2 hkey hkd C14 HK HKK HB HL
            go_wp2_with (first
              | (go_at_call 14; refine CI.out.mono ?_; rintro e w5 ⟨rfl, hg⟩; have G5 := hid (grown_none GR.out hg); clear hg))
            go_roundg gk
            case measure => omega
            case rel => exact ⟨G5.out, 1, rfl, by omega, by simp⟩
          · obtain ⟨key, hkey⟩ : ∃ x, p.keys[i - 1]? = some x := ⟨_, List.getElem?_eq_getElem (by have := HN.out.1; have := HKN.out; omega)⟩
            have x1 := HK.out (i - 1) key hkey wr (grown_none G23.out GR.out)
            have e1 : loK lo p.keys i = key := by unfold loK; rw [if_pos (by omega), List.getD_eq_getElem?_getD, hkey]; rfl
            have j2 : (0 : Int) < (i : Int) := by omega
            have j3 : ¬ ((D : Int) < 0) := by omega
            have j4 : IntKind.i64.wrap ((i : Int) - 1) = ((i - 1 : Nat) : Int) := by have := HKN.out; rw [IntKind.wrap_i64]; omega
            have j5 : ((i - 1 : Nat) : Int) < n := by have := HKN.out; omega
            have j6 : (0 : Int) < (D : Int) := by omega
            rw [if_neg hz]
            by_cases hl2 : i < n
            · obtain ⟨key2, hkey2⟩ : ∃ x, p.keys[i]? = some x := ⟨_, List.getElem?_eq_getElem (by have := HN.out.1; omega)⟩
              have x2 := HK.out i key2 hkey2 wr (grown_none G23.out GR.out)
              have e2 : hiK hi p.keys i = key2 := by unfold hiK; rw [if_pos (by have := HN.out.1; omega), List.getD_eq_getElem?_getD, hkey2]; rfl
              rw [e1, e2] at CI
              have j7 : (i : Int) < n := by omega
              clear e1 e2 hkey hkey2 hkd C14 HK HKK HB HL
              generalize i - 1 = im at *
              go_wp2_with (first
                | (go_at_call 14; refine CI.out.mono ?_; rintro e w5 ⟨rfl, hg⟩; have G5 := hid (grown_none GR.out hg); clear hg))
              go_roundg gk
              case measure => omega
              case rel => exact ⟨G5.out, i + 1, by simp, by omega, by rw [if_neg (by omega)]⟩
            · have e2 : hiK hi p.keys i = hi := by unfold hiK; rw [if_neg (by have := HN.out.1; omega)]
              rw [e1, e2] at CI
              have j7 : ¬ ((i : Int) < n) := by omega
              clear e1 e2 hkey hkd C14 HK HKK HB HL
              generalize i - 1 = im at *
              go_wp2_with (first
                | (go_at_call 14; refine CI.out.mono ?_; rintro e w5 ⟨rfl, hg⟩; have G5 := hid (grown_none GR.out hg); clear hg))
              go_roundg gk
              case measure => omega
              case rel => exact ⟨G5.out, i + 1, by simp, by omega, by rw [if_neg (by omega)]⟩
    | succ gk =>
      have i0 : n < p.keys.length := by have := HN.out.1; omega
      have i1 : (n : Int) < N := by omega
      obtain ⟨key, hkey⟩ : ∃ x, p.keys[n]? = some x := ⟨_, List.getElem?_eq_getElem i0⟩
      have x1 := HK.out n key hkey w3 G23.out
      obtain ⟨x2, x3⟩ := HB.out n key hkey
      clear i0 hkey
      have wi : IntKind.i64.wrap ((n : Int) + 1) = (n : Int) + 1 := by rw [IntKind.wrap_i64]; omega
      
      clear HK HB HL HN c0 c3 B3 G23 C14 KC HKK
      clear x3
      go_wp2_with fail
      go_roundg gk
      case measure => omega
      case rel => exact ⟨rfl, n + 1, by simp, by omega⟩
set_option maxRecDepth 100000 in
set_option maxHeartbeats 4000000 in
theorem shape_leaf_kf (base lb : Nat) (g : Lg) (a : Int) (s lo hi : ByteArray) (p : Pa.Pg) (w : World) (hL : IsLog w base lb g)
    (h32 : ∀ W, w.grownBy W none → Calls Tryz.prog 32 #[.pointer (some ⟨lb, 0, none⟩), .int .i64 a] W fun e w' => e = .returned (.tuple #[.string s, .int .i64 0]) ∧ W.grownBy w' none)
    (h33 : ∀ W, Calls Tryz.prog 33 #[.string s] W (Pa.DecPost W p 0)) (hlf : p.leaf = true) (h0 : 0 < p.keys.length) (hn : p.keys.length ≤ 1000000) (h4 : 4 ≤ p.keys.length) (hb : Btw lo hi p.keys) (he : ¬ hi.toList = []) :
    Calls Tryz.prog 14 #[.pointer (some ⟨lb, 0, none⟩), .int .i64 a, .bool false, .string lo, .string hi] w fun e w' => e = .returned (.int .i64 1) ∧ w.grownBy w' none := by
  have C32 := hid (h32 w (grown_refl _ _))
  have C33 := hid h33
  have HB := hid hb
  have HL := hid hL
  clear h32 h33 hb hL
  have q1 : ¬ ((p.keys.length : Int) = 0) := by omega
  have q2 : ¬ ((p.keys.length : Int) < 4) := by omega
  go_enter Tryz.func14, Tryz.ntmps14
  go_upto_region 3 with (first
    | (go_at_call 32; refine C32.out.mono ?_; rintro e w1 ⟨rfl, g1⟩; have G1 := hid g1; clear g1 C32)
    | (go_at_call 33; refine (C33.out _).mono ?_; rintro e w2 ⟨u, rfl, o2, g2⟩; have O2 := hid o2; have G2 := hid (grown_none G1.out g2); obtain ⟨p1, k1, p2, k2, p3, k3, rfl⟩ := PgO.form o2; clear o2 g2 C33))
  obtain ⟨g1, rfl, hk⟩ := key_cells O2.out h0
  have HK := hid hk
  rw [hlf] at *
  have B3 := hid (Blk.new w2 70 #[.bool true, .slice (some ⟨g1, 0, none⟩) p.keys.length k1, .slice p2 p.vals.length k2, .slice p3 p.kids.length k3])
  have G23 := hid (grown_alloc (grown_refl w2 none) (Obj.cells #[.bool true, .slice (some ⟨g1, 0, none⟩) p.keys.length k1, .slice p2 p.vals.length k2, .slice p3 p.kids.length k3] 70))
  generalize w2.alloc (Obj.cells #[.bool true, .slice (some ⟨g1, 0, none⟩) p.keys.length k1, .slice p2 p.vals.length k2, .slice p3 p.kids.length k3] 70) = w3 at *
  generalize w2.heap.size = b at *
  clear hk O2
  have c0 := B3.out.cell 0
  have c1 := B3.out.cell 1
  have c3 := B3.out.cell 3
  simp at c0 c1 c3
  generalize hN : p.keys.length = N at *
  have HN := hid (And.intro hN trivial)
  clear hN
  go_wp2_with fail
  · rename_i hx
    rcases hx with hx | hx
    · omega
    · simp at hx; omega
  go_loopg [15] N (fun gk s15 wr => wr = w3 ∧ ∃ n : Nat, s15 = .int .i64 n ∧ n + gk = N)
  case atStart => exact ⟨rfl, 0, rfl, by omega⟩
  case round =>
    obtain ⟨hw, n, rfl, hn2⟩ := hrel
    replace hw := hw.symm
    subst hw
    cases gk with
    | zero =>
      obtain rfl : n = N := by omega
      clear hn2
      go_wp2_with fail
      go_ret
      exact ⟨rfl, grown_none (grown_none G2.out G23.out) (grown_refl _ _)⟩
    | succ gk =>
      have i0 : n < p.keys.length := by have := HN.out.1; omega
      have i1 : (n : Int) < N := by omega
      obtain ⟨key, hkey⟩ : ∃ x, p.keys[n]? = some x := ⟨_, List.getElem?_eq_getElem i0⟩
      have x1 := HK.out n key hkey w3 G23.out
      obtain ⟨x2, x3⟩ := HB.out n key hkey
      clear i0 hkey
      have wi : IntKind.i64.wrap ((n : Int) + 1) = (n : Int) + 1 := by rw [IntKind.wrap_i64]; omega
      replace x3 := x3.resolve_left he
      clear HK HB HL HN c0 c3 B3 G23 
      
      go_wp2_with fail
      go_roundg gk
      case measure => omega
      case rel => exact ⟨rfl, n + 1, by simp, by omega⟩
set_option maxRecDepth 100000 in
set_option maxHeartbeats 4000000 in
theorem shape_node_kf (base lb : Nat) (g : Lg) (a : Int) (s lo hi : ByteArray) (p : Pa.Pg) (w : World) (hL : IsLog w base lb g)
    (h32 : ∀ W, w.grownBy W none → Calls Tryz.prog 32 #[.pointer (some ⟨lb, 0, none⟩), .int .i64 a] W fun e w' => e = .returned (.tuple #[.string s, .int .i64 0]) ∧ W.grownBy w' none)
    (h33 : ∀ W, Calls Tryz.prog 33 #[.string s] W (Pa.DecPost W p 0)) (hlf : p.leaf = false) (h0 : 0 < p.keys.length) (hn : p.keys.length ≤ 1000000) (h4 : 4 ≤ p.keys.length) (hb : Btw lo hi p.keys) (he : ¬ hi.toList = []) (D : Nat) (hD0 : 1 ≤ D) (hD1 : D ≤ 1000) (hk0 : 0 < p.kids.length) (hkl : p.kids.length = p.keys.length + 1)
    (h14 : ∀ (i : Nat) (x : Int), p.kids[i]? = some x → ∀ W, w.grownBy W none → Calls Tryz.prog 14 #[.pointer (some ⟨lb, 0, none⟩), .int .i64 x, .bool false, .string (loK lo p.keys i), .string (hiK hi p.keys i)] W fun e w' => e = .returned (.int .i64 D) ∧ W.grownBy w' none) :
    Calls Tryz.prog 14 #[.pointer (some ⟨lb, 0, none⟩), .int .i64 a, .bool false, .string lo, .string hi] w fun e w' => e = .returned (.int .i64 (D + 1)) ∧ w.grownBy w' none := by
  have C32 := hid (h32 w (grown_refl _ _))
  have C33 := hid h33
  have HB := hid hb
  have HL := hid hL
  have C14 := hid h14
  have KC := hid (And.intro hkl trivial)
  clear h14 hkl
  clear h32 h33 hb hL
  have q1 : ¬ ((p.keys.length : Int) = 0) := by omega
  have q2 : ¬ ((p.keys.length : Int) < 4) := by omega
  go_enter Tryz.func14, Tryz.ntmps14
  go_upto_region 3 with (first
    | (go_at_call 32; refine C32.out.mono ?_; rintro e w1 ⟨rfl, g1⟩; have G1 := hid g1; clear g1 C32)
    | (go_at_call 33; refine (C33.out _).mono ?_; rintro e w2 ⟨u, rfl, o2, g2⟩; have O2 := hid o2; have G2 := hid (grown_none G1.out g2); obtain ⟨p1, k1, p2, k2, p3, k3, rfl⟩ := PgO.form o2; clear o2 g2 C33))
  obtain ⟨g1, rfl, hk⟩ := key_cells O2.out h0
  have HK := hid hk
  obtain ⟨g3, rfl, hkk⟩ := kid_cells O2.out hk0
  have HKK := hid hkk
  clear hkk
  rw [hlf] at *
  have B3 := hid (Blk.new w2 70 #[.bool false, .slice (some ⟨g1, 0, none⟩) p.keys.length k1, .slice p2 p.vals.length k2, .slice (some ⟨g3, 0, none⟩) p.kids.length k3])
  have G23 := hid (grown_alloc (grown_refl w2 none) (Obj.cells #[.bool false, .slice (some ⟨g1, 0, none⟩) p.keys.length k1, .slice p2 p.vals.length k2, .slice (some ⟨g3, 0, none⟩) p.kids.length k3] 70))
  generalize w2.alloc (Obj.cells #[.bool false, .slice (some ⟨g1, 0, none⟩) p.keys.length k1, .slice p2 p.vals.length k2, .slice (some ⟨g3, 0, none⟩) p.kids.length k3] 70) = w3 at *
  generalize w2.heap.size = b at *
  clear hk O2
  have c0 := B3.out.cell 0
  have c1 := B3.out.cell 1
  have c3 := B3.out.cell 3
  simp at c0 c1 c3
  generalize hN : p.keys.length = N at *
  have HN := hid (And.intro hN trivial)
  clear hN
  go_wp2_with fail
  · rename_i hx
    rcases hx with hx | hx
    · omega
    · simp at hx; omega
  go_loopg [15] N (fun gk s15 wr => wr = w3 ∧ ∃ n : Nat, s15 = .int .i64 n ∧ n + gk = N)
  case atStart => exact ⟨rfl, 0, rfl, by omega⟩
  case round =>
    obtain ⟨hw, n, rfl, hn2⟩ := hrel
    replace hw := hw.symm
    subst hw
    cases gk with
    | zero =>
      obtain rfl : n = N := by omega
      clear hn2
      have HKN := hid KC.out.1
      generalize hM : p.kids.length = M at *
      have HM := hid (And.intro hM trivial)
      clear hM
      go_wp2_with fail
      go_loopg [16, 17] M (fun gk s16 s17 wr => w3.grownBy wr none ∧ ∃ i : Nat, s17 = .int .i64 i ∧ i + gk = M ∧ s16 = .int .i64 (if i = 0 then 0 else D))
      case atStart => exact ⟨grown_refl _ _, 0, rfl, by omega, rfl⟩
      case round =>
        obtain ⟨hg, i, rfl, hi2, rfl⟩ := hrel
        have GR := hid hg
        clear hg
        have b3 := B3.out.kept GR.out (by simp)
        have d1 := b3.cell 1
        have d3 := b3.cell 3
        simp at d1 d3
        clear b3
        have wd : IntKind.i64.wrap ((D : Int) + 1) = (D : Int) + 1 := by rw [IntKind.wrap_i64]; omega
        cases gk with
        | zero =>
          obtain rfl : i = M := by omega
          rw [if_neg (by omega)]
          go_wp2_with fail
          go_ret
          exact ⟨rfl, grown_none (grown_none G2.out G23.out) GR.out⟩
        | succ gk =>
          obtain ⟨kd, hkd⟩ : ∃ x, p.kids[i]? = some x := ⟨_, List.getElem?_eq_getElem (by have := HM.out.1; omega)⟩
          have x0 := HKK.out i kd hkd wr (grown_none G23.out GR.out)
          have CI := hid (C14.out i kd hkd wr (grown_none (grown_none G2.out G23.out) GR.out))
          have j0 : (0 : Int) ≤ (i : Int) := by omega
          have j1 : (i : Int) < M := by omega
          have wi : IntKind.i64.wrap ((i : Int) + 1) = (i : Int) + 1 := by have := HKN.out; rw [IntKind.wrap_i64]; omega
          by_cases hz : i = 0
          · subst hz
            obtain ⟨key, hkey⟩ : ∃ x, p.keys[0]? = some x := ⟨_, List.getElem?_eq_getElem (by have := HN.out.1; omega)⟩
            have x1 := HK.out 0 key hkey wr (grown_none G23.out GR.out)
            have e1 : loK lo p.keys 0 = lo := rfl
            have e2 : hiK hi p.keys 0 = key := by unfold hiK; rw [if_pos (by have := HN.out.1; omega), List.getD_eq_getElem?_getD, hkey]; rfl
            rw [e1, e2] at CI
            have j2 : (0 : Int) < n := by omega
            have j3 : ¬ ((D : Int) < 0) := by omega
            rw [if_pos rfl]
            clear e1 e2 hkey hkd C14 HK HKK HB HL
            go_wp2_with (first
              | (go_at_call 14; refine CI.out.mono ?_; rintro e w5 ⟨rfl, hg⟩; have G5 := hid (grown_none GR.out hg); clear hg))
            go_roundg gk
            case measure => omega
            case rel => exact ⟨G5.out, 1, rfl, by omega, by simp⟩
          · obtain ⟨key, hkey⟩ : ∃ x, p.keys[i - 1]? = some x := ⟨_, List.getElem?_eq_getElem (by have := HN.out.1; have := HKN.out; omega)⟩
            have x1 := HK.out (i - 1) key hkey wr (grown_none G23.out GR.out)
            have e1 : loK lo p.keys i = key := by unfold loK; rw [if_pos (by omega), List.getD_eq_getElem?_getD, hkey]; rfl
            have j2 : (0 : Int) < (i : Int) := by omega
            have j3 : ¬ ((D : Int) < 0) := by omega
            have j4 : IntKind.i64.wrap ((i : Int) - 1) = ((i - 1 : Nat) : Int) := by have := HKN.out; rw [IntKind.wrap_i64]; omega
            have j5 : ((i - 1 : Nat) : Int) < n := by have := HKN.out; omega
            have j6 : (0 : Int) < (D : Int) := by omega
            rw [if_neg hz]
            by_cases hl2 : i < n
            · obtain ⟨key2, hkey2⟩ : ∃ x, p.keys[i]? = some x := ⟨_, List.getElem?_eq_getElem (by have := HN.out.1; omega)⟩
              have x2 := HK.out i key2 hkey2 wr (grown_none G23.out GR.out)
              have e2 : hiK hi p.keys i = key2 := by unfold hiK; rw [if_pos (by have := HN.out.1; omega), List.getD_eq_getElem?_getD, hkey2]; rfl
              rw [e1, e2] at CI
              have j7 : (i : Int) < n := by omega
              clear e1 e2 hkey hkey2 hkd C14 HK HKK HB HL
              generalize i - 1 = im at *
              go_wp2_with (first
                | (go_at_call 14; refine CI.out.mono ?_; rintro e w5 ⟨rfl, hg⟩; have G5 := hid (grown_none GR.out hg); clear hg))
              go_roundg gk
              case measure => omega
              case rel => exact ⟨G5.out, i + 1, by simp, by omega, by rw [if_neg (by omega)]⟩
            · have e2 : hiK hi p.keys i = hi := by unfold hiK; rw [if_neg (by have := HN.out.1; omega)]
              rw [e1, e2] at CI
              have j7 : ¬ ((i : Int) < n) := by omega
              clear e1 e2 hkey hkd C14 HK HKK HB HL
              generalize i - 1 = im at *
              go_wp2_with (first
                | (go_at_call 14; refine CI.out.mono ?_; rintro e w5 ⟨rfl, hg⟩; have G5 := hid (grown_none GR.out hg); clear hg))
              go_roundg gk
              case measure => omega
              case rel => exact ⟨G5.out, i + 1, by simp, by omega, by rw [if_neg (by omega)]⟩
    | succ gk =>
      have i0 : n < p.keys.length := by have := HN.out.1; omega
      have i1 : (n : Int) < N := by omega
      obtain ⟨key, hkey⟩ : ∃ x, p.keys[n]? = some x := ⟨_, List.getElem?_eq_getElem i0⟩
      have x1 := HK.out n key hkey w3 G23.out
      obtain ⟨x2, x3⟩ := HB.out n key hkey
      clear i0 hkey
      have wi : IntKind.i64.wrap ((n : Int) + 1) = (n : Int) + 1 := by rw [IntKind.wrap_i64]; omega
      replace x3 := x3.resolve_left he
      clear HK HB HL HN c0 c3 B3 G23 C14 KC HKK
      
      go_wp2_with fail
      go_roundg gk
      case measure => omega
      case rel => exact ⟨rfl, n + 1, by simp, by omega⟩
end Go.Proofs.YtbhmmcelndmijaaGreat
