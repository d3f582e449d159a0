/-
  BtreeShapes: the law's walk.
-/
import Derived.Test.YtbhmmcelndmijaaGreatKSg
import Derived.Deep.CutBlock
import Derived.Deep.RegionHeld3
import Derived.Deep.DeepCutAuto
namespace Go.Proofs.YtbhmmcelndmijaaGreat
open Go.RowKit Go.Maps
/-- An act, and an act in memory. -/
structure Ac where
  kind : Int
  key : ByteArray
  val : ByteArray
structure AcAt (w : World) (g o : Nat) (a : Ac) : Prop where
  c0 : w.cell? ⟨g, o, none⟩ = some (.int .i64 a.kind)
  c1 : w.cell? ⟨g, o + 1, none⟩ = some (.string a.key)
  c2 : w.cell? ⟨g, o + 2, none⟩ = some (.string a.val)
theorem AcAt.kept {w w' : World} {g o : Nat} {a : Ac} (h : AcAt w g o a) (hg : w.grownBy w' none) : AcAt w' g o a :=
  ⟨Pa.cell_kept hg h.c0, Pa.cell_kept hg h.c1, Pa.cell_kept hg h.c2⟩
/-- shape of a tree that is in memory. -/
theorem shape_root {n : Nat} {d : Nat} {t : Tr d} {g : Lg} {root : Int} (h : StG n (some ⟨d, t⟩) g root) (hn : n ≤ 300) (base lb : Nat) (w : World) (hL : IsLog w base lb g) :
    Calls Tryz.prog 14 #[.pointer (some ⟨lb, 0, none⟩), .int .i64 root, .bool true, .string ⟨#[]⟩, .string ⟨#[]⟩] w (ShP d w) := by
  obtain ⟨h1, p, h2, h3⟩ := h.laid
  obtain ⟨q1, q2, q3⟩ := h.good
  have hd : d ≤ 4 := h.deep hn
  exact shape_any base lb g h.ok (by have := h.cnt; omega) d t p root none none true (by omega) q1 h.all h2 h3 (fun e => by cases e) q2 w hL
theorem StM.drew {base b lb : Nat} {g : Lg} {root : Int} {W : World} (h : StM base b lb g root W) : StM base b lb g root W.drew := h.kept (grown_drew (grown_refl _ _))
set_option maxRecDepth 100000 in
set_option maxHeartbeats 40000000 in
theorem shapes_law (pa : Option Addr) (n cap g o : Nat) (A : Nat → Ac) (w : World) (hp : 0 < n → pa = some ⟨g, o, none⟩) (hA : ∀ j, j < n → AcAt w g (o + j * 3) (A j)) (hn : n ≤ 9223372036854775807) : Calls Tryz.prog 4 #[.slice pa n cap] w fun e w' => e = .returned (.bool true) ∧ w.grownBy w' none := by
  have C7 := hid (fresh_any w)
  have C8 : Hid (∀ W, Calls Tryz.prog 8 #[] W fun e w' => e = .returned (.bool true) ∧ W.grownBy w' none) := fun W => awake_any W
  have HP := hid hp
  have HA := hid hA
  clear hp hA
  go_enter Tryz.func4, Tryz.ntmps4
  go_wp2_with (first
    | (go_at_call 7; refine C7.out.mono ?_; rintro e w1 ⟨b, lb, d, rfl, hb, t1, l1, g1⟩; have M1 : Hid (StM w.heap.size b lb (newL d) (-1) w1) := ⟨t1, l1⟩; have G1 := hid g1; have HB := hid hb; clear t1 l1 g1 hb C7)
    | (go_at_call 8; refine (C8.out _).mono ?_; rintro e w2 ⟨rfl, g2⟩; have M2 := hid (M1.out.kept g2); have G2 := hid (grown_none G1.out g2); clear g2 C8))
  have S0 := hid (st_new d)
  go_loopg [6] (min n 300) (fun gk s6 wr => ∃ (i : Nat) (r : Rt) (gl : Lg) (root : Int), s6 = .int .i64 i ∧ i + gk = min n 300 ∧ StG i r gl root ∧ StM w.heap.size b lb gl root wr ∧ w.grownBy wr none)
  case atStart => exact ⟨0, none, newL d, -1, rfl, by omega, S0.out, M2.out, G2.out⟩
  case round =>
    obtain ⟨i, r, gl, root, rfl, hi, hs, hm, hg⟩ := hrel
    have S3 := hid hs
    have M3 := hid hm
    have G3 := hid hg
    clear hs hm hg M1 M2 G1 G2 S0
    have j0 : (0 : Int) ≤ (i : Int) := by omega
    cases gk with
    | zero =>
      by_cases hl : i < n
      · have j1 : (i : Int) < n := by omega
        have j2 : ¬ ((i : Int) < 300) := by omega
        go_wp2_with fail
        go_ret
        exact ⟨rfl, G3.out⟩
      · have j1 : ¬ ((i : Int) < n) := by omega
        go_wp2_with fail
        go_ret
        exact ⟨rfl, G3.out⟩
    | succ gk =>
      have j1 : (i : Int) < n := by omega
      have j2 : (i : Int) < 300 := by omega
      have j3 : (i : Int).toNat = i := by omega
      obtain rfl := HP.out (by omega)
      have wi : IntKind.i64.wrap ((i : Int) + 1) = (i : Int) + 1 := by rw [IntKind.wrap_i64]; omega
      obtain ⟨L, wn⟩ : ∃ L, IntKind.i64.wrap ((n : Int) - 1) = L := ⟨_, rfl⟩
      have ax := HA.out i (by omega)
      generalize A i = x at *
      obtain ⟨kd, key, val⟩ := x
      have AX := hid ax
      obtain ⟨a0, a1, a2'⟩ := ax.kept G3.out
      clear ax HA HP
      simp only [] at a0 a1 a2'
      by_cases hk3 : kd = 3
      · subst hk3
        obtain ⟨r2, g2, a2, s5, _, _, hc⟩ := StG.del S3.out (by omega) w.heap.size b lb key
        have S5 := hid s5
        have C12 := hid (hc wr M3.out)
        clear s5 hc
        go_upto_region 10 with (first
          | (go_at_call 12; refine C12.out.mono ?_; rintro e w5 ⟨rfl, m5, tt⟩; have M5 := hid m5; have G5 := hid (TT.grown G3.out tt HB.out); clear m5 tt))
        clear C12 a0 a1 a2' S3 M3 G3
        by_cases c8 : (i : Int) % 8 = 0
        · have q8 : ((i : Int) % 8 = 0) = True := eq_true c8
          clear c8
          cases r2 with
          | none =>
            have hr : a2 = -1 := S5.out.laid
            subst hr
            have C11 : Hid (Calls Tryz.prog 11 #[.pointer (some ⟨b, 0, none⟩)] w5 fun e w' => e = .returned (.int .i64 (-1)) ∧ w5.grownBy w' none) := root_any b lb (-1) w5 M5.out.tree
            go_wp2_with (first
              | (go_at_call 11; refine C11.out.mono ?_; rintro e w6 ⟨rfl, hg⟩; have GM := hid (M5.out.kept hg); have GW := hid (grown_none G5.out hg); clear hg))
            go_roundg gk
            case measure => omega
            case rel => exact ⟨i + 1, none, g2, -1, by simp, by omega, S5.out, GM.out, GW.out⟩
          | some x =>
            obtain ⟨dd, tt⟩ := x
            have hr : 0 ≤ a2 := S5.out.laid.1.1
            have C11 : Hid (∀ W, w5.grownBy W none → Calls Tryz.prog 11 #[.pointer (some ⟨b, 0, none⟩)] W fun e w' => e = .returned (.int .i64 a2) ∧ W.grownBy w' none) := fun W hW => root_any b lb a2 W (M5.out.kept hW).tree
            have C14 : Hid (∀ W, w5.grownBy W none → Calls Tryz.prog 14 #[.pointer (some ⟨lb, 0, none⟩), .int .i64 a2, .bool true, .string ⟨#[]⟩, .string ⟨#[]⟩] W fun e w' => e = .returned (.int .i64 (dd + 1 : Nat)) ∧ W.grownBy w' none) := fun W hW => shape_root S5.out (by omega) w.heap.size lb W (M5.out.kept hW).log
            have hd : ¬ (((dd + 1 : Nat) : Int) < 0) := by omega
            generalize dd + 1 = D at *
            have GZ := hid (grown_refl w5 none)
            go_wp2_with (first
              | (go_at_call 11; refine (C11.out _ GZ.out).mono ?_; rintro e w6 ⟨rfl, hg⟩; replace GZ := hid (grown_none GZ.out hg); clear hg)
              | (go_at_call 14; refine (C14.out _ GZ.out).mono ?_; rintro e w7 ⟨rfl, hg⟩; replace GZ := hid (grown_none GZ.out hg); clear hg))
            go_roundg gk
            case measure => omega
            case rel => exact ⟨i + 1, some ⟨dd, tt⟩, g2, a2, by simp, by omega, S5.out, M5.out.kept GZ.out, grown_none G5.out GZ.out⟩
        · have q8 : ((i : Int) % 8 = 0) = False := eq_false c8
          clear c8
          by_cases cn : (i : Int) = L
          · have q9 : ((i : Int) = L) = True := eq_true cn
            clear cn
            cases r2 with
            | none =>
              have hr : a2 = -1 := S5.out.laid
              subst hr
              have C11 : Hid (Calls Tryz.prog 11 #[.pointer (some ⟨b, 0, none⟩)] w5 fun e w' => e = .returned (.int .i64 (-1)) ∧ w5.grownBy w' none) := root_any b lb (-1) w5 M5.out.tree
              go_wp2_with (first
                | (go_at_call 11; refine C11.out.mono ?_; rintro e w6 ⟨rfl, hg⟩; have GM := hid (M5.out.kept hg); have GW := hid (grown_none G5.out hg); clear hg))
              go_roundg gk
              case measure => omega
              case rel => exact ⟨i + 1, none, g2, -1, by simp, by omega, S5.out, GM.out, GW.out⟩
            | some x =>
              obtain ⟨dd, tt⟩ := x
              have hr : 0 ≤ a2 := S5.out.laid.1.1
              have C11 : Hid (∀ W, w5.grownBy W none → Calls Tryz.prog 11 #[.pointer (some ⟨b, 0, none⟩)] W fun e w' => e = .returned (.int .i64 a2) ∧ W.grownBy w' none) := fun W hW => root_any b lb a2 W (M5.out.kept hW).tree
              have C14 : Hid (∀ W, w5.grownBy W none → Calls Tryz.prog 14 #[.pointer (some ⟨lb, 0, none⟩), .int .i64 a2, .bool true, .string ⟨#[]⟩, .string ⟨#[]⟩] W fun e w' => e = .returned (.int .i64 (dd + 1 : Nat)) ∧ W.grownBy w' none) := fun W hW => shape_root S5.out (by omega) w.heap.size lb W (M5.out.kept hW).log
              have hd : ¬ (((dd + 1 : Nat) : Int) < 0) := by omega
              generalize dd + 1 = D at *
              have GZ := hid (grown_refl w5 none)
              go_wp2_with (first
                | (go_at_call 11; refine (C11.out _ GZ.out).mono ?_; rintro e w6 ⟨rfl, hg⟩; replace GZ := hid (grown_none GZ.out hg); clear hg)
                | (go_at_call 14; refine (C14.out _ GZ.out).mono ?_; rintro e w7 ⟨rfl, hg⟩; replace GZ := hid (grown_none GZ.out hg); clear hg))
              go_roundg gk
              case measure => omega
              case rel => exact ⟨i + 1, some ⟨dd, tt⟩, g2, a2, by simp, by omega, S5.out, M5.out.kept GZ.out, grown_none G5.out GZ.out⟩
          · have q9 : ((i : Int) = L) = False := eq_false cn
            clear cn
            have GM := M5
            have GW := G5
            go_wp2_with fail
            go_roundg gk
            case measure => omega
            case rel => exact ⟨i + 1, r2, g2, a2, by simp, by omega, S5.out, GM.out, GW.out⟩
      · have q3 : (kd == 3) = false := by simpa using hk3
        by_cases hk4 : kd = 4
        · subst hk4
          obtain ⟨r2, g2, a2, s5, _, _, hc⟩ := StG.del S3.out (by omega) w.heap.size b lb key
          have S5 := hid s5
          have C12 := hid (hc wr M3.out)
          clear s5 hc
          go_upto_region 10 with (first
            | (go_at_call 12; refine C12.out.mono ?_; rintro e w5 ⟨rfl, m5, tt⟩; have M5 := hid m5; have G5 := hid (TT.grown G3.out tt HB.out); clear m5 tt))
          clear C12 a0 a1 a2' S3 M3 G3
          by_cases c8 : (i : Int) % 8 = 0
          · have q8 : ((i : Int) % 8 = 0) = True := eq_true c8
            clear c8
            cases r2 with
            | none =>
              have hr : a2 = -1 := S5.out.laid
              subst hr
              have C11 : Hid (Calls Tryz.prog 11 #[.pointer (some ⟨b, 0, none⟩)] w5 fun e w' => e = .returned (.int .i64 (-1)) ∧ w5.grownBy w' none) := root_any b lb (-1) w5 M5.out.tree
              go_wp2_with (first
                | (go_at_call 11; refine C11.out.mono ?_; rintro e w6 ⟨rfl, hg⟩; have GM := hid (M5.out.kept hg); have GW := hid (grown_none G5.out hg); clear hg))
              go_roundg gk
              case measure => omega
              case rel => exact ⟨i + 1, none, g2, -1, by simp, by omega, S5.out, GM.out, GW.out⟩
            | some x =>
              obtain ⟨dd, tt⟩ := x
              have hr : 0 ≤ a2 := S5.out.laid.1.1
              have C11 : Hid (∀ W, w5.grownBy W none → Calls Tryz.prog 11 #[.pointer (some ⟨b, 0, none⟩)] W fun e w' => e = .returned (.int .i64 a2) ∧ W.grownBy w' none) := fun W hW => root_any b lb a2 W (M5.out.kept hW).tree
              have C14 : Hid (∀ W, w5.grownBy W none → Calls Tryz.prog 14 #[.pointer (some ⟨lb, 0, none⟩), .int .i64 a2, .bool true, .string ⟨#[]⟩, .string ⟨#[]⟩] W fun e w' => e = .returned (.int .i64 (dd + 1 : Nat)) ∧ W.grownBy w' none) := fun W hW => shape_root S5.out (by omega) w.heap.size lb W (M5.out.kept hW).log
              have hd : ¬ (((dd + 1 : Nat) : Int) < 0) := by omega
              generalize dd + 1 = D at *
              have GZ := hid (grown_refl w5 none)
              go_wp2_with (first
                | (go_at_call 11; refine (C11.out _ GZ.out).mono ?_; rintro e w6 ⟨rfl, hg⟩; replace GZ := hid (grown_none GZ.out hg); clear hg)
                | (go_at_call 14; refine (C14.out _ GZ.out).mono ?_; rintro e w7 ⟨rfl, hg⟩; replace GZ := hid (grown_none GZ.out hg); clear hg))
              go_roundg gk
              case measure => omega
              case rel => exact ⟨i + 1, some ⟨dd, tt⟩, g2, a2, by simp, by omega, S5.out, M5.out.kept GZ.out, grown_none G5.out GZ.out⟩
          · have q8 : ((i : Int) % 8 = 0) = False := eq_false c8
            clear c8
            by_cases cn : (i : Int) = L
            · have q9 : ((i : Int) = L) = True := eq_true cn
              clear cn
              cases r2 with
              | none =>
                have hr : a2 = -1 := S5.out.laid
                subst hr
                have C11 : Hid (Calls Tryz.prog 11 #[.pointer (some ⟨b, 0, none⟩)] w5 fun e w' => e = .returned (.int .i64 (-1)) ∧ w5.grownBy w' none) := root_any b lb (-1) w5 M5.out.tree
                go_wp2_with (first
                  | (go_at_call 11; refine C11.out.mono ?_; rintro e w6 ⟨rfl, hg⟩; have GM := hid (M5.out.kept hg); have GW := hid (grown_none G5.out hg); clear hg))
                go_roundg gk
                case measure => omega
                case rel => exact ⟨i + 1, none, g2, -1, by simp, by omega, S5.out, GM.out, GW.out⟩
              | some x =>
                obtain ⟨dd, tt⟩ := x
                have hr : 0 ≤ a2 := S5.out.laid.1.1
                have C11 : Hid (∀ W, w5.grownBy W none → Calls Tryz.prog 11 #[.pointer (some ⟨b, 0, none⟩)] W fun e w' => e = .returned (.int .i64 a2) ∧ W.grownBy w' none) := fun W hW => root_any b lb a2 W (M5.out.kept hW).tree
                have C14 : Hid (∀ W, w5.grownBy W none → Calls Tryz.prog 14 #[.pointer (some ⟨lb, 0, none⟩), .int .i64 a2, .bool true, .string ⟨#[]⟩, .string ⟨#[]⟩] W fun e w' => e = .returned (.int .i64 (dd + 1 : Nat)) ∧ W.grownBy w' none) := fun W hW => shape_root S5.out (by omega) w.heap.size lb W (M5.out.kept hW).log
                have hd : ¬ (((dd + 1 : Nat) : Int) < 0) := by omega
                generalize dd + 1 = D at *
                have GZ := hid (grown_refl w5 none)
                go_wp2_with (first
                  | (go_at_call 11; refine (C11.out _ GZ.out).mono ?_; rintro e w6 ⟨rfl, hg⟩; replace GZ := hid (grown_none GZ.out hg); clear hg)
                  | (go_at_call 14; refine (C14.out _ GZ.out).mono ?_; rintro e w7 ⟨rfl, hg⟩; replace GZ := hid (grown_none GZ.out hg); clear hg))
                go_roundg gk
                case measure => omega
                case rel => exact ⟨i + 1, some ⟨dd, tt⟩, g2, a2, by simp, by omega, S5.out, M5.out.kept GZ.out, grown_none G5.out GZ.out⟩
            · have q9 : ((i : Int) = L) = False := eq_false cn
              clear cn
              have GM := M5
              have GW := G5
              go_wp2_with fail
              go_roundg gk
              case measure => omega
              case rel => exact ⟨i + 1, r2, g2, a2, by simp, by omega, S5.out, GM.out, GW.out⟩
        · have q4 : (kd == 4) = false := by simpa using hk4
          by_cases hmay : KeyOk key ∧ ValOk val
          · obtain ⟨g2, a2, s5, _, hc⟩ := StG.put S3.out (by omega) w.heap.size b lb key val hmay.1 hmay.2
            have S5 := hid s5
            have C13 : Hid (∀ W, StM w.heap.size b lb gl root W → Calls Tryz.prog 13 #[.pointer (some ⟨b, 0, none⟩), .string key, .string val] W (StP (.int .i64 0) w.heap.size b lb g2 a2 W)) := hc
            clear s5 hc hmay
            generalize Bt.putR kl key val r = r2 at *
            go_upto_region 9 with fail
            go_cut [60] (fun _ wx => StM w.heap.size b lb g2 a2 wx ∧ w.grownBy wx none)
            case first =>
              have SS : Hid (∀ W, w.grownBy W none → W.cell? ⟨g, o + i * 3 + 1, none⟩ = some (.string key) ∧ W.cell? ⟨g, o + i * 3 + 2, none⟩ = some (.string val)) := fun W hW => by
                obtain ⟨_, x1, x2⟩ := AX.out.kept hW
                exact ⟨x1, x2⟩
              obtain ⟨y1, y2⟩ := SS.out wr G3.out
              clear a0 a1 a2'
              go_region_held3 (fun V => V.cell? ⟨g, o + i * 3 + 1, none⟩ = some (.string key) ∧ V.cell? ⟨g, o + i * 3 + 2, none⟩ = some (.string val)) (first | assumption | exact SS.out _ (grown_drew G3.out) | go_keep) (first
                | (go_at_call 13; refine (C13.out _ ?gg).mono ?_; (case gg => exact StM.drew M3.out); rintro e w5 ⟨rfl, m5, tt⟩; have M5 := hid m5; have G5 := hid (TT.grown (grown_drew G3.out) tt HB.out); have SK := SS.out w5 G5.out; clear m5 tt))
              all_goals
                (try go_wp2_with fail)
                go_meet
                exact ⟨M5.out, G5.out⟩
            case rest =>
              obtain ⟨m5, g5⟩ := hcut
              have M5 := hid m5
              have G5 := hid g5
              clear m5 g5 a0 a1 a2' S3 M3 G3 C13
              generalize wc = w5 at *
              by_cases c8 : (i : Int) % 8 = 0
              · have q8 : ((i : Int) % 8 = 0) = True := eq_true c8
                clear c8
                cases r2 with
                | none =>
                  have hr : a2 = -1 := S5.out.laid
                  subst hr
                  have C11 : Hid (Calls Tryz.prog 11 #[.pointer (some ⟨b, 0, none⟩)] w5 fun e w' => e = .returned (.int .i64 (-1)) ∧ w5.grownBy w' none) := root_any b lb (-1) w5 M5.out.tree
                  go_wp2_with (first
                    | (go_at_call 11; refine C11.out.mono ?_; rintro e w6 ⟨rfl, hg⟩; have GM := hid (M5.out.kept hg); have GW := hid (grown_none G5.out hg); clear hg))
                  go_roundg gk
                  case measure => omega
                  case rel => exact ⟨i + 1, none, g2, -1, by simp, by omega, S5.out, GM.out, GW.out⟩
                | some x =>
                  obtain ⟨dd, tt⟩ := x
                  have hr : 0 ≤ a2 := S5.out.laid.1.1
                  have C11 : Hid (∀ W, w5.grownBy W none → Calls Tryz.prog 11 #[.pointer (some ⟨b, 0, none⟩)] W fun e w' => e = .returned (.int .i64 a2) ∧ W.grownBy w' none) := fun W hW => root_any b lb a2 W (M5.out.kept hW).tree
                  have C14 : Hid (∀ W, w5.grownBy W none → Calls Tryz.prog 14 #[.pointer (some ⟨lb, 0, none⟩), .int .i64 a2, .bool true, .string ⟨#[]⟩, .string ⟨#[]⟩] W fun e w' => e = .returned (.int .i64 (dd + 1 : Nat)) ∧ W.grownBy w' none) := fun W hW => shape_root S5.out (by omega) w.heap.size lb W (M5.out.kept hW).log
                  have hd : ¬ (((dd + 1 : Nat) : Int) < 0) := by omega
                  generalize dd + 1 = D at *
                  have GZ := hid (grown_refl w5 none)
                  go_wp2_with (first
                    | (go_at_call 11; refine (C11.out _ GZ.out).mono ?_; rintro e w6 ⟨rfl, hg⟩; replace GZ := hid (grown_none GZ.out hg); clear hg)
                    | (go_at_call 14; refine (C14.out _ GZ.out).mono ?_; rintro e w7 ⟨rfl, hg⟩; replace GZ := hid (grown_none GZ.out hg); clear hg))
                  go_roundg gk
                  case measure => omega
                  case rel => exact ⟨i + 1, some ⟨dd, tt⟩, g2, a2, by simp, by omega, S5.out, M5.out.kept GZ.out, grown_none G5.out GZ.out⟩
              · have q8 : ((i : Int) % 8 = 0) = False := eq_false c8
                clear c8
                by_cases cn : (i : Int) = L
                · have q9 : ((i : Int) = L) = True := eq_true cn
                  clear cn
                  cases r2 with
                  | none =>
                    have hr : a2 = -1 := S5.out.laid
                    subst hr
                    have C11 : Hid (Calls Tryz.prog 11 #[.pointer (some ⟨b, 0, none⟩)] w5 fun e w' => e = .returned (.int .i64 (-1)) ∧ w5.grownBy w' none) := root_any b lb (-1) w5 M5.out.tree
                    go_wp2_with (first
                      | (go_at_call 11; refine C11.out.mono ?_; rintro e w6 ⟨rfl, hg⟩; have GM := hid (M5.out.kept hg); have GW := hid (grown_none G5.out hg); clear hg))
                    go_roundg gk
                    case measure => omega
                    case rel => exact ⟨i + 1, none, g2, -1, by simp, by omega, S5.out, GM.out, GW.out⟩
                  | some x =>
                    obtain ⟨dd, tt⟩ := x
                    have hr : 0 ≤ a2 := S5.out.laid.1.1
                    have C11 : Hid (∀ W, w5.grownBy W none → Calls Tryz.prog 11 #[.pointer (some ⟨b, 0, none⟩)] W fun e w' => e = .returned (.int .i64 a2) ∧ W.grownBy w' none) := fun W hW => root_any b lb a2 W (M5.out.kept hW).tree
                    have C14 : Hid (∀ W, w5.grownBy W none → Calls Tryz.prog 14 #[.pointer (some ⟨lb, 0, none⟩), .int .i64 a2, .bool true, .string ⟨#[]⟩, .string ⟨#[]⟩] W fun e w' => e = .returned (.int .i64 (dd + 1 : Nat)) ∧ W.grownBy w' none) := fun W hW => shape_root S5.out (by omega) w.heap.size lb W (M5.out.kept hW).log
                    have hd : ¬ (((dd + 1 : Nat) : Int) < 0) := by omega
                    generalize dd + 1 = D at *
                    have GZ := hid (grown_refl w5 none)
                    go_wp2_with (first
                      | (go_at_call 11; refine (C11.out _ GZ.out).mono ?_; rintro e w6 ⟨rfl, hg⟩; replace GZ := hid (grown_none GZ.out hg); clear hg)
                      | (go_at_call 14; refine (C14.out _ GZ.out).mono ?_; rintro e w7 ⟨rfl, hg⟩; replace GZ := hid (grown_none GZ.out hg); clear hg))
                    go_roundg gk
                    case measure => omega
                    case rel => exact ⟨i + 1, some ⟨dd, tt⟩, g2, a2, by simp, by omega, S5.out, M5.out.kept GZ.out, grown_none G5.out GZ.out⟩
                · have q9 : ((i : Int) = L) = False := eq_false cn
                  clear cn
                  have GM := M5
                  have GW := G5
                  go_wp2_with fail
                  go_roundg gk
                  case measure => omega
                  case rel => exact ⟨i + 1, r2, g2, a2, by simp, by omega, S5.out, GM.out, GW.out⟩
          · have S5 := hid (StG.mono S3.out)
            have C13 : Hid (∀ W, StM w.heap.size b lb gl root W → Calls Tryz.prog 13 #[.pointer (some ⟨b, 0, none⟩), .string key, .string val] W (StP (.int .i64 1) w.heap.size b lb gl root W)) := StG.putNo S3.out w.heap.size b lb key val hmay
            clear hmay
            go_upto_region 9 with fail
            go_cut [60] (fun _ wx => StM w.heap.size b lb gl root wx ∧ w.grownBy wx none)
            case first =>
              have SS : Hid (∀ W, w.grownBy W none → W.cell? ⟨g, o + i * 3 + 1, none⟩ = some (.string key) ∧ W.cell? ⟨g, o + i * 3 + 2, none⟩ = some (.string val)) := fun W hW => by
                obtain ⟨_, x1, x2⟩ := AX.out.kept hW
                exact ⟨x1, x2⟩
              obtain ⟨y1, y2⟩ := SS.out wr G3.out
              clear a0 a1 a2'
              go_region_held3 (fun V => V.cell? ⟨g, o + i * 3 + 1, none⟩ = some (.string key) ∧ V.cell? ⟨g, o + i * 3 + 2, none⟩ = some (.string val)) (first | assumption | exact SS.out _ (grown_drew G3.out) | go_keep) (first
                | (go_at_call 13; refine (C13.out _ ?gg).mono ?_; (case gg => exact StM.drew M3.out); rintro e w5 ⟨rfl, m5, tt⟩; have M5 := hid m5; have G5 := hid (TT.grown (grown_drew G3.out) tt HB.out); have SK := SS.out w5 G5.out; clear m5 tt))
              all_goals
                (try go_wp2_with fail)
                go_meet
                exact ⟨M5.out, G5.out⟩
            case rest =>
              obtain ⟨m5, g5⟩ := hcut
              have M5 := hid m5
              have G5 := hid g5
              clear m5 g5 a0 a1 a2' S3 M3 G3 C13
              generalize wc = w5 at *
              by_cases c8 : (i : Int) % 8 = 0
              · have q8 : ((i : Int) % 8 = 0) = True := eq_true c8
                clear c8
                cases r with
                | none =>
                  have hr : root = -1 := S5.out.laid
                  subst hr
                  have C11 : Hid (Calls Tryz.prog 11 #[.pointer (some ⟨b, 0, none⟩)] w5 fun e w' => e = .returned (.int .i64 (-1)) ∧ w5.grownBy w' none) := root_any b lb (-1) w5 M5.out.tree
                  go_wp2_with (first
                    | (go_at_call 11; refine C11.out.mono ?_; rintro e w6 ⟨rfl, hg⟩; have GM := hid (M5.out.kept hg); have GW := hid (grown_none G5.out hg); clear hg))
                  go_roundg gk
                  case measure => omega
                  case rel => exact ⟨i + 1, none, gl, -1, by simp, by omega, S5.out, GM.out, GW.out⟩
                | some x =>
                  obtain ⟨dd, tt⟩ := x
                  have hr : 0 ≤ root := S5.out.laid.1.1
                  have C11 : Hid (∀ W, w5.grownBy W none → Calls Tryz.prog 11 #[.pointer (some ⟨b, 0, none⟩)] W fun e w' => e = .returned (.int .i64 root) ∧ W.grownBy w' none) := fun W hW => root_any b lb root W (M5.out.kept hW).tree
                  have C14 : Hid (∀ W, w5.grownBy W none → Calls Tryz.prog 14 #[.pointer (some ⟨lb, 0, none⟩), .int .i64 root, .bool true, .string ⟨#[]⟩, .string ⟨#[]⟩] W fun e w' => e = .returned (.int .i64 (dd + 1 : Nat)) ∧ W.grownBy w' none) := fun W hW => shape_root S5.out (by omega) w.heap.size lb W (M5.out.kept hW).log
                  have hd : ¬ (((dd + 1 : Nat) : Int) < 0) := by omega
                  generalize dd + 1 = D at *
                  have GZ := hid (grown_refl w5 none)
                  go_wp2_with (first
                    | (go_at_call 11; refine (C11.out _ GZ.out).mono ?_; rintro e w6 ⟨rfl, hg⟩; replace GZ := hid (grown_none GZ.out hg); clear hg)
                    | (go_at_call 14; refine (C14.out _ GZ.out).mono ?_; rintro e w7 ⟨rfl, hg⟩; replace GZ := hid (grown_none GZ.out hg); clear hg))
                  go_roundg gk
                  case measure => omega
                  case rel => exact ⟨i + 1, some ⟨dd, tt⟩, gl, root, by simp, by omega, S5.out, M5.out.kept GZ.out, grown_none G5.out GZ.out⟩
              · have q8 : ((i : Int) % 8 = 0) = False := eq_false c8
                clear c8
                by_cases cn : (i : Int) = L
                · have q9 : ((i : Int) = L) = True := eq_true cn
                  clear cn
                  cases r with
                  | none =>
                    have hr : root = -1 := S5.out.laid
                    subst hr
                    have C11 : Hid (Calls Tryz.prog 11 #[.pointer (some ⟨b, 0, none⟩)] w5 fun e w' => e = .returned (.int .i64 (-1)) ∧ w5.grownBy w' none) := root_any b lb (-1) w5 M5.out.tree
                    go_wp2_with (first
                      | (go_at_call 11; refine C11.out.mono ?_; rintro e w6 ⟨rfl, hg⟩; have GM := hid (M5.out.kept hg); have GW := hid (grown_none G5.out hg); clear hg))
                    go_roundg gk
                    case measure => omega
                    case rel => exact ⟨i + 1, none, gl, -1, by simp, by omega, S5.out, GM.out, GW.out⟩
                  | some x =>
                    obtain ⟨dd, tt⟩ := x
                    have hr : 0 ≤ root := S5.out.laid.1.1
                    have C11 : Hid (∀ W, w5.grownBy W none → Calls Tryz.prog 11 #[.pointer (some ⟨b, 0, none⟩)] W fun e w' => e = .returned (.int .i64 root) ∧ W.grownBy w' none) := fun W hW => root_any b lb root W (M5.out.kept hW).tree
                    have C14 : Hid (∀ W, w5.grownBy W none → Calls Tryz.prog 14 #[.pointer (some ⟨lb, 0, none⟩), .int .i64 root, .bool true, .string ⟨#[]⟩, .string ⟨#[]⟩] W fun e w' => e = .returned (.int .i64 (dd + 1 : Nat)) ∧ W.grownBy w' none) := fun W hW => shape_root S5.out (by omega) w.heap.size lb W (M5.out.kept hW).log
                    have hd : ¬ (((dd + 1 : Nat) : Int) < 0) := by omega
                    generalize dd + 1 = D at *
                    have GZ := hid (grown_refl w5 none)
                    go_wp2_with (first
                      | (go_at_call 11; refine (C11.out _ GZ.out).mono ?_; rintro e w6 ⟨rfl, hg⟩; replace GZ := hid (grown_none GZ.out hg); clear hg)
                      | (go_at_call 14; refine (C14.out _ GZ.out).mono ?_; rintro e w7 ⟨rfl, hg⟩; replace GZ := hid (grown_none GZ.out hg); clear hg))
                    go_roundg gk
                    case measure => omega
                    case rel => exact ⟨i + 1, some ⟨dd, tt⟩, gl, root, by simp, by omega, S5.out, M5.out.kept GZ.out, grown_none G5.out GZ.out⟩
                · have q9 : ((i : Int) = L) = False := eq_false cn
                  clear cn
                  have GM := M5
                  have GW := G5
                  go_wp2_with fail
                  go_roundg gk
                  case measure => omega
                  case rel => exact ⟨i + 1, r, gl, root, by simp, by omega, S5.out, GM.out, GW.out⟩
end Go.Proofs.YtbhmmcelndmijaaGreat
