/-
  WalFull: the law's own walk.
-/
import Derived.Test.YtddnjlnnkeiplaaKFlc
import Derived.Deep.DeepCutAuto
namespace Go.Proofs.Ytddnjlnnkeiplaa
open Go.RowKit Go.Maps
set_option maxRecDepth 100000 in
set_option maxHeartbeats 100000000 in
theorem full_law (pa : Option Addr) (n cap xb xo : Nat) (S : Nat → ByteArray) (room : Int) (w : World) (hpa : 0 < n → pa = some ⟨xb, xo, none⟩) (hc : ∀ j, j < n → w.cell? ⟨xb, xo + j, none⟩ = some (.string (S j))) (hn : n ≤ 9223372036854775807) :
    Calls Try.prog 6 #[.slice pa n cap, .int .i64 room] w fun e w' => e = .returned (.bool true) ∧ w.grownBy w' none := by
  have C9 := hid (new_any w)
  have PA := hid hpa
  have HC := hid hc
  have O0 := hid (fun W h => open_frames w.heap.size w.heap.size none 0 [] W h rfl (Or.inl rfl) (by decide) (by decide) (by decide) (fun x hx => by cases hx))
  have AW := hid lawake_any
  have CM := hid (fun W b h1 h2 => commit_frames w.heap.size b w.heap.size none 0 [] [] firstB W h1 h2 rfl (by decide) (by decide) (by decide) (Nat.zero_le _))
  have MF := hid mfirst
  have hn' : (n : Int) ≤ 9223372036854775807 := by omega
  clear hpa hc
  obtain ⟨r, hr, r0, r1⟩ : ∃ r : Int, ((room < 0 ∧ r = 40) ∨ (¬ room < 0 ∧ 1000 < room ∧ r = 40) ∨ (¬ room < 0 ∧ ¬ 1000 < room ∧ r = room)) ∧ 0 ≤ r ∧ r ≤ 1000 := by
    by_cases h1 : room < 0
    · exact ⟨40, Or.inl ⟨h1, rfl⟩, by decide, by decide⟩
    · by_cases h2 : 1000 < room
      · exact ⟨40, Or.inr (Or.inl ⟨h1, h2, rfl⟩), by decide, by decide⟩
      · exact ⟨room, Or.inr (Or.inr ⟨h1, h2, rfl⟩), by omega, by omega⟩
  have US := hid (fun W (h : X.IsDisk X.x0 W w.heap.size w.heap.size (Dn (some (bytL [(false, firstB)])) 1)) => X.IsDisk.used h (by decide))
  have RM := hid (fun W (h : X.IsDisk X.x0 W w.heap.size w.heap.size (Dn (some (bytL [(false, firstB)])) 1)) => X.room_x w.heap.size w.heap.size _ (14 + r) W h)
  have e14 : ((sizeF (Dn (some (bytL [(false, firstB)])) 1).now : Nat) : Int) = 14 := by decide
  rw [e14] at US
  have hr2 : decide (0 ≤ 14 + r) = true := by simp; omega
  have HR2 := hid hr2
  clear hr2
  have iw : IntKind.i64.wrap (14 + r) = 14 + r := by rw [IntKind.wrap_i64]; omega
  have hfb : firstB = ⟨#[102, 105, 114, 115, 116]⟩ := rfl
  rcases hr with ⟨hr1, rfl⟩ | ⟨hr1, hr2, rfl⟩ | ⟨hr1, hr2, rfl⟩
  all_goals (
   go_enter Try.func6, Try.ntmps6
   go_wp2_with (first
    | (go_at_call 34; refine (US.out _ (X.of_plain (D5.out.kept (grown_alloc (grown_refl _ _) _)))).mono ?_; rintro e w6 ⟨rfl, g6⟩; have D6 := hid ((D5.out.kept (grown_alloc (grown_refl _ _) _)).kept g6); have L6 := hid ((L5.out.kept (grown_alloc (grown_refl _ _) _)).kept g6); have B6 := hid ((Blk.new w5 32 _).kept g6 (by simp)); have R6 := hid ((R5.out.none (grown_alloc (grown_refl _ _) _)).none g6); have G6 := hid (grown_none (grown_alloc G5.out _) g6); clear g6 US)
    | (go_at_call 33; refine (RM.out _ (X.of_plain D6.out)).mono ?_; rintro e w7 ⟨rfl, d7, g7⟩; have D7 := hid d7; obtain ⟨cd, hcd⟩ := D6.out.blk; have L7 := hid (L6.out.keptD hcd (Tend.of_self (base := w.heap.size) g7 (Nat.le_refl _))); have B7 := hid (B6.out.kept g7 (fun e => by have := Option.some.inj e; omega)); have R7 := hid (rowG_kept R6.out hcd (by decide) g7); have G7 := hid (Low.grown G6.out (self_low (base := w.heap.size) g7 (Nat.le_refl _) ⟨_, hcd⟩)); clear d7 g7 hcd RM)
    | (go_at_call 9; refine C9.out.mono ?_; rintro e w1 ⟨rfl, d1, g1⟩; have D1 : Hid (IsDisk w1 w.heap.size w.heap.size (Dn none 0)) := hid d1; have G1 := hid g1; clear d1 g1 C9)
    | (go_at_call 10; refine (O0.out _ D1.out).mono ?_; rintro e w2 ⟨b, rfl, hb2, l2, d2, t2⟩; have L2 := hid l2; have D2 := hid d2; have G2 := hid (Low.grown G1.out t2); clear l2 d2 t2 O0)
    | (go_at_call 11; refine (AW.out _).mono ?_; rintro e w3 ⟨rfl, g3⟩; have L3 := hid (L2.out.kept g3); have D3 := hid (D2.out.kept g3); have G3 := hid (grown_none G2.out g3); have hw3 : w.heap.size < w3.heap.size := D3.out.lt; clear g3 AW)
    | (go_at_call 13; refine (CM.out _ _ L3.out D3.out).mono ?_; rintro e w4 ⟨rfl, l4, d4, t4⟩; have L4 : Hid (IsLog w4 w.heap.size b (logP w.heap.size [(false, firstB)] [])) := hid l4; have D4 : Hid (IsDisk w4 w.heap.size w.heap.size (Dn (some (bytL [(false, firstB)])) 1)) := hid d4; have G4 := hid (Low.grown G3.out t4); clear l4 d4 t4 CM)
    | (go_at_call 15; refine (MF.out _).mono ?_; rintro e w5 ⟨p5, c5, rfl, r5, g5⟩; have R5 := hid r5; have L5 := hid (L4.out.kept g5); have D5 := hid (D4.out.kept g5); have G5 := hid (grown_none G4.out g5); have hw5 : w.heap.size < w5.heap.size := D5.out.lt; clear r5 g5 MF))
   obtain ⟨xt, hxt⟩ : ∃ xt, FuI w xt w5.heap.size 0 b w7 [(false, firstB)] (some (bytL [(false, firstB)])) 1 1 (.slice p5 0 c5) := ⟨_, FuI.start _ ⟨rfl, rfl, rfl⟩ L7.out D7.out G7.out hw5 B7.out R7.out⟩
   have ST := hid hxt
   clear hxt L7 D7 G7 B7 R7 L6 D6 G6 B6 R6 L5 D5 G5 R5 L4 D4 G4 L3 D3 G3 L2 D2 G2 D1 G1 hb2 HR2 iw e14
   go_loopw [10] (fun iv wr => ∃ (k c mk : Nat) (fr : List Fr) (F : Option ByteArray) (sv : Value), k ≤ n ∧ k ≤ 30 ∧ iv = .int .i64 k ∧ FuI w xt w5.heap.size k b wr fr F c mk sv) (fun iv _ => n - (intOf iv).toNat)
   case atStart => exact ⟨0, 1, 1, _, _, _, Nat.zero_le _, Nat.zero_le _, rfl, ST.out⟩
   case round =>
     obtain ⟨k, c, mk, fr, F, sv, hk, hk30, rfl, hI⟩ := hrel
     obtain ⟨ps, cs, rfl⟩ := hI.sure.form
     have I := hid hI
     have hM : w5.heap.size < wr.heap.size := hI.blk.lt
     clear hI ST
     have k0 : (0 : Int) ≤ k := by omega
     by_cases hlt : k < n ∧ k < 30
     · as_aux_lemma =>
         obtain ⟨hkn, hk3⟩ := hlt
         have k1 : (k : Int) < n := by omega
         have k2 : (k : Int) < 30 := by omega
         have hp := PA.out (by omega)
         subst hp
         have c0 := cell_kept (HC.out k hkn) I.out.grown (fun _ e => by cases e)
         have CW := hid (fun W => few_any (S k) W)
         have hfw := fewS_size (S k)
         clear HC PA
         generalize fewS (S k) = fx at *
         generalize S k = sx at *
         have hby := I.out.bytes
         have hrz := I.out.recsz
         have AP : Hid (∀ W, IsLog W w.heap.size b (logP w.heap.size fr []) → Calls Try.prog 22 #[.pointer (some ⟨b, 0, none⟩), .string fx] W fun e w' => e = .returned (.tuple #[.int .i64 (bytL fr).size, .int .i64 0]) ∧ IsLog w' w.heap.size b (logP w.heap.size fr [fx]) ∧ LT w.heap.size b W w') := hid (fun W h => append_frames w.heap.size b w.heap.size fr [] fx W h hfw (by rw [List.map_nil, List.append_nil]; omega) (by show (frG w.heap.size (fr ++ [])).recs.length ≤ _; rw [List.append_nil]; omega))
         have CF : Hid (∀ W, Calls Try.prog 23 #[.string fx] W fun e w' => e = .returned (.int .i64 (fx.size + 9 : Nat)) ∧ W.grownBy w' none) := hid (fun W => lframe_any fx W (by omega))
         have hcs := com_size fr fx
         obtain ⟨lg, hlg⟩ : ∃ lg, lg = (bytL (fr ++ List.map recF [fx] ++ [(false, rB)])).size := ⟨_, rfl⟩
         obtain ⟨mf, hmf⟩ : ∃ mf, mf = fx.size + 9 := ⟨_, rfl⟩
         rw [← hmf] at CF
         obtain ⟨mk1, hmk1⟩ : ∃ mk1, mk1 = mk + 1 := ⟨_, rfl⟩
         have CC0 := hid (fun W h1 h2 => X.commit_frames (xt := xt) w.heap.size b w.heap.size F c fr [fx] rB W h1 h2 I.out.file (by decide) (by rw [bytL_app, ByteArray.size_append, one_bytes]; omega) (by have := I.out.chg; omega) (by have := (fok_all w.heap.size (fr ++ [fx].map recF)).few; rw [List.length_append] at this; have := I.out.cnt; show (frG w.heap.size (fr ++ [fx].map recF)).recs.length ≤ _; simp only [List.length_map, List.length_cons, List.length_nil] at *; omega) I.out.plan)
         have MC := hid (fun W q h1 h2 => mcommit_r (frG w.heap.size fr).recs [((bytL fr).size, fx)] (.slice ps (frG w.heap.size fr).recs.length cs) (.slice (some ⟨q, 0, none⟩) 1 1) (bytL fr).size mf mk lg mk1 (frG w.heap.size fr).root W h1 h2 (by show _ + 1 ≤ _; omega) (by omega) (by omega) (by have := I.out.mks; omega) (by omega) hmk1)
         have US : Hid (∀ W, X.IsDisk xt W w.heap.size w.heap.size (Dn (some (bytL (fr ++ List.map recF [fx] ++ [(false, rB)]))) (c + 1)) → Calls Try.prog 34 #[.pointer (some ⟨w.heap.size, 0, none⟩)] W fun e w' => e = .returned (.int .i64 lg) ∧ W.grownBy w' none) := hid (fun W h => by
           have hz : sizeF (Dn (some (bytL (fr ++ List.map recF [fx] ++ [(false, rB)]))) (c + 1)).now = lg := by rw [hlg]; exact X.size_fs (some _)
           have := X.IsDisk.used h (by rw [hz]; omega)
           rw [hz] at this
           exact this)
         have y0 := I.out.blk.cell 0
         have y1 := I.out.blk.cell 1
         have y2 := I.out.blk.cell 2
         have y3 := I.out.blk.cell 3
         have y4 := I.out.blk.cell 4
         have y5 := I.out.blk.cell 5
         simp [mdlV] at y0 y1 y2 y3 y4 y5
         have l1 : (lg : Int) ≤ 30000 := by omega
         have l2 : ((bytL fr).size : Int) ≤ (lg : Int) := by omega
         have l3 : (0 : Int) ≤ ((bytL fr).size : Int) := by omega
         have HLG := hid hlg
         have HMK := hid hmk1
         have HFW := hid hfw
         clear hlg hmk1 hcs hmf hfw hby hrz
         cases hfull : X.fullB xt fr [fx] rB with
         | true =>
           as_aux_lemma =>
             have CC : Hid (∀ W, IsLog W w.heap.size b (logP w.heap.size fr [fx]) → X.IsDisk xt W w.heap.size w.heap.size (Dn F c) → Calls Try.prog 13 #[.pointer (some ⟨b, 0, none⟩), .string rB] W fun e w' => e = .returned (.int .i64 31) ∧ IsLog w' w.heap.size b (logP w.heap.size fr []) ∧ X.IsDisk xt w' w.heap.size w.heap.size (Dn F c) ∧ Low w.heap.size W w') := hid (fun W h1 h2 => by
               have := CC0.out W h1 h2
               rw [hfull] at this
               exact this)
             clear CC0 hfull US
             go_wp2_with (first
               | (go_at_call 14; refine (CW.out _).mono ?_; rintro e w0 ⟨rfl, hw⟩; have hw2 := hw.symm; clear hw; subst hw2; clear CW)
               | (go_at_call 22
                  refine (AP.out _ I.out.log).mono ?_
                  rintro e w6 ⟨rfl, l6, t6⟩
                  have TL := Low.of_lt t6 I.out.log.blk
                  obtain ⟨_, hbb⟩ := I.out.log.blk
                  have dd := X.IsDisk.keptL I.out.disk hbb t6
                  obtain ⟨o1, o2, o4⟩ := I.out.over TL
                  have L6 := hid l6
                  have D6 := hid dd
                  have B6 := hid o1
                  have S6 := hid o2
                  have G6 := hid o4
                  have hM6 := hid o1.lt
                  have z0 := o1.cell 0
                  have z1 := o1.cell 1
                  have z2 := o1.cell 2
                  have z3 := o1.cell 3
                  have z4 := o1.cell 4
                  have z5 := o1.cell 5
                  simp [mdlV] at z0 z1 z2 z3 z4 z5
                  clear l6 t6 TL o1 o2 o4 AP hbb dd)
               | (go_at_call 23
                  refine (CF.out _).mono ?_
                  rintro e w8 ⟨rfl, g8⟩
                  have g9 : w6.grownBy w8 none := grown_none (grown_alloc (grown_alloc (grown_refl _ _) _) _) g8
                  have N8 := ((Blk.new w6 32 #[.slice ps (frG w.heap.size fr).recs.length cs, .slice none 0 0, .int .i64 (bytL fr).size, .int .i64 0, .string (frG w.heap.size fr).root, .int .i64 mk]).alloc (.cells #[.int .i64 (bytL fr).size, .string fx] 49)).kept g8 (by simp)
                  have r8 : Recs w8 0 (.slice (some ⟨w6.heap.size + 1, 0, none⟩) 1 1) [((bytL fr).size, fx)] := (by
                    have := recs_one (w6.alloc (.cells #[.slice ps (frG w.heap.size fr).recs.length cs, .slice none 0 0, .int .i64 (bytL fr).size, .int .i64 0, .string (frG w.heap.size fr).root, .int .i64 mk] 32)) 0 ((bytL fr).size, fx) (Nat.zero_le _)
                    rw [World.size_alloc] at this
                    exact this.none g8)
                  have x1 := N8.cell 1
                  have x3 := N8.cell 3
                  have v1 := N8.frozen 1
                  have v3 := N8.frozen 3
                  simp at x1 x3
                  have N9 := (N8.set 1 (.slice (some ⟨w6.heap.size + 1, 0, none⟩) 1 1)).set 3 (.int .i64 mf)
                  have H9 := grown_set (grown_set (grown_refl w8 (some w6.heap.size)) 1 (.slice (some ⟨w6.heap.size + 1, 0, none⟩) 1 1)) 3 (.int .i64 mf)
                  have ne6 : some w5.heap.size ≠ some w6.heap.size := (fun e => by have := Option.some.inj e; have := hM6.out; omega)
                  have L9 := hid ((L6.out.kept g9).law N8 H9)
                  have D9 := hid (X.law (D6.out.kept g9) N8 H9)
                  have B9 := hid ((B6.out.kept g9 (by simp)).kept H9 ne6)
                  have S9 := hid (rowG_kept (S6.out.none g9) N8 (by decide) H9)
                  have R9 := hid (rowG_kept r8 N8 (by decide) H9)
                  have G9 := hid (grown_through (grown_none G6.out g9) H9 G6.out.size)
                  have q0 := N9.cell 0
                  have q1 := N9.cell 1
                  have q2 := N9.cell 2
                  have q3 := N9.cell 3
                  have q4 := N9.cell 4
                  have q5 := N9.cell 5
                  simp at q0 q1 q2 q3 q4 q5
                  have NN9 := hid N9
                  clear g8 g9 N8 N9 H9 r8 CF L6 D6 B6 S6 z0 z1 z2 z3 z4 z5)
               | (go_at_call 15
                  refine (MC.out _ _ S9.out R9.out).mono ?_
                  rintro e w10 ⟨p10, c10, rfl, r10, g10⟩
                  have N10 := NN9.out.kept g10 (by simp)
                  have m0 := N10.cell 0
                  have m1 := N10.cell 1
                  have m2 := N10.cell 2
                  have m3 := N10.cell 3
                  have m4 := N10.cell 4
                  have m5 := N10.cell 5
                  have t0 := N10.frozen 0
                  have t1 := N10.frozen 1
                  have t2 := N10.frozen 2
                  have t3 := N10.frozen 3
                  have t4 := N10.frozen 4
                  have t5 := N10.frozen 5
                  simp at m0 m1 m2 m3 m4 m5
                  have N11 := (((((N10.set 0 (.slice p10 ((frG w.heap.size fr).recs.length + 1) c10)).set 1 (.slice none 0 0)).set 2 (.int .i64 lg)).set 3 (.int .i64 0)).set 4 (.string rB)).set 5 (.int .i64 mk1)
                  have H11 := grown_set (grown_set (grown_set (grown_set (grown_set (grown_set (grown_refl w10 (some w6.heap.size)) 0 (.slice p10 ((frG w.heap.size fr).recs.length + 1) c10)) 1 (.slice none 0 0)) 2 (.int .i64 lg)) 3 (.int .i64 0)) 4 (.string rB)) 5 (.int .i64 mk1)
                  have ne6 : some w5.heap.size ≠ some w6.heap.size := (fun e => by have := Option.some.inj e; have := hM6.out; omega)
                  have L11 := hid ((L9.out.kept g10).law N10 H11)
                  have D11 := hid (X.law (D9.out.kept g10) N10 H11)
                  have B11 := hid ((B9.out.kept g10 (by simp)).kept H11 ne6)
                  have S11 := hid (rowG_kept (Recs.none S9.out g10) N10 (by decide) H11)
                  have R11 := hid (rowG_kept r10 N10 (by decide) H11)
                  have G11 := hid (grown_through (grown_none G9.out g10) H11 G6.out.size)
                  have NN11 := hid N11
                  clear g10 r10 N10 N11 H11 MC L9 D9 B9 S9 R9 NN9 q0 q1 q2 q3 q4 q5)
               | (go_at_call 13
                  refine (CC.out _ L11.out D11.out).mono ?_
                  rintro e w12 ⟨rfl, l12, d12, t12⟩
                  have L12 := hid l12
                  have D12 := hid d12
                  have B12 := hid (low_blk t12 B11.out ⟨by decide, by decide, by decide, by decide, by decide⟩)
                  have N12 := hid (low_blk t12 NN11.out ⟨by decide, by decide, by decide, by decide, by decide⟩)
                  have S12 := hid (Recs.low S11.out t12)
                  have R12 := hid (Recs.low R11.out t12)
                  have G12 := hid (Low.grown G11.out t12)
                  have PN : Hid (FuI w xt w5.heap.size (k + 1) b w12 fr F c mk (.slice ps (frG w.heap.size fr).recs.length cs)) := hid (FuI.up { I.out with log := l12, disk := d12, blk := B12.out, sure := S12.out, grown := G12.out } (Nat.le_succ k))
                  have E9 := hid (PN.out.same (by omega))
                  have s0 := B12.out.cell 0
                  have s1 := B12.out.cell 1
                  have s2 := B12.out.cell 2
                  have s3 := B12.out.cell 3
                  have s4 := B12.out.cell 4
                  have s5 := B12.out.cell 5
                  simp [mdlV] at s0 s1 s2 s3 s4 s5
                  clear l12 d12 t12 CC L11 D11 B11 NN11 S11 R11)
               | (go_at_call 24; refine E9.out.mono ?_; rintro e w19 ⟨rfl, g19⟩; have P9 := hid (PN.out.kept g19); clear g19 E9))
             go_roundw
             case rel => exact ⟨k + 1, c, mk, fr, F, _, by omega, by omega, by go_num, P9.out⟩
             case measure => simp [intOf]; omega
         | false =>
           as_aux_lemma =>
             have CC : Hid (∀ W, IsLog W w.heap.size b (logP w.heap.size fr [fx]) → X.IsDisk xt W w.heap.size w.heap.size (Dn F c) → Calls Try.prog 13 #[.pointer (some ⟨b, 0, none⟩), .string rB] W fun e w' => e = .returned (.int .i64 0) ∧ IsLog w' w.heap.size b (logP w.heap.size (fr ++ List.map recF [fx] ++ [(false, rB)]) []) ∧ X.IsDisk xt w' w.heap.size w.heap.size (Dn (some (bytL (fr ++ List.map recF [fx] ++ [(false, rB)]))) (c + 1)) ∧ Low w.heap.size W w') := hid (fun W h1 h2 => by
               have := CC0.out W h1 h2
               rw [hfull] at this
               exact this)
             clear CC0 hfull
             have lw : IntKind.i64.wrap ((lg : Int) - ((bytL fr).size : Int)) = (lg : Int) - ((bytL fr).size : Int) := by rw [IntKind.wrap_i64]; omega
             have lw2 : ¬ (lg : Int) - ((bytL fr).size : Int) < 0 := by omega
             go_wp2_with (first
               | (go_at_call 14; refine (CW.out _).mono ?_; rintro e w0 ⟨rfl, hw⟩; have hw2 := hw.symm; clear hw; subst hw2; clear CW)
               | (go_at_call 22
                  refine (AP.out _ I.out.log).mono ?_
                  rintro e w6 ⟨rfl, l6, t6⟩
                  have TL := Low.of_lt t6 I.out.log.blk
                  obtain ⟨_, hbb⟩ := I.out.log.blk
                  have dd := X.IsDisk.keptL I.out.disk hbb t6
                  obtain ⟨o1, o2, o4⟩ := I.out.over TL
                  have L6 := hid l6
                  have D6 := hid dd
                  have B6 := hid o1
                  have S6 := hid o2
                  have G6 := hid o4
                  have hM6 := hid o1.lt
                  have z0 := o1.cell 0
                  have z1 := o1.cell 1
                  have z2 := o1.cell 2
                  have z3 := o1.cell 3
                  have z4 := o1.cell 4
                  have z5 := o1.cell 5
                  simp [mdlV] at z0 z1 z2 z3 z4 z5
                  clear l6 t6 TL o1 o2 o4 AP hbb dd)
               | (go_at_call 23
                  refine (CF.out _).mono ?_
                  rintro e w8 ⟨rfl, g8⟩
                  have g9 : w6.grownBy w8 none := grown_none (grown_alloc (grown_alloc (grown_refl _ _) _) _) g8
                  have N8 := ((Blk.new w6 32 #[.slice ps (frG w.heap.size fr).recs.length cs, .slice none 0 0, .int .i64 (bytL fr).size, .int .i64 0, .string (frG w.heap.size fr).root, .int .i64 mk]).alloc (.cells #[.int .i64 (bytL fr).size, .string fx] 49)).kept g8 (by simp)
                  have r8 : Recs w8 0 (.slice (some ⟨w6.heap.size + 1, 0, none⟩) 1 1) [((bytL fr).size, fx)] := (by
                    have := recs_one (w6.alloc (.cells #[.slice ps (frG w.heap.size fr).recs.length cs, .slice none 0 0, .int .i64 (bytL fr).size, .int .i64 0, .string (frG w.heap.size fr).root, .int .i64 mk] 32)) 0 ((bytL fr).size, fx) (Nat.zero_le _)
                    rw [World.size_alloc] at this
                    exact this.none g8)
                  have x1 := N8.cell 1
                  have x3 := N8.cell 3
                  have v1 := N8.frozen 1
                  have v3 := N8.frozen 3
                  simp at x1 x3
                  have N9 := (N8.set 1 (.slice (some ⟨w6.heap.size + 1, 0, none⟩) 1 1)).set 3 (.int .i64 mf)
                  have H9 := grown_set (grown_set (grown_refl w8 (some w6.heap.size)) 1 (.slice (some ⟨w6.heap.size + 1, 0, none⟩) 1 1)) 3 (.int .i64 mf)
                  have ne6 : some w5.heap.size ≠ some w6.heap.size := (fun e => by have := Option.some.inj e; have := hM6.out; omega)
                  have L9 := hid ((L6.out.kept g9).law N8 H9)
                  have D9 := hid (X.law (D6.out.kept g9) N8 H9)
                  have B9 := hid ((B6.out.kept g9 (by simp)).kept H9 ne6)
                  have S9 := hid (rowG_kept (S6.out.none g9) N8 (by decide) H9)
                  have R9 := hid (rowG_kept r8 N8 (by decide) H9)
                  have G9 := hid (grown_through (grown_none G6.out g9) H9 G6.out.size)
                  have q0 := N9.cell 0
                  have q1 := N9.cell 1
                  have q2 := N9.cell 2
                  have q3 := N9.cell 3
                  have q4 := N9.cell 4
                  have q5 := N9.cell 5
                  simp at q0 q1 q2 q3 q4 q5
                  have NN9 := hid N9
                  clear g8 g9 N8 N9 H9 r8 CF L6 D6 B6 S6 z0 z1 z2 z3 z4 z5)
               | (go_at_call 15
                  refine (MC.out _ _ S9.out R9.out).mono ?_
                  rintro e w10 ⟨p10, c10, rfl, r10, g10⟩
                  have N10 := NN9.out.kept g10 (by simp)
                  have m0 := N10.cell 0
                  have m1 := N10.cell 1
                  have m2 := N10.cell 2
                  have m3 := N10.cell 3
                  have m4 := N10.cell 4
                  have m5 := N10.cell 5
                  have t0 := N10.frozen 0
                  have t1 := N10.frozen 1
                  have t2 := N10.frozen 2
                  have t3 := N10.frozen 3
                  have t4 := N10.frozen 4
                  have t5 := N10.frozen 5
                  simp at m0 m1 m2 m3 m4 m5
                  have N11 := (((((N10.set 0 (.slice p10 ((frG w.heap.size fr).recs.length + 1) c10)).set 1 (.slice none 0 0)).set 2 (.int .i64 lg)).set 3 (.int .i64 0)).set 4 (.string rB)).set 5 (.int .i64 mk1)
                  have H11 := grown_set (grown_set (grown_set (grown_set (grown_set (grown_set (grown_refl w10 (some w6.heap.size)) 0 (.slice p10 ((frG w.heap.size fr).recs.length + 1) c10)) 1 (.slice none 0 0)) 2 (.int .i64 lg)) 3 (.int .i64 0)) 4 (.string rB)) 5 (.int .i64 mk1)
                  have ne6 : some w5.heap.size ≠ some w6.heap.size := (fun e => by have := Option.some.inj e; have := hM6.out; omega)
                  have L11 := hid ((L9.out.kept g10).law N10 H11)
                  have D11 := hid (X.law (D9.out.kept g10) N10 H11)
                  have B11 := hid ((B9.out.kept g10 (by simp)).kept H11 ne6)
                  have S11 := hid (rowG_kept (Recs.none S9.out g10) N10 (by decide) H11)
                  have R11 := hid (rowG_kept r10 N10 (by decide) H11)
                  have G11 := hid (grown_through (grown_none G9.out g10) H11 G6.out.size)
                  have NN11 := hid N11
                  clear g10 r10 N10 N11 H11 MC L9 D9 B9 S9 R9 NN9 q0 q1 q2 q3 q4 q5)
               | (go_at_call 13
                  refine (CC.out _ L11.out D11.out).mono ?_
                  rintro e w12 ⟨rfl, l12, d12, t12⟩
                  have L12 := hid l12
                  have D12 := hid d12
                  have B12 := hid (low_blk t12 B11.out ⟨by decide, by decide, by decide, by decide, by decide⟩)
                  have N12 := hid (low_blk t12 NN11.out ⟨by decide, by decide, by decide, by decide, by decide⟩)
                  have S12 := hid (Recs.low S11.out t12)
                  have R12 := hid (Recs.low R11.out t12)
                  have G12 := hid (Low.grown G11.out t12)
                  have s2 := B12.out.cell 2
                  have h2 := N12.out.cell 2
                  simp [mdlV] at s2 h2
                  clear l12 d12 t12 CC L11 D11 B11 NN11 S11 R11)
             )
             go_cut [106] (fun v wx => v = .bool false ∧ w12.grownBy wx none)
             case first =>
               go_region_law (go_simp; go_at_call 34; refine (US.out _ (D12.out.kept (grown_drew (grown_refl _ _)))).mono ?_; rintro e w14 ⟨rfl, g14⟩; have G14 : Hid (w12.grownBy w14 none) := hid (grown_trans (grown_drew (grown_refl _ _)) g14); have s3 := (B12.out.kept G14.out (by simp)).cell 2; have h3 := (N12.out.kept G14.out (by simp)).cell 2; simp [mdlV] at s3 h3; clear g14 US)
               all_goals (
                 (try go_wp2_with fail)
                 go_meet
                 exact ⟨by simp; omega, G14.out⟩)
             case rest =>
               obtain ⟨rfl, g14⟩ := hcut
               have B14 := B12.out.kept g14 (by simp)
               have N14 := N12.out.kept g14 (by simp)
               have i0 := N14.cell 0
               have i1 := N14.cell 1
               have i2 := N14.cell 2
               have i3 := N14.cell 3
               have i4 := N14.cell 4
               have i5 := N14.cell 5
               have j0 := B14.cell 0
               have j1 := B14.cell 1
               have j2 := B14.cell 2
               have j3 := B14.cell 3
               have j4 := B14.cell 4
               have j5 := B14.cell 5
               have t0 := B14.frozen 0
               have t1 := B14.frozen 1
               have t2 := B14.frozen 2
               have t3 := B14.frozen 3
               have t4 := B14.frozen 4
               have t5 := B14.frozen 5
               simp [mdlV] at i0 i1 i2 i3 i4 i5 j0 j1 j2 j3 j4 j5
               have ELG := hid (And.intro HLG.out trivial)
               have EMK := hid (And.intro HMK.out trivial)
               have EFW := hid (And.intro HFW.out trivial)
               have g15 := hid g14
               clear HLG HMK HFW US s2 h2 g14
               have BB := hid B14
               clear B14 N14
               go_upto_region 26 with fail
               have B14 := BB.out
               have g14 := g15.out
               have B15 := (((((B14.set 0 (.slice p10 ((frG w.heap.size fr).recs.length + 1) c10)).set 1 (.slice none 0 0)).set 2 (.int .i64 lg)).set 3 (.int .i64 0)).set 4 (.string rB)).set 5 (.int .i64 mk1)
               have H15 := grown_set (grown_set (grown_set (grown_set (grown_set (grown_set (grown_refl wc (some w5.heap.size)) 0 (.slice p10 ((frG w.heap.size fr).recs.length + 1) c10)) 1 (.slice none 0 0)) 2 (.int .i64 lg)) 3 (.int .i64 0)) 4 (.string rB)) 5 (.int .i64 mk1)
               have hx1 := (L12.out.kept g14).law B14 H15
               have hx2 := X.law (D12.out.kept g14) B14 H15
               have hx3 := rowG_kept (Recs.none R12.out g14) B14 (by decide) H15
               have hx4 := grown_through (grown_none G12.out g14) H15 (Nat.le_of_lt hw5)
               obtain ⟨W15, hW15⟩ : ∃ W15, W15 = ((((((wc.setCell ⟨w5.heap.size, 0, none⟩ (.slice p10 ((frG w.heap.size fr).recs.length + 1) c10)).setCell ⟨w5.heap.size, 1, none⟩ (.slice none 0 0)).setCell ⟨w5.heap.size, 2, none⟩ (.int .i64 lg)).setCell ⟨w5.heap.size, 3, none⟩ (.int .i64 0)).setCell ⟨w5.heap.size, 4, none⟩ (.string rB)).setCell ⟨w5.heap.size, 5, none⟩ (.int .i64 mk1)) := ⟨_, rfl⟩
               rw [← hW15] at B15 hx1 hx2 hx3 hx4 ⊢
               clear hW15 H15
               have pn := FuI.com I.out hx1 hx2 (by rw [← ELG.out.1, ← EMK.out.1]; exact B15) hx3 hx4 EFW.out.1
               have hroot : (frG w.heap.size (fr ++ List.map recF [fx] ++ [(false, rB)])).root = rB := by rw [mark_frame]
               have e9 := pn.same (by omega)
               unfold mdlV at e9
               rw [hroot, ← ELG.out.1, ← EMK.out.1] at e9
               have PN := hid pn
               have E9 := hid e9
               have s0 := B15.cell 0
               have s1 := B15.cell 1
               have s4 := B15.cell 2
               have s5 := B15.cell 3
               have s6 := B15.cell 4
               have s7 := B15.cell 5
               simp [mdlV] at s0 s1 s4 s5 s6 s7
               clear pn e9 hroot g14 B14 B15 hx1 hx2 hx3 hx4 B12 N12 D12 L12 S12 R12 G12 i0 i1 i2 i3 i4 i5 j0 j1 j2 j3 j4 j5 t0 t1 t2 t3 t4 t5 BB g15 ELG EMK EFW I
               generalize hFR : (fr ++ List.map recF [fx] ++ [(false, rB)]) = fr' at PN
               clear hFR
               go_wp2_with (go_at_call 24; refine E9.out.mono ?_; rintro e w19 ⟨rfl, g19⟩; have P9 := hid (PN.out.kept g19); clear g19 E9)
               go_roundw
               case rel => exact ⟨k + 1, c + 1, mk + 1, _, _, _, by omega, by omega, by go_num, P9.out⟩
               case measure => simp [intOf]; omega
     · as_aux_lemma =>
         have hex : (k : Int) = n ∨ (k : Int) = 30 := by omega
         have RM := hid (fun W h => X.room_x (xt := xt) w.heap.size w.heap.size (Dn F c) (-1) W h)
         have OF := hid (fun W h => X.open_frames (xt := { xt with bd := decide ((0 : Int) ≤ -1), rm := -1 }) w.heap.size w.heap.size F c fr W h I.out.file I.out.shut (by have := I.out.bytes; omega) (by have := I.out.chg; omega) (by have := I.out.cnt; omega) (fun x hx => by have := I.out.fsz x hx; omega) I.out.plan)
         clear PA HC
         rcases hex with e | e
         · have k1 : ¬ (k : Int) < n := by omega
           clear e
           go_wp2_with (first
             | (go_at_call 33
                refine (RM.out _ I.out.disk).mono ?_
                rintro e w20 ⟨rfl, d20, g20⟩
                obtain ⟨cd, hcd⟩ := I.out.disk.blk
                have D20 := hid d20
                have T20 := hid (self_low (base := w.heap.size) g20 (Nat.le_refl _) ⟨_, hcd⟩)
                clear d20 g20 hcd RM)
             | (go_at_call 10
                refine (OF.out _ D20.out).mono ?_
                rintro e w21 ⟨b21, rfl, hb21, l21, d21, t21⟩
                obtain ⟨o1, o2, o4⟩ := I.out.over (Low.trans T20.out t21)
                have PN : Hid (FuI w { xt with bd := decide ((0 : Int) ≤ -1), rm := -1 } w5.heap.size k b21 w21 fr F c mk (.slice ps (frG w.heap.size fr).recs.length cs)) := hid ⟨l21, d21, I.out.file, I.out.shut, I.out.fsz, I.out.cnt, I.out.chg, I.out.mks, I.out.mrk, o1, o2, I.out.plan, I.out.mem, o4⟩
                have E9 := hid (PN.out.same (by omega))
                have s0 := o1.cell 0
                have s1 := o1.cell 1
                have s2 := o1.cell 2
                have s3 := o1.cell 3
                have s4 := o1.cell 4
                have s5 := o1.cell 5
                simp [mdlV] at s0 s1 s2 s3 s4 s5
                clear l21 d21 t21 o1 o2 o4 OF D20 T20)
             | (go_at_call 24; refine E9.out.mono ?_; rintro e w22 ⟨rfl, g22⟩; have G22 := hid (grown_none PN.out.grown g22); clear g22 E9))
           go_ret
           exact ⟨rfl, G22.out⟩
         · have k2 : ¬ (k : Int) < 30 := by omega
           by_cases k1 : (k : Int) < n
           · clear e
             go_wp2_with (first
               | (go_at_call 33
                  refine (RM.out _ I.out.disk).mono ?_
                  rintro e w20 ⟨rfl, d20, g20⟩
                  obtain ⟨cd, hcd⟩ := I.out.disk.blk
                  have D20 := hid d20
                  have T20 := hid (self_low (base := w.heap.size) g20 (Nat.le_refl _) ⟨_, hcd⟩)
                  clear d20 g20 hcd RM)
               | (go_at_call 10
                  refine (OF.out _ D20.out).mono ?_
                  rintro e w21 ⟨b21, rfl, hb21, l21, d21, t21⟩
                  obtain ⟨o1, o2, o4⟩ := I.out.over (Low.trans T20.out t21)
                  have PN : Hid (FuI w { xt with bd := decide ((0 : Int) ≤ -1), rm := -1 } w5.heap.size k b21 w21 fr F c mk (.slice ps (frG w.heap.size fr).recs.length cs)) := hid ⟨l21, d21, I.out.file, I.out.shut, I.out.fsz, I.out.cnt, I.out.chg, I.out.mks, I.out.mrk, o1, o2, I.out.plan, I.out.mem, o4⟩
                  have E9 := hid (PN.out.same (by omega))
                  have s0 := o1.cell 0
                  have s1 := o1.cell 1
                  have s2 := o1.cell 2
                  have s3 := o1.cell 3
                  have s4 := o1.cell 4
                  have s5 := o1.cell 5
                  simp [mdlV] at s0 s1 s2 s3 s4 s5
                  clear l21 d21 t21 o1 o2 o4 OF D20 T20)
               | (go_at_call 24; refine E9.out.mono ?_; rintro e w22 ⟨rfl, g22⟩; have G22 := hid (grown_none PN.out.grown g22); clear g22 E9))
             go_ret
             exact ⟨rfl, G22.out⟩
           · clear e
             go_wp2_with (first
               | (go_at_call 33
                  refine (RM.out _ I.out.disk).mono ?_
                  rintro e w20 ⟨rfl, d20, g20⟩
                  obtain ⟨cd, hcd⟩ := I.out.disk.blk
                  have D20 := hid d20
                  have T20 := hid (self_low (base := w.heap.size) g20 (Nat.le_refl _) ⟨_, hcd⟩)
                  clear d20 g20 hcd RM)
               | (go_at_call 10
                  refine (OF.out _ D20.out).mono ?_
                  rintro e w21 ⟨b21, rfl, hb21, l21, d21, t21⟩
                  obtain ⟨o1, o2, o4⟩ := I.out.over (Low.trans T20.out t21)
                  have PN : Hid (FuI w { xt with bd := decide ((0 : Int) ≤ -1), rm := -1 } w5.heap.size k b21 w21 fr F c mk (.slice ps (frG w.heap.size fr).recs.length cs)) := hid ⟨l21, d21, I.out.file, I.out.shut, I.out.fsz, I.out.cnt, I.out.chg, I.out.mks, I.out.mrk, o1, o2, I.out.plan, I.out.mem, o4⟩
                  have E9 := hid (PN.out.same (by omega))
                  have s0 := o1.cell 0
                  have s1 := o1.cell 1
                  have s2 := o1.cell 2
                  have s3 := o1.cell 3
                  have s4 := o1.cell 4
                  have s5 := o1.cell 5
                  simp [mdlV] at s0 s1 s2 s3 s4 s5
                  clear l21 d21 t21 o1 o2 o4 OF D20 T20)
               | (go_at_call 24; refine E9.out.mono ?_; rintro e w22 ⟨rfl, g22⟩; have G22 := hid (grown_none PN.out.grown g22); clear g22 E9))
             go_ret
             exact ⟨rfl, G22.out⟩)
end Go.Proofs.Ytddnjlnnkeiplaa
