/-
  Take and Decode.
-/
import Derived.Test.YtdodammplhlihaaGreatDoorNw
import Derived.Test.YtdodammplhlihaaGreatDoorBy
namespace Go.Proofs.YtdodammplhlihaaGreatDoor.Tr
open Go.RowKit
/-- What Take makes of a reader's state. -/
def takeF (r : Rs) : Nd × Rs := ((if (nodeF 83 r 2000).2.1.e = 0 then (nodeF 83 r 2000).1 else Nd.zero), (nodeF 83 r 2000).2.1)
def TakP (w : World) (R : Nat) (o : Nd × Rs) (e : Ending) (w' : World) : Prop := ∃ q, e = .returned (.agg #[.int .i64 o.1.kind, .int .i64 o.1.ty, .string o.1.txt, .int .i64 o.1.num, q]) ∧ KsV w' (fun b => w.heap.size ≤ b) q o.1.kids ∧ Blk w' R 91 (rd o.2.s o.2.a o.2.e) ∧ w.grownBy w' (some R)
theorem gr2_grown {w w' : World} {R T : Nat} {row : Option Nat} {w0 : World} (h0 : w0.grownBy w row) (h : Gr2 w w' R T) (hT : w0.heap.size ≤ T) (hr : row = none ∨ row = some R) : w0.grownBy w' (some R) :=
  ⟨h.os.trans h0.os, h.tape.trans h0.tape, h.output.trans h0.output, Nat.le_trans h0.size h.size, fun k hk hn => (h.block k (Nat.lt_of_lt_of_le hk h0.size) (fun e => hn (by rw [e])) (by omega)).trans (h0.block k hk (hr.elim (fun e => by rw [e]; simp) (fun e => by rw [e]; exact hn)))⟩
set_option maxRecDepth 100000 in
set_option maxHeartbeats 2000000 in
theorem take_rs (R : Nat) (r : Rs) (w : World) (hR : Blk w R 91 (rd r.s r.a r.e)) (hr : (r.room : Int) ≤ 9223372036854775807) : Calls Tryz.prog 38 #[.pointer (some ⟨R, 0, none⟩)] w (TakP w R (takeF r)) := by
  have lr := hR.lt
  have HR := hid hR
  have BZ := hid ((Blk.new w 33 #[.int .i64 0, .int .i64 0, .string ⟨#[]⟩, .int .i64 0, .slice none 0 0]).alloc (.cells #[.pointer (some ⟨R, 0, none⟩), .int .i64 2000] 93))
  have BT := Blk.new (w.alloc (.cells #[.int .i64 0, .int .i64 0, .string ⟨#[]⟩, .int .i64 0, .slice none 0 0] 33)) 93 #[.pointer (some ⟨R, 0, none⟩), .int .i64 2000]
  rw [World.size_alloc] at BT
  have BT' := hid BT
  have GA : Hid (w.grownBy ((w.alloc (.cells #[.int .i64 0, .int .i64 0, .string ⟨#[]⟩, .int .i64 0, .slice none 0 0] 33)).alloc (.cells #[.pointer (some ⟨R, 0, none⟩), .int .i64 2000] 93)) none) := grown_alloc (grown_alloc (grown_refl w none) _) _
  have CN : Hid (∀ W, Blk W (w.heap.size + 1) 93 #[.pointer (some ⟨R, 0, none⟩), .int .i64 2000] → Blk W R 91 (rd r.s r.a r.e) → Calls Tryz.prog 55 #[.pointer (some ⟨w.heap.size + 1, 0, none⟩), .int .i64 1] W (NodeQ W R (w.heap.size + 1) (nodeF 83 r 2000).1 (nodeF 83 r 2000).2.1 (nodeF 83 r 2000).2.2)) := fun W h1 h2 => node_any R (w.heap.size + 1) 83 1 rfl 2000 r W (Nat.le_refl _) hr h1 h2
  have TF : Hid (takeF r = ((if (nodeF 83 r 2000).2.1.e = 0 then (nodeF 83 r 2000).1 else Nd.zero), (nodeF 83 r 2000).2.1)) := rfl
  generalize (nodeF 83 r 2000).1 = x at *
  generalize (nodeF 83 r 2000).2.2 = ll at *
  generalize (nodeF 83 r 2000).2.1 = rr at *
  have CE : Hid (∀ V, Blk V R 91 (rd rr.s rr.a rr.e) → Calls Tryz.prog 56 #[.pointer (some ⟨R, 0, none⟩)] V fun e w' => e = .returned (.int .i64 rr.e) ∧ w' = V) := fun V hV => err_any R rr.s rr.a rr.e V hV
  rw [TF.out]
  clear hR BT TF
  by_cases he : rr.e = 0
  · rw [if_pos he]
    have he' : ((rr.e : Int) != 0) = false := by rw [he]; rfl
    clear he
    go_enter Tryz.func38, Tryz.ntmps38
    go_wp2_with (first
      | (go_at_call 55; refine (CN.out _ BT'.out ((HR.out.alloc _).alloc _)).mono ?_; clear CN; rintro e w2 ⟨q2, rfl, hk2, ht2, hr2, hg2⟩; obtain ⟨p2, cap2, eq2, _⟩ := hk2.form; subst eq2; have K2 := hid hk2; have R2 := hid hr2; have G2 := hid (gr2_grown GA.out hg2 (by omega) (Or.inl rfl)); have b0 := BZ.out.gr2 hg2 (by omega) (by omega); have z0 : w2.cell? ⟨w.heap.size, 0, none⟩ = some (.int .i64 0) := b0.cell 0; have z1 : w2.cell? ⟨w.heap.size, 1, none⟩ = some (.int .i64 0) := b0.cell 1; have z2 : w2.cell? ⟨w.heap.size, 2, none⟩ = some (.string ⟨#[]⟩) := b0.cell 2; have z3 : w2.cell? ⟨w.heap.size, 3, none⟩ = some (.int .i64 0) := b0.cell 3; have z4 : w2.cell? ⟨w.heap.size, 4, none⟩ = some (.slice none 0 0) := b0.cell 4; have f0 := b0.frozen 0; have f1 := b0.frozen 1; have f2 := b0.frozen 2; have f3 := b0.frozen 3; have f4 := b0.frozen 4; have hlt := b0.lt; clear b0 hk2 hg2 ht2 hr2)
      | (go_at_call 56; refine (CE.out _ (R2.out.alloc _)).mono ?_; clear CE; rintro e w7 ⟨rfl, hw7⟩; replace hw7 := hw7.symm; subst hw7))
    have gs := grown_set5 (grown_refl w2 (some w.heap.size)) 0 (.int .i64 x.kind) (.int .i64 x.ty) (.string x.txt) (.int .i64 x.num) (.slice p2 x.kids.length cap2)
    have kF := ((K2.out.keptP (Q := fun b => w.heap.size ≤ b) (Kp.of_grown gs (fun b hb e => by have h3 := Option.some.inj e; simp only [World.size_alloc] at hb; omega)) (fun b hb _ => by simp only [World.size_alloc] at hb; omega))).kept (grown_alloc (grown_refl _ none) (.cells #[.int .i64 x.kind, .int .i64 x.ty, .string x.txt, .int .i64 x.num, .slice p2 x.kids.length cap2] 33))
    have rF := (R2.out.kept gs (fun e => by have := Option.some.inj e; omega)).alloc (.cells #[.int .i64 x.kind, .int .i64 x.ty, .string x.txt, .int .i64 x.num, .slice p2 x.kids.length cap2] 33)
    have gF := grown_alloc (grown_set5_new G2.out 0 (.int .i64 x.kind) (.int .i64 x.ty) (.string x.txt) (.int .i64 x.num) (.slice p2 x.kids.length cap2) (Nat.le_refl _)) (.cells #[.int .i64 x.kind, .int .i64 x.ty, .string x.txt, .int .i64 x.num, .slice p2 x.kids.length cap2] 33)
    exact bodyPost_ret (v := .agg #[.int .i64 x.kind, .int .i64 x.ty, .string x.txt, .int .i64 x.num, .slice p2 x.kids.length cap2]) (by simp [results, Tryz.results38, go_sem, z0, z1, z2, z3, z4, hlt]) rfl ⟨_, rfl, kF, rF, gF⟩
  · rw [if_neg he]
    have he' : ((rr.e : Int) != 0) = true := by simp; omega
    clear he
    go_enter Tryz.func38, Tryz.ntmps38
    go_wp2_with (first
      | (go_at_call 55; refine (CN.out _ BT'.out ((HR.out.alloc _).alloc _)).mono ?_; clear CN; rintro e w2 ⟨q2, rfl, hk2, ht2, hr2, hg2⟩; obtain ⟨p2, cap2, eq2, _⟩ := hk2.form; subst eq2; have K2 := hid hk2; have R2 := hid hr2; have G2 := hid (gr2_grown GA.out hg2 (by omega) (Or.inl rfl)); have b0 := BZ.out.gr2 hg2 (by omega) (by omega); have z0 : w2.cell? ⟨w.heap.size, 0, none⟩ = some (.int .i64 0) := b0.cell 0; have z1 : w2.cell? ⟨w.heap.size, 1, none⟩ = some (.int .i64 0) := b0.cell 1; have z2 : w2.cell? ⟨w.heap.size, 2, none⟩ = some (.string ⟨#[]⟩) := b0.cell 2; have z3 : w2.cell? ⟨w.heap.size, 3, none⟩ = some (.int .i64 0) := b0.cell 3; have z4 : w2.cell? ⟨w.heap.size, 4, none⟩ = some (.slice none 0 0) := b0.cell 4; have f0 := b0.frozen 0; have f1 := b0.frozen 1; have f2 := b0.frozen 2; have f3 := b0.frozen 3; have f4 := b0.frozen 4; have hlt := b0.lt; clear b0 hk2 hg2 ht2 hr2)
      | (go_at_call 56; refine (CE.out _ (R2.out.alloc _)).mono ?_; clear CE; rintro e w7 ⟨rfl, hw7⟩; replace hw7 := hw7.symm; subst hw7))
    have gs := grown_set5 (grown_refl w2 (some w.heap.size)) 0 (.int .i64 0) (.int .i64 0) (.string ⟨#[]⟩) (.int .i64 0) (.slice none 0 0)
    have rF := (R2.out.kept gs (fun e => by have := Option.some.inj e; omega)).alloc (.cells #[.int .i64 x.kind, .int .i64 x.ty, .string x.txt, .int .i64 x.num, .slice p2 x.kids.length cap2] 33)
    have gF := grown_alloc (grown_set5_new G2.out 0 (.int .i64 0) (.int .i64 0) (.string ⟨#[]⟩) (.int .i64 0) (.slice none 0 0) (Nat.le_refl _)) (.cells #[.int .i64 x.kind, .int .i64 x.ty, .string x.txt, .int .i64 x.num, .slice p2 x.kids.length cap2] 33)
    exact bodyPost_ret (v := .agg #[.int .i64 0, .int .i64 0, .string ⟨#[]⟩, .int .i64 0, .slice none 0 0]) (by simp [results, Tryz.results38, go_sem, z0, z1, z2, z3, z4, hlt]) rfl ⟨_, rfl, KsV.nil _ _, rF, gF⟩
/-- What Decode makes of bytes. -/
def decE (s : ByteArray) : Nat := failE (takeF ⟨s, 0, 0⟩).2.e (endF (takeF ⟨s, 0, 0⟩).2.s)
def decN (s : ByteArray) : Nd := if decE s = 0 then (takeF ⟨s, 0, 0⟩).1 else Nd.zero
def DecP (w : World) (x : Nd) (er : Nat) (e : Ending) (w' : World) : Prop := ∃ q, e = .returned (.tuple #[.agg #[.int .i64 x.kind, .int .i64 x.ty, .string x.txt, .int .i64 x.num, q], .int .i64 er]) ∧ KsV w' (fun b => w.heap.size ≤ b) q x.kids ∧ w.grownBy w' none
set_option maxRecDepth 100000 in
set_option maxHeartbeats 2000000 in
theorem decode_any (s : ByteArray) (w : World) (hs : (s.size : Int) ≤ 9223372036854775807) : Calls Tryz.prog 22 #[.string s] w (DecP w (decN s) (decE s)) := by
  have BZ := hid (Blk.new w 33 #[.int .i64 0, .int .i64 0, .string ⟨#[]⟩, .int .i64 0, .slice none 0 0])
  have CT : Hid (∀ W, Blk W (w.heap.size + 1) 91 (rd s 0 0) → Calls Tryz.prog 38 #[.pointer (some ⟨w.heap.size + 1, 0, none⟩)] W (TakP W (w.heap.size + 1) (takeF ⟨s, 0, 0⟩))) := fun W hW => take_rs (w.heap.size + 1) ⟨s, 0, 0⟩ W hW (by show (((0 : Nat) + s.size : Nat) : Int) ≤ _; omega)
  have ED : Hid (decE s = failE (takeF ⟨s, 0, 0⟩).2.e (endF (takeF ⟨s, 0, 0⟩).2.s)) := rfl
  have EN : Hid (decN s = if decE s = 0 then (takeF ⟨s, 0, 0⟩).1 else Nd.zero) := rfl
  obtain ⟨⟨x, rr⟩, eO⟩ : ∃ O, takeF ⟨s, 0, 0⟩ = O := ⟨_, rfl⟩
  rw [eO] at CT ED EN
  have CT' : Hid (∀ W, Blk W (w.heap.size + 1) 91 (rd s 0 0) → Calls Tryz.prog 38 #[.pointer (some ⟨w.heap.size + 1, 0, none⟩)] W fun e w' => ∃ q, e = .returned (.agg #[.int .i64 x.kind, .int .i64 x.ty, .string x.txt, .int .i64 x.num, q]) ∧ KsV w' (fun b => W.heap.size ≤ b) q x.kids ∧ Blk w' (w.heap.size + 1) 91 (rd rr.s rr.a rr.e) ∧ W.grownBy w' (some (w.heap.size + 1))) := CT.out
  have CE : Hid (∀ V, Blk V (w.heap.size + 1) 91 (rd rr.s rr.a rr.e) → Calls Tryz.prog 39 #[.pointer (some ⟨w.heap.size + 1, 0, none⟩)] V fun e w' => e = .returned (.int .i64 (failE rr.e (endF rr.s))) ∧ Blk w' (w.heap.size + 1) 91 (rd (failS rr.s rr.e (endF rr.s)) rr.a (failE rr.e (endF rr.s))) ∧ V.grownBy w' (some (w.heap.size + 1))) := fun V hV => end_any (w.heap.size + 1) rr.s rr.a rr.e V hV
  have ED' : decE s = failE rr.e (endF rr.s) := ED.out
  rw [← ED'] at CE
  generalize decE s = er at *
  rw [EN.out]
  clear CT eO ED EN ED'
  by_cases he : er = 0
  · rw [if_pos he]
    have he' : ((er : Int) != 0) = false := by rw [he]; rfl
    have HE := hid he
    clear he
    go_enter Tryz.func22, Tryz.ntmps22
    go_wp2_with (first
      | (go_at_call 37; refine (newReader_any s _).mono ?_; rintro e w1 ⟨rfl, hr1, hg1⟩; rw [World.size_alloc] at hr1; have R1 := hid hr1; have G1 := hid (grown_none (grown_alloc (grown_refl w none) _) hg1); have Z1 := hid (BZ.out.kept hg1 (by simp)); clear hr1 hg1)
      | (go_at_call 38; refine (CT'.out _ R1.out).mono ?_; clear CT'; rintro e w2 ⟨q2, rfl, hk2, hr2, hg2⟩; obtain ⟨p2, cap2, eq2, _⟩ := hk2.form; subst eq2; have K2 := hid hk2; have R2 := hid (hr2.alloc (.cells #[.int .i64 x.kind, .int .i64 x.ty, .string x.txt, .int .i64 x.num, .slice p2 x.kids.length cap2] 33)); have G2 := hid (grown_alloc (grown_through G1.out hg2 (by omega)) (.cells #[.int .i64 x.kind, .int .i64 x.ty, .string x.txt, .int .i64 x.num, .slice p2 x.kids.length cap2] 33)); have Z2 := hid ((Z1.out.kept hg2 (by simp)).alloc (.cells #[.int .i64 x.kind, .int .i64 x.ty, .string x.txt, .int .i64 x.num, .slice p2 x.kids.length cap2] 33)); have X2 := hid (Blk.new w2 33 #[.int .i64 x.kind, .int .i64 x.ty, .string x.txt, .int .i64 x.num, .slice p2 x.kids.length cap2]); have l2 := hr2.lt; have s1 : w.heap.size + 1 < w1.heap.size := R1.out.lt; clear hk2 hr2 hg2)
      | (go_at_call 39; refine (CE.out _ R2.out).mono ?_; clear CE; rintro e w3 ⟨rfl, hr3, hg3⟩; have G3 := hid (grown_through G2.out hg3 (by omega)); have b0 := Z2.out.kept hg3 (by simp); have x0 := X2.out.kept hg3 (fun e => by have := Option.some.inj e; omega); have Y3 := hid x0; have HG3 := hid hg3; have z0 : w3.cell? ⟨w.heap.size, 0, none⟩ = some (.int .i64 0) := b0.cell 0; have z1 : w3.cell? ⟨w.heap.size, 1, none⟩ = some (.int .i64 0) := b0.cell 1; have z2 : w3.cell? ⟨w.heap.size, 2, none⟩ = some (.string ⟨#[]⟩) := b0.cell 2; have z3 : w3.cell? ⟨w.heap.size, 3, none⟩ = some (.int .i64 0) := b0.cell 3; have z4 : w3.cell? ⟨w.heap.size, 4, none⟩ = some (.slice none 0 0) := b0.cell 4; have f0 := b0.frozen 0; have f1 := b0.frozen 1; have f2 := b0.frozen 2; have f3 := b0.frozen 3; have f4 := b0.frozen 4; have y0 : w3.cell? ⟨w2.heap.size, 0, none⟩ = some (.int .i64 x.kind) := x0.cell 0; have y1 : w3.cell? ⟨w2.heap.size, 1, none⟩ = some (.int .i64 x.ty) := x0.cell 1; have y2 : w3.cell? ⟨w2.heap.size, 2, none⟩ = some (.string x.txt) := x0.cell 2; have y3 : w3.cell? ⟨w2.heap.size, 3, none⟩ = some (.int .i64 x.num) := x0.cell 3; have y4 : w3.cell? ⟨w2.heap.size, 4, none⟩ = some (.slice p2 x.kids.length cap2) := x0.cell 4; have hne : w2.heap.size ≠ w.heap.size := (by omega); clear b0 x0 hr3 hg3))
    have gs := grown_set5 (grown_refl w3 (some w.heap.size)) 0 (.int .i64 x.kind) (.int .i64 x.ty) (.string x.txt) (.int .i64 x.num) (.slice p2 x.kids.length cap2)
    have k3 := (K2.out.kept (grown_alloc (grown_refl w2 none) (.cells #[.int .i64 x.kind, .int .i64 x.ty, .string x.txt, .int .i64 x.num, .slice p2 x.kids.length cap2] 33))).keptP (Q := fun b => w.heap.size + 1 ≤ b) (Kp.of_grown HG3.out (fun b hb e => by have := Option.some.inj e; omega)) (fun b hb _ => by omega)
    have kF := k3.keptP (Q := fun b => w.heap.size ≤ b) (Kp.of_grown gs (fun b hb e => by have := Option.some.inj e; omega)) (fun b hb _ => by omega)
    have gF := grown_set5_new G3.out 0 (.int .i64 x.kind) (.int .i64 x.ty) (.string x.txt) (.int .i64 x.num) (.slice p2 x.kids.length cap2) (Nat.le_refl _)
    rw [HE.out]
    exact bodyPost_ret (v := .tuple #[.agg #[.int .i64 x.kind, .int .i64 x.ty, .string x.txt, .int .i64 x.num, .slice p2 x.kids.length cap2], .int .i64 0]) (by simp [results, Tryz.results22, go_sem, z0, z1, z2, z3, z4]) rfl ⟨_, rfl, kF, gF⟩
  · rw [if_neg he]
    have he' : ((er : Int) != 0) = true := by simp; omega
    clear he
    go_enter Tryz.func22, Tryz.ntmps22
    go_wp2_with (first
      | (go_at_call 37; refine (newReader_any s _).mono ?_; rintro e w1 ⟨rfl, hr1, hg1⟩; rw [World.size_alloc] at hr1; have R1 := hid hr1; have G1 := hid (grown_none (grown_alloc (grown_refl w none) _) hg1); have Z1 := hid (BZ.out.kept hg1 (by simp)); clear hr1 hg1)
      | (go_at_call 38; refine (CT'.out _ R1.out).mono ?_; clear CT'; rintro e w2 ⟨q2, rfl, hk2, hr2, hg2⟩; obtain ⟨p2, cap2, eq2, _⟩ := hk2.form; subst eq2; have K2 := hid hk2; have R2 := hid (hr2.alloc (.cells #[.int .i64 x.kind, .int .i64 x.ty, .string x.txt, .int .i64 x.num, .slice p2 x.kids.length cap2] 33)); have G2 := hid (grown_alloc (grown_through G1.out hg2 (by omega)) (.cells #[.int .i64 x.kind, .int .i64 x.ty, .string x.txt, .int .i64 x.num, .slice p2 x.kids.length cap2] 33)); have Z2 := hid ((Z1.out.kept hg2 (by simp)).alloc (.cells #[.int .i64 x.kind, .int .i64 x.ty, .string x.txt, .int .i64 x.num, .slice p2 x.kids.length cap2] 33)); have X2 := hid (Blk.new w2 33 #[.int .i64 x.kind, .int .i64 x.ty, .string x.txt, .int .i64 x.num, .slice p2 x.kids.length cap2]); have l2 := hr2.lt; have s1 : w.heap.size + 1 < w1.heap.size := R1.out.lt; clear hk2 hr2 hg2)
      | (go_at_call 39; refine (CE.out _ R2.out).mono ?_; clear CE; rintro e w3 ⟨rfl, hr3, hg3⟩; have G3 := hid (grown_through G2.out hg3 (by omega)); have b0 := Z2.out.kept hg3 (by simp); have x0 := X2.out.kept hg3 (fun e => by have := Option.some.inj e; omega); have Y3 := hid x0; have HG3 := hid hg3; have z0 : w3.cell? ⟨w.heap.size, 0, none⟩ = some (.int .i64 0) := b0.cell 0; have z1 : w3.cell? ⟨w.heap.size, 1, none⟩ = some (.int .i64 0) := b0.cell 1; have z2 : w3.cell? ⟨w.heap.size, 2, none⟩ = some (.string ⟨#[]⟩) := b0.cell 2; have z3 : w3.cell? ⟨w.heap.size, 3, none⟩ = some (.int .i64 0) := b0.cell 3; have z4 : w3.cell? ⟨w.heap.size, 4, none⟩ = some (.slice none 0 0) := b0.cell 4; have f0 := b0.frozen 0; have f1 := b0.frozen 1; have f2 := b0.frozen 2; have f3 := b0.frozen 3; have f4 := b0.frozen 4; have y0 : w3.cell? ⟨w2.heap.size, 0, none⟩ = some (.int .i64 x.kind) := x0.cell 0; have y1 : w3.cell? ⟨w2.heap.size, 1, none⟩ = some (.int .i64 x.ty) := x0.cell 1; have y2 : w3.cell? ⟨w2.heap.size, 2, none⟩ = some (.string x.txt) := x0.cell 2; have y3 : w3.cell? ⟨w2.heap.size, 3, none⟩ = some (.int .i64 x.num) := x0.cell 3; have y4 : w3.cell? ⟨w2.heap.size, 4, none⟩ = some (.slice p2 x.kids.length cap2) := x0.cell 4; have hne : w2.heap.size ≠ w.heap.size := (by omega); clear b0 x0 hr3 hg3))
    have gF := grown_set5_new G3.out 0 (.int .i64 0) (.int .i64 0) (.string ⟨#[]⟩) (.int .i64 0) (.slice none 0 0) (Nat.le_refl _)
    exact bodyPost_ret (v := .tuple #[.agg #[.int .i64 0, .int .i64 0, .string ⟨#[]⟩, .int .i64 0, .slice none 0 0], .int .i64 er]) (by simp [results, Tryz.results22, go_sem, z0, z1, z2, z3, z4]) rfl ⟨_, rfl, KsV.nil _ _, gF⟩
end Go.Proofs.YtdodammplhlihaaGreatDoor.Tr
