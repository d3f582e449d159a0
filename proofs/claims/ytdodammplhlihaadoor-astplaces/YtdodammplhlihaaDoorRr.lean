/-
  The document's Replace.
-/
import Derived.Test.YtdodammplhlihaaDoorKx
import Derived.IntWalk
namespace Go.Proofs.YtdodammplhlihaaDoor
open Go.RowKit
theorem cell_grown2 {w w' : World} {g o : Nat} {v : Value} (h : w.cell? ⟨g, o, none⟩ = some v) (hg : w.grownBy w' none) : w'.cell? ⟨g, o, none⟩ = some v :=
  (World.cell?_of_block (hg.block g (cell_lt h) (by simp))).trans h
theorem NdC.drew {w : World} {ad : Addr} {y : Nd} {q : Value} (h : NdC w ad y q) : NdC w.drew ad y q := h
def RrP (M : Nat) (w : World) (x : Nd) (e : Ending) (w' : World) : Prop := ∃ q, e = .returned (.agg #[.int .i64 x.kind, .int .i64 x.ty, .string x.txt, .int .i64 x.num, q]) ∧ KsV w' (fun b => b < M ∨ w.heap.size ≤ b) q x.kids ∧ w.grownBy w' none
set_option maxRecDepth 100000 in
set_option maxHeartbeats 1000000 in
theorem rrep_zero (M : Nat) (k t : Int) (s : ByteArray) (n : Int) (p0 : Option Addr) (L cap : Nat) (b : Nd) (vb : Value) (w : World) (hb : NdV w (fun b => b < M) vb b) : Calls Tryd.prog 18 #[.agg #[.int .i64 k, .int .i64 t, .string s, .int .i64 n, .slice p0 L cap], .int .i64 0, vb] w (RrP M w b) := by
  obtain ⟨qb, rfl, hkb⟩ := hb
  obtain ⟨pb, cb, eb, _⟩ := hkb.form
  subst eb
  have KB := hid hkb
  clear hkb
  go_enter Tryd.func18, Tryd.ntmps18
  go_wp2
  refine bodyPost_ret (v := .agg #[.int .i64 b.kind, .int .i64 b.ty, .string b.txt, .int .i64 b.num, .slice pb b.kids.length cb]) (by simp [results, Tryd.results18, go_sem]) rfl ⟨_, rfl, KB.out.keptP (Kp.of_none _ ?g) (fun b hb _ => Or.inl hb), ?g⟩
  repeat (first | exact grown_refl _ _ | refine grown_set_new ?_ _ (by simp) | refine grown_alloc ?_ _)
def RrI (w : World) (nbx bbx : Array Value) (k t : Int) (s : ByteArray) (n : Int) (v : Value) (wr : World) : Prop :=
  w.grownBy wr none ∧ Blk wr w.heap.size 39 nbx ∧ Blk wr (w.heap.size + 1) 39 bbx ∧ Blk wr (w.heap.size + 2) 39 #[.int .i64 0, .int .i64 0, .string ⟨#[]⟩, .int .i64 0, .slice none 0 0] ∧ Blk wr (w.heap.size + 3) 39 #[.int .i64 k, .int .i64 t, .string s, .int .i64 n, v]
set_option maxRecDepth 100000 in
set_option maxHeartbeats 4000000 in
theorem rrep_step (M : Nat) (k t : Int) (s : ByteArray) (n : Int) (q0 : Value) (ks : List Nd) (p : Nat) (b : Nd) (vb : Value) (w : World) (hM : M ≤ w.heap.size) (hn : ks.length ≤ 255) (hok : Nd.oks ks) (hcnt : Nd.cnts ks ≤ 10000) (hp : p ≠ 0) (hp1 : (p : Int) ≤ 9223372036854775807) (hks : KsV w (fun b => b < M) q0 ks) (hb : NdV w (fun b => b < M) vb b)
    (ih : ∀ y ∈ ks, ∀ (p' : Nat) (v : Value) (W : World), (p' : Int) ≤ 9223372036854775807 → M ≤ W.heap.size → NdV W (fun b => b < M) v y → NdV W (fun b => b < M) vb b → Calls Tryd.prog 18 #[v, .int .i64 p', vb] W (RrP M W (Nd.repl b y p'))) : Calls Tryd.prog 18 #[.agg #[.int .i64 k, .int .i64 t, .string s, .int .i64 n, q0], .int .i64 p, vb] w (RrP M w (.mk k t s n (Nd.replA b p 1 ks))) := by
  have IH := hid ih
  have HK := hid hks
  have HBV := hid hb
  obtain ⟨p0, cap, eq0, _⟩ := hks.form
  subst eq0
  obtain ⟨qb, rfl, hkb⟩ := hb
  obtain ⟨pb, cb, eb, _⟩ := hkb.form
  subst eb
  clear ih hks hkb
  obtain ⟨L, hL⟩ : ∃ L, ks.length = L := ⟨_, rfl⟩
  have HL := hid hL
  rw [hL] at hn HK ⊢
  clear hL
  have HOK := hid hok
  have i1 : (L : Int) ≤ 255 := by omega
  have i2 : (1 : Int) ≤ p := by omega
  have i3 : ((p : Int) == 0) = false := by simp; omega
  clear hok hp
  go_enter Tryd.func18, Tryd.ntmps18
  go_wp2
  go_loopw [8, 9] (fun a i wr => ∃ (j : Nat) (v : Value), j ≤ L ∧ i = .int .i64 j ∧ a = .int .i64 ((1 + Nd.cnts (ks.take j) : Nat) : Int) ∧ RrI w #[.int .i64 k, .int .i64 t, .string s, .int .i64 n, .slice p0 L cap] #[.int .i64 b.kind, .int .i64 b.ty, .string b.txt, .int .i64 b.num, .slice pb b.kids.length cb] k t s n v wr ∧ Kx (fun b => b < M ∨ w.heap.size + 4 ≤ b) wr (w.heap.size + 4) 39 v (Nd.replA b p 1 (ks.take j))) (fun _ i _ => L - (intOf i).toNat)
  case atStart =>
    refine ⟨0, .slice none 0 0, Nat.zero_le _, rfl, by rw [List.take_zero, Nd.cnts]; rfl, ⟨grown_alloc (grown_alloc (grown_alloc (grown_alloc (grown_refl w none) _) _) _) _, (((Blk.new w 39 _).alloc _).alloc _).alloc _, ?_, ?_, ?_⟩, by rw [List.take_zero, Nd.replA]; exact Kx.nil _ _ _⟩
    · have h1 := ((Blk.new (w.alloc (.cells #[.int .i64 k, .int .i64 t, .string s, .int .i64 n, .slice p0 L cap] 39)) 39 #[.int .i64 b.kind, .int .i64 b.ty, .string b.txt, .int .i64 b.num, .slice pb b.kids.length cb]).alloc (.cells #[.int .i64 0, .int .i64 0, .string ⟨#[]⟩, .int .i64 0, .slice none 0 0] 39)).alloc (.cells #[.int .i64 k, .int .i64 t, .string s, .int .i64 n, .slice none 0 0] 39)
      simp only [World.size_alloc] at h1
      exact h1
    · have h1 := (Blk.new ((w.alloc (.cells #[.int .i64 k, .int .i64 t, .string s, .int .i64 n, .slice p0 L cap] 39)).alloc (.cells #[.int .i64 b.kind, .int .i64 b.ty, .string b.txt, .int .i64 b.num, .slice pb b.kids.length cb] 39)) 39 #[.int .i64 0, .int .i64 0, .string ⟨#[]⟩, .int .i64 0, .slice none 0 0]).alloc (.cells #[.int .i64 k, .int .i64 t, .string s, .int .i64 n, .slice none 0 0] 39)
      simp only [World.size_alloc] at h1
      exact h1
    · have h1 := Blk.new (((w.alloc (.cells #[.int .i64 k, .int .i64 t, .string s, .int .i64 n, .slice p0 L cap] 39)).alloc (.cells #[.int .i64 b.kind, .int .i64 b.ty, .string b.txt, .int .i64 b.num, .slice pb b.kids.length cb] 39)).alloc (.cells #[.int .i64 0, .int .i64 0, .string ⟨#[]⟩, .int .i64 0, .slice none 0 0] 39)) 39 #[.int .i64 k, .int .i64 t, .string s, .int .i64 n, .slice none 0 0]
      simp only [World.size_alloc] at h1
      exact h1
  case round =>
    obtain ⟨j, v, hj, rfl, rfl, ⟨hg, hB0, hB1, hB2, hB3⟩, hkb⟩ := hrel
    have j0 : (0 : Int) ≤ j := by omega
    have G := hid hg
    have B0 := hid hB0
    have B1 := hid hB1
    have B2 := hid hB2
    have B3 := hid hB3
    have tl : (Nd.replA b p 1 (ks.take j)).length = j := by rw [Nd.replA_len, List.length_take, HL.out]; omega
    obtain ⟨pv, cv, ev, _⟩ := hkb.form
    rw [tl] at ev
    subst ev
    have KB := hid hkb
    have x4 : wr.cell? ⟨w.heap.size, 4, none⟩ = some (.slice p0 L cap) := by rw [hB0.cell]; rfl
    have hw4 : w.heap.size + 4 ≤ wr.heap.size := hB3.lt
    by_cases hlt : j < L
    · have j1 : (j : Int) < L := by omega
      have hjk : j < ks.length := by rw [HL.out]; exact hlt
      obtain ⟨g', hg', _, hat⟩ := (HK.out.kept hg).at j hjk
      subst hg'
      have yok := Nd.oks_mem HOK.out _ (List.getElem_mem hjk)
      have h3 : Nd.cnts (ks.take (j + 1)) = Nd.cnts (ks.take j) + (ks[j]).cnt := by
        rw [List.take_succ_eq_append_getElem hjk, Nd.cnts_append]
        rfl
      have h2 : Nd.cnts ks = Nd.cnts (ks.take (j + 1)) + Nd.cnts (ks.drop (j + 1)) := by rw [← Nd.cnts_append, List.take_append_drop]
      have hya : 1 + Nd.cnts (ks.take j) + (ks[j]).cnt ≤ 10001 := by omega
      have TS : Nd.replA b p 1 (ks.take (j + 1)) = Nd.replA b p 1 (ks.take j) ++ [if 1 + Nd.cnts (ks.take j) ≤ p ∧ p < 1 + Nd.cnts (ks.take j) + (ks[j]).cnt then Nd.repl b ks[j] (p - (1 + Nd.cnts (ks.take j))) else ks[j]] := by
        rw [List.take_succ_eq_append_getElem hjk, Nd.replA_append, Nd.replA, Nd.replA]
      have TC : 1 + Nd.cnts (ks.take (j + 1)) = 1 + Nd.cnts (ks.take j) + (ks[j]).cnt := by omega
      have IHY := hid (IH.out _ (List.getElem_mem hjk))
      have CQ : Hid (∀ q W, KsV W (fun b => b < M) q (ks[j]).kids → Calls Tryd.prog 32 #[.agg #[.int .i64 (ks[j]).kind, .int .i64 (ks[j]).ty, .string (ks[j]).txt, .int .i64 (ks[j]).num, q]] W fun e w' => e = .returned (.int .i64 (ks[j]).cnt) ∧ W.grownBy w' none) := fun q W hq => rcount_any _ _ yok (by omega) _ W ⟨q, rfl, hq⟩
      have TT := hid TS
      have TD := hid TC
      have HZ : Hid ((Nd.replA b p 1 (ks.take j)).length < 100000) := by show _ < _; rw [tl]; omega
      have BV := hid (HBV.out.kept hg)
      clear HBV IH HK HOK TS TC h2 h3 yok tl
      obtain ⟨q, c0, c1, c2, c3, c4, hkq⟩ := hat.cells
      rw [Nat.mul_comm 5 j] at c0 c1 c2 c3 c4
      have KQ4 := hid hkq
      obtain ⟨p4, cap4, hq, _⟩ := hkq.form
      subst hq
      have lg := cell_lt c0
      clear hg hB0 hB1 hB2 hB3 hkb hkq hat
      generalize Nd.replA b p 1 (ks.take j) = l0 at *
      generalize 1 + Nd.cnts (ks.take j) = A at *
      generalize ks[j] = y at *
      obtain ⟨C, hC⟩ : ∃ C, y.cnt = C := ⟨_, rfl⟩
      rw [hC] at hya CQ TT TD
      clear hC
      have a1 : (A : Int) + C ≤ 10001 := by omega
      have mm : ∀ b, (b < M ∨ wr.heap.size ≤ b) → ((b < M ∨ w.heap.size + 4 ≤ b) ∧ some b ≠ (Value.slice pv j cv).ownBlock) := fun b hb => ⟨by omega, fun e => by
        have h7 := KB.out.lt b e.symm
        omega⟩
      by_cases hin : A ≤ p ∧ p < A + C
      · obtain ⟨h8, h9⟩ := hin
        have d1 : (A : Int) ≤ p := by omega
        have d2 : (p : Int) < A + C := by omega
        rw [if_pos ⟨h8, h9⟩] at TT
        obtain ⟨D, hD⟩ : ∃ D, p - A = D := ⟨_, rfl⟩
        have d3 : (p : Int) - A = D := by omega
        have d4' : IntKind.i64.wrap ((p : Int) - A) = D := by rw [IntWalk.i64_left]; unfold wrap64; omega
        have d6 : IntKind.i64.wrap (D : Int) = D := by rw [IntWalk.i64_left]; unfold wrap64; omega
        have d5' : (D : Int) ≤ 9223372036854775807 := by omega
        rw [hD] at TT
        have CR : Hid (∀ W, M ≤ W.heap.size → KsV W (fun b => b < M) (.slice p4 y.kids.length cap4) y.kids → NdV W (fun b => b < M) (.agg #[.int .i64 b.kind, .int .i64 b.ty, .string b.txt, .int .i64 b.num, .slice pb b.kids.length cb]) b → Calls Tryd.prog 18 #[.agg #[.int .i64 y.kind, .int .i64 y.ty, .string y.txt, .int .i64 y.num, .slice p4 y.kids.length cap4], .int .i64 D, .agg #[.int .i64 b.kind, .int .i64 b.ty, .string b.txt, .int .i64 b.num, .slice pb b.kids.length cb]] W (RrP M W (Nd.repl b y D))) := fun W h1 h2 h3 => IHY.out D _ W d5' h1 ⟨_, rfl, h2⟩ h3
        obtain ⟨z, hz⟩ : ∃ z, Nd.repl b y D = z := ⟨_, rfl⟩
        rw [hz] at CR TT
        obtain ⟨l1, e1'⟩ : ∃ l1, l1 = l0 ++ [z] := ⟨_, rfl⟩
        have E1 := hid e1'
        rw [← e1'] at TT
        clear hD hz e1' h8 h9 IHY d5'
        have m0 : ∀ b, (b < M ∨ wr.heap.size ≤ b) → ((b < M ∨ w.heap.size + 4 ≤ b) ∧ some b ≠ (Value.slice pv j cv).ownBlock) := mm
        clear mm
        go_wp2_with (go_at_call 32; refine (CQ.out _ _ KQ4.out).mono ?_; clear CQ; rintro e w2 ⟨rfl, hg2⟩; have GG := hid (grown_none G.out hg2); have b0 := hid (B0.out.kept hg2 (by simp)); have b1 := hid (B1.out.kept hg2 (by simp)); have b2 := hid (B2.out.kept hg2 (by simp)); have b3 := hid (B3.out.kept hg2 (by simp)); have kb := hid (KB.out.kept hg2 (fun r e => by cases e)); have K2 := hid (KQ4.out.kept hg2); have V2 := hid (BV.out.kept hg2); have y4 : w2.cell? ⟨w.heap.size, 4, none⟩ = some (.slice (some ⟨g', 0, none⟩) L cap) := b0.out.cell 4; have y5 : w2.cell? ⟨w.heap.size + 3, 4, none⟩ = some (.slice pv j cv) := b3.out.cell 4; have y6 := b3.out.frozen 4; have e0 := cell_grown2 c0 hg2; have e1 := cell_grown2 c1 hg2; have e2 := cell_grown2 c2 hg2; have e3 := cell_grown2 c3 hg2; have e4 := cell_grown2 c4 hg2; have hw2 : w.heap.size + 4 ≤ w2.heap.size := Nat.le_trans hw4 hg2.size; have lg2 : g' < w2.heap.size := Nat.lt_of_lt_of_le lg hg2.size; have le2 : wr.heap.size ≤ w2.heap.size := hg2.size; clear c0 c1 c2 c3 c4 x4 B0 B1 B2 B3 KB KQ4 BV hg2)
        have mm : ∀ b, (b < M ∨ w2.heap.size ≤ b) → ((b < M ∨ w.heap.size + 4 ≤ b) ∧ some b ≠ (Value.slice pv j cv).ownBlock) := fun b hb => m0 b (by omega)
        have t0 : w2.cell? ⟨w.heap.size + 1, 0, none⟩ = some (.int .i64 b.kind) := b1.out.cell 0
        have t1 : w2.cell? ⟨w.heap.size + 1, 1, none⟩ = some (.int .i64 b.ty) := b1.out.cell 1
        have t2 : w2.cell? ⟨w.heap.size + 1, 2, none⟩ = some (.string b.txt) := b1.out.cell 2
        have t3 : w2.cell? ⟨w.heap.size + 1, 3, none⟩ = some (.int .i64 b.num) := b1.out.cell 3
        have t4 : w2.cell? ⟨w.heap.size + 1, 4, none⟩ = some (.slice pb b.kids.length cb) := b1.out.cell 4
        go_cut [] (fun W => ∃ v', RrI w #[.int .i64 k, .int .i64 t, .string s, .int .i64 n, .slice (some ⟨g', 0, none⟩) L cap] #[.int .i64 b.kind, .int .i64 b.ty, .string b.txt, .int .i64 b.num, .slice pb b.kids.length cb] k t s n v' W ∧ Kx (fun b => b < M ∨ w.heap.size + 4 ≤ b) W (w.heap.size + 4) 39 v' l1)
        case first =>
          clear TT TD
          go_region_law (first
            | (go_simp; go_at_call 18; refine (CR.out _ (by show M ≤ w2.heap.size; omega) (K2.out.kept (grown_drew (grown_refl _ _))) (V2.out.kept (grown_drew (grown_refl _ _)))).mono ?_; clear CR; rintro e w6 ⟨q6, rfl, hk6, hg6⟩; have T6 : Hid (w2.grownBy w6 none) := grown_trans (grown_drew (grown_refl _ _)) hg6; obtain ⟨p6, cap6, eq6, _⟩ := hk6.form; subst eq6; have K6 : Hid (KsV w6 (fun b => (b < M ∨ w.heap.size + 4 ≤ b) ∧ some b ≠ (Value.slice pv j cv).ownBlock) (.slice p6 z.kids.length cap6) z.kids) := (hk6.mono (fun b hb _ => mm b (show b < M ∨ w2.heap.size ≤ b from hb))); have a0 := hid (b0.out.kept T6.out (by simp)); have a1' := hid (b1.out.kept T6.out (by simp)); have a2 := hid (b2.out.kept T6.out (by simp)); have a3 := hid (b3.out.kept T6.out (by simp)); have ka := hid (kb.out.kept T6.out (fun r e => by cases e)); have GA := hid (grown_none GG.out T6.out); have s4 : w6.cell? ⟨w.heap.size + 3, 4, none⟩ = some (.slice pv j cv) := a3.out.cell 4; have s5 := a3.out.frozen 4; have s6 : ∀ o, (w6.alloc o).cell? ⟨w.heap.size + 3, 4, none⟩ = some (.slice pv j cv) := (fun o => (a3.out.alloc o).cell 4); have hw6 : w.heap.size + 4 ≤ w6.heap.size := Nat.le_trans hw2 T6.out.size; have hw7 : w.heap.size + 3 < w6.heap.size := (by omega); clear hk6 hg6)
            | (refine step_ndX 36 39 Tryd.underlying36 info39 (.tmp 47) (.tmp 58) rfl rfl (w.heap.size + 4) (.slice pv j cv) l0 z (.slice p6 z.kids.length cap6) ⟨w6.heap.size, 0, none⟩ 1 (ka.out.kept (grown_alloc (grown_refl w6 none) _) (fun r e => by cases e)) (NdC.new w6 39 z _) (K6.out.kept (grown_alloc (grown_refl w6 none) _)) HZ.out (by rw [World.size_alloc]; omega) rfl rfl ?_; intro v5 u5 h5 hg5; rw [← E1.out] at h5; have KB5 := hid h5; have RU := row_underX ka.out; have B05 := hid ((a0.out.alloc (.cells #[.int .i64 z.kind, .int .i64 z.ty, .string z.txt, .int .i64 z.num, .slice p6 z.kids.length cap6] 39)).kept hg5 (fun e => by have := RU _ e.symm; omega)); have B15 := hid ((a1'.out.alloc (.cells #[.int .i64 z.kind, .int .i64 z.ty, .string z.txt, .int .i64 z.num, .slice p6 z.kids.length cap6] 39)).kept hg5 (fun e => by have := RU _ e.symm; omega)); have B25 := hid ((a2.out.alloc (.cells #[.int .i64 z.kind, .int .i64 z.ty, .string z.txt, .int .i64 z.num, .slice p6 z.kids.length cap6] 39)).kept hg5 (fun e => by have := RU _ e.symm; omega)); have B35 := hid ((a3.out.alloc (.cells #[.int .i64 z.kind, .int .i64 z.ty, .string z.txt, .int .i64 z.num, .slice p6 z.kids.length cap6] 39)).kept hg5 (fun e => by have := RU _ e.symm; omega)); have G5 : Hid (w.grownBy u5 none) := (grown_ob' (grown_alloc GA.out _) hg5 (fun x hx => by have := RU _ hx; omega)); obtain ⟨p5, c5, e5', _⟩ := h5.form; subst e5'; have d4 : u5.cell? ⟨w.heap.size + 3, 4, none⟩ = some (.slice pv j cv) := B35.out.cell 4; have d5 := B35.out.frozen 4; clear h5 hg5))
          all_goals (
            (try go_wp2_with fail)
            go_meet
            have gs := grown_set (grown_refl u5 (some (w.heap.size + 3))) 4 (.slice p5 l1.length c5)
            exact ⟨_, ⟨grown_set_new G5.out _ (by simp only; omega), B05.out.kept gs (by simp), B15.out.kept gs (by simp), B25.out.kept gs (by simp), B35.out.set 4 _⟩, KB5.out.kept gs (fun r e => by have := Option.some.inj e; omega)⟩)
        case rest =>
          obtain ⟨v', hR, hK⟩ := hcut
          have RR := hid hR
          have KK := hid hK
          clear hR hK
          go_wp2
          go_roundw
          case rel => exact ⟨j + 1, v', by omega, by go_num, by rw [TD.out]; go_num, RR.out, by rw [TT.out]; exact KK.out⟩
          case measure => simp [intOf]; omega
      · rw [if_neg hin] at TT
        obtain ⟨l1, e1'⟩ : ∃ l1, l1 = l0 ++ [y] := ⟨_, rfl⟩
        have E1 := hid e1'
        rw [← e1'] at TT
        clear e1' IHY
        have K4m : Hid (∀ W, KsV W (fun b => b < M) (.slice p4 y.kids.length cap4) y.kids → KsV W (fun b => (b < M ∨ w.heap.size + 4 ≤ b) ∧ some b ≠ (Value.slice pv j cv).ownBlock) (.slice p4 y.kids.length cap4) y.kids) := fun W hW => hW.mono (fun b hb _ => mm b (Or.inl hb))
        clear mm
        have hout : ¬ A ≤ p ∨ (A ≤ p ∧ ¬ p < A + C) := by omega
        clear hin
        rcases hout with h8 | ⟨h8, h9⟩
        · have d1 : ¬ (A : Int) ≤ p := by omega
          clear h8
          go_wp2_with (go_at_call 32; refine (CQ.out _ _ KQ4.out).mono ?_; clear CQ; rintro e w2 ⟨rfl, hg2⟩; have GG := hid (grown_none G.out hg2); have b0 := hid (B0.out.kept hg2 (by simp)); have b1 := hid (B1.out.kept hg2 (by simp)); have b2 := hid (B2.out.kept hg2 (by simp)); have b3 := hid (B3.out.kept hg2 (by simp)); have kb := hid (KB.out.kept hg2 (fun r e => by cases e)); have K2 := hid (KQ4.out.kept hg2); have V2 := hid (BV.out.kept hg2); have y4 : w2.cell? ⟨w.heap.size, 4, none⟩ = some (.slice (some ⟨g', 0, none⟩) L cap) := b0.out.cell 4; have y5 : w2.cell? ⟨w.heap.size + 3, 4, none⟩ = some (.slice pv j cv) := b3.out.cell 4; have y6 := b3.out.frozen 4; have e0 := cell_grown2 c0 hg2; have e1 := cell_grown2 c1 hg2; have e2 := cell_grown2 c2 hg2; have e3 := cell_grown2 c3 hg2; have e4 := cell_grown2 c4 hg2; have hw2 : w.heap.size + 4 ≤ w2.heap.size := Nat.le_trans hw4 hg2.size; have lg2 : g' < w2.heap.size := Nat.lt_of_lt_of_le lg hg2.size; have le2 : wr.heap.size ≤ w2.heap.size := hg2.size; clear c0 c1 c2 c3 c4 x4 B0 B1 B2 B3 KB KQ4 BV hg2)
          have K4 := hid (K4m.out _ K2.out)
          have y7 : ∀ o, (w2.alloc o).cell? ⟨w.heap.size + 3, 4, none⟩ = some (.slice pv j cv) := fun o => (b3.out.alloc o).cell 4
          have hw7 : w.heap.size + 3 < w2.heap.size := by omega
          go_cut [] (fun W => ∃ v', RrI w #[.int .i64 k, .int .i64 t, .string s, .int .i64 n, .slice (some ⟨g', 0, none⟩) L cap] #[.int .i64 b.kind, .int .i64 b.ty, .string b.txt, .int .i64 b.num, .slice pb b.kids.length cb] k t s n v' W ∧ Kx (fun b => b < M ∨ w.heap.size + 4 ≤ b) W (w.heap.size + 4) 39 v' l1)
          case first =>
            clear TT TD
            go_region_law (refine step_ndX 36 39 Tryd.underlying36 info39 (.tmp 62) (.tmp 68) rfl rfl (w.heap.size + 4) (.slice pv j cv) l0 y (.slice p4 y.kids.length cap4) ⟨w2.heap.size, 0, none⟩ 1 (kb.out.kept (grown_drew (grown_alloc (grown_refl w2 none) _)) (fun r e => by cases e)) (NdC.drew (NdC.new w2 39 y _)) (K4.out.kept (grown_drew (grown_alloc (grown_refl w2 none) _))) HZ.out (by show w.heap.size + 4 ≤ (w2.alloc _).heap.size; rw [World.size_alloc]; omega) rfl rfl ?_; intro v5 u5 h5 hg5; rw [← E1.out] at h5; have KB5 := hid h5; have RU := row_underX kb.out; have B05 := hid ((b0.out.alloc (.cells #[.int .i64 y.kind, .int .i64 y.ty, .string y.txt, .int .i64 y.num, .slice p4 y.kids.length cap4] 39)).drew.kept hg5 (fun e => by have := RU _ e.symm; omega)); have B15 := hid ((b1.out.alloc (.cells #[.int .i64 y.kind, .int .i64 y.ty, .string y.txt, .int .i64 y.num, .slice p4 y.kids.length cap4] 39)).drew.kept hg5 (fun e => by have := RU _ e.symm; omega)); have B25 := hid ((b2.out.alloc (.cells #[.int .i64 y.kind, .int .i64 y.ty, .string y.txt, .int .i64 y.num, .slice p4 y.kids.length cap4] 39)).drew.kept hg5 (fun e => by have := RU _ e.symm; omega)); have B35 := hid ((b3.out.alloc (.cells #[.int .i64 y.kind, .int .i64 y.ty, .string y.txt, .int .i64 y.num, .slice p4 y.kids.length cap4] 39)).drew.kept hg5 (fun e => by have := RU _ e.symm; omega)); have G5 : Hid (w.grownBy u5 none) := (grown_ob' (grown_drew (grown_alloc GG.out _)) hg5 (fun x hx => by have := RU _ hx; omega)); obtain ⟨p5, c5, e5', _⟩ := h5.form; subst e5'; have d4 : u5.cell? ⟨w.heap.size + 3, 4, none⟩ = some (.slice pv j cv) := B35.out.cell 4; have d5 := B35.out.frozen 4; clear h5 hg5)
            all_goals (
              (try go_wp2_with fail)
              go_meet
              have gs := grown_set (grown_refl u5 (some (w.heap.size + 3))) 4 (.slice p5 l1.length c5)
              exact ⟨_, ⟨grown_set_new G5.out _ (by simp only; omega), B05.out.kept gs (by simp), B15.out.kept gs (by simp), B25.out.kept gs (by simp), B35.out.set 4 _⟩, KB5.out.kept gs (fun r e => by have := Option.some.inj e; omega)⟩)
          case rest =>
            obtain ⟨v', hR, hK⟩ := hcut
            have RR := hid hR
            have KK := hid hK
            clear hR hK
            go_wp2
            go_roundw
            case rel => exact ⟨j + 1, v', by omega, by go_num, by rw [TD.out]; go_num, RR.out, by rw [TT.out]; exact KK.out⟩
            case measure => simp [intOf]; omega
        · have d1 : (A : Int) ≤ p := by omega
          have d2 : ¬ (p : Int) < A + C := by omega
          clear h8 h9
          go_wp2_with (go_at_call 32; refine (CQ.out _ _ KQ4.out).mono ?_; clear CQ; rintro e w2 ⟨rfl, hg2⟩; have GG := hid (grown_none G.out hg2); have b0 := hid (B0.out.kept hg2 (by simp)); have b1 := hid (B1.out.kept hg2 (by simp)); have b2 := hid (B2.out.kept hg2 (by simp)); have b3 := hid (B3.out.kept hg2 (by simp)); have kb := hid (KB.out.kept hg2 (fun r e => by cases e)); have K2 := hid (KQ4.out.kept hg2); have V2 := hid (BV.out.kept hg2); have y4 : w2.cell? ⟨w.heap.size, 4, none⟩ = some (.slice (some ⟨g', 0, none⟩) L cap) := b0.out.cell 4; have y5 : w2.cell? ⟨w.heap.size + 3, 4, none⟩ = some (.slice pv j cv) := b3.out.cell 4; have y6 := b3.out.frozen 4; have e0 := cell_grown2 c0 hg2; have e1 := cell_grown2 c1 hg2; have e2 := cell_grown2 c2 hg2; have e3 := cell_grown2 c3 hg2; have e4 := cell_grown2 c4 hg2; have hw2 : w.heap.size + 4 ≤ w2.heap.size := Nat.le_trans hw4 hg2.size; have lg2 : g' < w2.heap.size := Nat.lt_of_lt_of_le lg hg2.size; have le2 : wr.heap.size ≤ w2.heap.size := hg2.size; clear c0 c1 c2 c3 c4 x4 B0 B1 B2 B3 KB KQ4 BV hg2)
          have K4 := hid (K4m.out _ K2.out)
          have y7 : ∀ o, (w2.alloc o).cell? ⟨w.heap.size + 3, 4, none⟩ = some (.slice pv j cv) := fun o => (b3.out.alloc o).cell 4
          have hw7 : w.heap.size + 3 < w2.heap.size := by omega
          go_cut [] (fun W => ∃ v', RrI w #[.int .i64 k, .int .i64 t, .string s, .int .i64 n, .slice (some ⟨g', 0, none⟩) L cap] #[.int .i64 b.kind, .int .i64 b.ty, .string b.txt, .int .i64 b.num, .slice pb b.kids.length cb] k t s n v' W ∧ Kx (fun b => b < M ∨ w.heap.size + 4 ≤ b) W (w.heap.size + 4) 39 v' l1)
          case first =>
            clear TT TD
            go_region_law (refine step_ndX 36 39 Tryd.underlying36 info39 (.tmp 62) (.tmp 68) rfl rfl (w.heap.size + 4) (.slice pv j cv) l0 y (.slice p4 y.kids.length cap4) ⟨w2.heap.size, 0, none⟩ 1 (kb.out.kept (grown_drew (grown_alloc (grown_refl w2 none) _)) (fun r e => by cases e)) (NdC.drew (NdC.new w2 39 y _)) (K4.out.kept (grown_drew (grown_alloc (grown_refl w2 none) _))) HZ.out (by show w.heap.size + 4 ≤ (w2.alloc _).heap.size; rw [World.size_alloc]; omega) rfl rfl ?_; intro v5 u5 h5 hg5; rw [← E1.out] at h5; have KB5 := hid h5; have RU := row_underX kb.out; have B05 := hid ((b0.out.alloc (.cells #[.int .i64 y.kind, .int .i64 y.ty, .string y.txt, .int .i64 y.num, .slice p4 y.kids.length cap4] 39)).drew.kept hg5 (fun e => by have := RU _ e.symm; omega)); have B15 := hid ((b1.out.alloc (.cells #[.int .i64 y.kind, .int .i64 y.ty, .string y.txt, .int .i64 y.num, .slice p4 y.kids.length cap4] 39)).drew.kept hg5 (fun e => by have := RU _ e.symm; omega)); have B25 := hid ((b2.out.alloc (.cells #[.int .i64 y.kind, .int .i64 y.ty, .string y.txt, .int .i64 y.num, .slice p4 y.kids.length cap4] 39)).drew.kept hg5 (fun e => by have := RU _ e.symm; omega)); have B35 := hid ((b3.out.alloc (.cells #[.int .i64 y.kind, .int .i64 y.ty, .string y.txt, .int .i64 y.num, .slice p4 y.kids.length cap4] 39)).drew.kept hg5 (fun e => by have := RU _ e.symm; omega)); have G5 : Hid (w.grownBy u5 none) := (grown_ob' (grown_drew (grown_alloc GG.out _)) hg5 (fun x hx => by have := RU _ hx; omega)); obtain ⟨p5, c5, e5', _⟩ := h5.form; subst e5'; have d4 : u5.cell? ⟨w.heap.size + 3, 4, none⟩ = some (.slice pv j cv) := B35.out.cell 4; have d5 := B35.out.frozen 4; clear h5 hg5)
            all_goals (
              (try go_wp2_with fail)
              go_meet
              have gs := grown_set (grown_refl u5 (some (w.heap.size + 3))) 4 (.slice p5 l1.length c5)
              exact ⟨_, ⟨grown_set_new G5.out _ (by simp only; omega), B05.out.kept gs (by simp), B15.out.kept gs (by simp), B25.out.kept gs (by simp), B35.out.set 4 _⟩, KB5.out.kept gs (fun r e => by have := Option.some.inj e; omega)⟩)
          case rest =>
            obtain ⟨v', hR, hK⟩ := hcut
            have RR := hid hR
            have KK := hid hK
            clear hR hK
            go_wp2
            go_roundw
            case rel => exact ⟨j + 1, v', by omega, by go_num, by rw [TD.out]; go_num, RR.out, by rw [TT.out]; exact KK.out⟩
            case measure => simp [intOf]; omega
    · have hjL : j = L := by omega
      subst hjL
      have j1 : ¬ (j : Int) < j := by omega
      have ta : ks.take j = ks := List.take_of_length_le (by rw [HL.out]; exact Nat.le_refl _)
      rw [ta] at KB ⊢
      have x0 : wr.cell? ⟨w.heap.size + 3, 0, none⟩ = some (.int .i64 k) := by rw [hB3.cell]; rfl
      have x1 : wr.cell? ⟨w.heap.size + 3, 1, none⟩ = some (.int .i64 t) := by rw [hB3.cell]; rfl
      have x2 : wr.cell? ⟨w.heap.size + 3, 2, none⟩ = some (.string s) := by rw [hB3.cell]; rfl
      have x3 : wr.cell? ⟨w.heap.size + 3, 3, none⟩ = some (.int .i64 n) := by rw [hB3.cell]; rfl
      have x5 : wr.cell? ⟨w.heap.size + 3, 4, none⟩ = some (.slice pv j cv) := by rw [hB3.cell]; rfl
      have z0 : wr.cell? ⟨w.heap.size + 2, 0, none⟩ = some (.int .i64 0) := by rw [hB2.cell]; rfl
      have z1 : wr.cell? ⟨w.heap.size + 2, 1, none⟩ = some (.int .i64 0) := by rw [hB2.cell]; rfl
      have z2 : wr.cell? ⟨w.heap.size + 2, 2, none⟩ = some (.string ⟨#[]⟩) := by rw [hB2.cell]; rfl
      have z3 : wr.cell? ⟨w.heap.size + 2, 3, none⟩ = some (.int .i64 0) := by rw [hB2.cell]; rfl
      have z4 : wr.cell? ⟨w.heap.size + 2, 4, none⟩ = some (.slice none 0 0) := by rw [hB2.cell]; rfl
      have f0 := hB2.frozen 0
      have f1 := hB2.frozen 1
      have f2 := hB2.frozen 2
      have f3 := hB2.frozen 3
      have f4 := hB2.frozen 4
      clear hg hB0 hB1 hB2 hB3 hkb IH HK ta tl HBV HOK B0 B1 B2 B3
      go_wp2
      have gs := grown_set5 (grown_refl wr (some (w.heap.size + 2))) 0 (.int .i64 k) (.int .i64 t) (.string s) (.int .i64 n) (.slice pv j cv)
      have kF := (KB.out.kept gs (fun r e => by have := Option.some.inj e; omega)).ks.mono (Q := fun b => b < M ∨ w.heap.size ≤ b) (fun b hb _ => by omega)
      have gW : w.grownBy (set5 wr (w.heap.size + 2) 0 (.int .i64 k) (.int .i64 t) (.string s) (.int .i64 n) (.slice pv j cv)) none := grown_set5_new G.out _ _ _ _ _ _ (by omega)
      exact bodyPost_ret (v := .agg #[.int .i64 k, .int .i64 t, .string s, .int .i64 n, .slice pv j cv]) (by simp [results, Tryd.results18, go_sem, z0, z1, z2, z3, z4]) rfl ⟨_, rfl, kF, gW⟩
theorem rrep_any (M : Nat) (b : Nd) (vb : Value) : ∀ (x : Nd), x.ok → x.cnt ≤ 10000 → ∀ (p : Nat) (v : Value) (w : World), (p : Int) ≤ 9223372036854775807 → M ≤ w.heap.size → NdV w (fun b => b < M) v x → NdV w (fun b => b < M) vb b → Calls Tryd.prog 18 #[v, .int .i64 p, vb] w (RrP M w (Nd.repl b x p)) := by
  refine Nd.indA ?_
  intro k t s n ks ih hok hc p v w hp hM hv hb
  obtain ⟨q, hv, hk⟩ := hv
  subst hv
  rw [Nd.cnt] at hc
  rw [Nd.repl]
  by_cases h0 : p = 0
  · rw [if_pos h0, h0]
    obtain ⟨p0, c0, e0, _⟩ := hk.form
    rw [e0]
    exact rrep_zero M k t s n p0 _ c0 b vb w hb
  · rw [if_neg h0]
    refine rrep_step M k t s n q ks p b vb w hM hok.2.1 hok.2.2 (by omega) h0 hp hk hb (fun y hy p' v W h1 h2 h3 h4 => ih y hy (Nd.oks_mem hok.2.2 y hy) ?_ p' v W h1 h2 h3 h4)
    obtain ⟨a, b', rfl⟩ := List.append_of_mem hy
    rw [Nd.cnts_append, Nd.cnts] at hc
    omega
end Go.Proofs.YtdodammplhlihaaDoor
