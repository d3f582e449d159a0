/-
  made: the law's trees: whatever rows are handed in, some tree within bounds.
-/
import Derived.Test.YtdodammplhlihaaDoorAb
namespace Go.Proofs.YtdodammplhlihaaDoor
open Go.RowKit
theorem and_le (n : Int) (m : Nat) (hm : m < 1000) : ∃ k : Nat, bits .and .i64 n m = (k : Int) ∧ k ≤ m := by
  have h1 : (BitVec.ofInt 64 (m : Int)).toNat = m := by
    rw [BitVec.toNat_ofInt]
    omega
  have key : (BitVec.ofInt 64 n &&& BitVec.ofInt 64 (m : Int)).toNat ≤ m := by
    rw [BitVec.toNat_and, h1]
    exact Nat.and_le_right
  refine ⟨(BitVec.ofInt 64 n &&& BitVec.ofInt 64 (m : Int)).toNat, ?_, key⟩
  show IntKind.i64.wrap ((BitVec.ofInt 64 n &&& BitVec.ofInt 64 (m : Int)).toNat : Nat) = _
  generalize (BitVec.ofInt 64 n &&& BitVec.ofInt 64 (m : Int)).toNat = x at *
  rw [IntKind.wrap_i64]
  omega
/-- A row of the law's list stands here. -/
def TrAt (w : World) (g o : Nat) : Prop := ∃ (a b m c : Int) (s : ByteArray), w.cell? ⟨g, o, none⟩ = some (.int .i64 a) ∧ w.cell? ⟨g, o + 1, none⟩ = some (.int .i64 b) ∧ w.cell? ⟨g, o + 2, none⟩ = some (.string s) ∧ w.cell? ⟨g, o + 3, none⟩ = some (.int .i64 m) ∧ w.cell? ⟨g, o + 4, none⟩ = some (.int .i64 c) ∧ (s.size : Int) ≤ 9223372036854775807 ∧ -9223372036854775808 ≤ m ∧ m ≤ 9223372036854775807
def TrV (w : World) (p : Option Addr) (n : Nat) : Prop := 0 < n → ∃ g o, p = some ⟨g, o, none⟩ ∧ ∀ i, i < n → TrAt w g (o + i * 5)
theorem cell_grown {w w' : World} {g o : Nat} {v : Value} (h : w.cell? ⟨g, o, none⟩ = some v) (hg : w.grownBy w' none) : w'.cell? ⟨g, o, none⟩ = some v :=
  (World.cell?_of_block (hg.block g (cell_lt h) (by simp))).trans h
theorem TrAt.kept {w w' : World} {g o : Nat} (h : TrAt w g o) (hg : w.grownBy w' none) : TrAt w' g o := by
  obtain ⟨a, b, m, c, s, h0, h1, h2, h3, h4, h5⟩ := h
  exact ⟨a, b, m, c, s, cell_grown h0 hg, cell_grown h1 hg, cell_grown h2 hg, cell_grown h3 hg, cell_grown h4 hg, h5⟩
theorem TrV.kept {w w' : World} {p : Option Addr} {n : Nat} (h : TrV w p n) (hg : w.grownBy w' none) : TrV w' p n := fun h0 => by
  obtain ⟨g, o, h1, h2⟩ := h h0
  exact ⟨g, o, h1, fun i hi => (h2 i hi).kept hg⟩
def MadeP (w : World) (n at0 : Nat) (e : Ending) (w' : World) : Prop := ∃ (x : Nd) (q : Value) (at' : Nat), e = .returned (.tuple #[.agg #[.int .i64 x.kind, .int .i64 x.ty, .string x.txt, .int .i64 x.num, q], .int .i64 at']) ∧ x.ok ∧ KsV w' (fun b => w.heap.size ≤ b) q x.kids ∧ w.grownBy w' none
  ∧ (n ≤ at0 → at' = at0 ∧ x.cnt = 1) ∧ (at0 < n → at0 < at' ∧ at' ≤ n ∧ x.cnt = at' - at0)
set_option maxRecDepth 100000 in
theorem made_end (p : Option Addr) (n cap at0 deep : Nat) (w : World) (h : n ≤ at0) : Calls Tryd.prog 29 #[.slice p n cap, .int .i64 at0, .int .i64 deep] w (MadeP w n at0) := by
  have c1 : (n : Int) ≤ at0 := by omega
  go_enter Tryd.func29, Tryd.ntmps29
  go_wp2
  refine bodyPost_ret (v := .tuple #[.agg #[.int .i64 14, .int .i64 0, .string ⟨#[]⟩, .int .i64 0, .slice none 0 0], .int .i64 at0]) (by simp [results, Tryd.results29, go_sem]) rfl ⟨.mk 14 0 ⟨#[]⟩ 0 [], .slice none 0 0, at0, rfl, ?_, KsV.nil _ _, ?_, fun _ => ⟨rfl, rfl⟩, fun h' => absurd h' (by omega)⟩
  · exact ⟨⟨by decide, by decide, by decide, by decide, by decide, by decide, by decide⟩, by decide, trivial⟩
  · repeat (first | exact grown_refl _ _ | refine grown_set_new ?_ _ (by simp) | refine grown_alloc ?_ _)
def MadI (w : World) (n at0 : Nat) (X Y : Int) (sc : ByteArray) (m : Int) (at_ kk : Nat) (ks : List Nd) (v : Value) (wr : World) : Prop :=
  at0 < at_ ∧ at_ ≤ n ∧ ks.length + kk ≤ 7 ∧ Nd.oks ks ∧ 1 + Nd.cnts ks = at_ - at0 ∧ w.grownBy wr none ∧ Blk wr w.heap.size 24 #[.int .i64 0, .int .i64 0, .string ⟨#[]⟩, .int .i64 0, .slice none 0 0] ∧ Blk wr (w.heap.size + 2) 24 #[.int .i64 X, .int .i64 Y, .string sc, .int .i64 m, v] ∧ Kb wr (w.heap.size + 3) 24 v ks
set_option maxRecDepth 100000 in
set_option maxHeartbeats 2000000 in
theorem made_step (p : Option Addr) (n cap at0 deep : Nat) (w : World) (hn : n ≤ 300) (h : at0 < n) (hd : deep ≤ 60) (hT : TrV w p n)
    (ih : deep < 60 → ∀ (a : Nat) (W : World), w.grownBy W none → Calls Tryd.prog 29 #[.slice p n cap, .int .i64 a, .int .i64 (deep + 1)] W (MadeP W n a)) :
    Calls Tryd.prog 29 #[.slice p n cap, .int .i64 at0, .int .i64 deep] w (MadeP w n at0) := by
  have IH := hid ih
  obtain ⟨g, o, rfl, hrow⟩ := hT (by omega)
  obtain ⟨a, b, m, c, s, h0, h1, h2, h3, h4, hs1, hm0, hm1⟩ := hrow at0 h
  obtain ⟨X, eX, hX⟩ := and_le a 31 (by decide)
  obtain ⟨Y, eY, hY⟩ := and_le b 3 (by decide)
  obtain ⟨K, eK, hK⟩ := and_le c 7 (by decide)
  have e1 : bits .and .i64 a 31 = (X : Int) := eX
  have e2 : bits .and .i64 b 3 = (Y : Int) := eY
  have e3 : bits .and .i64 c 7 = (K : Int) := eK
  have i1 : (n : Int) ≤ 300 := by omega
  have i2 : (at0 : Int) < n := by omega
  have i3 : (0 : Int) ≤ at0 := by omega
  have dn : decide (n ≤ at0) = false := by simp; omega
  have dn' : decide ((n : Int) ≤ at0) = false := by simp; omega
  have i4 : (deep : Int) ≤ 60 := by omega
  have lg : g < w.heap.size := cell_lt h0
  clear ih hrow eX eY eK hT
  by_cases hsz : 64 < s.size
  · have s1 : (64 : Int) < s.size := by omega
    have ds : decide (64 < s.size) = true := by simp; omega
    have hk1 : (s.extract 0 64).size ≤ 64 := by rw [ByteArray.size_extract]; omega
    have START1 : MadI w n at0 X Y (s.extract 0 64) m (at0 + 1) K [] (.slice none 0 0) (((w.alloc (.cells #[.int .i64 0, .int .i64 0, .string ⟨#[]⟩, .int .i64 0, .slice none 0 0] 24)).alloc (.cells #[.int .i64 a, .int .i64 b, .string s, .int .i64 m, .int .i64 c] 34)).alloc (.cells #[.int .i64 X, .int .i64 Y, .string (s.extract 0 64), .int .i64 m, .slice none 0 0] 24)) := by
      refine ⟨by omega, by omega, by simpa using hK, trivial, by rw [Nd.cnts]; omega, grown_alloc (grown_alloc (grown_alloc (grown_refl w none) _) _) _, ((Blk.new w 24 _).alloc _).alloc _, ?_, Kb.nil _ _ _⟩
      have := Blk.new ((w.alloc (.cells #[.int .i64 0, .int .i64 0, .string ⟨#[]⟩, .int .i64 0, .slice none 0 0] 24)).alloc (.cells #[.int .i64 a, .int .i64 b, .string s, .int .i64 m, .int .i64 c] 34)) 24 #[.int .i64 X, .int .i64 Y, .string (s.extract 0 64), .int .i64 m, .slice none 0 0]
      rw [World.size_alloc, World.size_alloc] at this
      exact this
    have HSTART := hid START1
    go_enter Tryd.func29, Tryd.ntmps29
    go_wp2
    generalize s.extract 0 64 = sc at *
    have START := HSTART.out
    clear HSTART START1
    have k1 := hid hk1
    clear hk1
    go_loopw [1, 11] (fun a c wr => ∃ (at_ kk : Nat) (ks : List Nd) (v : Value), a = .int .i64 at_ ∧ c = .int .i64 kk ∧ MadI w n at0 X Y sc m at_ kk ks v wr) (fun _ c _ => (intOf c).toNat)
    case atStart => exact ⟨at0 + 1, K, [], .slice none 0 0, by go_num, rfl, START⟩
    case round =>
      obtain ⟨at_, kk, ks, v, rfl, rfl, hI⟩ := hrel
      have HI := hid hI
      obtain ⟨i1, i2, i3, i4, i5, hg, hB0, hB2, hkb⟩ := hI
      obtain ⟨pv, cv, ev, _⟩ := hkb.form
      subst ev
      have B0 := hid hB0
      have B2 := hid hB2
      have KB := hid hkb
      have G := hid hg
      have I4 := hid i4
      have I5 := hid i5
      have c0 : (0 : Int) ≤ kk := by omega
      have c1 : (0 : Int) ≤ at_ := by omega
      have c2 : (at_ : Int) ≤ 300 := by omega
      have hw2 : w.heap.size + 2 < wr.heap.size := hB2.lt
      obtain ⟨ln, eln⟩ : ∃ ln, ks.length = ln := ⟨_, rfl⟩
      have ELN := hid eln
      have x0 : wr.cell? ⟨w.heap.size + 2, 0, none⟩ = some (.int .i64 X) := by rw [hB2.cell]; rfl
      have x1 : wr.cell? ⟨w.heap.size + 2, 1, none⟩ = some (.int .i64 Y) := by rw [hB2.cell]; rfl
      have x2 : wr.cell? ⟨w.heap.size + 2, 2, none⟩ = some (.string sc) := by rw [hB2.cell]; rfl
      have x3 : wr.cell? ⟨w.heap.size + 2, 3, none⟩ = some (.int .i64 m) := by rw [hB2.cell]; rfl
      have x4 : wr.cell? ⟨w.heap.size + 2, 4, none⟩ = some (.slice pv ks.length cv) := by rw [hB2.cell]; rfl
      rw [eln] at x4 i3
      have f4 := hB2.frozen 4
      by_cases hgo : 0 < kk ∧ at_ < n ∧ deep < 60
      · obtain ⟨g1, g2, g3⟩ := hgo
        have d1 : (0 : Int) < kk := by omega
        have d2 : (at_ : Int) < n := by omega
        have d3 : (deep : Int) < 60 := by omega
        have CC := hid (IH.out g3 at_ wr hg)
        clear hg hB0 hB2 hkb i4 i5 IH eln
        go_wp2_with (first
          | (go_at_call 29; refine CC.out.mono ?_; clear CC; rintro e w2 ⟨y, q2, at2, rfl, hy, hk2, hg2, _, h2⟩; obtain ⟨h21, h22, h23⟩ := h2 g2; obtain ⟨p2, cap2, eq2, _⟩ := hk2.form; subst eq2; have K2 := hid hk2; have G2 := hid hg2; have HY := hid hy; have H23 := hid h23; have b0 := hid (B0.out.kept hg2 (by simp)); have b2 := hid (B2.out.kept hg2 (by simp)); have kb := hid (KB.out.kept hg2 (by simp)); have e4 : w2.cell? ⟨w.heap.size + 2, 4, none⟩ = some (.slice pv ln cv) := by { rw [b2.out.cell, ← ELN.out]; rfl }; have e5 := b2.out.frozen 4; have hw3 : w.heap.size + 2 < w2.heap.size := Nat.lt_of_lt_of_le hw2 hg2.size; clear hk2 hg2 hy h2 h23)
          | (at_builtin; refine append_nd 22 24 Tryd.underlying22 info24 (.tmp 69) (.tmp 71) rfl rfl (w.heap.size + 3) (.slice pv ln cv) ks y (.slice p2 y.kids.length cap2) ⟨w2.heap.size + 1, 0, none⟩ 1 (by { have := (kb.out.kept (grown_alloc (grown_alloc (grown_refl w2 none) (.cells #[.int .i64 y.kind, .int .i64 y.ty, .string y.txt, .int .i64 y.num, .slice p2 y.kids.length cap2] 24)) (.cells #[.int .i64 y.kind, .int .i64 y.ty, .string y.txt, .int .i64 y.num, .slice p2 y.kids.length cap2] 24)) (by simp)); rw [ELN.out] at this; exact this }) (by { have := NdC.new (w2.alloc (.cells #[.int .i64 y.kind, .int .i64 y.ty, .string y.txt, .int .i64 y.num, .slice p2 y.kids.length cap2] 24)) 24 y (.slice p2 y.kids.length cap2); rw [World.size_alloc] at this; exact this }) ((K2.out.mono (fun b hb _ => ⟨by omega, fun e => by { have := (KB.out.lt b (by rw [ELN.out]; exact e.symm)).2; omega }⟩)).kept (grown_alloc (grown_alloc (grown_refl w2 none) _) _)) (by have := ELN.out; omega) (by rw [World.size_alloc, World.size_alloc]; omega) rfl rfl ?_; intro v5 u5 h5 hg5; obtain ⟨l1, e1⟩ : ∃ l1, l1 = ks ++ [y] := ⟨_, rfl⟩; have E1 := hid e1; rw [← e1] at h5; clear e1; have KB5 := hid h5; have RU : ∀ r, (Value.slice pv ln cv).ownBlock = some r → w.heap.size + 3 ≤ r := (fun r hr => (KB.out.lt r (by rw [ELN.out]; exact hr)).1); have B05 := hid (((b0.out.alloc (.cells #[.int .i64 y.kind, .int .i64 y.ty, .string y.txt, .int .i64 y.num, .slice p2 y.kids.length cap2] 24)).alloc (.cells #[.int .i64 y.kind, .int .i64 y.ty, .string y.txt, .int .i64 y.num, .slice p2 y.kids.length cap2] 24)).kept hg5 (fun e => by have := RU _ e.symm; omega)); have B25 := hid (((b2.out.alloc (.cells #[.int .i64 y.kind, .int .i64 y.ty, .string y.txt, .int .i64 y.num, .slice p2 y.kids.length cap2] 24)).alloc (.cells #[.int .i64 y.kind, .int .i64 y.ty, .string y.txt, .int .i64 y.num, .slice p2 y.kids.length cap2] 24)).kept hg5 (fun e => by have := RU _ e.symm; omega)); have G5 : Hid (w.grownBy u5 none) := (grown_ob' (grown_alloc (grown_alloc (grown_none G.out G2.out) _) _) hg5 (fun x hx => by have := RU _ hx; omega)); obtain ⟨p5, c5, e5', _⟩ := h5.form; subst e5'; have d4 : u5.cell? ⟨w.heap.size + 2, 4, none⟩ = some (.slice pv ln cv) := (by { rw [B25.out.cell, ← ELN.out]; rfl }); have d5 := B25.out.frozen 4; clear h5 hg5))
        go_roundw
        case rel =>
          have gs := grown_set (grown_refl u5 (some (w.heap.size + 2))) 4 (.slice p5 l1.length c5)
          have hk5 : Kb (u5.setCell ⟨w.heap.size + 2, 4, none⟩ (.slice p5 l1.length c5)) (w.heap.size + 3) 24 (.slice p5 l1.length c5) l1 := KB5.out.kept gs (fun r e => by have := Option.some.inj e; omega)
          refine ⟨at2, kk - 1, l1, _, rfl, ?_, by omega, h22, ?_, ?_, ?_, grown_set_new G5.out _ (by simp only; omega), B05.out.kept gs (by simp), B25.out.set 4 _, hk5⟩
          · congr 1; omega
          · rw [E1.out, List.length_append, ELN.out]
            show ln + 1 + _ ≤ 7
            omega
          · rw [E1.out]
            exact Nd.oks_of (fun z hz => by
              rcases List.mem_append.1 hz with hz | hz
              · exact Nd.oks_mem I4.out z hz
              · rw [List.mem_singleton] at hz
                rw [hz]; exact HY.out)
          · rw [E1.out, Nd.cnts_append]
            have q1 := I5.out
            have q2 := H23.out
            show 1 + (Nd.cnts ks + (y.cnt + 0)) = _
            omega
        case measure => simp [intOf]; omega
      · have z0 : wr.cell? ⟨w.heap.size, 0, none⟩ = some (.int .i64 0) := by rw [hB0.cell]; rfl
        have z1 : wr.cell? ⟨w.heap.size, 1, none⟩ = some (.int .i64 0) := by rw [hB0.cell]; rfl
        have z2 : wr.cell? ⟨w.heap.size, 2, none⟩ = some (.string ⟨#[]⟩) := by rw [hB0.cell]; rfl
        have z3 : wr.cell? ⟨w.heap.size, 3, none⟩ = some (.int .i64 0) := by rw [hB0.cell]; rfl
        have z4 : wr.cell? ⟨w.heap.size, 4, none⟩ = some (.slice none 0 0) := by rw [hB0.cell]; rfl
        have w0 := hB0.frozen 0
        have w1 := hB0.frozen 1
        have w2 := hB0.frozen 2
        have w3 := hB0.frozen 3
        have w4 := hB0.frozen 4
        have hcase : (kk = 0) ∨ (0 < kk ∧ ¬ at_ < n) ∨ (0 < kk ∧ at_ < n ∧ ¬ deep < 60) := by omega
        rw [eln] at KB
        have KBX := hid KB.out
        clear hgo hg hB0 hB2 hkb i4 i5 IH eln KB
        rcases hcase with q1 | ⟨q1, q2⟩ | ⟨q1, q2, q3⟩
        · subst q1
          go_wp2
          have gs := grown_set5 (grown_refl wr (some w.heap.size)) 0 (.int .i64 X) (.int .i64 Y) (.string sc) (.int .i64 m) (.slice pv ln cv)
          have kF := (KBX.out.kept gs (fun r e => by have := Option.some.inj e; omega)).ks.mono (Q := fun b => w.heap.size ≤ b) (fun b hb _ => by omega)
          have gW : w.grownBy (set5 wr w.heap.size 0 (.int .i64 X) (.int .i64 Y) (.string sc) (.int .i64 m) (.slice pv ln cv)) none := grown_set5_new G.out _ _ _ _ _ _ (Nat.le_refl _)
          exact bodyPost_ret (v := .tuple #[.agg #[.int .i64 X, .int .i64 Y, .string sc, .int .i64 m, .slice pv ln cv], .int .i64 at_]) (by simp [results, Tryd.results29, go_sem, z0, z1, z2, z3, z4]) rfl ⟨.mk X Y sc m ks, _, at_, rfl, ⟨⟨by omega, by omega, by omega, by omega, by have := k1.out; omega, hm0, hm1⟩, by have := ELN.out; omega, I4.out⟩, kF, gW, fun h' => absurd h' (by omega), fun _ => ⟨i1, i2, I5.out⟩⟩
        · have d1 : (0 : Int) < kk := by omega
          have d2 : ¬ (at_ : Int) < n := by omega
          go_wp2
          have gs := grown_set5 (grown_refl wr (some w.heap.size)) 0 (.int .i64 X) (.int .i64 Y) (.string sc) (.int .i64 m) (.slice pv ln cv)
          have kF := (KBX.out.kept gs (fun r e => by have := Option.some.inj e; omega)).ks.mono (Q := fun b => w.heap.size ≤ b) (fun b hb _ => by omega)
          have gW : w.grownBy (set5 wr w.heap.size 0 (.int .i64 X) (.int .i64 Y) (.string sc) (.int .i64 m) (.slice pv ln cv)) none := grown_set5_new G.out _ _ _ _ _ _ (Nat.le_refl _)
          exact bodyPost_ret (v := .tuple #[.agg #[.int .i64 X, .int .i64 Y, .string sc, .int .i64 m, .slice pv ln cv], .int .i64 at_]) (by simp [results, Tryd.results29, go_sem, z0, z1, z2, z3, z4]) rfl ⟨.mk X Y sc m ks, _, at_, rfl, ⟨⟨by omega, by omega, by omega, by omega, by have := k1.out; omega, hm0, hm1⟩, by have := ELN.out; omega, I4.out⟩, kF, gW, fun h' => absurd h' (by omega), fun _ => ⟨i1, i2, I5.out⟩⟩
        · have d1 : (0 : Int) < kk := by omega
          have d2 : (at_ : Int) < n := by omega
          have d3 : ¬ (deep : Int) < 60 := by omega
          go_wp2
          have gs := grown_set5 (grown_refl wr (some w.heap.size)) 0 (.int .i64 X) (.int .i64 Y) (.string sc) (.int .i64 m) (.slice pv ln cv)
          have kF := (KBX.out.kept gs (fun r e => by have := Option.some.inj e; omega)).ks.mono (Q := fun b => w.heap.size ≤ b) (fun b hb _ => by omega)
          have gW : w.grownBy (set5 wr w.heap.size 0 (.int .i64 X) (.int .i64 Y) (.string sc) (.int .i64 m) (.slice pv ln cv)) none := grown_set5_new G.out _ _ _ _ _ _ (Nat.le_refl _)
          exact bodyPost_ret (v := .tuple #[.agg #[.int .i64 X, .int .i64 Y, .string sc, .int .i64 m, .slice pv ln cv], .int .i64 at_]) (by simp [results, Tryd.results29, go_sem, z0, z1, z2, z3, z4]) rfl ⟨.mk X Y sc m ks, _, at_, rfl, ⟨⟨by omega, by omega, by omega, by omega, by have := k1.out; omega, hm0, hm1⟩, by have := ELN.out; omega, I4.out⟩, kF, gW, fun h' => absurd h' (by omega), fun _ => ⟨i1, i2, I5.out⟩⟩
  · have s1 : ¬ (64 : Int) < s.size := by omega
    have ds : decide (64 < s.size) = false := by simp; omega
    have hk1 : s.size ≤ 64 := by omega
    have START1 : MadI w n at0 X Y (s) m (at0 + 1) K [] (.slice none 0 0) (((w.alloc (.cells #[.int .i64 0, .int .i64 0, .string ⟨#[]⟩, .int .i64 0, .slice none 0 0] 24)).alloc (.cells #[.int .i64 a, .int .i64 b, .string s, .int .i64 m, .int .i64 c] 34)).alloc (.cells #[.int .i64 X, .int .i64 Y, .string (s), .int .i64 m, .slice none 0 0] 24)) := by
      refine ⟨by omega, by omega, by simpa using hK, trivial, by rw [Nd.cnts]; omega, grown_alloc (grown_alloc (grown_alloc (grown_refl w none) _) _) _, ((Blk.new w 24 _).alloc _).alloc _, ?_, Kb.nil _ _ _⟩
      have := Blk.new ((w.alloc (.cells #[.int .i64 0, .int .i64 0, .string ⟨#[]⟩, .int .i64 0, .slice none 0 0] 24)).alloc (.cells #[.int .i64 a, .int .i64 b, .string s, .int .i64 m, .int .i64 c] 34)) 24 #[.int .i64 X, .int .i64 Y, .string (s), .int .i64 m, .slice none 0 0]
      rw [World.size_alloc, World.size_alloc] at this
      exact this
    have HSTART := hid START1
    go_enter Tryd.func29, Tryd.ntmps29
    go_wp2
    have START := HSTART.out
    clear HSTART START1
    have k1 := hid hk1
    clear hk1
    go_loopw [1, 11] (fun a c wr => ∃ (at_ kk : Nat) (ks : List Nd) (v : Value), a = .int .i64 at_ ∧ c = .int .i64 kk ∧ MadI w n at0 X Y s m at_ kk ks v wr) (fun _ c _ => (intOf c).toNat)
    case atStart => exact ⟨at0 + 1, K, [], .slice none 0 0, by go_num, rfl, START⟩
    case round =>
      obtain ⟨at_, kk, ks, v, rfl, rfl, hI⟩ := hrel
      have HI := hid hI
      obtain ⟨i1, i2, i3, i4, i5, hg, hB0, hB2, hkb⟩ := hI
      obtain ⟨pv, cv, ev, _⟩ := hkb.form
      subst ev
      have B0 := hid hB0
      have B2 := hid hB2
      have KB := hid hkb
      have G := hid hg
      have I4 := hid i4
      have I5 := hid i5
      have c0 : (0 : Int) ≤ kk := by omega
      have c1 : (0 : Int) ≤ at_ := by omega
      have c2 : (at_ : Int) ≤ 300 := by omega
      have hw2 : w.heap.size + 2 < wr.heap.size := hB2.lt
      obtain ⟨ln, eln⟩ : ∃ ln, ks.length = ln := ⟨_, rfl⟩
      have ELN := hid eln
      have x0 : wr.cell? ⟨w.heap.size + 2, 0, none⟩ = some (.int .i64 X) := by rw [hB2.cell]; rfl
      have x1 : wr.cell? ⟨w.heap.size + 2, 1, none⟩ = some (.int .i64 Y) := by rw [hB2.cell]; rfl
      have x2 : wr.cell? ⟨w.heap.size + 2, 2, none⟩ = some (.string s) := by rw [hB2.cell]; rfl
      have x3 : wr.cell? ⟨w.heap.size + 2, 3, none⟩ = some (.int .i64 m) := by rw [hB2.cell]; rfl
      have x4 : wr.cell? ⟨w.heap.size + 2, 4, none⟩ = some (.slice pv ks.length cv) := by rw [hB2.cell]; rfl
      rw [eln] at x4 i3
      have f4 := hB2.frozen 4
      by_cases hgo : 0 < kk ∧ at_ < n ∧ deep < 60
      · obtain ⟨g1, g2, g3⟩ := hgo
        have d1 : (0 : Int) < kk := by omega
        have d2 : (at_ : Int) < n := by omega
        have d3 : (deep : Int) < 60 := by omega
        have CC := hid (IH.out g3 at_ wr hg)
        clear hg hB0 hB2 hkb i4 i5 IH eln
        go_wp2_with (first
          | (go_at_call 29; refine CC.out.mono ?_; clear CC; rintro e w2 ⟨y, q2, at2, rfl, hy, hk2, hg2, _, h2⟩; obtain ⟨h21, h22, h23⟩ := h2 g2; obtain ⟨p2, cap2, eq2, _⟩ := hk2.form; subst eq2; have K2 := hid hk2; have G2 := hid hg2; have HY := hid hy; have H23 := hid h23; have b0 := hid (B0.out.kept hg2 (by simp)); have b2 := hid (B2.out.kept hg2 (by simp)); have kb := hid (KB.out.kept hg2 (by simp)); have e4 : w2.cell? ⟨w.heap.size + 2, 4, none⟩ = some (.slice pv ln cv) := by { rw [b2.out.cell, ← ELN.out]; rfl }; have e5 := b2.out.frozen 4; have hw3 : w.heap.size + 2 < w2.heap.size := Nat.lt_of_lt_of_le hw2 hg2.size; clear hk2 hg2 hy h2 h23)
          | (at_builtin; refine append_nd 22 24 Tryd.underlying22 info24 (.tmp 69) (.tmp 71) rfl rfl (w.heap.size + 3) (.slice pv ln cv) ks y (.slice p2 y.kids.length cap2) ⟨w2.heap.size + 1, 0, none⟩ 1 (by { have := (kb.out.kept (grown_alloc (grown_alloc (grown_refl w2 none) (.cells #[.int .i64 y.kind, .int .i64 y.ty, .string y.txt, .int .i64 y.num, .slice p2 y.kids.length cap2] 24)) (.cells #[.int .i64 y.kind, .int .i64 y.ty, .string y.txt, .int .i64 y.num, .slice p2 y.kids.length cap2] 24)) (by simp)); rw [ELN.out] at this; exact this }) (by { have := NdC.new (w2.alloc (.cells #[.int .i64 y.kind, .int .i64 y.ty, .string y.txt, .int .i64 y.num, .slice p2 y.kids.length cap2] 24)) 24 y (.slice p2 y.kids.length cap2); rw [World.size_alloc] at this; exact this }) ((K2.out.mono (fun b hb _ => ⟨by omega, fun e => by { have := (KB.out.lt b (by rw [ELN.out]; exact e.symm)).2; omega }⟩)).kept (grown_alloc (grown_alloc (grown_refl w2 none) _) _)) (by have := ELN.out; omega) (by rw [World.size_alloc, World.size_alloc]; omega) rfl rfl ?_; intro v5 u5 h5 hg5; obtain ⟨l1, e1⟩ : ∃ l1, l1 = ks ++ [y] := ⟨_, rfl⟩; have E1 := hid e1; rw [← e1] at h5; clear e1; have KB5 := hid h5; have RU : ∀ r, (Value.slice pv ln cv).ownBlock = some r → w.heap.size + 3 ≤ r := (fun r hr => (KB.out.lt r (by rw [ELN.out]; exact hr)).1); have B05 := hid (((b0.out.alloc (.cells #[.int .i64 y.kind, .int .i64 y.ty, .string y.txt, .int .i64 y.num, .slice p2 y.kids.length cap2] 24)).alloc (.cells #[.int .i64 y.kind, .int .i64 y.ty, .string y.txt, .int .i64 y.num, .slice p2 y.kids.length cap2] 24)).kept hg5 (fun e => by have := RU _ e.symm; omega)); have B25 := hid (((b2.out.alloc (.cells #[.int .i64 y.kind, .int .i64 y.ty, .string y.txt, .int .i64 y.num, .slice p2 y.kids.length cap2] 24)).alloc (.cells #[.int .i64 y.kind, .int .i64 y.ty, .string y.txt, .int .i64 y.num, .slice p2 y.kids.length cap2] 24)).kept hg5 (fun e => by have := RU _ e.symm; omega)); have G5 : Hid (w.grownBy u5 none) := (grown_ob' (grown_alloc (grown_alloc (grown_none G.out G2.out) _) _) hg5 (fun x hx => by have := RU _ hx; omega)); obtain ⟨p5, c5, e5', _⟩ := h5.form; subst e5'; have d4 : u5.cell? ⟨w.heap.size + 2, 4, none⟩ = some (.slice pv ln cv) := (by { rw [B25.out.cell, ← ELN.out]; rfl }); have d5 := B25.out.frozen 4; clear h5 hg5))
        go_roundw
        case rel =>
          have gs := grown_set (grown_refl u5 (some (w.heap.size + 2))) 4 (.slice p5 l1.length c5)
          have hk5 : Kb (u5.setCell ⟨w.heap.size + 2, 4, none⟩ (.slice p5 l1.length c5)) (w.heap.size + 3) 24 (.slice p5 l1.length c5) l1 := KB5.out.kept gs (fun r e => by have := Option.some.inj e; omega)
          refine ⟨at2, kk - 1, l1, _, rfl, ?_, by omega, h22, ?_, ?_, ?_, grown_set_new G5.out _ (by simp only; omega), B05.out.kept gs (by simp), B25.out.set 4 _, hk5⟩
          · congr 1; omega
          · rw [E1.out, List.length_append, ELN.out]
            show ln + 1 + _ ≤ 7
            omega
          · rw [E1.out]
            exact Nd.oks_of (fun z hz => by
              rcases List.mem_append.1 hz with hz | hz
              · exact Nd.oks_mem I4.out z hz
              · rw [List.mem_singleton] at hz
                rw [hz]; exact HY.out)
          · rw [E1.out, Nd.cnts_append]
            have q1 := I5.out
            have q2 := H23.out
            show 1 + (Nd.cnts ks + (y.cnt + 0)) = _
            omega
        case measure => simp [intOf]; omega
      · have z0 : wr.cell? ⟨w.heap.size, 0, none⟩ = some (.int .i64 0) := by rw [hB0.cell]; rfl
        have z1 : wr.cell? ⟨w.heap.size, 1, none⟩ = some (.int .i64 0) := by rw [hB0.cell]; rfl
        have z2 : wr.cell? ⟨w.heap.size, 2, none⟩ = some (.string ⟨#[]⟩) := by rw [hB0.cell]; rfl
        have z3 : wr.cell? ⟨w.heap.size, 3, none⟩ = some (.int .i64 0) := by rw [hB0.cell]; rfl
        have z4 : wr.cell? ⟨w.heap.size, 4, none⟩ = some (.slice none 0 0) := by rw [hB0.cell]; rfl
        have w0 := hB0.frozen 0
        have w1 := hB0.frozen 1
        have w2 := hB0.frozen 2
        have w3 := hB0.frozen 3
        have w4 := hB0.frozen 4
        have hcase : (kk = 0) ∨ (0 < kk ∧ ¬ at_ < n) ∨ (0 < kk ∧ at_ < n ∧ ¬ deep < 60) := by omega
        rw [eln] at KB
        have KBX := hid KB.out
        clear hgo hg hB0 hB2 hkb i4 i5 IH eln KB
        rcases hcase with q1 | ⟨q1, q2⟩ | ⟨q1, q2, q3⟩
        · subst q1
          go_wp2
          have gs := grown_set5 (grown_refl wr (some w.heap.size)) 0 (.int .i64 X) (.int .i64 Y) (.string s) (.int .i64 m) (.slice pv ln cv)
          have kF := (KBX.out.kept gs (fun r e => by have := Option.some.inj e; omega)).ks.mono (Q := fun b => w.heap.size ≤ b) (fun b hb _ => by omega)
          have gW : w.grownBy (set5 wr w.heap.size 0 (.int .i64 X) (.int .i64 Y) (.string s) (.int .i64 m) (.slice pv ln cv)) none := grown_set5_new G.out _ _ _ _ _ _ (Nat.le_refl _)
          exact bodyPost_ret (v := .tuple #[.agg #[.int .i64 X, .int .i64 Y, .string s, .int .i64 m, .slice pv ln cv], .int .i64 at_]) (by simp [results, Tryd.results29, go_sem, z0, z1, z2, z3, z4]) rfl ⟨.mk X Y s m ks, _, at_, rfl, ⟨⟨by omega, by omega, by omega, by omega, by have := k1.out; omega, hm0, hm1⟩, by have := ELN.out; omega, I4.out⟩, kF, gW, fun h' => absurd h' (by omega), fun _ => ⟨i1, i2, I5.out⟩⟩
        · have d1 : (0 : Int) < kk := by omega
          have d2 : ¬ (at_ : Int) < n := by omega
          go_wp2
          have gs := grown_set5 (grown_refl wr (some w.heap.size)) 0 (.int .i64 X) (.int .i64 Y) (.string s) (.int .i64 m) (.slice pv ln cv)
          have kF := (KBX.out.kept gs (fun r e => by have := Option.some.inj e; omega)).ks.mono (Q := fun b => w.heap.size ≤ b) (fun b hb _ => by omega)
          have gW : w.grownBy (set5 wr w.heap.size 0 (.int .i64 X) (.int .i64 Y) (.string s) (.int .i64 m) (.slice pv ln cv)) none := grown_set5_new G.out _ _ _ _ _ _ (Nat.le_refl _)
          exact bodyPost_ret (v := .tuple #[.agg #[.int .i64 X, .int .i64 Y, .string s, .int .i64 m, .slice pv ln cv], .int .i64 at_]) (by simp [results, Tryd.results29, go_sem, z0, z1, z2, z3, z4]) rfl ⟨.mk X Y s m ks, _, at_, rfl, ⟨⟨by omega, by omega, by omega, by omega, by have := k1.out; omega, hm0, hm1⟩, by have := ELN.out; omega, I4.out⟩, kF, gW, fun h' => absurd h' (by omega), fun _ => ⟨i1, i2, I5.out⟩⟩
        · have d1 : (0 : Int) < kk := by omega
          have d2 : (at_ : Int) < n := by omega
          have d3 : ¬ (deep : Int) < 60 := by omega
          go_wp2
          have gs := grown_set5 (grown_refl wr (some w.heap.size)) 0 (.int .i64 X) (.int .i64 Y) (.string s) (.int .i64 m) (.slice pv ln cv)
          have kF := (KBX.out.kept gs (fun r e => by have := Option.some.inj e; omega)).ks.mono (Q := fun b => w.heap.size ≤ b) (fun b hb _ => by omega)
          have gW : w.grownBy (set5 wr w.heap.size 0 (.int .i64 X) (.int .i64 Y) (.string s) (.int .i64 m) (.slice pv ln cv)) none := grown_set5_new G.out _ _ _ _ _ _ (Nat.le_refl _)
          exact bodyPost_ret (v := .tuple #[.agg #[.int .i64 X, .int .i64 Y, .string s, .int .i64 m, .slice pv ln cv], .int .i64 at_]) (by simp [results, Tryd.results29, go_sem, z0, z1, z2, z3, z4]) rfl ⟨.mk X Y s m ks, _, at_, rfl, ⟨⟨by omega, by omega, by omega, by omega, by have := k1.out; omega, hm0, hm1⟩, by have := ELN.out; omega, I4.out⟩, kF, gW, fun h' => absurd h' (by omega), fun _ => ⟨i1, i2, I5.out⟩⟩
theorem made_any (p : Option Addr) (n cap : Nat) (hn : n ≤ 300) : ∀ (d deep : Nat), deep + d = 60 → ∀ (at0 : Nat) (w : World), TrV w p n → Calls Tryd.prog 29 #[.slice p n cap, .int .i64 at0, .int .i64 deep] w (MadeP w n at0)
  | 0, deep, hd, at0, w, hT => by
    by_cases h : at0 < n
    · exact made_step p n cap at0 deep w hn h (by omega) hT (fun h' => absurd h' (by omega))
    · exact made_end p n cap at0 deep w (by omega)
  | d + 1, deep, hd, at0, w, hT => by
    by_cases h : at0 < n
    · exact made_step p n cap at0 deep w hn h (by omega) hT (fun _ a W hW => made_any p n cap hn d (deep + 1) (by omega) a W (hT.kept hW))
    · exact made_end p n cap at0 deep w (by omega)
end Go.Proofs.YtdodammplhlihaaDoor
