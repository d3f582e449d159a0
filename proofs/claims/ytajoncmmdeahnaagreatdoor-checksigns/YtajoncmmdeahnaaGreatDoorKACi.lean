/-
  Clone: a tree of its own. Clone: the rows of a copy are blocks of their own, each unlike all others.
-/
import Derived.Test.YtajoncmmdeahnaaGreatDoorKAIv
namespace Go.Proofs.YtajoncmmdeahnaaGreatDoor
open Go.RowKit
/-- A slice of one's own nodes: all of it, and all below, lies from base on. -/
def KsO (w : World) (base : Nat) (q : Value) (ks : List Nd) : Prop := KsV w (fun b => base ≤ b) q ks ∧ ∀ g, q.ownBlock = some g → ∃ cs, Blk w g 27 cs ∧ cs.size = 5 * ks.length ∧ RowN w (fun b => g + 1 ≤ b) g 0 ks
def CloneP (w : World) (x : Nd) (e : Ending) (w' : World) : Prop := ∃ q, e = .returned (.agg #[.int .i64 x.kind, .int .i64 x.ty, .string x.txt, .int .i64 x.num, q]) ∧ KsO w' w.heap.size q x.kids ∧ w.grownBy w' none
def CloI (w : World) (k t : Int) (s : ByteArray) (n : Int) (q : Value) (ks : List Nd) (i : Nat) (wr : World) : Prop :=
  w.grownBy wr none ∧ Blk wr w.heap.size 27 #[.int .i64 k, .int .i64 t, .string s, .int .i64 n, q] ∧ Blk wr (w.heap.size + 1) 27 #[.int .i64 0, .int .i64 0, .string ⟨#[]⟩, .int .i64 0, .slice none 0 0]
    ∧ ∃ cs, Blk wr (w.heap.size + 2) 27 cs ∧ cs.size = 5 * ks.length ∧ RowN wr (fun b => w.heap.size + 2 + 1 ≤ b) (w.heap.size + 2) 0 (ks.take i)
set_option maxRecDepth 100000 in
theorem clone_nil (k t : Int) (s : ByteArray) (n : Int) (w : World) : Calls Tryz.prog 23 #[.agg #[.int .i64 k, .int .i64 t, .string s, .int .i64 n, .slice none 0 0]] w (CloneP w (.mk k t s n [])) := by
  go_enter Tryz.func23, Tryz.ntmps23
  go_wp2
  go_loopw [15] (fun i wr => i = .int .i64 0 ∧ wr = (w.alloc (.cells #[.int .i64 k, .int .i64 t, .string s, .int .i64 n, .slice none 0 0] 27)).alloc (.cells #[.int .i64 0, .int .i64 0, .string ⟨#[]⟩, .int .i64 0, .slice none 0 0] 27)) (fun _ _ => 0)
  case atStart => exact ⟨rfl, rfl⟩
  case round =>
    obtain ⟨rfl, rfl⟩ := hrel
    go_wp2
    refine bodyPost_ret (v := .agg #[.int .i64 k, .int .i64 t, .string s, .int .i64 n, .slice none 0 0]) (by simp [results, Tryz.results23, go_sem]) rfl ⟨.slice none 0 0, rfl, ⟨KsV.nil _ _, fun g h => by cases h⟩, ?_⟩
    repeat (first | exact grown_refl _ _ | refine grown_set_new ?_ _ (by simp) | refine grown_alloc ?_ _)
set_option maxRecDepth 100000 in
set_option maxHeartbeats 1000000 in
theorem clone_some (k t : Int) (s : ByteArray) (n : Int) (g0 cap : Nat) (ks : List Nd) (P : Nat → Prop) (w : World) (hn : ks.length ≤ 255) (h0 : 0 < ks.length) (hks : KsV w P (.slice (some ⟨g0, 0, none⟩) ks.length cap) ks)
    (ih : ∀ y ∈ ks, ∀ (v : Value) (W : World), NdV W P v y → Calls Tryz.prog 23 #[v] W (CloneP W y)) : Calls Tryz.prog 23 #[.agg #[.int .i64 k, .int .i64 t, .string s, .int .i64 n, .slice (some ⟨g0, 0, none⟩) ks.length cap]] w (CloneP w (.mk k t s n ks)) := by
  have IH : Hid (∀ y ∈ ks, ∀ (v : Value) (W : World), NdV W P v y → Calls Tryz.prog 23 #[v] W (CloneP W y)) := ih
  have HK : Hid (KsV w P (.slice (some ⟨g0, 0, none⟩) ks.length cap) ks) := hks
  clear ih hks
  obtain ⟨L, hL⟩ : ∃ L, ks.length = L := ⟨_, rfl⟩
  have HL : Hid (ks.length = L) := hL
  rw [hL] at hn h0
  have HK' : Hid (KsV w P (.slice (some ⟨g0, 0, none⟩) L cap) ks) := by rw [← hL]; exact HK.out
  rw [hL]
  clear HK hL
  have i0 : (0 : Int) < L := by omega
  have i1 : (L : Int) ≤ 255 := by omega
  have MK : ∀ W, (Instr.makeSlice 25 (.int .i64 L) (.int .i64 L)).run Tryz.prog W = .ok (.slice (some ⟨W.heap.size, 0, none⟩) L L) (W.alloc (.cells (zeroN L) 27)) := fun W => make_nodes L W (by omega)
  go_enter Tryz.func23, Tryz.ntmps23
  go_wp2
  go_loopw [15] (fun i wr => ∃ j : Nat, j ≤ L ∧ i = .int .i64 j ∧ CloI w k t s n (.slice (some ⟨g0, 0, none⟩) L cap) ks j wr) (fun i _ => L - (intOf i).toNat)
  case atStart =>
    refine ⟨0, Nat.zero_le _, rfl, grown_alloc (grown_alloc (grown_alloc (grown_refl w none) _) _) _, ((Blk.new w 27 _).alloc _).alloc _, ?_, zeroN L, ?_, ?_, ?_⟩
    · have := (Blk.new (w.alloc (.cells #[.int .i64 k, .int .i64 t, .string s, .int .i64 n, .slice (some ⟨g0, 0, none⟩) L cap] 27)) 27 #[.int .i64 0, .int .i64 0, .string ⟨#[]⟩, .int .i64 0, .slice none 0 0]).alloc (.cells (zeroN L) 27)
      rw [World.size_alloc] at this
      exact this
    · have := Blk.new ((w.alloc (.cells #[.int .i64 k, .int .i64 t, .string s, .int .i64 n, .slice (some ⟨g0, 0, none⟩) L cap] 27)).alloc (.cells #[.int .i64 0, .int .i64 0, .string ⟨#[]⟩, .int .i64 0, .slice none 0 0] 27)) 27 (zeroN L)
      rw [World.size_alloc, World.size_alloc] at this
      exact this
    · rw [zeroN_size, HL.out]
    · rw [List.take_zero, RowN]; trivial
  case round =>
    obtain ⟨j, hj, rfl, hI⟩ := hrel
    have j0 : (0 : Int) ≤ j := by omega
    obtain ⟨hg, hB0, hB1, cs, hB2, hcs, hrow⟩ := hI
    have G := hid hg
    have B0 := hid hB0
    have B1 := hid hB1
    have B2 := hid hB2
    have RW := hid hrow
    have x4 : wr.cell? ⟨w.heap.size, 4, none⟩ = some (.slice (some ⟨g0, 0, none⟩) L cap) := by rw [hB0.cell]; rfl
    by_cases hlt : j < L
    · have j1 : (j : Int) < L := by omega
      have hjk : j < ks.length := by rw [HL.out]; exact hlt
      obtain ⟨g', hg', _, hat⟩ := (HK'.out.kept hg).at j hjk
      injection hg' with hg'
      injection hg' with hg'
      subst hg'
      obtain ⟨q, c0, c1, c2, c3, c4, hkq⟩ := hat.cells
      rw [Nat.mul_comm 5 j] at c0 c1 c2 c3 c4
      have CC : Hid (Calls Tryz.prog 23 #[.agg #[.int .i64 (ks[j]).kind, .int .i64 (ks[j]).ty, .string (ks[j]).txt, .int .i64 (ks[j]).num, q]] wr (CloneP wr (ks[j]))) := IH.out _ (List.getElem_mem hjk) _ wr ⟨q, rfl, hkq⟩
      obtain ⟨p', cap', hq, _⟩ := hkq.form
      subst hq
      have hz : j * 5 + 4 < cs.size := by rw [hcs, HL.out]; omega
      have HC := hid hcs
      have hw2 : w.heap.size + 2 < wr.heap.size := hB2.lt
      clear hg hB0 hB1 hB2 hrow hkq hat hcs IH HK'
      go_wp2_with (go_at_call 23; refine CC.out.mono ?_; rintro e w2 ⟨q2, rfl, ⟨hk2, _⟩, hg2⟩; obtain ⟨p2, cap2, e2, _⟩ := hk2.form; subst e2; have K2 := hid hk2; have G2 := hid hg2; have b0 := hid (B0.out.kept hg2 (by simp)); have b1 := hid (B1.out.kept hg2 (by simp)); have b2 := hid (B2.out.kept hg2 (by simp)); obtain ⟨u0, y0⟩ := at_or (cs := cs) (j := j * 5) (by omega); obtain ⟨u1, y1⟩ := at_or (cs := cs) (j := j * 5 + 1) (by omega); obtain ⟨u2, y2⟩ := at_or (cs := cs) (j := j * 5 + 2) (by omega); obtain ⟨u3, y3⟩ := at_or (cs := cs) (j := j * 5 + 3) (by omega); obtain ⟨u4, y4⟩ := at_or (cs := cs) (j := j * 5 + 4) (by omega); rw [← b2.out.cell] at y0 y1 y2 y3 y4; have f0 := b2.out.frozen (j * 5); have f1 := b2.out.frozen (j * 5 + 1); have f2 := b2.out.frozen (j * 5 + 2); have f3 := b2.out.frozen (j * 5 + 3); have f4 := b2.out.frozen (j * 5 + 4); clear hk2 hg2 CC)
      go_roundw
      case rel =>
        have gs := grown_set5 (grown_refl w2 (some (w.heap.size + 2))) (j * 5) (.int .i64 (ks[j]).kind) (.int .i64 (ks[j]).ty) (.string (ks[j]).txt) (.int .i64 (ks[j]).num) (.slice p2 (ks[j]).kids.length cap2)
        have r2 := RowN.keptP (Kp.of_none _ G2.out) (fun _ h _ => h) (G2.out.block (w.heap.size + 2) hw2 (by simp)) RW.out
        have r3 := row_put hjk b2.out HC.out r2 (K2.out.mono (fun b hb _ => by omega))
        exact ⟨j + 1, by omega, by go_num, grown_set5_new (grown_none G.out G2.out) _ _ _ _ _ _ (by omega), b0.out.kept gs (by simp), b1.out.kept gs (by simp), _, b2.out.set5 _ _ _ _ _ _, by rw [put5_size]; exact HC.out, r3⟩
      case measure => simp [intOf]; omega
    · have hjL : j = L := by omega
      subst hjL
      have j1 : ¬ (j : Int) < j := by omega
      have x0 : wr.cell? ⟨w.heap.size, 0, none⟩ = some (.int .i64 k) := by rw [hB0.cell]; rfl
      have x1 : wr.cell? ⟨w.heap.size, 1, none⟩ = some (.int .i64 t) := by rw [hB0.cell]; rfl
      have x2 : wr.cell? ⟨w.heap.size, 2, none⟩ = some (.string s) := by rw [hB0.cell]; rfl
      have x3 : wr.cell? ⟨w.heap.size, 3, none⟩ = some (.int .i64 n) := by rw [hB0.cell]; rfl
      have fx := hB0.frozen 4
      have z0 : wr.cell? ⟨w.heap.size + 1, 0, none⟩ = some (.int .i64 0) := by rw [hB1.cell]; rfl
      have z1 : wr.cell? ⟨w.heap.size + 1, 1, none⟩ = some (.int .i64 0) := by rw [hB1.cell]; rfl
      have z2 : wr.cell? ⟨w.heap.size + 1, 2, none⟩ = some (.string ⟨#[]⟩) := by rw [hB1.cell]; rfl
      have z3 : wr.cell? ⟨w.heap.size + 1, 3, none⟩ = some (.int .i64 0) := by rw [hB1.cell]; rfl
      have z4 : wr.cell? ⟨w.heap.size + 1, 4, none⟩ = some (.slice none 0 0) := by rw [hB1.cell]; rfl
      have f0 := hB1.frozen 0
      have f1 := hB1.frozen 1
      have f2 := hB1.frozen 2
      have f3 := hB1.frozen 3
      have f4 := hB1.frozen 4
      have hw2 : w.heap.size + 2 < wr.heap.size := hB2.lt
      have HC9 := hid hcs
      clear hg hB0 hB1 hB2 hrow hcs IH HK'
      go_wp2
      obtain ⟨wA, eA⟩ : ∃ wA, wr.setCell ⟨w.heap.size, 4, none⟩ (.slice (some ⟨w.heap.size + 2, 0, none⟩) j j) = wA := ⟨_, rfl⟩
      have gA : wr.grownBy wA (some w.heap.size) := by rw [← eA]; exact grown_set (grown_refl wr _) 4 _
      have gF : wA.grownBy (set5 wA (w.heap.size + 1) 0 (.int .i64 k) (.int .i64 t) (.string s) (.int .i64 n) (.slice (some ⟨w.heap.size + 2, 0, none⟩) j j)) (some (w.heap.size + 1)) := grown_set5 (grown_refl wA _) 0 _ _ _ _ _
      have kp : ∀ b, w.heap.size + 2 ≤ b → b < wr.heap.size → (set5 wA (w.heap.size + 1) 0 (.int .i64 k) (.int .i64 t) (.string s) (.int .i64 n) (.slice (some ⟨w.heap.size + 2, 0, none⟩) j j)).heap[b]? = wr.heap[b]? := fun b h1 h2 =>
        (gF.block b (Nat.lt_of_lt_of_le h2 gA.size) (fun e => by have := Option.some.inj e; omega)).trans (gA.block b h2 (fun e => by have := Option.some.inj e; omega))
      have rF := RowN.keptP (w := wr) (w' := set5 wA (w.heap.size + 1) 0 (.int .i64 k) (.int .i64 t) (.string s) (.int .i64 n) (.slice (some ⟨w.heap.size + 2, 0, none⟩) j j)) (Q := fun b => w.heap.size ≤ b) (fun b hb hl => kp b (by omega) hl) (fun b hb _ => by omega) (kp _ (Nat.le_refl _) hw2) RW.out
      have bF : Blk (set5 wA (w.heap.size + 1) 0 (.int .i64 k) (.int .i64 t) (.string s) (.int .i64 n) (.slice (some ⟨w.heap.size + 2, 0, none⟩) j j)) (w.heap.size + 2) 27 cs := (kp _ (Nat.le_refl _) hw2).trans B2.out
      have gW : w.grownBy (set5 wA (w.heap.size + 1) 0 (.int .i64 k) (.int .i64 t) (.string s) (.int .i64 n) (.slice (some ⟨w.heap.size + 2, 0, none⟩) j j)) none := grown_set5_new (grown_through G.out gA (Nat.le_refl _)) _ _ _ _ _ _ (by omega)
      have rG := RowN.keptP (w := wr) (w' := set5 wA (w.heap.size + 1) 0 (.int .i64 k) (.int .i64 t) (.string s) (.int .i64 n) (.slice (some ⟨w.heap.size + 2, 0, none⟩) j j)) (Q := fun b => w.heap.size + 2 + 1 ≤ b) (fun b hb hl => kp b (by omega) hl) (fun b hb _ => hb) (kp _ (Nat.le_refl _) hw2) RW.out
      rw [List.take_of_length_le (by rw [HL.out]; exact Nat.le_refl _)] at rF rG
      refine bodyPost_ret (v := .agg #[.int .i64 k, .int .i64 t, .string s, .int .i64 n, .slice (some ⟨w.heap.size + 2, 0, none⟩) j j]) (by simp [results, Tryz.results23, go_sem, z0, z1, z2, z3, z4]) rfl ?_
      subst eA
      refine ⟨_, rfl, ⟨⟨w.heap.size + 2, Or.inr ⟨?_, by omega, j, ?_, ?_, ?_⟩, rF⟩, fun g hg => ?_⟩, gW⟩
      · show 0 < ks.length
        rw [HL.out]; exact h0
      · show _ = Value.slice _ ks.length _
        rw [HL.out]
      · show ks.length ≤ j
        rw [HL.out]; exact Nat.le_refl _
      · unfold maxLen; omega
      · obtain rfl : w.heap.size + 2 = g := Option.some.inj hg
        exact ⟨cs, bF, HC9.out, rG⟩
/-- Any tree's copy is a tree of its own. -/
theorem cloneT_any (P : Nat → Prop) : ∀ (x : Nd), x.ok → ∀ (v : Value) (w : World), NdV w P v x → Calls Tryz.prog 23 #[v] w (CloneP w x) := by
  refine Nd.indA ?_
  intro k t s n ks ih hok v w ⟨q, hv, hk⟩
  subst hv
  have hk' := hk
  obtain ⟨g, (⟨rfl, h2⟩ | ⟨hn, hp, cap, rfl, h2, h3⟩), h4⟩ := hk
  · obtain rfl : ks = [] := List.length_eq_zero_iff.1 h2
    exact clone_nil k t s n w
  · exact clone_some k t s n g cap ks P w hok.2.1 hn hk' (fun y hy v W hv => ih y hy (Nd.oks_mem hok.2.2 y hy) v W hv)
end Go.Proofs.YtajoncmmdeahnaaGreatDoor
namespace Go.Proofs.YtajoncmmdeahnaaGreatDoor
open Go.RowKit
def CloneQ (w : World) (x : Nd) (e : Ending) (w' : World) : Prop := ∃ q, e = .returned (.agg #[.int .i64 x.kind, .int .i64 x.ty, .string x.txt, .int .i64 x.num, q]) ∧ KsI w' w.heap.size w'.heap.size q x.kids ∧ w.grownBy w' none
def CliI (w : World) (k t : Int) (s : ByteArray) (n : Int) (q : Value) (ks : List Nd) (i : Nat) (wr : World) : Prop :=
  w.grownBy wr none ∧ Blk wr w.heap.size 27 #[.int .i64 k, .int .i64 t, .string s, .int .i64 n, q] ∧ Blk wr (w.heap.size + 1) 27 #[.int .i64 0, .int .i64 0, .string ⟨#[]⟩, .int .i64 0, .slice none 0 0]
    ∧ ∃ cs, Blk wr (w.heap.size + 2) 27 cs ∧ cs.size = 5 * ks.length ∧ RowI wr (w.heap.size + 2) 0 (w.heap.size + 2 + 1) wr.heap.size (ks.take i)
set_option maxRecDepth 100000 in
theorem cloneI_nil (k t : Int) (s : ByteArray) (n : Int) (w : World) : Calls Tryz.prog 23 #[.agg #[.int .i64 k, .int .i64 t, .string s, .int .i64 n, .slice none 0 0]] w (CloneQ w (.mk k t s n [])) := by
  go_enter Tryz.func23, Tryz.ntmps23
  go_wp2
  go_loopw [15] (fun i wr => i = .int .i64 0 ∧ wr = (w.alloc (.cells #[.int .i64 k, .int .i64 t, .string s, .int .i64 n, .slice none 0 0] 27)).alloc (.cells #[.int .i64 0, .int .i64 0, .string ⟨#[]⟩, .int .i64 0, .slice none 0 0] 27)) (fun _ _ => 0)
  case atStart => exact ⟨rfl, rfl⟩
  case round =>
    obtain ⟨rfl, rfl⟩ := hrel
    go_wp2
    refine bodyPost_ret (v := .agg #[.int .i64 k, .int .i64 t, .string s, .int .i64 n, .slice none 0 0]) (by simp [results, Tryz.results23, go_sem]) rfl ?_
    refine ⟨.slice none 0 0, rfl, ?_, ?_⟩
    · refine Or.inl ⟨rfl, rfl, ?_⟩
      simp; omega
    · repeat (first | exact grown_refl _ _ | refine grown_set_new ?_ _ (by simp) | refine grown_alloc ?_ _)
set_option maxRecDepth 100000 in
set_option maxHeartbeats 1000000 in
theorem cloneI_some (k t : Int) (s : ByteArray) (n : Int) (g0 cap : Nat) (ks : List Nd) (P : Nat → Prop) (w : World) (hn : ks.length ≤ 255) (h0 : 0 < ks.length) (hks : KsV w P (.slice (some ⟨g0, 0, none⟩) ks.length cap) ks)
    (ih : ∀ y ∈ ks, ∀ (v : Value) (W : World), NdV W P v y → Calls Tryz.prog 23 #[v] W (CloneQ W y)) : Calls Tryz.prog 23 #[.agg #[.int .i64 k, .int .i64 t, .string s, .int .i64 n, .slice (some ⟨g0, 0, none⟩) ks.length cap]] w (CloneQ w (.mk k t s n ks)) := by
  have IH : Hid (∀ y ∈ ks, ∀ (v : Value) (W : World), NdV W P v y → Calls Tryz.prog 23 #[v] W (CloneQ W y)) := ih
  have HK : Hid (KsV w P (.slice (some ⟨g0, 0, none⟩) ks.length cap) ks) := hks
  clear ih hks
  obtain ⟨L, hL⟩ : ∃ L, ks.length = L := ⟨_, rfl⟩
  have HL : Hid (ks.length = L) := hL
  rw [hL] at hn h0
  have HK' : Hid (KsV w P (.slice (some ⟨g0, 0, none⟩) L cap) ks) := by rw [← hL]; exact HK.out
  rw [hL]
  clear HK hL
  have i0 : (0 : Int) < L := by omega
  have i1 : (L : Int) ≤ 255 := by omega
  have MK : ∀ W, (Instr.makeSlice 25 (.int .i64 L) (.int .i64 L)).run Tryz.prog W = .ok (.slice (some ⟨W.heap.size, 0, none⟩) L L) (W.alloc (.cells (zeroN L) 27)) := fun W => make_nodes L W (by omega)
  go_enter Tryz.func23, Tryz.ntmps23
  go_wp2
  go_loopw [15] (fun i wr => ∃ j : Nat, j ≤ L ∧ i = .int .i64 j ∧ CliI w k t s n (.slice (some ⟨g0, 0, none⟩) L cap) ks j wr) (fun i _ => L - (intOf i).toNat)
  case atStart =>
    refine ⟨0, Nat.zero_le _, rfl, grown_alloc (grown_alloc (grown_alloc (grown_refl w none) _) _) _, ((Blk.new w 27 _).alloc _).alloc _, ?_, zeroN L, ?_, ?_, ?_⟩
    · have := (Blk.new (w.alloc (.cells #[.int .i64 k, .int .i64 t, .string s, .int .i64 n, .slice (some ⟨g0, 0, none⟩) L cap] 27)) 27 #[.int .i64 0, .int .i64 0, .string ⟨#[]⟩, .int .i64 0, .slice none 0 0]).alloc (.cells (zeroN L) 27)
      rw [World.size_alloc] at this
      exact this
    · have := Blk.new ((w.alloc (.cells #[.int .i64 k, .int .i64 t, .string s, .int .i64 n, .slice (some ⟨g0, 0, none⟩) L cap] 27)).alloc (.cells #[.int .i64 0, .int .i64 0, .string ⟨#[]⟩, .int .i64 0, .slice none 0 0] 27)) 27 (zeroN L)
      rw [World.size_alloc, World.size_alloc] at this
      exact this
    · rw [zeroN_size, HL.out]
    · rw [List.take_zero, RowI]; simp
  case round =>
    obtain ⟨j, hj, rfl, hI⟩ := hrel
    have j0 : (0 : Int) ≤ j := by omega
    obtain ⟨hg, hB0, hB1, cs, hB2, hcs, hrow⟩ := hI
    have G := hid hg
    have B0 := hid hB0
    have B1 := hid hB1
    have B2 := hid hB2
    have RW := hid hrow
    have x4 : wr.cell? ⟨w.heap.size, 4, none⟩ = some (.slice (some ⟨g0, 0, none⟩) L cap) := by rw [hB0.cell]; rfl
    by_cases hlt : j < L
    · have j1 : (j : Int) < L := by omega
      have hjk : j < ks.length := by rw [HL.out]; exact hlt
      obtain ⟨g', hg', _, hat⟩ := (HK'.out.kept hg).at j hjk
      injection hg' with hg'
      injection hg' with hg'
      subst hg'
      obtain ⟨q, c0, c1, c2, c3, c4, hkq⟩ := hat.cells
      rw [Nat.mul_comm 5 j] at c0 c1 c2 c3 c4
      have CC : Hid (Calls Tryz.prog 23 #[.agg #[.int .i64 (ks[j]).kind, .int .i64 (ks[j]).ty, .string (ks[j]).txt, .int .i64 (ks[j]).num, q]] wr (CloneQ wr (ks[j]))) := IH.out _ (List.getElem_mem hjk) _ wr ⟨q, rfl, hkq⟩
      obtain ⟨p', cap', hq, _⟩ := hkq.form
      subst hq
      have hz : j * 5 + 4 < cs.size := by rw [hcs, HL.out]; omega
      have HC := hid hcs
      have hw2 : w.heap.size + 2 < wr.heap.size := hB2.lt
      clear hg hB0 hB1 hB2 hrow hkq hat hcs IH HK'
      go_wp2_with (go_at_call 23; refine CC.out.mono ?_; rintro e w2 ⟨q2, rfl, hk2, hg2⟩; obtain ⟨p2, cap2, e2, _⟩ := (hk2.ks (P := fun _ => True) (fun _ _ _ => trivial)).form; subst e2; have K2 := hid hk2; have G2 := hid hg2; have b0 := hid (B0.out.kept hg2 (by simp)); have b1 := hid (B1.out.kept hg2 (by simp)); have b2 := hid (B2.out.kept hg2 (by simp)); obtain ⟨u0, y0⟩ := at_or (cs := cs) (j := j * 5) (by omega); obtain ⟨u1, y1⟩ := at_or (cs := cs) (j := j * 5 + 1) (by omega); obtain ⟨u2, y2⟩ := at_or (cs := cs) (j := j * 5 + 2) (by omega); obtain ⟨u3, y3⟩ := at_or (cs := cs) (j := j * 5 + 3) (by omega); obtain ⟨u4, y4⟩ := at_or (cs := cs) (j := j * 5 + 4) (by omega); rw [← b2.out.cell] at y0 y1 y2 y3 y4; have f0 := b2.out.frozen (j * 5); have f1 := b2.out.frozen (j * 5 + 1); have f2 := b2.out.frozen (j * 5 + 2); have f3 := b2.out.frozen (j * 5 + 3); have f4 := b2.out.frozen (j * 5 + 4); clear hk2 hg2 CC)
      go_roundw
      case rel =>
        have gs := grown_set5 (grown_refl w2 (some (w.heap.size + 2))) (j * 5) (.int .i64 (ks[j]).kind) (.int .i64 (ks[j]).ty) (.string (ks[j]).txt) (.int .i64 (ks[j]).num) (.slice p2 (ks[j]).kids.length cap2)
        have r2 := RowI.kept (w' := w2) (fun b _ hb => G2.out.block b hb (by simp)) (fun j _ _ => World.cell?_of_block (G2.out.block (w.heap.size + 2) hw2 (by simp))) RW.out
        have r3 := rowI_put hjk b2.out HC.out (by omega) r2 K2.out
        have hs5 : (set5 w2 (w.heap.size + 2) (j * 5) (.int .i64 (ks[j]).kind) (.int .i64 (ks[j]).ty) (.string (ks[j]).txt) (.int .i64 (ks[j]).num) (.slice p2 (ks[j]).kids.length cap2)).heap.size = w2.heap.size := by simp [set5, World.setCell]
        rw [← hs5] at r3
        exact ⟨j + 1, by omega, by go_num, grown_set5_new (grown_none G.out G2.out) _ _ _ _ _ _ (by omega), b0.out.kept gs (by simp), b1.out.kept gs (by simp), _, b2.out.set5 _ _ _ _ _ _, by rw [put5_size]; exact HC.out, r3⟩
      case measure => simp [intOf]; omega
    · have hjL : j = L := by omega
      subst hjL
      have j1 : ¬ (j : Int) < j := by omega
      have x0 : wr.cell? ⟨w.heap.size, 0, none⟩ = some (.int .i64 k) := by rw [hB0.cell]; rfl
      have x1 : wr.cell? ⟨w.heap.size, 1, none⟩ = some (.int .i64 t) := by rw [hB0.cell]; rfl
      have x2 : wr.cell? ⟨w.heap.size, 2, none⟩ = some (.string s) := by rw [hB0.cell]; rfl
      have x3 : wr.cell? ⟨w.heap.size, 3, none⟩ = some (.int .i64 n) := by rw [hB0.cell]; rfl
      have fx := hB0.frozen 4
      have z0 : wr.cell? ⟨w.heap.size + 1, 0, none⟩ = some (.int .i64 0) := by rw [hB1.cell]; rfl
      have z1 : wr.cell? ⟨w.heap.size + 1, 1, none⟩ = some (.int .i64 0) := by rw [hB1.cell]; rfl
      have z2 : wr.cell? ⟨w.heap.size + 1, 2, none⟩ = some (.string ⟨#[]⟩) := by rw [hB1.cell]; rfl
      have z3 : wr.cell? ⟨w.heap.size + 1, 3, none⟩ = some (.int .i64 0) := by rw [hB1.cell]; rfl
      have z4 : wr.cell? ⟨w.heap.size + 1, 4, none⟩ = some (.slice none 0 0) := by rw [hB1.cell]; rfl
      have f0 := hB1.frozen 0
      have f1 := hB1.frozen 1
      have f2 := hB1.frozen 2
      have f3 := hB1.frozen 3
      have f4 := hB1.frozen 4
      have hw2 : w.heap.size + 2 < wr.heap.size := hB2.lt
      have HC9 := hid hcs
      clear hg hB0 hB1 hB2 hrow hcs IH HK'
      go_wp2
      obtain ⟨wA, eA⟩ : ∃ wA, wr.setCell ⟨w.heap.size, 4, none⟩ (.slice (some ⟨w.heap.size + 2, 0, none⟩) j j) = wA := ⟨_, rfl⟩
      have gA : wr.grownBy wA (some w.heap.size) := by rw [← eA]; exact grown_set (grown_refl wr _) 4 _
      have gF : wA.grownBy (set5 wA (w.heap.size + 1) 0 (.int .i64 k) (.int .i64 t) (.string s) (.int .i64 n) (.slice (some ⟨w.heap.size + 2, 0, none⟩) j j)) (some (w.heap.size + 1)) := grown_set5 (grown_refl wA _) 0 _ _ _ _ _
      have kp : ∀ b, w.heap.size + 2 ≤ b → b < wr.heap.size → (set5 wA (w.heap.size + 1) 0 (.int .i64 k) (.int .i64 t) (.string s) (.int .i64 n) (.slice (some ⟨w.heap.size + 2, 0, none⟩) j j)).heap[b]? = wr.heap[b]? := fun b h1 h2 =>
        (gF.block b (Nat.lt_of_lt_of_le h2 gA.size) (fun e => by have := Option.some.inj e; omega)).trans (gA.block b h2 (fun e => by have := Option.some.inj e; omega))
      have bF : Blk (set5 wA (w.heap.size + 1) 0 (.int .i64 k) (.int .i64 t) (.string s) (.int .i64 n) (.slice (some ⟨w.heap.size + 2, 0, none⟩) j j)) (w.heap.size + 2) 27 cs := (kp _ (Nat.le_refl _) hw2).trans B2.out
      have gW : w.grownBy (set5 wA (w.heap.size + 1) 0 (.int .i64 k) (.int .i64 t) (.string s) (.int .i64 n) (.slice (some ⟨w.heap.size + 2, 0, none⟩) j j)) none := grown_set5_new (grown_through G.out gA (Nat.le_refl _)) _ _ _ _ _ _ (by omega)
      have rG := RowI.kept (w := wr) (w' := set5 wA (w.heap.size + 1) 0 (.int .i64 k) (.int .i64 t) (.string s) (.int .i64 n) (.slice (some ⟨w.heap.size + 2, 0, none⟩) j j)) (fun b b1 b2 => kp b (by omega) b2) (fun j _ _ => World.cell?_of_block (kp _ (Nat.le_refl _) hw2)) RW.out
      have hsF : (set5 wA (w.heap.size + 1) 0 (.int .i64 k) (.int .i64 t) (.string s) (.int .i64 n) (.slice (some ⟨w.heap.size + 2, 0, none⟩) j j)).heap.size = wr.heap.size := by rw [← eA]; simp [set5, World.setCell]
      rw [List.take_of_length_le (by rw [HL.out]; exact Nat.le_refl _), ← hsF] at rG
      refine bodyPost_ret (v := .agg #[.int .i64 k, .int .i64 t, .string s, .int .i64 n, .slice (some ⟨w.heap.size + 2, 0, none⟩) j j]) (by simp [results, Tryz.results23, go_sem, z0, z1, z2, z3, z4]) rfl ?_
      subst eA
      refine ⟨_, rfl, Or.inr ⟨w.heap.size + 2, j, cs, ?_, ?_, ?_, ?_, by omega, bF, HC9.out, rG⟩, gW⟩
      · show _ = Value.slice _ ks.length _
        rw [HL.out]
      · show ks.length ≤ j
        rw [HL.out]; exact Nat.le_refl _
      · unfold maxLen; omega
      · show 0 < ks.length
        rw [HL.out]; exact h0
/-- Any tree's copy is a tree of its own. -/
theorem cloneI_any (P : Nat → Prop) : ∀ (x : Nd), x.ok → ∀ (v : Value) (w : World), NdV w P v x → Calls Tryz.prog 23 #[v] w (CloneQ w x) := by
  refine Nd.indA ?_
  intro k t s n ks ih hok v w ⟨q, hv, hk⟩
  subst hv
  have hk' := hk
  obtain ⟨g, (⟨rfl, h2⟩ | ⟨hn, hp, cap, rfl, h2, h3⟩), h4⟩ := hk
  · obtain rfl : ks = [] := List.length_eq_zero_iff.1 h2
    exact cloneI_nil k t s n w
  · exact cloneI_some k t s n g cap ks P w hok.2.1 hn hk' (fun y hy v W hv => ih y hy (Nd.oks_mem hok.2.2 y hy) v W hv)
end Go.Proofs.YtajoncmmdeahnaaGreatDoor
