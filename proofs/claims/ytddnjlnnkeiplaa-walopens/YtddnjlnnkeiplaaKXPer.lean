/-
  perform, where the fall strikes. perform, whatever the room, with no plan or one fall.
-/
import Derived.Test.YtddnjlnnkeiplaaKXPlan
namespace Go.Proofs.Ytddnjlnnkeiplaa.X
open Go.RowKit Go.Maps
variable {xt : Xt}
/-- Two blocks alone are turned. -/
structure Two (b g : Nat) (w w' : World) : Prop where
  os : w'.os = w.os
  tape : w'.tape = w.tape
  output : w'.output = w.output
  size : w.heap.size ≤ w'.heap.size
  keep : ∀ i, i < w.heap.size → i ≠ b → i ≠ g → w'.heap[i]? = w.heap[i]?
theorem Two.of_grown {b g : Nat} {w w' : World} {row : Option Nat} (h : w.grownBy w' row) (hr : row = none ∨ row = some b ∨ row = some g) : Two b g w w' :=
  ⟨h.os, h.tape, h.output, h.size, fun i hi h1 h2 => h.block i hi (fun e => by
    rcases hr with rfl | rfl | rfl
    · cases e
    · exact h1 (Option.some.inj e)
    · exact h2 (Option.some.inj e))⟩
theorem Two.trans {b g : Nat} {w w' w'' : World} (h : Two b g w w') (k : Two b g w' w'') : Two b g w w'' :=
  ⟨k.os.trans h.os, k.tape.trans h.tape, k.output.trans h.output, Nat.le_trans h.size k.size, fun i hi h1 h2 => (k.keep i (Nat.lt_of_lt_of_le hi h.size) h1 h2).trans (h.keep i hi h1 h2)⟩
theorem FallAt.kept {w w' : World} {base g c : Nat} {f : Fa} (h : FallAt w base g c f) (hg : w.grownBy w' none) : FallAt w' base g c f := row_none h hg
theorem FallAt.c3 {w : World} {base g c : Nat} {f : Fa} (h : FallAt w base g c f) : w.cell? ⟨g, 0, none⟩ = some (.int .i64 f.at_) ∧ w.cell? ⟨g, 1, none⟩ = some (.int .i64 f.keep) ∧ w.cell? ⟨g, 2, none⟩ = some (.int .i64 f.torn) := by
  have h0 : w.ownsRow base 35 3 (.slice (some ⟨g, 0, none⟩) 1 c) 1 (faL f) := h
  have e0 := h0.cellAt 0 (by omega)
  have e1 := h0.cellAt 1 (by omega)
  have e2 := h0.cellAt 2 (by omega)
  exact ⟨e0, e1, e2⟩
theorem FallAt.blk {w : World} {base g c : Nat} {f : Fa} (h : FallAt w base g c f) : ∃ cs, Blk w g 35 cs ∧ cs.size = c * 3 ∧ 0 < c ∧ c ≤ 9223372036854775807 := by
  rcases h.2 with ⟨e, _⟩ | ⟨q, cap, cur, e, _, hb, h1, h2, h3, _⟩
  · cases e
  · injection e with e1 e2 e3
    injection e1 with e4
    injection e4 with e5
    subst e5 e3
    exact ⟨cur, hb, by first | exact h3 | omega, by omega, by unfold maxLen at *; omega⟩
def failD (k : Dk) (keep torn : Int) (L : Nat → OkChg) : Dk := ⟨lostF k keep torn L, lostF k keep torn L, [], 0, k.changes, true⟩
set_option maxRecDepth 100000 in
set_option maxHeartbeats 4000000 in
theorem perform_strike (base b g cc kd : Nat) (z : Int) (vn vs vl : Value) (k : Dk) (f : Fa) (L : Nat → OkChg) (a s t : ByteArray) (w : World) (hx : xt.pp = some ⟨g, 0, none⟩ ∧ xt.pn = 1 ∧ xt.pc = cc) (hb0 : base ≤ b) (hB : Blk w b 73 (rowD xt vn vs vl k.unsure k.changes false))
    (hs : MapV w base vs k.sure) (hlo : w.ownsRow base 101 5 vl k.loose.length (looseL k.loose)) (hL : ∀ i, (h : i < k.loose.length) → k.loose[i] = (L i).1) (hl63 : k.loose.length ≤ 63) (ht1 : f.torn ≤ 9223372036854775807) (hfit : Fits k.sure 200000)
    (base' : Nat) (hF : FallAt w base' g cc f) (hat : f.at_ = (k.changes : Int))
    (CR : ∀ w1, w.grownBy w1 none → Calls Try.prog 72 #[.pointer (some ⟨b, 0, none⟩), .agg #[.int .i64 kd, .string a, .string s, .string t, .int .i64 z]] w1 fun e w' => e = .returned (.int .i64 0) ∧ w1.grownBy w' none) :
    Calls Try.prog 57 #[.pointer (some ⟨b, 0, none⟩), .agg #[.int .i64 kd, .string a, .string s, .string t, .int .i64 z]] w fun e w' => e = .returned (.int .i64 7) ∧ IsDisk { xt with pn := 0 } w' base b (failD k f.keep f.torn L) ∧ Two b g w w' := by
  have HR := hid CR
  have HB := hid hB
  have HS := hid hs
  have HL := hid hlo
  have HLL := hid hL
  have HF := hid hF
  have hbw : b < w.heap.size := hB.lt
  obtain ⟨xp, xn, xc, xb, xr⟩ := xt
  obtain ⟨rfl, rfl, rfl⟩ : xp = some ⟨g, 0, none⟩ ∧ xn = 1 ∧ xc = cc := hx
  clear CR hB hs hlo hL hF
  go_enter Try.func57, Try.ntmps57
  go_wp2_with (first
    | (go_at_call 72; refine (HR.out _ (grown_alloc (grown_refl _ _) _)).mono ?_; clear HR; rintro e w2 ⟨rfl, hg2⟩; have G2 := hid (grown_none (grown_alloc (grown_refl w none) _) hg2); clear hg2)
    | (go_at_call 73
       have r2 := HF.out.kept G2.out
       have B2 := HB.out.kept G2.out (by simp)
       obtain ⟨q0, q1, q2⟩ := r2.c3
       refine (nextFall_x b w2 f k.changes g xc B2.e4 B2.e5 q0 q1 q2).mono ?_
       rw [if_pos hat]
       rintro e w3 ⟨rfl, hg3⟩
       have G3 := hid (grown_none G2.out hg3)
       have B3 := hid (HB.out.kept G3.out (by simp))
       have F3 := hid (HF.out.kept G3.out)
       have c4 := B3.out.e4
       obtain ⟨p0, p1, p2⟩ := F3.out.c3
       simp only at c4
       have GA := hid (grown_alloc (grown_refl w3 none) (.cells #[.int .i64 (k.changes : Int), .int .i64 f.keep, .int .i64 f.torn] 35))
       have B4 := hid (B3.out.kept GA.out (by simp))
       have F4 := hid (F3.out.kept GA.out)
       have N4 := hid (Blk.new w3 35 #[.int .i64 (k.changes : Int), .int .i64 f.keep, .int .i64 f.torn])
       have hgw : g < w3.heap.size := World.block_lt_of_cell? _ _ p0
       have hbw3 : b < w3.heap.size := B3.out.lt
       have d4 := B4.out.e4
       simp only at d4
       clear hg3 G2 r2 B2 q0 q1 q2)
    | (go_at_call 74
       obtain ⟨cs, hbk, hsz, hpos, hcc⟩ := F4.out.blk
       refine (delete_one g xc cs _ hbk hsz hpos hcc).mono ?_
       rintro e w5 ⟨rfl, ⟨cs', hb5, hs5⟩, g5⟩
       have nbg : b ≠ g := far_ne' B4.out hbk (by decide)
       have B5 := B4.out.kept g5 (fun e => nbg (Option.some.inj e))
       have N5 := N4.out.kept g5 (fun e => by have := Option.some.inj e; omega)
       have G4 := grown_none G3.out GA.out
       have m5 : MapV w5 base vs k.sure := (HS.out.kept G4 (fun _ _ => by simp)).kept g5 (fun q e => by
         rcases HS.out.kept G4 (fun _ _ => by simp) with ⟨e', _⟩ | ⟨q', e', _, ho⟩
         · rw [e'] at e; cases e
         · rw [e'] at e
           cases e
           exact fun e2 => hbk.ne_map ho (Option.some.inj e2).symm)
       have l5 := rowG_kept (row_none HL.out G4) hbk (by decide) g5
       have G6 := grown_set (grown_refl w5 (some b)) 4 (.slice (some ⟨g, 0, none⟩) 0 xc)
       have B6 : Blk (w5.setCell ⟨b, 4, none⟩ (.slice (some ⟨g, 0, none⟩) 0 xc)) b 73 (rowD (⟨some ⟨g, 0, none⟩, 0, xc, xb, xr⟩ : Xt) vn vs vl k.unsure k.changes false) := B5.set 4 _
       have N6 := N5.kept G6 (fun e => by have := Option.some.inj e; omega)
       have T6 := hid (((Two.of_grown (b := b) (g := g) G4 (Or.inl rfl)).trans (Two.of_grown g5 (Or.inr (Or.inr rfl)))).trans (Two.of_grown G6 (Or.inr (Or.inl rfl))))
       have CF := hid (fail_any base b f.keep f.torn vn vs vl k.unsure k.changes k.sure k.loose L _ hb0 B6 (m5.set B5 4 _) (owns_self l5 B5 G6) HLL.out hl63 ht1 hfit)
       have x4 := B5.e4
       have v4 := B5.frozen 4
       have n1 := N6.cell 1
       have n2 := N6.cell 2
       simp only at x4
       simp at n1 n2
       clear hbk hsz hpos hcc hb5 hs5 g5 B5 N5 G4 m5 l5 G6 B6 N6 B4 N4 F4 F3 B3 G3 GA HS HL HLL HB HF)
    | (go_at_call 45
       refine CF.out.mono ?_
       rintro e w7 ⟨rfl, d7, g7⟩
       have D7 : Hid (IsDisk (⟨some ⟨g, 0, none⟩, 0, xc, xb, xr⟩ : Xt) w7 base b (failD k f.keep f.torn L)) := hid d7
       have T7 := hid (T6.out.trans (Two.of_grown g7 (Or.inr (Or.inl rfl))))
       clear d7 g7 CF T6))
  go_ret
  exact ⟨rfl, D7.out, T7.out⟩
end Go.Proofs.Ytddnjlnnkeiplaa.X
namespace Go.Proofs.Ytddnjlnnkeiplaa.X
open Go.RowKit Go.Maps
variable {xt : Xt}
/-- The plan in memory: none, or one fall that lies in block g. -/
def PV (xt : Xt) (w : World) (base g : Nat) : Option Fa → Prop
  | none => xt.pn = 0
  | some f => (xt.pp = some ⟨g, 0, none⟩ ∧ xt.pn = 1) ∧ base ≤ g ∧ FallAt w base g xt.pc f ∧ f.torn ≤ 9223372036854775807
/-- A block that no call of the disk at b, whose plan lies in g, turns. -/
def SafeP (base b g : Nat) (w : World) (i : Nat) : Prop := i < base ∨ (i ≠ b ∧ ∃ cs t fz, w.heap[i]? = some (.cells cs t fz) ∧ t ≠ 101 ∧ (t = 35 → i ≠ g))
/-- What a disk's call may turn: its own block, its maps, its list of changes, the plan's block. -/
structure TendP (base b g : Nat) (w w' : World) : Prop where
  os : w'.os = w.os
  tape : w'.tape = w.tape
  output : w'.output = w.output
  size : w.heap.size ≤ w'.heap.size
  keep : ∀ i, i < w.heap.size → SafeP base b g w i → w'.heap[i]? = w.heap[i]?
theorem TendP.of_tend {base b g : Nat} {w w' : World} (h : Tend base b w w') : TendP base b g w w' := ⟨h.os, h.tape, h.output, h.size, fun i hi hs => h.keep i hi (by
  rcases hs with hs | ⟨hn, cs, t, fz, hc, ht, _⟩
  · exact Or.inl hs
  · exact Or.inr ⟨hn, cs, t, fz, hc, ht⟩)⟩
theorem TendP.of_two {base b g : Nat} {w w' : World} {cg : Array Value} (hb : base ≤ b) (hg : base ≤ g) (hG : Blk w g 35 cg) (h : Two b g w w') : TendP base b g w w' := ⟨h.os, h.tape, h.output, h.size, fun i hi hs => by
  rcases hs with hs | ⟨hn, cs, t, fz, hc, ht, h35⟩
  · exact h.keep i hi (by omega) (by omega)
  · refine h.keep i hi hn (fun e => ?_)
    by_cases h5 : t = 35
    · exact h35 h5 e
    · exact far_ne' hc hG h5 e⟩
theorem TendP.trans {base b g : Nat} {w w' w'' : World} (h : TendP base b g w w') (k : TendP base b g w' w'') : TendP base b g w w'' :=
  ⟨k.os.trans h.os, k.tape.trans h.tape, k.output.trans h.output, Nat.le_trans h.size k.size, fun i hi hs => (k.keep i (Nat.lt_of_lt_of_le hi h.size) (by
    rcases hs with hs | ⟨hn, cs, t, fz, hc, ht, h35⟩
    · exact Or.inl hs
    · exact Or.inr ⟨hn, cs, t, fz, (h.keep i hi (Or.inr ⟨hn, cs, t, fz, hc, ht, h35⟩)).trans hc, ht, h35⟩)).trans (h.keep i hi hs)⟩
set_option maxRecDepth 100000 in
theorem nextFall_none (b : Nat) (p : Option Addr) (c : Nat) (w : World) (h4 : w.cell? ⟨b, 4, none⟩ = some (.slice p 0 c)) : Calls Try.prog 73 #[.pointer (some ⟨b, 0, none⟩)] w fun e w' => e = .returned (.int .i64 (-1)) ∧ w.grownBy w' none := by
  have hb : b < w.heap.size := World.block_lt_of_cell? _ _ h4
  go_enter Try.func73, Try.ntmps73
  go_wp2_with (go_at_call 80; refine (index_empty _ _ _ _).mono ?_; rintro e w' ⟨rfl, hw⟩; have hw2 := hw.symm; clear hw; subst hw2)
  go_ret
  exact ⟨rfl, grown_alloc (grown_refl _ _) _⟩
/-- Does the fall strike at the next change? -/
def strikesB (pl : Option Fa) (k : Dk) : Bool := match pl with
  | none => false
  | some f => decide (f.at_ = (k.changes : Int))
/-- What a change answers. -/
def ansP (xt : Xt) (pl : Option Fa) (k : Dk) (c : Chg) : Nat := if ansX xt k c = 0 then (if strikesB pl k then 7 else 0) else ansX xt k c
/-- The disk behind it. -/
def nextP (xt : Xt) (pl : Option Fa) (k : Dk) (c : Chg) (L : Nat → OkChg) : Dk := if ansX xt k c = 0 then (match pl with
  | some f => if f.at_ = (k.changes : Int) then failD k f.keep f.torn L else stepD k c
  | none => stepD k c) else k
/-- The plan behind it. -/
def planP (xt : Xt) (pl : Option Fa) (k : Dk) (c : Chg) : Option Fa := if ansX xt k c = 0 ∧ strikesB pl k = true then none else pl
def PerP (xt : Xt) (base b g : Nat) (pl : Option Fa) (k : Dk) (c : Chg) (L : Nat → OkChg) (w : World) (e : Ending) (w' : World) : Prop :=
  e = .returned (.int .i64 (ansP xt pl k c : Nat)) ∧ ∃ xt' : Xt, (xt'.bd = xt.bd ∧ xt'.rm = xt.rm) ∧ IsDisk xt' w' base b (nextP xt pl k c L) ∧ PV xt' w' base g (planP xt pl k c) ∧ TendP base b g w w'
theorem PV.kept {w w' : World} {base g : Nat} {pl : Option Fa} (h : PV xt w base g pl) (hg : w.grownBy w' none) : PV xt w' base g pl := by
  cases pl with
  | none => exact h
  | some f => exact ⟨h.1, h.2.1, h.2.2.1.kept hg, h.2.2.2⟩
theorem PV.tend {w w' : World} {base b g bd : Nat} {pl : Option Fa} {cs : Array Value} (h : PV xt w base g pl) (hB : Blk w b 73 cs) (hT : Tend bd b w w') : PV xt w' base g pl := by
  cases pl with
  | none => exact h
  | some f =>
    refine ⟨h.1, h.2.1, row_same h.2.2.1 (fun q cur hq => hT.keep q (heap_lt hq) (Or.inr ⟨far_ne' hq hB (by decide), cur, 35, (0, 0), hq, by decide⟩)), h.2.2.2⟩
/-- perform. -/
theorem perform_p (base b g : Nat) (k : Dk) (pl : Option Fa) (c : Chg) (L : Nat → OkChg) (w : World) (h : IsDisk xt w base b k) (hp : PV xt w base g pl) (hS : Small k) (hc : Fine c) (hZ : sizeF k.now ≤ 1000000000) (hL : ∀ i, (h : i < k.loose.length) → k.loose[i] = (L i).1) (hfit : Fits k.sure 200000) :
    Calls Try.prog 57 #[.pointer (some ⟨b, 0, none⟩), .agg #[.int .i64 c.kind, .string c.name, .string c.bytes, .string c.to, .int .i64 c.n]] w (PerP xt base b g pl k c L w) := by
  have h' := h
  obtain ⟨hb0, vn, vs, vl, hB, hn, hsu, hne, hl⟩ := h
  cases hd : k.dead with
  | true =>
    have ea : ansX xt k c = 7 := by unfold ansX; rw [hd]; rfl
    have e1 : ansP xt pl k c = 7 := by unfold ansP; rw [ea]; rfl
    have e2 : nextP xt pl k c L = k := by unfold nextP; rw [ea]; rfl
    have e3 : planP xt pl k c = pl := by unfold planP; rw [ea, if_neg (fun h => by cases h.1)]
    have hB' : Blk w b 73 (rowD xt vn vs vl k.unsure k.changes true) := by rw [← hd]; exact hB
    unfold PerP
    rw [e1, e2, e3]
    refine (perform_no b c.kind c.n c.name c.bytes c.to 7 w (by decide) (fun w1 hg1 => refusal_dead b c.kind c.n vn vs vl k.unsure k.changes c.name c.bytes c.to w1 (hB'.kept hg1 (by simp)))).mono ?_
    rintro e w' ⟨he, hg⟩
    exact ⟨he, xt, ⟨rfl, rfl⟩, h'.kept hg, hp.kept hg, TendP.of_tend (Tend.of_none hg)⟩
  | false =>
    have hB' : Blk w b 73 (rowD xt vn vs vl k.unsure k.changes false) := by rw [← hd]; exact hB
    have ea : ansX xt k c = refX xt k.now c := by unfold ansX; rw [hd]; rfl
    have CR : ∀ w1, w.grownBy w1 none → Calls Try.prog 72 #[.pointer (some ⟨b, 0, none⟩), .agg #[.int .i64 c.kind, .string c.name, .string c.bytes, .string c.to, .int .i64 c.n]] w1 fun r w' => r = .returned (.int .i64 (refX xt k.now c : Nat)) ∧ w1.grownBy w' none := fun w1 hg1 =>
      refusal_all base b vn vs vl k.unsure k.changes k.now c w1 (hB'.kept hg1 (by simp)) (hn.kept hg1 (fun _ _ => by simp)) hS.now hZ hc
    by_cases h0 : refX xt k.now c = 0
    · have hlow : c.kind = 4 → 0 ≤ c.n := fun h4 => by
        by_cases hz : c.n < 0
        · exfalso
          unfold refX at h0
          split at h0
          · cases h0
          · split at h0
            · omega
            · split at h0
              · cases h0
              · split at h0
                · cases h0
                · split at h0
                  · cases h0
                  · rename_i hx
                    exact hx ⟨h4, Or.inl hz⟩
        · omega
      rw [h0] at CR
      have ok : ∀ (_ : strikesB pl k = false) (CX : ∀ w1, w.grownBy w1 none → Calls Try.prog 73 #[.pointer (some ⟨b, 0, none⟩)] w1 fun e w' => e = .returned (.int .i64 (-1)) ∧ w1.grownBy w' none), Calls Try.prog 57 #[.pointer (some ⟨b, 0, none⟩), .agg #[.int .i64 c.kind, .string c.name, .string c.bytes, .string c.to, .int .i64 c.n]] w (PerP xt base b g pl k c L w) := fun hst CX => by
        have e1 : ansP xt pl k c = 0 := by unfold ansP; rw [ea, if_pos h0, hst]; rfl
        have e2 : nextP xt pl k c L = stepD k c := by
          unfold nextP
          rw [ea, if_pos h0]
          cases pl with
          | none => rfl
          | some f =>
            have : ¬ f.at_ = (k.changes : Int) := of_decide_eq_false hst
            exact if_neg this
        have e3 : planP xt pl k c = pl := by unfold planP; rw [hst, if_neg (fun h => by cases h.2)]
        unfold PerP
        rw [e1, e2, e3]
        refine (perform_ok base b c.kind c.n vn vs vl k.unsure k.changes k.now k.loose c.name c.bytes c.to w hb0 hB' hn hl hS.now hc.kind hc.name hc.to hc.bytes hlow hc.high hS.unsure hS.changes hS.loose CX CR).mono ?_
        rintro e w' ⟨he, hpp⟩
        have hq := disk_of_perf (c := c) hb0 hB hn hsu hne hl hd hpp
        exact ⟨he, xt, ⟨rfl, rfl⟩, hq.1, hp.tend hB hq.2, TendP.of_tend hq.2⟩
      cases pl with
      | none =>
        refine ok rfl (fun w1 hg1 => nextFall_none b xt.pp xt.pc w1 ?_)
        have e := (hB'.kept hg1 (by simp)).e4
        have e0 : xt.pn = 0 := hp
        rw [e0] at e
        exact e
      | some f =>
        obtain ⟨⟨hx1, hx2⟩, hg0, hF, ht⟩ := hp
        by_cases hat : f.at_ = (k.changes : Int)
        · have e1 : ansP xt (some f) k c = 7 := by
            unfold ansP strikesB
            rw [ea, if_pos h0]
            simp [hat]
          have e2 : nextP xt (some f) k c L = failD k f.keep f.torn L := by
            unfold nextP
            rw [ea, if_pos h0]
            exact if_pos hat
          have e3 : planP xt (some f) k c = none := by
            unfold planP strikesB
            rw [ea, if_pos ⟨h0, by simp [hat]⟩]
          unfold PerP
          rw [e1, e2, e3]
          refine (perform_strike base b g xt.pc c.kind c.n vn vs vl k f L c.name c.bytes c.to w ⟨hx1, hx2, rfl⟩ hb0 hB' hsu hl hL hS.loose ht hfit base hF hat CR).mono ?_
          rintro e w' ⟨he, hd', hT⟩
          obtain ⟨cg, hG, _⟩ := hF.blk
          exact ⟨he, { xt with pn := 0 }, ⟨rfl, rfl⟩, hd', rfl, TendP.of_two hb0 hg0 hG hT⟩
        · refine ok (decide_eq_false hat) (fun w1 hg1 => ?_)
          have B1 := hB'.kept hg1 (by simp)
          have e4 := B1.e4
          rw [hx1, hx2] at e4
          obtain ⟨p0, p1, p2⟩ := (hF.kept hg1).c3
          have := nextFall_x b w1 f k.changes g xt.pc e4 B1.e5 p0 p1 p2
          rw [if_neg hat] at this
          exact this
    · have e1 : ansP xt pl k c = refX xt k.now c := by unfold ansP; rw [ea, if_neg h0]
      have e2 : nextP xt pl k c L = k := by unfold nextP; rw [ea, if_neg h0]
      have e3 : planP xt pl k c = pl := by unfold planP; rw [ea, if_neg (fun h => h0 h.1)]
      unfold PerP
      rw [e1, e2, e3]
      refine (perform_no b c.kind c.n c.name c.bytes c.to (refX xt k.now c) w h0 CR).mono ?_
      rintro e w' ⟨he, hg⟩
      exact ⟨he, xt, ⟨rfl, rfl⟩, h'.kept hg, hp.kept hg, TendP.of_tend (Tend.of_none hg)⟩
end Go.Proofs.Ytddnjlnnkeiplaa.X
