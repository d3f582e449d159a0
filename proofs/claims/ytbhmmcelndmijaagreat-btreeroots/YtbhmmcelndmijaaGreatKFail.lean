/-
  survivors as an iterator: its contract. fail: the power fails.
-/
import Derived.Test.YtbhmmcelndmijaaGreatSurv
import Derived.Test.YtbhmmcelndmijaaGreatPerf
import Derived.Test.YtbhmmcelndmijaaGreatKCopy
namespace Go.Proofs.YtbhmmcelndmijaaGreat
open Go.RowKit Go.Maps Go.Shelf
attribute [local go_sem] Oper.semAt_some
set_option maxRecDepth 100000 in
set_option maxHeartbeats 1000000 in
theorem surv_none (l b Bd Bk Bt cap : Nat) (pa : Option Addr) (J : List OkChg → World → Prop) (W : World) (hd : W.cell? ⟨Bd, 0, none⟩ = some (.pointer (some ⟨b, 0, none⟩))) (h2 : W.cell? ⟨b, 2, none⟩ = some (.slice pa 0 cap)) (h0 : J [] W) :
    CallsIn Fence.wide 4 Tryz.prog 125 #[.func (.yield l) #[] #[], .pointer (some ⟨Bd, 0, none⟩), .pointer (some ⟨Bk, 0, none⟩), .pointer (some ⟨Bt, 0, none⟩)] W fun e W' => (∃ v, e = .returned v) ∧ J [] W' := by
  have H0 : Hid (J [] W) := h0
  clear h0
  refine callsIn_of_wp Tryz.func125 rfl trivial ?_ rfl
  simp only [Tryz.ntmps125, List.size_toArray, List.length_cons, List.length_nil, Nat.reduceAdd, Nat.reduceSub, Array.replicate_succ, Array.replicate_zero, List.push_toArray, List.append_toArray, List.nil_append, List.cons_append]
  gi_wp2
  gi_loopw [14] (fun i wr => i = .int .i64 0 ∧ wr = W) (fun _ _ => 0)
  case atStart => exact ⟨rfl, rfl⟩
  case round =>
    obtain ⟨rfl, rfl⟩ := hrel
    gi_wp2
    go_end0
    exact ⟨⟨_, rfl⟩, H0.out⟩
set_option maxRecDepth 100000 in
theorem surv_mk (b : Nat) (keep torn : Int) (w : World) : Calls Tryz.prog 109 #[.pointer (some ⟨b, 0, none⟩), .int .i64 keep, .int .i64 torn] w fun e w' =>
    e = .returned (.func (.func 125) #[] #[.pointer (some ⟨w.heap.size, 0, none⟩), .pointer (some ⟨w.heap.size + 1, 0, none⟩), .pointer (some ⟨w.heap.size + 1 + 1, 0, none⟩)])
    ∧ w' = ((w.alloc (.cells #[.pointer (some ⟨b, 0, none⟩)] 54)).alloc (.cells #[.int .i64 keep] 3)).alloc (.cells #[.int .i64 torn] 3) := by
  go_enter Tryz.func109, Tryz.ntmps109
  go_wp2
  go_ret
  exact ⟨rfl, rfl⟩
/-- The loose changes of a disk, as an iterator that is ranged over. -/
theorem surv_stops (base b Bd Bk Bt n1 gm : Nat) (keep torn : Int) (vl : Value) (loose : List Chg) (L : Nat → OkChg) (w : World) (hL : ∀ k, (h : k < loose.length) → loose[k] = (L k).1) (hl63 : loose.length ≤ 63) (ht1 : torn ≤ 9223372036854775807)
    (hn1 : n1 ≤ w.heap.size) (hbd : Bd < w.heap.size) (hb : b < w.heap.size) (hbk : Bk < n1 ∧ Bk ≠ gm) (hbt : Bt < n1 ∧ Bt ≠ gm) (hgg : ∀ g, vl.ownBlock = some g → g < n1 ∧ g ≠ gm)
    (hd : w.cell? ⟨Bd, 0, none⟩ = some (.pointer (some ⟨b, 0, none⟩))) (hk : w.cell? ⟨Bk, 0, none⟩ = some (.int .i64 keep)) (ht : w.cell? ⟨Bt, 0, none⟩ = some (.int .i64 torn))
    (h2 : w.cell? ⟨b, 2, none⟩ = some vl) (hrow : w.ownsRow base 120 5 vl loose.length (looseL loose)) :
    SeqStopsK Fence.wide 4 Tryz.prog 125 #[.pointer (some ⟨Bd, 0, none⟩), .pointer (some ⟨Bk, 0, none⟩), .pointer (some ⟨Bt, 0, none⟩)] (fun x : OkChg => #[x.1.val]) (KeepsBut n1 gm) (fun xs => xs = (stTo keep torn L loose.length).1) (fun _ => True) 63 w := fun l J Jx W hW hJa _ hY h0 => by
  have hd' := (hW.cell (p := ⟨Bd, 0, none⟩) hbd).trans hd
  have hk' := (hW.cell (p := ⟨Bk, 0, none⟩) (Nat.lt_of_lt_of_le hbk.1 hn1)).trans hk
  have ht' := (hW.cell (p := ⟨Bt, 0, none⟩) (Nat.lt_of_lt_of_le hbt.1 hn1)).trans ht
  have h2' := (hW.cell (p := ⟨b, 2, none⟩) hb).trans h2
  have hrow' := hrow
  rcases hrow'.2 with ⟨rfl, hz⟩ | ⟨g, cap, cur, rfl, _⟩
  · rw [hz]
    refine (surv_none l b Bd Bk Bt 0 none J W hd' h2' h0).mono fun e W' ⟨he, hj⟩ => ⟨he, Or.inl ⟨_, rfl, hj⟩⟩
  · have hg := hgg g rfl
    have hc : ∀ j, j < loose.length * 5 → W.cell? ⟨g, j, none⟩ = (looseL loose)[j]? := fun j hj => (hW.cell (p := ⟨g, j, none⟩) (Nat.lt_of_lt_of_le hg.1 hn1)).trans (hrow.cellAt j hj)
    refine (surv_in l b Bd Bk Bt g cap n1 gm loose.length keep torn loose L hL rfl hl63 ht1 J Jx W hJa hY (Nat.le_trans hn1 hW.size) hbk hbt hg hd' hk' ht' h2' hc h0).mono ?_
    rintro e W' ⟨he, hj | ⟨pre, hj⟩⟩
    · exact ⟨he, Or.inl ⟨_, rfl, hj⟩⟩
    · exact ⟨he, Or.inr ⟨_, trivial, hj⟩⟩
end Go.Proofs.YtbhmmcelndmijaaGreat
namespace Go.Proofs.YtbhmmcelndmijaaGreat
open Go.RowKit Go.Maps Go.Shelf
attribute [local go_sem] Oper.semAt_some
/-- Files behind changes, one behind the other. -/
def foldF (l : FS) (cs : List OkChg) : FS := cs.foldl (fun l c => doF l c.1) l
theorem foldF_snoc (l : FS) (cs : List OkChg) (c : OkChg) : foldF l (cs ++ [c]) = doF (foldF l cs) c.1 := by
  unfold foldF
  rw [List.foldl_append]
  rfl
theorem fold_fits (l : FS) (B : Nat) (hl : Fits l B) (hB : 1000 ≤ B) : ∀ cs : List OkChg, Fits (foldF l cs) (B + cs.length * 10001) := by
  intro cs
  induction cs generalizing l B with
  | nil => exact hl.mono (by simp)
  | cons c r ih =>
    have h1 := fits_do hl c.1 c.2.bytes (by have := c.2.name; omega) (by have := c.2.to; omega)
    have h2 := ih (doF l c.1) (B + 10000 + 1) h1 (by omega)
    exact h2.mono (by rw [List.length_cons]; omega)
theorem blk_other {W W' : World} {row : Option Nat} {i : Nat} {t : TypeId} {cs : Array Value} (h : Blk W i t cs) (hg : W.grownBy W' row) (hr : ∀ r, row = some r → ∃ o : Obj, W.heap[r]? = some o ∧ o.isCells = false) : Blk W' i t cs := h.kept hg (fun e => by
  obtain ⟨o, ho, hc⟩ := hr i e.symm
  have h' : W.heap[i]? = some (.cells cs t (0, 0)) := h
  rw [h'] at ho
  cases ho
  cases hc)
theorem grown_ob {a b c : World} {ob : Option Nat} (h : a.grownBy b none) (g : b.grownBy c ob) (hk : ∀ x, ob = some x → a.heap.size ≤ x) : a.grownBy c none :=
  ⟨g.os.trans h.os, g.tape.trans h.tape, g.output.trans h.output, Nat.le_trans h.size g.size, fun i hi _ => (g.block i (Nat.lt_of_lt_of_le hi h.size) (fun e => by have := hk i e.symm; omega)).trans (h.block i hi (by simp))⟩
/-- Between two rounds: the variable, the map behind the changes that have come, all else as it was. -/
def FailI (w : World) (q g1 n4 : Nat) (sure : FS) (pre : List OkChg) (W : World) : Prop := Blk W q 92 #[.map (some g1)] ∧ OwnsF W g1 (foldF sure pre) ∧ w.grownBy W none ∧ n4 ≤ W.heap.size
theorem failI_own {w : World} {q g1 n4 : Nat} {sure : FS} (h1 : g1 < n4) (h2 : w.heap.size ≤ n4) : OwnFrom n4 (FailI w q g1 n4 sure) := fun s W W' row hs hg hr => by
  obtain ⟨a1, a2, a3, a4⟩ := hs
  refine ⟨blk_other a1 hg (fun r e => (hr r e).2), a2.kept hg (fun e => ?_), grown_ob a3 hg (fun r e => ?_), Nat.le_trans a4 hg.size⟩
  · have := (hr g1 e.symm).1
    omega
  · have := (hr r e).1
    omega
def FailA (b q g1 : Nat) (keep torn : Int) (vs : Value) (fv : Value) (x : OkChg) (a' : Act) (W : World) : Prop :=
  ∃ Bx, Blk W Bx 120 #[.int .i64 x.1.kind, .string x.1.name, .string x.1.bytes, .string x.1.to, .int .i64 x.1.n] ∧ a' = { tmps := #[.pointer (some ⟨b, 0, none⟩), .int .i64 keep, .int .i64 torn, undef, undef, undef, .pointer (some ⟨q, 0, none⟩), .pointer (some ⟨Bx, 0, none⟩), .pointer (some ⟨b, 0, none⟩), .pointer (some ⟨b, 0, none⟩), .pointer (some ⟨b, 1, none⟩), vs, .map (some g1), .pointer (some ⟨b, 0, none⟩), .int .i64 keep, .int .i64 torn, fv, x.1.val, undef, undef, undef, undef, undef, undef, undef, undef, undef, undef, undef, undef, undef, undef, undef, undef, undef, undef, undef, undef, undef], defers := [] }
theorem failA_own {B b q g1 : Nat} {keep torn : Int} {vs fv : Value} (x : OkChg) (a' : Act) : OwnFrom B (fun (_ : Unit) W => FailA b q g1 keep torn vs fv x a' W) := fun _ W W' row hs hg hr => by
  obtain ⟨Bx, h1, h2⟩ := hs
  exact ⟨Bx, blk_other h1 hg (fun r e => (hr r e).2), h2⟩
set_option maxRecDepth 100000 in
set_option maxHeartbeats 2000000 in
theorem fail_any (base b : Nat) (keep torn : Int) (vn vs vl : Value) (u c : Nat) (sure : FS) (loose : List Chg) (L : Nat → OkChg) (w : World) (hb0 : base ≤ b) (hB : Blk w b 96 (rowD vn vs vl u c false))
    (hs : MapV w base vs sure) (hlo : w.ownsRow base 120 5 vl loose.length (looseL loose)) (hL : ∀ k, (h : k < loose.length) → loose[k] = (L k).1) (hl63 : loose.length ≤ 63) (ht1 : torn ≤ 9223372036854775807) (hf : Fits sure 200000) :
    Calls Tryz.prog 85 #[.pointer (some ⟨b, 0, none⟩), .int .i64 keep, .int .i64 torn] w fun e w' => e = .returned (.tuple #[]) ∧ IsDisk w' base b ⟨foldF sure (stTo keep torn L loose.length).1, foldF sure (stTo keep torn L loose.length).1, [], 0, c, true⟩ ∧ w.grownBy w' (some b) := by
  have HB : Hid (Blk w b 96 (rowD vn vs vl u c false)) := hB
  have HO : Hid (w.ownsRow base 120 5 vl loose.length (looseL loose)) := hlo
  have CC : Hid (Calls Tryz.prog 63 #[vs] w fun e w' => e = .returned (.map (some w.heap.size)) ∧ OwnsF w' w.heap.size sure ∧ w.grownBy w' none) := fsclone_any base vs sure w hs (hf.mono (by decide))
  have x1 := hB.d1
  have hbw : b < w.heap.size := hB.lt
  clear hB hlo hs
  refine (callsIn_wide (n := 5)).1 ?_
  refine callsIn_of_wp_marks Tryz.func85 rfl trivial ?_ rfl
  simp only [Tryz.ntmps85, List.size_toArray, List.length_cons, List.length_nil, Nat.reduceAdd, Nat.reduceSub, Array.replicate_succ, Array.replicate_zero, List.push_toArray, List.append_toArray, List.nil_append, List.cons_append]
  refine wpIn_wide.2 ?_
  go_wp2_with (first | (go_at_call 63; refine CC.out.mono ?_; rintro e w1 ⟨rfl, ho1, hg1⟩; have O1 : Hid (OwnsF w1 w.heap.size sure) := ho1; have G1 : Hid (w.grownBy w1 none) := hg1; clear ho1 hg1) | (go_at_call 109; refine (surv_mk b keep torn _).mono ?_; rintro e w3 ⟨rfl, hw3⟩; have hw4 := hw3.symm; clear hw3; subst hw4))
  have hq1 : w.heap.size < w1.heap.size := O1.out.lt
  have B4 := (((Blk.new w1 92 #[.map (some w.heap.size)]).alloc (.cells #[.pointer (some ⟨b, 0, none⟩)] 54)).alloc (.cells #[.int .i64 keep] 3)).alloc (.cells #[.int .i64 torn] 3)
  have D4 := ((Blk.new (w1.alloc (.cells #[.map (some w.heap.size)] 92)) 54 #[.pointer (some ⟨b, 0, none⟩)]).alloc (.cells #[.int .i64 keep] 3)).alloc (.cells #[.int .i64 torn] 3)
  have K4 := (Blk.new ((w1.alloc (.cells #[.map (some w.heap.size)] 92)).alloc (.cells #[.pointer (some ⟨b, 0, none⟩)] 54)) 3 #[.int .i64 keep]).alloc (.cells #[.int .i64 torn] 3)
  have T4 := Blk.new (((w1.alloc (.cells #[.map (some w.heap.size)] 92)).alloc (.cells #[.pointer (some ⟨b, 0, none⟩)] 54)).alloc (.cells #[.int .i64 keep] 3)) 3 #[.int .i64 torn]
  have O4 := (((O1.out.alloc (.cells #[.map (some w.heap.size)] 92)).alloc (.cells #[.pointer (some ⟨b, 0, none⟩)] 54)).alloc (.cells #[.int .i64 keep] 3)).alloc (.cells #[.int .i64 torn] 3)
  have G4 := grown_alloc (grown_alloc (grown_alloc (grown_alloc G1.out (.cells #[.map (some w.heap.size)] 92)) (.cells #[.pointer (some ⟨b, 0, none⟩)] 54)) (.cells #[.int .i64 keep] 3)) (.cells #[.int .i64 torn] 3)
  have S4 : ((((w1.alloc (.cells #[.map (some w.heap.size)] 92)).alloc (.cells #[.pointer (some ⟨b, 0, none⟩)] 54)).alloc (.cells #[.int .i64 keep] 3)).alloc (.cells #[.int .i64 torn] 3)).heap.size = w1.heap.size + 4 := by simp
  simp only [World.size_alloc] at D4 K4 T4
  generalize (((w1.alloc (.cells #[.map (some w.heap.size)] 92)).alloc (.cells #[.pointer (some ⟨b, 0, none⟩)] 54)).alloc (.cells #[.int .i64 keep] 3)).alloc (.cells #[.int .i64 torn] 3) = w4 at *
  generalize w1.heap.size = q at *
  have HL4 : w4.ownsRow base 120 5 vl loose.length (looseL loose) := HO.out.kept G4 (by cases vl.ownBlock with | none => exact Or.inl rfl | some x => exact Or.inr (by simp))
  have HB4 : Blk w4 b 96 (rowD vn vs vl u c false) := HB.out.kept G4 (by simp)
  refine (wpIn_wide (n := 5)).1 ?_
  refine wpIn_rangeFunc_ownH rfl (by decide) (gf := 125) (lb := #[.pointer (some ⟨q + 1, 0, none⟩), .pointer (some ⟨q + 1 + 1, 0, none⟩), .pointer (some ⟨q + 1 + 1 + 1, 0, none⟩)]) rfl trivial (enters_of Tryz.func125 (by kernel_rfl) rfl)
    (surv_stops base b (q + 1) (q + 1 + 1) (q + 1 + 1 + 1) w4.heap.size w.heap.size keep torn vl loose L w4 hL hl63 ht1 (Nat.le_refl _) (by omega) (by omega) ⟨by omega, by omega⟩ ⟨by omega, by omega⟩ (fun g hg => ?hgg) (by rw [D4.cell]; rfl) (by rw [K4.cell]; rfl) (by rw [T4.cell]; rfl) HB4.d2 HL4)
    (fun h k => KeepsBut.trans h k) (fun W l o o' hl ho _ _ => ?hkb) (Below.refl _ _) (fun _ => rfl) (FailI w q w.heap.size w4.heap.size sure) (fun _ _ _ => False) (failI_own (by omega) (by omega)) (fun _ _ _ _ _ h => h.elim) ⟨B4, O4, G4, Nat.le_refl _⟩ (FailA b q w.heap.size keep torn vs (.func (.func 125) #[] #[.pointer (some ⟨q + 1, 0, none⟩), .pointer (some ⟨q + 1 + 1, 0, none⟩), .pointer (some ⟨q + 1 + 1 + 1, 0, none⟩)])) (fun x a' => failA_own x a') ?assign ?body ?done ?stop
  case hgg =>
    have := (HO.out.lt g hg).2
    exact ⟨by omega, by omega⟩
  case hkb => exact ⟨fun i hi _ => World.putObj_heap_other (by omega), by simp⟩
  case assign =>
    rintro l pre x W K hi hK
    obtain ⟨i1, i2, i3, i4⟩ := hi
    simp only [Chg.val]
    gi_wp2
    refine hK _ _ ((KeepsOthers.alloc _ _).from _) (KeepsBut.of_grown (World.grownBy_alloc W _ none) i4) ⟨i1.alloc _, i2.alloc _, grown_alloc i3 _, Nat.le_trans i4 (by simp)⟩ ⟨W.heap.size, Blk.new _ _ _, rfl⟩
  case body =>
    rintro l pre x a' W hl ⟨r, hr⟩ ⟨i1, i2, i3, i4⟩ ⟨Bx, hbx, rfl⟩ hlt
    have z0 : W.cell? ⟨q, 0, none⟩ = some (.map (some w.heap.size)) := by rw [i1.cell]; rfl
    have y0 : W.cell? ⟨Bx, 0, none⟩ = some (.int .i64 x.1.kind) := by rw [hbx.cell]; rfl
    have y1 : W.cell? ⟨Bx, 1, none⟩ = some (.string x.1.name) := by rw [hbx.cell]; rfl
    have y2 : W.cell? ⟨Bx, 2, none⟩ = some (.string x.1.bytes) := by rw [hbx.cell]; rfl
    have y3 : W.cell? ⟨Bx, 3, none⟩ = some (.string x.1.to) := by rw [hbx.cell]; rfl
    have y4 : W.cell? ⟨Bx, 4, none⟩ = some (.int .i64 x.1.n) := by rw [hbx.cell]; rfl
    have hfit := (fold_fits sure 200000 hf (by decide) pre).mono (show 200000 + pre.length * 10001 ≤ 1000000 by omega)
    have CD : Hid (Calls Tryz.prog 86 #[.map (some w.heap.size), .agg #[.int .i64 x.1.kind, .string x.1.name, .string x.1.bytes, .string x.1.to, .int .i64 x.1.n]] W fun e w' => e = .returned (.tuple #[]) ∧ OwnsF w' w.heap.size (foldF sure (pre ++ [x])) ∧ W.grownBy w' (some w.heap.size)) := by
      rw [foldF_snoc]
      exact do_any w.heap.size (foldF sure pre) x.1 W i2 hfit x.2.kind (by have := x.2.name; unfold maxLen; omega) (by have := x.2.to; unfold maxLen; omega) (by have := x.2.bytes; omega) x.2.low x.2.high
    have I1 : Hid (Blk W q 92 #[.map (some w.heap.size)]) := i1
    have I3 : Hid (w.grownBy W none) := i3
    clear i1 i2 i3 hbx hfit hr
    gi_wp2_with (refine ⟨trivial, ?_⟩; gi_at_call 86; refine (CallsIn.inRound l (callsIn_wide.2 CD.out)).mono ?_; clear CD; rintro e w6 ⟨rfl, ho6, hg6⟩)
    exact ⟨KeepsFrom.of_grownBy hg6 (fun j e => by cases e; omega), ⟨fun i hi hne => hg6.block i (by omega) (fun e => hne (Option.some.inj e)), hg6.size⟩, I1.out.kept hg6 (fun e => by have := Option.some.inj e; omega), ho6, grown_ob I3.out hg6 (fun r e => by cases e; exact Nat.le_refl _), Nat.le_trans i4 hg6.size⟩
  case done =>
    rintro D xs W hD rfl ⟨i1, i2, i3, i4⟩ hK
    have hfit := (fold_fits sure 200000 hf (by decide) (stTo keep torn L loose.length).1).mono (show 200000 + (stTo keep torn L loose.length).1.length * 10001 ≤ 1000000 by have := stTo_len keep torn L loose.length; omega)
    obtain ⟨S, eS⟩ : ∃ S, foldF sure (stTo keep torn L loose.length).1 = S := ⟨_, rfl⟩
    rw [eS] at i2 hfit
    have ES : Hid (foldF sure (stTo keep torn L loose.length).1 = S) := eS
    clear eS
    have BW : Hid (Blk W b 96 (rowD vn vs vl u c false)) := HB.out.kept i3 (by simp)
    have CW : Hid (∀ W', W' = W.drew → Calls Tryz.prog 63 #[.map (some w.heap.size)] W' fun e w' => e = .returned (.map (some W.heap.size)) ∧ OwnsF w' W.heap.size S ∧ W.grownBy w' none) := by
      rintro W' rfl
      refine (fsclone_some w.heap.size S W.drew i2.drew hfit).mono ?_
      rintro e w' ⟨he, ho, hg⟩
      exact ⟨he, ho, grown_of_drew hg⟩
    have z0 : W.cell? ⟨q, 0, none⟩ = some (.map (some w.heap.size)) := by rw [i1.cell]; rfl
    have IO : Hid (OwnsF W w.heap.size S) := i2
    have IG : Hid (w.grownBy W none) := i3
    have KD : Hid (W.heap[D]? = some (.deferred (some []))) := hK
    have hgW : w.heap.size < W.heap.size := i2.lt
    have hbW : b < W.heap.size := by omega
    have hqb : q ≠ b := by omega
    have hDW : D < W.heap.size := (Array.getElem?_eq_some_iff.1 hK).1
    have d0 := BW.out.d0
    have d1 := BW.out.d1
    have f0 := BW.out.frozen 0
    have f1 := BW.out.frozen 1
    clear i1 i2 i3 hK hfit B4 D4 K4 T4 O4 G4 HL4 HB4 CC x1 O1 G1
    go_wp2_with fail
    refine wp_region_noPanic ?_
    go_region_with (go_at_call 63; refine (CW.out _ rfl).mono ?_; clear CW; rintro e w6 ⟨rfl, ho6, hg6⟩; have O6 : Hid (OwnsF w6 W.heap.size S) := ho6; have G6 : Hid (W.grownBy w6 none) := hg6; have B6 : Hid (Blk w6 b 96 (rowD vn vs vl u c false)) := BW.out.kept hg6 (by simp); have e0 := B6.out.d0; have e1 := B6.out.d1; have g0 := B6.out.frozen 0; have g1 := B6.out.frozen 1; have y0 : w6.cell? ⟨q, 0, none⟩ = some (.map (some w.heap.size)) := (World.cell?_of_block (hg6.block q (by omega) (by simp))).trans z0; clear ho6 hg6)
    all_goals (
      refine NoPanic.normal ?_
      have e2 := B6.out.d2
      have e3 := B6.out.d3
      have e8 := B6.out.d8
      have g2 := B6.out.frozen 2
      have g3 := B6.out.frozen 3
      have g8 := B6.out.frozen 8
      go_wp2_with fail
      have BF := ((((B6.out.set 1 (.map (some w.heap.size))).set 0 (.map (some W.heap.size))).set 2 (.slice none 0 0)).set 3 (.int .i64 0)).set 8 (.bool true)
      have GF : w6.grownBy _ (some b) := grown_set (grown_set (grown_set (grown_set (grown_set (grown_refl w6 _) 1 (.map (some w.heap.size))) 0 (.map (some W.heap.size))) 2 (.slice none 0 0)) 3 (.int .i64 0)) 8 (.bool true)
      have gD : some D ≠ some b := fun e => by have := Option.some.inj e; omega
      have hK6 : w6.heap[D]? = some (.deferred (some [])) := (G6.out.block D hDW (by simp)).trans KD.out
      have hKF := (GF.block D (Nat.lt_of_lt_of_le hDW G6.out.size) gD).trans hK6
      refine ⟨by simp, .inl ⟨_, _, rfl, run_takeDeferred hKF, ?_⟩⟩
      refine ⟨_, results_none rfl _ _ _, rfl, ?_⟩
      rw [ES.out]
      have gb1 : some W.heap.size ≠ some b := fun e => by have := Option.some.inj e; omega
      have gb2 : some w.heap.size ≠ some b := fun e => by have := Option.some.inj e; omega
      have gd1 : some W.heap.size ≠ some D := fun e => by have := Option.some.inj e; omega
      have gd2 : some w.heap.size ≠ some D := fun e => by have := Option.some.inj e; omega
      have OF := (O6.out.kept GF gb1).kept (grownBy_putObj' _ D (.deferred none)) gd1
      have OG := ((IO.out.kept G6.out (by simp)).kept GF gb2).kept (grownBy_putObj' _ D (.deferred none)) gd2
      refine ⟨⟨hb0, .map (some W.heap.size), .map (some w.heap.size), .slice none 0 0, BF.kept (grownBy_putObj' _ D (.deferred none)) gD.symm, Or.inr ⟨W.heap.size, rfl, by omega, OF⟩, Or.inr ⟨w.heap.size, rfl, by omega, OG⟩, ?_, ⟨rfl, Or.inl ⟨rfl, rfl⟩⟩⟩, ?_⟩
      · intro g e1 e2
        cases e1
        injection e2 with e3
        have := Option.some.inj e3
        omega
      · exact World.grownBy.andThen (World.grownBy.andThen (World.grownBy.but (grown_none IG.out G6.out) (some b)) GF (fun j e => Or.inr (by rw [← e]))) (grownBy_putObj' _ D (.deferred none)) (fun j e => Or.inl (by cases e; omega)))
  case stop =>
    rintro D cc pre W _ _ h _
    exact h.elim
end Go.Proofs.YtbhmmcelndmijaaGreat
