/-
  What a call of a log's or a disk's may turn, where the disk has a plan in block g. The changes of a disk with any room, with no plan or one fall, as functions of its state; Sync, Crash, Up, Read, Plan.
-/
import Derived.Test.YtddnjlnnkeiplaaKXLput
import Derived.Test.YtddnjlnnkeiplaaKXLcom
namespace Go.Proofs.Ytddnjlnnkeiplaa.X
open Go.RowKit Go.Maps
variable {xt : Xt}
/-- Nothing below base, and no cells of other types than a disk's and a log's, but the plan's own. -/
structure LowP (base g : Nat) (w w' : World) : Prop where
  os : w'.os = w.os
  tape : w'.tape = w.tape
  output : w'.output = w.output
  size : w.heap.size ≤ w'.heap.size
  keep : ∀ i, i < w.heap.size → (i < base ∨ ∃ cs t fz, w.heap[i]? = some (.cells cs t fz) ∧ FarT t ∧ (t = 35 → i ≠ g)) → w'.heap[i]? = w.heap[i]?
theorem LowP.of_low {base g : Nat} {w w' : World} (h : Low base w w') : LowP base g w w' := ⟨h.os, h.tape, h.output, h.size, fun i hi hs => h.keep i hi (hs.imp id (fun ⟨cs, t, fz, hc, hf, _⟩ => ⟨cs, t, fz, hc, hf⟩))⟩
theorem LowP.of_tendP {base b g : Nat} {w w' : World} (h : TendP base b g w w') (hb : ∃ cs, Blk w b 73 cs) : LowP base g w w' := ⟨h.os, h.tape, h.output, h.size, fun i hi hs => h.keep i hi (by
  rcases hs with hs | ⟨cs, t, fz, hc, ⟨f1, f2, f3, f4, f5⟩, h35⟩
  · exact Or.inl hs
  · obtain ⟨cs', hb⟩ := hb
    exact Or.inr ⟨far_ne hc hb f1, cs, t, fz, hc, f5, h35⟩)⟩
theorem LowP.trans {base g : Nat} {w w' w'' : World} (h : LowP base g w w') (k : LowP base g w' w'') : LowP base g w w'' :=
  ⟨k.os.trans h.os, k.tape.trans h.tape, k.output.trans h.output, Nat.le_trans h.size k.size, fun i hi hb => by
    have e := h.keep i hi hb
    refine (k.keep i (Nat.lt_of_lt_of_le hi h.size) ?_).trans e
    rw [e]
    exact hb⟩
theorem LowP.grown {g : Nat} {w w' w'' : World} (h0 : w.grownBy w' none) (h : LowP w.heap.size g w' w'') : w.grownBy w'' none :=
  ⟨h.os.trans h0.os, h.tape.trans h0.tape, h.output.trans h0.output, Nat.le_trans h0.size h.size, fun i hi _ => (h.keep i (Nat.lt_of_lt_of_le hi h0.size) (Or.inl hi)).trans (h0.block i hi (by simp))⟩
theorem lowP_blk {base g i : Nat} {w w' : World} {t : TypeId} {cs : Array Value} (h : LowP base g w w') (hb : Blk w i t cs) (hi : FarT t) (h35 : t = 35 → i ≠ g) : Blk w' i t cs := (h.keep i hb.lt (Or.inr ⟨cs, t, (0, 0), hb, hi, h35⟩)).trans hb
theorem Recs.lowP {w w' : World} {B base g : Nat} {v : Value} {l : List (Nat × ByteArray)} (h : Recs w base v l) (hT : LowP B g w w') : Recs w' base v l := row_same h (fun q cur hq => hT.keep q (heap_lt hq) (Or.inr ⟨cur, 49, (0, 0), hq, ⟨by decide, by decide, by decide, by decide, by decide⟩, fun e => by cases e⟩))
/-- A disk's call leaves a log as it was. -/
theorem log_keptP {w w' : World} {base b d bd g : Nat} {l : Lg} {cs : Array Value} (h : IsLog w base b l) (hd : Blk w d 73 cs) (hT : TendP bd d g w w') : IsLog w' base b l := by
  obtain ⟨h0, vr, vw, hb, hr, hw⟩ := h
  have keep : ∀ (i : Nat) (t : TypeId) (cur : Array Value) (fz : Nat × Nat), w.heap[i]? = some (Obj.cells cur t fz) → t ≠ 73 → t ≠ 101 → t ≠ 35 → w'.heap[i]? = w.heap[i]? := fun i t cur fz hi h1 h2 h3 => hT.keep i (heap_lt hi) (Or.inr ⟨far_ne' hi hd h1, cur, t, fz, hi, h2, fun e => absurd e h3⟩)
  exact ⟨h0, vr, vw, (keep b 77 _ _ hb (by decide) (by decide) (by decide)).trans hb, row_same hr (fun q cur hq => keep q 84 cur _ hq (by decide) (by decide) (by decide)), row_same hw (fun q cur hq => keep q 5 cur _ hq (by decide) (by decide) (by decide))⟩
/-- A log's call leaves the plan. -/
theorem PV.log {w w' : World} {base b g bd : Nat} {pl : Option Fa} {cs : Array Value} (h : PV xt w base g pl) (hB : Blk w b 77 cs) (hT : LT bd b w w') : PV xt w' base g pl := by
  cases pl with
  | none => exact h
  | some f =>
    refine ⟨h.1, h.2.1, row_same h.2.2.1 (fun q cur hq => hT.keep q (heap_lt hq) (Or.inr ⟨far_ne' hq hB (by decide), fun cs2 t2 fz2 h2 => ?_⟩)), h.2.2.2⟩
    rw [hq] at h2
    injection h2 with e
    injection e with e1 e2 e3
    subst e2
    exact ⟨by decide, by decide⟩
/-- A disk with no plan or one fall, in memory. -/
def IsP (w : World) (base b g : Nat) (bd : Bool) (rm : Int) (k : Dk) (pl : Option Fa) : Prop := ∃ xt : Xt, (xt.bd = bd ∧ xt.rm = rm) ∧ IsDisk xt w base b k ∧ PV xt w base g pl
theorem IsP.kept {w w' : World} {base b g : Nat} {bd : Bool} {rm : Int} {k : Dk} {pl : Option Fa} (h : IsP w base b g bd rm k pl) (hg : w.grownBy w' none) : IsP w' base b g bd rm k pl := by
  obtain ⟨xt, hx, hd, hp⟩ := h
  exact ⟨xt, hx, hd.kept hg, hp.kept hg⟩
theorem IsP.blk {w : World} {base b g : Nat} {bd : Bool} {rm : Int} {k : Dk} {pl : Option Fa} (h : IsP w base b g bd rm k pl) : ∃ cs, Blk w b 73 cs := by
  obtain ⟨xt, hx, hd, hp⟩ := h
  exact hd.blk
theorem IsP.log {w w' : World} {base b g bl bb : Nat} {bd : Bool} {rm : Int} {k : Dk} {pl : Option Fa} {cs : Array Value} (h : IsP w base b g bd rm k pl) (hB : Blk w bl 77 cs) (hT : LT bb bl w w') : IsP w' base b g bd rm k pl := by
  obtain ⟨xt, hx, hd, hp⟩ := h
  exact ⟨xt, hx, hd.keptL hB hT, hp.log hB hT⟩
end Go.Proofs.Ytddnjlnnkeiplaa.X
namespace Go.Proofs.Ytddnjlnnkeiplaa.X
open Go.RowKit Go.Maps
theorem refX_free {xt : Xt} (h : xt.bd = false) (now : FS) (c : Chg) : refX xt now c = refF now c := by
  unfold refX refF growF
  rw [h]
  simp only [Bool.false_eq_true, false_and, and_false, if_false]
  rfl
theorem ansX_free {xt : Xt} (h : xt.bd = false) (k : Dk) (c : Chg) : ansX xt k c = ansF k c := by
  unfold ansX ansF
  rw [refX_free h]
/-- What a change answers. -/
def ansQ (pl : Option Fa) (k : Dk) (c : Chg) : Nat := if ansF k c = 0 then (if strikesB pl k then 7 else 0) else ansF k c
/-- The disk behind it. -/
def nextQ (pl : Option Fa) (k : Dk) (c : Chg) (L : Nat → OkChg) : Dk := if ansF k c = 0 then (match pl with
  | some f => if f.at_ = (k.changes : Int) then failD k f.keep f.torn L else stepD k c
  | none => stepD k c) else k
/-- The plan behind it. -/
def planQ (pl : Option Fa) (k : Dk) (c : Chg) : Option Fa := if ansF k c = 0 ∧ strikesB pl k = true then none else pl
def OpQ (base b g : Nat) (rm : Int) (pl : Option Fa) (k : Dk) (c : Chg) (L : Nat → OkChg) (w : World) (e : Ending) (w' : World) : Prop :=
  e = .returned (.int .i64 (ansQ pl k c : Nat)) ∧ IsP w' base b g false rm (nextQ pl k c L) (planQ pl k c) ∧ TendP base b g w w'
theorem perq {xt : Xt} {base b g : Nat} {rm : Int} {pl : Option Fa} {k : Dk} {c : Chg} {L : Nat → OkChg} {w w' : World} {e : Ending} (hx : xt.bd = false ∧ xt.rm = rm) (h : PerP xt base b g pl k c L w e w') : OpQ base b g rm pl k c L w e w' := by
  obtain ⟨he, xt', hx', hd, hp, hT⟩ := h
  have e1 : ansP xt pl k c = ansQ pl k c := by unfold ansP ansQ; rw [ansX_free hx.1]
  have e2 : nextP xt pl k c L = nextQ pl k c L := by unfold nextP nextQ; rw [ansX_free hx.1]; rfl
  have e3 : planP xt pl k c = planQ pl k c := by unfold planP planQ; rw [ansX_free hx.1]
  rw [e1] at he
  rw [e2] at hd
  rw [e3] at hp
  exact ⟨he, ⟨xt', ⟨hx'.1.trans hx.1, hx'.2.trans hx.2⟩, hd, hp⟩, hT⟩
theorem append_q (base b g : Nat) (rm : Int) (k : Dk) (pl : Option Fa) (a s : ByteArray) (L : Nat → OkChg) (w : World) (h : IsP w base b g false rm k pl) (hA : Able k L) (hc : Fine ⟨0, a, s, ⟨#[]⟩, 0⟩) :
    Calls Try.prog 62 #[.pointer (some ⟨b, 0, none⟩), .string a, .string s] w (OpQ base b g rm pl k ⟨0, a, s, ⟨#[]⟩, 0⟩ L w) := by
  obtain ⟨xt, hx, hd, hp⟩ := h
  exact (append_p base b g k pl a s L w hd hp hA hc).mono (fun _ _ hq => perq hx hq)
theorem write_q (base b g : Nat) (rm : Int) (k : Dk) (pl : Option Fa) (a s : ByteArray) (L : Nat → OkChg) (w : World) (h : IsP w base b g false rm k pl) (hA : Able k L) (hc : Fine ⟨1, a, s, ⟨#[]⟩, 0⟩) :
    Calls Try.prog 30 #[.pointer (some ⟨b, 0, none⟩), .string a, .string s] w (OpQ base b g rm pl k ⟨1, a, s, ⟨#[]⟩, 0⟩ L w) := by
  obtain ⟨xt, hx, hd, hp⟩ := h
  exact (write_p base b g k pl a s L w hd hp hA hc).mono (fun _ _ hq => perq hx hq)
theorem move_q (base b g : Nat) (rm : Int) (k : Dk) (pl : Option Fa) (a t : ByteArray) (L : Nat → OkChg) (w : World) (h : IsP w base b g false rm k pl) (hA : Able k L) (hc : Fine ⟨2, a, ⟨#[]⟩, t, 0⟩) :
    Calls Try.prog 65 #[.pointer (some ⟨b, 0, none⟩), .string a, .string t] w (OpQ base b g rm pl k ⟨2, a, ⟨#[]⟩, t, 0⟩ L w) := by
  obtain ⟨xt, hx, hd, hp⟩ := h
  exact (move_p base b g k pl a t L w hd hp hA hc).mono (fun _ _ hq => perq hx hq)
theorem remove_q (base b g : Nat) (rm : Int) (k : Dk) (pl : Option Fa) (a : ByteArray) (L : Nat → OkChg) (w : World) (h : IsP w base b g false rm k pl) (hA : Able k L) (hc : Fine ⟨3, a, ⟨#[]⟩, ⟨#[]⟩, 0⟩) :
    Calls Try.prog 39 #[.pointer (some ⟨b, 0, none⟩), .string a] w (OpQ base b g rm pl k ⟨3, a, ⟨#[]⟩, ⟨#[]⟩, 0⟩ L w) := by
  obtain ⟨xt, hx, hd, hp⟩ := h
  exact (remove_p base b g k pl a L w hd hp hA hc).mono (fun _ _ hq => perq hx hq)
theorem truncate_q (base b g : Nat) (rm : Int) (k : Dk) (pl : Option Fa) (a : ByteArray) (n : Int) (L : Nat → OkChg) (w : World) (h : IsP w base b g false rm k pl) (hA : Able k L) (hc : Fine ⟨4, a, ⟨#[]⟩, ⟨#[]⟩, n⟩) :
    Calls Try.prog 41 #[.pointer (some ⟨b, 0, none⟩), .string a, .int .i64 n] w (OpQ base b g rm pl k ⟨4, a, ⟨#[]⟩, ⟨#[]⟩, n⟩ L w) := by
  obtain ⟨xt, hx, hd, hp⟩ := h
  exact (truncate_p base b g k pl a n L w hd hp hA hc).mono (fun _ _ hq => perq hx hq)
theorem sync_q (base b g : Nat) (rm : Int) (k : Dk) (pl : Option Fa) (w : World) (h : IsP w base b g false rm k pl) (hd : k.dead = false) (hf : Fits k.now 1000000) :
    Calls Try.prog 31 #[.pointer (some ⟨b, 0, none⟩)] w fun e w' => e = .returned (.int .i64 0) ∧ IsP w' base b g false rm (syncD k) pl ∧ w.grownBy w' (some b) := by
  obtain ⟨xt, hx, hk, hp⟩ := h
  refine (sync_any base b k w hk hd hf).mono ?_
  rintro e w' ⟨he, h1, h2⟩
  obtain ⟨cs, hB⟩ := hk.blk
  exact ⟨he, ⟨xt, hx, h1, hp.self hB h2⟩, h2⟩
theorem syncdead_q (base b g : Nat) (rm : Int) (k : Dk) (pl : Option Fa) (w : World) (h : IsP w base b g false rm k pl) (hd : k.dead = true) :
    Calls Try.prog 31 #[.pointer (some ⟨b, 0, none⟩)] w fun e w' => e = .returned (.int .i64 7) ∧ w' = w := by
  obtain ⟨xt, hx, hk, hp⟩ := h
  exact sync_dead base b k w hk hd
theorem crash_q (base b g : Nat) (rm : Int) (k : Dk) (pl : Option Fa) (keep torn : Int) (L : Nat → OkChg) (w : World) (h : IsP w base b g false rm k pl) (hd : k.dead = false) (hA : Able k L) (ht : torn ≤ 9223372036854775807) :
    Calls Try.prog 16 #[.pointer (some ⟨b, 0, none⟩), .int .i64 keep, .int .i64 torn] w fun e w' => e = .returned (.tuple #[]) ∧ IsP w' base b g false rm (failD k keep torn L) pl ∧ w.grownBy w' (some b) := by
  obtain ⟨xt, hx, hk, hp⟩ := h
  refine (crash_any base b k keep torn L w hk hd hA.loose hA.small.loose ht hA.fit).mono ?_
  rintro e w' ⟨he, h1, h2⟩
  obtain ⟨cs, hB⟩ := hk.blk
  exact ⟨he, ⟨xt, hx, h1, hp.self hB h2⟩, h2⟩
theorem up_q (base b g : Nat) (rm : Int) (k : Dk) (pl : Option Fa) (w : World) (h : IsP w base b g false rm k pl) (hd : k.dead = true) :
    Calls Try.prog 17 #[.pointer (some ⟨b, 0, none⟩)] w fun e w' => e = .returned (.bool true) ∧ IsP w' base b g false rm { k with dead := false } pl ∧ w.grownBy w' (some b) := by
  obtain ⟨xt, hx, hk, hp⟩ := h
  refine (up_any base b k w hk hd).mono ?_
  rintro e w' ⟨he, h1, h2⟩
  obtain ⟨cs, hB⟩ := hk.blk
  exact ⟨he, ⟨xt, hx, h1, hp.self hB h2⟩, h2⟩
theorem read_q (base b g : Nat) (rm : Int) (k : Dk) (pl : Option Fa) (n : ByteArray) (w : World) (h : IsP w base b g false rm k pl) (hd : k.dead = false) (hn : nameB n = true) (hnm : n.size ≤ maxLen) :
    Calls Try.prog 32 #[.pointer (some ⟨b, 0, none⟩), .string n] w fun e w' => e = .returned (.tuple #[.string (readS k.now n), .int .i64 (readE k.now n)]) ∧ w.grownBy w' none := by
  obtain ⟨xt, hx, hk, hp⟩ := h
  exact read_any base b k n w hk hd hn hnm
theorem changes_q (base b g : Nat) (rm : Int) (k : Dk) (pl : Option Fa) (w : World) (h : IsP w base b g false rm k pl) : Calls Try.prog 25 #[.pointer (some ⟨b, 0, none⟩)] w fun e w' => e = .returned (.int .i64 k.changes) ∧ w' = w := by
  obtain ⟨xt, hx, hk, hp⟩ := h
  exact changes_any base b k w hk
end Go.Proofs.Ytddnjlnnkeiplaa.X
