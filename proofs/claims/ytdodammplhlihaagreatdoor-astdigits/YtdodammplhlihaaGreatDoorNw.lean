/-
  node: a node with all below it is taken.
-/
import Derived.Test.YtdodammplhlihaaGreatDoorNf
import Derived.Deep.DeepCutAuto
namespace Go.Proofs.YtdodammplhlihaaGreatDoor.Tr
open Go.RowKit
/-- All but two blocks is as it was. -/
structure Gr2 (w w' : World) (R T : Nat) : Prop where
  os : w'.os = w.os
  tape : w'.tape = w.tape
  output : w'.output = w.output
  size : w.heap.size ≤ w'.heap.size
  block : ∀ k, k < w.heap.size → k ≠ R → k ≠ T → w'.heap[k]? = w.heap[k]?
theorem Gr2.refl (w : World) (R T : Nat) : Gr2 w w R T := ⟨rfl, rfl, rfl, Nat.le_refl _, fun _ _ _ _ => rfl⟩
theorem Gr2.grown {a b c : World} {R T : Nat} {row : Option Nat} (h : Gr2 a b R T) (g : b.grownBy c row) (hr : ∀ k, row = some k → k = R ∨ k = T ∨ a.heap.size ≤ k) : Gr2 a c R T :=
  ⟨g.os.trans h.os, g.tape.trans h.tape, g.output.trans h.output, Nat.le_trans h.size g.size, fun k hk h1 h2 => (g.block k (Nat.lt_of_lt_of_le hk h.size) (fun e => by have := hr k e.symm; omega)).trans (h.block k hk h1 h2)⟩
theorem Gr2.trans {a b c : World} {R T : Nat} (h : Gr2 a b R T) (g : Gr2 b c R T) : Gr2 a c R T :=
  ⟨g.os.trans h.os, g.tape.trans h.tape, g.output.trans h.output, Nat.le_trans h.size g.size, fun k hk h1 h2 => (g.block k (Nat.lt_of_lt_of_le hk h.size) h1 h2).trans (h.block k hk h1 h2)⟩
theorem _root_.Go.Proofs.YtdodammplhlihaaGreatDoor.Blk.gr2 {w w' : World} {b R T : Nat} {t : TypeId} {cs : Array Value} (h : Blk w b t cs) (hg : Gr2 w w' R T) (h1 : b ≠ R) (h2 : b ≠ T) : Blk w' b t cs := (hg.block b h.lt h1 h2).trans h
def NodeQ (w : World) (R T : Nat) (x : Nd) (r : Rs) (lf : Nat) (e : Ending) (w' : World) : Prop := ∃ q, e = .returned (.agg #[.int .i64 x.kind, .int .i64 x.ty, .string x.txt, .int .i64 x.num, q]) ∧ KsV w' (fun b => w.heap.size ≤ b) q x.kids
  ∧ Blk w' T 93 #[.pointer (some ⟨R, 0, none⟩), .int .i64 lf] ∧ Blk w' R 91 (rd r.s r.a r.e) ∧ Gr2 w w' R T
def NodeP (w : World) (R T : Nat) (o : Nd × Rs × Nat) (e : Ending) (w' : World) : Prop := NodeQ w R T o.1 o.2.1 o.2.2 e w'
set_option maxRecDepth 100000 in
set_option maxHeartbeats 1000000 in
/-- None may come any more, or it stands too deep. -/
theorem node_no (R T lf lev : Nat) (r : Rs) (w : World) (hT : Blk w T 93 #[.pointer (some ⟨R, 0, none⟩), .int .i64 lf]) (hR : Blk w R 91 (rd r.s r.a r.e)) (hl : lf ≤ 2000) (h : lf = 0 ∨ (83 < lev ∧ lev ≤ 100)) :
    Calls Tryz.prog 55 #[.pointer (some ⟨T, 0, none⟩), .int .i64 lev] w (NodeP w R T (Nd.zero, failR 3 r, lf)) := by
  have HT := hid hT
  have HR := hid hR
  have CF : Hid (∀ V, Blk V R 91 (rd r.s r.a r.e) → Calls Tryz.prog 58 #[.pointer (some ⟨R, 0, none⟩), .int .i64 3] V fun e w' => e = .returned (.tuple #[]) ∧ Blk w' R 91 (rd (failS r.s r.e 3) r.a (failE r.e 3)) ∧ V.grownBy w' (some R)) := fun V hV => fail_any R r.s r.a r.e 3 V hV
  have c0 : w.cell? ⟨T, 0, none⟩ = some (.pointer (some ⟨R, 0, none⟩)) := by rw [hT.cell]; rfl
  have c1 : w.cell? ⟨T, 1, none⟩ = some (.int .i64 lf) := by rw [hT.cell]; rfl
  have lt := hT.lt
  have lr := hR.lt
  have tr : R ≠ T := fun e => by
    subst e
    have h1 : w.heap[R]? = some (.cells #[.pointer (some ⟨R, 0, none⟩), .int .i64 lf] 93 (0, 0)) := hT
    have h2 : w.heap[R]? = some (.cells (rd r.s r.a r.e) 91 (0, 0)) := hR
    rw [h1] at h2
    injection h2 with h2
    injection h2 with _ h2
    exact absurd h2 (by decide)
  have BZ := hid (Blk.new w 33 #[.int .i64 0, .int .i64 0, .string ⟨#[]⟩, .int .i64 0, .slice none 0 0])
  clear hT hR
  have fin : Hid (∀ w2, Blk w2 R 91 (rd (failS r.s r.e 3) r.a (failE r.e 3)) → (w.alloc (.cells #[.int .i64 0, .int .i64 0, .string ⟨#[]⟩, .int .i64 0, .slice none 0 0] 33)).grownBy w2 (some R) → NodeP w R T (Nd.zero, failR 3 r, lf) (.returned (.agg #[.int .i64 0, .int .i64 0, .string ⟨#[]⟩, .int .i64 0, .slice none 0 0])) (set5 w2 w.heap.size 0 (.int .i64 0) (.int .i64 0) (.string ⟨#[]⟩) (.int .i64 0) (.slice none 0 0))) := fun w2 h1 h2 => by
    have gs := grown_set5 (grown_refl w2 (some w.heap.size)) 0 (.int .i64 0) (.int .i64 0) (.string ⟨#[]⟩) (.int .i64 0) (.slice none 0 0)
    exact ⟨_, rfl, KsV.nil _ _, ((HT.out.alloc _).kept h2 (fun e => tr (Option.some.inj e).symm)).kept gs (fun e => by have := Option.some.inj e; omega), h1.kept gs (fun e => by have := Option.some.inj e; omega), (((Gr2.refl w R T).grown (grown_alloc (grown_refl w none) _) (fun k e => by cases e)).grown h2 (fun k e => Or.inl (Option.some.inj e).symm)).grown gs (fun k e => Or.inr (Or.inr (by have := Option.some.inj e; omega)))⟩
  by_cases h0 : lf = 0
  · subst h0
    go_enter Tryz.func55, Tryz.ntmps55
    go_wp2_with (go_at_call 58; refine (CF.out _ (HR.out.alloc _)).mono ?_; clear CF; rintro e w2 ⟨rfl, hr2, hg2⟩; have b0 := BZ.out.kept hg2 (fun e => by have := Option.some.inj e; omega); have F2 := hid (fin.out w2 hr2 hg2); have z0 : w2.cell? ⟨w.heap.size, 0, none⟩ = some (.int .i64 0) := b0.cell 0; have z1 : w2.cell? ⟨w.heap.size, 1, none⟩ = some (.int .i64 0) := b0.cell 1; have z2 : w2.cell? ⟨w.heap.size, 2, none⟩ = some (.string ⟨#[]⟩) := b0.cell 2; have z3 : w2.cell? ⟨w.heap.size, 3, none⟩ = some (.int .i64 0) := b0.cell 3; have z4 : w2.cell? ⟨w.heap.size, 4, none⟩ = some (.slice none 0 0) := b0.cell 4; have f0 := b0.frozen 0; have f1 := b0.frozen 1; have f2 := b0.frozen 2; have f3 := b0.frozen 3; have f4 := b0.frozen 4; clear b0 hr2 hg2 fin)
    exact bodyPost_ret (v := .agg #[.int .i64 0, .int .i64 0, .string ⟨#[]⟩, .int .i64 0, .slice none 0 0]) (by simp [results, Tryz.results55, go_sem, z0, z1, z2, z3, z4]) rfl F2.out
  · have h0' : ((lf : Int) == 0) = false := by simp; omega
    have h1 : (83 : Int) < lev := by omega
    go_enter Tryz.func55, Tryz.ntmps55
    go_wp2_with (go_at_call 58; refine (CF.out _ (HR.out.alloc _)).mono ?_; clear CF; rintro e w2 ⟨rfl, hr2, hg2⟩; have b0 := BZ.out.kept hg2 (fun e => by have := Option.some.inj e; omega); have F2 := hid (fin.out w2 hr2 hg2); have z0 : w2.cell? ⟨w.heap.size, 0, none⟩ = some (.int .i64 0) := b0.cell 0; have z1 : w2.cell? ⟨w.heap.size, 1, none⟩ = some (.int .i64 0) := b0.cell 1; have z2 : w2.cell? ⟨w.heap.size, 2, none⟩ = some (.string ⟨#[]⟩) := b0.cell 2; have z3 : w2.cell? ⟨w.heap.size, 3, none⟩ = some (.int .i64 0) := b0.cell 3; have z4 : w2.cell? ⟨w.heap.size, 4, none⟩ = some (.slice none 0 0) := b0.cell 4; have f0 := b0.frozen 0; have f1 := b0.frozen 1; have f2 := b0.frozen 2; have f3 := b0.frozen 3; have f4 := b0.frozen 4; clear b0 hr2 hg2 fin)
    exact bodyPost_ret (v := .agg #[.int .i64 0, .int .i64 0, .string ⟨#[]⟩, .int .i64 0, .slice none 0 0]) (by simp [results, Tryz.results55, go_sem, z0, z1, z2, z3, z4]) rfl F2.out
theorem rnum_rs (n : Nat) (hn : n ≤ 8) (R : Nat) (r : Rs) (V : World) (hV : Blk V R 91 (rd r.s r.a r.e)) (hr : (r.room : Int) ≤ 9223372036854775807) : Calls Tryz.prog 82 #[.pointer (some ⟨R, 0, none⟩), .int .i64 n] V fun e w' => e = .returned (.int .u64 (numV n r)) ∧ Blk w' R 91 (rd (numR n r).s (numR n r).a (numR n r).e) ∧ V.grownBy w' (some R) :=
  rnumber_any R r.s r.a r.e n V hV (by unfold Rs.room at hr; omega) hn
theorem text_rs (R : Nat) (r : Rs) (V : World) (hV : Blk V R 91 (rd r.s r.a r.e)) (hr : (r.room : Int) ≤ 9223372036854775807) : Calls Tryz.prog 83 #[.pointer (some ⟨R, 0, none⟩), .int .i64 64] V fun e w' => e = .returned (.string (tvV r)) ∧ Blk w' R 91 (rd (tvR r).s (tvR r).a (tvR r).e) ∧ V.grownBy w' (some R) :=
  text_any R r.s r.a r.e 64 V hV (by unfold Rs.room at hr; omega) (by omega)
/-- While a node is taken. -/
structure NS (w : World) (R T lf : Nat) (r : Rs) (cs : Array Value) (W : World) : Prop where
  t : Blk W T 93 #[.pointer (some ⟨R, 0, none⟩), .int .i64 lf]
  rd : Blk W R 91 (rd r.s r.a r.e)
  z : Blk W w.heap.size 33 #[.int .i64 0, .int .i64 0, .string ⟨#[]⟩, .int .i64 0, .slice none 0 0]
  v : Blk W (w.heap.size + 1) 33 cs
  g : Gr2 w W R T
theorem NS.call {w W W' : World} {R T lf : Nat} {r r' : Rs} {cs : Array Value} (h : NS w R T lf r cs W) (tr : R ≠ T) (lr : R < w.heap.size) (hg : W.grownBy W' (some R)) (hr : Blk W' R 91 (Go.Proofs.YtdodammplhlihaaGreatDoor.Tr.rd r'.s r'.a r'.e)) : NS w R T lf r' cs W' :=
  ⟨h.t.kept hg (fun e => tr (Option.some.inj e).symm), hr, h.z.kept hg (fun e => by have := Option.some.inj e; omega), h.v.kept hg (fun e => by have := Option.some.inj e; omega), h.g.grown hg (fun k e => Or.inl (Option.some.inj e).symm)⟩
theorem NS.put {w W : World} {R T lf : Nat} {r : Rs} {cs : Array Value} (h : NS w R T lf r cs W) (lt : T < w.heap.size) (lr : R < w.heap.size) (i : Nat) (u : Value) : NS w R T lf r (cs.setIfInBounds i u) (W.setCell ⟨w.heap.size + 1, i, none⟩ u) := by
  have gs := grown_set (grown_refl W (some (w.heap.size + 1))) i u
  exact ⟨h.t.kept gs (fun e => by have := Option.some.inj e; omega), h.rd.kept gs (fun e => by have := Option.some.inj e; omega), h.z.kept gs (fun e => by have := Option.some.inj e; omega), h.v.set i u, h.g.grown gs (fun k e => Or.inr (Or.inr (by have := Option.some.inj e; omega)))⟩
theorem NS.quiet {w W W' : World} {R T lf : Nat} {r : Rs} {cs : Array Value} (h : NS w R T lf r cs W) (hg : W.grownBy W' Option.none) : NS w R T lf r cs W' :=
  ⟨h.t.kept hg (by simp), h.rd.kept hg (by simp), h.z.kept hg (by simp), h.v.kept hg (by simp), h.g.grown hg (fun k e => by cases e)⟩
theorem apart {w : World} {R T : Nat} {a b : Array Value} (hT : Blk w T 93 a) (hR : Blk w R 91 b) : R ≠ T := fun e => by
  subst e
  have h1 : w.heap[R]? = some (.cells a 93 (0, 0)) := hT
  have h2 : w.heap[R]? = some (.cells b 91 (0, 0)) := hR
  rw [h1] at h2
  injection h2 with h2
  injection h2 with _ h2
  exact absurd h2 (by decide)
theorem owns_same {w w' : World} {base : Nat} {e : TypeId} {sz : Nat} {v : Value} {n : Nat} {xs : List Value} (h : w.ownsRow base e sz v n xs) (hk : ∀ k, base ≤ k → k < w.heap.size → w'.heap[k]? = w.heap[k]?) : w'.ownsRow base e sz v n xs := by
  refine ⟨h.1, ?_⟩
  rcases h.2 with h2 | ⟨g, cap, cur, e1, hb, hg, h3⟩
  · exact Or.inl h2
  · have hlt : g < w.heap.size := (Array.getElem?_eq_some_iff.1 hg).1
    exact Or.inr ⟨g, cap, cur, e1, hb, (hk g hb hlt).trans hg, h3⟩
theorem Kb.same {w w' : World} {base : Nat} {e : TypeId} {v : Value} {ks : List Nd} (h : Kb w base e v ks) (hk : ∀ k, base ≤ k → k < w.heap.size → w'.heap[k]? = w.heap[k]?) : Kb w' base e v ks := by
  obtain ⟨cs, h1, h2, h3⟩ := h
  exact ⟨cs, owns_same h1 hk, h2.keptP (fun b hb hlt => hk b hb.1 hlt) (fun _ h _ => h), h3⟩
theorem NS.row {w W W' : World} {R T lf : Nat} {r : Rs} {cs : Array Value} {row : Option Nat} (h : NS w R T lf r cs W) (lt : T < w.heap.size) (lr : R < w.heap.size) (hg : W.grownBy W' row) (hr : ∀ x, row = some x → w.heap.size + 2 ≤ x) : NS w R T lf r cs W' :=
  ⟨h.t.kept hg (fun e => by have := hr _ e.symm; omega), h.rd.kept hg (fun e => by have := hr _ e.symm; omega), h.z.kept hg (fun e => by have := hr _ e.symm; omega), h.v.kept hg (fun e => by have := hr _ e.symm; omega), h.g.grown hg (fun k e => Or.inr (Or.inr (by have := hr _ e; omega)))⟩
theorem Gr2.undrew {a b : World} {R T : Nat} (h : Gr2 a.drew b R T) : Gr2 a b R T := ⟨h.os, h.tape, h.output, h.size, h.block⟩
theorem ns_start {w : World} {R T lf m : Nat} {r : Rs} (hT : Blk w T 93 #[.pointer (some ⟨R, 0, none⟩), .int .i64 lf]) (hR : Blk w R 91 (rd r.s r.a r.e)) (tr : R ≠ T) :
    NS w R T m r #[.int .i64 0, .int .i64 0, .string ⟨#[]⟩, .int .i64 0, .slice none 0 0] (((w.setCell ⟨T, 1, none⟩ (.int .i64 m)).alloc (.cells #[.int .i64 0, .int .i64 0, .string ⟨#[]⟩, .int .i64 0, .slice none 0 0] 33)).alloc (.cells #[.int .i64 0, .int .i64 0, .string ⟨#[]⟩, .int .i64 0, .slice none 0 0] 33)) := by
  have gs := grown_set (grown_refl w (some T)) 1 (.int .i64 m)
  have b0 := (Blk.new (w.setCell ⟨T, 1, none⟩ (.int .i64 m)) 33 #[.int .i64 0, .int .i64 0, .string ⟨#[]⟩, .int .i64 0, .slice none 0 0]).alloc (.cells #[.int .i64 0, .int .i64 0, .string ⟨#[]⟩, .int .i64 0, .slice none 0 0] 33)
  have b1 := Blk.new ((w.setCell ⟨T, 1, none⟩ (.int .i64 m)).alloc (.cells #[.int .i64 0, .int .i64 0, .string ⟨#[]⟩, .int .i64 0, .slice none 0 0] 33)) 33 #[.int .i64 0, .int .i64 0, .string ⟨#[]⟩, .int .i64 0, .slice none 0 0]
  have e : (w.setCell ⟨T, 1, none⟩ (.int .i64 m)).heap.size = w.heap.size := by simp [World.setCell]
  rw [World.size_alloc] at b1
  rw [e] at b0 b1
  exact ⟨((hT.set 1 (.int .i64 m)).alloc _).alloc _, ((hR.kept gs (fun e => tr (Option.some.inj e))).alloc _).alloc _, b0, b1, ((Gr2.refl w R T).grown gs (fun k e => Or.inr (Or.inl (Option.some.inj e).symm))).grown (grown_alloc (grown_alloc (grown_refl _ Option.none) _) _) (fun k e => by cases e)⟩
set_option maxRecDepth 100000 in
set_option maxHeartbeats 4000000 in
theorem node_step (R T lf lev d : Nat) (r : Rs) (w : World) (hT : Blk w T 93 #[.pointer (some ⟨R, 0, none⟩), .int .i64 lf]) (hR : Blk w R 91 (rd r.s r.a r.e)) (hl : lf ≤ 2000) (h0 : lf ≠ 0) (hlev : lev ≤ 83) (hroom : (r.room : Int) ≤ 9223372036854775807)
    (ih : ∀ (lf' : Nat) (r' : Rs) (W : World), lf' ≤ 2000 → (r'.room : Int) ≤ 9223372036854775807 → Blk W T 93 #[.pointer (some ⟨R, 0, none⟩), .int .i64 lf'] → Blk W R 91 (rd r'.s r'.a r'.e) → Calls Tryz.prog 55 #[.pointer (some ⟨T, 0, none⟩), .int .i64 (lev + 1)] W (NodeP W R T (nodeF d r' lf'))) :
    Calls Tryz.prog 55 #[.pointer (some ⟨T, 0, none⟩), .int .i64 lev] w (NodeP w R T (shut r (kidsF (nodeF d) (headC r) (headR r) (lf - 1) []))) := by
  have IH := hid ih
  have HT := hid hT
  have HR := hid hR
  have m1 : ((numR 1 r).room : Int) ≤ 9223372036854775807 := by have := numR_room 1 r; omega
  have m2 : ((numR 1 (numR 1 r)).room : Int) ≤ 9223372036854775807 := by have := numR_room 1 (numR 1 r); omega
  have m3 : ((tvR (numR 1 (numR 1 r))).room : Int) ≤ 9223372036854775807 := by have := tvR_room (numR 1 (numR 1 r)); omega
  have m4 : ((numR 8 (tvR (numR 1 (numR 1 r)))).room : Int) ≤ 9223372036854775807 := by have := numR_room 8 (tvR (numR 1 (numR 1 r))); omega
  have m5 : ((headR r).room : Int) ≤ 9223372036854775807 := by have := headR_room r; omega
  have C1 : Hid (∀ V, Blk V R 91 (rd r.s r.a r.e) → Calls Tryz.prog 82 #[.pointer (some ⟨R, 0, none⟩), .int .i64 1] V fun e w' => e = .returned (.int .u64 (numV 1 r)) ∧ Blk w' R 91 (rd (numR 1 r).s (numR 1 r).a (numR 1 r).e) ∧ V.grownBy w' (some R)) := fun V hV => rnum_rs 1 (by decide) R r V hV hroom
  have C2 : Hid (∀ V, Blk V R 91 (rd (numR 1 r).s (numR 1 r).a (numR 1 r).e) → Calls Tryz.prog 82 #[.pointer (some ⟨R, 0, none⟩), .int .i64 1] V fun e w' => e = .returned (.int .u64 (numV 1 (numR 1 r))) ∧ Blk w' R 91 (rd (numR 1 (numR 1 r)).s (numR 1 (numR 1 r)).a (numR 1 (numR 1 r)).e) ∧ V.grownBy w' (some R)) := fun V hV => rnum_rs 1 (by decide) R (numR 1 r) V hV m1
  have C3 : Hid (∀ V, Blk V R 91 (rd (numR 1 (numR 1 r)).s (numR 1 (numR 1 r)).a (numR 1 (numR 1 r)).e) → Calls Tryz.prog 83 #[.pointer (some ⟨R, 0, none⟩), .int .i64 64] V fun e w' => e = .returned (.string (tvV (numR 1 (numR 1 r)))) ∧ Blk w' R 91 (rd (tvR (numR 1 (numR 1 r))).s (tvR (numR 1 (numR 1 r))).a (tvR (numR 1 (numR 1 r))).e) ∧ V.grownBy w' (some R)) := fun V hV => text_rs R (numR 1 (numR 1 r)) V hV m2
  have C4 : Hid (∀ V, Blk V R 91 (rd (tvR (numR 1 (numR 1 r))).s (tvR (numR 1 (numR 1 r))).a (tvR (numR 1 (numR 1 r))).e) → Calls Tryz.prog 82 #[.pointer (some ⟨R, 0, none⟩), .int .i64 8] V fun e w' => e = .returned (.int .u64 (numV 8 (tvR (numR 1 (numR 1 r))))) ∧ Blk w' R 91 (rd (numR 8 (tvR (numR 1 (numR 1 r)))).s (numR 8 (tvR (numR 1 (numR 1 r)))).a (numR 8 (tvR (numR 1 (numR 1 r)))).e) ∧ V.grownBy w' (some R)) := fun V hV => rnum_rs 8 (by decide) R (tvR (numR 1 (numR 1 r))) V hV m3
  have C5 : Hid (∀ V, Blk V R 91 (rd (numR 8 (tvR (numR 1 (numR 1 r)))).s (numR 8 (tvR (numR 1 (numR 1 r)))).a (numR 8 (tvR (numR 1 (numR 1 r)))).e) → Calls Tryz.prog 82 #[.pointer (some ⟨R, 0, none⟩), .int .i64 1] V fun e w' => e = .returned (.int .u64 (headC r)) ∧ Blk w' R 91 (rd (headR r).s (headR r).a (headR r).e) ∧ V.grownBy w' (some R)) := fun V hV => rnum_rs 1 (by decide) R (numR 8 (tvR (numR 1 (numR 1 r)))) V hV m4
  have v1 : numV 1 r < 256 := numV_lt 1 r
  have v2 : numV 1 (numR 1 r) < 256 := numV_lt 1 _
  have v5 : headC r < 256 := numV_lt 1 _
  have E1 : IntKind.i64.wrap ((numV 1 r : Nat) : Int) = ((numV 1 r : Nat) : Int) := by rw [IntWalk.i64_left]; unfold wrap64; omega
  have E2 : IntKind.i64.wrap ((numV 1 (numR 1 r) : Nat) : Int) = ((numV 1 (numR 1 r) : Nat) : Int) := by rw [IntWalk.i64_left]; unfold wrap64; omega
  have E4 : IntKind.i64.wrap ((numV 8 (tvR (numR 1 (numR 1 r))) : Nat) : Int) = i64 (numV 8 (tvR (numR 1 (numR 1 r)))) := rfl
  have ND : Hid (∀ ks, ndOf r ks = .mk (numV 1 r) (numV 1 (numR 1 r)) (tvV (numR 1 (numR 1 r))) (i64 (numV 8 (tvR (numR 1 (numR 1 r))))) ks) := fun ks => rfl
  obtain ⟨r1, er1⟩ : ∃ r1, numR 1 r = r1 := ⟨_, rfl⟩
  rw [er1] at C1 C2 C3 C4 C5 E2 E4 ND v2
  obtain ⟨r2, er2⟩ : ∃ r2, numR 1 r1 = r2 := ⟨_, rfl⟩
  rw [er2] at C2 C3 C4 C5 E4 ND
  obtain ⟨r3, er3⟩ : ∃ r3, tvR r2 = r3 := ⟨_, rfl⟩
  rw [er3] at C3 C4 C5 E4 ND
  obtain ⟨r4, er4⟩ : ∃ r4, numR 8 r3 = r4 := ⟨_, rfl⟩
  rw [er4] at C4 C5
  clear m1 m2 m3 m4 er1 er2 er3 er4 hroom
  generalize headR r = r5 at *
  generalize headC r = c at *
  generalize numV 1 r = k at *
  generalize numV 1 r1 = t at *
  generalize tvV r2 = s at *
  generalize i64 (numV 8 r3) = n at *
  generalize numV 8 r3 = n8 at *
  have tr := apart hT hR
  have lt := hT.lt
  have lr := hR.lt
  have c0 : w.cell? ⟨T, 0, none⟩ = some (.pointer (some ⟨R, 0, none⟩)) := by rw [hT.cell]; rfl
  have c1 : w.cell? ⟨T, 1, none⟩ = some (.int .i64 lf) := by rw [hT.cell]; rfl
  have f1 := hT.frozen 1
  have i0 : ((lf : Int) == 0) = false := by simp; omega
  have i1 : (lev : Int) ≤ 83 := by omega
  have i2 : (1 : Int) ≤ lf := by omega
  have i3 : (lf : Int) ≤ 2000 := by omega
  have i4 : (c : Int) < 256 := by omega
  have i5 : (k : Int) < 256 := by omega
  have i6 : (t : Int) < 256 := by omega
  obtain ⟨m, hm⟩ : ∃ m, lf - 1 = m := ⟨_, rfl⟩
  have em : (lf : Int) - 1 = (m : Int) := by omega
  have hm0 : m ≤ 2000 := by omega
  have dl : decide ((83 : Int) < lev) = false := by simp; omega
  have S0 := hid (ns_start (m := m) hT hR tr)
  have n1 : T ≠ w.heap.size + 1 := by omega
  have n2 : w.heap.size + 1 ≠ T := by omega
  rw [hm]
  clear hT hR HT HR hm
  go_enter Tryz.func55, Tryz.ntmps55
  go_wp2_with (first 
    | (go_at_call 82; refine (C1.out _ S0.out.rd).mono ?_; clear C1; rintro e w1 ⟨rfl, hr9, hg9⟩; have S1 := hid (S0.out.call tr lr hg9 hr9); have t1 : w1.cell? ⟨T, 0, none⟩ = some (.pointer (some ⟨R, 0, none⟩)) := (by rw [S1.out.t.cell]; rfl); have y1 : w1.cell? ⟨w.heap.size + 1, 0, none⟩ = some (.int .i64 0) := (by rw [S1.out.v.cell]; rfl); have fy1 := S1.out.v.frozen 0; have P1 := hid (S1.out.put lt lr 0 (.int .i64 k)); clear hr9 hg9) 
    | (go_at_call 82; refine (C2.out _ P1.out.rd).mono ?_; clear C2; rintro e w2 ⟨rfl, hr9, hg9⟩; have S2 := hid (P1.out.call tr lr hg9 hr9); have t2 : w2.cell? ⟨T, 0, none⟩ = some (.pointer (some ⟨R, 0, none⟩)) := (by rw [S2.out.t.cell]; rfl); have y2 : w2.cell? ⟨w.heap.size + 1, 1, none⟩ = some (.int .i64 0) := (by rw [S2.out.v.cell]; rfl); have fy2 := S2.out.v.frozen 1; have P2 := hid (S2.out.put lt lr 1 (.int .i64 t)); clear hr9 hg9) 
    | (go_at_call 83; refine (C3.out _ P2.out.rd).mono ?_; clear C3; rintro e w3 ⟨rfl, hr9, hg9⟩; have S3 := hid (P2.out.call tr lr hg9 hr9); have t3 : w3.cell? ⟨T, 0, none⟩ = some (.pointer (some ⟨R, 0, none⟩)) := (by rw [S3.out.t.cell]; rfl); have y3 : w3.cell? ⟨w.heap.size + 1, 2, none⟩ = some (.string ⟨#[]⟩) := (by rw [S3.out.v.cell]; rfl); have fy3 := S3.out.v.frozen 2; have P3 := hid (S3.out.put lt lr 2 (.string s)); clear hr9 hg9) 
    | (go_at_call 82; refine (C4.out _ P3.out.rd).mono ?_; clear C4; rintro e w4 ⟨rfl, hr9, hg9⟩; have S4 := hid (P3.out.call tr lr hg9 hr9); have t4 : w4.cell? ⟨T, 0, none⟩ = some (.pointer (some ⟨R, 0, none⟩)) := (by rw [S4.out.t.cell]; rfl); have y4 : w4.cell? ⟨w.heap.size + 1, 3, none⟩ = some (.int .i64 0) := (by rw [S4.out.v.cell]; rfl); have fy4 := S4.out.v.frozen 3; have P4 := hid (S4.out.put lt lr 3 (.int .i64 n)); clear hr9 hg9) 
    | (go_at_call 82; refine (C5.out _ P4.out.rd).mono ?_; clear C5; rintro e w5 ⟨rfl, hr9, hg9⟩; have S5 := hid (P4.out.call tr lr hg9 hr9); have t5 : w5.cell? ⟨T, 0, none⟩ = some (.pointer (some ⟨R, 0, none⟩)) := (by rw [S5.out.t.cell]; rfl); clear hr9 hg9))
  have s5 := S5.out
  clear S0 S1 S2 S3 S4 P1 P2 P3 P4 t1 t2 t3 t4 y1 y2 y3 y4 fy1 fy2 fy3 fy4
  have V5 : Blk w5 (w.heap.size + 1) 33 #[.int .i64 k, .int .i64 t, .string s, .int .i64 n, .slice none 0 0] := s5.v
  have V5' := hid V5
  have S5' := hid s5
  have m5' := hid m5
  clear V5 s5 m5 c0 c1 f1
  go_loopw [60] (fun i wr => ∃ (j : Nat) (ks : List Nd) (r' : Rs) (lf' : Nat) (v : Value), j ≤ c ∧ i = .int .u64 j ∧ ks.length = j ∧ lf' ≤ 2000 ∧ (r'.room : Int) ≤ 9223372036854775807 ∧ NS w R T lf' r' #[.int .i64 k, .int .i64 t, .string s, .int .i64 n, v] wr ∧ Kb wr (w.heap.size + 2) 33 v ks ∧ Hid (kidsF (nodeF d) c r5 m [] = kidsF (nodeF d) (c - j) r' lf' ks)) (fun i _ => c - (intOf i).toNat)
  case atStart => exact ⟨0, [], r5, m, .slice none 0 0, Nat.zero_le _, rfl, rfl, hm0, m5'.out, ⟨S5'.out.t, S5'.out.rd, S5'.out.z, V5'.out, S5'.out.g⟩, Kb.nil _ _ _, rfl⟩
  case round =>
    obtain ⟨j, ks, r', lf', v, hj, rfl, hlen, hlf, hrm, hns, hkb, hF⟩ := hrel
    have NSW := hid hns
    have KB := hid hkb
    have RM := hid hrm
    obtain ⟨pv, cv, ev, _⟩ := hkb.form
    rw [hlen] at ev
    subst ev
    have j0 : (0 : Int) ≤ j := by omega
    have x0 : wr.cell? ⟨w.heap.size + 1, 0, none⟩ = some (.int .i64 k) := by rw [hns.v.cell]; rfl
    have x1 : wr.cell? ⟨w.heap.size + 1, 1, none⟩ = some (.int .i64 t) := by rw [hns.v.cell]; rfl
    have x2 : wr.cell? ⟨w.heap.size + 1, 2, none⟩ = some (.string s) := by rw [hns.v.cell]; rfl
    have x3 : wr.cell? ⟨w.heap.size + 1, 3, none⟩ = some (.int .i64 n) := by rw [hns.v.cell]; rfl
    have x4 : wr.cell? ⟨w.heap.size + 1, 4, none⟩ = some (.slice pv j cv) := by rw [hns.v.cell]; rfl
    have fx4 := hns.v.frozen 4
    have hw2 : w.heap.size + 2 ≤ wr.heap.size := hns.v.lt
    by_cases hlt : j < c
    · have j1 : (j : Int) < c := by omega
      have CC : Hid (∀ W, Blk W T 93 #[.pointer (some ⟨R, 0, none⟩), .int .i64 lf'] → Blk W R 91 (rd r'.s r'.a r'.e) → Calls Tryz.prog 55 #[.pointer (some ⟨T, 0, none⟩), .int .i64 (lev + 1)] W (NodeP W R T (nodeF d r' lf'))) := fun W h1 h2 => IH.out lf' r' W hlf hrm h1 h2
      have L2 := nodeF_left d r' lf'
      have R2 : (((nodeF d r' lf').2.1).room : Int) ≤ 9223372036854775807 := by have := nodeF_room d r' lf'; omega
      have FS : Hid (kidsF (nodeF d) c r5 m [] = if (nodeF d r' lf').2.1.e ≠ 0 then (none, (nodeF d r' lf').2.1, (nodeF d r' lf').2.2) else kidsF (nodeF d) (c - (j + 1)) (nodeF d r' lf').2.1 (nodeF d r' lf').2.2 (ks ++ [(nodeF d r' lf').1])) := by
        show _ = _
        rw [hF.out, show c - j = (c - (j + 1)) + 1 by omega, kidsF]
      obtain ⟨⟨y, rr, ll⟩, eO⟩ : ∃ O, nodeF d r' lf' = O := ⟨_, rfl⟩
      rw [eO] at CC L2 R2 FS
      have L2' : ll ≤ lf' := L2
      have CD : Hid (∀ W, Blk W T 93 #[.pointer (some ⟨R, 0, none⟩), .int .i64 lf'] → Blk W R 91 (rd r'.s r'.a r'.e) → Calls Tryz.prog 55 #[.pointer (some ⟨T, 0, none⟩), .int .i64 (lev + 1)] W (NodeQ W R T y rr ll)) := CC.out
      have FT : Hid (kidsF (nodeF d) c r5 m [] = if rr.e ≠ 0 then (none, rr, ll) else kidsF (nodeF d) (c - (j + 1)) rr ll (ks ++ [y])) := FS.out
      clear CC FS
      have R2' := hid R2
      have hz : ks.length < 100000 := by omega
      have HZ := hid hz
      have KL := hid KB.out.lt
      obtain ⟨l1, e1⟩ : ∃ l1, l1 = ks ++ [y] := ⟨_, rfl⟩
      have EL := hid e1
      have LL : Hid (l1.length = j + 1) := by show _ = _; rw [e1, List.length_append, hlen]; rfl
      have wl : IntKind.i64.wrap ((lev : Int) + 1) = (lev : Int) + 1 := by rw [IntWalk.i64_left]; unfold wrap64; omega
      clear hns hkb hrm hF IH eO L2 R2 hz e1
      go_wp2_with fail
      go_cut [] (fun W => ∃ v', NS w R T ll rr #[.int .i64 k, .int .i64 t, .string s, .int .i64 n, v'] W ∧ Kb W (w.heap.size + 2) 33 v' l1)
      case first =>
        go_region_law (first
          | (go_simp; go_at_call 55; refine (CD.out _ NSW.out.t.drew NSW.out.rd.drew).mono ?_; clear CD; rintro e w4 ⟨q4, rfl, hk4, ht4, hr4, hg4⟩; obtain ⟨p4, cap4, eq4, _⟩ := hk4.form; subst eq4; have K4 : Hid (KsV w4 (fun b => wr.heap.size ≤ b) (.slice p4 y.kids.length cap4) y.kids) := hk4; have G4 := hid (Gr2.undrew hg4); have N4 : Hid (NS w R T ll rr #[.int .i64 k, .int .i64 t, .string s, .int .i64 n, .slice pv j cv] w4) := ⟨ht4, hr4, NSW.out.z.gr2 G4.out (by omega) (by omega), NSW.out.v.gr2 G4.out (by omega) (by omega), NSW.out.g.trans G4.out⟩; have kb := hid (KB.out.same (fun b h1 h2 => G4.out.block b h2 (by omega) (by omega))); have e4 : w4.cell? ⟨w.heap.size + 1, 4, none⟩ = some (.slice pv j cv) := N4.out.v.cell 4; have e5 := N4.out.v.frozen 4; have e6 : ∀ o, (w4.alloc o).cell? ⟨w.heap.size + 1, 4, none⟩ = some (.slice pv j cv) := (fun o => (N4.out.v.alloc o).cell 4); have hw5 : w.heap.size + 1 < w4.heap.size := N4.out.v.lt; clear hk4 hg4 ht4 hr4)
          | (refine step_nd 31 33 Tryz.underlying31 info24 (.tmp 63) (.tmp 68) rfl rfl (w.heap.size + 2) (.slice pv j cv) ks y (.slice p4 y.kids.length cap4) ⟨w4.heap.size, 0, none⟩ 1 (kb.out.kept (grown_alloc (grown_refl w4 none) _) (by simp)) (NdC.new w4 33 y _) ((K4.out.mono (fun b hb _ => ⟨by omega, fun e => by have := (KL.out b e.symm).2; omega⟩)).kept (grown_alloc (grown_refl w4 none) _)) HZ.out (by rw [World.size_alloc]; omega) rfl rfl ?_; intro v5 u5 h5 hg5; rw [← EL.out] at h5; have KB5 := hid h5; have N5 := hid ((N4.out.quiet (grown_alloc (grown_refl w4 none) (.cells #[.int .i64 y.kind, .int .i64 y.ty, .string y.txt, .int .i64 y.num, .slice p4 y.kids.length cap4] 33))).row lt lr hg5 (fun x hx => (KL.out x hx).1)); obtain ⟨p5, c5, e5', _⟩ := h5.form; subst e5'; have d4 : u5.cell? ⟨w.heap.size + 1, 4, none⟩ = some (.slice pv j cv) := N5.out.v.cell 4; have d5 := N5.out.v.frozen 4; clear h5 hg5))
        all_goals (
          (try go_wp2_with fail)
          go_meet
          exact ⟨_, N5.out.put lt lr 4 _, KB5.out.kept (grown_set (grown_refl u5 (some (w.heap.size + 1))) 4 _) (fun r e => by have := Option.some.inj e; omega)⟩)
      case rest =>
        obtain ⟨v', hN, hK⟩ := hcut
        have NR := hid hN
        have KR := hid hK
        have t9 : wc.cell? ⟨T, 0, none⟩ = some (.pointer (some ⟨R, 0, none⟩)) := by rw [hN.t.cell]; rfl
        have CE : Hid (∀ V, Blk V R 91 (rd rr.s rr.a rr.e) → Calls Tryz.prog 56 #[.pointer (some ⟨R, 0, none⟩)] V fun e w' => e = .returned (.int .i64 rr.e) ∧ w' = V) := fun V hV => err_any R rr.s rr.a rr.e V hV
        clear x0 x1 x2 x3 x4 fx4 hN hK CD NSW KB
        by_cases he : rr.e = 0
        · have he' : ((rr.e : Int) != 0) = false := by rw [he]; rfl
          have HE := hid he
          clear he
          go_wp2_with (go_at_call 56; refine (CE.out _ NR.out.rd).mono ?_; clear CE; rintro e w7 ⟨rfl, hw7⟩; replace hw7 := hw7.symm; subst hw7)
          go_roundw
          case rel =>
            refine ⟨j + 1, l1, rr, ll, v', by omega, by go_num, LL.out, by omega, R2'.out, NR.out, KR.out, ?_⟩
            show _ = _
            rw [FT.out]
            rw [if_neg (by rw [HE.out]; simp), EL.out]
          case measure => simp [intOf]; omega
        · have he' : ((rr.e : Int) != 0) = true := by simp; omega
          have z0 : wc.cell? ⟨w.heap.size, 0, none⟩ = some (.int .i64 0) := by rw [NR.out.z.cell]; rfl
          have z1 : wc.cell? ⟨w.heap.size, 1, none⟩ = some (.int .i64 0) := by rw [NR.out.z.cell]; rfl
          have z2 : wc.cell? ⟨w.heap.size, 2, none⟩ = some (.string ⟨#[]⟩) := by rw [NR.out.z.cell]; rfl
          have z3 : wc.cell? ⟨w.heap.size, 3, none⟩ = some (.int .i64 0) := by rw [NR.out.z.cell]; rfl
          have z4 : wc.cell? ⟨w.heap.size, 4, none⟩ = some (.slice none 0 0) := by rw [NR.out.z.cell]; rfl
          have g0 := NR.out.z.frozen 0
          have g1 := NR.out.z.frozen 1
          have g2 := NR.out.z.frozen 2
          have g3 := NR.out.z.frozen 3
          have g4 := NR.out.z.frozen 4
          have FE : Hid (kidsF (nodeF d) c r5 m [] = (none, rr, ll)) := by
            show _ = _
            rw [FT.out, if_pos he]
          clear he
          go_wp2_with (go_at_call 56; refine (CE.out _ NR.out.rd).mono ?_; clear CE; rintro e w7 ⟨rfl, hw7⟩; replace hw7 := hw7.symm; subst hw7)
          have gs := grown_set5 (grown_refl wc (some w.heap.size)) 0 (.int .i64 0) (.int .i64 0) (.string ⟨#[]⟩) (.int .i64 0) (.slice none 0 0)
          refine bodyPost_ret (v := .agg #[.int .i64 0, .int .i64 0, .string ⟨#[]⟩, .int .i64 0, .slice none 0 0]) (by simp [results, Tryz.results55, go_sem, z0, z1, z2, z3, z4]) rfl ?_
          rw [FE.out]
          exact ⟨_, rfl, KsV.nil _ _, NR.out.t.kept gs (fun e => by have := Option.some.inj e; omega), NR.out.rd.kept gs (fun e => by have := Option.some.inj e; omega), NR.out.g.grown gs (fun k e => Or.inr (Or.inr (by have := Option.some.inj e; omega)))⟩
    · have hjc : j = c := by omega
      subst hjc
      have j1 : ¬ (j : Int) < j := by omega
      have z0 : wr.cell? ⟨w.heap.size, 0, none⟩ = some (.int .i64 0) := by rw [hns.z.cell]; rfl
      have z1 : wr.cell? ⟨w.heap.size, 1, none⟩ = some (.int .i64 0) := by rw [hns.z.cell]; rfl
      have z2 : wr.cell? ⟨w.heap.size, 2, none⟩ = some (.string ⟨#[]⟩) := by rw [hns.z.cell]; rfl
      have z3 : wr.cell? ⟨w.heap.size, 3, none⟩ = some (.int .i64 0) := by rw [hns.z.cell]; rfl
      have z4 : wr.cell? ⟨w.heap.size, 4, none⟩ = some (.slice none 0 0) := by rw [hns.z.cell]; rfl
      have g0 := hns.z.frozen 0
      have g1 := hns.z.frozen 1
      have g2 := hns.z.frozen 2
      have g3 := hns.z.frozen 3
      have g4 := hns.z.frozen 4
      have FE : Hid (kidsF (nodeF d) j r5 m [] = (some ks, r', lf')) := by
        show _ = _
        rw [hF.out, Nat.sub_self]
        rfl
      clear hns hkb hrm hF IH hlen
      go_wp2
      have gs := grown_set5 (grown_refl wr (some w.heap.size)) 0 (.int .i64 k) (.int .i64 t) (.string s) (.int .i64 n) (.slice pv j cv)
      have kF := (KB.out.kept gs (fun r e => by have := Option.some.inj e; omega)).ks.mono (Q := fun b => w.heap.size ≤ b) (fun b hb _ => by omega)
      have tF := NSW.out.t.kept gs (fun e => by have := Option.some.inj e; omega)
      have rF := NSW.out.rd.kept gs (fun e => by have := Option.some.inj e; omega)
      have gF := NSW.out.g.grown gs (fun k e => Or.inr (Or.inr (by have := Option.some.inj e; omega)))
      refine bodyPost_ret (v := .agg #[.int .i64 k, .int .i64 t, .string s, .int .i64 n, .slice pv j cv]) (by simp [results, Tryz.results55, go_sem, z0, z1, z2, z3, z4]) rfl ?_
      rw [FE.out]
      show NodeP w R T (ndOf r ks, r', lf') _ _
      rw [ND.out ks]
      exact ⟨_, rfl, kF, tF, rF, gF⟩
theorem node_any (R T : Nat) : ∀ (d lev : Nat), lev + d = 84 → ∀ (lf : Nat) (r : Rs) (w : World), lf ≤ 2000 → (r.room : Int) ≤ 9223372036854775807 → Blk w T 93 #[.pointer (some ⟨R, 0, none⟩), .int .i64 lf] → Blk w R 91 (rd r.s r.a r.e) → Calls Tryz.prog 55 #[.pointer (some ⟨T, 0, none⟩), .int .i64 lev] w (NodeP w R T (nodeF d r lf))
  | 0, lev, hd, lf, r, w, hl, _, hT, hR => node_no R T lf lev r w hT hR hl (Or.inr ⟨by omega, by omega⟩)
  | d + 1, lev, hd, lf, r, w, hl, hr, hT, hR => by
    unfold nodeF
    by_cases h0 : lf = 0
    · rw [if_pos h0]
      exact node_no R T lf lev r w hT hR hl (Or.inl h0)
    · rw [if_neg h0]
      exact node_step R T lf lev d r w hT hR hl h0 (by omega) hr (fun lf' r' W h1 h2 h3 h4 => node_any R T d (lev + 1) (by omega) lf' r' W h1 h2 h3 h4)
end Go.Proofs.YtdodammplhlihaaGreatDoor.Tr
