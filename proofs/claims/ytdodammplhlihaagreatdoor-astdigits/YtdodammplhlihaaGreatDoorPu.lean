/-
  Put: a tree's bytes are put.
-/
import Derived.Test.YtdodammplhlihaaGreatDoorCn
import Derived.Test.YtdodammplhlihaaGreatDoorEn
import Derived.Sort.CutIn
namespace Go.Proofs.YtdodammplhlihaaGreatDoor.Tr
open Go.RowKit Go.Maps Go.Shelf
attribute [local go_sem] Oper.semAt_some
/-- What the writer holds when these nodes have come. -/
def bytI (sp : List Sp) (l : List UInt8) (pre : List (Fin sp.length)) : List UInt8 := l ++ pre.flatMap (fun i => (sp[i.val]).x.head)
theorem bytI_nil (sp : List Sp) (l : List UInt8) : bytI sp l [] = l := by simp [bytI]
theorem bytI_snoc (sp : List Sp) (l : List UInt8) (pre : List (Fin sp.length)) (i : Fin sp.length) : bytI sp l (pre ++ [i]) = bytI sp l pre ++ (sp[i.val]).x.head := by simp [bytI]
theorem finRange_map {β : Type} (sp : List Sp) (f : Sp → List β) : (List.finRange sp.length).flatMap (fun i => f sp[i.val]) = sp.flatMap f := by
  rw [List.flatMap_def, List.flatMap_def]
  congr 1
  apply List.ext_getElem
  · simp
  · intro i h1 h2
    simp
theorem bytI_all (w : World) (g o : Nat) (x : Nd) (l : List UInt8) : bytI (spN w g o x) l (List.finRange (spN w g o x).length) = l ++ x.enc := by
  unfold bytI
  rw [finRange_map (spN w g o x) (fun s => s.x.head), Nd.enc_all, ← spN_all w g o x, List.flatMap_map]
theorem bytI_len (sp : List Sp) (l : List UInt8) (pre : List (Fin sp.length)) (h : ∀ s ∈ sp, s.x.ok) : (bytI sp l pre).length ≤ l.length + pre.length * 120 := by
  unfold bytI
  rw [List.length_append]
  have : (pre.flatMap (fun i => (sp[i.val]).x.head)).length ≤ pre.length * 120 := by
    induction pre with
    | nil => simp
    | cons a r ih =>
      rw [List.flatMap_cons, List.length_append, List.length_cons]
      have h1 := flat_len [(sp[a.val]).x] (fun y hy => by rw [List.mem_singleton] at hy; rw [hy]; exact h _ (List.getElem_mem _))
      rw [List.flatMap_cons, List.flatMap_nil, List.append_nil, List.length_singleton] at h1
      omega
  omega
theorem Wr.other {w w' : World} {b : Nat} {l : List UInt8} {row : Option Nat} (h : Wr w b l) (hg : w.grownBy w' row) (hr : ∀ r, row = some r → ∃ o : Obj, w.heap[r]? = some o ∧ o.isCells = false) : Wr w' b l := by
  obtain ⟨v, h1, h2⟩ := h
  refine ⟨v, blk_other h1 hg hr, h2.kept hg ?_⟩
  cases hv : v.ownBlock with
  | none => exact Or.inl rfl
  | some g =>
    refine Or.inr (fun e => ?_)
    obtain ⟨cs, h3⟩ := row5 h2 g hv
    obtain ⟨o, ho, hc⟩ := hr g e.symm
    rcases h3 with h3 | h3
    · rw [h3] at ho; cases ho; cases hc
    · rw [h3] at ho; cases ho; cases hc
/-- Between two rounds. -/
def PutI (w : World) (bw n4 : Nat) (nd : Array Value) (sp : List Sp) (l : List UInt8) (pre : List (Fin sp.length)) (W : World) : Prop :=
  Blk W w.heap.size 68 #[.pointer (some ⟨bw, 0, none⟩)] ∧ Blk W (w.heap.size + 1) 33 nd ∧ Blk W (w.heap.size + 2) 82 #[.pointer (some ⟨w.heap.size + 1, 0, none⟩)] ∧ Wr W bw (bytI sp l pre) ∧ Below bw w W ∧ n4 ≤ W.heap.size
theorem putI_own {w : World} {bw n4 : Nat} {nd : Array Value} {sp : List Sp} {l : List UInt8} (h2 : bw ≤ n4) : OwnFrom n4 (PutI w bw n4 nd sp l) := fun s W W' row hs hg hr => by
  obtain ⟨a1, a2, a3, a4, a5, a6⟩ := hs
  exact ⟨blk_other a1 hg (fun r e => (hr r e).2), blk_other a2 hg (fun r e => (hr r e).2), blk_other a3 hg (fun r e => (hr r e).2), a4.other hg (fun r e => (hr r e).2), a5.grown hg (Nat.le_trans h2 a6) (fun k e => Nat.le_trans h2 (hr k e).1), Nat.le_trans a6 hg.size⟩
theorem not_tn {w : World} {k : Nat} {t : TypeId} {cs : Array Value} (h : Blk w k t cs) (h1 : t ≠ 5) (h2 : t ≠ 98) : ¬ Tn w k := fun ⟨cs', ht⟩ => by
  have h' : w.heap[k]? = some (.cells cs t (0, 0)) := h
  rcases ht with ht | ht
  · rw [h'] at ht; injection ht with ht; injection ht with _ ht; exact h1 ht
  · rw [h'] at ht; injection ht with ht; injection ht with _ ht; exact h2 ht
theorem _root_.Go.Proofs.YtdodammplhlihaaGreatDoor.Blk.ty {w w' : World} {k : Nat} {t : TypeId} {cs : Array Value} (h : Blk w k t cs) (hk : TyK w w') (h1 : t ≠ 5) (h2 : t ≠ 98) : Blk w' k t cs := (hk.keep k h.lt (not_tn h h1 h2)).trans h
structure PS (w W0 : World) (bw n4 : Nat) (nd : Array Value) (P : Nat → Prop) (g o : Nat) (y : Nd) (A : List UInt8) (W : World) : Prop where
  b0 : Blk W w.heap.size 68 #[.pointer (some ⟨bw, 0, none⟩)]
  b1 : Blk W (w.heap.size + 1) 33 nd
  b2 : Blk W (w.heap.size + 2) 82 #[.pointer (some ⟨w.heap.size + 1, 0, none⟩)]
  wr : Wr W bw A
  bel : Below bw w W
  size : n4 ≤ W.heap.size
  node : NdAt W P g o y
  kq : KQ P W0 W
  ty : TyK W0 W
theorem PS.step {w W0 W W' : World} {bw n4 : Nat} {nd : Array Value} {P : Nat → Prop} {g o : Nat} {y : Nd} {A A' : List UInt8} (h : PS w W0 bw n4 nd P g o y A W) (hP : ∀ b, P b → b < bw ∨ b = w.heap.size + 1 ∨ b = w.heap.size + 2) (hg : P g) (hb : WB bw W W') (hw : Wr W' bw A') : PS w W0 bw n4 nd P g o y A' W' := by
  have b1 := h.b1.ty hb.ty (by decide) (by decide)
  have b2 := h.b2.ty hb.ty (by decide) (by decide)
  have kq : KQ P W W' := fun b hp => by
    rcases hP b hp with e | e | e
    · exact hb.bel.block b e
    · subst e; exact b1.trans h.b1.symm
    · subst e; exact b2.trans h.b2.symm
  exact ⟨h.b0.ty hb.ty (by decide) (by decide), b1, b2, hw, h.bel.trans hb.bel, Nat.le_trans h.size hb.ty.size, kq.node h.node hg, h.kq.trans kq, h.ty.trans hb.ty⟩
theorem PS.drew {w W0 W : World} {bw n4 : Nat} {nd : Array Value} {P : Nat → Prop} {g o : Nat} {y : Nd} {A : List UInt8} (h : PS w W0 bw n4 nd P g o y A W) (hP : ∀ b, P b → b < bw ∨ b = w.heap.size + 1 ∨ b = w.heap.size + 2) (hg : P g) : PS w W0 bw n4 nd P g o y A W.drew :=
  h.step hP hg (below_of (grown_drew (grown_refl _ _)) h.wr.lt) (h.wr.kept (grown_drew (grown_refl _ _)))
theorem keeps_ty {W W' : World} (h : TyK W W') : KeepsOthers W W' := ⟨h.size, fun k o hk hc => by
  have hlt : k < W.heap.size := (Array.getElem?_eq_some_iff.1 hk).1
  rw [h.keep k hlt (fun ⟨cs, ht⟩ => by
    rcases ht with ht | ht
    · rw [hk] at ht; injection ht with ht; subst ht; cases hc
    · rw [hk] at ht; injection ht with ht; subst ht; cases hc)]
  exact hk⟩
def PutA (N bw : Nat) (v fv : Value) (sp : List Sp) (i : Fin sp.length) (a' : Act) (_ : World) : Prop :=
  a' = { tmps := #[.pointer (some ⟨bw, 0, none⟩), v, .pointer (some ⟨N, 0, none⟩), .pointer (some ⟨N + 1, 0, none⟩), undef, .pointer (some ⟨(sp[i.val]).g, (sp[i.val]).o, none⟩), fv, .int .i64 i.val, .pointer (some ⟨(sp[i.val]).g, (sp[i.val]).o, none⟩), undef, undef, undef, undef, undef, undef, undef, undef, undef, undef, undef, undef, undef, undef, undef, undef, undef, undef, undef, undef, undef, undef, undef, undef, undef, undef, undef, undef, undef, undef, undef, undef, undef, undef, undef], defers := [] }
theorem putA_own {B N bw : Nat} {v fv : Value} {sp : List Sp} (x : Fin sp.length) (a' : Act) : OwnFrom B (fun (_ : Unit) W => PutA N bw v fv sp x a' W) := fun _ _ _ _ hs _ _ => hs
set_option maxRecDepth 100000 in
set_option maxHeartbeats 4000000 in
theorem put_any (x : Nd) (hok : x.ok) (hN : x.cnt ≤ 5000) (v : Value) (bw : Nat) (l : List UInt8) (w : World) (hl : l.length ≤ 1000) (hw : Wr w bw l) (hv : NdV w (fun b => b < bw) v x) : Calls Tryz.prog 41 #[.pointer (some ⟨bw, 0, none⟩), v] w fun e w' => e = .returned (.tuple #[]) ∧ Wr w' bw (l ++ x.enc) ∧ Below bw w w' := by
  obtain ⟨q, rfl, hk⟩ := hv
  obtain ⟨p, cap, eq, _⟩ := hk.form
  have HK := hid hk
  have HW := hid hw
  have hbw : bw < w.heap.size := hw.lt
  clear hk hw
  subst eq
  refine (callsIn_wide (n := 5)).1 ?_
  refine callsIn_of_wp_marks Tryz.func41 rfl trivial ?_ rfl
  simp only [Tryz.ntmps41, List.size_toArray, List.length_cons, List.length_nil, Nat.reduceAdd, Nat.reduceSub, Array.replicate_succ, Array.replicate_zero, List.push_toArray, List.append_toArray, List.nil_append, List.cons_append]
  refine wpIn_wide.2 ?_
  go_wp2_with (go_at_call 46; refine (spots_mk _ _).mono ?_; rintro e w3 ⟨rfl, hw3⟩; have hw4 := hw3.symm; clear hw3; subst hw4)
  have B0 := ((Blk.new w 68 #[.pointer (some ⟨bw, 0, none⟩)]).alloc (.cells #[.int .i64 x.kind, .int .i64 x.ty, .string x.txt, .int .i64 x.num, .slice p x.kids.length cap] 33)).alloc (.cells #[.pointer (some ⟨w.heap.size + 1, 0, none⟩)] 82)
  have B1 := (Blk.new (w.alloc (.cells #[.pointer (some ⟨bw, 0, none⟩)] 68)) 33 #[.int .i64 x.kind, .int .i64 x.ty, .string x.txt, .int .i64 x.num, .slice p x.kids.length cap]).alloc (.cells #[.pointer (some ⟨w.heap.size + 1, 0, none⟩)] 82)
  have B2 := Blk.new ((w.alloc (.cells #[.pointer (some ⟨bw, 0, none⟩)] 68)).alloc (.cells #[.int .i64 x.kind, .int .i64 x.ty, .string x.txt, .int .i64 x.num, .slice p x.kids.length cap] 33)) 82 #[.pointer (some ⟨w.heap.size + 1, 0, none⟩)]
  have G3 : w.grownBy (((w.alloc (.cells #[.pointer (some ⟨bw, 0, none⟩)] 68)).alloc (.cells #[.int .i64 x.kind, .int .i64 x.ty, .string x.txt, .int .i64 x.num, .slice p x.kids.length cap] 33)).alloc (.cells #[.pointer (some ⟨w.heap.size + 1, 0, none⟩)] 82)) none := grown_alloc (grown_alloc (grown_alloc (grown_refl w none) _) _) _
  have S3 : (((w.alloc (.cells #[.pointer (some ⟨bw, 0, none⟩)] 68)).alloc (.cells #[.int .i64 x.kind, .int .i64 x.ty, .string x.txt, .int .i64 x.num, .slice p x.kids.length cap] 33)).alloc (.cells #[.pointer (some ⟨w.heap.size + 1, 0, none⟩)] 82)).heap.size = w.heap.size + 3 := by simp
  simp only [World.size_alloc] at B1 B2
  generalize ((w.alloc (.cells #[.pointer (some ⟨bw, 0, none⟩)] 68)).alloc (.cells #[.int .i64 x.kind, .int .i64 x.ty, .string x.txt, .int .i64 x.num, .slice p x.kids.length cap] 33)).alloc (.cells #[.pointer (some ⟨w.heap.size + 1, 0, none⟩)] 82) = w3 at *
  have at3 : NdAt w3 (fun b => b < bw ∨ b = w.heap.size + 1 ∨ b = w.heap.size + 2) (w.heap.size + 1) 0 x := NdAt.mk (by rw [B1.cell]; rfl) (by rw [B1.cell]; rfl) (by rw [B1.cell]; rfl) (by rw [B1.cell]; rfl) (by rw [B1.cell]; rfl) (HK.out.keptP (Kp.of_none _ G3) (fun b hb _ => Or.inl hb))
  have L3 := spN_len w3 (w.heap.size + 1) 0 x
  have HAT := hid (spN_at at3 (Or.inr (Or.inl rfl)))
  have HOK : Hid (∀ s ∈ spN w3 (w.heap.size + 1) 0 x, s.x.ok) := fun s hs => Nd.all_ok hok s.x (by rw [← spN_all w3 (w.heap.size + 1) 0 x]; exact List.mem_map_of_mem hs)
  refine (wpIn_wide (n := 5)).1 ?_
  refine wpIn_rangeFunc_ownH rfl (by decide) (gf := 64) (lb := #[.pointer (some ⟨w.heap.size + 1 + 1, 0, none⟩)]) rfl trivial (enters_of Tryz.func64 (by kernel_rfl) rfl)
    (spots_stops (w.heap.size + 1 + 1) (w.heap.size + 1) (fun b => b < bw ∨ b = w.heap.size + 1 ∨ b = w.heap.size + 2) w3 x hok (by rw [L3]; omega) (fun b hb => by omega) (Or.inr (Or.inr (by omega))) (Or.inr (Or.inl rfl)) (by rw [B2.cell]; rfl) at3)
    (fun h k => KQ.trans h k) (fun W l o o' hl ho _ _ => ?hkb) (Below.refl _ _) (fun _ => rfl) (PutI w bw w3.heap.size #[.int .i64 x.kind, .int .i64 x.ty, .string x.txt, .int .i64 x.num, .slice p x.kids.length cap] (spN w3 (w.heap.size + 1) 0 x) l) (fun _ _ _ => False) (putI_own (by omega)) (fun _ _ _ _ _ h => h.elim) ?hstart (PutA w.heap.size bw (.agg #[.int .i64 x.kind, .int .i64 x.ty, .string x.txt, .int .i64 x.num, .slice p x.kids.length cap]) (.func (.func 64) #[] #[.pointer (some ⟨w.heap.size + 1 + 1, 0, none⟩)]) (spN w3 (w.heap.size + 1) 0 x)) (fun x a' => putA_own x a') ?assign ?body ?done ?stop
  case hkb => exact fun b hb => World.putObj_heap_other (by omega)
  case hstart =>
    refine ⟨B0, B1, B2, ?_, (Below.refl bw w).grown G3 (by omega) (fun k e => by cases e), Nat.le_refl _⟩
    rw [bytI_nil]
    exact HW.out.kept G3
  case assign =>
    rintro l pre y W K hi hK
    gi_wp2
    exact hK _ _ ((KeepsOthers.refl W).from _) (KQ.refl _ _) hi rfl
  case body =>
    rintro l1 pre i a' W hl1 ⟨r, hr⟩ ⟨i1, i2, i3, i4, i5, i6⟩ rfl hlt
    have hsi := HAT.out _ (List.getElem_mem i.isLt)
    have kq0 : KQ (fun b => b < bw ∨ b = w.heap.size + 1 ∨ b = w.heap.size + 2) w3 W := fun b hb => by
      rcases hb with e | e | e
      · exact (i5.block b e).trans (G3.block b (by omega) (by simp)).symm
      · subst e; exact i2.trans B1.symm
      · subst e; exact i3.trans B2.symm
    have hn0 := kq0.node hsi.1 hsi.2
    have hyo := HOK.out _ (List.getElem_mem i.isLt)
    have EB := hid (bytI_snoc (spN w3 (w.heap.size + 1) 0 x) l pre i)
    have hlen := bytI_len (spN w3 (w.heap.size + 1) 0 x) l pre HOK.out
    have hpl : pre.length < 5000 := by have h9 := L3; omega
    have s0 : PS w W bw w3.heap.size #[.int .i64 x.kind, .int .i64 x.ty, .string x.txt, .int .i64 x.num, .slice p x.kids.length cap] (fun b => b < bw ∨ b = w.heap.size + 1 ∨ b = w.heap.size + 2) ((spN w3 (w.heap.size + 1) 0 x)[i.val]).g ((spN w3 (w.heap.size + 1) 0 x)[i.val]).o ((spN w3 (w.heap.size + 1) 0 x)[i.val]).x (bytI (spN w3 (w.heap.size + 1) 0 x) l pre) W := ⟨i1, i2, i3, i4, i5, i6, hn0, KQ.refl _ _, TyK.of_none (grown_refl _ _)⟩
    have HP : Hid (∀ b, (b < bw ∨ b = w.heap.size + 1 ∨ b = w.heap.size + 2) → b < bw ∨ b = w.heap.size + 1 ∨ b = w.heap.size + 2) := fun b hb => hb
    have HG := hid hsi.2
    have S0 := hid s0
    have SZ : Hid ((bytI (spN w3 (w.heap.size + 1) 0 x) l pre).length ≤ 700000) := by show _ ≤ _; omega
    clear i1 i2 i3 i4 i5 i6 hsi kq0 hn0 s0 hlen hpl B0 B1 B2 at3 HAT HOK G3 HW HK
    generalize bytI (spN w3 (w.heap.size + 1) 0 x) l pre = A at *
    generalize (spN w3 (w.heap.size + 1) 0 x)[i.val] = sy at *
    obtain ⟨g, o, y⟩ := sy
    obtain ⟨k, t, s, n, ks⟩ := y
    have hs1 : s.size ≤ 100 := hyo.1.s1
    have hk1 : ks.length ≤ 255 := hyo.2.1
    obtain ⟨qy, c0, c1, c2, c3, c4, hky⟩ := S0.out.node.cells
    obtain ⟨py, cy, ey, _⟩ := hky.form
    subst ey
    obtain ⟨ny, eny⟩ : ∃ ny, ks.length = ny := ⟨_, rfl⟩
    have ENY := hid eny
    have NC : Hid (∀ A' V, PS w W bw w3.heap.size #[.int .i64 x.kind, .int .i64 x.ty, .string x.txt, .int .i64 x.num, .slice p x.kids.length cap] (fun b => b < bw ∨ b = w.heap.size + 1 ∨ b = w.heap.size + 2) g o (.mk k t s n ks) A' V → V.cell? ⟨w.heap.size, 0, none⟩ = some (.pointer (some ⟨bw, 0, none⟩)) ∧ V.cell? ⟨g, o, none⟩ = some (.int .i64 k) ∧ V.cell? ⟨g, o + 1, none⟩ = some (.int .i64 t) ∧ V.cell? ⟨g, o + 2, none⟩ = some (.string s) ∧ V.cell? ⟨g, o + 3, none⟩ = some (.int .i64 n) ∧ V.cell? ⟨g, o + 4, none⟩ = some (.slice py ny cy)) := fun A' V hV => by
      have e4 : V.cell? ⟨g, o + 4, none⟩ = some (.slice py ny cy) := by
        rw [World.cell?_of_block (hV.kq g HG.out), ← eny]; exact c4
      obtain ⟨q2, d0, d1, d2, d3, d4, _⟩ := hV.node.cells
      exact ⟨by rw [hV.b0.cell]; rfl, d0, d1, d2, d3, e4⟩
    have C1 : Hid (∀ V, Wr V bw A → Calls Tryz.prog 59 #[.pointer (some ⟨bw, 0, none⟩), .int .u64 (n64 k), .int .i64 1] V fun e w' => e = .returned (.tuple #[]) ∧ Wr w' bw (A ++ numL (n64 k) 1) ∧ WB bw V w') := fun V hV => wnumber_any bw A (n64 k) 1 V hV (by have := SZ.out; omega) (n64_lt k)
    have C2 : Hid (∀ V, Wr V bw (A ++ numL (n64 k) 1) → Calls Tryz.prog 59 #[.pointer (some ⟨bw, 0, none⟩), .int .u64 (n64 t), .int .i64 1] V fun e w' => e = .returned (.tuple #[]) ∧ Wr w' bw (A ++ numL (n64 k) 1 ++ numL (n64 t) 1) ∧ WB bw V w') := fun V hV => wnumber_any bw _ (n64 t) 1 V hV (by have := SZ.out; rw [List.length_append, numL_len]; omega) (n64_lt t)
    have C3 : Hid (∀ V, Wr V bw (A ++ numL (n64 k) 1 ++ numL (n64 t) 1) → Calls Tryz.prog 60 #[.pointer (some ⟨bw, 0, none⟩), .string s] V fun e w' => e = .returned (.tuple #[]) ∧ Wr w' bw (A ++ numL (n64 k) 1 ++ numL (n64 t) 1 ++ numL s.size 4 ++ s.data.toList) ∧ WB bw V w') := fun V hV => wtext_any bw _ s V hV (by have := SZ.out; simp only [List.length_append, numL_len]; omega)
    have C4 : Hid (∀ V, Wr V bw (A ++ numL (n64 k) 1 ++ numL (n64 t) 1 ++ numL s.size 4 ++ s.data.toList) → Calls Tryz.prog 59 #[.pointer (some ⟨bw, 0, none⟩), .int .u64 (n64 n), .int .i64 8] V fun e w' => e = .returned (.tuple #[]) ∧ Wr w' bw (A ++ numL (n64 k) 1 ++ numL (n64 t) 1 ++ numL s.size 4 ++ s.data.toList ++ numL (n64 n) 8) ∧ WB bw V w') := fun V hV => wnumber_any bw _ (n64 n) 8 V hV (by have := SZ.out; simp only [List.length_append, numL_len, bytes_len]; omega) (n64_lt n)
    have C5 : Hid (∀ V, Wr V bw (A ++ numL (n64 k) 1 ++ numL (n64 t) 1 ++ numL s.size 4 ++ s.data.toList ++ numL (n64 n) 8) → Calls Tryz.prog 59 #[.pointer (some ⟨bw, 0, none⟩), .int .u64 ny, .int .i64 1] V fun e w' => e = .returned (.tuple #[]) ∧ Wr w' bw (A ++ numL (n64 k) 1 ++ numL (n64 t) 1 ++ numL s.size 4 ++ s.data.toList ++ numL (n64 n) 8 ++ numL ny 1) ∧ WB bw V w') := fun V hV => wnumber_any bw _ ny 1 V hV (by have := SZ.out; simp only [List.length_append, numL_len, bytes_len]; omega) (by omega)
    have w1 := n64_wrap k
    have w2 := n64_wrap t
    have w4 := n64_wrap n
    have w5 : IntKind.u64.wrap (ny : Int) = (ny : Int) := by rw [n64_wrap, n64_small ny (by omega)]
    have EF : Hid (A ++ numL (n64 k) 1 ++ numL (n64 t) 1 ++ numL s.size 4 ++ s.data.toList ++ numL (n64 n) 8 ++ numL ny 1 = A ++ (Nd.mk k t s n ks).head) := by
      show _ = A ++ headL k t s n ks.length
      rw [eny]
      unfold headL txL
      simp only [List.append_assoc]
    have hmx : Tryz.prog.follows .mixedOrders = true := by kernel_rfl
    have i0 : (ny : Int) ≤ 255 := by omega
    clear c0 c1 c2 c3 c4 hky hyo hr eny hs1
    generalize numL (n64 k) 1 = N1 at *
    generalize numL (n64 t) 1 = N2 at *
    generalize numL s.size 4 = N3 at *
    generalize numL (n64 n) 8 = N4 at *
    generalize numL ny 1 = N5 at *
    generalize n64 k = K1 at *
    generalize n64 t = K2 at *
    generalize n64 n = K4 at *
    obtain ⟨z0, z1, z2, z3, z4, z5⟩ := NC.out _ W S0.out
    gi_wp2
    gi_cut [] from 9 (fun V => PS w W bw w3.heap.size #[.int .i64 x.kind, .int .i64 x.ty, .string x.txt, .int .i64 x.num, .slice p x.kids.length cap] (fun b => b < bw ∨ b = w.heap.size + 1 ∨ b = w.heap.size + 2) g o (.mk k t s n ks) (A ++ N1) V)
    case first =>
      have D1 := hid (S0.out.drew HP.out HG.out)
      gi_region_with_o (refine ⟨trivial, ?_⟩; gi_at_call 59; refine (CallsIn.inRound l1 (callsIn_wide.2 (C1.out _ D1.out.wr))).mono ?_; clear C1; rintro e w6 ⟨rfl, hw6, hb6⟩; have S1 := hid (D1.out.step HP.out HG.out hb6 hw6); clear hw6 hb6)
      all_goals (
        (try gi_wp2_with fail)
        gi_meet
        exact S1.out)
    case rest =>
      have S1 := hid hcut
      clear hcut z0 z1 z2 z3 z4 z5 C1
      obtain ⟨z0, z1, z2, z3, z4, z5⟩ := NC.out _ _ S1.out
      gi_wp2
      gi_cut [] from 9 (fun V => PS w W bw w3.heap.size #[.int .i64 x.kind, .int .i64 x.ty, .string x.txt, .int .i64 x.num, .slice p x.kids.length cap] (fun b => b < bw ∨ b = w.heap.size + 1 ∨ b = w.heap.size + 2) g o (.mk k t s n ks) (A ++ N1 ++ N2) V)
      case first =>
        have D2 := hid (S1.out.drew HP.out HG.out)
        gi_region_with_o (refine ⟨trivial, ?_⟩; gi_at_call 59; refine (CallsIn.inRound l1 (callsIn_wide.2 (C2.out _ D2.out.wr))).mono ?_; clear C2; rintro e w6 ⟨rfl, hw6, hb6⟩; have S2 := hid (D2.out.step HP.out HG.out hb6 hw6); clear hw6 hb6)
        all_goals (
          (try gi_wp2_with fail)
          gi_meet
          exact S2.out)
      case rest =>
        have S2 := hid hcut
        clear hcut z0 z1 z2 z3 z4 z5 C2
        obtain ⟨z0, z1, z2, z3, z4, z5⟩ := NC.out _ _ S2.out
        gi_wp2
        gi_cut [] from 9 (fun V => PS w W bw w3.heap.size #[.int .i64 x.kind, .int .i64 x.ty, .string x.txt, .int .i64 x.num, .slice p x.kids.length cap] (fun b => b < bw ∨ b = w.heap.size + 1 ∨ b = w.heap.size + 2) g o (.mk k t s n ks) (A ++ N1 ++ N2 ++ N3 ++ s.data.toList) V)
        case first =>
          have D3 := hid (S2.out.drew HP.out HG.out)
          gi_region_with_o (refine ⟨trivial, ?_⟩; gi_at_call 60; refine (CallsIn.inRound l1 (callsIn_wide.2 (C3.out _ D3.out.wr))).mono ?_; clear C3; rintro e w6 ⟨rfl, hw6, hb6⟩; have S3 := hid (D3.out.step HP.out HG.out hb6 hw6); clear hw6 hb6)
          all_goals (
            (try gi_wp2_with fail)
            gi_meet
            exact S3.out)
        case rest =>
          have S3 := hid hcut
          clear hcut z0 z1 z2 z3 z4 z5 C3
          obtain ⟨z0, z1, z2, z3, z4, z5⟩ := NC.out _ _ S3.out
          gi_wp2
          gi_cut [] from 9 (fun V => PS w W bw w3.heap.size #[.int .i64 x.kind, .int .i64 x.ty, .string x.txt, .int .i64 x.num, .slice p x.kids.length cap] (fun b => b < bw ∨ b = w.heap.size + 1 ∨ b = w.heap.size + 2) g o (.mk k t s n ks) (A ++ N1 ++ N2 ++ N3 ++ s.data.toList ++ N4) V)
          case first =>
            have D4 := hid (S3.out.drew HP.out HG.out)
            gi_region_with_o (refine ⟨trivial, ?_⟩; gi_at_call 59; refine (CallsIn.inRound l1 (callsIn_wide.2 (C4.out _ D4.out.wr))).mono ?_; clear C4; rintro e w6 ⟨rfl, hw6, hb6⟩; have S4 := hid (D4.out.step HP.out HG.out hb6 hw6); clear hw6 hb6)
            all_goals (
              (try gi_wp2_with fail)
              gi_meet
              exact S4.out)
          case rest =>
            have S4 := hid hcut
            clear hcut z0 z1 z2 z3 z4 z5 C4
            obtain ⟨z0, z1, z2, z3, z4, z5⟩ := NC.out _ _ S4.out
            gi_wp2
            have D5 := hid (S4.out.drew HP.out HG.out)
            gi_region_with_o (refine ⟨trivial, ?_⟩; gi_at_call 59; refine (CallsIn.inRound l1 (callsIn_wide.2 (C5.out _ D5.out.wr))).mono ?_; clear C5; rintro e w6 ⟨rfl, hw6, hb6⟩; have S5 := hid (D5.out.step HP.out HG.out hb6 hw6); clear hw6 hb6)
            all_goals (
              refine ⟨(keeps_ty S5.out.ty).from _, S5.out.kq, S5.out.b0, S5.out.b1, S5.out.b2, ?_, S5.out.bel, S5.out.size⟩
              rw [EB.out, ← EF.out]
              exact S5.out.wr)
  case done =>
    rintro D xs W hD rfl ⟨i1, i2, i3, i4, i5, i6⟩ hK
    rw [bytI_all] at i4
    have I4 := hid i4
    have I5 := hid i5
    have KD := hid hK
    clear i1 i2 i3 i4 i5 hK
    go_wp2_with fail
    refine ⟨by simp, .inl ⟨_, _, rfl, run_takeDeferred KD.out, ?_⟩⟩
    refine ⟨_, results_none rfl _ _ _, rfl, ?_, ?_⟩
    · exact I4.out.other (grownBy_putObj' _ D (.deferred none)) (fun r e => by cases e; exact ⟨_, KD.out, rfl⟩)
    · exact I5.out.grown (grownBy_putObj' _ D (.deferred none)) (by omega) (fun k e => by cases e; omega)
  case stop =>
    rintro D c pre W _ _ h _
    exact h.elim
end Go.Proofs.YtdodammplhlihaaGreatDoor.Tr
