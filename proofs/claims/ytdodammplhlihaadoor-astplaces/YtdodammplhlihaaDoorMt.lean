/-
  Made: the tree of the law's list.
-/
import Derived.Test.YtdodammplhlihaaDoorMd
namespace Go.Proofs.YtdodammplhlihaaDoor
open Go.RowKit
def TopP (w : World) (e : Ending) (w' : World) : Prop := ∃ (x : Nd) (q : Value), e = .returned (.agg #[.int .i64 x.kind, .int .i64 x.ty, .string x.txt, .int .i64 x.num, q]) ∧ x.ok ∧ x.cnt ≤ 300 ∧ KsV w' (fun b => w.heap.size ≤ b) q x.kids ∧ w.grownBy w' none
theorem cnt_le {n at2 : Nat} {x : Nd} (hn : n ≤ 300) (h1 : n ≤ 0 → at2 = 0 ∧ x.cnt = 1) (h2 : 0 < n → 0 < at2 ∧ at2 ≤ n ∧ x.cnt = at2 - 0) : x.cnt ≤ 300 := by
  by_cases h : 0 < n
  · have := h2 h; omega
  · have := h1 (by omega); omega
set_option maxRecDepth 100000 in
set_option maxHeartbeats 1000000 in
theorem made_top (p : Option Addr) (n cap : Nat) (w : World) (hc : n ≤ cap) (hcm : cap ≤ maxLen) (hT : TrV w p n) : Calls Tryd.prog 10 #[.slice p n cap] w (TopP w) := by
  unfold maxLen at hcm
  by_cases hn : n ≤ 300
  · have n1 : ¬ (300 : Int) < n := by omega
    have HN : n ≤ 300 := hn
    have CM : Hid (∀ W, w.grownBy W none → Calls Tryd.prog 29 #[.slice p n cap, .int .i64 0, .int .i64 0] W (MadeP W n 0)) := fun W hW => made_any p n cap hn 60 0 rfl 0 W (hT.kept hW)
    clear hT
    go_enter Tryd.func10, Tryd.ntmps10
    go_wp2_with (go_at_call 29; refine (CM.out _ ?gr).mono ?_; (case gr => exact grown_alloc (grown_refl _ _) _); rintro e w2 ⟨x, q, at2, rfl, hy, hk2, hg2, h1, h2⟩; obtain ⟨p2, cap2, eq2, _⟩ := hk2.form; subst eq2; have K2 := hid hk2; have G2 := hid (grown_none (grown_alloc (grown_refl w none) _) hg2); have HY := hid hy; have b0 := (Blk.new w 24 #[.int .i64 0, .int .i64 0, .string ⟨#[]⟩, .int .i64 0, .slice none 0 0]).kept hg2 (by simp); have HC := hid (cnt_le HN h1 h2); have z0 : w2.cell? ⟨w.heap.size, 0, none⟩ = some (.int .i64 0) := b0.cell 0; have z1 : w2.cell? ⟨w.heap.size, 1, none⟩ = some (.int .i64 0) := b0.cell 1; have z2 : w2.cell? ⟨w.heap.size, 2, none⟩ = some (.string ⟨#[]⟩) := b0.cell 2; have z3 : w2.cell? ⟨w.heap.size, 3, none⟩ = some (.int .i64 0) := b0.cell 3; have z4 : w2.cell? ⟨w.heap.size, 4, none⟩ = some (.slice none 0 0) := b0.cell 4; have f0 := b0.frozen 0; have f1 := b0.frozen 1; have f2 := b0.frozen 2; have f3 := b0.frozen 3; have f4 := b0.frozen 4; have hlt := b0.lt; clear b0 hk2 hg2 hy h1 h2 CM)
    have gs := grown_set5 (grown_refl w2 (some w.heap.size)) 0 (.int .i64 x.kind) (.int .i64 x.ty) (.string x.txt) (.int .i64 x.num) (.slice p2 x.kids.length cap2)
    have kF := ((K2.out.keptP (Q := fun b => w.heap.size ≤ b) (Kp.of_grown gs (fun b hb e => by have h3 := Option.some.inj e; rw [World.size_alloc] at hb; omega)) (fun b hb _ => by rw [World.size_alloc] at hb; omega))).kept (grown_alloc (grown_refl _ none) (.cells #[.int .i64 x.kind, .int .i64 x.ty, .string x.txt, .int .i64 x.num, .slice p2 x.kids.length cap2] 24))
    have gW := grown_alloc (grown_set5_new G2.out 0 (.int .i64 x.kind) (.int .i64 x.ty) (.string x.txt) (.int .i64 x.num) (.slice p2 x.kids.length cap2) (Nat.le_refl _)) (.cells #[.int .i64 x.kind, .int .i64 x.ty, .string x.txt, .int .i64 x.num, .slice p2 x.kids.length cap2] 24)
    exact bodyPost_ret (v := .agg #[.int .i64 x.kind, .int .i64 x.ty, .string x.txt, .int .i64 x.num, .slice p2 x.kids.length cap2]) (by simp [results, Tryd.results10, go_sem, z0, z1, z2, z3, z4, hlt]) rfl ⟨x, _, rfl, HY.out, HC.out, kF, gW⟩
  · have n1 : (300 : Int) < n := by omega
    have HN : 300 ≤ 300 := Nat.le_refl _
    have n2 : (300 : Int) ≤ cap := by omega
    have hT' : TrV w p 300 := fun _ => by
      obtain ⟨g, o, h1, h2⟩ := hT (by omega)
      exact ⟨g, o, h1, fun i hi => h2 i (by omega)⟩
    have CM : Hid (∀ W, w.grownBy W none → Calls Tryd.prog 29 #[.slice p 300 cap, .int .i64 0, .int .i64 0] W (MadeP W 300 0)) := fun W hW => made_any p 300 cap (Nat.le_refl _) 60 0 rfl 0 W (hT'.kept hW)
    clear hT hT'
    go_enter Tryd.func10, Tryd.ntmps10
    go_wp2_with (go_at_call 29; refine (CM.out _ ?gr).mono ?_; (case gr => exact grown_alloc (grown_refl _ _) _); rintro e w2 ⟨x, q, at2, rfl, hy, hk2, hg2, h1, h2⟩; obtain ⟨p2, cap2, eq2, _⟩ := hk2.form; subst eq2; have K2 := hid hk2; have G2 := hid (grown_none (grown_alloc (grown_refl w none) _) hg2); have HY := hid hy; have b0 := (Blk.new w 24 #[.int .i64 0, .int .i64 0, .string ⟨#[]⟩, .int .i64 0, .slice none 0 0]).kept hg2 (by simp); have HC := hid (cnt_le HN h1 h2); have z0 : w2.cell? ⟨w.heap.size, 0, none⟩ = some (.int .i64 0) := b0.cell 0; have z1 : w2.cell? ⟨w.heap.size, 1, none⟩ = some (.int .i64 0) := b0.cell 1; have z2 : w2.cell? ⟨w.heap.size, 2, none⟩ = some (.string ⟨#[]⟩) := b0.cell 2; have z3 : w2.cell? ⟨w.heap.size, 3, none⟩ = some (.int .i64 0) := b0.cell 3; have z4 : w2.cell? ⟨w.heap.size, 4, none⟩ = some (.slice none 0 0) := b0.cell 4; have f0 := b0.frozen 0; have f1 := b0.frozen 1; have f2 := b0.frozen 2; have f3 := b0.frozen 3; have f4 := b0.frozen 4; have hlt := b0.lt; clear b0 hk2 hg2 hy h1 h2 CM)
    have gs := grown_set5 (grown_refl w2 (some w.heap.size)) 0 (.int .i64 x.kind) (.int .i64 x.ty) (.string x.txt) (.int .i64 x.num) (.slice p2 x.kids.length cap2)
    have kF := ((K2.out.keptP (Q := fun b => w.heap.size ≤ b) (Kp.of_grown gs (fun b hb e => by have h3 := Option.some.inj e; rw [World.size_alloc] at hb; omega)) (fun b hb _ => by rw [World.size_alloc] at hb; omega))).kept (grown_alloc (grown_refl _ none) (.cells #[.int .i64 x.kind, .int .i64 x.ty, .string x.txt, .int .i64 x.num, .slice p2 x.kids.length cap2] 24))
    have gW := grown_alloc (grown_set5_new G2.out 0 (.int .i64 x.kind) (.int .i64 x.ty) (.string x.txt) (.int .i64 x.num) (.slice p2 x.kids.length cap2) (Nat.le_refl _)) (.cells #[.int .i64 x.kind, .int .i64 x.ty, .string x.txt, .int .i64 x.num, .slice p2 x.kids.length cap2] 24)
    exact bodyPost_ret (v := .agg #[.int .i64 x.kind, .int .i64 x.ty, .string x.txt, .int .i64 x.num, .slice p2 x.kids.length cap2]) (by simp [results, Tryd.results10, go_sem, z0, z1, z2, z3, z4, hlt]) rfl ⟨x, _, rfl, HY.out, HC.out, kF, gW⟩

end Go.Proofs.YtdodammplhlihaaDoor
