/-
  Clone: a disk of its own that is the same.
-/
import Derived.Test.YtoenddcdafnmiaaMore
namespace Go.Proofs.Ytoenddcdafnmiaa
open Go.RowKit Go.Maps
theorem eql_slice (g n c : Nat) (w : World) : (binOp BinOp.eql 62 (.slice (some ⟨g, 0, none⟩) n c) (.slice none 0 0)).run Try.prog w = .ok (.bool false) w := by kernel_rfl
theorem eql_slice0 (w : World) : (binOp BinOp.eql 62 (.slice none 0 0) (.slice none 0 0)).run Try.prog w = .ok (.bool true) w := by kernel_rfl
theorem eql_plan0 (w : World) : (binOp BinOp.eql 52 (.slice none 0 0) (.slice none 0 0)).run Try.prog w = .ok (.bool true) w := by kernel_rfl
theorem looseL_one (l : List Chg) : ∀ u ∈ looseL l, u.oneCell' = true := by
  intro u hu
  unfold looseL at hu
  rw [List.mem_flatMap] at hu
  obtain ⟨c, _, hc⟩ := hu
  unfold Chg.cells at hc
  simp only [List.mem_cons, List.not_mem_nil, or_false] at hc
  rcases hc with rfl | rfl | rfl | rfl | rfl <;> rfl
set_option maxRecDepth 100000 in
set_option maxHeartbeats 1000000 in
theorem slclone_any (base : Nat) (vl : Value) (loose : List Chg) (w : World) (hl : w.ownsRow base 80 5 vl loose.length (looseL loose)) (h63 : loose.length ≤ 1000) :
    Calls Try.prog 37 #[vl] w fun e w' => ∃ v', e = .returned v' ∧ w'.ownsRow w.heap.size 80 5 v' loose.length (looseL loose) ∧ w.grownBy w' none := by
  have hq0 := eql_slice0
  have hl' := hl
  rcases hl'.2 with ⟨rfl, hn⟩ | ⟨g, cap, cur, rfl, _⟩
  · have hz : looseL loose = [] := List.eq_nil_of_length_eq_zero (by rw [hl.1, hn])
    rw [hz, hn]
    clear hl hl' hz hn
    go_enter Try.func37, Try.ntmps37
    go_wp2
    go_ret
    exact ⟨_, rfl, World.ownsRow_nil w w.heap.size 80 5, grown_refl _ _⟩
  · have hq := eql_slice g loose.length cap
    have hg : g < w.heap.size := (hl.lt g rfl).2
    have HC : Hid (∀ j u, (looseL loose)[j]? = some u → (w.alloc (.cells #[] 80)).cell? ((⟨g, 0, none⟩ : Addr).add j) = some u) := fun j u hj => by
      have h1 := hl.cells (g := g) rfl j u hj
      rw [← h1]
      refine World.cell?_of_block ?_
      have e : ((⟨g, 0, none⟩ : Addr).add j).block = g := by by_cases h : j = 0 <;> simp [Addr.add, h]
      rw [e]
      exact Below.heap_alloc w _ g hg
    have H0 : Hid ((w.alloc (.cells #[] 80)).ownsRow w.heap.size 80 5 (.slice (some ⟨w.heap.size, 0, none⟩) 0 0) 0 []) := ⟨rfl, Or.inr ⟨w.heap.size, 0, #[], rfl, Nat.le_refl _, heap_alloc_new w _, Nat.le_refl _, Nat.zero_le _, rfl, rfl⟩⟩
    have HL : Hid ((looseL loose).length = loose.length * 5) := looseL_len loose
    have HO : Hid (∀ u ∈ looseL loose, u.oneCell' = true) := looseL_one loose
    obtain ⟨i80, hi, hz0, hz1, hz2⟩ := info_parts info80
    clear hl hl'
    go_enter Try.func37, Try.ntmps37
    go_wp2_with (at_builtin; refine wpList_append_own _ rfl _ _ 62 rfl w.heap.size 80 i80 _ 5 64 Try.underlying62 hi hz0 hz1 hz2 rfl (by decide) _ _ _ rfl H0.out ⟨g, 0, none⟩ loose.length cap (looseL loose) rfl HL.out HC.out HO.out (by unfold maxLen; omega) (by omega) (by simp) ?_)
    intro v' w' h1 h2 _
    have R1 : Hid (w'.ownsRow w.heap.size 80 5 v' loose.length (looseL loose)) := h1
    have R2 : Hid (w.grownBy w' none) := grown_through (grown_alloc (grown_refl _ _) _) h2 (Nat.le_refl _)
    clear h1 h2
    go_wp2
    go_ret
    exact ⟨_, rfl, R1.out, R2.out⟩
set_option maxRecDepth 100000 in
theorem plclone_none (w : World) : Calls Try.prog 38 #[.slice none 0 0] w fun e w' => e = .returned (.slice none 0 0) ∧ w' = w := by
  have hq := eql_plan0
  go_enter Try.func38, Try.ntmps38
  go_wp2
  go_ret
  exact ⟨rfl, rfl⟩
theorem MapV.form {w : World} {base : Nat} {v : Value} {l : FS} (h : MapV w base v l) : ∃ o, v = .map o := by
  rcases h with ⟨rfl, _⟩ | ⟨g, rfl, _⟩
  · exact ⟨_, rfl⟩
  · exact ⟨_, rfl⟩
theorem size_set (w : World) (a : Addr) (v : Value) : (w.setCell a v).heap.size = w.heap.size := by simp [World.setCell]
theorem owns_base {w : World} {base base' n : Nat} {v : Value} {xs : List Value} (h : w.ownsRow base 80 5 v n xs) (hb : base' ≤ base) : w.ownsRow base' 80 5 v n xs := by
  refine ⟨h.1, ?_⟩
  rcases h.2 with h | ⟨g, cap, cur, e, hg, r⟩
  · exact Or.inl h
  · exact Or.inr ⟨g, cap, cur, e, Nat.le_trans hb hg, r⟩
theorem Blk.d7 {w : World} {b : Nat} {vn vs vl : Value} {u c : Nat} {dd : Bool} (h : Blk w b 64 (rowD vn vs vl u c dd)) : w.cell? ⟨b, 7, none⟩ = some (.int .i64 0) := by rw [h.cell]; rfl
set_option maxRecDepth 100000 in
set_option maxHeartbeats 2000000 in
theorem clone_any (base b : Nat) (k : Dk) (w : World) (h : IsDisk w base b k) (hfn : Fits k.now 1000000) (hfs : Fits k.sure 1000000) (h63 : k.loose.length ≤ 1000) :
    Calls Try.prog 14 #[.pointer (some ⟨b, 0, none⟩)] w fun e w' => e = .returned (.pointer (some ⟨w.heap.size, 0, none⟩)) ∧ IsDisk w' w.heap.size w.heap.size k ∧ w.grownBy w' none := by
  obtain ⟨hb0, vn, vs, vl, hB, hm, hsu, hne, hl⟩ := h
  obtain ⟨pa, cp, rfl⟩ := owns_slice hl
  obtain ⟨on, rfl⟩ := hm.form
  obtain ⟨os, rfl⟩ := hsu.form
  have hbw := hB.lt
  have HB : Hid (Blk w b 64 (rowD (.map on) (.map os) (.slice pa k.loose.length cp) k.unsure k.changes k.dead)) := hB
  have C1 : Hid (∀ W, w.grownBy W none → Calls Try.prog 35 #[.map on] W fun e w' => e = .returned (.map (some W.heap.size)) ∧ OwnsF w' W.heap.size k.now ∧ W.grownBy w' none) := fun W hg => fsclone_any base (.map on) k.now W (hm.kept hg (fun _ _ => by simp)) hfn
  have C2 : Hid (∀ W, w.grownBy W none → Calls Try.prog 35 #[.map os] W fun e w' => e = .returned (.map (some W.heap.size)) ∧ OwnsF w' W.heap.size k.sure ∧ W.grownBy w' none) := fun W hg => fsclone_any base (.map os) k.sure W (hsu.kept hg (fun _ _ => by simp)) hfs
  have C3 : Hid (∀ W, w.grownBy W none → Calls Try.prog 37 #[.slice pa k.loose.length cp] W fun e w' => ∃ v', e = .returned v' ∧ w'.ownsRow W.heap.size 80 5 v' k.loose.length (looseL k.loose) ∧ W.grownBy w' none) := fun W hg => slclone_any base _ k.loose W (hl.kept hg (by cases (Value.slice pa k.loose.length cp).ownBlock with | none => exact Or.inl rfl | some x => exact Or.inr (by simp))) h63
  have d0 := hB.d0
  have d1 := hB.d1
  have d2 := hB.d2
  have d3 := hB.d3
  have d4 := hB.d4
  have d5 := hB.d5
  have d6 := hB.d6
  have d7 := hB.d7
  have d8 := hB.d8
  clear hB hm hsu hne hl
  go_enter Try.func14, Try.ntmps14
  go_wp2_with (first
    | (go_at_call 35; refine (C1.out _ (grown_alloc (grown_refl _ _) _)).mono ?_; clear C1; rintro e w2 ⟨rfl, ho, hg⟩; have G2 : Hid (w.grownBy w2 none) := grown_none (grown_alloc (grown_refl _ _) _) hg; have Q2 : Hid (Blk w2 w.heap.size 64 (rowD (.map on) (.map os) (.slice pa k.loose.length cp) k.unsure k.changes k.dead)) := (Blk.new w 64 _).kept hg (by simp); rw [World.size_alloc] at ho; have O2 : Hid (OwnsF w2 (w.heap.size + 1) k.now) := ho; have hz2 : w.heap.size + 1 < w2.heap.size := ho.lt; have x0 := Q2.out.d0; have f0 := Q2.out.frozen 0; have y1 : (w2.setCell ⟨w.heap.size, 0, none⟩ (.map (some (w.heap.size + 1)))).cell? ⟨b, 1, none⟩ = some (.map os) := ((HB.out.kept G2.out (by simp)).other _ (show b ≠ w.heap.size by omega)).d1; clear ho hg)
    | (go_at_call 35; refine (C2.out _ (grown_set_new G2.out _ (Nat.le_refl _))).mono ?_; clear C2; rintro e w3 ⟨rfl, ho, hg⟩; have G3 : Hid (w.grownBy w3 none) := grown_none (grown_set_new G2.out _ (Nat.le_refl _)) hg; have Q3 : Hid (Blk w3 w.heap.size 64 (rowD (.map (some (w.heap.size + 1))) (.map os) (.slice pa k.loose.length cp) k.unsure k.changes k.dead)) := (Q2.out.set 0 _).kept hg (by simp); have O3 : Hid (OwnsF w3 (w.heap.size + 1) k.now) := (O2.out.set (by show w.heap.size + 1 ≠ w.heap.size; omega) _).kept hg (by simp); rw [size_set] at ho; have P3 : Hid (OwnsF w3 w2.heap.size k.sure) := ho; have hz3 : w2.heap.size < w3.heap.size := ho.lt; have x1 := Q3.out.d1; have f1 := Q3.out.frozen 1; have y2 : (w3.setCell ⟨w.heap.size, 1, none⟩ (.map (some w2.heap.size))).cell? ⟨b, 2, none⟩ = some (.slice pa k.loose.length cp) := ((HB.out.kept G3.out (by simp)).other _ (show b ≠ w.heap.size by omega)).d2; clear ho hg)
    | (go_at_call 37; refine (C3.out _ (grown_set_new G3.out _ (Nat.le_refl _))).mono ?_; clear C3; rintro e w4 ⟨v4, rfl, ho, hg⟩; obtain ⟨pb, cb, rfl⟩ := owns_slice ho; have G4 : Hid (w.grownBy w4 none) := grown_none (grown_set_new G3.out _ (Nat.le_refl _)) hg; have Q4 : Hid (Blk w4 w.heap.size 64 (rowD (.map (some (w.heap.size + 1))) (.map (some w2.heap.size)) (.slice pa k.loose.length cp) k.unsure k.changes k.dead)) := (Q3.out.set 1 _).kept hg (by simp); have O4 : Hid (OwnsF w4 (w.heap.size + 1) k.now) := (O3.out.set (by show w.heap.size + 1 ≠ w.heap.size; omega) _).kept hg (by simp); have P4 : Hid (OwnsF w4 w2.heap.size k.sure) := (P3.out.set (by show w2.heap.size ≠ w.heap.size; omega) _).kept hg (by simp); have L4 : Hid (w4.ownsRow w.heap.size 80 5 (.slice pb k.loose.length cb) k.loose.length (looseL k.loose)) := owns_base ho (by rw [size_set]; omega); have x2 := Q4.out.d2; have f2 := Q4.out.frozen 2; have y4 : (w4.setCell ⟨w.heap.size, 2, none⟩ (.slice pb k.loose.length cb)).cell? ⟨b, 4, none⟩ = some (.slice none 0 0) := ((HB.out.kept G4.out (by simp)).other _ (show b ≠ w.heap.size by omega)).d4; clear ho hg)
    | (go_at_call 38; refine (plclone_none _).mono ?_; rintro e w' ⟨rfl, hw⟩; have hw2 := hw.symm; clear hw; subst hw2; have x4 : (w4.setCell ⟨w.heap.size, 2, none⟩ (.slice pb k.loose.length cb)).cell? ⟨w.heap.size, 4, none⟩ = some (.slice none 0 0) := (Q4.out.set 2 (.slice pb k.loose.length cb)).d4; have f4 := (Q4.out.set 2 (.slice pb k.loose.length cb)).frozen 4))
  go_ret
  have GF := grown_set (grown_set (grown_refl w4 (some w.heap.size)) 2 (.slice pb k.loose.length cb)) 4 (.slice none 0 0)
  have n1 : some (w.heap.size + 1) ≠ some w.heap.size := fun e => by have := Option.some.inj e; omega
  have n2 : some w2.heap.size ≠ some w.heap.size := fun e => by have := Option.some.inj e; omega
  refine ⟨rfl, ⟨Nat.le_refl _, .map (some (w.heap.size + 1)), .map (some w2.heap.size), .slice pb k.loose.length cb, (Q4.out.set 2 _).set 4 _, Or.inr ⟨_, rfl, by omega, O4.out.kept GF n1⟩, Or.inr ⟨_, rfl, by omega, P4.out.kept GF n2⟩, ?_, owns_self L4.out Q4.out GF⟩, grown_through G4.out GF (Nat.le_refl _)⟩
  intro g e1 e2
  cases e1
  injection e2 with e3
  have := Option.some.inj e3
  omega
end Go.Proofs.Ytoenddcdafnmiaa
