/-
  What every statement of the layer asks first; texts that are too long.
-/
import Derived.Test.YthpeckoleiecbaaDoorTk
namespace Go.Proofs.YthpeckoleiecbaaDoor
open Go.RowKit
def awS : ByteArray := ⟨#[97, 58, 61, 49, 46, 53, 32, 47, 47, 32, 120]⟩
def awL : List Tk := [⟨1, [97], 0⟩, ⟨5, [58, 61], 1⟩, ⟨3, [49, 46, 53], 3⟩, ⟨0, [], 11⟩]
theorem aw_toks : toks awS.toList = .ok awL := by
  rw [show awS.toList = [97, 58, 61, 49, 46, 53, 32, 47, 47, 32, 120] by unfold awS; rw [ByteArray.toList_eq]]
  kernel_rfl
set_option maxRecDepth 100000 in
set_option maxHeartbeats 1000000 in
theorem awake_any (w : World) : Calls Tryd.prog 6 #[] w fun e w' => e = .returned (.bool true) ∧ w.grownBy w' none := by
  have C : Hid (∀ W, Calls Tryd.prog 5 #[.string ⟨#[97, 58, 61, 49, 46, 53, 32, 47, 47, 32, 120]⟩] W (TokPost 30 W (.ok awL))) := fun W => by
    have := tokens_any awS W (by decide)
    rw [aw_toks] at this
    exact this
  go_enter Tryd.func6, Tryd.ntmps6
  go_wp2_with (go_at_call 5; refine (C.out _).mono ?_; rintro e w1 ⟨v, rfl, ht, hg⟩; have G1 := hid hg; obtain ⟨pa, cap, rfl, _⟩ := row_form ht; obtain ⟨g, rfl, q1, q2, q3⟩ := ht.cell 0 (by decide); obtain ⟨g', eg, r1, r2, r3⟩ := ht.cell 1 (by decide); obtain ⟨g'', eg2, t1, t2, t3⟩ := ht.cell 2 (by decide); obtain ⟨g3, eg3, v1, v2, v3⟩ := ht.cell 3 (by decide); injection eg with eg; injection eg with eg; subst eg; injection eg2 with eg2; injection eg2 with eg2; subst eg2; injection eg3 with eg3; injection eg3 with eg3; subst eg3; have e1 : w1.cell? ⟨g, 0, none⟩ = some (.int .i64 1) := q1; have e2 : w1.cell? ⟨g, 4, none⟩ = some (.string ⟨#[58, 61]⟩) := r2; have e3 : w1.cell? ⟨g, 6, none⟩ = some (.int .i64 3) := t1; have e4 : w1.cell? ⟨g, 9, none⟩ = some (.int .i64 0) := v1; have el : awL.length = 4 := rfl; rw [el]; clear el q1 q2 q3 r1 r2 r3 t1 t2 t3 v1 v2 v3 ht hg C)
  go_ret
  exact ⟨rfl, G1.out⟩
set_option maxRecDepth 100000 in
theorem tokens_long (s : ByteArray) (w : World) (hs : 4096 < s.size) : Calls Tryd.prog 5 #[.string s] w fun e w' => e = .returned (.tuple #[.slice none 0 0, .int .i64 4096, .int .i64 3]) ∧ w' = w := by
  have h : (4096 : Int) < s.size := by omega
  go_enter Tryd.func5, Tryd.ntmps5
  go_wp2
  go_ret3
  exact ⟨rfl, rfl⟩
end Go.Proofs.YthpeckoleiecbaaDoor
