/-
  ValOrders: the law.
-/
import Derived.Test.YtnbolfogmhlanaaOr
import Derived.Test.YtnbolfogmhlanaaOm
namespace Go.Proofs.Ytnbolfogmhlanaa
open Go.RowKit
def sop : Nat → BinOp
  | 0 => .lss
  | 1 => .eql
  | _ => .gtr
theorem orders_ints (x y : Int) (w : World) : Calls Try.prog 6 #[vl 1 x, vl 1 y] w (GrP (.bool true) w) := by
  refine orders_1 x y (fun i => cmpI (sop i) x y) (cmpI .leq x y) (cmpI .eql x y) false (IntKind.u64.wrap x).toNat (IntKind.u64.wrap y).toNat w ?_ ?_ ?_ ?_ ?_ (fun W => of_any 1 x W) (fun W => of_any 1 y W) rfl ?_
  · intro i hi W
    have h3 : i = 0 ∨ i = 1 ∨ i = 2 := by omega
    rcases h3 with rfl | rfl | rfl
    · exact bin_int _ _ _ _ _ _ W known_lss_1 (who_lss x y)
    · exact bin_int _ _ _ _ _ _ W known_eql_1 (who_eql x y)
    · exact bin_int _ _ _ _ _ _ W known_gtr_1 (who_gtr x y)
  · exact fun W => bin_int _ _ _ _ _ _ W known_leq_1 (who_leq x y)
  · exact fun W => bin_int _ _ _ _ _ _ W known_geq_1 (who_geq y x)
  · exact fun W => bin_int _ _ _ _ _ _ W known_neq_1 (who_neq x y)
  · exact fun W => bin_int _ _ _ _ _ _ W known_eql_1 (who_eql x y)
  · have h : x < y ∨ x = y ∨ y < x := by omega
    rcases h with h | h | h
    · have h2 : ¬ x = y := by omega
      have h3 : ¬ y < x := by omega
      simp [cnt, cmpI, sop, b2i, h, h2, h3]
    · subst h
      simp [cnt, cmpI, sop, b2i]
    · have h2 : ¬ x = y := by omega
      have h3 : ¬ x < y := by omega
      simp [cnt, cmpI, sop, b2i, h, h2, h3]
theorem orders_floats (x y : Int) (w : World) : Calls Try.prog 6 #[vl 2 x, vl 2 y] w (GrP (.bool true) w) := by
  refine orders_2 x y (fun i => cmpF (sop i) (IntKind.u64.wrap x).toNat (IntKind.u64.wrap y).toNat) (cmpF .leq (IntKind.u64.wrap x).toNat (IntKind.u64.wrap y).toNat) (cmpF .eql (IntKind.u64.wrap x).toNat (IntKind.u64.wrap y).toNat) _ (IntKind.u64.wrap x).toNat (IntKind.u64.wrap y).toNat w ?_ ?_ ?_ ?_ ?_ (fun W => of_any 2 x W) (fun W => of_any 2 y W) rfl ?_
  · intro i hi W
    have h3 : i = 0 ∨ i = 1 ∨ i = 2 := by omega
    rcases h3 with rfl | rfl | rfl
    · exact bin_float _ _ _ _ _ W known_lss_2 (num_lss _ _)
    · exact bin_float _ _ _ _ _ W known_eql_2 (num_eql _ _)
    · exact bin_float _ _ _ _ _ W known_gtr_2 (num_gtr _ _)
  · exact fun W => bin_float _ _ _ _ _ W known_leq_2 (num_leq _ _)
  · intro W
    have e : cmpF .leq (IntKind.u64.wrap x).toNat (IntKind.u64.wrap y).toNat = cmpF .geq (IntKind.u64.wrap y).toNat (IntKind.u64.wrap x).toNat := by
      generalize (IntKind.u64.wrap x).toNat = X
      generalize (IntKind.u64.wrap y).toNat = Y
      unfold cmpF
      cases h : (nanB X || nanB Y) with
      | true =>
        have h2 : (nanB Y || nanB X) = true := by rw [Bool.or_comm]; exact h
        simp only [cmp_nan X Y h, cmp_nan Y X h2]
        rfl
      | false =>
        obtain ⟨o, h1, h2⟩ := cmp_some X Y h
        simp only [h1, h2]
        cases o <;> rfl
    rw [e]
    exact bin_float _ _ _ _ _ W known_geq_2 (num_geq _ _)
  · exact fun W => bin_float _ _ _ _ _ W known_neq_2 (num_neq _ _)
  · exact fun W => bin_float _ _ _ _ _ W known_eql_2 (num_eql _ _)
  · generalize (IntKind.u64.wrap x).toNat = X
    generalize (IntKind.u64.wrap y).toNat = Y
    cases h : (nanB X || nanB Y) with
    | true => simp [cnt, cmpF, sop, b2i, cmp_nan X Y h]
    | false =>
      obtain ⟨o, h1, h2⟩ := cmp_some X Y h
      simp only [cnt, cmpF, sop, b2i, h1]
      cases o <;> rfl
set_option maxRecDepth 100000 in
theorem orders_other (s x t y : Int) (w : World) (h : ¬ (s = t ∧ (s = 1 ∨ s = 2))) : Calls Try.prog 6 #[vl s x, vl t y] w (GrP (.bool true) w) := by
  have AW : Hid (∀ W, Calls Try.prog 12 #[] W (GrP (.bool true) W)) := fun W => awake_any W
  unfold GrP at *
  by_cases h1 : s = t
  · subst h1
    have h2 : ¬ s = 1 := fun e => h ⟨rfl, Or.inl e⟩
    have h3 : ¬ s = 2 := fun e => h ⟨rfl, Or.inr e⟩
    have q2 : (s != 1) = true := by simpa using h2
    have q3 : (s != 2) = true := by simpa using h3
    clear h h2 h3
    go_enter Try.func6, Try.ntmps6
    go_wp2_with (first
      | (go_at_call 12; refine (AW.out _).mono ?_; rintro e v ⟨rfl, hg⟩; have G := hid (grown_trans (grow2 (grow1 w _) _) hg); clear hg))
    go_ret
    exact ⟨rfl, G.out⟩
  · have q1 : (s != t) = true := by simpa using h1
    clear h h1
    go_enter Try.func6, Try.ntmps6
    go_wp2_with (first
      | (go_at_call 12; refine (AW.out _).mono ?_; rintro e v ⟨rfl, hg⟩; have G := hid (grown_trans (grow2 (grow1 w _) _) hg); clear hg))
    go_ret
    exact ⟨rfl, G.out⟩
theorem orders_law (s x t y : Int) (w : World) : Calls Try.prog 6 #[vl s x, vl t y] w (GrP (.bool true) w) := by
  by_cases h : s = t ∧ (s = 1 ∨ s = 2)
  · obtain ⟨rfl, rfl | rfl⟩ := h
    · exact orders_ints x y w
    · exact orders_floats x y w
  · exact orders_other s x t y w h
end Go.Proofs.Ytnbolfogmhlanaa
