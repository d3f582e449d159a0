/-
  change: a change is done to a disk, by its kind.
-/
import Derived.Test.YtoenddcdafnmiaaMore
import Derived.Test.YtoenddcdafnmiaaChn
namespace Go.Proofs.Ytoenddcdafnmiaa
open Go.RowKit Go.Maps
/-- The change that the program is asked for. -/
def progC (kd : Nat) (a s t : ByteArray) (z : Int) : Chg := match kd with
  | 0 => ⟨0, a, s, ⟨#[]⟩, 0⟩
  | 1 => ⟨1, a, s, ⟨#[]⟩, 0⟩
  | 2 => ⟨2, a, ⟨#[]⟩, t, 0⟩
  | 3 => ⟨3, a, ⟨#[]⟩, ⟨#[]⟩, 0⟩
  | _ => ⟨4, a, ⟨#[]⟩, ⟨#[]⟩, z⟩
set_option maxRecDepth 100000 in
set_option maxHeartbeats 1000000 in
theorem change_0 (base b : Nat) (k : Dk) (k' z x y u : Int) (a t s : ByteArray) (w : World) (h : IsDisk w base b k) (hS : Small k) (hc : Fine ⟨0, a, fewS s, ⟨#[]⟩, 0⟩) :
    Calls Try.prog 26 #[.pointer (some ⟨b, 0, none⟩), .int .i64 0, .agg #[.int .i64 k', .string a, .string t, .string s, .int .i64 z, .int .i64 x, .int .i64 y, .int .i64 u]] w fun e w' => e = .returned (.int .i64 (ansF k ⟨0, a, fewS s, ⟨#[]⟩, 0⟩ : Nat)) ∧ IsDisk w' base b (nextD k ⟨0, a, fewS s, ⟨#[]⟩, 0⟩) ∧ Tend base b w w' := by
  have CP : Hid (∀ W, w.grownBy W none → Calls Try.prog 33 #[.pointer (some ⟨b, 0, none⟩), .string a, .string (fewS s)] W fun e w' => e = .returned (.int .i64 (ansF k ⟨0, a, fewS s, ⟨#[]⟩, 0⟩ : Nat)) ∧ IsDisk w' base b (nextD k ⟨0, a, fewS s, ⟨#[]⟩, 0⟩) ∧ Tend base b W w') := fun W hW => append_all base b k a (fewS s) W (h.kept hW) hS hc
  have CF : Hid (∀ w, Calls Try.prog 30 #[.string s] w fun e w' => e = .returned (.string (fewS s)) ∧ w' = w) := fun w => few_any s w
  clear h hS hc
  generalize ansF k ⟨0, a, fewS s, ⟨#[]⟩, 0⟩ = r at *
  generalize nextD k ⟨0, a, fewS s, ⟨#[]⟩, 0⟩ = q at *
  generalize fewS s = f at *
  go_enter Try.func26, Try.ntmps26
  go_wp2_with fail
  go_region_with (first | (go_at_call 30; refine (CF.out _).mono ?_; clear CF; rintro e w' ⟨rfl, hw⟩; have hw2 := hw.symm; clear hw; subst hw2) | (go_at_call 33; refine (CP.out _ (grown_drew (grown_alloc (grown_refl _ _) _))).mono ?_; rintro e w' ⟨rfl, h1, h2⟩; have G : Hid (IsDisk w' base b q) := h1; have H : Hid (Tend base b w w') := Tend.trans (Tend.of_none (grown_drew (grown_alloc (grown_refl _ _) _))) h2; clear h1 h2))
  all_goals (
    go_wp2_with fail
    go_ret
    exact ⟨rfl, G.out, H.out⟩)
set_option maxRecDepth 100000 in
set_option maxHeartbeats 1000000 in
theorem change_1 (base b : Nat) (k : Dk) (k' z x y u : Int) (a t s : ByteArray) (w : World) (h : IsDisk w base b k) (hS : Small k) (hc : Fine ⟨1, a, fewS s, ⟨#[]⟩, 0⟩) :
    Calls Try.prog 26 #[.pointer (some ⟨b, 0, none⟩), .int .i64 1, .agg #[.int .i64 k', .string a, .string t, .string s, .int .i64 z, .int .i64 x, .int .i64 y, .int .i64 u]] w fun e w' => e = .returned (.int .i64 (ansF k ⟨1, a, fewS s, ⟨#[]⟩, 0⟩ : Nat)) ∧ IsDisk w' base b (nextD k ⟨1, a, fewS s, ⟨#[]⟩, 0⟩) ∧ Tend base b w w' := by
  have CP : Hid (∀ W, w.grownBy W none → Calls Try.prog 34 #[.pointer (some ⟨b, 0, none⟩), .string a, .string (fewS s)] W fun e w' => e = .returned (.int .i64 (ansF k ⟨1, a, fewS s, ⟨#[]⟩, 0⟩ : Nat)) ∧ IsDisk w' base b (nextD k ⟨1, a, fewS s, ⟨#[]⟩, 0⟩) ∧ Tend base b W w') := fun W hW => write_all base b k a (fewS s) W (h.kept hW) hS hc
  have CF : Hid (∀ w, Calls Try.prog 30 #[.string s] w fun e w' => e = .returned (.string (fewS s)) ∧ w' = w) := fun w => few_any s w
  clear h hS hc
  generalize ansF k ⟨1, a, fewS s, ⟨#[]⟩, 0⟩ = r at *
  generalize nextD k ⟨1, a, fewS s, ⟨#[]⟩, 0⟩ = q at *
  generalize fewS s = f at *
  go_enter Try.func26, Try.ntmps26
  go_wp2_with fail
  go_region_with (first | (go_at_call 30; refine (CF.out _).mono ?_; clear CF; rintro e w' ⟨rfl, hw⟩; have hw2 := hw.symm; clear hw; subst hw2) | (go_at_call 34; refine (CP.out _ (grown_drew (grown_alloc (grown_refl _ _) _))).mono ?_; rintro e w' ⟨rfl, h1, h2⟩; have G : Hid (IsDisk w' base b q) := h1; have H : Hid (Tend base b w w') := Tend.trans (Tend.of_none (grown_drew (grown_alloc (grown_refl _ _) _))) h2; clear h1 h2))
  all_goals (
    go_wp2_with fail
    go_ret
    exact ⟨rfl, G.out, H.out⟩)
set_option maxRecDepth 100000 in
set_option maxHeartbeats 1000000 in
theorem change_2 (base b : Nat) (k : Dk) (k' z x y u : Int) (a t s : ByteArray) (w : World) (h : IsDisk w base b k) (hS : Small k) (hc : Fine ⟨2, a, ⟨#[]⟩, t, 0⟩) :
    Calls Try.prog 26 #[.pointer (some ⟨b, 0, none⟩), .int .i64 2, .agg #[.int .i64 k', .string a, .string t, .string s, .int .i64 z, .int .i64 x, .int .i64 y, .int .i64 u]] w fun e w' => e = .returned (.int .i64 (ansF k ⟨2, a, ⟨#[]⟩, t, 0⟩ : Nat)) ∧ IsDisk w' base b (nextD k ⟨2, a, ⟨#[]⟩, t, 0⟩) ∧ Tend base b w w' := by
  have CP : Hid (∀ W, w.grownBy W none → Calls Try.prog 40 #[.pointer (some ⟨b, 0, none⟩), .string a, .string t] W fun e w' => e = .returned (.int .i64 (ansF k ⟨2, a, ⟨#[]⟩, t, 0⟩ : Nat)) ∧ IsDisk w' base b (nextD k ⟨2, a, ⟨#[]⟩, t, 0⟩) ∧ Tend base b W w') := fun W hW => move_all base b k a t W (h.kept hW) hS hc
  clear h hS hc
  generalize ansF k ⟨2, a, ⟨#[]⟩, t, 0⟩ = r at *
  generalize nextD k ⟨2, a, ⟨#[]⟩, t, 0⟩ = q at *
  go_enter Try.func26, Try.ntmps26
  go_wp2_with (go_at_call 40; refine (CP.out _ (grown_alloc (grown_refl _ _) _)).mono ?_; rintro e w' ⟨rfl, h1, h2⟩; have G : Hid (IsDisk w' base b q) := h1; have H : Hid (Tend base b w w') := Tend.trans (Tend.of_none (grown_alloc (grown_refl _ _) _)) h2; clear h1 h2)
  go_ret
  exact ⟨rfl, G.out, H.out⟩
set_option maxRecDepth 100000 in
set_option maxHeartbeats 1000000 in
theorem change_3 (base b : Nat) (k : Dk) (k' z x y u : Int) (a t s : ByteArray) (w : World) (h : IsDisk w base b k) (hS : Small k) (hc : Fine ⟨3, a, ⟨#[]⟩, ⟨#[]⟩, 0⟩) :
    Calls Try.prog 26 #[.pointer (some ⟨b, 0, none⟩), .int .i64 3, .agg #[.int .i64 k', .string a, .string t, .string s, .int .i64 z, .int .i64 x, .int .i64 y, .int .i64 u]] w fun e w' => e = .returned (.int .i64 (ansF k ⟨3, a, ⟨#[]⟩, ⟨#[]⟩, 0⟩ : Nat)) ∧ IsDisk w' base b (nextD k ⟨3, a, ⟨#[]⟩, ⟨#[]⟩, 0⟩) ∧ Tend base b w w' := by
  have CP : Hid (∀ W, w.grownBy W none → Calls Try.prog 41 #[.pointer (some ⟨b, 0, none⟩), .string a] W fun e w' => e = .returned (.int .i64 (ansF k ⟨3, a, ⟨#[]⟩, ⟨#[]⟩, 0⟩ : Nat)) ∧ IsDisk w' base b (nextD k ⟨3, a, ⟨#[]⟩, ⟨#[]⟩, 0⟩) ∧ Tend base b W w') := fun W hW => remove_all base b k a W (h.kept hW) hS hc
  clear h hS hc
  generalize ansF k ⟨3, a, ⟨#[]⟩, ⟨#[]⟩, 0⟩ = r at *
  generalize nextD k ⟨3, a, ⟨#[]⟩, ⟨#[]⟩, 0⟩ = q at *
  go_enter Try.func26, Try.ntmps26
  go_wp2_with (go_at_call 41; refine (CP.out _ (grown_alloc (grown_refl _ _) _)).mono ?_; rintro e w' ⟨rfl, h1, h2⟩; have G : Hid (IsDisk w' base b q) := h1; have H : Hid (Tend base b w w') := Tend.trans (Tend.of_none (grown_alloc (grown_refl _ _) _)) h2; clear h1 h2)
  go_ret
  exact ⟨rfl, G.out, H.out⟩
set_option maxRecDepth 100000 in
set_option maxHeartbeats 1000000 in
theorem change_4 (base b : Nat) (k : Dk) (k' z x y u : Int) (a t s : ByteArray) (w : World) (h : IsDisk w base b k) (hS : Small k) (hc : Fine ⟨4, a, ⟨#[]⟩, ⟨#[]⟩, z⟩) :
    Calls Try.prog 26 #[.pointer (some ⟨b, 0, none⟩), .int .i64 4, .agg #[.int .i64 k', .string a, .string t, .string s, .int .i64 z, .int .i64 x, .int .i64 y, .int .i64 u]] w fun e w' => e = .returned (.int .i64 (ansF k ⟨4, a, ⟨#[]⟩, ⟨#[]⟩, z⟩ : Nat)) ∧ IsDisk w' base b (nextD k ⟨4, a, ⟨#[]⟩, ⟨#[]⟩, z⟩) ∧ Tend base b w w' := by
  have CP : Hid (∀ W, w.grownBy W none → Calls Try.prog 42 #[.pointer (some ⟨b, 0, none⟩), .string a, .int .i64 z] W fun e w' => e = .returned (.int .i64 (ansF k ⟨4, a, ⟨#[]⟩, ⟨#[]⟩, z⟩ : Nat)) ∧ IsDisk w' base b (nextD k ⟨4, a, ⟨#[]⟩, ⟨#[]⟩, z⟩) ∧ Tend base b W w') := fun W hW => truncate_all base b k a z W (h.kept hW) hS hc
  clear h hS hc
  generalize ansF k ⟨4, a, ⟨#[]⟩, ⟨#[]⟩, z⟩ = r at *
  generalize nextD k ⟨4, a, ⟨#[]⟩, ⟨#[]⟩, z⟩ = q at *
  go_enter Try.func26, Try.ntmps26
  go_wp2_with (go_at_call 42; refine (CP.out _ (grown_alloc (grown_refl _ _) _)).mono ?_; rintro e w' ⟨rfl, h1, h2⟩; have G : Hid (IsDisk w' base b q) := h1; have H : Hid (Tend base b w w') := Tend.trans (Tend.of_none (grown_alloc (grown_refl _ _) _)) h2; clear h1 h2)
  go_ret
  exact ⟨rfl, G.out, H.out⟩
theorem change_any (base b : Nat) (k : Dk) (kd : Nat) (k' z x y u : Int) (a t s : ByteArray) (w : World) (h : IsDisk w base b k) (hS : Small k) (hk : kd ≤ 4) (ha : a.size ≤ maxLen) (ht : t.size ≤ maxLen) (hz : z ≤ 9223372036854775807) :
    Calls Try.prog 26 #[.pointer (some ⟨b, 0, none⟩), .int .i64 kd, .agg #[.int .i64 k', .string a, .string t, .string s, .int .i64 z, .int .i64 x, .int .i64 y, .int .i64 u]] w fun e w' => e = .returned (.int .i64 (ansF k (progC kd a (fewS s) t z) : Nat)) ∧ IsDisk w' base b (nextD k (progC kd a (fewS s) t z)) ∧ Tend base b w w' := by
  have f0 : (fewS s).size ≤ 1000000 := by have := fewS_size s; omega
  have e0 : (⟨#[]⟩ : ByteArray).size ≤ maxLen := Nat.zero_le _
  have e1 : (⟨#[]⟩ : ByteArray).size ≤ 1000000 := Nat.zero_le _
  have z0 : (0 : Int) ≤ 9223372036854775807 := by decide
  match kd, hk with
  | 0, _ => exact change_0 base b k k' z x y u a t s w h hS ⟨(by show (0 : Nat) ≤ 4; decide), ha, e0, f0, z0⟩
  | 1, _ => exact change_1 base b k k' z x y u a t s w h hS ⟨(by show (1 : Nat) ≤ 4; decide), ha, e0, f0, z0⟩
  | 2, _ => exact change_2 base b k k' z x y u a t s w h hS ⟨(by show (2 : Nat) ≤ 4; decide), ha, ht, e1, z0⟩
  | 3, _ => exact change_3 base b k k' z x y u a t s w h hS ⟨(by show (3 : Nat) ≤ 4; decide), ha, e0, e1, z0⟩
  | 4, _ => exact change_4 base b k k' z x y u a t s w h hS ⟨(by show (4 : Nat) ≤ 4; decide), ha, e0, e1, hz⟩
  | n + 5, h => exact absurd h (by omega)
end Go.Proofs.Ytoenddcdafnmiaa
