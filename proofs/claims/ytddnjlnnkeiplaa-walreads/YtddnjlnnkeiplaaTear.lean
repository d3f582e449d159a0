/-
  tear: a change of which so many bytes alone were put.
-/
import Derived.Test.YtddnjlnnkeiplaaTru
namespace Go.Proofs.Ytddnjlnnkeiplaa
open Go.RowKit Go.Maps
set_option maxRecDepth 100000 in
set_option maxHeartbeats 1000000 in
theorem tear_no (k : Nat) (a s t : ByteArray) (z torn : Int) (w : World) (h : torn ≤ 0 ∨ 1 < k) : Calls Try.prog 78 #[.agg #[.int .i64 k, .string a, .string s, .string t, .int .i64 z], .int .i64 torn] w fun e w' =>
    e = .returned (.tuple #[.agg #[.int .i64 0, .string ⟨#[]⟩, .string ⟨#[]⟩, .string ⟨#[]⟩, .int .i64 0], .bool false]) ∧ w.grownBy w' none := by
  by_cases h0 : torn ≤ 0
  · clear h
    go_enter Try.func78, Try.ntmps78
    go_wp2
    refine bodyPost_ret (v := .tuple #[.agg #[.int .i64 0, .string ⟨#[]⟩, .string ⟨#[]⟩, .string ⟨#[]⟩, .int .i64 0], .bool false]) (by simp [results, Try.results78, go_sem]) rfl ⟨rfl, ?_⟩
    exact grown_alloc (grown_alloc (grown_refl _ _) _) _
  · have h1 : 1 < k := h.resolve_left h0
    have e0 : ((k : Int) == 0) = false := by simp; omega
    have e1 : ((k : Int) == 1) = false := by simp; omega
    have e2 : ((k : Int) != 0) = true := by simp; omega
    have e3 : ((k : Int) != 1) = true := by simp; omega
    clear h
    go_enter Try.func78, Try.ntmps78
    go_wp2
    refine bodyPost_ret (v := .tuple #[.agg #[.int .i64 0, .string ⟨#[]⟩, .string ⟨#[]⟩, .string ⟨#[]⟩, .int .i64 0], .bool false]) (by simp [results, Try.results78, go_sem]) rfl ⟨rfl, ?_⟩
    exact grown_alloc (grown_alloc (grown_refl _ _) _) _
set_option maxRecDepth 100000 in
set_option maxHeartbeats 1000000 in
theorem tear_yes (k : Nat) (a s t : ByteArray) (z : Int) (m : Nat) (w : World) (hk : k = 0 ∨ k = 1) (hm : 0 < m) (hm1 : (m : Int) ≤ 9223372036854775807) (hs : s.size ≤ 1000000) : Calls Try.prog 78 #[.agg #[.int .i64 k, .string a, .string s, .string t, .int .i64 z], .int .i64 m] w fun e w' =>
    e = .returned (.tuple #[.agg #[.int .i64 k, .string a, .string (s.extract 0 (min m s.size)), .string t, .int .i64 z], .bool true]) ∧ w.grownBy w' none := by
  have i0 : ¬ (m : Int) ≤ 0 := by omega
  have i1 : (s.size : Int) ≤ 1000000 := by omega
  have i2 : (0 : Int) ≤ m := by omega
  by_cases hle : m ≤ s.size
  · have i3 : (m : Int) ≤ s.size := by omega
    rw [Nat.min_eq_left hle]
    rcases hk with rfl | rfl
    · go_enter Try.func78, Try.ntmps78
      go_wp2
      refine bodyPost_ret (v := .tuple #[.agg #[.int .i64 0, .string a, .string (s.extract 0 m), .string t, .int .i64 z], .bool true]) (by simp [results, Try.results78, go_sem]) rfl ⟨rfl, ?_⟩
      exact grown_alloc (grown_alloc (grown_refl _ _) _) _
    · go_enter Try.func78, Try.ntmps78
      go_wp2
      refine bodyPost_ret (v := .tuple #[.agg #[.int .i64 1, .string a, .string (s.extract 0 m), .string t, .int .i64 z], .bool true]) (by simp [results, Try.results78, go_sem]) rfl ⟨rfl, ?_⟩
      exact grown_alloc (grown_alloc (grown_refl _ _) _) _
  · have i3 : (s.size : Int) < m := by omega
    have i4 : ¬ ((m : Int) ≤ s.size) := by omega
    rw [Nat.min_eq_right (by omega), extract_self]
    rcases hk with rfl | rfl
    · go_enter Try.func78, Try.ntmps78
      go_wp2
      refine bodyPost_ret (v := .tuple #[.agg #[.int .i64 0, .string a, .string s, .string t, .int .i64 z], .bool true]) (by simp [results, Try.results78, go_sem]) rfl ⟨rfl, ?_⟩
      exact grown_alloc (grown_alloc (grown_refl _ _) _) _
    · go_enter Try.func78, Try.ntmps78
      go_wp2
      refine bodyPost_ret (v := .tuple #[.agg #[.int .i64 1, .string a, .string s, .string t, .int .i64 z], .bool true]) (by simp [results, Try.results78, go_sem]) rfl ⟨rfl, ?_⟩
      exact grown_alloc (grown_alloc (grown_refl _ _) _) _
end Go.Proofs.Ytddnjlnnkeiplaa
