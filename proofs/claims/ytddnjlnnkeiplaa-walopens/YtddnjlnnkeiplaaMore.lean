/-
  The exported changes of a disk; Sync; how many changes there were.
-/
import Derived.Test.YtddnjlnnkeiplaaKChgs
namespace Go.Proofs.Ytddnjlnnkeiplaa
open Go.RowKit Go.Maps
set_option maxRecDepth 100000 in
theorem append_all (base b : Nat) (k : Dk) (a s : ByteArray) (w : World) (h : IsDisk w base b k) (hS : Small k) (hc : Fine ⟨0, a, s, ⟨#[]⟩, 0⟩) :
    Calls Try.prog 62 #[.pointer (some ⟨b, 0, none⟩), .string a, .string s] w fun e w' => e = .returned (.int .i64 (ansF k ⟨0, a, s, ⟨#[]⟩, 0⟩ : Nat)) ∧ IsDisk w' base b (nextD k ⟨0, a, s, ⟨#[]⟩, 0⟩) ∧ Tend base b w w' := by
  have CP : Hid (Calls Try.prog 57 #[.pointer (some ⟨b, 0, none⟩), .agg #[.int .i64 0, .string a, .string s, .string ⟨#[]⟩, .int .i64 0]] w fun e w' => e = .returned (.int .i64 (ansF k ⟨0, a, s, ⟨#[]⟩, 0⟩ : Nat)) ∧ IsDisk w' base b (nextD k ⟨0, a, s, ⟨#[]⟩, 0⟩) ∧ Tend base b w w') := perform_all base b k ⟨0, a, s, ⟨#[]⟩, 0⟩ w h hS hc
  clear h hS hc
  generalize ansF k ⟨0, a, s, ⟨#[]⟩, 0⟩ = r at *
  generalize nextD k ⟨0, a, s, ⟨#[]⟩, 0⟩ = k' at *
  go_enter Try.func62, Try.ntmps62
  go_wp2_with (go_at_call 57; refine CP.out.mono ?_; rintro e w' ⟨rfl, h1, h2⟩; have R1 : Hid (IsDisk w' base b k') := h1; have R2 : Hid (Tend base b w w') := h2; clear h1 h2)
  go_ret
  exact ⟨rfl, R1.out, R2.out⟩
set_option maxRecDepth 100000 in
theorem write_all (base b : Nat) (k : Dk) (a s : ByteArray) (w : World) (h : IsDisk w base b k) (hS : Small k) (hc : Fine ⟨1, a, s, ⟨#[]⟩, 0⟩) :
    Calls Try.prog 30 #[.pointer (some ⟨b, 0, none⟩), .string a, .string s] w fun e w' => e = .returned (.int .i64 (ansF k ⟨1, a, s, ⟨#[]⟩, 0⟩ : Nat)) ∧ IsDisk w' base b (nextD k ⟨1, a, s, ⟨#[]⟩, 0⟩) ∧ Tend base b w w' := by
  have CP : Hid (Calls Try.prog 57 #[.pointer (some ⟨b, 0, none⟩), .agg #[.int .i64 1, .string a, .string s, .string ⟨#[]⟩, .int .i64 0]] w fun e w' => e = .returned (.int .i64 (ansF k ⟨1, a, s, ⟨#[]⟩, 0⟩ : Nat)) ∧ IsDisk w' base b (nextD k ⟨1, a, s, ⟨#[]⟩, 0⟩) ∧ Tend base b w w') := perform_all base b k ⟨1, a, s, ⟨#[]⟩, 0⟩ w h hS hc
  clear h hS hc
  generalize ansF k ⟨1, a, s, ⟨#[]⟩, 0⟩ = r at *
  generalize nextD k ⟨1, a, s, ⟨#[]⟩, 0⟩ = k' at *
  go_enter Try.func30, Try.ntmps30
  go_wp2_with (go_at_call 57; refine CP.out.mono ?_; rintro e w' ⟨rfl, h1, h2⟩; have R1 : Hid (IsDisk w' base b k') := h1; have R2 : Hid (Tend base b w w') := h2; clear h1 h2)
  go_ret
  exact ⟨rfl, R1.out, R2.out⟩
set_option maxRecDepth 100000 in
theorem move_all (base b : Nat) (k : Dk) (a t : ByteArray) (w : World) (h : IsDisk w base b k) (hS : Small k) (hc : Fine ⟨2, a, ⟨#[]⟩, t, 0⟩) :
    Calls Try.prog 65 #[.pointer (some ⟨b, 0, none⟩), .string a, .string t] w fun e w' => e = .returned (.int .i64 (ansF k ⟨2, a, ⟨#[]⟩, t, 0⟩ : Nat)) ∧ IsDisk w' base b (nextD k ⟨2, a, ⟨#[]⟩, t, 0⟩) ∧ Tend base b w w' := by
  have CP : Hid (Calls Try.prog 57 #[.pointer (some ⟨b, 0, none⟩), .agg #[.int .i64 2, .string a, .string ⟨#[]⟩, .string t, .int .i64 0]] w fun e w' => e = .returned (.int .i64 (ansF k ⟨2, a, ⟨#[]⟩, t, 0⟩ : Nat)) ∧ IsDisk w' base b (nextD k ⟨2, a, ⟨#[]⟩, t, 0⟩) ∧ Tend base b w w') := perform_all base b k ⟨2, a, ⟨#[]⟩, t, 0⟩ w h hS hc
  clear h hS hc
  generalize ansF k ⟨2, a, ⟨#[]⟩, t, 0⟩ = r at *
  generalize nextD k ⟨2, a, ⟨#[]⟩, t, 0⟩ = k' at *
  go_enter Try.func65, Try.ntmps65
  go_wp2_with (go_at_call 57; refine CP.out.mono ?_; rintro e w' ⟨rfl, h1, h2⟩; have R1 : Hid (IsDisk w' base b k') := h1; have R2 : Hid (Tend base b w w') := h2; clear h1 h2)
  go_ret
  exact ⟨rfl, R1.out, R2.out⟩
set_option maxRecDepth 100000 in
theorem remove_all (base b : Nat) (k : Dk) (a : ByteArray) (w : World) (h : IsDisk w base b k) (hS : Small k) (hc : Fine ⟨3, a, ⟨#[]⟩, ⟨#[]⟩, 0⟩) :
    Calls Try.prog 39 #[.pointer (some ⟨b, 0, none⟩), .string a] w fun e w' => e = .returned (.int .i64 (ansF k ⟨3, a, ⟨#[]⟩, ⟨#[]⟩, 0⟩ : Nat)) ∧ IsDisk w' base b (nextD k ⟨3, a, ⟨#[]⟩, ⟨#[]⟩, 0⟩) ∧ Tend base b w w' := by
  have CP : Hid (Calls Try.prog 57 #[.pointer (some ⟨b, 0, none⟩), .agg #[.int .i64 3, .string a, .string ⟨#[]⟩, .string ⟨#[]⟩, .int .i64 0]] w fun e w' => e = .returned (.int .i64 (ansF k ⟨3, a, ⟨#[]⟩, ⟨#[]⟩, 0⟩ : Nat)) ∧ IsDisk w' base b (nextD k ⟨3, a, ⟨#[]⟩, ⟨#[]⟩, 0⟩) ∧ Tend base b w w') := perform_all base b k ⟨3, a, ⟨#[]⟩, ⟨#[]⟩, 0⟩ w h hS hc
  clear h hS hc
  generalize ansF k ⟨3, a, ⟨#[]⟩, ⟨#[]⟩, 0⟩ = r at *
  generalize nextD k ⟨3, a, ⟨#[]⟩, ⟨#[]⟩, 0⟩ = k' at *
  go_enter Try.func39, Try.ntmps39
  go_wp2_with (go_at_call 57; refine CP.out.mono ?_; rintro e w' ⟨rfl, h1, h2⟩; have R1 : Hid (IsDisk w' base b k') := h1; have R2 : Hid (Tend base b w w') := h2; clear h1 h2)
  go_ret
  exact ⟨rfl, R1.out, R2.out⟩
set_option maxRecDepth 100000 in
theorem truncate_all (base b : Nat) (k : Dk) (a : ByteArray) (n : Int) (w : World) (h : IsDisk w base b k) (hS : Small k) (hc : Fine ⟨4, a, ⟨#[]⟩, ⟨#[]⟩, n⟩) :
    Calls Try.prog 41 #[.pointer (some ⟨b, 0, none⟩), .string a, .int .i64 n] w fun e w' => e = .returned (.int .i64 (ansF k ⟨4, a, ⟨#[]⟩, ⟨#[]⟩, n⟩ : Nat)) ∧ IsDisk w' base b (nextD k ⟨4, a, ⟨#[]⟩, ⟨#[]⟩, n⟩) ∧ Tend base b w w' := by
  have CP : Hid (Calls Try.prog 57 #[.pointer (some ⟨b, 0, none⟩), .agg #[.int .i64 4, .string a, .string ⟨#[]⟩, .string ⟨#[]⟩, .int .i64 n]] w fun e w' => e = .returned (.int .i64 (ansF k ⟨4, a, ⟨#[]⟩, ⟨#[]⟩, n⟩ : Nat)) ∧ IsDisk w' base b (nextD k ⟨4, a, ⟨#[]⟩, ⟨#[]⟩, n⟩) ∧ Tend base b w w') := perform_all base b k ⟨4, a, ⟨#[]⟩, ⟨#[]⟩, n⟩ w h hS hc
  clear h hS hc
  generalize ansF k ⟨4, a, ⟨#[]⟩, ⟨#[]⟩, n⟩ = r at *
  generalize nextD k ⟨4, a, ⟨#[]⟩, ⟨#[]⟩, n⟩ = k' at *
  go_enter Try.func41, Try.ntmps41
  go_wp2_with (go_at_call 57; refine CP.out.mono ?_; rintro e w' ⟨rfl, h1, h2⟩; have R1 : Hid (IsDisk w' base b k') := h1; have R2 : Hid (Tend base b w w') := h2; clear h1 h2)
  go_ret
  exact ⟨rfl, R1.out, R2.out⟩
/-- A disk behind a Sync. -/
def syncD (k : Dk) : Dk := { k with sure := k.now, loose := [], unsure := 0 }
set_option maxRecDepth 100000 in
theorem sync_dead (base b : Nat) (k : Dk) (w : World) (h : IsDisk w base b k) (hd : k.dead = true) :
    Calls Try.prog 31 #[.pointer (some ⟨b, 0, none⟩)] w fun e w' => e = .returned (.int .i64 7) ∧ w' = w := by
  obtain ⟨hb0, vn, vs, vl, hB, _⟩ := h
  have c8 := hB.d8
  rw [hd] at c8
  clear hB
  go_enter Try.func31, Try.ntmps31
  go_wp2_with (go_at_call 27; refine (dead_any b true _ c8).mono ?_; rintro e w' ⟨rfl, hw⟩; have hw2 := hw.symm; clear hw; subst hw2)
  go_ret
  exact ⟨rfl, rfl⟩
set_option maxRecDepth 100000 in
set_option maxHeartbeats 1000000 in
theorem sync_any (base b : Nat) (k : Dk) (w : World) (h : IsDisk w base b k) (hd : k.dead = false) (hf : Fits k.now 1000000) :
    Calls Try.prog 31 #[.pointer (some ⟨b, 0, none⟩)] w fun e w' => e = .returned (.int .i64 0) ∧ IsDisk w' base b (syncD k) ∧ w.grownBy w' (some b) := by
  obtain ⟨hb0, vn, vs, vl, hB, hm, hsu, hne, hl⟩ := h
  have c8 := hB.d8
  have c0 := hB.d0
  rw [hd] at c8
  have CC : Hid (Calls Try.prog 58 #[vn] w fun e w' => e = .returned (.map (some w.heap.size)) ∧ OwnsF w' w.heap.size k.now ∧ w.grownBy w' none) := fsclone_any base vn k.now w hm hf
  have HB : Hid (Blk w b 73 (rowD vn vs vl k.unsure k.changes k.dead)) := hB
  have HM : Hid (MapV w base vn k.now) := hm
  have hbw := hB.lt
  clear hB hm hsu hne hl hf
  go_enter Try.func31, Try.ntmps31
  go_wp2_with (first | (go_at_call 27; refine (dead_any b false _ c8).mono ?_; rintro e w' ⟨rfl, hw⟩; have hw2 := hw.symm; clear hw; subst hw2) | (go_at_call 58; refine CC.out.mono ?_; clear CC; rintro e w1 ⟨rfl, ho1, hg1⟩; have O1 : Hid (OwnsF w1 w.heap.size k.now) := ho1; have G1 : Hid (w.grownBy w1 none) := hg1; have B1 : Hid (Blk w1 b 73 (rowD vn vs vl k.unsure k.changes k.dead)) := HB.out.kept hg1 (by simp); have d1 := B1.out.d1; have d2 := B1.out.d2; have d3 := B1.out.d3; have f1 := B1.out.frozen 1; have f2 := B1.out.frozen 2; have f3 := B1.out.frozen 3; clear ho1 hg1))
  go_ret
  have BF := ((B1.out.set 1 (.map (some w.heap.size))).set 2 (.slice none 0 0)).set 3 (.int .i64 0)
  have GF := grown_set (grown_set (grown_set (grown_refl w1 (some b)) 1 (.map (some w.heap.size))) 2 (.slice none 0 0)) 3 (.int .i64 0)
  have gb : some w.heap.size ≠ some b := fun e => by have := Option.some.inj e; omega
  refine ⟨rfl, ⟨hb0, vn, .map (some w.heap.size), .slice none 0 0, BF, (HM.out.kept G1.out (fun _ _ => by simp)).kept GF (fun g e => ?_), Or.inr ⟨w.heap.size, rfl, by omega, O1.out.kept GF gb⟩, ?_, ⟨rfl, Or.inl ⟨rfl, rfl⟩⟩⟩, ?_⟩
  · rcases HM.out with ⟨e', _⟩ | ⟨g', e', _, ho⟩
    · rw [e'] at e; cases e
    · rw [e'] at e
      cases e
      exact fun e => HB.out.ne_map ho (Option.some.inj e).symm
  · intro g e1 e2
    rcases HM.out with ⟨e', _⟩ | ⟨g', e', _, ho⟩
    · rw [e'] at e1; cases e1
    · rw [e'] at e1
      cases e1
      injection e2 with e3
      have := Option.some.inj e3
      have := ho.lt
      omega
  · exact World.grownBy.andThen (World.grownBy.but G1.out (some b)) GF (fun j e => Or.inr (by rw [← e]))
set_option maxRecDepth 100000 in
theorem changes_any (base b : Nat) (k : Dk) (w : World) (h : IsDisk w base b k) : Calls Try.prog 25 #[.pointer (some ⟨b, 0, none⟩)] w fun e w' => e = .returned (.int .i64 k.changes) ∧ w' = w := by
  obtain ⟨hb0, vn, vs, vl, hB, _⟩ := h
  have c5 := hB.d5
  clear hB
  go_enter Try.func25, Try.ntmps25
  go_wp2
  go_ret
  exact ⟨rfl, rfl⟩
/-- The bytes of all files. -/
def sizeF (l : FS) : Nat := (l.map fun p => p.2.size).sum
end Go.Proofs.Ytddnjlnnkeiplaa
