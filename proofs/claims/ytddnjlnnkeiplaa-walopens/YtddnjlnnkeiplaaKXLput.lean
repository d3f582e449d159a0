/-
  The changes of a disk, whatever the room, with no plan or one fall; Sync, Crash, Up. put: bytes are appended to the file, and made sure. What a disk's calls leave of a log, and a log's of a disk.
-/
import Derived.Test.YtddnjlnnkeiplaaKXPer
import Derived.Test.YtddnjlnnkeiplaaKWNum
import Derived.Test.YtddnjlnnkeiplaaKLcom
namespace Go.Proofs.Ytddnjlnnkeiplaa.X
open Go.RowKit Go.Maps
variable {xt : Xt}
/-- What a change asks of a disk. -/
structure Able (k : Dk) (L : Nat → OkChg) : Prop where
  small : Small k
  size : sizeF k.now ≤ 1000000000
  loose : ∀ i, (h : i < k.loose.length) → k.loose[i] = (L i).1
  fit : Fits k.sure 200000
theorem ans_of {e : Ending} {w w' : World} {base b g : Nat} {pl : Option Fa} {k : Dk} {c : Chg} {L : Nat → OkChg} (h : PerP xt base b g pl k c L w e w') : e = .returned (.int .i64 (ansP xt pl k c : Nat)) := h.1
set_option maxRecDepth 100000 in
theorem append_p (base b g : Nat) (k : Dk) (pl : Option Fa) (a s : ByteArray) (L : Nat → OkChg) (w : World) (h : IsDisk xt w base b k) (hp : PV xt w base g pl) (hA : Able k L) (hc : Fine ⟨0, a, s, ⟨#[]⟩, 0⟩) :
    Calls Try.prog 62 #[.pointer (some ⟨b, 0, none⟩), .string a, .string s] w (PerP xt base b g pl k ⟨0, a, s, ⟨#[]⟩, 0⟩ L w) := by
  have CP : Hid (Calls Try.prog 57 #[.pointer (some ⟨b, 0, none⟩), .agg #[.int .i64 0, .string a, .string s, .string ⟨#[]⟩, .int .i64 0]] w (PerP xt base b g pl k ⟨0, a, s, ⟨#[]⟩, 0⟩ L w)) := perform_p base b g k pl ⟨0, a, s, ⟨#[]⟩, 0⟩ L w h hp hA.small hc hA.size hA.loose hA.fit
  clear h hp hA hc
  obtain ⟨P, hP⟩ : ∃ P, P = PerP xt base b g pl k ⟨0, a, s, ⟨#[]⟩, 0⟩ L w := ⟨_, rfl⟩
  have HA : Hid (∀ e w', P e w' → e = .returned (.int .i64 (ansP xt pl k ⟨0, a, s, ⟨#[]⟩, 0⟩ : Nat))) := fun e w' hq => by
    rw [hP] at hq
    exact hq.1
  rw [← hP] at CP ⊢
  clear hP
  generalize ansP xt pl k ⟨0, a, s, ⟨#[]⟩, 0⟩ = r at *
  go_enter Try.func62, Try.ntmps62
  go_wp2_with (go_at_call 57; refine CP.out.mono ?_; intro e w' hq; have he := HA.out e w' hq; subst he; have HQ := hid hq; clear hq CP HA)
  exact HQ.out
set_option maxRecDepth 100000 in
theorem write_p (base b g : Nat) (k : Dk) (pl : Option Fa) (a s : ByteArray) (L : Nat → OkChg) (w : World) (h : IsDisk xt w base b k) (hp : PV xt w base g pl) (hA : Able k L) (hc : Fine ⟨1, a, s, ⟨#[]⟩, 0⟩) :
    Calls Try.prog 30 #[.pointer (some ⟨b, 0, none⟩), .string a, .string s] w (PerP xt base b g pl k ⟨1, a, s, ⟨#[]⟩, 0⟩ L w) := by
  have CP : Hid (Calls Try.prog 57 #[.pointer (some ⟨b, 0, none⟩), .agg #[.int .i64 1, .string a, .string s, .string ⟨#[]⟩, .int .i64 0]] w (PerP xt base b g pl k ⟨1, a, s, ⟨#[]⟩, 0⟩ L w)) := perform_p base b g k pl ⟨1, a, s, ⟨#[]⟩, 0⟩ L w h hp hA.small hc hA.size hA.loose hA.fit
  clear h hp hA hc
  obtain ⟨P, hP⟩ : ∃ P, P = PerP xt base b g pl k ⟨1, a, s, ⟨#[]⟩, 0⟩ L w := ⟨_, rfl⟩
  have HA : Hid (∀ e w', P e w' → e = .returned (.int .i64 (ansP xt pl k ⟨1, a, s, ⟨#[]⟩, 0⟩ : Nat))) := fun e w' hq => by
    rw [hP] at hq
    exact hq.1
  rw [← hP] at CP ⊢
  clear hP
  generalize ansP xt pl k ⟨1, a, s, ⟨#[]⟩, 0⟩ = r at *
  go_enter Try.func30, Try.ntmps30
  go_wp2_with (go_at_call 57; refine CP.out.mono ?_; intro e w' hq; have he := HA.out e w' hq; subst he; have HQ := hid hq; clear hq CP HA)
  exact HQ.out
set_option maxRecDepth 100000 in
theorem move_p (base b g : Nat) (k : Dk) (pl : Option Fa) (a t : ByteArray) (L : Nat → OkChg) (w : World) (h : IsDisk xt w base b k) (hp : PV xt w base g pl) (hA : Able k L) (hc : Fine ⟨2, a, ⟨#[]⟩, t, 0⟩) :
    Calls Try.prog 65 #[.pointer (some ⟨b, 0, none⟩), .string a, .string t] w (PerP xt base b g pl k ⟨2, a, ⟨#[]⟩, t, 0⟩ L w) := by
  have CP : Hid (Calls Try.prog 57 #[.pointer (some ⟨b, 0, none⟩), .agg #[.int .i64 2, .string a, .string ⟨#[]⟩, .string t, .int .i64 0]] w (PerP xt base b g pl k ⟨2, a, ⟨#[]⟩, t, 0⟩ L w)) := perform_p base b g k pl ⟨2, a, ⟨#[]⟩, t, 0⟩ L w h hp hA.small hc hA.size hA.loose hA.fit
  clear h hp hA hc
  obtain ⟨P, hP⟩ : ∃ P, P = PerP xt base b g pl k ⟨2, a, ⟨#[]⟩, t, 0⟩ L w := ⟨_, rfl⟩
  have HA : Hid (∀ e w', P e w' → e = .returned (.int .i64 (ansP xt pl k ⟨2, a, ⟨#[]⟩, t, 0⟩ : Nat))) := fun e w' hq => by
    rw [hP] at hq
    exact hq.1
  rw [← hP] at CP ⊢
  clear hP
  generalize ansP xt pl k ⟨2, a, ⟨#[]⟩, t, 0⟩ = r at *
  go_enter Try.func65, Try.ntmps65
  go_wp2_with (go_at_call 57; refine CP.out.mono ?_; intro e w' hq; have he := HA.out e w' hq; subst he; have HQ := hid hq; clear hq CP HA)
  exact HQ.out
set_option maxRecDepth 100000 in
theorem remove_p (base b g : Nat) (k : Dk) (pl : Option Fa) (a : ByteArray) (L : Nat → OkChg) (w : World) (h : IsDisk xt w base b k) (hp : PV xt w base g pl) (hA : Able k L) (hc : Fine ⟨3, a, ⟨#[]⟩, ⟨#[]⟩, 0⟩) :
    Calls Try.prog 39 #[.pointer (some ⟨b, 0, none⟩), .string a] w (PerP xt base b g pl k ⟨3, a, ⟨#[]⟩, ⟨#[]⟩, 0⟩ L w) := by
  have CP : Hid (Calls Try.prog 57 #[.pointer (some ⟨b, 0, none⟩), .agg #[.int .i64 3, .string a, .string ⟨#[]⟩, .string ⟨#[]⟩, .int .i64 0]] w (PerP xt base b g pl k ⟨3, a, ⟨#[]⟩, ⟨#[]⟩, 0⟩ L w)) := perform_p base b g k pl ⟨3, a, ⟨#[]⟩, ⟨#[]⟩, 0⟩ L w h hp hA.small hc hA.size hA.loose hA.fit
  clear h hp hA hc
  obtain ⟨P, hP⟩ : ∃ P, P = PerP xt base b g pl k ⟨3, a, ⟨#[]⟩, ⟨#[]⟩, 0⟩ L w := ⟨_, rfl⟩
  have HA : Hid (∀ e w', P e w' → e = .returned (.int .i64 (ansP xt pl k ⟨3, a, ⟨#[]⟩, ⟨#[]⟩, 0⟩ : Nat))) := fun e w' hq => by
    rw [hP] at hq
    exact hq.1
  rw [← hP] at CP ⊢
  clear hP
  generalize ansP xt pl k ⟨3, a, ⟨#[]⟩, ⟨#[]⟩, 0⟩ = r at *
  go_enter Try.func39, Try.ntmps39
  go_wp2_with (go_at_call 57; refine CP.out.mono ?_; intro e w' hq; have he := HA.out e w' hq; subst he; have HQ := hid hq; clear hq CP HA)
  exact HQ.out
set_option maxRecDepth 100000 in
theorem truncate_p (base b g : Nat) (k : Dk) (pl : Option Fa) (a : ByteArray) (n : Int) (L : Nat → OkChg) (w : World) (h : IsDisk xt w base b k) (hp : PV xt w base g pl) (hA : Able k L) (hc : Fine ⟨4, a, ⟨#[]⟩, ⟨#[]⟩, n⟩) :
    Calls Try.prog 41 #[.pointer (some ⟨b, 0, none⟩), .string a, .int .i64 n] w (PerP xt base b g pl k ⟨4, a, ⟨#[]⟩, ⟨#[]⟩, n⟩ L w) := by
  have CP : Hid (Calls Try.prog 57 #[.pointer (some ⟨b, 0, none⟩), .agg #[.int .i64 4, .string a, .string ⟨#[]⟩, .string ⟨#[]⟩, .int .i64 n]] w (PerP xt base b g pl k ⟨4, a, ⟨#[]⟩, ⟨#[]⟩, n⟩ L w)) := perform_p base b g k pl ⟨4, a, ⟨#[]⟩, ⟨#[]⟩, n⟩ L w h hp hA.small hc hA.size hA.loose hA.fit
  clear h hp hA hc
  obtain ⟨P, hP⟩ : ∃ P, P = PerP xt base b g pl k ⟨4, a, ⟨#[]⟩, ⟨#[]⟩, n⟩ L w := ⟨_, rfl⟩
  have HA : Hid (∀ e w', P e w' → e = .returned (.int .i64 (ansP xt pl k ⟨4, a, ⟨#[]⟩, ⟨#[]⟩, n⟩ : Nat))) := fun e w' hq => by
    rw [hP] at hq
    exact hq.1
  rw [← hP] at CP ⊢
  clear hP
  generalize ansP xt pl k ⟨4, a, ⟨#[]⟩, ⟨#[]⟩, n⟩ = r at *
  go_enter Try.func41, Try.ntmps41
  go_wp2_with (go_at_call 57; refine CP.out.mono ?_; intro e w' hq; have he := HA.out e w' hq; subst he; have HQ := hid hq; clear hq CP HA)
  exact HQ.out
theorem PV.self {w w' : World} {base b g : Nat} {pl : Option Fa} {cs : Array Value} (h : PV xt w base g pl) (hB : Blk w b 73 cs) (hg : w.grownBy w' (some b)) : PV xt w' base g pl := by
  cases pl with
  | none => exact h
  | some f => exact ⟨h.1, h.2.1, rowG_kept h.2.2.1 hB (by decide) hg, h.2.2.2⟩
end Go.Proofs.Ytddnjlnnkeiplaa.X
namespace Go.Proofs.Ytddnjlnnkeiplaa.X
open Go.RowKit Go.Maps
variable {xt : Xt}
/-- A log's call leaves a disk as it was. -/
theorem IsDisk.keptL {w w' : World} {base b bd d : Nat} {k : Dk} {cs : Array Value} (h : IsDisk xt w bd d k) (hb : Blk w b 77 cs) (hT : LT base b w w') : IsDisk xt w' bd d k := by
  obtain ⟨h0, vn, vs, vl, hB, hn, hs, hne, hl⟩ := h
  have keepC : ∀ (i : Nat) (t : TypeId) (cur : Array Value) (fz : Nat × Nat), w.heap[i]? = some (Obj.cells cur t fz) → t ≠ 77 → t ≠ 84 → t ≠ 5 → w'.heap[i]? = w.heap[i]? := fun i t cur fz hi h1 h2 h3 => hT.keep i (heap_lt hi) (Or.inr ⟨fun e => by
    subst e
    have hb' : w.heap[i]? = some (.cells cs 77 (0, 0)) := hb
    rw [hi] at hb'
    injection hb' with q
    injection q with q1 q2 q3
    exact h1 q2, fun cs' t' fz' hq => by
      rw [hi] at hq
      injection hq with q
      injection q with q1 q2 q3
      subst q2
      exact ⟨h2, h3⟩⟩)
  have keepM : ∀ i l, OwnsF w i l → OwnsF w' i l := fun i l ho => by
    obtain ⟨es, clock, hm⟩ := ho.isMap
    refine ho.of_heap (hT.keep i ho.lt (Or.inr ⟨fun e => ?_, fun cs' t' fz' hq => ?_⟩))
    · subst e
      exact hb.ne_map ho rfl
    · rw [hm] at hq
      cases hq
  have keepV : ∀ v l, MapV w bd v l → MapV w' bd v l := fun v l hv => by
    rcases hv with hv | ⟨g, rfl, hg, ho⟩
    · exact Or.inl hv
    · exact Or.inr ⟨g, rfl, hg, keepM g l ho⟩
  exact ⟨h0, vn, vs, vl, (keepC d 73 _ _ hB (by decide) (by decide) (by decide)).trans hB, keepV _ _ hn, keepV _ _ hs, hne, row_same hl (fun g cur hg => keepC g 101 cur _ hg (by decide) (by decide) (by decide))⟩
theorem IsDisk.blk {w : World} {base b : Nat} {k : Dk} (h : IsDisk xt w base b k) : ∃ cs, Blk w b 73 cs := by
  obtain ⟨_, vn, vs, vl, hb, _⟩ := h
  exact ⟨_, hb⟩
end Go.Proofs.Ytddnjlnnkeiplaa.X
