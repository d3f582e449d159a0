/-
  The calls of a disk, whole: Append, Write, Crash, Up, Read.
-/
import Derived.Test.YtddnjlnnkeiplaaFail
namespace Go.Proofs.Ytddnjlnnkeiplaa
open Go.RowKit Go.Maps
/-- A disk behind a change that was done. -/
def stepD (k : Dk) (c : Chg) : Dk := { k with now := doF k.now c, loose := if k.loose.length ≤ 62 then k.loose ++ [c] else k.loose, unsure := k.unsure + 1, changes := k.changes + 1 }
theorem OwnsF.of_heap {w w' : World} {g : Nat} {l : FS} (h : OwnsF w g l) (e : w'.heap[g]? = w.heap[g]?) : OwnsF w' g l := by
  obtain ⟨es, clock, hb, r⟩ := h
  exact ⟨es, clock, e.trans hb, r⟩
theorem disk_of_perf {base b : Nat} {k : Dk} {c : Chg} {vn vs vl : Value} {w w' : World} (hb0 : base ≤ b) (hB : Blk w b 73 (rowD vn vs vl k.unsure k.changes k.dead)) (hn : MapV w base vn k.now) (hs : MapV w base vs k.sure) (hne : ∀ g, vn = .map (some g) → vs ≠ .map (some g)) (hl : w.ownsRow base 101 5 vl k.loose.length (looseL k.loose)) (hdd : k.dead = false)
    (h : PerfPost base b vn vs vl k.unsure k.changes k.now k.loose c w w') : IsDisk w' base b (stepD k c) ∧ Tend base b w w' := by
  obtain ⟨g, vl', hg, hB', ho, hl', hT, hF⟩ := h
  have hbw := hB.lt
  refine ⟨⟨hb0, .map (some g), vs, vl', ?_, Or.inr ⟨g, rfl, ?_, ho⟩, ?_, ?_, ?_⟩, hT⟩
  · show Blk w' b 73 (rowD (.map (some g)) vs vl' (k.unsure + 1) (k.changes + 1) k.dead)
    rw [hdd]
    exact hB'
  · rcases hg with hg | hg
    · rcases hn with ⟨e, _⟩ | ⟨g', e, hb', _⟩
      · rw [hg] at e; cases e
      · rw [hg] at e; cases e; exact hb'
    · omega
  · rcases hs with h | ⟨gs, rfl, hb', hos⟩
    · exact Or.inl h
    · refine Or.inr ⟨gs, rfl, hb', hos.of_heap (hF gs hos.lt (fun e => ?_) (fun e => ?_) (ownBlock_map hl hos))⟩
      · exact hB.ne_map hos e.symm
      · exact hne gs e rfl
  · intro g' e1 e2
    cases e1
    rcases hg with hg | hg
    · exact hne g hg e2
    · rcases hs with ⟨e, _⟩ | ⟨gs, e, _, hos⟩
      · rw [e] at e2; cases e2
      · rw [e2] at e
        cases e
        have := hos.lt
        omega
  · exact hl'
/-- Bounds on a disk, for the next change. -/
structure Small (k : Dk) : Prop where
  now : Fits k.now 1000000
  unsure : k.unsure ≤ 1000000
  changes : k.changes ≤ 1000000
  loose : k.loose.length ≤ 63
theorem perform_put (base b : Nat) (k : Dk) (kd : Nat) (a s : ByteArray) (w : World) (hk : kd = 0 ∨ kd = 1) (h : IsDisk w base b k) (hd : k.dead = false) (hS : Small k) (ha : nameB a = true) (ham : a.size ≤ maxLen) (hs : s.size ≤ 1000000) :
    Calls Try.prog 57 #[.pointer (some ⟨b, 0, none⟩), .agg #[.int .i64 kd, .string a, .string s, .string ⟨#[]⟩, .int .i64 0]] w fun e w' => e = .returned (.int .i64 0) ∧ IsDisk w' base b (stepD k ⟨kd, a, s, ⟨#[]⟩, 0⟩) ∧ Tend base b w w' := by
  obtain ⟨hb0, vn, vs, vl, hB, hn, hsu, hne, hl⟩ := h
  have hB' : Blk w b 73 (rowD vn vs vl k.unsure k.changes false) := by rw [← hd]; exact hB
  refine (perform_ok base b kd 0 vn vs vl k.unsure k.changes k.now k.loose a s ⟨#[]⟩ w hb0 hB' hn hl hS.now (by omega) ham (Nat.zero_le _) hs (fun _ => Int.le_refl _) (by decide) hS.unsure hS.changes hS.loose ?_).mono ?_
  · intro w1 hg1
    have hk' : (kd : Int) = 0 ∨ (kd : Int) = 1 := by omega
    exact refusal_put base b kd 0 vn vs vl k.unsure k.changes k.now a s ⟨#[]⟩ w1 hk' (hB'.kept hg1 (by simp)) (hn.kept hg1 (fun _ _ => by simp)) hS.now ha ham hs
  · rintro e w' ⟨he, hp⟩
    have := disk_of_perf hb0 hB hn hsu hne hl hd hp
    exact ⟨he, this.1, this.2⟩
set_option maxRecDepth 100000 in
theorem append_any (base b : Nat) (k : Dk) (a s : ByteArray) (w : World) (h : IsDisk w base b k) (hd : k.dead = false) (hS : Small k) (ha : nameB a = true) (ham : a.size ≤ maxLen) (hs : s.size ≤ 1000000) :
    Calls Try.prog 62 #[.pointer (some ⟨b, 0, none⟩), .string a, .string s] w fun e w' => e = .returned (.int .i64 0) ∧ IsDisk w' base b (stepD k ⟨0, a, s, ⟨#[]⟩, 0⟩) ∧ Tend base b w w' := by
  have CP : Hid (Calls Try.prog 57 #[.pointer (some ⟨b, 0, none⟩), .agg #[.int .i64 0, .string a, .string s, .string ⟨#[]⟩, .int .i64 0]] w fun e w' => e = .returned (.int .i64 0) ∧ IsDisk w' base b (stepD k ⟨0, a, s, ⟨#[]⟩, 0⟩) ∧ Tend base b w w') := perform_put base b k 0 a s w (Or.inl rfl) h hd hS ha ham hs
  clear h hS ha ham hs
  go_enter Try.func62, Try.ntmps62
  go_wp2_with (go_at_call 57; refine CP.out.mono ?_; rintro e w' ⟨rfl, h1, h2⟩; have R1 : Hid (IsDisk w' base b (stepD k ⟨0, a, s, ⟨#[]⟩, 0⟩)) := h1; have R2 : Hid (Tend base b w w') := h2; clear h1 h2)
  go_ret
  exact ⟨rfl, R1.out, R2.out⟩
set_option maxRecDepth 100000 in
theorem write_any (base b : Nat) (k : Dk) (a s : ByteArray) (w : World) (h : IsDisk w base b k) (hd : k.dead = false) (hS : Small k) (ha : nameB a = true) (ham : a.size ≤ maxLen) (hs : s.size ≤ 1000000) :
    Calls Try.prog 30 #[.pointer (some ⟨b, 0, none⟩), .string a, .string s] w fun e w' => e = .returned (.int .i64 0) ∧ IsDisk w' base b (stepD k ⟨1, a, s, ⟨#[]⟩, 0⟩) ∧ Tend base b w w' := by
  have CP : Hid (Calls Try.prog 57 #[.pointer (some ⟨b, 0, none⟩), .agg #[.int .i64 1, .string a, .string s, .string ⟨#[]⟩, .int .i64 0]] w fun e w' => e = .returned (.int .i64 0) ∧ IsDisk w' base b (stepD k ⟨1, a, s, ⟨#[]⟩, 0⟩) ∧ Tend base b w w') := perform_put base b k 1 a s w (Or.inr rfl) h hd hS ha ham hs
  clear h hS ha ham hs
  go_enter Try.func30, Try.ntmps30
  go_wp2_with (go_at_call 57; refine CP.out.mono ?_; rintro e w' ⟨rfl, h1, h2⟩; have R1 : Hid (IsDisk w' base b (stepD k ⟨1, a, s, ⟨#[]⟩, 0⟩)) := h1; have R2 : Hid (Tend base b w w') := h2; clear h1 h2)
  go_ret
  exact ⟨rfl, R1.out, R2.out⟩
/-- Files behind a loss of power. -/
def lostF (k : Dk) (keep torn : Int) (L : Nat → OkChg) : FS := foldF k.sure (stTo keep torn L k.loose.length).1
set_option maxRecDepth 100000 in
theorem crash_any (base b : Nat) (k : Dk) (keep torn : Int) (L : Nat → OkChg) (w : World) (h : IsDisk w base b k) (hd : k.dead = false) (hL : ∀ i, (h : i < k.loose.length) → k.loose[i] = (L i).1) (hl63 : k.loose.length ≤ 63) (ht1 : torn ≤ 9223372036854775807) (hf : Fits k.sure 200000) :
    Calls Try.prog 16 #[.pointer (some ⟨b, 0, none⟩), .int .i64 keep, .int .i64 torn] w fun e w' => e = .returned (.tuple #[]) ∧ IsDisk w' base b ⟨lostF k keep torn L, lostF k keep torn L, [], 0, k.changes, true⟩ ∧ w.grownBy w' (some b) := by
  obtain ⟨hb0, vn, vs, vl, hB, hn, hsu, hne, hl⟩ := h
  have hB' : Blk w b 73 (rowD vn vs vl k.unsure k.changes false) := by rw [← hd]; exact hB
  have CF : Hid (Calls Try.prog 45 #[.pointer (some ⟨b, 0, none⟩), .int .i64 keep, .int .i64 torn] w fun e w' => e = .returned (.tuple #[]) ∧ IsDisk w' base b ⟨lostF k keep torn L, lostF k keep torn L, [], 0, k.changes, true⟩ ∧ w.grownBy w' (some b)) := fail_any base b keep torn vn vs vl k.unsure k.changes k.sure k.loose L w hb0 hB' hsu hl hL hl63 ht1 hf
  have c8 := hB'.d8
  clear hB hn hsu hne hl hB' hL hf
  go_enter Try.func16, Try.ntmps16
  go_wp2_with (first | (go_at_call 27; refine (dead_any b false _ c8).mono ?_; rintro e w' ⟨rfl, hw⟩; have hw2 := hw.symm; clear hw; subst hw2) | (go_at_call 45; refine CF.out.mono ?_; clear CF; rintro e w' ⟨rfl, h1, h2⟩; have R1 : Hid (IsDisk w' base b ⟨lostF k keep torn L, lostF k keep torn L, [], 0, k.changes, true⟩) := h1; have R2 : Hid (w.grownBy w' (some b)) := h2; clear h1 h2))
  first
  | exact bodyPost_end (results_none rfl _ _ _) rfl ⟨rfl, R1.out, R2.out⟩
  | exact bodyPost_ret (results_none rfl _ _ _) rfl ⟨rfl, R1.out, R2.out⟩
theorem MapV.set {w : World} {base b : Nat} {v : Value} {l : FS} {t : TypeId} {cs : Array Value} (h : MapV w base v l) (hb : Blk w b t cs) (i : Nat) (u : Value) : MapV (w.setCell ⟨b, i, none⟩ u) base v l := by
  rcases h with h | ⟨g, rfl, hg, ho⟩
  · exact Or.inl h
  · exact Or.inr ⟨g, rfl, hg, ho.set (fun e => hb.ne_map ho e.symm) u⟩
set_option maxRecDepth 100000 in
theorem up_any (base b : Nat) (k : Dk) (w : World) (h : IsDisk w base b k) (hd : k.dead = true) :
    Calls Try.prog 17 #[.pointer (some ⟨b, 0, none⟩)] w fun e w' => e = .returned (.bool true) ∧ IsDisk w' base b { k with dead := false } ∧ w.grownBy w' (some b) := by
  obtain ⟨hb0, vn, vs, vl, hB, hn, hsu, hne, hl⟩ := h
  have c8 := hB.d8
  have f8 := hB.frozen 8
  rw [hd] at c8
  have G : w.grownBy (w.setCell ⟨b, 8, none⟩ (.bool false)) (some b) := grown_set (grown_refl _ _) 8 _
  have R1 : Hid (IsDisk (w.setCell ⟨b, 8, none⟩ (.bool false)) base b { k with dead := false }) := ⟨hb0, vn, vs, vl, hB.set 8 _, hn.set hB 8 _, hsu.set hB 8 _, hne, owns_self hl hB G⟩
  have R2 : Hid (w.grownBy (w.setCell ⟨b, 8, none⟩ (.bool false)) (some b)) := G
  clear hB hn hsu hne hl G
  go_enter Try.func17, Try.ntmps17
  go_wp2
  go_ret
  exact ⟨rfl, R1.out, R2.out⟩
end Go.Proofs.Ytddnjlnnkeiplaa
