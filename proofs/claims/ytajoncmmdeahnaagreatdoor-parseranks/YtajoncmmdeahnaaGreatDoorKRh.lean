/-
  Print: an expression. Print: rows of nodes; a line, a block.
-/
import Derived.Test.YtajoncmmdeahnaaGreatDoorKRf
namespace Go.Proofs.YtajoncmmdeahnaaGreatDoor.Pt
open Go.RowKit
set_option maxRecDepth 100000 in
set_option maxHeartbeats 2000000 in
theorem ex20 (b : Nat) (ty n : Int) (s : ByteArray) (ks : List Nd) (t : List UInt8) (ht : numT n = some t) (l : List UInt8) (p : Option Addr) (cap : Nat) (W : World) (hp : Prn W b l) (hk : KsV W (fun i => i < b) (.slice p ks.length cap) ks) (hl : l.length + (t).length ≤ 5000) : Calls Tryz.prog 48 #[.pointer (some ⟨b, 0, none⟩), .agg #[.int .i64 20, .int .i64 ty, .string s, .int .i64 n, .slice p ks.length cap]] W (SayP W b (l ++ t)) := by
  have S0 : Hid (St W (W.alloc (.cells #[.int .i64 20, .int .i64 ty, .string s, .int .i64 n, .slice p ks.length cap] 27)) b W.heap.size l (.mk 20 ty s n ks) (.slice p ks.length cap)) := hid (St.zero (x := Nd.mk 20 ty s n ks) hp hk)
  have CF := hid (fmt_num n t ht)
  have C1 : Hid (Calls Tryz.prog 83 #[.pointer (some ⟨b, 0, none⟩), .slice (some ⟨W.heap.size + 1, 0, none⟩) 1 1] ((W.alloc (.cells #[.int .i64 20, .int .i64 ty, .string s, .int .i64 n, .slice p ks.length cap] 27)).alloc (.cells #[.string ⟨t.toArray⟩] 9)) (StP W b W.heap.size (l ++ (⟨t.toArray⟩ : ByteArray).data.toList) (.mk 20 ty s n ks) (.slice p ks.length cap))) := by
    have h1 := S0.out.text1 ⟨t.toArray⟩ (by simp at hl ⊢; omega)
    rw [World.size_alloc] at h1
    exact h1
  clear hp hk S0
  go_enter Tryz.func48, Tryz.ntmps48
  go_wp2_with (first
    | (go_at_call 90; refine (CF.out _).mono ?_; clear CF; rintro e w1 ⟨rfl, hw⟩; replace hw := hw.symm; subst hw)
    | (go_at_call 83; refine C1.out.mono ?_; clear C1; rintro e w2 ⟨rfl, hs⟩; have S2 := hid hs; clear hs))
  go_end0
  exact ⟨rfl, S2.out.prn, S2.out.pb⟩
set_option maxRecDepth 100000 in
set_option maxHeartbeats 2000000 in
theorem ex23 (b : Nat) (ty n : Int) (s : ByteArray) (ks : List Nd)  (l : List UInt8) (p : Option Addr) (cap : Nat) (W : World) (hp : Prn W b l) (hk : KsV W (fun i => i < b) (.slice p ks.length cap) ks) (hl : l.length + (s.data.toList).length ≤ 5000) : Calls Tryz.prog 48 #[.pointer (some ⟨b, 0, none⟩), .agg #[.int .i64 23, .int .i64 ty, .string s, .int .i64 n, .slice p ks.length cap]] W (SayP W b (l ++ s.data.toList)) := by
  have S0 : Hid (St W (W.alloc (.cells #[.int .i64 23, .int .i64 ty, .string s, .int .i64 n, .slice p ks.length cap] 27)) b W.heap.size l (.mk 23 ty s n ks) (.slice p ks.length cap)) := hid (St.zero (x := Nd.mk 23 ty s n ks) hp hk)
  have C1 : Hid (Calls Tryz.prog 83 #[.pointer (some ⟨b, 0, none⟩), .slice (some ⟨W.heap.size + 1, 0, none⟩) 1 1] ((W.alloc (.cells #[.int .i64 23, .int .i64 ty, .string s, .int .i64 n, .slice p ks.length cap] 27)).alloc (.cells #[.string s] 9)) (StP W b W.heap.size (l ++ (s : ByteArray).data.toList) (.mk 23 ty s n ks) (.slice p ks.length cap))) := by
    have h1 := S0.out.text1 s (by simp at hl ⊢; omega)
    rw [World.size_alloc] at h1
    exact h1
  clear hp hk S0
  go_enter Tryz.func48, Tryz.ntmps48
  go_wp2_with (go_at_call 83; refine C1.out.mono ?_; clear C1; rintro e w2 ⟨rfl, hs⟩; have S2 := hid hs; clear hs)
  go_end0
  exact ⟨rfl, S2.out.prn, S2.out.pb⟩
set_option maxRecDepth 100000 in
set_option maxHeartbeats 4000000 in
theorem ex26 (φ : Nd → Option (List UInt8)) (KA : KC φ) (b : Nat) (ty n : Int) (s : ByteArray) (a c : Nd) (t u : List UInt8) (ha : φ a = some t) (hc : φ c = some u) (l : List UInt8) (p : Option Addr) (cap : Nat) (W : World) (hp : Prn W b l) (hk : KsV W (fun i => i < b) (.slice p 2 cap) [a, c]) (hl : l.length + ([40] ++ t ++ ([32] ++ (s.data.toList ++ [32])) ++ u ++ [41]).length ≤ 5000) : Calls Tryz.prog 48 #[.pointer (some ⟨b, 0, none⟩), .agg #[.int .i64 26, .int .i64 ty, .string s, .int .i64 n, .slice p 2 cap]] W (SayP W b (l ++ ([40] ++ t ++ ([32] ++ (s.data.toList ++ [32])) ++ u ++ [41]))) := by
  have hz := bytes_len s
  have hlen : l.length + (1 + t.length + (1 + (s.data.toList.length + 1)) + u.length + 1) ≤ 5000 := by simp at hl ⊢; omega
  have S0 : Hid (St W (W.alloc (.cells #[.int .i64 26, .int .i64 ty, .string s, .int .i64 n, .slice p 2 cap] 27)) b W.heap.size l (.mk 26 ty s n [a, c]) (.slice p 2 cap)) := hid (St.zero (x := Nd.mk 26 ty s n [a, c]) hp hk)
  have C1 : Hid (Calls Tryz.prog 83 #[.pointer (some ⟨b, 0, none⟩), .slice (some ⟨W.heap.size + 1, 0, none⟩) 1 1] ((W.alloc (.cells #[.int .i64 26, .int .i64 ty, .string s, .int .i64 n, .slice p 2 cap] 27)).alloc (.cells #[.string ⟨#[40]⟩] 9)) (StP W b W.heap.size (l ++ [40]) (.mk 26 ty s n [a, c]) (.slice p 2 cap))) := by
    have h1 := S0.out.text1 ⟨#[40]⟩ (by simp; omega)
    rw [World.size_alloc] at h1
    exact h1
  have C2 : Hid (∀ V, St W V b W.heap.size (l ++ [40]) (.mk 26 ty s n [a, c]) (.slice p 2 cap) → Calls Tryz.prog 85 #[.pointer (some ⟨b, 0, none⟩), .agg #[.int .i64 26, .int .i64 ty, .string s, .int .i64 n, .slice p 2 cap], .int .i64 0] V (StP W b W.heap.size (l ++ [40] ++ t) (.mk 26 ty s n [a, c]) (.slice p 2 cap))) := fun V h => (KA b 0 (.mk 26 ty s n [a, c]) t _ _ V (by decide : 0 < 2) ha h.prn h.self (by simp; omega)).mono (by rintro e w2 ⟨rfl, hp, hb⟩; exact ⟨rfl, h.say hp hb⟩)
  have C3 : Hid (∀ V, St W V b W.heap.size (l ++ [40] ++ t) (.mk 26 ty s n [a, c]) (.slice p 2 cap) → Calls Tryz.prog 83 #[.pointer (some ⟨b, 0, none⟩), .slice (some ⟨V.heap.size, 0, none⟩) 3 3] (V.alloc (.cells #[.string ⟨#[32]⟩, .string s, .string ⟨#[32]⟩] 9)) (StP W b W.heap.size (l ++ [40] ++ t ++ ([32] ++ (s.data.toList ++ [32]))) (.mk 26 ty s n [a, c]) (.slice p 2 cap))) := fun V h => h.text3 ⟨#[32]⟩ s ⟨#[32]⟩ (by simp; omega)
  have C4 : Hid (∀ V, St W V b W.heap.size (l ++ [40] ++ t ++ ([32] ++ (s.data.toList ++ [32]))) (.mk 26 ty s n [a, c]) (.slice p 2 cap) → Calls Tryz.prog 85 #[.pointer (some ⟨b, 0, none⟩), .agg #[.int .i64 26, .int .i64 ty, .string s, .int .i64 n, .slice p 2 cap], .int .i64 1] V (StP W b W.heap.size (l ++ [40] ++ t ++ ([32] ++ (s.data.toList ++ [32])) ++ u) (.mk 26 ty s n [a, c]) (.slice p 2 cap))) := fun V h => (KA b 1 (.mk 26 ty s n [a, c]) u _ _ V (by decide : 1 < 2) hc h.prn h.self (by simp; omega)).mono (by rintro e w2 ⟨rfl, hp, hb⟩; exact ⟨rfl, h.say hp hb⟩)
  have C5 : Hid (∀ V, St W V b W.heap.size (l ++ [40] ++ t ++ ([32] ++ (s.data.toList ++ [32])) ++ u) (.mk 26 ty s n [a, c]) (.slice p 2 cap) → Calls Tryz.prog 83 #[.pointer (some ⟨b, 0, none⟩), .slice (some ⟨V.heap.size, 0, none⟩) 1 1] (V.alloc (.cells #[.string ⟨#[41]⟩] 9)) (StP W b W.heap.size (l ++ [40] ++ t ++ ([32] ++ (s.data.toList ++ [32])) ++ u ++ [41]) (.mk 26 ty s n [a, c]) (.slice p 2 cap))) := fun V h => h.text1 ⟨#[41]⟩ (by simp; omega)
  clear hp hk S0 KA
  go_enter Tryz.func48, Tryz.ntmps48
  go_wp2_with (first
    | (go_at_call 83; refine C1.out.mono ?_; clear C1; rintro e w1 ⟨rfl, hs⟩; have S1 := hid hs; obtain ⟨z0, z1, z2, z3, z4⟩ := hs.cells; clear hs)
    | (go_at_call 85; refine (C2.out _ S1.out).mono ?_; clear C2 S1; rintro e w2 ⟨rfl, hs⟩; have S2 := hid hs; clear z0 z1 z2 z3 z4; obtain ⟨z0, z1, z2, z3, z4⟩ := hs.cells; clear hs)
    | (go_at_call 83; refine (C3.out _ S2.out).mono ?_; clear C3 S2; rintro e w3 ⟨rfl, hs⟩; have S3 := hid hs; clear z0 z1 z2 z3 z4; obtain ⟨z0, z1, z2, z3, z4⟩ := hs.cells; clear hs)
    | (go_at_call 85; refine (C4.out _ S3.out).mono ?_; clear C4 S3; rintro e w4 ⟨rfl, hs⟩; have S4 := hid hs; clear z0 z1 z2 z3 z4; obtain ⟨z0, z1, z2, z3, z4⟩ := hs.cells; clear hs)
    | (go_at_call 83; refine (C5.out _ S4.out).mono ?_; clear C5 S4; rintro e w5 ⟨rfl, hs⟩; have S5 := hid hs; clear hs))
  go_end0
  refine ⟨rfl, ?_, S5.out.pb⟩
  have h := S5.out.prn
  simpa [List.append_assoc] using h
def binT (φ : Nd → Option (List UInt8)) (s : ByteArray) : List Nd → Option (List UInt8)
  | [a, c] => match φ a, φ c with
    | some t, some u => some ([40] ++ t ++ ([32] ++ (s.data.toList ++ [32])) ++ u ++ [41])
    | _, _ => none
  | _ => none
theorem binT_some (φ : Nd → Option (List UInt8)) (s : ByteArray) (ks : List Nd) (r : List UInt8) (h : binT φ s ks = some r) : ∃ a c t u, ks = [a, c] ∧ φ a = some t ∧ φ c = some u ∧ r = [40] ++ t ++ ([32] ++ (s.data.toList ++ [32])) ++ u ++ [41] := by
  match ks, h with
  | [a, c], h =>
    cases ha : φ a with
    | none =>
      simp only [binT, ha] at h
      cases h
    | some t =>
      cases hc : φ c with
      | none =>
        simp only [binT, ha, hc] at h
        cases h
      | some u =>
        simp only [binT, ha, hc] at h
        exact ⟨a, c, t, u, rfl, ha, hc, (Option.some.inj h).symm⟩
def exT (φ : Nd → Option (List UInt8)) (x : Nd) : Option (List UInt8) := if x.kind = 20 then numT x.num else if x.kind = 23 then some x.txt.data.toList else if x.kind = 26 then binT φ x.txt x.kids else none
theorem expr_any (φ : Nd → Option (List UInt8)) (KA : KC φ) : PC 48 (exT φ) := by
  rintro b ⟨k, ty, s, n, ks⟩ t l v W ht hp ⟨q, rfl, hk⟩ hl
  have hk : KsV W (fun i => i < b) q ks := hk
  obtain ⟨p, cap, rfl, _⟩ := hk.form
  have ht : (if k = 20 then numT n else if k = 23 then some s.data.toList else if k = 26 then binT φ s ks else none) = some t := ht
  split at ht
  · rename_i e; subst e
    exact ex20 b ty n s ks t ht l p cap W hp hk hl
  split at ht
  · rename_i e; subst e; cases ht
    exact ex23 b ty n s ks l p cap W hp hk hl
  split at ht
  · rename_i e; subst e
    obtain ⟨a, c, t', u, rfl, ha, hc, rfl⟩ := binT_some φ s ks t ht
    exact ex26 φ KA b ty n s a c t' u ha hc l p cap W hp hk hl
  · cases ht
end Go.Proofs.YtajoncmmdeahnaaGreatDoor.Pt
namespace Go.Proofs.YtajoncmmdeahnaaGreatDoor.Pt
open Go.RowKit
def catT (φ : Nd → Option (List UInt8)) (pre : Nat → List UInt8) (post : List UInt8) : Nat → List Nd → Option (List UInt8)
  | _, [] => some []
  | i, x :: r => match φ x, catT φ pre post (i + 1) r with
    | some t, some u => some (pre i ++ t ++ post ++ u)
    | _, _ => none
theorem catT_some (φ : Nd → Option (List UInt8)) (pre : Nat → List UInt8) (post : List UInt8) (i : Nat) (x : Nd) (r : List Nd) (u : List UInt8) (h : catT φ pre post i (x :: r) = some u) : ∃ t u', φ x = some t ∧ catT φ pre post (i + 1) r = some u' ∧ u = pre i ++ t ++ post ++ u' := by
  cases ha : φ x with
  | none =>
    simp only [catT, ha] at h
    cases h
  | some t =>
    cases hc : catT φ pre post (i + 1) r with
    | none =>
      simp only [catT, ha, hc] at h
      cases h
    | some u' =>
      simp only [catT, ha, hc] at h
      exact ⟨t, u', rfl, rfl, (Option.some.inj h).symm⟩
def RwI (φ : Nd → Option (List UInt8)) (pre : Nat → List UInt8) (post : List UInt8) (w : World) (b L : Nat) (q : Value) (ks : List Nd) (T : List UInt8) (j : Nat) (wr : World) : Prop :=
  ∃ l u, Prn wr b l ∧ PB b w wr ∧ KsV wr (fun i => i < b) q ks ∧ ks.length = L ∧ catT φ pre post j (ks.drop j) = some u ∧ l ++ u = T
theorem RwI.next {φ : Nd → Option (List UInt8)} {pre : Nat → List UInt8} {post : List UInt8} {w wr : World} {b L j : Nat} {p : Option Addr} {cap : Nat} {ks : List Nd} {T : List UInt8} (h : RwI φ pre post w b L (.slice p L cap) ks T j wr) (hj : j < L) : ∃ (y : Nd) (l t u : List UInt8) (g : Nat) (py : Option Addr) (cy : Nat), p = some ⟨g, 0, none⟩ ∧ Prn wr b l ∧ PB b w wr ∧ KsV wr (fun i => i < b) (.slice p L cap) ks ∧ φ y = some t ∧ l ++ (pre j ++ t ++ post ++ u) = T ∧ catT φ pre post (j + 1) (ks.drop (j + 1)) = some u ∧ ks.length = L ∧ wr.cell? ⟨g, j * 5, none⟩ = some (.int .i64 y.kind) ∧ wr.cell? ⟨g, j * 5 + 1, none⟩ = some (.int .i64 y.ty) ∧ wr.cell? ⟨g, j * 5 + 2, none⟩ = some (.string y.txt) ∧ wr.cell? ⟨g, j * 5 + 3, none⟩ = some (.int .i64 y.num) ∧ wr.cell? ⟨g, j * 5 + 4, none⟩ = some (.slice py y.kids.length cy) ∧ KsV wr (fun i => i < b) (.slice py y.kids.length cy) y.kids := by
  obtain ⟨l, u, h1, h2, h3, h4, h5, h6⟩ := h
  have hj' : j < ks.length := by omega
  rw [List.drop_eq_getElem_cons hj'] at h5
  obtain ⟨t, u', ht, hu, rfl⟩ := catT_some _ _ _ _ _ _ _ h5
  obtain ⟨g, rfl, _, hat⟩ := h3.at j hj'
  obtain ⟨q, c0, c1, c2, c3, c4, hkq⟩ := hat.cells
  rw [Nat.mul_comm 5 j] at c0 c1 c2 c3 c4
  obtain ⟨py, cy, rfl, _⟩ := hkq.form
  exact ⟨ks[j], l, t, u', g, py, cy, rfl, h1, h2, h3, ht, h6, hu, h4, c0, c1, c2, c3, c4, hkq⟩
theorem RwI.done {φ : Nd → Option (List UInt8)} {pre : Nat → List UInt8} {post : List UInt8} {w wr : World} {b L : Nat} {q : Value} {ks : List Nd} {T : List UInt8} (h : RwI φ pre post w b L q ks T L wr) : Prn wr b T ∧ PB b w wr := by
  obtain ⟨l, u, h1, h2, _, h4, h5, h6⟩ := h
  rw [List.drop_eq_nil_of_le (by omega)] at h5
  cases h5
  rw [List.append_nil] at h6
  rw [← h6]
  exact ⟨h1, h2⟩
def LC (φ : Nd → Option (List UInt8)) : Prop := ∀ (b : Nat) (hd : ByteArray) (x : Nd) (t l : List UInt8) (v : Value) (W : World) (hi : 0 < x.kids.length), φ x.kids[0] = some t → Prn W b l → NdV W (fun i => i < b) v x → l.length + (hd.data.toList ++ t ++ [59]).length ≤ 5000 → Calls Tryz.prog 88 #[.pointer (some ⟨b, 0, none⟩), .string hd, v] W (SayP W b (l ++ (hd.data.toList ++ t ++ [59])))
set_option maxRecDepth 100000 in
set_option maxHeartbeats 2000000 in
theorem line_any (φ : Nd → Option (List UInt8)) (KA : KC φ) : LC φ := by
  intro b hd x t l v W hi ht hp hv hl
  obtain ⟨q, rfl, hk⟩ := hv
  obtain ⟨p, cap, rfl, hle, hcap, _⟩ := hk.form
  have hz := bytes_len hd
  have hlen : l.length + (hd.data.toList.length + t.length + 1) ≤ 5000 := by simp at hl ⊢; omega
  have S0 := hid (St.zero (x := x) hp hk)
  have C1 : Hid (Calls Tryz.prog 83 #[.pointer (some ⟨b, 0, none⟩), .slice (some ⟨W.heap.size + 1, 0, none⟩) 1 1] ((W.alloc (.cells #[.int .i64 x.kind, .int .i64 x.ty, .string x.txt, .int .i64 x.num, .slice p x.kids.length cap] 27)).alloc (.cells #[.string hd] 9)) (StP W b W.heap.size (l ++ hd.data.toList) x (.slice p x.kids.length cap))) := by
    have h1 := S0.out.text1 hd (by omega)
    rw [World.size_alloc] at h1
    exact h1
  have C2 : Hid (∀ V, St W V b W.heap.size (l ++ hd.data.toList) x (.slice p x.kids.length cap) → Calls Tryz.prog 85 #[.pointer (some ⟨b, 0, none⟩), .agg #[.int .i64 x.kind, .int .i64 x.ty, .string x.txt, .int .i64 x.num, .slice p x.kids.length cap], .int .i64 0] V (StP W b W.heap.size (l ++ hd.data.toList ++ t) x (.slice p x.kids.length cap))) := fun V h => (KA b 0 x t _ _ V hi ht h.prn h.self (by simp; omega)).mono (by rintro e w2 ⟨rfl, hp, hb⟩; exact ⟨rfl, h.say hp hb⟩)
  have C3 : Hid (∀ V, St W V b W.heap.size (l ++ hd.data.toList ++ t) x (.slice p x.kids.length cap) → Calls Tryz.prog 83 #[.pointer (some ⟨b, 0, none⟩), .slice (some ⟨V.heap.size, 0, none⟩) 1 1] (V.alloc (.cells #[.string ⟨#[59]⟩] 9)) (StP W b W.heap.size (l ++ hd.data.toList ++ t ++ [59]) x (.slice p x.kids.length cap))) := fun V h => h.text1 ⟨#[59]⟩ (by simp; omega)
  clear hp hk S0 KA ht
  generalize x.kids.length = L at *
  go_enter Tryz.func88, Tryz.ntmps88
  go_wp2_with (first
    | (go_at_call 83; refine C1.out.mono ?_; clear C1; rintro e w1 ⟨rfl, hs⟩; have S1 := hid hs; obtain ⟨z0, z1, z2, z3, z4⟩ := hs.cells; clear hs)
    | (go_at_call 85; refine (C2.out _ S1.out).mono ?_; clear C2 S1; rintro e w2 ⟨rfl, hs⟩; have S2 := hid hs; clear z0 z1 z2 z3 z4; obtain ⟨z0, z1, z2, z3, z4⟩ := hs.cells; clear hs)
    | (go_at_call 83; refine (C3.out _ S2.out).mono ?_; clear C3 S2; rintro e w3 ⟨rfl, hs⟩; have S3 := hid hs; clear hs))
  go_end0
  refine ⟨rfl, ?_, S3.out.pb⟩
  have h := S3.out.prn
  simpa [List.append_assoc] using h
end Go.Proofs.YtajoncmmdeahnaaGreatDoor.Pt
