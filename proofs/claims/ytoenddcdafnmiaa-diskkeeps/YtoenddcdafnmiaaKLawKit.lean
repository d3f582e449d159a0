/-
  The law of what is kept: its acts, and what holds in its rounds. What a loss of power leaves, on both sides.
-/
import Derived.Test.YtoenddcdafnmiaaKDos
namespace Go.Proofs.Ytoenddcdafnmiaa
open Go.RowKit Go.Maps
theorem do_four (base b : Nat) (k : Dk) (m : Md) (a0 a1 : Option Addr) (n0 k0 n1 k1 : Nat) (a t s : ByteArray) (κ z x y u : Int) (w : World) (hD : IsDisk w base b k) (hF : FilesT w (.slice a0 n0 k0) m.sure) (hC : ChgsT w (.slice a1 n1 k1) m.cs) (hR : Rel k m) (hi : Inv m) (hc : m.ch ≤ 59) (ha : a.size ≤ maxLen) (ht : t.size ≤ maxLen) (hz : z ≤ 9223372036854775807) (h0 : 0 ≤ κ) (h5 : κ < 5) :
    Calls Try.prog 8 #[.agg #[.pointer (some ⟨b, 0, none⟩), .slice a0 n0 k0, .slice a1 n1 k1, .int .i64 (-1), .slice none 0 0, .int .i64 m.ch, .bool false], .agg #[.int .i64 κ, .string a, .string t, .string s, .int .i64 z, .int .i64 x, .int .i64 y, .int .i64 u]] w fun e w' => ∃ q m2, DoPost base b q m2 w e w' ∧ Rel q m2 ∧ Inv m2 ∧ m2.ch ≤ m.ch + 1 ∧ m2.sure = m.sure := by
  have nx : ∀ c, (nextM m c).sure = m.sure := fun c => by unfold nextM; split <;> rfl
  have hx : κ = 0 ∨ κ = 1 ∨ κ = 2 ∨ κ = 3 ∨ κ = 4 := by omega
  rcases hx with rfl | rfl | rfl | rfl | rfl
  · obtain ⟨_, h1, h2, h3⟩ := rel_next hR hi hc (kd := 0) (a := a) (s := fewS s) (t := t) (z := z) (by decide) (fewS_size s) hz
    exact (do_0 base b k m a0 a1 n0 k0 n1 k1 a t s z x y u w hD hF hC hR hi hc ha ht hz).mono (fun e w' h => ⟨_, _, h, h1, h2, h3, nx _⟩)
  · obtain ⟨_, h1, h2, h3⟩ := rel_next hR hi hc (kd := 1) (a := a) (s := fewS s) (t := t) (z := z) (by decide) (fewS_size s) hz
    exact (do_1 base b k m a0 a1 n0 k0 n1 k1 a t s z x y u w hD hF hC hR hi hc ha ht hz).mono (fun e w' h => ⟨_, _, h, h1, h2, h3, nx _⟩)
  · obtain ⟨_, h1, h2, h3⟩ := rel_next hR hi hc (kd := 2) (a := a) (s := fewS s) (t := t) (z := z) (by decide) (fewS_size s) hz
    exact (do_2 base b k m a0 a1 n0 k0 n1 k1 a t s z x y u w hD hF hC hR hi hc ha ht hz).mono (fun e w' h => ⟨_, _, h, h1, h2, h3, nx _⟩)
  · obtain ⟨_, h1, h2, h3⟩ := rel_next hR hi hc (kd := 3) (a := a) (s := fewS s) (t := t) (z := z) (by decide) (fewS_size s) hz
    exact (do_3 base b k m a0 a1 n0 k0 n1 k1 a t s z x y u w hD hF hC hR hi hc ha ht hz).mono (fun e w' h => ⟨_, _, h, h1, h2, h3, nx _⟩)
  · obtain ⟨_, h1, h2, h3⟩ := rel_next hR hi hc (kd := 4) (a := a) (s := fewS s) (t := t) (z := z) (by decide) (fewS_size s) hz
    exact (do_4 base b k m a0 a1 n0 k0 n1 k1 a t s z x y u w hD hF hC hR hi hc ha ht hz).mono (fun e w' h => ⟨_, _, h, h1, h2, h3, nx _⟩)
theorem do_five (base b : Nat) (k : Dk) (m : Md) (a0 a1 : Option Addr) (n0 k0 n1 k1 : Nat) (a t s : ByteArray) (κ z x y u : Int) (w : World) (hD : IsDisk w base b k) (hF : FilesT w (.slice a0 n0 k0) m.sure) (hC : ChgsT w (.slice a1 n1 k1) m.cs) (hR : Rel k m) (hi : Inv m) (hc : m.ch ≤ 59) (ha : a.size ≤ maxLen) (ht : t.size ≤ maxLen) (hz : z ≤ 9223372036854775807) (h0 : 0 ≤ κ) (h6 : κ < 6) :
    Calls Try.prog 8 #[.agg #[.pointer (some ⟨b, 0, none⟩), .slice a0 n0 k0, .slice a1 n1 k1, .int .i64 (-1), .slice none 0 0, .int .i64 m.ch, .bool false], .agg #[.int .i64 κ, .string a, .string t, .string s, .int .i64 z, .int .i64 x, .int .i64 y, .int .i64 u]] w fun e w' => ∃ q m2, DoPost base b q m2 w e w' ∧ Rel q m2 ∧ Inv m2 ∧ m2.ch ≤ m.ch + 1 := by
  by_cases h5 : κ < 5
  · exact (do_four base b k m a0 a1 n0 k0 n1 k1 a t s κ z x y u w hD hF hC hR hi hc ha ht hz h0 h5).mono (fun e w' ⟨q, m2, h1, h2, h3, h4, _⟩ => ⟨q, m2, h1, h2, h3, h4⟩)
  · obtain rfl : κ = 5 := by omega
    obtain ⟨h1, h2⟩ := rel_sync hR hi
    exact (do_5 base b k m a0 a1 n0 k0 n1 k1 a t s z x y u w hD hF hC hR hi).mono (fun e w' h => ⟨_, _, h, h1, h2, Nat.le_succ _⟩)
structure ActR where
  kind : Int
  n : Int
  p : Int
  q : Int
  r : Int
  a : ByteArray
  t : ByteArray
  d : ByteArray
def ActR.vals (x : ActR) : List Value := [.int .i64 x.kind, .string x.a, .string x.t, .string x.d, .int .i64 x.n, .int .i64 x.p, .int .i64 x.q, .int .i64 x.r]
/-- A slice of acts reads as these. -/
structure ActsV (w : World) (pl : Option Addr) (nl g o : Nat) (A : Nat → ActR) : Prop where
  at_ : 0 < nl → pl = some ⟨g, o, none⟩
  a : ∀ i, i < nl → (A i).a.size ≤ maxLen
  t : ∀ i, i < nl → (A i).t.size ≤ maxLen
  n : ∀ i, i < nl → (A i).n ≤ 9223372036854775807
  cells : ∀ i, i < nl → ∀ j u, j < 8 → (A i).vals[j]? = some u → w.cell? ⟨g, o + i * 8 + j, none⟩ = some u
theorem ActsV.kept {w w' : World} {pl : Option Addr} {nl g o : Nat} {A : Nat → ActR} (h : ActsV w pl nl g o A) (hg : w.grownBy w' none) : ActsV w' pl nl g o A :=
  ⟨h.at_, h.a, h.t, h.n, fun i hi j u hj hu => by
    have hc := h.cells i hi j u hj hu
    exact ((grown_below hg).cell (p := ⟨g, o + i * 8 + j, none⟩) (World.block_lt_of_cell? _ _ hc)).trans hc⟩
theorem ActsV.eight {w : World} {pl : Option Addr} {nl g o : Nat} {A : Nat → ActR} (h : ActsV w pl nl g o A) {i : Nat} (hi : i < nl) :
    w.cell? ⟨g, o + i * 8, none⟩ = some (.int .i64 (A i).kind) ∧ w.cell? ⟨g, o + i * 8 + 1, none⟩ = some (.string (A i).a) ∧ w.cell? ⟨g, o + i * 8 + 2, none⟩ = some (.string (A i).t) ∧ w.cell? ⟨g, o + i * 8 + 3, none⟩ = some (.string (A i).d) ∧ w.cell? ⟨g, o + i * 8 + 4, none⟩ = some (.int .i64 (A i).n) ∧ w.cell? ⟨g, o + i * 8 + 5, none⟩ = some (.int .i64 (A i).p) ∧ w.cell? ⟨g, o + i * 8 + 6, none⟩ = some (.int .i64 (A i).q) ∧ w.cell? ⟨g, o + i * 8 + 7, none⟩ = some (.int .i64 (A i).r) :=
  ⟨h.cells i hi 0 _ (by decide) rfl, h.cells i hi 1 _ (by decide) rfl, h.cells i hi 2 _ (by decide) rfl, h.cells i hi 3 _ (by decide) rfl, h.cells i hi 4 _ (by decide) rfl, h.cells i hi 5 _ (by decide) rfl, h.cells i hi 6 _ (by decide) rfl, h.cells i hi 7 _ (by decide) rfl⟩
abbrev bothA (b : Nat) (a0 : Option Addr) (n0 k0 : Nat) (a1 : Option Addr) (n1 k1 ch : Nat) : Array Value := #[.pointer (some ⟨b, 0, none⟩), .slice a0 n0 k0, .slice a1 n1 k1, .int .i64 (-1), .slice none 0 0, .int .i64 ch, .bool false]
/-- What holds in a round: a disk and the document's, in the box c. -/
structure Lp (w wr : World) (c : Nat) (k : Dk) (m : Md) (a0 : Option Addr) (n0 k0 : Nat) (a1 : Option Addr) (n1 k1 : Nat) : Prop where
  disk : IsDisk wr w.heap.size w.heap.size k
  box : Blk wr c 31 (bothA w.heap.size a0 n0 k0 a1 n1 k1 m.ch)
  files : FilesT wr (.slice a0 n0 k0) m.sure
  chgs : ChgsT wr (.slice a1 n1 k1) m.cs
  rel : Rel k m
  inv : Inv m
  grown : w.grownBy wr none
abbrev set7 (w : World) (c : Nat) (v0 v1 v2 v3 v4 v5 v6 : Value) : World := set6 (w.setCell ⟨c, 0, none⟩ v0) c v1 v2 v3 v4 v5 v6
theorem lp_store {w wr w2 : World} {c : Nat} {k q : Dk} {m m2 : Md} {a0 a1 a2 a3 : Option Addr} {n0 k0 n1 k1 n2 k2 n3 k3 : Nat} (h : Lp w wr c k m a0 n0 k0 a1 n1 k1) (hc : w.heap.size ≤ c)
    (hD : IsDisk w2 w.heap.size w.heap.size q) (hF : FilesT w2 (.slice a2 n2 k2) m2.sure) (hC : ChgsT w2 (.slice a3 n3 k3) m2.cs) (hT : Tend w.heap.size w.heap.size wr w2) (hR : Rel q m2) (hI : Inv m2) :
    Lp w (set7 w2 c (.pointer (some ⟨w.heap.size, 0, none⟩)) (.slice a2 n2 k2) (.slice a3 n3 k3) (.int .i64 (-1)) (.slice none 0 0) (.int .i64 m2.ch) (.bool false)) c q m2 a2 n2 k2 a3 n3 k3 := by
  obtain ⟨cs, hb⟩ := h.disk.blk
  have B := h.box.far (Far.of_tend hb hT) (by decide) (by decide)
  have oF := hF.2.off B (by decide)
  have oC := hC.2.off B (by decide)
  refine ⟨?_, ?_, ?_, ?_, hR, hI, ?_⟩
  · exact (hD.set B (by decide) (by decide) 0 _).sx (B.set 0 _) (by decide) (by decide) _ _ _ _ _ _
  · exact (B.set 0 (.pointer (some ⟨w.heap.size, 0, none⟩))).sx (.slice a2 n2 k2) (.slice a3 n3 k3) (.int .i64 (-1)) (.slice none 0 0) (.int .i64 m2.ch) (.bool false)
  · exact (hF.set oF 0 _).sx oF _ _ _ _ _ _
  · exact (hC.set oC 0 _).sx oC _ _ _ _ _ _
  · exact grown_sx (grown_set_new (Tend.grown h.grown hT) _ hc) hc _ _ _ _ _ _
/-- And a slice of files that is kept beside. -/
theorem side_store {w wr w2 : World} {c : Nat} {k : Dk} {m : Md} {a0 a1 : Option Addr} {n0 k0 n1 k1 : Nat} (h : Lp w wr c k m a0 n0 k0 a1 n1 k1) {v : Value} {l : FS} (hv : FilesT wr v l) (hT : Tend w.heap.size w.heap.size wr w2) (v0 v1 v2 v3 v4 v5 v6 : Value) : FilesT (set7 w2 c v0 v1 v2 v3 v4 v5 v6) v l := by
  obtain ⟨cs, hb⟩ := h.disk.blk
  have hF := Far.of_tend hb hT
  have B := h.box.far hF (by decide) (by decide)
  have h2 := hv.far hF
  have o := h2.2.off B (by decide)
  exact (h2.set o 0 _).sx o _ _ _ _ _ _
end Go.Proofs.Ytoenddcdafnmiaa
namespace Go.Proofs.Ytoenddcdafnmiaa
open Go.RowKit Go.Maps
theorem foldF_eq (keep : Int) (L : Nat → OkChg) (l : FS) : ∀ n, foldF l (stTo keep 0 L n).1 = foldC l (keptC keep (fun i => (L i).1) n)
  | 0 => rfl
  | n + 1 => by
    have ih := foldF_eq keep L l n
    unfold stTo keptC
    by_cases h : keptB keep n = true
    · rw [if_pos h, if_pos h, foldF_snoc, fold_snoc, ih]
    · rw [if_neg h, if_neg h]
      by_cases h2 : (stTo keep 0 L n).2 = true
      · rw [if_pos h2, if_pos (Or.inl (Int.le_refl _))]
        exact ih
      · rw [if_neg h2]
        exact ih
theorem kept_sim (keep : Int) (P D : Nat → Chg) (l : FS) : ∀ n, (∀ i, i < n → Sim (P i) (D i) ∧ (D i).kind ≤ 4) → foldC l (keptC keep P n) = foldC l (keptC keep D n)
  | 0, _ => rfl
  | n + 1, h => by
    have ih := kept_sim keep P D l n (fun i hi => h i (by omega))
    unfold keptC
    by_cases hb : keptB keep n = true
    · rw [if_pos hb, if_pos hb, fold_snoc, fold_snoc, ih, do_sim (h n (by omega)).1 (h n (by omega)).2]
    · rw [if_neg hb, if_neg hb]
      exact ih
theorem kept_mem (keep : Int) (L : Nat → Chg) : ∀ n c, c ∈ keptC keep L n → ∃ i, i < n ∧ c = L i
  | 0, c, h => by cases h
  | n + 1, c, h => by
    unfold keptC at h
    by_cases hb : keptB keep n = true
    · rw [if_pos hb] at h
      rcases List.mem_append.1 h with h | h
      · obtain ⟨i, hi, e⟩ := kept_mem keep L n c h
        exact ⟨i, by omega, e⟩
      · exact ⟨n, by omega, List.mem_singleton.1 h⟩
    · rw [if_neg hb] at h
      obtain ⟨i, hi, e⟩ := kept_mem keep L n c h
      exact ⟨i, by omega, e⟩
theorem kept_len (keep : Int) (L : Nat → Chg) : ∀ n, (keptC keep L n).length ≤ n
  | 0 => Nat.le_refl _
  | n + 1 => by
    have ih := kept_len keep L n
    unfold keptC
    by_cases hb : keptB keep n = true
    · rw [if_pos hb, List.length_append]
      show _ + 1 ≤ _
      omega
    · rw [if_neg hb]
      omega
theorem keptB_zero (i : Nat) : keptB 0 i = false := by
  unfold keptB
  rw [Int.zero_ediv]
  have : (bits .and .i64 0 1 == 1) = false := by decide
  rw [this, Bool.and_false]
theorem kept_zero (L : Nat → Chg) : ∀ n, keptC 0 L n = []
  | 0 => rfl
  | n + 1 => by
    unfold keptC
    rw [if_neg (by rw [keptB_zero]; decide)]
    exact kept_zero L n
def noC : Chg := ⟨0, ⟨#[]⟩, ⟨#[]⟩, ⟨#[]⟩, 0⟩
theorem noC_ok : OkC noC := ⟨by decide, by decide, by decide, by decide, by decide, by decide⟩
def docL (m : Md) (i : Nat) : Chg := (m.cs[i]?).getD noC
theorem docL_at (m : Md) {i : Nat} (h : i < m.cs.length) : m.cs[i] = docL m i := by
  unfold docL
  rw [List.getElem?_eq_getElem h]
  rfl
def lostM (m : Md) (keep : Int) : FS := foldC m.sure (keptC keep (docL m) m.cs.length)
def progL (k : Dk) (h : ∀ c ∈ k.loose, OkC c) (i : Nat) : OkChg := if q : i < k.loose.length then ⟨k.loose[i], h _ (List.getElem_mem q)⟩ else ⟨noC, noC_ok⟩
theorem progL_at (k : Dk) (h : ∀ c ∈ k.loose, OkC c) (i : Nat) (q : i < k.loose.length) : (progL k h i).1 = k.loose[i] := by
  unfold progL
  rw [dif_pos q]
theorem lost_eq {k : Dk} {m : Md} (hR : Rel k m) (hI : Inv m) : ∃ L : Nat → OkChg, (∀ i, (h : i < k.loose.length) → k.loose[i] = (L i).1) ∧ ∀ keep, lostF k keep 0 L = lostM m keep := by
  refine ⟨progL k hR.ok, fun i h => (progL_at k hR.ok i h).symm, fun keep => ?_⟩
  unfold lostF lostM
  rw [foldF_eq, hR.sure, hR.count]
  refine kept_sim keep _ _ _ _ (fun i hi => ?_)
  have hi' : i < k.loose.length := by rw [hR.count]; exact hi
  rw [progL_at k hR.ok i hi', ← docL_at m hi]
  exact ⟨hR.loose i hi' hi, (hI.tiny _ (List.getElem_mem hi)).kind⟩
theorem lost_zero (m : Md) : lostM m 0 = m.sure := by
  unfold lostM
  rw [kept_zero]
  rfl
theorem kept_tiny {m : Md} (hI : Inv m) (keep : Int) {n : Nat} (hn : n ≤ m.cs.length) : ∀ c ∈ keptC keep (docL m) n, Tiny c := fun c hc => by
  obtain ⟨i, hi, rfl⟩ := kept_mem keep (docL m) n c hc
  rw [← docL_at m (by omega)]
  exact hI.tiny _ (List.getElem_mem _)
theorem kept_fits {m : Md} (hI : Inv m) (keep : Int) {n : Nat} (hn : n ≤ m.cs.length) : Fits (foldC m.sure (keptC keep (docL m) n)) 10000 :=
  (hI.fits (kept_tiny hI keep hn) (Nat.le_trans (kept_len keep _ n) hn)).mono (by have := hI.ch; omega)
/-- What a disk holds when the power is up again. -/
def upD (l : FS) (ch : Nat) : Dk := ⟨l, l, [], 0, ch, false⟩
end Go.Proofs.Ytoenddcdafnmiaa
