/-
  The document's changes as a list; Now. Sync of the document. Crash of the document, with nothing torn. strike of the document: no fall is planned.
-/
import Derived.Test.YtoenddcdafnmiaaKRany
import Derived.Deep.RegionHeld3
import Derived.Test.YtoenddcdafnmiaaSurv
namespace Go.Proofs.Ytoenddcdafnmiaa
open Go.RowKit Go.Maps
theorem hid {p : Prop} (h : p) : Hid p := h
def Chg.refs (c : Chg) : List Value := [.int .i64 c.kind, .string c.name, .string c.to, .string c.bytes, .int .i64 c.n]
/-- A slice of the document's changes reads as this list. -/
def ChgsV (w : World) (v : Value) (cs : List Chg) : Prop := (v = .slice none 0 0 ∧ cs = []) ∨ ∃ cap g o, v = .slice (some ⟨g, o, none⟩) cs.length cap ∧ cs.length ≤ cap ∧ cap ≤ maxLen ∧ ∀ i, (h : i < cs.length) → ∀ j, j < 5 → w.cell? ⟨g, o + i * 5 + j, none⟩ = cs[i].refs[j]?
theorem refs_some (c : Chg) {j : Nat} (h : j < 5) : ∃ u, c.refs[j]? = some u := ⟨_, List.getElem?_eq_getElem (by exact h)⟩
theorem ChgsV.kept {w w' : World} {v : Value} {cs : List Chg} (h : ChgsV w v cs) (hg : w.grownBy w' none) : ChgsV w' v cs := by
  rcases h with h | ⟨cap, g, o, rfl, hcap, hmx, h0⟩
  · exact Or.inl h
  refine Or.inr ⟨cap, g, o, rfl, hcap, hmx, fun i hi j hj => ?_⟩
  obtain ⟨u, hu⟩ := refs_some cs[i] hj
  have hc := h0 i hi j hj
  rw [hu] at hc ⊢
  exact ((grown_below hg).cell (p := ⟨g, o + i * 5 + j, none⟩) (World.block_lt_of_cell? _ _ hc)).trans hc
/-- A slice of changes, in a block of changes. -/
def ChgsT (w : World) (v : Value) (cs : List Chg) : Prop := ChgsV w v cs ∧ TyV 69 w v
theorem ChgsT.kept {w w' : World} {v : Value} {cs : List Chg} (h : ChgsT w v cs) (hg : w.grownBy w' none) : ChgsT w' v cs := ⟨h.1.kept hg, h.2.kept hg⟩
theorem ChgsV.old {w : World} {v : Value} {cs : List Chg} (h : ChgsV w v cs) : ∃ (pa : Option Addr) (cap g o : Nat), v = .slice pa cs.length cap ∧ cs.length ≤ cap ∧ (0 < cs.length → pa = some ⟨g, o, none⟩) ∧ ∀ i, (h : i < cs.length) → ∀ j, j < 5 → w.cell? ⟨g, o + i * 5 + j, none⟩ = cs[i].refs[j]? := by
  rcases h with ⟨rfl, rfl⟩ | ⟨cap, g, o, rfl, hc, _, h0⟩
  · exact ⟨none, 0, 0, 0, rfl, Nat.le_refl _, (fun h => absurd h (Nat.lt_irrefl _)), (fun i h => absurd h (Nat.not_lt_zero _))⟩
  · exact ⟨_, cap, g, o, rfl, hc, fun _ => rfl, h0⟩
/-- A change that the document may hold. -/
def OkR (c : Chg) : Prop := c.kind ≤ 4 ∧ c.bytes.size ≤ 100000 ∧ (c.kind = 4 → 0 ≤ c.n)
def foldC (l : FS) (cs : List Chg) : FS := cs.foldl doF l
theorem rising_fold {l : FS} (hr : Rising l) : ∀ cs, Rising (foldC l cs) := fun cs => by
  unfold foldC
  induction cs generalizing l with
  | nil => exact hr
  | cons c r ih => exact ih (rising_do hr c)
theorem fold_next {l : FS} {cs : List Chg} {k : Nat} (h : k < cs.length) : foldC l (cs.take (k + 1)) = doF (foldC l (cs.take k)) cs[k] := by
  rw [List.take_succ_eq_append_getElem h]
  unfold foldC
  rw [List.foldl_append]
  rfl
set_option maxRecDepth 100000 in
set_option maxHeartbeats 2000000 in
theorem now_any (vs vl vf : Value) (room ch : Int) (dn : Bool) (l : FS) (cs : List Chg) (w : World) (hs : FilesT w vs l) (hc : ChgsV w vl cs) (hr : Rising l) (hok : ∀ c ∈ cs, OkR c) (hlen : cs.length ≤ 1000) (hfit : ∀ k, k ≤ cs.length → Fits (foldC l (cs.take k)) 100000) :
    Calls Try.prog 13 #[.agg #[vs, vl, .int .i64 room, vf, .int .i64 ch, .bool dn]] w fun e w' => ∃ v', e = .returned v' ∧ FilesT w' v' (foldC l cs) ∧ w.grownBy w' none := by
  have CD : Hid (∀ k, (h : k < cs.length) → ∀ W v, FilesT W v (foldC l (cs.take k)) → Calls Try.prog 36 #[v, .agg #[.int .i64 cs[k].kind, .string cs[k].name, .string cs[k].to, .string cs[k].bytes, .int .i64 cs[k].n]] W fun e w' => ∃ v', e = .returned v' ∧ FilesT w' v' (foldC l (cs.take (k + 1))) ∧ W.grownBy w' none) := fun k h W v hv => by
    rw [fold_next h]
    have ho := hok cs[k] (List.getElem_mem h)
    exact rdo_any v _ cs[k] W hv (hfit k (by omega)) (rising_fold hr _) ho.1 ho.2.1 ho.2.2
  have HS : Hid (FilesT w vs l) := hs
  have HC : Hid (ChgsV w vl cs) := hc
  obtain ⟨pa, cap, g, o, rfl, hcap, hpa, h0⟩ := hc.old
  have hT : foldC l (cs.take cs.length) = foldC l cs := by rw [List.take_length]
  have HT : Hid (foldC l (cs.take cs.length) = foldC l cs) := hT
  have HP : Hid (0 < cs.length → pa = some ⟨g, o, none⟩) := hpa
  have H0 : Hid (∀ W, w.grownBy W none → ∀ i, (h : i < cs.length) → ∀ j u, j < 5 → cs[i].refs[j]? = some u → W.cell? ⟨g, o + i * 5 + j, none⟩ = some u) := fun W hW i hi j u hj hu => by
    have hc := h0 i hi j hj
    rw [hu] at hc
    exact ((grown_below hW).cell (p := ⟨g, o + i * 5 + j, none⟩) (World.block_lt_of_cell? _ _ hc)).trans hc
  have hll : (cs.length : Int) ≤ 1000 := by omega
  clear hs hc hr hok hfit h0 hpa hT HC
  go_enter Try.func13, Try.ntmps13
  go_wp2
  go_loopw [3, 4] (fun v i wr => ∃ k : Nat, k ≤ cs.length ∧ i = .int .i64 k ∧ FilesT wr v (foldC l (cs.take k)) ∧ w.grownBy wr none ∧ wr.cell? ⟨w.heap.size, 1, none⟩ = some (.slice pa cs.length cap)) (fun _ i _ => cs.length - (intOf i).toNat)
  case atStart => exact ⟨0, Nat.zero_le _, rfl, HS.out.kept (grown_alloc (grown_refl _ _) _), grown_alloc (grown_refl _ _) _, (Blk.new w 29 _).cell 1⟩
  case round =>
    obtain ⟨k, hk, rfl, hv, hg, hcl⟩ := hrel
    have HV := hid hv
    have HG : Hid (w.grownBy wr none) := hg
    have k0 : (0 : Int) ≤ k := by omega
    by_cases hkl : k < cs.length
    · have hp := HP.out (by omega)
      subst hp
      have c0 : wr.cell? ⟨g, o + k * 5, none⟩ = some (.int .i64 cs[k].kind) := H0.out wr hg k hkl 0 _ (by decide) rfl
      have c1 : wr.cell? ⟨g, o + k * 5 + 1, none⟩ = some (.string cs[k].name) := H0.out wr hg k hkl 1 _ (by decide) rfl
      have c2 : wr.cell? ⟨g, o + k * 5 + 2, none⟩ = some (.string cs[k].to) := H0.out wr hg k hkl 2 _ (by decide) rfl
      have c3 : wr.cell? ⟨g, o + k * 5 + 3, none⟩ = some (.string cs[k].bytes) := H0.out wr hg k hkl 3 _ (by decide) rfl
      have c4 : wr.cell? ⟨g, o + k * 5 + 4, none⟩ = some (.int .i64 cs[k].n) := H0.out wr hg k hkl 4 _ (by decide) rfl
      have k1 : (k : Int) < cs.length := by omega
      have cd := CD.out k hkl
      have CE := hid cd
      clear cd CD H0 HS HT hv hg
      generalize cs[k].kind = q0 at *
      generalize cs[k].name = q1 at *
      generalize cs[k].to = q2 at *
      generalize cs[k].bytes = q3 at *
      generalize cs[k].n = q4 at *
      go_wp2_with (go_at_call 36; refine (CE.out _ _ HV.out).mono ?_; rintro e w2 ⟨v2, rfl, hv2, hg2⟩; have V2 := hid hv2; have G2 : Hid (wr.grownBy w2 none) := hg2; have hcl2 : Hid (w2.cell? ⟨w.heap.size, 1, none⟩ = some (.slice (some ⟨g, o, none⟩) cs.length cap)) := ((grown_below hg2).cell (p := ⟨w.heap.size, 1, none⟩) (World.block_lt_of_cell? _ _ hcl)).trans hcl; clear hv2 hg2)
      go_roundw
      case rel => exact ⟨k + 1, by omega, by go_num, V2.out, grown_trans HG.out G2.out, hcl2.out⟩
      case measure => simp [intOf]; omega
    · obtain rfl : k = cs.length := by omega
      have k1 : ¬ (cs.length : Int) < cs.length := by omega
      rw [HT.out] at hv
      have HW := hid hv
      clear hv hg
      go_wp2
      go_ret
      exact ⟨_, rfl, HW.out, HG.out⟩
end Go.Proofs.Ytoenddcdafnmiaa
namespace Go.Proofs.Ytoenddcdafnmiaa
open Go.RowKit Go.Maps
theorem FilesV.shape {w : World} {v : Value} {l : FS} (h : FilesV w v l) : ∃ pa n c, v = .slice pa n c := by
  rcases h with ⟨rfl, _⟩ | ⟨cap, g, o, rfl, _⟩
  · exact ⟨_, _, _, rfl⟩
  · exact ⟨_, _, _, rfl⟩
theorem ChgsV.shape {w : World} {v : Value} {l : List Chg} (h : ChgsV w v l) : ∃ pa n c, v = .slice pa n c := by
  rcases h with ⟨rfl, _⟩ | ⟨cap, g, o, rfl, _⟩
  · exact ⟨_, _, _, rfl⟩
  · exact ⟨_, _, _, rfl⟩
/-- A slice that has elements does not lie in this block. -/
def Off (v : Value) (b : Nat) : Prop := ∀ g o n c, v = .slice (some ⟨g, o, none⟩) n c → 0 < n → g ≠ b
theorem FilesV.set {w : World} {v : Value} {l : FS} (h : FilesV w v l) {b : Nat} (hb : Off v b) (i : Nat) (u : Value) : FilesV (w.setCell ⟨b, i, none⟩ u) v l := by
  rcases h with h | ⟨cap, g, o, rfl, hcap, hmx, h0, h1⟩
  · exact Or.inl h
  refine Or.inr ⟨cap, g, o, rfl, hcap, hmx, fun j hj => ?_, fun j hj => ?_⟩
  · rw [World.cell?_setCell_far _ _ _ _ (show b ≠ g from (hb g o _ _ rfl (by omega)).symm)]; exact h0 j hj
  · rw [World.cell?_setCell_far _ _ _ _ (show b ≠ g from (hb g o _ _ rfl (by omega)).symm)]; exact h1 j hj
theorem ChgsV.set {w : World} {v : Value} {l : List Chg} (h : ChgsV w v l) {b : Nat} (hb : Off v b) (i : Nat) (u : Value) : ChgsV (w.setCell ⟨b, i, none⟩ u) v l := by
  rcases h with h | ⟨cap, g, o, rfl, hcap, hmx, h0⟩
  · exact Or.inl h
  refine Or.inr ⟨cap, g, o, rfl, hcap, hmx, fun j hj k hk => ?_⟩
  rw [World.cell?_setCell_far _ _ _ _ (show b ≠ g from (hb g o _ _ rfl (by omega)).symm)]; exact h0 j hj k hk
/-- Files lie in no block that holds no text. -/
theorem FilesV.off {w : World} {v : Value} {l : FS} (h : FilesV w v l) {b : Nat} {t : TypeId} {cs : Array Value} (hb : Blk w b t cs) (hn : ∀ (i : Nat) (s : ByteArray), cs[i]? ≠ some (.string s)) : Off v b := by
  intro g o n c e hpos hg
  subst hg
  rcases h with ⟨rfl, _⟩ | ⟨cap, g', o', rfl, hcap, hmx, h0, _⟩
  · cases e
  · cases e
    have := h0 0 hpos
    rw [hb.cell] at this
    exact hn _ _ this
theorem Blk.six {w : World} {b : Nat} {t : TypeId} {v0 v1 v2 v3 v4 v5 : Value} (h : Blk w b t #[v0, v1, v2, v3, v4, v5]) : (w.cell? ⟨b, 0, none⟩ = some v0 ∧ w.cell? ⟨b, 1, none⟩ = some v1 ∧ w.cell? ⟨b, 2, none⟩ = some v2 ∧ w.cell? ⟨b, 3, none⟩ = some v3 ∧ w.cell? ⟨b, 4, none⟩ = some v4 ∧ w.cell? ⟨b, 5, none⟩ = some v5) ∧ w.frozen? ⟨b, 0, none⟩ = false ∧ w.frozen? ⟨b, 1, none⟩ = false ∧ w.frozen? ⟨b, 2, none⟩ = false ∧ w.frozen? ⟨b, 3, none⟩ = false ∧ w.frozen? ⟨b, 4, none⟩ = false ∧ w.frozen? ⟨b, 5, none⟩ = false :=
  ⟨⟨h.cell 0, h.cell 1, h.cell 2, h.cell 3, h.cell 4, h.cell 5⟩, h.frozen 0, h.frozen 1, h.frozen 2, h.frozen 3, h.frozen 4, h.frozen 5⟩
theorem no_text {a0 a1 : Option Addr} {n0 c0 n1 c1 : Nat} {r c : Int} {d : Bool} : ∀ (i : Nat) (s : ByteArray), (#[Value.slice a0 n0 c0, .slice a1 n1 c1, .int .i64 r, .slice none 0 0, .int .i64 c, .bool d] : Array Value)[i]? ≠ some (.string s) := by
  intro i s
  rcases i with _ | _ | _ | _ | _ | _ | i <;> simp
theorem FilesT.set {w : World} {v : Value} {l : FS} (h : FilesT w v l) {b : Nat} (hb : Off v b) (i : Nat) (u : Value) : FilesT (w.setCell ⟨b, i, none⟩ u) v l := ⟨h.1.set hb i u, h.2.set b i u⟩
set_option maxRecDepth 100000 in
set_option maxHeartbeats 2000000 in
theorem rsync_any (vs vl : Value) (room ch : Int) (l : FS) (cs : List Chg) (w : World) (hs : FilesT w vs l) (hc : ChgsV w vl cs) (hr : Rising l) (hok : ∀ c ∈ cs, OkR c) (hlen : cs.length ≤ 1000) (hfit : ∀ k, k ≤ cs.length → Fits (foldC l (cs.take k)) 100000) :
    Calls Try.prog 12 #[.agg #[vs, vl, .int .i64 room, .slice none 0 0, .int .i64 ch, .bool false]] w fun e w' => ∃ v', e = .returned (.tuple #[.agg #[v', .slice none 0 0, .int .i64 room, .slice none 0 0, .int .i64 ch, .bool false], .int .i64 0]) ∧ FilesT w' v' (foldC l cs) ∧ w.grownBy w' none := by
  have CN : Hid (∀ W, w.grownBy W none → Calls Try.prog 13 #[.agg #[vs, vl, .int .i64 room, .slice none 0 0, .int .i64 ch, .bool false]] W fun e w' => ∃ v', e = .returned v' ∧ FilesT w' v' (foldC l cs) ∧ W.grownBy w' none) := fun W hW => now_any vs vl _ room ch false l cs W (hs.kept hW) (hc.kept hW) hr hok hlen hfit
  obtain ⟨a0, n0, k0, rfl⟩ := hs.1.shape
  obtain ⟨a1, n1, k1, rfl⟩ := hc.shape
  clear hs hc hr hok hlen hfit
  go_enter Try.func12, Try.ntmps12
  go_wp2_with (go_at_call 13; refine (CN.out _ (grown_alloc (grown_alloc (grown_refl _ _) _) _)).mono ?_; rintro e w1 ⟨v1, rfl, hv, hg⟩; obtain ⟨pa, ln, cp, rfl⟩ := hv.1.shape; have V1 : Hid (FilesT w1 (.slice pa ln cp) (foldC l cs)) := hv; have G1 : Hid (w.grownBy w1 none) := grown_trans (grown_alloc (grown_alloc (grown_refl _ _) _) _) hg; have b1 := ((Blk.new w 29 #[.slice a0 n0 k0, .slice a1 n1 k1, .int .i64 room, .slice none 0 0, .int .i64 ch, .bool false]).alloc (.cells #[.slice none 0 0, .slice none 0 0, .int .i64 0, .slice none 0 0, .int .i64 0, .bool false] 29)).kept hg (by simp); have b2 := (Blk.new (w.alloc (.cells #[.slice a0 n0 k0, .slice a1 n1 k1, .int .i64 room, .slice none 0 0, .int .i64 ch, .bool false] 29)) 29 #[.slice none 0 0, .slice none 0 0, .int .i64 0, .slice none 0 0, .int .i64 0, .bool false]).kept hg (by simp); rw [World.size_alloc] at b2; have O1 : Hid (Off (.slice pa ln cp) w.heap.size) := V1.out.1.off b1 no_text; have O2 : Hid (Off (.slice pa ln cp) (w.heap.size + 1)) := V1.out.1.off b2 no_text; obtain ⟨⟨c0, c1, c2, c3, c4, c5⟩, f0, f1, _⟩ := b1.six; obtain ⟨⟨d0, d1, d2, d3, d4, d5⟩, g0, g1, g2, g3, g4, g5⟩ := b2.six; clear hv hg b1 b2 CN)
  refine bodyPost_ret (v := .tuple #[.agg #[.slice pa ln cp, .slice none 0 0, .int .i64 room, .slice none 0 0, .int .i64 ch, .bool false], .int .i64 0]) (by simp [results, Try.results12, go_sem, d0, d1, d2, d3, d4, d5]) rfl ⟨_, rfl, ?_, ?_⟩
  · exact (((((((V1.out.set O1.out 0 _).set O1.out 1 _).set O2.out 0 _).set O2.out 1 _).set O2.out 2 _).set O2.out 3 _).set O2.out 4 _).set O2.out 5 _
  · exact grown_set_new (grown_set_new (grown_set_new (grown_set_new (grown_set_new (grown_set_new (grown_set_new (grown_set_new G1.out _ (Nat.le_refl _)) _ (Nat.le_refl _)) _ (Nat.le_succ _)) _ (Nat.le_succ _)) _ (Nat.le_succ _)) _ (Nat.le_succ _)) _ (Nat.le_succ _)) _ (Nat.le_succ _)
end Go.Proofs.Ytoenddcdafnmiaa
namespace Go.Proofs.Ytoenddcdafnmiaa
open Go.RowKit Go.Maps
/-- What is kept of the first k changes. -/
def keptC (keep : Int) (L : Nat → Chg) : Nat → List Chg
  | 0 => []
  | k + 1 => if keptB keep k then keptC keep L k ++ [L k] else keptC keep L k
theorem fold_snoc (l : FS) (cs : List Chg) (c : Chg) : foldC l (cs ++ [c]) = doF (foldC l cs) c := by
  unfold foldC
  rw [List.foldl_append]
  rfl
theorem half_next (keep : Int) (k : Nat) : keep / 2 ^ k / 2 = keep / 2 ^ (k + 1) := by
  rw [Int.pow_succ, Int.ediv_ediv_of_nonneg (Int.pow_nonneg (by decide))]
theorem half_le {keep : Int} (h0 : -9223372036854775808 ≤ keep) (h1 : keep ≤ 9223372036854775807) : ∀ k : Nat, -9223372036854775808 ≤ keep / 2 ^ k ∧ keep / 2 ^ k ≤ 9223372036854775807
  | 0 => by simp [h0, h1]
  | k + 1 => by
    have ih := half_le h0 h1 k
    rw [← half_next]
    omega
set_option maxRecDepth 100000 in
set_option maxHeartbeats 4000000 in
theorem rcrash_any (vs vl : Value) (room ch keep : Int) (l : FS) (cs : List Chg) (L : Nat → Chg) (w : World) (hs : FilesT w vs l) (hc : ChgsV w vl cs) (hr : Rising l) (hL : ∀ k, (h : k < cs.length) → cs[k] = L k) (hok : ∀ k, k < cs.length → OkR (L k)) (hlen : cs.length ≤ 60) (hfit : ∀ k, k ≤ cs.length → Fits (foldC l (keptC keep L k)) 100000) (hk0 : -9223372036854775808 ≤ keep) (hk1 : keep ≤ 9223372036854775807) :
    Calls Try.prog 17 #[.agg #[vs, vl, .int .i64 room, .slice none 0 0, .int .i64 ch, .bool false], .int .i64 keep, .int .i64 0] w fun e w' => ∃ v', e = .returned (.agg #[v', .slice none 0 0, .int .i64 room, .slice none 0 0, .int .i64 ch, .bool true]) ∧ FilesT w' v' (foldC l (keptC keep L cs.length)) ∧ w.grownBy w' none := by
  have CD : Hid (∀ k, k < cs.length → keptB keep k = true → ∀ W v, FilesT W v (foldC l (keptC keep L k)) → Calls Try.prog 36 #[v, .agg #[.int .i64 (L k).kind, .string (L k).name, .string (L k).to, .string (L k).bytes, .int .i64 (L k).n]] W fun e w' => ∃ v', e = .returned v' ∧ FilesT w' v' (foldC l (keptC keep L (k + 1))) ∧ W.grownBy w' none) := fun k h hb W v hv => by
    have e : keptC keep L (k + 1) = keptC keep L k ++ [L k] := by show (if _ then _ else _) = _; rw [if_pos hb]
    rw [e, fold_snoc]
    have ho := hok k h
    exact rdo_any v _ (L k) W hv (hfit k (by omega)) (rising_fold hr _) ho.1 ho.2.1 ho.2.2
  have CN : Hid (∀ k, keptB keep k = false → keptC keep L (k + 1) = keptC keep L k) := fun k hb => by show (if _ then _ else _) = _; rw [if_neg (by rw [hb]; decide)]
  have HH : Hid (∀ k : Nat, -9223372036854775808 ≤ keep / 2 ^ k ∧ keep / 2 ^ k ≤ 9223372036854775807) := half_le hk0 hk1
  obtain ⟨a0, n0, k0, rfl⟩ := hs.1.shape
  have HS : Hid (FilesT w (.slice a0 n0 k0) l) := hs
  obtain ⟨pa, cap, g, o, rfl, hcap, hpa, h0⟩ := hc.old
  have HP : Hid (0 < cs.length → pa = some ⟨g, o, none⟩) := hpa
  have H0 : Hid (∀ W, w.grownBy W none → ∀ i, i < cs.length → ∀ j u, j < 5 → (L i).refs[j]? = some u → W.cell? ⟨g, o + i * 5 + j, none⟩ = some u) := fun W hW i hi j u hj hu => by
    have hc := h0 i hi j hj
    rw [hL i hi, hu] at hc
    exact ((grown_below hW).cell (p := ⟨g, o + i * 5 + j, none⟩) (World.block_lt_of_cell? _ _ hc)).trans hc
  have hll : (cs.length : Int) ≤ 60 := by omega
  clear hs hc hr hok hfit h0 hpa hL hk0 hk1
  generalize cs.length = len at *
  go_enter Try.func17, Try.ntmps17
  go_wp2
  go_loopw [2, 7, 8] (fun t b i wr => ∃ (k : Nat) (pb : Option Addr) (lb cb : Nat), k ≤ len ∧ t = .int .i64 0 ∧ b = .int .i64 (keep / 2 ^ k) ∧ i = .int .i64 k ∧ Blk wr w.heap.size 29 #[.slice pb lb cb, .slice pa len cap, .int .i64 room, .slice none 0 0, .int .i64 ch, .bool false] ∧ Blk wr (w.heap.size + 1) 29 #[.slice none 0 0, .slice none 0 0, .int .i64 0, .slice none 0 0, .int .i64 0, .bool false] ∧ FilesT wr (.slice pb lb cb) (foldC l (keptC keep L k)) ∧ w.grownBy wr none) (fun _ _ i _ => len - (intOf i).toNat)
  case atStart => exact ⟨0, a0, n0, k0, Nat.zero_le _, rfl, by simp, rfl, (Blk.new w 29 _).alloc _, by have := Blk.new (w.alloc (.cells #[.slice a0 n0 k0, .slice pa len cap, .int .i64 room, .slice none 0 0, .int .i64 ch, .bool false] 29)) 29 #[.slice none 0 0, .slice none 0 0, .int .i64 0, .slice none 0 0, .int .i64 0, .bool false]; rw [World.size_alloc] at this; exact this, HS.out.kept (grown_alloc (grown_alloc (grown_refl _ _) _) _), grown_alloc (grown_alloc (grown_refl _ _) _) _⟩
  case round =>
    obtain ⟨k, pb, lb, cb, hk, rfl, rfl, rfl, hb1, hb2, hv, hg⟩ := hrel
    have HV := hid hv
    have HG : Hid (w.grownBy wr none) := hg
    have B1 := hid hb1
    have B2 := hid hb2
    obtain ⟨⟨c0, c1, c2, c3, c4, c5⟩, f0, f1, _, _, _, f5⟩ := hb1.six
    have lt1 := hb1.lt
    have lt2 := hb2.lt
    have q0 : (0 : Int) ≤ k := by omega
    by_cases hkl : k < len
    · have hp := HP.out (by omega)
      subst hp
      have e0 : wr.cell? ⟨g, o + k * 5, none⟩ = some (.int .i64 (L k).kind) := H0.out wr hg k hkl 0 _ (by decide) rfl
      have e1 : wr.cell? ⟨g, o + k * 5 + 1, none⟩ = some (.string (L k).name) := H0.out wr hg k hkl 1 _ (by decide) rfl
      have e2 : wr.cell? ⟨g, o + k * 5 + 2, none⟩ = some (.string (L k).to) := H0.out wr hg k hkl 2 _ (by decide) rfl
      have e3 : wr.cell? ⟨g, o + k * 5 + 3, none⟩ = some (.string (L k).bytes) := H0.out wr hg k hkl 3 _ (by decide) rfl
      have e4 : wr.cell? ⟨g, o + k * 5 + 4, none⟩ = some (.int .i64 (L k).n) := H0.out wr hg k hkl 4 _ (by decide) rfl
      have k1 : (k : Int) < len := by omega
      have k62 : (k : Int) < 62 := by omega
      have hh := HH.out k
      have hnx := half_next keep k
      by_cases hkb : keptB keep k = true
      · have hbit : bits .and .i64 (keep / 2 ^ k) 1 = 1 := by unfold keptB at hkb; simp at hkb; exact hkb.2
        have CE := hid (CD.out k hkl hkb)
        have HN : Hid (keep / 2 ^ k / 2 = keep / 2 ^ (k + 1)) := hnx
        clear CD CN H0 HS hv hg hb1 hb2 hkb hnx HH
        generalize hbs : keep / 2 ^ k = bs at *
        generalize (L k).kind = q0 at *
        generalize (L k).name = q1 at *
        generalize (L k).to = q2 at *
        generalize (L k).bytes = q3 at *
        generalize (L k).n = q4 at *
        go_wp2_with (go_at_call 36; refine (CE.out _ _ (HV.out.kept (grown_alloc (grown_refl _ _) _))).mono ?_; rintro e w2 ⟨v2, rfl, hv2, hg2⟩; obtain ⟨pc, lc, cc, rfl⟩ := hv2.1.shape; have V2 := hid hv2; have G2 : Hid (w.grownBy w2 none) := grown_trans HG.out (grown_trans (grown_alloc (grown_refl _ _) _) hg2); have P1 := hid ((B1.out.alloc (.cells #[.int .i64 q0, .string q1, .string q2, .string q3, .int .i64 q4] 69)).kept hg2 (by simp)); have P2 := hid ((B2.out.alloc (.cells #[.int .i64 q0, .string q1, .string q2, .string q3, .int .i64 q4] 69)).kept hg2 (by simp)); have O1 := hid (V2.out.1.off P1.out no_text); obtain ⟨⟨r0, r1, r2, r3, r4, r5⟩, s0, _⟩ := P1.out.six; clear hv2 hg2)
        go_roundw
        case rel => exact ⟨k + 1, pc, lc, cc, by omega, rfl, by rw [← HN.out], by go_num, P1.out.set 0 _, P2.out.other _ (by show w.heap.size + 1 ≠ w.heap.size; omega), V2.out.set O1.out 0 _, grown_set_new G2.out _ (Nat.le_refl _)⟩
        case measure => simp [intOf]; omega
      · have hkf : keptB keep k = false := by simpa using hkb
        have hbit : ¬ bits .and .i64 (keep / 2 ^ k) 1 = 1 := fun e => by
          have hk62 : k < 62 := by omega
          unfold keptB at hkf
          rw [e] at hkf
          simp [hk62] at hkf
        have HN : Hid (keep / 2 ^ k / 2 = keep / 2 ^ (k + 1)) := hnx
        have HC := hid (CN.out k hkf)
        have hbit2 : (bits .and .i64 (keep / 2 ^ k) 1 == 1) = false := by simpa using hbit
        have z0 : ¬ ((L k).bytes.size : Int) < 0 := by omega
        clear CD CN H0 HS hv hg hb1 hb2 hkb hkf hnx HH
        generalize hbs : keep / 2 ^ k = bs at *
        generalize (L k).kind = q0 at *
        generalize (L k).name = q1 at *
        generalize (L k).to = q2 at *
        generalize (L k).bytes = q3 at *
        generalize (L k).n = q4 at *
        go_wp2
        go_roundw
        case rel => exact ⟨k + 1, pb, lb, cb, by omega, rfl, by rw [← HN.out], by go_num, B1.out.alloc _, B2.out.alloc _, by rw [HC.out]; exact HV.out.kept (grown_alloc (grown_refl _ _) _), grown_alloc HG.out _⟩
        case measure => simp [intOf]; omega
    · obtain rfl : k = len := by omega
      have k1 : ¬ (k : Int) < k := by omega
      have O1 := hid (hv.1.off hb1 no_text)
      have O2 := hid (hv.1.off hb2 no_text)
      obtain ⟨⟨d0, d1, d2, d3, d4, d5⟩, g0, g1, g2, g3, g4, g5⟩ := hb2.six
      clear CD CN H0 HS hv hg hb1 hb2 HH
      go_wp2
      refine bodyPost_ret (v := .agg #[.slice pb lb cb, .slice none 0 0, .int .i64 room, .slice none 0 0, .int .i64 ch, .bool true]) (by simp [results, Try.results17, go_sem, d0, d1, d2, d3, d4, d5]) rfl ⟨_, rfl, ?_, ?_⟩
      · exact (((((((HV.out.set O1.out 1 _).set O1.out 5 _).set O2.out 0 _).set O2.out 1 _).set O2.out 2 _).set O2.out 3 _).set O2.out 4 _).set O2.out 5 _
      · exact grown_set_new (grown_set_new (grown_set_new (grown_set_new (grown_set_new (grown_set_new (grown_set_new (grown_set_new HG.out _ (Nat.le_refl _)) _ (Nat.le_refl _)) _ (Nat.le_succ _)) _ (Nat.le_succ _)) _ (Nat.le_succ _)) _ (Nat.le_succ _)) _ (Nat.le_succ _)) _ (Nat.le_succ _)
end Go.Proofs.Ytoenddcdafnmiaa
namespace Go.Proofs.Ytoenddcdafnmiaa
open Go.RowKit Go.Maps
set_option maxRecDepth 100000 in
set_option maxHeartbeats 2000000 in
theorem strike_none (a0 a1 : Option Addr) (n0 k0 n1 k1 : Nat) (room ch : Int) (dn : Bool) (w : World) :
    Calls Try.prog 46 #[.agg #[.slice a0 n0 k0, .slice a1 n1 k1, .int .i64 room, .slice none 0 0, .int .i64 ch, .bool dn]] w fun e w' => e = .returned (.tuple #[.agg #[.slice a0 n0 k0, .slice a1 n1 k1, .int .i64 room, .slice none 0 0, .int .i64 ch, .bool dn], .bool false]) ∧ w.grownBy w' none := by
  go_enter Try.func46, Try.ntmps46
  go_wp2
  go_loop [4] (fun i => i = .int .i64 0) (fun _ => 0)
  case atStart => rfl
  case round =>
    subst hrel
    go_wp2
    refine bodyPost_ret (v := .tuple #[.agg #[.slice a0 n0 k0, .slice a1 n1 k1, .int .i64 room, .slice none 0 0, .int .i64 ch, .bool dn], .bool false]) (by simp [results, Try.results46, go_sem]) rfl ⟨rfl, ?_⟩
    exact grown_alloc (grown_alloc (grown_refl _ _) _) _
end Go.Proofs.Ytoenddcdafnmiaa
