/-
  put, drop of the document's files. drop of the document's files; Get, Size.
-/
import Derived.Test.YtoenddcdafnmiaaKFind
import Derived.Test.YtoenddcdafnmiaaFail
import Derived.Deep.RegionLaw
namespace Go.Proofs.Ytoenddcdafnmiaa
open Go.RowKit Go.Maps
def putL (l : FS) (n s : ByteArray) : FS := l.take (findN l n) ++ [(n, s)] ++ (if findIs l n then l.drop (findN l n + 1) else l.drop (findN l n))
theorem files_take {w : World} {l : FS} {g o m c : Nat} (hm : m ≤ l.length) (hc : m ≤ c) (hx : c ≤ maxLen) (h0 : ∀ i, (h : i < l.length) → w.cell? ⟨g, o + i * 2, none⟩ = some (.string l[i].1)) (h1 : ∀ i, (h : i < l.length) → w.cell? ⟨g, o + i * 2 + 1, none⟩ = some (.string l[i].2)) : FilesV w (.slice (some ⟨g, o, none⟩) m c) (l.take m) := by
  have e : (l.take m).length = m := by rw [List.length_take]; omega
  refine Or.inr ⟨c, g, o, by rw [e], by rw [e]; exact hc, hx, fun i hi => ?_, fun i hi => ?_⟩
  · rw [e] at hi
    rw [List.getElem_take]
    exact h0 i (by omega)
  · rw [e] at hi
    rw [List.getElem_take]
    exact h1 i (by omega)
theorem files_drop {w : World} {l : FS} {g o m k c : Nat} (hm : m ≤ l.length) (hk : k = l.length - m) (hc : k ≤ c) (hx : c ≤ maxLen) (h0 : ∀ i, (h : i < l.length) → w.cell? ⟨g, o + i * 2, none⟩ = some (.string l[i].1)) (h1 : ∀ i, (h : i < l.length) → w.cell? ⟨g, o + i * 2 + 1, none⟩ = some (.string l[i].2)) : FilesV w (.slice (some ⟨g, o + m * 2, none⟩) k c) (l.drop m) := by
  have e : (l.drop m).length = k := by rw [List.length_drop, hk]
  refine Or.inr ⟨c, g, o + m * 2, by rw [e], by rw [e]; exact hc, hx, fun i hi => ?_, fun i hi => ?_⟩
  · rw [e] at hi
    rw [List.getElem_drop]
    have := h0 (m + i) (by omega)
    rw [show o + m * 2 + i * 2 = o + (m + i) * 2 from by omega]
    exact this
  · rw [e] at hi
    rw [List.getElem_drop]
    have := h1 (m + i) (by omega)
    rw [show o + m * 2 + i * 2 + 1 = o + (m + i) * 2 + 1 from by omega]
    exact this
theorem files_empty {w : World} (g o : Nat) : FilesV w (.slice (some ⟨g, o, none⟩) 0 0) [] := Or.inr ⟨0, g, o, rfl, Nat.zero_le _, Nat.zero_le _, (fun _ h => absurd h (Nat.not_lt_zero _)), (fun _ h => absurd h (Nat.not_lt_zero _))⟩
theorem files_one (w : World) (n s : ByteArray) : FilesV (w.alloc (.cells #[.string n, .string s] 73)) (.slice (some ⟨w.heap.size, 0, none⟩) 1 1) [(n, s)] := by
  have B := Blk.new w 73 #[.string n, .string s]
  refine Or.inr ⟨1, w.heap.size, 0, rfl, Nat.le_refl _, by unfold maxLen; decide, fun i hi => ?_, fun i hi => ?_⟩
  · have hi' : i = 0 := by simpa using hi
    subst hi'
    rw [B.cell]
    rfl
  · have hi' : i = 0 := by simpa using hi
    subst hi'
    rw [B.cell]
    rfl
/-- The three appends: what stands ahead, the file, what stands behind. -/
theorem row_grown {w w1 w2 : World} {base : Nat} {v : Value} {n : Nat} {xs : List Value} (h : w.grownBy w1 none) (hr : w1.ownsRow base 73 2 v n xs) (hb : w.heap.size ≤ base) (hg : w1.grownBy w2 v.ownBlock) : w.grownBy w2 none := grown_ob h hg (fun x e => Nat.le_trans hb (hr.lt x e).1)
theorem row_alloc {w : World} {base : Nat} {v : Value} {n : Nat} {xs : List Value} (h : w.ownsRow base 73 2 v n xs) (o : Obj) : (w.alloc o).ownsRow base 73 2 v n xs := h.alloc o
set_option maxRecDepth 100000 in
set_option maxHeartbeats 2000000 in
theorem put_some (g o cap : Nat) (l : FS) (n s : ByteArray) (w : World) (hcap : l.length ≤ cap) (hl : l.length ≤ 100000) (h0 : ∀ i, (h : i < l.length) → w.cell? ⟨g, o + i * 2, none⟩ = some (.string l[i].1)) (h1 : ∀ i, (h : i < l.length) → w.cell? ⟨g, o + i * 2 + 1, none⟩ = some (.string l[i].2)) (hx : cap ≤ maxLen) :
    Calls Try.prog 50 #[.slice (some ⟨g, o, none⟩) l.length cap, .string n, .string s] w fun e w' => ∃ v', e = .returned v' ∧ FilesT w' v' (putL l n s) ∧ w.grownBy w' none := by
  have CF : Hid (∀ w', w.grownBy w' none → Calls Try.prog 49 #[.slice (some ⟨g, o, none⟩) l.length cap, .string n] w' fun e w'' => e = .returned (.tuple #[.int .i64 (findN l n), .bool (findIs l n)]) ∧ w'.grownBy w'' none) := fun w' hg => find_any _ l n w' (FilesV.kept (Or.inr ⟨cap, g, o, rfl, hcap, hx, h0, h1⟩) hg) hl
  have hc : (cap : Int) ≤ 9223372036854775807 := by unfold maxLen at hx; omega
  have hfl := findN_le l n
  have hbl : findIs l n = true → findN l n < l.length := fun h => by
    unfold findIs at h
    by_cases hx : findN l n < l.length
    · exact hx
    · rw [List.getElem?_eq_none (by omega)] at h; cases h
  have pe : putL l n s = l.take (findN l n) ++ [(n, s)] ++ (if findIs l n then l.drop (findN l n + 1) else l.drop (findN l n)) := rfl
  generalize findN l n = m at *
  generalize findIs l n = b at *
  have PE : Hid (putL l n s = l.take m ++ [(n, s)] ++ (if b then l.drop (m + 1) else l.drop m)) := pe
  clear pe
  have i1 : (m : Int) ≤ l.length := by omega
  have i2 : (l.length : Int) ≤ cap := by omega
  have hlen : (l.take m).length ≤ 100000 := by rw [List.length_take]; omega
  have hlen2 : (l.drop m).length ≤ 100000 := by rw [List.length_drop]; omega
  have hlen3 : (l.drop (m + 1)).length ≤ 100000 := by rw [List.length_drop]; omega
  have K0 : ∀ W, w.grownBy W none → (∀ i, (h : i < l.length) → W.cell? ⟨g, o + i * 2, none⟩ = some (.string l[i].1)) := fun W hg i hi => ((grown_below hg).cell (p := ⟨g, o + i * 2, none⟩) (World.block_lt_of_cell? _ _ (h0 i hi))).trans (h0 i hi)
  have K1 : ∀ W, w.grownBy W none → (∀ i, (h : i < l.length) → W.cell? ⟨g, o + i * 2 + 1, none⟩ = some (.string l[i].2)) := fun W hg i hi => ((grown_below hg).cell (p := ⟨g, o + i * 2 + 1, none⟩) (World.block_lt_of_cell? _ _ (h1 i hi))).trans (h1 i hi)
  cases b
  · by_cases hmc : m = cap
    · subst hmc
      have F1 : Hid (∀ W, w.grownBy W none → FilesV W (.slice (some ⟨g, o, none⟩) m m) (l.take m)) := fun W hg => files_take (by omega) (by omega) (by omega) (K0 W hg) (K1 W hg)
      have F2 : Hid (∀ W, w.grownBy W none → FilesV W (.slice (some ⟨g, o, none⟩) 0 0) (l.drop m)) := fun W hg => by
        rw [List.drop_of_length_le (by omega)]
        exact files_empty g o
      clear K0 K1 h0 h1 hbl hx
      go_enter Try.func50, Try.ntmps50
      go_wp2_with (first
          | (go_at_call 49; refine (CF.out _ (grown_refl _ _)).mono ?_; clear CF; rintro e w1 ⟨rfl, hg⟩; have G1 : Hid (w.grownBy w1 none) := hg; have hw1 : w.heap.size ≤ w1.heap.size := hg.size; clear hg)
          | (at_builtin; refine append_files w1.heap.size _ _ [] (l.take m) (row_empty w1) (FilesV.kept (F1.out _ G1.out) (grown_alloc (grown_refl _ _) _)) (by first | omega | (simp; omega) | simp) (by simp) _ _ rfl rfl rfl rfl ?_; clear F1; intro v2 w2 h2 hg2; have R2 : Hid (w2.ownsRow w1.heap.size 73 2 v2 ([] ++ l.take m).length (filesL ([] ++ l.take m))) := h2; have G2 : Hid (w.grownBy w2 none) := grown_ob (grown_alloc G1.out _) hg2 (fun x e => by have hx : w1.heap.size = x := Option.some.inj e; omega); have hw2 : w1.heap.size ≤ w2.heap.size := (by have := hg2.size; rw [World.size_alloc] at this; omega); clear h2 hg2)
          | (at_builtin; refine append_files w1.heap.size _ _ _ [(n, s)] (row_alloc R2.out _) (files_one w2 n s) (by first | omega | (simp; omega) | simp) (by first | omega | (simp; omega) | simp) _ _ rfl rfl rfl rfl ?_; intro v3 w3 h3 hg3; have R3 : Hid (w3.ownsRow w1.heap.size 73 2 v3 ([] ++ l.take m ++ [(n, s)]).length (filesL ([] ++ l.take m ++ [(n, s)]))) := h3; have G3 : Hid (w.grownBy w3 none) := row_grown (grown_alloc G2.out _) (row_alloc R2.out _) hw1 hg3; have hw3 : w1.heap.size ≤ w3.heap.size := (by have := hg3.size; rw [World.size_alloc] at this; omega); clear R2 h3 hg3)
          | (at_builtin; refine append_files w1.heap.size _ _ _ (l.drop m) R3.out (F2.out _ G3.out) (by first | omega | (simp; omega) | simp) hw3 _ _ rfl rfl rfl rfl ?_; intro v4 w4 h4 hg4; have R4 : Hid (w4.ownsRow w1.heap.size 73 2 v4 ([] ++ l.take m ++ [(n, s)] ++ l.drop m).length (filesL ([] ++ l.take m ++ [(n, s)] ++ l.drop m))) := h4; have G4 : Hid (w.grownBy w4 none) := row_grown G3.out R3.out hw1 hg4; clear R3 h4 hg4))
      go_ret
      exact ⟨_, rfl, by rw [PE.out]; exact files_of_row R4.out, G4.out⟩
    · have i4 : (m : Int) < cap := by omega
      have F1 : Hid (∀ W, w.grownBy W none → FilesV W (.slice (some ⟨g, o, none⟩) m cap) (l.take m)) := fun W hg => files_take (by omega) (by omega) (by omega) (K0 W hg) (K1 W hg)
      have F2 : Hid (∀ W, w.grownBy W none → FilesV W (.slice (some ⟨g, o + (m) * 2, none⟩) (l.length - (m)) (cap - (m))) (l.drop m)) := fun W hg => files_drop (by omega) rfl (by omega) (by omega) (K0 W hg) (K1 W hg)
      clear K0 K1 h0 h1 hbl hx
      go_enter Try.func50, Try.ntmps50
      go_wp2_with (first
          | (go_at_call 49; refine (CF.out _ (grown_refl _ _)).mono ?_; clear CF; rintro e w1 ⟨rfl, hg⟩; have G1 : Hid (w.grownBy w1 none) := hg; have hw1 : w.heap.size ≤ w1.heap.size := hg.size; clear hg)
          | (at_builtin; refine append_files w1.heap.size _ _ [] (l.take m) (row_empty w1) (FilesV.kept (F1.out _ G1.out) (grown_alloc (grown_refl _ _) _)) (by first | omega | (simp; omega) | simp) (by simp) _ _ rfl rfl rfl rfl ?_; clear F1; intro v2 w2 h2 hg2; have R2 : Hid (w2.ownsRow w1.heap.size 73 2 v2 ([] ++ l.take m).length (filesL ([] ++ l.take m))) := h2; have G2 : Hid (w.grownBy w2 none) := grown_ob (grown_alloc G1.out _) hg2 (fun x e => by have hx : w1.heap.size = x := Option.some.inj e; omega); have hw2 : w1.heap.size ≤ w2.heap.size := (by have := hg2.size; rw [World.size_alloc] at this; omega); clear h2 hg2)
          | (at_builtin; refine append_files w1.heap.size _ _ _ [(n, s)] (row_alloc R2.out _) (files_one w2 n s) (by first | omega | (simp; omega) | simp) (by first | omega | (simp; omega) | simp) _ _ rfl rfl rfl rfl ?_; intro v3 w3 h3 hg3; have R3 : Hid (w3.ownsRow w1.heap.size 73 2 v3 ([] ++ l.take m ++ [(n, s)]).length (filesL ([] ++ l.take m ++ [(n, s)]))) := h3; have G3 : Hid (w.grownBy w3 none) := row_grown (grown_alloc G2.out _) (row_alloc R2.out _) hw1 hg3; have hw3 : w1.heap.size ≤ w3.heap.size := (by have := hg3.size; rw [World.size_alloc] at this; omega); clear R2 h3 hg3)
          | (at_builtin; refine append_files w1.heap.size _ _ _ (l.drop m) R3.out (F2.out _ G3.out) (by first | omega | (simp; omega) | simp) hw3 _ _ rfl rfl rfl rfl ?_; intro v4 w4 h4 hg4; have R4 : Hid (w4.ownsRow w1.heap.size 73 2 v4 ([] ++ l.take m ++ [(n, s)] ++ l.drop m).length (filesL ([] ++ l.take m ++ [(n, s)] ++ l.drop m))) := h4; have G4 : Hid (w.grownBy w4 none) := row_grown G3.out R3.out hw1 hg4; clear R3 h4 hg4))
      go_ret
      exact ⟨_, rfl, by rw [PE.out]; exact files_of_row R4.out, G4.out⟩
  · have hml := hbl rfl
    have i5 : (m : Int) + 1 ≤ l.length := by omega
    by_cases hmc : m + 1 = cap
    · have hL : l.length = cap := by omega
      have F1 : Hid (∀ W, w.grownBy W none → FilesV W (.slice (some ⟨g, o, none⟩) m cap) (l.take m)) := fun W hg => files_take (by omega) (by omega) (by omega) (K0 W hg) (K1 W hg)
      have F2 : Hid (∀ W, w.grownBy W none → FilesV W (.slice (some ⟨g, o, none⟩) 0 0) (l.drop (m + 1))) := fun W hg => by
        rw [List.drop_of_length_le (by omega)]
        exact files_empty g o
      clear K0 K1 h0 h1 hbl hx
      rw [hL] at CF ⊢
      have e5 : (m : Int) + 1 = (cap : Int) := by omega
      have e6 : (m : Int) ≤ cap := by omega
      have e7 : m ≤ cap := by omega
      clear hL hfl hcap i1 i2 i5 hml hmc
      go_enter Try.func50, Try.ntmps50
      go_wp2_with (first
          | (go_at_call 49; refine (CF.out _ (grown_refl _ _)).mono ?_; clear CF; rintro e w1 ⟨rfl, hg⟩; have G1 : Hid (w.grownBy w1 none) := hg; have hw1 : w.heap.size ≤ w1.heap.size := hg.size; clear hg)
          | (at_builtin; refine append_files w1.heap.size _ _ [] (l.take m) (row_empty w1) (FilesV.kept (F1.out _ G1.out) (grown_alloc (grown_refl _ _) _)) (by first | omega | (simp; omega) | simp) (by simp) _ _ rfl rfl rfl rfl ?_; clear F1; intro v2 w2 h2 hg2; have R2 : Hid (w2.ownsRow w1.heap.size 73 2 v2 ([] ++ l.take m).length (filesL ([] ++ l.take m))) := h2; have G2 : Hid (w.grownBy w2 none) := grown_ob (grown_alloc G1.out _) hg2 (fun x e => by have hx : w1.heap.size = x := Option.some.inj e; omega); have hw2 : w1.heap.size ≤ w2.heap.size := (by have := hg2.size; rw [World.size_alloc] at this; omega); clear h2 hg2)
          | (at_builtin; refine append_files w1.heap.size _ _ _ [(n, s)] (row_alloc R2.out _) (files_one w2 n s) (by first | omega | (simp; omega) | simp) (by first | omega | (simp; omega) | simp) _ _ rfl rfl rfl rfl ?_; intro v3 w3 h3 hg3; have R3 : Hid (w3.ownsRow w1.heap.size 73 2 v3 ([] ++ l.take m ++ [(n, s)]).length (filesL ([] ++ l.take m ++ [(n, s)]))) := h3; have G3 : Hid (w.grownBy w3 none) := row_grown (grown_alloc G2.out _) (row_alloc R2.out _) hw1 hg3; have hw3 : w1.heap.size ≤ w3.heap.size := (by have := hg3.size; rw [World.size_alloc] at this; omega); clear R2 h3 hg3)
          | (at_builtin; refine append_files w1.heap.size _ _ _ (l.drop (m + 1)) R3.out (F2.out _ G3.out) (by first | omega | (simp; omega) | simp) hw3 _ _ rfl rfl rfl rfl ?_; intro v4 w4 h4 hg4; have R4 : Hid (w4.ownsRow w1.heap.size 73 2 v4 ([] ++ l.take m ++ [(n, s)] ++ l.drop (m + 1)).length (filesL ([] ++ l.take m ++ [(n, s)] ++ l.drop (m + 1)))) := h4; have G4 : Hid (w.grownBy w4 none) := row_grown G3.out R3.out hw1 hg4; clear R3 h4 hg4))
      go_ret
      exact ⟨_, rfl, by rw [PE.out]; exact files_of_row R4.out, G4.out⟩
    · have i4 : (m : Int) + 1 < cap := by omega
      have F1 : Hid (∀ W, w.grownBy W none → FilesV W (.slice (some ⟨g, o, none⟩) m cap) (l.take m)) := fun W hg => files_take (by omega) (by omega) (by omega) (K0 W hg) (K1 W hg)
      have F2 : Hid (∀ W, w.grownBy W none → FilesV W (.slice (some ⟨g, o + (m + 1) * 2, none⟩) (l.length - (m + 1)) (cap - (m + 1))) (l.drop (m + 1))) := fun W hg => files_drop (by omega) rfl (by omega) (by omega) (K0 W hg) (K1 W hg)
      clear K0 K1 h0 h1 hbl hx
      go_enter Try.func50, Try.ntmps50
      go_wp2_with (first
          | (go_at_call 49; refine (CF.out _ (grown_refl _ _)).mono ?_; clear CF; rintro e w1 ⟨rfl, hg⟩; have G1 : Hid (w.grownBy w1 none) := hg; have hw1 : w.heap.size ≤ w1.heap.size := hg.size; clear hg)
          | (at_builtin; refine append_files w1.heap.size _ _ [] (l.take m) (row_empty w1) (FilesV.kept (F1.out _ G1.out) (grown_alloc (grown_refl _ _) _)) (by first | omega | (simp; omega) | simp) (by simp) _ _ rfl rfl rfl rfl ?_; clear F1; intro v2 w2 h2 hg2; have R2 : Hid (w2.ownsRow w1.heap.size 73 2 v2 ([] ++ l.take m).length (filesL ([] ++ l.take m))) := h2; have G2 : Hid (w.grownBy w2 none) := grown_ob (grown_alloc G1.out _) hg2 (fun x e => by have hx : w1.heap.size = x := Option.some.inj e; omega); have hw2 : w1.heap.size ≤ w2.heap.size := (by have := hg2.size; rw [World.size_alloc] at this; omega); clear h2 hg2)
          | (at_builtin; refine append_files w1.heap.size _ _ _ [(n, s)] (row_alloc R2.out _) (files_one w2 n s) (by first | omega | (simp; omega) | simp) (by first | omega | (simp; omega) | simp) _ _ rfl rfl rfl rfl ?_; intro v3 w3 h3 hg3; have R3 : Hid (w3.ownsRow w1.heap.size 73 2 v3 ([] ++ l.take m ++ [(n, s)]).length (filesL ([] ++ l.take m ++ [(n, s)]))) := h3; have G3 : Hid (w.grownBy w3 none) := row_grown (grown_alloc G2.out _) (row_alloc R2.out _) hw1 hg3; have hw3 : w1.heap.size ≤ w3.heap.size := (by have := hg3.size; rw [World.size_alloc] at this; omega); clear R2 h3 hg3)
          | (at_builtin; refine append_files w1.heap.size _ _ _ (l.drop (m + 1)) R3.out (F2.out _ G3.out) (by first | omega | (simp; omega) | simp) hw3 _ _ rfl rfl rfl rfl ?_; intro v4 w4 h4 hg4; have R4 : Hid (w4.ownsRow w1.heap.size 73 2 v4 ([] ++ l.take m ++ [(n, s)] ++ l.drop (m + 1)).length (filesL ([] ++ l.take m ++ [(n, s)] ++ l.drop (m + 1)))) := h4; have G4 : Hid (w.grownBy w4 none) := row_grown G3.out R3.out hw1 hg4; clear R3 h4 hg4))
      go_ret
      exact ⟨_, rfl, by rw [PE.out]; exact files_of_row R4.out, G4.out⟩
set_option maxRecDepth 100000 in
set_option maxHeartbeats 2000000 in
theorem put_nil (n s : ByteArray) (w : World) : Calls Try.prog 50 #[.slice none 0 0, .string n, .string s] w fun e w' => ∃ v', e = .returned v' ∧ FilesT w' v' (putL [] n s) ∧ w.grownBy w' none := by
  have CF : Hid (∀ w', Calls Try.prog 49 #[.slice none 0 0, .string n] w' fun e w'' => e = .returned (.tuple #[.int .i64 0, .bool false]) ∧ w'.grownBy w'' none) := fun w' => find_any _ [] n w' (Or.inl ⟨rfl, rfl⟩) (Nat.zero_le _)
  have F0 : ∀ W, FilesV W (.slice none 0 0) [] := fun W => Or.inl ⟨rfl, rfl⟩
  have FN : Hid (∀ W, FilesV W (.slice none 0 0) []) := F0
  clear F0
  go_enter Try.func50, Try.ntmps50
  go_wp2_with (first
    | (go_at_call 49; refine (CF.out _).mono ?_; clear CF; rintro e w1 ⟨rfl, hg⟩; have G1 : Hid (w.grownBy w1 none) := hg; have hw1 : w.heap.size ≤ w1.heap.size := hg.size; clear hg)
    | (at_builtin; refine append_files w1.heap.size _ _ [] [] (row_empty w1) (FN.out _) (by simp) (by simp) _ _ rfl rfl rfl rfl ?_; intro v2 w2 h2 hg2; have R2 : Hid (w2.ownsRow w1.heap.size 73 2 v2 ([] ++ []).length (filesL ([] ++ []))) := h2; have G2 : Hid (w.grownBy w2 none) := grown_ob (grown_alloc G1.out _) hg2 (fun x e => by have hx : w1.heap.size = x := Option.some.inj e; omega); have hw2 : w1.heap.size ≤ w2.heap.size := (by have := hg2.size; rw [World.size_alloc] at this; omega); clear h2 hg2)
    | (at_builtin; refine append_files w1.heap.size _ _ _ [(n, s)] (row_alloc R2.out _) (files_one w2 n s) (by simp) (by first | omega | (simp; omega) | simp) _ _ rfl rfl rfl rfl ?_; intro v3 w3 h3 hg3; have R3 : Hid (w3.ownsRow w1.heap.size 73 2 v3 ([] ++ [] ++ [(n, s)]).length (filesL ([] ++ [] ++ [(n, s)]))) := h3; have G3 : Hid (w.grownBy w3 none) := row_grown (grown_alloc G2.out _) (row_alloc R2.out _) hw1 hg3; have hw3 : w1.heap.size ≤ w3.heap.size := (by have := hg3.size; rw [World.size_alloc] at this; omega); clear R2 h3 hg3)
    | (at_builtin; refine append_files w1.heap.size _ _ _ [] R3.out (FN.out _) (by simp) hw3 _ _ rfl rfl rfl rfl ?_; intro v4 w4 h4 hg4; have R4 : Hid (w4.ownsRow w1.heap.size 73 2 v4 ([] ++ [] ++ [(n, s)] ++ []).length (filesL ([] ++ [] ++ [(n, s)] ++ []))) := h4; have G4 : Hid (w.grownBy w4 none) := row_grown G3.out R3.out hw1 hg4; clear R3 h4 hg4))
  go_ret
  exact ⟨_, rfl, files_of_row R4.out, G4.out⟩
theorem put_any (v : Value) (l : FS) (n s : ByteArray) (w : World) (h : FilesV w v l) (hl : l.length ≤ 100000) : Calls Try.prog 50 #[v, .string n, .string s] w fun e w' => ∃ v', e = .returned v' ∧ FilesT w' v' (putL l n s) ∧ w.grownBy w' none := by
  rcases h with ⟨rfl, rfl⟩ | ⟨cap, g, o, rfl, hc, hx, h0, h1⟩
  · exact put_nil n s w
  · exact put_some g o cap l n s w hc hl h0 h1 hx
end Go.Proofs.Ytoenddcdafnmiaa
namespace Go.Proofs.Ytoenddcdafnmiaa
open Go.RowKit Go.Maps
def dropL (l : FS) (n : ByteArray) : FS := if findIs l n then l.take (findN l n) ++ l.drop (findN l n + 1) else l
theorem step_files {ops : Array Oper} {o : Oper} {a : Act} {w : World} {K : Act → World → Prop} {Q : Exit → Act → World → Prop} {E : Prop} (base : Nat) (v : Value) (xs l2 : FS) (g oo k cap : Nat) (s x : Operand)
    (hrow : w.ownsRow base 73 2 v xs.length (filesL xs)) (hk : k = l2.length) (hx : FilesV w (.slice (some ⟨g, oo, none⟩) k cap) l2) (hlen : xs.length + l2.length ≤ 1000000) (hbase : base ≤ w.heap.size)
    (hg : o.guard = none) (ho : o.op = Op.call { callee := Callee.builtin Builtin.append, args := #[s, x], argTypes := #[25, 25] }) (hs : a.eval s = v) (hxv : a.eval x = .slice (some ⟨g, oo, none⟩) k cap)
    (hK : ∀ v' w', w'.ownsRow base 73 2 v' (xs ++ l2).length (filesL (xs ++ l2)) → w.grownBy w' v.ownBlock → K (a.put o.dst v') w') :
    if Region.wanted o (yielded ops a.tmps) = true then Oper.wp Try.prog o a w K Q else E := by
  have hw : Region.wanted o (yielded ops a.tmps) = true := by simp [Region.wanted, hg]
  rw [if_pos hw]
  obtain ⟨i73, hi, hz0, hz1, hz2⟩ := info_parts info73
  rcases hx with ⟨e, _⟩ | ⟨cap', g', o', e, hc, _, h0, h1⟩
  · cases e
  · cases e
    refine wp_append_own w s x 25 ho base 73 i73 _ 2 32 Try.underlying25 hi hz0 hz1 hz2 rfl (by decide) v xs.length (filesL xs) hs hrow ⟨g, oo, none⟩ _ cap (filesL l2) hxv (by rw [filesL_len]) (files_cells h0 h1) (filesL_one l2) (by unfold maxLen; omega) (by omega) hbase ?_
    intro v' w' h2 h3 _
    rw [← filesL_app, ← List.length_append] at h2
    exact hK v' w' h2 h3
set_option maxRecDepth 100000 in
set_option maxHeartbeats 1000000 in
theorem drop_no (v : Value) (l : FS) (n : ByteArray) (w : World) (h : FilesT w v l) (hl : l.length ≤ 100000) (hi : findIs l n = false) : Calls Try.prog 51 #[v, .string n] w fun e w' => ∃ v', e = .returned v' ∧ FilesT w' v' (dropL l n) ∧ w.grownBy w' none := by
  have CF : Hid (Calls Try.prog 49 #[v, .string n] w fun e w'' => e = .returned (.tuple #[.int .i64 (findN l n), .bool false]) ∧ w.grownBy w'' none) := by rw [← hi]; exact find_any v l n w h.1 hl
  have e : dropL l n = l := by unfold dropL; rw [hi]; rfl
  rw [e]
  have HF : Hid (FilesT w v l) := h
  clear h hi e
  go_enter Try.func51, Try.ntmps51
  go_wp2_with (go_at_call 49; refine CF.out.mono ?_; clear CF; rintro e w1 ⟨rfl, hg⟩; have G1 : Hid (w.grownBy w1 none) := hg; clear hg)
  go_ret
  exact ⟨v, rfl, HF.out.kept G1.out, G1.out⟩
set_option maxRecDepth 100000 in
set_option maxHeartbeats 2000000 in
theorem drop_is (g o cap : Nat) (l : FS) (n : ByteArray) (w : World) (hcap : l.length ≤ cap) (hx : cap ≤ maxLen) (hl : l.length ≤ 100000) (h0 : ∀ i, (h : i < l.length) → w.cell? ⟨g, o + i * 2, none⟩ = some (.string l[i].1)) (h1 : ∀ i, (h : i < l.length) → w.cell? ⟨g, o + i * 2 + 1, none⟩ = some (.string l[i].2)) (hi : findIs l n = true) :
    Calls Try.prog 51 #[.slice (some ⟨g, o, none⟩) l.length cap, .string n] w fun e w' => ∃ v', e = .returned v' ∧ FilesT w' v' (dropL l n) ∧ w.grownBy w' none := by
  have CF : Hid (Calls Try.prog 49 #[.slice (some ⟨g, o, none⟩) l.length cap, .string n] w fun e w'' => e = .returned (.tuple #[.int .i64 (findN l n), .bool true]) ∧ w.grownBy w'' none) := by rw [← hi]; exact find_any _ l n w (Or.inr ⟨cap, g, o, rfl, hcap, hx, h0, h1⟩) hl
  have hml : findN l n < l.length := by
    by_cases hy : findN l n < l.length
    · exact hy
    · unfold findIs at hi
      rw [List.getElem?_eq_none (by omega)] at hi
      cases hi
  have pe : dropL l n = l.take (findN l n) ++ l.drop (findN l n + 1) := by unfold dropL; rw [hi]; rfl
  clear hi
  generalize findN l n = m at *
  have PE : Hid (dropL l n = l.take m ++ l.drop (m + 1)) := pe
  have K0 : ∀ W, w.grownBy W none → (∀ i, (h : i < l.length) → W.cell? ⟨g, o + i * 2, none⟩ = some (.string l[i].1)) := fun W hg i hi => ((grown_below hg).cell (p := ⟨g, o + i * 2, none⟩) (World.block_lt_of_cell? _ _ (h0 i hi))).trans (h0 i hi)
  have K1 : ∀ W, w.grownBy W none → (∀ i, (h : i < l.length) → W.cell? ⟨g, o + i * 2 + 1, none⟩ = some (.string l[i].2)) := fun W hg i hi => ((grown_below hg).cell (p := ⟨g, o + i * 2 + 1, none⟩) (World.block_lt_of_cell? _ _ (h1 i hi))).trans (h1 i hi)
  have F1 : Hid (∀ W, w.grownBy W none → FilesV W (.slice (some ⟨g, o, none⟩) m cap) (l.take m)) := fun W hg => files_take (by omega) (by omega) (by omega) (K0 W hg) (K1 W hg)
  have hc : (cap : Int) ≤ 9223372036854775807 := by unfold maxLen at hx; omega
  have hlen : (l.take m).length = m := by rw [List.length_take]; omega
  have HLn : Hid ((l.take m).length = m) := hlen
  have hlen3 : (l.drop (m + 1)).length = l.length - (m + 1) := List.length_drop ..
  have HLd : Hid ((l.drop (m + 1)).length = l.length - (m + 1)) := hlen3
  clear pe hlen hlen3
  by_cases hmc : m + 1 = cap
  · have F2 : Hid (∀ W, w.grownBy W none → FilesV W (.slice (some ⟨g, o, none⟩) 0 0) (l.drop (m + 1))) := fun W hg => by
      rw [List.drop_of_length_le (by omega)]
      exact files_empty g o
    have hL : l.length = m + 1 := by omega
    have HLz : Hid ((l.drop (m + 1)).length = 0) := (by show (l.drop (m + 1)).length = 0; rw [List.length_drop]; omega)
    subst hmc
    rw [hL] at CF ⊢
    have i0 : (0 : Int) ≤ m := by omega
    have i6 : IntKind.i64.wrap ((m : Int) + 1) = (m : Int) + 1 := by rw [IntKind.wrap_i64]; omega
    have i7 : ((m : Int) + 1).toNat = m + 1 := by omega
    have i9 : (0 : Int) ≤ (m : Int) + 1 := by omega
    have hm9 : m ≤ 100000 := by omega
    have j1 : (m : Int) ≤ (m : Int) + 1 := by omega
    have j2 : (m : Int) ≤ ((m + 1 : Nat) : Int) := by omega
    have j3 : (m : Int) + 1 ≤ ((m + 1 : Nat) : Int) := by omega
    clear K0 K1 h0 h1 hx hL hcap hml HLd hl hc
    go_enter Try.func51, Try.ntmps51
    go_wp2_with (go_at_call 49; refine CF.out.mono ?_; clear CF; rintro e w1 ⟨rfl, hg⟩; have G1 : Hid (w.grownBy w1 none) := hg; have hw1 : w.heap.size ≤ w1.heap.size := hg.size; clear hg)
    go_region_law (first
      | (refine step_files w1.heap.size _ [] (l.take m) g o m (m + 1) _ _ (row_empty w1) HLn.out.symm (F1.out _ (grown_drew (grown_alloc G1.out _))) (by rw [HLn.out]; simp; omega) (by simp) rfl rfl rfl rfl ?_; intro v2 w2 h2 hg2; have R2 : Hid (w2.ownsRow w1.heap.size 73 2 v2 ([] ++ l.take m).length (filesL ([] ++ l.take m))) := h2; have G2 : Hid (w.grownBy w2 none) := grown_ob (grown_drew (grown_alloc G1.out _)) hg2 (fun x e => by have hx : w1.heap.size = x := Option.some.inj e; omega); have hw2 : w1.heap.size ≤ w2.heap.size := (by have := hg2.size; simp at this; omega); clear h2 hg2)
      | (refine step_files w1.heap.size _ _ (l.drop (m + 1)) g o 0 0 _ _ R2.out HLz.out.symm (F2.out _ G2.out) (by rw [List.nil_append, HLn.out, HLz.out]; omega) hw2 rfl rfl rfl rfl ?_; intro v3 w3 h3 hg3; have R3 : Hid (w3.ownsRow w1.heap.size 73 2 v3 ([] ++ l.take m ++ l.drop (m + 1)).length (filesL ([] ++ l.take m ++ l.drop (m + 1)))) := h3; have G3 : Hid (w.grownBy w3 none) := row_grown G2.out R2.out hw1 hg3; clear h3 hg3))
    all_goals (
      go_wp2
      go_ret
      exact ⟨_, rfl, by rw [PE.out]; exact files_of_row R3.out, G3.out⟩)
  · have F2 : Hid (∀ W, w.grownBy W none → FilesV W (.slice (some ⟨g, o + (m + 1) * 2, none⟩) (l.length - (m + 1)) (cap - (m + 1))) (l.drop (m + 1))) := fun W hg => files_drop (by omega) rfl (by omega) (by omega) (K0 W hg) (K1 W hg)
    have i0 : (0 : Int) ≤ m := by omega
    have i1 : (m : Int) ≤ l.length := by omega
    have i2 : (l.length : Int) ≤ cap := by omega
    have i3 : (m : Int) ≤ cap := by omega
    have i4 : (m : Int) + 1 < cap := by omega
    have i5 : (m : Int) + 1 ≤ l.length := by omega
    have i6 : IntKind.i64.wrap ((m : Int) + 1) = (m : Int) + 1 := by rw [IntKind.wrap_i64]; omega
    have i7 : ((m : Int) + 1).toNat = m + 1 := by omega
    have i8 : ¬ cap = m + 1 := by omega
    have i9 : (0 : Int) ≤ (m : Int) + 1 := by omega
    clear K0 K1 h0 h1 hx
    go_enter Try.func51, Try.ntmps51
    go_wp2_with (go_at_call 49; refine CF.out.mono ?_; clear CF; rintro e w1 ⟨rfl, hg⟩; have G1 : Hid (w.grownBy w1 none) := hg; have hw1 : w.heap.size ≤ w1.heap.size := hg.size; clear hg)
    go_region_law (first
      | (refine step_files w1.heap.size _ [] (l.take m) g o m cap _ _ (row_empty w1) HLn.out.symm (F1.out _ (grown_drew (grown_alloc G1.out _))) (by rw [HLn.out]; simp; omega) (by simp) rfl rfl rfl rfl ?_; intro v2 w2 h2 hg2; have R2 : Hid (w2.ownsRow w1.heap.size 73 2 v2 ([] ++ l.take m).length (filesL ([] ++ l.take m))) := h2; have G2 : Hid (w.grownBy w2 none) := grown_ob (grown_drew (grown_alloc G1.out _)) hg2 (fun x e => by have hx : w1.heap.size = x := Option.some.inj e; omega); have hw2 : w1.heap.size ≤ w2.heap.size := (by have := hg2.size; simp at this; omega); clear h2 hg2)
      | (refine step_files w1.heap.size _ _ (l.drop (m + 1)) g (o + (m + 1) * 2) (l.length - (m + 1)) (cap - (m + 1)) _ _ R2.out HLd.out.symm (F2.out _ G2.out) (by rw [List.nil_append, HLn.out, HLd.out]; omega) hw2 rfl rfl rfl rfl ?_; intro v3 w3 h3 hg3; have R3 : Hid (w3.ownsRow w1.heap.size 73 2 v3 ([] ++ l.take m ++ l.drop (m + 1)).length (filesL ([] ++ l.take m ++ l.drop (m + 1)))) := h3; have G3 : Hid (w.grownBy w3 none) := row_grown G2.out R2.out hw1 hg3; clear h3 hg3))
    all_goals (
      go_wp2
      go_ret
      exact ⟨_, rfl, by rw [PE.out]; exact files_of_row R3.out, G3.out⟩)
end Go.Proofs.Ytoenddcdafnmiaa
