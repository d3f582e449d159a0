/-
  Do of the document: what a change does to its files. A move, done to the document's files. Do of the document: any change.
-/
import Derived.Test.YtoenddcdafnmiaaKSorted
import Derived.Deep.RegionLaw
import Derived.Deep.RegionHeld3
namespace Go.Proofs.Ytoenddcdafnmiaa
open Go.RowKit Go.Maps
/-- A change as the document keeps it. -/
def Chg.ref (c : Chg) : Value := .agg #[.int .i64 c.kind, .string c.name, .string c.to, .string c.bytes, .int .i64 c.n]
set_option maxRecDepth 100000 in
set_option maxHeartbeats 2000000 in
theorem rdo_write (v : Value) (l : FS) (k : Nat) (n s t : ByteArray) (z : Int) (w : World) (h : FilesV w v l) (hl : l.length ≤ 100000) (hr : Rising l) (hk : k = 1 ∨ k = 0 ∧ getF l n = none) :
    Calls Try.prog 36 #[v, .agg #[.int .i64 k, .string n, .string t, .string s, .int .i64 z]] w fun e w' => ∃ v', e = .returned v' ∧ FilesT w' v' (putF l n s) ∧ w.grownBy w' none := by
  have CF : Hid (∀ W, w.grownBy W none → Calls Try.prog 49 #[v, .string n] W fun e w'' => e = .returned (.tuple #[.int .i64 (findN l n), .bool (getF l n).isSome]) ∧ W.grownBy w'' none) := fun W hW => by rw [← findIs_eq l n hr]; exact find_any v l n W (h.kept hW) hl
  have CP : Hid (∀ W, w.grownBy W none → Calls Try.prog 50 #[v, .string n, .string s] W fun e w' => ∃ v', e = .returned v' ∧ FilesT w' v' (putF l n s) ∧ W.grownBy w' none) := fun W hW => by rw [← putL_eq l n s hr]; exact put_any v l n s W (h.kept hW) hl
  have hk' : k = 1 ∨ k = 0 ∧ (getF l n).isSome = false := hk.imp id fun ⟨a, b⟩ => ⟨a, by rw [b]; rfl⟩
  clear hk h hl hr
  generalize findN l n = m at *
  generalize (getF l n).isSome = is at *
  rcases hk' with rfl | ⟨rfl, rfl⟩
  all_goals (
    go_enter Try.func36, Try.ntmps36
    go_wp2_with (first
      | (go_at_call 49; refine (CF.out _ (grown_alloc (grown_refl _ _) _)).mono ?_; clear CF; rintro e w1 ⟨rfl, hg⟩; have b1 := (Blk.new w 69 _).kept hg (by simp); have c0 := b1.cell 0; have c1 := b1.cell 1; have c2 := b1.cell 2; have c3 := b1.cell 3; have c4 := b1.cell 4; simp at c0 c1 c2 c3 c4; have G1 : Hid (w.grownBy w1 none) := grown_trans (grown_alloc (grown_refl _ _) _) hg; clear hg b1)
      | (go_at_call 50; refine (CP.out _ G1.out).mono ?_; clear CP; rintro e w2 ⟨v', rfl, hv, hg⟩; have G2 : Hid (w.grownBy w2 none) := grown_trans G1.out hg; have V2 : Hid (FilesT w2 v' (putF l n s)) := hv; clear hg hv))
    go_ret
    exact ⟨_, rfl, V2.out, G2.out⟩)
set_option maxRecDepth 100000 in
set_option maxHeartbeats 2000000 in
theorem rdo_none (v : Value) (l : FS) (k : Nat) (n s t : ByteArray) (z : Int) (w : World) (h : FilesT w v l) (hl : l.length ≤ 100000) (hr : Rising l) (hk : k = 2 ∨ k = 3 ∨ k = 4) (hf : getF l n = none) :
    Calls Try.prog 36 #[v, .agg #[.int .i64 k, .string n, .string t, .string s, .int .i64 z]] w fun e w' => ∃ v', e = .returned v' ∧ FilesT w' v' l ∧ w.grownBy w' none := by
  have CF : Hid (∀ W, w.grownBy W none → Calls Try.prog 49 #[v, .string n] W fun e w'' => e = .returned (.tuple #[.int .i64 (findN l n), .bool false]) ∧ W.grownBy w'' none) := fun W hW => by have e := findIs_eq l n hr; rw [hf] at e; have := find_any v l n W (h.kept hW).1 hl; rw [e] at this; exact this
  have HF : Hid (FilesT w v l) := h
  clear h hl hr hf
  generalize findN l n = m at *
  rcases hk with rfl | rfl | rfl
  all_goals (
    go_enter Try.func36, Try.ntmps36
    go_wp2_with (go_at_call 49; refine (CF.out _ (grown_alloc (grown_refl _ _) _)).mono ?_; clear CF; rintro e w1 ⟨rfl, hg⟩; have b1 := (Blk.new w 69 _).kept hg (by simp); have c0 := b1.cell 0; have c1 := b1.cell 1; have c2 := b1.cell 2; have c3 := b1.cell 3; have c4 := b1.cell 4; simp at c0 c1 c2 c3 c4; have G1 : Hid (w.grownBy w1 none) := grown_trans (grown_alloc (grown_refl _ _) _) hg; clear hg b1)
    go_ret
    exact ⟨_, rfl, HF.out.kept G1.out, G1.out⟩)
set_option maxRecDepth 100000 in
set_option maxHeartbeats 2000000 in
theorem rdo_remove (v : Value) (l : FS) (n s t old : ByteArray) (z : Int) (w : World) (h : FilesT w v l) (hl : l.length ≤ 100000) (hr : Rising l) (hf : getF l n = some old) :
    Calls Try.prog 36 #[v, .agg #[.int .i64 3, .string n, .string t, .string s, .int .i64 z]] w fun e w' => ∃ v', e = .returned v' ∧ FilesT w' v' (delF l n) ∧ w.grownBy w' none := by
  have CF : Hid (∀ W, w.grownBy W none → Calls Try.prog 49 #[v, .string n] W fun e w'' => e = .returned (.tuple #[.int .i64 (findN l n), .bool true]) ∧ W.grownBy w'' none) := fun W hW => by have e := findIs_eq l n hr; rw [hf] at e; have := find_any v l n W (h.kept hW).1 hl; rw [e] at this; exact this
  have CD : Hid (∀ W, w.grownBy W none → Calls Try.prog 51 #[v, .string n] W fun e w' => ∃ v', e = .returned v' ∧ FilesT w' v' (delF l n) ∧ W.grownBy w' none) := fun W hW => by rw [← dropL_eq l n hr]; exact drop_any v l n W (h.kept hW) hl
  clear h hl hr hf
  generalize findN l n = m at *
  go_enter Try.func36, Try.ntmps36
  go_wp2_with (first
    | (go_at_call 49; refine (CF.out _ (grown_alloc (grown_refl _ _) _)).mono ?_; clear CF; rintro e w1 ⟨rfl, hg⟩; have b1 := (Blk.new w 69 _).kept hg (by simp); have c0 := b1.cell 0; have c1 := b1.cell 1; have c2 := b1.cell 2; have c3 := b1.cell 3; have c4 := b1.cell 4; simp at c0 c1 c2 c3 c4; have G1 : Hid (w.grownBy w1 none) := grown_trans (grown_alloc (grown_refl _ _) _) hg; clear hg b1)
    | (go_at_call 51; refine (CD.out _ G1.out).mono ?_; clear CD; rintro e w2 ⟨v', rfl, hv, hg⟩; have G2 : Hid (w.grownBy w2 none) := grown_trans G1.out hg; have V2 : Hid (FilesT w2 v' (delF l n)) := hv; clear hg hv))
  go_ret
  exact ⟨_, rfl, V2.out, G2.out⟩
set_option maxRecDepth 100000 in
set_option maxHeartbeats 2000000 in
theorem rdo_append (g o cap : Nat) (l : FS) (n s t old : ByteArray) (z : Int) (w : World) (hc : l.length ≤ cap) (hx : cap ≤ maxLen) (h0 : ∀ i, (h : i < l.length) → w.cell? ⟨g, o + i * 2, none⟩ = some (.string l[i].1)) (h1 : ∀ i, (h : i < l.length) → w.cell? ⟨g, o + i * 2 + 1, none⟩ = some (.string l[i].2)) (hl : l.length ≤ 100000) (hr : Rising l) (hf : getF l n = some old) (ho : old.size ≤ 1000000) (hs : s.size ≤ 1000000) :
    Calls Try.prog 36 #[.slice (some ⟨g, o, none⟩) l.length cap, .agg #[.int .i64 0, .string n, .string t, .string s, .int .i64 z]] w fun e w' => ∃ v', e = .returned v' ∧ FilesT w' v' (putF l n (old ++ s)) ∧ w.grownBy w' none := by
  have h : FilesV w (.slice (some ⟨g, o, none⟩) l.length cap) l := Or.inr ⟨cap, g, o, rfl, hc, hx, h0, h1⟩
  have CF : Hid (∀ W, w.grownBy W none → Calls Try.prog 49 #[.slice (some ⟨g, o, none⟩) l.length cap, .string n] W fun e w'' => e = .returned (.tuple #[.int .i64 (findN l n), .bool true]) ∧ W.grownBy w'' none) := fun W hW => by have e := findIs_eq l n hr; rw [hf] at e; have := find_any _ l n W (h.kept hW) hl; rw [e] at this; exact this
  have CP : Hid (∀ W, w.grownBy W none → Calls Try.prog 50 #[.slice (some ⟨g, o, none⟩) l.length cap, .string n, .string (old ++ s)] W fun e w' => ∃ v', e = .returned v' ∧ FilesT w' v' (putF l n (old ++ s)) ∧ W.grownBy w' none) := fun W hW => by rw [← putL_eq l n _ hr]; exact put_any _ l n _ W (h.kept hW) hl
  obtain ⟨hm, es⟩ := find_at l n old hf hr
  have d1 := h1 _ hm
  rw [es] at d1
  have D1 : Hid (∀ W, w.grownBy W none → W.cell? ⟨g, o + findN l n * 2 + 1, none⟩ = some (.string old)) := fun W hW => ((grown_below hW).cell (p := ⟨g, o + findN l n * 2 + 1, none⟩) (World.block_lt_of_cell? _ _ d1)).trans d1
  clear h h0 h1 es d1 hr hf
  generalize findN l n = m at *
  have m0 : (0 : Int) ≤ m := by omega
  have m1 : (m : Int) < l.length := by omega
  have i1 : (old.size : Int) ≤ 1000000 := by omega
  have i2 : (s.size : Int) ≤ 1000000 := by omega
  clear ho hs
  go_enter Try.func36, Try.ntmps36
  go_wp2_with (go_at_call 49; refine (CF.out _ (grown_alloc (grown_refl _ _) _)).mono ?_; clear CF; rintro e w1 ⟨rfl, hg⟩; have b1 := (Blk.new w 69 _).kept hg (by simp); have c0 := b1.cell 0; have c1 := b1.cell 1; have c2 := b1.cell 2; have c3 := b1.cell 3; have c4 := b1.cell 4; simp at c0 c1 c2 c3 c4; have G1 : Hid (w.grownBy w1 none) := grown_trans (grown_alloc (grown_refl _ _) _) hg; have d1 := D1.out w1 G1.out; clear hg b1 D1)
  go_region_with (go_at_call 50; refine (CP.out _ (grown_drew G1.out)).mono ?_; clear CP; rintro e w2 ⟨v', rfl, hv, hg⟩; have G2 : Hid (w.grownBy w2 none) := grown_trans (grown_drew G1.out) hg; have V2 : Hid (FilesT w2 v' (putF l n (old ++ s))) := hv; clear hg hv)
  all_goals (
    go_wp2
    go_ret
    exact ⟨_, rfl, V2.out, G2.out⟩)
set_option maxRecDepth 100000 in
set_option maxHeartbeats 2000000 in
theorem rdo_cut (g o cap : Nat) (l : FS) (n s t old : ByteArray) (z : Nat) (w : World) (hc : l.length ≤ cap) (hx : cap ≤ maxLen) (h0 : ∀ i, (h : i < l.length) → w.cell? ⟨g, o + i * 2, none⟩ = some (.string l[i].1)) (h1 : ∀ i, (h : i < l.length) → w.cell? ⟨g, o + i * 2 + 1, none⟩ = some (.string l[i].2)) (hl : l.length ≤ 100000) (hr : Rising l) (hf : getF l n = some old) (ho : old.size ≤ 1000000) (hz : z < old.size) :
    Calls Try.prog 36 #[.slice (some ⟨g, o, none⟩) l.length cap, .agg #[.int .i64 4, .string n, .string t, .string s, .int .i64 z]] w fun e w' => ∃ v', e = .returned v' ∧ FilesT w' v' (putF l n (old.extract 0 z)) ∧ w.grownBy w' none := by
  have h : FilesV w (.slice (some ⟨g, o, none⟩) l.length cap) l := Or.inr ⟨cap, g, o, rfl, hc, hx, h0, h1⟩
  have CF : Hid (∀ W, w.grownBy W none → Calls Try.prog 49 #[.slice (some ⟨g, o, none⟩) l.length cap, .string n] W fun e w'' => e = .returned (.tuple #[.int .i64 (findN l n), .bool true]) ∧ W.grownBy w'' none) := fun W hW => by have e := findIs_eq l n hr; rw [hf] at e; have := find_any _ l n W (h.kept hW) hl; rw [e] at this; exact this
  have CP : Hid (∀ W, w.grownBy W none → Calls Try.prog 50 #[.slice (some ⟨g, o, none⟩) l.length cap, .string n, .string (old.extract 0 z)] W fun e w' => ∃ v', e = .returned v' ∧ FilesT w' v' (putF l n (old.extract 0 z)) ∧ W.grownBy w' none) := fun W hW => by rw [← putL_eq l n _ hr]; exact put_any _ l n _ W (h.kept hW) hl
  obtain ⟨hm, es⟩ := find_at l n old hf hr
  have d1 := h1 _ hm
  rw [es] at d1
  have D1 : Hid (∀ W, w.grownBy W none → W.cell? ⟨g, o + findN l n * 2 + 1, none⟩ = some (.string old)) := fun W hW => ((grown_below hW).cell (p := ⟨g, o + findN l n * 2 + 1, none⟩) (World.block_lt_of_cell? _ _ d1)).trans d1
  clear h h0 h1 es d1 hr hf
  generalize findN l n = m at *
  have m0 : (0 : Int) ≤ m := by omega
  have m1 : (m : Int) < l.length := by omega
  have i0 : (0 : Int) ≤ (z : Int) := by omega
  have i1 : (z : Int) < old.size := by omega
  have i2 : (old.size : Int) ≤ 1000000 := by omega
  have i3 : (z : Int) ≤ old.size := by omega
  have i4 : ((old.size : Nat) : Int) = old.size := rfl
  go_enter Try.func36, Try.ntmps36
  go_wp2_with (go_at_call 49; refine (CF.out _ (grown_alloc (grown_refl _ _) _)).mono ?_; clear CF; rintro e w1 ⟨rfl, hg⟩; have b1 := (Blk.new w 69 _).kept hg (by simp); have c0 := b1.cell 0; have c1 := b1.cell 1; have c2 := b1.cell 2; have c3 := b1.cell 3; have c4 := b1.cell 4; simp at c0 c1 c2 c3 c4; have G1 : Hid (w.grownBy w1 none) := grown_trans (grown_alloc (grown_refl _ _) _) hg; have d1 := D1.out w1 G1.out; clear hg b1 D1)
  go_quiet (fail)
  go_wp2
  go_region_with (go_at_call 50; refine (CP.out _ (grown_drew (grown_drewN G1.out _))).mono ?_; clear CP; rintro e w2 ⟨v', rfl, hv, hg⟩; have G2 : Hid (w.grownBy w2 none) := grown_trans (grown_drew (grown_drewN G1.out _)) hg; have V2 : Hid (FilesT w2 v' (putF l n (old.extract 0 z))) := hv; clear hg hv)
  all_goals (
    go_wp2
    go_ret
    exact ⟨_, rfl, V2.out, G2.out⟩)
set_option maxRecDepth 100000 in
set_option maxHeartbeats 2000000 in
theorem rdo_uncut (g o cap : Nat) (l : FS) (n s t old : ByteArray) (z : Nat) (w : World) (hc : l.length ≤ cap) (hx : cap ≤ maxLen) (hT : TyV 73 w (.slice (some ⟨g, o, none⟩) l.length cap)) (h0 : ∀ i, (h : i < l.length) → w.cell? ⟨g, o + i * 2, none⟩ = some (.string l[i].1)) (h1 : ∀ i, (h : i < l.length) → w.cell? ⟨g, o + i * 2 + 1, none⟩ = some (.string l[i].2)) (hl : l.length ≤ 100000) (hr : Rising l) (hf : getF l n = some old) (ho : old.size ≤ 1000000) (hz : old.size ≤ z) :
    Calls Try.prog 36 #[.slice (some ⟨g, o, none⟩) l.length cap, .agg #[.int .i64 4, .string n, .string t, .string s, .int .i64 z]] w fun e w' => ∃ v', e = .returned v' ∧ FilesT w' v' l ∧ w.grownBy w' none := by
  have h : FilesV w (.slice (some ⟨g, o, none⟩) l.length cap) l := Or.inr ⟨cap, g, o, rfl, hc, hx, h0, h1⟩
  have CF : Hid (∀ W, w.grownBy W none → Calls Try.prog 49 #[.slice (some ⟨g, o, none⟩) l.length cap, .string n] W fun e w'' => e = .returned (.tuple #[.int .i64 (findN l n), .bool true]) ∧ W.grownBy w'' none) := fun W hW => by have e := findIs_eq l n hr; rw [hf] at e; have := find_any _ l n W (h.kept hW) hl; rw [e] at this; exact this
  obtain ⟨hm, es⟩ := find_at l n old hf hr
  have d1 := h1 _ hm
  rw [es] at d1
  have D1 : Hid (∀ W, w.grownBy W none → W.cell? ⟨g, o + findN l n * 2 + 1, none⟩ = some (.string old)) := fun W hW => ((grown_below hW).cell (p := ⟨g, o + findN l n * 2 + 1, none⟩) (World.block_lt_of_cell? _ _ d1)).trans d1
  have HF : Hid (FilesT w (.slice (some ⟨g, o, none⟩) l.length cap) l) := ⟨h, hT⟩
  clear h hT h0 h1 es d1 hr hf
  generalize findN l n = m at *
  have m0 : (0 : Int) ≤ m := by omega
  have m1 : (m : Int) < l.length := by omega
  have i1 : ¬ (z : Int) < old.size := by omega
  have i2 : (old.size : Int) ≤ 1000000 := by omega
  go_enter Try.func36, Try.ntmps36
  go_wp2_with (go_at_call 49; refine (CF.out _ (grown_alloc (grown_refl _ _) _)).mono ?_; clear CF; rintro e w1 ⟨rfl, hg⟩; have b1 := (Blk.new w 69 _).kept hg (by simp); have c0 := b1.cell 0; have c1 := b1.cell 1; have c2 := b1.cell 2; have c3 := b1.cell 3; have c4 := b1.cell 4; simp at c0 c1 c2 c3 c4; have G1 : Hid (w.grownBy w1 none) := grown_trans (grown_alloc (grown_refl _ _) _) hg; have d1 := D1.out w1 G1.out; clear hg b1 D1)
  go_quiet (fail)
  go_wp2
  go_ret
  exact ⟨_, rfl, HF.out.kept (grown_drewN G1.out _), grown_drewN G1.out _⟩
end Go.Proofs.Ytoenddcdafnmiaa
namespace Go.Proofs.Ytoenddcdafnmiaa
open Go.RowKit Go.Maps
set_option maxRecDepth 100000 in
set_option maxHeartbeats 2000000 in
theorem rdo_move (g o cap : Nat) (l : FS) (n s t old : ByteArray) (z : Int) (w : World) (hc : l.length ≤ cap) (hx : cap ≤ maxLen) (hT : TyV 73 w (.slice (some ⟨g, o, none⟩) l.length cap)) (h0 : ∀ i, (h : i < l.length) → w.cell? ⟨g, o + i * 2, none⟩ = some (.string l[i].1)) (h1 : ∀ i, (h : i < l.length) → w.cell? ⟨g, o + i * 2 + 1, none⟩ = some (.string l[i].2)) (hl : l.length ≤ 100000) (hr : Rising l) (hf : getF l n = some old) :
    Calls Try.prog 36 #[.slice (some ⟨g, o, none⟩) l.length cap, .agg #[.int .i64 2, .string n, .string t, .string s, .int .i64 z]] w fun e w' => ∃ v', e = .returned v' ∧ FilesT w' v' (putF (delF l n) t old) ∧ w.grownBy w' none := by
  have h : FilesV w (.slice (some ⟨g, o, none⟩) l.length cap) l := Or.inr ⟨cap, g, o, rfl, hc, hx, h0, h1⟩
  have CF : Hid (∀ W, w.grownBy W none → Calls Try.prog 49 #[.slice (some ⟨g, o, none⟩) l.length cap, .string n] W fun e w'' => e = .returned (.tuple #[.int .i64 (findN l n), .bool true]) ∧ W.grownBy w'' none) := fun W hW => by have e := findIs_eq l n hr; rw [hf] at e; have := find_any _ l n W (h.kept hW) hl; rw [e] at this; exact this
  have CD : Hid (∀ W, w.grownBy W none → Calls Try.prog 51 #[.slice (some ⟨g, o, none⟩) l.length cap, .string n] W fun e w' => ∃ v', e = .returned v' ∧ FilesT w' v' (delF l n) ∧ W.grownBy w' none) := fun W hW => by rw [← dropL_eq l n hr]; exact drop_any _ l n W ⟨h.kept hW, hT.kept hW⟩ hl
  have hdl : (delF l n).length ≤ 100000 := Nat.le_trans (List.length_filter_le _ _) hl
  have CP : Hid (∀ W v, FilesT W v (delF l n) → Calls Try.prog 50 #[v, .string t, .string old] W fun e w' => ∃ v', e = .returned v' ∧ FilesT w' v' (putF (delF l n) t old) ∧ W.grownBy w' none) := fun W v hW => by rw [← putL_eq _ t _ (rising_del hr n)]; exact put_any v _ t _ W hW.1 hdl
  obtain ⟨hm, es⟩ := find_at l n old hf hr
  have d1 := h1 _ hm
  rw [es] at d1
  have D1 : Hid (∀ W, w.grownBy W none → W.cell? ⟨g, o + findN l n * 2 + 1, none⟩ = some (.string old)) := fun W hW => ((grown_below hW).cell (p := ⟨g, o + findN l n * 2 + 1, none⟩) (World.block_lt_of_cell? _ _ d1)).trans d1
  clear h hT h0 h1 es d1 hr hf hdl
  generalize findN l n = m at *
  have m0 : (0 : Int) ≤ m := by omega
  have m1 : (m : Int) < l.length := by omega
  go_enter Try.func36, Try.ntmps36
  go_wp2_with (go_at_call 49; refine (CF.out _ (grown_alloc (grown_refl _ _) _)).mono ?_; clear CF; rintro e w1 ⟨rfl, hg⟩; have b1 := (Blk.new w 69 _).kept hg (by simp); have c0 := b1.cell 0; have c1 := b1.cell 1; have c2 := b1.cell 2; have c3 := b1.cell 3; have c4 := b1.cell 4; simp at c0 c1 c2 c3 c4; have G1 : Hid (w.grownBy w1 none) := grown_trans (grown_alloc (grown_refl _ _) _) hg; have d1 := D1.out w1 G1.out; clear hg b1)
  have C1 : Hid (∀ W, w1.grownBy W none → W.cell? ⟨w.heap.size, 1, none⟩ = some (.string n)) := fun W hW => ((grown_below hW).cell (p := ⟨w.heap.size, 1, none⟩) (World.block_lt_of_cell? _ _ c1)).trans c1
  have C2 : Hid (∀ W, w1.grownBy W none → W.cell? ⟨w.heap.size, 2, none⟩ = some (.string t)) := fun W hW => ((grown_below hW).cell (p := ⟨w.heap.size, 2, none⟩) (World.block_lt_of_cell? _ _ c2)).trans c2
  clear c0 c3 c4 hm hx hc hl
  go_region_held3 (fun W => W.cell? ⟨w.heap.size, 1, none⟩ = some (.string n) ∧ W.cell? ⟨w.heap.size, 2, none⟩ = some (.string t) ∧ W.cell? ⟨g, o + m * 2 + 1, none⟩ = some (.string old)) (first | assumption | go_keep) (first
    | (go_at_call 51; refine (CD.out _ (grown_drew G1.out)).mono ?_; rintro e w2 ⟨v2, rfl, hv, hg⟩; have G2 : Hid (w.grownBy w2 none) := grown_trans (grown_drew G1.out) hg; have L2 : Hid (w1.grownBy w2 none) := grown_of_drew hg; have V2 : Hid (FilesT w2 v2 (delF l n)) := hv; have f1 := C1.out w2 (grown_of_drew hg); have f2 := C2.out w2 (grown_of_drew hg); have f3 := D1.out w2 G2.out; clear hg hv)
    | (go_at_call 50; refine (CP.out _ _ V2.out).mono ?_; rintro e w3 ⟨v3, rfl, hv, hg⟩; have G3 : Hid (w.grownBy w3 none) := grown_trans G2.out hg; have V3 : Hid (FilesT w3 v3 (putF (delF l n) t old)) := hv; have f4 := C1.out w3 (grown_trans L2.out hg); have f5 := C2.out w3 (grown_trans L2.out hg); have f6 := D1.out w3 G3.out; clear hg hv))
  all_goals (
    go_wp2
    go_ret
    exact ⟨_, rfl, V3.out, G3.out⟩)
end Go.Proofs.Ytoenddcdafnmiaa
namespace Go.Proofs.Ytoenddcdafnmiaa
open Go.RowKit Go.Maps
/-- Whatever a change is, the document's files behind it. -/
theorem rdo_any (v : Value) (l : FS) (c : Chg) (w : World) (h : FilesT w v l) (hl : Fits l 100000) (hr : Rising l) (hk : c.kind ≤ 4) (hs : c.bytes.size ≤ 100000) (hn : c.kind = 4 → 0 ≤ c.n) :
    Calls Try.prog 36 #[v, c.ref] w fun e w' => ∃ v', e = .returned v' ∧ FilesT w' v' (doF l c) ∧ w.grownBy w' none := by
  obtain ⟨k, n, s, t, z⟩ := c
  have hz := get_size hl n
  cases hf : getF l n with
  | none =>
    by_cases hk1 : k = 0 ∨ k = 1
    · have e : doF l ⟨k, n, s, t, z⟩ = putF l n s := by
        rcases hk1 with rfl | rfl
        · have e2 : (⟨#[]⟩ : ByteArray) ++ s = s := bytes_ext (by simp)
          simp [doF, hf, e2]
        · simp [doF]
      rw [e]
      exact rdo_write v l k n s t z w h.1 hl.1 hr (by rcases hk1 with rfl | rfl <;> simp [hf])
    · have e : doF l ⟨k, n, s, t, z⟩ = l := by
        unfold doF
        rw [if_neg (by simp; omega), if_neg (by simp; omega)]
        simp only [hf]
      rw [e]
      have hk' : k ≤ 4 := hk
      exact rdo_none v l k n s t z w h hl.1 hr (by omega) hf
  | some old =>
    rw [hf] at hz
    have ho : old.size ≤ 100000 := hz
    have hs' : s.size ≤ 100000 := hs
    have hz0 : k = 4 → 0 ≤ z := hn
    have hT := h.2
    rcases h.1 with ⟨rfl, rfl⟩ | ⟨cap, g, o, rfl, hc, hx, h0, h1⟩
    · cases hf
    match k, hk, hz0 with
    | 0, _, hz0 =>
      have e : doF l ⟨0, n, s, t, z⟩ = putF l n (old ++ s) := by simp [doF, hf]
      rw [e]
      exact rdo_append g o cap l n s t old z w hc hx h0 h1 hl.1 hr hf (by omega) (by omega)
    | 1, _, hz0 =>
      have e : doF l ⟨1, n, s, t, z⟩ = putF l n s := by simp [doF]
      rw [e]
      exact rdo_write _ l 1 n s t z w (Or.inr ⟨cap, g, o, rfl, hc, hx, h0, h1⟩) hl.1 hr (Or.inl rfl)
    | 2, _, hz0 =>
      have e : doF l ⟨2, n, s, t, z⟩ = putF (delF l n) t old := by simp [doF, hf]
      rw [e]
      exact rdo_move g o cap l n s t old z w hc hx hT h0 h1 hl.1 hr hf
    | 3, _, hz0 =>
      have e : doF l ⟨3, n, s, t, z⟩ = delF l n := by simp [doF, hf]
      rw [e]
      exact rdo_remove _ l n s t old z w ⟨Or.inr ⟨cap, g, o, rfl, hc, hx, h0, h1⟩, hT⟩ hl.1 hr hf
    | 4, _, hz0 =>
      obtain ⟨m, rfl⟩ := Int.eq_ofNat_of_zero_le (hz0 rfl)
      by_cases hlt : m < old.size
      · have e : doF l ⟨4, n, s, t, m⟩ = putF l n (old.extract 0 m) := by
          simp [doF, hf, Nat.min_eq_left (Nat.le_of_lt hlt)]
        rw [e]
        exact rdo_cut g o cap l n s t old m w hc hx h0 h1 hl.1 hr hf (by omega) hlt
      · have e : doF l ⟨4, n, s, t, m⟩ = l := by
          have e2 : min m old.size = old.size := by omega
          simp only [doF, hf]
          show putF l n (old.extract 0 (min ((m : Int).toNat) old.size)) = l
          rw [Int.toNat_natCast, e2, extract_self]
          exact put_same l n old hr hf
        rw [e]
        exact rdo_uncut g o cap l n s t old m w hc hx hT h0 h1 hl.1 hr hf (by omega) (by omega)
    | k + 5, hk, _ => exact absurd hk (by show ¬ k + 5 ≤ 4; omega)
end Go.Proofs.Ytoenddcdafnmiaa
