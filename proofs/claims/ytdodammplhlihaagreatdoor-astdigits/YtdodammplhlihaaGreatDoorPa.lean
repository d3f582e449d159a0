/-
  Print, of the tree that every statement of the layer looks at first.
-/
import Derived.Test.YtdodammplhlihaaGreatDoorPr
namespace Go.Proofs.YtdodammplhlihaaGreatDoor.Tr
open Go.RowKit
set_option maxRecDepth 100000 in
theorem small1 (w : World) : Calls Tryz.prog 78 #[.int .i64 1] w fun e w' => e = .returned (.string ⟨#[49]⟩) ∧ w' = w := by
  go_enter Tryz.func78, Tryz.ntmps78
  go_wp2
  go_ret
  exact ⟨rfl, rfl⟩
set_option maxRecDepth 100000 in
theorem fmt1i (w : World) : Calls Tryz.prog 54 #[.int .i64 1, .int .i64 10] w fun e w' => e = .returned (.string ⟨#[49]⟩) ∧ w' = w := by
  go_enter Tryz.func54, Tryz.ntmps54
  go_wp2_with (go_at_call 78; refine (small1 _).mono ?_; rintro e w1 ⟨rfl, hw⟩; replace hw := hw.symm; subst hw)
  go_ret
  exact ⟨rfl, rfl⟩
set_option maxRecDepth 100000 in
theorem fmt1 (w : World) : Calls Tryz.prog 94 #[.int .i64 1, .int .i64 10] w fun e w' => e = .returned (.string ⟨#[49]⟩) ∧ w' = w := by
  go_enter Tryz.func94, Tryz.ntmps94
  go_wp2_with (go_at_call 54; refine (fmt1i _).mono ?_; rintro e w1 ⟨rfl, hw⟩; replace hw := hw.symm; subst hw)
  go_ret
  exact ⟨rfl, rfl⟩
def SayP (w : World) (b : Nat) (l : List UInt8) (e : Ending) (w' : World) : Prop := e = .returned (.tuple #[]) ∧ Prn w' b l ∧ PB b w w'
/-- One text is said. -/
theorem say1 (b : Nat) (l : List UInt8) (s : ByteArray) (w : World) (h : Prn w b l) (hl : l.length ≤ 1000) (hs : s.size ≤ 100) : Calls Tryz.prog 87 #[.pointer (some ⟨b, 0, none⟩), .slice (some ⟨w.heap.size, 0, none⟩) 1 1] (w.alloc (.cells #[.string s] 9)) (SayP (w.alloc (.cells #[.string s] 9)) b (l ++ s.data.toList)) := by
  have h1 := say_any b l [s] w.heap.size 1 (w.alloc (.cells #[.string s] 9)) (h.kept (grown_alloc (grown_refl _ _) _)) (Blk.new w 9 _) (by simp only [cat, List.flatMap_cons, List.flatMap_nil, List.append_nil, bytes_len]; omega) (by simp)
  have e : cat [s] = s.data.toList := by simp [cat]
  rw [e] at h1
  exact h1
theorem say3 (b : Nat) (l : List UInt8) (s t u : ByteArray) (w : World) (h : Prn w b l) (hl : l.length ≤ 1000) (hs : s.size ≤ 100) (ht : t.size ≤ 100) (hu : u.size ≤ 100) : Calls Tryz.prog 87 #[.pointer (some ⟨b, 0, none⟩), .slice (some ⟨w.heap.size, 0, none⟩) 3 3] (w.alloc (.cells #[.string s, .string t, .string u] 9)) (SayP (w.alloc (.cells #[.string s, .string t, .string u] 9)) b (l ++ (s.data.toList ++ (t.data.toList ++ u.data.toList)))) := by
  have h1 := say_any b l [s, t, u] w.heap.size 3 (w.alloc (.cells #[.string s, .string t, .string u] 9)) (h.kept (grown_alloc (grown_refl _ _) _)) (Blk.new w 9 _) (by simp only [cat, List.flatMap_cons, List.flatMap_nil, List.append_nil, List.length_append, bytes_len]; omega) (by simp)
  have e : cat [s, t, u] = s.data.toList ++ (t.data.toList ++ u.data.toList) := by simp [cat]
  rw [e] at h1
  exact h1
set_option maxRecDepth 100000 in
set_option maxHeartbeats 1000000 in
theorem ex_int (b : Nat) (l : List UInt8) (w : World) (h : Prn w b l) (hl : l.length ≤ 500) : Calls Tryz.prog 63 #[.pointer (some ⟨b, 0, none⟩), .agg #[.int .i64 20, .int .i64 0, .string ⟨#[]⟩, .int .i64 1, .slice none 0 0]] w (SayP w b (l ++ [49])) := by
  have hb := h.lt
  have CS : Hid (Calls Tryz.prog 87 #[.pointer (some ⟨b, 0, none⟩), .slice (some ⟨w.heap.size + 1, 0, none⟩) 1 1] ((w.alloc (.cells #[.int .i64 20, .int .i64 0, .string ⟨#[]⟩, .int .i64 1, .slice none 0 0] 33)).alloc (.cells #[.string ⟨#[49]⟩] 9)) (SayP ((w.alloc (.cells #[.int .i64 20, .int .i64 0, .string ⟨#[]⟩, .int .i64 1, .slice none 0 0] 33)).alloc (.cells #[.string ⟨#[49]⟩] 9)) b (l ++ [49]))) := by
    have h1 := say1 b l ⟨#[49]⟩ (w.alloc (.cells #[.int .i64 20, .int .i64 0, .string ⟨#[]⟩, .int .i64 1, .slice none 0 0] 33)) (h.kept (grown_alloc (grown_refl _ _) _)) (by omega) (by decide)
    rw [World.size_alloc] at h1
    exact h1
  clear h
  go_enter Tryz.func63, Tryz.ntmps63
  go_wp2_with (first
    | (go_at_call 94; refine (fmt1 _).mono ?_; rintro e w1 ⟨rfl, hw⟩; replace hw := hw.symm; subst hw)
    | (go_at_call 87; refine CS.out.mono ?_; clear CS; rintro e w2 ⟨rfl, hp2, hb2⟩; have P2 := hid hp2; have B2 := hid ((pb_none (grown_alloc (grown_alloc (grown_refl w none) _) _) hb).trans hb2); clear hp2 hb2))
  go_end0
  exact ⟨rfl, P2.out, B2.out⟩
set_option maxRecDepth 100000 in
set_option maxHeartbeats 1000000 in
theorem ex_var (b : Nat) (l : List UInt8) (w : World) (h : Prn w b l) (hl : l.length ≤ 500) : Calls Tryz.prog 63 #[.pointer (some ⟨b, 0, none⟩), .agg #[.int .i64 23, .int .i64 0, .string ⟨#[97]⟩, .int .i64 0, .slice none 0 0]] w (SayP w b (l ++ [97])) := by
  have hb := h.lt
  have CS : Hid (Calls Tryz.prog 87 #[.pointer (some ⟨b, 0, none⟩), .slice (some ⟨w.heap.size + 1, 0, none⟩) 1 1] ((w.alloc (.cells #[.int .i64 23, .int .i64 0, .string ⟨#[97]⟩, .int .i64 0, .slice none 0 0] 33)).alloc (.cells #[.string ⟨#[97]⟩] 9)) (SayP ((w.alloc (.cells #[.int .i64 23, .int .i64 0, .string ⟨#[97]⟩, .int .i64 0, .slice none 0 0] 33)).alloc (.cells #[.string ⟨#[97]⟩] 9)) b (l ++ [97]))) := by
    have h1 := say1 b l ⟨#[97]⟩ (w.alloc (.cells #[.int .i64 23, .int .i64 0, .string ⟨#[97]⟩, .int .i64 0, .slice none 0 0] 33)) (h.kept (grown_alloc (grown_refl _ _) _)) (by omega) (by decide)
    rw [World.size_alloc] at h1
    exact h1
  clear h
  go_enter Tryz.func63, Tryz.ntmps63
  go_wp2_with (go_at_call 87; refine CS.out.mono ?_; clear CS; rintro e w2 ⟨rfl, hp2, hb2⟩; have P2 := hid hp2; have B2 := hid ((pb_none (grown_alloc (grown_alloc (grown_refl w none) _) _) hb).trans hb2); clear hp2 hb2)
  go_end0
  exact ⟨rfl, P2.out, B2.out⟩
/-- An expression, as a node. -/
theorem nd_ex (b : Nat) (l l' : List UInt8) (k t : Int) (s : ByteArray) (n : Int) (p : Option Addr) (m c : Nat) (w : World) (h : Prn w b l) (hk : 20 ≤ k) (hk' : k ≤ 100)
    (he : ∀ W, Prn W b l → TyP w W → Calls Tryz.prog 63 #[.pointer (some ⟨b, 0, none⟩), .agg #[.int .i64 k, .int .i64 t, .string s, .int .i64 n, .slice p m c]] W (SayP W b l')) : Calls Tryz.prog 44 #[.pointer (some ⟨b, 0, none⟩), .agg #[.int .i64 k, .int .i64 t, .string s, .int .i64 n, .slice p m c]] w (SayP w b l') := by
  have CE := hid he
  have H := hid h
  have hb := h.lt
  have k1 : ¬ k < 6 := by omega
  have k2 : ¬ k < 20 := by omega
  clear he h
  go_enter Tryz.func44, Tryz.ntmps44
  go_wp2_with (go_at_call 63; refine (CE.out _ (H.out.kept (grown_alloc (grown_refl _ _) _)) (TyP.of_none (grown_alloc (grown_refl _ _) _))).mono ?_; clear CE; rintro e w2 ⟨rfl, hp2, hb2⟩; have P2 := hid hp2; have B2 := hid ((pb_none (grown_alloc (grown_refl w none) _) hb).trans hb2); clear hp2 hb2)
  go_end0
  exact ⟨rfl, P2.out, B2.out⟩
def ten : Array Value := #[.int .i64 20, .int .i64 0, .string ⟨#[]⟩, .int .i64 1, .slice none 0 0, .int .i64 23, .int .i64 0, .string ⟨#[97]⟩, .int .i64 0, .slice none 0 0]
set_option maxRecDepth 100000 in
set_option maxHeartbeats 1000000 in
theorem kid0 (b K : Nat) (l : List UInt8) (w : World) (h : Prn w b l) (hl : l.length ≤ 500) (hK : Blk w K 33 ten) : Calls Tryz.prog 89 #[.pointer (some ⟨b, 0, none⟩), .agg #[.int .i64 26, .int .i64 0, .string ⟨#[43]⟩, .int .i64 0, .slice (some ⟨K, 0, none⟩) 2 2], .int .i64 0] w (SayP w b (l ++ [49])) := by
  have H := hid h
  have hb := h.lt
  have hlt := hK.lt
  have CN : Hid (∀ W, Prn W b l → Calls Tryz.prog 44 #[.pointer (some ⟨b, 0, none⟩), .agg #[.int .i64 20, .int .i64 0, .string ⟨#[]⟩, .int .i64 1, .slice none 0 0]] W (SayP W b (l ++ [49]))) := fun W hW => nd_ex b l (l ++ [49]) 20 0 ⟨#[]⟩ 1 none 0 0 W hW (by omega) (by omega) (fun V hV _ => ex_int b l V hV hl)
  have c0 : w.cell? ⟨K, 0, none⟩ = some (.int .i64 20) := by rw [hK.cell]; rfl
  have c1 : w.cell? ⟨K, 1, none⟩ = some (.int .i64 0) := by rw [hK.cell]; rfl
  have c2 : w.cell? ⟨K, 2, none⟩ = some (.string ⟨#[]⟩) := by rw [hK.cell]; rfl
  have c3 : w.cell? ⟨K, 3, none⟩ = some (.int .i64 1) := by rw [hK.cell]; rfl
  have c4 : w.cell? ⟨K, 4, none⟩ = some (.slice none 0 0) := by rw [hK.cell]; rfl
  clear h hK
  go_enter Tryz.func89, Tryz.ntmps89
  go_wp2_with (go_at_call 44; refine (CN.out _ (H.out.kept (grown_alloc (grown_refl _ _) _))).mono ?_; clear CN; rintro e w2 ⟨rfl, hp2, hb2⟩; have P2 := hid hp2; have B2 := hid ((pb_none (grown_alloc (grown_refl w none) _) hb).trans hb2); clear hp2 hb2)
  go_end0
  exact ⟨rfl, P2.out, B2.out⟩
set_option maxRecDepth 100000 in
set_option maxHeartbeats 1000000 in
theorem kid1 (b K : Nat) (l : List UInt8) (w : World) (h : Prn w b l) (hl : l.length ≤ 500) (hK : Blk w K 33 ten) : Calls Tryz.prog 89 #[.pointer (some ⟨b, 0, none⟩), .agg #[.int .i64 26, .int .i64 0, .string ⟨#[43]⟩, .int .i64 0, .slice (some ⟨K, 0, none⟩) 2 2], .int .i64 1] w (SayP w b (l ++ [97])) := by
  have H := hid h
  have hb := h.lt
  have hlt := hK.lt
  have CN : Hid (∀ W, Prn W b l → Calls Tryz.prog 44 #[.pointer (some ⟨b, 0, none⟩), .agg #[.int .i64 23, .int .i64 0, .string ⟨#[97]⟩, .int .i64 0, .slice none 0 0]] W (SayP W b (l ++ [97]))) := fun W hW => nd_ex b l (l ++ [97]) 23 0 ⟨#[97]⟩ 0 none 0 0 W hW (by omega) (by omega) (fun V hV _ => ex_var b l V hV hl)
  have c0 : w.cell? ⟨K, 5, none⟩ = some (.int .i64 23) := by rw [hK.cell]; rfl
  have c1 : w.cell? ⟨K, 6, none⟩ = some (.int .i64 0) := by rw [hK.cell]; rfl
  have c2 : w.cell? ⟨K, 7, none⟩ = some (.string ⟨#[97]⟩) := by rw [hK.cell]; rfl
  have c3 : w.cell? ⟨K, 8, none⟩ = some (.int .i64 0) := by rw [hK.cell]; rfl
  have c4 : w.cell? ⟨K, 9, none⟩ = some (.slice none 0 0) := by rw [hK.cell]; rfl
  clear h hK
  go_enter Tryz.func89, Tryz.ntmps89
  go_wp2_with (go_at_call 44; refine (CN.out _ (H.out.kept (grown_alloc (grown_refl _ _) _))).mono ?_; clear CN; rintro e w2 ⟨rfl, hp2, hb2⟩; have P2 := hid hp2; have B2 := hid ((pb_none (grown_alloc (grown_refl w none) _) hb).trans hb2); clear hp2 hb2)
  go_end0
  exact ⟨rfl, P2.out, B2.out⟩
end Go.Proofs.YtdodammplhlihaaGreatDoor.Tr
