/-
  Print, of a sign between two.
-/
import Derived.Test.YtdodammplhlihaaGreatDoorPa
namespace Go.Proofs.YtdodammplhlihaaGreatDoor.Tr
open Go.RowKit
set_option maxRecDepth 100000 in
set_option maxHeartbeats 2000000 in
theorem ex_bin (b K : Nat) (w : World) (h : Prn w b []) (hK : Blk w K 33 ten) : Calls Tryz.prog 63 #[.pointer (some ⟨b, 0, none⟩), .agg #[.int .i64 26, .int .i64 0, .string ⟨#[43]⟩, .int .i64 0, .slice (some ⟨K, 0, none⟩) 2 2]] w (SayP w b [40, 49, 32, 43, 32, 97, 41]) := by
  have hb := h.lt
  have HK := hid hK
  have C1 : Hid (Calls Tryz.prog 87 #[.pointer (some ⟨b, 0, none⟩), .slice (some ⟨w.heap.size + 1, 0, none⟩) 1 1] ((w.alloc (.cells #[.int .i64 26, .int .i64 0, .string ⟨#[43]⟩, .int .i64 0, .slice (some ⟨K, 0, none⟩) 2 2] 33)).alloc (.cells #[.string ⟨#[40]⟩] 9)) (SayP ((w.alloc (.cells #[.int .i64 26, .int .i64 0, .string ⟨#[43]⟩, .int .i64 0, .slice (some ⟨K, 0, none⟩) 2 2] 33)).alloc (.cells #[.string ⟨#[40]⟩] 9)) b [40])) := by
    have h1 := say1 b [] ⟨#[40]⟩ (w.alloc (.cells #[.int .i64 26, .int .i64 0, .string ⟨#[43]⟩, .int .i64 0, .slice (some ⟨K, 0, none⟩) 2 2] 33)) (h.kept (grown_alloc (grown_refl _ _) _)) (by decide) (by decide)
    rw [World.size_alloc] at h1
    exact h1
  have C2 : Hid (∀ W, Prn W b [40] → Blk W K 33 ten → Calls Tryz.prog 89 #[.pointer (some ⟨b, 0, none⟩), .agg #[.int .i64 26, .int .i64 0, .string ⟨#[43]⟩, .int .i64 0, .slice (some ⟨K, 0, none⟩) 2 2], .int .i64 0] W (SayP W b [40, 49])) := fun W h1 h2 => kid0 b K [40] W h1 (by decide) h2
  have C3 : Hid (∀ W, Prn W b [40, 49] → Calls Tryz.prog 87 #[.pointer (some ⟨b, 0, none⟩), .slice (some ⟨W.heap.size, 0, none⟩) 3 3] (W.alloc (.cells #[.string ⟨#[32]⟩, .string ⟨#[43]⟩, .string ⟨#[32]⟩] 9)) (SayP (W.alloc (.cells #[.string ⟨#[32]⟩, .string ⟨#[43]⟩, .string ⟨#[32]⟩] 9)) b [40, 49, 32, 43, 32])) := fun W h1 => say3 b [40, 49] ⟨#[32]⟩ ⟨#[43]⟩ ⟨#[32]⟩ W h1 (by decide) (by decide) (by decide) (by decide)
  have C4 : Hid (∀ W, Prn W b [40, 49, 32, 43, 32] → Blk W K 33 ten → Calls Tryz.prog 89 #[.pointer (some ⟨b, 0, none⟩), .agg #[.int .i64 26, .int .i64 0, .string ⟨#[43]⟩, .int .i64 0, .slice (some ⟨K, 0, none⟩) 2 2], .int .i64 1] W (SayP W b [40, 49, 32, 43, 32, 97])) := fun W h1 h2 => kid1 b K [40, 49, 32, 43, 32] W h1 (by decide) h2
  have C5 : Hid (∀ W, Prn W b [40, 49, 32, 43, 32, 97] → Calls Tryz.prog 87 #[.pointer (some ⟨b, 0, none⟩), .slice (some ⟨W.heap.size, 0, none⟩) 1 1] (W.alloc (.cells #[.string ⟨#[41]⟩] 9)) (SayP (W.alloc (.cells #[.string ⟨#[41]⟩] 9)) b [40, 49, 32, 43, 32, 97, 41])) := fun W h1 => say1 b [40, 49, 32, 43, 32, 97] ⟨#[41]⟩ W h1 (by decide) (by decide)
  have BX := hid (Blk.new w 33 #[.int .i64 26, .int .i64 0, .string ⟨#[43]⟩, .int .i64 0, .slice (some ⟨K, 0, none⟩) 2 2])
  have FX : Hid (∀ W, TyP (w.alloc (.cells #[.int .i64 26, .int .i64 0, .string ⟨#[43]⟩, .int .i64 0, .slice (some ⟨K, 0, none⟩) 2 2] 33)) W → Blk W K 33 ten ∧ W.cell? ⟨w.heap.size, 0, none⟩ = some (.int .i64 26) ∧ W.cell? ⟨w.heap.size, 1, none⟩ = some (.int .i64 0) ∧ W.cell? ⟨w.heap.size, 2, none⟩ = some (.string ⟨#[43]⟩) ∧ W.cell? ⟨w.heap.size, 3, none⟩ = some (.int .i64 0) ∧ W.cell? ⟨w.heap.size, 4, none⟩ = some (.slice (some ⟨K, 0, none⟩) 2 2)) := fun W hW => by
    have h1 := BX.out.typ hW (by decide) (by decide)
    exact ⟨(hK.alloc _).typ hW (by decide) (by decide), h1.cell 0, h1.cell 1, h1.cell 2, h1.cell 3, h1.cell 4⟩
  have PB0 := hid (pb_none (grown_alloc (grown_refl w none) (.cells #[.int .i64 26, .int .i64 0, .string ⟨#[43]⟩, .int .i64 0, .slice (some ⟨K, 0, none⟩) 2 2] 33)) hb)
  have PB1 := hid (TyP.of_none (grown_alloc (grown_refl (w.alloc (.cells #[.int .i64 26, .int .i64 0, .string ⟨#[43]⟩, .int .i64 0, .slice (some ⟨K, 0, none⟩) 2 2] 33)) none) (.cells #[.string ⟨#[40]⟩] 9)))
  clear h hK
  go_enter Tryz.func63, Tryz.ntmps63
  go_wp2_with (first
    | (go_at_call 87; refine C1.out.mono ?_; clear C1; rintro e w1 ⟨rfl, hp, hb1⟩; have P1 := hid hp; have T1 := hid (PB1.out.trans hb1.ty); have Q1 := hid ((PB0.out.trans (pb_none (grown_alloc (grown_refl _ none) _) (by rw [World.size_alloc]; omega))).trans hb1); obtain ⟨hk1, z0, z1, z2, z3, z4⟩ := FX.out w1 T1.out; have K1 := hid hk1; clear hp hb1 hk1)
    | (go_at_call 89; refine (C2.out _ P1.out K1.out).mono ?_; clear C2; rintro e w2 ⟨rfl, hp, hb1⟩; have P2 := hid hp; have T2 := hid (T1.out.trans hb1.ty); have Q2 := hid (Q1.out.trans hb1); clear z0 z1 z2 z3 z4; obtain ⟨hk1, z0, z1, z2, z3, z4⟩ := FX.out w2 T2.out; have l2 := hp.lt; clear hp hb1 hk1)
    | (go_at_call 87; refine (C3.out _ P2.out).mono ?_; clear C3; rintro e w3 ⟨rfl, hp, hb1⟩; have P3 := hid hp; have T3 := hid ((T2.out.trans (TyP.of_none (grown_alloc (grown_refl w2 none) _))).trans hb1.ty); have Q3 := hid ((Q2.out.trans (pb_none (grown_alloc (grown_refl w2 none) _) l2)).trans hb1); clear z0 z1 z2 z3 z4; obtain ⟨hk1, z0, z1, z2, z3, z4⟩ := FX.out w3 T3.out; have K3 := hid hk1; clear hp hb1 hk1)
    | (go_at_call 89; refine (C4.out _ P3.out K3.out).mono ?_; clear C4; rintro e w4 ⟨rfl, hp, hb1⟩; have P4 := hid hp; have Q4 := hid (Q3.out.trans hb1); have l4 := hp.lt; clear z0 z1 z2 z3 z4 hp hb1)
    | (go_at_call 87; refine (C5.out _ P4.out).mono ?_; clear C5; rintro e w5 ⟨rfl, hp, hb1⟩; have P5 := hid hp; have Q5 := hid ((Q4.out.trans (pb_none (grown_alloc (grown_refl w4 none) _) l4)).trans hb1); clear hp hb1))
  go_end0
  exact ⟨rfl, P5.out, Q5.out⟩
set_option maxRecDepth 100000 in
set_option maxHeartbeats 1000000 in
theorem print_aw (K : Nat) (w : World) (hK : Blk w K 33 ten) : Calls Tryz.prog 25 #[.agg #[.int .i64 26, .int .i64 0, .string ⟨#[43]⟩, .int .i64 0, .slice (some ⟨K, 0, none⟩) 2 2]] w fun e w' => e = .returned (.string ⟨#[40, 49, 32, 43, 32, 97, 41]⟩) ∧ w.grownBy w' none := by
  have B1 := Blk.new (w.alloc (.cells #[.int .i64 26, .int .i64 0, .string ⟨#[43]⟩, .int .i64 0, .slice (some ⟨K, 0, none⟩) 2 2] 33)) 77 #[.pointer none, .slice none 0 0]
  rw [World.size_alloc] at B1
  have P0 : Prn ((w.alloc (.cells #[.int .i64 26, .int .i64 0, .string ⟨#[43]⟩, .int .i64 0, .slice (some ⟨K, 0, none⟩) 2 2] 33)).alloc (.cells #[.pointer none, .slice none 0 0] 77)) (w.heap.size + 1) [] := ⟨none, .slice none 0 0, B1, Or.inl rfl, World.ownsRow_nil _ _ _ _⟩
  have hK2 := (hK.alloc (.cells #[.int .i64 26, .int .i64 0, .string ⟨#[43]⟩, .int .i64 0, .slice (some ⟨K, 0, none⟩) 2 2] 33)).alloc (.cells #[.pointer none, .slice none 0 0] 77)
  have CN := hid (nd_ex (w.heap.size + 1) [] [40, 49, 32, 43, 32, 97, 41] 26 0 ⟨#[43]⟩ 0 (some ⟨K, 0, none⟩) 2 2 _ P0 (by omega) (by omega) (fun V hV hT => ex_bin (w.heap.size + 1) K V hV (hK2.typ hT (by decide) (by decide))))
  have GA : Hid (w.grownBy ((w.alloc (.cells #[.int .i64 26, .int .i64 0, .string ⟨#[43]⟩, .int .i64 0, .slice (some ⟨K, 0, none⟩) 2 2] 33)).alloc (.cells #[.pointer none, .slice none 0 0] 77)) none) := grown_alloc (grown_alloc (grown_refl w none) _) _
  have CS : Hid (∀ W, Prn W (w.heap.size + 1) [40, 49, 32, 43, 32, 97, 41] → Calls Tryz.prog 45 #[.pointer (some ⟨w.heap.size + 1, 0, none⟩)] W fun e w' => e = .returned (.string ⟨#[40, 49, 32, 43, 32, 97, 41]⟩) ∧ Below (w.heap.size + 1) W w') := fun W hW => string_any (w.heap.size + 1) _ W hW (by simp)
  clear B1 P0 hK2 hK
  go_enter Tryz.func25, Tryz.ntmps25
  go_wp2_with (first
    | (go_at_call 44; refine CN.out.mono ?_; clear CN; rintro e w1 ⟨rfl, hp, hb⟩; have P1 := hid hp; have G1 := hid (below_grown GA.out hb.bel (by omega)); clear hp hb)
    | (go_at_call 45; refine (CS.out _ P1.out).mono ?_; clear CS; rintro e w2 ⟨rfl, hb⟩; have G2 := hid (below_grown G1.out hb (by omega)); clear hb))
  go_ret
  exact ⟨rfl, G2.out⟩
end Go.Proofs.YtdodammplhlihaaGreatDoor.Tr
