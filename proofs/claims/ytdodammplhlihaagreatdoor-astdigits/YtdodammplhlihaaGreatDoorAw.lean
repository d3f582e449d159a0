/-
  What every statement of the layer asks first.
-/
import Derived.Test.YtdodammplhlihaaGreatDoorPb
import Derived.Test.YtdodammplhlihaaGreatDoorAw0
import Derived.Test.YtdodammplhlihaaGreatDoorEc
import Derived.Test.YtdodammplhlihaaGreatDoorSm
namespace Go.Proofs.YtdodammplhlihaaGreatDoor.Tr
open Go.RowKit
theorem aw_e : decE (mkS awN.enc) = 0 := by
  have h := aw_dec
  rw [Bool.and_eq_true] at h
  exact eq_of_beq h.1
theorem aw_n : decN (mkS awN.enc) = awN := by
  have h := aw_dec
  rw [Bool.and_eq_true] at h
  exact (Nd.eqB_iff _ _).1 h.2
theorem aw_ok : awN.ok := ⟨⟨by decide, by decide, by decide, by decide, by decide, by decide, by decide⟩, by decide, ⟨⟨by decide, by decide, by decide, by decide, by decide, by decide, by decide⟩, by decide, trivial⟩, ⟨⟨by decide, by decide, by decide, by decide, by decide, by decide, by decide⟩, by decide, trivial⟩, trivial⟩
theorem aw_cnt : awN.cnt = 3 := by simp [awN, Nd.cnt, Nd.cnts]
theorem aw_len : awN.enc.length ≤ 1000 := by
  have := Nd.enc_len awN aw_ok
  rw [aw_cnt] at this
  omega
theorem aw_ks {w : World} {K : Nat} (h : Blk w K 33 ten) : KsV w (fun _ => True) (.slice (some ⟨K, 0, none⟩) 2 2) awN.kids := by
  refine ⟨K, Or.inr ⟨by decide, trivial, 2, rfl, by decide, by decide⟩, ?_⟩
  show RowN w _ K 0 [.mk 20 0 ⟨#[]⟩ 1 [], .mk 23 0 ⟨#[97]⟩ 0 []]
  rw [RowN, RowN, RowN]
  exact ⟨NdAt.mk (by rw [h.cell]; rfl) (by rw [h.cell]; rfl) (by rw [h.cell]; rfl) (by rw [h.cell]; rfl) (by rw [h.cell]; rfl) (KsV.nil _ _), NdAt.mk (by rw [h.cell]; rfl) (by rw [h.cell]; rfl) (by rw [h.cell]; rfl) (by rw [h.cell]; rfl) (by rw [h.cell]; rfl) (KsV.nil _ _), trivial⟩
set_option maxRecDepth 100000 in
set_option maxHeartbeats 2000000 in
theorem awake_any (w : World) : Calls Tryz.prog 10 #[] w fun e w' => e = .returned (.bool true) ∧ w.grownBy w' none := by
  have BK := hid ((Blk.new w 33 ten).alloc (.cells #[.int .i64 26, .int .i64 0, .string ⟨#[43]⟩, .int .i64 0, .slice (some ⟨w.heap.size, 0, none⟩) 2 2] 33))
  have BN := Blk.new (w.alloc (.cells ten 33)) 33 #[.int .i64 26, .int .i64 0, .string ⟨#[43]⟩, .int .i64 0, .slice (some ⟨w.heap.size, 0, none⟩) 2 2]
  rw [World.size_alloc] at BN
  have BN' := hid BN
  have GA : Hid (w.grownBy ((w.alloc (.cells ten 33)).alloc (.cells #[.int .i64 26, .int .i64 0, .string ⟨#[43]⟩, .int .i64 0, .slice (some ⟨w.heap.size, 0, none⟩) 2 2] 33)) none) := grown_alloc (grown_alloc (grown_refl w none) _) _
  have VV : Hid (∀ W, Blk W w.heap.size 33 ten → NdV W (fun _ => True) (.agg #[.int .i64 26, .int .i64 0, .string ⟨#[43]⟩, .int .i64 0, .slice (some ⟨w.heap.size, 0, none⟩) 2 2]) awN) := fun W hW => ⟨_, rfl, aw_ks hW⟩
  have CE : Hid (∀ W, Blk W w.heap.size 33 ten → Calls Tryz.prog 23 #[.agg #[.int .i64 26, .int .i64 0, .string ⟨#[43]⟩, .int .i64 0, .slice (some ⟨w.heap.size, 0, none⟩) 2 2]] W (StrP W (mkS awN.enc))) := fun W hW => encode_any _ awN aw_ok (by rw [aw_cnt]; decide) _ W (VV.out W hW)
  have CD : Hid (∀ W, Calls Tryz.prog 22 #[.string (mkS awN.enc)] W (DecP W awN 0)) := fun W => by
    have := decode_any (mkS awN.enc) W (by rw [mkS_size]; have := aw_len; omega)
    rwa [aw_e, aw_n] at this
  have CS : Hid (∀ W q P, Blk W w.heap.size 33 ten → KsV W P q awN.kids → Calls Tryz.prog 24 #[.agg #[.int .i64 26, .int .i64 0, .string ⟨#[43]⟩, .int .i64 0, .slice (some ⟨w.heap.size, 0, none⟩) 2 2], .agg #[.int .i64 26, .int .i64 0, .string ⟨#[43]⟩, .int .i64 0, q]] W (SameP W true)) := fun W q P hW hq => by
    have := same_any _ P awN aw_ok awN aw_ok _ _ W (VV.out W hW) ⟨q, rfl, hq⟩
    rwa [(Nd.eqB_iff awN awN).2 rfl] at this
  have CP : Hid (∀ W, Blk W w.heap.size 33 ten → Calls Tryz.prog 25 #[.agg #[.int .i64 26, .int .i64 0, .string ⟨#[43]⟩, .int .i64 0, .slice (some ⟨w.heap.size, 0, none⟩) 2 2]] W fun e w' => e = .returned (.string ⟨#[40, 49, 32, 43, 32, 97, 41]⟩) ∧ W.grownBy w' none) := fun W hW => print_aw w.heap.size W hW
  have CC : Hid (∀ W, Blk W w.heap.size 33 ten → Calls Tryz.prog 26 #[.agg #[.int .i64 26, .int .i64 0, .string ⟨#[43]⟩, .int .i64 0, .slice (some ⟨w.heap.size, 0, none⟩) 2 2]] W fun e w' => e = .returned (.int .i64 3) ∧ W.grownBy w' none) := fun W hW => by
    have := countT_any _ awN aw_ok (by rw [aw_cnt]; decide) _ W (VV.out W hW)
    rwa [aw_cnt] at this
  have CD' : Hid (∀ W, Calls Tryz.prog 22 #[.string (mkS awN.enc)] W fun e w' => ∃ p c, e = .returned (.tuple #[.agg #[.int .i64 26, .int .i64 0, .string ⟨#[43]⟩, .int .i64 0, .slice p 2 c], .int .i64 0]) ∧ KsV w' (fun b => W.heap.size ≤ b) (.slice p 2 c) awN.kids ∧ W.grownBy w' none) := fun W => (CD.out W).mono fun e w' ⟨q, he, hk, hg⟩ => by
    obtain ⟨p, c, eq, _⟩ := hk.form
    subst eq
    exact ⟨p, c, he, hk, hg⟩
  have FX : Hid (∀ W, ((w.alloc (.cells ten 33)).alloc (.cells #[.int .i64 26, .int .i64 0, .string ⟨#[43]⟩, .int .i64 0, .slice (some ⟨w.heap.size, 0, none⟩) 2 2] 33)).grownBy W none → Blk W w.heap.size 33 ten ∧ W.cell? ⟨w.heap.size + 1, 0, none⟩ = some (.int .i64 26) ∧ W.cell? ⟨w.heap.size + 1, 1, none⟩ = some (.int .i64 0) ∧ W.cell? ⟨w.heap.size + 1, 2, none⟩ = some (.string ⟨#[43]⟩) ∧ W.cell? ⟨w.heap.size + 1, 3, none⟩ = some (.int .i64 0) ∧ W.cell? ⟨w.heap.size + 1, 4, none⟩ = some (.slice (some ⟨w.heap.size, 0, none⟩) 2 2)) := fun W hW => by
    have h1 := BN'.out.kept hW (by simp)
    exact ⟨BK.out.kept hW (by simp), h1.cell 0, h1.cell 1, h1.cell 2, h1.cell 3, h1.cell 4⟩
  clear BN VV CD
  generalize mkS awN.enc = S at *
  go_enter Tryz.func10, Tryz.ntmps10
  go_wp2_with (first
    | (go_at_call 23; refine (CE.out _ BK.out).mono ?_; clear CE; rintro e w1 ⟨rfl, hg1⟩; have G1 : Hid (((w.alloc (.cells ten 33)).alloc (.cells #[.int .i64 26, .int .i64 0, .string ⟨#[43]⟩, .int .i64 0, .slice (some ⟨w.heap.size, 0, none⟩) 2 2] 33)).grownBy w1 none) := hg1; clear hg1)
    | (go_at_call 22; refine (CD'.out _).mono ?_; clear CD'; rintro e w2 ⟨p, c, rfl, hk2, hg2⟩; have G2 := hid (grown_alloc (grown_none G1.out hg2) (.cells #[.int .i64 26, .int .i64 0, .string ⟨#[43]⟩, .int .i64 0, .slice p 2 c] 33)); have K2 := hid (hk2.kept (grown_alloc (grown_refl w2 none) (.cells #[.int .i64 26, .int .i64 0, .string ⟨#[43]⟩, .int .i64 0, .slice p 2 c] 33))); obtain ⟨hb, z0, z1, z2, z3, z4⟩ := FX.out _ G2.out; have B2 := hid hb; clear hk2 hg2 hb)
    | (go_at_call 24; refine (CS.out _ _ _ B2.out K2.out).mono ?_; clear CS; rintro e w3 ⟨rfl, hg3⟩; have G3 := hid (grown_none G2.out hg3); clear z0 z1 z2 z3 z4; obtain ⟨hb, z0, z1, z2, z3, z4⟩ := FX.out _ G3.out; have B3 := hid hb; clear hg3 hb)
    | (go_at_call 25; refine (CP.out _ B3.out).mono ?_; clear CP; rintro e w4 ⟨rfl, hg4⟩; have G4 := hid (grown_none G3.out hg4); clear z0 z1 z2 z3 z4; obtain ⟨hb, z0, z1, z2, z3, z4⟩ := FX.out _ G4.out; have B4 := hid hb; clear hg4 hb)
    | (go_at_call 26; refine (CC.out _ B4.out).mono ?_; clear CC; rintro e w5 ⟨rfl, hg5⟩; have G5 := hid (grown_none G4.out hg5); clear hg5))
  go_ret
  exact ⟨rfl, grown_none GA.out G5.out⟩
end Go.Proofs.YtdodammplhlihaaGreatDoor.Tr
