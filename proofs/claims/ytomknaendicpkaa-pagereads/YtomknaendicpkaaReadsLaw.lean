/-
  PageReads: the law's own walk.
-/
import Derived.Test.YtomknaendicpkaaRdecT
import Derived.Test.YtomknaendicpkaaRdecF
import Derived.Test.YtomknaendicpkaaBytesLaw
import Derived.Deep.RegionHeld3
namespace Go.Proofs.Ytomknaendicpkaa
open Go.RowKit
theorem rdecode_any (s : ByteArray) (w : World) (hs : (s.size : Int) ≤ 9223372036854775807) : Calls Try.prog 15 #[.string s] w (DecPost w (decP s) (decE s)) := by
  cases hl : ((bolN s : Int) == 1) with
  | true => exact rdecode_true s w hs hl
  | false => exact rdecode_false s w hs hl
set_option maxRecDepth 100000 in
set_option maxHeartbeats 2000000 in
theorem reads_bad (s : ByteArray) (w : World) (hs : (s.size : Int) ≤ 9223372036854775807) (he : decE s ≠ 0) : Calls Try.prog 4 #[.string s] w fun e w' => e = .returned (.bool true) ∧ w.grownBy w' none := by
  have CD : Hid (∀ W, Calls Try.prog 12 #[.string s] W (DecPost W noPg (decE s))) := fun W => by
    have := decode_any s W hs
    rwa [show decP s = noPg by unfold decP; rw [if_neg he]] at this
  have CR : Hid (∀ W, Calls Try.prog 15 #[.string s] W (DecPost W noPg (decE s))) := fun W => by
    have := rdecode_any s W hs
    rwa [show decP s = noPg by unfold decP; rw [if_neg he]] at this
  generalize decE s = x at *
  have x0 : ¬ ((x : Int) = 0) := by omega
  clear he
  go_enter Try.func4, Try.ntmps4
  go_wp2_with (first
    | (go_at_call 12; refine (CD.out _).mono ?_; rintro e w1 ⟨v, rfl, hpg, hg⟩; obtain ⟨y1, y2, y3, rfl, o1, o2, o3⟩ := hpg; obtain ⟨ra, ea, rfl⟩ := owns_slice o1; obtain ⟨rb, eb, rfl⟩ := owns_slice o2; obtain ⟨rc, ec, rfl⟩ := owns_slice o3; have G1 := hid hg; have B1 := hid (Blk.new w1 25 #[.bool false, .slice ra 0 ea, .slice rb 0 eb, .slice rc 0 ec]); clear hg CD o1 o2 o3)
    | (go_at_call 15; refine (CR.out _).mono ?_; rintro e w2 ⟨v, rfl, hpg, hg⟩; obtain ⟨y1, y2, y3, rfl, o1, o2, o3⟩ := hpg; obtain ⟨ta, fa, rfl⟩ := owns_slice o1; obtain ⟨tb, fb, rfl⟩ := owns_slice o2; obtain ⟨tc, fc, rfl⟩ := owns_slice o3; have G2 : Hid (w.grownBy w2 none) := grown_none (grown_alloc G1.out _) hg; have B2 := hid (B1.out.kept hg (by simp)); clear hg CR o1 o2 o3)
    | (go_at_call 10; refine (awake_any _).mono ?_; rintro e w3 ⟨rfl, hg⟩; have G3 : Hid (w.grownBy w3 none) := grown_none (grown_alloc G2.out _) hg; have B3 := hid ((B2.out.alloc _).kept hg (by simp)); have q1 := B3.out.cell 1; have q3 := B3.out.cell 3; simp at q1 q3; clear hg B2 G2))
  go_ret
  exact ⟨rfl, G3.out⟩
set_option maxRecDepth 100000 in
set_option maxHeartbeats 4000000 in
theorem reads_ok (s : ByteArray) (w : World) (hs : (s.size : Int) ≤ 9223372036854775807) (he : decE s = 0) : Calls Try.prog 4 #[.string s] w fun e w' => e = .returned (.bool true) ∧ w.grownBy w' none := by
  obtain ⟨hb, hm⟩ := dec_back s he
  have es : (⟨(encL (decP s)).toArray⟩ : ByteArray) = s := by
    apply bytes_ext
    rw [hb]
  obtain ⟨s1, s2, s3, -, -, -⟩ := may_small hm
  have CD : Hid (∀ W, Calls Try.prog 12 #[.string s] W (DecPost W (decP s) 0)) := fun W => by
    have := decode_any s W hs
    rwa [he] at this
  have CX : Hid (∀ W, Calls Try.prog 15 #[.string s] W (DecPost W (decP s) 0)) := fun W => by
    have := rdecode_any s W hs
    rwa [he] at this
  have CR : Hid (∀ W v, PgV W v (decP s) → Calls Try.prog 9 #[v] W (RfP W (decP s))) := fun W v hW => ref_any v _ W hW ⟨by omega, by omega, by omega⟩
  have CB : Hid (∀ W u, PgV W u (decP s) → Calls Try.prog 13 #[u] W fun e w' => e = .returned (.string s) ∧ W.grownBy w' none) := fun W u hW => by
    have := rbytes_any u _ W hW hm
    rwa [es] at this
  have EC := hid (may_cut hm)
  clear hb hm es s1 s2 s3 he
  generalize decP s = p at *
  obtain ⟨n1, hn1⟩ : ∃ n, p.keys.length = n := ⟨_, rfl⟩
  obtain ⟨n2, hn2⟩ : ∃ n, p.vals.length = n := ⟨_, rfl⟩
  obtain ⟨n3, hn3⟩ : ∃ n, p.kids.length = n := ⟨_, rfl⟩
  obtain ⟨l, hl⟩ : ∃ l, p.leaf = l := ⟨_, rfl⟩
  have N1 := hid hn1
  have N2 := hid hn2
  have N3 := hid hn3
  have NL := hid hl
  clear hn1 hn2 hn3 hl
  go_enter Try.func4, Try.ntmps4
  go_wp2_with (first
    | (go_at_call 12; refine (CD.out _).mono ?_; rintro e w1 ⟨v, rfl, hpg, hg⟩; have V1 := hid hpg.pgV; obtain ⟨y1, y2, y3, rfl, o1, o2, o3⟩ := hpg; rw [N1.out] at o1; rw [N2.out] at o2; rw [N3.out] at o3; obtain ⟨ra, ea, rfl⟩ := owns_slice o1; obtain ⟨rb, eb, rfl⟩ := owns_slice o2; obtain ⟨rc, ec, rfl⟩ := owns_slice o3; rw [NL.out] at V1; rw [NL.out]; have G1 := hid hg; have B1 := hid (Blk.new w1 25 #[.bool l, .slice ra n1 ea, .slice rb n2 eb, .slice rc n3 ec]); clear hg CD o1 o2 o3)
    | (go_at_call 15; refine (CX.out _).mono ?_; rintro e w2 ⟨v, rfl, hpg, hg⟩; have W2 := hid hpg.pgV; have V2 := hid ((V1.out.kept (grown_alloc (grown_refl _ _) (.cells #[.bool l, .slice ra n1 ea, .slice rb n2 eb, .slice rc n3 ec] 25))).kept hg); obtain ⟨y1, y2, y3, rfl, o1, o2, o3⟩ := hpg; rw [N1.out] at o1; rw [N2.out] at o2; rw [N3.out] at o3; obtain ⟨ta, fa, rfl⟩ := owns_slice o1; obtain ⟨tb, fb, rfl⟩ := owns_slice o2; obtain ⟨tc, fc, rfl⟩ := owns_slice o3; rw [NL.out] at W2; rw [NL.out]; have G2 : Hid (w.grownBy w2 none) := grown_none (grown_alloc G1.out _) hg; have B2 := hid (B1.out.kept hg (by simp)); have C2 := hid (Blk.new w2 30 #[.bool l, .slice ta n1 fa, .slice tb n2 fb, .slice tc n3 fc]); clear hg CX o1 o2 o3 V1)
    | (go_at_call 10; refine (awake_any _).mono ?_; rintro e w3 ⟨rfl, hg⟩; have G3 : Hid (w.grownBy w3 none) := grown_none (grown_alloc G2.out _) hg; have B3 := hid ((B2.out.alloc _).kept hg (by simp)); have C3 := hid (C2.out.kept hg (by simp)); have V3 := hid ((V2.out.kept (grown_alloc (grown_refl _ _) (.cells #[.bool l, .slice ta n1 fa, .slice tb n2 fb, .slice tc n3 fc] 30))).kept hg); have W3 := hid ((W2.out.kept (grown_alloc (grown_refl _ _) (.cells #[.bool l, .slice ta n1 fa, .slice tb n2 fb, .slice tc n3 fc] 30))).kept hg); clear hg B2 C2 G2 V2 W2))
  have VV : Hid (∀ V, w3.grownBy V none → PgV V (.agg #[.bool l, .slice ra n1 ea, .slice rb n2 eb, .slice rc n3 ec]) p) := fun V hV => V3.out.kept hV
  have WW : Hid (∀ V, w3.grownBy V none → PgV V (.agg #[.bool l, .slice ta n1 fa, .slice tb n2 fb, .slice tc n3 fc]) p) := fun V hV => W3.out.kept hV
  have SS : Hid (∀ V, w3.grownBy V none → V.cell? ⟨w1.heap.size, 0, none⟩ = some (.bool l) ∧ V.cell? ⟨w1.heap.size, 1, none⟩ = some (.slice ra n1 ea) ∧ V.cell? ⟨w1.heap.size, 2, none⟩ = some (.slice rb n2 eb) ∧ V.cell? ⟨w1.heap.size, 3, none⟩ = some (.slice rc n3 ec) ∧ V.cell? ⟨w2.heap.size, 0, none⟩ = some (.bool l) ∧ V.cell? ⟨w2.heap.size, 1, none⟩ = some (.slice ta n1 fa) ∧ V.cell? ⟨w2.heap.size, 2, none⟩ = some (.slice tb n2 fb) ∧ V.cell? ⟨w2.heap.size, 3, none⟩ = some (.slice tc n3 fc)) := fun V hV => ⟨(B3.out.kept hV (by simp)).cell 0, (B3.out.kept hV (by simp)).cell 1, (B3.out.kept hV (by simp)).cell 2, (B3.out.kept hV (by simp)).cell 3, (C3.out.kept hV (by simp)).cell 0, (C3.out.kept hV (by simp)).cell 1, (C3.out.kept hV (by simp)).cell 2, (C3.out.kept hV (by simp)).cell 3⟩
  obtain ⟨q0, q1, q2, q3, r0, r1, r2, r3⟩ := SS.out w3 (grown_refl _ _)
  have GD : w3.grownBy w3.drew none := grown_drew (grown_refl _ _)
  clear B3 C3 V3 W3
  go_region_held3 (fun V => V.cell? ⟨w1.heap.size, 0, none⟩ = some (.bool l) ∧ V.cell? ⟨w1.heap.size, 1, none⟩ = some (.slice ra n1 ea) ∧ V.cell? ⟨w1.heap.size, 2, none⟩ = some (.slice rb n2 eb) ∧ V.cell? ⟨w1.heap.size, 3, none⟩ = some (.slice rc n3 ec) ∧ V.cell? ⟨w2.heap.size, 0, none⟩ = some (.bool l) ∧ V.cell? ⟨w2.heap.size, 1, none⟩ = some (.slice ta n1 fa) ∧ V.cell? ⟨w2.heap.size, 2, none⟩ = some (.slice tb n2 fb) ∧ V.cell? ⟨w2.heap.size, 3, none⟩ = some (.slice tc n3 fc)) (first | assumption | go_keep) (first
    | (go_at_call 9; refine (CR.out _ _ (VV.out _ (by assumption))).mono ?_; rintro e w4 ⟨u, rfl, hpg, hg4⟩; have GN4 : w3.grownBy w4 none := grown_none (by assumption) hg4; have UU : ∀ W, w4.grownBy W none → PgV W u p := (fun W hW => by have := hpg.pgV.kept hW; rwa [EC.out] at this); have GU : w4.grownBy w4 none := grown_refl _ _; have SN := SS.out w4 GN4; clear hpg)
    | (go_at_call 13; refine calls_at (args := #[.agg #[.bool l, .slice ta n1 fa, .slice tb n2 fb, .slice tc n3 fc]]) rfl ?_; refine (CB.out _ _ (WW.out _ (by assumption))).mono ?_; rintro e w5 ⟨rfl, hg5⟩; have GN5 : w3.grownBy w5 none := grown_none (by assumption) hg5; have SN5 := SS.out w5 GN5; try (have GU5 : w4.grownBy w5 none := grown_none (by assumption) hg5))
    | (go_at_call 13; refine (CB.out _ _ (UU _ (by assumption))).mono ?_; rintro e w6 ⟨rfl, hg6⟩; have GN6 : w3.grownBy w6 none := grown_none (by assumption) hg6; have SN6 := SS.out w6 GN6))
  all_goals
    go_wp2
    go_ret
    exact ⟨rfl, grown_none G3.out (by assumption)⟩
end Go.Proofs.Ytomknaendicpkaa
