/-
  PageBytes: the law's own walk.
-/
import Derived.Test.YtomknaendicpkaaFindsLaw
import Derived.Test.YtomknaendicpkaaEncDec
namespace Go.Proofs.Ytomknaendicpkaa
open Go.RowKit
set_option maxRecDepth 100000 in
set_option maxHeartbeats 2000000 in
theorem bytes_bad (v : Value) (p : Pg) (w : World) (h : PgV w v p) (hf : p.fits) (hm : mayP p = false) : Calls Try.prog 3 #[v] w fun e w' => e = .returned (.bool true) ∧ w.grownBy w' none := by
  have CE : Hid (∀ W, w.grownBy W none → Calls Try.prog 7 #[v] W fun e w' => e = .returned (.tuple #[.string ⟨#[]⟩, .int .i64 6]) ∧ W.grownBy w' none) := fun W hW => encode_bad v p W (h.kept hW) hf hm
  have CR : Hid (∀ W, w.grownBy W none → Calls Try.prog 9 #[v] W (RfP W p)) := fun W hW => ref_any v p W (h.kept hW) hf
  have CK : Hid (∀ W u, PgV W u (cutP p) → Calls Try.prog 8 #[u] W fun e w' => e = .returned (.int .i64 6) ∧ W.grownBy w' none) := fun W u hW => by
    have := rcheck_any u _ W hW (cut_fits p)
    rwa [chk_same, chk_six hm] at this
  have CC : Hid (∀ W, w.grownBy W none → Calls Try.prog 11 #[v] W fun e w' => e = .returned (.int .i64 6) ∧ W.grownBy w' none) := fun W hW => by
    have := check_any v p W (h.kept hW) hf
    rwa [chk_six hm] at this
  obtain ⟨a, b, c, rfl, ha, hb, hc⟩ := h
  obtain ⟨pa, ca, ga, oa, rfl, -, -⟩ := ha
  obtain ⟨pb, cb, gb, ob, rfl, -, -⟩ := hb
  obtain ⟨pc, cc, gc, oc, rfl, -, -⟩ := hc
  generalize p.keys.length = n1 at *
  generalize p.vals.length = n2 at *
  generalize p.kids.length = n3 at *
  generalize p.leaf = l at *
  clear hm hf
  go_enter Try.func3, Try.ntmps3
  go_wp2_with (first
    | (go_at_call 7; refine (CE.out _ (grown_alloc (grown_refl _ _) _)).mono ?_; rintro e w1 ⟨rfl, hg⟩; have G1 : Hid (w.grownBy w1 none) := grown_none (grown_alloc (grown_refl _ _) _) hg; have B1 : Hid (Blk w1 w.heap.size 25 #[.bool l, .slice pa n1 ca, .slice pb n2 cb, .slice pc n3 cc]) := (Blk.new w 25 _).kept hg (by simp); have q0 := B1.out.cell 0; have q1 := B1.out.cell 1; have q2 := B1.out.cell 2; have q3 := B1.out.cell 3; simp at q0 q1 q2 q3; clear hg CE)
    | (go_at_call 9; refine (CR.out _ G1.out).mono ?_; rintro e w2 ⟨u, rfl, hpg, hg⟩; have G2 : Hid (w.grownBy w2 none) := grown_none G1.out hg; have O2 : Hid (PgV w2 u (cutP p)) := hpg.pgV; have B2 : Hid (Blk w2 w.heap.size 25 #[.bool l, .slice pa n1 ca, .slice pb n2 cb, .slice pc n3 cc]) := B1.out.kept hg (by simp); clear hpg hg G1 B1)
    | (go_at_call 8; refine (CK.out _ _ O2.out).mono ?_; rintro e w3 ⟨rfl, hg⟩; have G3 : Hid (w.grownBy w3 none) := grown_none G2.out hg; have B3 : Hid (Blk w3 w.heap.size 25 #[.bool l, .slice pa n1 ca, .slice pb n2 cb, .slice pc n3 cc]) := B2.out.kept hg (by simp); clear hg CK G2 B2 O2)
    | (go_at_call 10; refine (awake_any _).mono ?_; rintro e w4 ⟨rfl, hg⟩; have G4 : Hid (w.grownBy w4 none) := grown_none G3.out hg; have B4 : Hid (Blk w4 w.heap.size 25 #[.bool l, .slice pa n1 ca, .slice pb n2 cb, .slice pc n3 cc]) := B3.out.kept hg (by simp); clear q0 q1 q2 q3; have q0 := B4.out.cell 0; have q1 := B4.out.cell 1; have q2 := B4.out.cell 2; have q3 := B4.out.cell 3; simp at q0 q1 q2 q3; clear hg G3 B3)
    | (go_at_call 11; refine (CC.out _ G4.out).mono ?_; rintro e w5 ⟨rfl, hg⟩; have G5 : Hid (w.grownBy w5 none) := grown_none G4.out hg; have B5 : Hid (Blk w5 w.heap.size 25 #[.bool l, .slice pa n1 ca, .slice pb n2 cb, .slice pc n3 cc]) := B4.out.kept hg (by simp); clear hg G4 B4 CC))
  go_ret
  exact ⟨rfl, G5.out⟩
set_option maxRecDepth 100000 in
set_option maxHeartbeats 4000000 in
theorem bytes_ok (v : Value) (p : Pg) (w : World) (h : PgV w v p) (hf : p.fits) (hm : mayP p = true) : Calls Try.prog 3 #[v] w fun e w' => e = .returned (.bool true) ∧ w.grownBy w' none := by
  obtain ⟨d1, d2⟩ := dec_enc hm
  obtain ⟨s1, s2, s3, s4, s5, s6⟩ := may_small hm
  have CE : Hid (∀ W, w.grownBy W none → Calls Try.prog 7 #[v] W fun e w' => e = .returned (.tuple #[.string ⟨(encL p).toArray⟩, .int .i64 0]) ∧ W.grownBy w' none) := fun W hW => encode_ok v p W (h.kept hW) hf hm
  have CR : Hid (∀ W, w.grownBy W none → Calls Try.prog 9 #[v] W (RfP W p)) := fun W hW => ref_any v p W (h.kept hW) hf
  have CK : Hid (∀ W u, PgV W u (cutP p) → Calls Try.prog 8 #[u] W fun e w' => e = .returned (.int .i64 0) ∧ W.grownBy w' none) := fun W u hW => by
    have := rcheck_any u _ W hW (cut_fits p)
    rwa [chk_same, chk_zero hm] at this
  have CC : Hid (∀ W, w.grownBy W none → Calls Try.prog 11 #[v] W fun e w' => e = .returned (.int .i64 0) ∧ W.grownBy w' none) := fun W hW => by
    have := check_any v p W (h.kept hW) hf
    rwa [chk_zero hm] at this
  have CB : Hid (∀ W u, PgV W u (cutP p) → Calls Try.prog 13 #[u] W fun e w' => e = .returned (.string ⟨(encL p).toArray⟩) ∧ W.grownBy w' none) := fun W u hW => by
    rw [may_cut hm] at hW
    exact rbytes_any u p W hW hm
  have CS : Hid (∀ W u, w.grownBy W none → PgV W u p → Calls Try.prog 14 #[v, u] W fun e w' => e = .returned (.bool true) ∧ W.grownBy w' none) := fun W u hW hu => by
    have := same_any v u p p W (h.kept hW) hu hf
    rwa [(samePg_iff p p).mpr rfl] at this
  have CD : Hid (∀ W, Calls Try.prog 12 #[.string ⟨(encL p).toArray⟩] W (DecPost W p 0)) := fun W => by
    have hz : ((⟨(encL p).toArray⟩ : ByteArray).size : Int) ≤ 9223372036854775807 := by
      have h1 := txs_len 64 p.keys s4
      have h2 := txs_len 8192 p.vals s5
      have h3 := nus_len p.kids
      have h4 : (txs p.keys).length ≤ 8 * 68 := Nat.le_trans h1 (Nat.mul_le_mul_right _ s1)
      have h5 : (txs p.vals).length ≤ 8 * 8196 := Nat.le_trans h2 (Nat.mul_le_mul_right _ s2)
      rw [mk_size]
      unfold encL
      rw [List.length_append, List.length_append, List.length_append, List.length_append, numL_len, numL_len]
      omega
    have := decode_any ⟨(encL p).toArray⟩ W hz
    rwa [d1, d2] at this
  obtain ⟨a, b, c, rfl, ha, hb, hc⟩ := h
  obtain ⟨pa, ca, ga, oa, rfl, -, -⟩ := ha
  obtain ⟨pb, cb, gb, ob, rfl, -, -⟩ := hb
  obtain ⟨pc, cc, gc, oc, rfl, -, -⟩ := hc
  obtain ⟨S, hS⟩ : ∃ S : ByteArray, S = ⟨(encL p).toArray⟩ := ⟨_, rfl⟩
  rw [← hS] at CE CB CD
  clear hS
  generalize p.keys.length = n1 at *
  generalize p.vals.length = n2 at *
  generalize p.kids.length = n3 at *
  generalize p.leaf = l at *
  clear hm hf d1 d2 s1 s2 s3 s4 s5 s6
  go_enter Try.func3, Try.ntmps3
  go_wp2_with (first
    | (go_at_call 7; refine (CE.out _ (grown_alloc (grown_refl _ _) _)).mono ?_; rintro e w1 ⟨rfl, hg⟩; have G1 : Hid (w.grownBy w1 none) := grown_none (grown_alloc (grown_refl _ _) _) hg; have B1 : Hid (Blk w1 w.heap.size 25 #[.bool l, .slice pa n1 ca, .slice pb n2 cb, .slice pc n3 cc]) := (Blk.new w 25 _).kept hg (by simp); have q0 := B1.out.cell 0; have q1 := B1.out.cell 1; have q2 := B1.out.cell 2; have q3 := B1.out.cell 3; simp at q0 q1 q2 q3; clear hg CE)
    | (go_at_call 9; refine (CR.out _ G1.out).mono ?_; rintro e w2 ⟨u, rfl, hpg, hg⟩; have G2 : Hid (w.grownBy w2 none) := grown_none G1.out hg; have O2 : Hid (PgV w2 u (cutP p)) := hpg.pgV; have B2 : Hid (Blk w2 w.heap.size 25 #[.bool l, .slice pa n1 ca, .slice pb n2 cb, .slice pc n3 cc]) := B1.out.kept hg (by simp); clear hpg hg G1 B1)
    | (go_at_call 8; refine (CK.out _ _ O2.out).mono ?_; rintro e w3 ⟨rfl, hg⟩; have G3 : Hid (w.grownBy w3 none) := grown_none G2.out hg; have B3 : Hid (Blk w3 w.heap.size 25 #[.bool l, .slice pa n1 ca, .slice pb n2 cb, .slice pc n3 cc]) := B2.out.kept hg (by simp); clear hg CK G2 B2 O2)
    | (go_at_call 10; refine (awake_any _).mono ?_; rintro e w4 ⟨rfl, hg⟩; have G4 : Hid (w.grownBy w4 none) := grown_none G3.out hg; have B4 : Hid (Blk w4 w.heap.size 25 #[.bool l, .slice pa n1 ca, .slice pb n2 cb, .slice pc n3 cc]) := B3.out.kept hg (by simp); clear q0 q1 q2 q3; have q0 := B4.out.cell 0; have q1 := B4.out.cell 1; have q2 := B4.out.cell 2; have q3 := B4.out.cell 3; simp at q0 q1 q2 q3; clear hg G3 B3)
    | (go_at_call 11; refine (CC.out _ G4.out).mono ?_; rintro e w5 ⟨rfl, hg⟩; have G5 : Hid (w.grownBy w5 none) := grown_none G4.out hg; have B5 : Hid (Blk w5 w.heap.size 25 #[.bool l, .slice pa n1 ca, .slice pb n2 cb, .slice pc n3 cc]) := B4.out.kept hg (by simp); clear hg G4 B4 CC)
    | (go_at_call 12; refine (CD.out _).mono ?_; rintro e w6 ⟨y, rfl, hpg, hg⟩; have G6 : Hid (w.grownBy w6 none) := grown_none G5.out hg; have B6 : Hid (Blk w6 w.heap.size 25 #[.bool l, .slice pa n1 ca, .slice pb n2 cb, .slice pc n3 cc]) := B5.out.kept hg (by simp); have V6 : Hid (PgV w6 y p) := hpg.pgV; obtain ⟨y1, y2, y3, rfl, o1, o2, o3⟩ := hpg; obtain ⟨ra, ea, rfl⟩ := owns_slice o1; obtain ⟨rb, eb, rfl⟩ := owns_slice o2; obtain ⟨rc, ec, rfl⟩ := owns_slice o3; clear o1 o2 o3 hg G5 B5 CD; have hw6 : w.heap.size < w6.heap.size := B6.out.lt; clear q0 q1 q2 q3; have q0 := B6.out.cell 0; have q1 := B6.out.cell 1; have q2 := B6.out.cell 2; have q3 := B6.out.cell 3; simp at q0 q1 q2 q3)
    | (go_at_call 9; refine (CR.out _ (grown_alloc G6.out _)).mono ?_; rintro e w7 ⟨u7, rfl, hpg, hg⟩; have G7 : Hid (w.grownBy w7 none) := grown_none (grown_alloc G6.out _) hg; have O7 : Hid (PgV w7 u7 (cutP p)) := hpg.pgV; have B7 : Hid (Blk w7 w.heap.size 25 #[.bool l, .slice pa n1 ca, .slice pb n2 cb, .slice pc n3 cc]) := (B6.out.alloc _).kept hg (by simp); have C7 : Hid (Blk w7 w6.heap.size 25 #[.bool p.leaf, .slice ra p.keys.length ea, .slice rb p.vals.length eb, .slice rc p.kids.length ec]) := (Blk.new w6 25 _).kept hg (by simp); have V7 := hid ((V6.out.kept (grown_alloc (grown_refl _ _) _)).kept hg); clear hpg hg G6 B6 V6 CR)
    | (go_at_call 13; refine (CB.out _ _ O7.out).mono ?_; rintro e w8 ⟨rfl, hg⟩; have G8 : Hid (w.grownBy w8 none) := grown_none G7.out hg; have B8 : Hid (Blk w8 w.heap.size 25 #[.bool l, .slice pa n1 ca, .slice pb n2 cb, .slice pc n3 cc]) := B7.out.kept hg (by simp); have C8 : Hid (Blk w8 w6.heap.size 25 #[.bool p.leaf, .slice ra p.keys.length ea, .slice rb p.vals.length eb, .slice rc p.kids.length ec]) := C7.out.kept hg (by simp); have V8 := hid (V7.out.kept hg); clear q0 q1 q2 q3; have q0 := B8.out.cell 0; have q1 := B8.out.cell 1; have q2 := B8.out.cell 2; have q3 := B8.out.cell 3; simp at q0 q1 q2 q3; have r0 := C8.out.cell 0; have r1 := C8.out.cell 1; have r2 := C8.out.cell 2; have r3 := C8.out.cell 3; simp at r0 r1 r2 r3; clear hg G7 B7 C7 V7 CB O7)
    | (go_at_call 14; refine (CS.out _ _ G8.out V8.out).mono ?_; rintro e w9 ⟨rfl, hg⟩; have G9 : Hid (w.grownBy w9 none) := grown_none G8.out hg; clear hg CS))
  go_ret
  exact ⟨rfl, G9.out⟩
end Go.Proofs.Ytomknaendicpkaa
