/-
  Commit, on a disk with any room: all is sure, or there is no room, and what waited is gone. The document's Unframe.
-/
import Derived.Test.YtddnjlnnkeiplaaKLdrop2
import Derived.Test.YtddnjlnnkeiplaaWUnframe
namespace Go.Proofs.Ytddnjlnnkeiplaa.X
open Go.RowKit Go.Maps
variable {xt : Xt}
/-- Why so many bytes more may not be. -/
def putQ (xt : Xt) (k : Dk) (s : ByteArray) : Nat := growF xt k.now (s.size : Int)
theorem put_ans (k : Dk) (s : ByteArray) (hd : k.dead = false) : ansX xt k (putC s) = putQ xt k s := by
  have e : ansX xt k (putC s) = refX xt k.now (putC s) := by unfold ansX; rw [hd]; rfl
  rw [e]
  unfold refX putC putQ
  have h1 : ¬ (nameB ⟨#[108, 111, 103]⟩ = false ∨ ((0 : Nat) = 2 ∧ nameB ⟨#[]⟩ = false)) := by
    rw [log_name]
    rintro (h | h)
    · cases h
    · exact absurd h.1 (by decide)
  show (if _ then 30 else if (0 : Nat) ≤ 1 then growF xt k.now (if (0 : Nat) = 0 then _ else _) else _) = _
  rw [if_neg h1, if_pos (by decide), if_pos rfl]
theorem fine_put (s : ByteArray) (h : s.size ≤ 1000000) : Fine (putC s) := ⟨by show 0 ≤ 4; omega, by show 3 ≤ maxLen; decide, by show 0 ≤ maxLen; decide, h, by show (0 : Int) ≤ 9223372036854775807; decide⟩
/-- The disk behind put. -/
def putD (xt : Xt) (k : Dk) (s : ByteArray) : Dk := if putQ xt k s = 0 then syncD (stepD k (putC s)) else k
set_option maxRecDepth 100000 in
set_option maxHeartbeats 1000000 in
theorem put_x (base b : Nat) (g : Lg) (k : Dk) (s : ByteArray) (w : World) (h : IsLog w base b g) (hd : IsDisk xt w base g.d k) (hdd : k.dead = false) (hS : Small k) (hs : s.size ≤ 1000000) (hf : Fits (doF k.now (putC s)) 1000000) (hP : xt.pp = none ∧ xt.pn = 0 ∧ xt.pc = 0) (hZ : sizeF k.now ≤ 1000000000) :
    Calls Try.prog 43 #[.pointer (some ⟨b, 0, none⟩), .string s] w fun e w' => e = .returned (.int .i64 (putQ xt k s : Nat)) ∧ IsLog w' base b g ∧ IsDisk xt w' base g.d (putD xt k s) ∧ Low base w w' := by
  have CA0 := append_all base g.d k ⟨#[108, 111, 103]⟩ s w hd hS (fine_put s hs) hP hZ
  change Calls Try.prog 62 _ w fun e w' => e = .returned (.int .i64 (ansX xt k (putC s) : Nat)) ∧ IsDisk xt w' base g.d (nextX xt k (putC s)) ∧ Tend base g.d w w' at CA0
  have ea := put_ans (xt := xt) k s hdd
  have CS : Hid (∀ W, IsDisk xt W base g.d (stepD k (putC s)) → Calls Try.prog 31 #[.pointer (some ⟨g.d, 0, none⟩)] W fun e w' => e = .returned (.int .i64 0) ∧ IsDisk xt w' base g.d (syncD (stepD k (putC s))) ∧ W.grownBy w' (some g.d)) := fun W hW => sync_any base g.d _ W hW hdd hf
  have HL := hid h
  obtain ⟨cd, hcd⟩ := hd.blk
  have BD := hid hcd
  have hbd : base ≤ g.d := hd.1
  obtain ⟨_, vr, vw, hb, _, _⟩ := h
  have c0 := hb.g7.1.1
  clear hb hcd hd hs hf hS hdd hP hZ
  by_cases hq : putQ xt k s = 0
  · have en : nextX xt k (putC s) = stepD k (putC s) := by unfold nextX; rw [ea, if_pos hq]
    have eD : putD xt k s = syncD (stepD k (putC s)) := by unfold putD; rw [if_pos hq]
    rw [ea, en, hq] at CA0
    rw [hq, eD]
    have CA := hid CA0
    clear CA0 ea en eD hq
    generalize stepD k (putC s) = k1 at *
    generalize syncD k1 = k2 at *
    go_enter Try.func43, Try.ntmps43
    go_wp2_with (first
      | (go_at_call 62; refine CA.out.mono ?_; rintro e w1 ⟨rfl, h1, t1⟩; have D1 := hid h1; have L1 := hid (HL.out.keptD BD.out t1); have T1 := hid (Low.of_tend t1 ⟨_, BD.out⟩); obtain ⟨_, vr1, vw1, hb1, _, _⟩ := L1.out; have e0 := hb1.g7.1.1; clear hb1 h1 t1 CA)
      | (go_at_call 31; refine (CS.out _ D1.out).mono ?_; rintro e w2 ⟨rfl, h2, g2⟩; have D2 := hid h2; obtain ⟨cd1, hcd1⟩ := D1.out.blk; have L2 := hid (L1.out.keptD hcd1 (Tend.of_self (base := base) g2 hbd)); have T2 := hid (Low.trans T1.out (Low.of_tend (Tend.of_self (base := base) g2 hbd) ⟨_, hcd1⟩)); clear h2 g2 CS hcd1))
    go_ret
    exact ⟨rfl, L2.out, D2.out, T2.out⟩
  · have en : nextX xt k (putC s) = k := by unfold nextX; rw [ea, if_neg hq]
    have eD : putD xt k s = k := by unfold putD; rw [if_neg hq]
    rw [ea, en] at CA0
    rw [eD]
    have CA := hid CA0
    clear CA0 ea en eD CS
    generalize putQ xt k s = q at *
    have h1 : ((q : Int) == 0) = false := by simp; exact hq
    have h2 : ((q : Int) != 0) = true := by simp; exact hq
    clear hq
    go_enter Try.func43, Try.ntmps43
    go_wp2_with (go_at_call 62; refine CA.out.mono ?_; rintro e w1 ⟨rfl, h1, t1⟩; have D1 := hid h1; have L1 := hid (HL.out.keptD BD.out t1); have T1 := hid (Low.of_tend t1 ⟨_, BD.out⟩); clear h1 t1 CA)
    go_ret
    exact ⟨rfl, L1.out, D1.out, T1.out⟩
/-- The log behind a Commit. -/
def comX (xt : Xt) (k : Dk) (g : Lg) (r : ByteArray) : Lg := if putQ xt k (g.wait ++ Wi.frmS (⟨#[109]⟩ ++ r)) = 0 then comL g r else dropG g
set_option maxRecDepth 100000 in
set_option maxHeartbeats 1000000 in
theorem commit_x (base b : Nat) (g : Lg) (k : Dk) (r : ByteArray) (w : World) (h : IsLog w base b g) (hd : IsDisk xt w base g.d k) (hdd : k.dead = false) (hS : Small k) (hr : r.size ≤ 3900) (hw : g.wait.size ≤ 900000) (hl : g.recs.length ≤ 1000000) (hcm : g.com ≤ g.recs.length) (hn : g.len ≤ 1000000000)
    (hf : Fits (doF k.now (putC (g.wait ++ Wi.frmS (⟨#[109]⟩ ++ r)))) 1000000) (hP : xt.pp = none ∧ xt.pn = 0 ∧ xt.pc = 0) (hZ : sizeF k.now ≤ 1000000000) :
    Calls Try.prog 13 #[.pointer (some ⟨b, 0, none⟩), .string r] w fun e w' => e = .returned (.int .i64 (putQ xt k (g.wait ++ Wi.frmS (⟨#[109]⟩ ++ r)) : Nat)) ∧ IsLog w' base b (comX xt k g r) ∧ IsDisk xt w' base g.d (putD xt k (g.wait ++ Wi.frmS (⟨#[109]⟩ ++ r))) ∧ Low base w w' := by
  have hfs : (Wi.frmS (⟨#[109]⟩ ++ r)).size ≤ 5000 := by rw [Wi.frmS_size, ByteArray.size_append]; show 1 + r.size + 8 ≤ _; omega
  have hsz : (g.wait ++ Wi.frmS (⟨#[109]⟩ ++ r)).size ≤ 1000000 := by rw [ByteArray.size_append]; omega
  have C1 := hid (sealed_any base b g r w h (by omega) hr)
  have C2 : Hid (∀ W, w.grownBy W none → Calls Try.prog 43 #[.pointer (some ⟨b, 0, none⟩), .string (g.wait ++ Wi.frmS (⟨#[109]⟩ ++ r))] W fun e w' => e = .returned (.int .i64 (putQ xt k (g.wait ++ Wi.frmS (⟨#[109]⟩ ++ r)) : Nat)) ∧ IsLog w' base b g ∧ IsDisk xt w' base g.d (putD xt k (g.wait ++ Wi.frmS (⟨#[109]⟩ ++ r))) ∧ Low base W w') := fun W hW => put_x base b g k _ W (h.kept hW) (hd.kept hW) hdd hS hsz hf hP hZ
  have C3 : Hid (∀ W, IsLog W base b g → Calls Try.prog 44 #[.pointer (some ⟨b, 0, none⟩), .int .i64 (g.len + (g.wait ++ Wi.frmS (⟨#[109]⟩ ++ r)).size : Nat), .string r] W fun e w' => e = .returned (.tuple #[]) ∧ IsLog w' base b (comL g r) ∧ W.grownBy w' (some b)) := fun W hW => mark_any base b g _ r W hW hl
  have C4 : Hid (∀ W, IsLog W base b g → Calls Try.prog 12 #[.pointer (some ⟨b, 0, none⟩)] W fun e w' => e = .returned (.int .i64 g.wait.size) ∧ IsLog w' base b (dropG g) ∧ LT base b W w') := fun W hW => drop_any base b g W hW hcm hl (by omega)
  have hb0 : base ≤ b := h.1
  have z1 : ((g.wait ++ Wi.frmS (⟨#[109]⟩ ++ r)).size : Int) ≤ 1000000 := by omega
  have z2 : (g.len : Int) ≤ 1000000000 := by omega
  clear h hd hdd hS hr hw hl hf hfs hP hZ hcm
  unfold comX
  generalize g.wait ++ Wi.frmS (⟨#[109]⟩ ++ r) = S at *
  generalize putD xt k S = k2 at *
  by_cases hq : putQ xt k S = 0
  · rw [if_pos hq]
    rw [hq] at C2 ⊢
    clear C4 hq
    generalize comL g r = g2 at *
    have iw : IntKind.i64.wrap ((g.len : Int) + (S.size : Int)) = ((g.len + S.size : Nat) : Int) := by rw [IntKind.wrap_i64]; omega
    have iw2 : (g.len : Int) + (S.size : Int) = ((g.len + S.size : Nat) : Int) := by omega
    have IW2 := hid iw2
    clear iw2 hsz hn
    go_enter Try.func13, Try.ntmps13
    go_wp2_with (first
      | (go_at_call 42; refine C1.out.mono ?_; rintro e w1 ⟨rfl, g1⟩; have G1 := hid g1; clear g1 C1)
      | (go_at_call 43; refine (C2.out _ G1.out).mono ?_; rintro e w2 ⟨rfl, h2, d2, t2⟩; have L2 := hid h2; have D2 := hid d2; have T2 := hid (Low.trans (Low.of_none G1.out) t2); obtain ⟨_, vr1, vw1, hb1, _, _⟩ := L2.out; have e3 := hb1.g7.1.2.2.2.1; clear hb1 h2 d2 t2 C2)
      | (go_at_call 44; (refine calls_at (args := #[.pointer (some ⟨b, 0, none⟩), .int .i64 (g.len + S.size : Nat), .string r]) (by rw [← IW2.out]) ?_; refine (C3.out _ L2.out).mono ?_; rintro e w3 ⟨rfl, h3, g3⟩; have L3 := hid h3; obtain ⟨cs2, hb2⟩ := L2.out.blk; have D3 := hid (IsDisk.keptL D2.out hb2 (LT.of_self (base := base) g3 hb0)); have T3 := hid (Low.trans T2.out (Low.of_lt (LT.of_self (base := base) g3 hb0) ⟨_, hb2⟩)); clear h3 g3 hb2 C3)))
    go_ret
    exact ⟨rfl, L3.out, D3.out, T3.out⟩
  · rw [if_neg hq]
    clear C3
    generalize putQ xt k S = q at *
    generalize dropG g = g2 at *
    have h1 : ((q : Int) == 0) = false := by simp; exact hq
    have h2 : ((q : Int) != 0) = true := by simp; exact hq
    clear hq hsz hn
    go_enter Try.func13, Try.ntmps13
    go_wp2_with (first
      | (go_at_call 42; refine C1.out.mono ?_; rintro e w1 ⟨rfl, g1⟩; have G1 := hid g1; clear g1 C1)
      | (go_at_call 43; refine (C2.out _ G1.out).mono ?_; rintro e w2 ⟨rfl, h2, d2, t2⟩; have L2 := hid h2; have D2 := hid d2; have T2 := hid (Low.trans (Low.of_none G1.out) t2); clear h2 d2 t2 C2)
      | (go_at_call 12; refine (C4.out _ L2.out).mono ?_; rintro e w3 ⟨rfl, h3, t3⟩; have L3 := hid h3; obtain ⟨cs2, hb2⟩ := L2.out.blk; have D3 := hid (IsDisk.keptL D2.out hb2 t3); have T3 := hid (Low.trans T2.out (Low.of_lt t3 ⟨_, hb2⟩)); clear h3 t3 hb2 C4))
    go_ret
    exact ⟨rfl, L3.out, D3.out, T3.out⟩
end Go.Proofs.Ytddnjlnnkeiplaa.X
namespace Go.Proofs.Ytddnjlnnkeiplaa.Wi
open Go.RowKit
set_option maxRecDepth 100000 in
set_option maxHeartbeats 400000 in
theorem refUnframe_bad (s : ByteArray) (p : Nat) (w : World) (hs : s.size ≤ 4500) (hp : p ≤ s.size) (hF : unF s p ≠ 0) : Calls Try.prog 29 #[.string s, .int .i64 p] w fun e w' => e = .returned (.tuple #[.string ⟨#[]⟩, .int .i64 0, .int .i64 (unF s p : Nat)]) ∧ w.grownBy w' none := by
  have hR : (unR s p).size ≤ 4500 := by unfold unR; rw [ByteArray.size_extract]; omega
  have hrm := un_room s p
  have CT : Hid (∀ w, Calls Try.prog 55 #[.agg #[.string (s.extract p s.size), .int .i64 0, .int .i64 0], .int .i64 2147483647] w fun r w' => r = .returned (.tuple #[.agg #[.string (unS s p), .int .i64 (unA s p : Nat), .int .i64 (unE s p : Nat)], .string (unT s p)]) ∧ w.grownBy w' none) := fun w => refTxt_any (unR s p) 0 0 2147483647 w (fun h => absurd rfl h) (by omega) (by omega)
  have hSh : Shut (unS s p) (unE s p) := take_shut _ _ _ (cnt_shut _ _ _ (fun h => absurd rfl h))
  have CN : Hid (∀ w, Calls Try.prog 56 #[.agg #[.string (unS s p), .int .i64 (unA s p : Nat), .int .i64 (unE s p : Nat)], .int .i64 4] w fun r w' => r = .returned (.tuple #[.agg #[.string (takeS (unS s p) (unE s p) 4), .int .i64 (unB s p : Nat), .int .i64 (unF s p : Nat)], .int .u64 (unN s p : Nat)]) ∧ w.grownBy w' none) := fun w => refNum_any _ _ _ 4 w hSh (by omega) (by omega)
  clear hSh
  generalize unF s p = F at *
  generalize unB s p = B at *
  generalize unN s p = N at *
  generalize unT s p = T at *
  generalize takeS (unS s p) (unE s p) 4 = Z at *
  generalize unS s p = S at *
  generalize unA s p = A at *
  generalize unE s p = E at *
  have s0 : (s.size : Int) ≤ 4500 := by omega
  have p0 : (0 : Int) ≤ (p : Int) := by omega
  have p1 : (p : Int) ≤ (s.size : Int) := by omega
  have hF' : ((F : Int) != 0) = true := by rw [bne_iff_ne]; omega
  clear hs hp hR hrm hF
  go_enter Try.func29, Try.ntmps29
  go_wp2_with (first | (go_at_call 55; refine (CT.out _).mono ?_; clear CT; rintro e w1 ⟨rfl, hg1⟩; have G1 : Hid (w.grownBy w1 none) := hg1; clear hg1) | (go_at_call 56; refine (CN.out _).mono ?_; clear CN; rintro e w2 ⟨rfl, hg2⟩; have B2 : Hid (Blk w2 w1.heap.size 93 (rd S A E)) := (Blk.new w1 _ _).kept hg2 (fun h => by cases h); have G2 : Hid (w.grownBy w2 none) := grown_none (grown_alloc G1.out _) hg2; clear hg2) | (refine q_is_store 93 (.tmp 7) (.tmp 29) rfl ?_; refine store_rd w1.heap.size B2.out _ _ rfl rfl rfl rfl ?_; intro w3 hb3 hg3; have B3 : Hid (Blk w3 w1.heap.size 93 (rd Z B F)) := hb3; have G3 : Hid (w.grownBy w3 none) := grown_through G2.out hg3 G1.out.size; have z2 := hb3.rd2; clear hb3 hg3 B2))
  go_region
  go_wp2_with fail
  exact bodyPost_ret (results_tri Try.results29 _ _ _) rfl ⟨rfl, grown_drew G3.out⟩
set_option maxRecDepth 100000 in
set_option maxHeartbeats 400000 in
theorem refUnframe_in (s : ByteArray) (p : Nat) (w : World) (hs : s.size ≤ 4500) (hp : p ≤ s.size) (hF : unF s p = 0) (hT : (unT s p).size ≤ 4500) (V : ByteArray) (x y : Nat) (hV : (unN s p = adl (numS (unT s p).size 4 ++ unT s p) ∧ V = unT s p ∧ x = p + (unT s p).size + 8 ∧ y = 0) ∨ (unN s p ≠ adl (numS (unT s p).size 4 ++ unT s p) ∧ V = ⟨#[]⟩ ∧ x = 0 ∧ y = 6)) : Calls Try.prog 29 #[.string s, .int .i64 p] w fun e w' => e = .returned (.tuple #[.string V, .int .i64 x, .int .i64 y]) ∧ w.grownBy w' none := by
  have hR : (unR s p).size ≤ 4500 := by unfold unR; rw [ByteArray.size_extract]; omega
  have hrm := un_room s p
  have CT : Hid (∀ w, Calls Try.prog 55 #[.agg #[.string (s.extract p s.size), .int .i64 0, .int .i64 0], .int .i64 2147483647] w fun r w' => r = .returned (.tuple #[.agg #[.string (unS s p), .int .i64 (unA s p : Nat), .int .i64 (unE s p : Nat)], .string (unT s p)]) ∧ w.grownBy w' none) := fun w => refTxt_any (unR s p) 0 0 2147483647 w (fun h => absurd rfl h) (by omega) (by omega)
  have hSh : Shut (unS s p) (unE s p) := take_shut _ _ _ (cnt_shut _ _ _ (fun h => absurd rfl h))
  have CN : Hid (∀ w, Calls Try.prog 56 #[.agg #[.string (unS s p), .int .i64 (unA s p : Nat), .int .i64 (unE s p : Nat)], .int .i64 4] w fun r w' => r = .returned (.tuple #[.agg #[.string (takeS (unS s p) (unE s p) 4), .int .i64 (unB s p : Nat), .int .i64 (unF s p : Nat)], .int .u64 (unN s p : Nat)]) ∧ w.grownBy w' none) := fun w => refNum_any _ _ _ 4 w hSh (by omega) (by omega)
  clear hSh
  have hNl := unN_lt s p
  have CX : Hid (∀ w, Calls Try.prog 52 #[.string (unT s p)] w fun e w' => e = .returned (.string (numS (unT s p).size 4 ++ unT s p)) ∧ w.grownBy w' none) := fun w => refText_any _ w (by omega)
  have CA : Hid (∀ w, Calls Try.prog 54 #[.string (numS (unT s p).size 4 ++ unT s p)] w fun e w' => e = .returned (.int .u32 (adl (numS (unT s p).size 4 ++ unT s p) : Nat)) ∧ w' = w) := fun w => refAdler_any _ w (by rw [ByteArray.size_append, numS_size]; omega)
  have hcl := adl_lt (numS (unT s p).size 4 ++ unT s p)
  generalize adl (numS (unT s p).size 4 ++ unT s p) = c at *
  generalize numS (unT s p).size 4 ++ unT s p = X at *
  rw [hF] at CN
  clear hF
  generalize unB s p = B at *
  generalize unN s p = N at *
  generalize unT s p = T at *
  generalize takeS (unS s p) (unE s p) 4 = Z at *
  generalize unS s p = S at *
  generalize unA s p = A at *
  generalize unE s p = E at *
  have s0 : (s.size : Int) ≤ 4500 := by omega
  have p0 : (0 : Int) ≤ (p : Int) := by omega
  have p1 : (p : Int) ≤ (s.size : Int) := by omega
  have t1 : (T.size : Int) ≤ 4500 := by omega
  have t0 : (0 : Int) ≤ (T.size : Int) := by omega
  have i3 : IntKind.u64.wrap (c : Int) = (c : Int) := by rw [IntKind.wrap_u64]; omega
  clear hs hp hR hrm hNl hcl hT
  rcases hV with ⟨e1, rfl, rfl, rfl⟩ | ⟨e1, rfl, rfl, rfl⟩
  · have e2 : ((N : Int) == (c : Int)) = true := by rw [e1]; simp
    have e3 : ((N : Int) != (c : Int)) = false := by rw [bne, e2]; rfl
    clear e1 e2
    go_enter Try.func29, Try.ntmps29
    go_wp2_with (first | (go_at_call 54; refine (CA.out _).mono ?_; rintro e w' ⟨rfl, hw⟩; have hw2 := hw.symm; clear hw; subst hw2) | (go_at_call 52; refine (CX.out _).mono ?_; clear CX; rintro e w4 ⟨rfl, hg4⟩; have G4 : Hid (w.grownBy w4 none) := grown_none G3.out hg4; clear hg4) | (go_at_call 55; refine (CT.out _).mono ?_; clear CT; rintro e w1 ⟨rfl, hg1⟩; have G1 : Hid (w.grownBy w1 none) := hg1; clear hg1) | (go_at_call 56; refine (CN.out _).mono ?_; clear CN; rintro e w2 ⟨rfl, hg2⟩; have B2 : Hid (Blk w2 w1.heap.size 93 (rd S A E)) := (Blk.new w1 _ _).kept hg2 (fun h => by cases h); have G2 : Hid (w.grownBy w2 none) := grown_none (grown_alloc G1.out _) hg2; clear hg2) | (refine q_is_store 93 (.tmp 7) (.tmp 29) rfl ?_; refine store_rd w1.heap.size B2.out _ _ rfl rfl rfl rfl ?_; intro w3 hb3 hg3; have B3 : Hid (Blk w3 w1.heap.size 93 (rd Z B 0)) := hb3; have G3 : Hid (w.grownBy w3 none) := grown_through G2.out hg3 G1.out.size; have z2 := hb3.rd2; clear hb3 hg3 B2))
    exact bodyPost_ret (results_tri Try.results29 _ _ _) rfl ⟨rfl, G4.out⟩
  · have e2 : ((N : Int) == (c : Int)) = false := by simp; omega
    have e3 : ((N : Int) != (c : Int)) = true := by rw [bne, e2]; rfl
    clear e1 e2
    go_enter Try.func29, Try.ntmps29
    go_wp2_with (first | (go_at_call 54; refine (CA.out _).mono ?_; rintro e w' ⟨rfl, hw⟩; have hw2 := hw.symm; clear hw; subst hw2) | (go_at_call 52; refine (CX.out _).mono ?_; clear CX; rintro e w4 ⟨rfl, hg4⟩; have G4 : Hid (w.grownBy w4 none) := grown_none G3.out hg4; clear hg4) | (go_at_call 55; refine (CT.out _).mono ?_; clear CT; rintro e w1 ⟨rfl, hg1⟩; have G1 : Hid (w.grownBy w1 none) := hg1; clear hg1) | (go_at_call 56; refine (CN.out _).mono ?_; clear CN; rintro e w2 ⟨rfl, hg2⟩; have B2 : Hid (Blk w2 w1.heap.size 93 (rd S A E)) := (Blk.new w1 _ _).kept hg2 (fun h => by cases h); have G2 : Hid (w.grownBy w2 none) := grown_none (grown_alloc G1.out _) hg2; clear hg2) | (refine q_is_store 93 (.tmp 7) (.tmp 29) rfl ?_; refine store_rd w1.heap.size B2.out _ _ rfl rfl rfl rfl ?_; intro w3 hb3 hg3; have B3 : Hid (Blk w3 w1.heap.size 93 (rd Z B 0)) := hb3; have G3 : Hid (w.grownBy w3 none) := grown_through G2.out hg3 G1.out.size; have z2 := hb3.rd2; clear hb3 hg3 B2))
    exact bodyPost_ret (results_tri Try.results29 _ _ _) rfl ⟨rfl, G4.out⟩
end Go.Proofs.Ytddnjlnnkeiplaa.Wi
