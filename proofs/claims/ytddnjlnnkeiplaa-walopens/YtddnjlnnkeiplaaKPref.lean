/-
  put and Commit, on a disk with no plan or one fall. Frames that stand one behind the other; what is cut off behind the last marker changes nothing.
-/
import Derived.Test.YtddnjlnnkeiplaaKXQ
import Derived.Test.YtddnjlnnkeiplaaKMdl
namespace Go.Proofs.Ytddnjlnnkeiplaa.X
open Go.RowKit Go.Maps
/-- A change that answers 0 was done. -/
theorem ansQ_zero {pl : Option Fa} {k : Dk} {c : Chg} (h : ansQ pl k c = 0) : ansF k c = 0 ∧ strikesB pl k = false := by
  unfold ansQ at h
  by_cases h0 : ansF k c = 0
  · rw [if_pos h0] at h
    cases hs : strikesB pl k with
    | true => rw [hs] at h; cases h
    | false => exact ⟨h0, rfl⟩
  · rw [if_neg h0] at h
    exact absurd h h0
theorem nextQ_zero {pl : Option Fa} {k : Dk} {c : Chg} {L : Nat → OkChg} (h : ansQ pl k c = 0) : nextQ pl k c L = stepD k c ∧ planQ pl k c = pl := by
  obtain ⟨h0, hs⟩ := ansQ_zero h
  refine ⟨?_, ?_⟩
  · unfold nextQ
    rw [if_pos h0]
    cases pl with
    | none => rfl
    | some f =>
      have : ¬ f.at_ = (k.changes : Int) := of_decide_eq_false hs
      exact if_neg this
  · unfold planQ
    rw [hs, if_neg (fun h => by cases h.2)]
theorem ansF_dead {k : Dk} {c : Chg} (h : ansF k c = 0) : k.dead = false := by
  unfold ansF at h
  cases hd : k.dead with
  | true => rw [hd] at h; cases h
  | false => rfl
/-- The disk behind put. -/
def putK (pl : Option Fa) (k : Dk) (s : ByteArray) (L : Nat → OkChg) : Dk := if ansQ pl k (putC s) = 0 then syncD (stepD k (putC s)) else nextQ pl k (putC s) L
set_option maxRecDepth 100000 in
set_option maxHeartbeats 1000000 in
theorem put_q (base b gp : Nat) (rm : Int) (g : Lg) (k : Dk) (pl : Option Fa) (s : ByteArray) (L : Nat → OkChg) (w : World) (h : IsLog w base b g) (hd : IsP w base g.d gp false rm k pl) (hbd : base ≤ g.d) (hA : Able k L) (hs : s.size ≤ 1000000) (hf : Fits (doF k.now (putC s)) 1000000) :
    Calls Try.prog 43 #[.pointer (some ⟨b, 0, none⟩), .string s] w fun e w' => e = .returned (.int .i64 (ansQ pl k (putC s) : Nat)) ∧ IsLog w' base b g ∧ IsP w' base g.d gp false rm (putK pl k s L) (planQ pl k (putC s)) ∧ LowP base gp w w' := by
  have CA0 := append_q base g.d gp rm k pl ⟨#[108, 111, 103]⟩ s L w hd hA (fine_put s hs)
  change Calls Try.prog 62 _ w (OpQ base g.d gp rm pl k (putC s) L w) at CA0
  have HL := hid h
  obtain ⟨cd, hcd⟩ := hd.blk
  have BD := hid hcd
  obtain ⟨_, vr, vw, hb, _, _⟩ := h
  have c0 := hb.g7.1.1
  clear hb hcd hs hA
  by_cases hq : ansQ pl k (putC s) = 0
  · obtain ⟨en, ep⟩ := nextQ_zero (L := L) hq
    have hdd := ansF_dead (ansQ_zero hq).1
    have eD : putK pl k s L = syncD (stepD k (putC s)) := by unfold putK; rw [if_pos hq]
    have CA : Hid (Calls Try.prog 62 #[.pointer (some ⟨g.d, 0, none⟩), .string ⟨#[108, 111, 103]⟩, .string s] w fun e w' => e = .returned (.int .i64 0) ∧ IsP w' base g.d gp false rm (stepD k (putC s)) pl ∧ TendP base g.d gp w w') := CA0.mono (fun e w' ⟨h1, h2, h3⟩ => by
      rw [hq] at h1
      rw [en, ep] at h2
      exact ⟨h1, h2, h3⟩)
    have CS : Hid (∀ W, IsP W base g.d gp false rm (stepD k (putC s)) pl → Calls Try.prog 31 #[.pointer (some ⟨g.d, 0, none⟩)] W fun e w' => e = .returned (.int .i64 0) ∧ IsP w' base g.d gp false rm (syncD (stepD k (putC s))) pl ∧ W.grownBy w' (some g.d)) := fun W hW => sync_q base g.d gp rm _ pl W hW hdd hf
    rw [hq, eD, ep]
    clear CA0 en ep eD hq hdd hd hf
    generalize stepD k (putC s) = k1 at *
    generalize syncD k1 = k2 at *
    go_enter Try.func43, Try.ntmps43
    go_wp2_with (first
      | (go_at_call 62; refine CA.out.mono ?_; rintro e w1 ⟨rfl, h1, t1⟩; have D1 := hid h1; have L1 := hid (log_keptP HL.out BD.out t1); have T1 := hid (LowP.of_tendP t1 ⟨_, BD.out⟩); obtain ⟨_, vr1, vw1, hb1, _, _⟩ := L1.out; have e0 := hb1.g7.1.1; clear hb1 h1 t1 CA)
      | (go_at_call 31; refine (CS.out _ D1.out).mono ?_; rintro e w2 ⟨rfl, h2, g2⟩; have D2 := hid h2; obtain ⟨cd1, hcd1⟩ := D1.out.blk; have L2 := hid (L1.out.keptD hcd1 (Tend.of_self (base := base) g2 hbd)); have T2 := hid (LowP.trans T1.out (LowP.of_low (Low.of_tend (Tend.of_self (base := base) g2 hbd) ⟨_, hcd1⟩))); clear h2 g2 CS hcd1))
    go_ret
    exact ⟨rfl, L2.out, D2.out, T2.out⟩
  · have eD : putK pl k s L = nextQ pl k (putC s) L := by unfold putK; rw [if_neg hq]
    rw [eD]
    have CA : Hid (Calls Try.prog 62 #[.pointer (some ⟨g.d, 0, none⟩), .string ⟨#[108, 111, 103]⟩, .string s] w fun e w' => e = .returned (.int .i64 (ansQ pl k (putC s) : Nat)) ∧ IsP w' base g.d gp false rm (nextQ pl k (putC s) L) (planQ pl k (putC s)) ∧ TendP base g.d gp w w') := CA0.mono (fun e w' hx => hx)
    clear CA0 eD hd hf
    generalize ansQ pl k (putC s) = q at *
    generalize nextQ pl k (putC s) L = k1 at *
    generalize planQ pl k (putC s) = p1 at *
    have h1 : ((q : Int) == 0) = false := by simp; exact hq
    have h2 : ((q : Int) != 0) = true := by simp; exact hq
    clear hq
    go_enter Try.func43, Try.ntmps43
    go_wp2_with (go_at_call 62; refine CA.out.mono ?_; rintro e w1 ⟨rfl, d1, t1⟩; have D1 := hid d1; have L1 := hid (log_keptP HL.out BD.out t1); have T1 := hid (LowP.of_tendP t1 ⟨_, BD.out⟩); clear d1 t1 CA)
    go_ret
    exact ⟨rfl, L1.out, D1.out, T1.out⟩
/-- The log behind a Commit. -/
def comQ (pl : Option Fa) (k : Dk) (g : Lg) (r : ByteArray) : Lg := if ansQ pl k (putC (g.wait ++ Wi.frmS (⟨#[109]⟩ ++ r))) = 0 then comL g r else dropG g
set_option maxRecDepth 100000 in
set_option maxHeartbeats 1000000 in
theorem commit_q (base b gp : Nat) (rm : Int) (g : Lg) (k : Dk) (pl : Option Fa) (r : ByteArray) (L : Nat → OkChg) (w : World) (h : IsLog w base b g) (hd : IsP w base g.d gp false rm k pl) (hbd : base ≤ g.d) (hA : Able k L) (hr : r.size ≤ 3900) (hw : g.wait.size ≤ 900000) (hl : g.recs.length ≤ 1000000) (hcm : g.com ≤ g.recs.length) (hn : g.len ≤ 1000000000)
    (hf : Fits (doF k.now (putC (g.wait ++ Wi.frmS (⟨#[109]⟩ ++ r)))) 1000000) :
    Calls Try.prog 13 #[.pointer (some ⟨b, 0, none⟩), .string r] w fun e w' => e = .returned (.int .i64 (ansQ pl k (putC (g.wait ++ Wi.frmS (⟨#[109]⟩ ++ r))) : Nat)) ∧ IsLog w' base b (comQ pl k g r) ∧ IsP w' base g.d gp false rm (putK pl k (g.wait ++ Wi.frmS (⟨#[109]⟩ ++ r)) L) (planQ pl k (putC (g.wait ++ Wi.frmS (⟨#[109]⟩ ++ r)))) ∧ LowP base gp w w' := by
  have hfs : (Wi.frmS (⟨#[109]⟩ ++ r)).size ≤ 5000 := by rw [Wi.frmS_size, ByteArray.size_append]; show 1 + r.size + 8 ≤ _; omega
  have hsz : (g.wait ++ Wi.frmS (⟨#[109]⟩ ++ r)).size ≤ 1000000 := by rw [ByteArray.size_append]; omega
  have C1 := hid (sealed_any base b g r w h (by omega) hr)
  have C2 : Hid (∀ W, w.grownBy W none → Calls Try.prog 43 #[.pointer (some ⟨b, 0, none⟩), .string (g.wait ++ Wi.frmS (⟨#[109]⟩ ++ r))] W fun e w' => e = .returned (.int .i64 (ansQ pl k (putC (g.wait ++ Wi.frmS (⟨#[109]⟩ ++ r))) : Nat)) ∧ IsLog w' base b g ∧ IsP w' base g.d gp false rm (putK pl k (g.wait ++ Wi.frmS (⟨#[109]⟩ ++ r)) L) (planQ pl k (putC (g.wait ++ Wi.frmS (⟨#[109]⟩ ++ r)))) ∧ LowP base gp W w') := fun W hW => put_q base b gp rm g k pl _ L W (h.kept hW) (hd.kept hW) hbd hA hsz hf
  have C3 : Hid (∀ W, IsLog W base b g → Calls Try.prog 44 #[.pointer (some ⟨b, 0, none⟩), .int .i64 (g.len + (g.wait ++ Wi.frmS (⟨#[109]⟩ ++ r)).size : Nat), .string r] W fun e w' => e = .returned (.tuple #[]) ∧ IsLog w' base b (comL g r) ∧ W.grownBy w' (some b)) := fun W hW => mark_any base b g _ r W hW hl
  have C4 : Hid (∀ W, IsLog W base b g → Calls Try.prog 12 #[.pointer (some ⟨b, 0, none⟩)] W fun e w' => e = .returned (.int .i64 g.wait.size) ∧ IsLog w' base b (dropG g) ∧ LT base b W w') := fun W hW => drop_any base b g W hW hcm hl (by omega)
  have hb0 : base ≤ b := h.1
  have z1 : ((g.wait ++ Wi.frmS (⟨#[109]⟩ ++ r)).size : Int) ≤ 1000000 := by omega
  have z2 : (g.len : Int) ≤ 1000000000 := by omega
  clear h hd hA hr hw hl hf hfs hcm hbd
  unfold comQ
  generalize g.wait ++ Wi.frmS (⟨#[109]⟩ ++ r) = S at *
  generalize putK pl k S L = k2 at *
  generalize planQ pl k (putC S) = p2 at *
  by_cases hq : ansQ pl k (putC S) = 0
  · rw [if_pos hq]
    rw [hq] at C2 ⊢
    clear C4 hq
    generalize comL g r = g2 at *
    have iw : IntKind.i64.wrap ((g.len : Int) + (S.size : Int)) = ((g.len + S.size : Nat) : Int) := by rw [IntKind.wrap_i64]; omega
    have iw2 : (g.len : Int) + (S.size : Int) = ((g.len + S.size : Nat) : Int) := by omega
    have IW2 := hid iw2
    clear iw2 hsz hn
    go_enter Try.func13, Try.ntmps13
    go_wp2_with (first
      | (go_at_call 42; refine C1.out.mono ?_; rintro e w1 ⟨rfl, g1⟩; have G1 := hid g1; clear g1 C1)
      | (go_at_call 43; refine (C2.out _ G1.out).mono ?_; rintro e w2 ⟨rfl, h2, d2, t2⟩; have L2 := hid h2; have D2 := hid d2; have T2 := hid (LowP.trans (LowP.of_low (Low.of_none G1.out)) t2); obtain ⟨_, vr1, vw1, hb1, _, _⟩ := L2.out; have e3 := hb1.g7.1.2.2.2.1; clear hb1 h2 d2 t2 C2)
      | (go_at_call 44; (refine calls_at (args := #[.pointer (some ⟨b, 0, none⟩), .int .i64 (g.len + S.size : Nat), .string r]) (by rw [← IW2.out]) ?_; refine (C3.out _ L2.out).mono ?_; rintro e w3 ⟨rfl, h3, g3⟩; have L3 := hid h3; obtain ⟨cs2, hb2⟩ := L2.out.blk; have D3 := hid (IsP.log D2.out hb2 (LT.of_self (base := base) g3 hb0)); have T3 := hid (LowP.trans T2.out (LowP.of_low (Low.of_lt (LT.of_self (base := base) g3 hb0) ⟨_, hb2⟩))); clear h3 g3 hb2 C3)))
    go_ret
    exact ⟨rfl, L3.out, D3.out, T3.out⟩
  · rw [if_neg hq]
    clear C3
    generalize ansQ pl k (putC S) = q at *
    generalize dropG g = g2 at *
    have h1 : ((q : Int) == 0) = false := by simp; exact hq
    have h2 : ((q : Int) != 0) = true := by simp; exact hq
    clear hq hsz hn
    go_enter Try.func13, Try.ntmps13
    go_wp2_with (first
      | (go_at_call 42; refine C1.out.mono ?_; rintro e w1 ⟨rfl, g1⟩; have G1 := hid g1; clear g1 C1)
      | (go_at_call 43; refine (C2.out _ G1.out).mono ?_; rintro e w2 ⟨rfl, h2, d2, t2⟩; have L2 := hid h2; have D2 := hid d2; have T2 := hid (LowP.trans (LowP.of_low (Low.of_none G1.out)) t2); clear h2 d2 t2 C2)
      | (go_at_call 12; refine (C4.out _ L2.out).mono ?_; rintro e w3 ⟨rfl, h3, t3⟩; have L3 := hid h3; obtain ⟨cs2, hb2⟩ := L2.out.blk; have D3 := hid (IsP.log D2.out hb2 t3); have T3 := hid (LowP.trans T2.out (LowP.of_low (Low.of_lt t3 ⟨_, hb2⟩))); clear h3 t3 hb2 C4))
    go_ret
    exact ⟨rfl, L3.out, D3.out, T3.out⟩
end Go.Proofs.Ytddnjlnnkeiplaa.X
namespace Go.Proofs.Ytddnjlnnkeiplaa
open Go.RowKit Go.Maps
theorem ext_ext (s : ByteArray) (p n : Nat) : (((s.extract p s.size).extract 4 (s.extract p s.size).size).extract n ((s.extract p s.size).extract 4 (s.extract p s.size).size).size) = s.extract (p + (4 + n)) s.size := by
  apply bytes_ext
  simp only [Wi.ext_list]
  have e1 : ∀ t : ByteArray, t.data.toList.take t.size = t.data.toList := fun t => List.take_of_length_le (by rw [Wi.bytes_len]; exact Nat.le_refl _)
  have e2 : ∀ (l : List UInt8) (n m : Nat), l.length ≤ m → (l.take m).drop n = l.drop n := fun l n m h => by rw [List.take_of_length_le h]
  rw [e1]
  rw [e2 (List.drop p s.data.toList) 4 _ (by rw [List.length_drop, Wi.bytes_len, ByteArray.size_extract]; omega)]
  rw [e2 _ n _ (by simp only [List.length_drop, Wi.bytes_len, ByteArray.size_extract]; omega)]
  rw [List.drop_drop, List.drop_drop]
theorem un_eq2 (s : ByteArray) (p : Nat) (hF : Wi.unF s p = 0) : Wi.unS s p = s.extract (p + Wi.unA s p) s.size ∧ 4 ≤ (Wi.unS s p).size := by
  obtain ⟨f1, f2⟩ := Wi.takeE_zero _ _ _ hF
  obtain ⟨f3, f4⟩ := Wi.takeE_zero _ _ _ f2
  obtain ⟨f5, f6⟩ := Wi.failE_zero _ _ f4
  obtain ⟨f7, -⟩ := Wi.takeE_zero _ _ _ f5
  have g2 : Wi.cntS (Wi.unR s p) 0 2147483647 = (Wi.unR s p).extract 4 (Wi.unR s p).size := by
    unfold Wi.cntS
    rw [f5, f6]
    unfold Wi.failS Wi.takeS
    rw [if_pos (Or.inl rfl), if_neg (by omega)]
  have g7 : Wi.unA s p = 4 + Wi.cntN (Wi.unR s p) 0 2147483647 := by
    unfold Wi.unA Wi.txtA Wi.takeA
    rw [if_neg (by omega), if_neg (by omega)]
  refine ⟨?_, f1⟩
  have g8 : Wi.unS s p = (Wi.cntS (Wi.unR s p) 0 2147483647).extract (Wi.cntN (Wi.unR s p) 0 2147483647) (Wi.cntS (Wi.unR s p) 0 2147483647).size := by
    unfold Wi.unS Wi.txtS Wi.takeS
    rw [if_neg (by omega)]
  rw [g8, g2, g7]
  generalize Wi.cntN (Wi.unR s p) 0 2147483647 = n
  unfold Wi.unR
  exact ext_ext s p n
theorem un_split (s : ByteArray) (p : Nat) (hp : p ≤ s.size) (h : okU s p = true) : ∃ Q, s = s.extract 0 p ++ (Wi.frmS (Wi.unT s p) ++ Q) := by
  obtain ⟨h1, h2⟩ := (okU_iff s p).1 h
  obtain ⟨e1, e2, e3⟩ := Wi.un_eq s p hp h1
  obtain ⟨e4, f1⟩ := un_eq2 s p h1
  have n0 : Wi.takeV (Wi.unS s p) 4 = (Wi.unS s p).extract 0 4 := by unfold Wi.takeV; rw [if_neg (by omega)]
  have n1 : ((Wi.unS s p).extract 0 4).size = 4 := by rw [ByteArray.size_extract]; omega
  have n4 : Wi.numS (Wi.unN s p) 4 = (Wi.unS s p).extract 0 4 := by
    unfold Wi.unN
    rw [n0, n1]
    exact Wi.numS_le _ 4 n1
  refine ⟨(Wi.unS s p).extract 4 (Wi.unS s p).size, ?_⟩
  unfold Wi.frmS
  rw [← h2, n4, ← e3]
  generalize hA : p + Wi.unA s p = A at *
  have hpA : p ≤ A := by omega
  clear h1 h2 e1 e2 e3 n0 n4 h
  have e6 : p + (A - p) = A := by omega
  clear hA
  rw [e4] at f1 n1 ⊢
  clear e4
  apply bytes_ext
  simp only [Wi.append_list, Wi.ext_list, List.drop_zero]
  have e1 : ∀ t : ByteArray, t.data.toList.take t.size = t.data.toList := fun t => List.take_of_length_le (by rw [Wi.bytes_len]; exact Nat.le_refl _)
  have e5 : ((s.data.toList.take s.size).drop A).take (s.extract A s.size).size = (s.data.toList.take s.size).drop A := List.take_of_length_le (by rw [e1, List.length_drop, Wi.bytes_len, ByteArray.size_extract]; omega)
  rw [e5, e1]
  generalize s.data.toList = S
  rw [List.append_assoc, List.take_append_drop]
  have : (S.take A).drop p ++ S.drop A = S.drop p := by
    rw [List.drop_take]
    have : S.drop A = (S.drop p).drop (A - p) := by rw [List.drop_drop, e6]
    rw [this, List.take_append_drop]
  rw [this, List.take_append_drop]
/-- A whole frame is whole in what is cut behind it. -/
theorem un_pre (s : ByteArray) (p m : Nat) (hs : s.size ≤ 4500) (hp : p ≤ s.size) (h : okU s p = true) (hm : unX s p ≤ m) : okU (s.extract 0 m) p = true ∧ Wi.unT (s.extract 0 m) p = Wi.unT s p := by
  obtain ⟨Q, hQ⟩ := un_split s p hp h
  have hT := Wi.unT_size s p
  have hx : unX s p = p + (Wi.unT s p).size + 8 := by unfold unX; rw [if_pos h]
  have hP : (s.extract 0 p).size = p := by rw [ByteArray.size_extract]; omega
  have hF := Wi.frmS_size (Wi.unT s p)
  rw [hx] at hm
  clear hx
  have ht : s.extract 0 m = s.extract 0 p ++ (Wi.frmS (Wi.unT s p) ++ Q.extract 0 (m - p - ((Wi.unT s p).size + 8))) := by
    clear h hT
    generalize Wi.unT s p = T at *
    generalize hP0 : s.extract 0 p = P at *
    have l1 : P.data.toList.length = p := by rw [Wi.bytes_len]; exact hP
    have l2 : (Wi.frmS T).data.toList.length = T.size + 8 := by rw [Wi.bytes_len]; exact hF
    have hS : s.data.toList = P.data.toList ++ ((Wi.frmS T).data.toList ++ Q.data.toList) := by
      have := congrArg (fun t : ByteArray => t.data.toList) hQ
      simpa only [Wi.append_list] using this
    clear hQ hP0
    apply bytes_ext
    simp only [Wi.append_list, Wi.ext_list, List.drop_zero]
    rw [hS, List.take_append, List.take_append, List.take_of_length_le (l := P.data.toList) (by omega), List.take_of_length_le (l := (Wi.frmS T).data.toList) (by omega), l1, l2]
  obtain ⟨a1, a2, a3⟩ := Wi.un_frame (s.extract 0 p) (Wi.unT s p) (Q.extract 0 (m - p - ((Wi.unT s p).size + 8))) (s.extract 0 m) p (by omega) ht hP.symm
  refine ⟨(okU_iff _ _).2 ⟨a2, ?_⟩, a1⟩
  rw [a1]
  exact a3
theorem step_pre (s : ByteArray) (p m : Nat) (g : Lg) (hs : s.size ≤ 4500) (hp : p ≤ s.size) (h : okU s p = true) (hm : unX s p ≤ m) : stepG (s.extract 0 m) p g = stepG s p g := by
  obtain ⟨h1, h2⟩ := un_pre s p m hs hp h hm
  have e1 : unV (s.extract 0 m) p = unV s p := by unfold unV; rw [if_pos h, if_pos h1, h2]
  have e2 : unX (s.extract 0 m) p = unX s p := by unfold unX; rw [if_pos h, if_pos h1, h2]
  unfold stepG
  rw [e1, e2]
theorem step_end (s : ByteArray) (g : Lg) : stepG s s.size g = none := by
  unfold stepG
  split
  · rfl
  · rename_i c r hv
    have := unX_le s s.size (Nat.le_refl _) (unV_ok hv)
    omega
theorem step_ok {s : ByteArray} {p x : Nat} {g g' : Lg} (h : stepG s p g = some (x, g')) : okU s p = true ∧ unX s p = x := by
  unfold stepG at h
  split at h
  · cases h
  · rename_i c r hv
    refine ⟨unV_ok hv, ?_⟩
    split at h
    · simp only [Option.some.injEq, Prod.mk.injEq] at h
      exact h.1
    · split at h
      · simp only [Option.some.injEq, Prod.mk.injEq] at h
        exact h.1
      · cases h
/-- A step is a record or a marker. -/
theorem step_two {s : ByteArray} {p x : Nat} {g g' : Lg} (h : stepG s p g = some (x, g')) : (∃ r, g' = { g with recs := g.recs ++ [(p, r)] }) ∨ ∃ r, g' = { g with com := g.recs.length, len := x, wait := ⟨#[]⟩, root := r, marked := true } := by
  have hx := (step_ok h).2
  unfold stepG at h
  split at h
  · cases h
  · rename_i c r hv
    rw [hx] at h
    split at h
    · simp only [Option.some.injEq, Prod.mk.injEq] at h
      exact Or.inl ⟨_, h.2.symm⟩
    · split at h
      · simp only [Option.some.injEq, Prod.mk.injEq] at h
        exact Or.inr ⟨_, h.2.symm⟩
      · cases h
theorem run_end (t : ByteArray) (f : Nat) (g : Lg) : runG t f t.size g = g := by
  cases f with
  | zero => rfl
  | succ f =>
    unfold runG
    rw [step_end]
/-- Either no marker follows, or what is cut behind the last one says the same. -/
def Cut (s : ByteArray) (p : Nat) (g F : Lg) : Prop :=
  (F.len = g.len ∧ F.com = g.com ∧ F.root = g.root ∧ F.marked = g.marked ∧ F.recs.take g.com = g.recs.take g.com ∧ F.d = g.d) ∨
  (p < F.len ∧ F.len ≤ s.size ∧ ∀ f', F.len + 1 - p ≤ f' → dropG (runG (s.extract 0 F.len) f' p g) = dropG F)
theorem ext_size (s : ByteArray) (m : Nat) (h : m ≤ s.size) : (s.extract 0 m).size = m := by rw [ByteArray.size_extract]; omega
theorem run_cut (s : ByteArray) (hs : s.size ≤ 4500) : ∀ (f p : Nat) (g : Lg), p ≤ s.size → g.com ≤ g.recs.length → Cut s p g (runG s f p g)
  | 0, p, g, hp, hc => Or.inl ⟨rfl, rfl, rfl, rfl, rfl, rfl⟩
  | f + 1, p, g, hp, hc => by
    unfold runG
    cases hq : stepG s p g with
    | none => exact Or.inl ⟨rfl, rfl, rfl, rfl, rfl, rfl⟩
    | some y =>
      obtain ⟨x, g'⟩ := y
      have hx := stepG_lt hp hq
      have hk := step_ok hq
      have h2 := step_two hq
      have hc' : g'.com ≤ g'.recs.length := by
        rcases h2 with ⟨r, rfl⟩ | ⟨r, rfl⟩
        · show g.com ≤ (g.recs ++ [_]).length
          rw [List.length_append]
          omega
        · exact Nat.le_refl g.recs.length
      have ih := run_cut s hs f x g' hx.2.1 hc'
      show Cut s p g (runG s f x g')
      generalize runG s f x g' = F at *
      rcases ih with ⟨i1, i2, i3, i4, i5, i6⟩ | ⟨i1, i2, i3⟩
      · rcases h2 with ⟨r, rfl⟩ | ⟨r, rfl⟩
        · refine Or.inl ⟨i1, i2, i3, i4, ?_, i6⟩
          rw [show ({ g with recs := g.recs ++ [(p, r)] } : Lg).com = g.com from rfl] at i5
          rw [i5]
          show (g.recs ++ [(p, r)]).take g.com = _
          rw [List.take_append_of_le_length hc]
        · have i1' : F.len = x := i1
          refine Or.inr ⟨by omega, by omega, fun f' hf' => ?_⟩
          obtain ⟨f'', rfl⟩ : ∃ f'', f' = f'' + 1 := ⟨f' - 1, by omega⟩
          unfold runG
          rw [step_pre s p F.len g hs hp hk.1 (by omega), hq]
          show dropG (runG (s.extract 0 F.len) f'' x _) = dropG F
          have hz := ext_size s F.len (by omega)
          have ez : x = (s.extract 0 F.len).size := by omega
          have er : ∀ G, runG (s.extract 0 F.len) f'' x G = G := fun G => by
            have := run_end (s.extract 0 F.len) f'' G
            rw [← ez] at this
            exact this
          rw [er]
          unfold dropG
          obtain ⟨a1, a2, a3, a4, a5, a6, a7⟩ := F
          simp only at i1 i2 i3 i4 i5 i6 ⊢
          subst i1 i2 i3 i4 i6
          rw [i5]
      · refine Or.inr ⟨by omega, i2, fun f' hf' => ?_⟩
        obtain ⟨f'', rfl⟩ : ∃ f'', f' = f'' + 1 := ⟨f' - 1, by omega⟩
        unfold runG
        rw [step_pre s p F.len g hs hp hk.1 (by omega), hq]
        exact i3 f'' (by omega)
/-- What is left behind an opening says the same again. -/
theorem load_again (s : ByteArray) (d : Nat) (hs : s.size ≤ 4500) : (loadG s d).len ≤ s.size ∧ loadG (s.extract 0 (loadG s d).len) d = loadG s d := by
  have h := run_cut s hs (s.size + 1) 0 (newL d) (Nat.zero_le _) (Nat.le_refl _)
  obtain ⟨F, hF⟩ : ∃ F, F = runG s (s.size + 1) 0 (newL d) := ⟨_, rfl⟩
  have eL : loadG s d = dropG F := by unfold loadG parseG; rw [hF]
  rw [← hF] at h
  rw [eL]
  clear hF eL
  show F.len ≤ s.size ∧ loadG (s.extract 0 F.len) d = dropG F
  rcases h with ⟨i1, i2, i3, i4, i5, i6⟩ | ⟨i1, i2, i3⟩
  · have hl : F.len = 0 := i1
    have hg : dropG F = newL d := by
      unfold dropG
      obtain ⟨a1, a2, a3, a4, a5, a6, a7⟩ := F
      simp only at i1 i2 i3 i4 i5 i6 ⊢
      subst i1 i2 i3 i4 i6
      rfl
    refine ⟨by omega, ?_⟩
    rw [hl, hg]
    have hz := ext_size s 0 (Nat.zero_le _)
    unfold loadG parseG
    have := run_end (s.extract 0 0) ((s.extract 0 0).size + 1) (newL d)
    rw [hz] at this ⊢
    rw [this]
    rfl
  · refine ⟨i2, ?_⟩
    have hz := ext_size s _ i2
    unfold loadG parseG
    exact i3 ((s.extract 0 F.len).size + 1) (by omega)
end Go.Proofs.Ytddnjlnnkeiplaa
