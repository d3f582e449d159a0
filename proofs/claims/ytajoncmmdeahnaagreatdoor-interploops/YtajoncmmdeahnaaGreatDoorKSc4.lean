/-
  The checker: a new one. check.Program: a program with its types, or the place of the first declaration that is rejected, and why. check.Program of any tree. The parser and the checker at texts that are written down: whole numbers, texts as lists. The closed text of cupellaw12's awake. CheckScopes: its texts, and what the parser and the checker tell of each. CheckScopes: the law's walk.
-/
import Derived.Test.YtajoncmmdeahnaaGreatDoorKCn6
import Derived.Carry
import Derived.Test.YtajoncmmdeahnaaGreatDoorKDPs
namespace Go.Proofs.YtajoncmmdeahnaaGreatDoor
open Go.RowKit
namespace Ck
theorem nc_start (w : World) (k t : Int) (s : ByteArray) (n : Int) (q : Value) : NcW w k t s n q (fun _ => none) (fun _ => none) 0 (((((w.alloc (.cells #[.int .i64 k, .int .i64 t, .string s, .int .i64 n, q] 27)).alloc (.map #[] 0)).alloc (.map #[] 0)).alloc (.map #[] 0)).alloc (.cells #[.map (some (w.heap.size + 1)), .map (some (w.heap.size + 1 + 1)), .slice none 0 0, .map (some (w.heap.size + 1 + 1 + 1)), .int .i64 0, .int .i64 0, .int .i64 0, .bool false, .int .i64 0] 101)) := by
  have m1 := Mp.MapR.made (w.alloc (.cells #[.int .i64 k, .int .i64 t, .string s, .int .i64 n, q] 27))
  have m2 := Mp.MapR.made ((w.alloc (.cells #[.int .i64 k, .int .i64 t, .string s, .int .i64 n, q] 27)).alloc (.map #[] 0))
  have m3 := Mp.MapR.made (((w.alloc (.cells #[.int .i64 k, .int .i64 t, .string s, .int .i64 n, q] 27)).alloc (.map #[] 0)).alloc (.map #[] 0))
  have bc := Blk.new ((((w.alloc (.cells #[.int .i64 k, .int .i64 t, .string s, .int .i64 n, q] 27)).alloc (.map #[] 0)).alloc (.map #[] 0)).alloc (.map #[] 0)) 101 #[.map (some (w.heap.size + 1)), .map (some (w.heap.size + 1 + 1)), .slice none 0 0, .map (some (w.heap.size + 1 + 1 + 1)), .int .i64 0, .int .i64 0, .int .i64 0, .bool false, .int .i64 0]
  simp only [World.size_alloc] at m1 m2 m3 bc
  have g1 : ∀ (W : World) (o : Obj), W.grownBy (W.alloc o) none := fun W o => grown_alloc (grown_refl W none) o
  refine ⟨grown_alloc (grown_alloc (grown_alloc (grown_alloc (g1 _ _) _) _) _) _, ((((Blk.new w 27 _).alloc _).alloc _).alloc _).alloc _, bc, ⟨_, ((m1.kept (g1 _ _) (by simp)).kept (g1 _ _) (by simp)).kept (g1 _ _) (by simp), fun _ => rfl⟩, ((m2.kept (g1 _ _) (by simp)).kept (g1 _ _) (by simp)).congr (fun _ => rfl), m3.kept (g1 _ _) (by simp)⟩
theorem fns_old (x : Nd) (r : List Nd) (F : Fn) (h : x.kind ≠ 3 ∨ (F x.txt).isSome = true) : fnsOf (x :: r) F = fnsOf r F := by
  show fnsOf r (if x.kind = 3 ∧ (F x.txt).isSome = false then Mp.upd F x.txt (sigOf x) else F) = _
  rw [if_neg (fun h2 => by
    rcases h with h | h
    · exact h h2.1
    · rw [h] at h2; cases h2.2)]
theorem fns_new (x : Nd) (r : List Nd) (F : Fn) (h : x.kind = 3) (h2 : F x.txt = none) : fnsOf (x :: r) F = fnsOf r (Mp.upd F x.txt (pOf x.kids, x.ty)) := by
  show fnsOf r (if x.kind = 3 ∧ (F x.txt).isSome = false then Mp.upd F x.txt (sigOf x) else F) = _
  rw [if_pos ⟨h, by rw [h2]; rfl⟩]
  rfl
theorem vars_old (x : Nd) (r : List Nd) (F : Fm) (h : x.kind ≠ 2 ∨ (F x.txt).isSome = true) : varsOf (x :: r) F = varsOf r F := by
  show varsOf r (if x.kind = 2 ∧ (F x.txt).isSome = false then Mp.upd F x.txt x.ty else F) = _
  rw [if_neg (fun h2 => by
    rcases h with h | h
    · exact h h2.1
    · rw [h] at h2; cases h2.2)]
theorem vars_new (x : Nd) (r : List Nd) (F : Fm) (h : x.kind = 2) (h2 : F x.txt = none) : varsOf (x :: r) F = varsOf r (Mp.upd F x.txt x.ty) := by
  show varsOf r (if x.kind = 2 ∧ (F x.txt).isSome = false then Mp.upd F x.txt x.ty else F) = _
  rw [if_pos ⟨h, by rw [h2]; rfl⟩]
set_option maxRecDepth 100000 in
set_option maxHeartbeats 4000000 in
theorem new_any (k t : Int) (s : ByteArray) (n : Int) (q : Value) (ks : List Nd) (P : Nat → Prop) (w : World) (hl : ks.length ≤ 255) (hs : ∀ x ∈ ks, x.txt.size ≤ 100 ∧ x.kids.length ≤ 255) (hks : KsV w P q ks) :
    Calls Tryz.prog 28 #[.agg #[.int .i64 k, .int .i64 t, .string s, .int .i64 n, q]] w fun e w' => e = .returned (.pointer (some ⟨w.heap.size + 4, 0, none⟩)) ∧ NcW w k t s n q (fnsOf ks fun _ => none) (varsOf ks fun _ => none) ks.length w' := by
  obtain ⟨p, c, rfl, _, _, _⟩ := hks.form
  have HK := hid hks
  have HS : Hid (∀ x ∈ ks, x.txt.size ≤ 100 ∧ x.kids.length ≤ 255) := hs
  obtain ⟨L, hL⟩ : ∃ L, ks.length = L := ⟨_, rfl⟩
  have HL : Hid (ks.length = L) := hL
  rw [hL] at hl
  have HK' : Hid (KsV w P (.slice p L c) ks) := by rw [← hL]; exact HK.out
  rw [hL]
  clear HK hL hks hs
  have i1 : (L : Int) ≤ 255 := by omega
  have hmm := @run_makeMap Tryz.prog
  go_enter Tryz.func28, Tryz.ntmps28
  go_wp2
  go_loopw [18] (fun i wr => ∃ (j : Nat) (F : Fn) (V : Fm), j ≤ L ∧ i = .int .i64 j ∧ NcW w k t s n (.slice p L c) F V j wr ∧ fnsOf ks (fun _ => none) = fnsOf (ks.drop j) F ∧ varsOf ks (fun _ => none) = varsOf (ks.drop j) V) (fun i _ => L - (intOf i).toNat)
  case atStart =>
    exact ⟨0, _, _, Nat.zero_le _, rfl, nc_start w k t s n (.slice p L c), rfl, rfl⟩
  case round =>
    obtain ⟨j, F, V, hj, rfl, hI, hF, hV⟩ := hrel
    have j0 : (0 : Int) ≤ j := by omega
    by_cases hlt : j < L
    · have j1 : (j : Int) < L := by omega
      have hjk : j < ks.length := by rw [HL.out]; exact hlt
      obtain ⟨g', hp, _, hat⟩ := (HK'.out.kept hI.g).at j hjk
      subst hp
      rw [List.drop_eq_getElem_cons hjk] at hF hV
      have hm := HS.out _ (List.getElem_mem hjk)
      obtain ⟨q, c0, c1, c2, c3, c4, hkq⟩ := hat.cells
      rw [Nat.mul_comm 5 j] at c0 c1 c2 c3 c4
      obtain ⟨p', cap', hq, _⟩ := hkq.form
      subst hq
      clear hat
      generalize ks[j] = x at *
      obtain ⟨kd, ty, tx, nm, kk⟩ := x
      simp only [Nd.kind, Nd.ty, Nd.txt, Nd.num, Nd.kids] at hm c0 c1 c2 c3 c4 hkq
      obtain ⟨m1, m2⟩ := hm
      have SZ : Hid (tx.size ≤ maxLen ∧ j < maxLen) := hid ⟨by unfold maxLen; omega, by unfold maxLen; omega⟩
      have NW := hid (hI.kept (grown_alloc (grown_refl wr none) (.cells #[.int .i64 kd, .int .i64 ty, .string tx, .int .i64 nm, .slice p' kk.length cap'] 27)))
      have BK := hid (Blk.new wr 27 #[.int .i64 kd, .int .i64 ty, .string tx, .int .i64 nm, .slice p' kk.length cap'])
      have QK := hid (hkq.kept (grown_alloc (grown_refl wr none) (.cells #[.int .i64 kd, .int .i64 ty, .string tx, .int .i64 nm, .slice p' kk.length cap'] 27)))
      have M2 := hid m2
      clear hkq m1 m2
      have hne : w.heap.size + 4 ≠ wr.heap.size := Nat.ne_of_lt hI.c.lt
      clear hI
      by_cases h2 : kd = 2
      · subst h2
        rw [fns_old (.mk 2 ty tx nm kk) _ _ (Or.inl (show (2 : Int) ≠ 3 by decide))] at hF
        have HF := hid hF
        clear hF
        have ND := hid (NW.out.kept (grown_drew (grown_refl _ none)))
        have L1 := ND.out.v.look Tryz.underlying99 (zero3 _) tx SZ.out.1
        have c11 := ND.out.c.cell 1
        simp at c11
        unfold iM at L1
        cases hv : V tx with
        | some a =>
          rw [vars_old (.mk 2 ty tx nm kk) _ _ (Or.inr (show (V tx).isSome = true by rw [hv]; rfl))] at hV
          have HV := hid hV
          rw [hv] at L1
          simp only [Option.map_some, Option.getD_some, Option.isSome_some] at L1
          clear hv hV
          go_wp2_with fail
          go_region
          all_goals
            go_wp2
            go_roundw
            case rel => exact ⟨j + 1, F, V, by omega, by go_num, ND.out.more, HF.out, HV.out⟩
            case measure => simp [intOf]; omega
        | none =>
          rw [vars_new (.mk 2 ty tx nm kk) _ _ rfl hv] at hV
          have HV := hid hV
          rw [hv] at L1
          simp only [Option.map_none, Option.getD_none, Option.isSome_none] at L1
          clear hv hV
          have NE := hid (ND.out.kept (grown_drew (grown_refl _ none)))
          obtain ⟨w1, hrun, hm, hg⟩ := NE.out.v.store Tryz.underlying99 SZ.out.2 tx SZ.out.1 (.int .i64 ty)
          have N1 := hid (NE.out.setV tx ty hg hm)
          have c12 := NE.out.c.cell 1
          simp at c12
          clear hm hg
          go_wp2_with fail
          go_region
          all_goals
            go_wp2_with fail
            go_region
            all_goals
              go_wp2
              go_roundw
              case rel => exact ⟨j + 1, F, _, by omega, by go_num, N1.out, HF.out, HV.out⟩
              case measure => simp [intOf]; omega
      · by_cases h3 : kd = 3
        · subst h3
          rw [vars_old (.mk 3 ty tx nm kk) _ _ (Or.inl (show (3 : Int) ≠ 2 by decide))] at hV
          have HV := hid hV
          clear hV h2
          have G1 := hid (grown_drew (grown_refl (wr.alloc (.cells #[.int .i64 3, .int .i64 ty, .string tx, .int .i64 nm, .slice p' kk.length cap'] 27)) none))
          have G2 := hid (grown_drew (grown_alloc (grown_refl (wr.alloc (.cells #[.int .i64 3, .int .i64 ty, .string tx, .int .i64 nm, .slice p' kk.length cap'] 27)) none) (.cells #[.slice none 0 0, .int .i64 0] 103)))
          obtain ⟨f, hm, hf⟩ := NW.out.f
          have h0 := hf tx
          have L1 := (hm.kept G1.out (by simp)).look Tryz.underlying98 (zero103 _) tx SZ.out.1
          have L2 := (hm.kept G2.out (by simp)).look Tryz.underlying98 (zero103 _) tx SZ.out.1
          have c10 := (NW.out.kept G1.out).c.cell 0
          have c20 := (NW.out.kept G2.out).c.cell 0
          simp at c10 c20
          have hnk : w.heap.size + 4 ≠ wr.heap.size + 1 := by
            have h := NW.out.c.lt
            rw [World.size_alloc] at h
            omega
          cases hv : F tx with
          | some z =>
            obtain ⟨ps, a⟩ := z
            rw [fns_old (.mk 3 ty tx nm kk) _ _ (Or.inr (show (F tx).isSome = true by rw [hv]; rfl))] at hF
            have HF := hid hF
            rw [hv] at h0
            obtain ⟨pa, cap, e0, _⟩ := h0
            rw [e0] at L1 L2
            simp only [Option.getD_some, Option.isSome_some] at L1 L2
            have N3 := hid (NW.out.kept (grown_drew (grown_alloc (grown_refl (wr.alloc (.cells #[.int .i64 3, .int .i64 ty, .string tx, .int .i64 nm, .slice p' kk.length cap'] 27)) none) (.cells #[.slice pa ps.length cap, .int .i64 a] 103))))
            clear hv hF hm hf e0
            go_wp2_with fail
            go_region_law (fail)
            all_goals
              go_wp2
              go_roundw
              case rel => exact ⟨j + 1, F, V, by omega, by go_num, N3.out.more, HF.out, HV.out⟩
              case measure => simp [intOf]; omega
          | none =>
            rw [fns_new (.mk 3 ty tx nm kk) _ _ rfl hv] at hF
            have HF := hid hF
            rw [hv] at h0
            simp only at h0
            rw [h0] at L1 L2
            simp only [Option.getD_none, Option.isSome_none] at L1 L2
            have N3 := hid (NW.out.kept G2.out)
            have B3 := hid (BK.out.kept G2.out (by simp))
            have Q3 := hid (QK.out.kept G2.out)
            clear hv hF hm hf h0
            go_wp2_with fail
            go_region_law (fail)
            all_goals
              clear L1 L2 c10 c20 G1
              generalize ((wr.alloc (.cells #[.int .i64 3, .int .i64 ty, .string tx, .int .i64 nm, .slice p' kk.length cap'] 27)).alloc (.cells #[.slice none 0 0, .int .i64 0] 103)).drew = W2 at *
              have D3 := hid (N3.out.kept (grown_drew (grown_refl W2 none)))
              have B4 := hid (B3.out.kept (grown_drew (grown_refl W2 none)) (by simp))
              have C53 := hid (sig_any 3 ty tx nm (.slice p' kk.length cap') kk P W2.drew M2.out (Q3.out.kept (grown_drew (grown_refl W2 none))))
              have c30 := D3.out.c.cell 0
              have y0 := B4.out.cell 0
              have y1 := B4.out.cell 1
              have y2 := B4.out.cell 2
              have y3 := B4.out.cell 3
              have y4 := B4.out.cell 4
              simp at c30 y0 y1 y2 y3 y4
              clear G2 N3 B3 Q3 NW BK QK
              go_wp2_with fail
              go_region_law (go_simp; go_at_call 53; refine C53.out.mono ?_; rintro e w3 ⟨pa, cap, rfl, hr, hg⟩; have N4 := D3.out.kept hg; have B5 := B4.out.kept hg (by simp); obtain ⟨w4, hrun, hm, hg4⟩ := N4.f.store SZ.out.2 tx SZ.out.1 (pOf kk) ty pa cap _ D3.out.g.size hr; have N5 := hid (N4.setF _ hg4 hm); have d0 := N4.c.cell 0; have x2 := B5.cell 2; simp at d0 x2; clear hr hg hm hg4 N4 B5 C53)
              all_goals
                go_wp2
                go_roundw
                case rel => exact ⟨j + 1, _, V, by omega, by go_num, N5.out, HF.out, HV.out⟩
                case measure => simp [intOf]; omega
        · rw [fns_old (.mk kd ty tx nm kk) _ _ (Or.inl h3)] at hF
          rw [vars_old (.mk kd ty tx nm kk) _ _ (Or.inl h2)] at hV
          have HF := hid (And.intro hF hV)
          clear hV hF
          have b2 : (kd == 2) = false := by rw [beq_eq_false_iff_ne]; exact h2
          have b3 : (kd == 3) = false := by rw [beq_eq_false_iff_ne]; exact h3
          go_wp2
          go_roundw
          case rel => exact ⟨j + 1, F, V, by omega, by go_num, NW.out.more, HF.out.1, HF.out.2⟩
          case measure => simp [intOf]; omega
    · have hjL : j = L := by omega
      subst hjL
      have HI := hid hI
      rw [List.drop_eq_nil_of_le (by rw [HL.out]; exact Nat.le_refl _)] at hF hV
      have HF := hid (And.intro hF hV)
      have j1 : ¬ (j : Int) < j := by omega
      clear hI hF hV
      go_wp2
      refine bodyPost_ret (v := .pointer (some ⟨w.heap.size + 4, 0, none⟩)) (by simp [results, Tryz.results28, go_sem]) rfl ⟨rfl, ?_⟩
      rw [HF.out.1, HF.out.2]
      exact HI.out
end Ck
end Go.Proofs.YtajoncmmdeahnaaGreatDoor
namespace Go.Proofs.YtajoncmmdeahnaaGreatDoor
open Go.RowKit
namespace Ck
def PjI (X : Xc) (F : Fn) (k : Nat) (R : Rc) (lo hi : Nat) (q : Value) (ks : List Nd) (st : Cs) (w5 : World) (j : Nat) (wr : World) : Prop := ∃ ys s, ys.length = j ∧ PgI X F lo hi q ks ys s w5 wr ∧ HalfD F k R ks st ys s
def progX (k : Nat) (n : Nd) : Except (Option (Nat × Nat)) Nd := match declsT (fn0 n.kids) k (rc (fn0 n.kids) k k) 0 n.kids (st0 n.kids) with
  | .ok l => .ok (withKids n l)
  | .error e => .error e
theorem progX_ok {k : Nat} {n : Nd} {l : List Nd} (h : declsT (fn0 n.kids) k (rc (fn0 n.kids) k k) 0 n.kids (st0 n.kids) = .ok l) : progX k n = .ok (withKids n l) := by
  unfold progX
  rw [h]
theorem progX_err {k : Nat} {n : Nd} {e : Option (Nat × Nat)} (h : declsT (fn0 n.kids) k (rc (fn0 n.kids) k k) 0 n.kids (st0 n.kids) = .error e) : progX k n = .error e := by
  unfold progX
  rw [h]
theorem new_x (low : Nat) (t : Int) (s : ByteArray) (n : Int) (q : Value) (ks : List Nd) (P : Nat → Prop) (w : World) (hok : (Nd.mk 1 t s n ks).ok) (hks : KsV w P q ks) (hG : Pm.GlB w low) (hl : low ≤ w.heap.size) :
    Calls Tryz.prog 28 #[.agg #[.int .i64 1, .int .i64 t, .string s, .int .i64 n, q]] w fun e w' => ∃ X : Xc, e = .returned (.pointer (some ⟨X.c, 0, none⟩)) ∧ X.low = low ∧ X.base = w.heap.size ∧ CkA w' X (fn0 ks) (st0 ks) ∧ w.grownBy w' none := by
  refine (new_any 1 t s n q ks P w hok.2.1 (fun x hx => ?_) hks).mono fun e w' ⟨h1, h2⟩ => ⟨Xc.of low w.heap.size, h1, rfl, rfl, h2.a (hG.keptR h2.g (by simp)) hl, h2.g⟩
  have h := Nd.oks_mem hok.2.2 x hx
  cases x with
  | mk k' t' s' n' ks' => exact ⟨h.1.s1, h.2.1⟩
set_option maxRecDepth 100000 in
set_option maxHeartbeats 4000000 in
theorem prog_run (k : Nat) (t : Int) (s : ByteArray) (n : Int) (q : Value) (ks : List Nd) (P : Nat → Prop) (w : World) (hG : Pm.GlB w w.heap.size) (hok : (Nd.mk 1 t s n ks).ok) (hks : KsV w P q ks) (hf : formB 1 t s n ks.length = some true)
    (hx : declsT (fn0 ks) k (rc (fn0 ks) k k) 0 ks (st0 ks) ≠ .error none) :
    Calls Tryz.prog 14 #[.agg #[.int .i64 1, .int .i64 t, .string s, .int .i64 n, q]] w (ChP w (progX k (.mk 1 t s n ks))) := by
  obtain ⟨p, c, rfl, _, _, _⟩ := hks.form
  have g2 : ∀ (W : World) (a b : Obj), W.grownBy ((W.alloc a).alloc b) none := fun W a b => grown_alloc (grown_alloc (grown_refl W none) a) b
  have G1 := hid (g2 w (.cells #[.int .i64 1, .int .i64 t, .string s, .int .i64 n, .slice p ks.length c] 27) (.cells #[.int .i64 0, .int .i64 0, .string ⟨#[]⟩, .int .i64 0, .slice none 0 0] 27))
  have CF : Hid (Calls Tryz.prog 27 #[.agg #[.int .i64 1, .int .i64 t, .string s, .int .i64 n, .slice p ks.length c]] ((w.alloc (.cells #[.int .i64 1, .int .i64 t, .string s, .int .i64 n, .slice p ks.length c] 27)).alloc (.cells #[.int .i64 0, .int .i64 0, .string ⟨#[]⟩, .int .i64 0, .slice none 0 0] 27)) (BP true _)) := hid (form_any 1 t s n p ks.length c _ (by have := hok.1.s1; omega) ((hG.keptR G1.out (by simp)).up G1.out.size) true hf)
  have HK := hid (hks.kept G1.out)
  have HO := hid hok
  have BO := hid ((Blk.new w 27 #[.int .i64 1, .int .i64 t, .string s, .int .i64 n, .slice p ks.length c]).alloc (.cells #[.int .i64 0, .int .i64 0, .string ⟨#[]⟩, .int .i64 0, .slice none 0 0] 27))
  have BZ : Hid (Blk ((w.alloc (.cells #[.int .i64 1, .int .i64 t, .string s, .int .i64 n, .slice p ks.length c] 27)).alloc (.cells #[.int .i64 0, .int .i64 0, .string ⟨#[]⟩, .int .i64 0, .slice none 0 0] 27)) (w.heap.size + 1) 27 #[.int .i64 0, .int .i64 0, .string ⟨#[]⟩, .int .i64 0, .slice none 0 0]) := hid (by
    have h := Blk.new (w.alloc (.cells #[.int .i64 1, .int .i64 t, .string s, .int .i64 n, .slice p ks.length c] 27)) 27 #[.int .i64 0, .int .i64 0, .string ⟨#[]⟩, .int .i64 0, .slice none 0 0]
    rw [World.size_alloc] at h
    exact h)
  have LW : Hid (w.heap.size + 2 ≤ ((w.alloc (.cells #[.int .i64 1, .int .i64 t, .string s, .int .i64 n, .slice p ks.length c] 27)).alloc (.cells #[.int .i64 0, .int .i64 0, .string ⟨#[]⟩, .int .i64 0, .slice none 0 0] 27)).heap.size) := hid (by rw [World.size_alloc, World.size_alloc]; exact Nat.le_refl _)
  have HG := hid hG
  have HX := hid hx
  clear hG hok hks hf hx g2
  go_enter Tryz.func14, Tryz.ntmps14
  go_wp2_with (first
    | (go_at_call 27; refine CF.out.mono ?_; rintro e w2 ⟨rfl, hg⟩; have G2 := hid (grown_none G1.out hg); have B2 := hid (BO.out.kept hg (by simp)); have Z2 := hid (BZ.out.kept hg (by simp)); have K2 := hid (HK.out.kept hg); have L2 := hid (Nat.le_trans LW.out hg.size); have x0 := B2.out.cell 0; have x1 := B2.out.cell 1; have x2 := B2.out.cell 2; have x3 := B2.out.cell 3; have x4 := B2.out.cell 4; simp at x0 x1 x2 x3 x4; clear hg CF HK BO BZ LW G1)
    | (go_at_call 23; refine (cloneI_any P (.mk 1 t s n ks) HO.out _ w2 ⟨_, rfl, K2.out⟩).mono ?_; rintro e w3 ⟨q3, rfl, hk3, hg⟩; obtain ⟨p3, c3, e3, _⟩ := (hk3.ks (P := fun _ => True) (fun _ _ _ => trivial)).form; subst e3; have K3 := hid hk3; have G3 := hid (grown_none G2.out hg); have Z3 := hid (Z2.out.kept hg (by simp)); have L3 := hid (And.intro L2.out hg.size); have G4 := hid (grown_alloc (grown_refl w3 none) (.cells #[.int .i64 1, .int .i64 t, .string s, .int .i64 n, .slice p3 ks.length c3] 27)); have B4 := hid (Blk.new w3 27 #[.int .i64 1, .int .i64 t, .string s, .int .i64 n, .slice p3 ks.length c3]); have Z4 := hid (Z3.out.kept G4.out (by simp)); have GW4 := hid (grown_none G3.out G4.out); have CX := hid (new_x w.heap.size t s n (.slice p3 ks.length c3) ks (fun _ => True) _ HO.out ((hk3.ks (P := fun _ => True) (fun _ _ _ => trivial)).kept G4.out) (HG.out.keptR GW4.out (by simp)) GW4.out.size); rw [World.size_alloc] at CX; clear hg hk3 x0 x1 x2 x3 x4 B2 Z2 K2 G2 L2)
    | (go_at_call 28; refine CX.out.mono ?_; rintro e w5 ⟨X, rfl, xl, xb, hA, hg⟩; have G5 := hid (grown_none GW4.out hg); have B5 := hid (B4.out.kept hg (by simp)); have Z5 := hid (Z4.out.kept hg (by simp)); have A5 := hid hA; have K5 := hid (K3.out.kept (fun b _ b2 => (hg.block b (by rw [World.size_alloc]; omega) (by simp)).trans (G4.out.block b b2 (by simp)))); have XX := hid (And.intro xl xb); have y4 := B5.out.cell 4; simp at y4; clear hg hA xl xb CX B4 Z4 GW4 G4 Z3 G3 K3))
  have K5 : Hid (KsI w5 w2.heap.size w3.heap.size (.slice p3 ks.length c3) ks) := K5
  have LL : Hid (w.heap.size + 2 ≤ w2.heap.size ∧ w2.heap.size ≤ w3.heap.size ∧ w3.heap.size < w5.heap.size) := hid ⟨L3.out.1, L3.out.2, B5.out.lt⟩
  have lm : (ks.length : Int) ≤ 255 := by have := HO.out.2.1; omega
  clear L3 HG HO
  generalize w2.heap.size = lo at *
  generalize w3.heap.size = hi at *
  go_loopw [25] (fun i wr => ∃ j : Nat, j ≤ ks.length ∧ i = .int .i64 j ∧ PjI X (fn0 ks) k (rc (fn0 ks) k k) lo hi (.slice p3 ks.length c3) ks (st0 ks) w5 j wr) (fun i _ => ks.length - (intOf i).toNat)
  case atStart =>
    exact ⟨0, Nat.zero_le _, rfl, [], _, rfl, ⟨A5.out, by rw [List.nil_append, List.length_nil, List.drop_zero]; exact K5.out, FrI.refl _ _ _ _⟩, HalfD.zero⟩
  case round =>
    obtain ⟨j, hj, rfl, ys, st, rfl, hP, hH⟩ := hrel
    have j0 : (0 : Int) ≤ ys.length := by omega
    have hok := hP.a.ok
    have hbx := XX.out.2
    have BW := hid (hP.fr.cells hok B5.out (by omega) (by omega))
    have ZW := hid (hP.fr.cells hok Z5.out (by have := LL.out; omega) (by have := LL.out; omega))
    have FR := hid hP.fr
    have HH := hid hH
    by_cases hlt : ys.length < ks.length
    · have j1 : (ys.length : Int) < ks.length := by omega
      obtain ⟨g, m, m', cs, rfl, hB, a1, a2, a3, hN, hfr, hstep⟩ := hP.next hlt (by have := XX.out.1; have := LL.out; omega) (by omega)
      have hne := hH.ne HX.out hlt
      have CL := hid (look_any (decl_any (expr_any X (fn0 ks) k) (block_rc X (fn0 ks) k k) (kp_block (fn0 ks) k k)) ks[ys.length] g (5 * ys.length) m m' cs wr st hP.a hN a1 a2 a3 hB hne)
      rw [Nat.mul_comm 5 ys.length] at CL hfr hstep
      have HF := hid hfr
      have HS := hid hstep
      have w4 := BW.out.cell 4
      simp at w4
      clear hP hH hB a1 a2 a3 hN hfr hstep y4
      rcases hz : declC (fn0 ks) k (rc (fn0 ks) k k) ks[ys.length] st with e | ⟨y, s'⟩
      · rcases e with _ | m1
        · exact absurd hz hne
        obtain ⟨e0, eD⟩ := HH.out.err HX.out hlt hz
        rw [hz] at CL
        have ED := hid eD
        have e1 : ((m1 : Nat) : Int) ≠ 0 := by omega
        clear hz hne eD HS B5 A5 K5
        go_wp2_with (go_at_call 29; refine CL.out.mono ?_; rintro e w6 ⟨rfl, hF⟩; have F6 := hid (HF.out w6 hF); have Z6 := F6.out.cells hok Z5.out (by have := LL.out; omega) (by have := LL.out; omega); have G6 := hid (F6.out.grown G5.out hok (by have := LL.out; omega) (by have := LL.out; omega)); have z0 := Z6.cell 0; have z1 := Z6.cell 1; have z2 := Z6.cell 2; have z3 := Z6.cell 3; have z4 := Z6.cell 4; have f0 := Z6.frozen 0; have f1 := Z6.frozen 1; have f2 := Z6.frozen 2; have f3 := Z6.frozen 3; have f4 := Z6.frozen 4; simp at z0 z1 z2 z3 z4; clear hF CL Z6)
        refine bodyPost_ret (v := .tuple #[Pm.zV, .int .i64 ys.length, .int .i64 m1]) (by simp [results, Tryz.results14, go_sem, z0, z1, z2, z3, z4, Pm.zV]) rfl ?_
        rw [progX_err (n := .mk 1 t s n ks) ED.out]
        exact ⟨rfl, grown_set5_new G6.out _ _ _ _ _ _ (by omega)⟩
      · rw [hz] at CL
        have HZ := hid (HH.out.step hlt hz)
        clear hz hne B5 Z5 A5 K5
        go_wp2_with (go_at_call 29; refine CL.out.mono ?_; rintro e w6 ⟨rfl, hN, hA, hF⟩; have P6 := hid (HS.out y s' w6 hN hA hF); clear hN hA hF CL)
        go_roundw
        case rel => exact ⟨ys.length + 1, by omega, by go_num, ys ++ [y], s', by rw [List.length_append, List.length_singleton], P6.out, HZ.out⟩
        case measure => simp [intOf]; omega
    · have hjL : ys.length = ks.length := by omega
      have ED := hid (HH.out.done (by omega))
      have eK : ys ++ ks.drop ys.length = ys := by rw [List.drop_eq_nil_of_le (by omega), List.append_nil]
      have hK := hP.ks
      rw [eK] at hK
      have KW := hid hK
      have G6 := hid (hP.fr.grown G5.out hok (by have := LL.out; omega) (by have := LL.out; omega))
      have SW : Hid (hi ≤ wr.heap.size) := hid (by have := BW.out.lt; omega)
      have j1 : ¬ (ys.length : Int) < ks.length := by omega
      have y0 := BW.out.cell 0
      have y1 := BW.out.cell 1
      have y2 := BW.out.cell 2
      have y3 := BW.out.cell 3
      have y4' := BW.out.cell 4
      have z0 := ZW.out.cell 0
      have z1 := ZW.out.cell 1
      have z2 := ZW.out.cell 2
      have z3 := ZW.out.cell 3
      have z4 := ZW.out.cell 4
      have f0 := ZW.out.frozen 0
      have f1 := ZW.out.frozen 1
      have f2 := ZW.out.frozen 2
      have f3 := ZW.out.frozen 3
      have f4 := ZW.out.frozen 4
      simp at y0 y1 y2 y3 y4' z0 z1 z2 z3 z4
      clear hP hH hK eK y4 B5 Z5 A5 K5
      go_wp2
      refine bodyPost_ret (v := .tuple #[.agg #[.int .i64 1, .int .i64 t, .string s, .int .i64 n, .slice p3 ks.length c3], .int .i64 0, .int .i64 0]) (by simp [results, Tryz.results14, go_sem, z0, z1, z2, z3, z4]) rfl ?_
      rw [progX_ok (n := .mk 1 t s n ks) ED.out]
      have gF := grown_set5 (grown_refl wr (some (w.heap.size + 1))) 0 (.int .i64 1) (.int .i64 t) (.string s) (.int .i64 n) (.slice p3 ks.length c3)
      refine ⟨.slice p3 ks.length c3, hi, rfl, KsI.low (KW.out.kept (fun b b1 b2 => gF.block b (by have := SW.out; omega) (fun e => by injection e with e; have := LL.out; omega))) (by have := LL.out; omega), Nat.le_trans SW.out gF.size, grown_set5_new G6.out _ _ _ _ _ _ (by omega)⟩
end Ck
end Go.Proofs.YtajoncmmdeahnaaGreatDoor
namespace Go.Proofs.YtajoncmmdeahnaaGreatDoor
open Go.RowKit
namespace Ck
set_option maxRecDepth 100000 in
set_option maxHeartbeats 2000000 in
theorem prog_kind (k t : Int) (s : ByteArray) (n : Int) (p : Option Addr) (l c : Nat) (w : World) (hk : k ≠ 1) :
    Calls Tryz.prog 14 #[.agg #[.int .i64 k, .int .i64 t, .string s, .int .i64 n, .slice p l c]] w fun e w' => e = .returned (.tuple #[Pm.zV, .int .i64 0, .int .i64 125]) ∧ w.grownBy w' none := by
  have b1 : (k != 1) = true := by simp only [bne_iff_ne]; exact hk
  go_enter Tryz.func14, Tryz.ntmps14
  go_wp2
  refine bodyPost_ret (v := .tuple #[Pm.zV, .int .i64 0, .int .i64 125]) (by simp [results, Tryz.results14, go_sem, Pm.zV]) rfl ⟨rfl, ?_⟩
  repeat (first | exact grown_refl _ _ | refine grown_set_new ?_ _ (by simp) | refine grown_alloc ?_ _)
set_option maxRecDepth 100000 in
set_option maxHeartbeats 2000000 in
theorem prog_form (t : Int) (s : ByteArray) (n : Int) (p : Option Addr) (l c : Nat) (w : World) (hG : Pm.GlB w w.heap.size) (hs : s.size ≤ 100) (hf : formB 1 t s n l = some false) :
    Calls Tryz.prog 14 #[.agg #[.int .i64 1, .int .i64 t, .string s, .int .i64 n, .slice p l c]] w fun e w' => e = .returned (.tuple #[Pm.zV, .int .i64 0, .int .i64 125]) ∧ w.grownBy w' none := by
  have G1 := hid (grown_alloc (grown_alloc (grown_refl w none) (.cells #[.int .i64 1, .int .i64 t, .string s, .int .i64 n, .slice p l c] 27)) (.cells #[.int .i64 0, .int .i64 0, .string ⟨#[]⟩, .int .i64 0, .slice none 0 0] 27))
  have CF : Hid (Calls Tryz.prog 27 #[.agg #[.int .i64 1, .int .i64 t, .string s, .int .i64 n, .slice p l c]] ((w.alloc (.cells #[.int .i64 1, .int .i64 t, .string s, .int .i64 n, .slice p l c] 27)).alloc (.cells #[.int .i64 0, .int .i64 0, .string ⟨#[]⟩, .int .i64 0, .slice none 0 0] 27)) (BP false _)) := hid (form_any 1 t s n p l c _ (by omega) ((hG.keptR G1.out (by simp)).up G1.out.size) false hf)
  have BZ : Hid (Blk ((w.alloc (.cells #[.int .i64 1, .int .i64 t, .string s, .int .i64 n, .slice p l c] 27)).alloc (.cells #[.int .i64 0, .int .i64 0, .string ⟨#[]⟩, .int .i64 0, .slice none 0 0] 27)) (w.heap.size + 1) 27 #[.int .i64 0, .int .i64 0, .string ⟨#[]⟩, .int .i64 0, .slice none 0 0]) := hid (by
    have h := Blk.new (w.alloc (.cells #[.int .i64 1, .int .i64 t, .string s, .int .i64 n, .slice p l c] 27)) 27 #[.int .i64 0, .int .i64 0, .string ⟨#[]⟩, .int .i64 0, .slice none 0 0]
    rw [World.size_alloc] at h
    exact h)
  clear hG hs hf
  go_enter Tryz.func14, Tryz.ntmps14
  go_wp2_with (go_at_call 27; refine CF.out.mono ?_; rintro e w2 ⟨rfl, hg⟩; have G2 := hid (grown_none G1.out hg); have Z2 := hid (BZ.out.kept hg (by simp)); have z0 := Z2.out.cell 0; have z1 := Z2.out.cell 1; have z2 := Z2.out.cell 2; have z3 := Z2.out.cell 3; have z4 := Z2.out.cell 4; have f0 := Z2.out.frozen 0; have f1 := Z2.out.frozen 1; have f2 := Z2.out.frozen 2; have f3 := Z2.out.frozen 3; have f4 := Z2.out.frozen 4; simp at z0 z1 z2 z3 z4; clear hg CF BZ G1)
  refine bodyPost_ret (v := .tuple #[Pm.zV, .int .i64 0, .int .i64 125]) (by simp [results, Tryz.results14, go_sem, z0, z1, z2, z3, z4, Pm.zV]) rfl ⟨rfl, grown_set5_new G2.out _ _ _ _ _ _ (by omega)⟩
theorem checkT_eq (k : Nat) (n : Nd) : checkT k n = if okB n = false then .error none else if n.kind ≠ 1 then .error (some (0, 125)) else match formN n with
    | none => .error none
    | some false => .error (some (0, 125))
    | some true => progX k n := by
  unfold checkT progX
  rfl
theorem check_any (k : Nat) (n : Nd) (v : Value) (P : Nat → Prop) (w : World) (hG : Pm.GlB w w.heap.size) (hv : NdV w P v n) (hx : checkT k n ≠ .error none) : Calls Tryz.prog 14 #[v] w (ChP w (checkT k n)) := by
  obtain ⟨q, rfl, hks⟩ := hv
  rw [checkT_eq] at hx ⊢
  by_cases h1 : okB n = false
  · rw [if_pos h1] at hx
    exact absurd rfl hx
  rw [if_neg h1] at hx ⊢
  have hok : n.ok := okB_ok (by cases h : okB n with | true => rfl | false => exact absurd h h1)
  obtain ⟨p, c, rfl, _⟩ := hks.form
  by_cases h2 : n.kind ≠ 1
  · rw [if_pos h2]
    exact (prog_kind _ _ _ _ p _ c w h2).mono fun e w' h => h
  rw [if_neg h2] at hx ⊢
  replace h2 := Decidable.of_not_not h2
  obtain ⟨kd, t, s, m, ks⟩ := n
  have h2 : kd = 1 := h2
  subst h2
  rcases hf : formN (.mk 1 t s m ks) with _ | b
  · rw [hf] at hx
    exact absurd rfl hx
  · rw [hf] at hx
    cases b with
    | false => exact (prog_form t s m p _ c w hG hok.1.s1 hf).mono fun e w' h => h
    | true =>
      refine prog_run k t s m _ ks P w hG hok hks hf (fun e => ?_)
      exact hx (progX_err (n := .mk 1 t s m ks) e)
end Ck
end Go.Proofs.YtajoncmmdeahnaaGreatDoor
namespace Go.Proofs.YtajoncmmdeahnaaGreatDoor
open Go.RowKit
namespace Sc
def mkS (l : List UInt8) : ByteArray := ⟨l.toArray⟩
theorem app_mk (a b : List UInt8) : mkS a ++ mkS b = mkS (a ++ b) := by
  apply ByteArray.ext
  show (mkS a ++ mkS b).data = _
  rw [ByteArray.data_append]
  simp [mkS]
theorem mkS_size (l : List UInt8) : (mkS l).size = l.length := by simp [mkS, ByteArray.size]
theorem toList_mk (l : List UInt8) : (mkS l).toList = l := by
  rw [ByteArray.toList_eq]
  rfl
def parsL (k : Nat) (l : List UInt8) : Except (Option (Nat × Nat)) Nd := match toks l with
  | .error p => .error (some (p, 90))
  | .ok l => match Pm.programP (Pm.rc k) ⟨l, 0, 0, false⟩ with
    | .ok (n, _) => .ok n
    | .error e => .error e
theorem parsL_eq (k : Nat) (l : List UInt8) : Pm.parseM k (mkS l) = parsL k l := by
  unfold Pm.parseM parsL
  rw [toList_mk]
  rfl
theorem parse_closed (k : Nat) (l : List UInt8) (n : Nd) (W : World) (hl : l.length ≤ 4096) (hG : Pm.GlB W W.heap.size) (h : parsL k l = .ok n) :
    Calls Tryz.prog 9 #[.string (mkS l)] W fun e w' => ∃ ps cp, e = .returned (.tuple #[.agg #[.int .i64 n.kind, .int .i64 n.ty, .string n.txt, .int .i64 n.num, .slice ps n.kids.length cp], .int .i64 0, .int .i64 0]) ∧ KsV w' (fun g => W.heap.size ≤ g) (.slice ps n.kids.length cp) n.kids ∧ W.grownBy w' none := by
  rw [← parsL_eq] at h
  refine (Pm.parse_any k (mkS l) W (by rw [mkS_size]; exact hl) hG (by rw [h]; simp)).mono fun e w' hh => ?_
  rw [h] at hh
  obtain ⟨v, rfl, ⟨q, rfl, hk⟩, hg⟩ := hh
  obtain ⟨p, cap, rfl, _⟩ := hk.form
  exact ⟨p, cap, rfl, hk, hg⟩
end Sc
end Go.Proofs.YtajoncmmdeahnaaGreatDoor
namespace Go.Proofs.YtajoncmmdeahnaaGreatDoor
open Go.RowKit
namespace Sc
theorem glb_all {w : World} (h : Pm.GlB w w.heap.size) : ∀ W, w.grownBy W none → Pm.GlB W W.heap.size := fun _ g => (h.keptR g (by simp)).up g.size
def TrueP (w : World) (e : Ending) (w' : World) : Prop := e = .returned (.bool true) ∧ w.grownBy w' none
end Sc
end Go.Proofs.YtajoncmmdeahnaaGreatDoor
namespace Go.Proofs.YtajoncmmdeahnaaGreatDoor
open Go.RowKit
namespace Sc
end Sc
end Go.Proofs.YtajoncmmdeahnaaGreatDoor
namespace Go.Proofs.YtajoncmmdeahnaaGreatDoor
open Go.RowKit
namespace Sc
theorem and_le (n : Int) (m : Nat) (hm : m < 1000) : ∃ k : Nat, bits .and .i64 n m = (k : Int) ∧ k ≤ m := by
  have h1 : (BitVec.ofInt 64 (m : Int)).toNat = m := by
    rw [BitVec.toNat_ofInt]
    omega
  have key : (BitVec.ofInt 64 n &&& BitVec.ofInt 64 (m : Int)).toNat ≤ m := by
    rw [BitVec.toNat_and, h1]
    exact Nat.and_le_right
  refine ⟨(BitVec.ofInt 64 n &&& BitVec.ofInt 64 (m : Int)).toNat, ?_, key⟩
  show IntKind.i64.wrap ((BitVec.ofInt 64 n &&& BitVec.ofInt 64 (m : Int)).toNat : Nat) = _
  generalize (BitVec.ofInt 64 n &&& BitVec.ofInt 64 (m : Int)).toNat = x at *
  rw [IntKind.wrap_i64]
  omega
end Sc
end Go.Proofs.YtajoncmmdeahnaaGreatDoor
