/-
  The document's Count.
-/
import Derived.Test.YtdodammplhlihaaDoorAb
namespace Go.Proofs.YtdodammplhlihaaDoor
open Go.RowKit
set_option maxRecDepth 100000 in
set_option maxHeartbeats 1000000 in
theorem rcount_step (k t : Int) (s : ByteArray) (n : Int) (q0 : Value) (ks : List Nd) (P : Nat → Prop) (w : World) (hn : ks.length ≤ 255) (hcnt : Nd.cnts ks ≤ 100000) (hks : KsV w P q0 ks)
    (ih : ∀ y ∈ ks, ∀ (v : Value) (W : World), NdV W P v y → Calls Tryd.prog 32 #[v] W fun e w' => e = .returned (.int .i64 y.cnt) ∧ W.grownBy w' none) : Calls Tryd.prog 32 #[.agg #[.int .i64 k, .int .i64 t, .string s, .int .i64 n, q0]] w fun e w' => e = .returned (.int .i64 ((1 + Nd.cnts ks : Nat) : Int)) ∧ w.grownBy w' none := by
  have IH := hid ih
  have HK := hid hks
  obtain ⟨p0, cap, eq0, _⟩ := hks.form
  subst eq0
  clear ih hks
  obtain ⟨L, hL⟩ : ∃ L, ks.length = L := ⟨_, rfl⟩
  have HL := hid hL
  rw [hL] at hn HK ⊢
  clear hL
  have i1 : (L : Int) ≤ 255 := by omega
  have HC := hid hcnt
  go_enter Tryd.func32, Tryd.ntmps32
  go_wp2
  go_loopw [3, 4] (fun c i wr => ∃ j : Nat, j ≤ L ∧ i = .int .i64 j ∧ c = .int .i64 ((1 + Nd.cnts (ks.take j) : Nat) : Int) ∧ w.grownBy wr none ∧ Blk wr w.heap.size 39 #[.int .i64 k, .int .i64 t, .string s, .int .i64 n, .slice p0 L cap]) (fun _ i _ => L - (intOf i).toNat)
  case atStart => exact ⟨0, Nat.zero_le _, rfl, by rw [List.take_zero, Nd.cnts]; rfl, grown_alloc (grown_refl _ _) _, Blk.new _ _ _⟩
  case round =>
    obtain ⟨j, hj, rfl, rfl, hg, hB⟩ := hrel
    have G := hid hg
    have B := hid hB
    have j0 : (0 : Int) ≤ j := by omega
    have x4 : wr.cell? ⟨w.heap.size, 4, none⟩ = some (.slice p0 L cap) := by rw [hB.cell]; rfl
    by_cases hlt : j < L
    · have j1 : (j : Int) < L := by omega
      have hjk : j < ks.length := by rw [HL.out]; exact hlt
      obtain ⟨g', hg', _, hat⟩ := (HK.out.kept hg).at j hjk
      subst hg'
      obtain ⟨q, c0, c1, c2, c3, c4, hkq⟩ := hat.cells
      rw [Nat.mul_comm 5 j] at c0 c1 c2 c3 c4
      have CC : Hid (Calls Tryd.prog 32 #[.agg #[.int .i64 (ks[j]).kind, .int .i64 (ks[j]).ty, .string (ks[j]).txt, .int .i64 (ks[j]).num, q]] wr fun e w' => e = .returned (.int .i64 (ks[j]).cnt) ∧ wr.grownBy w' none) := IH.out _ (List.getElem_mem hjk) _ wr ⟨q, rfl, hkq⟩
      obtain ⟨p', cap', hq, _⟩ := hkq.form
      subst hq
      have TS : 1 + Nd.cnts (ks.take (j + 1)) = 1 + Nd.cnts (ks.take j) + (ks[j]).cnt := by
        rw [List.take_succ_eq_append_getElem hjk, Nd.cnts_append, ← Nat.add_assoc]
        rfl
      have TM : 1 + Nd.cnts (ks.take j) + (ks[j]).cnt ≤ 100001 := by
        have h2 : Nd.cnts ks = Nd.cnts (ks.take (j + 1)) + Nd.cnts (ks.drop (j + 1)) := by rw [← Nd.cnts_append, List.take_append_drop]
        omega
      have TT := hid TS
      clear hg hB hkq hat IH HK TS
      generalize 1 + Nd.cnts (ks.take j) = A at *
      generalize (ks[j]).cnt = D at *
      generalize (ks[j]).kids.length = nk at *
      go_wp2_with (go_at_call 32; refine CC.out.mono ?_; clear CC; rintro e w2 ⟨rfl, hg2⟩; have G2 := hid (grown_none G.out hg2); have B2 := hid (B.out.kept hg2 (by simp)); clear hg2)
      go_roundw
      case rel => exact ⟨j + 1, by omega, by go_num, by rw [TT.out]; go_num, G2.out, B2.out⟩
      case measure => simp [intOf]; omega
    · have hjL : j = L := by omega
      subst hjL
      have j1 : ¬ (j : Int) < j := by omega
      have TA : ks.take j = ks := List.take_of_length_le (by rw [HL.out]; exact Nat.le_refl _)
      rw [TA]
      clear hg hB IH HK TA
      obtain ⟨A, hA⟩ : ∃ A, 1 + Nd.cnts ks = A := ⟨_, rfl⟩
      have EA := hid hA
      rw [hA]
      clear hA
      go_wp2
      go_ret
      exact ⟨by first | rfl | (rw [EA.out]; rfl) | (rw [← EA.out]; rfl), G.out⟩
theorem rcount_any (P : Nat → Prop) : ∀ (x : Nd), x.ok → x.cnt ≤ 100000 → ∀ (v : Value) (w : World), NdV w P v x → Calls Tryd.prog 32 #[v] w fun e w' => e = .returned (.int .i64 x.cnt) ∧ w.grownBy w' none := by
  refine Nd.indA ?_
  intro k t s n ks ih hok hc v w ⟨q, hv, hk⟩
  subst hv
  rw [Nd.cnt] at hc ⊢
  refine rcount_step k t s n q ks P w hok.2.1 (by omega) hk (fun y hy v W hv => ih y hy (Nd.oks_mem hok.2.2 y hy) ?_ v W hv)
  obtain ⟨a, b, rfl⟩ := List.append_of_mem hy
  rw [Nd.cnts_append, Nd.cnts] at hc
  omega
end Go.Proofs.YtdodammplhlihaaDoor
