/-
  Bytes: the document's bytes of a tree.
-/
import Derived.Test.YtdodammplhlihaaDoorEn
import Derived.Deep.RegionHeld3
import Derived.Deep.DeepCutAuto
namespace Go.Proofs.YtdodammplhlihaaDoor
open Go.RowKit
def StrP (w : World) (s : ByteArray) (e : Ending) (w' : World) : Prop := e = .returned (.string s) ∧ w.grownBy w' none
theorem calls_at {P : Program} {f : FuncId} {a args : Array Value} {w : World} {R : Ending → World → Prop} (h : a = args) (hc : Calls P f args w R) : Calls P f a w R := by rw [h]; exact hc
set_option maxRecDepth 100000 in
set_option maxHeartbeats 2000000 in
theorem bytes_step (k t : Int) (s : ByteArray) (n : Int) (q0 : Value) (ks : List Nd) (P : Nat → Prop) (w : World) (hn : ks.length ≤ 255) (hs : s.size ≤ 100) (hks : KsV w P q0 ks) (hlen : (headL k t s n ks.length ++ Nd.encs ks).length ≤ 1000000000)
    (ih : ∀ y ∈ ks, ∀ (v : Value) (W : World), NdV W P v y → Calls Tryd.prog 19 #[v] W (StrP W (mkS y.enc))) : Calls Tryd.prog 19 #[.agg #[.int .i64 k, .int .i64 t, .string s, .int .i64 n, q0]] w (StrP w (mkS (headL k t s n ks.length ++ Nd.encs ks))) := by
  have IH := hid ih
  have HK := hid hks
  have HLen := hid hlen
  obtain ⟨p0, cap, eq0, _⟩ := hks.form
  subst eq0
  clear ih hks hlen
  obtain ⟨L, hL⟩ : ∃ L, ks.length = L := ⟨_, rfl⟩
  have HL := hid hL
  rw [hL] at hn HK HLen ⊢
  clear hL
  have HS := hid (headS_list k t s n L)
  have HZ : Hid ((headS k t s n L).size ≤ 200) := by
    show (headS k t s n L).size ≤ 200
    rw [← bytes_len, HS.out, headL_len]
    omega
  have i1 : (L : Int) ≤ 255 := by omega
  have C1 : Hid (∀ W, Calls Tryd.prog 33 #[.int .u64 (n64 k), .int .i64 1] W (StrP W (numS (n64 k) 1))) := fun W => refNumber_any (n64 k) 1 W (n64_lt k)
  have C2 : Hid (∀ W, Calls Tryd.prog 33 #[.int .u64 (n64 t), .int .i64 1] W (StrP W (numS (n64 t) 1))) := fun W => refNumber_any (n64 t) 1 W (n64_lt t)
  have C3 : Hid (∀ W, Calls Tryd.prog 34 #[.string s] W (StrP W (numS s.size 4 ++ s))) := fun W => refText_any s W (by omega)
  have C4 : Hid (∀ W, Calls Tryd.prog 33 #[.int .u64 (n64 n), .int .i64 8] W (StrP W (numS (n64 n) 8))) := fun W => refNumber_any (n64 n) 8 W (n64_lt n)
  have C5 : Hid (∀ W, Calls Tryd.prog 33 #[.int .u64 L, .int .i64 1] W (StrP W (numS L 1))) := fun W => refNumber_any L 1 W (by omega)
  have k1 := n64_wrap k
  have k2 := n64_wrap t
  have k3 := n64_wrap n
  have k4 : IntKind.u64.wrap (L : Int) = (L : Int) := by rw [n64_wrap, n64_small L (by omega)]
  have EH : Hid (headS k t s n L = (((numS (n64 k) 1 ++ numS (n64 t) 1) ++ (numS s.size 4 ++ s)) ++ numS (n64 n) 8) ++ numS L 1) := rfl
  have z1 := numS_size (n64 k) 1
  have z2 := numS_size (n64 t) 1
  have z3 : (numS s.size 4 ++ s).size ≤ 104 := by rw [ByteArray.size_append, numS_size]; omega
  have z4 := numS_size (n64 n) 8
  have z5 := numS_size L 1
  generalize headS k t s n L = HD at *
  generalize numS (n64 k) 1 = S1 at *
  generalize numS (n64 t) 1 = S2 at *
  generalize numS s.size 4 ++ s = S3 at *
  generalize numS (n64 n) 8 = S4 at *
  generalize numS L 1 = S5 at *
  generalize n64 k = K at *
  generalize n64 t = T at *
  generalize n64 n = M at *
  have y1 : S1.size ≤ 1 := by omega
  have y2 : S2.size ≤ 1 := by omega
  have y4 : S4.size ≤ 8 := by omega
  have y5 : S5.size ≤ 1 := by omega
  have y6 : (S1 ++ S2).size ≤ 2 := by rw [ByteArray.size_append]; omega
  have y7 : (S1 ++ S2 ++ S3).size ≤ 106 := by rw [ByteArray.size_append]; omega
  have y8 : (S1 ++ S2 ++ S3 ++ S4).size ≤ 114 := by rw [ByteArray.size_append]; omega
  have GA : Hid (w.grownBy (w.alloc (.cells #[.int .i64 k, .int .i64 t, .string s, .int .i64 n, .slice p0 L cap] 39)) none) := grown_alloc (grown_refl _ _) _
  have BA := hid (Blk.new w 39 #[.int .i64 k, .int .i64 t, .string s, .int .i64 n, .slice p0 L cap])
  have a1 : ¬ 9223372036854775807 < S1.size + S2.size := by omega
  have a2 : ¬ 9223372036854775807 < S1.size + S2.size + S3.size := by omega
  have a3 : ¬ 9223372036854775807 < S1.size + S2.size + S3.size + S4.size := by omega
  have a4 : ¬ 9223372036854775807 < S1.size + S2.size + S3.size + S4.size + S5.size := by omega
  clear z1 z2 z3 z4 z5 hs hn y1 y2 y4 y5 y6 y7 y8
  go_enter Tryd.func19, Tryd.ntmps19
  go_wp2_with fail
  generalize w.alloc (.cells #[.int .i64 k, .int .i64 t, .string s, .int .i64 n, .slice p0 L cap] 39) = w0 at *
  have SS : Hid (∀ V, w0.grownBy V none → V.cell? ⟨w.heap.size, 0, none⟩ = some (.int .i64 k) ∧ V.cell? ⟨w.heap.size, 1, none⟩ = some (.int .i64 t) ∧ V.cell? ⟨w.heap.size, 2, none⟩ = some (.string s) ∧ V.cell? ⟨w.heap.size, 3, none⟩ = some (.int .i64 n) ∧ V.cell? ⟨w.heap.size, 4, none⟩ = some (.slice p0 L cap)) := fun V hV => ⟨(BA.out.kept hV (by simp)).cell 0, (BA.out.kept hV (by simp)).cell 1, (BA.out.kept hV (by simp)).cell 2, (BA.out.kept hV (by simp)).cell 3, (BA.out.kept hV (by simp)).cell 4⟩
  obtain ⟨q0, q1, q2, q3, q4⟩ := SS.out w0 (grown_refl _ _)
  have GD : w0.grownBy w0.drew none := grown_drew (grown_refl _ _)
  go_cut [3] (fun c3 W => c3 = .string HD ∧ w0.grownBy W none)
  case first =>
    clear IH HK HLen HL HS HZ GA
    go_region_held3 (fun V => V.cell? ⟨w.heap.size, 0, none⟩ = some (.int .i64 k) ∧ V.cell? ⟨w.heap.size, 1, none⟩ = some (.int .i64 t) ∧ V.cell? ⟨w.heap.size, 2, none⟩ = some (.string s) ∧ V.cell? ⟨w.heap.size, 3, none⟩ = some (.int .i64 n) ∧ V.cell? ⟨w.heap.size, 4, none⟩ = some (.slice p0 L cap)) (first | assumption | go_keep) (first
      | (go_at_call 33; refine calls_at (args := #[.int .u64 K, .int .i64 1]) rfl ?_; refine (C1.out _).mono ?_; clear C1; rintro e w1 ⟨rfl, hg1⟩; have GN1 : w0.grownBy w1 none := grown_none (by assumption) hg1; have SN1 := SS.out w1 GN1)
      | (go_at_call 33; refine calls_at (args := #[.int .u64 T, .int .i64 1]) rfl ?_; refine (C2.out _).mono ?_; clear C2; rintro e w2 ⟨rfl, hg2⟩; have GN2 : w0.grownBy w2 none := grown_none (by assumption) hg2; have SN2 := SS.out w2 GN2)
      | (go_at_call 34; refine (C3.out _).mono ?_; clear C3; rintro e w3 ⟨rfl, hg3⟩; have GN3 : w0.grownBy w3 none := grown_none (by assumption) hg3; have SN3 := SS.out w3 GN3)
      | (go_at_call 33; refine calls_at (args := #[.int .u64 M, .int .i64 8]) rfl ?_; refine (C4.out _).mono ?_; clear C4; rintro e w4 ⟨rfl, hg4⟩; have GN4 : w0.grownBy w4 none := grown_none (by assumption) hg4; have SN4 := SS.out w4 GN4)
      | (go_at_call 33; refine calls_at (args := #[.int .u64 L, .int .i64 1]) rfl ?_; refine (C5.out _).mono ?_; clear C5; rintro e w5 ⟨rfl, hg5⟩; have GN5 : w0.grownBy w5 none := grown_none (by assumption) hg5; have SN5 := SS.out w5 GN5))
    all_goals (
      (try go_wp2_with fail)
      go_meet
      exact ⟨by rw [EH.out], by assumption⟩)
  case rest =>
    obtain ⟨rfl, hg0⟩ := hcut
    clear q0 q1 q2 q3 q4 a1 a2 a3 a4 EH C1 C2 C3 C4 C5 k1 k2 k3 k4 GD
    have G0 := hid (grown_none GA.out hg0)
    have B0 := hid (BA.out.kept hg0 (by simp))
    clear hg0 SS BA GA
    go_wp2_with fail
    go_loopw [3, 4] (fun c i wr => ∃ (j : Nat) (C : ByteArray), j ≤ L ∧ i = .int .i64 j ∧ c = .string C ∧ C = HD ++ mkS (Nd.encs (ks.take j)) ∧ w.grownBy wr none ∧ Blk wr w.heap.size 39 #[.int .i64 k, .int .i64 t, .string s, .int .i64 n, .slice p0 L cap]) (fun _ i _ => L - (intOf i).toNat)
    case atStart => exact ⟨0, HD, Nat.zero_le _, rfl, rfl, by rw [List.take_zero, Nd.encs]; apply bytes_ext; rw [append_list]; simp [mkS], G0.out, B0.out⟩
    case round =>
      obtain ⟨j, C, hj, rfl, rfl, hC, hg, hB⟩ := hrel
      have EC := hid hC
      have G := hid hg
      have B := hid hB
      have j0 : (0 : Int) ≤ j := by omega
      have x4 : wr.cell? ⟨w.heap.size, 4, none⟩ = some (.slice p0 L cap) := by rw [hB.cell]; rfl
      by_cases hlt : j < L
      · have j1 : (j : Int) < L := by omega
        have hjk : j < ks.length := by rw [HL.out]; exact hlt
        obtain ⟨g', hg', _, hat⟩ := (HK.out.kept hg).at j hjk
        subst hg'
        obtain ⟨q, c0, c1, c2, c3, c4, hkq⟩ := hat.cells
        rw [Nat.mul_comm 5 j] at c0 c1 c2 c3 c4
        have CC : Hid (Calls Tryd.prog 19 #[.agg #[.int .i64 (ks[j]).kind, .int .i64 (ks[j]).ty, .string (ks[j]).txt, .int .i64 (ks[j]).num, q]] wr (StrP wr (mkS (ks[j]).enc))) := IH.out _ (List.getElem_mem hjk) _ wr ⟨q, rfl, hkq⟩
        obtain ⟨p', cap', hq, _⟩ := hkq.form
        subst hq
        have TS : Nd.encs (ks.take (j + 1)) = Nd.encs (ks.take j) ++ (ks[j]).enc := by
          rw [List.take_succ_eq_append_getElem hjk, Nd.encs_append]
          show _ ++ ((ks[j]).enc ++ []) = _
          rw [List.append_nil]
        have TL : (Nd.encs (ks.take (j + 1))).length ≤ 1000000000 := by
          have h1 := HLen.out
          have h2 : Nd.encs ks = Nd.encs (ks.take (j + 1)) ++ Nd.encs (ks.drop (j + 1)) := by rw [← Nd.encs_append, List.take_append_drop]
          rw [h2, List.length_append, List.length_append] at h1
          omega
        have D : ¬ 9223372036854775807 < C.size + (mkS (ks[j]).enc).size := by
          rw [hC, mkS_size, ByteArray.size_append, mkS_size]
          rw [TS, List.length_append] at TL
          have := HZ.out
          omega
        have TT := hid TS
        clear hg hB hkq hat IH HK hC TS TL
        generalize ks[j] = y at *
        generalize hE : mkS y.enc = E at *
        have HE := hid hE
        clear hE
        go_wp2_with (go_at_call 19; refine CC.out.mono ?_; clear CC; rintro e w2 ⟨rfl, hg2⟩; have G2 := hid (grown_none G.out hg2); have B2 := hid (B.out.kept hg2 (by simp)); clear hg2)
        go_roundw
        case rel => exact ⟨j + 1, _, by omega, by go_num, rfl, by rw [EC.out, TT.out, ← HE.out, ByteArray.append_assoc, mkS_append], G2.out, B2.out⟩
        case measure => simp [intOf]; omega
      · have hjL : j = L := by omega
        subst hjL
        have j1 : ¬ (j : Int) < j := by omega
        have EF : Hid (C = mkS (headL k t s n j ++ Nd.encs ks)) := by
          show C = _
          rw [hC, List.take_of_length_le (by rw [HL.out]; exact Nat.le_refl _)]
          apply bytes_ext
          rw [append_list, HS.out, mkS_list, mkS_list]
        clear hC EC hg hB IH HK
        go_wp2
        go_ret
        exact ⟨by rw [← EF.out]; rfl, G.out⟩
theorem rbytes_any (P : Nat → Prop) : ∀ (x : Nd), x.ok → x.enc.length ≤ 1000000000 → ∀ (v : Value) (w : World), NdV w P v x → Calls Tryd.prog 19 #[v] w (StrP w (mkS x.enc)) := by
  refine Nd.indA ?_
  intro k t s n ks ih hok hl v w ⟨q, hv, hk⟩
  subst hv
  rw [Nd.enc] at hl ⊢
  refine bytes_step k t s n q ks P w hok.2.1 hok.1.s1 hk hl (fun y hy v W hv => ih y hy (Nd.oks_mem hok.2.2 y hy) ?_ v W hv)
  have : y.enc.length ≤ (Nd.encs ks).length := by
    obtain ⟨a, b, rfl⟩ := List.append_of_mem hy
    rw [Nd.encs_append, List.length_append]
    show _ ≤ _ + (y.enc ++ Nd.encs b).length
    rw [List.length_append]
    omega
  rw [List.length_append] at hl
  omega
end Go.Proofs.YtdodammplhlihaaDoor
