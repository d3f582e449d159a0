/-
  A log as its file's frames, on a disk with any room: Commit, an opening; Room, Used.
-/
import Derived.Test.YtddnjlnnkeiplaaKWRefUn
import Derived.Test.YtddnjlnnkeiplaaPlm
namespace Go.Proofs.Ytddnjlnnkeiplaa.X
open Go.RowKit Go.Maps
variable {xt : Xt}
theorem size_fs (F : Option ByteArray) : sizeF (fsF F) = (F.getD ⟨#[]⟩).size := by
  cases F with
  | none => rfl
  | some f => exact Nat.add_zero f.size
def noPl (xt : Xt) : Prop := xt.pp = none ∧ xt.pn = 0 ∧ xt.pc = 0
/-- Is there no room for a commit? -/
def fullB (xt : Xt) (fr : List Fr) (ts : List ByteArray) (r : ByteArray) : Bool := xt.bd && decide (xt.rm < ((bytL (fr ++ ts.map recF ++ [(false, r)])).size : Int))
theorem commit_size (fr : List Fr) (ts : List ByteArray) (r : ByteArray) : (bytL (fr ++ ts.map recF ++ [(false, r)])).size = (bytL fr).size + ((bytL (ts.map recF)).size + (r.size + 9)) := by
  rw [bytL_app, bytL_app, bytL_one, ByteArray.size_append, ByteArray.size_append, one_len]
  show _ + (r.size + 9) = _
  omega
theorem putQ_dn (F : Option ByteArray) (c : Nat) (fr : List Fr) (ts : List ByteArray) (r : ByteArray) (hF : F.getD ⟨#[]⟩ = bytL fr) : putQ xt (Dn F c) (bytL (ts.map recF) ++ Wi.frmS (⟨#[109]⟩ ++ r)) = if fullB xt fr ts r then 31 else 0 := by
  unfold putQ growF fullB
  have e1 : sizeF (Dn F c).now = (bytL fr).size := by show sizeF (fsF F) = _; rw [size_fs, hF]
  have e2 : (bytL (ts.map recF) ++ Wi.frmS (⟨#[109]⟩ ++ r)).size = (bytL (ts.map recF)).size + (r.size + 9) := by rw [ByteArray.size_append, Wi.frmS_size, one_size]
  rw [e1, e2, commit_size]
  cases xt.bd with
  | false => rw [if_neg (fun h => by cases h.2.1)]; rfl
  | true =>
    by_cases h : xt.rm < (((bytL fr).size + ((bytL (ts.map recF)).size + (r.size + 9)) : Nat) : Int)
    · rw [if_pos ⟨by omega, rfl, by omega⟩]
      simp only [Bool.true_and, decide_eq_true h, if_true]
    · rw [if_neg (fun h2 => h (by omega))]
      simp only [Bool.true_and, decide_eq_false h]
      rfl
theorem commit_frames (base b d : Nat) (F : Option ByteArray) (c : Nat) (fr : List Fr) (ts : List ByteArray) (r : ByteArray) (W : World) (h : IsLog W base b (logP d fr ts)) (hd : IsDisk xt W base d (Dn F c)) (hF : F.getD ⟨#[]⟩ = bytL fr) (hr : r.size ≤ 300) (hz : (bytL (fr ++ ts.map recF)).size ≤ 100000) (hc : c ≤ 1000) (hn : (logP d fr ts).recs.length ≤ 100000) (hP : noPl xt) :
    Calls Try.prog 13 #[.pointer (some ⟨b, 0, none⟩), .string r] W fun e w' => e = .returned (.int .i64 (if fullB xt fr ts r then 31 else 0 : Nat)) ∧ IsLog w' base b (if fullB xt fr ts r then logP d fr [] else logP d (fr ++ ts.map recF ++ [(false, r)]) []) ∧ IsDisk xt w' base d (if fullB xt fr ts r then Dn F c else Dn (some (bytL (fr ++ ts.map recF ++ [(false, r)]))) (c + 1)) ∧ Low base W w' := by
  rw [bytL_app, ByteArray.size_append] at hz
  have fz : (Wi.frmS (⟨#[109]⟩ ++ r)).size = r.size + 9 := by rw [Wi.frmS_size, one_size]
  have e1 : (logP d fr ts).wait ++ Wi.frmS (⟨#[109]⟩ ++ r) = bytL (ts.map recF) ++ Wi.frmS (⟨#[109]⟩ ++ r) := rfl
  have z1 : (bytL (ts.map recF) ++ Wi.frmS (⟨#[109]⟩ ++ r)).size ≤ 200000 := by rw [ByteArray.size_append, fz]; omega
  have e2 : F.getD ⟨#[]⟩ ++ (bytL (ts.map recF) ++ Wi.frmS (⟨#[109]⟩ ++ r)) = bytL (fr ++ ts.map recF ++ [(false, r)]) := by rw [hF, commit_bytes]
  have z2 : (bytL (fr ++ ts.map recF ++ [(false, r)])).size ≤ 300000 := by rw [← e2, hF, ByteArray.size_append]; omega
  obtain ⟨T, h1, _, _⟩ := frG_recs d fr ts
  have k := commit_x base b (logP d fr ts) (Dn F c) r W h hd rfl (small_dn F c (by rw [hF]; omega) hc) (by omega) (by show (bytL (ts.map recF)).size ≤ _; omega) (by omega) (by
    show (frG d fr).recs.length ≤ (frG d (fr ++ ts.map recF)).recs.length
    rw [h1, List.length_append]
    omega) (by show (bytL fr).size ≤ _; omega) (by
    rw [e1]
    show Fits (doF (fsF F) (putC _)) 1000000
    rw [do_put, e2]
    exact fits_one _ _ (by omega) (by decide)) hP (by show sizeF (fsF F) ≤ _; rw [size_fs, hF]; omega)
  unfold comX putD at k
  rw [e1, putQ_dn F c fr ts r hF, logP_commit, logP_drop, put_dn, e2] at k
  cases hx : fullB xt fr ts r with
  | true =>
    rw [hx] at k
    exact k
  | false =>
    rw [hx] at k
    exact k
theorem open_frames (base d : Nat) (F : Option ByteArray) (c : Nat) (fr : List Fr) (W : World) (hd : IsDisk xt W base d (Dn F c)) (hF : F.getD ⟨#[]⟩ = bytL fr) (hS : Shut fr) (hz : (bytL fr).size ≤ 500000) (hc : c ≤ 1000) (hl : fr.length ≤ 1000) (hs : ∀ x ∈ fr, x.2.size ≤ 900) (hP : noPl xt) :
    Calls Try.prog 10 #[.pointer (some ⟨d, 0, none⟩)] W (OpenPost xt base d W (logP d fr []) 0 (Dn F c)) := by
  have hFz : (F.getD ⟨#[]⟩).size ≤ 500000 := by rw [hF]; exact hz
  have sm := small_dn F c hFz hc
  have hR := rem_dn F c
  have hr := read_dn F c
  have zz : sizeF (Dn F c).now ≤ 1000000000 := by show sizeF (fsF F) ≤ _; rw [size_fs]; omega
  have hG : (logP d fr []).len = (F.getD ⟨#[]⟩).size := by rw [hF]; rfl
  have h := open_any base d (Dn F c) (logP d fr []) W hd rfl sm (by rw [hR]; exact sm) hP zz (by rw [hR]; exact zz) (by
    rw [hR, hr, hF, ← logP_load d fr hS]
    exact fun W b hW => load_fr base b d fr W hW hl hs (by omega)) (by rw [hR, hr, hG]; exact Nat.le_refl _) (by rw [hR, hr]; omega) (by
    rw [hR]
    have : Fits (doF (Dn F c).now (cutC (logP d fr []).len)) 1000000 := (fits_do (C := 10) (show Fits (Dn F c).now 500000 from fits_fs F _ (by omega) (by decide)) (cutC (logP d fr []).len) (by show 0 ≤ 10; decide) (by show 3 ≤ _; decide) (by show 0 ≤ _; decide)).mono (by decide)
    exact this)
  have e1 : (readS (nextD (Dn F c) remC).now ⟨#[108, 111, 103]⟩).size - (logP d fr []).len = 0 := by rw [hR, hr, hG, Nat.sub_self]
  have e2 : openD (Dn F c) 0 (logP d fr []).len = Dn F c := by
    unfold openD
    rw [hR]
    rfl
  rw [e1, e2] at h
  exact h
theorem IsDisk.used {w : World} {base b : Nat} {k : Dk} (h : IsDisk xt w base b k) (hs : sizeF k.now ≤ 1000000000) : Calls Try.prog 34 #[.pointer (some ⟨b, 0, none⟩)] w fun e w' => e = .returned (.int .i64 (sizeF k.now)) ∧ w.grownBy w' none := by
  obtain ⟨_, vn, vs, vl, hB, hm, _⟩ := h
  exact used_x base b vn vs vl k.unsure k.changes k.dead k.now w hB hm hs
set_option maxRecDepth 100000 in
/-- Room. -/
theorem room_x (base b : Nat) (k : Dk) (n : Int) (w : World) (h : IsDisk xt w base b k) :
    Calls Try.prog 33 #[.pointer (some ⟨b, 0, none⟩), .int .i64 n] w fun e w' => e = .returned (.tuple #[]) ∧ IsDisk { xt with bd := decide (0 ≤ n), rm := n } w' base b k ∧ w.grownBy w' (some b) := by
  obtain ⟨hb0, vn, vs, vl, hB, hn, hsu, hne, hl⟩ := h
  have f6 := hB.frozen 6
  have f7 := hB.frozen 7
  have c6 := hB.e6
  have c7 := hB.e7
  have G := grown_set (grown_set (grown_refl w (some b)) 6 (.bool (decide (0 ≤ n)))) 7 (.int .i64 n)
  have B1 := hB.set 6 (.bool (decide (0 ≤ n)))
  have R1 : Hid (IsDisk { xt with bd := decide (0 ≤ n), rm := n } ((w.setCell ⟨b, 6, none⟩ (.bool (decide (0 ≤ n)))).setCell ⟨b, 7, none⟩ (.int .i64 n)) base b k) := ⟨hb0, vn, vs, vl, B1.set 7 _, (hn.set hB 6 _).set B1 7 _, (hsu.set hB 6 _).set B1 7 _, hne, owns_self hl hB G⟩
  have R2 : Hid (w.grownBy ((w.setCell ⟨b, 6, none⟩ (.bool (decide (0 ≤ n)))).setCell ⟨b, 7, none⟩ (.int .i64 n)) (some b)) := G
  clear hB hn hsu hne hl G B1
  go_enter Try.func33, Try.ntmps33
  go_wp2
  first
  | exact bodyPost_end (results_none rfl _ _ _) rfl ⟨rfl, R1.out, R2.out⟩
  | exact bodyPost_ret (results_none rfl _ _ _) rfl ⟨rfl, R1.out, R2.out⟩
end Go.Proofs.Ytddnjlnnkeiplaa.X
