/-
  WalReads' disk: a file with any bytes, and one that was not finished. Disks with the log's file alone, on which nothing is loose; what put, lay, an opening and a loss of power leave of them. lay: bytes are made the whole file.
-/
import Derived.Test.YtddnjlnnkeiplaaKPref
import Derived.Test.YtddnjlnnkeiplaaKLawake
namespace Go.Proofs.Ytddnjlnnkeiplaa
open Go.RowKit Go.Maps
def oneF (s : ByteArray) : FS := [(⟨#[108, 111, 103]⟩, s)]
def twoF (s r : ByteArray) : FS := [(⟨#[108, 111, 103]⟩, s), (⟨#[108, 111, 103, 46, 110, 101, 119]⟩, r)]
theorem same_ll : sameB ⟨#[108, 111, 103]⟩ ⟨#[108, 111, 103]⟩ = true := by decide +kernel
theorem same_ln : sameB ⟨#[108, 111, 103]⟩ ⟨#[108, 111, 103, 46, 110, 101, 119]⟩ = false := by decide +kernel
theorem same_nl : sameB ⟨#[108, 111, 103, 46, 110, 101, 119]⟩ ⟨#[108, 111, 103]⟩ = false := by decide +kernel
theorem same_nn : sameB ⟨#[108, 111, 103, 46, 110, 101, 119]⟩ ⟨#[108, 111, 103, 46, 110, 101, 119]⟩ = true := by decide +kernel
def wrC (n s : ByteArray) : Chg := ⟨1, n, s, ⟨#[]⟩, 0⟩
theorem put_one (s : ByteArray) : doF [] (wrC ⟨#[108, 111, 103]⟩ s) = oneF s := rfl
theorem before_nl : (keyL ⟨#[108, 111, 103, 46, 110, 101, 119]⟩).before (keyL ⟨#[108, 111, 103]⟩) = false := by decide +kernel
theorem put_two (s r : ByteArray) : doF (oneF s) (wrC ⟨#[108, 111, 103, 46, 110, 101, 119]⟩ r) = twoF s r := by
  show putF (oneF s) ⟨#[108, 111, 103, 46, 110, 101, 119]⟩ r = _
  have e : delF (oneF s) ⟨#[108, 111, 103, 46, 110, 101, 119]⟩ = oneF s := by
    unfold delF oneF
    rw [List.filter_cons, same_ln]
    rfl
  unfold putF
  rw [e]
  unfold oneF insF
  rw [before_nl]
  rfl
theorem get_two_n (s r : ByteArray) : getF (twoF s r) ⟨#[108, 111, 103, 46, 110, 101, 119]⟩ = some r := by
  unfold twoF getF
  rw [List.find?_cons, same_ln]
  simp only
  rw [List.find?_cons, same_nn]
  rfl
theorem get_one_l (s : ByteArray) : getF (oneF s) ⟨#[108, 111, 103]⟩ = some s := by
  unfold oneF getF
  rw [List.find?_cons, same_ll]
  rfl
theorem get_one_n (s : ByteArray) : getF (oneF s) ⟨#[108, 111, 103, 46, 110, 101, 119]⟩ = none := by
  unfold oneF getF
  rw [List.find?_cons, same_ln]
  rfl
theorem del_two (s r : ByteArray) : doF (twoF s r) remC = oneF s := by
  have e : doF (twoF s r) remC = delF (twoF s r) ⟨#[108, 111, 103, 46, 110, 101, 119]⟩ := by
    unfold doF remC
    simp only [get_two_n]
    rfl
  rw [e]
  unfold delF twoF
  rw [List.filter_cons, same_ln, List.filter_cons, same_nn]
  rfl
theorem cut_one (s : ByteArray) (n : Nat) (hn : n ≤ s.size) : doF (oneF s) (cutC n) = oneF (s.extract 0 n) := by
  have e : doF (oneF s) (cutC n) = putF (oneF s) ⟨#[108, 111, 103]⟩ (s.extract 0 (min (n : Int).toNat s.size)) := by
    unfold doF cutC
    simp only [get_one_l]
    rfl
  have e2 : min (n : Int).toNat s.size = n := by omega
  rw [e, e2]
  unfold putF delF oneF
  rw [List.filter_cons, same_ll]
  rfl
theorem fits_one (s : ByteArray) (B : Nat) (h : s.size ≤ B) (hB : 7 ≤ B) : Fits (oneF s) B := by
  refine ⟨by show 1 ≤ B; omega, ?_, ?_⟩
  · intro p hp
    obtain rfl := List.mem_singleton.1 hp
    exact h
  · intro p hp
    obtain rfl := List.mem_singleton.1 hp
    show 3 ≤ B
    omega
theorem fits_two (s r : ByteArray) (B : Nat) (h : s.size ≤ B) (hr : r.size ≤ B) (hB : 7 ≤ B) : Fits (twoF s r) B := by
  refine ⟨by show 2 ≤ B; omega, ?_, ?_⟩
  · intro p hp
    rcases List.mem_cons.1 hp with rfl | hp
    · exact h
    · obtain rfl := List.mem_singleton.1 hp
      exact hr
  · intro p hp
    rcases List.mem_cons.1 hp with rfl | hp
    · show 3 ≤ B
      omega
    · obtain rfl := List.mem_singleton.1 hp
      exact hB
def kA (s : ByteArray) : Dk := ⟨oneF s, [], [wrC ⟨#[108, 111, 103]⟩ s], 1, 1, false⟩
def kB (s r : ByteArray) : Dk := ⟨twoF s r, [], [wrC ⟨#[108, 111, 103]⟩ s, wrC ⟨#[108, 111, 103, 46, 110, 101, 119]⟩ r], 2, 2, false⟩
def kC (s r : ByteArray) : Dk := ⟨twoF s r, twoF s r, [], 0, 2, false⟩
def kC1 (s r : ByteArray) : Dk := ⟨oneF s, twoF s r, [remC], 1, 3, false⟩
theorem writeA (base d : Nat) (s : ByteArray) (W : World) (hd : IsDisk W base d k0) (hs : s.size ≤ 4500) : Calls Try.prog 30 #[.pointer (some ⟨d, 0, none⟩), .string ⟨#[108, 111, 103]⟩, .string s] W fun e w' => e = .returned (.int .i64 0) ∧ IsDisk w' base d (kA s) ∧ Tend base d W w' :=
  write_any base d k0 ⟨#[108, 111, 103]⟩ s W hd rfl small0 log_name (by decide) (by omega)
theorem smallA (s : ByteArray) (hs : s.size ≤ 4500) : Small (kA s) := ⟨fits_one s _ (by omega) (by decide), by show 1 ≤ _; decide, by show 1 ≤ _; decide, by show 1 ≤ _; decide⟩
theorem writeB (base d : Nat) (s r : ByteArray) (W : World) (hd : IsDisk W base d (kA s)) (hs : s.size ≤ 4500) (hr : r.size ≤ 1000) : Calls Try.prog 30 #[.pointer (some ⟨d, 0, none⟩), .string ⟨#[108, 111, 103, 46, 110, 101, 119]⟩, .string r] W fun e w' => e = .returned (.int .i64 0) ∧ IsDisk w' base d (kB s r) ∧ Tend base d W w' := by
  have h := write_any base d (kA s) ⟨#[108, 111, 103, 46, 110, 101, 119]⟩ r W hd rfl (smallA s hs) new_name (by decide) (by omega)
  have e : stepD (kA s) ⟨1, ⟨#[108, 111, 103, 46, 110, 101, 119]⟩, r, ⟨#[]⟩, 0⟩ = kB s r := by
    unfold stepD kB
    have e2 : doF (kA s).now ⟨1, ⟨#[108, 111, 103, 46, 110, 101, 119]⟩, r, ⟨#[]⟩, 0⟩ = twoF s r := put_two s r
    rw [e2]
    rfl
  rw [e] at h
  exact h
theorem syncC (base d : Nat) (s r : ByteArray) (W : World) (hd : IsDisk W base d (kB s r)) (hs : s.size ≤ 4500) (hr : r.size ≤ 1000) : Calls Try.prog 31 #[.pointer (some ⟨d, 0, none⟩)] W fun e w' => e = .returned (.int .i64 0) ∧ IsDisk w' base d (kC s r) ∧ W.grownBy w' (some d) :=
  sync_any base d (kB s r) W hd rfl (fits_two s r _ (by omega) (by omega) (by decide))
theorem remC_C (s r : ByteArray) : nextD (kC s r) remC = kC1 s r := by
  have e : ansF (kC s r) remC = 0 := by
    have e : ansF (kC s r) remC = refF (twoF s r) remC := rfl
    rw [e, remC, refF_rem _ _ new_name, get_two_n]
    rfl
  rw [nextD, if_pos e]
  unfold stepD kC1
  have e2 : doF (kC s r).now remC = oneF s := del_two s r
  rw [e2]
  rfl
theorem readC1 (s r : ByteArray) : readS (kC1 s r).now ⟨#[108, 111, 103]⟩ = s := by
  unfold readS
  have : getF (kC1 s r).now ⟨#[108, 111, 103]⟩ = some s := get_one_l s
  rw [this]
  rfl
/-- The disk behind the opening. -/
def kD (s r : ByteArray) (n : Nat) : Dk := openD (kC s r) (s.size - n) n
theorem kD_now (s r : ByteArray) (n : Nat) (hn : n ≤ s.size) : (kD s r n).now = oneF (s.extract 0 n) ∧ (kD s r n).dead = false ∧ (kD s r n).loose = [] ∧ (kD s r n).unsure = 0 ∧ (kD s r n).changes ≤ 4 := by
  unfold kD openD
  rw [remC_C]
  split
  · refine ⟨cut_one s n hn, rfl, rfl, rfl, by show 4 ≤ 4; decide⟩
  · have e : s.extract 0 n = s := by
      have : n = s.size := by omega
      rw [this]
      apply bytes_ext
      rw [Wi.ext_list, List.drop_zero]
      exact List.take_of_length_le (by rw [Wi.bytes_len]; exact Nat.le_refl _)
    rw [e]
    exact ⟨rfl, rfl, rfl, rfl, by show 3 ≤ 4; decide⟩
theorem openC (base d : Nat) (s r : ByteArray) (W : World) (hd : IsDisk W base d (kC s r)) (hs : s.size ≤ 4500) (hr : r.size ≤ 1000) : Calls Try.prog 10 #[.pointer (some ⟨d, 0, none⟩)] W (OpenPost base d W (loadG s d) (s.size - (loadG s d).len) (kD s r (loadG s d).len)) := by
  have hl := (load_again s d hs).1
  have h := open_any base d (kC s r) (loadG s d) W hd rfl ⟨fits_two s r _ (by omega) (by omega) (by decide), by show 0 ≤ _; decide, by show 2 ≤ _; decide, by show 0 ≤ _; decide⟩ (by rw [remC_C]; exact ⟨fits_one s _ (by omega) (by decide), by show 1 ≤ _; decide, by show 3 ≤ _; decide, by show 1 ≤ _; decide⟩) (by rw [remC_C, readC1]; exact fun W b hW => load_any base b d s W hW hs) (by rw [remC_C, readC1]; exact hl) (by rw [remC_C, readC1]; omega) (by
    rw [remC_C]
    have e : doF (kC1 s r).now (cutC (loadG s d).len) = oneF (s.extract 0 (loadG s d).len) := cut_one s _ hl
    rw [e]
    exact fits_one _ _ (by rw [ext_size s _ hl]; omega) (by decide))
  rw [remC_C, readC1] at h
  exact h
theorem remC_D (s r : ByteArray) (n : Nat) (hn : n ≤ s.size) : nextD (kD s r n) remC = kD s r n := by
  obtain ⟨h1, h2, _⟩ := kD_now s r n hn
  have e : ansF (kD s r n) remC = 2 := by
    have e : ansF (kD s r n) remC = refF (kD s r n).now remC := by unfold ansF; rw [h2]; rfl
    rw [e, remC, h1, refF_rem _ _ new_name, get_one_n]
    rfl
  rw [nextD, if_neg (by rw [e]; decide)]
theorem openD2 (base d : Nat) (s r : ByteArray) (W : World) (hd : IsDisk W base d (kD s r (loadG s d).len)) (hs : s.size ≤ 4500) : Calls Try.prog 10 #[.pointer (some ⟨d, 0, none⟩)] W (OpenPost base d W (loadG s d) 0 (openD (kD s r (loadG s d).len) 0 (loadG s d).len)) := by
  obtain ⟨hl, ha⟩ := load_again s d hs
  obtain ⟨h1, h2, h3, h4, h5⟩ := kD_now s r (loadG s d).len hl
  have hR := remC_D s r (loadG s d).len hl
  have hz := ext_size s (loadG s d).len hl
  have hr : readS (kD s r (loadG s d).len).now ⟨#[108, 111, 103]⟩ = s.extract 0 (loadG s d).len := by
    unfold readS
    rw [h1, get_one_l]
    rfl
  have sm : Small (kD s r (loadG s d).len) := ⟨by rw [h1]; exact fits_one _ _ (by omega) (by decide), by rw [h4]; decide, by omega, by rw [h3]; decide⟩
  have hL : ∀ W b, IsLog W base b (newL d) → Calls Try.prog 40 #[.pointer (some ⟨b, 0, none⟩), .string (s.extract 0 (loadG s d).len)] W fun e w' => e = .returned (.tuple #[]) ∧ IsLog w' base b (loadG s d) ∧ LT base b W w' := fun W b hW => by
    have := load_any base b d (s.extract 0 (loadG s d).len) W hW (by omega)
    rw [ha] at this
    exact this
  generalize loadG s d = G at *
  generalize kD s r G.len = K at *
  have h := open_any base d K G W hd h2 sm (by rw [hR]; exact sm) (by rw [hR, hr]; exact hL) (by rw [hR, hr, hz]; exact Nat.le_refl _) (by rw [hR, hr]; omega) (by
    rw [hR, h1, cut_one _ _ (by omega)]
    exact fits_one _ _ (by rw [ext_size _ _ (by omega)]; omega) (by decide))
  rw [hR, hr, hz, Nat.sub_self] at h
  exact h
theorem readN (base d : Nat) (s r : ByteArray) (n : Nat) (hn : n ≤ s.size) (W : World) (hd : IsDisk W base d (kD s r n)) : Calls Try.prog 32 #[.pointer (some ⟨d, 0, none⟩), .string ⟨#[108, 111, 103, 46, 110, 101, 119]⟩] W fun e w' => e = .returned (.tuple #[.string ⟨#[]⟩, .int .i64 2]) ∧ W.grownBy w' none := by
  obtain ⟨h1, h2, _⟩ := kD_now s r n hn
  have h := read_any base d (kD s r n) ⟨#[108, 111, 103, 46, 110, 101, 119]⟩ W hd h2 new_name (by decide)
  have e1 : readS (kD s r n).now ⟨#[108, 111, 103, 46, 110, 101, 119]⟩ = ⟨#[]⟩ := by unfold readS; rw [h1, get_one_n]; rfl
  have e2 : readE (kD s r n).now ⟨#[108, 111, 103, 46, 110, 101, 119]⟩ = 2 := by unfold readE; rw [h1, get_one_n]; rfl
  rw [e1, e2] at h
  exact h
end Go.Proofs.Ytddnjlnnkeiplaa
namespace Go.Proofs.Ytddnjlnnkeiplaa
open Go.RowKit Go.Maps
def fsF : Option ByteArray → FS
  | none => []
  | some f => oneF f
/-- The disk. -/
def Dn (F : Option ByteArray) (c : Nat) : Dk := ⟨fsF F, fsF F, [], 0, c, false⟩
theorem fits_fs (F : Option ByteArray) (B : Nat) (h : (F.getD ⟨#[]⟩).size ≤ B) (hB : 7 ≤ B) : Fits (fsF F) B := by
  cases F with
  | none => exact fits_nil _
  | some f => exact fits_one f B h hB
theorem small_dn (F : Option ByteArray) (c : Nat) (h : (F.getD ⟨#[]⟩).size ≤ 500000) (hc : c ≤ 1000) : Small (Dn F c) := ⟨fits_fs F _ (by omega) (by decide), by show 0 ≤ _; decide, by show c ≤ _; omega, by show 0 ≤ _; decide⟩
theorem do_put (F : Option ByteArray) (s : ByteArray) : doF (fsF F) (putC s) = oneF (F.getD ⟨#[]⟩ ++ s) := by
  cases F with
  | none => rfl
  | some f =>
    have e : doF (fsF (some f)) (putC s) = putF (oneF f) ⟨#[108, 111, 103]⟩ (f ++ s) := by
      show putF (oneF f) _ ((getF (oneF f) ⟨#[108, 111, 103]⟩).getD ⟨#[]⟩ ++ s) = _
      rw [get_one_l]
      rfl
    rw [e]
    unfold putF delF oneF
    rw [List.filter_cons, same_ll]
    rfl
theorem put_dn (F : Option ByteArray) (c : Nat) (s : ByteArray) : syncD (stepD (Dn F c) (putC s)) = Dn (some (F.getD ⟨#[]⟩ ++ s)) (c + 1) := by
  unfold syncD stepD
  have e : doF (Dn F c).now (putC s) = oneF (F.getD ⟨#[]⟩ ++ s) := do_put F s
  rw [e]
  rfl
theorem rem_dn (F : Option ByteArray) (c : Nat) : nextD (Dn F c) remC = Dn F c := by
  have hg : getF (fsF F) ⟨#[108, 111, 103, 46, 110, 101, 119]⟩ = none := by
    cases F with
    | none => rfl
    | some f => exact get_one_n f
  have e : ansF (Dn F c) remC = 2 := by
    have e : ansF (Dn F c) remC = refF (fsF F) remC := rfl
    rw [e, remC, refF_rem _ _ new_name, hg]
    rfl
  rw [nextD, if_neg (by rw [e]; decide)]
theorem read_dn (F : Option ByteArray) (c : Nat) : readS (Dn F c).now ⟨#[108, 111, 103]⟩ = F.getD ⟨#[]⟩ := by
  unfold readS
  cases F with
  | none => rfl
  | some f =>
    have : getF (Dn (some f) c).now ⟨#[108, 111, 103]⟩ = some f := get_one_l f
    rw [this]
/-- An opening that cuts nothing leaves the disk. -/
theorem open_dn (base d : Nat) (F : Option ByteArray) (c : Nat) (G : Lg) (W : World) (hd : IsDisk W base d (Dn F c)) (hF : (F.getD ⟨#[]⟩).size ≤ 500000) (hc : c ≤ 1000) (hG : G.len = (F.getD ⟨#[]⟩).size)
    (hl : ∀ W b, IsLog W base b (newL d) → Calls Try.prog 40 #[.pointer (some ⟨b, 0, none⟩), .string (F.getD ⟨#[]⟩)] W fun e w' => e = .returned (.tuple #[]) ∧ IsLog w' base b G ∧ LT base b W w') :
    Calls Try.prog 10 #[.pointer (some ⟨d, 0, none⟩)] W (OpenPost base d W G 0 (Dn F c)) := by
  have sm := small_dn F c hF hc
  have hR := rem_dn F c
  have hr := read_dn F c
  have h := open_any base d (Dn F c) G W hd rfl sm (by rw [hR]; exact sm) (by rw [hR, hr]; exact hl) (by rw [hR, hr, hG]; exact Nat.le_refl _) (by rw [hR, hr]; omega) (by
    rw [hR]
    have : Fits (doF (Dn F c).now (cutC G.len)) 1000000 := (fits_do (C := 10) (show Fits (Dn F c).now 500000 from fits_fs F _ (by omega) (by decide)) (cutC G.len) (by show 0 ≤ 10; decide) (by show 3 ≤ _; decide) (by show 0 ≤ _; decide)).mono (by decide)
    exact this)
  have e1 : (readS (nextD (Dn F c) remC).now ⟨#[108, 111, 103]⟩).size - G.len = 0 := by rw [hR, hr, hG, Nat.sub_self]
  have e2 : openD (Dn F c) 0 G.len = Dn F c := by
    unfold openD
    rw [hR]
    rfl
  rw [e1, e2] at h
  exact h
theorem crash_dn (base d : Nat) (F : Option ByteArray) (c : Nat) (keep torn : Int) (W : World) (hd : IsDisk W base d (Dn F c)) (hF : (F.getD ⟨#[]⟩).size ≤ 100000) (ht : torn ≤ 9223372036854775807) :
    Calls Try.prog 16 #[.pointer (some ⟨d, 0, none⟩), .int .i64 keep, .int .i64 torn] W fun e w' => e = .returned (.tuple #[]) ∧ IsDisk w' base d { Dn F c with dead := true } ∧ W.grownBy w' (some d) :=
  crash_any base d (Dn F c) keep torn okL W hd rfl (fun i h => absurd h (Nat.not_lt_zero _)) (by show 0 ≤ 63; decide) ht (fits_fs F _ (by omega) (by decide))
theorem up_dn (base d : Nat) (F : Option ByteArray) (c : Nat) (W : World) (hd : IsDisk W base d { Dn F c with dead := true }) : Calls Try.prog 17 #[.pointer (some ⟨d, 0, none⟩)] W fun e w' => e = .returned (.bool true) ∧ IsDisk w' base d (Dn F c) ∧ W.grownBy w' (some d) :=
  up_any base d { Dn F c with dead := true } W hd rfl
end Go.Proofs.Ytddnjlnnkeiplaa
namespace Go.Proofs.Ytddnjlnnkeiplaa
open Go.RowKit Go.Maps
def newN : ByteArray := ⟨#[108, 111, 103, 46, 110, 101, 119]⟩
def movC : Chg := ⟨2, ⟨#[108, 111, 103, 46, 110, 101, 119]⟩, ⟨#[]⟩, ⟨#[108, 111, 103]⟩, 0⟩
def twoO (F : Option ByteArray) (s : ByteArray) : FS := match F with
  | none => [(⟨#[108, 111, 103, 46, 110, 101, 119]⟩, s)]
  | some f => twoF f s
theorem do_new (F : Option ByteArray) (s : ByteArray) : doF (fsF F) (wrC ⟨#[108, 111, 103, 46, 110, 101, 119]⟩ s) = twoO F s := by
  cases F with
  | none => rfl
  | some f => exact put_two f s
theorem get_twoO (F : Option ByteArray) (s : ByteArray) : getF (twoO F s) ⟨#[108, 111, 103, 46, 110, 101, 119]⟩ = some s := by
  cases F with
  | none =>
    unfold twoO getF
    rw [List.find?_cons, same_nn]
    rfl
  | some f => exact get_two_n f s
theorem do_mov (F : Option ByteArray) (s : ByteArray) : doF (twoO F s) movC = oneF s := by
  have e : doF (twoO F s) movC = putF (delF (twoO F s) ⟨#[108, 111, 103, 46, 110, 101, 119]⟩) ⟨#[108, 111, 103]⟩ s := by
    unfold doF movC
    simp only [get_twoO]
    rfl
  rw [e]
  cases F with
  | none =>
    unfold twoO delF putF
    simp only [List.filter_cons, same_nn]
    rfl
  | some f =>
    unfold twoO twoF delF putF delF
    simp only [List.filter_cons, same_ln, same_nn]
    rfl
theorem fits_twoO (F : Option ByteArray) (s : ByteArray) (B : Nat) (h : (F.getD ⟨#[]⟩).size ≤ B) (hs : s.size ≤ B) (hB : 7 ≤ B) : Fits (twoO F s) B := by
  cases F with
  | none =>
    refine ⟨by show 1 ≤ B; omega, ?_, ?_⟩
    · intro p hp
      obtain rfl := List.mem_singleton.1 hp
      exact hs
    · intro p hp
      obtain rfl := List.mem_singleton.1 hp
      exact hB
  | some f => exact fits_two f s B h hs hB
def kW (F : Option ByteArray) (c : Nat) (s : ByteArray) : Dk := ⟨twoO F s, twoO F s, [], 0, c + 1, false⟩
theorem ref_mov (l : FS) (s : ByteArray) (h : getF l ⟨#[108, 111, 103, 46, 110, 101, 119]⟩ = some s) : refF l movC = 0 := by
  unfold refF movC
  simp only [h]
  rw [if_neg (by rw [new_name, log_name]; simp)]
  simp [same_ln]
theorem move_dn (F : Option ByteArray) (c : Nat) (s : ByteArray) : syncD (nextD (kW F c s) movC) = Dn (some s) (c + 2) ∧ ansF (kW F c s) movC = 0 ∧ nextD (kW F c s) movC = stepD (kW F c s) movC := by
  have e : ansF (kW F c s) movC = 0 := by
    have e : ansF (kW F c s) movC = refF (twoO F s) movC := rfl
    rw [e]
    exact ref_mov _ s (get_twoO F s)
  have e2 : nextD (kW F c s) movC = stepD (kW F c s) movC := by rw [nextD, if_pos e]
  refine ⟨?_, e, e2⟩
  rw [e2]
  unfold syncD stepD
  have e3 : doF (kW F c s).now movC = oneF s := do_mov F s
  rw [e3]
  rfl
set_option maxRecDepth 100000 in
set_option maxHeartbeats 1000000 in
theorem lay_dn (base b : Nat) (g : Lg) (F : Option ByteArray) (c : Nat) (s : ByteArray) (w : World) (h : IsLog w base b g) (hd : IsDisk w base g.d (Dn F c)) (hF : (F.getD ⟨#[]⟩).size ≤ 500000) (hc : c ≤ 1000) (hs : s.size ≤ 500000) :
    Calls Try.prog 46 #[.pointer (some ⟨b, 0, none⟩), .string s] w fun e w' => e = .returned (.int .i64 0) ∧ IsLog w' base b g ∧ IsDisk w' base g.d (Dn (some s) (c + 2)) ∧ Tend base g.d w w' := by
  obtain ⟨m1, m2, m3⟩ := move_dn F c s
  have C1 : Hid (Calls Try.prog 30 #[.pointer (some ⟨g.d, 0, none⟩), .string ⟨#[108, 111, 103, 46, 110, 101, 119]⟩, .string s] w fun e w' => e = .returned (.int .i64 0) ∧ IsDisk w' base g.d (stepD (Dn F c) (wrC ⟨#[108, 111, 103, 46, 110, 101, 119]⟩ s)) ∧ Tend base g.d w w') := write_any base g.d (Dn F c) _ s w hd rfl (small_dn F c hF hc) new_name (by decide) (by omega)
  have C2 : Hid (∀ W, IsDisk W base g.d (stepD (Dn F c) (wrC ⟨#[108, 111, 103, 46, 110, 101, 119]⟩ s)) → Calls Try.prog 31 #[.pointer (some ⟨g.d, 0, none⟩)] W fun e w' => e = .returned (.int .i64 0) ∧ IsDisk w' base g.d (kW F c s) ∧ W.grownBy w' (some g.d)) := fun W hW => by
    have e : syncD (stepD (Dn F c) (wrC ⟨#[108, 111, 103, 46, 110, 101, 119]⟩ s)) = kW F c s := by
      unfold syncD stepD kW
      have e : doF (Dn F c).now (wrC ⟨#[108, 111, 103, 46, 110, 101, 119]⟩ s) = twoO F s := do_new F s
      rw [e]
      rfl
    have := sync_any base g.d _ W hW rfl (by
      show Fits (doF (fsF F) (wrC ⟨#[108, 111, 103, 46, 110, 101, 119]⟩ s)) 1000000
      rw [do_new]
      exact fits_twoO F s _ (by omega) (by omega) (by decide))
    rw [e] at this
    exact this
  have C3 : Hid (∀ W, IsDisk W base g.d (kW F c s) → Calls Try.prog 65 #[.pointer (some ⟨g.d, 0, none⟩), .string ⟨#[108, 111, 103, 46, 110, 101, 119]⟩, .string ⟨#[108, 111, 103]⟩] W fun e w' => e = .returned (.int .i64 0) ∧ IsDisk w' base g.d (stepD (kW F c s) movC) ∧ Tend base g.d W w') := fun W hW => by
    have := move_all base g.d (kW F c s) ⟨#[108, 111, 103, 46, 110, 101, 119]⟩ ⟨#[108, 111, 103]⟩ W hW ⟨fits_twoO F s _ (by omega) (by omega) (by decide), by show 0 ≤ _; decide, by show c + 1 ≤ _; omega, by show 0 ≤ _; decide⟩ ⟨by decide, by decide, by decide, by decide, by decide⟩
    change Calls Try.prog 65 _ W fun e w' => e = .returned (.int .i64 (ansF (kW F c s) movC : Nat)) ∧ IsDisk w' base g.d (nextD (kW F c s) movC) ∧ Tend base g.d W w' at this
    rw [m2, m3] at this
    exact this
  have C4 : Hid (∀ W, IsDisk W base g.d (stepD (kW F c s) movC) → Calls Try.prog 31 #[.pointer (some ⟨g.d, 0, none⟩)] W fun e w' => e = .returned (.int .i64 0) ∧ IsDisk w' base g.d (Dn (some s) (c + 2)) ∧ W.grownBy w' (some g.d)) := fun W hW => by
    have := sync_any base g.d _ W hW rfl (by
      show Fits (doF (twoO F s) movC) 1000000
      rw [do_mov]
      exact fits_one s _ (by omega) (by decide))
    rw [← m3, m1] at this
    exact this
  have HL := hid h
  have BD := hid hd.blk
  have hbd : base ≤ g.d := hd.1
  obtain ⟨_, vr, vw, hb, _, _⟩ := h
  have c0 := hb.g7.1.1
  clear hb hd hs hF hc m1 m2 m3
  generalize stepD (Dn F c) (wrC ⟨#[108, 111, 103, 46, 110, 101, 119]⟩ s) = k1 at *
  generalize stepD (kW F c s) movC = k3 at *
  generalize kW F c s = k2 at *
  generalize Dn (some s) (c + 2) = k4 at *
  go_enter Try.func46, Try.ntmps46
  go_wp2_with (first
    | (go_at_call 30; refine C1.out.mono ?_; rintro e w1 ⟨rfl, h1, t1⟩; have D1 := hid h1; obtain ⟨_, q1⟩ := BD.out; have L1 := hid (HL.out.keptD q1 t1); have T1 := hid t1; obtain ⟨_, vr1, vw1, hb1, _, _⟩ := L1.out; have e1 := hb1.g7.1.1; clear hb1 h1 t1 C1 q1)
    | (go_at_call 31; refine (C2.out _ D1.out).mono ?_; rintro e w2 ⟨rfl, h2, g2⟩; have D2 := hid h2; obtain ⟨_, q2⟩ := D1.out.blk; have L2 := hid (L1.out.keptD q2 (Tend.of_self (base := base) g2 hbd)); have T2 := hid (Tend.trans T1.out (Tend.of_self (base := base) g2 hbd)); obtain ⟨_, vr2, vw2, hb2, _, _⟩ := L2.out; have e2 := hb2.g7.1.1; clear hb2 h2 g2 C2 q2)
    | (go_at_call 65; refine (C3.out _ D2.out).mono ?_; rintro e w3 ⟨rfl, h3, t3⟩; have D3 := hid h3; obtain ⟨_, q3⟩ := D2.out.blk; have L3 := hid (L2.out.keptD q3 t3); have T3 := hid (Tend.trans T2.out t3); obtain ⟨_, vr3, vw3, hb3, _, _⟩ := L3.out; have e3 := hb3.g7.1.1; clear hb3 h3 t3 C3 q3)
    | (go_at_call 31; refine (C4.out _ D3.out).mono ?_; rintro e w4 ⟨rfl, h4, g4⟩; have D4 := hid h4; obtain ⟨_, q4⟩ := D3.out.blk; have L4 := hid (L3.out.keptD q4 (Tend.of_self (base := base) g4 hbd)); have T4 := hid (Tend.trans T3.out (Tend.of_self (base := base) g4 hbd)); clear h4 g4 C4 q4))
  go_ret
  exact ⟨rfl, L4.out, D4.out, T4.out⟩
end Go.Proofs.Ytddnjlnnkeiplaa
