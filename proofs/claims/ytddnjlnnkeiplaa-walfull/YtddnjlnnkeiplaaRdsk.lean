/-
  WalReads' disk: a file with any bytes, and one that was not finished.
-/
import Derived.Test.YtddnjlnnkeiplaaPref
import Derived.Test.YtddnjlnnkeiplaaLawake
namespace Go.Proofs.Ytddnjlnnkeiplaa
open Go.RowKit Go.Maps
def oneF (s : ByteArray) : FS := [(⟨#[108, 111, 103]⟩, s)]
def twoF (s r : ByteArray) : FS := [(⟨#[108, 111, 103]⟩, s), (⟨#[108, 111, 103, 46, 110, 101, 119]⟩, r)]
theorem same_ll : sameB ⟨#[108, 111, 103]⟩ ⟨#[108, 111, 103]⟩ = true := by decide +kernel
theorem same_ln : sameB ⟨#[108, 111, 103]⟩ ⟨#[108, 111, 103, 46, 110, 101, 119]⟩ = false := by decide +kernel
theorem same_nl : sameB ⟨#[108, 111, 103, 46, 110, 101, 119]⟩ ⟨#[108, 111, 103]⟩ = false := by decide +kernel
theorem same_nn : sameB ⟨#[108, 111, 103, 46, 110, 101, 119]⟩ ⟨#[108, 111, 103, 46, 110, 101, 119]⟩ = true := by decide +kernel
def wrC (n s : ByteArray) : Chg := ⟨1, n, s, ⟨#[]⟩, 0⟩
theorem put_one (s : ByteArray) : doF [] (wrC ⟨#[108, 111, 103]⟩ s) = oneF s := rfl
theorem before_nl : (keyL ⟨#[108, 111, 103, 46, 110, 101, 119]⟩).before (keyL ⟨#[108, 111, 103]⟩) = false := by decide +kernel
theorem put_two (s r : ByteArray) : doF (oneF s) (wrC ⟨#[108, 111, 103, 46, 110, 101, 119]⟩ r) = twoF s r := by
  show putF (oneF s) ⟨#[108, 111, 103, 46, 110, 101, 119]⟩ r = _
  have e : delF (oneF s) ⟨#[108, 111, 103, 46, 110, 101, 119]⟩ = oneF s := by
    unfold delF oneF
    rw [List.filter_cons, same_ln]
    rfl
  unfold putF
  rw [e]
  unfold oneF insF
  rw [before_nl]
  rfl
theorem get_two_n (s r : ByteArray) : getF (twoF s r) ⟨#[108, 111, 103, 46, 110, 101, 119]⟩ = some r := by
  unfold twoF getF
  rw [List.find?_cons, same_ln]
  simp only
  rw [List.find?_cons, same_nn]
  rfl
theorem get_one_l (s : ByteArray) : getF (oneF s) ⟨#[108, 111, 103]⟩ = some s := by
  unfold oneF getF
  rw [List.find?_cons, same_ll]
  rfl
theorem get_one_n (s : ByteArray) : getF (oneF s) ⟨#[108, 111, 103, 46, 110, 101, 119]⟩ = none := by
  unfold oneF getF
  rw [List.find?_cons, same_ln]
  rfl
theorem del_two (s r : ByteArray) : doF (twoF s r) remC = oneF s := by
  have e : doF (twoF s r) remC = delF (twoF s r) ⟨#[108, 111, 103, 46, 110, 101, 119]⟩ := by
    unfold doF remC
    simp only [get_two_n]
    rfl
  rw [e]
  unfold delF twoF
  rw [List.filter_cons, same_ln, List.filter_cons, same_nn]
  rfl
theorem cut_one (s : ByteArray) (n : Nat) (hn : n ≤ s.size) : doF (oneF s) (cutC n) = oneF (s.extract 0 n) := by
  have e : doF (oneF s) (cutC n) = putF (oneF s) ⟨#[108, 111, 103]⟩ (s.extract 0 (min (n : Int).toNat s.size)) := by
    unfold doF cutC
    simp only [get_one_l]
    rfl
  have e2 : min (n : Int).toNat s.size = n := by omega
  rw [e, e2]
  unfold putF delF oneF
  rw [List.filter_cons, same_ll]
  rfl
theorem fits_one (s : ByteArray) (B : Nat) (h : s.size ≤ B) (hB : 7 ≤ B) : Fits (oneF s) B := by
  refine ⟨by show 1 ≤ B; omega, ?_, ?_⟩
  · intro p hp
    obtain rfl := List.mem_singleton.1 hp
    exact h
  · intro p hp
    obtain rfl := List.mem_singleton.1 hp
    show 3 ≤ B
    omega
theorem fits_two (s r : ByteArray) (B : Nat) (h : s.size ≤ B) (hr : r.size ≤ B) (hB : 7 ≤ B) : Fits (twoF s r) B := by
  refine ⟨by show 2 ≤ B; omega, ?_, ?_⟩
  · intro p hp
    rcases List.mem_cons.1 hp with rfl | hp
    · exact h
    · obtain rfl := List.mem_singleton.1 hp
      exact hr
  · intro p hp
    rcases List.mem_cons.1 hp with rfl | hp
    · show 3 ≤ B
      omega
    · obtain rfl := List.mem_singleton.1 hp
      exact hB
def kA (s : ByteArray) : Dk := ⟨oneF s, [], [wrC ⟨#[108, 111, 103]⟩ s], 1, 1, false⟩
def kB (s r : ByteArray) : Dk := ⟨twoF s r, [], [wrC ⟨#[108, 111, 103]⟩ s, wrC ⟨#[108, 111, 103, 46, 110, 101, 119]⟩ r], 2, 2, false⟩
def kC (s r : ByteArray) : Dk := ⟨twoF s r, twoF s r, [], 0, 2, false⟩
def kC1 (s r : ByteArray) : Dk := ⟨oneF s, twoF s r, [remC], 1, 3, false⟩
theorem writeA (base d : Nat) (s : ByteArray) (W : World) (hd : IsDisk W base d k0) (hs : s.size ≤ 4500) : Calls Try.prog 30 #[.pointer (some ⟨d, 0, none⟩), .string ⟨#[108, 111, 103]⟩, .string s] W fun e w' => e = .returned (.int .i64 0) ∧ IsDisk w' base d (kA s) ∧ Tend base d W w' :=
  write_any base d k0 ⟨#[108, 111, 103]⟩ s W hd rfl small0 log_name (by decide) (by omega)
theorem smallA (s : ByteArray) (hs : s.size ≤ 4500) : Small (kA s) := ⟨fits_one s _ (by omega) (by decide), by show 1 ≤ _; decide, by show 1 ≤ _; decide, by show 1 ≤ _; decide⟩
theorem writeB (base d : Nat) (s r : ByteArray) (W : World) (hd : IsDisk W base d (kA s)) (hs : s.size ≤ 4500) (hr : r.size ≤ 1000) : Calls Try.prog 30 #[.pointer (some ⟨d, 0, none⟩), .string ⟨#[108, 111, 103, 46, 110, 101, 119]⟩, .string r] W fun e w' => e = .returned (.int .i64 0) ∧ IsDisk w' base d (kB s r) ∧ Tend base d W w' := by
  have h := write_any base d (kA s) ⟨#[108, 111, 103, 46, 110, 101, 119]⟩ r W hd rfl (smallA s hs) new_name (by decide) (by omega)
  have e : stepD (kA s) ⟨1, ⟨#[108, 111, 103, 46, 110, 101, 119]⟩, r, ⟨#[]⟩, 0⟩ = kB s r := by
    unfold stepD kB
    have e2 : doF (kA s).now ⟨1, ⟨#[108, 111, 103, 46, 110, 101, 119]⟩, r, ⟨#[]⟩, 0⟩ = twoF s r := put_two s r
    rw [e2]
    rfl
  rw [e] at h
  exact h
theorem syncC (base d : Nat) (s r : ByteArray) (W : World) (hd : IsDisk W base d (kB s r)) (hs : s.size ≤ 4500) (hr : r.size ≤ 1000) : Calls Try.prog 31 #[.pointer (some ⟨d, 0, none⟩)] W fun e w' => e = .returned (.int .i64 0) ∧ IsDisk w' base d (kC s r) ∧ W.grownBy w' (some d) :=
  sync_any base d (kB s r) W hd rfl (fits_two s r _ (by omega) (by omega) (by decide))
theorem remC_C (s r : ByteArray) : nextD (kC s r) remC = kC1 s r := by
  have e : ansF (kC s r) remC = 0 := by
    have e : ansF (kC s r) remC = refF (twoF s r) remC := rfl
    rw [e, remC, refF_rem _ _ new_name, get_two_n]
    rfl
  rw [nextD, if_pos e]
  unfold stepD kC1
  have e2 : doF (kC s r).now remC = oneF s := del_two s r
  rw [e2]
  rfl
theorem readC1 (s r : ByteArray) : readS (kC1 s r).now ⟨#[108, 111, 103]⟩ = s := by
  unfold readS
  have : getF (kC1 s r).now ⟨#[108, 111, 103]⟩ = some s := get_one_l s
  rw [this]
  rfl
/-- The disk behind the opening. -/
def kD (s r : ByteArray) (n : Nat) : Dk := openD (kC s r) (s.size - n) n
theorem kD_now (s r : ByteArray) (n : Nat) (hn : n ≤ s.size) : (kD s r n).now = oneF (s.extract 0 n) ∧ (kD s r n).dead = false ∧ (kD s r n).loose = [] ∧ (kD s r n).unsure = 0 ∧ (kD s r n).changes ≤ 4 := by
  unfold kD openD
  rw [remC_C]
  split
  · refine ⟨cut_one s n hn, rfl, rfl, rfl, by show 4 ≤ 4; decide⟩
  · have e : s.extract 0 n = s := by
      have : n = s.size := by omega
      rw [this]
      apply bytes_ext
      rw [Wi.ext_list, List.drop_zero]
      exact List.take_of_length_le (by rw [Wi.bytes_len]; exact Nat.le_refl _)
    rw [e]
    exact ⟨rfl, rfl, rfl, rfl, by show 3 ≤ 4; decide⟩
theorem openC (base d : Nat) (s r : ByteArray) (W : World) (hd : IsDisk W base d (kC s r)) (hs : s.size ≤ 4500) (hr : r.size ≤ 1000) : Calls Try.prog 10 #[.pointer (some ⟨d, 0, none⟩)] W (OpenPost base d W (loadG s d) (s.size - (loadG s d).len) (kD s r (loadG s d).len)) := by
  have hl := (load_again s d hs).1
  have h := open_any base d (kC s r) (loadG s d) W hd rfl ⟨fits_two s r _ (by omega) (by omega) (by decide), by show 0 ≤ _; decide, by show 2 ≤ _; decide, by show 0 ≤ _; decide⟩ (by rw [remC_C]; exact ⟨fits_one s _ (by omega) (by decide), by show 1 ≤ _; decide, by show 3 ≤ _; decide, by show 1 ≤ _; decide⟩) (by rw [remC_C, readC1]; exact fun W b hW => load_any base b d s W hW hs) (by rw [remC_C, readC1]; exact hl) (by rw [remC_C, readC1]; omega) (by
    rw [remC_C]
    have e : doF (kC1 s r).now (cutC (loadG s d).len) = oneF (s.extract 0 (loadG s d).len) := cut_one s _ hl
    rw [e]
    exact fits_one _ _ (by rw [ext_size s _ hl]; omega) (by decide))
  rw [remC_C, readC1] at h
  exact h
theorem remC_D (s r : ByteArray) (n : Nat) (hn : n ≤ s.size) : nextD (kD s r n) remC = kD s r n := by
  obtain ⟨h1, h2, _⟩ := kD_now s r n hn
  have e : ansF (kD s r n) remC = 2 := by
    have e : ansF (kD s r n) remC = refF (kD s r n).now remC := by unfold ansF; rw [h2]; rfl
    rw [e, remC, h1, refF_rem _ _ new_name, get_one_n]
    rfl
  rw [nextD, if_neg (by rw [e]; decide)]
theorem openD2 (base d : Nat) (s r : ByteArray) (W : World) (hd : IsDisk W base d (kD s r (loadG s d).len)) (hs : s.size ≤ 4500) : Calls Try.prog 10 #[.pointer (some ⟨d, 0, none⟩)] W (OpenPost base d W (loadG s d) 0 (openD (kD s r (loadG s d).len) 0 (loadG s d).len)) := by
  obtain ⟨hl, ha⟩ := load_again s d hs
  obtain ⟨h1, h2, h3, h4, h5⟩ := kD_now s r (loadG s d).len hl
  have hR := remC_D s r (loadG s d).len hl
  have hz := ext_size s (loadG s d).len hl
  have hr : readS (kD s r (loadG s d).len).now ⟨#[108, 111, 103]⟩ = s.extract 0 (loadG s d).len := by
    unfold readS
    rw [h1, get_one_l]
    rfl
  have sm : Small (kD s r (loadG s d).len) := ⟨by rw [h1]; exact fits_one _ _ (by omega) (by decide), by rw [h4]; decide, by omega, by rw [h3]; decide⟩
  have hL : ∀ W b, IsLog W base b (newL d) → Calls Try.prog 40 #[.pointer (some ⟨b, 0, none⟩), .string (s.extract 0 (loadG s d).len)] W fun e w' => e = .returned (.tuple #[]) ∧ IsLog w' base b (loadG s d) ∧ LT base b W w' := fun W b hW => by
    have := load_any base b d (s.extract 0 (loadG s d).len) W hW (by omega)
    rw [ha] at this
    exact this
  generalize loadG s d = G at *
  generalize kD s r G.len = K at *
  have h := open_any base d K G W hd h2 sm (by rw [hR]; exact sm) (by rw [hR, hr]; exact hL) (by rw [hR, hr, hz]; exact Nat.le_refl _) (by rw [hR, hr]; omega) (by
    rw [hR, h1, cut_one _ _ (by omega)]
    exact fits_one _ _ (by rw [ext_size _ _ (by omega)]; omega) (by decide))
  rw [hR, hr, hz, Nat.sub_self] at h
  exact h
theorem readN (base d : Nat) (s r : ByteArray) (n : Nat) (hn : n ≤ s.size) (W : World) (hd : IsDisk W base d (kD s r n)) : Calls Try.prog 32 #[.pointer (some ⟨d, 0, none⟩), .string ⟨#[108, 111, 103, 46, 110, 101, 119]⟩] W fun e w' => e = .returned (.tuple #[.string ⟨#[]⟩, .int .i64 2]) ∧ W.grownBy w' none := by
  obtain ⟨h1, h2, _⟩ := kD_now s r n hn
  have h := read_any base d (kD s r n) ⟨#[108, 111, 103, 46, 110, 101, 119]⟩ W hd h2 new_name (by decide)
  have e1 : readS (kD s r n).now ⟨#[108, 111, 103, 46, 110, 101, 119]⟩ = ⟨#[]⟩ := by unfold readS; rw [h1, get_one_n]; rfl
  have e2 : readE (kD s r n).now ⟨#[108, 111, 103, 46, 110, 101, 119]⟩ = 2 := by unfold readE; rw [h1, get_one_n]; rfl
  rw [e1, e2] at h
  exact h
end Go.Proofs.Ytddnjlnnkeiplaa
