/-
  Unlike trees have unlike bytes.
-/
import Derived.Test.YtdodammplhlihaaDoorEn
import Derived.Test.YtdodammplhlihaaDoorSm
namespace Go.Proofs.YtdodammplhlihaaDoor
open Go.RowKit
theorem numL_inj {a b k : Nat} (h : numL a k = numL b k) (ha : a < 2 ^ (8 * k)) (hb : b < 2 ^ (8 * k)) : a = b := by
  have e : numS a k = numS b k := by unfold numS; rw [h]
  have h1 := le_num a k k (Nat.le_refl _)
  have h2 := le_num b k k (Nat.le_refl _)
  rw [e, h2, Nat.mod_eq_of_lt ha, Nat.mod_eq_of_lt hb] at h1
  exact h1.symm
theorem n64_inj {a b : Int} (h : n64 a = n64 b) (a0 : -9223372036854775808 ≤ a) (a1 : a ≤ 9223372036854775807) (b0 : -9223372036854775808 ≤ b) (b1 : b ≤ 9223372036854775807) : a = b := by
  unfold n64 at h
  omega
theorem txL_inj {s t : ByteArray} {A B : List UInt8} (hs : s.size ≤ 100) (ht : t.size ≤ 100) (h : txL s ++ A = txL t ++ B) : s = t ∧ A = B := by
  unfold txL at h
  rw [List.append_assoc, List.append_assoc] at h
  obtain ⟨h1, h2⟩ := List.append_inj h (by rw [numL_len, numL_len])
  have e := numL_inj h1 (by omega) (by omega)
  obtain ⟨h3, h4⟩ := List.append_inj h2 (by rw [bytes_len, bytes_len, e])
  exact ⟨bytes_ext h3, h4⟩
theorem headL_inj {k t n k' t' n' : Int} {s s' : ByteArray} {c c' : Nat} {A B : List UInt8} (h1 : Bnd k t s n) (h2 : Bnd k' t' s' n') (hc : c ≤ 255) (hc' : c' ≤ 255) (h : headL k t s n c ++ A = headL k' t' s' n' c' ++ B) : k = k' ∧ t = t' ∧ s = s' ∧ n = n' ∧ c = c' ∧ A = B := by
  unfold headL at h
  simp only [List.append_assoc] at h
  have b1 := h1.k0
  have b2 := h1.k1
  have b3 := h1.t0
  have b4 := h1.t1
  have d1 := h2.k0
  have d2 := h2.k1
  have d3 := h2.t0
  have d4 := h2.t1
  have m1 : n64 k < 2 ^ (8 * 1) := by unfold n64; omega
  have m2 : n64 t < 2 ^ (8 * 1) := by unfold n64; omega
  have m3 : n64 k' < 2 ^ (8 * 1) := by unfold n64; omega
  have m4 : n64 t' < 2 ^ (8 * 1) := by unfold n64; omega
  have m5 : n64 n < 2 ^ (8 * 8) := n64_lt n
  have m6 : n64 n' < 2 ^ (8 * 8) := n64_lt n'
  obtain ⟨e1, h⟩ := List.append_inj h (by rw [numL_len, numL_len])
  obtain ⟨e2, h⟩ := List.append_inj h (by rw [numL_len, numL_len])
  obtain ⟨e3, h⟩ := txL_inj h1.s1 h2.s1 h
  obtain ⟨e4, h⟩ := List.append_inj h (by rw [numL_len, numL_len])
  obtain ⟨e5, h⟩ := List.append_inj h (by rw [numL_len, numL_len])
  exact ⟨n64_inj (numL_inj e1 m1 m3) (by omega) (by omega) (by omega) (by omega), n64_inj (numL_inj e2 m2 m4) (by omega) (by omega) (by omega) (by omega), e3, n64_inj (numL_inj e4 m5 m6) h1.n0 h1.n1 h2.n0 h2.n1, numL_inj e5 (by omega) (by omega), h⟩
mutual
theorem Nd.enc_inj : ∀ (x y : Nd) (A B : List UInt8), x.ok → y.ok → x.enc ++ A = y.enc ++ B → x = y ∧ A = B
  | .mk k t s n ks, .mk k' t' s' n' ks', A, B, hx, hy, h => by
    rw [Nd.ok] at hx hy
    rw [Nd.enc, Nd.enc, List.append_assoc, List.append_assoc] at h
    obtain ⟨rfl, rfl, rfl, rfl, e5, h⟩ := headL_inj hx.1 hy.1 hx.2.1 hy.2.1 h
    obtain ⟨e6, h9⟩ := Nd.encs_inj ks ks' A B hx.2.2 hy.2.2 e5 h
    rw [e6]
    exact ⟨rfl, h9⟩
theorem Nd.encs_inj : ∀ (x y : List Nd) (A B : List UInt8), Nd.oks x → Nd.oks y → x.length = y.length → Nd.encs x ++ A = Nd.encs y ++ B → x = y ∧ A = B
  | [], [], _, _, _, _, _, h => ⟨rfl, by simpa [Nd.encs] using h⟩
  | x :: r, y :: r', A, B, hx, hy, hl, h => by
    rw [Nd.oks] at hx hy
    rw [Nd.encs, Nd.encs, List.append_assoc, List.append_assoc] at h
    obtain ⟨e, h⟩ := Nd.enc_inj x y _ _ hx.1 hy.1 h
    obtain ⟨e', h⟩ := Nd.encs_inj r r' A B hx.2 hy.2 (by simpa using hl) h
    rw [e, e']
    exact ⟨rfl, h⟩
  | [], _ :: _, _, _, _, _, hl, _ => by simp at hl
  | _ :: _, [], _, _, _, _, hl, _ => by simp at hl
end
theorem enc_eqB (x y : Nd) (hx : x.ok) (hy : y.ok) : ((mkS x.enc).toList == (mkS y.enc).toList) = Nd.eqB x y := by
  have e1 : (mkS x.enc).toList = x.enc := by rw [ByteArray.toList_eq]; exact mkS_list _
  have e2 : (mkS y.enc).toList = y.enc := by rw [ByteArray.toList_eq]; exact mkS_list _
  rw [e1, e2]
  cases h : Nd.eqB x y with
  | true =>
    rw [(Nd.eqB_iff x y).1 h]
    simp
  | false =>
    cases h2 : (x.enc == y.enc) with
    | false => rfl
    | true =>
      have h3 : x.enc = y.enc := eq_of_beq h2
      have h4 := (Nd.enc_inj x y [] [] hx hy (by rw [h3])).1
      rw [(Nd.eqB_iff x y).2 h4] at h
      cases h
end Go.Proofs.YtdodammplhlihaaDoor
