/-
  A tree's bytes.
-/
import Derived.Test.YtdodammplhlihaaGreatDoorAb
import Derived.Test.YtdodammplhlihaaGreatDoorWUnEq
import Derived.Test.YtdodammplhlihaaGreatDoorWPutC
namespace Go.Proofs.YtdodammplhlihaaGreatDoor.Tr
open Go.RowKit
/-- A 64-bit number's bits as a number from 0 on. -/
def n64 (n : Int) : Nat := (n % 18446744073709551616).toNat
theorem n64_lt (n : Int) : n64 n < 18446744073709551616 := by unfold n64; omega
theorem n64_wrap (n : Int) : IntKind.u64.wrap n = ((n64 n : Nat) : Int) := by
  have e : IntKind.u64.wrap n = n % 18446744073709551616 := by
    simp only [IntKind.wrap, IntKind.bits, IntKind.signed]
    simp
  rw [e]
  unfold n64
  omega
theorem n64_small (n : Nat) (h : n ≤ 9223372036854775807) : n64 n = n := by unfold n64; omega
def txL (s : ByteArray) : List UInt8 := numL s.size 4 ++ s.data.toList
/-- A node's own bytes. -/
def headL (k t : Int) (s : ByteArray) (n : Int) (c : Nat) : List UInt8 := numL (n64 k) 1 ++ (numL (n64 t) 1 ++ (txL s ++ (numL (n64 n) 8 ++ numL c 1)))
def headS (k t : Int) (s : ByteArray) (n : Int) (c : Nat) : ByteArray := (((numS (n64 k) 1 ++ numS (n64 t) 1) ++ (numS s.size 4 ++ s)) ++ numS (n64 n) 8) ++ numS c 1
theorem headS_list (k t : Int) (s : ByteArray) (n : Int) (c : Nat) : (headS k t s n c).data.toList = headL k t s n c := by
  unfold headS headL txL
  simp only [append_list, numS_list, List.append_assoc]
mutual
def Nd.enc : Nd → List UInt8
  | .mk k t s n ks => headL k t s n ks.length ++ Nd.encs ks
def Nd.encs : List Nd → List UInt8
  | [] => []
  | x :: r => Nd.enc x ++ Nd.encs r
end
def Nd.head (x : Nd) : List UInt8 := headL x.kind x.ty x.txt x.num x.kids.length
mutual
theorem Nd.enc_all : ∀ x : Nd, x.enc = x.all.flatMap Nd.head
  | .mk k t s n ks => by
    rw [Nd.enc, Nd.all, List.flatMap_cons, Nd.encs_all ks]
    rfl
theorem Nd.encs_all : ∀ l : List Nd, Nd.encs l = (Nd.alls l).flatMap Nd.head
  | [] => rfl
  | x :: r => by rw [Nd.encs, Nd.alls, List.flatMap_append, Nd.enc_all x, Nd.encs_all r]
end
theorem headL_len (k t : Int) (s : ByteArray) (n : Int) (c : Nat) : (headL k t s n c).length = 15 + s.size := by
  unfold headL txL
  simp only [List.length_append, numL_len, bytes_len]
  omega
theorem flat_len (l : List Nd) (h : ∀ x ∈ l, x.ok) : (l.flatMap Nd.head).length ≤ l.length * 120 := by
  induction l with
  | nil => simp
  | cons x r ih =>
    have h1 := ih (fun y hy => h y (by simp [hy]))
    have h2 := h x (by simp)
    rw [List.flatMap_cons, List.length_append, List.length_cons]
    have h3 : x.head.length ≤ 115 := by
      unfold Nd.head
      rw [headL_len]
      cases x with
      | mk k t s n ks =>
        have := h2.1.s1
        show 15 + s.size ≤ 115
        omega
    omega
theorem Nd.enc_len (x : Nd) (h : x.ok) : x.enc.length ≤ x.cnt * 120 := by
  rw [Nd.enc_all, ← Nd.all_len]
  exact flat_len _ (Nd.all_ok h)
theorem Nd.encs_append (a b : List Nd) : Nd.encs (a ++ b) = Nd.encs a ++ Nd.encs b := by
  rw [Nd.encs_all, Nd.encs_all, Nd.encs_all, Nd.alls_append, List.flatMap_append]
def mkS (A : List UInt8) : ByteArray := ⟨A.toArray⟩
theorem mkS_size (A : List UInt8) : (mkS A).size = A.length := by show A.toArray.size = _; simp
theorem mkS_list (A : List UInt8) : (mkS A).data.toList = A := by simp [mkS]
theorem mkS_data (s : ByteArray) : mkS s.data.toList = s := by
  apply bytes_ext
  simp [mkS]
theorem mkS_append (A B : List UInt8) : mkS A ++ mkS B = mkS (A ++ B) := by
  apply bytes_ext
  rw [append_list, mkS_list, mkS_list, mkS_list]
end Go.Proofs.YtdodammplhlihaaGreatDoor.Tr
