/-
  shape, of a tree that is laid.
-/
import Derived.Test.YtbhmmcelndmijaaGreatSh
namespace Go.Proofs.YtbhmmcelndmijaaGreat
open Go.RowKit Go.Maps
/-- Keys of a good tree stand where they must. -/
theorem btw_good (recs : List (Nat × ByteArray)) : ∀ (d : Nat) {lo hi : Option ByteArray} {t : Tr d} {p : Pa.Pg}, Bt.Good kl d lo hi t → Is recs d t p → Btw (opT lo) (opT hi) p.keys
  | 0, lo, hi, l, p, hg, hp => by
    have hp' : p = ⟨true, (show List (ByteArray × ByteArray) from l).map Prod.fst, (show List (ByteArray × ByteArray) from l).map Prod.snd, []⟩ := hp
    have hR := Bt.Ris.inR (lt := kl) (hi := hi) (lo := lo) (l := l) hg
    subst hp'
    intro i x hx
    have hm : x ∈ (show List (ByteArray × ByteArray) from l).map Prod.fst := List.mem_of_getElem? hx
    obtain ⟨y, hy, rfl⟩ := List.mem_map.1 hm
    obtain ⟨h1, h2⟩ := hR y hy
    constructor
    · cases lo with
      | none => exact less_none _
      | some z =>
        have : (!kl y.1 z) = true := h1
        simpa [kl, opT] using this
    · cases hi with
      | none => left; show ByteArray.toList ⟨#[]⟩ = []; rw [ByteArray.toList_eq]
      | some z => exact Or.inr h2
  | d + 1, lo, hi, (ks, ts), p, hg, ⟨is, hp, _, _⟩ => by
    obtain ⟨h1, h2, h3⟩ := gl_pw hg
    subst hp
    intro i x hx
    have hm : x ∈ ks := List.mem_of_getElem? hx
    constructor
    · cases lo with
      | none => exact less_none _
      | some z => exact (Pa.less_flip _ _ (show Op.bytesLess z.toList x.toList = true from h2 x hm)).1
    · cases hi with
      | none => left; show ByteArray.toList ⟨#[]⟩ = []; rw [ByteArray.toList_eq]
      | some z => exact Or.inr (h3 x hm)
def ShP (d : Nat) (w : World) (e : Ending) (w' : World) : Prop := e = .returned (.int .i64 (d + 1 : Nat)) ∧ w.grownBy w' none
theorem shape_read (base lb : Nat) (g : Lg) (ok : LgOk g) (hl : g.recs.length ≤ 1000000) (a : Int) (p : Pa.Pg) (hP : PageAt g.recs a p) (w : World) (hL : IsLog w base lb g) :
    ∃ s : ByteArray, (∀ W, w.grownBy W none → Calls Tryz.prog 32 #[.pointer (some ⟨lb, 0, none⟩), .int .i64 a] W fun e w' => e = .returned (.tuple #[.string s, .int .i64 0]) ∧ W.grownBy w' none) ∧ ∀ W, Calls Tryz.prog 33 #[.string s] W (Pa.DecPost W p 0) := by
  obtain ⟨⟨s, s1, s2, s3, s4⟩, s5⟩ := hP
  have e1 : readT g.recs a = s := by unfold readT; rw [s1]; rfl
  have e2 : readC g.recs a = 0 := by unfold readC; rw [s1]; rfl
  refine ⟨s, fun W hW => ?_, fun W => ?_⟩
  · have C1 := lread_any base lb g a W (hL.kept hW) ok.asc hl
    rw [e1, e2] at C1
    exact C1
  · have := Pa.decode_any s W (by omega)
    rw [s3, s4] at this
    exact this
theorem shape_any (base lb : Nat) (g : Lg) (ok : LgOk g) (hl : g.recs.length ≤ 1000000) : ∀ (d : Nat) (t : Tr d) (p : Pa.Pg) (a : Int) (lo hi : Option ByteArray) (root : Bool), d ≤ 500 → Bt.Good kl d lo hi t → Bt.AllK KeyOk ValOk d t → PageAt g.recs a p → Is g.recs d t p → (root = false → 4 ≤ Bt.nk d t) → 1 ≤ Bt.nk d t → ∀ w, IsLog w base lb g →
    Calls Tryz.prog 14 #[.pointer (some ⟨lb, 0, none⟩), .int .i64 a, .bool root, .string (opT lo), .string (opT hi)] w (ShP d w)
  | 0, l, p, a, lo, hi, root, hd, hG, hA, hP, hI, h4, h1, w, hL => by
    have hb := btw_good g.recs 0 hG hI
    have hk := is_nk g.recs 0 hI
    have hf := hP.few
    obtain ⟨s, C1, C2⟩ := shape_read base lb g ok hl a p hP w hL
    have hp' : p = ⟨true, (show List (ByteArray × ByteArray) from l).map Prod.fst, (show List (ByteArray × ByteArray) from l).map Prod.snd, []⟩ := hI
    have hlf : p.leaf = true := by rw [hp']
    cases root with
    | true =>
      by_cases he : (opT hi).toList = []
      · exact shape_leaf_re base lb g a s _ _ p w hL C1 C2 hlf (by omega) hf hb he
      · exact shape_leaf_rf base lb g a s _ _ p w hL C1 C2 hlf (by omega) hf hb he
    | false =>
      have := h4 rfl
      by_cases he : (opT hi).toList = []
      · exact shape_leaf_ke base lb g a s _ _ p w hL C1 C2 hlf (by omega) hf (by omega) hb he
      · exact shape_leaf_kf base lb g a s _ _ p w hL C1 C2 hlf (by omega) hf (by omega) hb he
  | d + 1, (ks, ts), p, a, lo, hi, root, hd, hG, hA, hP, hI, h4, h1, w, hL => by
    have hb := btw_good g.recs (d + 1) (t := ((ks, ts) : Tr (d + 1))) hG hI
    have hk := is_nk g.recs (d + 1) (t := ((ks, ts) : Tr (d + 1))) hI
    have hf := hP.few
    obtain ⟨s, C1, C2⟩ := shape_read base lb g ok hl a p hP w hL
    obtain ⟨is, hp, hil, hkids⟩ := hI
    have hlen := Bt.GL.len (lt := kl) hG
    have e1 : p.keys = ks := by rw [hp]
    have e2 : p.kids = is := by rw [hp]
    have hlf : p.leaf = false := by rw [hp]
    have hkl : p.kids.length = p.keys.length + 1 := by rw [e1, e2, hil, hlen]
    have C14 : ∀ (i : Nat) (x : Int), p.kids[i]? = some x → ∀ W, w.grownBy W none → Calls Tryz.prog 14 #[.pointer (some ⟨lb, 0, none⟩), .int .i64 x, .bool false, .string (loK (opT lo) p.keys i), .string (hiK (opT hi) p.keys i)] W fun e w' => e = .returned (.int .i64 (d + 1 : Nat)) ∧ W.grownBy w' none := fun i x hx W hW => by
      rw [e2] at hx
      have hi1 : i < is.length := (List.getElem?_eq_some_iff.1 hx).1
      have hi2 : i < ts.length := by omega
      obtain ⟨_, q, hq1, hq2⟩ := hkids i x _ hx (List.getElem?_eq_getElem hi2)
      obtain ⟨g1, g2, g3⟩ := gl_at hG i _ (List.getElem?_eq_getElem hi2)
      rw [e1, lo_span lo ks i (by omega), hi_span hi ks i]
      exact shape_any base lb g ok hl d _ q x _ _ false (by omega) g1 (hA.2 _ (List.getElem_mem hi2)) hq1 hq2 (fun _ => g2) (by omega) W (hL.kept hW)
    have ed : ((d + 1 : Nat) : Int) + 1 = ((d + 1 + 1 : Nat) : Int) := by omega
    unfold ShP
    rw [← ed]
    cases root with
    | true =>
      by_cases he : (opT hi).toList = []
      · exact shape_node_re base lb g a s _ _ p w hL C1 C2 hlf (by omega) hf hb he (d + 1) (by omega) (by omega) (by omega) hkl C14
      · exact shape_node_rf base lb g a s _ _ p w hL C1 C2 hlf (by omega) hf hb he (d + 1) (by omega) (by omega) (by omega) hkl C14
    | false =>
      have := h4 rfl
      by_cases he : (opT hi).toList = []
      · exact shape_node_ke base lb g a s _ _ p w hL C1 C2 hlf (by omega) hf (by omega) hb he (d + 1) (by omega) (by omega) (by omega) hkl C14
      · exact shape_node_kf base lb g a s _ _ p w hL C1 C2 hlf (by omega) hf (by omega) hb he (d + 1) (by omega) (by omega) (by omega) hkl C14
end Go.Proofs.YtbhmmcelndmijaaGreat
