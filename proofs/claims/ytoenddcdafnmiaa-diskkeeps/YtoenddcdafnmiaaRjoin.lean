/-
  Change of the document, whole.
-/
import Derived.Test.YtoenddcdafnmiaaKRchgs
import Derived.Test.YtoenddcdafnmiaaRdo0
import Derived.Test.YtoenddcdafnmiaaRdo1
import Derived.Test.YtoenddcdafnmiaaRdo2
import Derived.Test.YtoenddcdafnmiaaRdo3
import Derived.Test.YtoenddcdafnmiaaRdo4
namespace Go.Proofs.Ytoenddcdafnmiaa
open Go.RowKit Go.Maps
/-- The document's disk: what is sure, what was done since, how many changes. -/
structure Md where
  sure : FS
  cs : List Chg
  ch : Nat
def Md.now (m : Md) : FS := foldC m.sure m.cs
def ModV (w : World) (v : Value) (m : Md) (dn : Bool) : Prop := ∃ a0 n0 k0 a1 n1 k1, v = .agg #[.slice a0 n0 k0, .slice a1 n1 k1, .int .i64 (-1), .slice none 0 0, .int .i64 m.ch, .bool dn] ∧ FilesT w (.slice a0 n0 k0) m.sure ∧ ChgsT w (.slice a1 n1 k1) m.cs
theorem ModV.kept {w w' : World} {v : Value} {m : Md} {dn : Bool} (h : ModV w v m dn) (hg : w.grownBy w' none) : ModV w' v m dn := by
  obtain ⟨a0, n0, k0, a1, n1, k1, rfl, h1, h2⟩ := h
  exact ⟨a0, n0, k0, a1, n1, k1, rfl, h1.kept hg, h2.kept hg⟩
structure Good (m : Md) : Prop where
  rising : Rising m.sure
  ok : ∀ c ∈ m.cs, OkR c
  len : m.cs.length ≤ 60
  ch : m.ch ≤ 1000
  fit : ∀ k, k ≤ m.cs.length → Fits (foldC m.sure (m.cs.take k)) 100000
def nextM (m : Md) (c : Chg) : Md := if refF m.now c = 0 then ⟨m.sure, m.cs ++ [c], m.ch + 1⟩ else m
theorem Good.fits {m : Md} (h : Good m) : Fits m.now 100000 := by
  have := h.fit m.cs.length (Nat.le_refl _)
  rw [List.take_length] at this
  exact this
structure FineR (c : Chg) : Prop where
  kind : c.kind ≤ 4
  name : c.name.size ≤ maxLen
  to : c.to.size ≤ maxLen
  bytes : c.bytes.size ≤ 100000
theorem rchange_any (v : Value) (m : Md) (c : Chg) (w : World) (h : ModV w v m false) (hg : Good m) (hc : FineR c) :
    Calls Try.prog 31 #[v, .agg #[.int .i64 c.kind, .string c.name, .string c.to, .string c.bytes, .int .i64 c.n]] w fun e w' => ∃ v', e = .returned (.tuple #[v', .int .i64 (refF m.now c : Nat)]) ∧ ModV w' v' (nextM m c) false ∧ w.grownBy w' none := by
  have h' := h
  obtain ⟨a0, n0, k0, a1, n1, k1, rfl, hs, hcs⟩ := h
  obtain ⟨k, n, s, t, z⟩ := c
  have h1 : k ≤ 4 := hc.kind
  have h2 : n.size ≤ maxLen := hc.name
  have h3 : t.size ≤ maxLen := hc.to
  have h4 : s.size ≤ 100000 := hc.bytes
  clear hc
  have hf := hg.fits
  have hr : Rising m.now := rising_fold hg.rising _
  have hN : ∀ W, w.grownBy W none → Calls Try.prog 13 #[.agg #[.slice a0 n0 k0, .slice a1 n1 k1, .int .i64 (-1), .slice none 0 0, .int .i64 m.ch, .bool false]] W fun e w' => ∃ v', e = .returned v' ∧ FilesV w' v' m.now ∧ W.grownBy w' none := fun W hW => (now_any _ _ _ _ _ _ m.sure m.cs W (hs.kept hW) (hcs.kept hW).1 hg.rising hg.ok (by have := hg.len; omega) hg.fit).mono (by rintro e w' ⟨v', he, hv, hw⟩; exact ⟨v', he, hv.1, hw⟩)
  have ho : ((getF m.now n).getD ⟨#[]⟩).size ≤ 100000 := get_size hf n
  have no : ∀ {e : Nat}, e ≠ 0 → refF m.now ⟨k, n, s, t, z⟩ = e → (Calls Try.prog 31 #[.agg #[.slice a0 n0 k0, .slice a1 n1 k1, .int .i64 (-1), .slice none 0 0, .int .i64 m.ch, .bool false], .agg #[.int .i64 k, .string n, .string t, .string s, .int .i64 z]] w fun r w' => r = .returned (.tuple #[.agg #[.slice a0 n0 k0, .slice a1 n1 k1, .int .i64 (-1), .slice none 0 0, .int .i64 m.ch, .bool false], .int .i64 e]) ∧ w.grownBy w' none) → Calls Try.prog 31 #[.agg #[.slice a0 n0 k0, .slice a1 n1 k1, .int .i64 (-1), .slice none 0 0, .int .i64 m.ch, .bool false], .agg #[.int .i64 k, .string n, .string t, .string s, .int .i64 z]] w fun e w' => ∃ v', e = .returned (.tuple #[v', .int .i64 (refF m.now ⟨k, n, s, t, z⟩ : Nat)]) ∧ ModV w' v' (nextM m ⟨k, n, s, t, z⟩) false ∧ w.grownBy w' none := fun {e} h0 he C => by
    refine C.mono ?_
    rintro r w' ⟨rfl, hw⟩
    have en : nextM m ⟨k, n, s, t, z⟩ = m := by unfold nextM; rw [he, if_neg h0]
    rw [he, en]
    exact ⟨_, rfl, h'.kept hw, hw⟩
  have yes : refF m.now ⟨k, n, s, t, z⟩ = 0 → (Calls Try.prog 31 #[.agg #[.slice a0 n0 k0, .slice a1 n1 k1, .int .i64 (-1), .slice none 0 0, .int .i64 m.ch, .bool false], .agg #[.int .i64 k, .string n, .string t, .string s, .int .i64 z]] w fun e w' => ∃ pa l c, e = .returned (.tuple #[.agg #[.slice a0 n0 k0, .slice pa l c, .int .i64 (-1), .slice none 0 0, .int .i64 (m.ch + 1), .bool false], .int .i64 0]) ∧ ChgsT w' (.slice pa l c) (m.cs ++ [⟨k, n, s, t, z⟩]) ∧ w.grownBy w' none) → Calls Try.prog 31 #[.agg #[.slice a0 n0 k0, .slice a1 n1 k1, .int .i64 (-1), .slice none 0 0, .int .i64 m.ch, .bool false], .agg #[.int .i64 k, .string n, .string t, .string s, .int .i64 z]] w fun e w' => ∃ v', e = .returned (.tuple #[v', .int .i64 (refF m.now ⟨k, n, s, t, z⟩ : Nat)]) ∧ ModV w' v' (nextM m ⟨k, n, s, t, z⟩) false ∧ w.grownBy w' none := fun he C => by
    refine C.mono ?_
    rintro r w' ⟨pa, l, c, rfl, hx, hw⟩
    have en : nextM m ⟨k, n, s, t, z⟩ = ⟨m.sure, m.cs ++ [⟨k, n, s, t, z⟩], m.ch + 1⟩ := by unfold nextM; rw [if_pos he]
    rw [he, en]
    exact ⟨_, rfl, ⟨a0, n0, k0, pa, l, c, rfl, hs.kept hw, hx⟩, hw⟩
  have c0 : (0 : Int) ≤ m.ch := by omega
  have c1 : (m.ch : Int) ≤ 1000000 := by have := hg.ch; omega
  have cl : m.cs.length ≤ 1000 := by have := hg.len; omega
  by_cases hn : nameB n = false
  · refine no (e := 30) (by decide) (by unfold refF; rw [if_pos (Or.inl hn)]) ?_
    exact chg_name a0 a1 n0 k0 n1 k1 m.ch m.now k n s t z w hN hf.1 hr h2 h3 hn
  have ha : nameB n = true := by simpa using hn
  by_cases ht : k = 2 ∧ nameB t = false
  · refine no (e := 30) (by decide) (by unfold refF; rw [if_pos (Or.inr ht)]) ?_
    obtain ⟨rfl, htn⟩ := ht
    exact chg_to a0 a1 n0 k0 n1 k1 m.ch m.now n s t z w hN hf.1 hr h2 h3 ha htn
  have hx : ¬ (nameB n = false ∨ (k = 2 ∧ nameB t = false)) := fun h => by rcases h with h | h; exact hn h; exact ht h
  have hb : k = 2 → nameB t = true := fun hk => by
    cases hq : nameB t with
    | true => rfl
    | false => exact absurd ⟨hk, hq⟩ ht
  by_cases hp : k ≤ 1
  · have e : refF m.now ⟨k, n, s, t, z⟩ = 0 := by unfold refF; rw [if_neg hx, if_pos hp]
    refine yes e ?_
    have hk : k = 0 ∨ k = 1 := by omega
    rcases hk with rfl | rfl
    · exact chg_do0 a0 a1 n0 k0 n1 k1 m.ch m.now m.cs n s t z w hN hf.1 hr h2 h3 ha h4 ho hcs.1 cl c0 c1
    · exact chg_do1 a0 a1 n0 k0 n1 k1 m.ch m.now m.cs n s t z w hN hf.1 hr h2 h3 ha h4 ho hcs.1 cl c0 c1
  have hk : k = 2 ∨ k = 3 ∨ k = 4 := by omega
  cases hq : getF m.now n with
  | none =>
    refine no (e := 2) (by decide) (by unfold refF; rw [if_neg hx, if_neg hp]; simp only [hq]) ?_
    rcases hk with rfl | rfl | rfl
    · exact chg_none2 a0 a1 n0 k0 n1 k1 m.ch m.now n s t z w hN hf.1 hr h2 h3 ha (hb rfl) hq
    · exact chg_none3 a0 a1 n0 k0 n1 k1 m.ch m.now n s t z w hN hf.1 hr h2 h3 ha hq
    · exact chg_none4 a0 a1 n0 k0 n1 k1 m.ch m.now n s t z w hN hf.1 hr h2 h3 ha hq
  | some old =>
    have hos : old.size ≤ 100000 := by rw [hq] at ho; exact ho
    rcases hk with rfl | rfl | rfl
    · cases hy : sameB t n with
      | true =>
        refine no (e := 1) (by decide) (by unfold refF; rw [if_neg hx, if_neg hp]; simp only [hq]; rw [if_pos ⟨trivial, hy⟩]) ?_
        have e := (sameB_iff _ _).1 hy
        exact chg_same a0 a1 n0 k0 n1 k1 m.ch m.now n s t z w hN hf.1 hr h2 h3 old ha (hb rfl) hq (by rw [e]; exact beq_self_eq_true _)
      | false =>
        refine yes (by unfold refF; rw [if_neg hx, if_neg hp]; simp only [hq]; rw [if_neg (fun h => by rw [hy] at h; cases h.2), if_neg (fun h => absurd h.1 (by decide))]) ?_
        exact chg_do2 a0 a1 n0 k0 n1 k1 m.ch m.now m.cs n s t z w hN hf.1 hr h2 h3 old ha (hb rfl) hq (by rw [ByteArray.toList_eq, ByteArray.toList_eq, beq_eq_false_iff_ne]; exact fun h => by rw [bytes_ext h, (sameB_iff _ _).2 rfl] at hy; cases hy) hcs.1 cl c0 c1
    · refine yes (by unfold refF; rw [if_neg hx, if_neg hp]; simp only [hq]; rw [if_neg (fun h => absurd h.1 (by decide)), if_neg (fun h => absurd h.1 (by decide))]) ?_
      exact chg_do3 a0 a1 n0 k0 n1 k1 m.ch m.now m.cs n s t z w hN hf.1 hr h2 h3 old ha hq hcs.1 cl c0 c1
    · by_cases hz : z < 0
      · refine no (e := 1) (by decide) (by unfold refF; rw [if_neg hx, if_neg hp]; simp only [hq]; rw [if_neg (fun h => absurd h.1 (by decide)), if_pos ⟨trivial, Or.inl hz⟩]) ?_
        exact chg_low a0 a1 n0 k0 n1 k1 m.ch m.now n s t z w hN hf.1 hr h2 h3 old ha hq hz
      · by_cases hz2 : (old.size : Int) < z
        · refine no (e := 1) (by decide) (by unfold refF; rw [if_neg hx, if_neg hp]; simp only [hq]; rw [if_neg (fun h => absurd h.1 (by decide)), if_pos ⟨trivial, Or.inr hz2⟩]) ?_
          exact chg_high a0 a1 n0 k0 n1 k1 m.ch m.now n s t z w hN hf.1 hr h2 h3 old ha hq hos hz hz2
        · refine yes (by unfold refF; rw [if_neg hx, if_neg hp]; simp only [hq]; rw [if_neg (fun h => absurd h.1 (by decide)), if_neg (fun h => by rcases h.2 with h | h <;> omega)]) ?_
          exact chg_do4 a0 a1 n0 k0 n1 k1 m.ch m.now m.cs n s t z w hN hf.1 hr h2 h3 old ha hq hos hz hz2 hcs.1 cl c0 c1
end Go.Proofs.Ytoenddcdafnmiaa
