/-
  Read.
-/
import Derived.Test.YtddnjlnnkeiplaaCalls
namespace Go.Proofs.Ytddnjlnnkeiplaa
open Go.RowKit Go.Maps
section
variable {ops : Array Oper} {rest : List Oper} {o : Oper} {a : Act} {Q : Exit → Act → World → Prop} {w : World}
theorem lookup_mapV (base : Nat) (v : Value) (l : FS) (n : ByteArray) (hown : MapV w base v l) (hn : n.size ≤ maxLen) (m x : Operand) (hg : o.guard = none) (hop : o.op = Op.lookup 70 m x true) (hm : a.eval m = v) (hx : a.eval x = .string n)
    (hK : wpList Try.prog ops Q rest (a.put o.dst (.tuple #[.agg #[.string ((getF l n).getD ⟨#[]⟩)], .bool (getF l n).isSome])) w) : wpList Try.prog ops Q (o :: rest) a w := by
  rcases hown with ⟨rfl, rfl⟩ | ⟨g, rfl, _, ho⟩
  · exact lookup_none n hn m x hg hop hm hx hK
  · exact lookup_file g l n ho hn m x hg hop hm hx hK
end
/-- What Read answers of files. -/
def readS (l : FS) (n : ByteArray) : ByteArray := (getF l n).getD ⟨#[]⟩
def readE (l : FS) (n : ByteArray) : Nat := if (getF l n).isSome then 0 else 2
set_option maxRecDepth 100000 in
set_option maxHeartbeats 1000000 in
theorem read_any (base b : Nat) (k : Dk) (n : ByteArray) (w : World) (h : IsDisk w base b k) (hd : k.dead = false) (hn : nameB n = true) (hnm : n.size ≤ maxLen) :
    Calls Try.prog 32 #[.pointer (some ⟨b, 0, none⟩), .string n] w fun e w' => e = .returned (.tuple #[.string (readS k.now n), .int .i64 (readE k.now n)]) ∧ w.grownBy w' none := by
  obtain ⟨hb0, vn, vs, vl, hB, hm, hsu, hne, hl⟩ := h
  have c8 := hB.d8
  have c0 := hB.d0
  rw [hd] at c8
  have HM : Hid (MapV w base vn k.now) := hm
  have HN : Hid (n.size ≤ maxLen) := hnm
  have CN : Hid (∀ w, Calls Try.prog 59 #[.string n] w fun e w' => e = .returned (.bool true) ∧ w' = w) := fun w => by rw [← hn]; exact name_any n w hnm
  clear hB hm hsu hne hl hn hnm
  cases hg : getF k.now n with
  | none =>
    have e1 : readS k.now n = ⟨#[]⟩ := by unfold readS; rw [hg]; rfl
    have e2 : readE k.now n = 2 := by unfold readE; rw [hg]; rfl
    have HO : Hid ((getF k.now n).getD ⟨#[]⟩ = ⟨#[]⟩) := (by show (getF k.now n).getD ⟨#[]⟩ = ⟨#[]⟩; rw [hg]; rfl)
    have HB : Hid ((getF k.now n).isSome = false) := (by show (getF k.now n).isSome = false; rw [hg]; rfl)
    rw [e1, e2]
    clear e1 e2 hg
    go_enter Try.func32, Try.ntmps32
    go_wp2_with (first | (go_at_call 27; refine (dead_any b false _ c8).mono ?_; rintro e w' ⟨rfl, hw⟩; have hw2 := hw.symm; clear hw; subst hw2) | (go_at_call 59; refine (CN.out _).mono ?_; rintro e w' ⟨rfl, hw⟩; have hw2 := hw.symm; clear hw; subst hw2) | (at_lookup; refine lookup_mapV base vn k.now n HM.out HN.out _ _ rfl rfl rfl rfl ?_; rw [HO.out, HB.out]))
    go_ret2
    exact ⟨rfl, grown_alloc (grown_refl _ _) _⟩
  | some s =>
    have e1 : readS k.now n = s := by unfold readS; rw [hg]; rfl
    have e2 : readE k.now n = 0 := by unfold readE; rw [hg]; rfl
    have HO : Hid ((getF k.now n).getD ⟨#[]⟩ = s) := (by show (getF k.now n).getD ⟨#[]⟩ = s; rw [hg]; rfl)
    have HB : Hid ((getF k.now n).isSome = true) := (by show (getF k.now n).isSome = true; rw [hg]; rfl)
    rw [e1, e2]
    clear e1 e2 hg
    go_enter Try.func32, Try.ntmps32
    go_wp2_with (first | (go_at_call 27; refine (dead_any b false _ c8).mono ?_; rintro e w' ⟨rfl, hw⟩; have hw2 := hw.symm; clear hw; subst hw2) | (go_at_call 59; refine (CN.out _).mono ?_; rintro e w' ⟨rfl, hw⟩; have hw2 := hw.symm; clear hw; subst hw2) | (at_lookup; refine lookup_mapV base vn k.now n HM.out HN.out _ _ rfl rfl rfl rfl ?_; rw [HO.out, HB.out]))
    go_ret2
    exact ⟨rfl, grown_alloc (grown_refl _ _) _⟩
end Go.Proofs.Ytddnjlnnkeiplaa
