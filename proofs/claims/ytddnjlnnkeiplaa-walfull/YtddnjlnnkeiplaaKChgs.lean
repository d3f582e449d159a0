/-
  Read. Each change of a disk: what it answers, and what it leaves.
-/
import Derived.Test.YtddnjlnnkeiplaaCalls
import Derived.Test.YtddnjlnnkeiplaaRef2
namespace Go.Proofs.Ytddnjlnnkeiplaa
open Go.RowKit Go.Maps
section
variable {ops : Array Oper} {rest : List Oper} {o : Oper} {a : Act} {Q : Exit → Act → World → Prop} {w : World}
theorem lookup_mapV (base : Nat) (v : Value) (l : FS) (n : ByteArray) (hown : MapV w base v l) (hn : n.size ≤ maxLen) (m x : Operand) (hg : o.guard = none) (hop : o.op = Op.lookup 70 m x true) (hm : a.eval m = v) (hx : a.eval x = .string n)
    (hK : wpList Try.prog ops Q rest (a.put o.dst (.tuple #[.agg #[.string ((getF l n).getD ⟨#[]⟩)], .bool (getF l n).isSome])) w) : wpList Try.prog ops Q (o :: rest) a w := by
  rcases hown with ⟨rfl, rfl⟩ | ⟨g, rfl, _, ho⟩
  · exact lookup_none n hn m x hg hop hm hx hK
  · exact lookup_file g l n ho hn m x hg hop hm hx hK
end
/-- What Read answers of files. -/
def readS (l : FS) (n : ByteArray) : ByteArray := (getF l n).getD ⟨#[]⟩
def readE (l : FS) (n : ByteArray) : Nat := if (getF l n).isSome then 0 else 2
set_option maxRecDepth 100000 in
set_option maxHeartbeats 1000000 in
theorem read_any (base b : Nat) (k : Dk) (n : ByteArray) (w : World) (h : IsDisk w base b k) (hd : k.dead = false) (hn : nameB n = true) (hnm : n.size ≤ maxLen) :
    Calls Try.prog 32 #[.pointer (some ⟨b, 0, none⟩), .string n] w fun e w' => e = .returned (.tuple #[.string (readS k.now n), .int .i64 (readE k.now n)]) ∧ w.grownBy w' none := by
  obtain ⟨hb0, vn, vs, vl, hB, hm, hsu, hne, hl⟩ := h
  have c8 := hB.d8
  have c0 := hB.d0
  rw [hd] at c8
  have HM : Hid (MapV w base vn k.now) := hm
  have HN : Hid (n.size ≤ maxLen) := hnm
  have CN : Hid (∀ w, Calls Try.prog 59 #[.string n] w fun e w' => e = .returned (.bool true) ∧ w' = w) := fun w => by rw [← hn]; exact name_any n w hnm
  clear hB hm hsu hne hl hn hnm
  cases hg : getF k.now n with
  | none =>
    have e1 : readS k.now n = ⟨#[]⟩ := by unfold readS; rw [hg]; rfl
    have e2 : readE k.now n = 2 := by unfold readE; rw [hg]; rfl
    have HO : Hid ((getF k.now n).getD ⟨#[]⟩ = ⟨#[]⟩) := (by show (getF k.now n).getD ⟨#[]⟩ = ⟨#[]⟩; rw [hg]; rfl)
    have HB : Hid ((getF k.now n).isSome = false) := (by show (getF k.now n).isSome = false; rw [hg]; rfl)
    rw [e1, e2]
    clear e1 e2 hg
    go_enter Try.func32, Try.ntmps32
    go_wp2_with (first | (go_at_call 27; refine (dead_any b false _ c8).mono ?_; rintro e w' ⟨rfl, hw⟩; have hw2 := hw.symm; clear hw; subst hw2) | (go_at_call 59; refine (CN.out _).mono ?_; rintro e w' ⟨rfl, hw⟩; have hw2 := hw.symm; clear hw; subst hw2) | (at_lookup; refine lookup_mapV base vn k.now n HM.out HN.out _ _ rfl rfl rfl rfl ?_; rw [HO.out, HB.out]))
    go_ret2
    exact ⟨rfl, grown_alloc (grown_refl _ _) _⟩
  | some s =>
    have e1 : readS k.now n = s := by unfold readS; rw [hg]; rfl
    have e2 : readE k.now n = 0 := by unfold readE; rw [hg]; rfl
    have HO : Hid ((getF k.now n).getD ⟨#[]⟩ = s) := (by show (getF k.now n).getD ⟨#[]⟩ = s; rw [hg]; rfl)
    have HB : Hid ((getF k.now n).isSome = true) := (by show (getF k.now n).isSome = true; rw [hg]; rfl)
    rw [e1, e2]
    clear e1 e2 hg
    go_enter Try.func32, Try.ntmps32
    go_wp2_with (first | (go_at_call 27; refine (dead_any b false _ c8).mono ?_; rintro e w' ⟨rfl, hw⟩; have hw2 := hw.symm; clear hw; subst hw2) | (go_at_call 59; refine (CN.out _).mono ?_; rintro e w' ⟨rfl, hw⟩; have hw2 := hw.symm; clear hw; subst hw2) | (at_lookup; refine lookup_mapV base vn k.now n HM.out HN.out _ _ rfl rfl rfl rfl ?_; rw [HO.out, HB.out]))
    go_ret2
    exact ⟨rfl, grown_alloc (grown_refl _ _) _⟩
end Go.Proofs.Ytddnjlnnkeiplaa
namespace Go.Proofs.Ytddnjlnnkeiplaa
open Go.RowKit Go.Maps
/-- Why a change may not be; 0: it may. -/
def refF (now : FS) (c : Chg) : Nat :=
  if nameB c.name = false ∨ (c.kind = 2 ∧ nameB c.to = false) then 30
  else if c.kind ≤ 1 then 0
  else match getF now c.name with
    | none => 2
    | some s => if c.kind = 2 ∧ sameB c.to c.name = true then 1 else if c.kind = 4 ∧ (c.n < 0 ∨ (s.size : Int) < c.n) then 1 else 0
/-- What a change answers. -/
def ansF (k : Dk) (c : Chg) : Nat := if k.dead then 7 else refF k.now c
/-- The disk behind it. -/
def nextD (k : Dk) (c : Chg) : Dk := if ansF k c = 0 then stepD k c else k
/-- Bounds on a change. -/
structure Fine (c : Chg) : Prop where
  kind : c.kind ≤ 4
  name : c.name.size ≤ maxLen
  to : c.to.size ≤ maxLen
  bytes : c.bytes.size ≤ 1000000
  high : c.n ≤ 9223372036854775807
theorem refusal_all (base b : Nat) (vn vs vl : Value) (u d : Nat) (l : FS) (c : Chg) (w : World) (hB : Blk w b 73 (rowD vn vs vl u d false)) (hm : MapV w base vn l) (hl : Fits l 1000000) (hc : Fine c) :
    Calls Try.prog 72 #[.pointer (some ⟨b, 0, none⟩), .agg #[.int .i64 c.kind, .string c.name, .string c.bytes, .string c.to, .int .i64 c.n]] w fun e w' => e = .returned (.int .i64 (refF l c : Nat)) ∧ w.grownBy w' none := by
  obtain ⟨k, a, s, t, z⟩ := c
  have h1 : k ≤ 4 := hc.kind
  have h2 : a.size ≤ maxLen := hc.name
  have h3 : t.size ≤ maxLen := hc.to
  have h4 : s.size ≤ 1000000 := hc.bytes
  clear hc
  by_cases hn : nameB a = false ∨ (k = 2 ∧ nameB t = false)
  · have e : refF l ⟨k, a, s, t, z⟩ = 30 := by unfold refF; rw [if_pos hn]
    rw [e]
    refine refusal_name b k z vn vs vl u d a s t w hB h2 h3 ?_
    rcases hn with h | ⟨h, h'⟩
    · exact Or.inl h
    · cases hx : nameB a with
      | false => exact Or.inl rfl
      | true => exact Or.inr ⟨rfl, by omega, h'⟩
  · have ha : nameB a = true := by
      cases hx : nameB a with
      | false => exact absurd (Or.inl hx) hn
      | true => rfl
    have ht : k = 2 → nameB t = true := fun hk => by
      cases hx : nameB t with
      | false => exact absurd (Or.inr ⟨hk, hx⟩) hn
      | true => rfl
    by_cases hp : k ≤ 1
    · have e : refF l ⟨k, a, s, t, z⟩ = 0 := by unfold refF; rw [if_neg hn, if_pos hp]
      rw [e]
      exact refusal_put base b k z vn vs vl u d l a s t w (by omega) hB hm hl ha h2 h4
    · cases hf : getF l a with
      | none =>
        have e : refF l ⟨k, a, s, t, z⟩ = 2 := by unfold refF; rw [if_neg hn, if_neg hp]; simp only [hf]
        rw [e]
        have hk : k = 2 ∨ k = 3 ∨ k = 4 := by omega
        rcases hk with rfl | rfl | rfl
        · exact refusal_none2 base b z vn vs vl u d l a s t w hB hm hl ha h2 h3 (fun _ => ht rfl) hf
        · exact refusal_none3 base b z vn vs vl u d l a s t w hB hm hl ha h2 hf
        · exact refusal_none4 base b z vn vs vl u d l a s t w hB hm hl ha h2 hf
      | some old =>
        have e0 : refF l ⟨k, a, s, t, z⟩ = if k = 2 ∧ sameB t a = true then 1 else if k = 4 ∧ (z < 0 ∨ (old.size : Int) < z) then 1 else 0 := by unfold refF; rw [if_neg hn, if_neg hp]; simp only [hf]
        rw [e0]
        have hk : k = 2 ∨ k = 3 ∨ k = 4 := by omega
        rcases hk with rfl | rfl | rfl
        · cases hx : sameB t a with
          | true =>
            rw [if_pos ⟨rfl, rfl⟩]
            exact refusal_self base b z vn vs vl u d l a s t old w hB hm hl ha h2 h3 (fun _ => ht rfl) hf ((sameB_iff _ _).1 hx)
          | false =>
            rw [if_neg (fun h => by cases h.2), if_neg (fun h => absurd h.1 (by decide))]
            exact refusal_move base b z vn vs vl u d l a s t old w hB hm hl ha h2 h3 (fun _ => ht rfl) hf (fun h => by rw [(sameB_iff _ _).2 h] at hx; cases hx)
        · rw [if_neg (fun h => absurd h.1 (by decide)), if_neg (fun h => absurd h.1 (by decide))]
          exact refusal_remove base b z vn vs vl u d l a s t old w hB hm hl ha h2 hf
        · rw [if_neg (fun h => absurd h.1 (by decide))]
          by_cases hz : z < 0
          · rw [if_pos ⟨rfl, Or.inl hz⟩]
            exact refusal_low base b z vn vs vl u d l a s t old w hB hm hl ha h2 hf hz
          · by_cases hz2 : (old.size : Int) < z
            · rw [if_pos ⟨rfl, Or.inr hz2⟩]
              exact refusal_high base b z vn vs vl u d l a s t old w hB hm hl ha h2 hf hz2
            · rw [if_neg (fun h => by rcases h.2 with h | h <;> omega)]
              exact refusal_cut base b z vn vs vl u d l a s t old w hB hm hl ha h2 hf ⟨by omega, by omega⟩
set_option maxRecDepth 100000 in
theorem perform_no (b : Nat) (k z : Int) (a s t : ByteArray) (e : Nat) (w : World) (he : e ≠ 0) (CR : ∀ w1, w.grownBy w1 none → Calls Try.prog 72 #[.pointer (some ⟨b, 0, none⟩), .agg #[.int .i64 k, .string a, .string s, .string t, .int .i64 z]] w1 fun r w' => r = .returned (.int .i64 e) ∧ w1.grownBy w' none) :
    Calls Try.prog 57 #[.pointer (some ⟨b, 0, none⟩), .agg #[.int .i64 k, .string a, .string s, .string t, .int .i64 z]] w fun r w' => r = .returned (.int .i64 e) ∧ w.grownBy w' none := by
  have HR : Hid (∀ w1, w.grownBy w1 none → Calls Try.prog 72 #[.pointer (some ⟨b, 0, none⟩), .agg #[.int .i64 k, .string a, .string s, .string t, .int .i64 z]] w1 fun r w' => r = .returned (.int .i64 e) ∧ w1.grownBy w' none) := CR
  have h1 : ((e : Int) == 0) = false := by simp; exact he
  have h2 : ((e : Int) != 0) = true := by simp; exact he
  clear CR he
  go_enter Try.func57, Try.ntmps57
  go_wp2_with (go_at_call 72; refine (HR.out _ (grown_alloc (grown_refl _ _) _)).mono ?_; clear HR; rintro r w2 ⟨rfl, hg2⟩; have G2 : Hid (w.grownBy w2 none) := grown_none (grown_alloc (grown_refl _ _) _) hg2; clear hg2)
  go_ret
  exact ⟨rfl, G2.out⟩
theorem perform_all (base b : Nat) (k : Dk) (c : Chg) (w : World) (h : IsDisk w base b k) (hS : Small k) (hc : Fine c) :
    Calls Try.prog 57 #[.pointer (some ⟨b, 0, none⟩), .agg #[.int .i64 c.kind, .string c.name, .string c.bytes, .string c.to, .int .i64 c.n]] w fun e w' => e = .returned (.int .i64 (ansF k c : Nat)) ∧ IsDisk w' base b (nextD k c) ∧ Tend base b w w' := by
  have h' := h
  obtain ⟨hb0, vn, vs, vl, hB, hn, hsu, hne, hl⟩ := h
  cases hd : k.dead with
  | true =>
    have ea : ansF k c = 7 := by unfold ansF; rw [hd]; rfl
    have en : nextD k c = k := by unfold nextD; rw [ea]; rfl
    rw [ea, en]
    have hB' : Blk w b 73 (rowD vn vs vl k.unsure k.changes true) := by rw [← hd]; exact hB
    refine (perform_no b c.kind c.n c.name c.bytes c.to 7 w (by decide) (fun w1 hg1 => refusal_dead b c.kind c.n vn vs vl k.unsure k.changes c.name c.bytes c.to w1 (hB'.kept hg1 (by simp)))).mono ?_
    rintro e w' ⟨he, hg⟩
    exact ⟨he, h'.kept hg, Tend.of_none hg⟩
  | false =>
    have hB' : Blk w b 73 (rowD vn vs vl k.unsure k.changes false) := by rw [← hd]; exact hB
    have ea : ansF k c = refF k.now c := by unfold ansF; rw [hd]; rfl
    have CR : ∀ w1, w.grownBy w1 none → Calls Try.prog 72 #[.pointer (some ⟨b, 0, none⟩), .agg #[.int .i64 c.kind, .string c.name, .string c.bytes, .string c.to, .int .i64 c.n]] w1 fun r w' => r = .returned (.int .i64 (refF k.now c : Nat)) ∧ w1.grownBy w' none := fun w1 hg1 =>
      refusal_all base b vn vs vl k.unsure k.changes k.now c w1 (hB'.kept hg1 (by simp)) (hn.kept hg1 (fun _ _ => by simp)) hS.now hc
    by_cases h0 : refF k.now c = 0
    · have en : nextD k c = stepD k c := by unfold nextD; rw [ea, if_pos h0]
      rw [ea, en, h0]
      rw [h0] at CR
      have hlow : c.kind = 4 → 0 ≤ c.n := fun h4 => by
        by_cases hz : c.n < 0
        · exfalso
          unfold refF at h0
          split at h0
          · cases h0
          · split at h0
            · omega
            · split at h0
              · cases h0
              · split at h0
                · cases h0
                · split at h0
                  · cases h0
                  · rename_i hx
                    exact hx ⟨h4, Or.inl hz⟩
        · omega
      refine (perform_ok base b c.kind c.n vn vs vl k.unsure k.changes k.now k.loose c.name c.bytes c.to w hb0 hB' hn hl hS.now hc.kind hc.name hc.to hc.bytes hlow hc.high hS.unsure hS.changes hS.loose CR).mono ?_
      rintro e w' ⟨he, hp⟩
      have := disk_of_perf (c := c) hb0 hB hn hsu hne hl hd hp
      exact ⟨he, this.1, this.2⟩
    · have en : nextD k c = k := by unfold nextD; rw [ea, if_neg h0]
      rw [ea, en]
      refine (perform_no b c.kind c.n c.name c.bytes c.to (refF k.now c) w h0 CR).mono ?_
      rintro e w' ⟨he, hg⟩
      exact ⟨he, h'.kept hg, Tend.of_none hg⟩
end Go.Proofs.Ytddnjlnnkeiplaa
