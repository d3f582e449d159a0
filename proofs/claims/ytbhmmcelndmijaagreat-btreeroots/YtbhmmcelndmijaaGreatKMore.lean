/-
  The calls of a disk, whole: Append, Write, Crash, Up, Read. Read. Each change of a disk: what it answers, and what it leaves. The exported changes of a disk; Sync; how many changes there were.
-/
import Derived.Test.YtbhmmcelndmijaaGreatKFail
import Derived.Test.YtbhmmcelndmijaaGreatRef2
namespace Go.Proofs.YtbhmmcelndmijaaGreat
open Go.RowKit Go.Maps
/-- A disk behind a change that was done. -/
def stepD (k : Dk) (c : Chg) : Dk := { k with now := doF k.now c, loose := if k.loose.length ≤ 62 then k.loose ++ [c] else k.loose, unsure := k.unsure + 1, changes := k.changes + 1 }
theorem OwnsF.of_heap {w w' : World} {g : Nat} {l : FS} (h : OwnsF w g l) (e : w'.heap[g]? = w.heap[g]?) : OwnsF w' g l := by
  obtain ⟨es, clock, hb, r⟩ := h
  exact ⟨es, clock, e.trans hb, r⟩
theorem disk_of_perf {base b : Nat} {k : Dk} {c : Chg} {vn vs vl : Value} {w w' : World} (hb0 : base ≤ b) (hB : Blk w b 96 (rowD vn vs vl k.unsure k.changes k.dead)) (hn : MapV w base vn k.now) (hs : MapV w base vs k.sure) (hne : ∀ g, vn = .map (some g) → vs ≠ .map (some g)) (hl : w.ownsRow base 120 5 vl k.loose.length (looseL k.loose)) (hdd : k.dead = false)
    (h : PerfPost base b vn vs vl k.unsure k.changes k.now k.loose c w w') : IsDisk w' base b (stepD k c) ∧ Tend base b w w' := by
  obtain ⟨g, vl', hg, hB', ho, hl', hT, hF⟩ := h
  have hbw := hB.lt
  refine ⟨⟨hb0, .map (some g), vs, vl', ?_, Or.inr ⟨g, rfl, ?_, ho⟩, ?_, ?_, ?_⟩, hT⟩
  · show Blk w' b 96 (rowD (.map (some g)) vs vl' (k.unsure + 1) (k.changes + 1) k.dead)
    rw [hdd]
    exact hB'
  · rcases hg with hg | hg
    · rcases hn with ⟨e, _⟩ | ⟨g', e, hb', _⟩
      · rw [hg] at e; cases e
      · rw [hg] at e; cases e; exact hb'
    · omega
  · rcases hs with h | ⟨gs, rfl, hb', hos⟩
    · exact Or.inl h
    · refine Or.inr ⟨gs, rfl, hb', hos.of_heap (hF gs hos.lt (fun e => ?_) (fun e => ?_) (ownBlock_map hl hos))⟩
      · exact hB.ne_map hos e.symm
      · exact hne gs e rfl
  · intro g' e1 e2
    cases e1
    rcases hg with hg | hg
    · exact hne g hg e2
    · rcases hs with ⟨e, _⟩ | ⟨gs, e, _, hos⟩
      · rw [e] at e2; cases e2
      · rw [e2] at e
        cases e
        have := hos.lt
        omega
  · exact hl'
/-- Bounds on a disk, for the next change. -/
structure Small (k : Dk) : Prop where
  now : Fits k.now 1000000
  unsure : k.unsure ≤ 1000000
  changes : k.changes ≤ 1000000
  loose : k.loose.length ≤ 63
theorem perform_put (base b : Nat) (k : Dk) (kd : Nat) (a s : ByteArray) (w : World) (hk : kd = 0 ∨ kd = 1) (h : IsDisk w base b k) (hd : k.dead = false) (hS : Small k) (ha : nameB a = true) (ham : a.size ≤ maxLen) (hs : s.size ≤ 1000000) :
    Calls Tryz.prog 58 #[.pointer (some ⟨b, 0, none⟩), .agg #[.int .i64 kd, .string a, .string s, .string ⟨#[]⟩, .int .i64 0]] w fun e w' => e = .returned (.int .i64 0) ∧ IsDisk w' base b (stepD k ⟨kd, a, s, ⟨#[]⟩, 0⟩) ∧ Tend base b w w' := by
  obtain ⟨hb0, vn, vs, vl, hB, hn, hsu, hne, hl⟩ := h
  have hB' : Blk w b 96 (rowD vn vs vl k.unsure k.changes false) := by rw [← hd]; exact hB
  refine (perform_ok base b kd 0 vn vs vl k.unsure k.changes k.now k.loose a s ⟨#[]⟩ w hb0 hB' hn hl hS.now (by omega) ham (Nat.zero_le _) hs (fun _ => Int.le_refl _) (by decide) hS.unsure hS.changes hS.loose ?_).mono ?_
  · intro w1 hg1
    have hk' : (kd : Int) = 0 ∨ (kd : Int) = 1 := by omega
    exact refusal_put base b kd 0 vn vs vl k.unsure k.changes k.now a s ⟨#[]⟩ w1 hk' (hB'.kept hg1 (by simp)) (hn.kept hg1 (fun _ _ => by simp)) hS.now ha ham hs
  · rintro e w' ⟨he, hp⟩
    have := disk_of_perf hb0 hB hn hsu hne hl hd hp
    exact ⟨he, this.1, this.2⟩
/-- Files behind a loss of power. -/
def lostF (k : Dk) (keep torn : Int) (L : Nat → OkChg) : FS := foldF k.sure (stTo keep torn L k.loose.length).1
theorem MapV.set {w : World} {base b : Nat} {v : Value} {l : FS} {t : TypeId} {cs : Array Value} (h : MapV w base v l) (hb : Blk w b t cs) (i : Nat) (u : Value) : MapV (w.setCell ⟨b, i, none⟩ u) base v l := by
  rcases h with h | ⟨g, rfl, hg, ho⟩
  · exact Or.inl h
  · exact Or.inr ⟨g, rfl, hg, ho.set (fun e => hb.ne_map ho e.symm) u⟩
end Go.Proofs.YtbhmmcelndmijaaGreat
namespace Go.Proofs.YtbhmmcelndmijaaGreat
open Go.RowKit Go.Maps
section
variable {ops : Array Oper} {rest : List Oper} {o : Oper} {a : Act} {Q : Exit → Act → World → Prop} {w : World}
theorem lookup_mapV (base : Nat) (v : Value) (l : FS) (n : ByteArray) (hown : MapV w base v l) (hn : n.size ≤ maxLen) (m x : Operand) (hg : o.guard = none) (hop : o.op = Op.lookup 92 m x true) (hm : a.eval m = v) (hx : a.eval x = .string n)
    (hK : wpList Tryz.prog ops Q rest (a.put o.dst (.tuple #[.agg #[.string ((getF l n).getD ⟨#[]⟩)], .bool (getF l n).isSome])) w) : wpList Tryz.prog ops Q (o :: rest) a w := by
  rcases hown with ⟨rfl, rfl⟩ | ⟨g, rfl, _, ho⟩
  · exact lookup_none n hn m x hg hop hm hx hK
  · exact lookup_file g l n ho hn m x hg hop hm hx hK
end
/-- What Read answers of files. -/
def readS (l : FS) (n : ByteArray) : ByteArray := (getF l n).getD ⟨#[]⟩
def readE (l : FS) (n : ByteArray) : Nat := if (getF l n).isSome then 0 else 2
set_option maxRecDepth 100000 in
set_option maxHeartbeats 1000000 in
theorem read_any (base b : Nat) (k : Dk) (n : ByteArray) (w : World) (h : IsDisk w base b k) (hd : k.dead = false) (hn : nameB n = true) (hnm : n.size ≤ maxLen) :
    Calls Tryz.prog 36 #[.pointer (some ⟨b, 0, none⟩), .string n] w fun e w' => e = .returned (.tuple #[.string (readS k.now n), .int .i64 (readE k.now n)]) ∧ w.grownBy w' none := by
  obtain ⟨hb0, vn, vs, vl, hB, hm, hsu, hne, hl⟩ := h
  have c8 := hB.d8
  have c0 := hB.d0
  rw [hd] at c8
  have HM : Hid (MapV w base vn k.now) := hm
  have HN : Hid (n.size ≤ maxLen) := hnm
  have CN : Hid (∀ w, Calls Tryz.prog 60 #[.string n] w fun e w' => e = .returned (.bool true) ∧ w' = w) := fun w => by rw [← hn]; exact name_any n w hnm
  clear hB hm hsu hne hl hn hnm
  cases hg : getF k.now n with
  | none =>
    have e1 : readS k.now n = ⟨#[]⟩ := by unfold readS; rw [hg]; rfl
    have e2 : readE k.now n = 2 := by unfold readE; rw [hg]; rfl
    have HO : Hid ((getF k.now n).getD ⟨#[]⟩ = ⟨#[]⟩) := (by show (getF k.now n).getD ⟨#[]⟩ = ⟨#[]⟩; rw [hg]; rfl)
    have HB : Hid ((getF k.now n).isSome = false) := (by show (getF k.now n).isSome = false; rw [hg]; rfl)
    rw [e1, e2]
    clear e1 e2 hg
    go_enter Tryz.func36, Tryz.ntmps36
    go_wp2_with (first | (go_at_call 59; refine (dead_any b false _ c8).mono ?_; rintro e w' ⟨rfl, hw⟩; have hw2 := hw.symm; clear hw; subst hw2) | (go_at_call 60; refine (CN.out _).mono ?_; rintro e w' ⟨rfl, hw⟩; have hw2 := hw.symm; clear hw; subst hw2) | (at_lookup; refine lookup_mapV base vn k.now n HM.out HN.out _ _ rfl rfl rfl rfl ?_; rw [HO.out, HB.out]))
    go_ret2
    exact ⟨rfl, grown_alloc (grown_refl _ _) _⟩
  | some s =>
    have e1 : readS k.now n = s := by unfold readS; rw [hg]; rfl
    have e2 : readE k.now n = 0 := by unfold readE; rw [hg]; rfl
    have HO : Hid ((getF k.now n).getD ⟨#[]⟩ = s) := (by show (getF k.now n).getD ⟨#[]⟩ = s; rw [hg]; rfl)
    have HB : Hid ((getF k.now n).isSome = true) := (by show (getF k.now n).isSome = true; rw [hg]; rfl)
    rw [e1, e2]
    clear e1 e2 hg
    go_enter Tryz.func36, Tryz.ntmps36
    go_wp2_with (first | (go_at_call 59; refine (dead_any b false _ c8).mono ?_; rintro e w' ⟨rfl, hw⟩; have hw2 := hw.symm; clear hw; subst hw2) | (go_at_call 60; refine (CN.out _).mono ?_; rintro e w' ⟨rfl, hw⟩; have hw2 := hw.symm; clear hw; subst hw2) | (at_lookup; refine lookup_mapV base vn k.now n HM.out HN.out _ _ rfl rfl rfl rfl ?_; rw [HO.out, HB.out]))
    go_ret2
    exact ⟨rfl, grown_alloc (grown_refl _ _) _⟩
end Go.Proofs.YtbhmmcelndmijaaGreat
namespace Go.Proofs.YtbhmmcelndmijaaGreat
open Go.RowKit Go.Maps
/-- Why a change may not be; 0: it may. -/
def refF (now : FS) (c : Chg) : Nat :=
  if nameB c.name = false ∨ (c.kind = 2 ∧ nameB c.to = false) then 30
  else if c.kind ≤ 1 then 0
  else match getF now c.name with
    | none => 2
    | some s => if c.kind = 2 ∧ sameB c.to c.name = true then 1 else if c.kind = 4 ∧ (c.n < 0 ∨ (s.size : Int) < c.n) then 1 else 0
/-- What a change answers. -/
def ansF (k : Dk) (c : Chg) : Nat := if k.dead then 7 else refF k.now c
/-- The disk behind it. -/
def nextD (k : Dk) (c : Chg) : Dk := if ansF k c = 0 then stepD k c else k
/-- Bounds on a change. -/
structure Fine (c : Chg) : Prop where
  kind : c.kind ≤ 4
  name : c.name.size ≤ maxLen
  to : c.to.size ≤ maxLen
  bytes : c.bytes.size ≤ 1000000
  high : c.n ≤ 9223372036854775807
theorem refusal_all (base b : Nat) (vn vs vl : Value) (u d : Nat) (l : FS) (c : Chg) (w : World) (hB : Blk w b 96 (rowD vn vs vl u d false)) (hm : MapV w base vn l) (hl : Fits l 1000000) (hc : Fine c) :
    Calls Tryz.prog 82 #[.pointer (some ⟨b, 0, none⟩), .agg #[.int .i64 c.kind, .string c.name, .string c.bytes, .string c.to, .int .i64 c.n]] w fun e w' => e = .returned (.int .i64 (refF l c : Nat)) ∧ w.grownBy w' none := by
  obtain ⟨k, a, s, t, z⟩ := c
  have h1 : k ≤ 4 := hc.kind
  have h2 : a.size ≤ maxLen := hc.name
  have h3 : t.size ≤ maxLen := hc.to
  have h4 : s.size ≤ 1000000 := hc.bytes
  clear hc
  by_cases hn : nameB a = false ∨ (k = 2 ∧ nameB t = false)
  · have e : refF l ⟨k, a, s, t, z⟩ = 30 := by unfold refF; rw [if_pos hn]
    rw [e]
    refine refusal_name b k z vn vs vl u d a s t w hB h2 h3 ?_
    rcases hn with h | ⟨h, h'⟩
    · exact Or.inl h
    · cases hx : nameB a with
      | false => exact Or.inl rfl
      | true => exact Or.inr ⟨rfl, by omega, h'⟩
  · have ha : nameB a = true := by
      cases hx : nameB a with
      | false => exact absurd (Or.inl hx) hn
      | true => rfl
    have ht : k = 2 → nameB t = true := fun hk => by
      cases hx : nameB t with
      | false => exact absurd (Or.inr ⟨hk, hx⟩) hn
      | true => rfl
    by_cases hp : k ≤ 1
    · have e : refF l ⟨k, a, s, t, z⟩ = 0 := by unfold refF; rw [if_neg hn, if_pos hp]
      rw [e]
      exact refusal_put base b k z vn vs vl u d l a s t w (by omega) hB hm hl ha h2 h4
    · cases hf : getF l a with
      | none =>
        have e : refF l ⟨k, a, s, t, z⟩ = 2 := by unfold refF; rw [if_neg hn, if_neg hp]; simp only [hf]
        rw [e]
        have hk : k = 2 ∨ k = 3 ∨ k = 4 := by omega
        rcases hk with rfl | rfl | rfl
        · exact refusal_none2 base b z vn vs vl u d l a s t w hB hm hl ha h2 h3 (fun _ => ht rfl) hf
        · exact refusal_none3 base b z vn vs vl u d l a s t w hB hm hl ha h2 hf
        · exact refusal_none4 base b z vn vs vl u d l a s t w hB hm hl ha h2 hf
      | some old =>
        have e0 : refF l ⟨k, a, s, t, z⟩ = if k = 2 ∧ sameB t a = true then 1 else if k = 4 ∧ (z < 0 ∨ (old.size : Int) < z) then 1 else 0 := by unfold refF; rw [if_neg hn, if_neg hp]; simp only [hf]
        rw [e0]
        have hk : k = 2 ∨ k = 3 ∨ k = 4 := by omega
        rcases hk with rfl | rfl | rfl
        · cases hx : sameB t a with
          | true =>
            rw [if_pos ⟨rfl, rfl⟩]
            exact refusal_self base b z vn vs vl u d l a s t old w hB hm hl ha h2 h3 (fun _ => ht rfl) hf ((sameB_iff _ _).1 hx)
          | false =>
            rw [if_neg (fun h => by cases h.2), if_neg (fun h => absurd h.1 (by decide))]
            exact refusal_move base b z vn vs vl u d l a s t old w hB hm hl ha h2 h3 (fun _ => ht rfl) hf (fun h => by rw [(sameB_iff _ _).2 h] at hx; cases hx)
        · rw [if_neg (fun h => absurd h.1 (by decide)), if_neg (fun h => absurd h.1 (by decide))]
          exact refusal_remove base b z vn vs vl u d l a s t old w hB hm hl ha h2 hf
        · rw [if_neg (fun h => absurd h.1 (by decide))]
          by_cases hz : z < 0
          · rw [if_pos ⟨rfl, Or.inl hz⟩]
            exact refusal_low base b z vn vs vl u d l a s t old w hB hm hl ha h2 hf hz
          · by_cases hz2 : (old.size : Int) < z
            · rw [if_pos ⟨rfl, Or.inr hz2⟩]
              exact refusal_high base b z vn vs vl u d l a s t old w hB hm hl ha h2 hf hz2
            · rw [if_neg (fun h => by rcases h.2 with h | h <;> omega)]
              exact refusal_cut base b z vn vs vl u d l a s t old w hB hm hl ha h2 hf ⟨by omega, by omega⟩
set_option maxRecDepth 100000 in
theorem perform_no (b : Nat) (k z : Int) (a s t : ByteArray) (e : Nat) (w : World) (he : e ≠ 0) (CR : ∀ w1, w.grownBy w1 none → Calls Tryz.prog 82 #[.pointer (some ⟨b, 0, none⟩), .agg #[.int .i64 k, .string a, .string s, .string t, .int .i64 z]] w1 fun r w' => r = .returned (.int .i64 e) ∧ w1.grownBy w' none) :
    Calls Tryz.prog 58 #[.pointer (some ⟨b, 0, none⟩), .agg #[.int .i64 k, .string a, .string s, .string t, .int .i64 z]] w fun r w' => r = .returned (.int .i64 e) ∧ w.grownBy w' none := by
  have HR : Hid (∀ w1, w.grownBy w1 none → Calls Tryz.prog 82 #[.pointer (some ⟨b, 0, none⟩), .agg #[.int .i64 k, .string a, .string s, .string t, .int .i64 z]] w1 fun r w' => r = .returned (.int .i64 e) ∧ w1.grownBy w' none) := CR
  have h1 : ((e : Int) == 0) = false := by simp; exact he
  have h2 : ((e : Int) != 0) = true := by simp; exact he
  clear CR he
  go_enter Tryz.func58, Tryz.ntmps58
  go_wp2_with (go_at_call 82; refine (HR.out _ (grown_alloc (grown_refl _ _) _)).mono ?_; clear HR; rintro r w2 ⟨rfl, hg2⟩; have G2 : Hid (w.grownBy w2 none) := grown_none (grown_alloc (grown_refl _ _) _) hg2; clear hg2)
  go_ret
  exact ⟨rfl, G2.out⟩
theorem perform_all (base b : Nat) (k : Dk) (c : Chg) (w : World) (h : IsDisk w base b k) (hS : Small k) (hc : Fine c) :
    Calls Tryz.prog 58 #[.pointer (some ⟨b, 0, none⟩), .agg #[.int .i64 c.kind, .string c.name, .string c.bytes, .string c.to, .int .i64 c.n]] w fun e w' => e = .returned (.int .i64 (ansF k c : Nat)) ∧ IsDisk w' base b (nextD k c) ∧ Tend base b w w' := by
  have h' := h
  obtain ⟨hb0, vn, vs, vl, hB, hn, hsu, hne, hl⟩ := h
  cases hd : k.dead with
  | true =>
    have ea : ansF k c = 7 := by unfold ansF; rw [hd]; rfl
    have en : nextD k c = k := by unfold nextD; rw [ea]; rfl
    rw [ea, en]
    have hB' : Blk w b 96 (rowD vn vs vl k.unsure k.changes true) := by rw [← hd]; exact hB
    refine (perform_no b c.kind c.n c.name c.bytes c.to 7 w (by decide) (fun w1 hg1 => refusal_dead b c.kind c.n vn vs vl k.unsure k.changes c.name c.bytes c.to w1 (hB'.kept hg1 (by simp)))).mono ?_
    rintro e w' ⟨he, hg⟩
    exact ⟨he, h'.kept hg, Tend.of_none hg⟩
  | false =>
    have hB' : Blk w b 96 (rowD vn vs vl k.unsure k.changes false) := by rw [← hd]; exact hB
    have ea : ansF k c = refF k.now c := by unfold ansF; rw [hd]; rfl
    have CR : ∀ w1, w.grownBy w1 none → Calls Tryz.prog 82 #[.pointer (some ⟨b, 0, none⟩), .agg #[.int .i64 c.kind, .string c.name, .string c.bytes, .string c.to, .int .i64 c.n]] w1 fun r w' => r = .returned (.int .i64 (refF k.now c : Nat)) ∧ w1.grownBy w' none := fun w1 hg1 =>
      refusal_all base b vn vs vl k.unsure k.changes k.now c w1 (hB'.kept hg1 (by simp)) (hn.kept hg1 (fun _ _ => by simp)) hS.now hc
    by_cases h0 : refF k.now c = 0
    · have en : nextD k c = stepD k c := by unfold nextD; rw [ea, if_pos h0]
      rw [ea, en, h0]
      rw [h0] at CR
      have hlow : c.kind = 4 → 0 ≤ c.n := fun h4 => by
        by_cases hz : c.n < 0
        · exfalso
          unfold refF at h0
          split at h0
          · cases h0
          · split at h0
            · omega
            · split at h0
              · cases h0
              · split at h0
                · cases h0
                · split at h0
                  · cases h0
                  · rename_i hx
                    exact hx ⟨h4, Or.inl hz⟩
        · omega
      refine (perform_ok base b c.kind c.n vn vs vl k.unsure k.changes k.now k.loose c.name c.bytes c.to w hb0 hB' hn hl hS.now hc.kind hc.name hc.to hc.bytes hlow hc.high hS.unsure hS.changes hS.loose CR).mono ?_
      rintro e w' ⟨he, hp⟩
      have := disk_of_perf (c := c) hb0 hB hn hsu hne hl hd hp
      exact ⟨he, this.1, this.2⟩
    · have en : nextD k c = k := by unfold nextD; rw [ea, if_neg h0]
      rw [ea, en]
      refine (perform_no b c.kind c.n c.name c.bytes c.to (refF k.now c) w h0 CR).mono ?_
      rintro e w' ⟨he, hg⟩
      exact ⟨he, h'.kept hg, Tend.of_none hg⟩
end Go.Proofs.YtbhmmcelndmijaaGreat
namespace Go.Proofs.YtbhmmcelndmijaaGreat
open Go.RowKit Go.Maps
set_option maxRecDepth 100000 in
theorem remove_all (base b : Nat) (k : Dk) (a : ByteArray) (w : World) (h : IsDisk w base b k) (hS : Small k) (hc : Fine ⟨3, a, ⟨#[]⟩, ⟨#[]⟩, 0⟩) :
    Calls Tryz.prog 35 #[.pointer (some ⟨b, 0, none⟩), .string a] w fun e w' => e = .returned (.int .i64 (ansF k ⟨3, a, ⟨#[]⟩, ⟨#[]⟩, 0⟩ : Nat)) ∧ IsDisk w' base b (nextD k ⟨3, a, ⟨#[]⟩, ⟨#[]⟩, 0⟩) ∧ Tend base b w w' := by
  have CP : Hid (Calls Tryz.prog 58 #[.pointer (some ⟨b, 0, none⟩), .agg #[.int .i64 3, .string a, .string ⟨#[]⟩, .string ⟨#[]⟩, .int .i64 0]] w fun e w' => e = .returned (.int .i64 (ansF k ⟨3, a, ⟨#[]⟩, ⟨#[]⟩, 0⟩ : Nat)) ∧ IsDisk w' base b (nextD k ⟨3, a, ⟨#[]⟩, ⟨#[]⟩, 0⟩) ∧ Tend base b w w') := perform_all base b k ⟨3, a, ⟨#[]⟩, ⟨#[]⟩, 0⟩ w h hS hc
  clear h hS hc
  generalize ansF k ⟨3, a, ⟨#[]⟩, ⟨#[]⟩, 0⟩ = r at *
  generalize nextD k ⟨3, a, ⟨#[]⟩, ⟨#[]⟩, 0⟩ = k' at *
  go_enter Tryz.func35, Tryz.ntmps35
  go_wp2_with (go_at_call 58; refine CP.out.mono ?_; rintro e w' ⟨rfl, h1, h2⟩; have R1 : Hid (IsDisk w' base b k') := h1; have R2 : Hid (Tend base b w w') := h2; clear h1 h2)
  go_ret
  exact ⟨rfl, R1.out, R2.out⟩
set_option maxRecDepth 100000 in
theorem truncate_all (base b : Nat) (k : Dk) (a : ByteArray) (n : Int) (w : World) (h : IsDisk w base b k) (hS : Small k) (hc : Fine ⟨4, a, ⟨#[]⟩, ⟨#[]⟩, n⟩) :
    Calls Tryz.prog 38 #[.pointer (some ⟨b, 0, none⟩), .string a, .int .i64 n] w fun e w' => e = .returned (.int .i64 (ansF k ⟨4, a, ⟨#[]⟩, ⟨#[]⟩, n⟩ : Nat)) ∧ IsDisk w' base b (nextD k ⟨4, a, ⟨#[]⟩, ⟨#[]⟩, n⟩) ∧ Tend base b w w' := by
  have CP : Hid (Calls Tryz.prog 58 #[.pointer (some ⟨b, 0, none⟩), .agg #[.int .i64 4, .string a, .string ⟨#[]⟩, .string ⟨#[]⟩, .int .i64 n]] w fun e w' => e = .returned (.int .i64 (ansF k ⟨4, a, ⟨#[]⟩, ⟨#[]⟩, n⟩ : Nat)) ∧ IsDisk w' base b (nextD k ⟨4, a, ⟨#[]⟩, ⟨#[]⟩, n⟩) ∧ Tend base b w w') := perform_all base b k ⟨4, a, ⟨#[]⟩, ⟨#[]⟩, n⟩ w h hS hc
  clear h hS hc
  generalize ansF k ⟨4, a, ⟨#[]⟩, ⟨#[]⟩, n⟩ = r at *
  generalize nextD k ⟨4, a, ⟨#[]⟩, ⟨#[]⟩, n⟩ = k' at *
  go_enter Tryz.func38, Tryz.ntmps38
  go_wp2_with (go_at_call 58; refine CP.out.mono ?_; rintro e w' ⟨rfl, h1, h2⟩; have R1 : Hid (IsDisk w' base b k') := h1; have R2 : Hid (Tend base b w w') := h2; clear h1 h2)
  go_ret
  exact ⟨rfl, R1.out, R2.out⟩
/-- A disk behind a Sync. -/
def syncD (k : Dk) : Dk := { k with sure := k.now, loose := [], unsure := 0 }
set_option maxRecDepth 100000 in
theorem sync_dead (base b : Nat) (k : Dk) (w : World) (h : IsDisk w base b k) (hd : k.dead = true) :
    Calls Tryz.prog 39 #[.pointer (some ⟨b, 0, none⟩)] w fun e w' => e = .returned (.int .i64 7) ∧ w' = w := by
  obtain ⟨hb0, vn, vs, vl, hB, _⟩ := h
  have c8 := hB.d8
  rw [hd] at c8
  clear hB
  go_enter Tryz.func39, Tryz.ntmps39
  go_wp2_with (go_at_call 59; refine (dead_any b true _ c8).mono ?_; rintro e w' ⟨rfl, hw⟩; have hw2 := hw.symm; clear hw; subst hw2)
  go_ret
  exact ⟨rfl, rfl⟩
set_option maxRecDepth 100000 in
set_option maxHeartbeats 1000000 in
theorem sync_any (base b : Nat) (k : Dk) (w : World) (h : IsDisk w base b k) (hd : k.dead = false) (hf : Fits k.now 1000000) :
    Calls Tryz.prog 39 #[.pointer (some ⟨b, 0, none⟩)] w fun e w' => e = .returned (.int .i64 0) ∧ IsDisk w' base b (syncD k) ∧ w.grownBy w' (some b) := by
  obtain ⟨hb0, vn, vs, vl, hB, hm, hsu, hne, hl⟩ := h
  have c8 := hB.d8
  have c0 := hB.d0
  rw [hd] at c8
  have CC : Hid (Calls Tryz.prog 63 #[vn] w fun e w' => e = .returned (.map (some w.heap.size)) ∧ OwnsF w' w.heap.size k.now ∧ w.grownBy w' none) := fsclone_any base vn k.now w hm hf
  have HB : Hid (Blk w b 96 (rowD vn vs vl k.unsure k.changes k.dead)) := hB
  have HM : Hid (MapV w base vn k.now) := hm
  have hbw := hB.lt
  clear hB hm hsu hne hl hf
  go_enter Tryz.func39, Tryz.ntmps39
  go_wp2_with (first | (go_at_call 59; refine (dead_any b false _ c8).mono ?_; rintro e w' ⟨rfl, hw⟩; have hw2 := hw.symm; clear hw; subst hw2) | (go_at_call 63; refine CC.out.mono ?_; clear CC; rintro e w1 ⟨rfl, ho1, hg1⟩; have O1 : Hid (OwnsF w1 w.heap.size k.now) := ho1; have G1 : Hid (w.grownBy w1 none) := hg1; have B1 : Hid (Blk w1 b 96 (rowD vn vs vl k.unsure k.changes k.dead)) := HB.out.kept hg1 (by simp); have d1 := B1.out.d1; have d2 := B1.out.d2; have d3 := B1.out.d3; have f1 := B1.out.frozen 1; have f2 := B1.out.frozen 2; have f3 := B1.out.frozen 3; clear ho1 hg1))
  go_ret
  have BF := ((B1.out.set 1 (.map (some w.heap.size))).set 2 (.slice none 0 0)).set 3 (.int .i64 0)
  have GF := grown_set (grown_set (grown_set (grown_refl w1 (some b)) 1 (.map (some w.heap.size))) 2 (.slice none 0 0)) 3 (.int .i64 0)
  have gb : some w.heap.size ≠ some b := fun e => by have := Option.some.inj e; omega
  refine ⟨rfl, ⟨hb0, vn, .map (some w.heap.size), .slice none 0 0, BF, (HM.out.kept G1.out (fun _ _ => by simp)).kept GF (fun g e => ?_), Or.inr ⟨w.heap.size, rfl, by omega, O1.out.kept GF gb⟩, ?_, ⟨rfl, Or.inl ⟨rfl, rfl⟩⟩⟩, ?_⟩
  · rcases HM.out with ⟨e', _⟩ | ⟨g', e', _, ho⟩
    · rw [e'] at e; cases e
    · rw [e'] at e
      cases e
      exact fun e => HB.out.ne_map ho (Option.some.inj e).symm
  · intro g e1 e2
    rcases HM.out with ⟨e', _⟩ | ⟨g', e', _, ho⟩
    · rw [e'] at e1; cases e1
    · rw [e'] at e1
      cases e1
      injection e2 with e3
      have := Option.some.inj e3
      have := ho.lt
      omega
  · exact World.grownBy.andThen (World.grownBy.but G1.out (some b)) GF (fun j e => Or.inr (by rw [← e]))
def sizeF (l : FS) : Nat := (l.map fun p => p.2.size).sum
end Go.Proofs.YtbhmmcelndmijaaGreat
