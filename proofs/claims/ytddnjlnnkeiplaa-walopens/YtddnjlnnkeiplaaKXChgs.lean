/-
  The calls of a disk, whole: Append, Write, Crash, Up, Read. Read. Each change of a disk: what it answers, and what it leaves.
-/
import Derived.Test.YtddnjlnnkeiplaaKXRef
import Derived.Test.YtddnjlnnkeiplaaXPerf
import Derived.Test.YtddnjlnnkeiplaaXFail
import Derived.Test.YtddnjlnnkeiplaaXRef2
namespace Go.Proofs.Ytddnjlnnkeiplaa.X
open Go.RowKit Go.Maps
variable {xt : Xt}
theorem disk_of_perf {base b : Nat} {k : Dk} {c : Chg} {vn vs vl : Value} {w w' : World} (hb0 : base ≤ b) (hB : Blk w b 73 (rowD xt vn vs vl k.unsure k.changes k.dead)) (hn : MapV w base vn k.now) (hs : MapV w base vs k.sure) (hne : ∀ g, vn = .map (some g) → vs ≠ .map (some g)) (hl : w.ownsRow base 101 5 vl k.loose.length (looseL k.loose)) (hdd : k.dead = false)
    (h : PerfPost xt base b vn vs vl k.unsure k.changes k.now k.loose c w w') : IsDisk xt w' base b (stepD k c) ∧ Tend base b w w' := by
  obtain ⟨g, vl', hg, hB', ho, hl', hT, hF⟩ := h
  have hbw := hB.lt
  refine ⟨⟨hb0, .map (some g), vs, vl', ?_, Or.inr ⟨g, rfl, ?_, ho⟩, ?_, ?_, ?_⟩, hT⟩
  · show Blk w' b 73 (rowD xt (.map (some g)) vs vl' (k.unsure + 1) (k.changes + 1) k.dead)
    rw [hdd]
    exact hB'
  · rcases hg with hg | hg
    · rcases hn with ⟨e, _⟩ | ⟨g', e, hb', _⟩
      · rw [hg] at e; cases e
      · rw [hg] at e; cases e; exact hb'
    · omega
  · rcases hs with h | ⟨gs, rfl, hb', hos⟩
    · exact Or.inl h
    · refine Or.inr ⟨gs, rfl, hb', hos.of_heap (hF gs hos.lt (fun e => ?_) (fun e => ?_) (ownBlock_map hl hos))⟩
      · exact hB.ne_map hos e.symm
      · exact hne gs e rfl
  · intro g' e1 e2
    cases e1
    rcases hg with hg | hg
    · exact hne g hg e2
    · rcases hs with ⟨e, _⟩ | ⟨gs, e, _, hos⟩
      · rw [e] at e2; cases e2
      · rw [e2] at e
        cases e
        have := hos.lt
        omega
  · exact hl'
set_option maxRecDepth 100000 in
theorem crash_any (base b : Nat) (k : Dk) (keep torn : Int) (L : Nat → OkChg) (w : World) (h : IsDisk xt w base b k) (hd : k.dead = false) (hL : ∀ i, (h : i < k.loose.length) → k.loose[i] = (L i).1) (hl63 : k.loose.length ≤ 63) (ht1 : torn ≤ 9223372036854775807) (hf : Fits k.sure 200000) :
    Calls Try.prog 16 #[.pointer (some ⟨b, 0, none⟩), .int .i64 keep, .int .i64 torn] w fun e w' => e = .returned (.tuple #[]) ∧ IsDisk xt w' base b ⟨lostF k keep torn L, lostF k keep torn L, [], 0, k.changes, true⟩ ∧ w.grownBy w' (some b) := by
  obtain ⟨hb0, vn, vs, vl, hB, hn, hsu, hne, hl⟩ := h
  have hB' : Blk w b 73 (rowD xt vn vs vl k.unsure k.changes false) := by rw [← hd]; exact hB
  have CF : Hid (Calls Try.prog 45 #[.pointer (some ⟨b, 0, none⟩), .int .i64 keep, .int .i64 torn] w fun e w' => e = .returned (.tuple #[]) ∧ IsDisk xt w' base b ⟨lostF k keep torn L, lostF k keep torn L, [], 0, k.changes, true⟩ ∧ w.grownBy w' (some b)) := fail_any base b keep torn vn vs vl k.unsure k.changes k.sure k.loose L w hb0 hB' hsu hl hL hl63 ht1 hf
  have c8 := hB'.e8
  clear hB hn hsu hne hl hB' hL hf
  go_enter Try.func16, Try.ntmps16
  go_wp2_with (first | (go_at_call 27; refine (dead_any b false _ c8).mono ?_; rintro e w' ⟨rfl, hw⟩; have hw2 := hw.symm; clear hw; subst hw2) | (go_at_call 45; refine CF.out.mono ?_; clear CF; rintro e w' ⟨rfl, h1, h2⟩; have R1 : Hid (IsDisk xt w' base b ⟨lostF k keep torn L, lostF k keep torn L, [], 0, k.changes, true⟩) := h1; have R2 : Hid (w.grownBy w' (some b)) := h2; clear h1 h2))
  first
  | exact bodyPost_end (results_none rfl _ _ _) rfl ⟨rfl, R1.out, R2.out⟩
  | exact bodyPost_ret (results_none rfl _ _ _) rfl ⟨rfl, R1.out, R2.out⟩
set_option maxRecDepth 100000 in
theorem up_any (base b : Nat) (k : Dk) (w : World) (h : IsDisk xt w base b k) (hd : k.dead = true) :
    Calls Try.prog 17 #[.pointer (some ⟨b, 0, none⟩)] w fun e w' => e = .returned (.bool true) ∧ IsDisk xt w' base b { k with dead := false } ∧ w.grownBy w' (some b) := by
  obtain ⟨hb0, vn, vs, vl, hB, hn, hsu, hne, hl⟩ := h
  have c8 := hB.e8
  have f8 := hB.frozen 8
  rw [hd] at c8
  have G : w.grownBy (w.setCell ⟨b, 8, none⟩ (.bool false)) (some b) := grown_set (grown_refl _ _) 8 _
  have R1 : Hid (IsDisk xt (w.setCell ⟨b, 8, none⟩ (.bool false)) base b { k with dead := false }) := ⟨hb0, vn, vs, vl, hB.set 8 _, hn.set hB 8 _, hsu.set hB 8 _, hne, owns_self hl hB G⟩
  have R2 : Hid (w.grownBy (w.setCell ⟨b, 8, none⟩ (.bool false)) (some b)) := G
  clear hB hn hsu hne hl G
  go_enter Try.func17, Try.ntmps17
  go_wp2
  go_ret
  exact ⟨rfl, R1.out, R2.out⟩
end Go.Proofs.Ytddnjlnnkeiplaa.X
namespace Go.Proofs.Ytddnjlnnkeiplaa.X
open Go.RowKit Go.Maps
variable {xt : Xt}
set_option maxRecDepth 100000 in
set_option maxHeartbeats 1000000 in
theorem read_any (base b : Nat) (k : Dk) (n : ByteArray) (w : World) (h : IsDisk xt w base b k) (hd : k.dead = false) (hn : nameB n = true) (hnm : n.size ≤ maxLen) :
    Calls Try.prog 32 #[.pointer (some ⟨b, 0, none⟩), .string n] w fun e w' => e = .returned (.tuple #[.string (readS k.now n), .int .i64 (readE k.now n)]) ∧ w.grownBy w' none := by
  obtain ⟨hb0, vn, vs, vl, hB, hm, hsu, hne, hl⟩ := h
  have c8 := hB.e8
  have c0 := hB.e0
  rw [hd] at c8
  have HM : Hid (MapV w base vn k.now) := hm
  have HN : Hid (n.size ≤ maxLen) := hnm
  have CN : Hid (∀ w, Calls Try.prog 59 #[.string n] w fun e w' => e = .returned (.bool true) ∧ w' = w) := fun w => by rw [← hn]; exact name_any n w hnm
  clear hB hm hsu hne hl hn hnm
  cases hg : getF k.now n with
  | none =>
    have e1 : readS k.now n = ⟨#[]⟩ := by unfold readS; rw [hg]; rfl
    have e2 : readE k.now n = 2 := by unfold readE; rw [hg]; rfl
    have HO : Hid ((getF k.now n).getD ⟨#[]⟩ = ⟨#[]⟩) := (by show (getF k.now n).getD ⟨#[]⟩ = ⟨#[]⟩; rw [hg]; rfl)
    have HB : Hid ((getF k.now n).isSome = false) := (by show (getF k.now n).isSome = false; rw [hg]; rfl)
    rw [e1, e2]
    clear e1 e2 hg
    go_enter Try.func32, Try.ntmps32
    go_wp2_with (first | (go_at_call 27; refine (dead_any b false _ c8).mono ?_; rintro e w' ⟨rfl, hw⟩; have hw2 := hw.symm; clear hw; subst hw2) | (go_at_call 59; refine (CN.out _).mono ?_; rintro e w' ⟨rfl, hw⟩; have hw2 := hw.symm; clear hw; subst hw2) | (at_lookup; refine lookup_mapV base vn k.now n HM.out HN.out _ _ rfl rfl rfl rfl ?_; rw [HO.out, HB.out]))
    go_ret2
    exact ⟨rfl, grown_alloc (grown_refl _ _) _⟩
  | some s =>
    have e1 : readS k.now n = s := by unfold readS; rw [hg]; rfl
    have e2 : readE k.now n = 0 := by unfold readE; rw [hg]; rfl
    have HO : Hid ((getF k.now n).getD ⟨#[]⟩ = s) := (by show (getF k.now n).getD ⟨#[]⟩ = s; rw [hg]; rfl)
    have HB : Hid ((getF k.now n).isSome = true) := (by show (getF k.now n).isSome = true; rw [hg]; rfl)
    rw [e1, e2]
    clear e1 e2 hg
    go_enter Try.func32, Try.ntmps32
    go_wp2_with (first | (go_at_call 27; refine (dead_any b false _ c8).mono ?_; rintro e w' ⟨rfl, hw⟩; have hw2 := hw.symm; clear hw; subst hw2) | (go_at_call 59; refine (CN.out _).mono ?_; rintro e w' ⟨rfl, hw⟩; have hw2 := hw.symm; clear hw; subst hw2) | (at_lookup; refine lookup_mapV base vn k.now n HM.out HN.out _ _ rfl rfl rfl rfl ?_; rw [HO.out, HB.out]))
    go_ret2
    exact ⟨rfl, grown_alloc (grown_refl _ _) _⟩
end Go.Proofs.Ytddnjlnnkeiplaa.X
namespace Go.Proofs.Ytddnjlnnkeiplaa.X
open Go.RowKit Go.Maps
variable {xt : Xt}
/-- Why a change may not be; 0: it may. -/
def refX (x : Xt) (now : FS) (c : Chg) : Nat :=
  if nameB c.name = false ∨ (c.kind = 2 ∧ nameB c.to = false) then 30
  else if c.kind ≤ 1 then growF x now (if c.kind = 0 then (c.bytes.size : Int) else (c.bytes.size : Int) - (((getF now c.name).getD ⟨#[]⟩).size : Int))
  else match getF now c.name with
    | none => 2
    | some s => if c.kind = 2 ∧ sameB c.to c.name = true then 1 else if c.kind = 4 ∧ (c.n < 0 ∨ (s.size : Int) < c.n) then 1 else 0
/-- What a change answers. -/
def ansX (x : Xt) (k : Dk) (c : Chg) : Nat := if k.dead then 7 else refX x k.now c
/-- The disk behind it. -/
def nextX (x : Xt) (k : Dk) (c : Chg) : Dk := if ansX x k c = 0 then stepD k c else k
theorem refusal_all (base b : Nat) (vn vs vl : Value) (u d : Nat) (l : FS) (c : Chg) (w : World) (hB : Blk w b 73 (rowD xt vn vs vl u d false)) (hm : MapV w base vn l) (hl : Fits l 1000000) (hZ : sizeF l ≤ 1000000000) (hc : Fine c) :
    Calls Try.prog 72 #[.pointer (some ⟨b, 0, none⟩), .agg #[.int .i64 c.kind, .string c.name, .string c.bytes, .string c.to, .int .i64 c.n]] w fun e w' => e = .returned (.int .i64 (refX xt l c : Nat)) ∧ w.grownBy w' none := by
  obtain ⟨k, a, s, t, z⟩ := c
  have h1 : k ≤ 4 := hc.kind
  have h2 : a.size ≤ maxLen := hc.name
  have h3 : t.size ≤ maxLen := hc.to
  have h4 : s.size ≤ 1000000 := hc.bytes
  clear hc
  by_cases hn : nameB a = false ∨ (k = 2 ∧ nameB t = false)
  · have e : refX xt l ⟨k, a, s, t, z⟩ = 30 := by unfold refX; rw [if_pos hn]
    rw [e]
    refine refusal_name b k z vn vs vl u d a s t w hB h2 h3 ?_
    rcases hn with h | ⟨h, h'⟩
    · exact Or.inl h
    · cases hx : nameB a with
      | false => exact Or.inl rfl
      | true => exact Or.inr ⟨rfl, by omega, h'⟩
  · have ha : nameB a = true := by
      cases hx : nameB a with
      | false => exact absurd (Or.inl hx) hn
      | true => rfl
    have ht : k = 2 → nameB t = true := fun hk => by
      cases hx : nameB t with
      | false => exact absurd (Or.inr ⟨hk, hx⟩) hn
      | true => rfl
    by_cases hp : k ≤ 1
    · have e : refX xt l ⟨k, a, s, t, z⟩ = growF xt l (if (k : Int) = 0 then (s.size : Int) else (s.size : Int) - (((getF l a).getD ⟨#[]⟩).size : Int)) := by
        unfold refX
        rw [if_neg hn, if_pos hp]
        have e2 : ((k : Int) = 0) = (k = 0) := by simp
        simp only [e2]
      rw [e]
      exact refusal_put base b _ k z vn vs vl u d l a s t w (by omega) hB hm hl ha h2 h4 (fun W hW => growth_x base b _ vn vs vl u d false l W (hB.kept hW (by simp)) (hm.kept hW (fun _ _ => by simp)) hZ (by split <;> omega))
    · cases hf : getF l a with
      | none =>
        have e : refX xt l ⟨k, a, s, t, z⟩ = 2 := by unfold refX; rw [if_neg hn, if_neg hp]; simp only [hf]
        rw [e]
        have hk : k = 2 ∨ k = 3 ∨ k = 4 := by omega
        rcases hk with rfl | rfl | rfl
        · exact refusal_none2 base b z vn vs vl u d l a s t w hB hm hl ha h2 h3 (fun _ => ht rfl) hf
        · exact refusal_none3 base b z vn vs vl u d l a s t w hB hm hl ha h2 hf
        · exact refusal_none4 base b z vn vs vl u d l a s t w hB hm hl ha h2 hf
      | some old =>
        have e0 : refX xt l ⟨k, a, s, t, z⟩ = if k = 2 ∧ sameB t a = true then 1 else if k = 4 ∧ (z < 0 ∨ (old.size : Int) < z) then 1 else 0 := by unfold refX; rw [if_neg hn, if_neg hp]; simp only [hf]
        rw [e0]
        have hk : k = 2 ∨ k = 3 ∨ k = 4 := by omega
        rcases hk with rfl | rfl | rfl
        · cases hx : sameB t a with
          | true =>
            rw [if_pos ⟨rfl, rfl⟩]
            exact refusal_self base b z vn vs vl u d l a s t old w hB hm hl ha h2 h3 (fun _ => ht rfl) hf ((sameB_iff _ _).1 hx)
          | false =>
            rw [if_neg (fun h => by cases h.2), if_neg (fun h => absurd h.1 (by decide))]
            exact refusal_move base b z vn vs vl u d l a s t old w hB hm hl ha h2 h3 (fun _ => ht rfl) hf (fun h => by rw [(sameB_iff _ _).2 h] at hx; cases hx)
        · rw [if_neg (fun h => absurd h.1 (by decide)), if_neg (fun h => absurd h.1 (by decide))]
          exact refusal_remove base b z vn vs vl u d l a s t old w hB hm hl ha h2 hf
        · rw [if_neg (fun h => absurd h.1 (by decide))]
          by_cases hz : z < 0
          · rw [if_pos ⟨rfl, Or.inl hz⟩]
            exact refusal_low base b z vn vs vl u d l a s t old w hB hm hl ha h2 hf hz
          · by_cases hz2 : (old.size : Int) < z
            · rw [if_pos ⟨rfl, Or.inr hz2⟩]
              exact refusal_high base b z vn vs vl u d l a s t old w hB hm hl ha h2 hf hz2
            · rw [if_neg (fun h => by rcases h.2 with h | h <;> omega)]
              exact refusal_cut base b z vn vs vl u d l a s t old w hB hm hl ha h2 hf ⟨by omega, by omega⟩
theorem perform_all (base b : Nat) (k : Dk) (c : Chg) (w : World) (h : IsDisk xt w base b k) (hS : Small k) (hc : Fine c) (hP : xt.pp = none ∧ xt.pn = 0 ∧ xt.pc = 0) (hZ : sizeF k.now ≤ 1000000000) :
    Calls Try.prog 57 #[.pointer (some ⟨b, 0, none⟩), .agg #[.int .i64 c.kind, .string c.name, .string c.bytes, .string c.to, .int .i64 c.n]] w fun e w' => e = .returned (.int .i64 (ansX xt k c : Nat)) ∧ IsDisk xt w' base b (nextX xt k c) ∧ Tend base b w w' := by
  have h' := h
  obtain ⟨hb0, vn, vs, vl, hB, hn, hsu, hne, hl⟩ := h
  cases hd : k.dead with
  | true =>
    have ea : ansX xt k c = 7 := by unfold ansX; rw [hd]; rfl
    have en : nextX xt k c = k := by unfold nextX; rw [ea]; rfl
    rw [ea, en]
    have hB' : Blk w b 73 (rowD xt vn vs vl k.unsure k.changes true) := by rw [← hd]; exact hB
    refine (perform_no b c.kind c.n c.name c.bytes c.to 7 w (by decide) (fun w1 hg1 => refusal_dead b c.kind c.n vn vs vl k.unsure k.changes c.name c.bytes c.to w1 (hB'.kept hg1 (by simp)))).mono ?_
    rintro e w' ⟨he, hg⟩
    exact ⟨he, h'.kept hg, Tend.of_none hg⟩
  | false =>
    have hB' : Blk w b 73 (rowD xt vn vs vl k.unsure k.changes false) := by rw [← hd]; exact hB
    have ea : ansX xt k c = refX xt k.now c := by unfold ansX; rw [hd]; rfl
    have CR : ∀ w1, w.grownBy w1 none → Calls Try.prog 72 #[.pointer (some ⟨b, 0, none⟩), .agg #[.int .i64 c.kind, .string c.name, .string c.bytes, .string c.to, .int .i64 c.n]] w1 fun r w' => r = .returned (.int .i64 (refX xt k.now c : Nat)) ∧ w1.grownBy w' none := fun w1 hg1 =>
      refusal_all base b vn vs vl k.unsure k.changes k.now c w1 (hB'.kept hg1 (by simp)) (hn.kept hg1 (fun _ _ => by simp)) hS.now hZ hc
    by_cases h0 : refX xt k.now c = 0
    · have en : nextX xt k c = stepD k c := by unfold nextX; rw [ea, if_pos h0]
      rw [ea, en, h0]
      rw [h0] at CR
      have hlow : c.kind = 4 → 0 ≤ c.n := fun h4 => by
        by_cases hz : c.n < 0
        · exfalso
          unfold refX at h0
          split at h0
          · cases h0
          · split at h0
            · omega
            · split at h0
              · cases h0
              · split at h0
                · cases h0
                · split at h0
                  · cases h0
                  · rename_i hx
                    exact hx ⟨h4, Or.inl hz⟩
        · omega
      refine (perform_ok base b c.kind c.n vn vs vl k.unsure k.changes k.now k.loose c.name c.bytes c.to w hb0 hB' hn hl hS.now hc.kind hc.name hc.to hc.bytes hlow hc.high hS.unsure hS.changes hS.loose (fun w1 hg1 => nextFall_any b w1 (by have e := (hB'.kept hg1 (by simp)).e4; rw [hP.1, hP.2.1, hP.2.2] at e; exact e)) CR).mono ?_
      rintro e w' ⟨he, hp⟩
      have := disk_of_perf (c := c) hb0 hB hn hsu hne hl hd hp
      exact ⟨he, this.1, this.2⟩
    · have en : nextX xt k c = k := by unfold nextX; rw [ea, if_neg h0]
      rw [ea, en]
      refine (perform_no b c.kind c.n c.name c.bytes c.to (refX xt k.now c) w h0 CR).mono ?_
      rintro e w' ⟨he, hg⟩
      exact ⟨he, h'.kept hg, Tend.of_none hg⟩
end Go.Proofs.Ytddnjlnnkeiplaa.X
