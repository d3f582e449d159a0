/-
  The law's own copy of a page, its lists cut at twelve.
-/
import Derived.Test.YtomknaendicpkaaDecode
import Derived.Deep.RegionLaw
namespace Go.Proofs.Ytomknaendicpkaa
open Go.RowKit
theorem step_str {ops : Array Oper} {o : Oper} {a : Act} {w : World} {K : Act → World → Prop} {Q : Exit → Act → World → Prop} {E : Prop} (base : Nat) (v : Value) (l : List ByteArray) (c : ByteArray) (ad : Addr) (cc : Nat) (s x : Operand)
    (hrow : w.ownsRow base 9 1 v l.length (strs l)) (hcell : w.cell? ad = some (.string c)) (hl : l.length ≤ 1000) (hbase : base ≤ w.heap.size)
    (hg : o.guard = none) (ho : o.op = Op.call { callee := Callee.builtin Builtin.append, args := #[s, x], argTypes := #[22, 22] }) (hs : a.eval s = v) (hx : a.eval x = .slice (some ad) 1 cc)
    (hK : ∀ v' w', w'.ownsRow base 9 1 v' (l.length + 1) (strs (l ++ [c])) → w.grownBy w' v.ownBlock → K (a.put o.dst v') w') :
    if Region.wanted o (yielded ops a.tmps) = true then Oper.wp Try.prog o a w K Q else E := by
  have hw : Region.wanted o (yielded ops a.tmps) = true := by simp [Region.wanted, hg]
  rw [if_pos hw]
  obtain ⟨i80, hi, hz0, hz1, hz2⟩ := info_parts info9
  have hnews : ∀ j u, [Value.string c][j]? = some u → w.cell? (ad.add j) = some u := by
    intro j u hj
    match j, hj with
    | 0, hj =>
      rw [List.getElem?_cons_zero] at hj
      rw [← hj]
      exact hcell
  refine wp_append_own w s x 22 ho base 9 i80 _ 1 16 Try.underlying22 hi hz0 hz1 hz2 rfl (by decide) v l.length (strs l) hs hrow ad 1 cc [.string c] hx rfl hnews ?_ (by unfold maxLen; omega) (by omega) hbase ?_
  · intro u hu
    rw [List.mem_singleton] at hu; subst hu; rfl
  · intro v' w' h1 h2 _
    refine hK v' w' ?_ h2
    unfold strs
    rw [List.map_append]
    exact h1
theorem step_int {ops : Array Oper} {o : Oper} {a : Act} {w : World} {K : Act → World → Prop} {Q : Exit → Act → World → Prop} {E : Prop} (base : Nat) (v : Value) (l : List Int) (c : Int) (ad : Addr) (cc : Nat) (s x : Operand)
    (hrow : w.ownsRow base 3 1 v l.length (ints l)) (hcell : w.cell? ad = some (.int .i64 c)) (hl : l.length ≤ 1000) (hbase : base ≤ w.heap.size)
    (hg : o.guard = none) (ho : o.op = Op.call { callee := Callee.builtin Builtin.append, args := #[s, x], argTypes := #[23, 23] }) (hs : a.eval s = v) (hx : a.eval x = .slice (some ad) 1 cc)
    (hK : ∀ v' w', w'.ownsRow base 3 1 v' (l.length + 1) (ints (l ++ [c])) → w.grownBy w' v.ownBlock → K (a.put o.dst v') w') :
    if Region.wanted o (yielded ops a.tmps) = true then Oper.wp Try.prog o a w K Q else E := by
  have hw : Region.wanted o (yielded ops a.tmps) = true := by simp [Region.wanted, hg]
  rw [if_pos hw]
  obtain ⟨i80, hi, hz0, hz1, hz2⟩ := info_parts info3
  have hnews : ∀ j u, [Value.int .i64 c][j]? = some u → w.cell? (ad.add j) = some u := by
    intro j u hj
    match j, hj with
    | 0, hj =>
      rw [List.getElem?_cons_zero] at hj
      rw [← hj]
      exact hcell
  refine wp_append_own w s x 23 ho base 3 i80 _ 1 8 Try.underlying23 hi hz0 hz1 hz2 rfl (by decide) v l.length (ints l) hs hrow ad 1 cc [.int .i64 c] hx rfl hnews ?_ (by unfold maxLen; omega) (by omega) hbase ?_
  · intro u hu
    rw [List.mem_singleton] at hu; subst hu; rfl
  · intro v' w' h1 h2 _
    refine hK v' w' ?_ h2
    unfold ints
    rw [List.map_append]
    exact h1
theorem results_pr {fn : Func} {p : Tmp} (h : fn.results = #[.cell p 30]) (tmps : Array Value) (w : World) (g : Nat) {x y z u : Value} (hp : tmps.getD p undef = .pointer (some ⟨g, 0, none⟩)) (hg : Blk w g 30 #[x, y, z, u]) : (results fn tmps).run Try.prog w = .ok (.agg #[x, y, z, u]) w :=
  results_cell_row h _ _ g 30 _ (0, 0) _ hp hg Try.underlying30 rfl size30
def cutP (p : Pg) : Pg := ⟨p.leaf, p.keys.take 12, p.vals.take 12, p.kids.take 12⟩
theorem owns_drew {w : World} {base n : Nat} {t : TypeId} {v : Value} {xs : List Value} (h : w.ownsRow base t 1 v n xs) : w.drew.ownsRow base t 1 v n xs := h
theorem owns_far {w w' : World} {base n : Nat} {t : TypeId} {v : Value} {xs : List Value} {ob : Option Nat} (h : w.ownsRow base t 1 v n xs) (hg : w.grownBy w' ob) (hn : ∀ g, v.ownBlock = some g → ob ≠ some g) : w'.ownsRow base t 1 v n xs :=
  h.kept hg (by cases hv : v.ownBlock with | none => exact Or.inl rfl | some g => exact Or.inr (fun e => hn g hv e.symm))
/-- The copy under way: the page's box, the place of the answer, the copy. -/
def RefS (w wr : World) (cs : Array Value) (lf : Bool) (a b c : Value) : Prop := Blk wr w.heap.size 25 cs ∧ Blk wr (w.heap.size + 1) 30 #[.bool false, .slice none 0 0, .slice none 0 0, .slice none 0 0] ∧ Blk wr (w.heap.size + 1 + 1) 30 #[.bool lf, a, b, c] ∧ w.grownBy wr none
theorem RefS.low {w wr w8 : World} {cs : Array Value} {lf : Bool} {a b c : Value} {ob : Option Nat} (h : RefS w wr cs lf a b c) (hg : wr.grownBy w8 ob) (ho : ∀ g, ob = some g → w.heap.size + 3 ≤ g) : RefS w w8 cs lf a b c := by
  obtain ⟨h1, h2, h3, h4⟩ := h
  exact ⟨h1.kept hg (fun e => by have := ho _ e.symm; omega), h2.kept hg (fun e => by have := ho _ e.symm; omega), h3.kept hg (fun e => by have := ho _ e.symm; omega), grown_ob' h4 hg (fun x e => by have := ho _ e; omega)⟩
theorem RefS.put {w wr : World} {cs : Array Value} {lf : Bool} {a b c a' b' c' : Value} (h : RefS w wr cs lf a b c) (i : Nat) (v : Value) (e : (#[.bool lf, a, b, c] : Array Value).setIfInBounds i v = #[.bool lf, a', b', c']) : RefS w (wr.setCell ⟨w.heap.size + 1 + 1, i, none⟩ v) cs lf a' b' c' := by
  obtain ⟨h1, h2, h3, h4⟩ := h
  refine ⟨h1.other _ (by show w.heap.size ≠ w.heap.size + 1 + 1; omega), h2.other _ (by show w.heap.size + 1 ≠ w.heap.size + 1 + 1; omega), ?_, grown_set_new h4 _ (by show w.heap.size ≤ w.heap.size + 1 + 1; omega)⟩
  rw [← e]
  exact h3.set i v
theorem RefS.alloc {w wr : World} {cs : Array Value} {lf : Bool} {a b c : Value} (h : RefS w wr cs lf a b c) (o : Obj) : RefS w (wr.alloc o) cs lf a b c := h.low (grown_alloc (grown_refl _ none) o) (fun g e => by cases e)
theorem RefS.size {w wr : World} {cs : Array Value} {lf : Bool} {a b c : Value} (h : RefS w wr cs lf a b c) : w.heap.size + 3 ≤ wr.heap.size := h.2.2.1.lt
theorem take_snoc {α : Type} {l : List α} {k : Nat} (h : k < l.length) : l.take (k + 1) = l.take k ++ [l[k]] := List.take_succ_eq_append_getElem h
set_option maxRecDepth 100000 in
set_option maxHeartbeats 4000000 in
theorem ref_any (v : Value) (p : Pg) (w : World) (h : PgV w v p) (hf : p.fits) : Calls Try.prog 9 #[v] w fun e w' => ∃ u, e = .returned u ∧ PgO w' w.heap.size u (cutP p) ∧ w.grownBy w' none := by
  obtain ⟨f1, f2, f3⟩ := hf
  obtain ⟨a, b, c, rfl, ha, hb, hc⟩ := h
  obtain ⟨pa, ca, ga, oa, rfl, pA, cA⟩ := ha
  obtain ⟨pb, cb, gb, ob, rfl, pB, cB⟩ := hb
  obtain ⟨pc, cc, gc, oc, rfl, pC, cC⟩ := hc
  obtain ⟨leaf, keys, vals, kids⟩ := p
  simp only at *
  have PA : Hid (0 < keys.length → pa = some ⟨ga, oa, none⟩) := pA
  have PB : Hid (0 < vals.length → pb = some ⟨gb, ob, none⟩) := pB
  have PC : Hid (0 < kids.length → pc = some ⟨gc, oc, none⟩) := pC
  have CA : Hid (∀ i, (h : i < keys.length) → w.cell? ⟨ga, oa + i, none⟩ = some (.string keys[i])) := cA
  have CB : Hid (∀ i, (h : i < vals.length) → w.cell? ⟨gb, ob + i, none⟩ = some (.string vals[i])) := cB
  have CC : Hid (∀ i, (h : i < kids.length) → w.cell? ⟨gc, oc + i, none⟩ = some (.int .i64 kids[i])) := cC
  clear pA pB pC cA cB cC
  have z1 : (keys.length : Int) ≤ 9223372036854775807 := by omega
  have z2 : (vals.length : Int) ≤ 9223372036854775807 := by omega
  have z3 : (kids.length : Int) ≤ 9223372036854775807 := by omega
  obtain ⟨P, hP⟩ : ∃ P : Ending → World → Prop, P = fun e w' => ∃ u, e = .returned u ∧ PgO w' w.heap.size u (cutP ⟨leaf, keys, vals, kids⟩) ∧ w.grownBy w' none := ⟨_, rfl⟩
  rw [← hP]
  have HP := hid hP
  clear hP
  go_enter Try.func9, Try.ntmps9
  go_wp2
  have S0 : Hid (RefS w (((w.alloc (.cells #[.bool leaf, .slice pa keys.length ca, .slice pb vals.length cb, .slice pc kids.length cc] 25)).alloc (.cells #[.bool false, .slice none 0 0, .slice none 0 0, .slice none 0 0] 30)).alloc (.cells #[.bool leaf, .slice none 0 0, .slice none 0 0, .slice none 0 0] 30)) #[.bool leaf, .slice pa keys.length ca, .slice pb vals.length cb, .slice pc kids.length cc] leaf (.slice none 0 0) (.slice none 0 0) (.slice none 0 0)) := by
    refine hid ⟨((Blk.new w 25 _).alloc _).alloc _, (Blk.new2 w _ 30 _).alloc _, ?_, grown_alloc (grown_alloc (grown_alloc (grown_refl _ _) _) _) _⟩
    have := Blk.new2 (w.alloc (.cells #[.bool leaf, .slice pa keys.length ca, .slice pb vals.length cb, .slice pc kids.length cc] 25)) (.cells #[.bool false, .slice none 0 0, .slice none 0 0, .slice none 0 0] 30) 30 #[.bool leaf, .slice none 0 0, .slice none 0 0, .slice none 0 0]
    rwa [show (w.alloc (.cells #[.bool leaf, .slice pa keys.length ca, .slice pb vals.length cb, .slice pc kids.length cc] 25)).heap.size + 1 = w.heap.size + 1 + 1 by simp] at this
  go_loopw [4] (fun i wr => ∃ (k : Nat) (v : Value), k ≤ keys.length ∧ k ≤ 12 ∧ i = .int .i64 k ∧ RefS w wr #[.bool leaf, .slice pa keys.length ca, .slice pb vals.length cb, .slice pc kids.length cc] leaf v (.slice none 0 0) (.slice none 0 0) ∧ (w.heap.size + 3) ≤ wr.heap.size ∧ wr.ownsRow (w.heap.size + 3) 9 1 v k (strs (keys.take k))) (fun i _ => 12 - (intOf i).toNat)
  case atStart => exact ⟨0, _, Nat.zero_le _, Nat.zero_le _, rfl, S0.out, S0.out.size, World.ownsRow_nil _ _ _ _⟩
  case round =>
    obtain ⟨k1, v, hk, hk2, rfl, hst, hbs, hown⟩ := hrel
    obtain ⟨pv1, cv1, rfl⟩ := owns_slice hown
    have ST := hid hst
    have RO := hid hown

    have q1 := ST.out.1.cell 1
    have q2 := ST.out.2.2.1.cell 1
    have q3 := ST.out.2.2.1.frozen 1
    have hsz := ST.out.size
    simp at q1 q2
    clear hst hown  S0
    have k0 : (0 : Int) ≤ k1 := by omega
    by_cases hlt : k1 < keys.length ∧ k1 < 12
    · obtain ⟨h1, h2⟩ := hlt
      have hp := PA.out (by omega)
      subst hp
      have y1 : (k1 : Int) < keys.length := by omega
      have y2 : (k1 : Int) < 12 := by omega
      have c0 := cell_kept ST.out.2.2.2 (CA.out k1 h1)
      have SN := hid (take_snoc h1)
      have LK : (keys.take k1).length = k1 := by rw [List.length_take]; omega
      clear CA CB CC
      generalize keys[k1] = s at *
      have q4 := (ST.out.alloc (.cells #[.string s] 9)).2.2.1.cell 1
      simp at q4
      go_wp2
      have NC : Hid ((wr.alloc (.cells #[.string s] 9)).drew.cell? ⟨wr.heap.size, 0, none⟩ = some (.string s)) := hid ((Blk.new wr 9 _).drew.cell 0)
      have RW : Hid ((wr.alloc (.cells #[.string s] 9)).drew.ownsRow (w.heap.size + 3) 9 1 (.slice pv1 k1 cv1) (keys.take k1).length (strs (keys.take k1))) := hid (by rw [LK]; exact owns_drew (RO.out.alloc _))
      go_region_law (refine step_str (w.heap.size + 3) (.slice pv1 k1 cv1) (keys.take k1) s ⟨wr.heap.size, 0, none⟩ 1 _ _ RW.out NC.out (by omega) (by simp; omega) rfl rfl rfl rfl ?_; intro v8 w8 h8 hg8; rw [LK] at h8; obtain ⟨pu, cu, rfl⟩ := owns_slice h8; have L8 := hid h8; have G8 : Hid ((wr.alloc (.cells #[.string s] 9)).grownBy w8 (Value.slice pv1 k1 cv1).ownBlock) := ⟨hg8.os, hg8.tape, hg8.output, hg8.size, hg8.block⟩; have S8 := hid ((ST.out.alloc (.cells #[.string s] 9)).low G8.out (fun g e => by have := (RO.out.lt g e).1; omega)); have x1 := S8.out.2.2.1.cell 1; have x2 := S8.out.2.2.1.frozen 1; simp at x1; clear h8 hg8)
      all_goals
        go_wp2
        go_roundw
        case rel =>
          have z8 : (w.heap.size + 3) ≤ w8.heap.size := by
            have := G8.out.size
            simp at this
            omega
          refine ⟨k1 + 1, .slice pu (k1 + 1) cu, by omega, by omega, by go_num, S8.out.put 1 _ rfl, by simpa [World.setCell] using z8, ?_⟩
          rw [SN.out]
          exact ownsRow_setCell_below L8.out (a := ⟨w.heap.size + 1 + 1, 1, none⟩) (by show w.heap.size + 1 + 1 < _; omega) _
        case measure => simp [intOf]; omega
    · have hx : ¬ (k1 : Int) < keys.length ∨ ((k1 : Int) < keys.length ∧ ¬ (k1 : Int) < 12) := by omega
      have EK : keys.take k1 = keys.take 12 := by
        by_cases e : k1 = 12
        · rw [e]
        · have : k1 = keys.length := by omega
          rw [this, List.take_length, List.take_of_length_le (by omega)]
      have LE1 : Hid ((keys.take 12).length = k1) := hid (by rw [← EK, List.length_take]; omega)
      rw [EK] at RO
      clear hlt EK
      obtain ⟨B2, hB2⟩ : ∃ B, B = wr.heap.size := ⟨_, rfl⟩
      have N1 : Hid (∀ g, (Value.slice pv1 k1 cv1).ownBlock = some g → g < B2) := fun g hg => by rw [hB2]; exact (RO.out.lt g hg).2
      have zB2 : w.heap.size + 3 ≤ B2 := by omega
      have SX := ST
      have TX1 := RO
      have BX : Hid (B2 ≤ wr.heap.size) := hid (by omega)
      rcases hx with y1 | ⟨y1, y2⟩
      all_goals
        go_wp2
        clear ST RO
        go_loopw [5] (fun i wr => ∃ (k : Nat) (v : Value), k ≤ vals.length ∧ k ≤ 12 ∧ i = .int .i64 k ∧ RefS w wr #[.bool leaf, .slice pa keys.length ca, .slice pb vals.length cb, .slice pc kids.length cc] leaf (.slice pv1 k1 cv1) v (.slice none 0 0) ∧ B2 ≤ wr.heap.size ∧ wr.ownsRow B2 9 1 v k (strs (vals.take k)) ∧ wr.ownsRow (w.heap.size + 3) 9 1 (.slice pv1 k1 cv1) k1 (strs (keys.take 12))) (fun i _ => 12 - (intOf i).toNat)
        case atStart => exact ⟨0, _, Nat.zero_le _, Nat.zero_le _, rfl, SX.out, BX.out, World.ownsRow_nil _ _ _ _, TX1.out⟩
        case round =>
          obtain ⟨k2, v, hk, hk2, rfl, hst, hbs, hown, hr1⟩ := hrel
          obtain ⟨pv2, cv2, rfl⟩ := owns_slice hown
          have ST := hid hst
          have RO := hid hown
          have T1 := hid hr1
          have q1 := ST.out.1.cell 2
          have q2 := ST.out.2.2.1.cell 2
          have q3 := ST.out.2.2.1.frozen 2
          have hsz := ST.out.size
          simp at q1 q2
          clear hst hown hr1 SX BX TX1
          have k0 : (0 : Int) ≤ k2 := by omega
          by_cases hlt : k2 < vals.length ∧ k2 < 12
          · obtain ⟨h1, h2⟩ := hlt
            have hp := PB.out (by omega)
            subst hp
            have y1 : (k2 : Int) < vals.length := by omega
            have y2 : (k2 : Int) < 12 := by omega
            have c0 := cell_kept ST.out.2.2.2 (CB.out k2 h1)
            have SN := hid (take_snoc h1)
            have LK : (vals.take k2).length = k2 := by rw [List.length_take]; omega
            clear CA CB CC
            generalize vals[k2] = s at *
            have q4 := (ST.out.alloc (.cells #[.string s] 9)).2.2.1.cell 2
            simp at q4
            go_wp2
            have NC : Hid ((wr.alloc (.cells #[.string s] 9)).drew.cell? ⟨wr.heap.size, 0, none⟩ = some (.string s)) := hid ((Blk.new wr 9 _).drew.cell 0)
            have RW : Hid ((wr.alloc (.cells #[.string s] 9)).drew.ownsRow B2 9 1 (.slice pv2 k2 cv2) (vals.take k2).length (strs (vals.take k2))) := hid (by rw [LK]; exact owns_drew (RO.out.alloc _))
            go_region_law (refine step_str B2 (.slice pv2 k2 cv2) (vals.take k2) s ⟨wr.heap.size, 0, none⟩ 1 _ _ RW.out NC.out (by omega) (by simp; omega) rfl rfl rfl rfl ?_; intro v8 w8 h8 hg8; rw [LK] at h8; obtain ⟨pu, cu, rfl⟩ := owns_slice h8; have L8 := hid h8; have G8 : Hid ((wr.alloc (.cells #[.string s] 9)).grownBy w8 (Value.slice pv2 k2 cv2).ownBlock) := ⟨hg8.os, hg8.tape, hg8.output, hg8.size, hg8.block⟩; have S8 := hid ((ST.out.alloc (.cells #[.string s] 9)).low G8.out (fun g e => by have := (RO.out.lt g e).1; omega)); have x1 := S8.out.2.2.1.cell 2; have x2 := S8.out.2.2.1.frozen 2; simp at x1; clear h8 hg8)
            all_goals
              go_wp2
              go_roundw
              case rel =>
                have z8 : B2 ≤ w8.heap.size := by
                  have := G8.out.size
                  simp at this
                  omega
                refine ⟨k2 + 1, .slice pu (k2 + 1) cu, by omega, by omega, by go_num, S8.out.put 2 _ rfl, by simpa [World.setCell] using z8, ?_,
                  ownsRow_setCell_below (owns_far (T1.out.alloc (.cells #[.string s] 9)) G8.out (fun g hg e => by have := N1.out g hg; have := (RO.out.lt g e).1; omega)) (a := ⟨w.heap.size + 1 + 1, 2, none⟩) (by show w.heap.size + 1 + 1 < _; omega) _⟩
                rw [SN.out]
                exact ownsRow_setCell_below L8.out (a := ⟨w.heap.size + 1 + 1, 2, none⟩) (by show w.heap.size + 1 + 1 < _; omega) _
              case measure => simp [intOf]; omega
          · have hx : ¬ (k2 : Int) < vals.length ∨ ((k2 : Int) < vals.length ∧ ¬ (k2 : Int) < 12) := by omega
            have EK : vals.take k2 = vals.take 12 := by
              by_cases e : k2 = 12
              · rw [e]
              · have : k2 = vals.length := by omega
                rw [this, List.take_length, List.take_of_length_le (by omega)]
            have LE2 : Hid ((vals.take 12).length = k2) := hid (by rw [← EK, List.length_take]; omega)
            rw [EK] at RO
            clear hlt EK
            obtain ⟨B3, hB3⟩ : ∃ B, B = wr.heap.size := ⟨_, rfl⟩
            have N2 : Hid (∀ g, (Value.slice pv2 k2 cv2).ownBlock = some g → g < B3) := fun g hg => by rw [hB3]; exact (RO.out.lt g hg).2
            have M1 : Hid (∀ g, (Value.slice pv1 k1 cv1).ownBlock = some g → g < B3) := fun g hg => by rw [hB3]; exact (T1.out.lt g hg).2
            clear N1
            have N1 := M1
            clear M1
            have zB3 : w.heap.size + 3 ≤ B3 := by omega
            have SX := ST
            have TX2 := RO
            have BX : Hid (B3 ≤ wr.heap.size) := hid (by omega)
            rcases hx with y1 | ⟨y1, y2⟩
            all_goals
              go_wp2
              clear ST RO
              go_loopw [6] (fun i wr => ∃ (k : Nat) (v : Value), k ≤ kids.length ∧ k ≤ 12 ∧ i = .int .i64 k ∧ RefS w wr #[.bool leaf, .slice pa keys.length ca, .slice pb vals.length cb, .slice pc kids.length cc] leaf (.slice pv1 k1 cv1) (.slice pv2 k2 cv2) v ∧ B3 ≤ wr.heap.size ∧ wr.ownsRow B3 3 1 v k (ints (kids.take k)) ∧ wr.ownsRow (w.heap.size + 3) 9 1 (.slice pv1 k1 cv1) k1 (strs (keys.take 12)) ∧ wr.ownsRow B2 9 1 (.slice pv2 k2 cv2) k2 (strs (vals.take 12))) (fun i _ => 12 - (intOf i).toNat)
              case atStart => exact ⟨0, _, Nat.zero_le _, Nat.zero_le _, rfl, SX.out, BX.out, World.ownsRow_nil _ _ _ _, T1.out, TX2.out⟩
              case round =>
                obtain ⟨k3, v, hk, hk2, rfl, hst, hbs, hown, hr1, hr2⟩ := hrel
                obtain ⟨pv3, cv3, rfl⟩ := owns_slice hown
                have ST := hid hst
                have RO := hid hown
                have T1 := hid hr1
                have T2 := hid hr2
                have q1 := ST.out.1.cell 3
                have q2 := ST.out.2.2.1.cell 3
                have q3 := ST.out.2.2.1.frozen 3
                have hsz := ST.out.size
                simp at q1 q2
                clear hst hown hr1 hr2 SX BX TX2
                have k0 : (0 : Int) ≤ k3 := by omega
                by_cases hlt : k3 < kids.length ∧ k3 < 12
                · obtain ⟨h1, h2⟩ := hlt
                  have hp := PC.out (by omega)
                  subst hp
                  have y1 : (k3 : Int) < kids.length := by omega
                  have y2 : (k3 : Int) < 12 := by omega
                  have c0 := cell_kept ST.out.2.2.2 (CC.out k3 h1)
                  have SN := hid (take_snoc h1)
                  have LK : (kids.take k3).length = k3 := by rw [List.length_take]; omega
                  clear CA CB CC
                  generalize kids[k3] = s at *
                  have q4 := (ST.out.alloc (.cells #[.int .i64 s] 3)).2.2.1.cell 3
                  simp at q4
                  go_wp2
                  have NC : Hid ((wr.alloc (.cells #[.int .i64 s] 3)).drew.cell? ⟨wr.heap.size, 0, none⟩ = some (.int .i64 s)) := hid ((Blk.new wr 3 _).drew.cell 0)
                  have RW : Hid ((wr.alloc (.cells #[.int .i64 s] 3)).drew.ownsRow B3 3 1 (.slice pv3 k3 cv3) (kids.take k3).length (ints (kids.take k3))) := hid (by rw [LK]; exact owns_drew (RO.out.alloc _))
                  go_region_law (refine step_int B3 (.slice pv3 k3 cv3) (kids.take k3) s ⟨wr.heap.size, 0, none⟩ 1 _ _ RW.out NC.out (by omega) (by simp; omega) rfl rfl rfl rfl ?_; intro v8 w8 h8 hg8; rw [LK] at h8; obtain ⟨pu, cu, rfl⟩ := owns_slice h8; have L8 := hid h8; have G8 : Hid ((wr.alloc (.cells #[.int .i64 s] 3)).grownBy w8 (Value.slice pv3 k3 cv3).ownBlock) := ⟨hg8.os, hg8.tape, hg8.output, hg8.size, hg8.block⟩; have S8 := hid ((ST.out.alloc (.cells #[.int .i64 s] 3)).low G8.out (fun g e => by have := (RO.out.lt g e).1; omega)); have x1 := S8.out.2.2.1.cell 3; have x2 := S8.out.2.2.1.frozen 3; simp at x1; clear h8 hg8)
                  all_goals
                    go_wp2
                    go_roundw
                    case rel =>
                      have z8 : B3 ≤ w8.heap.size := by
                        have := G8.out.size
                        simp at this
                        omega
                      refine ⟨k3 + 1, .slice pu (k3 + 1) cu, by omega, by omega, by go_num, S8.out.put 3 _ rfl, by simpa [World.setCell] using z8, ?_,
                        ownsRow_setCell_below (owns_far (T1.out.alloc (.cells #[.int .i64 s] 3)) G8.out (fun g hg e => by have := N1.out g hg; have := (RO.out.lt g e).1; omega)) (a := ⟨w.heap.size + 1 + 1, 3, none⟩) (by show w.heap.size + 1 + 1 < _; omega) _,
                        ownsRow_setCell_below (owns_far (T2.out.alloc (.cells #[.int .i64 s] 3)) G8.out (fun g hg e => by have := N2.out g hg; have := (RO.out.lt g e).1; omega)) (a := ⟨w.heap.size + 1 + 1, 3, none⟩) (by show w.heap.size + 1 + 1 < _; omega) _⟩
                      rw [SN.out]
                      exact ownsRow_setCell_below L8.out (a := ⟨w.heap.size + 1 + 1, 3, none⟩) (by show w.heap.size + 1 + 1 < _; omega) _
                    case measure => simp [intOf]; omega
                · have hx : ¬ (k3 : Int) < kids.length ∨ ((k3 : Int) < kids.length ∧ ¬ (k3 : Int) < 12) := by omega
                  have EK : kids.take k3 = kids.take 12 := by
                    by_cases e : k3 = 12
                    · rw [e]
                    · have : k3 = kids.length := by omega
                      rw [this, List.take_length, List.take_of_length_le (by omega)]
                  have LE3 : Hid ((kids.take 12).length = k3) := hid (by rw [← EK, List.length_take]; omega)
                  rw [EK] at RO
                  clear hlt EK
                  have q0 := ST.out.2.2.1.cell 0
                  have q5 := ST.out.2.2.1.cell 1
                  have q6 := ST.out.2.2.1.cell 2
                  have q7 := ST.out.2.2.1.cell 3
                  simp at q0 q5 q6 q7
                  rcases hx with y1 | ⟨y1, y2⟩
                  all_goals
                    go_wp2_with (refine q_is_store 30 (.tmp 2) (.tmp 73) rfl ?_; refine store_pg 30 size30 (w.heap.size + 1) ST.out.2.1 _ _ rfl rfl rfl rfl ?_; intro w9 hb9 hg9; have B9 := hid hb9; have G9 := hid hg9; clear hb9 hg9)
                    refine bodyPost_ret (results_pr Try.results9 _ _ (w.heap.size + 1) rfl B9.out) rfl ?_
                    rw [HP.out]
                    refine ⟨_, rfl, ⟨_, _, _, rfl, ?_, ?_, ?_⟩, grown_through ST.out.2.2.2 G9.out (by omega)⟩
                    · show w9.ownsRow w.heap.size 9 1 _ (keys.take 12).length _
                      rw [LE1.out]
                      exact owns_le (owns_kept T1.out G9.out (by omega)) (by omega)
                    · show w9.ownsRow w.heap.size 9 1 _ (vals.take 12).length _
                      rw [LE2.out]
                      exact owns_le (owns_kept T2.out G9.out (by omega)) (by omega)
                    · show w9.ownsRow w.heap.size 3 1 _ (kids.take 12).length _
                      rw [LE3.out]
                      exact owns_le (owns_kept RO.out G9.out (by omega)) (by omega)
end Go.Proofs.Ytomknaendicpkaa
