/-
  A disk of the program in memory, whatever its plan and its room. Used: the bytes of all files. growth: why a file may not have so many bytes more, whatever the room. refusal: why a change may not be.
-/
import Derived.Test.YtddnjlnnkeiplaaMore
import Derived.Deep.RegionLaw
namespace Go.Proofs.Ytddnjlnnkeiplaa.X
open Go.RowKit Go.Maps
/-- What else a disk has: its plan, as a slice, and its room. -/
structure Xt where
  pp : Option Addr
  pn : Nat
  pc : Nat
  bd : Bool
  rm : Int
def rowD (x : Xt) (vn vs vl : Value) (u c : Nat) (dd : Bool) : Array Value := #[vn, vs, vl, .int .i64 u, .slice x.pp x.pn x.pc, .int .i64 c, .bool x.bd, .int .i64 x.rm, .bool dd]
/-- Block b is a disk of this state; its maps and its list lie from base on. -/
def IsDisk (x : Xt) (w : World) (base b : Nat) (k : Dk) : Prop :=
  base ≤ b ∧ ∃ vn vs vl, Blk w b 73 (rowD x vn vs vl k.unsure k.changes k.dead) ∧ MapV w base vn k.now ∧ MapV w base vs k.sure ∧ (∀ g, vn = .map (some g) → vs ≠ .map (some g)) ∧ w.ownsRow base 101 5 vl k.loose.length (looseL k.loose)
variable {x : Xt}
theorem IsDisk.lt {w : World} {base b : Nat} {k : Dk} (h : IsDisk x w base b k) : b < w.heap.size := by
  obtain ⟨_, _, _, _, hb, _⟩ := h
  exact hb.lt
theorem IsDisk.kept {w w' : World} {base b : Nat} {k : Dk} (h : IsDisk x w base b k) (hg : w.grownBy w' none) : IsDisk x w' base b k := by
  obtain ⟨h0, vn, vs, vl, hb, hn, hs, hne, hl⟩ := h
  refine ⟨h0, vn, vs, vl, hb.kept hg (by simp), hn.kept hg (by simp), hs.kept hg (by simp), hne, hl.kept hg ?_⟩
  cases vl.ownBlock with
  | none => exact Or.inl rfl
  | some x => exact Or.inr (by simp)
/-- A disk without a plan, with any room. -/
def x0 : Xt := ⟨none, 0, 0, false, 0⟩
theorem of_plain {w : World} {base b : Nat} {k : Dk} (h : Ytddnjlnnkeiplaa.IsDisk w base b k) : IsDisk x0 w base b k := h
theorem to_plain {w : World} {base b : Nat} {k : Dk} (h : IsDisk x0 w base b k) : Ytddnjlnnkeiplaa.IsDisk w base b k := h
end Go.Proofs.Ytddnjlnnkeiplaa.X
namespace Go.Proofs.Ytddnjlnnkeiplaa
variable {x : X.Xt} {w : World} {b : Nat} {vn vs vl : Value} {u c : Nat} {dd : Bool}
theorem Blk.e0 (h : Blk w b 73 (X.rowD x vn vs vl u c dd)) : w.cell? ⟨b, 0, none⟩ = some vn := by rw [h.cell]; rfl
theorem Blk.e1 (h : Blk w b 73 (X.rowD x vn vs vl u c dd)) : w.cell? ⟨b, 1, none⟩ = some vs := by rw [h.cell]; rfl
theorem Blk.e2 (h : Blk w b 73 (X.rowD x vn vs vl u c dd)) : w.cell? ⟨b, 2, none⟩ = some vl := by rw [h.cell]; rfl
theorem Blk.e3 (h : Blk w b 73 (X.rowD x vn vs vl u c dd)) : w.cell? ⟨b, 3, none⟩ = some (.int .i64 u) := by rw [h.cell]; rfl
theorem Blk.e4 (h : Blk w b 73 (X.rowD x vn vs vl u c dd)) : w.cell? ⟨b, 4, none⟩ = some (.slice x.pp x.pn x.pc) := by rw [h.cell]; rfl
theorem Blk.e5 (h : Blk w b 73 (X.rowD x vn vs vl u c dd)) : w.cell? ⟨b, 5, none⟩ = some (.int .i64 c) := by rw [h.cell]; rfl
theorem Blk.e6 (h : Blk w b 73 (X.rowD x vn vs vl u c dd)) : w.cell? ⟨b, 6, none⟩ = some (.bool x.bd) := by rw [h.cell]; rfl
theorem Blk.e7 (h : Blk w b 73 (X.rowD x vn vs vl u c dd)) : w.cell? ⟨b, 7, none⟩ = some (.int .i64 x.rm) := by rw [h.cell]; rfl
theorem Blk.e8 (h : Blk w b 73 (X.rowD x vn vs vl u c dd)) : w.cell? ⟨b, 8, none⟩ = some (.bool dd) := by rw [h.cell]; rfl
end Go.Proofs.Ytddnjlnnkeiplaa
namespace Go.Proofs.Ytddnjlnnkeiplaa
open Go.RowKit Go.Maps
section
variable {ops : Array Oper} {rest : List Oper} {o : Oper} {a : Act} {Q : Exit → Act → World → Prop} {w : World}
theorem next_left (b r n : Nat) (D : DataW Unit) (left : Lit → Bool) (cnt : Nat) (h : w.ranges Try.prog 9 fileElem b r n D left cnt) (it : Operand) (hg : o.guard = none) (hop : o.op = Op.next it false) (hit : a.eval it = .pointer (some ⟨r, 0, none⟩))
    (hDone : cnt = 0 → (∀ kl, left kl = false) → wpList Try.prog ops Q rest (a.put o.dst (.tuple #[.bool false])) w)
    (hMore : ∀ (x c : ByteArray) (w' : World) (cnt' : Nat), left (keyL x) = true → (∀ zd, D.atKey (keyL x) zd = .lit (keyL c)) → w'.ranges Try.prog 9 fileElem b r n D (fun z => left z && !z.sameKey (keyL x)) cnt' → cnt' < cnt →
      w.grownBy w' (some r) → w'.heap.size = w.heap.size → (Instr.entry (.pointer (some ⟨r, 0, none⟩))).run Try.prog w' = .ok (.tuple #[.string x, .agg #[.string c]]) w' → wpList Try.prog ops Q rest (a.put o.dst (.tuple #[.bool true, .string x, .agg #[.string c]])) w') :
    wpList Try.prog ops Q (o :: rest) a w :=
  wpList_next_ranges w hg it hop 9 law9 fileElem (fun x : ByteArray => Value.string x) (fun c : ByteArray => Value.agg #[.string c]) (fun key kl hkey => by obtain ⟨x, rfl, _⟩ := key_inv hkey; exact ⟨x, rfl⟩) (fun v y hv => by obtain ⟨c, rfl, _⟩ := fileElem_inv hv; exact ⟨c, rfl⟩)
    b r n D left cnt hit h hDone (fun x c kl y w' cnt' hkey hlk hv hat hrg hlt hgr hsz hen => by
      obtain ⟨x', ex, rfl, hwx⟩ := key_inv hkey
      cases ex
      obtain ⟨c', ec, rfl⟩ := fileElem_inv hv
      obtain rfl : c = c' := agg_inj ec
      exact hMore x c w' cnt' hlk hat hrg hlt hgr hsz hen)
end
/-- Names that are all unlike. -/
def Apart (l : FS) : Prop := l.Pairwise fun p q => sameB p.1 q.1 = false
/-- The bytes of those that are no longer to come. -/
def gone (left : Lit → Bool) : FS → Nat
  | [] => 0
  | p :: r => (if left (keyL p.1) then 0 else p.2.size) + gone left r
theorem gone_all (left : Lit → Bool) (h : ∀ k, left k = false) : ∀ l : FS, gone left l = sizeF l
  | [] => rfl
  | p :: r => by
    unfold gone
    rw [h, gone_all left h r]
    rfl
theorem gone_none (left : Lit → Bool) : ∀ l : FS, (∀ p ∈ l, left (keyL p.1) = true) → gone left l = 0
  | [], _ => rfl
  | p :: r, h => by
    unfold gone
    rw [h p List.mem_cons_self, gone_none left r (fun q hq => h q (List.mem_cons_of_mem _ hq))]
    rfl
theorem gone_le (left : Lit → Bool) : ∀ l : FS, gone left l ≤ sizeF l
  | [] => Nat.le_refl _
  | p :: r => by
    have := gone_le left r
    unfold gone
    show _ ≤ p.2.size + sizeF r
    split <;> omega
theorem gone_other (left : Lit → Bool) (x : ByteArray) : ∀ l : FS, (∀ p ∈ l, sameB p.1 x = false) → gone (fun z => left z && !z.sameKey (keyL x)) l = gone left l
  | [], _ => rfl
  | p :: r, h => by
    unfold gone
    rw [gone_other left x r (fun q hq => h q (List.mem_cons_of_mem _ hq)), sameKey_key, h p List.mem_cons_self]
    simp
theorem gone_step (left : Lit → Bool) (x c : ByteArray) (hx : left (keyL x) = true) : ∀ l : FS, Apart l → getF l x = some c → gone (fun z => left z && !z.sameKey (keyL x)) l = gone left l + c.size
  | [], _, h => by cases h
  | p :: r, ha, h => by
    have ha' := List.pairwise_cons.1 ha
    unfold getF at h
    rw [List.find?_cons] at h
    unfold gone
    rw [sameKey_key]
    cases hs : sameB p.1 x with
    | true =>
      rw [hs] at h
      have hp : p.1 = x := (sameB_iff _ _).1 hs
      have hc : p.2 = c := by simpa using h
      have ho := gone_other left x r (fun q hq => by
        have := ha'.1 q hq
        rw [hp] at this
        unfold sameB at this ⊢
        rw [beq_eq_false_iff_ne] at this ⊢
        exact fun e => this e.symm)
      rw [ho, hp, hx, ← hc]
      simp
      omega
    | false =>
      rw [hs] at h
      have ih := gone_step left x c hx r ha'.2 h
      rw [ih]
      simp
      omega
theorem apart_of {w : World} {g : Nat} {l : FS} (h : OwnsF w g l) : Apart l := by
  obtain ⟨es, e, hp, _⟩ := World.ownsMap.entries h law9
  unfold datum at e
  injection e with e
  subst e
  rw [List.pairwise_map] at hp
  refine hp.imp ?_
  intro p q hne
  cases hs : sameB p.1 q.1 with
  | false => rfl
  | true => exact absurd (by rw [show (entryL p).1 = keyL p.1 from rfl, (sameB_iff _ _).1 hs]; rfl) hne
theorem get_of_at {l : FS} {x c : ByteArray} (h : ∀ zd, (datum l).atKey (keyL x) zd = .lit (keyL c)) : getF l x = some c := by
  have h1 := Maps.has_true_of_atKey h
  rw [datum_has] at h1
  obtain ⟨s, hs⟩ := Option.isSome_iff_exists.1 h1
  have h2 := h (.lit (keyL ⟨#[]⟩))
  rw [datum_at, hs] at h2
  rw [hs]
  exact congrArg some (lit_inj h2)
theorem has_mem (l : FS) : ∀ p ∈ l, Maps.has (datum l) (keyL p.1) = true := by
  intro p hp
  unfold datum
  rw [Maps.has_eq, List.any_eq_true]
  exact ⟨entryL p, List.mem_map_of_mem hp, by show (keyL p.1).sameKey (keyL p.1) = true; rw [sameKey_key]; exact (sameB_iff _ _).2 rfl⟩
theorem used_cell {w : World} {b g : Nat} {l : FS} (c0 : w.cell? ⟨b, 0, none⟩ = some (.map (some g))) (ho : OwnsF w g l) (hs : sizeF l ≤ 1000000000) :
    Calls Try.prog 34 #[.pointer (some ⟨b, 0, none⟩)] w fun e w' => e = .returned (.int .i64 (sizeF l)) ∧ w.grownBy w' none := by
  have HO : Hid (OwnsF w g l) := ho
  have HA : Hid (Apart l) := apart_of ho
  have hgl := ho.lt
  clear ho
  go_enter Try.func34, Try.ntmps34
  go_wp2_with (first | (at_range; refine wpList_range_own _ rfl _ 70 rfl 9 105 law9 Try.underlying70 _ g l.length _ rfl HO.out ?_; intro w0 hrg0 hg0 hs0) | go_in)
  go_frame
  go_loopw [3] (fun t wr => ∃ (left : Lit → Bool) (cnt : Nat), wr.ranges Try.prog 9 fileElem g w.heap.size l.length (datum l) left cnt ∧ t = .int .i64 (gone left l) ∧ w.grownBy wr none) (fun _ wr => wr.rangeLeft g w.heap.size)
  case atStart => exact ⟨_, _, hrg0, by rw [gone_none _ l (has_mem l)]; rfl, hg0⟩
  case round =>
    obtain ⟨left, cnt, hrg, rfl, hgw⟩ := hrel
    clear hrg0 hg0 hs0
    have hle := gone_le left l
    have i1 : ((gone left l : Nat) : Int) ≤ 1000000000 := by omega
    have i0 : (0 : Int) ≤ ((gone left l : Nat) : Int) := by omega
    have GW : Hid (w.grownBy wr none) := hgw
    have RG : Hid (wr.ranges Try.prog 9 fileElem g w.heap.size l.length (datum l) left cnt) := hrg
    clear hgw hrg
    go_wp2_with (first | (at_next; refine next_left g w.heap.size l.length _ _ _ RG.out _ rfl rfl rfl ?_ ?_) | go_in)
    · intro hc0 hl0
      rw [gone_all left hl0]
      go_wp2
      go_ret
      exact ⟨rfl, GW.out⟩
    · intro x c w1 cnt1 hlx hat hrg1 hlt hg1 hs1 hen
      have hst := gone_step left x c hlx l HA.out (get_of_at hat)
      have hle2 := gone_le (fun z => left z && !z.sameKey (keyL x)) l
      have ST : Hid (gone (fun z => left z && !z.sameKey (keyL x)) l = gone left l + c.size) := hst
      have i2 : (c.size : Int) ≤ 1000000000 := by omega
      have R1 : Hid (w1.ranges Try.prog 9 fileElem g w.heap.size l.length (datum l) (fun z => left z && !z.sameKey (keyL x)) cnt1) := hrg1
      have G1 : Hid (w.grownBy w1 none) := grown_through GW.out hg1 (Nat.le_refl _)
      clear hst hle2 hat hrg1 hg1 hs1
      go_wp2
      have hrg2 := R1.out.alloc (.cells #[.string c] 105)
      go_roundw
      case rel => exact ⟨_, cnt1, hrg2, by rw [ST.out]; go_num, grown_alloc G1.out _⟩
      case measure => rw [hrg2.left_eq, RG.out.left_eq]; exact hlt
set_option maxRecDepth 100000 in
theorem used_none (b : Nat) (w : World) (c0 : w.cell? ⟨b, 0, none⟩ = some (.map none)) : Calls Try.prog 34 #[.pointer (some ⟨b, 0, none⟩)] w fun e w' => e = .returned (.int .i64 0) ∧ w.grownBy w' none := by
  have hrg := run_range_nilMap (P := Try.prog) w 70 9 105 Try.underlying70
  have hnx : ∀ ty, (Instr.next (.pointer (some ⟨w.heap.size, 0, none⟩)) false ty).run Try.prog (w.alloc (.mapIter none 0 #[] 0)) = _ := fun ty => run_next_nilMap _ ty 0 0 #[]
  go_enter Try.func34, Try.ntmps34
  go_wp2
  refine wp_loop_rounds 1 ?_
  rw [rounds_succ]
  go_wp2
  go_ret
  exact ⟨rfl, grown_alloc (grown_refl _ _) _⟩
theorem used_any (base b : Nat) (k : Dk) (w : World) (h : IsDisk w base b k) (hs : sizeF k.now ≤ 1000000000) : Calls Try.prog 34 #[.pointer (some ⟨b, 0, none⟩)] w fun e w' => e = .returned (.int .i64 (sizeF k.now)) ∧ w.grownBy w' none := by
  obtain ⟨hb0, vn, vs, vl, hB, hm, _⟩ := h
  rcases hm with ⟨rfl, e⟩ | ⟨g, rfl, _, ho⟩
  · rw [e]
    exact used_none b w hB.d0
  · exact used_cell hB.d0 ho hs
end Go.Proofs.Ytddnjlnnkeiplaa
namespace Go.Proofs.Ytddnjlnnkeiplaa.X
open Go.RowKit Go.Maps
variable {x : Xt}
/-- Why a file may not have so many bytes more. -/
def growF (x : Xt) (now : FS) (n : Int) : Nat := if 0 < n ∧ x.bd = true ∧ x.rm < (sizeF now : Int) + n then 31 else 0
theorem used_x (base b : Nat) (vn vs vl : Value) (u c : Nat) (dd : Bool) (l : FS) (w : World) (hB : Blk w b 73 (rowD x vn vs vl u c dd)) (hm : MapV w base vn l) (hs : sizeF l ≤ 1000000000) :
    Calls Try.prog 34 #[.pointer (some ⟨b, 0, none⟩)] w fun e w' => e = .returned (.int .i64 (sizeF l)) ∧ w.grownBy w' none := by
  rcases hm with ⟨rfl, e⟩ | ⟨g, rfl, _, ho⟩
  · rw [e]
    exact used_none b w hB.e0
  · exact used_cell hB.e0 ho hs
set_option maxRecDepth 100000 in
set_option maxHeartbeats 1000000 in
theorem growth_x (base b : Nat) (n : Int) (vn vs vl : Value) (u c : Nat) (dd : Bool) (l : FS) (w : World) (hB : Blk w b 73 (rowD x vn vs vl u c dd)) (hm : MapV w base vn l) (hs : sizeF l ≤ 1000000000) (hn2 : n ≤ 1000000000) :
    Calls Try.prog 79 #[.pointer (some ⟨b, 0, none⟩), .int .i64 n] w fun e w' => e = .returned (.int .i64 (growF x l n : Nat)) ∧ w.grownBy w' none := by
  have h6 := hB.e6
  have h7 := hB.e7
  have HB : Hid (Blk w b 73 (rowD x vn vs vl u c dd)) := hB
  have CU : Hid (∀ W, w.grownBy W none → Calls Try.prog 34 #[.pointer (some ⟨b, 0, none⟩)] W fun e w' => e = .returned (.int .i64 (sizeF l)) ∧ W.grownBy w' none) := fun W hW => used_x base b vn vs vl u c dd l W (hB.kept hW (by simp)) (hm.kept hW (fun _ _ => by simp)) hs
  unfold growF
  obtain ⟨pp, pn, pc, bd, rm⟩ := x
  simp only at h6 h7 ⊢
  by_cases hn : 0 < n
  · have hd : decide (0 < n) = true := by simpa using hn
    cases bd with
    | false =>
      rw [if_neg (fun h => by cases h.2.1)]
      clear CU hm hs HB
      go_enter Try.func79, Try.ntmps79
      go_wp2_with fail
      go_quiet (fail)
      go_wp2_with fail
      go_ret
      exact ⟨rfl, grown_drewN (grown_refl _ _) _⟩
    | true =>
      have i1 : (sizeF l : Int) ≤ 1000000000 := by omega
      have i0 : (0 : Int) ≤ (sizeF l : Int) := by omega
      have iw : IntKind.i64.wrap ((sizeF l : Int) + n) = (sizeF l : Int) + n := by rw [IntKind.wrap_i64]; omega
      generalize (sizeF l : Int) = z at *
      clear hm hs hB
      by_cases hf : rm < z + n
      · rw [if_pos ⟨hn, rfl, hf⟩]
        have hfd : decide (rm < z + n) = true := by simpa using hf
        go_enter Try.func79, Try.ntmps79
        go_wp2_with fail
        go_region_law (go_simp; go_at_call 34; refine (CU.out _ (grown_drew (grown_refl _ _))).mono ?_; rintro e w1 ⟨rfl, g1⟩; have G1 : Hid (w.grownBy w1 none) := (grown_trans (grown_drew (grown_refl _ _)) g1); have k7 := (HB.out.kept G1.out (by simp)).e7; simp only at k7; clear g1 CU)
        all_goals (
          go_wp2_with fail
          go_ret
          exact ⟨rfl, G1.out⟩)
      · rw [if_neg (fun h => hf h.2.2)]
        have hfd : decide (rm < z + n) = false := by simpa using hf
        go_enter Try.func79, Try.ntmps79
        go_wp2_with fail
        go_region_law (go_simp; go_at_call 34; refine (CU.out _ (grown_drew (grown_refl _ _))).mono ?_; rintro e w1 ⟨rfl, g1⟩; have G1 : Hid (w.grownBy w1 none) := (grown_trans (grown_drew (grown_refl _ _)) g1); have k7 := (HB.out.kept G1.out (by simp)).e7; simp only at k7; clear g1 CU)
        all_goals (
          go_wp2_with fail
          go_ret
          exact ⟨rfl, G1.out⟩)
  · have hd : decide (0 < n) = false := by simpa using hn
    rw [if_neg (fun h => hn h.1)]
    clear CU hm hs HB
    go_enter Try.func79, Try.ntmps79
    go_wp2_with fail
    go_quiet (fail)
    go_wp2_with fail
    go_ret
    exact ⟨rfl, grown_drewN (grown_refl _ _) _⟩
end Go.Proofs.Ytddnjlnnkeiplaa.X
namespace Go.Proofs.Ytddnjlnnkeiplaa.X
open Go.RowKit Go.Maps
variable {xt : Xt}
set_option maxRecDepth 100000 in
set_option maxHeartbeats 1000000 in
/-- An Append or a Write whose name may be. -/
theorem refusal_put (base b q : Nat) (k z : Int) (vn vs vl : Value) (u c : Nat) (l : FS) (a s t : ByteArray) (w : World) (hk : k = 0 ∨ k = 1) (hB : Blk w b 73 (rowD xt vn vs vl u c false))
    (hm : MapV w base vn l) (hl : Fits l 1000000) (ha : nameB a = true) (ham : a.size ≤ maxLen) (hs : s.size ≤ 1000000)
    (CG : ∀ W, w.grownBy W none → Calls Try.prog 79 #[.pointer (some ⟨b, 0, none⟩), .int .i64 (if k = 0 then (s.size : Int) else (s.size : Int) - (((getF l a).getD ⟨#[]⟩).size : Int))] W fun e w' => e = .returned (.int .i64 (q : Nat)) ∧ W.grownBy w' none) :
    Calls Try.prog 72 #[.pointer (some ⟨b, 0, none⟩), .agg #[.int .i64 k, .string a, .string s, .string t, .int .i64 z]] w fun e w' => e = .returned (.int .i64 (q : Nat)) ∧ w.grownBy w' none := by
  have hb : b < w.heap.size := hB.lt
  have HB : Hid (Blk (w.alloc (.cells #[.int .i64 k, .string a, .string s, .string t, .int .i64 z] 101)) b 73 (rowD xt vn vs vl u c false)) := hB.alloc _
  have hlk := run_lookup (w := (w.alloc (.cells #[.int .i64 k, .string a, .string s, .string t, .int .i64 z] 101)).drew) (base := base) (v := vn) (l := l) (hm.alloc _) a ham
  have hlk2 := run_lookup (w := ((w.alloc (.cells #[.int .i64 k, .string a, .string s, .string t, .int .i64 z] 101)).alloc (.cells #[.string ⟨#[]⟩] 105)).drew) (base := base) (v := vn) (l := l) ((hm.alloc _).alloc _) a ham
  have HC : Hid (Blk (w.alloc (.cells #[.int .i64 k, .string a, .string s, .string t, .int .i64 z] 101)) w.heap.size 101 #[.int .i64 k, .string a, .string s, .string t, .int .i64 z]) := Blk.new _ _ _
  have HG : Hid (w.grownBy (w.alloc (.cells #[.int .i64 k, .string a, .string s, .string t, .int .i64 z] 101)) none) := grown_alloc (grown_refl _ _) _
  have hz := get_size hl a
  have HCG : Hid _ := CG
  clear CG
  generalize (getF l a).getD ⟨#[]⟩ = old at *
  generalize (getF l a).isSome = there at *
  have CN : Hid (∀ w, Calls Try.prog 59 #[.string a] w fun e w' => e = .returned (.bool true) ∧ w' = w) := fun w => by rw [← ha]; exact name_any a w ham
  have i1 : (s.size : Int) ≤ 1000000 := by omega
  have i2 : (old.size : Int) ≤ 1000000 := by omega
  clear hm hl ha ham hs hz hB
  rcases hk with rfl | rfl
  · go_enter Try.func72, Try.ntmps72
    go_wp2_with (first | (go_at_call 27; refine (dead_any b false _ HB.out.e8).mono ?_; rintro e w' ⟨rfl, hw⟩; have hw2 := hw.symm; clear hw; subst hw2) | (go_at_call 59; refine (CN.out _).mono ?_; rintro e w' ⟨rfl, hw⟩; have hw2 := hw.symm; clear hw; subst hw2))
    have hbq : b < w.heap.size := hb
    have c0 := HB.out.e0
    have q1 : (w.alloc (.cells #[.int .i64 0, .string a, .string s, .string t, .int .i64 z] 101)).cell? ⟨w.heap.size, 1, none⟩ = some (.string a) := by rw [HC.out.cell]; rfl
    have q0 : (w.alloc (.cells #[.int .i64 0, .string a, .string s, .string t, .int .i64 z] 101)).cell? ⟨w.heap.size, 0, none⟩ = some (.int .i64 0) := by rw [HC.out.cell]; rfl
    have q2 : (w.alloc (.cells #[.int .i64 0, .string a, .string s, .string t, .int .i64 z] 101)).cell? ⟨w.heap.size, 2, none⟩ = some (.string s) := by rw [HC.out.cell]; rfl
    have hqs : w.heap.size < (w.alloc (.cells #[.int .i64 0, .string a, .string s, .string t, .int .i64 z] 101)).heap.size := by simp
    generalize w.alloc (.cells #[.int .i64 0, .string a, .string s, .string t, .int .i64 z] 101) = w1 at *
    generalize w.heap.size = q at *
    have hb1 : b < w1.heap.size := by omega
    go_region
    all_goals (
      go_wp2_with (go_at_call 79; refine (HCG.out _ (grown_alloc (grown_drew HG.out) _)).mono ?_; rintro e w' ⟨rfl, hw⟩; have HW : Hid _ := hw; clear hw HCG)
      go_ret
      exact ⟨rfl, grown_none (grown_alloc (grown_drew HG.out) _) HW.out⟩)
  · go_enter Try.func72, Try.ntmps72
    go_wp2_with (first | (go_at_call 27; refine (dead_any b false _ HB.out.e8).mono ?_; rintro e w' ⟨rfl, hw⟩; have hw2 := hw.symm; clear hw; subst hw2) | (go_at_call 59; refine (CN.out _).mono ?_; rintro e w' ⟨rfl, hw⟩; have hw2 := hw.symm; clear hw; subst hw2))
    have hbq : b < w.heap.size := hb
    have c0 := HB.out.e0
    have q1 : (w.alloc (.cells #[.int .i64 1, .string a, .string s, .string t, .int .i64 z] 101)).cell? ⟨w.heap.size, 1, none⟩ = some (.string a) := by rw [HC.out.cell]; rfl
    have q0 : (w.alloc (.cells #[.int .i64 1, .string a, .string s, .string t, .int .i64 z] 101)).cell? ⟨w.heap.size, 0, none⟩ = some (.int .i64 1) := by rw [HC.out.cell]; rfl
    have q2 : (w.alloc (.cells #[.int .i64 1, .string a, .string s, .string t, .int .i64 z] 101)).cell? ⟨w.heap.size, 2, none⟩ = some (.string s) := by rw [HC.out.cell]; rfl
    have hqs : w.heap.size < (w.alloc (.cells #[.int .i64 1, .string a, .string s, .string t, .int .i64 z] 101)).heap.size := by simp
    generalize w.alloc (.cells #[.int .i64 1, .string a, .string s, .string t, .int .i64 z] 101) = w1 at *
    generalize w.heap.size = q at *
    have hb1 : b < w1.heap.size := by omega
    go_region
    all_goals (
      go_wp2_with (go_at_call 79; refine (HCG.out _ (grown_alloc (grown_drew HG.out) _)).mono ?_; rintro e w' ⟨rfl, hw⟩; have HW : Hid _ := hw; clear hw HCG)
      go_ret
      exact ⟨rfl, grown_none (grown_alloc (grown_drew HG.out) _) HW.out⟩)
end Go.Proofs.Ytddnjlnnkeiplaa.X
