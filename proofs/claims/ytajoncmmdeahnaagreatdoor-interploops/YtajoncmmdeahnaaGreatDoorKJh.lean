/-
  The sites that were come to: what cover answers. The sites that were come to: cover.
-/
import Derived.Test.YtajoncmmdeahnaaGreatDoorKJf
import Derived.Test.YtajoncmmdeahnaaGreatDoorKId
import Derived.Test.YtajoncmmdeahnaaGreatDoorKPh
import Derived.Shelf.SlSortCmp.NoneTotal
namespace Go.Proofs.YtajoncmmdeahnaaGreatDoor
open Go.RowKit Go.Maps Go.Shelf Go.Sort
namespace Ip
theorem flat_get : ∀ (ss : List (ByteArray × Int)) (t : Nat), t < ss.length * 2 → (ss.flatMap encSt)[t]? = some ((encSt (ss.toArray[t / 2]!))[t % 2]!)
  | [], t, h => by simp at h
  | x :: r, 0, _ => by simp [encSt]
  | x :: r, 1, _ => by simp [encSt]
  | x :: r, t + 2, h => by
    have h1 := flat_get r t (by simp at h; omega)
    have e1 : (t + 2) / 2 = t / 2 + 1 := by omega
    have e2 : (t + 2) % 2 = t % 2 := by omega
    have e3 : (x :: r).toArray[t / 2 + 1]! = r.toArray[t / 2]! := by simp
    rw [e1, e2, e3, ← h1]
    simp [encSt]
theorem holds_own {w : World} {base g cap : Nat} {ss : List (ByteArray × Int)} (h : w.ownsRow base 118 2 (.slice (some ⟨g, 0, none⟩) ss.length cap) ss.length (ss.flatMap encSt)) : HoldsK encSt 2 w g 0 ss.toArray := by
  intro j hj
  rw [size_flatK] at hj
  have hj' : j < ss.length * 2 := by simpa using hj
  rw [get_flatK _ _ _ _ hj]
  refine ⟨?_, ?_⟩
  · have h1 := h.cells (g := g) rfl j _ (flat_get ss j hj')
    rw [addr_at] at h1
    rw [Nat.zero_add]
    rw [Nat.zero_add] at h1
    exact h1
  · rcases owns_cases5 h with ⟨e, _⟩ | ⟨g', cap', cur, e, _, hB, _⟩
    · cases e
    · injection e with e1
      injection e1 with e1
      injection e1 with e1
      subst e1
      exact (show Blk w g 118 cur from hB).frozen _
theorem sw_grown (w : World) (blk off n : Nat) (d : Array (ByteArray × Int)) (os : Array Obj) : w.grownBy (sortWorldK encSt 2 w blk off n d os) (some blk) := by
  unfold sortWorldK putRowK
  refine ⟨rfl, rfl, rfl, ?_, fun i hi hne => ?_⟩
  · show w.heap.size ≤ ((putRow id (Sort.ahead w n) blk off (flatK encSt 2 d)).heap ++ os).size
    rw [Array.size_append, Go.Proofs.size_putRow]
    show w.heap.size ≤ w.heap.size + _
    omega
  · rw [heap_grow_old _ _ (by rw [Go.Proofs.size_putRow]; exact hi)]
    show (w.heap.modify blk _)[i]? = _
    have hb : blk ≠ i := fun e => hne (congrArg some e.symm)
    rw [Array.getElem?_modify]
    simp [hb]
def zSt : Value := .agg #[.string ⟨#[]⟩, .int .i64 0]
theorem info118 : (Tryz.prog.info? 118).map (fun i => (i.zero, i.size, i.bytes)) = some (some zSt, 2, 24) := by kernel_rfl
theorem sort_none (p : Option Addr) (cap : Nat) (w : World) : Calls Tryz.prog 62 #[.slice p 0 cap, .func (.func 63) #[] #[]] w fun e w' => e = .returned (.tuple #[]) ∧ w' = w := AnyF.slices_SortFunc_none sortSt p cap _ w
def mkSt (p : ByteArray × Int) : Value := .agg #[.string p.1, .int .i64 p.2]
theorem sort_all (base : Nat) (v : Value) (ss : List (ByteArray × Int)) (w : World) (h : w.ownsRow base 118 2 v ss.length (ss.flatMap encSt)) (hs : ss.length < 4611686018427387904) :
    ∃ pa cap, v = .slice pa ss.length cap ∧ (∀ g o r, pa = some ⟨g, o, r⟩ → base ≤ g) ∧ Calls Tryz.prog 62 #[.slice pa ss.length cap, .func (.func 63) #[] #[]] w fun e w' => e = .returned (.tuple #[]) ∧ w.grownBy w' v.ownBlock ∧ (ss = [] ∨ ∃ g d', pa = some ⟨g, 0, none⟩ ∧ base ≤ g ∧ PermIn 0 ss.length ss.toArray d' ∧ SortedIn (ltOf cfSt) 0 ss.length d' ∧ HoldsK encSt 2 w' g 0 d') := by
  have h0 := h
  rcases owns_cases5 h with ⟨rfl, hn, _⟩ | ⟨g, cap, cur, rfl, hg, hB, hn, hcm, hsz, hx, hl⟩
  · obtain rfl : ss = [] := List.length_eq_zero_iff.1 hn
    refine ⟨none, 0, rfl, (by simp), (sort_none none 0 w).mono ?_⟩
    rintro e w' ⟨rfl, rfl⟩
    exact ⟨rfl, grown_refl _ _, Or.inl rfl⟩
  · have hH := holds_own h0
    have hlt : g < w.heap.size := (show Blk w g 118 cur from hB).lt
    refine ⟨some ⟨g, 0, none⟩, cap, rfl, fun g' o r e => (by injection e with e; injection e with e; omega), (sort_any g 0 cap ss.toArray w hH hlt (by simpa using hs)).mono ?_⟩
    rintro e w' ⟨rfl, d', n, os, h1, h2, rfl⟩
    refine ⟨rfl, sw_grown w g 0 n d' os, Or.inr ⟨g, d', rfl, hg, by simpa using h1, by simpa using h2, ?_⟩⟩
    exact holdsK_sortWorldK encSt 2 w g 0 n ss.toArray d' os hlt hH h1.1
end Ip
end Go.Proofs.YtajoncmmdeahnaaGreatDoor
namespace Go.Proofs.YtajoncmmdeahnaaGreatDoor
open Go.RowKit Go.Maps Go.Shelf Go.Sort
namespace Ip
structure SsOf (ss : List (ByteArray × Int)) (f : Sm) : Prop where
  nodup : ss.Nodup
  fits : ∀ p ∈ ss, Fits p.1 p.2
  mem : ∀ p : ByteArray × Int, Fits p.1 p.2 → (p ∈ ss ↔ (f p.1 p.2).isSome = true)
theorem Coll.ssOf {D : DataW Value} {left : Lit → Bool} {ss : List (ByteArray × Int)} {f : Sm} (h : Coll D left ss) (hl : ∀ kl, left kl = false) (hf : ∀ s i, Fits s i → has D (keyS s i) = (f s i).isSome) : SsOf ss f :=
  ⟨h.nodup, h.fits, fun p hp => by rw [h.mem p hp, hf _ _ hp, hl]; simp⟩
theorem nodup_le {α : Type} [DecidableEq α] : ∀ (l m : List α), l.Nodup → (∀ x ∈ l, x ∈ m) → l.length ≤ m.length
  | [], _, _, _ => Nat.zero_le _
  | x :: r, m, hn, hm => by
    have hx : x ∈ m := hm x (List.mem_cons_self ..)
    have h1 := nodup_le r (m.erase x) (List.nodup_cons.1 hn).2 (fun y hy => (List.mem_erase_of_ne (fun e => (List.nodup_cons.1 hn).1 (by cases e; exact hy))).2 (hm y (List.mem_cons_of_mem _ hy)))
    rw [List.length_erase_of_mem hx] at h1
    have h2 := List.length_pos_of_mem hx
    rw [List.length_cons]
    omega
theorem SsOf.le {ss l : List (ByteArray × Int)} {f : Sm} (h : SsOf ss f) (hn : l.Nodup) (hl : ∀ p ∈ l, Fits p.1 p.2 ∧ (f p.1 p.2).isSome = true) : l.length ≤ ss.length :=
  nodup_le l ss hn (fun p hp => (h.mem p (hl p hp).1).2 (hl p hp).2)
structure CovI (w : World) (X : Xm) (n : Nat) (D : DataW Value) (v : Value) (left : Lit → Bool) (cnt : Nat) (ss : List (ByteArray × Int)) (wr : World) : Prop where
  rg : wr.ranges Tryz.prog 118 Mp.rawR X.mv w.heap.size n D left cnt
  co : Coll D left ss
  le : ss.length + cnt ≤ Maps.size D
  row : wr.ownsRow (w.heap.size + 1) 118 2 v ss.length (ss.flatMap encSt)
  g : w.grownBy wr none
theorem st_new (w : World) (e : TypeId) (x : ByteArray) (n : Int) : ∀ (j : Nat) (u : Value), [Value.string x, Value.int .i64 n][j]? = some u → (w.alloc (.cells #[.string x, .int .i64 n] e)).cell? ((⟨w.heap.size, 0, none⟩ : Addr).add j) = some u := fun j u h => by
  rw [addr_at, Nat.zero_add, (Blk.new w e _).cell]
  simpa using h
theorem st_one (x : ByteArray) (n : Int) : ∀ u ∈ [Value.string x, Value.int .i64 n], u.oneCell' = true := fun u hu => by
  simp only [List.mem_cons, List.not_mem_nil, or_false] at hu
  rcases hu with rfl | rfl <;> rfl
theorem row_any (v : Value) : v.ownBlock = none ∨ v.ownBlock ≠ none := by
  cases v.ownBlock <;> simp
theorem mkSt_inj {p q : ByteArray × Int} (h : mkSt p = siteV q.1 q.2) : p = q := by
  unfold mkSt siteV at h
  simp at h
  exact Prod.ext h.1 h.2
set_option maxRecDepth 100000 in
set_option maxHeartbeats 4000000 in
theorem cover_any {X : Xm} {E : Env} {q : Ms} (w : World) (hM : MaR w X E q) :
    Calls Tryz.prog 34 #[.pointer (some ⟨X.m, 0, none⟩)] w fun e w' => ∃ pa cap ss, e = .returned (.slice pa ss.length cap) ∧ w.grownBy w' none ∧ SsOf ss q.vis ∧ ss.length ≤ q.steps ∧ (ss = [] ∨ ∃ g d', pa = some ⟨g, 0, none⟩ ∧ w.heap.size + 1 ≤ g ∧ PermIn 0 ss.length ss.toArray d' ∧ SortedIn (ltOf cfSt) 0 ss.length d' ∧ HoldsK encSt 2 w' g 0 d') := by
  obtain ⟨i118, hi, hz0, hz1, hz2⟩ := info_parts info118
  obtain ⟨D, hown, hhas, _⟩ := hM.vis
  have y4 := hM.blk.cell 4
  simp at y4
  have hXv : X.mv < w.heap.size := hM.lts.2.2.2
  have hst : q.steps ≤ 1000000 := Nat.le_trans hM.le hM.fu
  have hDq : Maps.size D ≤ q.steps := by
    obtain ⟨es, clock, _, _, hs, rfl⟩ := hown
    have : Maps.size (DataW.map ((es.toList.map (Go.WideElems.rg Tryz.prog 118 Mp.rawR)).foldr DataW.insert [])) = es.size := by simp [Maps.size, length_sorted]
    omega
  have hDs : Maps.size D ≤ 1000000 := Nat.le_trans hDq hst
  have HH := hid hhas
  have HDS := hid hDq
  clear hhas hM hDq
  go_enter Tryz.func34, Tryz.ntmps34
  go_wp2_with (at_range; refine wpList_range_own _ rfl _ 79 rfl 118 3 law118 Tryz.underlying79 Mp.rawR X.mv q.steps D rfl hown ?_; intro w0 hrg0 hg0 hs0)
  go_frame
  go_loopw [3] (fun v wr => ∃ left cnt ss, CovI w X q.steps D v left cnt ss wr) (fun _ wr => wr.rangeLeft X.mv w.heap.size)
  case atStart => exact ⟨_, _, [], hrg0, Coll.start D, by simp, World.ownsRow_nil _ _ _ _, hg0⟩
  case round =>
    obtain ⟨left, cnt, ss, I⟩ := hrel
    have hlen : ss.length < 4611686018427387904 := by have := I.le; omega
    go_wp2_with (first
      | (at_next; refine wpList_next_ranges _ rfl _ rfl 118 law118 Mp.rawR mkSt id (fun key kl h => by obtain ⟨p, e, _⟩ := key_inv h; exact ⟨p, e⟩) (fun v y _ => ⟨v, rfl⟩) X.mv w.heap.size q.steps D _ _ rfl I.rg ?_ ?_)
      | go_in)
    · intro _ hl0
      have P := I.co.ssOf hl0 HH.out
      have hle := Nat.le_trans (Nat.le_of_add_right_le I.le) HDS.out
      obtain ⟨pa, cap, rfl, hpa, hC⟩ := sort_all (w.heap.size + 1) u3 ss wr I.row hlen
      have hI := I.row
      have hG := I.g
      have HC := hid hC
      clear hC I hown hrg0
      go_wp2_with (go_at_call 62; refine HC.out.mono ?_; rintro e w2 ⟨rfl, g2, h2⟩)
      go_ret
      exact ⟨pa, cap, ss, rfl, grown_ob' hG g2 (fun r e => by have := (hI.lt r e).1; omega), P, hle, h2⟩
    · intro xs xn c kl yd yp w1 cnt1 hkey hlk hv hat hrg1 hlt hg1 hs1 hen
      obtain ⟨⟨ys, yn⟩, e, hf, rfl⟩ := key_inv hkey
      obtain ⟨rfl, rfl⟩ : xs = ys ∧ xn = yn := Prod.mk.inj (mkSt_inj e)
      have C1 := hid (I.co.step hf hlk hat)
      have hle := I.le
      have R1 : w1.ownsRow (w.heap.size + 1) 118 2 u3 ss.length (ss.flatMap encSt) := I.row.kept hg1 (by
        cases hv : u3.ownBlock with
        | none => exact Or.inl rfl
        | some g => exact Or.inr (fun e => by have := (I.row.lt g hv).1; have := Option.some.inj e; omega))
      have G1 : w.grownBy w1 none := grown_ob' I.g hg1 (fun r e => by have := Option.some.inj e; omega)
      have hb1 : w.heap.size + 1 ≤ w1.heap.size := by rw [hs1]; exact I.rg.lt
      have hmeas := I.rg.left_eq
      have hcnt : cnt1 + 1 ≤ cnt := hlt
      clear hs1 I hown hrg0 hkey hlk hat hv e hf hlt
      have RG := hid hrg1
      have RR := hid R1
      have GG := hid G1
      clear hrg1 R1 G1
      simp only [mkSt] at hen ⊢
      have hc2 : ∀ (j : Nat) (u : Value), [Value.string xs, Value.int .i64 xn][j]? = some u → ((w1.alloc (.cells #[.string xs, .int .i64 xn] 118)).alloc (.cells #[.string xs, .int .i64 xn] 118)).cell? ((⟨w1.heap.size + 1, 0, none⟩ : Addr).add j) = some u := by
        have h := st_new (w1.alloc (.cells #[.string xs, .int .i64 xn] 118)) 118 xs xn
        rw [World.size_alloc] at h
        exact h
      have HC2 := hid hc2
      clear hc2
      have hbs : w.heap.size + 1 ≤ ((w1.alloc (.cells #[.string xs, .int .i64 xn] 118)).alloc (.cells #[.string xs, .int .i64 xn] 118)).heap.size := by simp; omega
      have h63 : ss.length + 1 ≤ maxLen := by unfold maxLen; omega
      have hby : (ss.length + 1) * 24 ≤ 140737488355328 := by omega
      go_wp2_with (at_builtin; refine wpList_append_own _ rfl _ _ 40 rfl (w.heap.size + 1) 118 i118 zSt 2 24 Tryz.underlying40 hi hz0 hz1 hz2 rfl (by decide) u3 ss.length (ss.flatMap encSt) rfl (RR.out.kept (grown_alloc (grown_alloc (grown_refl w1 none) _) _) (row_any _)) _ 1 1 [.string xs, .int .i64 xn] rfl rfl HC2.out (st_one xs xn) h63 hby hbs ?_; intro v2 w2 hrow2 hg2 _)
      have hA : w1.grownBy w2 u3.ownBlock := (grown_alloc (grown_alloc (grown_refl w1 u3.ownBlock) _) _).andThen hg2 (fun j hj => Or.inr hj)
      have hlo : ∀ r, u3.ownBlock = some r → w.heap.size + 1 ≤ r := fun r hr => (RR.out.lt r hr).1
      have RG2 := RG.out.kept hA (fun e => by have := hlo _ e.symm; omega) (fun e => by have := hlo _ e.symm; omega)
      refine ⟨⟨_, cnt1, ss ++ [(xs, xn)], RG2, C1.out, by rw [List.length_append]; show ss.length + 1 + cnt1 ≤ _; omega, ?_, grown_ob' GG.out hA (fun r e => by have := hlo r e; omega)⟩, ?_⟩
      · rw [List.length_append, List.flatMap_append]
        exact hrow2
      · rw [RG2.left_eq, hmeas]
        omega
end Ip
end Go.Proofs.YtajoncmmdeahnaaGreatDoor
