/-
  What a reader has of a page: texts and places, taken one behind the other.
-/
import Derived.Test.YtbhmmcelndmijaaGreatKPRbytes
import Derived.Test.YtbhmmcelndmijaaGreatKPWUnEq
import Derived.Laws.AppendOwnNone
namespace Go.Proofs.YtbhmmcelndmijaaGreat.Pa
open Go.RowKit
/-- A reader: what it has left, where it stands, its error. -/
structure Rs where
  s : ByteArray
  a : Nat
  e : Nat
def Rd (w : World) (b : Nat) (r : Rs) : Prop := Blk w b 141 (rd r.s r.a r.e)
def txtR (m : Int) (r : Rs) : Rs := ⟨txtS r.s r.e m, txtA r.s r.a r.e m, txtE r.s r.e m⟩
def cntRs (m : Int) (r : Rs) : Rs := ⟨cntS r.s r.e m, takeA r.s r.a 4, cntE r.s r.e m⟩
def Rs.room (r : Rs) : Nat := r.a + r.s.size
theorem txtR_room (m : Int) (r : Rs) : (txtR m r).room ≤ r.room := by
  have h1 := cnt_room r.s r.a r.e m
  have h2 := take_room (cntS r.s r.e m) (takeA r.s r.a 4) (cntE r.s r.e m) (cntN r.s r.e m)
  exact Nat.le_trans h2 h1
theorem cntRs_room (m : Int) (r : Rs) : (cntRs m r).room ≤ r.room := cnt_room r.s r.a r.e m
/-- k texts, and the reader behind them. -/
def txtsN (m : Int) (r : Rs) : Nat → List ByteArray × Rs
  | 0 => ([], r)
  | k + 1 => ((txtsN m r k).1 ++ [txtV (txtsN m r k).2.s (txtsN m r k).2.e m], txtR m (txtsN m r k).2)
def cntsN (m : Int) (r : Rs) : Nat → List Int × Rs
  | 0 => ([], r)
  | k + 1 => ((cntsN m r k).1 ++ [((cntN (cntsN m r k).2.s (cntsN m r k).2.e m : Nat) : Int)], cntRs m (cntsN m r k).2)
theorem txtsN_len (m : Int) (r : Rs) : ∀ k, (txtsN m r k).1.length = k
  | 0 => rfl
  | k + 1 => by
    have ih := txtsN_len m r k
    show ((txtsN m r k).1 ++ [_]).length = _
    rw [List.length_append, ih]; rfl
theorem cntsN_len (m : Int) (r : Rs) : ∀ k, (cntsN m r k).1.length = k
  | 0 => rfl
  | k + 1 => by
    have ih := cntsN_len m r k
    show ((cntsN m r k).1 ++ [_]).length = _
    rw [List.length_append, ih]; rfl
theorem txtsN_room (m : Int) (r : Rs) : ∀ k, (txtsN m r k).2.room ≤ r.room
  | 0 => Nat.le_refl _
  | k + 1 => Nat.le_trans (txtR_room m _) (txtsN_room m r k)
theorem cntsN_room (m : Int) (r : Rs) : ∀ k, (cntsN m r k).2.room ≤ r.room
  | 0 => Nat.le_refl _
  | k + 1 => Nat.le_trans (cntRs_room m _) (cntsN_room m r k)
def strs (l : List ByteArray) : List Value := l.map Value.string
def ints (l : List Int) : List Value := l.map (Value.int .i64)
theorem info9 : (Tryz.prog.info? 9).map (fun i => (i.zero, i.size, i.bytes)) = some (some (.string ⟨#[]⟩), 1, 16) := by kernel_rfl
theorem info3 : (Tryz.prog.info? 3).map (fun i => (i.zero, i.size, i.bytes)) = some (some (.int .i64 0), 1, 8) := by kernel_rfl
theorem append_str {ops : Array Oper} {rest : List Oper} {o : Oper} {a : Act} {w : World} {Q : Exit → Act → World → Prop} (base : Nat) (l : List ByteArray) (t : ByteArray) (v : Value) (ad : Addr) (c : Nat) (hrow : w.ownsRow base 9 1 v l.length (strs l)) (hcell : w.cell? ad = some (.string t)) (hk : l.length < 100000) (hbase : base ≤ w.heap.size) (s x : Operand)
    (hgd : o.guard = none) (ho : o.op = .call { callee := .builtin .append, args := #[s, x], argTypes := #[48, 48] }) (hs : a.eval s = v) (hx : a.eval x = .slice (some ad) 1 c)
    (h : ∀ v' w', w'.ownsRow base 9 1 v' (l ++ [t]).length (strs (l ++ [t])) → w.grownBy w' v.ownBlock → wpList Tryz.prog ops Q rest (a.put o.dst v') w') : wpList Tryz.prog ops Q (o :: rest) a w := by
  obtain ⟨i3, hi3, hz0, hz1, hz2⟩ := info_parts info9
  have hnews : ∀ j u, [Value.string t][j]? = some u → w.cell? (ad.add j) = some u := by
    intro j u hj
    match j, hj with
    | 0, hj =>
      rw [List.getElem?_cons_zero] at hj
      rw [← hj]
      exact hcell
  have h1 : ∀ u ∈ [Value.string t], u.oneCell' = true := by
    intro u hu; rw [List.mem_singleton] at hu; subst hu; rfl
  refine wpList_append_own w hgd s x 48 ho base 9 i3 _ 1 16 Tryz.underlying48 hi3 hz0 hz1 hz2 rfl (by decide) v l.length (strs l) hs hrow ad 1 c [.string t] hx rfl hnews h1 (by unfold maxLen; omega) (by omega) hbase ?_
  intro v' w' hown' hg _
  refine h v' w' ?_ hg
  rw [List.length_append]
  unfold strs
  rw [List.map_append]
  exact hown'
theorem append_int {ops : Array Oper} {rest : List Oper} {o : Oper} {a : Act} {w : World} {Q : Exit → Act → World → Prop} (base : Nat) (l : List Int) (t : Int) (v : Value) (ad : Addr) (c : Nat) (hrow : w.ownsRow base 3 1 v l.length (ints l)) (hcell : w.cell? ad = some (.int .i64 t)) (hk : l.length < 100000) (hbase : base ≤ w.heap.size) (s x : Operand)
    (hgd : o.guard = none) (ho : o.op = .call { callee := .builtin .append, args := #[s, x], argTypes := #[44, 44] }) (hs : a.eval s = v) (hx : a.eval x = .slice (some ad) 1 c)
    (h : ∀ v' w', w'.ownsRow base 3 1 v' (l ++ [t]).length (ints (l ++ [t])) → w.grownBy w' v.ownBlock → wpList Tryz.prog ops Q rest (a.put o.dst v') w') : wpList Tryz.prog ops Q (o :: rest) a w := by
  obtain ⟨i3, hi3, hz0, hz1, hz2⟩ := info_parts info3
  have hnews : ∀ j u, [Value.int .i64 t][j]? = some u → w.cell? (ad.add j) = some u := by
    intro j u hj
    match j, hj with
    | 0, hj =>
      rw [List.getElem?_cons_zero] at hj
      rw [← hj]
      exact hcell
  have h1 : ∀ u ∈ [Value.int .i64 t], u.oneCell' = true := by
    intro u hu; rw [List.mem_singleton] at hu; subst hu; rfl
  refine wpList_append_own w hgd s x 44 ho base 3 i3 _ 1 8 Tryz.underlying44 hi3 hz0 hz1 hz2 rfl (by decide) v l.length (ints l) hs hrow ad 1 c [.int .i64 t] hx rfl hnews h1 (by unfold maxLen; omega) (by omega) hbase ?_
  intro v' w' hown' hg _
  refine h v' w' ?_ hg
  rw [List.length_append]
  unfold ints
  rw [List.map_append]
  exact hown'
theorem RowV.owns {α : Type} {enc : α → Value} {w : World} {base : Nat} {t : TypeId} {v : Value} {l : List α} (h : w.ownsRow base t 1 v l.length (l.map enc)) : RowV enc w v l := by
  have h' := h
  rcases h'.2 with ⟨rfl, e⟩ | ⟨g, cap, cur, rfl, hb, hh, _⟩
  · have e' : l = [] := List.eq_nil_of_length_eq_zero (by omega)
    subst e'
    exact RowV.nil enc w
  · refine ⟨_, cap, g, 0, rfl, fun _ => rfl, fun i hi => ?_⟩
    have := h.cellAt i (by omega)
    rw [Nat.zero_add, this, List.getElem?_map, List.getElem?_eq_getElem hi]
    rfl
/-- What a taking of texts leaves: a row of its own, and the reader behind it. -/
def TxPost (w : World) (b : Nat) (l : List ByteArray) (r : Rs) (e : Ending) (w' : World) : Prop := ∃ v, e = .returned v ∧ w'.ownsRow w.heap.size 9 1 v l.length (strs l) ∧ Rd w' b r ∧ w.grownBy w' (some b)
def NuPost (w : World) (b : Nat) (l : List Int) (r : Rs) (e : Ending) (w' : World) : Prop := ∃ v, e = .returned v ∧ w'.ownsRow w.heap.size 3 1 v l.length (ints l) ∧ Rd w' b r ∧ w.grownBy w' (some b)
theorem grown_ob' {a b c : World} {ob : Option Nat} {row : Option Nat} (h : a.grownBy b row) (g : b.grownBy c ob) (hk : ∀ x, ob = some x → a.heap.size ≤ x) : a.grownBy c row :=
  ⟨g.os.trans h.os, g.tape.trans h.tape, g.output.trans h.output, Nat.le_trans h.size g.size, fun i hi hn => (g.block i (Nat.lt_of_lt_of_le hi h.size) (fun e => by have := hk i e.symm; omega)).trans (h.block i hi hn)⟩
set_option maxRecDepth 100000 in
set_option maxHeartbeats 1000000 in
theorem texts_any (b : Nat) (r : Rs) (n : Nat) (m : Int) (w : World) (h : Rd w b r) (hr : (r.room : Int) ≤ 9223372036854775807) (hm : m ≤ 9223372036854775807) (hn : n ≤ 1000) :
    Calls Tryz.prog 77 #[.pointer (some ⟨b, 0, none⟩), .int .i64 n, .int .i64 m] w (TxPost w b (txtsN m r n).1 (txtsN m r n).2) := by
  have H : Hid (Rd w b r) := h
  have hbl : b < w.heap.size := Blk.lt h
  have hnn : (n : Int) ≤ 1000 := by omega
  clear h
  obtain ⟨P, hP⟩ : ∃ P, P = TxPost w b (txtsN m r n).1 (txtsN m r n).2 := ⟨_, rfl⟩
  rw [← hP]
  have HP := hid hP
  clear hP
  go_enter Tryz.func77, Tryz.ntmps77
  go_wp2
  go_loopw [7, 9] (fun v i wr => ∃ k : Nat, k ≤ n ∧ i = .int .i64 k ∧ wr.ownsRow w.heap.size 9 1 v (txtsN m r k).1.length (strs (txtsN m r k).1) ∧ Rd wr b (txtsN m r k).2 ∧ w.grownBy wr (some b)) (fun _ i _ => n - (intOf i).toNat)
  case atStart => exact ⟨0, Nat.zero_le _, rfl, World.ownsRow_nil _ _ _ _, H.out, grown_refl _ _⟩
  case round =>
    obtain ⟨k, hk, rfl, ho, hrd, hg⟩ := hrel
    have k0 : (0 : Int) ≤ k := by omega
    have HG : Hid (w.grownBy wr (some b)) := hg
    have hsz : w.heap.size ≤ wr.heap.size := hg.size
    clear hg
    by_cases hlt : k < n
    · have k1 : (k : Int) < n := by omega
      have hroom := txtsN_room m r k
      have hlen := txtsN_len m r k
      have CT : Hid (Calls Tryz.prog 104 #[.pointer (some ⟨b, 0, none⟩), .int .i64 m] wr fun e w' => e = .returned (.string (txtV (txtsN m r k).2.s (txtsN m r k).2.e m)) ∧ Rd w' b (txtsN m r (k + 1)).2 ∧ wr.grownBy w' (some b)) := text_any b _ _ _ m wr hrd (by unfold Rs.room at *; omega) hm
      have EN : Hid ((txtsN m r (k + 1)).1 = (txtsN m r k).1 ++ [txtV (txtsN m r k).2.s (txtsN m r k).2.e m]) := hid rfl
      have HO : Hid (wr.ownsRow w.heap.size 9 1 u7 (txtsN m r k).1.length (strs (txtsN m r k).1)) := ho
      clear ho hrd
      generalize txtV (txtsN m r k).2.s (txtsN m r k).2.e m = T at *
      generalize (txtsN m r k).1 = L at *
      go_wp2_with (first
        | (go_at_call 104; refine CT.out.mono ?_; rintro e w2 ⟨rfl, hrd, hg⟩; have R2 : Hid (Rd w2 b (txtsN m r (k + 1)).2) := hrd; have G2 : Hid (w.grownBy w2 (some b)) := grown_trans HG.out hg; have O2 : Hid (w2.ownsRow w.heap.size 9 1 u7 L.length (strs L)) := HO.out.kept hg (by cases hv : u7.ownBlock with | none => exact Or.inl rfl | some g => exact Or.inr (fun e => by have := (HO.out.lt g hv).1; have := Option.some.inj e; omega)); have hs2 : w.heap.size ≤ w2.heap.size := G2.out.size; clear hrd hg CT HO HG)
        | (at_builtin; refine append_str w.heap.size L T _ ⟨w2.heap.size, 0, none⟩ 1 (O2.out.alloc _) ((Blk.new w2 9 _).cell 0) (by omega) (by simp; omega) _ _ rfl rfl rfl rfl ?_))
      intro v' w' hown hgr
      have R1 : Hid (w'.ownsRow w.heap.size 9 1 v' (txtsN m r (k + 1)).1.length (strs (txtsN m r (k + 1)).1)) := hid (by rw [EN.out, List.length_append, hlen]; exact hown)
      have R3 : Hid (w.grownBy w' (some b)) := grown_ob' (grown_alloc G2.out _) hgr (fun x e => (O2.out.lt x e).1)
      have R4 : Hid (Rd w' b (txtsN m r (k + 1)).2) := (R2.out.alloc _).kept hgr (fun e => by have := (O2.out.lt b e.symm).1; omega)
      clear hown hgr O2 G2 R2
      go_wp2
      go_roundw
      case rel => exact ⟨k + 1, by omega, by go_num, R1.out, R4.out, R3.out⟩
      case measure => simp [intOf]; omega
    · obtain rfl : k = n := by omega
      have k1 : ¬ (k : Int) < k := by omega
      have HO : Hid (P (.returned u7) wr) := hid (by rw [HP.out]; exact ⟨u7, rfl, ho, hrd, HG.out⟩)
      clear ho hrd HP
      go_wp2
      exact HO.out
set_option maxRecDepth 100000 in
set_option maxHeartbeats 1000000 in
theorem places_any (b : Nat) (r : Rs) (n : Nat) (w : World) (h : Rd w b r) (hr : (r.room : Int) ≤ 9223372036854775807) (hn : n ≤ 1000) :
    Calls Tryz.prog 78 #[.pointer (some ⟨b, 0, none⟩), .int .i64 n] w (NuPost w b (cntsN 2147483647 r n).1 (cntsN 2147483647 r n).2) := by
  have H : Hid (Rd w b r) := h
  have hbl : b < w.heap.size := Blk.lt h
  have hnn : (n : Int) ≤ 1000 := by omega
  clear h
  obtain ⟨P, hP⟩ : ∃ P, P = NuPost w b (cntsN 2147483647 r n).1 (cntsN 2147483647 r n).2 := ⟨_, rfl⟩
  rw [← hP]
  have HP := hid hP
  clear hP
  go_enter Tryz.func78, Tryz.ntmps78
  go_wp2
  go_loopw [5, 7] (fun v i wr => ∃ k : Nat, k ≤ n ∧ i = .int .i64 k ∧ wr.ownsRow w.heap.size 3 1 v (cntsN 2147483647 r k).1.length (ints (cntsN 2147483647 r k).1) ∧ Rd wr b (cntsN 2147483647 r k).2 ∧ w.grownBy wr (some b)) (fun _ i _ => n - (intOf i).toNat)
  case atStart => exact ⟨0, Nat.zero_le _, rfl, World.ownsRow_nil _ _ _ _, H.out, grown_refl _ _⟩
  case round =>
    obtain ⟨k, hk, rfl, ho, hrd, hg⟩ := hrel
    have k0 : (0 : Int) ≤ k := by omega
    have HG : Hid (w.grownBy wr (some b)) := hg
    have hsz : w.heap.size ≤ wr.heap.size := hg.size
    clear hg
    by_cases hlt : k < n
    · have k1 : (k : Int) < n := by omega
      have hroom := cntsN_room 2147483647 r k
      have hlen := cntsN_len 2147483647 r k
      have CT : Hid (Calls Tryz.prog 105 #[.pointer (some ⟨b, 0, none⟩), .int .i64 2147483647] wr fun e w' => e = .returned (.int .i64 ((cntN (cntsN 2147483647 r k).2.s (cntsN 2147483647 r k).2.e 2147483647 : Nat) : Int)) ∧ Rd w' b (cntsN 2147483647 r (k + 1)).2 ∧ wr.grownBy w' (some b)) := count_any b _ _ _ 2147483647 wr hrd (by unfold Rs.room at *; omega) (by omega)
      have EN : Hid ((cntsN 2147483647 r (k + 1)).1 = (cntsN 2147483647 r k).1 ++ [((cntN (cntsN 2147483647 r k).2.s (cntsN 2147483647 r k).2.e 2147483647 : Nat) : Int)]) := hid rfl
      have HO : Hid (wr.ownsRow w.heap.size 3 1 u5 (cntsN 2147483647 r k).1.length (ints (cntsN 2147483647 r k).1)) := ho
      clear ho hrd
      generalize ((cntN (cntsN 2147483647 r k).2.s (cntsN 2147483647 r k).2.e 2147483647 : Nat) : Int) = T at *
      generalize (cntsN 2147483647 r k).1 = L at *
      go_wp2_with (first
        | (go_at_call 105; refine CT.out.mono ?_; rintro e w2 ⟨rfl, hrd, hg⟩; have R2 : Hid (Rd w2 b (cntsN 2147483647 r (k + 1)).2) := hrd; have G2 : Hid (w.grownBy w2 (some b)) := grown_trans HG.out hg; have O2 : Hid (w2.ownsRow w.heap.size 3 1 u5 L.length (ints L)) := HO.out.kept hg (by cases hv : u5.ownBlock with | none => exact Or.inl rfl | some g => exact Or.inr (fun e => by have := (HO.out.lt g hv).1; have := Option.some.inj e; omega)); have hs2 : w.heap.size ≤ w2.heap.size := G2.out.size; clear hrd hg CT HO HG)
        | (at_builtin; refine append_int w.heap.size L T _ ⟨w2.heap.size, 0, none⟩ 1 (O2.out.alloc _) ((Blk.new w2 3 _).cell 0) (by omega) (by simp; omega) _ _ rfl rfl rfl rfl ?_))
      intro v' w' hown hgr
      have R1 : Hid (w'.ownsRow w.heap.size 3 1 v' (cntsN 2147483647 r (k + 1)).1.length (ints (cntsN 2147483647 r (k + 1)).1)) := hid (by rw [EN.out, List.length_append, hlen]; exact hown)
      have R3 : Hid (w.grownBy w' (some b)) := grown_ob' (grown_alloc G2.out _) hgr (fun x e => (O2.out.lt x e).1)
      have R4 : Hid (Rd w' b (cntsN 2147483647 r (k + 1)).2) := (R2.out.alloc _).kept hgr (fun e => by have := (O2.out.lt b e.symm).1; omega)
      clear hown hgr O2 G2 R2
      go_wp2
      go_roundw
      case rel => exact ⟨k + 1, by omega, by go_num, R1.out, R4.out, R3.out⟩
      case measure => simp [intOf]; omega
    · obtain rfl : k = n := by omega
      have k1 : ¬ (k : Int) < k := by omega
      have HO : Hid (P (.returned u5) wr) := hid (by rw [HP.out]; exact ⟨u5, rfl, ho, hrd, HG.out⟩)
      clear ho hrd HP
      go_wp2
      exact HO.out
end Go.Proofs.YtbhmmcelndmijaaGreat.Pa
