/-
  Files that stand in the order of their names: put, drop and find come to the same as those of the map. drop, Get, Size of the document's files.
-/
import Derived.Test.YtoenddcdafnmiaaNames
import Derived.Test.YtoenddcdafnmiaaKPut
import Derived.Test.YtoenddcdafnmiaaMore
import Derived.Deep.QuietTactic
namespace Go.Proofs.Ytoenddcdafnmiaa
open Go.RowKit Go.Maps
theorem lt_before : ∀ a b : List UInt8, a < b → bytesBefore a b = true
  | [], [], h => absurd h (List.lt_irrefl _)
  | [], _ :: _, _ => rfl
  | _ :: _, [], h => absurd h (List.not_lt_nil _)
  | a :: r, b :: s, h => by
    have ih := lt_before r s
    rw [List.cons_lt_cons_iff] at h
    unfold bytesBefore
    rw [Bool.or_eq_true, Bool.and_eq_true, beq_iff_eq]
    rcases h with h | ⟨h1, h2⟩
    · exact Or.inl (by simpa using h)
    · exact Or.inr ⟨h1, ih h2⟩
def bf (a b : ByteArray) : Bool := (keyL a).before (keyL b)
theorem bf_iff (a b : ByteArray) : bf a b = true ↔ a.data.toList < b.data.toList := ⟨before_lt _ _, lt_before _ _⟩
theorem bf_irrefl (a : ByteArray) : bf a a = false := by
  cases h : bf a a with
  | false => rfl
  | true => exact absurd ((bf_iff _ _).1 h) (List.lt_irrefl _)
theorem bf_trans {a b c : ByteArray} (h : bf a b = true) (k : bf b c = true) : bf a c = true := (bf_iff _ _).2 (List.lt_trans ((bf_iff _ _).1 h) ((bf_iff _ _).1 k))
theorem bf_asymm {a b : ByteArray} (h : bf a b = true) : bf b a = false := by
  cases k : bf b a with
  | false => rfl
  | true =>
    have := bf_trans h k
    rw [bf_irrefl] at this
    cases this
theorem bf_tri {a b : ByteArray} (h : bf a b = false) (k : bf b a = false) : a = b := by
  apply bytes_ext
  apply List.le_antisymm
  · exact fun hh => by rw [(bf_iff _ _).2 hh] at k; cases k
  · exact fun hh => by rw [(bf_iff _ _).2 hh] at h; cases h
theorem same_of_bf {a b : ByteArray} (h : bf a b = true) : sameB a b = false := by
  cases k : sameB a b with
  | false => rfl
  | true =>
    rw [(sameB_iff _ _).1 k, bf_irrefl] at h
    cases h
theorem same_of_bf' {a b : ByteArray} (h : bf a b = true) : sameB b a = false := by
  cases k : sameB b a with
  | false => rfl
  | true =>
    rw [(sameB_iff _ _).1 k, bf_irrefl] at h
    cases h
theorem Rising.tail {p : ByteArray × ByteArray} {r : FS} (h : Rising (p :: r)) : Rising r := (List.pairwise_cons.1 h).2
theorem Rising.head {p : ByteArray × ByteArray} {r : FS} (h : Rising (p :: r)) : ∀ q ∈ r, bf p.1 q.1 = true := (List.pairwise_cons.1 h).1
theorem findN_cons_lt {p : ByteArray × ByteArray} {r : FS} {n : ByteArray} (h : bf p.1 n = true) : findN (p :: r) n = findN r n + 1 := by
  show (if (keyL p.1).before (keyL n) then _ else _) = _
  rw [if_pos (show (keyL p.1).before (keyL n) = true from h)]
theorem findN_cons_ge {p : ByteArray × ByteArray} {r : FS} {n : ByteArray} (h : bf p.1 n = false) : findN (p :: r) n = 0 := by
  show (if (keyL p.1).before (keyL n) then _ else _) = _
  rw [if_neg (by show ¬ bf p.1 n = true; rw [h]; decide)]
theorem findIs_cons_lt {p : ByteArray × ByteArray} {r : FS} {n : ByteArray} (h : bf p.1 n = true) : findIs (p :: r) n = findIs r n := by
  unfold findIs
  rw [findN_cons_lt h, List.getElem?_cons_succ]
theorem findIs_cons_ge {p : ByteArray × ByteArray} {r : FS} {n : ByteArray} (h : bf p.1 n = false) : findIs (p :: r) n = sameB p.1 n := by
  unfold findIs
  rw [findN_cons_ge h, List.getElem?_cons_zero]
theorem del_all {l : FS} {n : ByteArray} (h : ∀ q ∈ l, bf n q.1 = true) : delF l n = l := by
  unfold delF
  rw [List.filter_eq_self]
  intro q hq
  rw [same_of_bf' (h q hq)]
  rfl
theorem ins_head {l : FS} {n s : ByteArray} (h : ∀ q ∈ l, bf n q.1 = true) : insF (n, s) l = (n, s) :: l := by
  cases l with
  | nil => rfl
  | cons q r =>
    show (if (keyL n).before (keyL q.1) then _ else _) = _
    rw [if_pos (show (keyL n).before (keyL q.1) = true from h q List.mem_cons_self)]
theorem delF_cons (p : ByteArray × ByteArray) (r : FS) (n : ByteArray) : delF (p :: r) n = if sameB p.1 n then delF r n else p :: delF r n := by
  unfold delF
  rw [List.filter_cons]
  cases sameB p.1 n <;> rfl
theorem getF_cons (p : ByteArray × ByteArray) (r : FS) (n : ByteArray) : getF (p :: r) n = if sameB p.1 n then some p.2 else getF r n := by
  unfold getF
  rw [List.find?_cons]
  cases sameB p.1 n <;> rfl
theorem above {p : ByteArray × ByteArray} {r : FS} {n : ByteArray} (hr : Rising (p :: r)) (h : bf p.1 n = false) : ∀ q ∈ r, bf n q.1 = true := fun q hq => by
  have h1 := hr.head q hq
  cases k : bf n p.1 with
  | true => exact bf_trans k h1
  | false => rw [← bf_tri h k]; exact h1
theorem putL_eq : ∀ (l : FS) (n s : ByteArray), Rising l → putL l n s = putF l n s
  | [], _, _, _ => rfl
  | p :: r, n, s, hr => by
    have ih := putL_eq r n s hr.tail
    unfold putL putF at ih ⊢
    rw [delF_cons]
    cases h : bf p.1 n with
    | true =>
      rw [findN_cons_lt h, findIs_cons_lt h, same_of_bf h]
      show p :: (r.take (findN r n) ++ [(n, s)] ++ if findIs r n then r.drop (findN r n + 1) else r.drop (findN r n)) = insF (n, s) (p :: delF r n)
      rw [ih]
      show _ = if bf n p.1 then _ else _
      rw [bf_asymm h]
      rfl
    | false =>
      have ha := above hr h
      rw [findN_cons_ge h, findIs_cons_ge h]
      cases k : sameB p.1 n with
      | true =>
        show (n, s) :: r = insF (n, s) (delF r n)
        rw [del_all ha, ins_head ha]
      | false =>
        have hnp : bf n p.1 = true := by
          cases kk : bf n p.1 with
          | true => rfl
          | false => rw [(sameB_iff _ _).2 (bf_tri h kk)] at k; cases k
        show (n, s) :: p :: r = insF (n, s) (p :: delF r n)
        rw [del_all ha]
        show _ = if bf n p.1 then _ else _
        rw [hnp]
        rfl
theorem dropL_eq : ∀ (l : FS) (n : ByteArray), Rising l → dropL l n = delF l n
  | [], _, _ => rfl
  | p :: r, n, hr => by
    have ih := dropL_eq r n hr.tail
    unfold dropL at ih ⊢
    rw [delF_cons]
    cases h : bf p.1 n with
    | true =>
      rw [findN_cons_lt h, findIs_cons_lt h, same_of_bf h]
      cases k : findIs r n with
      | true =>
        rw [k] at ih
        show p :: (r.take (findN r n) ++ r.drop (findN r n + 1)) = p :: delF r n
        rw [← ih]
        rfl
      | false =>
        rw [k] at ih
        show p :: r = p :: delF r n
        rw [← ih]
        rfl
    | false =>
      have ha := above hr h
      rw [findN_cons_ge h, findIs_cons_ge h]
      cases k : sameB p.1 n with
      | true => show r = delF r n; rw [del_all ha]
      | false => show p :: r = p :: delF r n; rw [del_all ha]
theorem findIs_eq : ∀ (l : FS) (n : ByteArray), Rising l → findIs l n = (getF l n).isSome
  | [], _, _ => rfl
  | p :: r, n, hr => by
    have ih := findIs_eq r n hr.tail
    rw [getF_cons]
    cases h : bf p.1 n with
    | true => rw [findIs_cons_lt h, same_of_bf h]; exact ih
    | false =>
      rw [findIs_cons_ge h]
      cases k : sameB p.1 n with
      | true => rfl
      | false =>
        have : getF r n = none := by
          unfold getF
          rw [Option.map_eq_none_iff, List.find?_eq_none]
          intro q hq
          rw [same_of_bf' (above hr h q hq)]
          decide
        show false = (getF r n).isSome
        rw [this]
        rfl
theorem find_at : ∀ (l : FS) (n s : ByteArray), getF l n = some s → Rising l → ∃ h : findN l n < l.length, l[findN l n].2 = s
  | [], _, _, hg, _ => by cases hg
  | p :: r, n, s, hg, hr => by
    rw [getF_cons] at hg
    cases h : bf p.1 n with
    | true =>
      rw [same_of_bf h] at hg
      obtain ⟨h1, h2⟩ := find_at r n s hg hr.tail
      have e := findN_cons_lt (r := r) h
      refine ⟨by rw [e, List.length_cons]; omega, ?_⟩
      simp only [e, List.getElem_cons_succ]
      exact h2
    | false =>
      have e := findN_cons_ge (r := r) h
      refine ⟨by rw [e, List.length_cons]; omega, ?_⟩
      simp only [e, List.getElem_cons_zero]
      cases k : sameB p.1 n with
      | true => rw [k] at hg; exact Option.some.inj hg
      | false =>
        rw [k] at hg
        have : getF r n = none := by
          unfold getF
          rw [Option.map_eq_none_iff, List.find?_eq_none]
          intro q hq
          rw [same_of_bf' (above hr h q hq)]
          decide
        have hg' : getF r n = some s := hg
        rw [this] at hg'
        cases hg'
theorem rising_del {l : FS} (hr : Rising l) (n : ByteArray) : Rising (delF l n) := List.Pairwise.filter _ hr
theorem rising_ins : ∀ {l : FS} {n s : ByteArray}, Rising l → (∀ q ∈ l, sameB q.1 n = false) → Rising (insF (n, s) l)
  | [], _, _, _, _ => List.pairwise_singleton _ _
  | p :: r, n, s, hr, hn => by
    show Rising (if bf n p.1 then (n, s) :: p :: r else p :: insF (n, s) r)
    cases k : bf n p.1 with
    | true =>
      refine List.pairwise_cons.2 ⟨fun q hq => ?_, hr⟩
      rcases List.mem_cons.1 hq with rfl | hq
      · exact k
      · exact bf_trans k (hr.head q hq)
    | false =>
      have hpn : bf p.1 n = true := by
        cases kk : bf p.1 n with
        | true => rfl
        | false =>
          have := hn p List.mem_cons_self
          rw [(sameB_iff _ _).2 (bf_tri kk k)] at this
          cases this
      refine List.pairwise_cons.2 ⟨fun q hq => ?_, rising_ins hr.tail (fun q hq => hn q (List.mem_cons_of_mem _ hq))⟩
      rcases mem_insF hq with rfl | hq
      · exact hpn
      · exact hr.head q hq
theorem rising_put {l : FS} (hr : Rising l) (n s : ByteArray) : Rising (putF l n s) := rising_ins (rising_del hr n) (fun q hq => by
  have := (List.mem_filter.1 hq).2
  simpa using this)
theorem put_same : ∀ (l : FS) (n s : ByteArray), Rising l → getF l n = some s → putF l n s = l
  | [], _, _, _, hg => by cases hg
  | p :: r, n, s, hr, hg => by
    rw [getF_cons] at hg
    unfold putF
    rw [delF_cons]
    cases k : sameB p.1 n with
    | true =>
      rw [k] at hg
      have e1 : p.1 = n := (sameB_iff _ _).1 k
      have e2 : p.2 = s := Option.some.inj hg
      have ha : ∀ q ∈ r, bf n q.1 = true := fun q hq => by rw [← e1]; exact hr.head q hq
      show insF (n, s) (delF r n) = p :: r
      rw [del_all ha, ins_head ha, ← e1, ← e2]
    | false =>
      rw [k] at hg
      have hg' : getF r n = some s := hg
      have ih := put_same r n s hr.tail hg'
      obtain ⟨q, hq, _, e1⟩ := get_mem hg'
      have hpn : bf p.1 n = true := by rw [← e1]; exact hr.head q hq
      show (if bf n p.1 then _ else p :: insF (n, s) (delF r n)) = p :: r
      rw [bf_asymm hpn]
      show p :: putF r n s = p :: r
      rw [ih]
theorem rising_do {l : FS} (hr : Rising l) (c : Chg) : Rising (doF l c) := by
  unfold doF
  split
  · exact rising_put hr _ _
  · split
    · exact rising_put hr _ _
    · split
      · exact hr
      · split
        · exact rising_put (rising_del hr _) _ _
        · split
          · exact rising_del hr _
          · exact rising_put hr _ _
end Go.Proofs.Ytoenddcdafnmiaa
namespace Go.Proofs.Ytoenddcdafnmiaa
open Go.RowKit Go.Maps
theorem drop_any (v : Value) (l : FS) (n : ByteArray) (w : World) (h : FilesT w v l) (hl : l.length ≤ 100000) : Calls Try.prog 51 #[v, .string n] w fun e w' => ∃ v', e = .returned v' ∧ FilesT w' v' (dropL l n) ∧ w.grownBy w' none := by
  cases hi : findIs l n with
  | false => exact drop_no v l n w h hl hi
  | true =>
    rcases h.1 with ⟨rfl, rfl⟩ | ⟨cap, g, o, rfl, hc, hx, h0, h1⟩
    · cases hi
    · exact drop_is g o cap l n w hc hx hl h0 h1 hi
set_option maxRecDepth 100000 in
set_option maxHeartbeats 1000000 in
theorem get_any (v : Value) (l : FS) (n : ByteArray) (w : World) (h : FilesV w v l) (hl : l.length ≤ 100000) (hr : Rising l) : Calls Try.prog 45 #[v, .string n] w fun e w' => e = .returned (.tuple #[.string ((getF l n).getD ⟨#[]⟩), .bool (getF l n).isSome]) ∧ w.grownBy w' none := by
  have cf := find_any v l n w h hl
  rw [findIs_eq l n hr] at cf
  cases hg : getF l n with
  | none =>
    rw [hg] at cf
    have CF : Hid (Calls Try.prog 49 #[v, .string n] w fun e w'' => e = .returned (.tuple #[.int .i64 (findN l n), .bool false]) ∧ w.grownBy w'' none) := cf
    clear cf hg h
    go_enter Try.func45, Try.ntmps45
    go_wp2_with (go_at_call 49; refine CF.out.mono ?_; clear CF; rintro e w1 ⟨rfl, hg⟩; have G1 : Hid (w.grownBy w1 none) := hg; clear hg)
    go_ret2
    exact ⟨rfl, G1.out⟩
  | some s =>
    rw [hg] at cf
    have CF : Hid (Calls Try.prog 49 #[v, .string n] w fun e w'' => e = .returned (.tuple #[.int .i64 (findN l n), .bool true]) ∧ w.grownBy w'' none) := cf
    obtain ⟨hm, es⟩ := find_at l n s hg hr
    rcases h with ⟨rfl, rfl⟩ | ⟨cap, g, o, rfl, hc, hx, h0, h1⟩
    · exact absurd hm (Nat.not_lt_zero _)
    have c1 := h1 _ hm
    rw [es] at c1
    have C1 : Hid (∀ W, w.grownBy W none → W.cell? ⟨g, o + findN l n * 2 + 1, none⟩ = some (.string s)) := fun W hW => ((grown_below hW).cell (p := ⟨g, o + findN l n * 2 + 1, none⟩) (World.block_lt_of_cell? _ _ c1)).trans c1
    generalize findN l n = m at *
    have m0 : (0 : Int) ≤ m := by omega
    have m1 : (m : Int) < l.length := by omega
    clear cf hg h0 h1 c1 es
    go_enter Try.func45, Try.ntmps45
    go_wp2_with (go_at_call 49; refine CF.out.mono ?_; clear CF; rintro e w1 ⟨rfl, hg⟩; have G1 : Hid (w.grownBy w1 none) := hg; have c1 := C1.out w1 hg; clear hg C1)
    go_ret2
    exact ⟨rfl, G1.out⟩
set_option maxRecDepth 100000 in
set_option maxHeartbeats 1000000 in
theorem size_any (v : Value) (l : FS) (w : World) (h : FilesV w v l) (hl : Fits l 100000) : Calls Try.prog 32 #[v] w fun e w' => e = .returned (.int .i64 (sizeF l)) ∧ w.grownBy w' none := by
  obtain ⟨pa, cap, g, o, rfl, hcap, hpa, h0, h1⟩ := h.old
  have hll : (l.length : Int) ≤ 100000 := by have := hl.1; omega
  have HP : Hid (0 < l.length → pa = some ⟨g, o, none⟩) := hpa
  have H1 : Hid (∀ i, (h : i < l.length) → w.cell? ⟨g, o + i * 2 + 1, none⟩ = some (.string l[i].2)) := h1
  have HB : Hid (∀ p ∈ l, p.2.size ≤ 100000) := hl.2.1
  have HS : Hid (∀ k, k ≤ l.length → sizeF (l.take k) ≤ k * 100000) := fun k => by
    induction k with
    | zero => intro _; exact Nat.zero_le _
    | succ k ih =>
      intro hk
      have hlt : k < l.length := hk
      have e : l.take (k + 1) = l.take k ++ [l[k]] := List.take_succ_eq_append_getElem hlt
      have h2 := hl.2.1 l[k] (List.getElem_mem hlt)
      rw [e]
      unfold sizeF
      rw [List.map_append, List.sum_append]
      have := ih (by omega)
      unfold sizeF at this
      have e2 : ([l[k]].map fun p => p.2.size).sum = l[k].2.size := by simp
      rw [e2]
      omega
  have HN : Hid (∀ k, (h : k < l.length) → sizeF (l.take (k + 1)) = sizeF (l.take k) + l[k].2.size) := fun k hlt => by
    rw [List.take_succ_eq_append_getElem hlt]
    unfold sizeF
    rw [List.map_append, List.sum_append]
    simp
  have HT : Hid (sizeF (l.take l.length) = sizeF l) := by show sizeF _ = _; rw [List.take_length]
  clear h h0 h1 hpa hl
  go_enter Try.func32, Try.ntmps32
  go_wp2
  go_loop [3, 4] (fun n i => ∃ k : Nat, k ≤ l.length ∧ n = .int .i64 (sizeF (l.take k)) ∧ i = .int .i64 k) (fun n i => l.length - (intOf i).toNat)
  case atStart => exact ⟨0, Nat.zero_le _, rfl, rfl⟩
  case round =>
    obtain ⟨k, hk, rfl, rfl⟩ := hrel
    have k0 : (0 : Int) ≤ k := by omega
    by_cases hkl : k < l.length
    · have hp := HP.out (by omega)
      subst hp
      have c1 := H1.out k hkl
      have k1 : (k : Int) < l.length := by omega
      have b1 := HB.out l[k] (List.getElem_mem hkl)
      have b2 := HS.out k hk
      have n1 := HN.out k hkl
      clear HB HS HN H1 HT
      generalize l[k].2 = s at *
      generalize sizeF (l.take k) = z at *
      go_wp2
      go_round
      case rel => exact ⟨k + 1, by omega, by rw [n1]; go_num, by go_num⟩
      case measure => simp [intOf]; omega
    · obtain rfl : k = l.length := by omega
      rw [HT.out]
      have k1 : ¬ (l.length : Int) < l.length := by omega
      go_wp2
      go_ret
      exact ⟨rfl, grown_refl _ _⟩
end Go.Proofs.Ytoenddcdafnmiaa
