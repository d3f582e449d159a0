/-
  survivors as an iterator: its contract. A map of files, copied: maps.Copy, clone.
-/
import Derived.Test.YtddnjlnnkeiplaaSurv
import Derived.Test.YtddnjlnnkeiplaaPerf
import Derived.Test.YtddnjlnnkeiplaaKRef
namespace Go.Proofs.Ytddnjlnnkeiplaa
open Go.RowKit Go.Maps Go.Shelf
attribute [local go_sem] Oper.semAt_some
set_option maxRecDepth 100000 in
set_option maxHeartbeats 1000000 in
theorem surv_none (l b Bd Bk Bt cap : Nat) (pa : Option Addr) (J : List OkChg → World → Prop) (W : World) (hd : W.cell? ⟨Bd, 0, none⟩ = some (.pointer (some ⟨b, 0, none⟩))) (h2 : W.cell? ⟨b, 2, none⟩ = some (.slice pa 0 cap)) (h0 : J [] W) :
    CallsIn Fence.wide 4 Try.prog 77 #[.func (.yield l) #[] #[], .pointer (some ⟨Bd, 0, none⟩), .pointer (some ⟨Bk, 0, none⟩), .pointer (some ⟨Bt, 0, none⟩)] W fun e W' => (∃ v, e = .returned v) ∧ J [] W' := by
  have H0 : Hid (J [] W) := h0
  clear h0
  refine callsIn_of_wp Try.func77 rfl trivial ?_ rfl
  simp only [Try.ntmps77, List.size_toArray, List.length_cons, List.length_nil, Nat.reduceAdd, Nat.reduceSub, Array.replicate_succ, Array.replicate_zero, List.push_toArray, List.append_toArray, List.nil_append, List.cons_append]
  gi_wp2
  gi_loopw [14] (fun i wr => i = .int .i64 0 ∧ wr = W) (fun _ _ => 0)
  case atStart => exact ⟨rfl, rfl⟩
  case round =>
    obtain ⟨rfl, rfl⟩ := hrel
    gi_wp2
    go_end0
    exact ⟨⟨_, rfl⟩, H0.out⟩
set_option maxRecDepth 100000 in
theorem surv_mk (b : Nat) (keep torn : Int) (w : World) : Calls Try.prog 63 #[.pointer (some ⟨b, 0, none⟩), .int .i64 keep, .int .i64 torn] w fun e w' =>
    e = .returned (.func (.func 77) #[] #[.pointer (some ⟨w.heap.size, 0, none⟩), .pointer (some ⟨w.heap.size + 1, 0, none⟩), .pointer (some ⟨w.heap.size + 1 + 1, 0, none⟩)])
    ∧ w' = ((w.alloc (.cells #[.pointer (some ⟨b, 0, none⟩)] 23)).alloc (.cells #[.int .i64 keep] 3)).alloc (.cells #[.int .i64 torn] 3) := by
  go_enter Try.func63, Try.ntmps63
  go_wp2
  go_ret
  exact ⟨rfl, rfl⟩
/-- The loose changes of a disk, as an iterator that is ranged over. -/
theorem surv_stops (base b Bd Bk Bt n1 gm : Nat) (keep torn : Int) (vl : Value) (loose : List Chg) (L : Nat → OkChg) (w : World) (hL : ∀ k, (h : k < loose.length) → loose[k] = (L k).1) (hl63 : loose.length ≤ 63) (ht1 : torn ≤ 9223372036854775807)
    (hn1 : n1 ≤ w.heap.size) (hbd : Bd < w.heap.size) (hb : b < w.heap.size) (hbk : Bk < n1 ∧ Bk ≠ gm) (hbt : Bt < n1 ∧ Bt ≠ gm) (hgg : ∀ g, vl.ownBlock = some g → g < n1 ∧ g ≠ gm)
    (hd : w.cell? ⟨Bd, 0, none⟩ = some (.pointer (some ⟨b, 0, none⟩))) (hk : w.cell? ⟨Bk, 0, none⟩ = some (.int .i64 keep)) (ht : w.cell? ⟨Bt, 0, none⟩ = some (.int .i64 torn))
    (h2 : w.cell? ⟨b, 2, none⟩ = some vl) (hrow : w.ownsRow base 101 5 vl loose.length (looseL loose)) :
    SeqStopsK Fence.wide 4 Try.prog 77 #[.pointer (some ⟨Bd, 0, none⟩), .pointer (some ⟨Bk, 0, none⟩), .pointer (some ⟨Bt, 0, none⟩)] (fun x : OkChg => #[x.1.val]) (KeepsBut n1 gm) (fun xs => xs = (stTo keep torn L loose.length).1) (fun _ => True) 63 w := fun l J Jx W hW hJa _ hY h0 => by
  have hd' := (hW.cell (p := ⟨Bd, 0, none⟩) hbd).trans hd
  have hk' := (hW.cell (p := ⟨Bk, 0, none⟩) (Nat.lt_of_lt_of_le hbk.1 hn1)).trans hk
  have ht' := (hW.cell (p := ⟨Bt, 0, none⟩) (Nat.lt_of_lt_of_le hbt.1 hn1)).trans ht
  have h2' := (hW.cell (p := ⟨b, 2, none⟩) hb).trans h2
  have hrow' := hrow
  rcases hrow'.2 with ⟨rfl, hz⟩ | ⟨g, cap, cur, rfl, _⟩
  · rw [hz]
    refine (surv_none l b Bd Bk Bt 0 none J W hd' h2' h0).mono fun e W' ⟨he, hj⟩ => ⟨he, Or.inl ⟨_, rfl, hj⟩⟩
  · have hg := hgg g rfl
    have hc : ∀ j, j < loose.length * 5 → W.cell? ⟨g, j, none⟩ = (looseL loose)[j]? := fun j hj => (hW.cell (p := ⟨g, j, none⟩) (Nat.lt_of_lt_of_le hg.1 hn1)).trans (hrow.cellAt j hj)
    refine (surv_in l b Bd Bk Bt g cap n1 gm loose.length keep torn loose L hL rfl hl63 ht1 J Jx W hJa hY (Nat.le_trans hn1 hW.size) hbk hbt hg hd' hk' ht' h2' hc h0).mono ?_
    rintro e W' ⟨he, hj | ⟨pre, hj⟩⟩
    · exact ⟨he, Or.inl ⟨_, rfl, hj⟩⟩
    · exact ⟨he, Or.inr ⟨_, trivial, hj⟩⟩
end Go.Proofs.Ytddnjlnnkeiplaa
namespace Go.Proofs.Ytddnjlnnkeiplaa
open Go.RowKit Go.Maps
theorem key_inv {key : Value} {kl : Lit} (h : keyOf Try.prog 9 key = some kl) : ∃ x : ByteArray, key = .string x ∧ kl = keyL x ∧ x.size ≤ maxLen := by
  cases key <;> simp [keyOf, Try.underlying9, mapKey] at h
  obtain ⟨h1, rfl⟩ := h
  exact ⟨_, rfl, rfl, h1⟩
theorem fileElem_le {c : ByteArray} {y : DataW Unit × List MemPlace} (h : fileElem (.agg #[.string c]) = some y) : c.size ≤ maxLen := by
  have e : fileElem (.agg #[.string c]) = if c.size ≤ maxLen then some (.lit (keyL c), []) else none := rfl
  rw [e] at h
  by_cases hc : c.size ≤ maxLen
  · exact hc
  · rw [if_neg hc] at h; cases h
theorem agg_inj {c d : ByteArray} (h : Value.agg #[.string c] = .agg #[.string d]) : c = d := by
  injection h with h1
  have h2 := congrArg (fun x : Array Value => x.toList) h1
  injection h2 with h3
  injection h3
section
variable {ops : Array Oper} {rest : List Oper} {o : Oper} {a : Act} {Q : Exit → Act → World → Prop} {w : World}
theorem next_files (b r n : Nat) (D : DataW Unit) (left : Lit → Bool) (cnt : Nat) (h : w.ranges Try.prog 9 fileElem b r n D left cnt) (it : Operand) (hg : o.guard = none) (hop : o.op = Op.next it false) (hit : a.eval it = .pointer (some ⟨r, 0, none⟩))
    (hDone : cnt = 0 → (∀ kl, left kl = false) → wpList Try.prog ops Q rest (a.put o.dst (.tuple #[.bool false])) w)
    (hMore : ∀ (x c : ByteArray) (w' : World) (cnt' : Nat), x.size ≤ maxLen → c.size ≤ maxLen → (∀ zd, D.atKey (keyL x) zd = .lit (keyL c)) → w'.ranges Try.prog 9 fileElem b r n D (fun z => left z && !z.sameKey (keyL x)) cnt' → cnt' < cnt →
      w.grownBy w' (some r) → w'.heap.size = w.heap.size → (Instr.entry (.pointer (some ⟨r, 0, none⟩))).run Try.prog w' = .ok (.tuple #[.string x, .agg #[.string c]]) w' → wpList Try.prog ops Q rest (a.put o.dst (.tuple #[.bool true, .string x, .agg #[.string c]])) w') :
    wpList Try.prog ops Q (o :: rest) a w :=
  wpList_next_ranges w hg it hop 9 law9 fileElem (fun x : ByteArray => Value.string x) (fun c : ByteArray => Value.agg #[.string c]) (fun key kl hkey => by obtain ⟨x, rfl, _⟩ := key_inv hkey; exact ⟨x, rfl⟩) (fun v y hv => by obtain ⟨c, rfl, _⟩ := fileElem_inv hv; exact ⟨c, rfl⟩)
    b r n D left cnt hit h hDone (fun x c kl y w' cnt' hkey hlk hv hat hrg hlt hgr hsz hen => by
      obtain ⟨x', ex, rfl, hwx⟩ := key_inv hkey
      cases ex
      have hc : c.size ≤ maxLen := fileElem_le hv
      obtain ⟨c', ec, rfl⟩ := fileElem_inv hv
      obtain rfl : c = c' := agg_inj ec
      exact hMore x c w' cnt' hwx hc hat hrg hlt hgr hsz hen)
end
theorem agree_fs {Dout : DataW Unit} {l : FS} {left : Lit → Bool} (hA : Agree Dout (datum l) left) (hl : ∀ k, left k = false) (c₁ : Canon Dout) (c₂ : Canon (datum l)) : Dout = datum l := agree_end hA hl c₁ c₂
set_option maxRecDepth 100000 in
set_option maxHeartbeats 1000000 in
theorem copy_any (gd gs : Nat) (l : FS) (w : World) (hs : OwnsF w gs l) (hd : OwnsF w gd []) (hl : Fits l 1000000) (hne : gd ≠ gs) :
    Calls Try.prog 75 #[.map (some gd), .map (some gs)] w fun e w' => e = .returned (.tuple #[]) ∧ OwnsF w' gd l ∧ w.grownBy w' (some gd) := by
  have hsl := hs.lt
  have hdl := hd.lt
  have hlen := hl.1
  have HS : Hid (OwnsF w gs l) := hs
  have HD : Hid (OwnsF w gd []) := hd
  clear hs hd hl
  go_enter Try.func75, Try.ntmps75
  go_wp2_with (first | (at_range; refine wpList_range_own _ rfl _ 70 rfl 9 105 law9 Try.underlying70 _ gs l.length _ rfl HS.out ?_; intro w0 hrg0 hg0 hs0) | go_in)
  go_frame
  have h0 : w0.heap.size = w.heap.size + 1 := hs0
  go_loopw [4] (fun _ wr => ∃ (left : Lit → Bool) (cnt : Nat) (Dout : DataW Unit), wr.ranges Try.prog 9 fileElem gs w.heap.size l.length (datum l) left cnt ∧ cnt ≤ l.length ∧
      wr.ownsMap Try.prog 9 fileElem gd (l.length - cnt) Dout ∧ Agree Dout (datum l) left ∧ w.grownBy wr (some gd))
    (fun _ wr => wr.rangeLeft gs w.heap.size)
  case atStart =>
    refine ⟨_, _, .map [], hrg0, by rw [datum_size]; exact Nat.le_refl _, (World.ownsMap.kept HD.out hg0 (by simp)).mono (Nat.zero_le _), agree_start _, World.grownBy.but hg0 _⟩
  case round =>
    obtain ⟨left, cnt, Dout, hrg, hcs, hout, hA, hgw⟩ := hrel
    clear hrg0 hg0 hs0 h0
    go_wp2_with (first | (at_next; refine next_files gs w.heap.size l.length _ _ _ hrg _ rfl rfl rfl ?_ ?_) | go_in)
    · intro hc0 hl0
      go_wp2
      subst hc0
      have e := agree_fs hA hl0 (hout.canon law9) (World.ownsMap.canon HS.out law9)
      subst e
      exact bodyPost_end (results_none rfl _ _ _) rfl ⟨rfl, owns_tight hout, hgw⟩
    · intro x c w1 cnt1 hwx hwc hat hrg1 hlt hg1 hs1 hen
      have O1 : Hid (w1.ownsMap Try.prog 9 fileElem gd (l.length - cnt) Dout) := hout.kept hg1 (fun e => by have := Option.some.inj e; omega)
      have G1 : Hid (w.grownBy w1 (some gd)) := World.grownBy.andThen hgw hg1 (fun j hj => by cases hj; exact Or.inl (Nat.le_refl _))
      have RG : Hid (w1.ranges Try.prog 9 fileElem gs w.heap.size l.length (datum l) (fun z => left z && !z.sameKey (keyL x)) cnt1) := hrg1
      have HA : Hid (Agree Dout (datum l) left) := hA
      have HT : Hid (∀ zd, (datum l).atKey (keyL x) zd = .lit (keyL c)) := hat
      have HM : Hid (IsMap Dout) := hout.isMap
      have HX : Hid (x.size ≤ maxLen) := hwx
      have HC : Hid (c.size ≤ maxLen) := hwc
      have HLq : Hid (wr.rangeLeft gs w.heap.size = cnt) := hrg.left_eq
      have hw1 : w.heap.size < w1.heap.size := by have := hrg1.lt; exact this
      clear hrg hrg1 hg1 hs1 hA hat hwx hwc hout hgw
      go_wp2_with (first
        | (at_mapUpdate; refine wpList_mapUpdate_own _ rfl _ _ _ 70 rfl 9 105 law9 Try.underlying70 _ gd _ _ rfl (O1.out.alloc _) (by unfold maxLen; omega) _ _ _ rfl rfl (key_ok HX.out) _ [] (fileElem_mk HC.out) ?_; intro w2 hout2 hg2; go_frame)
        | go_in)
      have hrg2 := (RG.out.alloc (.cells #[.string c] 105)).kept hg2 (fun e => by have := Option.some.inj e; omega) (fun e => by have := Option.some.inj e; omega)
      go_roundw
      case rel =>
        exact ⟨_, cnt1, _, hrg2, by omega, hout2.mono (by omega), agree_step HA.out HM.out trivial HT.out, grown_trans (grown_alloc G1.out _) hg2⟩
      case measure => rw [hrg2.left_eq, HLq.out]; exact hlt
set_option maxRecDepth 100000 in
theorem copy_nil (gd : Nat) (w : World) (hd : OwnsF w gd []) :
    Calls Try.prog 75 #[.map (some gd), .map none] w fun e w' => e = .returned (.tuple #[]) ∧ OwnsF w' gd [] ∧ w.grownBy w' (some gd) := by
  have hrg := run_range_nilMap (P := Try.prog) w 70 9 105 Try.underlying70
  have hnx : ∀ ty, (Instr.next (.pointer (some ⟨w.heap.size, 0, none⟩)) false ty).run Try.prog (w.alloc (.mapIter none 0 #[] 0)) = _ := fun ty => run_next_nilMap _ ty 0 0 #[]
  have HD : Hid (OwnsF w gd []) := hd
  clear hd
  go_enter Try.func75, Try.ntmps75
  go_wp2
  refine wp_loop_rounds 1 ?_
  rw [rounds_succ]
  go_wp2
  exact bodyPost_end (results_none rfl _ _ _) rfl ⟨rfl, HD.out.alloc _, grown_alloc (grown_refl _ _) _⟩
theorem run_makeMap_len (n : Nat) (w : World) : (Instr.makeMap 70 (some (.int .i64 n))).run Try.prog w = .ok (.map (some w.heap.size)) (w.alloc (.map #[] 0)) := by
  simp [Instr.makeMap]
  rfl
theorem made_empty (w : World) : OwnsF (w.alloc (.map #[] 0)) w.heap.size [] := World.ownsMap_made w Try.prog 9 fileElem
set_option maxRecDepth 100000 in
theorem fsclone_nil (w : World) : Calls Try.prog 58 #[.map none] w fun e w' => e = .returned (.map (some w.heap.size)) ∧ OwnsF w' w.heap.size [] ∧ w.grownBy w' none := by
  have hmm : (Instr.makeMap 70 (some (.int .i64 0))).run Try.prog w = .ok (.map (some w.heap.size)) (w.alloc (.map #[] 0)) := run_makeMap_len 0 w
  have hln := fun ty => Maps.len_nil (P := Try.prog) (w := w) Try.underlying70 ty
  go_enter Try.func58, Try.ntmps58
  go_wp2_with (go_at_call 75; refine (copy_nil w.heap.size _ (made_empty w)).mono ?_; rintro e w1 ⟨rfl, ho, hg⟩; have R1 : Hid (OwnsF w1 w.heap.size []) := ho; have R2 : Hid (w.grownBy w1 none) := grown_through (grown_alloc (grown_refl _ _) _) hg (Nat.le_refl _); clear ho hg)
  go_ret
  exact ⟨rfl, R1.out, R2.out⟩
set_option maxRecDepth 100000 in
theorem fsclone_some (g : Nat) (l : FS) (w : World) (ho : OwnsF w g l) (hl : Fits l 1000000) : Calls Try.prog 58 #[.map (some g)] w fun e w' => e = .returned (.map (some w.heap.size)) ∧ OwnsF w' w.heap.size l ∧ w.grownBy w' none := by
  have hmm := run_makeMap_len (Maps.size (datum l)) w
  have hlt := ho.lt
  have H : Hid (OwnsF w g l) := ho
  have CC : Hid (∀ w', w' = w.alloc (.map #[] 0) → Calls Try.prog 75 #[.map (some w.heap.size), .map (some g)] w' fun e w1 => e = .returned (.tuple #[]) ∧ OwnsF w1 w.heap.size l ∧ w'.grownBy w1 (some w.heap.size)) := by
    rintro w' rfl
    exact copy_any w.heap.size g l _ (ho.alloc _) (made_empty w) hl (by omega)
  clear ho hl
  go_enter Try.func58, Try.ntmps58
  go_wp2_with (first | (at_len; refine wpList_len_own _ rfl _ 70 rfl 9 105 Try.underlying70 _ g l.length _ rfl H.out ?_) | (go_at_call 75; refine (CC.out _ rfl).mono ?_; rintro e w1 ⟨rfl, ho, hg⟩; have R1 : Hid (OwnsF w1 w.heap.size l) := ho; have R2 : Hid (w.grownBy w1 none) := grown_through (grown_alloc (grown_refl _ _) _) hg (Nat.le_refl _); clear ho hg))
  go_ret
  exact ⟨rfl, R1.out, R2.out⟩
theorem fsclone_any (base : Nat) (v : Value) (l : FS) (w : World) (h : MapV w base v l) (hl : Fits l 1000000) : Calls Try.prog 58 #[v] w fun e w' => e = .returned (.map (some w.heap.size)) ∧ OwnsF w' w.heap.size l ∧ w.grownBy w' none := by
  rcases h with ⟨rfl, rfl⟩ | ⟨g, rfl, _, ho⟩
  · exact fsclone_nil w
  · exact fsclone_some g l w ho hl
end Go.Proofs.Ytddnjlnnkeiplaa
