/-
  Encode: a page's bytes. Same: two pages held together. Find, Kid: where a key stands, and which kid has it. The document's bytes of a page: those of the program.
-/
import Derived.Test.YtbhmmcelndmijaaGreatKPChk
import Derived.Test.YtbhmmcelndmijaaGreatKWLow
namespace Go.Proofs.YtbhmmcelndmijaaGreat.Pa
open Go.RowKit
theorem hid {p : Prop} (h : p) : Hid p := h
def txL (s : ByteArray) : List UInt8 := numL s.size 4 ++ s.data.toList
def txs (l : List ByteArray) : List UInt8 := l.flatMap txL
def nus (l : List Int) : List UInt8 := l.flatMap fun k => numL k.toNat 4
def encL (p : Pg) : List UInt8 := numL (if p.leaf then 1 else 0) 1 ++ numL p.keys.length 1 ++ txs p.keys ++ txs p.vals ++ nus p.kids
theorem txL_len (s : ByteArray) : (txL s).length = 4 + s.size := by
  unfold txL
  rw [List.length_append, numL_len, bytes_len]
theorem txs_len (M : Nat) : ∀ (l : List ByteArray), (∀ s ∈ l, s.size ≤ M) → (txs l).length ≤ l.length * (4 + M)
  | [], _ => by simp [txs]
  | s :: r, h => by
    have ih := txs_len M r (fun x hx => h x (List.mem_cons_of_mem _ hx))
    have h0 := h s List.mem_cons_self
    show (txL s ++ txs r).length ≤ _
    rw [List.length_append, txL_len, List.length_cons, Nat.add_mul]
    omega
theorem nus_len : ∀ (l : List Int), (nus l).length = l.length * 4
  | [] => by simp [nus]
  | s :: r => by
    have ih := nus_len r
    show (numL s.toNat 4 ++ nus r).length = _
    rw [List.length_append, numL_len, List.length_cons, ih]
    omega
theorem txs_step (l : List ByteArray) (k : Nat) (h : k < l.length) : txs (l.take (k + 1)) = txs (l.take k) ++ txL l[k] := by
  unfold txs
  rw [List.take_succ_eq_append_getElem h, List.flatMap_append]
  simp
theorem nus_step (l : List Int) (k : Nat) (h : k < l.length) : nus (l.take (k + 1)) = nus (l.take k) ++ numL l[k].toNat 4 := by
  unfold nus
  rw [List.take_succ_eq_append_getElem h, List.flatMap_append]
  simp
theorem rise_short : ∀ (l : List ByteArray) (a : ByteArray), riseB a l = true → ∀ s ∈ l, s.size ≤ 64
  | [], _, _ => by simp
  | k :: r, a, h => by
    unfold riseB at h
    simp only [Bool.and_eq_true, Bool.not_eq_true', decide_eq_false_iff_not] at h
    have ih := rise_short r k h.2.2
    intro s hs
    rcases List.mem_cons.mp hs with rfl | hs
    · omega
    · exact ih s hs
theorem may_small {p : Pg} (h : mayP p = true) : p.keys.length ≤ 8 ∧ p.vals.length ≤ 8 ∧ p.kids.length ≤ 9 ∧ (∀ s ∈ p.keys, s.size ≤ 64) ∧ (∀ s ∈ p.vals, s.size ≤ 8192) ∧ ∀ k ∈ p.kids, 0 ≤ k ∧ k ≤ 2147483647 := by
  unfold mayP mayK at h
  simp only [Bool.and_eq_true, Bool.not_eq_true', decide_eq_false_iff_not] at h
  obtain ⟨⟨h1, h2⟩, h3⟩ := h
  have hk := rise_short _ _ h2
  unfold restB at h3
  split at h3
  · simp only [Bool.and_eq_true, Bool.not_eq_true', decide_eq_true_eq] at h3
    obtain ⟨a1, a2, a3⟩ := h3
    rw [List.any_eq_false] at a3
    have e : p.kids = [] := List.eq_nil_of_length_eq_zero (by omega)
    refine ⟨by omega, by omega, by omega, hk, fun s hs => ?_, fun k hk => by rw [e] at hk; simp at hk⟩
    have := a3 s hs
    simp [longB] at this
    omega
  · simp only [Bool.and_eq_true, Bool.not_eq_true', decide_eq_true_eq] at h3
    obtain ⟨a1, a2, a3, a4⟩ := h3
    rw [List.any_eq_false] at a4
    have e : p.vals = [] := List.eq_nil_of_length_eq_zero (by omega)
    refine ⟨by omega, by omega, by omega, hk, fun s hs => by rw [e] at hs; simp at hs, fun k hk => ?_⟩
    have := a4 k hk
    simp [outB] at this
    omega
theorem take_mem {α : Type} {l : List α} {k : Nat} {P : α → Prop} (h : ∀ s ∈ l, P s) : ∀ s ∈ l.take k, P s := fun s hs => h s (List.mem_of_mem_take hs)
set_option maxRecDepth 100000 in
set_option maxHeartbeats 2000000 in
theorem encode_bad (v : Value) (p : Pg) (w : World) (h : PgV w v p) (hf : p.fits) (hm : mayP p = false) : Calls Tryz.prog 97 #[v] w fun e w' => e = .returned (.tuple #[.string ⟨#[]⟩, .int .i64 6]) ∧ w.grownBy w' none := by
  have C : Hid (∀ W, w.grownBy W none → Calls Tryz.prog 50 #[v] W fun e w' => e = .returned (.int .i64 6) ∧ W.grownBy w' none) := fun W hW => by
    have := check_any v p W (h.kept hW) hf
    unfold chk at this
    rw [hm] at this
    exact this
  obtain ⟨a, b, c, rfl, ha, hb, hc⟩ := h
  obtain ⟨pa, ca, ga, oa, rfl, -, -⟩ := ha
  obtain ⟨pb, cb, gb, ob, rfl, -, -⟩ := hb
  obtain ⟨pc, cc, gc, oc, rfl, -, -⟩ := hc
  clear hm hf
  generalize p.keys.length = n1 at *
  generalize p.vals.length = n2 at *
  generalize p.kids.length = n3 at *
  generalize p.leaf = lf at *
  go_enter Tryz.func97, Tryz.ntmps97
  go_wp2_with (go_at_call 50; refine (C.out _ (grown_alloc (grown_refl _ _) _)).mono ?_; rintro e w1 ⟨rfl, hg⟩; clear C)
  go_ret2
  exact ⟨rfl, grown_none (grown_alloc (grown_refl _ _) _) hg⟩
set_option maxRecDepth 100000 in
set_option maxHeartbeats 4000000 in
theorem encode_ok (v : Value) (p : Pg) (w : World) (h : PgV w v p) (hf : p.fits) (hm : mayP p = true) : Calls Tryz.prog 97 #[v] w fun e w' => e = .returned (.tuple #[.string ⟨(encL p).toArray⟩, .int .i64 0]) ∧ w.grownBy w' none := by
  have C : Hid (∀ W, w.grownBy W none → Calls Tryz.prog 50 #[v] W fun e w' => e = .returned (.int .i64 0) ∧ W.grownBy w' none) := fun W hW => by
    have := check_any v p W (h.kept hW) hf
    unfold chk at this
    rw [hm] at this
    exact this
  obtain ⟨s1, s2, s3, s4, s5, s6⟩ := may_small hm
  obtain ⟨a, b, c, rfl, ha, hb, hc⟩ := h
  have HA : Hid (RowV Value.string w a p.keys) := ha
  have HB : Hid (RowV Value.string w b p.vals) := hb
  have HC : Hid (RowV (Value.int .i64) w c p.kids) := hc
  obtain ⟨pa, ca, ga, oa, rfl, pA, cA⟩ := ha
  obtain ⟨pb, cb, gb, ob, rfl, pB, cB⟩ := hb
  obtain ⟨pc, cc, gc, oc, rfl, pC, cC⟩ := hc
  clear HA HB HC
  obtain ⟨leaf, keys, vals, kids⟩ := p
  simp only at *
  have PA : Hid (0 < keys.length → pa = some ⟨ga, oa, none⟩) := pA
  have PB : Hid (0 < vals.length → pb = some ⟨gb, ob, none⟩) := pB
  have PC : Hid (0 < kids.length → pc = some ⟨gc, oc, none⟩) := pC
  have CA : Hid (∀ i, (h : i < keys.length) → w.cell? ⟨ga, oa + i, none⟩ = some (.string keys[i])) := cA
  have CB : Hid (∀ i, (h : i < vals.length) → w.cell? ⟨gb, ob + i, none⟩ = some (.string vals[i])) := cB
  have CC : Hid (∀ i, (h : i < kids.length) → w.cell? ⟨gc, oc + i, none⟩ = some (.int .i64 kids[i])) := cC
  have S4 := hid s4
  have S5 := hid s5
  have S6 := hid s6
  clear pA pB pC cA cB cC s4 s5 s6 hm hf
  have TL : Hid (∀ k, (txs (keys.take k)).length ≤ 8 * 68) := fun k => by
    have := txs_len 64 (keys.take k) (take_mem S4.out)
    have h2 : (keys.take k).length ≤ 8 := by rw [List.length_take]; omega
    exact Nat.le_trans this (Nat.mul_le_mul_right _ h2)
  have TV : Hid (∀ k, (txs (vals.take k)).length ≤ 8 * 8196) := fun k => by
    have := txs_len 8192 (vals.take k) (take_mem S5.out)
    have h2 : (vals.take k).length ≤ 8 := by rw [List.length_take]; omega
    exact Nat.le_trans this (Nat.mul_le_mul_right _ h2)
  have TK : Hid (∀ k, (nus (kids.take k)).length ≤ 9 * 4) := fun k => by
    have := nus_len (kids.take k)
    have h2 : (kids.take k).length ≤ 9 := by rw [List.length_take]; omega
    rw [this]; omega
  have z1 : (keys.length : Int) ≤ 8 := by omega
  have z2 : (vals.length : Int) ≤ 8 := by omega
  have z3 : (kids.length : Int) ≤ 9 := by omega
  have z4 : IntKind.u64.wrap (keys.length : Int) = keys.length := by simp [IntKind.wrap, IntKind.bits, IntKind.signed]; omega
  obtain ⟨o0, ho0⟩ : ∃ o, o = numL (if leaf then 1 else 0) 1 := ⟨_, rfl⟩
  have O0 : Hid (o0 = numL (if leaf then 1 else 0) 1) := ho0
  have L0 : o0.length = 1 := by rw [ho0, numL_len]
  obtain ⟨o1, ho1⟩ : ∃ o, o = o0 ++ numL keys.length (asked 1) := ⟨_, rfl⟩
  have O1 : Hid (o1 = o0 ++ numL keys.length (asked 1)) := ho1
  have L1 : o1.length = 2 := by rw [ho1, List.length_append, L0, numL_len]; rfl
  clear ho0 ho1
  obtain ⟨F, hF⟩ : ∃ F, F = encL ⟨leaf, keys, vals, kids⟩ := ⟨_, rfl⟩
  rw [← hF]
  have EF := hid hF
  clear hF
  go_enter Tryz.func97, Tryz.ntmps97
  go_wp2_with (first
    | (go_at_call 50; refine (C.out _ (grown_alloc (grown_refl _ _) _)).mono ?_; rintro e w1 ⟨rfl, hg⟩; clear C; have B1 : Hid (Blk w1 w.heap.size 70 #[.bool leaf, .slice pa keys.length ca, .slice pb vals.length cb, .slice pc kids.length cc]) := (Blk.new w 70 _).kept hg (by simp); have G1 : Hid (w.grownBy w1 none) := grown_none (grown_alloc (grown_refl _ _) _) hg; clear hg)
    | (go_at_call 114; refine (newWriter_any _).mono ?_; rintro e w2 ⟨rfl, hw, hg⟩; have W2 : Hid (Wr w2 w1.heap.size []) := hw; have G2 : Hid (w1.grownBy w2 none) := hg; have q0 := (B1.out.kept hg (by simp)).cell 0; clear hw hg; simp at q0)
    | (go_at_call 115; refine (wbool_any w1.heap.size [] leaf _ W2.out (by simp)).mono ?_; rintro e w3 ⟨rfl, hw, hg⟩; have W3 : Hid (Wr w3 w1.heap.size o0) := (by rw [O0.out]; exact hw); have G3 : Hid (w1.grownBy w3 none) := below_grown G2.out hg (Nat.le_refl _); have q1 := (B1.out.kept G3.out (by simp)).cell 1; clear hw hg; simp at q1)
    | (go_at_call 116; refine (wnumber_any w1.heap.size o0 keys.length 1 _ W3.out (by omega) (by omega)).mono ?_; rintro e w4 ⟨rfl, hw, hg⟩; have W4 : Hid (Wr w4 w1.heap.size o1) := (by rw [O1.out]; exact hw); have G4 : Hid (w1.grownBy w4 none) := below_grown G3.out hg (Nat.le_refl _); have q1 := (B1.out.kept G4.out (by simp)).cell 1; clear hw hg; simp at q1))
  go_loopw [31] (fun i wr => ∃ k : Nat, k ≤ keys.length ∧ i = .int .i64 k ∧ Wr wr w1.heap.size (o1 ++ txs (keys.take k)) ∧ w1.grownBy wr none) (fun i _ => keys.length - (intOf i).toNat)
  case atStart => exact ⟨0, Nat.zero_le _, rfl, by simpa [txs] using W4.out, G4.out⟩
  case round =>
    obtain ⟨k, hk, rfl, hw, hg⟩ := hrel
    have W10 : Hid (Wr wr w1.heap.size (o1 ++ txs (keys.take k))) := hw
    have H1 : Hid (w1.grownBy wr none) := hg
    clear hw hg W4 G4
    have k0 : (0 : Int) ≤ k := by omega
    by_cases hlt : k < keys.length
    · have hp := PA.out (by omega)
      subst hp
      have c0 := cell_kept (grown_none G1.out H1.out) (CA.out k hlt)
      have k1 : (k : Int) < keys.length := by omega
      have ST : Hid (o1 ++ txs (keys.take (k + 1)) = o1 ++ txs (keys.take k) ++ txL keys[k]) := hid (by rw [txs_step keys k hlt]; simp only [List.append_assoc])
      have ll : (o1 ++ txs (keys.take k)).length ≤ 600 := by
        have := TL.out k
        rw [List.length_append]
        omega
      have sz := S4.out keys[k] (List.getElem_mem hlt)
      have CT : Hid (∀ W, Wr W w1.heap.size (o1 ++ txs (keys.take k)) → Calls Tryz.prog 117 #[.pointer (some ⟨w1.heap.size, 0, none⟩), .string keys[k]] W fun e w' => e = .returned (.tuple #[]) ∧ Wr w' w1.heap.size (o1 ++ txs (keys.take k) ++ txL keys[k]) ∧ Below w1.heap.size W w') := fun W hW => by
        have := wtext_any w1.heap.size _ keys[k] W hW (by omega)
        rw [List.append_assoc] at this
        exact this
      clear CA CB CC TL TV TK PA PB PC S4 S5 S6
      generalize keys[k] = s at *
      generalize o1 ++ txs (keys.take k) = O at *
      go_wp2_with (go_at_call 117; refine (CT.out _ W10.out).mono ?_; rintro e w5 ⟨rfl, hw, hg⟩)
      go_round
      case rel => exact ⟨k + 1, by omega, by go_num, by rw [ST.out]; exact hw, below_grown H1.out hg (Nat.le_refl _)⟩
      case measure => simp [intOf]; omega
    · obtain rfl : k = keys.length := by omega
      have WE : Hid (Wr wr w1.heap.size (o1 ++ txs keys)) := hid (by have := W10.out; rwa [List.take_length] at this)
      have lp := TL.out keys.length
      rw [List.take_length] at lp
      clear W10
      have q2 := (B1.out.kept H1.out (by simp)).cell 2
      simp at q2
      have W8 := WE
      have G8 := H1
      have lr : (o1 ++ txs keys).length ≤ 600 := by rw [List.length_append]; omega
      go_wp2
      go_loopw [42] (fun i wr => ∃ k : Nat, k ≤ vals.length ∧ i = .int .i64 k ∧ Wr wr w1.heap.size (o1 ++ txs keys ++ txs (vals.take k)) ∧ w1.grownBy wr none) (fun i _ => vals.length - (intOf i).toNat)
      case atStart => exact ⟨0, Nat.zero_le _, rfl, by simpa [txs] using W8.out, G8.out⟩
      case round =>
        obtain ⟨k, hk, rfl, hw, hg⟩ := hrel
        have W9 : Hid (Wr wr w1.heap.size (o1 ++ txs keys ++ txs (vals.take k))) := hw
        have H2 : Hid (w1.grownBy wr none) := hg
        clear hw hg W8 G8
        have k0 : (0 : Int) ≤ k := by omega
        by_cases hlt : k < vals.length
        · have hp := PB.out (by omega)
          subst hp
          have c0 := cell_kept (grown_none G1.out H2.out) (CB.out k hlt)
          have k1 : (k : Int) < vals.length := by omega
          have ST : Hid (o1 ++ txs keys ++ txs (vals.take (k + 1)) = o1 ++ txs keys ++ txs (vals.take k) ++ txL vals[k]) := hid (by rw [txs_step vals k hlt]; simp only [List.append_assoc])
          have ll : (o1 ++ txs keys ++ txs (vals.take k)).length ≤ 70000 := by
            have := TV.out k
            rw [List.length_append]
            omega
          have sz := S5.out vals[k] (List.getElem_mem hlt)
          have CT : Hid (∀ W, Wr W w1.heap.size (o1 ++ txs keys ++ txs (vals.take k)) → Calls Tryz.prog 117 #[.pointer (some ⟨w1.heap.size, 0, none⟩), .string vals[k]] W fun e w' => e = .returned (.tuple #[]) ∧ Wr w' w1.heap.size (o1 ++ txs keys ++ txs (vals.take k) ++ txL vals[k]) ∧ Below w1.heap.size W w') := fun W hW => by
            have := wtext_any w1.heap.size _ vals[k] W hW (by omega)
            rw [List.append_assoc] at this
            exact this
          clear CA CB CC TL TV TK PA PB PC S4 S5 S6
          generalize vals[k] = s at *
          generalize o1 ++ txs keys ++ txs (vals.take k) = O at *
          go_wp2_with (go_at_call 117; refine (CT.out _ W9.out).mono ?_; rintro e w5 ⟨rfl, hw, hg⟩)
          go_round
          case rel => exact ⟨k + 1, by omega, by go_num, by rw [ST.out]; exact hw, below_grown H2.out hg (Nat.le_refl _)⟩
          case measure => simp [intOf]; omega
        · obtain rfl : k = vals.length := by omega
          have WE : Hid (Wr wr w1.heap.size (o1 ++ txs keys ++ txs vals)) := hid (by have := W9.out; rwa [List.take_length] at this)
          have lp := TV.out vals.length
          rw [List.take_length] at lp
          clear W9
          have q3 := (B1.out.kept H2.out (by simp)).cell 3
          simp at q3
          have W6 := WE
          have G6 := H2
          have lq : (o1 ++ txs keys ++ txs vals).length ≤ 70000 := by rw [List.length_append, List.length_append]; omega
          go_wp2
          go_loopw [53] (fun i wr => ∃ k : Nat, k ≤ kids.length ∧ i = .int .i64 k ∧ Wr wr w1.heap.size (o1 ++ txs keys ++ txs vals ++ nus (kids.take k)) ∧ w1.grownBy wr none) (fun i _ => kids.length - (intOf i).toNat)
          case atStart => exact ⟨0, Nat.zero_le _, rfl, by simpa [nus] using W6.out, G6.out⟩
          case round =>
            obtain ⟨k, hk, rfl, hw, hg⟩ := hrel
            have W7 : Hid (Wr wr w1.heap.size (o1 ++ txs keys ++ txs vals ++ nus (kids.take k))) := hw
            have H3 : Hid (w1.grownBy wr none) := hg
            clear hw hg W6 G6
            have k0 : (0 : Int) ≤ k := by omega
            by_cases hlt : k < kids.length
            · have hp := PC.out (by omega)
              subst hp
              have c0 := cell_kept (grown_none G1.out H3.out) (CC.out k hlt)
              have k1 : (k : Int) < kids.length := by omega
              have ST : Hid (o1 ++ txs keys ++ txs vals ++ nus (kids.take (k + 1)) = o1 ++ txs keys ++ txs vals ++ nus (kids.take k) ++ numL kids[k].toNat 4) := hid (by rw [nus_step kids k hlt]; simp only [List.append_assoc])
              have ll : (o1 ++ txs keys ++ txs vals ++ nus (kids.take k)).length ≤ 100000 := by
                have := TK.out k
                rw [List.length_append]
                omega
              have sz := S6.out kids[k] (List.getElem_mem hlt)
              have CT : Hid (∀ W, Wr W w1.heap.size (o1 ++ txs keys ++ txs vals ++ nus (kids.take k)) → Calls Tryz.prog 118 #[.pointer (some ⟨w1.heap.size, 0, none⟩), .int .i64 kids[k]] W fun e w' => e = .returned (.tuple #[]) ∧ Wr w' w1.heap.size (o1 ++ txs keys ++ txs vals ++ nus (kids.take k) ++ numL kids[k].toNat 4) ∧ Below w1.heap.size W w') := fun W hW => wcount_any w1.heap.size _ kids[k] W hW (by omega) (by omega)
              clear CA CB CC TL TV TK PA PB PC S4 S5 S6
              generalize kids[k] = s at *
              generalize o1 ++ txs keys ++ txs vals ++ nus (kids.take k) = O at *
              go_wp2_with (go_at_call 118; refine (CT.out _ W7.out).mono ?_; rintro e w5 ⟨rfl, hw, hg⟩)
              go_round
              case rel => exact ⟨k + 1, by omega, by go_num, by rw [ST.out]; exact hw, below_grown H3.out hg (Nat.le_refl _)⟩
              case measure => simp [intOf]; omega
            · obtain rfl : k = kids.length := by omega
              have WE : Hid (Wr wr w1.heap.size (o1 ++ txs keys ++ txs vals ++ nus kids)) := hid (by have := W7.out; rwa [List.take_length] at this)
              have lp := TK.out kids.length
              rw [List.take_length] at lp
              clear W7
              clear CA CB CC TL TV TK PA PB PC S4 S5 S6 B1
              have WF : Hid (Wr wr w1.heap.size F) := hid (by have := WE.out; rw [O1.out, O0.out] at this; rw [EF.out]; exact this)
              clear WE EF O0 O1
              go_wp2_with (go_at_call 119; refine (wall_any w1.heap.size F _ WF.out).mono ?_; rintro e w6 ⟨rfl, rfl⟩)
              go_ret2
              exact ⟨rfl, grown_none G1.out H3.out⟩
end Go.Proofs.YtbhmmcelndmijaaGreat.Pa
namespace Go.Proofs.YtbhmmcelndmijaaGreat.Pa
open Go.RowKit
theorem calls_with {P : Program} {f : FuncId} {args args' : Array Value} {w : World} {Q : Ending → World → Prop} (e : args' = args) (h : Calls P f args w Q) : Calls P f args' w Q := by
  rw [e]
  exact h
def samePg (p q : Pg) : Bool := (p.leaf == q.leaf) && (eqS p.keys q.keys && (eqS p.vals q.vals && eqI p.kids q.kids))
theorem samePg_iff (p q : Pg) : samePg p q = true ↔ p = q := by
  unfold samePg
  rw [Bool.and_eq_true, Bool.and_eq_true, Bool.and_eq_true, eqS_iff, eqS_iff, eqI_iff, beq_iff_eq]
  cases p; cases q
  simp
end Go.Proofs.YtbhmmcelndmijaaGreat.Pa
namespace Go.Proofs.YtbhmmcelndmijaaGreat.Pa
open Go.RowKit
/-- How many keys stand below one, up to the first that does not. -/
def findN : List ByteArray → ByteArray → Nat
  | [], _ => 0
  | a :: r, k => if Op.bytesLess a.toList k.toList then findN r k + 1 else 0
def findIs (l : List ByteArray) (k : ByteArray) : Bool := match l[findN l k]? with
  | some a => a.toList == k.toList
  | none => false
theorem findN_le : ∀ (l : List ByteArray) (k : ByteArray), findN l k ≤ l.length
  | [], _ => Nat.le_refl _
  | a :: r, k => by
    have := findN_le r k
    unfold findN
    split
    · rw [List.length_cons]; omega
    · omega
theorem findN_lt : ∀ (l : List ByteArray) (n : ByteArray) (k : Nat), (h : k < l.length) → k < findN l n → Op.bytesLess l[k].toList n.toList = true
  | [], _, k, h, _ => absurd h (Nat.not_lt_zero _)
  | p :: r, n, k, h, hk => by
    unfold findN at hk
    by_cases hb : Op.bytesLess p.toList n.toList = true
    · rw [if_pos hb] at hk
      match k, h, hk with
      | 0, _, _ => exact hb
      | k + 1, h, hk => exact findN_lt r n k (by simpa using h) (by omega)
    · rw [if_neg hb] at hk
      omega
theorem findN_at : ∀ (l : List ByteArray) (n : ByteArray), (h : findN l n < l.length) → Op.bytesLess l[findN l n].toList n.toList = false
  | [], _, h => absurd h (Nat.not_lt_zero _)
  | p :: r, n, h => by
    by_cases hb : Op.bytesLess p.toList n.toList = true
    · have e : findN (p :: r) n = findN r n + 1 := by show (if _ then _ else _) = _; rw [if_pos hb]
      have h' : findN r n < r.length := by rw [e] at h; simpa using h
      have ih := findN_at r n h'
      have e2 : (p :: r)[findN (p :: r) n] = r[findN r n] := by
        simp only [e, List.getElem_cons_succ]
      rw [e2]
      exact ih
    · have e : findN (p :: r) n = 0 := by show (if _ then _ else _) = _; rw [if_neg hb]
      have e2 : (p :: r)[findN (p :: r) n] = p := by simp only [e, List.getElem_cons_zero]
      rw [e2]
      simpa using hb
set_option maxRecDepth 100000 in
set_option maxHeartbeats 1000000 in
theorem find_any (v : Value) (p : Pg) (n : ByteArray) (w : World) (h : PgV w v p) (hf : p.fits) : Calls Tryz.prog 43 #[v, .string n] w fun e w' => e = .returned (.tuple #[.int .i64 (findN p.keys n), .bool (findIs p.keys n)]) ∧ w.grownBy w' none := by
  obtain ⟨f1, f2, f3⟩ := hf
  obtain ⟨a, b, c, rfl, ha, hb, hc⟩ := h
  obtain ⟨pa, ca, ga, oa, rfl, pA, cA⟩ := ha
  obtain ⟨pb, cb, gb, ob, rfl, -, -⟩ := hb
  obtain ⟨pc, cc, gc, oc, rfl, -, -⟩ := hc
  obtain ⟨leaf, l, vals, kids⟩ := p
  simp only at *
  have PA : Hid (0 < l.length → pa = some ⟨ga, oa, none⟩) := pA
  have H0 : Hid (∀ i, (h : i < l.length) → w.cell? ⟨ga, oa + i, none⟩ = some (.string l[i])) := cA
  clear pA cA
  have z1 : (l.length : Int) ≤ 9223372036854775807 := by omega
  generalize vals.length = n2 at *
  generalize kids.length = n3 at *
  have hfl := findN_le l n
  have HL := hid (findN_lt l n)
  have HT := hid (findN_at l n)
  obtain ⟨m, em⟩ : ∃ m, findN l n = m := ⟨_, rfl⟩
  obtain ⟨bb, eb⟩ : ∃ bb, findIs l n = bb := ⟨_, rfl⟩
  have EM : Hid (findN l n = m) := em
  have EB : Hid (findIs l n = bb) := eb
  rw [em, eb]
  rw [em] at hfl
  clear em eb
  have BX : Hid (Blk (w.alloc (.cells #[.bool leaf, .slice pa l.length ca, .slice pb n2 cb, .slice pc n3 cc] 70)) w.heap.size 70 #[.bool leaf, .slice pa l.length ca, .slice pb n2 cb, .slice pc n3 cc]) := Blk.new w 70 _
  go_enter Tryz.func43, Tryz.ntmps43
  go_wp2
  go_loopw [11] (fun i wr => ∃ k : Nat, k ≤ m ∧ i = .int .i64 k ∧ Blk wr w.heap.size 70 #[.bool leaf, .slice pa l.length ca, .slice pb n2 cb, .slice pc n3 cc] ∧ w.grownBy wr none) (fun i _ => l.length - (intOf i).toNat)
  case atStart => exact ⟨0, Nat.zero_le _, rfl, BX.out, grown_alloc (grown_refl _ _) _⟩
  case round =>
    obtain ⟨k, hk, rfl, hb, hg⟩ := hrel
    have B := hid hb
    have G := hid hg
    have q1 := hb.cell 1
    simp at q1
    clear hb hg BX
    have k0 : (0 : Int) ≤ k := by omega
    by_cases hlt : k < m
    · have hkl : k < l.length := by omega
      have hp := PA.out (by omega)
      subst hp
      have c0 := cell_kept G.out (H0.out k hkl)
      have hb := HL.out k hkl (by rw [EM.out]; exact hlt)
      have k1 : (k : Int) < l.length := by omega
      clear HL HT H0
      generalize l[k] = a at *
      go_wp2
      go_round
      case rel => exact ⟨k + 1, by omega, by go_num, B.out, G.out⟩
      case measure => simp [intOf]; omega
    · obtain rfl : k = m := by omega
      by_cases hkl : k < l.length
      · have hp := PA.out (by omega)
        subst hp
        have c0 := cell_kept G.out (H0.out k hkl)
        have ht : Op.bytesLess l[k].toList n.toList = false := by
          have hx := HT.out (by rw [EM.out]; exact hkl)
          have e2 : l[findN l n]'(by rw [EM.out]; exact hkl) = l[k] := by simp only [EM.out]
          rw [e2] at hx
          exact hx
        have he : (l[k].toList == n.toList) = bb := by
          rw [← EB.out]
          unfold findIs
          rw [EM.out, List.getElem?_eq_getElem hkl]
        have k1 : (k : Int) < l.length := by omega
        clear HL HT H0
        generalize l[k] = a at *
        go_wp2
        go_ret2
        exact ⟨rfl, G.out⟩
      · have e3 : bb = false := by
          rw [← EB.out]
          unfold findIs
          rw [EM.out, List.getElem?_eq_none (by omega)]
        subst e3
        have k2 : k = l.length := by omega
        have k1 : ¬ (k : Int) < l.length := by omega
        clear HL HT H0 PA
        go_wp2
        go_ret2
        exact ⟨rfl, G.out⟩
set_option maxRecDepth 100000 in
set_option maxHeartbeats 400000 in
theorem kid_any (v : Value) (p : Pg) (n : ByteArray) (w : World) (h : PgV w v p) (hf : p.fits) (hs : p.keys.length ≤ 1000) : Calls Tryz.prog 40 #[v, .string n] w fun e w' => e = .returned (.int .i64 (findN p.keys n + if findIs p.keys n then 1 else 0)) ∧ w.grownBy w' none := by
  have C : Hid (∀ W, w.grownBy W none → Calls Tryz.prog 43 #[v, .string n] W fun e w' => e = .returned (.tuple #[.int .i64 (findN p.keys n), .bool (findIs p.keys n)]) ∧ W.grownBy w' none) := fun W hW => find_any v p n W (h.kept hW) hf
  have hfl := findN_le p.keys n
  have hfl2 : (findN p.keys n : Int) ≤ 1000 := by omega
  have hfl3 : (0 : Int) ≤ findN p.keys n := by omega
  obtain ⟨a, b, c, rfl, ha, hb, hc⟩ := h
  obtain ⟨pa, ca, ga, oa, rfl, -, -⟩ := ha
  obtain ⟨pb, cb, gb, ob, rfl, -, -⟩ := hb
  obtain ⟨pc, cc, gc, oc, rfl, -, -⟩ := hc
  clear hfl hf hs
  generalize p.keys.length = n1 at *
  generalize p.vals.length = n2 at *
  generalize p.kids.length = n3 at *
  generalize p.leaf = l at *
  generalize findN p.keys n = m at *
  generalize findIs p.keys n = x at *
  cases x
  all_goals
    go_enter Tryz.func40, Tryz.ntmps40
    go_wp2_with (go_at_call 43; refine (C.out _ (grown_alloc (grown_refl _ _) _)).mono ?_; rintro e w1 ⟨rfl, hg⟩; have G1 : Hid (w.grownBy w1 none) := grown_none (grown_alloc (grown_refl _ _) _) hg; clear hg C)
    go_ret
    refine ⟨?_, G1.out⟩
    simp
end Go.Proofs.YtbhmmcelndmijaaGreat.Pa
namespace Go.Proofs.YtbhmmcelndmijaaGreat.Pa
open Go.RowKit
theorem mk_app (A : List UInt8) (t : ByteArray) : (⟨A.toArray⟩ : ByteArray) ++ t = ⟨(A ++ t.data.toList).toArray⟩ := by
  apply bytes_ext
  simp
theorem mk_size (A : List UInt8) : (⟨A.toArray⟩ : ByteArray).size = A.length := by
  rw [← bytes_len]
theorem tx_data (s : ByteArray) : (numS s.size 4 ++ s).data.toList = txL s := by
  unfold txL
  simp [numS]
end Go.Proofs.YtbhmmcelndmijaaGreat.Pa
