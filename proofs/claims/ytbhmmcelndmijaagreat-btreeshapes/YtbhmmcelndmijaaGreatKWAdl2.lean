/-
  Append: a record waits. The check of the program, of texts as long as may be: chunk by chunk.
-/
import Derived.Test.YtbhmmcelndmijaaGreatKLtake
import Derived.Lib.AppendStr
import Derived.Deep.RegionHeld3
import Derived.Test.YtbhmmcelndmijaaGreatKWFrame
namespace Go.Proofs.YtbhmmcelndmijaaGreat
open Go.RowKit Go.Maps
theorem info5 : (Tryz.prog.info? 5).map (fun i => (i.zero, i.size, i.bytes)) = some (some (.int .u8 0), 1, 1) := by kernel_rfl
/-- append of a text to bytes, as a step of a region that draws. -/
theorem step_text {ops : Array Oper} {o : Oper} {a : Act} {w : World} {K : Act → World → Prop} {Q : Exit → Act → World → Prop} {E : Prop} (s x : Operand) (hg : o.guard = none) (ho : o.op = Op.call { callee := Callee.builtin Builtin.append, args := #[s, x], argTypes := #[85, 9] }) (base : Nat) (v : Value) (l t : ByteArray)
    (hrow : w.ownsRow base 5 1 v l.size (Lib.strCells l)) (hl : l.size + t.size ≤ 100000000) (hbase : base ≤ w.heap.size) (hs : a.eval s = v) (hx : a.eval x = .string t)
    (hK : ∀ v' w', w'.ownsRow base 5 1 v' (l ++ t).size (Lib.strCells (l ++ t)) → w.grownBy w' v.ownBlock → K (a.put o.dst v') w') :
    if Region.wanted o (yielded ops a.tmps) = true then Oper.wp Tryz.prog o a w K Q else E := by
  have hw : Region.wanted o (yielded ops a.tmps) = true := by simp [Region.wanted, hg]
  rw [if_pos hw]
  obtain ⟨i5, hi, hz0, hz1, hz2⟩ := info_parts info5
  obtain ⟨v', w', hr, h2, h3, _⟩ := Lib.run_append_own_string (P := Tryz.prog) w base 85 9 o.type 5 i5 Tryz.underlying85 Tryz.underlying9 hi hz0 hz1 hz2 v l.size (Lib.strCells l) hrow t (by unfold maxLen; omega) (by omega) hbase
  have e : Lib.strCells l ++ Lib.strCells t = Lib.strCells (l ++ t) := by
    unfold Lib.strCells
    rw [← List.map_append]
    simp
  rw [e, ← ByteArray.size_append] at h2
  unfold Oper.wp execOp
  simp only [ho, resolve, invoke, builtin, Sem.run_bind, Sem.run_pure, Result.andThen_ok, List.map_toArray, List.map_cons, List.map_nil, hs, hx, hr]
  exact hK v' w' h2 h3
section
variable {ops : Array Oper} {rest : List Oper} {o : Oper} {a : Act} {Q : Exit → Act → World → Prop} {w : World}
theorem append_rec (base : Nat) (v : Value) (l : List (Nat × ByteArray)) (p : Nat × ByteArray) (ad : Addr) (cc : Nat) (hrow : w.ownsRow base 111 2 v l.length (recsL l)) (hcell : ∀ j u, (recL p)[j]? = some u → w.cell? (ad.add j) = some u) (hl : l.length ≤ 1000000) (hbase : base ≤ w.heap.size) (s x : Operand)
    (hgd : o.guard = none) (ho : o.op = .call { callee := .builtin .append, args := #[s, x], argTypes := #[84, 84] }) (hs : a.eval s = v) (hx : a.eval x = .slice (some ad) 1 cc)
    (h : ∀ v' w', w'.ownsRow base 111 2 v' (l ++ [p]).length (recsL (l ++ [p])) → w.grownBy w' v.ownBlock → wpList Tryz.prog ops Q rest (a.put o.dst v') w') : wpList Tryz.prog ops Q (o :: rest) a w := by
  obtain ⟨i84, hi, hz0, hz1, hz2⟩ := info_parts info84
  refine wpList_append_own w hgd s x 84 ho base 111 i84 _ 2 24 Tryz.underlying84 hi hz0 hz1 hz2 rfl (by decide) v l.length (recsL l) hs hrow ad 1 cc (recL p) hx rfl hcell (fun u hu => ?_) (by unfold maxLen; omega) (by omega) hbase ?_
  · unfold recL at hu
    simp only [List.mem_cons, List.not_mem_nil, or_false] at hu
    rcases hu with rfl | rfl <;> rfl
  · intro v' w' h2 h3 _
    rw [recsL_snoc] at h2
    exact h v' w' (by rw [List.length_append]; exact h2) h3
end
theorem row_none {w w' : World} {base e size n : Nat} {v : Value} {xs : List Value} (h : w.ownsRow base e size v n xs) (hg : w.grownBy w' none) : w'.ownsRow base e size v n xs := by
  refine h.kept hg ?_
  cases v.ownBlock with
  | none => exact Or.inl rfl
  | some x => exact Or.inr (by simp)
set_option maxRecDepth 100000 in
set_option maxHeartbeats 4000000 in
theorem lappend_any (base b : Nat) (g : Lg) (s : ByteArray) (w : World) (h : IsLog w base b g) (hl : g.recs.length ≤ 100000) (hw : g.wait.size ≤ 10000000) (hn : g.len ≤ 1000000000) (hs : s.size ≤ 3900) :
    Calls Tryz.prog 98 #[.pointer (some ⟨b, 0, none⟩), .string s] w fun e w' => e = .returned (.tuple #[.int .i64 (g.len + g.wait.size : Nat), .int .i64 0]) ∧ IsLog w' base b { g with recs := g.recs ++ [(g.len + g.wait.size, s)], wait := g.wait ++ Wi.frmS (⟨#[100]⟩ ++ s) } ∧ LT base b w w' := by
  have hsz : (⟨#[100]⟩ ++ s : ByteArray).size ≤ 4000 := by rw [ByteArray.size_append]; show 1 + _ ≤ _; omega
  have CF : Hid (∀ W, Calls Tryz.prog 120 #[.string (⟨#[100]⟩ ++ s)] W fun e w' => e = .returned (.string (Wi.frmS (⟨#[100]⟩ ++ s))) ∧ W.grownBy w' none) := fun W => Wi.frame_any _ W hsz
  have hfs : (Wi.frmS (⟨#[100]⟩ ++ s)).size ≤ 5000 := by rw [Wi.frmS_size]; omega
  obtain ⟨h0, vr, vw, hb, hr, hww⟩ := h
  obtain ⟨⟨c0, c1, c2, c3, c4, c5, c6⟩, f1, f2, f3, f4, f5, f6⟩ := hb.g7
  have hbw : base ≤ w.heap.size := Nat.le_trans h0 (Nat.le_of_lt hb.lt)
  obtain ⟨pr, cr, rfl, _⟩ := row_form hr
  obtain ⟨pw, cw, rfl, _⟩ := row_form hww
  have HB := hid hb
  have HR := hid hr
  have HW := hid hww
  have i1 : (g.wait.size : Int) ≤ 10000000 := by omega
  have i2 : (g.len : Int) ≤ 1000000000 := by omega
  have i3 : (s.size : Int) ≤ 3900 := by omega
  have i4 : ¬ (1048576 : Int) < s.size := by omega
  have i5 : ¬ 9223372036854775807 < 1 + s.size := by omega
  have iw : IntKind.i64.wrap ((g.len : Int) + (g.wait.size : Int)) = ((g.len + g.wait.size : Nat) : Int) := by rw [IntKind.wrap_i64]; omega
  have HN : Hid (g.recs.length ≤ 1000000) := (by show _ ≤ _; omega)
  have HZ : Hid (g.wait.size + (Wi.frmS (⟨#[100]⟩ ++ s)).size ≤ 100000000) := (by show _ ≤ _; omega)
  clear hb hr hww hl hw hn hs hsz hfs
  generalize Wi.frmS (⟨#[100]⟩ ++ s) = F at *
  generalize hat : g.len + g.wait.size = at_ at *
  go_enter Tryz.func98, Tryz.ntmps98
  go_wp2_with fail
  go_quiet (fail)
  obtain ⟨w1, hw1⟩ : ∃ w1, w1 = w.drewN nq := ⟨_, rfl⟩
  rw [← hw1]
  have G1 : Hid (w.grownBy w1 none) := (by rw [hw1]; exact grown_drewN (grown_refl _ _) _)
  have B1 : Hid (Blk w1 b 87 (rowG g.d (.slice pr g.recs.length cr) (.slice pw g.wait.size cw) g.com g.len g.root g.marked)) := HB.out.kept G1.out (by simp)
  have R1 : Hid (w1.ownsRow base 111 2 (.slice pr g.recs.length cr) g.recs.length (recsL g.recs)) := (by rw [hw1]; exact HR.out)
  have W1 : Hid (w1.ownsRow base 5 1 (.slice pw g.wait.size cw) g.wait.size (Lib.strCells g.wait)) := (by rw [hw1]; exact HW.out)
  have hb1 : base ≤ w1.heap.size := Nat.le_trans hbw G1.out.size
  clear hw1 c0 c1 c2 c3 c4 c5 c6 f1 f2 f3 f4 f5 f6 HB HR HW iw
  obtain ⟨⟨c0, c1, c2, c3, c4, c5, c6⟩, f1, f2, f3, f4, f5, f6⟩ := B1.out.g7
  go_wp2_with (at_builtin; refine append_rec base _ g.recs (at_, s) ⟨w1.heap.size, 0, none⟩ 1 (R1.out.alloc _) (rec_cells w1 at_ s) HN.out (by rw [World.size_alloc]; omega) _ _ rfl rfl rfl rfl ?_; intro v2 u2 h2 hg2; have B2 := hid (blk_row (B1.out.alloc (.cells #[.int .i64 at_, .string s] 111)) (R1.out.alloc (.cells #[.int .i64 at_, .string s] 111)) (by decide) hg2); have W2 := hid (row_row (W1.out.alloc (.cells #[.int .i64 at_, .string s] 111)) (R1.out.alloc (.cells #[.int .i64 at_, .string s] 111)) (by decide) hg2); have R2 := hid h2; have T2 := hid (LT.trans (LT.of_none (grown_alloc G1.out (.cells #[.int .i64 at_, .string s] 111))) (lt_row (b := b) (R1.out.alloc (.cells #[.int .i64 at_, .string s] 111)) (Or.inl rfl) hg2)); obtain ⟨p2, c9, rfl, _⟩ := row_form h2; clear c0 c1 c2 c3 c4 c5 c6 f1 f2 f3 f4 f5 f6; obtain ⟨⟨c0, c1, c2, c3, c4, c5, c6⟩, f1, f2, f3, f4, f5, f6⟩ := B2.out.g7; clear h2 hg2)
  have hv : (Value.slice p2 (g.recs ++ [(at_, s)]).length c9) = .slice p2 (g.recs.length + 1) c9 := by rw [List.length_append]; rfl
  have q := R2.out
  rw [hv] at q
  have GS : u2.grownBy (u2.setCell ⟨b, 1, none⟩ (.slice p2 (g.recs.length + 1) c9)) (some b) := grown_set (grown_refl _ _) 1 _
  have B3 : Hid (Blk (u2.setCell ⟨b, 1, none⟩ (.slice p2 (g.recs.length + 1) c9)) b 87 (rowG g.d (.slice p2 (g.recs.length + 1) c9) (.slice pw g.wait.size cw) g.com g.len g.root g.marked)) := B2.out.set 1 _
  have R3 := hid (rowG_kept q B2.out (by decide) GS)
  have W3 := hid (rowG_kept W2.out B2.out (by decide) GS)
  have T3 := hid (LT.trans T2.out (LT.of_self GS h0))
  have hb3 : base ≤ (u2.setCell ⟨b, 1, none⟩ (.slice p2 (g.recs.length + 1) c9)).heap.size := Nat.le_trans hbw T3.out.size
  clear c0 c1 c2 c3 c4 c5 c6 f1 f2 f3 f4 f5 f6 B1 B2 R1 R2 W1 W2 T2 G1 q GS hv
  generalize u2.setCell ⟨b, 1, none⟩ (.slice p2 (g.recs.length + 1) c9) = w3 at *
  obtain ⟨⟨c0, c1, c2, c3, c4, c5, c6⟩, f1, f2, f3, f4, f5, f6⟩ := B3.out.g7
  clear c0 c1 c2 c3 c5 c6 f1 f2 f3 f5 f6
  go_region_law (first
    | (go_simp; go_at_call 120; refine (CF.out _).mono ?_; rintro e w4 ⟨rfl, hg4⟩; have B4 := hid (B3.out.drew.kept hg4 (by simp)); have G4 : Hid (w3.grownBy w4 none) := grown_trans (grown_drew (grown_refl _ _)) hg4; have W4 := hid (row_none W3.out G4.out); have R4 := hid (row_none R3.out G4.out); have e4 : w4.cell? ⟨b, 4, none⟩ = some (.slice pw g.wait.size cw) := B4.out.cell 4; have e5 := B4.out.frozen 4; have hb4 : base ≤ w4.heap.size := Nat.le_trans hb3 G4.out.size; clear hg4)
    | (refine step_text (.tmp 38) (.tmp 41) rfl rfl base _ g.wait F W4.out HZ.out hb4 rfl rfl ?_; intro v5 u5 h5 hg5; have B5 := hid (blk_row B4.out W4.out (by decide) hg5); have R5 := hid (row_row R4.out W4.out (by decide) hg5); have T5 := hid (LT.trans T3.out (LT.trans (LT.of_none G4.out) (lt_row (b := b) W4.out (Or.inr rfl) hg5))); have W5 := hid h5; obtain ⟨p5, k5, rfl, _⟩ := row_form h5; have d4 : u5.cell? ⟨b, 4, none⟩ = some (.slice pw g.wait.size cw) := B5.out.cell 4; have d5 := B5.out.frozen 4; clear h5 hg5))
  all_goals (
    go_wp2
    go_ret2
    have hv : (Value.slice p5 (g.wait ++ F).size k5) = .slice p5 (g.wait.size + F.size) k5 := by rw [ByteArray.size_append]
    have q := W5.out
    rw [hv] at q
    refine ⟨rfl, ⟨h0, .slice p2 (g.recs.length + 1) c9, .slice p5 (g.wait.size + F.size) k5, B5.out.set 4 _, ?_, ?_⟩, LT.trans T5.out (LT.of_self (grown_set (grown_refl _ _) 4 _) h0)⟩
    · exact rowG_kept R5.out B5.out (by decide) (grown_set (grown_refl _ _) 4 _)
    · exact rowG_kept q B5.out (by decide) (grown_set (grown_refl _ _) 4 _))
end Go.Proofs.YtbhmmcelndmijaaGreat
namespace Go.Proofs.YtbhmmcelndmijaaGreat.Wi
open Go.RowKit
theorem hid' {p : Prop} (h : p) : Hid p := h
/-- The sums within a chunk that begins at p, from what they were. -/
def c1 (s : ByteArray) (p a : Nat) : Nat → Nat
  | 0 => a
  | i + 1 => c1 s p a i + (s.data.getD (p + i) 0).toNat
def c2 (s : ByteArray) (p a b : Nat) : Nat → Nat
  | 0 => b
  | i + 1 => c2 s p a b i + c1 s p a (i + 1)
theorem c1_mod (s : ByteArray) (p a : Nat) (h : a % 65521 = ad1 s p % 65521) : ∀ i, c1 s p a i % 65521 = ad1 s (p + i) % 65521
  | 0 => h
  | i + 1 => by
    have ih := c1_mod s p a h i
    show (c1 s p a i + (s.data.getD (p + i) 0).toNat) % 65521 = (ad1 s (p + i) + (s.data.getD (p + i) 0).toNat) % 65521
    omega
theorem c2_mod (s : ByteArray) (p a b : Nat) (h : a % 65521 = ad1 s p % 65521) (hb : b % 65521 = ad2 s p % 65521) : ∀ i, c2 s p a b i % 65521 = ad2 s (p + i) % 65521
  | 0 => hb
  | i + 1 => by
    have ih := c2_mod s p a b h hb i
    have h1 := c1_mod s p a h (i + 1)
    have h1' : c1 s p a (i + 1) % 65521 = ad1 s (p + i + 1) % 65521 := h1
    show (c2 s p a b i + c1 s p a (i + 1)) % 65521 = (ad2 s (p + i) + ad1 s (p + i + 1)) % 65521
    omega
theorem c1_le (s : ByteArray) (p a : Nat) (h : a ≤ 65520) : ∀ i, c1 s p a i ≤ 65520 + 255 * i
  | 0 => h
  | i + 1 => by
    have ih := c1_le s p a h i
    have hb : (s.data.getD (p + i) 0).toNat < 256 := UInt8.toNat_lt _
    show c1 s p a i + _ ≤ _
    omega
theorem c2_sq (s : ByteArray) (p a b : Nat) (h : a ≤ 65520) (hb : b ≤ 65520) : ∀ i, 2 * c2 s p a b i ≤ 131040 * (i + 1) + 255 * (i * (i + 1))
  | 0 => by show 2 * b ≤ _; omega
  | i + 1 => by
    have ih := c2_sq s p a b h hb i
    have h1 := c1_le s p a h (i + 1)
    have e1 : (i + 1) * (i + 1 + 1) = i * (i + 1) + 2 * (i + 1) := by
      rw [Nat.mul_add, Nat.mul_one, Nat.mul_add, Nat.mul_one, Nat.mul_add, Nat.mul_one, Nat.add_mul, Nat.one_mul]
      omega
    show 2 * (c2 s p a b i + c1 s p a (i + 1)) ≤ _
    rw [e1]
    generalize i * (i + 1) = m at *
    omega
theorem c2_le (s : ByteArray) (p a b : Nat) (h : a ≤ 65520) (hb : b ≤ 65520) (i : Nat) (hi : i ≤ 5551) : c2 s p a b i ≤ 4293208920 := by
  have h1 := c2_sq s p a b h hb i
  have h2 : i * (i + 1) ≤ 5551 * 5552 := Nat.mul_le_mul hi (by omega)
  generalize i * (i + 1) = m at *
  omega
theorem ext_get (s : ByteArray) (p k : Nat) (h : k < (s.extract p s.size).size) : ((s.extract p s.size)[k]'h).toNat = (s.data.getD (p + k) 0).toNat := by
  have h2 : p + k < s.size := by rw [ByteArray.size_extract] at h; omega
  rw [ByteArray.getElem_extract, getD_byte s (p + k) h2]
set_option maxRecDepth 100000 in
set_option maxHeartbeats 1000000 in
theorem adler_big (s : ByteArray) (w : World) (hs : s.size ≤ 1000000000) : Calls Tryz.prog 111 #[.string s] w fun e w' => e = .returned (.int .u32 (adl s : Nat)) ∧ w' = w := by
  have he0 : s = s.extract 0 s.size := by rw [ByteArray.extract_zero_size]
  have HS := hid' hs
  have H0 := hid' (And.intro he0 trivial)
  clear he0 hs
  go_enter Tryz.func111, Tryz.ntmps111
  go_wp2
  go_loop [0, 3, 4] (fun t x y => ∃ p : Nat, p ≤ s.size ∧ t = .string (s.extract p s.size) ∧ x = .int .u32 ((ad1 s p % 65521 : Nat) : Int) ∧ y = .int .u32 ((ad2 s p % 65521 : Nat) : Int)) (fun t _ _ => match t with | .string u => u.size | _ => 0)
  case atStart => exact ⟨0, Nat.zero_le _, by rw [← H0.out.1], rfl, rfl⟩
  case round =>
    obtain ⟨p, hp, rfl, rfl, rfl⟩ := hrel
    have hsz : (s.extract p s.size).size = s.size - p := by rw [ByteArray.size_extract]; omega
    by_cases hz : p < s.size
    · obtain ⟨R, hR⟩ : ∃ R, s.extract p s.size = R := ⟨_, rfl⟩
      have GB : Hid (∀ k (h : k < R.size), (R[k]'h).toNat = (s.data.getD (p + k) 0).toNat) := by
        show ∀ k (h : k < R.size), (R[k]'h).toNat = (s.data.getD (p + k) 0).toNat
        rw [← hR]
        exact fun k h => ext_get s p k h
      have RX : Hid (∀ n, R.extract n R.size = s.extract (p + n) s.size) := by
        show ∀ n, R.extract n R.size = s.extract (p + n) s.size
        intro n
        rw [← hR, hsz, ByteArray.extract_extract]
        congr 1
        omega
      rw [hR] at hsz ⊢
      clear hR
      obtain ⟨n, hn⟩ : ∃ n : Nat, n = min R.size 5552 := ⟨_, rfl⟩
      have n1 : n ≤ R.size := by omega
      have n2 : n ≤ 5552 := by omega
      have n0 : 0 < n := by omega
      have z1 : (0 : Int) < (R.size : Int) := by omega
      have z2 : min (R.size : Int) 5552 = (n : Int) := by omega
      have z3 : (R.size : Int) ≤ 1000000000 := by have := HS.out; omega
      have z4 : (n : Int) ≤ (R.size : Int) := by omega
      have z5 : (n : Int) ≤ 5552 := by omega
      obtain ⟨a, ha⟩ : ∃ a, a = ad1 s p % 65521 := ⟨_, rfl⟩
      obtain ⟨b, hb⟩ : ∃ b, b = ad2 s p % 65521 := ⟨_, rfl⟩
      have a1 : a ≤ 65520 := by omega
      have b1 : b ≤ 65520 := by omega
      have HA := hid' (And.intro ha trivial)
      have HB := hid' (And.intro hb trivial)
      rw [← ha, ← hb]
      clear ha hb hn
      have hcs := hid' hsz
      clear hsz
      go_wp2
      go_loop [3, 4, 14] (fun x y i => ∃ k : Nat, k ≤ n ∧ i = .int .i64 k ∧ x = .int .u32 ((c1 s p a k : Nat) : Int) ∧ y = .int .u32 ((c2 s p a b k : Nat) : Int)) (fun _ _ i => n - (intOf i).toNat)
      case atStart => exact ⟨0, Nat.zero_le _, rfl, rfl, rfl⟩
      case round =>
        obtain ⟨k, hk, rfl, rfl, rfl⟩ := hrel
        by_cases hlt : k < n
        · have hx := c1_le s p a a1 k
          have hy := c2_le s p a b a1 b1 k (by omega)
          have hkR : k < R.size := by omega
          obtain ⟨c, ec⟩ : ∃ c : Nat, (R[k]'hkR).toNat = c := ⟨_, rfl⟩
          have c256 : c < 256 := by rw [← ec]; exact UInt8.toNat_lt _
          have E1 : Hid (c1 s p a (k + 1) = c1 s p a k + c) := by
            show c1 s p a k + (s.data.getD (p + k) 0).toNat = c1 s p a k + c
            rw [← GB.out k hkR, ec]
          have E2 : Hid (c2 s p a b (k + 1) = c2 s p a b k + c1 s p a (k + 1)) := rfl
          obtain ⟨x, ex⟩ : ∃ x, c1 s p a k = x := ⟨_, rfl⟩
          obtain ⟨y, ey⟩ : ∃ y, c2 s p a b k = y := ⟨_, rfl⟩
          rw [ex] at hx
          rw [ey] at hy
          rw [ex, ey]
          have EX : Hid (c1 s p a k = x) := ex
          have EY : Hid (c2 s p a b k = y) := ey
          clear ex ey
          have k0 : (0 : Int) ≤ (k : Int) := by omega
          have k1 : (k : Int) < (n : Int) := by omega
          have k2 : (k : Int) < (R.size : Int) := by omega
          have c0 : (0 : Int) ≤ (c : Int) := by omega
          have c1' : (c : Int) < 256 := by omega
          have x0 : (0 : Int) ≤ (x : Int) := by omega
          have x1 : (x : Int) ≤ 1481025 := by omega
          have y0 : (0 : Int) ≤ (y : Int) := by omega
          have y1 : (y : Int) ≤ 4293208920 := by omega
          clear hx hy
          go_wp2
          go_round
          case rel =>
            refine ⟨k + 1, by omega, rfl, ?_, ?_⟩
            · rw [E1.out, EX.out]; rfl
            · rw [E2.out, E1.out, EX.out, EY.out]; rfl
          case measure => simp [intOf]; omega
        · have e : k = n := by omega
          subst e
          have m1 := c1_mod s p a (by rw [HA.out.1, Nat.mod_mod]) k
          have m2 := c2_mod s p a b (by rw [HA.out.1, Nat.mod_mod]) (by rw [HB.out.1, Nat.mod_mod]) k
          have M1 := hid' (And.intro m1 trivial)
          have M2 := hid' (And.intro m2 trivial)
          have RK := hid' (And.intro (RX.out k) trivial)
          clear m1 m2 hlt hk RX GB
          generalize c1 s p a k = x at *
          generalize c2 s p a b k = y at *
          go_wp2
          go_round
          case rel => exact ⟨p + k, by have := hcs.out; omega, by rw [← RK.out.1], by rw [← M1.out.1]; rfl, by rw [← M2.out.1]; rfl⟩
          case measure =>
            show (R.extract k R.size).size < R.size
            rw [ByteArray.size_extract]
            omega
    · obtain rfl : p = s.size := by omega
      have hb := adl_bits (ad1 s s.size) (ad2 s s.size)
      have HB : Hid (bits .or .u32 (((ad2 s s.size : Nat) : Int) % 65521 * 65536) (((ad1 s s.size : Nat) : Int) % 65521) = ((ad2 s s.size % 65521 * 65536 + ad1 s s.size % 65521 : Nat) : Int)) := hb
      have hE : (s.extract s.size s.size) = ⟨#[]⟩ := by
        have : (s.extract s.size s.size).size = 0 := by rw [ByteArray.size_extract]; omega
        exact bytes_ext (List.eq_nil_of_length_eq_zero (by rw [Array.length_toList]; exact this))
      rw [hE]
      clear hb hsz hE hz hp
      go_wp2
      go_ret
      refine ⟨?_, rfl⟩
      rw [HB.out]
      rfl
end Go.Proofs.YtbhmmcelndmijaaGreat.Wi
