/-
  AstReads: the law's own walk.
-/
import Derived.Test.YtdodammplhlihaaDoorAw
namespace Go.Proofs.YtdodammplhlihaaDoor
open Go.RowKit
def TrueP (w : World) (e : Ending) (w' : World) : Prop := e = .returned (.bool true) ∧ w.grownBy w' none
set_option maxRecDepth 100000 in
set_option maxHeartbeats 2000000 in
theorem reads_law (s : ByteArray) (w : World) (hs : (s.size : Int) ≤ 9223372036854775807) : Calls Tryd.prog 3 #[.string s] w (TrueP w) := by
  have CA : Hid (∀ W, Calls Tryd.prog 7 #[] W fun e w' => e = .returned (.bool true) ∧ W.grownBy w' none) := awake_any
  have CD := hid (decode_any s w hs)
  by_cases he : decE s = 0
  · have hb := dec_back s he
    rw [he] at CD
    generalize decN s = x at *
    obtain ⟨e1, ok1, n1⟩ := hb
    have CE : Hid (∀ P W q, KsV W P q x.kids → Calls Tryd.prog 8 #[.agg #[.int .i64 x.kind, .int .i64 x.ty, .string x.txt, .int .i64 x.num, q]] W (StrP W s)) := fun P W q hq => by
      have := encode_any P x ok1 (by omega) _ W ⟨q, rfl, hq⟩
      rwa [e1] at this
    have CC : Hid (∀ P W q, KsV W P q x.kids → Calls Tryd.prog 9 #[.agg #[.int .i64 x.kind, .int .i64 x.ty, .string x.txt, .int .i64 x.num, q]] W fun e w' => e = .returned (.int .i64 x.cnt) ∧ W.grownBy w' none) := fun P W q hq => countT_any P x ok1 (by omega) _ W ⟨q, rfl, hq⟩
    have n2 : (x.cnt : Int) ≤ 2000 := by omega
    have s2 : (s.toList == s.toList) = true := by simp
    clear he e1 ok1 n1
    go_enter Tryd.func3, Tryd.ntmps3
    go_wp2_with (first
      | (go_at_call 6; refine CD.out.mono ?_; clear CD; rintro e w1 ⟨q1, rfl, hk1, hg1⟩; obtain ⟨p1, c1, eq1, _⟩ := hk1.form; subst eq1; have K1 := hid (hk1.kept (grown_alloc (grown_refl w1 none) (.cells #[.int .i64 x.kind, .int .i64 x.ty, .string x.txt, .int .i64 x.num, .slice p1 x.kids.length c1] 24))); have G1 := hid (grown_alloc hg1 (.cells #[.int .i64 x.kind, .int .i64 x.ty, .string x.txt, .int .i64 x.num, .slice p1 x.kids.length c1] 24)); have B1 := hid (Blk.new w1 24 #[.int .i64 x.kind, .int .i64 x.ty, .string x.txt, .int .i64 x.num, .slice p1 x.kids.length c1]); clear hk1 hg1)
      | (go_at_call 7; refine (CA.out _).mono ?_; clear CA; rintro e w2 ⟨rfl, hg2⟩; have G2 := hid (grown_none G1.out hg2); have B2 := hid (B1.out.kept hg2 (by simp)); have K2 := hid (K1.out.kept hg2); have z0 : w2.cell? ⟨w1.heap.size, 0, none⟩ = some (.int .i64 x.kind) := B2.out.cell 0; have z1 : w2.cell? ⟨w1.heap.size, 1, none⟩ = some (.int .i64 x.ty) := B2.out.cell 1; have z2 : w2.cell? ⟨w1.heap.size, 2, none⟩ = some (.string x.txt) := B2.out.cell 2; have z3 : w2.cell? ⟨w1.heap.size, 3, none⟩ = some (.int .i64 x.num) := B2.out.cell 3; have z4 : w2.cell? ⟨w1.heap.size, 4, none⟩ = some (.slice p1 x.kids.length c1) := B2.out.cell 4; clear hg2)
      | (go_at_call 8; refine (CE.out _ _ _ K2.out).mono ?_; clear CE; rintro e w3 ⟨rfl, hg3⟩; have G3 := hid (grown_none G2.out hg3); have B3 := hid (B2.out.kept hg3 (by simp)); have K3 := hid (K2.out.kept hg3); clear z0 z1 z2 z3 z4; have z0 : w3.cell? ⟨w1.heap.size, 0, none⟩ = some (.int .i64 x.kind) := B3.out.cell 0; have z1 : w3.cell? ⟨w1.heap.size, 1, none⟩ = some (.int .i64 x.ty) := B3.out.cell 1; have z2 : w3.cell? ⟨w1.heap.size, 2, none⟩ = some (.string x.txt) := B3.out.cell 2; have z3 : w3.cell? ⟨w1.heap.size, 3, none⟩ = some (.int .i64 x.num) := B3.out.cell 3; have z4 : w3.cell? ⟨w1.heap.size, 4, none⟩ = some (.slice p1 x.kids.length c1) := B3.out.cell 4; clear hg3)
      | (go_at_call 9; refine (CC.out _ _ _ K3.out).mono ?_; clear CC; rintro e w4 ⟨rfl, hg4⟩; have G4 := hid (grown_none G3.out hg4); clear hg4))
    go_ret
    exact ⟨ret_bool (by simp), G4.out⟩
  · have hN : decN s = Nd.zero := by unfold decN; rw [if_neg he]
    rw [hN] at CD
    have CD' : Hid (Calls Tryd.prog 6 #[.string s] w fun e w' => ∃ p c, e = .returned (.tuple #[.agg #[.int .i64 0, .int .i64 0, .string ⟨#[]⟩, .int .i64 0, .slice p 0 c], .int .i64 (decE s)]) ∧ w.grownBy w' none) := CD.out.mono fun e w' ⟨q, he, hk, hg⟩ => by
      obtain ⟨p, c, eq, _⟩ := hk.form
      subst eq
      exact ⟨p, c, he, hg⟩
    have he' : ((decE s : Int) != 0) = true := by simp; omega
    clear CD hN he
    generalize decE s = er at *
    go_enter Tryd.func3, Tryd.ntmps3
    go_wp2_with (first
      | (go_at_call 6; refine CD'.out.mono ?_; clear CD'; rintro e w1 ⟨p1, c1, rfl, hg1⟩; have G1 := hid (grown_alloc hg1 (.cells #[.int .i64 0, .int .i64 0, .string ⟨#[]⟩, .int .i64 0, .slice p1 0 c1] 24)); have B1 := hid (Blk.new w1 24 #[.int .i64 0, .int .i64 0, .string ⟨#[]⟩, .int .i64 0, .slice p1 0 c1]); clear hg1)
      | (go_at_call 7; refine (CA.out _).mono ?_; clear CA; rintro e w2 ⟨rfl, hg2⟩; have G2 := hid (grown_none G1.out hg2); have B2 := B1.out.kept hg2 (by simp); have z0 : w2.cell? ⟨w1.heap.size, 0, none⟩ = some (.int .i64 0) := B2.cell 0; have z4 : w2.cell? ⟨w1.heap.size, 4, none⟩ = some (.slice p1 0 c1) := B2.cell 4; clear hg2 B2))
    go_ret
    exact ⟨rfl, G2.out⟩
end Go.Proofs.YtdodammplhlihaaDoor
