/-
  Same: two pages held together.
-/
import Derived.Test.YtomknaendicpkaaEnc
namespace Go.Proofs.Ytomknaendicpkaa
open Go.RowKit
theorem calls_with {P : Program} {f : FuncId} {args args' : Array Value} {w : World} {Q : Ending → World → Prop} (e : args' = args) (h : Calls P f args w Q) : Calls P f args' w Q := by
  rw [e]
  exact h
def samePg (p q : Pg) : Bool := (p.leaf == q.leaf) && (eqS p.keys q.keys && (eqS p.vals q.vals && eqI p.kids q.kids))
theorem samePg_iff (p q : Pg) : samePg p q = true ↔ p = q := by
  unfold samePg
  rw [Bool.and_eq_true, Bool.and_eq_true, Bool.and_eq_true, eqS_iff, eqS_iff, eqI_iff, beq_iff_eq]
  cases p; cases q
  simp
set_option maxRecDepth 100000 in
set_option maxHeartbeats 2000000 in
theorem same_any (v u : Value) (p q : Pg) (w : World) (h : PgV w v p) (k : PgV w u q) (hf : p.fits) : Calls Try.prog 14 #[v, u] w fun e w' => e = .returned (.bool (samePg p q)) ∧ w.grownBy w' none := by
  obtain ⟨a, b, c, rfl, ha, hb, hc⟩ := h
  obtain ⟨a', b', c', rfl, ka, kb, kc⟩ := k
  have CA : Hid (∀ W, w.grownBy W none → Calls Try.prog 32 #[a, a'] W fun e w' => e = .returned (.bool (eqS p.keys q.keys)) ∧ W.grownBy w' none) := fun W hW => equalS_any a a' _ _ W (ha.kept hW) (ka.kept hW) hf.1
  have CB : Hid (∀ W, w.grownBy W none → Calls Try.prog 32 #[b, b'] W fun e w' => e = .returned (.bool (eqS p.vals q.vals)) ∧ W.grownBy w' none) := fun W hW => equalS_any b b' _ _ W (hb.kept hW) (kb.kept hW) hf.2.1
  have CC : Hid (∀ W, w.grownBy W none → Calls Try.prog 33 #[c, c'] W fun e w' => e = .returned (.bool (eqI p.kids q.kids)) ∧ W.grownBy w' none) := fun W hW => equalI_any c c' _ _ W (hc.kept hW) (kc.kept hW) hf.2.2
  obtain ⟨pa, ca, ga, oa, rfl, -, -⟩ := ha
  obtain ⟨pb, cb, gb, ob, rfl, -, -⟩ := hb
  obtain ⟨pc, cc, gc, oc, rfl, -, -⟩ := hc
  obtain ⟨pa', ca', ga', oa', rfl, -, -⟩ := ka
  obtain ⟨pb', cb', gb', ob', rfl, -, -⟩ := kb
  obtain ⟨pc', cc', gc', oc', rfl, -, -⟩ := kc
  have e : samePg p q = ((p.leaf == q.leaf) && (eqS p.keys q.keys && (eqS p.vals q.vals && eqI p.kids q.kids))) := rfl
  rw [e]
  clear e hf
  generalize eqS p.keys q.keys = x1 at *
  generalize eqS p.vals q.vals = x2 at *
  generalize eqI p.kids q.kids = x3 at *
  generalize p.keys.length = n1 at *
  generalize p.vals.length = n2 at *
  generalize p.kids.length = n3 at *
  generalize q.keys.length = m1 at *
  generalize q.vals.length = m2 at *
  generalize q.kids.length = m3 at *
  obtain ⟨x0, hx0⟩ : ∃ x, (p.leaf == q.leaf) = x := ⟨_, rfl⟩
  rw [hx0]
  generalize p.leaf = l at *
  generalize q.leaf = m at *
  have B1 : Hid (∀ W, ((w.alloc (.cells #[.bool l, .slice pa n1 ca, .slice pb n2 cb, .slice pc n3 cc] 25)).alloc (.cells #[.bool m, .slice pa' m1 ca', .slice pb' m2 cb', .slice pc' m3 cc'] 25)).grownBy W none → Blk W w.heap.size 25 #[.bool l, .slice pa n1 ca, .slice pb n2 cb, .slice pc n3 cc]) := fun W hW => ((Blk.new w 25 _).alloc _).kept hW (by simp)
  have B2 : Hid (∀ W, ((w.alloc (.cells #[.bool l, .slice pa n1 ca, .slice pb n2 cb, .slice pc n3 cc] 25)).alloc (.cells #[.bool m, .slice pa' m1 ca', .slice pb' m2 cb', .slice pc' m3 cc'] 25)).grownBy W none → Blk W (w.heap.size + 1) 25 #[.bool m, .slice pa' m1 ca', .slice pb' m2 cb', .slice pc' m3 cc']) := fun W hW => by
    have := Blk.new (w.alloc (.cells #[.bool l, .slice pa n1 ca, .slice pb n2 cb, .slice pc n3 cc] 25)) 25 #[.bool m, .slice pa' m1 ca', .slice pb' m2 cb', .slice pc' m3 cc']
    rw [show (w.alloc (.cells #[.bool l, .slice pa n1 ca, .slice pb n2 cb, .slice pc n3 cc] 25)).heap.size = w.heap.size + 1 by simp] at this
    exact this.kept hW (by simp)
  cases x0 with
  | false =>
    go_enter Try.func14, Try.ntmps14
    go_wp2
    go_ret
    exact ⟨rfl, grown_alloc (grown_alloc (grown_refl _ _) _) _⟩
  | true =>
    cases x1 with
    | false =>
      go_enter Try.func14, Try.ntmps14
      go_wp2_with (go_at_call 32; refine (CA.out _ (grown_alloc (grown_alloc (grown_refl _ _) _) _)).mono ?_; rintro e w1 ⟨rfl, hg⟩; have G1 : Hid (w.grownBy w1 none) := grown_none (grown_alloc (grown_alloc (grown_refl _ _) _) _) hg; clear CA hg)
      go_ret
      exact ⟨rfl, G1.out⟩
    | true =>
      cases x2 with
      | false =>
        go_enter Try.func14, Try.ntmps14
        go_wp2_with (first
          | (go_at_call 32; refine calls_with (args := #[.slice pa n1 ca, .slice pa' m1 ca']) rfl ?_; refine (CA.out _ (grown_alloc (grown_alloc (grown_refl _ _) _) _)).mono ?_; rintro e w1 ⟨rfl, hg⟩; have G1 : Hid (w.grownBy w1 none) := grown_none (grown_alloc (grown_alloc (grown_refl _ _) _) _) hg; have GX := hid hg; have q2 := (B1.out _ hg).cell 2; have r2 := (B2.out _ hg).cell 2; simp at q2 r2; clear CA hg)
          | (go_at_call 32; refine (CB.out _ G1.out).mono ?_; rintro e w2 ⟨rfl, hg⟩; have G2 : Hid (w.grownBy w2 none) := grown_none G1.out hg; clear hg CB))
        go_ret
        exact ⟨rfl, G2.out⟩
      | true =>
        cases x3
        all_goals
          go_enter Try.func14, Try.ntmps14
          go_wp2_with (first
            | (go_at_call 32; refine calls_with (args := #[.slice pa n1 ca, .slice pa' m1 ca']) rfl ?_; refine (CA.out _ (grown_alloc (grown_alloc (grown_refl _ _) _) _)).mono ?_; rintro e w1 ⟨rfl, hg⟩; have G1 : Hid (w.grownBy w1 none) := grown_none (grown_alloc (grown_alloc (grown_refl _ _) _) _) hg; have GX := hid hg; have q2 := (B1.out _ hg).cell 2; have r2 := (B2.out _ hg).cell 2; simp at q2 r2; clear CA hg)
            | (go_at_call 32; refine (CB.out _ G1.out).mono ?_; rintro e w2 ⟨rfl, hg⟩; have G2 : Hid (w.grownBy w2 none) := grown_none G1.out hg; have q3 := (B1.out _ (grown_none GX.out hg)).cell 3; have r3 := (B2.out _ (grown_none GX.out hg)).cell 3; simp at q3 r3; clear hg CB)
            | (go_at_call 33; refine (CC.out _ G2.out).mono ?_; rintro e w3 ⟨rfl, hg⟩; have G3 : Hid (w.grownBy w3 none) := grown_none G2.out hg; clear hg CC))
          go_ret
          exact ⟨rfl, G3.out⟩
end Go.Proofs.Ytomknaendicpkaa
