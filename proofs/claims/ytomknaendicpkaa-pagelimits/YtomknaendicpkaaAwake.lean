/-
  A leaf there and back: what every statement of the layer asks first.
-/
import Derived.Test.YtomknaendicpkaaDecode
namespace Go.Proofs.Ytomknaendicpkaa
open Go.RowKit
def p0 : Pg := ⟨true, [⟨#[97]⟩], [⟨#[49]⟩], []⟩
def s0 : ByteArray := ⟨(encL p0).toArray⟩
theorem p0_may : mayP p0 = true := by decide +kernel
theorem s0_err : decE s0 = 0 := by decide +kernel
theorem s0_leaf : (decP s0).leaf = true := by decide +kernel
theorem s0_keys : (decP s0).keys.length = 1 := by decide +kernel
theorem s0_vals : (decP s0).vals.map (fun s => s.data.toList) = [[49]] := by decide +kernel
theorem s0_size : (s0.size : Int) ≤ 9223372036854775807 := by decide +kernel
theorem s0_val : (decP s0).vals = [⟨#[49]⟩] := by
  have inj : ∀ a b : ByteArray, a.data.toList = b.data.toList → a = b := fun a b h => toList_inj (by rw [ByteArray.toList_eq, ByteArray.toList_eq]; exact h)
  exact (List.map_inj_right (fun a b => inj a b)).mp (s0_vals.trans rfl)
theorem row_one (w : World) (t : TypeId) (s : ByteArray) : RowV Value.string (w.alloc (.cells #[.string s] t)) (.slice (some ⟨w.heap.size, 0, none⟩) 1 1) [s] := by
  refine ⟨_, 1, w.heap.size, 0, rfl, fun _ => rfl, fun i hi => ?_⟩
  have : i = 0 := by simp at hi; exact hi
  subst this
  rw [(Blk.new w t _).cell]
  rfl
set_option maxRecDepth 100000 in
set_option maxHeartbeats 1000000 in
theorem awake_any (w : World) : Calls Try.prog 10 #[] w fun e w' => e = .returned (.bool true) ∧ w.grownBy w' none := by
  have HV : Hid (PgV ((w.alloc (.cells #[.string ⟨#[97]⟩] 9)).alloc (.cells #[.string ⟨#[49]⟩] 9)) (.agg #[.bool true, .slice (some ⟨w.heap.size, 0, none⟩) 1 1, .slice (some ⟨w.heap.size + 1, 0, none⟩) 1 1, .slice none 0 0]) p0) := by
    refine ⟨_, _, _, rfl, (row_one w 9 _).kept (grown_alloc (grown_refl _ _) _), ?_, RowV.nil _ _⟩
    have := row_one (w.alloc (.cells #[.string ⟨#[97]⟩] 9)) 9 ⟨#[49]⟩
    rw [show (w.alloc (.cells #[.string ⟨#[97]⟩] 9)).heap.size = w.heap.size + 1 by simp] at this
    exact this
  have CE : Hid (Calls Try.prog 7 #[.agg #[.bool true, .slice (some ⟨w.heap.size, 0, none⟩) 1 1, .slice (some ⟨w.heap.size + 1, 0, none⟩) 1 1, .slice none 0 0]] ((w.alloc (.cells #[.string ⟨#[97]⟩] 9)).alloc (.cells #[.string ⟨#[49]⟩] 9)) fun e w' => e = .returned (.tuple #[.string s0, .int .i64 0]) ∧ ((w.alloc (.cells #[.string ⟨#[97]⟩] 9)).alloc (.cells #[.string ⟨#[49]⟩] 9)).grownBy w' none) := encode_ok _ p0 _ HV.out (by refine ⟨?_, ?_, ?_⟩ <;> decide) p0_may
  have CD : Hid (∀ W, Calls Try.prog 12 #[.string s0] W (DecPost W (decP s0) 0)) := fun W => by
    have := decode_any s0 W s0_size
    rwa [s0_err] at this
  have hl := s0_leaf
  have hk := s0_keys
  have hv := s0_val
  generalize decP s0 = q at *
  obtain ⟨lf, ks, vs, kd⟩ := q
  simp only at hl hk hv
  subst hl; subst hv
  generalize s0 = S at *
  clear HV
  go_enter Try.func10, Try.ntmps10
  go_wp2_with (first
    | (go_at_call 7; refine CE.out.mono ?_; rintro e w1 ⟨rfl, hg⟩; have G1 : Hid (w.grownBy w1 none) := grown_none (grown_alloc (grown_alloc (grown_refl _ _) _) _) hg; clear hg CE)
    | (go_at_call 12; refine (CD.out _).mono ?_; rintro e w2 ⟨v, rfl, hpg, hg⟩; have G2 : Hid (w.grownBy w2 none) := grown_none G1.out hg; obtain ⟨a1, a2, a3, rfl, o1, o2, o3⟩ := hpg; rw [hk] at o1; obtain ⟨pa, ca, rfl⟩ := owns_slice o1; obtain ⟨pb, cb, g, o, rfl, hp, hc⟩ := RowV.owns o2; have hp' := hp (by show 0 < 1; decide); subst hp'; have c1 : ∀ (x : Obj), (w2.alloc x).cell? ⟨g, o, none⟩ = some (.string ⟨#[49]⟩) := (fun x => cell_kept (grown_alloc (grown_refl _ _) _) (hc 0 (by show 0 < 1; decide))); obtain ⟨pc, cc, rfl⟩ := owns_slice o3; clear CD hg G1 o1 o2 o3 hp hc))
  go_ret
  exact ⟨rfl, grown_alloc G2.out _⟩
end Go.Proofs.Ytomknaendicpkaa
