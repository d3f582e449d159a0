/-
  The sort of sites. The sites that a map has, collected in any order.
-/
import Derived.Test.YtajoncmmdeahnaaGreatDoorJd
import Derived.Shelf.SlSortCmp.WholeK
import Derived.Maps.RangeWalk
namespace Go.Proofs.YtajoncmmdeahnaaGreatDoor
open Go.RowKit Go.Shelf Go.Lib Go.Sort
namespace Ip
def sortSt_ren : Ren := { f := fun n => if n = 6 then 62 else if n = 15 then 110 else if n = 14 then 109 else if n = 28 then 162 else if n = 29 then 143 else if n = 20 then 154 else if n = 21 then 155 else if n = 22 then 156 else if n = 23 then 157 else if n = 24 then 158 else if n = 25 then 159 else if n = 26 then 160 else if n = 27 then 161 else if n = 46 then 189 else if n = 47 then 190 else if n = 48 then 191 else if n = 49 then 192 else if n = 50 then 193 else if n = 57 then 225 else n, t := fun n => if n = 22 then 40 else if n = 24 then 118 else if n = 25 then 135 else if n = 3 then 3 else if n = 39 then 157 else if n = 0 then 0 else if n = 53 then 176 else if n = 55 then 147 else if n = 4 then 4 else if n = 46 then 185 else if n = 45 then 184 else if n = 50 then 94 else if n = 5 then 5 else if n = 9 then 9 else if n = 66 then 205 else if n = 70 then 209 else if n = 76 then 232 else if n = 77 then 84 else n, g := fun n => n }
set_option maxRecDepth 100000 in
theorem sortSt : SlLaysF0.n6 Tryz.prog sortSt_ren := by
  constructor
  case f6 => first | kernel_rfl | exact ⟨Tryz.f62.name, by kernel_rfl, by kernel_rfl⟩
  case f15 => first | kernel_rfl | exact ⟨Tryz.f110.name, by kernel_rfl, by kernel_rfl⟩
  case f14 => first | kernel_rfl | exact ⟨Tryz.f109.name, by kernel_rfl, by kernel_rfl⟩
  case f28 => first | kernel_rfl | exact ⟨Tryz.f162.name, by kernel_rfl, by kernel_rfl⟩
  case f29 => first | kernel_rfl | exact ⟨Tryz.f143.name, by kernel_rfl, by kernel_rfl⟩
  case f20 => first | kernel_rfl | exact ⟨Tryz.f154.name, by kernel_rfl, by kernel_rfl⟩
  case f21 => first | kernel_rfl | exact ⟨Tryz.f155.name, by kernel_rfl, by kernel_rfl⟩
  case f22 => first | kernel_rfl | exact ⟨Tryz.f156.name, by kernel_rfl, by kernel_rfl⟩
  case f23 => first | kernel_rfl | exact ⟨Tryz.f157.name, by kernel_rfl, by kernel_rfl⟩
  case f24 => first | kernel_rfl | exact ⟨Tryz.f158.name, by kernel_rfl, by kernel_rfl⟩
  case f25 => first | kernel_rfl | exact ⟨Tryz.f159.name, by kernel_rfl, by kernel_rfl⟩
  case f26 => first | kernel_rfl | exact ⟨Tryz.f160.name, by kernel_rfl, by kernel_rfl⟩
  case f27 => first | kernel_rfl | exact ⟨Tryz.f161.name, by kernel_rfl, by kernel_rfl⟩
  case f46 => first | kernel_rfl | exact ⟨Tryz.f189.name, by kernel_rfl, by kernel_rfl⟩
  case f47 => first | kernel_rfl | exact ⟨Tryz.f190.name, by kernel_rfl, by kernel_rfl⟩
  case f48 => first | kernel_rfl | exact ⟨Tryz.f191.name, by kernel_rfl, by kernel_rfl⟩
  case f49 => first | kernel_rfl | exact ⟨Tryz.f192.name, by kernel_rfl, by kernel_rfl⟩
  case f50 => first | kernel_rfl | exact ⟨Tryz.f193.name, by kernel_rfl, by kernel_rfl⟩
  case f57 => first | kernel_rfl | exact ⟨Tryz.f225.name, by kernel_rfl, by kernel_rfl⟩
  all_goals first | kernel_rfl | (intro w; kernel_rfl)
theorem cmpLays63 (blk off size : Nat) (w : World) : CmpLays Tryz.prog 63 #[] encSt 2 cfSt blk off size w :=
  fun _ _ _ _ x y => closure63 x y _
theorem sort_any (blk off cap : Nat) (d : Array (ByteArray × Int)) (w : World) (hH : HoldsK encSt 2 w blk off d) (hblk : blk < w.heap.size) (hsz : d.size < 4611686018427387904) :
    Calls Tryz.prog 62 #[.slice (some ⟨blk, off, none⟩) d.size cap, .func (.func 63) #[] #[]] w fun e w' => e = .returned (.tuple #[]) ∧ ∃ d' n os, PermIn 0 d.size d d' ∧ SortedIn (ltOf cfSt) 0 d.size d' ∧ w' = sortWorldK encSt 2 w blk off n d' os := by
  have eg : ∀ args w, (callFunc 63 args).run Tryz.prog w = .ok (.enter 63 args) w := enters_of Tryz.func63 (by kernel_rfl) rfl
  have hcon := AnyQ.slices_SortFunc sortSt 2 Tryz.isAgg118 Tryz.sizeOf118 encSt (fun _ => rfl) (fun x v hv => by simp [encSt] at hv; rcases hv with rfl | rfl <;> rfl) cfSt swo_st 63 #[] blk off cap d w eg (cmpLays63 blk off d.size w) hH hblk hsz
  exact hcon
end Ip
end Go.Proofs.YtajoncmmdeahnaaGreatDoor
namespace Go.Proofs.YtajoncmmdeahnaaGreatDoor
open Go.RowKit Go.Maps
namespace Ip
theorem lits9 {d : Nat} {a : Value} {ls : List Lit} (h : Tryz.prog.keyLits (d + 1) 9 [a] = some ls) : ∃ s : ByteArray, a = .string s ∧ s.size ≤ maxLen := by
  unfold Program.keyLits at h
  simp only [Tryz.underlying9] at h
  cases a <;> simp at h
  exact ⟨_, rfl, h.1⟩
theorem lits3 {d : Nat} {a : Value} {ls : List Lit} (h : Tryz.prog.keyLits (d + 1) 3 [a] = some ls) : ∃ n : Int, a = .int .i64 n ∧ (Lit.int .i64 n).wf = true := by
  unfold Program.keyLits at h
  simp only [Tryz.underlying3] at h
  cases a <;> simp at h
  obtain ⟨⟨rfl, hw⟩, _⟩ := h
  exact ⟨_, rfl, hw⟩
set_option maxRecDepth 100000 in
theorem key_inv {v : Value} {kl : Lit} (h : keyOf Tryz.prog 118 v = some kl) : ∃ p : ByteArray × Int, v = siteV p.1 p.2 ∧ Fits p.1 p.2 ∧ kl = keyS p.1 p.2 := by
  have h0 := h
  have h1 : Tryz.prog.keyType 118 = true := by kernel_rfl
  have c118 : Tryz.prog.cellsOf 118 = 2 := by kernel_rfl
  have c9 : Tryz.prog.cellsOf 9 = 1 := by kernel_rfl
  have c3 : Tryz.prog.cellsOf 3 = 1 := by kernel_rfl
  have h3 : Tryz.prog.types.size + 1 = 335 + 1 + 1 := by kernel_rfl
  unfold keyOf at h
  rw [Tryz.underlying118] at h
  simp only [h1, Bool.true_and] at h
  by_cases hf : v.formed Tryz.prog 118 = true
  · rw [if_pos hf] at h
    obtain ⟨ls, hl, _⟩ := Option.map_eq_some_iff.1 h
    cases v <;> (unfold Value.formed at hf; simp only [Tryz.underlying118] at hf; try cases hf)
    rename_i cs
    rw [c118] at hf
    obtain ⟨l⟩ := cs
    have hs : l.length = 2 := by simpa using hf
    match l, hs with
    | [a, b], _ =>
      rw [h3] at hl
      unfold Program.keyLits at hl
      simp only [Tryz.underlying118, Value.cells] at hl
      rw [c118, if_pos ⟨rfl, by simp⟩] at hl
      simp only [List.mapM_cons, List.mapM_nil, c9, c3] at hl
      obtain ⟨ls', hl', _⟩ := Option.map_eq_some_iff.1 hl
      simp only [Option.bind_eq_bind, Option.bind_eq_some_iff] at hl'
      obtain ⟨l1, e1, l2, ⟨l3, e2, _⟩, _⟩ := hl'
      obtain ⟨s, rfl, hs1⟩ := lits9 e1
      obtain ⟨n, rfl, hw⟩ := lits3 e2
      unfold Lit.wf at hw
      rw [Bool.and_eq_true] at hw
      have F : Fits s n := ⟨hs1, of_decide_eq_true hw.1, of_decide_eq_true hw.2⟩
      refine ⟨(s, n), rfl, F, ?_⟩
      have e := key_site F
      unfold siteV at e
      rw [e] at h0
      exact (Option.some.inj h0).symm
  · rw [if_neg hf] at h
    cases h
theorem same_key {p q : ByteArray × Int} (hp : Fits p.1 p.2) (hq : Fits q.1 q.2) : (keyS p.1 p.2).sameKey (keyS q.1 q.2) = decide (p = q) := by
  by_cases e : p = q
  · subst e
    rw [WideAt.sameKey_self (law118.key (key_site hp))]
    simp
  · rw [decide_eq_false e]
    cases h : (keyS p.1 p.2).sameKey (keyS q.1 q.2)
    · rfl
    · have h1 := key_of hq hp (WideAt.sameKey_eq h)
      exact absurd (Prod.ext h1.1 h1.2) e
structure Coll (D : DataW Value) (left : Lit → Bool) (ss : List (ByteArray × Int)) : Prop where
  nodup : ss.Nodup
  fits : ∀ p ∈ ss, Fits p.1 p.2
  mem : ∀ p : ByteArray × Int, Fits p.1 p.2 → (p ∈ ss ↔ (has D (keyS p.1 p.2) = true ∧ left (keyS p.1 p.2) = false))
theorem Coll.start (D : DataW Value) : Coll D (has D) [] := ⟨List.nodup_nil, fun p hp => (by simp at hp), fun p _ => by cases has D (keyS p.1 p.2) <;> simp⟩
theorem Coll.step {D : DataW Value} {left : Lit → Bool} {ss : List (ByteArray × Int)} (h : Coll D left ss) {p : ByteArray × Int} {y : DataW Value} (hp : Fits p.1 p.2) (hlk : left (keyS p.1 p.2) = true) (hat : ∀ zd, D.atKey (keyS p.1 p.2) zd = y) :
    Coll D (fun z => left z && !z.sameKey (keyS p.1 p.2)) (ss ++ [p]) := by
  have hhas : has D (keyS p.1 p.2) = true := has_true_of_atKey hat
  have hnew : p ∉ ss := fun hx => by have := ((h.mem p hp).1 hx).2; rw [hlk] at this; cases this
  refine ⟨List.nodup_append.2 ⟨h.nodup, by simp, fun a ha b hb => by simp at hb; subst hb; exact fun e => hnew (e ▸ ha)⟩, fun q hq => ?_, fun q hq => ?_⟩
  · rcases List.mem_append.1 hq with h1 | h1
    · exact h.fits q h1
    · rw [List.mem_singleton.1 h1]; exact hp
  · rw [List.mem_append, List.mem_singleton, h.mem q hq, same_key hq hp]
    by_cases e : q = p
    · subst e; simp [hhas]
    · simp [e]
end Ip
end Go.Proofs.YtajoncmmdeahnaaGreatDoor
