/-
  Print: a declaration. Print: the knot; a tree's text.
-/
import Derived.Test.YtajoncmmdeahnaaGreatDoorKRj
import Derived.Deep.RegionWith
namespace Go.Proofs.YtajoncmmdeahnaaGreatDoor.Pt
open Go.RowKit
theorem ks_take {w : World} {P : Nat → Prop} {p : Option Addr} {cap m : Nat} {ks : List Nd} (h : KsV w P (.slice p ks.length cap) ks) (h0 : 0 < m) (hm : m ≤ ks.length) : KsV w P (.slice p m cap) (ks.take m) := by
  obtain ⟨g, hs, hr⟩ := h
  have hl : (ks.take m).length = m := by rw [List.length_take]; omega
  refine ⟨g, ?_, ?_⟩
  · rw [hl]
    rcases hs with ⟨_, h1⟩ | ⟨_, h2, c, h3, h4, h5⟩
    · omega
    · cases h3
      exact Or.inr ⟨h0, h2, cap, rfl, by omega, h5⟩
  · refine RowN.of (fun i hi => ?_)
    have h1 := hr.at i (by rw [hl] at hi; omega)
    rw [List.getElem_take]
    exact h1
theorem St.drewn {w w1 : World} {b B : Nat} {l : List UInt8} {x : Nd} {q : Value} (h : St w w1 b B l x q) : St w w1.drew b B l x q := by
  have hg : w1.grownBy w1.drew none := grown_drew (grown_refl _ _)
  exact ⟨h.prn.kept hg, h.ks.kept hg, h.box.kept hg (by simp), h.pb.trans (pb_none hg h.prn.lt)⟩
set_option maxRecDepth 100000 in
set_option maxHeartbeats 4000000 in
theorem dc1 (φ : Nd → Option (List UInt8)) (CN : PC 24 φ) (b : Nat) (ty n : Int) (s : ByteArray) (ks : List Nd) (c l : List UInt8) (p : Option Addr) (cap : Nat) (W : World) (hc : catT φ (fun _ => []) [10] 0 ks = some c) (hp : Prn W b l) (hk : KsV W (fun i => i < b) (.slice p ks.length cap) ks) (hn : ks.length ≤ 9223372036854775807) (hl : l.length + c.length ≤ 5000) : Calls Tryz.prog 46 #[.pointer (some ⟨b, 0, none⟩), .agg #[.int .i64 1, .int .i64 ty, .string s, .int .i64 n, .slice p ks.length cap]] W (SayP W b (l ++ c)) := by
  have S0 := hid (St.zero (x := Nd.mk 1 ty s n ks) hp hk)
  have ST : Hid (RwI φ (fun _ => []) [10] W b ks.length (.slice p ks.length cap) ks (l ++ c) 0 (W.alloc (.cells #[.int .i64 1, .int .i64 ty, .string s, .int .i64 n, .slice p ks.length cap] 27))) := ⟨_, c, S0.out.prn, S0.out.pb, S0.out.ks, rfl, by rw [List.drop_zero]; exact hc, rfl⟩
  clear hp hk S0 hc
  generalize ks.length = L at *
  go_enter Tryz.func46, Tryz.ntmps46
  go_wp2
  go_loopw [14] (fun i wr => ∃ j : Nat, j ≤ L ∧ i = .int .i64 j ∧ RwI φ (fun _ => []) [10] W b L (.slice p L cap) ks (l ++ c) j wr) (fun i _ => L - (intOf i).toNat)
  case atStart => exact ⟨0, Nat.zero_le _, rfl, ST.out⟩
  case round =>
    obtain ⟨j, hj, rfl, hI⟩ := hrel
    have j0 : (0 : Int) ≤ j := by omega
    clear ST
    by_cases hlt : j < L
    · have j1 : (j : Int) < L := by omega
      obtain ⟨y, l1, t, u, g, py, cy, rfl, hp, hb, hk, ht, hT, hu, hL, c0, c1, c2, c3, c4, hky⟩ := hI.next hlt
      have HT := hid hT
      have HU := hid hu
      have HL := hid hL
      have HB := hid hb
      have HK := hid hk
      have S0 := hid (St.zero (w := wr) (x := y) hp hky)
      have hlen := congrArg List.length hT
      simp only [List.length_append, List.length_cons, List.length_nil] at hlen
      have C1 : Hid (Calls Tryz.prog 24 #[.pointer (some ⟨b, 0, none⟩), .agg #[.int .i64 y.kind, .int .i64 y.ty, .string y.txt, .int .i64 y.num, .slice py y.kids.length cy]] (wr.alloc (.cells #[.int .i64 y.kind, .int .i64 y.ty, .string y.txt, .int .i64 y.num, .slice py y.kids.length cy] 27)) (StP wr b wr.heap.size (l1 ++ t) y (.slice py y.kids.length cy))) := S0.out.sub CN ht S0.out.self (by simp at hlen ⊢; omega)
      have C2 : Hid (∀ V, St wr V b wr.heap.size (l1 ++ t) y (.slice py y.kids.length cy) → Calls Tryz.prog 83 #[.pointer (some ⟨b, 0, none⟩), .slice (some ⟨V.heap.size, 0, none⟩) 1 1] (V.alloc (.cells #[.string ⟨#[10]⟩] 9)) (StP wr b wr.heap.size (l1 ++ t ++ [10]) y (.slice py y.kids.length cy))) := fun V h => h.text1 ⟨#[10]⟩ (by simp at hlen ⊢; omega)
      clear S0
      clear hI hT hu hb hk hp hky ht hlen hL
      generalize y.kids.length = ly at *
      generalize y.kind = yk at *
      generalize y.ty = yt at *
      generalize y.txt = ys at *
      generalize y.num = yn at *
      go_wp2_with (first
        | (go_at_call 24; refine C1.out.mono ?_; clear C1; rintro e w1 ⟨rfl, hs⟩; have S1 := hid hs; clear hs)
        | (go_at_call 83; refine (C2.out _ S1.out).mono ?_; clear C2 S1; rintro e w2 ⟨rfl, hs⟩; have S2 := hid hs; clear hs))
      go_roundw
      case rel => exact ⟨j + 1, by omega, by go_num, _, u, S2.out.prn, HB.out.trans S2.out.pb, ks_below HK.out S2.out.pb.bel, HL.out, HU.out, by rw [← HT.out]; simp [List.append_assoc]⟩
      case measure => simp [intOf]; omega
    · have hjL : j = L := by omega
      subst hjL
      have j1 : ¬ (j : Int) < j := by omega
      obtain ⟨hp, hb⟩ := hI.done
      have HP := hid hp
      have HB := hid hb
      clear hI hp hb
      go_wp2
      go_end0
      exact ⟨rfl, HP.out, HB.out⟩
set_option maxRecDepth 100000 in
set_option maxHeartbeats 4000000 in
theorem dc5 (b : Nat) (ty n : Int) (s : ByteArray) (ks : List Nd) (l : List UInt8) (p : Option Addr) (cap : Nat) (W : World) (hp : Prn W b l) (hk : KsV W (fun i => i < b) (.slice p ks.length cap) ks) (hl : l.length + (s.data.toList ++ ([32] ++ tyW ty)).length ≤ 5000) : Calls Tryz.prog 46 #[.pointer (some ⟨b, 0, none⟩), .agg #[.int .i64 5, .int .i64 ty, .string s, .int .i64 n, .slice p ks.length cap]] W (SayP W b (l ++ (s.data.toList ++ ([32] ++ tyW ty)))) := by
  have S0 : Hid (St W (W.alloc (.cells #[.int .i64 5, .int .i64 ty, .string s, .int .i64 n, .slice p ks.length cap] 27)) b W.heap.size l (Nd.mk 5 ty s n ks) (.slice p ks.length cap)) := hid (St.zero (x := Nd.mk 5 ty s n ks) hp hk)
  have CT := hid (tyname_any ty)
  have DR : Hid (St W (W.alloc (.cells #[.int .i64 5, .int .i64 ty, .string s, .int .i64 n, .slice p ks.length cap] 27)).drew b W.heap.size l (Nd.mk 5 ty s n ks) (.slice p ks.length cap)) := hid (St.drewn (x := Nd.mk 5 ty s n ks) S0.out)
  have C1 : Hid (Calls Tryz.prog 83 #[.pointer (some ⟨b, 0, none⟩), .slice (some ⟨W.heap.size + 1, 0, none⟩) 3 3] ((W.alloc (.cells #[.int .i64 5, .int .i64 ty, .string s, .int .i64 n, .slice p ks.length cap] 27)).drew.alloc (.cells #[.string s, .string ⟨#[32]⟩, .string ⟨(tyW ty).toArray⟩] 9)) (StP W b W.heap.size (l ++ (s.data.toList ++ ([32] ++ tyW ty))) (Nd.mk 5 ty s n ks) (.slice p ks.length cap))) := by
    have h1 := DR.out.text3 s ⟨#[32]⟩ ⟨(tyW ty).toArray⟩ (by simp at hl ⊢; omega)
    have e : (W.alloc (.cells #[.int .i64 5, .int .i64 ty, .string s, .int .i64 n, .slice p ks.length cap] 27)).drew.heap.size = W.heap.size + 1 := World.size_alloc ..
    rw [e] at h1
    exact h1
  have FN : Hid (∀ e w2, StP W b W.heap.size (l ++ (s.data.toList ++ ([32] ++ tyW ty))) (Nd.mk 5 ty s n ks) (.slice p ks.length cap) e w2 → e = .returned (.tuple #[]) ∧ Prn w2 b (l ++ (s.data.toList ++ ([32] ++ tyW ty))) ∧ PB b W w2) := fun e w2 h => ⟨h.1, h.2.prn, h.2.pb⟩
  clear hp hk S0 DR
  go_enter Tryz.func46, Tryz.ntmps46
  go_wp2_with (go_region_with (first
    | (go_at_call 84; refine (CT.out _).mono ?_; rintro e w1 ⟨rfl, hw⟩; replace hw := hw.symm; subst hw)
    | (go_at_call 83; refine C1.out.mono ?_; rintro e w2 h2; obtain ⟨rfl, hp2, hb2⟩ := FN.out _ _ h2; clear h2)))
  all_goals go_end0
  all_goals exact ⟨rfl, hp2, hb2⟩
set_option maxRecDepth 100000 in
set_option maxHeartbeats 4000000 in
theorem dc3 (φ : Nd → Option (List UInt8)) (CN : PC 24 φ) (KA : KC φ) (b : Nat) (ty n : Int) (s : ByteArray) (ks : List Nd) (c t l : List UInt8) (p : Option Addr) (cap : Nat) (W : World) (h2 : 2 ≤ ks.length) (hc : catT φ coma [] 0 (ks.take (ks.length - 1)) = some c) (ht : φ (ks[ks.length - 1]'(by omega)) = some t) (hp : Prn W b l) (hk : KsV W (fun i => i < b) (.slice p ks.length cap) ks) (hn : ks.length ≤ 9223372036854775807) (hl : l.length + ([102, 117, 110, 99, 32] ++ (s.data.toList ++ [40]) ++ c ++ ([41, 32] ++ (tyW ty ++ [32])) ++ t).length ≤ 5000) : Calls Tryz.prog 46 #[.pointer (some ⟨b, 0, none⟩), .agg #[.int .i64 3, .int .i64 ty, .string s, .int .i64 n, .slice p ks.length cap]] W (SayP W b (l ++ ([102, 117, 110, 99, 32] ++ (s.data.toList ++ [40]) ++ c ++ ([41, 32] ++ (tyW ty ++ [32])) ++ t))) := by
  have hz := bytes_len s
  have hlen : l.length + (5 + (s.data.toList.length + 1) + c.length + (2 + ((tyW ty).length + 1)) + t.length) ≤ 5000 := by simp at hl ⊢; omega
  have S0 : Hid (St W (W.alloc (.cells #[.int .i64 3, .int .i64 ty, .string s, .int .i64 n, .slice p ks.length cap] 27)) b W.heap.size l (Nd.mk 3 ty s n ks) (.slice p ks.length cap)) := hid (St.zero (x := Nd.mk 3 ty s n ks) hp hk)
  have CT := hid (tyname_any ty)
  have C1 : Hid (Calls Tryz.prog 83 #[.pointer (some ⟨b, 0, none⟩), .slice (some ⟨W.heap.size + 1, 0, none⟩) 3 3] ((W.alloc (.cells #[.int .i64 3, .int .i64 ty, .string s, .int .i64 n, .slice p ks.length cap] 27)).alloc (.cells #[.string ⟨#[102, 117, 110, 99, 32]⟩, .string s, .string ⟨#[40]⟩] 9)) (StP W b W.heap.size (l ++ ([102, 117, 110, 99, 32] ++ (s.data.toList ++ [40]))) (Nd.mk 3 ty s n ks) (.slice p ks.length cap))) := by
    have h1 := S0.out.text3 ⟨#[102, 117, 110, 99, 32]⟩ s ⟨#[40]⟩ (by simp; omega)
    rw [World.size_alloc] at h1
    exact h1
  have C2 : Hid (∀ V, St W V b W.heap.size (l ++ ([102, 117, 110, 99, 32] ++ (s.data.toList ++ [40]))) (Nd.mk 3 ty s n ks) (.slice p ks.length cap) → Calls Tryz.prog 86 #[.pointer (some ⟨b, 0, none⟩), .slice p (ks.length - 1) cap] V (StP W b W.heap.size (l ++ ([102, 117, 110, 99, 32] ++ (s.data.toList ++ [40])) ++ c) (Nd.mk 3 ty s n ks) (.slice p ks.length cap))) := fun V h => by
    have hk2 := ks_take (m := ks.length - 1) h.ks (by show 0 < ks.length - 1; omega) (by show ks.length - 1 ≤ ks.length; omega)
    have hl2 : (ks.take (ks.length - 1)).length = ks.length - 1 := by rw [List.length_take]; omega
    have h1 := list_any φ CN b (ks.take (ks.length - 1)) c _ p cap V hc h.prn (by rw [hl2]; exact hk2) (by omega) (by simp; omega)
    rw [hl2] at h1
    refine h1.mono ?_
    rintro e w2 ⟨rfl, hp, hb⟩
    exact ⟨rfl, h.say hp hb⟩
  have C3 : Hid (∀ V, St W V b W.heap.size (l ++ ([102, 117, 110, 99, 32] ++ (s.data.toList ++ [40])) ++ c) (Nd.mk 3 ty s n ks) (.slice p ks.length cap) → Calls Tryz.prog 83 #[.pointer (some ⟨b, 0, none⟩), .slice (some ⟨V.heap.size, 0, none⟩) 3 3] (V.alloc (.cells #[.string ⟨#[41, 32]⟩, .string ⟨(tyW ty).toArray⟩, .string ⟨#[32]⟩] 9)) (StP W b W.heap.size (l ++ ([102, 117, 110, 99, 32] ++ (s.data.toList ++ [40])) ++ c ++ ([41, 32] ++ (tyW ty ++ [32]))) (Nd.mk 3 ty s n ks) (.slice p ks.length cap))) := fun V h => h.text3 ⟨#[41, 32]⟩ ⟨(tyW ty).toArray⟩ ⟨#[32]⟩ (by simp; omega)
  have C4 : Hid (∀ V, St W V b W.heap.size (l ++ ([102, 117, 110, 99, 32] ++ (s.data.toList ++ [40])) ++ c ++ ([41, 32] ++ (tyW ty ++ [32]))) (Nd.mk 3 ty s n ks) (.slice p ks.length cap) → Calls Tryz.prog 85 #[.pointer (some ⟨b, 0, none⟩), .agg #[.int .i64 3, .int .i64 ty, .string s, .int .i64 n, .slice p ks.length cap], .int .i64 (ks.length - 1 : Nat)] V (StP W b W.heap.size (l ++ ([102, 117, 110, 99, 32] ++ (s.data.toList ++ [40])) ++ c ++ ([41, 32] ++ (tyW ty ++ [32])) ++ t) (Nd.mk 3 ty s n ks) (.slice p ks.length cap))) := fun V h => (KA b (ks.length - 1) (Nd.mk 3 ty s n ks) t _ _ V (by show ks.length - 1 < ks.length; omega) ht h.prn h.self (by simp; omega)).mono (by rintro e w2 ⟨rfl, hp, hb⟩; exact ⟨rfl, h.say hp hb⟩)
  have CC : Hid (∀ V l', St W V b W.heap.size l' (Nd.mk 3 ty s n ks) (.slice p ks.length cap) → V.cell? ⟨W.heap.size, 0, none⟩ = some (.int .i64 3) ∧ V.cell? ⟨W.heap.size, 1, none⟩ = some (.int .i64 ty) ∧ V.cell? ⟨W.heap.size, 2, none⟩ = some (.string s) ∧ V.cell? ⟨W.heap.size, 3, none⟩ = some (.int .i64 n) ∧ V.cell? ⟨W.heap.size, 4, none⟩ = some (.slice p ks.length cap)) := fun V l' h => h.cells
  obtain ⟨g, hg⟩ : ∃ g, p = some ⟨g, 0, none⟩ := by
    obtain ⟨g, h1, _⟩ := hk.at 0 (by omega)
    exact ⟨g, h1⟩
  have hca : ks.length ≤ cap := by
    obtain ⟨_, c', e, h, _⟩ := hk.form
    cases e
    exact h
  subst hg
  clear hp hk S0 hc ht KA CN
  generalize ks.length = L at *
  obtain ⟨m, rfl⟩ : ∃ m, L = m + 1 := ⟨L - 1, by omega⟩
  simp only [Nat.add_sub_cancel] at C2 C4
  go_enter Tryz.func46, Tryz.ntmps46
  go_wp2_with (first
    | (go_at_call 83; refine C1.out.mono ?_; clear C1; rintro e w1 ⟨rfl, hs⟩; have S1 := hid hs; obtain ⟨z0, z1, z2, z3, z4⟩ := CC.out _ _ hs; clear hs)
    | (go_at_call 86; refine (C2.out _ S1.out).mono ?_; clear C2 S1; rintro e w2 ⟨rfl, hs⟩; have S2 := hid hs; clear z0 z1 z2 z3 z4; obtain ⟨z0, z1, z2, z3, z4⟩ := CC.out _ _ hs; clear hs)
    | (go_at_call 84; refine (CT.out _).mono ?_; clear CT; rintro e w1 ⟨rfl, hw⟩; replace hw := hw.symm; subst hw)
    | (go_at_call 83; refine (C3.out _ S2.out).mono ?_; clear C3 S2; rintro e w3 ⟨rfl, hs⟩; have S3 := hid hs; clear z0 z1 z2 z3 z4; obtain ⟨z0, z1, z2, z3, z4⟩ := CC.out _ _ hs; clear hs)
    | (go_at_call 85; refine (C4.out _ S3.out).mono ?_; clear C4 S3; rintro e w4 ⟨rfl, hs⟩; have S4 := hid hs; clear hs z0 z1 z2 z3 z4))
  go_end0
  refine ⟨rfl, ?_, S4.out.pb⟩
  have h := S4.out.prn
  simpa [List.append_assoc] using h
end Go.Proofs.YtajoncmmdeahnaaGreatDoor.Pt
namespace Go.Proofs.YtajoncmmdeahnaaGreatDoor.Pt
open Go.RowKit
def fnT (φ : Nd → Option (List UInt8)) (ty : Int) (s : ByteArray) (ks : List Nd) : Option (List UInt8) :=
  if h : 2 ≤ ks.length then (catT φ coma [] 0 (ks.take (ks.length - 1))).bind fun c => (φ (ks[ks.length - 1]'(by omega))).map fun t => [102, 117, 110, 99, 32] ++ (s.data.toList ++ [40]) ++ c ++ ([41, 32] ++ (tyW ty ++ [32])) ++ t else none
def dcT (φ : Nd → Option (List UInt8)) (x : Nd) : Option (List UInt8) :=
  if x.kind = 1 then catT φ (fun _ => []) [10] 0 x.kids else if x.kind = 3 then fnT φ x.ty x.txt x.kids else if x.kind = 5 then some (x.txt.data.toList ++ ([32] ++ tyW x.ty)) else none
theorem decl_any (φ : Nd → Option (List UInt8)) (CN : PC 24 φ) (KA : KC φ) : PC 46 (dcT φ) := by
  rintro b ⟨k, ty, s, n, ks⟩ t l v W ht0 hp ⟨q, rfl, hk⟩ hl
  have hk : KsV W (fun i => i < b) q ks := hk
  obtain ⟨p, cap, rfl, hle, hcap, _⟩ := hk.form
  have hn : ks.length ≤ 9223372036854775807 := by have : ks.length ≤ cap := hle; unfold maxLen at hcap; omega
  have ht : (if k = 1 then catT φ (fun _ => []) [10] 0 ks else if k = 3 then fnT φ ty s ks else if k = 5 then some (s.data.toList ++ ([32] ++ tyW ty)) else none) = some t := ht0
  clear ht0
  split at ht
  · rename_i e; subst e
    exact dc1 φ CN b ty n s ks t l p cap W ht hp hk hn hl
  split at ht
  · rename_i e; subst e
    unfold fnT at ht
    split at ht
    · rename_i h2
      obtain ⟨c, hc, ht⟩ := Option.bind_eq_some_iff.1 ht
      obtain ⟨u, hu, rfl⟩ := Option.map_eq_some_iff.1 ht
      exact dc3 φ CN KA b ty n s ks c u l p cap W h2 hc hu hp hk hn hl
    · cases ht
  split at ht
  · rename_i e; subst e; cases ht
    exact dc5 b ty n s ks l p cap W hp hk hl
  · cases ht
def noT (φ : Nd → Option (List UInt8)) (x : Nd) : Option (List UInt8) := if x.kind < 6 then dcT φ x else if x.kind < 20 then stT φ x else exT φ x
set_option maxRecDepth 100000 in
set_option maxHeartbeats 1000000 in
theorem node_any (φ : Nd → Option (List UInt8)) (CD : PC 46 (dcT φ)) (CS : PC 47 (stT φ)) (CX : PC 48 (exT φ)) : PC 24 (noT φ) := by
  rintro b x t l v W ht hp ⟨q, rfl, hk⟩ hl
  obtain ⟨p, cap, rfl, _⟩ := hk.form
  have S0 := hid (St.zero (x := x) hp hk)
  unfold noT at ht
  by_cases h1 : x.kind < 6
  · rw [if_pos h1] at ht
    have C1 := hid (S0.out.sub CD ht S0.out.self hl)
    clear hp hk S0 CD CS CX ht
    generalize x.kids.length = L at *
    generalize x.kind = k at *
    go_enter Tryz.func24, Tryz.ntmps24
    go_wp2_with (go_at_call 46; refine C1.out.mono ?_; clear C1; rintro e w2 ⟨rfl, hs⟩; have S2 := hid hs; clear hs)
    go_end0
    exact ⟨rfl, S2.out.prn, S2.out.pb⟩
  · rw [if_neg h1] at ht
    by_cases h2 : x.kind < 20
    · rw [if_pos h2] at ht
      have C1 := hid (S0.out.sub CS ht S0.out.self hl)
      clear hp hk S0 CD CS CX ht
      generalize x.kids.length = L at *
      generalize x.kind = k at *
      go_enter Tryz.func24, Tryz.ntmps24
      go_wp2_with (go_at_call 47; refine C1.out.mono ?_; clear C1; rintro e w2 ⟨rfl, hs⟩; have S2 := hid hs; clear hs)
      go_end0
      exact ⟨rfl, S2.out.prn, S2.out.pb⟩
    · rw [if_neg h2] at ht
      have C1 := hid (S0.out.sub CX ht S0.out.self hl)
      clear hp hk S0 CD CS CX ht
      generalize x.kids.length = L at *
      generalize x.kind = k at *
      go_enter Tryz.func24, Tryz.ntmps24
      go_wp2_with (go_at_call 48; refine C1.out.mono ?_; clear C1; rintro e w2 ⟨rfl, hs⟩; have S2 := hid hs; clear hs)
      go_end0
      exact ⟨rfl, S2.out.prn, S2.out.pb⟩
def prF : Nat → Nd → Option (List UInt8)
  | 0, _ => none
  | k + 1, x => noT (prF k) x
theorem print_knot : ∀ k, PC 24 (prF k)
  | 0 => fun b x t l v W h => by cases h
  | k + 1 => by
    have CN := print_knot k
    have KA := kid_any (prF k) CN
    exact node_any (prF k) (decl_any _ CN KA) (stmt_any _ CN KA) (expr_any _ KA)
set_option maxRecDepth 100000 in
set_option maxHeartbeats 1000000 in
theorem print_any (P : Nat → Prop) (k : Nat) (x : Nd) (t : List UInt8) (v : Value) (w : World) (ht : prF k x = some t) (h0 : t ≠ []) (hl : t.length ≤ 5000) (hv : NdV w P v x) : Calls Tryz.prog 12 #[v] w fun e w' => e = .returned (.string ⟨t.toArray⟩) ∧ w.grownBy w' none := by
  have hv := hv.mono (Q := fun i => i < w.heap.size + 1) (fun b _ h => by omega)
  obtain ⟨q, rfl, hk⟩ := hv
  obtain ⟨p, cap, rfl, _⟩ := hk.form
  have B1 := Blk.new (w.alloc (.cells #[.int .i64 x.kind, .int .i64 x.ty, .string x.txt, .int .i64 x.num, .slice p x.kids.length cap] 27)) 66 #[.pointer none, .slice none 0 0]
  rw [World.size_alloc] at B1
  have P0 : Prn ((w.alloc (.cells #[.int .i64 x.kind, .int .i64 x.ty, .string x.txt, .int .i64 x.num, .slice p x.kids.length cap] 27)).alloc (.cells #[.pointer none, .slice none 0 0] 66)) (w.heap.size + 1) [] := ⟨none, .slice none 0 0, B1, Or.inl rfl, World.ownsRow_nil _ _ _ _⟩
  have hk2 := (hk.kept (grown_alloc (grown_refl w none) (.cells #[.int .i64 x.kind, .int .i64 x.ty, .string x.txt, .int .i64 x.num, .slice p x.kids.length cap] 27))).kept (grown_alloc (grown_refl _ none) (.cells #[.pointer none, .slice none 0 0] 66))
  have CN := hid (print_knot k (w.heap.size + 1) x t [] _ _ ht P0 ⟨_, rfl, hk2⟩ (by simpa using hl))
  have GA : Hid (w.grownBy ((w.alloc (.cells #[.int .i64 x.kind, .int .i64 x.ty, .string x.txt, .int .i64 x.num, .slice p x.kids.length cap] 27)).alloc (.cells #[.pointer none, .slice none 0 0] 66)) none) := grown_alloc (grown_alloc (grown_refl w none) _) _
  have CS : Hid (∀ W, Prn W (w.heap.size + 1) t → Calls Tryz.prog 25 #[.pointer (some ⟨w.heap.size + 1, 0, none⟩)] W fun e w' => e = .returned (.string ⟨t.toArray⟩) ∧ Below (w.heap.size + 1) W w') := fun W hW => string_any (w.heap.size + 1) _ W hW h0
  rw [List.nil_append] at CN
  clear B1 P0 hk2 hk ht
  generalize x.kids.length = L at *
  generalize x.kind = kd at *
  go_enter Tryz.func12, Tryz.ntmps12
  go_wp2_with (first
    | (go_at_call 24; refine CN.out.mono ?_; clear CN; rintro e w1 ⟨rfl, hp, hb⟩; have P1 := hid hp; have G1 := hid (below_grown GA.out hb.bel (by omega)); clear hp hb)
    | (go_at_call 25; refine (CS.out _ P1.out).mono ?_; clear CS; rintro e w2 ⟨rfl, hb⟩; have G2 := hid (below_grown G1.out hb (by omega)); clear hb))
  go_ret
  exact ⟨rfl, G2.out⟩
end Go.Proofs.YtajoncmmdeahnaaGreatDoor.Pt
