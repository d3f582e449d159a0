/-
  Print: a block, a list. Print: a statement, a declaration, a node; the whole.
-/
import Derived.Test.YtajoncmmdeahnaaGreatDoorKRh
namespace Go.Proofs.YtajoncmmdeahnaaGreatDoor.Pt
open Go.RowKit
theorem Prn.text1 {V : World} {b : Nat} {l : List UInt8} (h : Prn V b l) (s : ByteArray) (hl : l.length + s.data.toList.length ≤ 5000) : Calls Tryz.prog 83 #[.pointer (some ⟨b, 0, none⟩), .slice (some ⟨V.heap.size, 0, none⟩) 1 1] (V.alloc (.cells #[.string s] 9)) (SayP V b (l ++ s.data.toList)) := by
  have h1 := say_any b l [s] V.heap.size 1 (V.alloc (.cells #[.string s] 9)) (h.kept (grown_alloc (grown_refl _ _) _)) (Blk.new V 9 _) (by simp [cat] at hl ⊢; omega) (by simp)
  have e : cat [s] = s.data.toList := by simp [cat]
  rw [e] at h1
  refine h1.mono ?_
  rintro e w2 ⟨rfl, hp, hb⟩
  exact ⟨rfl, hp, (pb_none (grown_alloc (grown_refl V none) _) h.lt).trans hb⟩
set_option maxRecDepth 100000 in
set_option maxHeartbeats 4000000 in
theorem block_any (φ : Nd → Option (List UInt8)) (CN : PC 24 φ) (b : Nat) (x : Nd) (c l : List UInt8) (v : Value) (W : World) (hc : catT φ (fun _ => [32]) [] 0 x.kids = some c) (hp : Prn W b l) (hv : NdV W (fun i => i < b) v x) (hl : l.length + ([123] ++ c ++ [32, 125]).length ≤ 5000) : Calls Tryz.prog 87 #[.pointer (some ⟨b, 0, none⟩), v] W (SayP W b (l ++ ([123] ++ c ++ [32, 125]))) := by
  obtain ⟨q, rfl, hk⟩ := hv
  obtain ⟨p, cap, rfl, hle, hcap, _⟩ := hk.form
  have hn : x.kids.length ≤ 9223372036854775807 := by unfold maxLen at hcap; omega
  have hlen0 : l.length + (1 + c.length + 2) ≤ 5000 := by simp at hl ⊢; omega
  have S0 := hid (St.zero (x := x) hp hk)
  have C1 : Hid (Calls Tryz.prog 83 #[.pointer (some ⟨b, 0, none⟩), .slice (some ⟨W.heap.size + 1, 0, none⟩) 1 1] ((W.alloc (.cells #[.int .i64 x.kind, .int .i64 x.ty, .string x.txt, .int .i64 x.num, .slice p x.kids.length cap] 27)).alloc (.cells #[.string ⟨#[123]⟩] 9)) (StP W b W.heap.size (l ++ [123]) x (.slice p x.kids.length cap))) := by
    have h1 := S0.out.text1 ⟨#[123]⟩ (by simp; omega)
    rw [World.size_alloc] at h1
    exact h1
  have ST : Hid (∀ V, St W V b W.heap.size (l ++ [123]) x (.slice p x.kids.length cap) → RwI φ (fun _ => [32]) [] W b x.kids.length (.slice p x.kids.length cap) x.kids (l ++ [123] ++ c) 0 V) := fun V h => ⟨_, c, h.prn, h.pb, h.ks, rfl, by rw [List.drop_zero]; exact hc, rfl⟩
  clear hp hk S0 hc
  generalize x.kids = ks at *
  generalize ks.length = L at *
  go_enter Tryz.func87, Tryz.ntmps87
  go_wp2_with (go_at_call 83; refine C1.out.mono ?_; clear C1; rintro e w1 ⟨rfl, hs⟩; have S1 := hid (ST.out _ hs); obtain ⟨z0, z1, z2, z3, z4⟩ := hs.cells; clear hs ST)
  go_loopw [12] (fun i wr => ∃ j : Nat, j ≤ L ∧ i = .int .i64 j ∧ RwI φ (fun _ => [32]) [] W b L (.slice p L cap) ks (l ++ [123] ++ c) j wr) (fun i _ => L - (intOf i).toNat)
  case atStart => exact ⟨0, Nat.zero_le _, rfl, S1.out⟩
  case round =>
    obtain ⟨j, hj, rfl, hI⟩ := hrel
    have j0 : (0 : Int) ≤ j := by omega
    clear z0 z1 z2 z3 z4 S1
    by_cases hlt : j < L
    · have j1 : (j : Int) < L := by omega
      obtain ⟨y, l1, t, u, g, py, cy, rfl, hp, hb, hk, ht, hT, hu, hL, c0, c1, c2, c3, c4, hky⟩ := hI.next hlt
      have HT := hid hT
      have HU := hid hu
      have HL := hid hL
      have HB := hid hb
      have HK := hid hk
      have S0 := hid (St.zero (w := wr) (x := y) hp hky)
      have hlen := congrArg List.length hT
      simp only [List.length_append, List.length_cons, List.length_nil] at hlen
      have C1 : Hid (Calls Tryz.prog 83 #[.pointer (some ⟨b, 0, none⟩), .slice (some ⟨wr.heap.size + 1, 0, none⟩) 1 1] ((wr.alloc (.cells #[.int .i64 y.kind, .int .i64 y.ty, .string y.txt, .int .i64 y.num, .slice py y.kids.length cy] 27)).alloc (.cells #[.string ⟨#[32]⟩] 9)) (StP wr b wr.heap.size (l1 ++ [32]) y (.slice py y.kids.length cy))) := by
        have h1 := S0.out.text1 ⟨#[32]⟩ (by simp; omega)
        rw [World.size_alloc] at h1
        exact h1
      have C2 : Hid (∀ V, St wr V b wr.heap.size (l1 ++ [32]) y (.slice py y.kids.length cy) → Calls Tryz.prog 24 #[.pointer (some ⟨b, 0, none⟩), .agg #[.int .i64 y.kind, .int .i64 y.ty, .string y.txt, .int .i64 y.num, .slice py y.kids.length cy]] V (StP wr b wr.heap.size (l1 ++ [32] ++ t) y (.slice py y.kids.length cy))) := fun V h => h.sub CN ht h.self (by simp; omega)
      have CC : Hid (∀ V, St wr V b wr.heap.size (l1 ++ [32]) y (.slice py y.kids.length cy) → V.cell? ⟨wr.heap.size, 0, none⟩ = some (.int .i64 y.kind) ∧ V.cell? ⟨wr.heap.size, 1, none⟩ = some (.int .i64 y.ty) ∧ V.cell? ⟨wr.heap.size, 2, none⟩ = some (.string y.txt) ∧ V.cell? ⟨wr.heap.size, 3, none⟩ = some (.int .i64 y.num) ∧ V.cell? ⟨wr.heap.size, 4, none⟩ = some (.slice py y.kids.length cy)) := fun V h => h.cells
      clear S0
      clear hI hT hu hb hk hp hky ht hlen hL
      generalize y.kids.length = ly at *
      generalize y.kind = yk at *
      generalize y.ty = yt at *
      generalize y.txt = ys at *
      generalize y.num = yn at *
      go_wp2_with (first
        | (go_at_call 83; refine C1.out.mono ?_; clear C1; rintro e w1 ⟨rfl, hs⟩; have S1 := hid hs; obtain ⟨z0, z1, z2, z3, z4⟩ := CC.out _ hs; clear hs)
        | (go_at_call 24; refine (C2.out _ S1.out).mono ?_; clear C2 S1; rintro e w2 ⟨rfl, hs⟩; have S2 := hid hs; clear hs z0 z1 z2 z3 z4))
      go_roundw
      case rel => exact ⟨j + 1, by omega, by go_num, _, u, S2.out.prn, HB.out.trans S2.out.pb, ks_below HK.out S2.out.pb.bel, HL.out, HU.out, by rw [← HT.out]; simp [List.append_assoc]⟩
      case measure => simp [intOf]; omega
    · have hjL : j = L := by omega
      subst hjL
      have j1 : ¬ (j : Int) < j := by omega
      obtain ⟨hp, hb⟩ := hI.done
      have HB := hid hb
      have C3 : Hid (Calls Tryz.prog 83 #[.pointer (some ⟨b, 0, none⟩), .slice (some ⟨wr.heap.size, 0, none⟩) 1 1] (wr.alloc (.cells #[.string ⟨#[32, 125]⟩] 9)) (SayP wr b (l ++ [123] ++ c ++ [32, 125]))) := Prn.text1 hp ⟨#[32, 125]⟩ (by simp; omega)
      clear hI hp hb
      go_wp2_with (go_at_call 83; refine C3.out.mono ?_; clear C3; rintro e w2 ⟨rfl, hp2, hb2⟩; have P2 := hid hp2; have B2 := hid (HB.out.trans hb2); clear hp2 hb2)
      go_end0
      refine ⟨rfl, ?_, B2.out⟩
      have h := P2.out
      simpa [List.append_assoc] using h
def coma (i : Nat) : List UInt8 := if i = 0 then [] else [44, 32]
set_option maxRecDepth 100000 in
set_option maxHeartbeats 4000000 in
theorem list_any (φ : Nd → Option (List UInt8)) (CN : PC 24 φ) (b : Nat) (ks : List Nd) (c l : List UInt8) (p : Option Addr) (cap : Nat) (W : World) (hc : catT φ coma [] 0 ks = some c) (hp : Prn W b l) (hk : KsV W (fun i => i < b) (.slice p ks.length cap) ks) (hn : ks.length ≤ 9223372036854775807) (hl : l.length + c.length ≤ 5000) : Calls Tryz.prog 86 #[.pointer (some ⟨b, 0, none⟩), .slice p ks.length cap] W (SayP W b (l ++ c)) := by
  have ST : Hid (RwI φ coma [] W b ks.length (.slice p ks.length cap) ks (l ++ c) 0 W) := ⟨_, c, hp, pb_none (grown_refl _ _) hp.lt, hk, rfl, by rw [List.drop_zero]; exact hc, rfl⟩
  clear hp hk hc
  generalize ks.length = L at *
  go_enter Tryz.func86, Tryz.ntmps86
  go_wp2
  go_loopw [8] (fun i wr => ∃ j : Nat, j ≤ L ∧ i = .int .i64 j ∧ RwI φ coma [] W b L (.slice p L cap) ks (l ++ c) j wr) (fun i _ => L - (intOf i).toNat)
  case atStart => exact ⟨0, Nat.zero_le _, rfl, ST.out⟩
  case round =>
    obtain ⟨j, hj, rfl, hI⟩ := hrel
    have j0 : (0 : Int) ≤ j := by omega
    clear ST
    by_cases hlt : j < L
    · have j1 : (j : Int) < L := by omega
      obtain ⟨y, l1, t, u, g, py, cy, rfl, hp, hb, hk, ht, hT, hu, hL, c0, c1, c2, c3, c4, hky⟩ := hI.next hlt
      have HT := hid hT
      have HU := hid hu
      have HL := hid hL
      have HB := hid hb
      have HK := hid hk
      have S0 := hid (St.zero (w := wr) (x := y) hp hky)
      have hlen := congrArg List.length hT
      simp only [List.length_append, List.length_nil] at hlen
      by_cases hz : j = 0
      · subst hz
        have C2 : Hid (Calls Tryz.prog 24 #[.pointer (some ⟨b, 0, none⟩), .agg #[.int .i64 y.kind, .int .i64 y.ty, .string y.txt, .int .i64 y.num, .slice py y.kids.length cy]] (wr.alloc (.cells #[.int .i64 y.kind, .int .i64 y.ty, .string y.txt, .int .i64 y.num, .slice py y.kids.length cy] 27)) (StP wr b wr.heap.size (l1 ++ t) y (.slice py y.kids.length cy))) := S0.out.sub CN ht S0.out.self (by simp [coma] at hlen; omega)
        clear S0
        clear hI hT hu hb hk hp hky ht hlen hL
        generalize y.kids.length = ly at *
        generalize y.kind = yk at *
        generalize y.ty = yt at *
        generalize y.txt = ys at *
        generalize y.num = yn at *
        go_wp2_with (go_at_call 24; refine C2.out.mono ?_; clear C2; rintro e w2 ⟨rfl, hs⟩; have S2 := hid hs; clear hs)
        go_roundw
        case rel => exact ⟨0 + 1, by omega, by go_num, _, u, S2.out.prn, HB.out.trans S2.out.pb, ks_below HK.out S2.out.pb.bel, HL.out, HU.out, by rw [← HT.out]; simp [coma]⟩
        case measure => simp [intOf]; omega
      · have j2 : (0 : Int) < j := by omega
        have hco : coma j = [44, 32] := by unfold coma; rw [if_neg hz]
        rw [hco] at hlen
        simp only [List.length_cons, List.length_nil] at hlen
        have C1 : Hid (Calls Tryz.prog 83 #[.pointer (some ⟨b, 0, none⟩), .slice (some ⟨wr.heap.size + 1, 0, none⟩) 1 1] ((wr.alloc (.cells #[.int .i64 y.kind, .int .i64 y.ty, .string y.txt, .int .i64 y.num, .slice py y.kids.length cy] 27)).alloc (.cells #[.string ⟨#[44, 32]⟩] 9)) (StP wr b wr.heap.size (l1 ++ [44, 32]) y (.slice py y.kids.length cy))) := by
          have h1 := S0.out.text1 ⟨#[44, 32]⟩ (by simp; omega)
          rw [World.size_alloc] at h1
          exact h1
        have C2 : Hid (∀ V, St wr V b wr.heap.size (l1 ++ [44, 32]) y (.slice py y.kids.length cy) → Calls Tryz.prog 24 #[.pointer (some ⟨b, 0, none⟩), .agg #[.int .i64 y.kind, .int .i64 y.ty, .string y.txt, .int .i64 y.num, .slice py y.kids.length cy]] V (StP wr b wr.heap.size (l1 ++ [44, 32] ++ t) y (.slice py y.kids.length cy))) := fun V h => h.sub CN ht h.self (by simp; omega)
        have CC : Hid (∀ V, St wr V b wr.heap.size (l1 ++ [44, 32]) y (.slice py y.kids.length cy) → V.cell? ⟨wr.heap.size, 0, none⟩ = some (.int .i64 y.kind) ∧ V.cell? ⟨wr.heap.size, 1, none⟩ = some (.int .i64 y.ty) ∧ V.cell? ⟨wr.heap.size, 2, none⟩ = some (.string y.txt) ∧ V.cell? ⟨wr.heap.size, 3, none⟩ = some (.int .i64 y.num) ∧ V.cell? ⟨wr.heap.size, 4, none⟩ = some (.slice py y.kids.length cy)) := fun V h => h.cells
        clear S0
        clear hI hT hu hb hk hp hky ht hlen hL
        generalize y.kids.length = ly at *
        generalize y.kind = yk at *
        generalize y.ty = yt at *
        generalize y.txt = ys at *
        generalize y.num = yn at *
        go_wp2_with (first
          | (go_at_call 83; refine C1.out.mono ?_; clear C1; rintro e w1 ⟨rfl, hs⟩; have S1 := hid hs; obtain ⟨z0, z1, z2, z3, z4⟩ := CC.out _ hs; clear hs)
          | (go_at_call 24; refine (C2.out _ S1.out).mono ?_; clear C2 S1; rintro e w2 ⟨rfl, hs⟩; have S2 := hid hs; clear hs z0 z1 z2 z3 z4))
        go_roundw
        case rel => exact ⟨j + 1, by omega, by go_num, _, u, S2.out.prn, HB.out.trans S2.out.pb, ks_below HK.out S2.out.pb.bel, HL.out, HU.out, by rw [← HT.out, hco]; simp [List.append_assoc]⟩
        case measure => simp [intOf]; omega
    · have hjL : j = L := by omega
      subst hjL
      have j1 : ¬ (j : Int) < j := by omega
      obtain ⟨hp, hb⟩ := hI.done
      have HP := hid hp
      have HB := hid hb
      clear hI hp hb
      go_wp2
      go_end0
      exact ⟨rfl, HP.out, HB.out⟩
end Go.Proofs.YtajoncmmdeahnaaGreatDoor.Pt
namespace Go.Proofs.YtajoncmmdeahnaaGreatDoor.Pt
open Go.RowKit
def tyW (t : Int) : List UInt8 := if t = 1 then [105, 110, 116] else if t = 2 then [102, 108, 111, 97, 116] else if t = 3 then [98, 111, 111, 108] else []
theorem tyname_any (t : Int) (w : World) : Calls Tryz.prog 84 #[.int .i64 t] w fun e w' => e = .returned (.string ⟨(tyW t).toArray⟩) ∧ w' = w := by
  by_cases h1 : t = 1
  · subst h1
    go_enter Tryz.func84, Tryz.ntmps84
    go_wp2
    go_ret
    exact ⟨rfl, rfl⟩
  by_cases h2 : t = 2
  · subst h2
    go_enter Tryz.func84, Tryz.ntmps84
    go_wp2
    go_ret
    exact ⟨rfl, rfl⟩
  by_cases h3 : t = 3
  · subst h3
    go_enter Tryz.func84, Tryz.ntmps84
    go_wp2
    go_ret
    exact ⟨rfl, rfl⟩
  have e : tyW t = [] := by unfold tyW; rw [if_neg h1, if_neg h2, if_neg h3]
  rw [e]
  go_enter Tryz.func84, Tryz.ntmps84
  go_wp2
  go_ret
  exact ⟨rfl, rfl⟩
set_option maxRecDepth 100000 in
set_option maxHeartbeats 4000000 in
theorem st6 (φ : Nd → Option (List UInt8)) (CN : PC 24 φ) (b : Nat) (ty n : Int) (s : ByteArray) (ks : List Nd) (c l : List UInt8) (p : Option Addr) (cap : Nat) (W : World) (hc : catT φ (fun _ => [32]) [] 0 ks = some c) (hp : Prn W b l) (hk : KsV W (fun i => i < b) (.slice p ks.length cap) ks) (hl : l.length + ([123] ++ c ++ [32, 125]).length ≤ 5000) : Calls Tryz.prog 47 #[.pointer (some ⟨b, 0, none⟩), .agg #[.int .i64 6, .int .i64 ty, .string s, .int .i64 n, .slice p ks.length cap]] W (SayP W b (l ++ ([123] ++ c ++ [32, 125]))) := by
  have S0 := hid (St.zero (x := Nd.mk 6 ty s n ks) hp hk)
  have C1 : Hid (Calls Tryz.prog 87 #[.pointer (some ⟨b, 0, none⟩), .agg #[.int .i64 6, .int .i64 ty, .string s, .int .i64 n, .slice p ks.length cap]] (W.alloc (.cells #[.int .i64 6, .int .i64 ty, .string s, .int .i64 n, .slice p ks.length cap] 27)) (SayP (W.alloc (.cells #[.int .i64 6, .int .i64 ty, .string s, .int .i64 n, .slice p ks.length cap] 27)) b (l ++ ([123] ++ c ++ [32, 125])))) := block_any φ CN b (Nd.mk 6 ty s n ks) c l _ _ hc S0.out.prn S0.out.self hl
  have PB0 := hid S0.out.pb
  clear hp hk S0 hc CN
  go_enter Tryz.func47, Tryz.ntmps47
  go_wp2_with (go_at_call 87; refine C1.out.mono ?_; clear C1; rintro e w2 ⟨rfl, hp2, hb2⟩; have P2 := hid hp2; have B2 := hid (PB0.out.trans hb2); clear hp2 hb2)
  go_end0
  exact ⟨rfl, P2.out, B2.out⟩
set_option maxRecDepth 100000 in
set_option maxHeartbeats 4000000 in
theorem st11 (φ : Nd → Option (List UInt8)) (KA : KC φ) (b : Nat) (ty n : Int) (s : ByteArray) (ks : List Nd) (t l : List UInt8) (p : Option Addr) (cap : Nat) (W : World) (hi : 0 < ks.length) (ht : φ ks[0] = some t) (hp : Prn W b l) (hk : KsV W (fun i => i < b) (.slice p ks.length cap) ks) (hl : l.length + ([114, 101, 116, 117, 114, 110, 32] ++ t ++ [59]).length ≤ 5000) : Calls Tryz.prog 47 #[.pointer (some ⟨b, 0, none⟩), .agg #[.int .i64 11, .int .i64 ty, .string s, .int .i64 n, .slice p ks.length cap]] W (SayP W b (l ++ ([114, 101, 116, 117, 114, 110, 32] ++ t ++ [59]))) := by
  have S0 := hid (St.zero (x := Nd.mk 11 ty s n ks) hp hk)
  have C1 : Hid (Calls Tryz.prog 88 #[.pointer (some ⟨b, 0, none⟩), .string ⟨#[114, 101, 116, 117, 114, 110, 32]⟩, .agg #[.int .i64 11, .int .i64 ty, .string s, .int .i64 n, .slice p ks.length cap]] (W.alloc (.cells #[.int .i64 11, .int .i64 ty, .string s, .int .i64 n, .slice p ks.length cap] 27)) (SayP (W.alloc (.cells #[.int .i64 11, .int .i64 ty, .string s, .int .i64 n, .slice p ks.length cap] 27)) b (l ++ ([114, 101, 116, 117, 114, 110, 32] ++ t ++ [59])))) := line_any φ KA b ⟨#[114, 101, 116, 117, 114, 110, 32]⟩ (Nd.mk 11 ty s n ks) t l _ _ hi ht S0.out.prn S0.out.self hl
  have PB0 := hid S0.out.pb
  clear hp hk S0 ht KA
  go_enter Tryz.func47, Tryz.ntmps47
  go_wp2_with (go_at_call 88; refine C1.out.mono ?_; clear C1; rintro e w2 ⟨rfl, hp2, hb2⟩; have P2 := hid hp2; have B2 := hid (PB0.out.trans hb2); clear hp2 hb2)
  go_end0
  exact ⟨rfl, P2.out, B2.out⟩
def stT (φ : Nd → Option (List UInt8)) (x : Nd) : Option (List UInt8) :=
  if x.kind = 6 then (catT φ (fun _ => [32]) [] 0 x.kids).map fun c => [123] ++ c ++ [32, 125]
  else if x.kind = 11 then (x.kids.head?.bind φ).map fun t => [114, 101, 116, 117, 114, 110, 32] ++ t ++ [59]
  else none
theorem stmt_any (φ : Nd → Option (List UInt8)) (CN : PC 24 φ) (KA : KC φ) : PC 47 (stT φ) := by
  rintro b ⟨k, ty, s, n, ks⟩ t l v W ht hp ⟨q, rfl, hk⟩ hl
  have hk : KsV W (fun i => i < b) q ks := hk
  obtain ⟨p, cap, rfl, _⟩ := hk.form
  have ht : (if k = 6 then (catT φ (fun _ => [32]) [] 0 ks).map fun c => [123] ++ c ++ [32, 125] else if k = 11 then (ks.head?.bind φ).map fun t => [114, 101, 116, 117, 114, 110, 32] ++ t ++ [59] else none) = some t := ht
  split at ht
  · rename_i e; subst e
    obtain ⟨c, hc, rfl⟩ := Option.map_eq_some_iff.1 ht
    exact st6 φ CN b ty n s ks c l p cap W hc hp hk hl
  split at ht
  · rename_i e; subst e
    obtain ⟨c, hc, rfl⟩ := Option.map_eq_some_iff.1 ht
    match ks, hk, hc with
    | y :: r, hk, hc => exact st11 φ KA b ty n s (y :: r) c l p cap W (by simp) hc hp hk hl
  · cases ht
end Go.Proofs.YtajoncmmdeahnaaGreatDoor.Pt
