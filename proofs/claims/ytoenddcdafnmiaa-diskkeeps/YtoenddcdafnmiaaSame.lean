/-
  same of the law: a disk has just what the document has.
-/
import Derived.Test.YtoenddcdafnmiaaDoKit
import Derived.Test.YtoenddcdafnmiaaNames
import Derived.Test.YtoenddcdafnmiaaUsed
import Derived.Deep.RegionHeld3
import Derived.BigQuiet
import Derived.Deep.QuietTactic
namespace Go.Proofs.Ytoenddcdafnmiaa
open Go.RowKit Go.Maps
theorem get_at : ∀ {l : FS} (_ : Rising l) (k : Nat) (h : k < l.length), getF l l[k].1 = some l[k].2
  | [], _, _, h => absurd h (Nat.not_lt_zero _)
  | p :: r, hr, 0, _ => by
    rw [getF_cons]
    show (if sameB p.1 p.1 = true then some p.2 else getF r p.1) = some p.2
    rw [if_pos ((sameB_iff _ _).2 rfl)]
  | p :: r, hr, k + 1, h => by
    have hk : k < r.length := by simpa using h
    have ih := get_at hr.tail k hk
    have hb := hr.head r[k] (List.getElem_mem hk)
    rw [getF_cons]
    show (if sameB p.1 r[k].1 = true then _ else _) = some r[k].2
    rw [if_neg (by rw [same_of_bf hb]; decide)]
    exact ih
theorem sizeF_le {B : Nat} : ∀ {l : FS}, (∀ p ∈ l, p.2.size ≤ B) → sizeF l ≤ l.length * B
  | [], _ => Nat.zero_le _
  | p :: r, h => by
    have ih := sizeF_le (l := r) (fun q hq => h q (List.mem_cons_of_mem _ hq))
    have h0 := h p List.mem_cons_self
    have e : sizeF (p :: r) = p.2.size + sizeF r := by unfold sizeF; simp
    rw [e, List.length_cons, Nat.add_mul]
    omega
theorem row_read {w : World} {base n : Nat} {v : Value} {l : FS} (h : w.ownsRow base 9 1 v n (namesL l)) (hn : n = l.length) : ∃ (pb : Option Addr) (cp g : Nat), v = .slice pb l.length cp ∧ l.length ≤ cp ∧ (0 < l.length → pb = some ⟨g, 0, none⟩) ∧ ∀ i, (q : i < l.length) → w.cell? ⟨g, i, none⟩ = some (.string l[i].1) := by
  subst hn
  have h' := h
  rcases h'.2 with ⟨rfl, e⟩ | ⟨g, cap, cur, rfl, _, _, hc, _, _⟩
  · refine ⟨none, 0, 0, by rw [e], by omega, fun q => by omega, fun i q => by omega⟩
  · refine ⟨_, cap, g, rfl, hc, fun _ => rfl, fun i q => ?_⟩
    rw [h.cellAt i (by omega)]
    unfold namesL
    rw [List.getElem?_map, List.getElem?_eq_getElem q]
    rfl
set_option maxRecDepth 100000 in
set_option maxHeartbeats 4000000 in
theorem same_any (base b : Nat) (k : Dk) (a0 : Option Addr) (n0 k0 : Nat) (w : World) (hD : IsDisk w base b k) (hd : k.dead = false) (hu : k.unsure = 0) (hF : FilesT w (.slice a0 n0 k0) k.now) (hr : Rising k.now) (hf : Fits k.now 10000) (hn : ∀ p ∈ k.now, nameB p.1 = true) :
    Calls Try.prog 9 #[.agg #[.pointer (some ⟨b, 0, none⟩), .slice a0 n0 k0, .slice none 0 0, .int .i64 (-1), .slice none 0 0, .int .i64 k.changes, .bool false]] w fun e w' => e = .returned (.bool true) ∧ w.grownBy w' none := by
  have hs : sizeF k.now ≤ 1000000000 := by
    have h1 := sizeF_le hf.2.1
    have h2 : k.now.length * 10000 ≤ 10000 * 10000 := Nat.mul_le_mul_right _ hf.1
    omega
  have CN : Hid (∀ W, w.grownBy W none → Calls Try.prog 13 #[.agg #[.slice a0 n0 k0, .slice none 0 0, .int .i64 (-1), .slice none 0 0, .int .i64 k.changes, .bool false]] W fun e w' => ∃ (pa : Option Addr) (cap g o : Nat), e = .returned (.slice pa k.now.length cap) ∧ k.now.length ≤ cap ∧ (0 < k.now.length → pa = some ⟨g, o, none⟩) ∧ FilesV w' (.slice pa k.now.length cap) k.now ∧ (∀ i, (h : i < k.now.length) → w'.cell? ⟨g, o + i * 2, none⟩ = some (.string k.now[i].1)) ∧ (∀ i, (h : i < k.now.length) → w'.cell? ⟨g, o + i * 2 + 1, none⟩ = some (.string k.now[i].2)) ∧ W.grownBy w' none) := fun W hW => (now_any _ _ _ _ _ _ k.now [] W (hF.kept hW) (Or.inl ⟨rfl, rfl⟩) hr (fun c hc => by cases hc) (Nat.zero_le _) (fun i _ => by rw [List.take_nil]; exact hf.mono (by decide))).mono (by
    rintro e w' ⟨v', rfl, hv, hg⟩
    have hv' : FilesV w' v' k.now := hv.1
    obtain ⟨pa, cap, g, o, rfl, h1, h2, h3, h4⟩ := hv'.old
    exact ⟨pa, cap, g, o, rfl, h1, h2, hv', h3, h4, hg⟩)
  have CM : Hid (∀ W, w.grownBy W none → Calls Try.prog 27 #[.pointer (some ⟨b, 0, none⟩)] W fun e w' => ∃ (pb : Option Addr) (cp gg : Nat), e = .returned (.slice pb k.now.length cp) ∧ k.now.length ≤ cp ∧ (0 < k.now.length → pb = some ⟨gg, 0, none⟩) ∧ (∀ i, (q : i < k.now.length) → w'.cell? ⟨gg, i, none⟩ = some (.string k.now[i].1)) ∧ W.grownBy w' none) := fun W hW => (names_any base b k W (hD.kept hW) (by have := hf.1; omega)).mono (by
    rintro e w' ⟨v, rfl, ho, hg⟩
    obtain ⟨pb, cp, gg, rfl, h0, h1, h2⟩ := row_read ho rfl
    exact ⟨pb, cp, gg, rfl, h0, h1, h2, hg⟩)
  have CU : Hid (∀ W, w.grownBy W none → Calls Try.prog 19 #[.pointer (some ⟨b, 0, none⟩)] W fun e w' => e = .returned (.int .i64 (sizeF k.now)) ∧ W.grownBy w' none) := fun W hW => used_any base b k W (hD.kept hW) hs
  have CZ : Hid (∀ W v, FilesV W v k.now → Calls Try.prog 32 #[v] W fun e w' => e = .returned (.int .i64 (sizeF k.now)) ∧ W.grownBy w' none) := fun W v hv => size_any v k.now W hv (hf.mono (by decide))
  have CD : Hid (∀ W, w.grownBy W none → Calls Try.prog 18 #[.pointer (some ⟨b, 0, none⟩)] W fun e w' => e = .returned (.bool false) ∧ W.grownBy w' none) := fun W hW => by
    obtain ⟨_, vn, vs, vl, hB, _⟩ := hD.kept hW
    have c8 := hB.d8
    rw [hd] at c8
    refine (dead_any b false W c8).mono ?_
    rintro e w' ⟨rfl, rfl⟩
    exact ⟨rfl, grown_refl _ _⟩
  have CC : Hid (∀ W, w.grownBy W none → Calls Try.prog 28 #[.pointer (some ⟨b, 0, none⟩)] W fun e w' => e = .returned (.int .i64 k.changes) ∧ W.grownBy w' none) := fun W hW => (changes_any base b k W (hD.kept hW)).mono (by
    rintro e w' ⟨rfl, rfl⟩
    exact ⟨rfl, grown_refl _ _⟩)
  have CL : Hid (∀ W, w.grownBy W none → Calls Try.prog 20 #[.pointer (some ⟨b, 0, none⟩)] W fun e w' => e = .returned (.int .i64 0) ∧ W.grownBy w' none) := fun W hW => (loose_any base b k W (hD.kept hW)).mono (by
    rintro e w' ⟨rfl, rfl⟩
    rw [hu]
    exact ⟨rfl, grown_refl _ _⟩)
  have CR : Hid (∀ i, (h : i < k.now.length) → ∀ W, w.grownBy W none → Calls Try.prog 23 #[.pointer (some ⟨b, 0, none⟩), .string k.now[i].1] W fun e w' => e = .returned (.tuple #[.string k.now[i].2, .int .i64 0]) ∧ W.grownBy w' none) := fun i h W hW => by
    have hm := hn k.now[i] (List.getElem_mem h)
    have := read_any base b k k.now[i].1 W (hD.kept hW) hd hm (by have := name_size hm; unfold maxLen; omega)
    unfold readS readE at this
    rw [get_at hr i h] at this
    exact this
  have hll : (k.now.length : Int) ≤ 10000 := by have := hf.1; omega
  clear hD hd hu hF hr hf hn hs
  generalize sizeF k.now = sz at *
  generalize k.now = l at *
  generalize k.changes = ch at *
  go_enter Try.func9, Try.ntmps9
  have B1 : Hid (Blk (w.alloc (.cells #[.pointer (some ⟨b, 0, none⟩), .slice a0 n0 k0, .slice none 0 0, .int .i64 (-1), .slice none 0 0, .int .i64 ch, .bool false] 31)) w.heap.size 31 #[.pointer (some ⟨b, 0, none⟩), .slice a0 n0 k0, .slice none 0 0, .int .i64 (-1), .slice none 0 0, .int .i64 ch, .bool false]) := Blk.new w 31 _
  have G1 : Hid (w.grownBy (w.alloc (.cells #[.pointer (some ⟨b, 0, none⟩), .slice a0 n0 k0, .slice none 0 0, .int .i64 (-1), .slice none 0 0, .int .i64 ch, .bool false] 31)) none) := grown_alloc (grown_refl _ _) _
  obtain ⟨⟨y0, y1, y2, y3, y4, y5, y6⟩, z0, z1, z2, z3, z4, z5, z6⟩ := B1.out.seven
  go_wp2_with (first
    | (go_at_call 13; refine (CN.out _ G1.out).mono ?_; rintro e w2 ⟨pa, cap, g, o, rfl, hcap, hpa, hv, h0, h1, hg⟩; clear y0 y1 y2 y3 y4 y5 y6 z0 z1 z2 z3 z4 z5 z6; have b1 := hid (B1.out.kept hg (by simp)); clear B1; have B1 := b1; clear b1; obtain ⟨⟨y0, y1, y2, y3, y4, y5, y6⟩, z0, z1, z2, z3, z4, z5, z6⟩ := B1.out.seven; have V2 := hid hv; have G2 : Hid (w.grownBy w2 none) := grown_trans G1.out hg; have HP : Hid (0 < l.length → pa = some ⟨g, o, none⟩) := hpa; have H0 := hid h0; have H1 := hid h1; clear hv hpa h0 h1 hg CN G1)
    | (go_at_call 27; refine (CM.out _ G2.out).mono ?_; rintro e w3 ⟨pb, cp, gg, rfl, hcp, hpb, hq, hg⟩; clear y0 y1 y2 y3 y4 y5 y6 z0 z1 z2 z3 z4 z5 z6; have b1 := hid (B1.out.kept hg (by simp)); clear B1; have B1 := b1; clear b1; obtain ⟨⟨y0, y1, y2, y3, y4, y5, y6⟩, z0, z1, z2, z3, z4, z5, z6⟩ := B1.out.seven; have G3 : Hid (w.grownBy w3 none) := grown_trans G2.out hg; have L3 : Hid (w2.grownBy w3 none) := hg; have V3 := hid (V2.out.kept hg); have HQ : Hid (0 < l.length → pb = some ⟨gg, 0, none⟩) := hpb; have H2 := hid hq; clear hpb hq hg CM))
  go_region_held3 (fun V => V.cell? ⟨w.heap.size, 0, none⟩ = some (.pointer (some ⟨b, 0, none⟩)) ∧ V.cell? ⟨w.heap.size, 2, none⟩ = some (.slice none 0 0) ∧ V.cell? ⟨w.heap.size, 5, none⟩ = some (.int .i64 ch) ∧ V.cell? ⟨w.heap.size, 6, none⟩ = some (.bool false)) (first | assumption | go_keep) (first
    | (go_at_call 19; refine (CU.out _ (grown_drew G3.out)).mono ?_; rintro e w4 ⟨rfl, hg⟩; clear y0 y1 y2 y3 y4 y5 y6 z0 z1 z2 z3 z4 z5 z6; have b1 := hid (B1.out.drew.kept hg (by simp)); clear B1; have B1 := b1; clear b1; obtain ⟨⟨y0, y1, y2, y3, y4, y5, y6⟩, z0, z1, z2, z3, z4, z5, z6⟩ := B1.out.seven; have G4 : Hid (w.grownBy w4 none) := grown_trans (grown_drew G3.out) hg; have V4 := hid ((V3.out.kept (grown_drew (grown_refl _ _))).kept hg); have L4 : Hid (w3.grownBy w4 none) := grown_trans (grown_drew (grown_refl _ _)) hg; clear hg)
    | (go_at_call 32; refine (CZ.out _ _ V4.out).mono ?_; rintro e w5 ⟨rfl, hg⟩; clear y0 y1 y2 y3 y4 y5 y6 z0 z1 z2 z3 z4 z5 z6; have b1 := hid (B1.out.kept hg (by simp)); clear B1; have B1 := b1; clear b1; obtain ⟨⟨y0, y1, y2, y3, y4, y5, y6⟩, z0, z1, z2, z3, z4, z5, z6⟩ := B1.out.seven; have G5 : Hid (w.grownBy w5 none) := grown_trans G4.out hg; have V5 := hid ((V4.out).kept hg); have L5 : Hid (w3.grownBy w5 none) := grown_trans L4.out hg; clear hg)
    | (go_at_call 18; refine (CD.out _ G5.out).mono ?_; rintro e w6 ⟨rfl, hg⟩; clear y0 y1 y2 y3 y4 y5 y6 z0 z1 z2 z3 z4 z5 z6; have b1 := hid (B1.out.kept hg (by simp)); clear B1; have B1 := b1; clear b1; obtain ⟨⟨y0, y1, y2, y3, y4, y5, y6⟩, z0, z1, z2, z3, z4, z5, z6⟩ := B1.out.seven; have G6 : Hid (w.grownBy w6 none) := grown_trans G5.out hg; have V6 := hid ((V5.out).kept hg); have L6 : Hid (w3.grownBy w6 none) := grown_trans L5.out hg; clear hg)
    | (go_at_call 28; refine (CC.out _ G6.out).mono ?_; rintro e w7 ⟨rfl, hg⟩; clear y0 y1 y2 y3 y4 y5 y6 z0 z1 z2 z3 z4 z5 z6; have b1 := hid (B1.out.kept hg (by simp)); clear B1; have B1 := b1; clear b1; obtain ⟨⟨y0, y1, y2, y3, y4, y5, y6⟩, z0, z1, z2, z3, z4, z5, z6⟩ := B1.out.seven; have G7 : Hid (w.grownBy w7 none) := grown_trans G6.out hg; have V7 := hid ((V6.out).kept hg); have L7 : Hid (w3.grownBy w7 none) := grown_trans L6.out hg; clear hg)
    | (go_at_call 20; refine (CL.out _ G7.out).mono ?_; rintro e w8 ⟨rfl, hg⟩; clear y0 y1 y2 y3 y4 y5 y6 z0 z1 z2 z3 z4 z5 z6; have b1 := hid (B1.out.kept hg (by simp)); clear B1; have B1 := b1; clear b1; obtain ⟨⟨y0, y1, y2, y3, y4, y5, y6⟩, z0, z1, z2, z3, z4, z5, z6⟩ := B1.out.seven; have G8 : Hid (w.grownBy w8 none) := grown_trans G7.out hg; have V8 := hid ((V7.out).kept hg); have L8 : Hid (w3.grownBy w8 none) := grown_trans L7.out hg; clear hg))
  clear V2 V3 V4 V5 V6 V7 V8 CU CZ CD CC CL L4 L5 L6 L7 G4 G5 G6 G7
  have K0 : Hid (∀ W, w8.grownBy W none → ∀ i, (h : i < l.length) → W.cell? ⟨g, o + i * 2, none⟩ = some (.string l[i].1)) := fun W hW i h => by
    have hc := H0.out i h
    exact ((grown_below (grown_trans (grown_trans L3.out L8.out) hW)).cell (p := ⟨g, o + i * 2, none⟩) (World.block_lt_of_cell? _ _ hc)).trans hc
  have K1 : Hid (∀ W, w8.grownBy W none → ∀ i, (h : i < l.length) → W.cell? ⟨g, o + i * 2 + 1, none⟩ = some (.string l[i].2)) := fun W hW i h => by
    have hc := H1.out i h
    exact ((grown_below (grown_trans (grown_trans L3.out L8.out) hW)).cell (p := ⟨g, o + i * 2 + 1, none⟩) (World.block_lt_of_cell? _ _ hc)).trans hc
  have K2 : Hid (∀ W, w8.grownBy W none → ∀ i, (h : i < l.length) → W.cell? ⟨gg, i, none⟩ = some (.string l[i].1)) := fun W hW i h => by
    have hc := H2.out i h
    exact ((grown_below (grown_trans L8.out hW)).cell (p := ⟨gg, i, none⟩) (World.block_lt_of_cell? _ _ hc)).trans hc
  clear H0 H1 H2 L3 L8 G2 G3
  clear y0 y1 y2 y3 y4 y5 y6 z0 z1 z2 z3 z4 z5 z6
  go_wp2
  go_loopw [5, 6, 7] (fun i s e wr => ∃ j : Nat, j ≤ l.length ∧ i = .int .i64 j ∧ w8.grownBy wr none) (fun i _ _ _ => l.length - (intOf i).toNat)
  case atStart => exact ⟨0, Nat.zero_le _, rfl, grown_refl _ _⟩
  case round =>
    obtain ⟨j, hj, rfl, hg⟩ := hrel
    have HG : Hid (w8.grownBy wr none) := hg
    have j0 : (0 : Int) ≤ j := by omega
    by_cases hjl : j < l.length
    · have hp := HP.out (by omega)
      have hq := HQ.out (by omega)
      subst hp
      subst hq
      have j1 : (j : Int) < l.length := by omega
      have c0 := K0.out wr hg j hjl
      have B1 := hid (B1.out.kept hg (by simp))
      have y0 := B1.out.cell 0
      have CE := hid (CR.out j hjl)
      have GR : Hid (w.grownBy wr none) := grown_trans G8.out hg
      have M0 := hid (fun W hW => K0.out W hW j hjl)
      have M1 := hid (fun W hW => K1.out W hW j hjl)
      have M2 := hid (fun W hW => K2.out W hW j hjl)
      clear hg K0 K1 K2 CR HP HQ
      generalize l[j].1 = nm at *
      generalize l[j].2 = tx at *
      go_wp2_with fail
      go_region_held3 (fun V => V.cell? ⟨w.heap.size, 0, none⟩ = some (.pointer (some ⟨b, 0, none⟩)) ∧ V.cell? ⟨g, o + j * 2, none⟩ = some (.string nm)) (first | assumption | go_keep) (first
        | (go_at_call 23; refine (CE.out _ (grown_drew GR.out)).mono ?_; rintro e w9 ⟨rfl, hg⟩; have H9 : Hid (w8.grownBy w9 none) := grown_trans (grown_drew HG.out) hg; have f0 := M0.out w9 H9.out; have f1 := M1.out w9 H9.out; have f2 := M2.out w9 H9.out; have B9 := hid (B1.out.drew.kept hg (by simp)); have f3 := B9.out.cell 0; have f4 := B9.out.cell 6; clear hg))
      all_goals (
        clear c0 y0
        go_wp2_with fail
        go_quiet (fail)
        go_wp2
        go_roundw
        case rel => exact ⟨j + 1, by omega, by go_num, grown_drewN H9.out _⟩
        case measure => simp [intOf]; omega)
    · obtain rfl : j = l.length := by omega
      have j1 : ¬ (l.length : Int) < l.length := by omega
      have GR : Hid (w.grownBy wr none) := grown_trans G8.out hg
      clear hg K0 K1 K2 CR HP HQ
      go_wp2
      go_ret
      exact ⟨rfl, GR.out⟩
end Go.Proofs.Ytoenddcdafnmiaa
