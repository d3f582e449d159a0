/-
  How strongly each sign between two binds, as the law says; the parser on the law's own text. The law's cut of a row, as it is printed. The closed text of cupellaw11's awake.
-/
import Derived.Test.YtajoncmmdeahnaaGreatDoorKSc2
import Derived.Test.YtajoncmmdeahnaaGreatDoorKRm
import Derived.BigQuiet
import Derived.KernelRfl
namespace Go.Proofs.YtajoncmmdeahnaaGreatDoor
namespace Rk
open Pm
theorem ranks_0 (w : World) : Calls Tryz.prog 26 #[.string ⟨#[124, 124]⟩] w fun e w' => e = .returned (.int .i64 1) ∧ w' = w := by
  go_enter Tryz.func26, Tryz.ntmps26
  go_wp2
  go_ret
  exact ⟨rfl, rfl⟩
theorem ranks_1 (w : World) : Calls Tryz.prog 26 #[.string ⟨#[38, 38]⟩] w fun e w' => e = .returned (.int .i64 2) ∧ w' = w := by
  go_enter Tryz.func26, Tryz.ntmps26
  go_wp2
  go_ret
  exact ⟨rfl, rfl⟩
theorem ranks_2 (w : World) : Calls Tryz.prog 26 #[.string ⟨#[60]⟩] w fun e w' => e = .returned (.int .i64 3) ∧ w' = w := by
  go_enter Tryz.func26, Tryz.ntmps26
  go_wp2
  go_ret
  exact ⟨rfl, rfl⟩
theorem ranks_3 (w : World) : Calls Tryz.prog 26 #[.string ⟨#[60, 61]⟩] w fun e w' => e = .returned (.int .i64 3) ∧ w' = w := by
  go_enter Tryz.func26, Tryz.ntmps26
  go_wp2
  go_ret
  exact ⟨rfl, rfl⟩
theorem ranks_4 (w : World) : Calls Tryz.prog 26 #[.string ⟨#[62]⟩] w fun e w' => e = .returned (.int .i64 3) ∧ w' = w := by
  go_enter Tryz.func26, Tryz.ntmps26
  go_wp2
  go_ret
  exact ⟨rfl, rfl⟩
theorem ranks_5 (w : World) : Calls Tryz.prog 26 #[.string ⟨#[62, 61]⟩] w fun e w' => e = .returned (.int .i64 3) ∧ w' = w := by
  go_enter Tryz.func26, Tryz.ntmps26
  go_wp2
  go_ret
  exact ⟨rfl, rfl⟩
theorem ranks_6 (w : World) : Calls Tryz.prog 26 #[.string ⟨#[61, 61]⟩] w fun e w' => e = .returned (.int .i64 3) ∧ w' = w := by
  go_enter Tryz.func26, Tryz.ntmps26
  go_wp2
  go_ret
  exact ⟨rfl, rfl⟩
theorem ranks_7 (w : World) : Calls Tryz.prog 26 #[.string ⟨#[33, 61]⟩] w fun e w' => e = .returned (.int .i64 3) ∧ w' = w := by
  go_enter Tryz.func26, Tryz.ntmps26
  go_wp2
  go_ret
  exact ⟨rfl, rfl⟩
theorem ranks_8 (w : World) : Calls Tryz.prog 26 #[.string ⟨#[43]⟩] w fun e w' => e = .returned (.int .i64 4) ∧ w' = w := by
  go_enter Tryz.func26, Tryz.ntmps26
  go_wp2
  go_ret
  exact ⟨rfl, rfl⟩
theorem ranks_9 (w : World) : Calls Tryz.prog 26 #[.string ⟨#[45]⟩] w fun e w' => e = .returned (.int .i64 4) ∧ w' = w := by
  go_enter Tryz.func26, Tryz.ntmps26
  go_wp2
  go_ret
  exact ⟨rfl, rfl⟩
theorem ranks_10 (w : World) : Calls Tryz.prog 26 #[.string ⟨#[42]⟩] w fun e w' => e = .returned (.int .i64 5) ∧ w' = w := by
  go_enter Tryz.func26, Tryz.ntmps26
  go_wp2
  go_ret
  exact ⟨rfl, rfl⟩
theorem ranks_11 (w : World) : Calls Tryz.prog 26 #[.string ⟨#[47]⟩] w fun e w' => e = .returned (.int .i64 5) ∧ w' = w := by
  go_enter Tryz.func26, Tryz.ntmps26
  go_wp2
  go_ret
  exact ⟨rfl, rfl⟩
theorem ranks_12 (w : World) : Calls Tryz.prog 26 #[.string ⟨#[37]⟩] w fun e w' => e = .returned (.int .i64 5) ∧ w' = w := by
  go_enter Tryz.func26, Tryz.ntmps26
  go_wp2
  go_ret
  exact ⟨rfl, rfl⟩
def SgOk (s : List UInt8) : Prop := ∃ i, i < 13 ∧ s = sgR i
theorem ranks_any (s : List UInt8) (h : SgOk s) (w : World) : Calls Tryz.prog 26 #[.string ⟨s.toArray⟩] w fun e w' => e = .returned (.int .i64 (rankN s)) ∧ w' = w := by
  obtain ⟨i, hi, rfl⟩ := h
  rcases (show i = 0 ∨ i = 1 ∨ i = 2 ∨ i = 3 ∨ i = 4 ∨ i = 5 ∨ i = 6 ∨ i = 7 ∨ i = 8 ∨ i = 9 ∨ i = 10 ∨ i = 11 ∨ i = 12 by omega) with rfl | rfl | rfl | rfl | rfl | rfl | rfl | rfl | rfl | rfl | rfl | rfl | rfl
  · exact ranks_0 w
  · exact ranks_1 w
  · exact ranks_2 w
  · exact ranks_3 w
  · exact ranks_4 w
  · exact ranks_5 w
  · exact ranks_6 w
  · exact ranks_7 w
  · exact ranks_8 w
  · exact ranks_9 w
  · exact ranks_10 w
  · exact ranks_11 w
  · exact ranks_12 w
end Rk
end Go.Proofs.YtajoncmmdeahnaaGreatDoor
namespace Go.Proofs.YtajoncmmdeahnaaGreatDoor
namespace Rk
open Pm Pt Go.RowKit
theorem cutT_at (a : List UInt8) (l : List It) (h : l ≠ []) : cutT a l = bN (l[wk l]'(wk_lt l h)).1 (cutT a (l.take (wk l))) (cutT (l[wk l]'(wk_lt l h)).2 (l.drop (wk l + 1))) := by
  have hk := wk_lt l h
  match l, h with
  | x :: r, h =>
    have hk' : wk (x :: r) < r.length + 1 := hk
    show cutF (r.length + 1) a (x :: r) = _
    unfold cutF
    rw [List.getElem?_eq_getElem hk]
    show bN _ _ _ = _
    unfold cutT
    rw [cutF_more r.length ((x :: r).take (wk (x :: r))).length a _ (by rw [List.length_take, List.length_cons]; omega) (Nat.le_refl _), cutF_more r.length ((x :: r).drop (wk (x :: r) + 1)).length _ _ (by rw [List.length_drop, List.length_cons]; omega) (Nat.le_refl _)]
theorem pr_v (f : Nat) (a t : List UInt8) (h : prF f (vN a) = some t) : t = a := by
  cases f with
  | zero => cases h
  | succ f => exact (Option.some.inj h).symm
theorem pr_b (f : Nat) (s : List UInt8) (x y : Nd) (t : List UInt8) (h : prF f (bN s x y) = some t) : ∃ f' t1 t2, f = f' + 1 ∧ prF f' x = some t1 ∧ prF f' y = some t2 ∧ t = [40] ++ t1 ++ ([32] ++ (s ++ [32])) ++ t2 ++ [41] := by
  cases f with
  | zero => cases h
  | succ f =>
    have h : binT (prF f) ⟨s.toArray⟩ [x, y] = some t := h
    obtain ⟨a, c, t1, t2, e, h1, h2, h3⟩ := binT_some _ _ _ _ h
    cases e
    exact ⟨f, t1, t2, rfl, h1, h2, h3⟩
theorem pr_more : ∀ (f : Nat) (a : List UInt8) (l : List It), l.length ≤ f → ∃ t, prF (f + 1) (cutT a l) = some t
  | f, a, [], _ => ⟨a, rfl⟩
  | 0, a, x :: r, h => by simp at h
  | f + 1, a, x :: r, h => by
    have hk := wk_lt (x :: r) (by simp)
    rw [cutT_at a (x :: r) (by simp)]
    rw [List.length_cons] at h hk
    obtain ⟨t1, h1⟩ := pr_more f a ((x :: r).take (wk (x :: r))) (by rw [List.length_take, List.length_cons]; omega)
    obtain ⟨t2, h2⟩ := pr_more f ((x :: r)[wk (x :: r)]).2 ((x :: r).drop (wk (x :: r) + 1)) (by rw [List.length_drop, List.length_cons]; omega)
    generalize ((x :: r)[wk (x :: r)]).1 = sg at *
    generalize cutT a ((x :: r).take (wk (x :: r))) = A at *
    generalize cutT ((x :: r)[wk (x :: r)]).2 ((x :: r).drop (wk (x :: r) + 1)) = B at *
    have h3 : binT (prF (f + 1)) ⟨sg.toArray⟩ [A, B] = some ([40] ++ t1 ++ ([32] ++ ((⟨sg.toArray⟩ : ByteArray).data.toList ++ [32])) ++ t2 ++ [41]) := by simp only [binT, h1, h2]
    exact ⟨_, h3⟩
def NmAt (w : World) (g o : Nat) (a : List UInt8) (l : List It) : Prop := w.cell? ⟨g, o, none⟩ = some (.string ⟨a.toArray⟩) ∧ ∀ i (h : i < l.length), w.cell? ⟨g, o + (i + 1), none⟩ = some (.string ⟨(l[i]).2.toArray⟩)
def BtAt (w : World) (g o : Nat) (l : List It) : Prop := ∀ i (h : i < l.length), w.cell? ⟨g, o + i, none⟩ = some (.string ⟨(l[i]).1.toArray⟩)
theorem NmAt.same {w w' : World} {g o : Nat} {a : List UInt8} {l : List It} (h : NmAt w g o a l) (k : ∀ ad, w'.cell? ad = w.cell? ad) : NmAt w' g o a l := ⟨(k _).trans h.1, fun i hi => (k _).trans (h.2 i hi)⟩
theorem BtAt.same {w w' : World} {g o : Nat} {l : List It} (h : BtAt w g o l) (k : ∀ ad, w'.cell? ad = w.cell? ad) : BtAt w' g o l := fun i hi => (k _).trans (h i hi)
theorem NmAt.take {w : World} {g o : Nat} {a : List UInt8} {l : List It} (h : NmAt w g o a l) (k : Nat) : NmAt w g o a (l.take k) := ⟨h.1, fun i hi => by
  rw [List.getElem_take]
  exact h.2 i (by rw [List.length_take] at hi; omega)⟩
theorem BtAt.take {w : World} {g o : Nat} {l : List It} (h : BtAt w g o l) (k : Nat) : BtAt w g o (l.take k) := fun i hi => by
  rw [List.getElem_take]
  exact h i (by rw [List.length_take] at hi; omega)
theorem NmAt.drop {w : World} {g o : Nat} {a : List UInt8} {l : List It} (h : NmAt w g o a l) (k : Nat) (hk : k < l.length) : NmAt w g (o + (k + 1)) (l[k]).2 (l.drop (k + 1)) := ⟨h.2 k hk, fun i hi => by
  rw [List.getElem_drop]
  have h1 := h.2 (k + 1 + i) (by rw [List.length_drop] at hi; omega)
  rw [show o + (k + 1 + i + 1) = o + (k + 1) + (i + 1) by omega] at h1
  exact h1⟩
theorem BtAt.drop {w : World} {g o : Nat} {l : List It} (h : BtAt w g o l) (k : Nat) : BtAt w g (o + (k + 1)) (l.drop (k + 1)) := fun i hi => by
  rw [List.getElem_drop]
  have h1 := h (k + 1 + i) (by rw [List.length_drop] at hi; omega)
  rw [show o + (k + 1 + i) = o + (k + 1) + i by omega] at h1
  exact h1
def CutP (w : World) (t : List UInt8) (e : Ending) (w' : World) : Prop := e = .returned (.string ⟨t.toArray⟩) ∧ ∃ m, w' = w.drewN m
theorem cut_nil (f : Nat) (a t : List UInt8) (g1 o1 c1 : Nat) (p2 : Option Addr) (c2 : Nat) (w : World) (ht : prF f (cutT a []) = some t) (hn : NmAt w g1 o1 a []) : Calls Tryz.prog 13 #[.slice (some ⟨g1, o1, none⟩) 1 c1, .slice p2 0 c2] w (CutP w t) := by
  have e := pr_v f a t ht
  subst e
  have c0 := hn.1
  clear hn ht
  go_enter Tryz.func13, Tryz.ntmps13
  go_wp2
  go_ret
  exact ⟨rfl, 0, rfl⟩
theorem wk_next (l : List It) (i : Nat) (hi : i < l.length) (h0 : 0 < i) : ∃ h : wk (l.take i) < i, wk (l.take (i + 1)) = if rank l[i] ≤ rank (l[wk (l.take i)]'(by omega)) then i else wk (l.take i) := by
  have hl2 : (l.take i).length = i := by rw [List.length_take]; omega
  have hne : l.take i ≠ [] := fun e => by rw [e] at hl2; simp at hl2; omega
  have hk := wk_lt _ hne
  rw [hl2] at hk
  refine ⟨hk, ?_⟩
  rw [List.take_succ_eq_append_getElem hi, wk_snoc _ _ hne]
  have e1 : (l.take i)[wk (l.take i)]? = some (l[wk (l.take i)]'(by omega)) := by rw [List.getElem?_take_of_lt hk, List.getElem?_eq_getElem]
  rw [e1, Option.getD_some, hl2]
set_option maxRecDepth 100000 in
set_option maxHeartbeats 4000000 in
theorem cut_any : ∀ (n : Nat) (l : List It) (f : Nat) (a t : List UInt8) (g1 o1 c1 : Nat) (p2 : Option Addr) (c2 : Nat) (w : World), l.length = n → n ≤ 100 → (∀ x ∈ l, SgOk x.1) → NmAt w g1 o1 a l → n + 1 ≤ c1 → c1 ≤ 9223372036854775807 → n ≤ c2 → c2 ≤ 9223372036854775807 → (n ≠ 0 → ∃ g2 o2, p2 = some ⟨g2, o2, none⟩ ∧ BtAt w g2 o2 l) → prF f (cutT a l) = some t → t.length ≤ 5000 → Calls Tryz.prog 13 #[.slice (some ⟨g1, o1, none⟩) (n + 1) c1, .slice p2 n c2] w (CutP w t) := by
  intro n
  induction n using Nat.strongRecOn with
  | _ n IH =>
    intro l f a t g1 o1 c1 p2 c2 w hl hn hs hN h1 h1' h2 h2' hB0 ht htl
    by_cases hz : n = 0
    · subst hz
      obtain rfl := List.length_eq_zero_iff.1 hl
      exact cut_nil f a t g1 o1 c1 p2 c2 w ht hN
    obtain ⟨g2, o2, rfl, hB⟩ := hB0 hz
    clear hB0
    have hne : l ≠ [] := fun e => hz (by rw [← hl, e]; rfl)
    have HB := hid hB
    have HN := hid hN
    have HS := hid hs
    have HL : Hid (l.length = n) := hl
    have IHH := hid IH
    have HT := hid ht
    have HNE := hid hne
    have n0 : (0 : Int) < n := by omega
    have n1 : ¬ ((n : Int) = 0) := by omega
    have i1 : (n : Int) ≤ 100 := by omega
    clear hB hN hs hl IH ht hne
    go_enter Tryz.func13, Tryz.ntmps13
    go_wp2
    go_loopw [5, 6] (fun v5 v6 wr => ∃ i : Nat, 1 ≤ i ∧ i ≤ n ∧ v6 = .int .i64 i ∧ v5 = .int .i64 (wk (l.take i)) ∧ ∃ m, wr = w.drewN m) (fun _ v6 _ => n - (intOf v6).toNat)
    case atStart =>
      refine ⟨1, Nat.le_refl _, by omega, rfl, ?_, 0, rfl⟩
      match l, HNE.out with
      | x :: r, _ => rfl
    case round =>
      obtain ⟨i, hi1, hin, rfl, rfl, m, hm⟩ := hrel
      have HM := hid hm
      have HC : Hid (∀ ad, wr.cell? ad = w.cell? ad) := fun ad => by rw [HM.out]; rfl
      clear hm
      have j0 : (0 : Int) ≤ i := by omega
      have hkl : wk (l.take i) < i := by
        have h := wk_lt (l.take i) (by intro e; have h2 := congrArg List.length e; rw [List.length_take, HL.out] at h2; simp at h2; omega)
        rw [List.length_take] at h
        omega
      have k1 : ((wk (l.take i) : Nat) : Int) < n := by omega
      by_cases hlt : i < n
      · have j1 : (i : Int) < n := by omega
        have b1 := (HC.out _).trans (HB.out i (by rw [HL.out]; exact hlt))
        have b2 := (HC.out _).trans (HB.out (wk (l.take i)) (by rw [HL.out]; omega))
        have R1 := HS.out _ (List.getElem_mem (show i < l.length by rw [HL.out]; exact hlt))
        have R2 := HS.out _ (List.getElem_mem (show wk (l.take i) < l.length by rw [HL.out]; omega))
        obtain ⟨_, WS⟩ := wk_next l i (by rw [HL.out]; exact hlt) (by omega)
        unfold rank at WS
        generalize hx1 : (l[i]'(by rw [HL.out]; exact hlt)).1 = s1 at b1 R1 WS
        generalize hx2 : (l[wk (l.take i)]'(by rw [HL.out]; omega)).1 = s2 at b2 R2 WS
        clear hx1 hx2
        generalize wk (l.take i) = k at *
        have WS := hid WS
        have kz : (0 : Int) ≤ k := by omega
        by_cases hc : rankN s1 ≤ rankN s2
        · have hc' : (rankN s1 : Int) ≤ rankN s2 := by omega
          go_wp2
          go_quiet ((go_at_call 26; exact Calls.quiet_of_same (ranks_any _ (by assumption) _)))
          go_wp2
          go_roundw
          case rel => exact ⟨i + 1, by omega, by omega, by go_num, by rw [WS.out, if_pos hc], m + nq, by rw [HM.out, World.drewN_drewN]⟩
          case measure => simp [intOf]; omega
        · have hc' : ¬ (rankN s1 : Int) ≤ rankN s2 := by omega
          go_wp2
          go_quiet ((go_at_call 26; exact Calls.quiet_of_same (ranks_any _ (by assumption) _)))
          go_wp2
          go_roundw
          case rel =>
            simp only [show ((n : Int) == 0) = false by simpa using n1]
            exact ⟨_, .int .i64 ((i : Int) + 1), _, _, _, _, _, _, _, _, _, _, _, _, _, _, _, _, _, _, ⟨i + 1, by omega, by omega, by go_num, by rw [WS.out, if_neg hc], m + nq, by rw [HM.out, World.drewN_drewN]⟩, rfl⟩
          case measure => simp [intOf]; omega
      · have hin' : i = n := by omega
        subst hin'
        have j1 : ¬ (i : Int) < i := by omega
        have TK : l.take i = l := List.take_of_length_le (by rw [HL.out]; exact Nat.le_refl _)
        rw [TK] at hkl k1 ⊢
        have HCT := HT.out
        rw [cutT_at a l HNE.out] at HCT
        obtain ⟨f', t1, t2, hf, ht1, ht2, hteq⟩ := pr_b _ _ _ _ _ HCT
        have b1 := (HC.out _).trans (HB.out (wk l) (by rw [HL.out]; omega))
        have hkl' := wk_lt l HNE.out
        have z1 : (⟨t1.toArray⟩ : ByteArray).size ≤ 5000 := by show t1.length ≤ 5000; rw [hteq] at htl; simp at htl; omega
        have z2 : (⟨t2.toArray⟩ : ByteArray).size ≤ 5000 := by show t2.length ≤ 5000; rw [hteq] at htl; simp at htl; omega
        have z3 : (⟨(l[wk l]'(wk_lt l HNE.out)).1.toArray⟩ : ByteArray).size ≤ 5000 := by show (l[wk l]'(wk_lt l HNE.out)).1.length ≤ 5000; rw [hteq] at htl; simp at htl; omega
        have hkk : wk l < i := hkl
        have C1 : Hid (∀ x, Calls Tryz.prog 13 #[.slice (some ⟨g1, o1, none⟩) (wk l + 1) c1, .slice (some ⟨g2, o2, none⟩) (wk l) c2] (wr.drewN x) fun e w' => e = .returned (.string ⟨t1.toArray⟩) ∧ ∃ m, w' = (wr.drewN x).drewN m) := fun x =>
          IHH.out (wk l) hkk (l.take (wk l)) f' a t1 g1 o1 c1 _ c2 (wr.drewN x) (by rw [List.length_take, HL.out]; omega) (by omega) (fun u hu => HS.out u (List.mem_of_mem_take hu)) (NmAt.take (HN.out.same (fun ad => HC.out ad)) _) (by omega) h1' (by omega) h2' (fun _ => ⟨g2, o2, rfl, BtAt.take (HB.out.same (fun ad => HC.out ad)) _⟩) ht1 z1
        have C2 : Hid (∀ x, Calls Tryz.prog 13 #[.slice (some ⟨g1, o1 + (wk l + 1), none⟩) (i - wk l) (c1 - (wk l + 1)), .slice (if c2 = wk l + 1 then some ⟨g2, o2, none⟩ else some ⟨g2, o2 + (wk l + 1), none⟩) (i - (wk l + 1)) (c2 - (wk l + 1))] (wr.drewN x) fun e w' => e = .returned (.string ⟨t2.toArray⟩) ∧ ∃ m, w' = (wr.drewN x).drewN m) := fun x => by
          have h := IHH.out (i - (wk l + 1)) (by omega) (l.drop (wk l + 1)) f' (l[wk l]'(wk_lt l HNE.out)).2 t2 g1 (o1 + (wk l + 1)) (c1 - (wk l + 1)) (if c2 = wk l + 1 then some ⟨g2, o2, none⟩ else some ⟨g2, o2 + (wk l + 1), none⟩) (c2 - (wk l + 1)) (wr.drewN x) (by rw [List.length_drop, HL.out]) (by omega) (fun u hu => HS.out u (List.mem_of_mem_drop hu)) (NmAt.drop (HN.out.same (fun ad => HC.out ad)) _ (wk_lt l HNE.out)) (by omega) (by omega) (by omega) (by omega) (fun h0 => ⟨g2, o2 + (wk l + 1), by rw [if_neg (by omega)], BtAt.drop (HB.out.same (fun ad => HC.out ad)) _⟩) ht2 z2
          rw [show i - (wk l + 1) + 1 = i - wk l by omega] at h
          exact h
        clear HCT TK ht1 ht2
        generalize hy : (l[wk l]'(wk_lt l HNE.out)) = y at b1 hteq z3
        clear hy hkl'
        have HQ : Hid (⟨t.toArray⟩ = (⟨#[40]⟩ : ByteArray) ++ ⟨t1.toArray⟩ ++ ⟨#[32]⟩ ++ ⟨y.1.toArray⟩ ++ ⟨#[32]⟩ ++ ⟨t2.toArray⟩ ++ ⟨#[41]⟩) := by
          show _ = _
          rw [hteq]
          apply ByteArray.ext
          simp [List.append_assoc]
        clear hteq
        generalize (⟨t1.toArray⟩ : ByteArray) = T1 at *
        generalize (⟨t2.toArray⟩ : ByteArray) = T2 at *
        generalize (⟨y.1.toArray⟩ : ByteArray) = SG at *
        generalize wk l = k at *
        have kz : (0 : Int) ≤ k := by omega
        go_wp2
        clear IHH
        have q0 : (⟨#[40]⟩ : ByteArray).size = 1 ∧ (⟨#[32]⟩ : ByteArray).size = 1 ∧ (⟨#[41]⟩ : ByteArray).size = 1 := ⟨rfl, rfl, rfl⟩
        obtain ⟨q01, q02, q03⟩ := q0
        have q1 : (0 : Int) ≤ (k : Int) + 1 := by omega
        have q2 : (k : Int) + 1 ≤ (c1 : Int) := by omega
        have q3 : (k : Int) ≤ (c2 : Int) := by omega
        have q4 : (k : Int) + 1 ≤ (i : Int) + 1 := by omega
        have q5 : (k : Int) + 1 ≤ (i : Int) := by omega
        have q6 : (k : Int) + 1 ≤ (c2 : Int) := by omega
        have q7 : k + 1 ≤ c1 := by omega
        have q8 : k ≤ c2 := by omega
        have hw1 : IntKind.i64.wrap ((k : Int) + 1) = (k : Int) + 1 := IntWalk.i64_in _ (by omega)
        go_quiet (first
          | (go_at_call_of 13 (⟨g1, o1, none⟩ : Addr); exact Calls.quiet_of (C1.out _))
          | (go_at_call 13; exact Calls.quiet_of (C2.out _)))
        all_goals go_wp2
        all_goals go_ret
        all_goals exact ⟨congrArg (fun z => Ending.returned (.string z)) HQ.out.symm, m + nq, by rw [HM.out, World.drewN_drewN]⟩
end Rk
end Go.Proofs.YtajoncmmdeahnaaGreatDoor
namespace Go.Proofs.YtajoncmmdeahnaaGreatDoor
namespace Rk
open Pm Pt Go.RowKit
def lW : List UInt8 := [102, 117, 110, 99, 32, 102, 40, 97, 32, 105, 110, 116, 41, 32, 105, 110, 116, 32, 123, 32, 114, 101, 116, 117, 114, 110, 32, 97, 32, 45, 32, 49, 32, 45, 32, 50, 32, 42, 32, 51, 59, 32, 125]
def prO (k : Nat) (l : List UInt8) : Option (List UInt8) := match Sc.parsL 60 l with
  | .ok n => prF k n
  | .error _ => none
theorem prO_ok {k : Nat} {l t : List UInt8} (h : prO k l = some t) : ∃ n, Sc.parsL 60 l = .ok n ∧ prF k n = some t := by
  unfold prO at h
  cases hp : Sc.parsL 60 l with
  | ok n => rw [hp] at h; exact ⟨n, rfl, h⟩
  | error e => rw [hp] at h; cases h
theorem awake_says : prO 20 lW = some [102, 117, 110, 99, 32, 102, 40, 97, 32, 105, 110, 116, 41, 32, 105, 110, 116, 32, 123, 32, 114, 101, 116, 117, 114, 110, 32, 40, 40, 97, 32, 45, 32, 49, 41, 32, 45, 32, 40, 50, 32, 42, 32, 51, 41, 41, 59, 32, 125, 10] := by kernel_rfl
set_option maxRecDepth 100000 in
set_option maxHeartbeats 2000000 in
theorem awake_any (w : World) (hG : GlB w w.heap.size) : Calls Tryz.prog 10 #[] w (Sc.TrueP w) := by
  obtain ⟨n, hn, hp⟩ := prO_ok awake_says
  have CA := hid (Sc.parse_closed 60 lW n w (by decide) hG hn)
  have G0 := hid (grown_refl w none)
  have CP : Hid (∀ W (Q : Nat → Prop) ps cp, KsV W Q (.slice ps n.kids.length cp) n.kids → Calls Tryz.prog 12 #[.agg #[.int .i64 n.kind, .int .i64 n.ty, .string n.txt, .int .i64 n.num, .slice ps n.kids.length cp]] W fun e w' => e = .returned (.string ⟨#[102, 117, 110, 99, 32, 102, 40, 97, 32, 105, 110, 116, 41, 32, 105, 110, 116, 32, 123, 32, 114, 101, 116, 117, 114, 110, 32, 40, 40, 97, 32, 45, 32, 49, 41, 32, 45, 32, 40, 50, 32, 42, 32, 51, 41, 41, 59, 32, 125, 10]⟩) ∧ W.grownBy w' none) := fun W Q ps cp hk => print_any Q 20 n _ _ W hp (by simp) (by decide) ⟨_, rfl, hk⟩
  clear hG hn hp
  go_enter Tryz.func10, Tryz.ntmps10
  go_wp2_with (first
    | (go_at_call 9; refine CA.out.mono ?_; rintro e w1 ⟨ps, cp, rfl, hk, hg⟩; have G1 := hid (grown_alloc (grown_none G0.out hg) (.cells #[.int .i64 n.kind, .int .i64 n.ty, .string n.txt, .int .i64 n.num, .slice ps n.kids.length cp] 27)); have C12 := hid (CP.out _ _ ps cp (hk.kept (grown_alloc (grown_refl _ none) (.cells #[.int .i64 n.kind, .int .i64 n.ty, .string n.txt, .int .i64 n.num, .slice ps n.kids.length cp] 27)))); clear CA hk hg)
    | (go_at_call 12; refine C12.out.mono ?_; rintro e w2 ⟨rfl, hg⟩; have G2 := hid (grown_none G1.out hg); clear C12 hg))
  go_ret
  exact ⟨rfl, G2.out⟩
end Rk
end Go.Proofs.YtajoncmmdeahnaaGreatDoor
