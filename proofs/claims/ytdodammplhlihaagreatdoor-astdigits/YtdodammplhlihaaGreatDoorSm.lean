/-
  Same: are two trees the same?
-/
import Derived.Test.YtdodammplhlihaaGreatDoorCl
namespace Go.Proofs.YtdodammplhlihaaGreatDoor.Tr
open Go.RowKit
mutual
def Nd.eqB : Nd → Nd → Bool
  | .mk k t s n ks, .mk k' t' s' n' ks' => k == k' && (t == t' && (s.toList == s'.toList && (n == n' && Nd.eqLB ks ks')))
def Nd.eqLB : List Nd → List Nd → Bool
  | [], [] => true
  | x :: r, y :: r' => Nd.eqB x y && Nd.eqLB r r'
  | [], _ :: _ => false
  | _ :: _, [] => false
end
theorem bytes_inj {a b : ByteArray} (h : a.toList = b.toList) : a = b := by
  rw [ByteArray.toList_eq, ByteArray.toList_eq] at h
  exact ByteArray.ext (Array.toList_inj.1 h)
mutual
theorem Nd.eqB_iff : ∀ x y : Nd, Nd.eqB x y = true ↔ x = y
  | .mk k t s n ks, .mk k' t' s' n' ks' => by
    rw [Nd.eqB]
    simp only [Bool.and_eq_true, beq_iff_eq, Nd.eqLB_iff ks ks']
    constructor
    · rintro ⟨rfl, rfl, h, rfl, rfl⟩
      rw [bytes_inj h]
    · intro h
      injection h with h1 h2 h3 h4 h5
      subst h1 h2 h3 h4 h5
      exact ⟨rfl, rfl, rfl, rfl, rfl⟩
theorem Nd.eqLB_iff : ∀ x y : List Nd, Nd.eqLB x y = true ↔ x = y
  | [], [] => by rw [Nd.eqLB]; simp
  | x :: r, y :: r' => by
    rw [Nd.eqLB]
    simp only [Bool.and_eq_true, Nd.eqB_iff x y, Nd.eqLB_iff r r', List.cons.injEq]
  | [], _ :: _ => by rw [Nd.eqLB]; simp
  | _ :: _, [] => by rw [Nd.eqLB]; simp
end
theorem Nd.eqLB_len {x y : List Nd} (h : x.length ≠ y.length) : Nd.eqLB x y = false := by
  cases e : Nd.eqLB x y with
  | false => rfl
  | true => exact absurd (by rw [(Nd.eqLB_iff x y).1 e]) h
theorem Nd.eqLB_step (x y : List Nd) (j : Nat) (h : j < x.length) (h' : j < y.length) : Nd.eqLB (x.drop j) (y.drop j) = (Nd.eqB x[j] y[j] && Nd.eqLB (x.drop (j + 1)) (y.drop (j + 1))) := by
  rw [List.drop_eq_getElem_cons h, List.drop_eq_getElem_cons h', Nd.eqLB]
theorem ret_bool {a b : Bool} (h : a = b) : Ending.returned (.bool a) = .returned (.bool b) := by rw [h]
def SameP (w : World) (b : Bool) (e : Ending) (w' : World) : Prop := e = .returned (.bool b) ∧ w.grownBy w' none
set_option maxRecDepth 100000 in
set_option maxHeartbeats 1000000 in
theorem equalFunc_any (P Q : Nat → Prop) (ks ls : List Nd) (q r : Value) (w : World) (hk : KsV w P q ks) (hl : KsV w Q r ls) (hn : ks.length ≤ 255) (hn' : ls.length ≤ 255)
    (ih : ∀ y ∈ ks, ∀ z ∈ ls, ∀ (v u : Value) (W : World), NdV W P v y → NdV W Q u z → Calls Tryz.prog 24 #[v, u] W (SameP W (Nd.eqB y z))) :
    Calls Tryz.prog 43 #[q, r, .func (.func 24) #[] #[]] w (SameP w (Nd.eqLB ks ls)) := by
  have IH := hid ih
  have HK := hid hk
  have HL := hid hl
  obtain ⟨p1, c1, e1, _⟩ := hk.form
  obtain ⟨p2, c2, e2, _⟩ := hl.form
  subst e1 e2
  obtain ⟨n, en⟩ : ∃ n, ks.length = n := ⟨_, rfl⟩
  obtain ⟨m, em⟩ : ∃ m, ls.length = m := ⟨_, rfl⟩
  have EN := hid en
  have EM := hid em
  rw [en] at hn HK ⊢
  rw [em] at hn' HL ⊢
  clear ih hk hl en em
  have i1 : (n : Int) ≤ 255 := by omega
  have i2 : (m : Int) ≤ 255 := by omega
  by_cases hne : n = m
  · subst hne
    have t1 : ((n : Int) != n) = false := by simp
    go_enter Tryz.func43, Tryz.ntmps43
    go_wp2
    go_loopw [17] (fun i wr => ∃ j : Nat, j ≤ n ∧ i = .int .i64 j ∧ w.grownBy wr none ∧ Hid (Nd.eqLB ks ls = Nd.eqLB (ks.drop j) (ls.drop j))) (fun i _ => n - (intOf i).toNat)
    case atStart => exact ⟨0, Nat.zero_le _, rfl, grown_refl _ _, by rw [List.drop_zero, List.drop_zero]; exact rfl⟩
    case round =>
      obtain ⟨j, hj, rfl, hg, hd⟩ := hrel
      have G := hid hg
      have j0 : (0 : Int) ≤ j := by omega
      by_cases hlt : j < n
      · have j1 : (j : Int) < n := by omega
        have hk1 : j < ks.length := by rw [EN.out]; exact hlt
        have hl1 : j < ls.length := by rw [EM.out]; exact hlt
        obtain ⟨ga, ea, _, ha⟩ := (HK.out.kept hg).at j hk1
        obtain ⟨gb, eb, _, hb⟩ := (HL.out.kept hg).at j hl1
        subst ea eb
        obtain ⟨qa, a0, a1, a2, a3, a4, hqa⟩ := ha.cells
        obtain ⟨qb, b0, b1, b2, b3, b4, hqb⟩ := hb.cells
        rw [Nat.mul_comm 5 j] at a0 a1 a2 a3 a4 b0 b1 b2 b3 b4
        have CC : Hid (∀ W, wr.grownBy W none → Calls Tryz.prog 24 #[.agg #[.int .i64 (ks[j]).kind, .int .i64 (ks[j]).ty, .string (ks[j]).txt, .int .i64 (ks[j]).num, qa], .agg #[.int .i64 (ls[j]).kind, .int .i64 (ls[j]).ty, .string (ls[j]).txt, .int .i64 (ls[j]).num, qb]] W (SameP W (Nd.eqB ks[j] ls[j]))) :=
          fun W hW => IH.out _ (List.getElem_mem hk1) _ (List.getElem_mem hl1) _ _ W ⟨qa, rfl, hqa.kept hW⟩ ⟨qb, rfl, hqb.kept hW⟩
        have ST := hid (Nd.eqLB_step ks ls j hk1 hl1)
        obtain ⟨pa, ca, xa, _⟩ := hqa.form
        obtain ⟨pb, cb, xb, _⟩ := hqb.form
        subst xa xb
        have la := cell_lt a0
        have lb := cell_lt b0
        generalize (ks[j]).kids.length = na at *
        generalize (ls[j]).kids.length = nb at *
        generalize (ks[j]).kind = ka at *
        generalize (ls[j]).kind = kb at *
        generalize (ks[j]).ty = ta at *
        generalize (ls[j]).ty = tb at *
        generalize (ks[j]).txt = sa at *
        generalize (ls[j]).txt = sb at *
        generalize (ks[j]).num = ma at *
        generalize (ls[j]).num = mb at *
        generalize Nd.eqB ks[j] ls[j] = B at *
        clear hg ha hb hqa hqb IH HK HL
        cases B with
        | true =>
          go_wp2_with (go_at_call 24; refine (CC.out _ ?gr).mono ?_; (case gr => exact grown_alloc (grown_alloc (grown_refl _ _) _) _); rintro e w2 ⟨rfl, hg2⟩; have G2 := hid (grown_none (grown_alloc (grown_alloc (grown_refl wr none) _) _) hg2); clear hg2 CC)
          go_roundw
          case rel => exact ⟨j + 1, by omega, by go_num, grown_none G.out G2.out, by rw [hd.out, ST.out, Bool.true_and]; exact rfl⟩
          case measure => simp [intOf]; omega
        | false =>
          go_wp2_with (go_at_call 24; refine (CC.out _ ?gr).mono ?_; (case gr => exact grown_alloc (grown_alloc (grown_refl _ _) _) _); rintro e w2 ⟨rfl, hg2⟩; have G2 := hid (grown_none (grown_alloc (grown_alloc (grown_refl wr none) _) _) hg2); clear hg2 CC)
          go_ret
          exact ⟨ret_bool (by rw [hd.out, ST.out, Bool.false_and]), grown_none G.out G2.out⟩
      · have j1 : ¬ (j : Int) < n := by omega
        go_wp2
        go_ret
        exact ⟨ret_bool (by rw [hd.out, List.drop_of_length_le (by rw [EN.out]; omega), List.drop_of_length_le (by rw [EM.out]; omega), Nd.eqLB]), G.out⟩
  · have t1 : ((n : Int) != m) = true := by simp; omega
    have FF := hid (Nd.eqLB_len (x := ks) (y := ls) (by rw [EN.out, EM.out]; exact hne))
    clear hne
    go_enter Tryz.func43, Tryz.ntmps43
    go_wp2
    go_ret
    exact ⟨ret_bool (by rw [FF.out]), grown_refl _ _⟩
set_option maxRecDepth 100000 in
set_option maxHeartbeats 1000000 in
theorem same_step (k t k' t' : Int) (s s' : ByteArray) (n n' : Int) (q q' : Value) (B : Bool) (w : World) (fq : ∃ p m c, q = .slice p m c) (fq' : ∃ p m c, q' = .slice p m c)
    (hc : ∀ W, w.grownBy W none → Calls Tryz.prog 43 #[q, q', .func (.func 24) #[] #[]] W (SameP W B)) :
    Calls Tryz.prog 24 #[.agg #[.int .i64 k, .int .i64 t, .string s, .int .i64 n, q], .agg #[.int .i64 k', .int .i64 t', .string s', .int .i64 n', q']] w (SameP w (k == k' && (t == t' && (s.toList == s'.toList && (n == n' && B))))) := by
  have HC := hid hc
  clear hc
  obtain ⟨p1, m1, c1, rfl⟩ := fq
  obtain ⟨p2, m2, c2, rfl⟩ := fq'
  cases h1 : (k == k') with
  | false =>
    go_enter Tryz.func24, Tryz.ntmps24
    go_wp2
    go_ret
    exact ⟨ret_bool (by simp), grown_alloc (grown_alloc (grown_refl _ _) _) _⟩
  | true =>
    cases h2 : (t == t') with
    | false =>
      go_enter Tryz.func24, Tryz.ntmps24
      go_wp2
      go_ret
      exact ⟨ret_bool (by simp), grown_alloc (grown_alloc (grown_refl _ _) _) _⟩
    | true =>
      cases h3 : (s.toList == s'.toList) with
      | false =>
        go_enter Tryz.func24, Tryz.ntmps24
        go_wp2
        go_ret
        exact ⟨ret_bool (by simp), grown_alloc (grown_alloc (grown_refl _ _) _) _⟩
      | true =>
        cases h4 : (n == n') with
        | false =>
          go_enter Tryz.func24, Tryz.ntmps24
          go_wp2
          go_ret
          exact ⟨ret_bool (by simp), grown_alloc (grown_alloc (grown_refl _ _) _) _⟩
        | true =>
          go_enter Tryz.func24, Tryz.ntmps24
          go_wp2_with (go_at_call 43; refine (HC.out _ ?gr).mono ?_; (case gr => exact grown_alloc (grown_alloc (grown_refl _ _) _) _); rintro e w2 ⟨rfl, hg2⟩; have G2 := hid (grown_none (grown_alloc (grown_alloc (grown_refl w none) _) _) hg2); clear hg2 HC)
          go_ret
          exact ⟨ret_bool (by simp), G2.out⟩
/-- Same answers whether two trees are the same. -/
theorem same_any (P Q : Nat → Prop) : ∀ (x : Nd), x.ok → ∀ (y : Nd), y.ok → ∀ (v u : Value) (w : World), NdV w P v x → NdV w Q u y → Calls Tryz.prog 24 #[v, u] w (SameP w (Nd.eqB x y)) := by
  refine Nd.indA ?_
  intro k t s n ks ih hok y hoy v u w ⟨q, hv, hk⟩ ⟨r, hu, hl⟩
  subst hv hu
  cases y with
  | mk k' t' s' n' ls =>
    obtain ⟨p1, c1, e1, _⟩ := hk.form
    obtain ⟨p2, c2, e2, _⟩ := hl.form
    rw [Nd.eqB]
    refine same_step k t k' t' s s' n n' q r _ w ⟨_, _, _, e1⟩ ⟨_, _, _, e2⟩ (fun W hW => equalFunc_any P Q ks ls q r W (hk.kept hW) (hl.kept hW) hok.2.1 hoy.2.1 (fun y hy z hz v u W h1 h2 => ih y hy (Nd.oks_mem hok.2.2 y hy) z (Nd.oks_mem hoy.2.2 z hz) v u W h1 h2))
end Go.Proofs.YtdodammplhlihaaGreatDoor.Tr
