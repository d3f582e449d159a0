/-
  All: all nodes of a tree as it is at the call, each with its place, as an iterator.
-/
import Derived.Test.YtdodammplhlihaaDoorVn
import Derived.Test.YtdodammplhlihaaDoorRg
import Derived.Sort.CutIn
namespace Go.Proofs.YtdodammplhlihaaDoor
open Go.RowKit Go.Maps Go.Shelf
attribute [local go_sem] Oper.semAt_some
def EncS (sp : List Sp) (k : Nat) (_ : World) (args : Array Value) : Prop := ∃ h : k < sp.length, args = #[.int .i64 k, .pointer (some ⟨(sp[k]).g, (sp[k]).o, none⟩)]
set_option maxRecDepth 100000 in
set_option maxHeartbeats 1000000 in
theorem spots_seq (n Bc g : Nat) (P : Nat → Prop) (w : World) (x : Nd) (hok : x.ok) (hN : x.cnt ≤ 100000) (hP : ∀ b, P b → b < w.heap.size) (hg : P g) (hc : w.cell? ⟨Bc, 0, none⟩ = some (.pointer (some ⟨g, 0, none⟩))) (hat : NdAt w P g 0 x) :
    SeqN Tryd.prog n 43 #[.pointer (some ⟨Bc, 0, none⟩)] (EncS (spN w g 0 x)) (KQ P) x.cnt w := by
  intro l J W hW _ _ hY h0
  have hl := spN_len w g 0 x
  have hv := visitN l P w (spN w g 0 x) (by omega) W.heap.size J (fun m k hk W1 hj => (hY m k _ W1 (by omega) hj ⟨hk, rfl⟩).mono (fun e W' h => ⟨h.1, h.2.1, h.2.2⟩)) x hok 0 g 0 hat hg (fun i _ => by rw [Nat.zero_add]) (by omega) (n - 1) W (fun b hb => hW.block b (hP b hb)) h0
  have HV := hid hv
  have c0 : W.cell? ⟨Bc, 0, none⟩ = some (.pointer (some ⟨g, 0, none⟩)) := (World.cell?_of_block (hW.block Bc (cell_lt hc))).trans hc
  clear hv hY hW h0 hat hc
  have hdd : ∀ k : Nat, (Fence.wide.depth.isSome = true → 1 ≤ k) := fun k h => by cases h
  refine callsIn_of_wp Tryd.func43 rfl trivial ?_ rfl
  simp only [Tryd.ntmps43, List.size_toArray, List.length_cons, List.length_nil, Nat.reduceAdd, Nat.reduceSub, Array.replicate_succ, Array.replicate_zero, List.push_toArray, List.append_toArray, List.nil_append, List.cons_append]
  gi_wp2_with (first | (refine ⟨trivial, hdd _, ?_⟩; gi_at_call 44; refine HV.out.mono ?_; clear HV; rintro e W1 ⟨rfl, hJ1, _⟩) | (refine ⟨trivial, ?_⟩; gi_at_call 44; refine HV.out.mono ?_; clear HV; rintro e W1 ⟨rfl, hJ1, _⟩))
  go_end0
  exact ⟨⟨_, rfl⟩, by rw [Nat.zero_add] at hJ1; exact hJ1⟩
def AllP (w : World) (x : Nd) (e : Ending) (w' : World) : Prop := ∃ Bo, e = .returned (.func (.func 45) #[] #[.pointer (some ⟨Bo, 0, none⟩)]) ∧ w.heap.size ≤ Bo ∧ Bo < w'.heap.size ∧ NdAt w' (fun b => w.heap.size ≤ b ∧ b < w'.heap.size) Bo 0 x ∧ w.grownBy w' none
set_option maxRecDepth 100000 in
set_option maxHeartbeats 1000000 in
theorem all_mk (P0 : Nat → Prop) (x : Nd) (hok : x.ok) (v : Value) (w : World) (hv : NdV w P0 v x) : Calls Tryd.prog 30 #[v] w (AllP w x) := by
  obtain ⟨q, rfl, hk⟩ := hv
  obtain ⟨p, cap, eq, _⟩ := hk.form
  subst eq
  have CC : Hid (∀ W, w.grownBy W none → Calls Tryd.prog 20 #[.agg #[.int .i64 x.kind, .int .i64 x.ty, .string x.txt, .int .i64 x.num, .slice p x.kids.length cap]] W (CloneP W x)) := fun W hW => cloneT_any _ x hok _ W ⟨_, rfl, hk.kept hW⟩
  clear hk
  go_enter Tryd.func30, Tryd.ntmps30
  go_wp2_with (go_at_call 20; refine (CC.out _ ?gr).mono ?_; (case gr => exact grown_alloc (grown_refl w none) _); rintro e w2 ⟨q2, rfl, ⟨hk2, _⟩, hg2⟩; obtain ⟨p2, cap2, e2, _⟩ := hk2.form; subst e2; have K2 := hid hk2; have G2 := hid hg2; clear hk2 hg2 CC)
  go_ret
  have g2 : w.grownBy w2 none := grown_none (grown_alloc (grown_refl w none) _) G2.out
  have g3 : w2.grownBy (w2.alloc (.cells #[.int .i64 x.kind, .int .i64 x.ty, .string x.txt, .int .i64 x.num, .slice p2 x.kids.length cap2] 24)) none := grown_alloc (grown_refl w2 none) _
  refine ⟨w2.heap.size, rfl, g2.size, by simp, ?_, grown_none g2 g3⟩
  have hB := Blk.new w2 24 #[.int .i64 x.kind, .int .i64 x.ty, .string x.txt, .int .i64 x.num, .slice p2 x.kids.length cap2]
  refine NdAt.mk (by rw [hB.cell]; rfl) (by rw [hB.cell]; rfl) (by rw [hB.cell]; rfl) (by rw [hB.cell]; rfl) (by rw [hB.cell]; rfl) (K2.out.keptP (Kp.of_none _ g3) (fun b hb hlt => ⟨?_, ?_⟩))
  · rw [World.size_alloc] at hb; omega
  · rw [World.size_alloc]; omega
def EncA (x : Nd) (k : Nat) (W : World) (args : Array Value) : Prop := ∃ (h : k < x.all.length) (v : Value), args = #[.int .i64 k, v] ∧ NdV W (fun _ => True) v (x.all[k])
theorem stay_kc {B : Nat} {A A' : World} (h : Stay B A A') : KC A A' := fun b o v hv => h.cells b o v hv
theorem stay_drew (B : Nat) (A : World) : Stay B A A.drew := Stay.grown (grown_drew (grown_refl A none))
theorem encA_stay {x : Nd} {k B : Nat} {args : Array Value} {A A' : World} (h : EncA x k A args) (hs : Stay B A A') : EncA x k A' args := by
  obtain ⟨h1, v, h2, q, h3, h4⟩ := h
  exact ⟨h1, v, h2, q, h3, h4.keptC (stay_kc hs)⟩
theorem kq_stay {P : Nat → Prop} {B : Nat} {w A A' : World} (hP : ∀ b, P b → b < B ∧ b < w.heap.size) (h : KQ P w A) (hs : Stay B A A') : KQ P w A' := fun b hb => by
  have h1 := h b hb
  obtain ⟨o, ho⟩ : ∃ o, w.heap[b]? = some o := ⟨_, Array.getElem?_eq_getElem (hP b hb).2⟩
  rw [ho] at h1
  rw [ho]
  exact hs.same b o h1 (Or.inl (hP b hb).1)
theorem after_round {P : Nat → Prop} {B : Nat} {V w6 w7 : World} (hVP : ∀ b, P b → b < V.heap.size) (hg : V.drew.grownBy w6 none) (hq : KQ P w6 w7) (hf : Kf B w6 w7) : KQ P V w7 ∧ Kf B V w7 :=
  ⟨fun b hb => (hq b hb).trans (hg.block b (hVP b hb) (by simp)), Kf.trans ⟨hg.size, fun b _ h2 => hg.block b h2 (by simp)⟩ hf⟩
theorem encA_mk {x y : Nd} {k : Nat} {W : World} {P : Nat → Prop} {q : Value} (h : ∃ h : k < x.all.length, x.all[k] = y) (hq : KsV W P q y.kids) : EncA x k W #[.int .i64 k, .agg #[.int .i64 y.kind, .int .i64 y.ty, .string y.txt, .int .i64 y.num, q]] := by
  obtain ⟨h1, h2⟩ := h
  refine ⟨h1, _, rfl, q, ?_, ?_⟩
  · rw [h2]
  · rw [h2]; exact hq.mono (fun _ _ _ => trivial)
set_option maxRecDepth 100000 in
set_option maxHeartbeats 2000000 in
theorem all_seq (n Bo : Nat) (P : Nat → Prop) (w : World) (x : Nd) (hok : x.ok) (hN : x.cnt ≤ 100000) (hP : ∀ b, P b → b < w.heap.size) (hB : P Bo) (hat : NdAt w P Bo 0 x) :
    SeqN Tryd.prog n 45 #[.pointer (some ⟨Bo, 0, none⟩)] (EncA x) (KQ P) x.cnt w := by
  intro l J W hW hlW hJ hY h0
  have hWk : KQ P w W := fun b hb => hW.block b (hP b hb)
  have hws := hW.size
  have atW : NdAt W P Bo 0 x := hWk.node hat hB
  refine callsIn_of_wp_marks Tryd.func45 rfl trivial ?_ rfl
  simp only [Tryd.ntmps45, List.size_toArray, List.length_cons, List.length_nil, Nat.reduceAdd, Nat.reduceSub, Array.replicate_succ, Array.replicate_zero, List.push_toArray, List.append_toArray, List.nil_append, List.cons_append]
  refine wpIn_wide.2 ?_
  go_wp2_with (go_at_call 28; refine (spots_mk _ _).mono ?_; rintro e w3 ⟨rfl, hw3⟩; have hw4 := hw3.symm; clear hw3; subst hw4)
  have BY := (Blk.new W 95 #[.func (.yield l) #[] #[]]).alloc (.cells #[.pointer (some ⟨Bo, 0, none⟩)] 63)
  have BP := Blk.new (W.alloc (.cells #[.func (.yield l) #[] #[]] 95)) 63 #[.pointer (some ⟨Bo, 0, none⟩)]
  rw [World.size_alloc] at BP
  have g4 : W.grownBy ((W.alloc (.cells #[.func (.yield l) #[] #[]] 95)).alloc (.cells #[.pointer (some ⟨Bo, 0, none⟩)] 63)) none := grown_alloc (grown_alloc (grown_refl W none) _) _
  have S4 : ((W.alloc (.cells #[.func (.yield l) #[] #[]] 95)).alloc (.cells #[.pointer (some ⟨Bo, 0, none⟩)] 63)).heap.size = W.heap.size + 2 := by simp
  generalize (W.alloc (.cells #[.func (.yield l) #[] #[]] 95)).alloc (.cells #[.pointer (some ⟨Bo, 0, none⟩)] 63) = w4 at *
  have hP4 : ∀ b, P b → b < w4.heap.size ∧ b < w4.heap.size := fun b hb => by have := hP b hb; omega
  have kW4 : KQ P W w4 := fun b hb => g4.block b (by have := hP b hb; omega) (by simp)
  have at4 : NdAt w4 P Bo 0 x := kW4.node atW hB
  have L4 := spN_len w4 Bo 0 x
  have HAT := hid (spN_at at4 hB)
  have HOK : Hid (∀ s ∈ spN w4 Bo 0 x, s.x.ok) := fun s hs => Nd.all_ok hok s.x (by rw [← spN_all w4 Bo 0 x]; exact List.mem_map_of_mem hs)
  have HALL := hid (spN_all w4 Bo 0 x)
  have HJ := hid hJ
  have HY := hid hY
  refine (wpIn_wide (n := n)).1 ?_
  refine range_cnt (gf := 43) (lb := #[.pointer (some ⟨W.heap.size + 1, 0, none⟩)]) rfl (enters_of Tryd.func43 (by kernel_rfl) rfl) (spots_seq (n - 1) (W.heap.size + 1) Bo P w4 x hok hN (fun b hb => (hP4 b hb).1) hB (by rw [BP.cell]; rfl) at4)
    (fun h k => KQ.trans h k) (fun V o' b hb => World.putObj_heap_other (by have := hP4 b hb; omega)) (fun A B hA hg b hb => hg.block b (by have := hP4 b hb; omega) (by simp)) (fun k V args h => by obtain ⟨_, rfl⟩ := h; rfl) (fun k args A A' h _ => h)
    (fun k V => J k V ∧ KQ P w4 V ∧ Blk V W.heap.size 95 #[.func (.yield l) #[] #[]]) ?hI ?hstart (fun k args a' _ => a' = { tmps := #[.func (.yield l) #[] #[], .pointer (some ⟨Bo, 0, none⟩), .pointer (some ⟨W.heap.size, 0, none⟩), args[0]!, args[1]!, .func (.func 43) #[] #[.pointer (some ⟨W.heap.size + 1, 0, none⟩)], args[0]!, args[1]!, undef, undef, undef, undef, undef, undef, undef, undef], defers := [] }) (fun _ _ _ _ _ h _ => h) ?assign ?body ?done
  case hI =>
    rintro k A A' ⟨k1, k2, k3⟩ hs
    exact ⟨hJ k A A' k1 (hs.less (by omega)), kq_stay hP4 k2 hs, hs.same _ _ k3 (Or.inl (by omega))⟩
  case hstart => exact ⟨hJ _ _ _ h0 (Stay.grown g4), KQ.refl _ _, BY⟩
  case assign =>
    rintro m l1 k args V K _ ⟨hk, rfl⟩ hK
    gi_wp2
    exact hK _ _ (grown_refl _ _) rfl
  case body =>
    rintro m l1 k args a' V hl1 hk ⟨k1, k2, k3⟩ ⟨hk', rfl⟩ rfl
    have hsi := HAT.out _ (List.getElem_mem hk')
    have hyo := HOK.out _ (List.getElem_mem hk')
    have hka : k < x.all.length := by rw [Nd.all_len]; exact hk
    have hxa : x.all[k] = ((spN w4 Bo 0 x)[k]).x := by
      have h2 : (x.all)[k]? = ((spN w4 Bo 0 x).map Sp.x)[k]? := by rw [HALL.out]
      rw [List.getElem?_eq_getElem hka, List.getElem?_map, List.getElem?_eq_getElem hk'] at h2
      exact Option.some.inj h2
    generalize (spN w4 Bo 0 x)[k] = sy at *
    obtain ⟨g, o, y⟩ := sy
    have hnd : NdAt V P g o y := k2.node hsi.1 hsi.2
    obtain ⟨qy, d0, d1, d2, d3, d4, hky⟩ := hnd.cells
    have CC : Hid (Calls Tryd.prog 20 #[.agg #[.int .i64 y.kind, .int .i64 y.ty, .string y.txt, .int .i64 y.num, qy]] V.drew (CloneP V.drew y)) := cloneT_any P y hyo _ V.drew ⟨qy, rfl, hky.kept (grown_drew (grown_refl _ _))⟩
    obtain ⟨py, cy, ey, _⟩ := hky.form
    subst ey
    have hXA : x.all[k] = y := hxa
    have K1 := hid k1
    have K2 := hid k2
    have K3 := hid k3
    have zb : V.cell? ⟨W.heap.size, 0, none⟩ = some (.func (.yield l) #[] #[]) := by rw [k3.cell]; rfl
    have hdd : ∀ k : Nat, (Fence.wide.depth.isSome = true → 1 ≤ k) := fun k h => by cases h
    have HX := hid (show ∃ h : k < x.all.length, x.all[k] = y from ⟨hka, hXA⟩)
    have HK := hid hk
    have K3d : Hid (Blk V.drew W.heap.size 95 #[.func (.yield l) #[] #[]]) := K3.out
    have HVP : Hid (∀ b, P b → b < V.heap.size) := fun b hb => by have h1 := hP b hb; have h2 := K3.out.lt; omega
    have MX : Tryd.prog.follows .mixedOrders = true := by kernel_rfl
    clear hsi hyo hxa hXA hka hnd hky k1 k2 k3 HAT HOK HALL at4 L4 kW4 hJ hY h0 hWk atW hat hW hk hk'
    gi_wp2
    clear BY BP g4 hP4 hP hB hok hN hws hlW hl1
    gi_cut [15] from 8 (fun c15 Y => c15 = .bool false ∧ J (k + 1) Y ∧ KQ P V Y ∧ Kf W.heap.size V Y)
    case first =>
      gi_region_with_o (first
        | (refine ⟨trivial, hdd _, ?_⟩; gi_at_call 20; refine (CallsIn.inRound l1 (callsIn_wide.2 CC.out)).mono ?_; clear CC; rintro e w6 ⟨q6, rfl, ⟨hk6, _⟩, hg6⟩; obtain ⟨p6, c6, e6, _⟩ := hk6.form; subst e6; have zy : w6.cell? ⟨W.heap.size, 0, none⟩ = some (.func (.yield l) #[] #[]) := ((K3d.out.kept hg6 (by simp)).cell 0); obtain ⟨fn, tmps, assign, body, hy, hR⟩ := (HY.out 0 k #[.int .i64 k, .agg #[.int .i64 y.kind, .int .i64 y.ty, .string y.txt, .int .i64 y.num, .slice p6 y.kids.length c6]] w6 HK.out (HJ.out k _ w6 K1.out ((stay_drew _ V).trans (Stay.grown hg6))) (encA_mk HX.out hk6)); have HR := hid hR; have T6 := hid hg6; clear hR hk6 hg6)
        | (refine ⟨hdd _, ?_⟩; refine (RoundIn.anyD HR.out).mono ?_; clear HR; rintro e w7 ⟨rfl, j7, q7, f7⟩))
      all_goals (
        (try gi_wp2_with fail)
        gi_meet
        exact ⟨rfl, j7, after_round HVP.out T6.out q7 f7⟩)
    case rest =>
      obtain ⟨rfl, j7, q7, f7⟩ := hcut
      have F7 := hid f7
      have J7 := hid j7
      have Q7 := hid q7
      clear j7 q7 f7 CC
      gi_wp2
      exact ⟨⟨J7.out, K2.out.trans Q7.out, (F7.out.same _ (Nat.le_refl _) K3.out.lt).trans K3.out⟩, Q7.out, F7.out.more (by omega)⟩
  case done =>
    rintro D V hD ⟨k1, _, _⟩ hK
    have KD := hid hK
    have K1 := hid (HJ.out _ _ _ k1 (Stay.put (.deferred none) (by omega) hK rfl))
    clear hK k1
    go_wp2_with fail
    refine ⟨by simp, .inl ⟨_, _, rfl, run_takeDeferred KD.out, ?_⟩⟩
    exact ⟨.tuple #[], by simp [results, Tryd.results45, go_sem], ⟨_, rfl⟩, K1.out⟩
end Go.Proofs.YtdodammplhlihaaDoor
