/-
  ValOrders: of two numbers one is below, the same as, or above the other one, and just one of these; of what is no number none.
-/
import Derived.Test.YtnbolfogmhlanaaVf
import Derived.Deep.CutBlock
namespace Go.Proofs.Ytnbolfogmhlanaa
open Go.RowKit
/-- The three signs. -/
def sg : Nat → ByteArray
  | 0 => ⟨#[60]⟩
  | 1 => ⟨#[61, 61]⟩
  | _ => ⟨#[62]⟩
/-- How many of the first so many say yes. -/
def cnt (cb : Nat → Bool) : Nat → Int
  | 0 => 0
  | n + 1 => cnt cb n + b2i (cb n)
theorem b2i_le (b : Bool) : 0 ≤ b2i b ∧ b2i b ≤ 1 := by cases b <;> simp [b2i]
theorem cnt_le (cb : Nat → Bool) : ∀ n, 0 ≤ cnt cb n ∧ cnt cb n ≤ n
  | 0 => ⟨Int.le_refl _, Int.le_refl _⟩
  | n + 1 => by
    have := cnt_le cb n
    have := b2i_le (cb n)
    unfold cnt
    omega
/-- Three cells of a row of texts. -/
theorem three_cells {w : World} {b : Nat} (h : Blk w b 9 #[.string (sg 0), .string (sg 1), .string (sg 2)]) (i : Nat) (hi : i < 3) : w.cell? ⟨b, i, none⟩ = some (.string (sg i)) := by
  have h3 : i = 0 ∨ i = 1 ∨ i = 2 := by omega
  rcases h3 with rfl | rfl | rfl
  · exact h.cell 0
  · exact h.cell 1
  · exact h.cell 2
set_option maxRecDepth 100000 in
set_option maxHeartbeats 4000000 in
theorem orders_1 (x y : Int) (cb : Nat → Bool) (ble be no : Bool) (X Y : Nat) (w : World)
    (hB : ∀ i, i < 3 → ∀ W, Calls Try.prog 9 #[.string (sg i), vl 1 x, vl 1 y] W (GrP (tw (vl 3 (b2i (cb i))) 0) W))
    (hL : ∀ W, Calls Try.prog 9 #[.string ⟨#[60, 61]⟩, vl 1 x, vl 1 y] W (GrP (tw (vl 3 (b2i ble)) 0) W))
    (hG : ∀ W, Calls Try.prog 9 #[.string ⟨#[62, 61]⟩, vl 1 y, vl 1 x] W (GrP (tw (vl 3 (b2i ble)) 0) W))
    (hN : ∀ W, Calls Try.prog 9 #[.string ⟨#[33, 61]⟩, vl 1 x, vl 1 y] W (GrP (tw (vl 3 (b2i (!be))) 0) W))
    (hE : ∀ W, Calls Try.prog 9 #[.string ⟨#[61, 61]⟩, vl 1 x, vl 1 y] W (GrP (tw (vl 3 (b2i be)) 0) W))
    (hX : ∀ W, Calls Try.prog 20 #[vl 1 x] W (GrP (.float .f64 X) W)) (hY : ∀ W, Calls Try.prog 20 #[vl 1 y] W (GrP (.float .f64 Y) W))
    (hno : no = false) (hc : cnt cb 3 = if no then 0 else 1) : Calls Try.prog 6 #[vl 1 x, vl 1 y] w (GrP (.bool true) w) := by
  have CB := hid hB
  have CL := hid hL
  have CG := hid hG
  have CN := hid hN
  have CE := hid hE
  have CX := hid hX
  have CY := hid hY
  have CT : Hid (∀ b W, Calls Try.prog 21 #[vl 3 (b2i b)] W (GrP (.bool b) W)) := fun b W => by
    have := true_any 3 (b2i b) W
    have e : ((3 : Int) == 3 && b2i b == 1) = b := by cases b <;> rfl
    rw [e] at this
    exact this
  have AW : Hid (∀ W, Calls Try.prog 12 #[] W (GrP (.bool true) W)) := fun W => awake_any W
  have HNO := hid hno
  have HC := hid hc
  clear hB hL hG hN hE hX hY hno hc
  unfold GrP at *
  go_enter Try.func6, Try.ntmps6
  go_upto_region 4 with fail
  have BA : Hid (Blk (((w.alloc (Obj.cells #[.int .i64 1, .int .i64 x] 23)).alloc (Obj.cells #[.int .i64 1, .int .i64 y] 23)).alloc (Obj.cells #[.string ⟨#[60]⟩, .string ⟨#[61, 61]⟩, .string ⟨#[62]⟩] 9)) w.heap.size 23 #[.int .i64 1, .int .i64 x]) := ((Blk.new w 23 _).alloc _).alloc _
  have BB : Hid (Blk (((w.alloc (Obj.cells #[.int .i64 1, .int .i64 x] 23)).alloc (Obj.cells #[.int .i64 1, .int .i64 y] 23)).alloc (Obj.cells #[.string ⟨#[60]⟩, .string ⟨#[61, 61]⟩, .string ⟨#[62]⟩] 9)) (w.heap.size + 1) 23 #[.int .i64 1, .int .i64 y]) := Blk.alloc (by simpa using Blk.new (w.alloc (Obj.cells #[.int .i64 1, .int .i64 x] 23)) 23 #[.int .i64 1, .int .i64 y]) _
  have BS : Hid (Blk (((w.alloc (Obj.cells #[.int .i64 1, .int .i64 x] 23)).alloc (Obj.cells #[.int .i64 1, .int .i64 y] 23)).alloc (Obj.cells #[.string ⟨#[60]⟩, .string ⟨#[61, 61]⟩, .string ⟨#[62]⟩] 9)) (w.heap.size + 1 + 1) 9 #[.string (sg 0), .string (sg 1), .string (sg 2)]) := hid (by have h := Blk.new ((w.alloc (Obj.cells #[.int .i64 1, .int .i64 x] 23)).alloc (Obj.cells #[.int .i64 1, .int .i64 y] 23)) 9 #[.string (sg 0), .string (sg 1), .string (sg 2)]; simp at h; exact h)
  have G := hid (grow2 (grow2 (grow1 w (Obj.cells #[.int .i64 1, .int .i64 x] 23)) (Obj.cells #[.int .i64 1, .int .i64 y] 23)) (Obj.cells #[.string ⟨#[60]⟩, .string ⟨#[61, 61]⟩, .string ⟨#[62]⟩] 9))
  generalize (((w.alloc (Obj.cells #[.int .i64 1, .int .i64 x] 23)).alloc (Obj.cells #[.int .i64 1, .int .i64 y] 23)).alloc (Obj.cells #[.string ⟨#[60]⟩, .string ⟨#[61, 61]⟩, .string ⟨#[62]⟩] 9)) = w0 at *
  generalize w.heap.size + 1 + 1 = bs at *
  generalize w.heap.size + 1 = bb at *
  generalize hba : w.heap.size = ba at *
  clear hba
  have HLE := hid (cnt_le cb)
  have SS : Hid (∀ W, w0.grownBy W none → ∀ n, n < 3 → W.cell? ⟨ba, 0, none⟩ = some (.int .i64 1) ∧ W.cell? ⟨ba, 1, none⟩ = some (.int .i64 x) ∧ W.cell? ⟨bb, 0, none⟩ = some (.int .i64 1) ∧ W.cell? ⟨bb, 1, none⟩ = some (.int .i64 y) ∧ W.cell? ⟨bs, n, none⟩ = some (.string (sg n))) := fun W hW n hn => by
    obtain ⟨q0, q1, _, _⟩ := two_cells (BA.out.kept hW (by simp))
    obtain ⟨p0, p1, _, _⟩ := two_cells (BB.out.kept hW (by simp))
    exact ⟨q0, q1, p0, p1, three_cells (BS.out.kept hW (by simp)) n hn⟩
  clear BA BB BS
  go_wp2_with fail
  go_loopg [6, 7] 3 (fun gk s6 s7 wr => ∃ n : Nat, s7 = .int .i64 n ∧ n + gk = 3 ∧ s6 = .int .i64 (cnt cb n) ∧ w0.grownBy wr none)
  case atStart => exact ⟨0, rfl, rfl, rfl, grown_refl _ _⟩
  case round =>
    obtain ⟨n, rfl, hn, rfl, hg⟩ := hrel
    have GR := hid hg
    clear hg
    cases gk with
    | zero =>
      obtain rfl : n = 3 := by omega
      have hc1 : cnt cb 3 = 1 := by rw [HC.out, HNO.out]; rfl
      have SR : Hid (∀ W, w0.grownBy W none → W.cell? ⟨ba, 0, none⟩ = some (.int .i64 1) ∧ W.cell? ⟨ba, 1, none⟩ = some (.int .i64 x) ∧ W.cell? ⟨bb, 0, none⟩ = some (.int .i64 1) ∧ W.cell? ⟨bb, 1, none⟩ = some (.int .i64 y)) := fun W hW => by
        obtain ⟨q0, q1, q2, q3, _⟩ := SS.out W hW 0 (by omega)
        exact ⟨q0, q1, q2, q3⟩
      clear CB HLE HC HNO SS
      rw [hc1]
      clear hc1
      go_upto_region 11 with fail
      go_cut [10, 11] (fun v10 v11 wx => v10 = .float .f64 X ∧ v11 = .float .f64 Y ∧ w0.grownBy wx none)
      case first =>
        clear CL CG CN CE CT AW
        obtain ⟨x0, x1, x2, x3⟩ := SR.out wr GR.out
        go_region_held3 (fun V => V.cell? ⟨ba, 0, none⟩ = some (.int .i64 1) ∧ V.cell? ⟨ba, 1, none⟩ = some (.int .i64 x) ∧ V.cell? ⟨bb, 0, none⟩ = some (.int .i64 1) ∧ V.cell? ⟨bb, 1, none⟩ = some (.int .i64 y)) (first | assumption | exact SR.out _ (grown_drew GR.out) | go_keep) (first
          | (go_at_call 20; refine calls_at (args := #[vl 1 x]) rfl ?_; refine (CX.out _).mono ?_; rintro e wa ⟨rfl, gW⟩; have Ga : Hid (w0.grownBy wa none) := grown_trans GR.out (un_drew gW); have SK4 := SR.out wa Ga.out; clear gW)
          | (go_at_call 20; refine calls_at (args := #[vl 1 y]) rfl ?_; refine (CY.out _).mono ?_; rintro e wb ⟨rfl, gW⟩; have Gb : Hid (w0.grownBy wb none) := grown_trans Ga.out gW; have SK5 := SR.out wb Gb.out; clear gW))
        all_goals
          (try go_wp2_with fail)
          go_meet
          exact ⟨rfl, rfl, Gb.out⟩
      case rest =>
        obtain ⟨rfl, rfl, hgx⟩ := hcut
        replace GR := hid hgx
        clear hgx CX CY
        obtain ⟨x0, x1, x2, x3⟩ := SR.out _ GR.out
        go_upto_region 13 with fail
        go_upto_region 14 with (first
          | (go_at_call 9; refine (CL.out _).mono ?_; rintro e v1 ⟨rfl, hg⟩; replace GR := hid (grown_trans GR.out hg); clear hg))
        have B1 := hid (Blk.new v1 23 #[.int .i64 3, .int .i64 (b2i ble)])
        replace GR := hid (grown_alloc GR.out (Obj.cells #[.int .i64 3, .int .i64 (b2i ble)] 23))
        generalize v1.alloc (Obj.cells #[.int .i64 3, .int .i64 (b2i ble)] 23) = w1 at *
        generalize v1.heap.size = c1 at *
        clear x0 x1 x2 x3 CL
        obtain ⟨x0, x1, x2, x3⟩ := SR.out _ GR.out
        go_upto_region 15 with (first
          | (go_at_call 9; refine (CG.out _).mono ?_; rintro e v2 ⟨rfl, hg⟩; replace GR := hid (grown_trans GR.out hg); replace B1 := hid (B1.out.kept hg (by simp)); clear hg))
        have B2 := hid (Blk.new v2 23 #[.int .i64 3, .int .i64 (b2i ble)])
        replace GR := hid (grown_alloc GR.out (Obj.cells #[.int .i64 3, .int .i64 (b2i ble)] 23))
        replace B1 := hid (B1.out.alloc (Obj.cells #[.int .i64 3, .int .i64 (b2i ble)] 23))
        generalize v2.alloc (Obj.cells #[.int .i64 3, .int .i64 (b2i ble)] 23) = w2 at *
        generalize v2.heap.size = c2 at *
        clear x0 x1 x2 x3 CG
        obtain ⟨x0, x1, x2, x3⟩ := SR.out _ GR.out
        go_upto_region 16 with (first
          | (go_at_call 9; refine (CN.out _).mono ?_; rintro e v3 ⟨rfl, hg⟩; replace GR := hid (grown_trans GR.out hg); replace B1 := hid (B1.out.kept hg (by simp)); replace B2 := hid (B2.out.kept hg (by simp)); clear hg))
        have B3 := hid (Blk.new v3 23 #[.int .i64 3, .int .i64 (b2i (!be))])
        replace GR := hid (grown_alloc GR.out (Obj.cells #[.int .i64 3, .int .i64 (b2i (!be))] 23))
        replace B1 := hid (B1.out.alloc (Obj.cells #[.int .i64 3, .int .i64 (b2i (!be))] 23))
        replace B2 := hid (B2.out.alloc (Obj.cells #[.int .i64 3, .int .i64 (b2i (!be))] 23))
        generalize v3.alloc (Obj.cells #[.int .i64 3, .int .i64 (b2i (!be))] 23) = w3 at *
        generalize v3.heap.size = c3 at *
        clear x0 x1 x2 x3 CN
        obtain ⟨x0, x1, x2, x3⟩ := SR.out _ GR.out
        go_upto_region 17 with (first
          | (go_at_call 9; refine (CE.out _).mono ?_; rintro e v4 ⟨rfl, hg⟩; replace GR := hid (grown_trans GR.out hg); replace B1 := hid (B1.out.kept hg (by simp)); replace B2 := hid (B2.out.kept hg (by simp)); replace B3 := hid (B3.out.kept hg (by simp)); clear hg))
        have B4 := hid (Blk.new v4 23 #[.int .i64 3, .int .i64 (b2i be)])
        replace GR := hid (grown_alloc GR.out (Obj.cells #[.int .i64 3, .int .i64 (b2i be)] 23))
        replace B1 := hid (B1.out.alloc (Obj.cells #[.int .i64 3, .int .i64 (b2i be)] 23))
        replace B2 := hid (B2.out.alloc (Obj.cells #[.int .i64 3, .int .i64 (b2i be)] 23))
        replace B3 := hid (B3.out.alloc (Obj.cells #[.int .i64 3, .int .i64 (b2i be)] 23))
        generalize v4.alloc (Obj.cells #[.int .i64 3, .int .i64 (b2i be)] 23) = w4 at *
        generalize v4.heap.size = c4 at *
        clear x0 x1 x2 x3 CE
        obtain ⟨x0, x1, x2, x3⟩ := SR.out _ GR.out
        have S8 : Hid (∀ W, w4.grownBy W none → W.cell? ⟨c1, 0, none⟩ = some (.int .i64 3) ∧ W.cell? ⟨c1, 1, none⟩ = some (.int .i64 (b2i ble)) ∧ W.cell? ⟨c2, 0, none⟩ = some (.int .i64 3) ∧ W.cell? ⟨c2, 1, none⟩ = some (.int .i64 (b2i ble)) ∧ W.cell? ⟨c3, 0, none⟩ = some (.int .i64 3) ∧ W.cell? ⟨c3, 1, none⟩ = some (.int .i64 (b2i (!be))) ∧ W.cell? ⟨c4, 0, none⟩ = some (.int .i64 3) ∧ W.cell? ⟨c4, 1, none⟩ = some (.int .i64 (b2i be))) := fun W hW => by
          obtain ⟨r0, r1, _, _⟩ := two_cells (B1.out.kept hW (by simp))
          obtain ⟨s0, s1, _, _⟩ := two_cells (B2.out.kept hW (by simp))
          obtain ⟨t0, t1, _, _⟩ := two_cells (B3.out.kept hW (by simp))
          obtain ⟨u0, u1, _, _⟩ := two_cells (B4.out.kept hW (by simp))
          exact ⟨r0, r1, s0, s1, t0, t1, u0, u1⟩
        clear x0 x1 x2 x3 B1 B2 B3 B4 SR
        obtain ⟨x0, x1, x2, x3, x4, x5, x6, x7⟩ := S8.out w4 (grown_refl _ _)
        go_upto_region 17 with fail
        go_region_held3 (fun V => V.cell? ⟨c1, 0, none⟩ = some (.int .i64 3) ∧ V.cell? ⟨c1, 1, none⟩ = some (.int .i64 (b2i ble)) ∧ V.cell? ⟨c2, 0, none⟩ = some (.int .i64 3) ∧ V.cell? ⟨c2, 1, none⟩ = some (.int .i64 (b2i ble)) ∧ V.cell? ⟨c3, 0, none⟩ = some (.int .i64 3) ∧ V.cell? ⟨c3, 1, none⟩ = some (.int .i64 (b2i (!be))) ∧ V.cell? ⟨c4, 0, none⟩ = some (.int .i64 3) ∧ V.cell? ⟨c4, 1, none⟩ = some (.int .i64 (b2i be))) (first | assumption | exact S8.out _ (grown_drew (grown_refl _ _)) | go_keep) (first
          | (go_at_call 12; refine (AW.out _).mono ?_; rintro e wa ⟨rfl, gW⟩; have Ga : Hid (w4.grownBy wa none) := un_drew gW; have SK4 := S8.out wa Ga.out; clear gW)
          | (go_at_call 21; refine calls_at (args := #[vl 3 (b2i ble)]) rfl ?_; refine (CT.out ble _).mono ?_; rintro e wb ⟨rfl, gW⟩; replace Ga := hid (grown_trans Ga.out gW); have SK5 := S8.out wb Ga.out; clear gW)
          | (go_at_call 21; refine calls_at (args := #[vl 3 (b2i (!be))]) rfl ?_; refine (CT.out (!be) _).mono ?_; rintro e wb ⟨rfl, gW⟩; replace Ga := hid (grown_trans Ga.out gW); have SK5 := S8.out wb Ga.out; clear gW)
          | (go_at_call 21; refine calls_at (args := #[vl 3 (b2i be)]) rfl ?_; refine (CT.out be _).mono ?_; rintro e wb ⟨rfl, gW⟩; replace Ga := hid (grown_trans Ga.out gW); have SK5 := S8.out wb Ga.out; clear gW))
        all_goals
          (try go_wp2_with fail)
          go_ret
          refine ⟨?_, grown_trans G.out (grown_trans GR.out Ga.out)⟩
          first
          | rfl
          | (cases be <;> rfl)
    | succ gk =>
      have hn3 : n < 3 := by omega
      have i0 : (0 : Int) ≤ (n : Int) := by omega
      have i1 : (n : Int) < 3 := by omega
      have i2 : (n : Int).toNat = n := by omega
      have wi : IntKind.i64.wrap ((n : Int) + 1) = (n : Int) + 1 := by rw [IntKind.wrap_i64]; omega
      have wcn : IntKind.i64.wrap (cnt cb n + 1) = cnt cb n + 1 := by have := HLE.out n; rw [IntKind.wrap_i64]; omega
      have CBn := hid (CB.out n hn3)
      have HN1 : Hid (cnt cb (n + 1) = cnt cb n + b2i (cb n)) := rfl
      have SR : Hid (∀ W, wr.grownBy W none → W.cell? ⟨ba, 0, none⟩ = some (.int .i64 1) ∧ W.cell? ⟨ba, 1, none⟩ = some (.int .i64 x) ∧ W.cell? ⟨bb, 0, none⟩ = some (.int .i64 1) ∧ W.cell? ⟨bb, 1, none⟩ = some (.int .i64 y) ∧ W.cell? ⟨bs, n, none⟩ = some (.string (sg n))) := fun W hW => SS.out W (grown_trans GR.out hW) n hn3
      clear CB CL CG CN CE CX CY AW HNO HC SS HLE
      generalize cb n = b at *
      generalize sg n = sn at *
      generalize hcn : cnt cb n = c at *
      clear hcn
      cases b with
      | true =>
        have C9 : Hid (∀ W, Calls Try.prog 9 #[.string sn, vl 1 x, vl 1 y] W fun e w' => e = .returned (tw (vl 3 1) 0) ∧ W.grownBy w' none) := CBn
        have C21 : Hid (∀ W, Calls Try.prog 21 #[vl 3 1] W fun e w' => e = .returned (.bool true) ∧ W.grownBy w' none) := CT.out true
        clear CBn CT
        go_upto_region 8 with fail
        go_cut [8, 9] (fun v8 v9 wx => v9 = .int .i64 0 ∧ ∃ K, v8 = .pointer (some ⟨K, 0, none⟩) ∧ wr.heap.size ≤ K ∧ Blk wx K 23 #[.int .i64 3, .int .i64 1] ∧ wr.grownBy wx none)
        case first =>
          clear GR HN1
          obtain ⟨x0, x1, x2, x3, x4⟩ := SR.out wr (grown_refl _ _)
          go_region_held3 (fun V => V.cell? ⟨ba, 0, none⟩ = some (.int .i64 1) ∧ V.cell? ⟨ba, 1, none⟩ = some (.int .i64 x) ∧ V.cell? ⟨bb, 0, none⟩ = some (.int .i64 1) ∧ V.cell? ⟨bb, 1, none⟩ = some (.int .i64 y) ∧ V.cell? ⟨bs, n, none⟩ = some (.string sn)) (first | assumption | exact SR.out _ (grown_drew (grown_refl _ _)) | exact SR.out _ (grown_drew (grown_alloc (grown_refl _ _) _)) | go_keep) (first
            | (go_at_call 9; refine (C9.out _).mono ?_; rintro e wb ⟨rfl, gW⟩; have Gb : Hid (wr.grownBy wb none) := (by first | exact un_drew gW | exact un_drewA gW); have SK5 := SR.out wb Gb.out; (first
                | (have BK := hid (Blk.kept (Blk.drew (Blk.new wr 23 #[.int .i64 0, .int .i64 0])) gW (by simp)); have SK6 := SR.out ((wb.setCell ⟨wr.heap.size, 0, none⟩ (.int .i64 3)).setCell ⟨wr.heap.size, 1, none⟩ (.int .i64 1)) (set_two Gb.out (Nat.le_refl _) _ _); obtain ⟨z0, z1, f0, f1⟩ := two_cells BK.out)
                | (have SK6 := SR.out (wb.alloc (.cells #[.int .i64 0, .int .i64 0] 23)) (grown_alloc Gb.out _); have SK7 := SR.out (wb.alloc (.cells #[.int .i64 3, .int .i64 1] 23)) (grown_alloc Gb.out _))); clear gW))
          all_goals
            (try go_wp2_with fail)
            go_meet
            first
            | exact ⟨rfl, _, rfl, Gb.out.size, Blk.new wb 23 _, grown_alloc Gb.out _⟩
            | exact ⟨rfl, _, rfl, Nat.le_refl _, blk_two BK.out _ _, set_two Gb.out (Nat.le_refl _) _ _⟩
        case rest =>
          obtain ⟨rfl, K, rfl, hK, hbk, hgx⟩ := hcut
          obtain ⟨y0, y1, _, _⟩ := two_cells hbk
          replace GR := hid (grown_trans GR.out hgx)
          clear hgx hbk hK
          go_wp2_with (first
            | (go_at_call 21; refine (C21.out _).mono ?_; rintro e wd ⟨rfl, hg⟩; replace GR := hid (grown_trans GR.out hg); clear hg))
          go_roundg gk
          case measure => omega
          case rel => exact ⟨n + 1, by simp, by omega, by rw [HN1.out]; simp [b2i], GR.out⟩
      | false =>
        have C9 : Hid (∀ W, Calls Try.prog 9 #[.string sn, vl 1 x, vl 1 y] W fun e w' => e = .returned (tw (vl 3 0) 0) ∧ W.grownBy w' none) := CBn
        have C21 : Hid (∀ W, Calls Try.prog 21 #[vl 3 0] W fun e w' => e = .returned (.bool false) ∧ W.grownBy w' none) := CT.out false
        clear CBn CT
        go_upto_region 8 with fail
        go_cut [8, 9] (fun v8 v9 wx => v9 = .int .i64 0 ∧ ∃ K, v8 = .pointer (some ⟨K, 0, none⟩) ∧ wr.heap.size ≤ K ∧ Blk wx K 23 #[.int .i64 3, .int .i64 0] ∧ wr.grownBy wx none)
        case first =>
          clear GR HN1
          obtain ⟨x0, x1, x2, x3, x4⟩ := SR.out wr (grown_refl _ _)
          go_region_held3 (fun V => V.cell? ⟨ba, 0, none⟩ = some (.int .i64 1) ∧ V.cell? ⟨ba, 1, none⟩ = some (.int .i64 x) ∧ V.cell? ⟨bb, 0, none⟩ = some (.int .i64 1) ∧ V.cell? ⟨bb, 1, none⟩ = some (.int .i64 y) ∧ V.cell? ⟨bs, n, none⟩ = some (.string sn)) (first | assumption | exact SR.out _ (grown_drew (grown_refl _ _)) | exact SR.out _ (grown_drew (grown_alloc (grown_refl _ _) _)) | go_keep) (first
            | (go_at_call 9; refine (C9.out _).mono ?_; rintro e wb ⟨rfl, gW⟩; have Gb : Hid (wr.grownBy wb none) := (by first | exact un_drew gW | exact un_drewA gW); have SK5 := SR.out wb Gb.out; (first
                | (have BK := hid (Blk.kept (Blk.drew (Blk.new wr 23 #[.int .i64 0, .int .i64 0])) gW (by simp)); have SK6 := SR.out ((wb.setCell ⟨wr.heap.size, 0, none⟩ (.int .i64 3)).setCell ⟨wr.heap.size, 1, none⟩ (.int .i64 0)) (set_two Gb.out (Nat.le_refl _) _ _); obtain ⟨z0, z1, f0, f1⟩ := two_cells BK.out)
                | (have SK6 := SR.out (wb.alloc (.cells #[.int .i64 0, .int .i64 0] 23)) (grown_alloc Gb.out _); have SK7 := SR.out (wb.alloc (.cells #[.int .i64 3, .int .i64 0] 23)) (grown_alloc Gb.out _))); clear gW))
          all_goals
            (try go_wp2_with fail)
            go_meet
            first
            | exact ⟨rfl, _, rfl, Gb.out.size, Blk.new wb 23 _, grown_alloc Gb.out _⟩
            | exact ⟨rfl, _, rfl, Nat.le_refl _, blk_two BK.out _ _, set_two Gb.out (Nat.le_refl _) _ _⟩
        case rest =>
          obtain ⟨rfl, K, rfl, hK, hbk, hgx⟩ := hcut
          obtain ⟨y0, y1, _, _⟩ := two_cells hbk
          replace GR := hid (grown_trans GR.out hgx)
          clear hgx hbk hK
          go_wp2_with (first
            | (go_at_call 21; refine (C21.out _).mono ?_; rintro e wd ⟨rfl, hg⟩; replace GR := hid (grown_trans GR.out hg); clear hg))
          go_roundg gk
          case measure => omega
          case rel => exact ⟨n + 1, by simp, by omega, by rw [HN1.out]; simp [b2i], GR.out⟩
set_option maxRecDepth 100000 in
set_option maxHeartbeats 4000000 in
theorem orders_2 (x y : Int) (cb : Nat → Bool) (ble be no : Bool) (X Y : Nat) (w : World)
    (hB : ∀ i, i < 3 → ∀ W, Calls Try.prog 9 #[.string (sg i), vl 2 x, vl 2 y] W (GrP (tw (vl 3 (b2i (cb i))) 0) W))
    (hL : ∀ W, Calls Try.prog 9 #[.string ⟨#[60, 61]⟩, vl 2 x, vl 2 y] W (GrP (tw (vl 3 (b2i ble)) 0) W))
    (hG : ∀ W, Calls Try.prog 9 #[.string ⟨#[62, 61]⟩, vl 2 y, vl 2 x] W (GrP (tw (vl 3 (b2i ble)) 0) W))
    (hN : ∀ W, Calls Try.prog 9 #[.string ⟨#[33, 61]⟩, vl 2 x, vl 2 y] W (GrP (tw (vl 3 (b2i (!be))) 0) W))
    (hE : ∀ W, Calls Try.prog 9 #[.string ⟨#[61, 61]⟩, vl 2 x, vl 2 y] W (GrP (tw (vl 3 (b2i be)) 0) W))
    (hX : ∀ W, Calls Try.prog 20 #[vl 2 x] W (GrP (.float .f64 X) W)) (hY : ∀ W, Calls Try.prog 20 #[vl 2 y] W (GrP (.float .f64 Y) W))
    (hno : (nanB X || nanB Y) = no) (hc : cnt cb 3 = if no then 0 else 1) : Calls Try.prog 6 #[vl 2 x, vl 2 y] w (GrP (.bool true) w) := by
  have CB := hid hB
  have CL := hid hL
  have CG := hid hG
  have CN := hid hN
  have CE := hid hE
  have CX := hid hX
  have CY := hid hY
  have CT : Hid (∀ b W, Calls Try.prog 21 #[vl 3 (b2i b)] W (GrP (.bool b) W)) := fun b W => by
    have := true_any 3 (b2i b) W
    have e : ((3 : Int) == 3 && b2i b == 1) = b := by cases b <;> rfl
    rw [e] at this
    exact this
  have AW : Hid (∀ W, Calls Try.prog 12 #[] W (GrP (.bool true) W)) := fun W => awake_any W
  have HNO := hid hno
  have HC := hid hc
  clear hB hL hG hN hE hX hY hno hc
  unfold GrP at *
  go_enter Try.func6, Try.ntmps6
  go_upto_region 4 with fail
  have BA : Hid (Blk (((w.alloc (Obj.cells #[.int .i64 2, .int .i64 x] 23)).alloc (Obj.cells #[.int .i64 2, .int .i64 y] 23)).alloc (Obj.cells #[.string ⟨#[60]⟩, .string ⟨#[61, 61]⟩, .string ⟨#[62]⟩] 9)) w.heap.size 23 #[.int .i64 2, .int .i64 x]) := ((Blk.new w 23 _).alloc _).alloc _
  have BB : Hid (Blk (((w.alloc (Obj.cells #[.int .i64 2, .int .i64 x] 23)).alloc (Obj.cells #[.int .i64 2, .int .i64 y] 23)).alloc (Obj.cells #[.string ⟨#[60]⟩, .string ⟨#[61, 61]⟩, .string ⟨#[62]⟩] 9)) (w.heap.size + 1) 23 #[.int .i64 2, .int .i64 y]) := Blk.alloc (by simpa using Blk.new (w.alloc (Obj.cells #[.int .i64 2, .int .i64 x] 23)) 23 #[.int .i64 2, .int .i64 y]) _
  have BS : Hid (Blk (((w.alloc (Obj.cells #[.int .i64 2, .int .i64 x] 23)).alloc (Obj.cells #[.int .i64 2, .int .i64 y] 23)).alloc (Obj.cells #[.string ⟨#[60]⟩, .string ⟨#[61, 61]⟩, .string ⟨#[62]⟩] 9)) (w.heap.size + 1 + 1) 9 #[.string (sg 0), .string (sg 1), .string (sg 2)]) := hid (by have h := Blk.new ((w.alloc (Obj.cells #[.int .i64 2, .int .i64 x] 23)).alloc (Obj.cells #[.int .i64 2, .int .i64 y] 23)) 9 #[.string (sg 0), .string (sg 1), .string (sg 2)]; simp at h; exact h)
  have G := hid (grow2 (grow2 (grow1 w (Obj.cells #[.int .i64 2, .int .i64 x] 23)) (Obj.cells #[.int .i64 2, .int .i64 y] 23)) (Obj.cells #[.string ⟨#[60]⟩, .string ⟨#[61, 61]⟩, .string ⟨#[62]⟩] 9))
  generalize (((w.alloc (Obj.cells #[.int .i64 2, .int .i64 x] 23)).alloc (Obj.cells #[.int .i64 2, .int .i64 y] 23)).alloc (Obj.cells #[.string ⟨#[60]⟩, .string ⟨#[61, 61]⟩, .string ⟨#[62]⟩] 9)) = w0 at *
  generalize w.heap.size + 1 + 1 = bs at *
  generalize w.heap.size + 1 = bb at *
  generalize hba : w.heap.size = ba at *
  clear hba
  have HLE := hid (cnt_le cb)
  have SS : Hid (∀ W, w0.grownBy W none → ∀ n, n < 3 → W.cell? ⟨ba, 0, none⟩ = some (.int .i64 2) ∧ W.cell? ⟨ba, 1, none⟩ = some (.int .i64 x) ∧ W.cell? ⟨bb, 0, none⟩ = some (.int .i64 2) ∧ W.cell? ⟨bb, 1, none⟩ = some (.int .i64 y) ∧ W.cell? ⟨bs, n, none⟩ = some (.string (sg n))) := fun W hW n hn => by
    obtain ⟨q0, q1, _, _⟩ := two_cells (BA.out.kept hW (by simp))
    obtain ⟨p0, p1, _, _⟩ := two_cells (BB.out.kept hW (by simp))
    exact ⟨q0, q1, p0, p1, three_cells (BS.out.kept hW (by simp)) n hn⟩
  clear BA BB BS
  go_wp2_with fail
  go_loopg [6, 7] 3 (fun gk s6 s7 wr => ∃ n : Nat, s7 = .int .i64 n ∧ n + gk = 3 ∧ s6 = .int .i64 (cnt cb n) ∧ w0.grownBy wr none)
  case atStart => exact ⟨0, rfl, rfl, rfl, grown_refl _ _⟩
  case round =>
    obtain ⟨n, rfl, hn, rfl, hg⟩ := hrel
    have GR := hid hg
    clear hg
    cases gk with
    | zero =>
      obtain rfl : n = 3 := by omega
      cases hx : nanB X with
      | true =>
        have qx : (FloatKind.f64.format.order X X != some .eq) = true := hx
        cases hy : nanB Y with
        | true =>
          have qy : (FloatKind.f64.format.order Y Y != some .eq) = true := hy
          have hc1 : cnt cb 3 = 0 := by rw [HC.out, ← HNO.out, hx, hy]; rfl
          clear hx hy
          have SR : Hid (∀ W, w0.grownBy W none → W.cell? ⟨ba, 0, none⟩ = some (.int .i64 2) ∧ W.cell? ⟨ba, 1, none⟩ = some (.int .i64 x) ∧ W.cell? ⟨bb, 0, none⟩ = some (.int .i64 2) ∧ W.cell? ⟨bb, 1, none⟩ = some (.int .i64 y)) := fun W hW => by
            obtain ⟨q0, q1, q2, q3, _⟩ := SS.out W hW 0 (by omega)
            exact ⟨q0, q1, q2, q3⟩
          clear CB HLE HC HNO SS
          rw [hc1]
          clear hc1
          go_upto_region 11 with fail
          go_cut [10, 11] (fun v10 v11 wx => v10 = .float .f64 X ∧ v11 = .float .f64 Y ∧ w0.grownBy wx none)
          case first =>
            clear CL CG CN CE CT AW
            obtain ⟨x0, x1, x2, x3⟩ := SR.out wr GR.out
            go_region_held3 (fun V => V.cell? ⟨ba, 0, none⟩ = some (.int .i64 2) ∧ V.cell? ⟨ba, 1, none⟩ = some (.int .i64 x) ∧ V.cell? ⟨bb, 0, none⟩ = some (.int .i64 2) ∧ V.cell? ⟨bb, 1, none⟩ = some (.int .i64 y)) (first | assumption | exact SR.out _ (grown_drew GR.out) | go_keep) (first
              | (go_at_call 20; refine calls_at (args := #[vl 2 x]) rfl ?_; refine (CX.out _).mono ?_; rintro e wa ⟨rfl, gW⟩; have Ga : Hid (w0.grownBy wa none) := grown_trans GR.out (un_drew gW); have SK4 := SR.out wa Ga.out; clear gW)
              | (go_at_call 20; refine calls_at (args := #[vl 2 y]) rfl ?_; refine (CY.out _).mono ?_; rintro e wb ⟨rfl, gW⟩; have Gb : Hid (w0.grownBy wb none) := grown_trans Ga.out gW; have SK5 := SR.out wb Gb.out; clear gW))
            all_goals
              (try go_wp2_with fail)
              go_meet
              exact ⟨rfl, rfl, Gb.out⟩
          case rest =>
            obtain ⟨rfl, rfl, hgx⟩ := hcut
            replace GR := hid hgx
            clear hgx CX CY
            obtain ⟨x0, x1, x2, x3⟩ := SR.out _ GR.out
            go_upto_region 13 with fail
            go_upto_region 14 with (first
              | (go_at_call 9; refine (CL.out _).mono ?_; rintro e v1 ⟨rfl, hg⟩; replace GR := hid (grown_trans GR.out hg); clear hg))
            have B1 := hid (Blk.new v1 23 #[.int .i64 3, .int .i64 (b2i ble)])
            replace GR := hid (grown_alloc GR.out (Obj.cells #[.int .i64 3, .int .i64 (b2i ble)] 23))
            generalize v1.alloc (Obj.cells #[.int .i64 3, .int .i64 (b2i ble)] 23) = w1 at *
            generalize v1.heap.size = c1 at *
            clear x0 x1 x2 x3 CL
            obtain ⟨x0, x1, x2, x3⟩ := SR.out _ GR.out
            go_upto_region 15 with (first
              | (go_at_call 9; refine (CG.out _).mono ?_; rintro e v2 ⟨rfl, hg⟩; replace GR := hid (grown_trans GR.out hg); replace B1 := hid (B1.out.kept hg (by simp)); clear hg))
            have B2 := hid (Blk.new v2 23 #[.int .i64 3, .int .i64 (b2i ble)])
            replace GR := hid (grown_alloc GR.out (Obj.cells #[.int .i64 3, .int .i64 (b2i ble)] 23))
            replace B1 := hid (B1.out.alloc (Obj.cells #[.int .i64 3, .int .i64 (b2i ble)] 23))
            generalize v2.alloc (Obj.cells #[.int .i64 3, .int .i64 (b2i ble)] 23) = w2 at *
            generalize v2.heap.size = c2 at *
            clear x0 x1 x2 x3 CG
            obtain ⟨x0, x1, x2, x3⟩ := SR.out _ GR.out
            go_upto_region 16 with (first
              | (go_at_call 9; refine (CN.out _).mono ?_; rintro e v3 ⟨rfl, hg⟩; replace GR := hid (grown_trans GR.out hg); replace B1 := hid (B1.out.kept hg (by simp)); replace B2 := hid (B2.out.kept hg (by simp)); clear hg))
            have B3 := hid (Blk.new v3 23 #[.int .i64 3, .int .i64 (b2i (!be))])
            replace GR := hid (grown_alloc GR.out (Obj.cells #[.int .i64 3, .int .i64 (b2i (!be))] 23))
            replace B1 := hid (B1.out.alloc (Obj.cells #[.int .i64 3, .int .i64 (b2i (!be))] 23))
            replace B2 := hid (B2.out.alloc (Obj.cells #[.int .i64 3, .int .i64 (b2i (!be))] 23))
            generalize v3.alloc (Obj.cells #[.int .i64 3, .int .i64 (b2i (!be))] 23) = w3 at *
            generalize v3.heap.size = c3 at *
            clear x0 x1 x2 x3 CN
            obtain ⟨x0, x1, x2, x3⟩ := SR.out _ GR.out
            go_upto_region 17 with (first
              | (go_at_call 9; refine (CE.out _).mono ?_; rintro e v4 ⟨rfl, hg⟩; replace GR := hid (grown_trans GR.out hg); replace B1 := hid (B1.out.kept hg (by simp)); replace B2 := hid (B2.out.kept hg (by simp)); replace B3 := hid (B3.out.kept hg (by simp)); clear hg))
            have B4 := hid (Blk.new v4 23 #[.int .i64 3, .int .i64 (b2i be)])
            replace GR := hid (grown_alloc GR.out (Obj.cells #[.int .i64 3, .int .i64 (b2i be)] 23))
            replace B1 := hid (B1.out.alloc (Obj.cells #[.int .i64 3, .int .i64 (b2i be)] 23))
            replace B2 := hid (B2.out.alloc (Obj.cells #[.int .i64 3, .int .i64 (b2i be)] 23))
            replace B3 := hid (B3.out.alloc (Obj.cells #[.int .i64 3, .int .i64 (b2i be)] 23))
            generalize v4.alloc (Obj.cells #[.int .i64 3, .int .i64 (b2i be)] 23) = w4 at *
            generalize v4.heap.size = c4 at *
            clear x0 x1 x2 x3 CE
            obtain ⟨x0, x1, x2, x3⟩ := SR.out _ GR.out
            have S8 : Hid (∀ W, w4.grownBy W none → W.cell? ⟨c1, 0, none⟩ = some (.int .i64 3) ∧ W.cell? ⟨c1, 1, none⟩ = some (.int .i64 (b2i ble)) ∧ W.cell? ⟨c2, 0, none⟩ = some (.int .i64 3) ∧ W.cell? ⟨c2, 1, none⟩ = some (.int .i64 (b2i ble)) ∧ W.cell? ⟨c3, 0, none⟩ = some (.int .i64 3) ∧ W.cell? ⟨c3, 1, none⟩ = some (.int .i64 (b2i (!be))) ∧ W.cell? ⟨c4, 0, none⟩ = some (.int .i64 3) ∧ W.cell? ⟨c4, 1, none⟩ = some (.int .i64 (b2i be))) := fun W hW => by
              obtain ⟨r0, r1, _, _⟩ := two_cells (B1.out.kept hW (by simp))
              obtain ⟨s0, s1, _, _⟩ := two_cells (B2.out.kept hW (by simp))
              obtain ⟨t0, t1, _, _⟩ := two_cells (B3.out.kept hW (by simp))
              obtain ⟨u0, u1, _, _⟩ := two_cells (B4.out.kept hW (by simp))
              exact ⟨r0, r1, s0, s1, t0, t1, u0, u1⟩
            clear x0 x1 x2 x3 B1 B2 B3 B4 SR
            obtain ⟨x0, x1, x2, x3, x4, x5, x6, x7⟩ := S8.out w4 (grown_refl _ _)
            go_upto_region 17 with fail
            go_region_held3 (fun V => V.cell? ⟨c1, 0, none⟩ = some (.int .i64 3) ∧ V.cell? ⟨c1, 1, none⟩ = some (.int .i64 (b2i ble)) ∧ V.cell? ⟨c2, 0, none⟩ = some (.int .i64 3) ∧ V.cell? ⟨c2, 1, none⟩ = some (.int .i64 (b2i ble)) ∧ V.cell? ⟨c3, 0, none⟩ = some (.int .i64 3) ∧ V.cell? ⟨c3, 1, none⟩ = some (.int .i64 (b2i (!be))) ∧ V.cell? ⟨c4, 0, none⟩ = some (.int .i64 3) ∧ V.cell? ⟨c4, 1, none⟩ = some (.int .i64 (b2i be))) (first | assumption | exact S8.out _ (grown_drew (grown_refl _ _)) | go_keep) (first
              | (go_at_call 12; refine (AW.out _).mono ?_; rintro e wa ⟨rfl, gW⟩; have Ga : Hid (w4.grownBy wa none) := un_drew gW; have SK4 := S8.out wa Ga.out; clear gW)
              | (go_at_call 21; refine calls_at (args := #[vl 3 (b2i ble)]) rfl ?_; refine (CT.out ble _).mono ?_; rintro e wb ⟨rfl, gW⟩; replace Ga := hid (grown_trans Ga.out gW); have SK5 := S8.out wb Ga.out; clear gW)
              | (go_at_call 21; refine calls_at (args := #[vl 3 (b2i (!be))]) rfl ?_; refine (CT.out (!be) _).mono ?_; rintro e wb ⟨rfl, gW⟩; replace Ga := hid (grown_trans Ga.out gW); have SK5 := S8.out wb Ga.out; clear gW)
              | (go_at_call 21; refine calls_at (args := #[vl 3 (b2i be)]) rfl ?_; refine (CT.out be _).mono ?_; rintro e wb ⟨rfl, gW⟩; replace Ga := hid (grown_trans Ga.out gW); have SK5 := S8.out wb Ga.out; clear gW))
            all_goals
              (try go_wp2_with fail)
              go_ret
              refine ⟨?_, grown_trans G.out (grown_trans GR.out Ga.out)⟩
              first
              | rfl
              | (cases be <;> rfl)
        | false =>
          have qy : (FloatKind.f64.format.order Y Y != some .eq) = false := hy
          have hc1 : cnt cb 3 = 0 := by rw [HC.out, ← HNO.out, hx, hy]; rfl
          clear hx hy
          have SR : Hid (∀ W, w0.grownBy W none → W.cell? ⟨ba, 0, none⟩ = some (.int .i64 2) ∧ W.cell? ⟨ba, 1, none⟩ = some (.int .i64 x) ∧ W.cell? ⟨bb, 0, none⟩ = some (.int .i64 2) ∧ W.cell? ⟨bb, 1, none⟩ = some (.int .i64 y)) := fun W hW => by
            obtain ⟨q0, q1, q2, q3, _⟩ := SS.out W hW 0 (by omega)
            exact ⟨q0, q1, q2, q3⟩
          clear CB HLE HC HNO SS
          rw [hc1]
          clear hc1
          go_upto_region 11 with fail
          go_cut [10, 11] (fun v10 v11 wx => v10 = .float .f64 X ∧ v11 = .float .f64 Y ∧ w0.grownBy wx none)
          case first =>
            clear CL CG CN CE CT AW
            obtain ⟨x0, x1, x2, x3⟩ := SR.out wr GR.out
            go_region_held3 (fun V => V.cell? ⟨ba, 0, none⟩ = some (.int .i64 2) ∧ V.cell? ⟨ba, 1, none⟩ = some (.int .i64 x) ∧ V.cell? ⟨bb, 0, none⟩ = some (.int .i64 2) ∧ V.cell? ⟨bb, 1, none⟩ = some (.int .i64 y)) (first | assumption | exact SR.out _ (grown_drew GR.out) | go_keep) (first
              | (go_at_call 20; refine calls_at (args := #[vl 2 x]) rfl ?_; refine (CX.out _).mono ?_; rintro e wa ⟨rfl, gW⟩; have Ga : Hid (w0.grownBy wa none) := grown_trans GR.out (un_drew gW); have SK4 := SR.out wa Ga.out; clear gW)
              | (go_at_call 20; refine calls_at (args := #[vl 2 y]) rfl ?_; refine (CY.out _).mono ?_; rintro e wb ⟨rfl, gW⟩; have Gb : Hid (w0.grownBy wb none) := grown_trans Ga.out gW; have SK5 := SR.out wb Gb.out; clear gW))
            all_goals
              (try go_wp2_with fail)
              go_meet
              exact ⟨rfl, rfl, Gb.out⟩
          case rest =>
            obtain ⟨rfl, rfl, hgx⟩ := hcut
            replace GR := hid hgx
            clear hgx CX CY
            obtain ⟨x0, x1, x2, x3⟩ := SR.out _ GR.out
            go_upto_region 13 with fail
            go_upto_region 14 with (first
              | (go_at_call 9; refine (CL.out _).mono ?_; rintro e v1 ⟨rfl, hg⟩; replace GR := hid (grown_trans GR.out hg); clear hg))
            have B1 := hid (Blk.new v1 23 #[.int .i64 3, .int .i64 (b2i ble)])
            replace GR := hid (grown_alloc GR.out (Obj.cells #[.int .i64 3, .int .i64 (b2i ble)] 23))
            generalize v1.alloc (Obj.cells #[.int .i64 3, .int .i64 (b2i ble)] 23) = w1 at *
            generalize v1.heap.size = c1 at *
            clear x0 x1 x2 x3 CL
            obtain ⟨x0, x1, x2, x3⟩ := SR.out _ GR.out
            go_upto_region 15 with (first
              | (go_at_call 9; refine (CG.out _).mono ?_; rintro e v2 ⟨rfl, hg⟩; replace GR := hid (grown_trans GR.out hg); replace B1 := hid (B1.out.kept hg (by simp)); clear hg))
            have B2 := hid (Blk.new v2 23 #[.int .i64 3, .int .i64 (b2i ble)])
            replace GR := hid (grown_alloc GR.out (Obj.cells #[.int .i64 3, .int .i64 (b2i ble)] 23))
            replace B1 := hid (B1.out.alloc (Obj.cells #[.int .i64 3, .int .i64 (b2i ble)] 23))
            generalize v2.alloc (Obj.cells #[.int .i64 3, .int .i64 (b2i ble)] 23) = w2 at *
            generalize v2.heap.size = c2 at *
            clear x0 x1 x2 x3 CG
            obtain ⟨x0, x1, x2, x3⟩ := SR.out _ GR.out
            go_upto_region 16 with (first
              | (go_at_call 9; refine (CN.out _).mono ?_; rintro e v3 ⟨rfl, hg⟩; replace GR := hid (grown_trans GR.out hg); replace B1 := hid (B1.out.kept hg (by simp)); replace B2 := hid (B2.out.kept hg (by simp)); clear hg))
            have B3 := hid (Blk.new v3 23 #[.int .i64 3, .int .i64 (b2i (!be))])
            replace GR := hid (grown_alloc GR.out (Obj.cells #[.int .i64 3, .int .i64 (b2i (!be))] 23))
            replace B1 := hid (B1.out.alloc (Obj.cells #[.int .i64 3, .int .i64 (b2i (!be))] 23))
            replace B2 := hid (B2.out.alloc (Obj.cells #[.int .i64 3, .int .i64 (b2i (!be))] 23))
            generalize v3.alloc (Obj.cells #[.int .i64 3, .int .i64 (b2i (!be))] 23) = w3 at *
            generalize v3.heap.size = c3 at *
            clear x0 x1 x2 x3 CN
            obtain ⟨x0, x1, x2, x3⟩ := SR.out _ GR.out
            go_upto_region 17 with (first
              | (go_at_call 9; refine (CE.out _).mono ?_; rintro e v4 ⟨rfl, hg⟩; replace GR := hid (grown_trans GR.out hg); replace B1 := hid (B1.out.kept hg (by simp)); replace B2 := hid (B2.out.kept hg (by simp)); replace B3 := hid (B3.out.kept hg (by simp)); clear hg))
            have B4 := hid (Blk.new v4 23 #[.int .i64 3, .int .i64 (b2i be)])
            replace GR := hid (grown_alloc GR.out (Obj.cells #[.int .i64 3, .int .i64 (b2i be)] 23))
            replace B1 := hid (B1.out.alloc (Obj.cells #[.int .i64 3, .int .i64 (b2i be)] 23))
            replace B2 := hid (B2.out.alloc (Obj.cells #[.int .i64 3, .int .i64 (b2i be)] 23))
            replace B3 := hid (B3.out.alloc (Obj.cells #[.int .i64 3, .int .i64 (b2i be)] 23))
            generalize v4.alloc (Obj.cells #[.int .i64 3, .int .i64 (b2i be)] 23) = w4 at *
            generalize v4.heap.size = c4 at *
            clear x0 x1 x2 x3 CE
            obtain ⟨x0, x1, x2, x3⟩ := SR.out _ GR.out
            have S8 : Hid (∀ W, w4.grownBy W none → W.cell? ⟨c1, 0, none⟩ = some (.int .i64 3) ∧ W.cell? ⟨c1, 1, none⟩ = some (.int .i64 (b2i ble)) ∧ W.cell? ⟨c2, 0, none⟩ = some (.int .i64 3) ∧ W.cell? ⟨c2, 1, none⟩ = some (.int .i64 (b2i ble)) ∧ W.cell? ⟨c3, 0, none⟩ = some (.int .i64 3) ∧ W.cell? ⟨c3, 1, none⟩ = some (.int .i64 (b2i (!be))) ∧ W.cell? ⟨c4, 0, none⟩ = some (.int .i64 3) ∧ W.cell? ⟨c4, 1, none⟩ = some (.int .i64 (b2i be))) := fun W hW => by
              obtain ⟨r0, r1, _, _⟩ := two_cells (B1.out.kept hW (by simp))
              obtain ⟨s0, s1, _, _⟩ := two_cells (B2.out.kept hW (by simp))
              obtain ⟨t0, t1, _, _⟩ := two_cells (B3.out.kept hW (by simp))
              obtain ⟨u0, u1, _, _⟩ := two_cells (B4.out.kept hW (by simp))
              exact ⟨r0, r1, s0, s1, t0, t1, u0, u1⟩
            clear x0 x1 x2 x3 B1 B2 B3 B4 SR
            obtain ⟨x0, x1, x2, x3, x4, x5, x6, x7⟩ := S8.out w4 (grown_refl _ _)
            go_upto_region 17 with fail
            go_region_held3 (fun V => V.cell? ⟨c1, 0, none⟩ = some (.int .i64 3) ∧ V.cell? ⟨c1, 1, none⟩ = some (.int .i64 (b2i ble)) ∧ V.cell? ⟨c2, 0, none⟩ = some (.int .i64 3) ∧ V.cell? ⟨c2, 1, none⟩ = some (.int .i64 (b2i ble)) ∧ V.cell? ⟨c3, 0, none⟩ = some (.int .i64 3) ∧ V.cell? ⟨c3, 1, none⟩ = some (.int .i64 (b2i (!be))) ∧ V.cell? ⟨c4, 0, none⟩ = some (.int .i64 3) ∧ V.cell? ⟨c4, 1, none⟩ = some (.int .i64 (b2i be))) (first | assumption | exact S8.out _ (grown_drew (grown_refl _ _)) | go_keep) (first
              | (go_at_call 12; refine (AW.out _).mono ?_; rintro e wa ⟨rfl, gW⟩; have Ga : Hid (w4.grownBy wa none) := un_drew gW; have SK4 := S8.out wa Ga.out; clear gW)
              | (go_at_call 21; refine calls_at (args := #[vl 3 (b2i ble)]) rfl ?_; refine (CT.out ble _).mono ?_; rintro e wb ⟨rfl, gW⟩; replace Ga := hid (grown_trans Ga.out gW); have SK5 := S8.out wb Ga.out; clear gW)
              | (go_at_call 21; refine calls_at (args := #[vl 3 (b2i (!be))]) rfl ?_; refine (CT.out (!be) _).mono ?_; rintro e wb ⟨rfl, gW⟩; replace Ga := hid (grown_trans Ga.out gW); have SK5 := S8.out wb Ga.out; clear gW)
              | (go_at_call 21; refine calls_at (args := #[vl 3 (b2i be)]) rfl ?_; refine (CT.out be _).mono ?_; rintro e wb ⟨rfl, gW⟩; replace Ga := hid (grown_trans Ga.out gW); have SK5 := S8.out wb Ga.out; clear gW))
            all_goals
              (try go_wp2_with fail)
              go_ret
              refine ⟨?_, grown_trans G.out (grown_trans GR.out Ga.out)⟩
              first
              | rfl
              | (cases be <;> rfl)
      | false =>
        have qx : (FloatKind.f64.format.order X X != some .eq) = false := hx
        cases hy : nanB Y with
        | true =>
          have qy : (FloatKind.f64.format.order Y Y != some .eq) = true := hy
          have hc1 : cnt cb 3 = 0 := by rw [HC.out, ← HNO.out, hx, hy]; rfl
          clear hx hy
          have SR : Hid (∀ W, w0.grownBy W none → W.cell? ⟨ba, 0, none⟩ = some (.int .i64 2) ∧ W.cell? ⟨ba, 1, none⟩ = some (.int .i64 x) ∧ W.cell? ⟨bb, 0, none⟩ = some (.int .i64 2) ∧ W.cell? ⟨bb, 1, none⟩ = some (.int .i64 y)) := fun W hW => by
            obtain ⟨q0, q1, q2, q3, _⟩ := SS.out W hW 0 (by omega)
            exact ⟨q0, q1, q2, q3⟩
          clear CB HLE HC HNO SS
          rw [hc1]
          clear hc1
          go_upto_region 11 with fail
          go_cut [10, 11] (fun v10 v11 wx => v10 = .float .f64 X ∧ v11 = .float .f64 Y ∧ w0.grownBy wx none)
          case first =>
            clear CL CG CN CE CT AW
            obtain ⟨x0, x1, x2, x3⟩ := SR.out wr GR.out
            go_region_held3 (fun V => V.cell? ⟨ba, 0, none⟩ = some (.int .i64 2) ∧ V.cell? ⟨ba, 1, none⟩ = some (.int .i64 x) ∧ V.cell? ⟨bb, 0, none⟩ = some (.int .i64 2) ∧ V.cell? ⟨bb, 1, none⟩ = some (.int .i64 y)) (first | assumption | exact SR.out _ (grown_drew GR.out) | go_keep) (first
              | (go_at_call 20; refine calls_at (args := #[vl 2 x]) rfl ?_; refine (CX.out _).mono ?_; rintro e wa ⟨rfl, gW⟩; have Ga : Hid (w0.grownBy wa none) := grown_trans GR.out (un_drew gW); have SK4 := SR.out wa Ga.out; clear gW)
              | (go_at_call 20; refine calls_at (args := #[vl 2 y]) rfl ?_; refine (CY.out _).mono ?_; rintro e wb ⟨rfl, gW⟩; have Gb : Hid (w0.grownBy wb none) := grown_trans Ga.out gW; have SK5 := SR.out wb Gb.out; clear gW))
            all_goals
              (try go_wp2_with fail)
              go_meet
              exact ⟨rfl, rfl, Gb.out⟩
          case rest =>
            obtain ⟨rfl, rfl, hgx⟩ := hcut
            replace GR := hid hgx
            clear hgx CX CY
            obtain ⟨x0, x1, x2, x3⟩ := SR.out _ GR.out
            go_upto_region 13 with fail
            go_upto_region 14 with (first
              | (go_at_call 9; refine (CL.out _).mono ?_; rintro e v1 ⟨rfl, hg⟩; replace GR := hid (grown_trans GR.out hg); clear hg))
            have B1 := hid (Blk.new v1 23 #[.int .i64 3, .int .i64 (b2i ble)])
            replace GR := hid (grown_alloc GR.out (Obj.cells #[.int .i64 3, .int .i64 (b2i ble)] 23))
            generalize v1.alloc (Obj.cells #[.int .i64 3, .int .i64 (b2i ble)] 23) = w1 at *
            generalize v1.heap.size = c1 at *
            clear x0 x1 x2 x3 CL
            obtain ⟨x0, x1, x2, x3⟩ := SR.out _ GR.out
            go_upto_region 15 with (first
              | (go_at_call 9; refine (CG.out _).mono ?_; rintro e v2 ⟨rfl, hg⟩; replace GR := hid (grown_trans GR.out hg); replace B1 := hid (B1.out.kept hg (by simp)); clear hg))
            have B2 := hid (Blk.new v2 23 #[.int .i64 3, .int .i64 (b2i ble)])
            replace GR := hid (grown_alloc GR.out (Obj.cells #[.int .i64 3, .int .i64 (b2i ble)] 23))
            replace B1 := hid (B1.out.alloc (Obj.cells #[.int .i64 3, .int .i64 (b2i ble)] 23))
            generalize v2.alloc (Obj.cells #[.int .i64 3, .int .i64 (b2i ble)] 23) = w2 at *
            generalize v2.heap.size = c2 at *
            clear x0 x1 x2 x3 CG
            obtain ⟨x0, x1, x2, x3⟩ := SR.out _ GR.out
            go_upto_region 16 with (first
              | (go_at_call 9; refine (CN.out _).mono ?_; rintro e v3 ⟨rfl, hg⟩; replace GR := hid (grown_trans GR.out hg); replace B1 := hid (B1.out.kept hg (by simp)); replace B2 := hid (B2.out.kept hg (by simp)); clear hg))
            have B3 := hid (Blk.new v3 23 #[.int .i64 3, .int .i64 (b2i (!be))])
            replace GR := hid (grown_alloc GR.out (Obj.cells #[.int .i64 3, .int .i64 (b2i (!be))] 23))
            replace B1 := hid (B1.out.alloc (Obj.cells #[.int .i64 3, .int .i64 (b2i (!be))] 23))
            replace B2 := hid (B2.out.alloc (Obj.cells #[.int .i64 3, .int .i64 (b2i (!be))] 23))
            generalize v3.alloc (Obj.cells #[.int .i64 3, .int .i64 (b2i (!be))] 23) = w3 at *
            generalize v3.heap.size = c3 at *
            clear x0 x1 x2 x3 CN
            obtain ⟨x0, x1, x2, x3⟩ := SR.out _ GR.out
            go_upto_region 17 with (first
              | (go_at_call 9; refine (CE.out _).mono ?_; rintro e v4 ⟨rfl, hg⟩; replace GR := hid (grown_trans GR.out hg); replace B1 := hid (B1.out.kept hg (by simp)); replace B2 := hid (B2.out.kept hg (by simp)); replace B3 := hid (B3.out.kept hg (by simp)); clear hg))
            have B4 := hid (Blk.new v4 23 #[.int .i64 3, .int .i64 (b2i be)])
            replace GR := hid (grown_alloc GR.out (Obj.cells #[.int .i64 3, .int .i64 (b2i be)] 23))
            replace B1 := hid (B1.out.alloc (Obj.cells #[.int .i64 3, .int .i64 (b2i be)] 23))
            replace B2 := hid (B2.out.alloc (Obj.cells #[.int .i64 3, .int .i64 (b2i be)] 23))
            replace B3 := hid (B3.out.alloc (Obj.cells #[.int .i64 3, .int .i64 (b2i be)] 23))
            generalize v4.alloc (Obj.cells #[.int .i64 3, .int .i64 (b2i be)] 23) = w4 at *
            generalize v4.heap.size = c4 at *
            clear x0 x1 x2 x3 CE
            obtain ⟨x0, x1, x2, x3⟩ := SR.out _ GR.out
            have S8 : Hid (∀ W, w4.grownBy W none → W.cell? ⟨c1, 0, none⟩ = some (.int .i64 3) ∧ W.cell? ⟨c1, 1, none⟩ = some (.int .i64 (b2i ble)) ∧ W.cell? ⟨c2, 0, none⟩ = some (.int .i64 3) ∧ W.cell? ⟨c2, 1, none⟩ = some (.int .i64 (b2i ble)) ∧ W.cell? ⟨c3, 0, none⟩ = some (.int .i64 3) ∧ W.cell? ⟨c3, 1, none⟩ = some (.int .i64 (b2i (!be))) ∧ W.cell? ⟨c4, 0, none⟩ = some (.int .i64 3) ∧ W.cell? ⟨c4, 1, none⟩ = some (.int .i64 (b2i be))) := fun W hW => by
              obtain ⟨r0, r1, _, _⟩ := two_cells (B1.out.kept hW (by simp))
              obtain ⟨s0, s1, _, _⟩ := two_cells (B2.out.kept hW (by simp))
              obtain ⟨t0, t1, _, _⟩ := two_cells (B3.out.kept hW (by simp))
              obtain ⟨u0, u1, _, _⟩ := two_cells (B4.out.kept hW (by simp))
              exact ⟨r0, r1, s0, s1, t0, t1, u0, u1⟩
            clear x0 x1 x2 x3 B1 B2 B3 B4 SR
            obtain ⟨x0, x1, x2, x3, x4, x5, x6, x7⟩ := S8.out w4 (grown_refl _ _)
            go_upto_region 17 with fail
            go_region_held3 (fun V => V.cell? ⟨c1, 0, none⟩ = some (.int .i64 3) ∧ V.cell? ⟨c1, 1, none⟩ = some (.int .i64 (b2i ble)) ∧ V.cell? ⟨c2, 0, none⟩ = some (.int .i64 3) ∧ V.cell? ⟨c2, 1, none⟩ = some (.int .i64 (b2i ble)) ∧ V.cell? ⟨c3, 0, none⟩ = some (.int .i64 3) ∧ V.cell? ⟨c3, 1, none⟩ = some (.int .i64 (b2i (!be))) ∧ V.cell? ⟨c4, 0, none⟩ = some (.int .i64 3) ∧ V.cell? ⟨c4, 1, none⟩ = some (.int .i64 (b2i be))) (first | assumption | exact S8.out _ (grown_drew (grown_refl _ _)) | go_keep) (first
              | (go_at_call 12; refine (AW.out _).mono ?_; rintro e wa ⟨rfl, gW⟩; have Ga : Hid (w4.grownBy wa none) := un_drew gW; have SK4 := S8.out wa Ga.out; clear gW)
              | (go_at_call 21; refine calls_at (args := #[vl 3 (b2i ble)]) rfl ?_; refine (CT.out ble _).mono ?_; rintro e wb ⟨rfl, gW⟩; replace Ga := hid (grown_trans Ga.out gW); have SK5 := S8.out wb Ga.out; clear gW)
              | (go_at_call 21; refine calls_at (args := #[vl 3 (b2i (!be))]) rfl ?_; refine (CT.out (!be) _).mono ?_; rintro e wb ⟨rfl, gW⟩; replace Ga := hid (grown_trans Ga.out gW); have SK5 := S8.out wb Ga.out; clear gW)
              | (go_at_call 21; refine calls_at (args := #[vl 3 (b2i be)]) rfl ?_; refine (CT.out be _).mono ?_; rintro e wb ⟨rfl, gW⟩; replace Ga := hid (grown_trans Ga.out gW); have SK5 := S8.out wb Ga.out; clear gW))
            all_goals
              (try go_wp2_with fail)
              go_ret
              refine ⟨?_, grown_trans G.out (grown_trans GR.out Ga.out)⟩
              first
              | rfl
              | (cases be <;> rfl)
        | false =>
          have qy : (FloatKind.f64.format.order Y Y != some .eq) = false := hy
          have hc1 : cnt cb 3 = 1 := by rw [HC.out, ← HNO.out, hx, hy]; rfl
          clear hx hy
          have SR : Hid (∀ W, w0.grownBy W none → W.cell? ⟨ba, 0, none⟩ = some (.int .i64 2) ∧ W.cell? ⟨ba, 1, none⟩ = some (.int .i64 x) ∧ W.cell? ⟨bb, 0, none⟩ = some (.int .i64 2) ∧ W.cell? ⟨bb, 1, none⟩ = some (.int .i64 y)) := fun W hW => by
            obtain ⟨q0, q1, q2, q3, _⟩ := SS.out W hW 0 (by omega)
            exact ⟨q0, q1, q2, q3⟩
          clear CB HLE HC HNO SS
          rw [hc1]
          clear hc1
          go_upto_region 11 with fail
          go_cut [10, 11] (fun v10 v11 wx => v10 = .float .f64 X ∧ v11 = .float .f64 Y ∧ w0.grownBy wx none)
          case first =>
            clear CL CG CN CE CT AW
            obtain ⟨x0, x1, x2, x3⟩ := SR.out wr GR.out
            go_region_held3 (fun V => V.cell? ⟨ba, 0, none⟩ = some (.int .i64 2) ∧ V.cell? ⟨ba, 1, none⟩ = some (.int .i64 x) ∧ V.cell? ⟨bb, 0, none⟩ = some (.int .i64 2) ∧ V.cell? ⟨bb, 1, none⟩ = some (.int .i64 y)) (first | assumption | exact SR.out _ (grown_drew GR.out) | go_keep) (first
              | (go_at_call 20; refine calls_at (args := #[vl 2 x]) rfl ?_; refine (CX.out _).mono ?_; rintro e wa ⟨rfl, gW⟩; have Ga : Hid (w0.grownBy wa none) := grown_trans GR.out (un_drew gW); have SK4 := SR.out wa Ga.out; clear gW)
              | (go_at_call 20; refine calls_at (args := #[vl 2 y]) rfl ?_; refine (CY.out _).mono ?_; rintro e wb ⟨rfl, gW⟩; have Gb : Hid (w0.grownBy wb none) := grown_trans Ga.out gW; have SK5 := SR.out wb Gb.out; clear gW))
            all_goals
              (try go_wp2_with fail)
              go_meet
              exact ⟨rfl, rfl, Gb.out⟩
          case rest =>
            obtain ⟨rfl, rfl, hgx⟩ := hcut
            replace GR := hid hgx
            clear hgx CX CY
            obtain ⟨x0, x1, x2, x3⟩ := SR.out _ GR.out
            go_upto_region 13 with fail
            go_upto_region 14 with (first
              | (go_at_call 9; refine (CL.out _).mono ?_; rintro e v1 ⟨rfl, hg⟩; replace GR := hid (grown_trans GR.out hg); clear hg))
            have B1 := hid (Blk.new v1 23 #[.int .i64 3, .int .i64 (b2i ble)])
            replace GR := hid (grown_alloc GR.out (Obj.cells #[.int .i64 3, .int .i64 (b2i ble)] 23))
            generalize v1.alloc (Obj.cells #[.int .i64 3, .int .i64 (b2i ble)] 23) = w1 at *
            generalize v1.heap.size = c1 at *
            clear x0 x1 x2 x3 CL
            obtain ⟨x0, x1, x2, x3⟩ := SR.out _ GR.out
            go_upto_region 15 with (first
              | (go_at_call 9; refine (CG.out _).mono ?_; rintro e v2 ⟨rfl, hg⟩; replace GR := hid (grown_trans GR.out hg); replace B1 := hid (B1.out.kept hg (by simp)); clear hg))
            have B2 := hid (Blk.new v2 23 #[.int .i64 3, .int .i64 (b2i ble)])
            replace GR := hid (grown_alloc GR.out (Obj.cells #[.int .i64 3, .int .i64 (b2i ble)] 23))
            replace B1 := hid (B1.out.alloc (Obj.cells #[.int .i64 3, .int .i64 (b2i ble)] 23))
            generalize v2.alloc (Obj.cells #[.int .i64 3, .int .i64 (b2i ble)] 23) = w2 at *
            generalize v2.heap.size = c2 at *
            clear x0 x1 x2 x3 CG
            obtain ⟨x0, x1, x2, x3⟩ := SR.out _ GR.out
            go_upto_region 16 with (first
              | (go_at_call 9; refine (CN.out _).mono ?_; rintro e v3 ⟨rfl, hg⟩; replace GR := hid (grown_trans GR.out hg); replace B1 := hid (B1.out.kept hg (by simp)); replace B2 := hid (B2.out.kept hg (by simp)); clear hg))
            have B3 := hid (Blk.new v3 23 #[.int .i64 3, .int .i64 (b2i (!be))])
            replace GR := hid (grown_alloc GR.out (Obj.cells #[.int .i64 3, .int .i64 (b2i (!be))] 23))
            replace B1 := hid (B1.out.alloc (Obj.cells #[.int .i64 3, .int .i64 (b2i (!be))] 23))
            replace B2 := hid (B2.out.alloc (Obj.cells #[.int .i64 3, .int .i64 (b2i (!be))] 23))
            generalize v3.alloc (Obj.cells #[.int .i64 3, .int .i64 (b2i (!be))] 23) = w3 at *
            generalize v3.heap.size = c3 at *
            clear x0 x1 x2 x3 CN
            obtain ⟨x0, x1, x2, x3⟩ := SR.out _ GR.out
            go_upto_region 17 with (first
              | (go_at_call 9; refine (CE.out _).mono ?_; rintro e v4 ⟨rfl, hg⟩; replace GR := hid (grown_trans GR.out hg); replace B1 := hid (B1.out.kept hg (by simp)); replace B2 := hid (B2.out.kept hg (by simp)); replace B3 := hid (B3.out.kept hg (by simp)); clear hg))
            have B4 := hid (Blk.new v4 23 #[.int .i64 3, .int .i64 (b2i be)])
            replace GR := hid (grown_alloc GR.out (Obj.cells #[.int .i64 3, .int .i64 (b2i be)] 23))
            replace B1 := hid (B1.out.alloc (Obj.cells #[.int .i64 3, .int .i64 (b2i be)] 23))
            replace B2 := hid (B2.out.alloc (Obj.cells #[.int .i64 3, .int .i64 (b2i be)] 23))
            replace B3 := hid (B3.out.alloc (Obj.cells #[.int .i64 3, .int .i64 (b2i be)] 23))
            generalize v4.alloc (Obj.cells #[.int .i64 3, .int .i64 (b2i be)] 23) = w4 at *
            generalize v4.heap.size = c4 at *
            clear x0 x1 x2 x3 CE
            obtain ⟨x0, x1, x2, x3⟩ := SR.out _ GR.out
            have S8 : Hid (∀ W, w4.grownBy W none → W.cell? ⟨c1, 0, none⟩ = some (.int .i64 3) ∧ W.cell? ⟨c1, 1, none⟩ = some (.int .i64 (b2i ble)) ∧ W.cell? ⟨c2, 0, none⟩ = some (.int .i64 3) ∧ W.cell? ⟨c2, 1, none⟩ = some (.int .i64 (b2i ble)) ∧ W.cell? ⟨c3, 0, none⟩ = some (.int .i64 3) ∧ W.cell? ⟨c3, 1, none⟩ = some (.int .i64 (b2i (!be))) ∧ W.cell? ⟨c4, 0, none⟩ = some (.int .i64 3) ∧ W.cell? ⟨c4, 1, none⟩ = some (.int .i64 (b2i be))) := fun W hW => by
              obtain ⟨r0, r1, _, _⟩ := two_cells (B1.out.kept hW (by simp))
              obtain ⟨s0, s1, _, _⟩ := two_cells (B2.out.kept hW (by simp))
              obtain ⟨t0, t1, _, _⟩ := two_cells (B3.out.kept hW (by simp))
              obtain ⟨u0, u1, _, _⟩ := two_cells (B4.out.kept hW (by simp))
              exact ⟨r0, r1, s0, s1, t0, t1, u0, u1⟩
            clear x0 x1 x2 x3 B1 B2 B3 B4 SR
            obtain ⟨x0, x1, x2, x3, x4, x5, x6, x7⟩ := S8.out w4 (grown_refl _ _)
            go_upto_region 17 with fail
            go_region_held3 (fun V => V.cell? ⟨c1, 0, none⟩ = some (.int .i64 3) ∧ V.cell? ⟨c1, 1, none⟩ = some (.int .i64 (b2i ble)) ∧ V.cell? ⟨c2, 0, none⟩ = some (.int .i64 3) ∧ V.cell? ⟨c2, 1, none⟩ = some (.int .i64 (b2i ble)) ∧ V.cell? ⟨c3, 0, none⟩ = some (.int .i64 3) ∧ V.cell? ⟨c3, 1, none⟩ = some (.int .i64 (b2i (!be))) ∧ V.cell? ⟨c4, 0, none⟩ = some (.int .i64 3) ∧ V.cell? ⟨c4, 1, none⟩ = some (.int .i64 (b2i be))) (first | assumption | exact S8.out _ (grown_drew (grown_refl _ _)) | go_keep) (first
              | (go_at_call 12; refine (AW.out _).mono ?_; rintro e wa ⟨rfl, gW⟩; have Ga : Hid (w4.grownBy wa none) := un_drew gW; have SK4 := S8.out wa Ga.out; clear gW)
              | (go_at_call 21; refine calls_at (args := #[vl 3 (b2i ble)]) rfl ?_; refine (CT.out ble _).mono ?_; rintro e wb ⟨rfl, gW⟩; replace Ga := hid (grown_trans Ga.out gW); have SK5 := S8.out wb Ga.out; clear gW)
              | (go_at_call 21; refine calls_at (args := #[vl 3 (b2i (!be))]) rfl ?_; refine (CT.out (!be) _).mono ?_; rintro e wb ⟨rfl, gW⟩; replace Ga := hid (grown_trans Ga.out gW); have SK5 := S8.out wb Ga.out; clear gW)
              | (go_at_call 21; refine calls_at (args := #[vl 3 (b2i be)]) rfl ?_; refine (CT.out be _).mono ?_; rintro e wb ⟨rfl, gW⟩; replace Ga := hid (grown_trans Ga.out gW); have SK5 := S8.out wb Ga.out; clear gW))
            all_goals
              (try go_wp2_with fail)
              go_ret
              refine ⟨?_, grown_trans G.out (grown_trans GR.out Ga.out)⟩
              first
              | rfl
              | (cases be <;> rfl)
    | succ gk =>
      have hn3 : n < 3 := by omega
      have i0 : (0 : Int) ≤ (n : Int) := by omega
      have i1 : (n : Int) < 3 := by omega
      have i2 : (n : Int).toNat = n := by omega
      have wi : IntKind.i64.wrap ((n : Int) + 1) = (n : Int) + 1 := by rw [IntKind.wrap_i64]; omega
      have wcn : IntKind.i64.wrap (cnt cb n + 1) = cnt cb n + 1 := by have := HLE.out n; rw [IntKind.wrap_i64]; omega
      have CBn := hid (CB.out n hn3)
      have HN1 : Hid (cnt cb (n + 1) = cnt cb n + b2i (cb n)) := rfl
      have SR : Hid (∀ W, wr.grownBy W none → W.cell? ⟨ba, 0, none⟩ = some (.int .i64 2) ∧ W.cell? ⟨ba, 1, none⟩ = some (.int .i64 x) ∧ W.cell? ⟨bb, 0, none⟩ = some (.int .i64 2) ∧ W.cell? ⟨bb, 1, none⟩ = some (.int .i64 y) ∧ W.cell? ⟨bs, n, none⟩ = some (.string (sg n))) := fun W hW => SS.out W (grown_trans GR.out hW) n hn3
      clear CB CL CG CN CE CX CY AW HNO HC SS HLE
      generalize cb n = b at *
      generalize sg n = sn at *
      generalize hcn : cnt cb n = c at *
      clear hcn
      cases b with
      | true =>
        have C9 : Hid (∀ W, Calls Try.prog 9 #[.string sn, vl 2 x, vl 2 y] W fun e w' => e = .returned (tw (vl 3 1) 0) ∧ W.grownBy w' none) := CBn
        have C21 : Hid (∀ W, Calls Try.prog 21 #[vl 3 1] W fun e w' => e = .returned (.bool true) ∧ W.grownBy w' none) := CT.out true
        clear CBn CT
        go_upto_region 8 with fail
        go_cut [8, 9] (fun v8 v9 wx => v9 = .int .i64 0 ∧ ∃ K, v8 = .pointer (some ⟨K, 0, none⟩) ∧ wr.heap.size ≤ K ∧ Blk wx K 23 #[.int .i64 3, .int .i64 1] ∧ wr.grownBy wx none)
        case first =>
          clear GR HN1
          obtain ⟨x0, x1, x2, x3, x4⟩ := SR.out wr (grown_refl _ _)
          go_region_held3 (fun V => V.cell? ⟨ba, 0, none⟩ = some (.int .i64 2) ∧ V.cell? ⟨ba, 1, none⟩ = some (.int .i64 x) ∧ V.cell? ⟨bb, 0, none⟩ = some (.int .i64 2) ∧ V.cell? ⟨bb, 1, none⟩ = some (.int .i64 y) ∧ V.cell? ⟨bs, n, none⟩ = some (.string sn)) (first | assumption | exact SR.out _ (grown_drew (grown_refl _ _)) | exact SR.out _ (grown_drew (grown_alloc (grown_refl _ _) _)) | go_keep) (first
            | (go_at_call 9; refine (C9.out _).mono ?_; rintro e wb ⟨rfl, gW⟩; have Gb : Hid (wr.grownBy wb none) := (by first | exact un_drew gW | exact un_drewA gW); have SK5 := SR.out wb Gb.out; (first
                | (have BK := hid (Blk.kept (Blk.drew (Blk.new wr 23 #[.int .i64 0, .int .i64 0])) gW (by simp)); have SK6 := SR.out ((wb.setCell ⟨wr.heap.size, 0, none⟩ (.int .i64 3)).setCell ⟨wr.heap.size, 1, none⟩ (.int .i64 1)) (set_two Gb.out (Nat.le_refl _) _ _); obtain ⟨z0, z1, f0, f1⟩ := two_cells BK.out)
                | (have SK6 := SR.out (wb.alloc (.cells #[.int .i64 0, .int .i64 0] 23)) (grown_alloc Gb.out _); have SK7 := SR.out (wb.alloc (.cells #[.int .i64 3, .int .i64 1] 23)) (grown_alloc Gb.out _))); clear gW))
          all_goals
            (try go_wp2_with fail)
            go_meet
            first
            | exact ⟨rfl, _, rfl, Gb.out.size, Blk.new wb 23 _, grown_alloc Gb.out _⟩
            | exact ⟨rfl, _, rfl, Nat.le_refl _, blk_two BK.out _ _, set_two Gb.out (Nat.le_refl _) _ _⟩
        case rest =>
          obtain ⟨rfl, K, rfl, hK, hbk, hgx⟩ := hcut
          obtain ⟨y0, y1, _, _⟩ := two_cells hbk
          replace GR := hid (grown_trans GR.out hgx)
          clear hgx hbk hK
          go_wp2_with (first
            | (go_at_call 21; refine (C21.out _).mono ?_; rintro e wd ⟨rfl, hg⟩; replace GR := hid (grown_trans GR.out hg); clear hg))
          go_roundg gk
          case measure => omega
          case rel => exact ⟨n + 1, by simp, by omega, by rw [HN1.out]; simp [b2i], GR.out⟩
      | false =>
        have C9 : Hid (∀ W, Calls Try.prog 9 #[.string sn, vl 2 x, vl 2 y] W fun e w' => e = .returned (tw (vl 3 0) 0) ∧ W.grownBy w' none) := CBn
        have C21 : Hid (∀ W, Calls Try.prog 21 #[vl 3 0] W fun e w' => e = .returned (.bool false) ∧ W.grownBy w' none) := CT.out false
        clear CBn CT
        go_upto_region 8 with fail
        go_cut [8, 9] (fun v8 v9 wx => v9 = .int .i64 0 ∧ ∃ K, v8 = .pointer (some ⟨K, 0, none⟩) ∧ wr.heap.size ≤ K ∧ Blk wx K 23 #[.int .i64 3, .int .i64 0] ∧ wr.grownBy wx none)
        case first =>
          clear GR HN1
          obtain ⟨x0, x1, x2, x3, x4⟩ := SR.out wr (grown_refl _ _)
          go_region_held3 (fun V => V.cell? ⟨ba, 0, none⟩ = some (.int .i64 2) ∧ V.cell? ⟨ba, 1, none⟩ = some (.int .i64 x) ∧ V.cell? ⟨bb, 0, none⟩ = some (.int .i64 2) ∧ V.cell? ⟨bb, 1, none⟩ = some (.int .i64 y) ∧ V.cell? ⟨bs, n, none⟩ = some (.string sn)) (first | assumption | exact SR.out _ (grown_drew (grown_refl _ _)) | exact SR.out _ (grown_drew (grown_alloc (grown_refl _ _) _)) | go_keep) (first
            | (go_at_call 9; refine (C9.out _).mono ?_; rintro e wb ⟨rfl, gW⟩; have Gb : Hid (wr.grownBy wb none) := (by first | exact un_drew gW | exact un_drewA gW); have SK5 := SR.out wb Gb.out; (first
                | (have BK := hid (Blk.kept (Blk.drew (Blk.new wr 23 #[.int .i64 0, .int .i64 0])) gW (by simp)); have SK6 := SR.out ((wb.setCell ⟨wr.heap.size, 0, none⟩ (.int .i64 3)).setCell ⟨wr.heap.size, 1, none⟩ (.int .i64 0)) (set_two Gb.out (Nat.le_refl _) _ _); obtain ⟨z0, z1, f0, f1⟩ := two_cells BK.out)
                | (have SK6 := SR.out (wb.alloc (.cells #[.int .i64 0, .int .i64 0] 23)) (grown_alloc Gb.out _); have SK7 := SR.out (wb.alloc (.cells #[.int .i64 3, .int .i64 0] 23)) (grown_alloc Gb.out _))); clear gW))
          all_goals
            (try go_wp2_with fail)
            go_meet
            first
            | exact ⟨rfl, _, rfl, Gb.out.size, Blk.new wb 23 _, grown_alloc Gb.out _⟩
            | exact ⟨rfl, _, rfl, Nat.le_refl _, blk_two BK.out _ _, set_two Gb.out (Nat.le_refl _) _ _⟩
        case rest =>
          obtain ⟨rfl, K, rfl, hK, hbk, hgx⟩ := hcut
          obtain ⟨y0, y1, _, _⟩ := two_cells hbk
          replace GR := hid (grown_trans GR.out hgx)
          clear hgx hbk hK
          go_wp2_with (first
            | (go_at_call 21; refine (C21.out _).mono ?_; rintro e wd ⟨rfl, hg⟩; replace GR := hid (grown_trans GR.out hg); clear hg))
          go_roundg gk
          case measure => omega
          case rel => exact ⟨n + 1, by simp, by omega, by rw [HN1.out]; simp [b2i], GR.out⟩
end Go.Proofs.Ytnbolfogmhlanaa
