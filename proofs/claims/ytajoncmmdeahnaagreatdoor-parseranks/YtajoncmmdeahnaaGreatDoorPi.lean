/-
  The parser: ended.
-/
import Derived.Test.YtajoncmmdeahnaaGreatDoorKPh
import Derived.Deep.Cut
namespace Go.Proofs.YtajoncmmdeahnaaGreatDoor
open Go.RowKit
namespace Pm
set_option maxRecDepth 100000 in
set_option maxHeartbeats 4000000 in
theorem ended_any {b tg cp : Nat} {all : List Tk} {p : Ps} (base0 : Nat) (hb0 : b < base0) (k : Int) (s : ByteArray) (kid : Nd) (ps : Option Addr) (cs : Nat) (w : World) (hP : PsA w b tg cp all p) (hx : endedP (fun n => .mk k 0 s 0 [n]) kid p ≠ .error none)
    (hkd : KsV w (fun g => base0 ≤ g ∧ g < w.heap.size) (.slice ps kid.kids.length cs) kid.kids) (hb1 : base0 ≤ w.heap.size) :
    Calls Tryz.prog 233 #[.pointer (some ⟨b, 0, none⟩), .agg #[.int .i64 k, .int .i64 0, .string s, .int .i64 0, .slice none 0 0], .agg #[.int .i64 kid.kind, .int .i64 kid.ty, .string kid.txt, .int .i64 kid.num, .slice ps kid.kids.length cs]] w (PrP (nV base0) b tg cp all w (endedP (fun n => .mk k 0 s 0 [n]) kid p)) := by
  have hbl := hP.lt
  have htl := hP.tgl
  have HX := hid hx
  have G0 := hid (grown_refl w (some b))
  have P0 := hid hP
  have C120 : Hid (∀ q W, PsA W b tg cp all q → wantP [59] q ≠ .error none → Calls Tryz.prog 120 #[.pointer (some ⟨b, 0, none⟩), .string ⟨#[59]⟩] W (PrP uV b tg cp all W (wantP [59] q))) := fun q W hW h => want_any [59] W hW h
  have C42 : Hid (∀ q x k t s n ps l c W, PsA W b tg cp all q → madeP x q ≠ .error none → Calls Tryz.prog 42 #[.pointer (some ⟨b, 0, none⟩), .agg #[.int .i64 k, .int .i64 t, .string s, .int .i64 n, .slice ps l c]] W (PrP (fun _ _ v => v = .agg #[.int .i64 k, .int .i64 t, .string s, .int .i64 n, .slice ps l c]) b tg cp all W (madeP x q))) := fun q x k t s n ps l c W hW h => made_any x k t s n ps l c W hW h
  have XA : Hid (Blk (((w.alloc (.cells #[.int .i64 k, .int .i64 0, .string s, .int .i64 0, .slice none 0 0] 27)).alloc (.cells #[.int .i64 kid.kind, .int .i64 kid.ty, .string kid.txt, .int .i64 kid.num, .slice ps kid.kids.length cs] 27)).alloc (.cells #[.int .i64 0, .int .i64 0, .string ⟨#[]⟩, .int .i64 0, .slice none 0 0] 27)) w.heap.size 27 #[.int .i64 k, .int .i64 0, .string s, .int .i64 0, .slice none 0 0]) := hid (((Blk.new w 27 _).alloc _).alloc _)
  have XB : Hid (Blk (((w.alloc (.cells #[.int .i64 k, .int .i64 0, .string s, .int .i64 0, .slice none 0 0] 27)).alloc (.cells #[.int .i64 kid.kind, .int .i64 kid.ty, .string kid.txt, .int .i64 kid.num, .slice ps kid.kids.length cs] 27)).alloc (.cells #[.int .i64 0, .int .i64 0, .string ⟨#[]⟩, .int .i64 0, .slice none 0 0] 27)) (w.heap.size + 1) 27 #[.int .i64 kid.kind, .int .i64 kid.ty, .string kid.txt, .int .i64 kid.num, .slice ps kid.kids.length cs]) := hid (by have h := (Blk.new (w.alloc (.cells #[.int .i64 k, .int .i64 0, .string s, .int .i64 0, .slice none 0 0] 27)) 27 #[.int .i64 kid.kind, .int .i64 kid.ty, .string kid.txt, .int .i64 kid.num, .slice ps kid.kids.length cs]).alloc (.cells #[.int .i64 0, .int .i64 0, .string ⟨#[]⟩, .int .i64 0, .slice none 0 0] 27); rw [World.size_alloc] at h; exact h)
  have XZ : Hid (Blk (((w.alloc (.cells #[.int .i64 k, .int .i64 0, .string s, .int .i64 0, .slice none 0 0] 27)).alloc (.cells #[.int .i64 kid.kind, .int .i64 kid.ty, .string kid.txt, .int .i64 kid.num, .slice ps kid.kids.length cs] 27)).alloc (.cells #[.int .i64 0, .int .i64 0, .string ⟨#[]⟩, .int .i64 0, .slice none 0 0] 27)) (w.heap.size + 2) 27 #[.int .i64 0, .int .i64 0, .string ⟨#[]⟩, .int .i64 0, .slice none 0 0]) := hid (by have h := Blk.new ((w.alloc (.cells #[.int .i64 k, .int .i64 0, .string s, .int .i64 0, .slice none 0 0] 27)).alloc (.cells #[.int .i64 kid.kind, .int .i64 kid.ty, .string kid.txt, .int .i64 kid.num, .slice ps kid.kids.length cs] 27)) 27 #[.int .i64 0, .int .i64 0, .string ⟨#[]⟩, .int .i64 0, .slice none 0 0]; rw [World.size_alloc, World.size_alloc] at h; exact h)
  have hsz : (((w.alloc (.cells #[.int .i64 k, .int .i64 0, .string s, .int .i64 0, .slice none 0 0] 27)).alloc (.cells #[.int .i64 kid.kind, .int .i64 kid.ty, .string kid.txt, .int .i64 kid.num, .slice ps kid.kids.length cs] 27)).alloc (.cells #[.int .i64 0, .int .i64 0, .string ⟨#[]⟩, .int .i64 0, .slice none 0 0] 27)).heap.size = w.heap.size + 3 := by rw [World.size_alloc, World.size_alloc, World.size_alloc]
  have gw : w.grownBy (((w.alloc (.cells #[.int .i64 k, .int .i64 0, .string s, .int .i64 0, .slice none 0 0] 27)).alloc (.cells #[.int .i64 kid.kind, .int .i64 kid.ty, .string kid.txt, .int .i64 kid.num, .slice ps kid.kids.length cs] 27)).alloc (.cells #[.int .i64 0, .int .i64 0, .string ⟨#[]⟩, .int .i64 0, .slice none 0 0] 27)) none := grown_alloc (grown_alloc (grown_alloc (grown_refl w none) _) _) _
  have PW := hid (hP.kept gw)
  have GW := hid (Loc.grown G0.out ((Loc.refl _ w).quiet gw))
  have KW : Hid (KsV (((w.alloc (.cells #[.int .i64 k, .int .i64 0, .string s, .int .i64 0, .slice none 0 0] 27)).alloc (.cells #[.int .i64 kid.kind, .int .i64 kid.ty, .string kid.txt, .int .i64 kid.num, .slice ps kid.kids.length cs] 27)).alloc (.cells #[.int .i64 0, .int .i64 0, .string ⟨#[]⟩, .int .i64 0, .slice none 0 0] 27)) (fun g => base0 ≤ g ∧ g < w.heap.size) (.slice ps kid.kids.length cs) kid.kids) := hid (hkd.kept gw)
  clear gw hkd
  clear hx hP
  go_enter Tryz.func233, Tryz.ntmps233
  go_upto_region 1 with fail
  generalize (((w.alloc (.cells #[.int .i64 k, .int .i64 0, .string s, .int .i64 0, .slice none 0 0] 27)).alloc (.cells #[.int .i64 kid.kind, .int .i64 kid.ty, .string kid.txt, .int .i64 kid.num, .slice ps kid.kids.length cs] 27)).alloc (.cells #[.int .i64 0, .int .i64 0, .string ⟨#[]⟩, .int .i64 0, .slice none 0 0] 27)) = W3 at *
  have NC : Hid (NdC (W3.alloc (.cells #[.int .i64 kid.kind, .int .i64 kid.ty, .string kid.txt, .int .i64 kid.num, .slice ps kid.kids.length cs] 27)) ⟨w.heap.size + 3, 0, none⟩ kid (.slice ps kid.kids.length cs)) := hid (by have h := NdC.new W3 27 kid (.slice ps kid.kids.length cs); rw [hsz] at h; exact h)
  have KQ : Hid (KsV (W3.alloc (.cells #[.int .i64 kid.kind, .int .i64 kid.ty, .string kid.txt, .int .i64 kid.num, .slice ps kid.kids.length cs] 27)) (fun g => (base0 ≤ g ∧ g < w.heap.size) ∧ some g ≠ (Value.slice none 0 0).ownBlock) (.slice ps kid.kids.length cs) kid.kids) := hid ((KW.out.mono (fun _ h _ => ⟨h, by simp [Value.ownBlock]⟩)).kept (grown_alloc (grown_refl W3 none) _))
  have SZ : Hid (w.heap.size + 3 ≤ (W3.alloc (.cells #[.int .i64 kid.kind, .int .i64 kid.ty, .string kid.txt, .int .i64 kid.num, .slice ps kid.kids.length cs] 27)).heap.size) := hid (by rw [World.size_alloc]; omega)
  have e4 := XA.out.cell 4
  have b0 := XB.out.cell 0
  have b1 := XB.out.cell 1
  have b2 := XB.out.cell 2
  have b3 := XB.out.cell 3
  have b4 := XB.out.cell 4
  simp at e4 b0 b1 b2 b3 b4
  clear XB
  go_wp2_with (first
    | (at_builtin; refine append_ndX (X := fun g => base0 ≤ g ∧ g < w.heap.size) 25 27 Tryz.underlying25 info27 (.tmp 8) (.tmp 10) rfl rfl (w.heap.size + 3) (.slice none 0 0) [] kid (.slice ps kid.kids.length cs) ⟨w.heap.size + 3, 0, none⟩ 1 (Kx.nil _ _ _) NC.out KQ.out (by simp) SZ.out rfl rfl ?_; intro v5 w5 h5 g5; have KB5 := hid h5; have g5' : W3.grownBy w5 none := grown_none (grown_alloc (grown_refl W3 none) _) g5; have P5 := hid (PW.out.kept g5'); have G5 := hid (Loc.grown GW.out ((Loc.refl _ W3).quiet g5')); have XA5 := hid (XA.out.kept g5' (by simp)); have XZ5 := hid (XZ.out.kept g5' (by simp)); obtain ⟨p5, c5, e5, _⟩ := h5.form; subst e5; have f6 := XA5.out.frozen 4; have d6 := XA5.out.cell 4; simp at d6; clear h5 g5 g5'))
  have XA6 := hid (XA5.out.set 4 (.slice p5 1 c5))
  have gs := grown_set (grown_refl w5 (some w.heap.size)) 4 (.slice p5 1 c5)
  have P6 := hid (P5.out.keptG gs (by omega) (by omega))
  have G6 := hid (grown_to G5.out gs (Nat.le_refl _))
  have XZ6 := hid (XZ5.out.kept gs (fun e => by injection e with e; omega))
  have K6 := hid (KB5.out.ks.keptB gs (by omega))
  simp at XA6
  clear gs
  generalize w5.setCell ⟨w.heap.size, 4, none⟩ (.slice p5 1 c5) = w6 at *
  go_wp2_with (first
    | (go_at_call 120; refine (C120.out p _ P6.out (by have h := HX.out; unfold endedP at h; exact bnd_ne h)).mono ?_; intro e w7 hh0; rcases PrP.cases hh0 (by have h := HX.out; unfold endedP at h; exact bnd_ne h) with hh | hh; (case inl => obtain ⟨at_, n, hz, rfl, g⟩ := hh; exact ⟨rfl, by unfold endedP; rw [bnd_err hz]; exact ⟨rfl, grown_bb G6.out g⟩⟩); obtain ⟨a7, q7, v7, hz, rfl, hv, pp, g⟩ := hh; have hv' : v7 = .tuple #[] := hv; subst hv'; have HZ7 := hid (And.intro hz trivial); have P7 := hid pp; have G7 := hid (grown_bb G6.out g); have XA7 := hid (XA6.out.kept g (lt_nb hbl _ (by omega))); have XZ7 := hid (XZ6.out.kept g (lt_nb hbl _ (by omega))); have K7 := hid (K6.out.keptB g (by omega)); have y0 := XA7.out.cell 0; have y1 := XA7.out.cell 1; have y2 := XA7.out.cell 2; have y3 := XA7.out.cell 3; have y4 := XA7.out.cell 4; simp at y0 y1 y2 y3 y4; clear hz pp g hh0)
    | (go_at_call 42; refine (C42.out q7 (.mk k 0 s 0 [kid]) k 0 s 0 p5 1 c5 _ P7.out (by have h := HX.out; unfold endedP at h; rw [bnd_ok HZ7.out.1] at h; exact h)).mono ?_; intro e w8 hh0; rcases PrP.cases hh0 (by have h := HX.out; unfold endedP at h; rw [bnd_ok HZ7.out.1] at h; exact h) with hh | hh; (case inl => obtain ⟨at_, n, hz, rfl, g⟩ := hh; exact ⟨rfl, by unfold endedP; rw [bnd_ok HZ7.out.1, hz]; exact ⟨rfl, grown_bb G7.out g⟩⟩); obtain ⟨a8, q8, v8, hz, rfl, hv, pp, g⟩ := hh; have hv' : v8 = _ := hv; subst hv'; obtain rfl := made_ok hz; have HZ8 := hid (And.intro hz trivial); have P8 := hid pp; have G8 := hid (grown_bb G7.out g); have XZ8 := hid (XZ7.out.kept g (lt_nb hbl _ (by omega))); have K8 := hid (K7.out.keptB g (by omega)); clear hz pp g hh0)
    | (refine store_nd (.tmp 6) (.tmp 17) rfl rfl (w.heap.size + 2) XZ8.out rfl rfl ?_; intro w9 b9 g9; have Z9 := hid b9; have G9 := hid (grown_to G8.out g9 (by omega)); have P9 := hid (P8.out.keptG g9 (by omega) (by omega)); have K9 := hid (K8.out.keptB g9 (by omega)); clear b9 g9))
  refine bodyPost_ret (results_nd rfl _ _ (w.heap.size + 2) rfl Z9.out) rfl ?_
  unfold endedP
  rw [bnd_ok HZ7.out.1, HZ8.out.1]
  exact ⟨_, rfl, ⟨_, rfl, K9.out.mono (fun g hg _ => by omega)⟩, P9.out, G9.out⟩
end Pm
end Go.Proofs.YtajoncmmdeahnaaGreatDoor
