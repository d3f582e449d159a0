/-
  WalPlays: where a record that is read stands. WalFull: what holds at the loop's head. WalFull: what holds behind a commit.
-/
import Derived.Test.YtddnjlnnkeiplaaKPlc
import Derived.Test.YtddnjlnnkeiplaaXPlm
namespace Go.Proofs.Ytddnjlnnkeiplaa
open Go.RowKit Go.Maps
theorem atR_some {l : List (Nat × ByteArray)} {a : Int} {t : ByteArray} (h : atR l a = some t) : ∃ r ∈ l, (r.1 : Int) = a := by
  unfold atR at h
  cases hf : l[findR l a]? with
  | none => rw [hf] at h; cases h
  | some p =>
    rw [hf] at h
    have h' : (if (p.1 : Int) = a then some p.2 else none) = some t := h
    by_cases hp : (p.1 : Int) = a
    · exact ⟨p, List.mem_of_getElem? hf, hp⟩
    · rw [if_neg hp] at h'
      cases h'
theorem at_bound {d : Nat} {fr : List Fr} {ts : List ByteArray} {an : Int} {t : ByteArray} (ha : atR (logP d fr ts).recs an = some t) : 0 ≤ an ∧ an < (bytL fr).size + (bytL (ts.map recF)).size := by
  obtain ⟨r, hr, rfl⟩ := atR_some ha
  have h1 := (fok_all d (fr ++ ts.map recF)).low r hr
  rw [bytL_app, ByteArray.size_append] at h1
  omega
theorem read_some {l : List (Nat × ByteArray)} {a : Int} {t : ByteArray} (h : atR l a = some t) : readT l a = t ∧ readC l a = 0 := by
  unfold readT readC
  rw [h]
  exact ⟨rfl, rfl⟩
theorem read_none {l : List (Nat × ByteArray)} {a : Int} (h : atR l a = none) : readC l a = 2 := by
  unfold readC
  rw [h]
  rfl
end Go.Proofs.Ytddnjlnnkeiplaa
namespace Go.Proofs.Ytddnjlnnkeiplaa
open Go.RowKit Go.Maps
def firstB : ByteArray := ⟨#[102, 105, 114, 115, 116]⟩
def rB : ByteArray := ⟨#[114]⟩
/-- What holds at the loop's head. -/
structure FuI (w : World) (xt : X.Xt) (M k b : Nat) (wr : World) (fr : List Fr) (F : Option ByteArray) (c mk : Nat) (sv : Value) : Prop where
  log : IsLog wr w.heap.size b (logP w.heap.size fr [])
  disk : X.IsDisk xt wr w.heap.size w.heap.size (Dn F c)
  file : F.getD ⟨#[]⟩ = bytL fr
  shut : Shut fr
  fsz : ∀ x ∈ fr, x.2.size ≤ 300
  cnt : fr.length ≤ 2 * k + 1
  chg : c ≤ k + 1
  mks : mk ≤ k + 1
  mrk : (frG w.heap.size fr).marked = decide (0 < mk)
  blk : Blk wr M 32 (mdlV sv (.slice none 0 0) (bytL fr).size 0 (frG w.heap.size fr).root mk)
  sure : Recs wr 0 sv (frG w.heap.size fr).recs
  plan : X.noPl xt
  mem : w.heap.size < M
  grown : w.grownBy wr none
section
variable {w wr wr' : World} {xt : X.Xt} {M k b c mk : Nat} {fr : List Fr} {F : Option ByteArray} {sv : Value}
theorem FuI.recsz (h : FuI w xt M k b wr fr F c mk sv) : (frG w.heap.size fr).recs.length ≤ 2 * k + 1 := by
  have h1 := (fok_all w.heap.size fr).few
  have h2 := h.cnt
  omega
theorem FuI.bytes (h : FuI w xt M k b wr fr F c mk sv) : (bytL fr).size ≤ (2 * k + 1) * 309 :=
  Nat.le_trans (bytL_le fr h.fsz) (Nat.mul_le_mul_right 309 h.cnt)
theorem FuI.kept (h : FuI w xt M k b wr fr F c mk sv) (hg : wr.grownBy wr' none) : FuI w xt M k b wr' fr F c mk sv :=
  { h with
    log := h.log.kept hg
    disk := h.disk.kept hg
    blk := h.blk.kept hg (by simp)
    sure := h.sure.none hg
    grown := grown_none h.grown hg }
theorem FuI.same (h : FuI w xt M k b wr fr F c mk sv) (hk : k ≤ 60) :
    Calls Try.prog 24 #[.pointer (some ⟨b, 0, none⟩), .agg (mdlV sv (.slice none 0 0) (bytL fr).size 0 (frG w.heap.size fr).root mk)] wr fun e w' => e = .returned (.bool true) ∧ wr.grownBy w' none := by
  have hz := h.recsz
  have ha := logP_asc w.heap.size fr []
  have hr : (logP w.heap.size fr []).recs = (frG w.heap.size fr).recs := by show (frG w.heap.size (fr ++ [])).recs = _; rw [List.append_nil]
  exact same_any w.heap.size b 0 (logP w.heap.size fr []) (frG w.heap.size fr).recs [] sv (.slice none 0 0) mk wr h.log h.sure (recs_nil _ _) ha (by rw [hr]; omega) (fun r hm => by
    rw [List.append_nil, ← hr] at hm
    exact atR_mem ha hm) h.mrk (by show _ + 0 ≤ _; omega)
theorem FuI.up {k' : Nat} (h : FuI w xt M k b wr fr F c mk sv) (hk : k ≤ k') : FuI w xt M k' b wr fr F c mk sv :=
  { h with
    cnt := by have := h.cnt; omega
    chg := by have := h.chg; omega
    mks := by have := h.mks; omega }
/-- Behind a call of the log's or the disk's. -/
theorem FuI.over (h : FuI w xt M k b wr fr F c mk sv) (hT : Low w.heap.size wr wr') :
    Blk wr' M 32 (mdlV sv (.slice none 0 0) (bytL fr).size 0 (frG w.heap.size fr).root mk) ∧ Recs wr' 0 sv (frG w.heap.size fr).recs ∧ w.grownBy wr' none :=
  ⟨low_blk hT h.blk ⟨by decide, by decide, by decide, by decide, by decide⟩, h.sure.low hT, Low.grown h.grown hT⟩
end
theorem first_fr (d : Nat) : (frG d [(false, firstB)]).recs = [] ∧ (frG d [(false, firstB)]).root = firstB ∧ (frG d [(false, firstB)]).marked = true := ⟨rfl, rfl, rfl⟩
theorem first_size : (bytL [(false, firstB)]).size = 14 := by rw [bytL_one, one_len]; rfl
theorem mfirst (W : World) : Calls Try.prog 15 #[.agg #[.slice none 0 0, .slice none 0 0, .int .i64 0, .int .i64 0, .string ⟨#[]⟩, .int .i64 0], .string firstB] W fun e w' => ∃ p c, e = .returned (.agg #[.slice p 0 c, .slice none 0 0, .int .i64 14, .int .i64 0, .string firstB, .int .i64 1]) ∧ Recs w' 0 (.slice p 0 c) [] ∧ W.grownBy w' none := by
  refine (mcommit_any 0 [] [] (.slice none 0 0) (.slice none 0 0) 0 0 0 ⟨#[]⟩ firstB W (recs_nil _ _) (recs_nil _ _) (by decide) (by decide) (by decide) (by decide) (by decide)).mono ?_
  rintro e w' ⟨sv, rfl, hr, hg⟩
  obtain ⟨p, c, rfl⟩ := hr.form
  exact ⟨p, c, rfl, Recs.down hr (Nat.zero_le _), hg⟩
theorem FuI.start {w w3 : World} {b : Nat} {p : Option Addr} {cc : Nat} (xt : X.Xt) (hx : X.noPl xt) (hl : IsLog w3 w.heap.size b (logP w.heap.size [(false, firstB)] [])) (hd : X.IsDisk xt w3 w.heap.size w.heap.size (Dn (some (bytL [(false, firstB)])) 1)) (hg : w.grownBy w3 none) {M : Nat} (hM : w.heap.size < M) (hb : Blk w3 M 32 #[.slice p 0 cc, .slice none 0 0, .int .i64 14, .int .i64 0, .string firstB, .int .i64 1]) (hr : Recs w3 0 (.slice p 0 cc) []) :
    FuI w xt M 0 b w3 [(false, firstB)] (some (bytL [(false, firstB)])) 1 1 (.slice p 0 cc) where
  log := hl
  disk := hd
  file := rfl
  shut := Or.inr ⟨[], firstB, rfl⟩
  fsz := fun x hx => by rw [List.mem_singleton.1 hx]; decide
  cnt := Nat.le_refl _
  chg := Nat.le_refl _
  mks := Nat.le_refl _
  mrk := rfl
  blk := by rw [first_size]; exact hb
  sure := hr
  plan := hx
  mem := hM
  grown := hg
end Go.Proofs.Ytddnjlnnkeiplaa
namespace Go.Proofs.Ytddnjlnnkeiplaa
open Go.RowKit Go.Maps
theorem mcommit_r (S T : List (Nat × ByteArray)) (sv wv : Value) (long more marks lg mk1 : Nat) (root0 : ByteArray) (W : World) (hs : Recs W 0 sv S) (ht : Recs W 0 wv T) (hST : S.length + T.length ≤ 100000) (h1 : long ≤ 1000000) (h2 : more ≤ 1000000) (h3 : marks ≤ 1000000) (hlg : lg = long + (more + 10)) (hmk : mk1 = marks + 1) :
    Calls Try.prog 15 #[.agg #[sv, wv, .int .i64 long, .int .i64 more, .string root0, .int .i64 marks], .string rB] W fun e w' => ∃ p c, e = .returned (.agg #[.slice p (S.length + T.length) c, .slice none 0 0, .int .i64 lg, .int .i64 0, .string rB, .int .i64 mk1]) ∧ Recs w' 0 (.slice p (S.length + T.length) c) (S ++ T) ∧ W.grownBy w' none := by
  subst hlg hmk
  refine (mcommit_any 0 S T sv wv long more marks root0 rB W hs ht hST h1 h2 h3 (by decide)).mono ?_
  rintro e w' ⟨sv', rfl, hr, hg⟩
  obtain ⟨p, c, e2⟩ := hr.form
  rw [List.length_append] at e2
  subst e2
  exact ⟨p, c, rfl, Recs.down hr (Nat.zero_le _), hg⟩
theorem one_bytes (fx : ByteArray) : (bytL (List.map recF [fx])).size = fx.size + 9 := by
  show (bytL [recF fx]).size = _
  rw [bytL_one, one_len]
  rfl
theorem com_size (fr : List Fr) (fx : ByteArray) : (bytL (fr ++ List.map recF [fx] ++ [(false, rB)])).size = (bytL fr).size + (fx.size + 9 + 10) := by
  rw [X.commit_size, one_bytes]
  rfl
section
variable {w wr W : World} {xt : X.Xt} {M k b c mk : Nat} {fr : List Fr} {F : Option ByteArray} {sv sv' : Value} {fx : ByteArray}
theorem FuI.com (h : FuI w xt M k b wr fr F c mk sv) (hl : IsLog W w.heap.size b (logP w.heap.size (fr ++ List.map recF [fx] ++ [(false, rB)]) [])) (hd : X.IsDisk xt W w.heap.size w.heap.size (Dn (some (bytL (fr ++ List.map recF [fx] ++ [(false, rB)]))) (c + 1)))
    (hb : Blk W M 32 #[sv', .slice none 0 0, .int .i64 (bytL (fr ++ List.map recF [fx] ++ [(false, rB)])).size, .int .i64 0, .string rB, .int .i64 (mk + 1 : Nat)]) (hs : Recs W 0 sv' ((frG w.heap.size fr).recs ++ [((bytL fr).size, fx)])) (hg : w.grownBy W none) (hf : fx.size ≤ 300) :
    FuI w xt M (k + 1) b W (fr ++ List.map recF [fx] ++ [(false, rB)]) (some (bytL (fr ++ List.map recF [fx] ++ [(false, rB)]))) (c + 1) (mk + 1) sv' := by
  have hm := mark_frame w.heap.size (fr ++ List.map recF [fx]) rB
  have hR : (frG w.heap.size (fr ++ List.map recF [fx] ++ [(false, rB)])).recs = (frG w.heap.size fr).recs ++ [((bytL fr).size, fx)] := by
    rw [hm]
    show (frG w.heap.size (fr ++ [recF fx])).recs = _
    rw [frG_snoc]
    unfold stepF
    rw [if_pos (show (recF fx).1 = true from rfl)]
    rfl
  have hT : (frG w.heap.size (fr ++ List.map recF [fx] ++ [(false, rB)])).root = rB := by rw [hm]
  have hK : (frG w.heap.size (fr ++ List.map recF [fx] ++ [(false, rB)])).marked = true := by rw [hm]
  exact {
    log := hl, disk := hd, file := rfl, shut := shut_snoc _ _
    fsz := fun x hx => by
      rcases List.mem_append.1 hx with hx | hx
      · rcases List.mem_append.1 hx with hx | hx
        · exact h.fsz x hx
        · have e : x = recF fx := List.mem_singleton.1 hx
          rw [e]
          exact hf
      · rw [List.mem_singleton.1 hx]
        decide
    cnt := by have := h.cnt; rw [List.length_append, List.length_append]; show _ + 1 + 1 ≤ _; omega
    chg := by have := h.chg; omega
    mks := by have := h.mks; omega
    mrk := by rw [hK]; simp
    blk := by rw [hT]; exact hb
    sure := by rw [hR]; exact hs
    plan := h.plan
    mem := h.mem
    grown := hg }
end
theorem X.law {w w' : World} {xt : X.Xt} {base b M : Nat} {k : Dk} {cs : Array Value} (h : X.IsDisk xt w base b k) (hM : Blk w M 32 cs) (hg : w.grownBy w' (some M)) : X.IsDisk xt w' base b k := by
  obtain ⟨h0, vn, vs, vl, hB, hn, hs, hne, hl⟩ := h
  have keepV : ∀ v l, MapV w base v l → MapV w' base v l := fun v l hv => by
    rcases hv with hv | ⟨q, rfl, hq, ho⟩
    · exact Or.inl hv
    · exact Or.inr ⟨q, rfl, hq, ho.kept hg (fun e => hM.ne_map ho (Option.some.inj e).symm)⟩
  exact ⟨h0, vn, vs, vl, hB.kept hg (fun e => far_ne' hB hM (by decide) (Option.some.inj e)), keepV _ _ hn, keepV _ _ hs, hne, rowG_kept hl hM (by decide) hg⟩
end Go.Proofs.Ytddnjlnnkeiplaa
