/-
  WalFalls: what holds at the loops' heads. WalPlays: where a record that is read stands.
-/
import Derived.Test.YtddnjlnnkeiplaaFd
import Derived.Test.YtddnjlnnkeiplaaKPlc
namespace Go.Proofs.Ytddnjlnnkeiplaa
open Go.RowKit Go.Maps
theorem X.IsP.any {w : World} {base b g g' : Nat} {bd : Bool} {rm : Int} {k : Dk} (h : X.IsP w base b g bd rm k none) : X.IsP w base b g' bd rm k none := h
/-- What holds, whether the disk is dead or not. -/
structure FaC (w : World) (M O gp n : Nat) (wr : World) (fr : List Fr) (F N : Option ByteArray) (c mk mo : Nat) (sv wv : Value) (Tl : List (Nat × ByteArray)) (pl : Option X.Fa) (dd : Bool) : Prop where
  disk : X.IsP wr w.heap.size w.heap.size gp false 0 (X.Dt F N c dd) pl
  ways : (dd = true ∧ pl = none) ∨ (dd = false ∧ N = none)
  file : F.getD ⟨#[]⟩ = bytL fr
  nsz : (N.getD ⟨#[]⟩).size ≤ 100000
  shut : Shut fr
  fsz : ∀ x ∈ fr, x.2.size ≤ 300
  cnt : fr.length ≤ n + 7
  chg : c ≤ 2 * n
  mks : mk ≤ n
  mrk : (frG w.heap.size fr).marked = decide (0 < mk)
  blk : Blk wr M 32 (mdlV sv wv (bytL fr).size mo (frG w.heap.size fr).root mk)
  sure : Recs wr 0 sv (frG w.heap.size fr).recs
  wait : Recs wr 0 wv Tl
  oth : ∃ so wo lo mo ro ko, Blk wr O 32 (mdlV so wo lo mo ro ko)
  memM : w.heap.size < M
  memO : w.heap.size < O
  apart : M ≠ O
  grown : w.grownBy wr none
/-- What holds besides, where it has its power. -/
structure FaX (w : World) (b n : Nat) (wr : World) (fr : List Fr) (ts : List ByteArray) (mo : Nat) (Tl : List (Nat × ByteArray)) : Prop where
  log : IsLog wr w.heap.size b (logP w.heap.size fr ts)
  tsz : ∀ t ∈ ts, t.size ≤ 300
  cnt : fr.length + ts.length ≤ n + 7
  more : mo = (bytL (ts.map recF)).size
  all : (logP w.heap.size fr ts).recs = (frG w.heap.size fr).recs ++ Tl
section
variable {w wr wr' : World} {M O gp gp' n n' b c c' mk mo : Nat} {fr : List Fr} {ts : List ByteArray} {F N N' : Option ByteArray} {sv wv : Value} {Tl : List (Nat × ByteArray)} {pl pl' : Option X.Fa} {dd dd' : Bool}
theorem FaC.bytes (h : FaC w M O gp n wr fr F N c mk mo sv wv Tl pl dd) : (bytL fr).size ≤ (n + 7) * 309 := Nat.le_trans (bytL_le fr h.fsz) (Nat.mul_le_mul_right 309 h.cnt)
theorem FaC.mod (h : FaC w M O gp n wr fr F N c mk mo sv wv Tl pl dd) (hn : n ≤ 160) : X.Mod F N c := ⟨by rw [h.file]; have := h.bytes; omega, h.nsz, by have := h.chg; omega⟩
theorem FaX.bytes (h : FaX w b n wr fr ts mo Tl) (hC : FaC w M O gp n wr fr F N c mk mo sv wv Tl pl dd) : (bytL (fr ++ ts.map recF)).size ≤ (n + 7) * 309 ∧ (bytL fr).size + mo = (bytL (fr ++ ts.map recF)).size := by
  have h1 := bytL_le (fr ++ ts.map recF) (fun x hx => by
    rcases List.mem_append.1 hx with hx | hx
    · exact hC.fsz x hx
    · obtain ⟨t, ht, rfl⟩ := List.mem_map.1 hx
      exact h.tsz t ht)
  rw [List.length_append, List.length_map] at h1
  have h2 := Nat.mul_le_mul_right 309 h.cnt
  refine ⟨Nat.le_trans h1 h2, ?_⟩
  rw [bytL_app, ByteArray.size_append, h.more]
theorem FaX.recsz (h : FaX w b n wr fr ts mo Tl) : (logP w.heap.size fr ts).recs.length ≤ n + 7 := by
  have h1 := (fok_all w.heap.size (fr ++ ts.map recF)).few
  rw [List.length_append, List.length_map] at h1
  have h2 := h.cnt
  show (frG w.heap.size (fr ++ ts.map recF)).recs.length ≤ n + 7
  omega
theorem FaX.few (h : FaX w b n wr fr ts mo Tl) : (frG w.heap.size fr).recs.length + Tl.length ≤ n + 7 := by
  have h1 := h.recsz
  rw [h.all, List.length_append] at h1
  exact h1
theorem FaC.kept (h : FaC w M O gp n wr fr F N c mk mo sv wv Tl pl dd) (hg : wr.grownBy wr' none) : FaC w M O gp n wr' fr F N c mk mo sv wv Tl pl dd :=
  { h with
    disk := h.disk.kept hg
    blk := h.blk.kept hg (by simp)
    sure := h.sure.none hg
    wait := h.wait.none hg
    oth := by obtain ⟨a1, a2, a3, a4, a5, a6, ho⟩ := h.oth; exact ⟨a1, a2, a3, a4, a5, a6, ho.kept hg (by simp)⟩
    grown := grown_none h.grown hg }
theorem FaX.kept (h : FaX w b n wr fr ts mo Tl) (hg : wr.grownBy wr' none) : FaX w b n wr' fr ts mo Tl := { h with log := h.log.kept hg }
/-- Behind a call of the log's or the disk's. -/
theorem FaC.over (h : FaC w M O gp n wr fr F N c mk mo sv wv Tl pl dd) (hT : X.LowP w.heap.size gp' wr wr') :
    Blk wr' M 32 (mdlV sv wv (bytL fr).size mo (frG w.heap.size fr).root mk) ∧ Recs wr' 0 sv (frG w.heap.size fr).recs ∧ Recs wr' 0 wv Tl ∧ (∃ so wo lo mo ro ko, Blk wr' O 32 (mdlV so wo lo mo ro ko)) ∧ w.grownBy wr' none :=
  ⟨X.lowP_blk hT h.blk ⟨by decide, by decide, by decide, by decide, by decide⟩ (fun e => by cases e), X.Recs.lowP h.sure hT, X.Recs.lowP h.wait hT, by
    obtain ⟨a1, a2, a3, a4, a5, a6, ho⟩ := h.oth
    exact ⟨a1, a2, a3, a4, a5, a6, X.lowP_blk hT ho ⟨by decide, by decide, by decide, by decide, by decide⟩ (fun e => by cases e)⟩, X.LowP.grown h.grown hT⟩
/-- The same file, another disk. -/
theorem FaC.disk' (h : FaC w M O gp n wr fr F N c mk mo sv wv Tl pl dd) (hT : X.LowP w.heap.size gp' wr wr') (hd : X.IsP wr' w.heap.size w.heap.size gp' false 0 (X.Dt F N' c' dd') pl') (hw : (dd' = true ∧ pl' = none) ∨ (dd' = false ∧ N' = none)) (hN : (N'.getD ⟨#[]⟩).size ≤ 100000) (hc : c' ≤ 2 * n') (hn : n ≤ n') :
    FaC w M O gp' n' wr' fr F N' c' mk mo sv wv Tl pl' dd' := by
  obtain ⟨o1, o2, o3, o4, o5⟩ := h.over hT
  exact { disk := hd, ways := hw, file := h.file, nsz := hN, shut := h.shut, fsz := h.fsz, cnt := by have := h.cnt; omega, chg := hc, mks := by have := h.mks; omega, mrk := h.mrk, blk := o1, sure := o2, wait := o3, oth := o4, memM := h.memM, memO := h.memO, apart := h.apart, grown := o5 }
theorem FaC.up (h : FaC w M O gp n wr fr F N c mk mo sv wv Tl pl dd) (hn : n ≤ n') : FaC w M O gp n' wr fr F N c mk mo sv wv Tl pl dd :=
  { h with
    cnt := by have := h.cnt; omega
    chg := by have := h.chg; omega
    mks := by have := h.mks; omega }
/-- A store into the other model leaves all else. -/
theorem FaC.other (h : FaC w M O gp n wr fr F N c mk mo sv wv Tl pl dd) {cs : Array Value} (hO : Blk wr O 32 cs) (hg : wr.grownBy wr' (some O)) (ho : ∃ so wo lo mo ro ko, Blk wr' O 32 (mdlV so wo lo mo ro ko)) : FaC w M O gp n wr' fr F N c mk mo sv wv Tl pl dd :=
  { h with
    disk := h.disk.law hO hg
    blk := h.blk.kept hg (fun e => h.apart (Option.some.inj e))
    sure := rowG_kept h.sure hO (by decide) hg
    wait := rowG_kept h.wait hO (by decide) hg
    oth := ho
    grown := grown_through h.grown hg (Nat.le_of_lt h.memO) }
theorem FaX.law (h : FaX w b n wr fr ts mo Tl) {Q : Nat} {cs : Array Value} (hO : Blk wr Q 32 cs) (hg : wr.grownBy wr' (some Q)) : FaX w b n wr' fr ts mo Tl := { h with log := h.log.law hO hg }
/-- The log has just what the model has. -/
theorem FaC.same (h : FaC w M O gp n wr fr F N c mk 0 sv (.slice none 0 0) [] pl dd) (hl : IsLog wr w.heap.size b (logP w.heap.size fr [])) (hn : n ≤ 160) :
    Calls Try.prog 24 #[.pointer (some ⟨b, 0, none⟩), .agg (mdlV sv (.slice none 0 0) (bytL fr).size 0 (frG w.heap.size fr).root mk)] wr fun e w' => e = .returned (.bool true) ∧ wr.grownBy w' none := by
  have hz := (fok_all w.heap.size fr).few
  have hc := h.cnt
  have ha := logP_asc w.heap.size fr []
  have hr : (logP w.heap.size fr []).recs = (frG w.heap.size fr).recs := by show (frG w.heap.size (fr ++ [])).recs = _; rw [List.append_nil]
  exact same_any w.heap.size b 0 (logP w.heap.size fr []) (frG w.heap.size fr).recs [] sv (.slice none 0 0) mk wr hl h.sure (recs_nil _ _) ha (by rw [hr]; omega) (fun r hm => by
    rw [List.append_nil, ← hr] at hm
    exact atR_mem ha hm) h.mrk (by show _ + 0 ≤ _; omega)
variable {W : World} {sv' wv' : Value} {r s : ByteArray} {l : List ByteArray}
theorem FaC.commit (h : FaC w M O gp n wr fr F N c mk mo sv wv Tl pl dd) (x : FaX w b n wr fr ts mo Tl)
    (hl : IsLog W w.heap.size b (logP w.heap.size (fr ++ ts.map recF ++ [(false, r)]) [])) (hd : X.IsP W w.heap.size w.heap.size gp false 0 (X.Dt (some (bytL (fr ++ ts.map recF ++ [(false, r)]))) none (c + 1) false) pl)
    (hb : Blk W M 32 (mdlV sv' (.slice none 0 0) ((bytL fr).size + (mo + (r.size + 9))) 0 r (mk + 1))) (hs : Recs W 0 sv' ((frG w.heap.size fr).recs ++ Tl)) (ho : ∃ so wo lo mo ro ko, Blk W O 32 (mdlV so wo lo mo ro ko)) (hg : w.grownBy W none) (hr : r.size ≤ 300) :
    FaC w M O gp (n + 1) W (fr ++ ts.map recF ++ [(false, r)]) (some (bytL (fr ++ ts.map recF ++ [(false, r)]))) none (c + 1) (mk + 1) 0 sv' (.slice none 0 0) [] pl false ∧ FaX w b (n + 1) W (fr ++ ts.map recF ++ [(false, r)]) [] 0 [] := by
  have hf := mark_frame w.heap.size (fr ++ ts.map recF) r
  have hz : (bytL (fr ++ ts.map recF ++ [(false, r)])).size = (bytL fr).size + (mo + (r.size + 9)) := by
    rw [bytL_app, bytL_app, bytL_one, ByteArray.size_append, ByteArray.size_append, one_len, x.more]
    show _ + (r.size + 9) = _
    omega
  have hR : (frG w.heap.size (fr ++ ts.map recF ++ [(false, r)])).recs = (frG w.heap.size fr).recs ++ Tl := by rw [hf]; exact x.all
  have hT : (frG w.heap.size (fr ++ ts.map recF ++ [(false, r)])).root = r := by rw [hf]
  have hM : (frG w.heap.size (fr ++ ts.map recF ++ [(false, r)])).marked = true := by rw [hf]
  have hct : (fr ++ ts.map recF ++ [(false, r)]).length ≤ n + 1 + 7 := by have := x.cnt; rw [List.length_append, List.length_append, List.length_map]; show _ + 1 ≤ _; omega
  refine ⟨{
    disk := hd, ways := Or.inr ⟨rfl, rfl⟩, file := rfl, nsz := by show 0 ≤ _; omega, shut := shut_snoc _ _
    fsz := fun y hy => by
      rcases List.mem_append.1 hy with hy | hy
      · rcases List.mem_append.1 hy with hy | hy
        · exact h.fsz y hy
        · obtain ⟨t, ht, rfl⟩ := List.mem_map.1 hy
          exact x.tsz t ht
      · rw [List.mem_singleton.1 hy]
        exact hr
    cnt := hct
    chg := by have := h.chg; omega
    mks := by have := h.mks; omega
    mrk := by rw [hM]; simp
    blk := by rw [hz, hT]; exact hb
    sure := by rw [hR]; exact hs
    wait := recs_nil _ _
    oth := ho, memM := h.memM, memO := h.memO, apart := h.apart
    grown := hg }, {
    log := hl, tsz := (fun t ht => by cases ht), cnt := hct, more := rfl
    all := by show (frG w.heap.size ((fr ++ ts.map recF ++ [(false, r)]) ++ [])).recs = _; rw [List.append_nil, List.append_nil] }⟩
theorem FaC.replace (h : FaC w M O gp n wr fr F N c mk mo sv wv Tl pl dd)
    (hl : IsLog W w.heap.size b (logP w.heap.size (l.map recF ++ [(false, r)]) [])) (hd : X.IsP W w.heap.size w.heap.size gp false 0 (X.Dt (some (bytL (l.map recF ++ [(false, r)]))) none (c + 2) false) pl)
    (hb : Blk W M 32 (mdlV sv' (.slice none 0 0) (offK l l.length + (r.size + 9)) 0 r 1)) (hs : Recs W 0 sv' (plcK l l.length)) (ho : ∃ so wo lo mo ro ko, Blk W O 32 (mdlV so wo lo mo ro ko)) (hg : w.grownBy W none) (h6 : l.length ≤ 6) (ht : ∀ t ∈ l, t.size ≤ 300) (hr : r.size ≤ 300) :
    FaC w M O gp (n + 1) W (l.map recF ++ [(false, r)]) (some (bytL (l.map recF ++ [(false, r)]))) none (c + 2) 1 0 sv' (.slice none 0 0) [] pl false ∧ FaX w b (n + 1) W (l.map recF ++ [(false, r)]) [] 0 [] := by
  have hf := mark_frame w.heap.size (l.map recF) r
  have hp := (bytL_text w.heap.size l l.length (Nat.le_refl _)).2
  rw [List.take_length] at hp
  have hz : (bytL (l.map recF ++ [(false, r)])).size = offK l l.length + (r.size + 9) := by
    rw [whole_frames, wholeT_size]
    rfl
  have hR : (frG w.heap.size (l.map recF ++ [(false, r)])).recs = plcK l l.length := by rw [hf]; exact hp
  have hT : (frG w.heap.size (l.map recF ++ [(false, r)])).root = r := by rw [hf]
  have hM : (frG w.heap.size (l.map recF ++ [(false, r)])).marked = true := by rw [hf]
  have hct : (l.map recF ++ [(false, r)]).length ≤ n + 1 + 7 := by rw [List.length_append, List.length_map]; show _ + 1 ≤ _; omega
  refine ⟨{
    disk := hd, ways := Or.inr ⟨rfl, rfl⟩, file := rfl, nsz := by show 0 ≤ _; omega, shut := shut_snoc _ _
    fsz := fun y hy => by
      rcases List.mem_append.1 hy with hy | hy
      · obtain ⟨t, htm, rfl⟩ := List.mem_map.1 hy
        exact ht t htm
      · rw [List.mem_singleton.1 hy]
        exact hr
    cnt := hct
    chg := by have := h.chg; omega
    mks := by omega
    mrk := by rw [hM]; rfl
    blk := by rw [hz, hT]; exact hb
    sure := by rw [hR]; exact hs
    wait := recs_nil _ _
    oth := ho, memM := h.memM, memO := h.memO, apart := h.apart
    grown := hg }, {
    log := hl, tsz := (fun t ht => by cases ht), cnt := hct, more := rfl
    all := by show (frG w.heap.size ((l.map recF ++ [(false, r)]) ++ [])).recs = _; rw [List.append_nil, List.append_nil] }⟩
theorem FaC.append (h : FaC w M O gp n wr fr F N c mk mo sv wv Tl pl dd) (x : FaX w b n wr fr ts mo Tl)
    (hl : IsLog W w.heap.size b (logP w.heap.size fr (ts ++ [s]))) (hd : X.IsP W w.heap.size w.heap.size gp false 0 (X.Dt F N c dd) pl)
    (hb : Blk W M 32 (mdlV sv wv' (bytL fr).size (mo + (s.size + 9)) (frG w.heap.size fr).root mk)) (hs : Recs W 0 sv (frG w.heap.size fr).recs) (hw : Recs W 0 wv' (Tl ++ [((bytL fr).size + mo, s)])) (ho : ∃ so wo lo mo ro ko, Blk W O 32 (mdlV so wo lo mo ro ko)) (hg : w.grownBy W none) (hr : s.size ≤ 300) :
    FaC w M O gp (n + 1) W fr F N c mk (mo + (s.size + 9)) sv wv' (Tl ++ [((bytL fr).size + mo, s)]) pl dd ∧ FaX w b (n + 1) W fr (ts ++ [s]) (mo + (s.size + 9)) (Tl ++ [((bytL fr).size + mo, s)]) := by
  have e1 : (ts ++ [s]).map recF = ts.map recF ++ [recF s] := by rw [List.map_append]; rfl
  have hz : (bytL ((ts ++ [s]).map recF)).size = (bytL (ts.map recF)).size + (s.size + 9) := by
    rw [e1, bytL_app, bytL_one, ByteArray.size_append, one_len]
    rfl
  have hA : (logP w.heap.size fr (ts ++ [s])).recs = (logP w.heap.size fr ts).recs ++ [((bytL fr).size + (bytL (ts.map recF)).size, s)] := by
    rw [← logP_append]
    rfl
  refine ⟨{ h with
    disk := hd
    cnt := by have := h.cnt; omega
    chg := by have := h.chg; omega
    mks := by have := h.mks; omega
    blk := hb, sure := hs, wait := hw, oth := ho, grown := hg }, {
    log := hl
    tsz := fun y hy => by
      rcases List.mem_append.1 hy with hy | hy
      · exact x.tsz y hy
      · rw [List.mem_singleton.1 hy]
        exact hr
    cnt := by have := x.cnt; rw [List.length_append]; show _ + (_ + 1) ≤ _; omega
    more := by rw [hz, x.more]
    all := by rw [hA, x.all, List.append_assoc, x.more] }⟩
end
/-- It is opened the first time. -/
theorem FaC.start {w w3 : World} {b : Nat} (hl : IsLog w3 w.heap.size b (logP w.heap.size [] [])) (hd : X.IsP w3 w.heap.size w.heap.size 0 false 0 (X.Dt none none 0 false) none) (hg : w.grownBy w3 none) {M O : Nat} (hM : w.heap.size < M) (hO : w.heap.size < O) (hMO : M ≠ O) (hb : Blk w3 M 32 (mdlV (.slice none 0 0) (.slice none 0 0) 0 0 ⟨#[]⟩ 0)) (ho : Blk w3 O 32 (mdlV (.slice none 0 0) (.slice none 0 0) 0 0 ⟨#[]⟩ 0)) :
    FaC w M O 0 0 w3 [] none none 0 0 0 (.slice none 0 0) (.slice none 0 0) [] none false ∧ FaX w b 0 w3 [] [] 0 [] :=
  ⟨{ disk := hd, ways := Or.inr ⟨rfl, rfl⟩, file := rfl, nsz := by show 0 ≤ _; omega, shut := Or.inl rfl, fsz := (fun x hx => by cases hx), cnt := by decide, chg := Nat.le_refl _, mks := Nat.le_refl _, mrk := rfl, blk := hb, sure := recs_nil _ _, wait := recs_nil _ _, oth := ⟨_, _, _, _, _, _, ho⟩, memM := hM, memO := hO, apart := hMO, grown := hg },
   { log := hl, tsz := (fun x hx => by cases hx), cnt := by decide, more := rfl, all := rfl }⟩
/-- What waits is let go in both models. -/
theorem FaC.wipe {w wr : World} {M O gp n c mk mo b : Nat} {fr : List Fr} {F N : Option ByteArray} {sv wv : Value} {Tl : List (Nat × ByteArray)} {dd : Bool} {g : Lg} (h : FaC w M O gp n wr fr F N c mk mo sv wv Tl none dd) (hl : IsLog wr w.heap.size b g) :
    FaC w M O 0 n ((((wr.setCell ⟨M, 1, none⟩ (.slice none 0 0)).setCell ⟨M, 3, none⟩ (.int .i64 0)).setCell ⟨O, 1, none⟩ (.slice none 0 0)).setCell ⟨O, 3, none⟩ (.int .i64 0)) fr F N c mk 0 sv (.slice none 0 0) [] none dd ∧ IsLog ((((wr.setCell ⟨M, 1, none⟩ (.slice none 0 0)).setCell ⟨M, 3, none⟩ (.int .i64 0)).setCell ⟨O, 1, none⟩ (.slice none 0 0)).setCell ⟨O, 3, none⟩ (.int .i64 0)) w.heap.size b g := by
  have H1 := grown_set (grown_set (grown_refl wr (some M)) 1 (.slice none 0 0)) 3 (.int .i64 0)
  have B1 := (h.blk.set 1 (.slice none 0 0)).set 3 (.int .i64 0)
  obtain ⟨so, wo, lo, mo', ro, ko, hO⟩ := h.oth
  have O1 := hO.kept H1 (fun e => h.apart (Option.some.inj e).symm)
  have L1 := hl.law h.blk H1
  have D1 := X.IsP.law h.disk h.blk H1
  have S1 := rowG_kept h.sure h.blk (by decide) H1
  have G1 := grown_through h.grown H1 (Nat.le_of_lt h.memM)
  generalize (wr.setCell ⟨M, 1, none⟩ (.slice none 0 0)).setCell ⟨M, 3, none⟩ (.int .i64 0) = w1 at *
  have H2 := grown_set (grown_set (grown_refl w1 (some O)) 1 (.slice none 0 0)) 3 (.int .i64 0)
  have B2 := (O1.set 1 (.slice none 0 0)).set 3 (.int .i64 0)
  refine ⟨{ h with
    disk := X.IsP.any (X.IsP.law D1 O1 H2)
    blk := B1.kept H2 (fun e => h.apart (Option.some.inj e))
    sure := rowG_kept S1 O1 (by decide) H2
    wait := recs_nil _ _
    oth := ⟨so, .slice none 0 0, lo, 0, ro, ko, B2⟩
    grown := grown_through G1 H2 (Nat.le_of_lt h.memO) }, L1.law O1 H2⟩
/-- The other model is the model. -/
theorem FaC.both {w wr : World} {M O gp n c mk mo b : Nat} {fr : List Fr} {F N : Option ByteArray} {sv wv : Value} {Tl : List (Nat × ByteArray)} {pl : Option X.Fa} {dd : Bool} {ts : List ByteArray} (h : FaC w M O gp n wr fr F N c mk mo sv wv Tl pl dd) (x : FaX w b n wr fr ts mo Tl) (L1 M1 K1 : Nat) (s1 w1 : Value) (r1 : ByteArray) :
    FaC w M O gp n ((((((wr.setCell ⟨O, 0, none⟩ s1).setCell ⟨O, 1, none⟩ w1).setCell ⟨O, 2, none⟩ (.int .i64 L1)).setCell ⟨O, 3, none⟩ (.int .i64 M1)).setCell ⟨O, 4, none⟩ (.string r1)).setCell ⟨O, 5, none⟩ (.int .i64 K1)) fr F N c mk mo sv wv Tl pl dd ∧ FaX w b n ((((((wr.setCell ⟨O, 0, none⟩ s1).setCell ⟨O, 1, none⟩ w1).setCell ⟨O, 2, none⟩ (.int .i64 L1)).setCell ⟨O, 3, none⟩ (.int .i64 M1)).setCell ⟨O, 4, none⟩ (.string r1)).setCell ⟨O, 5, none⟩ (.int .i64 K1)) fr ts mo Tl ∧ Blk ((((((wr.setCell ⟨O, 0, none⟩ s1).setCell ⟨O, 1, none⟩ w1).setCell ⟨O, 2, none⟩ (.int .i64 L1)).setCell ⟨O, 3, none⟩ (.int .i64 M1)).setCell ⟨O, 4, none⟩ (.string r1)).setCell ⟨O, 5, none⟩ (.int .i64 K1)) O 32 (mdlV s1 w1 L1 M1 r1 K1) ∧ wr.grownBy ((((((wr.setCell ⟨O, 0, none⟩ s1).setCell ⟨O, 1, none⟩ w1).setCell ⟨O, 2, none⟩ (.int .i64 L1)).setCell ⟨O, 3, none⟩ (.int .i64 M1)).setCell ⟨O, 4, none⟩ (.string r1)).setCell ⟨O, 5, none⟩ (.int .i64 K1)) (some O) := by
  obtain ⟨so, wo, lo, mo', ro, ko, hO⟩ := h.oth
  have H := grown_set (grown_set (grown_set (grown_set (grown_set (grown_set (grown_refl wr (some O)) 0 s1) 1 w1) 2 (.int .i64 L1)) 3 (.int .i64 M1)) 4 (.string r1)) 5 (.int .i64 K1)
  have B := (((((hO.set 0 s1).set 1 w1).set 2 (.int .i64 L1)).set 3 (.int .i64 M1)).set 4 (.string r1)).set 5 (.int .i64 K1)
  exact ⟨h.other hO H ⟨s1, w1, L1, M1, r1, K1, B⟩, x.law hO H, B, H⟩
theorem FaC.apart35 {w wr : World} {M O gp n c mk mo Q : Nat} {fr : List Fr} {F N : Option ByteArray} {sv wv : Value} {Tl : List (Nat × ByteArray)} {pl : Option X.Fa} {dd : Bool} {cs : Array Value} (h : FaC w M O gp n wr fr F N c mk mo sv wv Tl pl dd) (hQ : Blk wr Q 35 cs) : Q ≠ M ∧ Q ≠ O := by
  obtain ⟨so, wo, lo, mo', ro, ko, hO⟩ := h.oth
  exact ⟨far_ne' hQ h.blk (by decide), far_ne' hQ hO (by decide)⟩
/-- The model's commit, its numbers as letters. -/
theorem mcommit_l (S T : List (Nat × ByteArray)) (sv wv : Value) (long more marks lg mk1 : Nat) (root0 r : ByteArray) (W : World) (hs : Recs W 0 sv S) (ht : Recs W 0 wv T) (hST : S.length + T.length ≤ 100000) (h1 : long ≤ 1000000) (h2 : more ≤ 1000000) (h3 : marks ≤ 1000000) (hr : r.size ≤ 300) (hlg : lg = long + (more + (r.size + 9))) (hmk : mk1 = marks + 1) :
    Calls Try.prog 15 #[.agg #[sv, wv, .int .i64 long, .int .i64 more, .string root0, .int .i64 marks], .string r] W fun e w' => ∃ p c, e = .returned (.agg #[.slice p (S.length + T.length) c, .slice none 0 0, .int .i64 lg, .int .i64 0, .string r, .int .i64 mk1]) ∧ Recs w' 0 (.slice p (S.length + T.length) c) (S ++ T) ∧ W.grownBy w' none := by
  subst hlg hmk
  refine (mcommit_any 0 S T sv wv long more marks root0 r W hs ht hST h1 h2 h3 hr).mono ?_
  rintro e w' ⟨sv', rfl, hr, hg⟩
  obtain ⟨p, c, e2⟩ := hr.form
  rw [List.length_append] at e2
  subst e2
  exact ⟨p, c, rfl, Recs.down hr (Nat.zero_le _), hg⟩
/-- What is replaced, its length as a letter. -/
theorem replaced_l (bl : Nat) (v : Value) (l : List ByteArray) (root : ByteArray) (lg ln : Nat) (W : World) (hv : W.ownsRow bl 9 1 v l.length (strs l)) (hl : l.length ≤ 6) (hs : ∀ t ∈ l, t.size ≤ 300) (hr : root.size ≤ 300) (hlg : lg = offK l l.length + (root.size + 9)) (hln : ln = l.length) :
    Calls Try.prog 20 #[v, .string root] W fun e w' => ∃ p c, e = .returned (.agg #[.slice p ln c, .slice none 0 0, .int .i64 lg, .int .i64 0, .string root, .int .i64 1]) ∧ Recs w' 0 (.slice p ln c) (plcK l l.length) ∧ W.grownBy w' none := by
  subst hlg hln
  refine (replaced_any bl v l root W hv hl hs hr).mono ?_
  rintro e w' ⟨sv', rfl, hr, hg⟩
  obtain ⟨p, c, e2⟩ := hr.form
  rw [plcK_len] at e2
  subst e2
  exact ⟨p, c, rfl, Recs.down hr (Nat.zero_le _), hg⟩
namespace X
variable {base b gp d : Nat} {rm : Int} {F : Option ByteArray} {c : Nat} {pl : Option Fa} {fr : List Fr} {ts : List ByteArray} {r : ByteArray} {W : World}
theorem commit_hit (hh : hits pl c = true) (h : IsLog W base b (logP d fr ts)) (hd : IsP W base d gp false rm (Dt F none c false) pl) (hF : F.getD ⟨#[]⟩ = bytL fr) (hr : r.size ≤ 300) (hz : (bytL (fr ++ ts.map recF)).size ≤ 60000) (hc : c ≤ 1000) (hn : (logP d fr ts).recs.length ≤ 100000) :
    Calls Try.prog 13 #[.pointer (some ⟨b, 0, none⟩), .string r] W fun e w' => e = .returned (.int .i64 7) ∧ IsP w' base d gp false rm (Dt F none c true) none ∧ LowP base gp W w' :=
  (commit_f h hd hF hr hz hc hn).mono (fun e w' hk => by
    rw [hh] at hk
    exact ⟨hk.1, hk.2.2.1, hk.2.2.2⟩)
theorem commit_free (hh : hits pl c = false) (h : IsLog W base b (logP d fr ts)) (hd : IsP W base d gp false rm (Dt F none c false) pl) (hF : F.getD ⟨#[]⟩ = bytL fr) (hr : r.size ≤ 300) (hz : (bytL (fr ++ ts.map recF)).size ≤ 60000) (hc : c ≤ 1000) (hn : (logP d fr ts).recs.length ≤ 100000) :
    Calls Try.prog 13 #[.pointer (some ⟨b, 0, none⟩), .string r] W fun e w' => e = .returned (.int .i64 0) ∧ IsLog w' base b (logP d (fr ++ ts.map recF ++ [(false, r)]) []) ∧ IsP w' base d gp false rm (Dt (some (bytL (fr ++ ts.map recF ++ [(false, r)]))) none (c + 1) false) pl ∧ LowP base gp W w' :=
  (commit_f h hd hF hr hz hc hn).mono (fun e w' hk => by
    rw [hh] at hk
    exact hk)
variable {bl : Nat} {v : Value} {l : List ByteArray}
theorem replace_hit (hh : hits pl c = true ∨ hits pl (c + 1) = true) (h : IsLog W base b (logP d fr ts)) (hd : IsP W base d gp false rm (Dt F none c false) pl) (hF : (F.getD ⟨#[]⟩).size ≤ 60000) (hc : c ≤ 900) (hv : W.ownsRow bl 9 1 v l.length (strs l)) (hl : l.length ≤ 6) (hs : ∀ t ∈ l, t.size ≤ 300) (hr : r.size ≤ 300) :
    Calls Try.prog 18 #[.pointer (some ⟨b, 0, none⟩), v, .string r] W fun e w' => e = .returned (.int .i64 7) ∧ (∃ N c', (N.getD ⟨#[]⟩).size ≤ 100000 ∧ c' ≤ c + 1 ∧ IsP w' base d gp false rm (Dt F N c' true) none) ∧ LowP base gp W w' :=
  (replace_f h hd hF hc hv hl hs hr).mono (fun _ _ hk => ⟨(hk.2.1 hh).1, (hk.2.1 hh).2, hk.2.2⟩)
theorem replace_free (hh : hits pl c = false ∧ hits pl (c + 1) = false) (h : IsLog W base b (logP d fr ts)) (hd : IsP W base d gp false rm (Dt F none c false) pl) (hF : (F.getD ⟨#[]⟩).size ≤ 60000) (hc : c ≤ 900) (hv : W.ownsRow bl 9 1 v l.length (strs l)) (hl : l.length ≤ 6) (hs : ∀ t ∈ l, t.size ≤ 300) (hr : r.size ≤ 300) :
    Calls Try.prog 18 #[.pointer (some ⟨b, 0, none⟩), v, .string r] W fun e w' => e = .returned (.int .i64 0) ∧ IsLog w' base b (logP d (l.map recF ++ [(false, r)]) []) ∧ IsP w' base d gp false rm (Dt (some (bytL (l.map recF ++ [(false, r)]))) none (c + 2) false) pl ∧ LowP base gp W w' :=
  (replace_f h hd hF hc hv hl hs hr).mono (fun _ _ hk => ⟨(hk.1 hh.1 hh.2).1, (hk.1 hh.1 hh.2).2.1, (hk.1 hh.1 hh.2).2.2, hk.2.2⟩)
end X
theorem FaC.both0 {w wr : World} {M O gp n c mk mo b : Nat} {fr : List Fr} {F N : Option ByteArray} {sv wv : Value} {Tl : List (Nat × ByteArray)} {pl : Option X.Fa} {dd : Bool} {ts : List ByteArray} (h : FaC w M O gp n wr fr F N c mk mo sv wv Tl pl dd) (x : FaX w b n wr fr ts mo Tl) (L1 K1 : Nat) (kv s1 w1 : Value) (r1 : ByteArray) (hk : kv = .int .i64 (K1 : Nat)) (W : World)
    (hW : W = ((((((wr.setCell ⟨O, 0, none⟩ s1).setCell ⟨O, 1, none⟩ w1).setCell ⟨O, 2, none⟩ (.int .i64 L1)).setCell ⟨O, 3, none⟩ (.int .i64 0)).setCell ⟨O, 4, none⟩ (.string r1)).setCell ⟨O, 5, none⟩ kv)) :
    FaC w M O gp n W fr F N c mk mo sv wv Tl pl dd ∧ FaX w b n W fr ts mo Tl ∧ Blk W O 32 (mdlV s1 w1 L1 0 r1 K1) ∧ wr.grownBy W (some O) := by
  subst hk hW
  exact FaC.both h x L1 0 K1 s1 w1 r1
end Go.Proofs.Ytddnjlnnkeiplaa
namespace Go.Proofs.Ytddnjlnnkeiplaa
open Go.RowKit Go.Maps
theorem atR_some {l : List (Nat × ByteArray)} {a : Int} {t : ByteArray} (h : atR l a = some t) : ∃ r ∈ l, (r.1 : Int) = a := by
  unfold atR at h
  cases hf : l[findR l a]? with
  | none => rw [hf] at h; cases h
  | some p =>
    rw [hf] at h
    have h' : (if (p.1 : Int) = a then some p.2 else none) = some t := h
    by_cases hp : (p.1 : Int) = a
    · exact ⟨p, List.mem_of_getElem? hf, hp⟩
    · rw [if_neg hp] at h'
      cases h'
theorem at_bound {d : Nat} {fr : List Fr} {ts : List ByteArray} {an : Int} {t : ByteArray} (ha : atR (logP d fr ts).recs an = some t) : 0 ≤ an ∧ an < (bytL fr).size + (bytL (ts.map recF)).size := by
  obtain ⟨r, hr, rfl⟩ := atR_some ha
  have h1 := (fok_all d (fr ++ ts.map recF)).low r hr
  rw [bytL_app, ByteArray.size_append] at h1
  omega
theorem read_some {l : List (Nat × ByteArray)} {a : Int} {t : ByteArray} (h : atR l a = some t) : readT l a = t ∧ readC l a = 0 := by
  unfold readT readC
  rw [h]
  exact ⟨rfl, rfl⟩
theorem read_none {l : List (Nat × ByteArray)} {a : Int} (h : atR l a = none) : readC l a = 2 := by
  unfold readC
  rw [h]
  rfl
end Go.Proofs.Ytddnjlnnkeiplaa
