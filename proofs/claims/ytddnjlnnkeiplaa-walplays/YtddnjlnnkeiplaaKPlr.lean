/-
  WalPlays: what holds behind a commit, a record that is appended, and all that is replaced. WalPlays: where a record that is read stands.
-/
import Derived.Test.YtddnjlnnkeiplaaPlh
namespace Go.Proofs.Ytddnjlnnkeiplaa
open Go.RowKit Go.Maps
theorem PlI.commit {w wr W : World} {M k b c mk : Nat} {fr : List Fr} {ts : List ByteArray} {F : Option ByteArray} {sv wv sv' : Value} {Tl : List (Nat × ByteArray)} {r : ByteArray} (h : PlI w M k b wr fr ts F c mk sv wv Tl)
    (hl : IsLog W w.heap.size b (logP w.heap.size (fr ++ ts.map recF ++ [(false, r)]) [])) (hd : IsDisk W w.heap.size w.heap.size (Dn (some (bytL (fr ++ ts.map recF ++ [(false, r)]))) (c + 1)))
    (hb : Blk W M 32 (mdlV sv' (.slice none 0 0) ((bytL fr).size + ((bytL (ts.map recF)).size + (r.size + 9))) 0 r (mk + 1))) (hs : Recs W 0 sv' ((frG w.heap.size fr).recs ++ Tl)) (hg : w.grownBy W none) (hr : r.size ≤ 300) :
    PlI w M (k + 1) b W (fr ++ ts.map recF ++ [(false, r)]) [] (some (bytL (fr ++ ts.map recF ++ [(false, r)]))) (c + 1) (mk + 1) sv' (.slice none 0 0) [] := by
  have hf := mark_frame w.heap.size (fr ++ ts.map recF) r
  have hz : (bytL (fr ++ ts.map recF ++ [(false, r)])).size = (bytL fr).size + ((bytL (ts.map recF)).size + (r.size + 9)) := by
    rw [bytL_app, bytL_app, bytL_one, ByteArray.size_append, ByteArray.size_append, one_len]
    show _ + (r.size + 9) = _
    omega
  have hR : (frG w.heap.size (fr ++ ts.map recF ++ [(false, r)])).recs = (frG w.heap.size fr).recs ++ Tl := by rw [hf]; exact h.all
  have hT : (frG w.heap.size (fr ++ ts.map recF ++ [(false, r)])).root = r := by rw [hf]
  have hM : (frG w.heap.size (fr ++ ts.map recF ++ [(false, r)])).marked = true := by rw [hf]
  exact {
    log := hl, disk := hd, file := rfl, shut := shut_snoc _ _
    fsz := fun x hx => by
      rcases List.mem_append.1 hx with hx | hx
      · rcases List.mem_append.1 hx with hx | hx
        · exact h.fsz x hx
        · obtain ⟨t, ht, rfl⟩ := List.mem_map.1 hx
          exact h.tsz t ht
      · rw [List.mem_singleton.1 hx]
        exact hr
    tsz := fun x hx => by cases hx
    cnt := by have := h.cnt; rw [List.length_append, List.length_append, List.length_map]; show _ + 1 + 0 ≤ _; omega
    chg := by have := h.chg; omega
    mks := by have := h.mks; omega
    mrk := by rw [hM]; simp
    blk := by rw [hz, hT]; exact hb
    sure := by rw [hR]; exact hs
    wait := recs_nil _ _
    all := by show (frG w.heap.size ((fr ++ ts.map recF ++ [(false, r)]) ++ [])).recs = _; rw [List.append_nil, List.append_nil]
    mem := h.mem
    grown := hg }
theorem PlI.replace {w wr W : World} {M k b c mk : Nat} {fr : List Fr} {ts : List ByteArray} {F : Option ByteArray} {sv wv sv' : Value} {Tl : List (Nat × ByteArray)} {l : List ByteArray} {r : ByteArray} (h : PlI w M k b wr fr ts F c mk sv wv Tl)
    (hl : IsLog W w.heap.size b (logP w.heap.size (l.map recF ++ [(false, r)]) [])) (hd : IsDisk W w.heap.size w.heap.size (Dn (some (bytL (l.map recF ++ [(false, r)]))) (c + 2)))
    (hb : Blk W M 32 (mdlV sv' (.slice none 0 0) (offK l l.length + (r.size + 9)) 0 r 1)) (hs : Recs W 0 sv' (plcK l l.length)) (hg : w.grownBy W none) (h6 : l.length ≤ 6) (ht : ∀ t ∈ l, t.size ≤ 300) (hr : r.size ≤ 300) :
    PlI w M (k + 1) b W (l.map recF ++ [(false, r)]) [] (some (bytL (l.map recF ++ [(false, r)]))) (c + 2) 1 sv' (.slice none 0 0) [] := by
  have hf := mark_frame w.heap.size (l.map recF) r
  have hp := (bytL_text w.heap.size l l.length (Nat.le_refl _)).2
  rw [List.take_length] at hp
  have hz : (bytL (l.map recF ++ [(false, r)])).size = offK l l.length + (r.size + 9) := by
    rw [whole_frames, wholeT_size]
    rfl
  have hR : (frG w.heap.size (l.map recF ++ [(false, r)])).recs = plcK l l.length := by rw [hf]; exact hp
  have hT : (frG w.heap.size (l.map recF ++ [(false, r)])).root = r := by rw [hf]
  have hM : (frG w.heap.size (l.map recF ++ [(false, r)])).marked = true := by rw [hf]
  exact {
    log := hl, disk := hd, file := rfl, shut := shut_snoc _ _
    fsz := fun x hx => by
      rcases List.mem_append.1 hx with hx | hx
      · obtain ⟨t, htm, rfl⟩ := List.mem_map.1 hx
        exact ht t htm
      · rw [List.mem_singleton.1 hx]
        exact hr
    tsz := fun x hx => by cases hx
    cnt := by rw [List.length_append, List.length_map]; show _ + 1 + 0 ≤ _; omega
    chg := by have := h.chg; omega
    mks := by omega
    mrk := by rw [hM]; rfl
    blk := by rw [hz, hT]; exact hb
    sure := by rw [hR]; exact hs
    wait := recs_nil _ _
    all := by show (frG w.heap.size ((l.map recF ++ [(false, r)]) ++ [])).recs = _; rw [List.append_nil, List.append_nil]
    mem := h.mem
    grown := hg }
theorem PlI.append {w wr W : World} {M k b c mk : Nat} {fr : List Fr} {ts : List ByteArray} {F : Option ByteArray} {sv wv wv' : Value} {Tl : List (Nat × ByteArray)} {s : ByteArray} (h : PlI w M k b wr fr ts F c mk sv wv Tl)
    (hl : IsLog W w.heap.size b (logP w.heap.size fr (ts ++ [s]))) (hd : IsDisk W w.heap.size w.heap.size (Dn F c))
    (hb : Blk W M 32 (mdlV sv wv' (bytL fr).size ((bytL (ts.map recF)).size + (s.size + 9)) (frG w.heap.size fr).root mk)) (hs : Recs W 0 sv (frG w.heap.size fr).recs) (hw : Recs W 0 wv' (Tl ++ [((bytL fr).size + (bytL (ts.map recF)).size, s)])) (hg : w.grownBy W none) (hr : s.size ≤ 300) :
    PlI w M (k + 1) b W fr (ts ++ [s]) F c mk sv wv' (Tl ++ [((bytL fr).size + (bytL (ts.map recF)).size, s)]) := by
  have e1 : (ts ++ [s]).map recF = ts.map recF ++ [recF s] := by rw [List.map_append]; rfl
  have hz : (bytL ((ts ++ [s]).map recF)).size = (bytL (ts.map recF)).size + (s.size + 9) := by
    rw [e1, bytL_app, bytL_one, ByteArray.size_append, one_len]
    rfl
  have hA : (logP w.heap.size fr (ts ++ [s])).recs = (logP w.heap.size fr ts).recs ++ [((bytL fr).size + (bytL (ts.map recF)).size, s)] := by
    rw [← logP_append]
    rfl
  exact {
    log := hl, disk := hd, file := h.file, shut := h.shut, fsz := h.fsz
    tsz := fun x hx => by
      rcases List.mem_append.1 hx with hx | hx
      · exact h.tsz x hx
      · rw [List.mem_singleton.1 hx]
        exact hr
    cnt := by have := h.cnt; rw [List.length_append]; show _ + (_ + 1) ≤ _; omega
    chg := by have := h.chg; omega
    mks := by have := h.mks; omega
    mrk := h.mrk
    blk := by rw [hz]; exact hb
    sure := hs
    wait := hw
    all := by rw [hA, h.all, List.append_assoc]
    mem := h.mem
    grown := hg }
end Go.Proofs.Ytddnjlnnkeiplaa
namespace Go.Proofs.Ytddnjlnnkeiplaa
open Go.RowKit Go.Maps
theorem atR_some {l : List (Nat × ByteArray)} {a : Int} {t : ByteArray} (h : atR l a = some t) : ∃ r ∈ l, (r.1 : Int) = a := by
  unfold atR at h
  cases hf : l[findR l a]? with
  | none => rw [hf] at h; cases h
  | some p =>
    rw [hf] at h
    have h' : (if (p.1 : Int) = a then some p.2 else none) = some t := h
    by_cases hp : (p.1 : Int) = a
    · exact ⟨p, List.mem_of_getElem? hf, hp⟩
    · rw [if_neg hp] at h'
      cases h'
theorem at_bound {d : Nat} {fr : List Fr} {ts : List ByteArray} {an : Int} {t : ByteArray} (ha : atR (logP d fr ts).recs an = some t) : 0 ≤ an ∧ an < (bytL fr).size + (bytL (ts.map recF)).size := by
  obtain ⟨r, hr, rfl⟩ := atR_some ha
  have h1 := (fok_all d (fr ++ ts.map recF)).low r hr
  rw [bytL_app, ByteArray.size_append] at h1
  omega
theorem read_some {l : List (Nat × ByteArray)} {a : Int} {t : ByteArray} (h : atR l a = some t) : readT l a = t ∧ readC l a = 0 := by
  unfold readT readC
  rw [h]
  exact ⟨rfl, rfl⟩
theorem read_none {l : List (Nat × ByteArray)} {a : Int} (h : atR l a = none) : readC l a = 2 := by
  unfold readC
  rw [h]
  rfl
end Go.Proofs.Ytddnjlnnkeiplaa
