/-
  WalPlays: a log as the frames of its file and the texts that wait; what Append, Commit, Drop, an opening and Replace make of it. A log as its file's frames, on a disk with any room: Commit, an opening; Room, Used.
-/
import Derived.Test.YtddnjlnnkeiplaaKLfr
import Derived.Test.YtddnjlnnkeiplaaKLrepl
import Derived.Test.YtddnjlnnkeiplaaKXLcom
namespace Go.Proofs.Ytddnjlnnkeiplaa
open Go.RowKit Go.Maps
def recF (t : ByteArray) : Fr := (true, t)
/-- A log: the frames of its file, the texts that wait. -/
def logP (d : Nat) (fr : List Fr) (ts : List ByteArray) : Lg := ⟨d, (frG d (fr ++ ts.map recF)).recs, (frG d fr).recs.length, (bytL fr).size, bytL (ts.map recF), (frG d fr).root, (frG d fr).marked⟩
/-- A file whose last frame is a marker, or that has none. -/
def Shut (fr : List Fr) : Prop := fr = [] ∨ ∃ r t, fr = r ++ [(false, t)]
theorem shut_com {d : Nat} {fr : List Fr} (h : Shut fr) : (frG d fr).com = (frG d fr).recs.length ∧ (frG d fr).len = (bytL fr).size := by
  rcases h with rfl | ⟨r, t, rfl⟩
  · exact ⟨rfl, rfl⟩
  · rw [frG_snoc]
    unfold stepF
    rw [if_neg (show ¬ ((false, t) : Fr).1 = true from Bool.false_ne_true)]
    refine ⟨rfl, ?_⟩
    rw [bytL_app, bytL_one, ByteArray.size_append, one_len]
theorem logP_append (d : Nat) (fr : List Fr) (ts : List ByteArray) (s : ByteArray) : ({ logP d fr ts with recs := (logP d fr ts).recs ++ [((logP d fr ts).len + (logP d fr ts).wait.size, s)], wait := (logP d fr ts).wait ++ Wi.frmS (⟨#[100]⟩ ++ s) } : Lg) = logP d fr (ts ++ [s]) := by
  have e1 : (ts ++ [s]).map recF = ts.map recF ++ [recF s] := by rw [List.map_append]; rfl
  have hr : (frG d (fr ++ (ts.map recF ++ [recF s]))).recs = (frG d (fr ++ ts.map recF)).recs ++ [((bytL fr).size + (bytL (ts.map recF)).size, s)] := by
    rw [← List.append_assoc, frG_snoc]
    unfold stepF
    rw [if_pos (show (recF s).1 = true from rfl), bytL_app, ByteArray.size_append]
    rfl
  have hb : bytL (ts.map recF ++ [recF s]) = bytL (ts.map recF) ++ Wi.frmS (⟨#[100]⟩ ++ s) := by
    rw [bytL_app, bytL_one]
    rfl
  unfold logP
  rw [e1, hr, hb]
theorem shut_snoc (l : List Fr) (t : ByteArray) : Shut (l ++ [(false, t)]) := Or.inr ⟨l, t, rfl⟩
theorem mark_frame (d : Nat) (l : List Fr) (r : ByteArray) : frG d (l ++ [(false, r)]) = { frG d l with com := (frG d l).recs.length, len := (bytL l).size + (r.size + 9), wait := ⟨#[]⟩, root := r, marked := true } := by
  rw [frG_snoc]
  unfold stepF
  rw [if_neg (show ¬ ((false, r) : Fr).1 = true from Bool.false_ne_true)]
theorem logP_commit (d : Nat) (fr : List Fr) (ts : List ByteArray) (r : ByteArray) : comL (logP d fr ts) r = logP d (fr ++ ts.map recF ++ [(false, r)]) [] := by
  have hf := mark_frame d (fr ++ ts.map recF) r
  have hb : (bytL (fr ++ ts.map recF ++ [(false, r)])).size = (bytL fr).size + (bytL (ts.map recF) ++ Wi.frmS (⟨#[109]⟩ ++ r)).size := by
    rw [bytL_app, bytL_app, bytL_one]
    have e : Wi.frmS (frT (false, r)) = Wi.frmS (⟨#[109]⟩ ++ r) := rfl
    rw [e, ByteArray.size_append, ByteArray.size_append, ByteArray.size_append]
    omega
  unfold comL logP
  rw [List.map_nil, List.append_nil, hb, hf]
  rfl
theorem frG_recs (d : Nat) (fr : List Fr) : ∀ ts : List ByteArray, ∃ T, (frG d (fr ++ ts.map recF)).recs = (frG d fr).recs ++ T ∧ T.length = ts.length ∧ (frG d (fr ++ ts.map recF)).root = (frG d fr).root := by
  intro ts
  have key : ∀ n, ∀ ts : List ByteArray, ts.length = n → ∃ T, (frG d (fr ++ ts.map recF)).recs = (frG d fr).recs ++ T ∧ T.length = ts.length ∧ (frG d (fr ++ ts.map recF)).root = (frG d fr).root := by
    intro n
    induction n with
    | zero =>
      intro ts h
      obtain rfl := List.eq_nil_of_length_eq_zero h
      exact ⟨[], by rw [List.map_nil, List.append_nil, List.append_nil], rfl, by rw [List.map_nil, List.append_nil]⟩
    | succ n ih =>
      intro ts h
      have hne : ts ≠ [] := by intro e; rw [e] at h; cases h
      rw [← List.dropLast_concat_getLast hne]
      obtain ⟨T, h1, h2, h3⟩ := ih ts.dropLast (by rw [List.length_dropLast]; omega)
      have e1 : (ts.dropLast ++ [ts.getLast hne]).map recF = ts.dropLast.map recF ++ [recF (ts.getLast hne)] := by rw [List.map_append]; rfl
      rw [e1, ← List.append_assoc, frG_snoc]
      unfold stepF
      rw [if_pos (show (recF (ts.getLast hne)).1 = true from rfl)]
      refine ⟨T ++ [((bytL (fr ++ ts.dropLast.map recF)).size, ts.getLast hne)], ?_, ?_, h3⟩
      · show (frG d (fr ++ ts.dropLast.map recF)).recs ++ [_] = _
        rw [h1, List.append_assoc]
        rfl
      · rw [List.length_append, List.length_append, h2]
        rfl
  exact key _ ts rfl
theorem logP_drop (d : Nat) (fr : List Fr) (ts : List ByteArray) : dropG (logP d fr ts) = logP d fr [] := by
  obtain ⟨T, h1, _, _⟩ := frG_recs d fr ts
  unfold dropG logP
  simp only [List.map_nil, List.append_nil]
  rw [h1, List.take_left]
  rfl
theorem logP_load (d : Nat) (fr : List Fr) (h : Shut fr) : dropG (frG d fr) = logP d fr [] := by
  obtain ⟨h1, h2⟩ := shut_com (d := d) h
  have hd := (fok_all d fr).d
  unfold dropG logP
  simp only [List.map_nil, List.append_nil]
  generalize frG d fr = G at *
  obtain ⟨a1, a2, a3, a4, a5, a6, a7⟩ := G
  simp only at h1 h2 hd ⊢
  subst h1 h2 hd
  rw [List.take_length]
  rfl
theorem bytL_text (d : Nat) (l : List ByteArray) : ∀ k, k ≤ l.length → bytL ((l.take k).map recF) = txtK l k ∧ (frG d ((l.take k).map recF)).recs = plcK l k
  | 0, _ => ⟨rfl, rfl⟩
  | k + 1, hk => by
    obtain ⟨h1, h2⟩ := bytL_text d l k (by omega)
    have e : l.take (k + 1) = l.take k ++ [l[k]] := (List.take_append_getElem (by omega)).symm
    have eg : l.getD k ⟨#[]⟩ = l[k] := by rw [List.getD_eq_getElem?_getD, List.getElem?_eq_getElem (by omega)]; rfl
    have e1 : (l.take (k + 1)).map recF = (l.take k).map recF ++ [recF l[k]] := by rw [e, List.map_append]; rfl
    rw [e1]
    refine ⟨?_, ?_⟩
    · rw [bytL_app, bytL_one, h1]
      show _ = txtK l k ++ Wi.frmS (⟨#[100]⟩ ++ l.getD k ⟨#[]⟩)
      rw [eg]
      rfl
    · rw [frG_snoc]
      unfold stepF
      rw [if_pos (show (recF l[k]).1 = true from rfl)]
      show (frG d ((l.take k).map recF)).recs ++ [_] = _
      rw [h2, h1, txtK_size, ← plcK_snoc, eg]
      rfl
theorem whole_frames (l : List ByteArray) (root : ByteArray) : bytL (l.map recF ++ [(false, root)]) = wholeT l root := by
  have h := (bytL_text 0 l l.length (Nat.le_refl _)).1
  rw [List.take_length] at h
  rw [bytL_app, bytL_one, h]
  rfl
theorem logP_replace (d : Nat) (l : List ByteArray) (root : ByteArray) : topG d l root = logP d (l.map recF ++ [(false, root)]) [] := by
  have h := (bytL_text d l l.length (Nat.le_refl _)).2
  rw [List.take_length] at h
  have hf := mark_frame d (l.map recF) root
  have hw := whole_frames l root
  have hz := wholeT_size l root
  unfold logP
  rw [List.map_nil, List.append_nil, hw, hz, hf]
  show _ = (⟨d, (frG d (l.map recF)).recs, (frG d (l.map recF)).recs.length, endT l root, bytL [], root, true⟩ : Lg)
  rw [h, plcK_len]
  rfl
theorem logP_asc (d : Nat) (fr : List Fr) (ts : List ByteArray) : Asc (logP d fr ts).recs := (fok_all d (fr ++ ts.map recF)).asc
/-- An opening of a file that is shut. -/
theorem open_frames (base d : Nat) (F : Option ByteArray) (c : Nat) (fr : List Fr) (W : World) (hd : IsDisk W base d (Dn F c)) (hF : F.getD ⟨#[]⟩ = bytL fr) (hS : Shut fr) (hz : (bytL fr).size ≤ 500000) (hc : c ≤ 1000) (hl : fr.length ≤ 1000) (hs : ∀ x ∈ fr, x.2.size ≤ 900) :
    Calls Try.prog 10 #[.pointer (some ⟨d, 0, none⟩)] W (OpenPost base d W (logP d fr []) 0 (Dn F c)) := by
  refine open_dn base d F c (logP d fr []) W hd (by rw [hF]; exact hz) hc (by rw [hF]; rfl) (fun W b hW => ?_)
  rw [hF, ← logP_load d fr hS]
  exact load_fr base b d fr W hW hl hs (by omega)
theorem commit_bytes (fr : List Fr) (ts : List ByteArray) (r : ByteArray) : bytL fr ++ (bytL (ts.map recF) ++ Wi.frmS (⟨#[109]⟩ ++ r)) = bytL (fr ++ ts.map recF ++ [(false, r)]) := by
  rw [bytL_app, bytL_app, bytL_one, app_assoc]
  rfl
theorem commit_frames (base b d : Nat) (F : Option ByteArray) (c : Nat) (fr : List Fr) (ts : List ByteArray) (r : ByteArray) (W : World) (h : IsLog W base b (logP d fr ts)) (hd : IsDisk W base d (Dn F c)) (hF : F.getD ⟨#[]⟩ = bytL fr) (hr : r.size ≤ 300) (hz : (bytL (fr ++ ts.map recF)).size ≤ 100000) (hc : c ≤ 1000) (hn : (logP d fr ts).recs.length ≤ 100000) :
    Calls Try.prog 13 #[.pointer (some ⟨b, 0, none⟩), .string r] W fun e w' => e = .returned (.int .i64 0) ∧ IsLog w' base b (logP d (fr ++ ts.map recF ++ [(false, r)]) []) ∧ IsDisk w' base d (Dn (some (bytL (fr ++ ts.map recF ++ [(false, r)]))) (c + 1)) ∧ Low base W w' := by
  rw [bytL_app, ByteArray.size_append] at hz
  have fz : (Wi.frmS (⟨#[109]⟩ ++ r)).size = r.size + 9 := by rw [Wi.frmS_size, one_size]
  have e1 : (logP d fr ts).wait ++ Wi.frmS (⟨#[109]⟩ ++ r) = bytL (ts.map recF) ++ Wi.frmS (⟨#[109]⟩ ++ r) := rfl
  have z1 : (bytL (ts.map recF) ++ Wi.frmS (⟨#[109]⟩ ++ r)).size ≤ 200000 := by rw [ByteArray.size_append, fz]; omega
  have e2 : F.getD ⟨#[]⟩ ++ (bytL (ts.map recF) ++ Wi.frmS (⟨#[109]⟩ ++ r)) = bytL (fr ++ ts.map recF ++ [(false, r)]) := by rw [hF, commit_bytes]
  have z2 : (bytL (fr ++ ts.map recF ++ [(false, r)])).size ≤ 300000 := by rw [← e2, hF, ByteArray.size_append]; omega
  have k := commit_any base b (logP d fr ts) (Dn F c) r W h hd rfl (small_dn F c (by rw [hF]; omega) hc) (by omega) (by show (bytL (ts.map recF)).size ≤ _; omega) (by omega) (by show (bytL fr).size ≤ _; omega) (by
    rw [e1]
    show Fits (doF (fsF F) (putC _)) 1000000
    rw [do_put, e2]
    exact fits_one _ _ (by omega) (by decide))
  rw [logP_commit, e1, put_dn, e2] at k
  exact k
theorem replace_frames (base b bl d : Nat) (F : Option ByteArray) (c : Nat) (fr : List Fr) (ts : List ByteArray) (v : Value) (l : List ByteArray) (root : ByteArray) (W : World) (h : IsLog W base b (logP d fr ts)) (hd : IsDisk W base d (Dn F c)) (hF : (F.getD ⟨#[]⟩).size ≤ 500000) (hc : c ≤ 1000)
    (hv : W.ownsRow bl 9 1 v l.length (strs l)) (hl : l.length ≤ 6) (hs : ∀ t ∈ l, t.size ≤ 300) (hr : root.size ≤ 300) :
    Calls Try.prog 18 #[.pointer (some ⟨b, 0, none⟩), v, .string root] W fun e w' => e = .returned (.int .i64 0) ∧ IsLog w' base b (logP d (l.map recF ++ [(false, root)]) []) ∧ IsDisk w' base d (Dn (some (bytL (l.map recF ++ [(false, root)]))) (c + 2)) ∧ Low base W w' := by
  have k := replace_dn base b bl (logP d fr ts) F c v l root W h hd hF hc hv hl hs hr
  rw [show (logP d fr ts).d = d from rfl, logP_replace, ← whole_frames] at k
  exact k
theorem append_frames (base b d : Nat) (fr : List Fr) (ts : List ByteArray) (s : ByteArray) (W : World) (h : IsLog W base b (logP d fr ts)) (hs : s.size ≤ 300) (hz : (bytL (fr ++ ts.map recF)).size ≤ 100000) (hn : (logP d fr ts).recs.length ≤ 1000) :
    Calls Try.prog 22 #[.pointer (some ⟨b, 0, none⟩), .string s] W fun e w' => e = .returned (.tuple #[.int .i64 ((bytL fr).size + (bytL (ts.map recF)).size : Nat), .int .i64 0]) ∧ IsLog w' base b (logP d fr (ts ++ [s])) ∧ LT base b W w' := by
  rw [bytL_app, ByteArray.size_append] at hz
  have k := lappend_any base b (logP d fr ts) s W h (by omega) (by show (bytL (ts.map recF)).size ≤ _; omega) (by show (bytL fr).size ≤ _; omega) (by omega)
  rw [logP_append] at k
  exact k
theorem drop_frames (base b d : Nat) (fr : List Fr) (ts : List ByteArray) (W : World) (h : IsLog W base b (logP d fr ts)) (hz : (bytL (ts.map recF)).size ≤ 100000) (hn : (logP d fr ts).recs.length ≤ 1000) :
    Calls Try.prog 12 #[.pointer (some ⟨b, 0, none⟩)] W fun e w' => e = .returned (.int .i64 ((bytL (ts.map recF)).size : Nat)) ∧ IsLog w' base b (logP d fr []) ∧ LT base b W w' := by
  obtain ⟨T, h1, _, _⟩ := frG_recs d fr ts
  have k := drop_any base b (logP d fr ts) W h (by
    show (frG d fr).recs.length ≤ (frG d (fr ++ ts.map recF)).recs.length
    rw [h1, List.length_append]
    omega) (by omega) (by show (bytL (ts.map recF)).size ≤ _; omega)
  rw [logP_drop] at k
  exact k
end Go.Proofs.Ytddnjlnnkeiplaa
namespace Go.Proofs.Ytddnjlnnkeiplaa.X
open Go.RowKit Go.Maps
variable {xt : Xt}
theorem size_fs (F : Option ByteArray) : sizeF (fsF F) = (F.getD ⟨#[]⟩).size := by
  cases F with
  | none => rfl
  | some f => exact Nat.add_zero f.size
def noPl (xt : Xt) : Prop := xt.pp = none ∧ xt.pn = 0 ∧ xt.pc = 0
/-- Is there no room for a commit? -/
def fullB (xt : Xt) (fr : List Fr) (ts : List ByteArray) (r : ByteArray) : Bool := xt.bd && decide (xt.rm < ((bytL (fr ++ ts.map recF ++ [(false, r)])).size : Int))
theorem commit_size (fr : List Fr) (ts : List ByteArray) (r : ByteArray) : (bytL (fr ++ ts.map recF ++ [(false, r)])).size = (bytL fr).size + ((bytL (ts.map recF)).size + (r.size + 9)) := by
  rw [bytL_app, bytL_app, bytL_one, ByteArray.size_append, ByteArray.size_append, one_len]
  show _ + (r.size + 9) = _
  omega
theorem putQ_dn (F : Option ByteArray) (c : Nat) (fr : List Fr) (ts : List ByteArray) (r : ByteArray) (hF : F.getD ⟨#[]⟩ = bytL fr) : putQ xt (Dn F c) (bytL (ts.map recF) ++ Wi.frmS (⟨#[109]⟩ ++ r)) = if fullB xt fr ts r then 31 else 0 := by
  unfold putQ growF fullB
  have e1 : sizeF (Dn F c).now = (bytL fr).size := by show sizeF (fsF F) = _; rw [size_fs, hF]
  have e2 : (bytL (ts.map recF) ++ Wi.frmS (⟨#[109]⟩ ++ r)).size = (bytL (ts.map recF)).size + (r.size + 9) := by rw [ByteArray.size_append, Wi.frmS_size, one_size]
  rw [e1, e2, commit_size]
  cases xt.bd with
  | false => rw [if_neg (fun h => by cases h.2.1)]; rfl
  | true =>
    by_cases h : xt.rm < (((bytL fr).size + ((bytL (ts.map recF)).size + (r.size + 9)) : Nat) : Int)
    · rw [if_pos ⟨by omega, rfl, by omega⟩]
      simp only [Bool.true_and, decide_eq_true h, if_true]
    · rw [if_neg (fun h2 => h (by omega))]
      simp only [Bool.true_and, decide_eq_false h]
      rfl
theorem commit_frames (base b d : Nat) (F : Option ByteArray) (c : Nat) (fr : List Fr) (ts : List ByteArray) (r : ByteArray) (W : World) (h : IsLog W base b (logP d fr ts)) (hd : IsDisk xt W base d (Dn F c)) (hF : F.getD ⟨#[]⟩ = bytL fr) (hr : r.size ≤ 300) (hz : (bytL (fr ++ ts.map recF)).size ≤ 100000) (hc : c ≤ 1000) (hn : (logP d fr ts).recs.length ≤ 100000) (hP : noPl xt) :
    Calls Try.prog 13 #[.pointer (some ⟨b, 0, none⟩), .string r] W fun e w' => e = .returned (.int .i64 (if fullB xt fr ts r then 31 else 0 : Nat)) ∧ IsLog w' base b (if fullB xt fr ts r then logP d fr [] else logP d (fr ++ ts.map recF ++ [(false, r)]) []) ∧ IsDisk xt w' base d (if fullB xt fr ts r then Dn F c else Dn (some (bytL (fr ++ ts.map recF ++ [(false, r)]))) (c + 1)) ∧ Low base W w' := by
  rw [bytL_app, ByteArray.size_append] at hz
  have fz : (Wi.frmS (⟨#[109]⟩ ++ r)).size = r.size + 9 := by rw [Wi.frmS_size, one_size]
  have e1 : (logP d fr ts).wait ++ Wi.frmS (⟨#[109]⟩ ++ r) = bytL (ts.map recF) ++ Wi.frmS (⟨#[109]⟩ ++ r) := rfl
  have z1 : (bytL (ts.map recF) ++ Wi.frmS (⟨#[109]⟩ ++ r)).size ≤ 200000 := by rw [ByteArray.size_append, fz]; omega
  have e2 : F.getD ⟨#[]⟩ ++ (bytL (ts.map recF) ++ Wi.frmS (⟨#[109]⟩ ++ r)) = bytL (fr ++ ts.map recF ++ [(false, r)]) := by rw [hF, commit_bytes]
  have z2 : (bytL (fr ++ ts.map recF ++ [(false, r)])).size ≤ 300000 := by rw [← e2, hF, ByteArray.size_append]; omega
  obtain ⟨T, h1, _, _⟩ := frG_recs d fr ts
  have k := commit_x base b (logP d fr ts) (Dn F c) r W h hd rfl (small_dn F c (by rw [hF]; omega) hc) (by omega) (by show (bytL (ts.map recF)).size ≤ _; omega) (by omega) (by
    show (frG d fr).recs.length ≤ (frG d (fr ++ ts.map recF)).recs.length
    rw [h1, List.length_append]
    omega) (by show (bytL fr).size ≤ _; omega) (by
    rw [e1]
    show Fits (doF (fsF F) (putC _)) 1000000
    rw [do_put, e2]
    exact fits_one _ _ (by omega) (by decide)) hP (by show sizeF (fsF F) ≤ _; rw [size_fs, hF]; omega)
  unfold comX putD at k
  rw [e1, putQ_dn F c fr ts r hF, logP_commit, logP_drop, put_dn, e2] at k
  cases hx : fullB xt fr ts r with
  | true =>
    rw [hx] at k
    exact k
  | false =>
    rw [hx] at k
    exact k
theorem open_frames (base d : Nat) (F : Option ByteArray) (c : Nat) (fr : List Fr) (W : World) (hd : IsDisk xt W base d (Dn F c)) (hF : F.getD ⟨#[]⟩ = bytL fr) (hS : Shut fr) (hz : (bytL fr).size ≤ 500000) (hc : c ≤ 1000) (hl : fr.length ≤ 1000) (hs : ∀ x ∈ fr, x.2.size ≤ 900) (hP : noPl xt) :
    Calls Try.prog 10 #[.pointer (some ⟨d, 0, none⟩)] W (OpenPost xt base d W (logP d fr []) 0 (Dn F c)) := by
  have hFz : (F.getD ⟨#[]⟩).size ≤ 500000 := by rw [hF]; exact hz
  have sm := small_dn F c hFz hc
  have hR := rem_dn F c
  have hr := read_dn F c
  have zz : sizeF (Dn F c).now ≤ 1000000000 := by show sizeF (fsF F) ≤ _; rw [size_fs]; omega
  have hG : (logP d fr []).len = (F.getD ⟨#[]⟩).size := by rw [hF]; rfl
  have h := open_any base d (Dn F c) (logP d fr []) W hd rfl sm (by rw [hR]; exact sm) hP zz (by rw [hR]; exact zz) (by
    rw [hR, hr, hF, ← logP_load d fr hS]
    exact fun W b hW => load_fr base b d fr W hW hl hs (by omega)) (by rw [hR, hr, hG]; exact Nat.le_refl _) (by rw [hR, hr]; omega) (by
    rw [hR]
    have : Fits (doF (Dn F c).now (cutC (logP d fr []).len)) 1000000 := (fits_do (C := 10) (show Fits (Dn F c).now 500000 from fits_fs F _ (by omega) (by decide)) (cutC (logP d fr []).len) (by show 0 ≤ 10; decide) (by show 3 ≤ _; decide) (by show 0 ≤ _; decide)).mono (by decide)
    exact this)
  have e1 : (readS (nextD (Dn F c) remC).now ⟨#[108, 111, 103]⟩).size - (logP d fr []).len = 0 := by rw [hR, hr, hG, Nat.sub_self]
  have e2 : openD (Dn F c) 0 (logP d fr []).len = Dn F c := by
    unfold openD
    rw [hR]
    rfl
  rw [e1, e2] at h
  exact h
theorem IsDisk.used {w : World} {base b : Nat} {k : Dk} (h : IsDisk xt w base b k) (hs : sizeF k.now ≤ 1000000000) : Calls Try.prog 34 #[.pointer (some ⟨b, 0, none⟩)] w fun e w' => e = .returned (.int .i64 (sizeF k.now)) ∧ w.grownBy w' none := by
  obtain ⟨_, vn, vs, vl, hB, hm, _⟩ := h
  exact used_x base b vn vs vl k.unsure k.changes k.dead k.now w hB hm hs
set_option maxRecDepth 100000 in
/-- Room. -/
theorem room_x (base b : Nat) (k : Dk) (n : Int) (w : World) (h : IsDisk xt w base b k) :
    Calls Try.prog 33 #[.pointer (some ⟨b, 0, none⟩), .int .i64 n] w fun e w' => e = .returned (.tuple #[]) ∧ IsDisk { xt with bd := decide (0 ≤ n), rm := n } w' base b k ∧ w.grownBy w' (some b) := by
  obtain ⟨hb0, vn, vs, vl, hB, hn, hsu, hne, hl⟩ := h
  have f6 := hB.frozen 6
  have f7 := hB.frozen 7
  have c6 := hB.e6
  have c7 := hB.e7
  have G := grown_set (grown_set (grown_refl w (some b)) 6 (.bool (decide (0 ≤ n)))) 7 (.int .i64 n)
  have B1 := hB.set 6 (.bool (decide (0 ≤ n)))
  have R1 : Hid (IsDisk { xt with bd := decide (0 ≤ n), rm := n } ((w.setCell ⟨b, 6, none⟩ (.bool (decide (0 ≤ n)))).setCell ⟨b, 7, none⟩ (.int .i64 n)) base b k) := ⟨hb0, vn, vs, vl, B1.set 7 _, (hn.set hB 6 _).set B1 7 _, (hsu.set hB 6 _).set B1 7 _, hne, owns_self hl hB G⟩
  have R2 : Hid (w.grownBy ((w.setCell ⟨b, 6, none⟩ (.bool (decide (0 ≤ n)))).setCell ⟨b, 7, none⟩ (.int .i64 n)) (some b)) := G
  clear hB hn hsu hne hl G B1
  go_enter Try.func33, Try.ntmps33
  go_wp2
  first
  | exact bodyPost_end (results_none rfl _ _ _) rfl ⟨rfl, R1.out, R2.out⟩
  | exact bodyPost_ret (results_none rfl _ _ _) rfl ⟨rfl, R1.out, R2.out⟩
end Go.Proofs.Ytddnjlnnkeiplaa.X
