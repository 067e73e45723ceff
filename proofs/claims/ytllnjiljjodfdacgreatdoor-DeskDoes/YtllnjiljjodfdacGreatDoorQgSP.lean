/-
 Plain mathematics of the story: events of records; who had a job; what is told once. Nothing here is claimed by itself.
-/
import Derived.Test.YtllnjiljjodfdacGreatDoorQgGP
import Derived.Test.YtllnjiljjodfdacGreatDoorQgN2
namespace Go.Proofs.YtllnjiljjodfdacGreatDoor
open Go.RowKit

structure Ev where
 r : Rc
 a : An
 j : Jb
def evJ (T : Tb) (o : Od) (a : An) : Jb := if a.code = 0 then (if o.k = 2 then jobA T a.jb else jobA T o.jb) else ⟨0, 0, 0, 0⟩
def evOf (T : Tb) (r : Rc) : Ev := ⟨r, (doT T r.o).2, evJ (doT T r.o).1 r.o (doT T r.o).2⟩
def evsF : Tb → List Rc → List Ev
 | _, [] => []
 | T, r :: rs => evOf T r :: evsF (doT T r.o).1 rs
def evs (rs : List Rc) : List Ev := evsF T0 rs
theorem evsF_snoc : ∀ (T : Tb) (rs : List Rc) (r : Rc), evsF T (rs ++ [r]) = evsF T rs ++ [evOf (rs.foldl (fun T r => (doT T r.o).1) T) r]
 | _, [], _ => rfl
 | T, q :: rs, r => by
  show evOf T q :: evsF (doT T q.o).1 (rs ++ [r]) = _
  rw [evsF_snoc]
  rfl
theorem evs_snoc (rs : List Rc) (r : Rc) : evs (rs ++ [r]) = evs rs ++ [evOf (behindT rs) r] := evsF_snoc T0 rs r
theorem evsF_len : ∀ (T : Tb) (rs : List Rc), (evsF T rs).length = rs.length
 | _, [] => rfl
 | T, r :: rs => by
  show (evsF (doT T r.o).1 rs).length + 1 = rs.length + 1
  rw [evsF_len]
theorem evs_len (rs : List Rc) : (evs rs).length = rs.length := evsF_len T0 rs
def holdE (job : Int) (e : Ev) : Option (Int × Int) := if e.r.o.k = 2 ∧ e.a.code = 0 ∧ e.a.jb = job then some (e.r.o.wk, e.a.tr) else none
def holdL (l : List Ev) (job : Int) : List (Int × Int) := l.filterMap (holdE job)
theorem holdL_snoc (l : List Ev) (e : Ev) (job : Int) : holdL (l ++ [e]) job = holdL l job ++ (holdE job e).toList := by
 unfold holdL
 rw [List.filterMap_append]
 cases h : holdE job e <;> simp [h]
theorem allF_few : ∀ (fu : Nat) (ep : Int) (n : Nat) (f : Nat → Int), 9 * (allF fu ep n f).length ≤ n
 | 0, _, _, _ => by simp [allF]
 | fu + 1, ep, n, f => by
  rw [allF]
  split
  ·simp
  ·rename_i hc
   have h9 : (dec n f).2 = 0 := by
    by_cases h : (dec n f).2 = 0
    ·exact h
    ·exact absurd (.inl h) hc
   have := (dec_ok h9).1
   have ih := allF_few fu (dec n f).1.ep (n - 9) (fun i => f (i + 9))
   simp only [List.length_cons]
   omega
theorem allR_few (n : Nat) (f : Nat → Int) : 9 * (allR n f).length ≤ n := allF_few _ _ _ _
theorem flat_at {α : Type} (lst : α → List Value) (sz : Nat) (hs : ∀ a, (lst a).length = sz) : ∀ (l : List α) (i j : Nat) (a : α), l[i]? = some a → j < sz → (l.flatMap lst)[i * sz + j]? = (lst a)[j]?
 | [], _, _, _, h, _ => by simp at h
 | b :: l, 0, j, a, h, hj => by
  simp at h
  subst h
  rw [List.flatMap_cons, Nat.zero_mul, Nat.zero_add, List.getElem?_append_left (by rw [hs]; exact hj)]
 | b :: l, i + 1, j, a, h, hj => by
  have ih := flat_at lst sz hs l i j a (by simpa using h) hj
  rw [List.flatMap_cons, List.getElem?_append_right (by rw [hs, Nat.add_mul]; omega), hs]
  have e : (i + 1) * sz + j - sz = i * sz + j := by rw [Nat.add_mul]; omega
  rw [e]
  exact ih
theorem own_cells {α : Type} (lst : α → List Value) (sz : Nat) (hs : ∀ a, (lst a).length = sz) {w : World} {base : Nat} {e : TypeId} {v : Value} {l : List α} {n : Nat} (h : w.ownsRow base e sz v n (l.flatMap lst)) (hn : n = l.length) :
  ∃ a c, v = .slice a n c ∧ n ≤ c ∧ (n = 0 ∨ ∃ g, a = some ⟨g, 0, none⟩ ∧ base ≤ g ∧ g < w.heap.size ∧ ∀ i x, l[i]? = some x → ∀ j u, (lst x)[j]? = some u → w.cell? ⟨g, i * sz + j, none⟩ = some u) := by
 by_cases h0 : n = 0
 ·obtain ⟨_, ⟨rfl, _⟩ | ⟨g, c, cur, rfl, _, _, hc, _⟩⟩ := h
  ·exact ⟨none, 0, by rw [h0], by omega, .inl h0⟩
  ·exact ⟨_, c, rfl, hc, .inl h0⟩
 ·obtain ⟨g, c, rfl, hc, hb, hg⟩ := own_shape h (by omega)
  refine ⟨_, c, rfl, hc, .inr ⟨g, rfl, hb, hg, fun i x hx j u hu => ?_⟩⟩
  have hj : j < sz := by rw [← hs x]; exact (List.getElem?_eq_some_iff.1 hu).1
  have h1 := flat_at lst sz hs l i j x hx hj
  rw [hu] at h1
  have := h.cells (g := g) rfl _ _ h1
  have e2 : ((⟨g, 0, none⟩ : Addr).add (i * sz + j)) = ⟨g, i * sz + j, none⟩ := by unfold Addr.add; split <;> simp_all
  rw [e2] at this
  exact this
def Ev.list (e : Ev) : List Value := [.int .i64 e.r.ep, .int .i64 e.r.o.k, .int .i64 e.r.o.now, .int .i64 e.r.o.jb, .int .i64 e.r.o.tr, .int .i64 e.r.o.wk, .int .i64 e.r.o.tm, .int .i64 e.a.code, .int .i64 e.a.jb, .int .i64 e.a.tr, .int .i64 e.j.st, .int .i64 e.j.wk, .int .i64 e.j.tr, .int .i64 e.j.un]
def Ev.cells (e : Ev) : Array Value := #[.int .i64 e.r.ep, .int .i64 e.r.o.k, .int .i64 e.r.o.now, .int .i64 e.r.o.jb, .int .i64 e.r.o.tr, .int .i64 e.r.o.wk, .int .i64 e.r.o.tm, .int .i64 e.a.code, .int .i64 e.a.jb, .int .i64 e.a.tr, .int .i64 e.j.st, .int .i64 e.j.wk, .int .i64 e.j.tr, .int .i64 e.j.un]
def cellsE (l : List Ev) : List Value := l.flatMap Ev.list
theorem cellsE_snoc (l : List Ev) (e : Ev) : cellsE (l ++ [e]) = cellsE l ++ e.list := by simp [cellsE]
def ev0 : Ev := ⟨rc0, ⟨0, 0, 0⟩, ⟨0, 0, 0, 0⟩⟩
def atE (l : List Ev) (i : Nat) : Ev := l.getD i ev0
theorem atE_some {l : List Ev} {i : Nat} (h : i < l.length) : l[i]? = some (atE l i) := by simp [atE, List.getD, List.getElem?_eq_getElem h]
def EvAt (w : World) (bl off : Nat) (e : Ev) : Prop := ∀ j u, e.list[j]? = some u → w.cell? ⟨bl, off + j, none⟩ = some u
def Evs (w : World) (a : Option Addr) (n : Nat) (fs : Nat → Ev) : Prop :=
 n = 0 ∨ ∃ bl off, a = some ⟨bl, off, none⟩ ∧ bl < w.heap.size ∧ ∀ i, i < n → EvAt w bl (off + i * 14) (fs i)
theorem EvAt.all {w : World} {bl off : Nat} {e : Ev} (h : EvAt w bl off e) :
  w.cell? ⟨bl, off, none⟩ = some (.int .i64 e.r.ep) ∧ w.cell? ⟨bl, off + 1, none⟩ = some (.int .i64 e.r.o.k) ∧ w.cell? ⟨bl, off + 2, none⟩ = some (.int .i64 e.r.o.now) ∧ w.cell? ⟨bl, off + 3, none⟩ = some (.int .i64 e.r.o.jb) ∧
  w.cell? ⟨bl, off + 4, none⟩ = some (.int .i64 e.r.o.tr) ∧ w.cell? ⟨bl, off + 5, none⟩ = some (.int .i64 e.r.o.wk) ∧ w.cell? ⟨bl, off + 6, none⟩ = some (.int .i64 e.r.o.tm) ∧
  w.cell? ⟨bl, off + 7, none⟩ = some (.int .i64 e.a.code) ∧ w.cell? ⟨bl, off + 8, none⟩ = some (.int .i64 e.a.jb) ∧ w.cell? ⟨bl, off + 9, none⟩ = some (.int .i64 e.a.tr) ∧
  w.cell? ⟨bl, off + 10, none⟩ = some (.int .i64 e.j.st) ∧ w.cell? ⟨bl, off + 11, none⟩ = some (.int .i64 e.j.wk) ∧ w.cell? ⟨bl, off + 12, none⟩ = some (.int .i64 e.j.tr) ∧ w.cell? ⟨bl, off + 13, none⟩ = some (.int .i64 e.j.un) :=
 ⟨h 0 _ rfl, h 1 _ rfl, h 2 _ rfl, h 3 _ rfl, h 4 _ rfl, h 5 _ rfl, h 6 _ rfl, h 7 _ rfl, h 8 _ rfl, h 9 _ rfl, h 10 _ rfl, h 11 _ rfl, h 12 _ rfl, h 13 _ rfl⟩
theorem EvAt.chg {w w' : World} {bl off : Nat} {e : Ev} (h : EvAt w bl off e) {bs : List Nat} (k : Chg bs w w') (hl : bl < w.heap.size) (hb : bl ∉ bs) : EvAt w' bl off e := fun j u hu => by
 rw [k.cell' hl hb]; exact h j u hu
theorem Evs.chg {w w' : World} {a : Option Addr} {n : Nat} {fs : Nat → Ev} (h : Evs w a n fs) (k : Chg [] w w') : Evs w' a n fs := by
 rcases h with h | ⟨bl, off, e, hb, hc⟩
 ·exact .inl h
 ·exact .inr ⟨bl, off, e, Nat.lt_of_lt_of_le hb k.size, fun i hi => (hc i hi).chg k hb (by simp)⟩
theorem own_evs {w : World} {base : Nat} {e : TypeId} {v : Value} {l : List Ev} {n : Nat} (h : w.ownsRow base e 14 v n (cellsE l)) (hn : n = l.length) : ∃ a c, v = .slice a n c ∧ n ≤ c ∧ Evs w a n (atE l) := by
 obtain ⟨a, c, e1, hc, h0⟩ := own_cells Ev.list 14 (fun _ => rfl) h hn
 refine ⟨a, c, e1, hc, ?_⟩
 rcases h0 with h0 | ⟨g, rfl, hb, hg, hcell⟩
 ·exact .inl h0
 ·refine .inr ⟨g, 0, rfl, hg, fun i hi j u hu => ?_⟩
  rw [Nat.zero_add]
  exact hcell i _ (atE_some (by omega)) j u hu
theorem Blk.ev {w : World} {b : Nat} {e : Ev} {t : TypeId} (h : Blk w b e.cells t) : EvAt w b 0 e := fun j u hu => by
 rw [Nat.zero_add, h.cell, ← hu]
 show (e.list.toArray)[j]? = _
 rw [List.getElem?_toArray]
def pairV (p : Int × Int) : List Value := [.int .i64 p.1, .int .i64 p.2]
def cellsP (l : List (Int × Int)) : List Value := l.flatMap pairV
theorem cellsP_snoc (l : List (Int × Int)) (p : Int × Int) : cellsP (l ++ [p]) = cellsP l ++ pairV p := by simp [cellsP]
def Prs (w : World) (a : Option Addr) (n : Nat) (l : List (Int × Int)) : Prop :=
 n = 0 ∨ ∃ g, a = some ⟨g, 0, none⟩ ∧ g < w.heap.size ∧ ∀ i p, l[i]? = some p → w.cell? ⟨g, i * 2, none⟩ = some (.int .i64 p.1) ∧ w.cell? ⟨g, i * 2 + 1, none⟩ = some (.int .i64 p.2)
theorem own_prs {w : World} {base : Nat} {e : TypeId} {v : Value} {l : List (Int × Int)} {n : Nat} (h : w.ownsRow base e 2 v n (cellsP l)) (hn : n = l.length) : ∃ a c, v = .slice a n c ∧ n ≤ c ∧ Prs w a n l := by
 obtain ⟨a, c, e1, hc, h0⟩ := own_cells pairV 2 (fun _ => rfl) h hn
 refine ⟨a, c, e1, hc, ?_⟩
 rcases h0 with h0 | ⟨g, rfl, hb, hg, hcell⟩
 ·exact .inl h0
 ·exact .inr ⟨g, rfl, hg, fun i p hp => ⟨hcell i p hp 0 _ rfl, hcell i p hp 1 _ rfl⟩⟩
theorem Prs.chg {w w' : World} {a : Option Addr} {n : Nat} {l : List (Int × Int)} (h : Prs w a n l) (k : Chg [] w w') : Prs w' a n l := by
 rcases h with h | ⟨g, e, hb, hc⟩
 ·exact .inl h
 ·exact .inr ⟨g, e, Nat.lt_of_lt_of_le hb k.size, fun i p hp => by rw [k.cell' hb (by simp), k.cell' hb (by simp)]; exact hc i p hp⟩
theorem holdL_take (l : List Ev) (job : Int) {k : Nat} (hk : k < l.length) : holdL (l.take (k + 1)) job = holdL (l.take k) job ++ (holdE job (atE l k)).toList := by
 rw [List.take_succ_eq_append_getElem hk, holdL_snoc]
 congr 3
 simp [atE, List.getD, List.getElem?_eq_getElem hk]
theorem holdL_len (l : List Ev) (job : Int) : (holdL l job).length ≤ l.length := List.length_filterMap_le _ _
theorem evs_snoc_take (rs : List Rc) {k : Nat} (hk : k < rs.length) : evs (rs.take (k + 1)) = evs (rs.take k) ++ [evOf (behindT (rs.take k)) (atR rs k)] := by
 have e : rs.take (k + 1) = rs.take k ++ [atR rs k] := by
  rw [List.take_succ_eq_append_getElem hk]
  simp [atR, List.getD, List.getElem?_eq_getElem hk]
 rw [e, evs_snoc]
def jbV (j : Jb) : Value := .agg #[.int .i64 j.st, .int .i64 j.wk, .int .i64 j.tr, .int .i64 j.un]
theorem jobInfoS : (Tryz.prog.info? 99).map (·.size) = some 4 := by kernel_rfl
theorem load_jobS {w : World} {b : Nat} {ty' : TypeId} {x y z u : Value} (h : Blk w b #[x, y, z, u] ty') : (loadVar 99 ⟨b, 0, none⟩).run Tryz.prog w = .ok (.agg #[x, y, z, u]) w := by
 have hc : w.rangeAt b 0 [x, y, z, u] := fun j v hv => by rw [Nat.zero_add, h.cell]; simpa using hv
 exact run_loadVar_mid (P := Tryz.prog) w b 0 99 [x, y, z, u] _ hc Tryz.underlying99 rfl (by rw [jobInfoS]; rfl)
theorem ret_job {fn : Func} {q : Tmp} (h : fn.results = #[.cell q 99]) {tmps : Array Value} {w : World} {c : Nat}
  (hq : tmps.getD q undef = .pointer (some ⟨c, 0, none⟩)) {ty'' : TypeId} {x y z u : Value} (hA : Blk w c #[x, y, z, u] ty'') :
  (results fn tmps).run Tryz.prog w = .ok (.agg #[x, y, z, u]) w := by
 have ha := load_jobS hA
 have hq' : tmps[q]?.getD undef = .pointer (some ⟨c, 0, none⟩) := by simpa using hq
 simp only [results, h]
 simp [hq', asAddr, ha]
theorem Blk.fourF {w : World} {b : Nat} {v0 v1 v2 v3 : Value} {t : TypeId} (h : Blk w b #[v0, v1, v2, v3] t) :
  w.frozen? ⟨b, 0, none⟩ = false ∧ w.frozen? ⟨b, 1, none⟩ = false ∧ w.frozen? ⟨b, 2, none⟩ = false ∧ w.frozen? ⟨b, 3, none⟩ = false :=
 ⟨h.fz 0, h.fz 1, h.fz 2, h.fz 3⟩
theorem Blk.set4 {w : World} {b : Nat} {v0 v1 v2 v3 : Value} {t : TypeId} (h : Blk w b #[v0, v1, v2, v3] t) (x y z u : Value) :
  Blk ((((w.setCell ⟨b, 0, none⟩ x).setCell ⟨b, 1, none⟩ y).setCell ⟨b, 2, none⟩ z).setCell ⟨b, 3, none⟩ u) b #[x, y, z, u] t := (((h.set 0 x).set 1 y).set 2 z).set 3 u
theorem Chg.set4 {bs : List Nat} {a w : World} (h : Chg bs a w) {b : Nat} (hb : b ∈ bs ∨ a.heap.size ≤ b) (x y z u : Value) :
  Chg bs a ((((w.setCell ⟨b, 0, none⟩ x).setCell ⟨b, 1, none⟩ y).setCell ⟨b, 2, none⟩ z).setCell ⟨b, 3, none⟩ u) := (((h.setCell (p := ⟨b, 0, none⟩) hb x).setCell (p := ⟨b, 1, none⟩) hb y).setCell (p := ⟨b, 2, none⟩) hb z).setCell (p := ⟨b, 3, none⟩) hb u
set_option maxRecDepth 100000 in
set_option maxHeartbeats 2000000 in
theorem jobb_any (b : Nat) (o : Od) (a : An) (T : Tb) (w : World) (h : Has 151 w b T) :
  Calls Tryz.prog 79 #[.pointer (some ⟨b, 0, none⟩), odV o, ansV a] w fun e w' => e = .returned (jbV (evJ T o a)) ∧ Chg [] w w' := by
 have lb := h.lt
 have G0 : Chg [] w (((w.alloc (.cells #[.int .i64 o.k, .int .i64 o.now, .int .i64 o.jb, .int .i64 o.tr, .int .i64 o.wk, .int .i64 o.tm] 83)).alloc (.cells #[.int .i64 a.code, .int .i64 a.jb, .int .i64 a.tr] 95)).alloc (.cells #[.int .i64 0, .int .i64 0, .int .i64 0, .int .i64 0] 99)) := (((Chg.refl [] w).alloc _).alloc _).alloc _
 have B0 := Blk.new1 (w.alloc (.cells #[.int .i64 o.k, .int .i64 o.now, .int .i64 o.jb, .int .i64 o.tr, .int .i64 o.wk, .int .i64 o.tm] 83)) (.cells #[.int .i64 a.code, .int .i64 a.jb, .int .i64 a.tr] 95) #[.int .i64 0, .int .i64 0, .int .i64 0, .int .i64 0] 99
 rw [World.size_alloc] at B0
 have H0 := hide (h.chg G0 (by simp))
 have HB0 := hide B0
 have HG0 := hide G0
 clear h B0 G0
 unfold odV ansV
 by_cases hc : a.code = 0
 ·have c0 : (a.code == 0) = true := by simpa using hc
  by_cases hk : o.k = 2
  ·have k0 : (o.k == 2) = true := by simpa using hk
   have HE := hide (show evJ T o a = jobA T a.jb by unfold evJ; rw [if_pos hc, if_pos hk])
   clear hc hk
   go_enter Tryz.func79, Tryz.ntmps79
   go_wp2_with (go_at_call 56; refine (job_all b _ T _ (unhide H0)).mono ?_; rintro e w2 ⟨rfl, g2⟩; have B2 := (unhide HB0).chg g2 (by simp); have l2 := B2.lt; obtain ⟨f0, f1, f2, f3⟩ := B2.fourF; obtain ⟨r0, r1, r2, r3⟩ := B2.four; have HB2 := hide B2; have HG2 := hide ((unhide HG0).trans g2 (by simp)); clear B2 g2)
   rw [unhide HE]
   refine bodyPost_ret (ret_job rfl rfl ((unhide HB2).set4 _ _ _ _)) rfl ⟨rfl, (unhide HG2).set4 (.inr (by omega)) _ _ _ _⟩
  ·have k0 : (o.k == 2) = false := by simpa using hk
   have HE := hide (show evJ T o a = jobA T o.jb by unfold evJ; rw [if_pos hc, if_neg hk])
   clear hc hk
   go_enter Tryz.func79, Tryz.ntmps79
   go_wp2_with (go_at_call 56; refine (job_all b _ T _ (unhide H0)).mono ?_; rintro e w2 ⟨rfl, g2⟩; have B2 := (unhide HB0).chg g2 (by simp); have l2 := B2.lt; obtain ⟨f0, f1, f2, f3⟩ := B2.fourF; obtain ⟨r0, r1, r2, r3⟩ := B2.four; have HB2 := hide B2; have HG2 := hide ((unhide HG0).trans g2 (by simp)); clear B2 g2)
   rw [unhide HE]
   refine bodyPost_ret (ret_job rfl rfl ((unhide HB2).set4 _ _ _ _)) rfl ⟨rfl, (unhide HG2).set4 (.inr (by omega)) _ _ _ _⟩
 ·have c0 : (a.code == 0) = false := by simpa using hc
  have HE := hide (show evJ T o a = ⟨0, 0, 0, 0⟩ by unfold evJ; rw [if_neg hc])
  clear hc
  go_enter Tryz.func79, Tryz.ntmps79
  go_wp2
  rw [unhide HE]
  refine bodyPost_ret (ret_job rfl rfl (unhide HB0)) rfl ⟨rfl, unhide HG0⟩
def evV (e : Ev) : Value := .agg e.cells
def gaveB (e : Ev) (job : Int) : Bool := e.r.o.k == 2 && e.a.code == 0 && e.a.jb == job
theorem gave_yes {e : Ev} {job : Int} (h : gaveB e job = true) : holdE job e = some (e.r.o.wk, e.a.tr) := by
 unfold gaveB at h
 simp at h
 unfold holdE
 rw [if_pos ⟨h.1.1, h.1.2, h.2⟩]
theorem gave_no {e : Ev} {job : Int} (h : gaveB e job = false) : holdE job e = none := by
 unfold holdE
 rw [if_neg]
 rintro ⟨h1, h2, h3⟩
 unfold gaveB at h
 simp [h1, h2, h3] at h
set_option maxRecDepth 100000 in
set_option maxHeartbeats 2000000 in
theorem gave_any (e : Ev) (job : Int) (w : World) :
  Calls Tryz.prog 81 #[evV e, .int .i64 job] w fun x w' => x = .returned (.bool (gaveB e job)) ∧ Chg [] w w' := by
 unfold evV Ev.cells gaveB
 cases h1 : (e.r.o.k == 2)
 ·go_enter Tryz.func81, Tryz.ntmps81
  go_wp2
  go_ret
  exact ⟨rfl, (Chg.refl _ _).alloc _⟩
 ·cases h2 : (e.a.code == 0)
  ·go_enter Tryz.func81, Tryz.ntmps81
   go_wp2
   go_ret
   exact ⟨rfl, (Chg.refl _ _).alloc _⟩
  ·go_enter Tryz.func81, Tryz.ntmps81
   go_wp2
   go_ret
   exact ⟨rfl, (Chg.refl _ _).alloc _⟩
end Go.Proofs.YtllnjiljjodfdacGreatDoor
