/-
  Plain mathematics of the story: events of records; who had a job; what is told once. Nothing here is claimed by itself.
-/
import Derived.Test.YtllnjiljjodfdacGreatDoorMgGP
import Derived.Test.YtllnjiljjodfdacGreatDoorMgN2
namespace Go.Proofs.YtllnjiljjodfdacGreatDoor
open Go.RowKit

structure Ev where
  r : Rc
  a : An
  j : Jb
def evJ (T : Tb) (o : Od) (a : An) : Jb := if a.code = 0 then (if o.k = 2 then jobA T a.jb else jobA T o.jb) else ⟨0, 0, 0, 0⟩
def evOf (T : Tb) (r : Rc) : Ev := ⟨r, (doT T r.o).2, evJ (doT T r.o).1 r.o (doT T r.o).2⟩
def evsF : Tb → List Rc → List Ev
  | _, [] => []
  | T, r :: rs => evOf T r :: evsF (doT T r.o).1 rs
def evs (rs : List Rc) : List Ev := evsF T0 rs
theorem evsF_snoc : ∀ (T : Tb) (rs : List Rc) (r : Rc), evsF T (rs ++ [r]) = evsF T rs ++ [evOf (rs.foldl (fun T r => (doT T r.o).1) T) r]
  | _, [], _ => rfl
  | T, q :: rs, r => by
    show evOf T q :: evsF (doT T q.o).1 (rs ++ [r]) = _
    rw [evsF_snoc]
    rfl
theorem evs_snoc (rs : List Rc) (r : Rc) : evs (rs ++ [r]) = evs rs ++ [evOf (behindT rs) r] := evsF_snoc T0 rs r
theorem evsF_len : ∀ (T : Tb) (rs : List Rc), (evsF T rs).length = rs.length
  | _, [] => rfl
  | T, r :: rs => by
    show (evsF (doT T r.o).1 rs).length + 1 = rs.length + 1
    rw [evsF_len]
theorem evs_len (rs : List Rc) : (evs rs).length = rs.length := evsF_len T0 rs

/-- From the first on, one behind the other. -/
theorem snoc_ind {α : Type} {P : List α → Prop} (h0 : P []) (hs : ∀ l a, P l → P (l ++ [a])) : ∀ l, P l := by
  have h : ∀ n (l : List α), l.length = n → P l := by
    intro n
    induction n with
    | zero => intro l hl; rw [List.eq_nil_of_length_eq_zero hl]; exact h0
    | succ n ih =>
      intro l hl
      rcases List.eq_nil_or_concat l with rfl | ⟨l', a, rfl⟩
      · exact h0
      · rw [List.concat_eq_append] at hl ⊢
        exact hs l' a (ih l' (by simp at hl; exact hl))
  exact fun l => h _ l rfl
theorem accR_front {rs : List Rc} {r : Rc} (h : accR (rs ++ [r])) : accR rs ∧ (doT (behindT rs) r.o).2.code = 0 :=
  ⟨fun pre q suf e => h pre q (suf ++ [r]) (by rw [e]; simp), h rs r [] rfl⟩
theorem accR_take {rs : List Rc} (h : accR rs) (n : Nat) : accR (rs.take n) := fun pre q suf e => h pre q (suf ++ rs.drop n) (by
  have := List.take_append_drop n rs
  rw [e] at this
  exact this.symm.trans (by simp))
/-- An event at its place. -/
theorem evs_at (rs : List Rc) : ∀ i, i < rs.length → (evs rs)[i]? = some (evOf (behindT (rs.take i)) (atR rs i)) := by
  refine snoc_ind (P := fun rs => ∀ i, i < rs.length → (evs rs)[i]? = some (evOf (behindT (rs.take i)) (atR rs i))) (fun i hi => by simp at hi) (fun l a ih i hi => ?_) rs
  rw [evs_snoc]
  by_cases h : i < l.length
  · rw [List.getElem?_append_left (by rw [evs_len]; exact h), ih i h, List.take_append_of_le_length (by omega)]
    have e : atR (l ++ [a]) i = atR l i := by unfold atR; simp [List.getD, List.getElem?_append_left h]
    rw [e]
  · have hi' : i = l.length := by simp at hi; omega
    subst hi'
    have e : atR (l ++ [a]) l.length = a := by unfold atR; simp [List.getD]
    rw [List.getElem?_append_right (by rw [evs_len]; exact Nat.le_refl _), evs_len, e]
    simp
/-- No event of what was done has a code. -/
theorem evs_acc {rs : List Rc} (h : accR rs) : ∀ e ∈ evs rs, e.a.code = 0 := by
  refine snoc_ind (P := fun rs => accR rs → ∀ e ∈ evs rs, e.a.code = 0) (fun _ e he => by simp [evs, evsF] at he) (fun l a ih h e he => ?_) rs h
  obtain ⟨h1, h2⟩ := accR_front h
  rw [evs_snoc] at he
  rcases List.mem_append.1 he with he | he
  · exact ih h1 e he
  · simp at he
    subst he
    exact h2

/-- Who had a job, and as which try. -/
def holdE (job : Int) (e : Ev) : Option (Int × Int) := if e.r.o.k = 2 ∧ e.a.code = 0 ∧ e.a.jb = job then some (e.r.o.wk, e.a.tr) else none
def holdL (l : List Ev) (job : Int) : List (Int × Int) := l.filterMap (holdE job)
theorem holdL_snoc (l : List Ev) (e : Ev) (job : Int) : holdL (l ++ [e]) job = holdL l job ++ (holdE job e).toList := by
  unfold holdL
  rw [List.filterMap_append]
  cases h : holdE job e <;> simp [h]
/-- Tries from 1 on, one behind the other, up to that which the table tells. -/
theorem hold_tries {rs : List Rc} (h : accR rs) : ∀ k : Nat, k < 6 → ((holdL (evs rs) k).length : Int) = ((behindT rs).js k).tr ∧ ∀ (i : Nat) (p : Int × Int), (holdL (evs rs) k)[i]? = some p → p.2 = i + 1 := by
  refine snoc_ind (P := fun rs => accR rs → ∀ k : Nat, k < 6 → ((holdL (evs rs) k).length : Int) = ((behindT rs).js k).tr ∧ ∀ (i : Nat) (p : Int × Int), (holdL (evs rs) k)[i]? = some p → p.2 = i + 1) (fun _ k _ => ⟨rfl, fun i p hp => by simp [evs, evsF, holdL] at hp⟩) (fun l r ih h k hk => ?_) rs h
  obtain ⟨h1, h2⟩ := accR_front h
  obtain ⟨i1, i2⟩ := ih h1 k hk
  rw [evs_snoc, holdL_snoc, behindT_snoc]
  have hI := behindT_inv l
  generalize behindT l = T at *
  rcases do_step T r.o with ⟨hc, _⟩ | ⟨_, hc, hnow, n, hn, hoth, _, hst⟩
  · exact absurd h2 hc
  have htr : ∀ j, (ageJ (max T.now r.o.now) j).tr = j.tr := fun j => ageJ_tr _ _
  have hage := jinv_age (hI.2.2 n hn) (show T.now ≤ max T.now r.o.now by omega)
  by_cases ht : r.o.k = 2 ∧ k = n
  · obtain ⟨t1, rfl⟩ := ht
    rcases hst with ⟨a1, _⟩ | ⟨a1, a2, a3, a4⟩ | ⟨a1, _⟩ | ⟨a1, _⟩ | ⟨a1, _⟩ <;> try omega
    have he : holdE (k : Int) (evOf T r) = some (r.o.wk, (T.js k).tr + 1) := by
      unfold holdE evOf
      dsimp only
      rw [a4]
      rw [if_pos ⟨t1, rfl, rfl⟩, htr]
    rw [he, a3]
    refine ⟨?_, fun i p hp => ?_⟩
    · show ((holdL (evs l) k ++ [_]).length : Int) = (ageJ (max T.now r.o.now) (T.js k)).tr + 1
      rw [htr, List.length_append]
      simp
      exact i1
    · by_cases hi : i < (holdL (evs l) k).length
      · rw [List.getElem?_append_left hi] at hp
        exact i2 i p hp
      · have hl : i = (holdL (evs l) k).length := by
          have := List.getElem?_eq_some_iff.1 hp
          obtain ⟨q, -⟩ := this
          simp at q
          omega
        rw [hl, List.getElem?_append_right (Nat.le_refl _)] at hp
        simp at hp
        subst hp
        show (T.js k).tr + 1 = _
        rw [hl, i1]
  · have he : holdE (k : Int) (evOf T r) = none := by
      unfold holdE evOf
      dsimp only
      by_cases t1 : r.o.k = 2
      · have hkn : k ≠ n := fun e => ht ⟨t1, e⟩
        rcases hst with ⟨a1, _⟩ | ⟨a1, a2, a3, a4⟩ | ⟨a1, _⟩ | ⟨a1, _⟩ | ⟨a1, _⟩ <;> try omega
        rw [a4, if_neg]
        rintro ⟨_, _, q⟩
        have q' : (n : Int) = k := q
        omega
      · rw [if_neg (fun q => t1 q.1)]
    rw [he]
    have e3 : ((doT T r.o).1.js k).tr = (T.js k).tr := by
      by_cases e : k = n
      · subst e
        have t1 : ¬ r.o.k = 2 := fun q => ht ⟨q, rfl⟩
        rcases hst with ⟨a1, a2, a3, a4, a5⟩ | ⟨a1, a2, a3, a4⟩ | ⟨a1, a2, a3, a4, a5, a6, a7⟩ | ⟨a1, a2, a3, a4, a5, a6, a7⟩ | ⟨a1, a2, a3, a4, a5, a6, a7⟩
        · rw [a4]
          have := htr (T.js k)
          unfold JInv at hage
          show (0 : Int) = _
          omega
        · exact absurd a1 t1
        · rw [a6]; exact htr _
        · rw [a6]; exact htr _
        · rw [a6]; exact htr _
      · rw [hoth k hk e]; exact htr _
    rw [e3]
    simp
    exact ⟨i1, fun i a b hp => i2 i (a, b) hp⟩

/-- Which job an event is about; added and done, as the table has it. -/
def evK (e : Ev) : Int := if e.r.o.k = 2 then e.a.jb else e.r.o.jb
def addI (j : Jb) : Int := if j.st = 0 then 0 else 1
def doneI (j : Jb) : Int := if j.st = 3 then 1 else 0
theorem once_step {T : Tb} {o : Od} (hz : (doT T o).2.code = 0) {r : Rc} (hr : r.o = o) :
    ∃ n : Nat, n < 6 ∧ evK (evOf T r) = n ∧ doneI (T.js n) = 0 ∧ addI ((doT T o).1.js n) = 1 ∧ addI ((doT T o).1.js n) = addI (T.js n) + (if o.k = 1 then 1 else 0) ∧ doneI ((doT T o).1.js n) = (if o.k = 4 then 1 else 0) ∧
      ∀ k, k < 6 → k ≠ n → addI ((doT T o).1.js k) = addI (T.js k) ∧ doneI ((doT T o).1.js k) = doneI (T.js k) := by
  subst hr
  rcases do_step T r.o with ⟨hc, _⟩ | ⟨_, hc, hnow, n, hn, hoth, _, hst⟩
  · exact absurd hz hc
  have hadd : ∀ m j, addI (ageJ m j) = addI j := fun m j => by
    unfold ageJ addI
    split
    · rename_i q
      rw [relJ_st]
      split <;> (rw [if_neg (by decide), if_neg (by omega)])
    · rfl
  have hdone : ∀ m j, doneI (ageJ m j) = doneI j := fun m j => by
    unfold ageJ doneI
    split
    · rename_i q
      rw [relJ_st]
      split <;> (rw [if_neg (by decide), if_neg (by omega)])
    · rfl
  have ha := hadd (max T.now r.o.now) (T.js n)
  have hd := hdone (max T.now r.o.now) (T.js n)
  have key : doneI (ageJ (max T.now r.o.now) (T.js n)) = 0 ∧ addI ((doT T r.o).1.js n) = 1 ∧ addI ((doT T r.o).1.js n) = addI (ageJ (max T.now r.o.now) (T.js n)) + (if r.o.k = 1 then 1 else 0) ∧ doneI ((doT T r.o).1.js n) = (if r.o.k = 4 then 1 else 0) := by
    generalize ageJ (max T.now r.o.now) (T.js n) = p at *
    rcases hst with ⟨a1, a2, a3, a4, a5⟩ | ⟨a1, a2, a3, a4⟩ | ⟨a1, a2, a3, a4, a5, a6, a7⟩ | ⟨a1, a2, a3, a4, a5, a6, a7⟩ | ⟨a1, a2, a3, a4, a5, a6, a7⟩
    · rw [a4]; simp [doneI, addI, a1, a3]
    · rw [a3]; simp [doneI, addI, a1, a2]
    · rw [a6]; simp [doneI, addI, a1, a3]
    · rw [a6]; simp [doneI, addI, a1, a3]
    · rw [a6]
      by_cases e3 : p.tr = 3
      · simp [doneI, addI, a1, a3, relJ, e3]
      · simp [doneI, addI, a1, a3, relJ, e3]
  obtain ⟨k1, k2, k3, k4⟩ := key
  refine ⟨n, hn, ?_, hd ▸ k1, k2, ha ▸ k3, k4, fun k hk hkn => by rw [hoth k hk hkn]; exact ⟨hadd _ _, hdone _ _⟩⟩
  show evK ⟨r, _, _⟩ = _
  unfold evK
  dsimp only
  rcases hst with ⟨a1, a2, a3, a4, a5⟩ | ⟨a1, a2, a3, a4⟩ | ⟨a1, a2, a3, a4, a5, a6, a7⟩ | ⟨a1, a2, a3, a4, a5, a6, a7⟩ | ⟨a1, a2, a3, a4, a5, a6, a7⟩
  · rw [if_neg (by omega)]; exact a2
  · rw [if_pos a1, a4]
  · rw [if_neg (by omega)]; exact a2
  · rw [if_neg (by omega)]; exact a2
  · rw [if_neg (by omega)]; exact a2

end Go.Proofs.YtllnjiljjodfdacGreatDoor

namespace Go.Proofs.YtllnjiljjodfdacGreatDoor
open Go.RowKit

/-! ### The records of the first bytes are the first records -/
theorem dec_same {n k : Nat} (hn : 9 ≤ n) (hk : 9 ≤ k) (f : Nat → Int) : dec n f = dec k f := by
  unfold dec
  rw [if_neg (show ¬ n < 9 by omega), if_neg (show ¬ k < 9 by omega)]
theorem allF_take : ∀ (fu fu' : Nat) (ep : Int) (n k : Nat) (f : Nat → Int), k ≤ n → n < fu * 9 → k < fu' * 9 → allF fu' ep k f = (allF fu ep n f).take (k / 9)
  | 0, _, _, _, _, _, _, h, _ => by omega
  | _ + 1, 0, _, _, _, _, _, _, h => by omega
  | fu + 1, fu' + 1, ep, n, k, f, hkn, hn, hk => by
    by_cases h9 : k < 9
    · have e : k / 9 = 0 := by omega
      rw [e, List.take_zero, allF, dec_few h9 f, if_pos (.inl (by decide))]
    · rw [allF, allF, dec_same (n := n) (k := k) (by omega) (by omega) f]
      split
      · simp
      · have e : k / 9 = (k - 9) / 9 + 1 := by omega
        rw [e, List.take_succ_cons, allF_take fu fu' (dec k f).1.ep (n - 9) (k - 9) (fun i => f (i + 9)) (by omega) (by omega) (by omega)]
theorem allR_take (n k : Nat) (f : Nat → Int) (h : k ≤ n) : allR k f = (allR n f).take (k / 9) := allF_take (n + 1) (k + 1) 0 n k f h (by omega) (by omega)
theorem allF_few : ∀ (fu : Nat) (ep : Int) (n : Nat) (f : Nat → Int), 9 * (allF fu ep n f).length ≤ n
  | 0, _, _, _ => by simp [allF]
  | fu + 1, ep, n, f => by
    rw [allF]
    split
    · simp
    · rename_i hc
      have h9 : (dec n f).2 = 0 := by
        by_cases h : (dec n f).2 = 0
        · exact h
        · exact absurd (.inl h) hc
      have := (dec_ok h9).1
      have ih := allF_few fu (dec n f).1.ep (n - 9) (fun i => f (i + 9))
      simp only [List.length_cons]
      omega
theorem allR_few (n : Nat) (f : Nat → Int) : 9 * (allR n f).length ≤ n := allF_few _ _ _ _
theorem evs_take (rs : List Rc) (k : Nat) : evs (rs.take k) = (evs rs).take k := by
  have h : ∀ (T : Tb) (rs : List Rc) (k : Nat), evsF T (rs.take k) = (evsF T rs).take k := by
    intro T rs
    induction rs generalizing T with
    | nil => intro k; simp [evsF]
    | cons r rs ih =>
      intro k
      cases k with
      | zero => simp [evsF]
      | succ k => rw [List.take_succ_cons]; show evOf T r :: evsF _ _ = (evOf T r :: evsF _ _).take (k + 1); rw [ih, List.take_succ_cons]
  exact h T0 rs k

/-! ### Rows of things of one size -/
theorem flat_len {α : Type} (lst : α → List Value) (sz : Nat) (hs : ∀ a, (lst a).length = sz) (l : List α) : (l.flatMap lst).length = l.length * sz := by
  induction l with
  | nil => simp
  | cons a l ih => rw [List.flatMap_cons, List.length_append, ih, hs, List.length_cons, Nat.add_mul, Nat.one_mul, Nat.add_comm]
theorem flat_at {α : Type} (lst : α → List Value) (sz : Nat) (hs : ∀ a, (lst a).length = sz) : ∀ (l : List α) (i j : Nat) (a : α), l[i]? = some a → j < sz → (l.flatMap lst)[i * sz + j]? = (lst a)[j]?
  | [], _, _, _, h, _ => by simp at h
  | b :: l, 0, j, a, h, hj => by
    simp at h
    subst h
    rw [List.flatMap_cons, Nat.zero_mul, Nat.zero_add, List.getElem?_append_left (by rw [hs]; exact hj)]
  | b :: l, i + 1, j, a, h, hj => by
    have ih := flat_at lst sz hs l i j a (by simpa using h) hj
    rw [List.flatMap_cons, List.getElem?_append_right (by rw [hs, Nat.add_mul]; omega), hs]
    have e : (i + 1) * sz + j - sz = i * sz + j := by rw [Nat.add_mul]; omega
    rw [e]
    exact ih
theorem own_cells {α : Type} (lst : α → List Value) (sz : Nat) (hs : ∀ a, (lst a).length = sz) {w : World} {base : Nat} {e : TypeId} {v : Value} {l : List α} {n : Nat} (h : w.ownsRow base e sz v n (l.flatMap lst)) (hn : n = l.length) :
    ∃ a c, v = .slice a n c ∧ n ≤ c ∧ (n = 0 ∨ ∃ g, a = some ⟨g, 0, none⟩ ∧ base ≤ g ∧ g < w.heap.size ∧ ∀ i x, l[i]? = some x → ∀ j u, (lst x)[j]? = some u → w.cell? ⟨g, i * sz + j, none⟩ = some u) := by
  by_cases h0 : n = 0
  · obtain ⟨_, ⟨rfl, _⟩ | ⟨g, c, cur, rfl, _, _, hc, _⟩⟩ := h
    · exact ⟨none, 0, by rw [h0], by omega, .inl h0⟩
    · exact ⟨_, c, rfl, hc, .inl h0⟩
  · obtain ⟨g, c, rfl, hc, hb, hg⟩ := own_shape h (by omega)
    refine ⟨_, c, rfl, hc, .inr ⟨g, rfl, hb, hg, fun i x hx j u hu => ?_⟩⟩
    have hj : j < sz := by rw [← hs x]; exact (List.getElem?_eq_some_iff.1 hu).1
    have h1 := flat_at lst sz hs l i j x hx hj
    rw [hu] at h1
    have := h.cells (g := g) rfl _ _ h1
    have e2 : ((⟨g, 0, none⟩ : Addr).add (i * sz + j)) = ⟨g, i * sz + j, none⟩ := by unfold Addr.add; split <;> simp_all
    rw [e2] at this
    exact this

/-! ### Events -/
def Ev.list (e : Ev) : List Value := [.int .i64 e.r.ep, .int .i64 e.r.o.k, .int .i64 e.r.o.now, .int .i64 e.r.o.jb, .int .i64 e.r.o.tr, .int .i64 e.r.o.wk, .int .i64 e.r.o.tm, .int .i64 e.a.code, .int .i64 e.a.jb, .int .i64 e.a.tr, .int .i64 e.j.st, .int .i64 e.j.wk, .int .i64 e.j.tr, .int .i64 e.j.un]
def Ev.cells (e : Ev) : Array Value := #[.int .i64 e.r.ep, .int .i64 e.r.o.k, .int .i64 e.r.o.now, .int .i64 e.r.o.jb, .int .i64 e.r.o.tr, .int .i64 e.r.o.wk, .int .i64 e.r.o.tm, .int .i64 e.a.code, .int .i64 e.a.jb, .int .i64 e.a.tr, .int .i64 e.j.st, .int .i64 e.j.wk, .int .i64 e.j.tr, .int .i64 e.j.un]
def cellsE (l : List Ev) : List Value := l.flatMap Ev.list
theorem cellsE_snoc (l : List Ev) (e : Ev) : cellsE (l ++ [e]) = cellsE l ++ e.list := by simp [cellsE]
def ev0 : Ev := ⟨rc0, ⟨0, 0, 0⟩, ⟨0, 0, 0, 0⟩⟩
def atE (l : List Ev) (i : Nat) : Ev := l.getD i ev0
theorem atE_some {l : List Ev} {i : Nat} (h : i < l.length) : l[i]? = some (atE l i) := by simp [atE, List.getD, List.getElem?_eq_getElem h]
theorem atE_of {l : List Ev} {i : Nat} {e : Ev} (h : l[i]? = some e) : atE l i = e := by simp [atE, List.getD, h]
def EvAt (w : World) (bl off : Nat) (e : Ev) : Prop := ∀ j u, e.list[j]? = some u → w.cell? ⟨bl, off + j, none⟩ = some u
def Evs (w : World) (a : Option Addr) (n : Nat) (fs : Nat → Ev) : Prop :=
  n = 0 ∨ ∃ bl off, a = some ⟨bl, off, none⟩ ∧ bl < w.heap.size ∧ ∀ i, i < n → EvAt w bl (off + i * 14) (fs i)
theorem EvAt.all {w : World} {bl off : Nat} {e : Ev} (h : EvAt w bl off e) :
    w.cell? ⟨bl, off, none⟩ = some (.int .i64 e.r.ep) ∧ w.cell? ⟨bl, off + 1, none⟩ = some (.int .i64 e.r.o.k) ∧ w.cell? ⟨bl, off + 2, none⟩ = some (.int .i64 e.r.o.now) ∧ w.cell? ⟨bl, off + 3, none⟩ = some (.int .i64 e.r.o.jb) ∧
    w.cell? ⟨bl, off + 4, none⟩ = some (.int .i64 e.r.o.tr) ∧ w.cell? ⟨bl, off + 5, none⟩ = some (.int .i64 e.r.o.wk) ∧ w.cell? ⟨bl, off + 6, none⟩ = some (.int .i64 e.r.o.tm) ∧
    w.cell? ⟨bl, off + 7, none⟩ = some (.int .i64 e.a.code) ∧ w.cell? ⟨bl, off + 8, none⟩ = some (.int .i64 e.a.jb) ∧ w.cell? ⟨bl, off + 9, none⟩ = some (.int .i64 e.a.tr) ∧
    w.cell? ⟨bl, off + 10, none⟩ = some (.int .i64 e.j.st) ∧ w.cell? ⟨bl, off + 11, none⟩ = some (.int .i64 e.j.wk) ∧ w.cell? ⟨bl, off + 12, none⟩ = some (.int .i64 e.j.tr) ∧ w.cell? ⟨bl, off + 13, none⟩ = some (.int .i64 e.j.un) :=
  ⟨h 0 _ rfl, h 1 _ rfl, h 2 _ rfl, h 3 _ rfl, h 4 _ rfl, h 5 _ rfl, h 6 _ rfl, h 7 _ rfl, h 8 _ rfl, h 9 _ rfl, h 10 _ rfl, h 11 _ rfl, h 12 _ rfl, h 13 _ rfl⟩
theorem EvAt.chg {w w' : World} {bl off : Nat} {e : Ev} (h : EvAt w bl off e) {bs : List Nat} (k : Chg bs w w') (hl : bl < w.heap.size) (hb : bl ∉ bs) : EvAt w' bl off e := fun j u hu => by
  rw [k.cell' hl hb]; exact h j u hu
theorem Evs.chg {w w' : World} {a : Option Addr} {n : Nat} {fs : Nat → Ev} (h : Evs w a n fs) (k : Chg [] w w') : Evs w' a n fs := by
  rcases h with h | ⟨bl, off, e, hb, hc⟩
  · exact .inl h
  · exact .inr ⟨bl, off, e, Nat.lt_of_lt_of_le hb k.size, fun i hi => (hc i hi).chg k hb (by simp)⟩
theorem own_evs {w : World} {base : Nat} {e : TypeId} {v : Value} {l : List Ev} {n : Nat} (h : w.ownsRow base e 14 v n (cellsE l)) (hn : n = l.length) : ∃ a c, v = .slice a n c ∧ n ≤ c ∧ Evs w a n (atE l) := by
  obtain ⟨a, c, e1, hc, h0⟩ := own_cells Ev.list 14 (fun _ => rfl) h hn
  refine ⟨a, c, e1, hc, ?_⟩
  rcases h0 with h0 | ⟨g, rfl, hb, hg, hcell⟩
  · exact .inl h0
  · refine .inr ⟨g, 0, rfl, hg, fun i hi j u hu => ?_⟩
    rw [Nat.zero_add]
    exact hcell i _ (atE_some (by omega)) j u hu
theorem Blk.ev {w : World} {b : Nat} {e : Ev} {t : TypeId} (h : Blk w b e.cells t) : EvAt w b 0 e := fun j u hu => by
  rw [Nat.zero_add, h.cell, ← hu]
  show (e.list.toArray)[j]? = _
  rw [List.getElem?_toArray]

/-! ### Pairs of a worker and a try -/
def pairV (p : Int × Int) : List Value := [.int .i64 p.1, .int .i64 p.2]
def cellsP (l : List (Int × Int)) : List Value := l.flatMap pairV
theorem cellsP_snoc (l : List (Int × Int)) (p : Int × Int) : cellsP (l ++ [p]) = cellsP l ++ pairV p := by simp [cellsP]
theorem cellsP_len (l : List (Int × Int)) : (cellsP l).length = l.length * 2 := flat_len pairV 2 (fun _ => rfl) l
def Prs (w : World) (a : Option Addr) (n : Nat) (l : List (Int × Int)) : Prop :=
  n = 0 ∨ ∃ g, a = some ⟨g, 0, none⟩ ∧ g < w.heap.size ∧ ∀ i p, l[i]? = some p → w.cell? ⟨g, i * 2, none⟩ = some (.int .i64 p.1) ∧ w.cell? ⟨g, i * 2 + 1, none⟩ = some (.int .i64 p.2)
theorem own_prs {w : World} {base : Nat} {e : TypeId} {v : Value} {l : List (Int × Int)} {n : Nat} (h : w.ownsRow base e 2 v n (cellsP l)) (hn : n = l.length) : ∃ a c, v = .slice a n c ∧ n ≤ c ∧ Prs w a n l := by
  obtain ⟨a, c, e1, hc, h0⟩ := own_cells pairV 2 (fun _ => rfl) h hn
  refine ⟨a, c, e1, hc, ?_⟩
  rcases h0 with h0 | ⟨g, rfl, hb, hg, hcell⟩
  · exact .inl h0
  · exact .inr ⟨g, rfl, hg, fun i p hp => ⟨hcell i p hp 0 _ rfl, hcell i p hp 1 _ rfl⟩⟩
theorem Prs.chg {w w' : World} {a : Option Addr} {n : Nat} {l : List (Int × Int)} (h : Prs w a n l) (k : Chg [] w w') : Prs w' a n l := by
  rcases h with h | ⟨g, e, hb, hc⟩
  · exact .inl h
  · exact .inr ⟨g, e, Nat.lt_of_lt_of_le hb k.size, fun i p hp => by rw [k.cell' hb (by simp), k.cell' hb (by simp)]; exact hc i p hp⟩
theorem holdL_take (l : List Ev) (job : Int) {k : Nat} (hk : k < l.length) : holdL (l.take (k + 1)) job = holdL (l.take k) job ++ (holdE job (atE l k)).toList := by
  rw [List.take_succ_eq_append_getElem hk, holdL_snoc]
  congr 3
  simp [atE, List.getD, List.getElem?_eq_getElem hk]
theorem holdL_len (l : List Ev) (job : Int) : (holdL l job).length ≤ l.length := List.length_filterMap_le _ _
theorem evs_snoc_take (rs : List Rc) {k : Nat} (hk : k < rs.length) : evs (rs.take (k + 1)) = evs (rs.take k) ++ [evOf (behindT (rs.take k)) (atR rs k)] := by
  have e : rs.take (k + 1) = rs.take k ++ [atR rs k] := by
    rw [List.take_succ_eq_append_getElem hk]
    simp [atR, List.getD, List.getElem?_eq_getElem hk]
  rw [e, evs_snoc]

end Go.Proofs.YtllnjiljjodfdacGreatDoor

namespace Go.Proofs.YtllnjiljjodfdacGreatDoor
open Go.RowKit

def jbV (j : Jb) : Value := .agg #[.int .i64 j.st, .int .i64 j.wk, .int .i64 j.tr, .int .i64 j.un]
theorem jobInfoS : (Tryz.prog.info? 99).map (·.size) = some 4 := by kernel_rfl
theorem load_jobS {w : World} {b : Nat} {ty' : TypeId} {x y z u : Value} (h : Blk w b #[x, y, z, u] ty') : (loadVar 99 ⟨b, 0, none⟩).run Tryz.prog w = .ok (.agg #[x, y, z, u]) w := by
  have hc : w.rangeAt b 0 [x, y, z, u] := fun j v hv => by rw [Nat.zero_add, h.cell]; simpa using hv
  exact run_loadVar_mid (P := Tryz.prog) w b 0 99 [x, y, z, u] _ hc Tryz.underlying99 rfl (by rw [jobInfoS]; rfl)
theorem ret_job {fn : Func} {q : Tmp} (h : fn.results = #[.cell q 99]) {tmps : Array Value} {w : World} {c : Nat}
    (hq : tmps.getD q undef = .pointer (some ⟨c, 0, none⟩)) {ty'' : TypeId} {x y z u : Value} (hA : Blk w c #[x, y, z, u] ty'') :
    (results fn tmps).run Tryz.prog w = .ok (.agg #[x, y, z, u]) w := by
  have ha := load_jobS hA
  have hq' : tmps[q]?.getD undef = .pointer (some ⟨c, 0, none⟩) := by simpa using hq
  simp only [results, h]
  simp [hq', asAddr, ha]
theorem Blk.fourF {w : World} {b : Nat} {v0 v1 v2 v3 : Value} {t : TypeId} (h : Blk w b #[v0, v1, v2, v3] t) :
    w.frozen? ⟨b, 0, none⟩ = false ∧ w.frozen? ⟨b, 1, none⟩ = false ∧ w.frozen? ⟨b, 2, none⟩ = false ∧ w.frozen? ⟨b, 3, none⟩ = false :=
  ⟨h.fz 0, h.fz 1, h.fz 2, h.fz 3⟩
theorem Blk.set4 {w : World} {b : Nat} {v0 v1 v2 v3 : Value} {t : TypeId} (h : Blk w b #[v0, v1, v2, v3] t) (x y z u : Value) :
    Blk ((((w.setCell ⟨b, 0, none⟩ x).setCell ⟨b, 1, none⟩ y).setCell ⟨b, 2, none⟩ z).setCell ⟨b, 3, none⟩ u) b #[x, y, z, u] t := (((h.set 0 x).set 1 y).set 2 z).set 3 u
theorem Chg.set4 {bs : List Nat} {a w : World} (h : Chg bs a w) {b : Nat} (hb : b ∈ bs ∨ a.heap.size ≤ b) (x y z u : Value) :
    Chg bs a ((((w.setCell ⟨b, 0, none⟩ x).setCell ⟨b, 1, none⟩ y).setCell ⟨b, 2, none⟩ z).setCell ⟨b, 3, none⟩ u) := (((h.setCell (p := ⟨b, 0, none⟩) hb x).setCell (p := ⟨b, 1, none⟩) hb y).setCell (p := ⟨b, 2, none⟩) hb z).setCell (p := ⟨b, 3, none⟩) hb u

set_option maxRecDepth 100000 in
set_option maxHeartbeats 2000000 in
theorem jobb_any (b : Nat) (o : Od) (a : An) (T : Tb) (w : World) (h : Has 151 w b T) :
    Calls Tryz.prog 79 #[.pointer (some ⟨b, 0, none⟩), odV o, ansV a] w fun e w' => e = .returned (jbV (evJ T o a)) ∧ Chg [] w w' := by
  have lb := h.lt
  have G0 : Chg [] w (((w.alloc (.cells #[.int .i64 o.k, .int .i64 o.now, .int .i64 o.jb, .int .i64 o.tr, .int .i64 o.wk, .int .i64 o.tm] 83)).alloc (.cells #[.int .i64 a.code, .int .i64 a.jb, .int .i64 a.tr] 95)).alloc (.cells #[.int .i64 0, .int .i64 0, .int .i64 0, .int .i64 0] 99)) := (((Chg.refl [] w).alloc _).alloc _).alloc _
  have B0 := Blk.new1 (w.alloc (.cells #[.int .i64 o.k, .int .i64 o.now, .int .i64 o.jb, .int .i64 o.tr, .int .i64 o.wk, .int .i64 o.tm] 83)) (.cells #[.int .i64 a.code, .int .i64 a.jb, .int .i64 a.tr] 95) #[.int .i64 0, .int .i64 0, .int .i64 0, .int .i64 0] 99
  rw [World.size_alloc] at B0
  have H0 := hide (h.chg G0 (by simp))
  have HB0 := hide B0
  have HG0 := hide G0
  clear h B0 G0
  unfold odV ansV
  by_cases hc : a.code = 0
  · have c0 : (a.code == 0) = true := by simpa using hc
    by_cases hk : o.k = 2
    · have k0 : (o.k == 2) = true := by simpa using hk
      have HE := hide (show evJ T o a = jobA T a.jb by unfold evJ; rw [if_pos hc, if_pos hk])
      clear hc hk
      go_enter Tryz.func79, Tryz.ntmps79
      go_wp2_with (go_at_call 56; refine (job_all b _ T _ (unhide H0)).mono ?_; rintro e w2 ⟨rfl, g2⟩; have B2 := (unhide HB0).chg g2 (by simp); have l2 := B2.lt; obtain ⟨f0, f1, f2, f3⟩ := B2.fourF; obtain ⟨r0, r1, r2, r3⟩ := B2.four; have HB2 := hide B2; have HG2 := hide ((unhide HG0).trans g2 (by simp)); clear B2 g2)
      rw [unhide HE]
      refine bodyPost_ret (ret_job rfl rfl ((unhide HB2).set4 _ _ _ _)) rfl ⟨rfl, (unhide HG2).set4 (.inr (by omega)) _ _ _ _⟩
    · have k0 : (o.k == 2) = false := by simpa using hk
      have HE := hide (show evJ T o a = jobA T o.jb by unfold evJ; rw [if_pos hc, if_neg hk])
      clear hc hk
      go_enter Tryz.func79, Tryz.ntmps79
      go_wp2_with (go_at_call 56; refine (job_all b _ T _ (unhide H0)).mono ?_; rintro e w2 ⟨rfl, g2⟩; have B2 := (unhide HB0).chg g2 (by simp); have l2 := B2.lt; obtain ⟨f0, f1, f2, f3⟩ := B2.fourF; obtain ⟨r0, r1, r2, r3⟩ := B2.four; have HB2 := hide B2; have HG2 := hide ((unhide HG0).trans g2 (by simp)); clear B2 g2)
      rw [unhide HE]
      refine bodyPost_ret (ret_job rfl rfl ((unhide HB2).set4 _ _ _ _)) rfl ⟨rfl, (unhide HG2).set4 (.inr (by omega)) _ _ _ _⟩
  · have c0 : (a.code == 0) = false := by simpa using hc
    have HE := hide (show evJ T o a = ⟨0, 0, 0, 0⟩ by unfold evJ; rw [if_neg hc])
    clear hc
    go_enter Tryz.func79, Tryz.ntmps79
    go_wp2
    rw [unhide HE]
    refine bodyPost_ret (ret_job rfl rfl (unhide HB0)) rfl ⟨rfl, unhide HG0⟩

def evV (e : Ev) : Value := .agg e.cells
def gaveB (e : Ev) (job : Int) : Bool := e.r.o.k == 2 && e.a.code == 0 && e.a.jb == job
theorem gave_yes {e : Ev} {job : Int} (h : gaveB e job = true) : holdE job e = some (e.r.o.wk, e.a.tr) := by
  unfold gaveB at h
  simp at h
  unfold holdE
  rw [if_pos ⟨h.1.1, h.1.2, h.2⟩]
theorem gave_no {e : Ev} {job : Int} (h : gaveB e job = false) : holdE job e = none := by
  unfold holdE
  rw [if_neg]
  rintro ⟨h1, h2, h3⟩
  unfold gaveB at h
  simp [h1, h2, h3] at h

set_option maxRecDepth 100000 in
set_option maxHeartbeats 2000000 in
theorem gave_any (e : Ev) (job : Int) (w : World) :
    Calls Tryz.prog 81 #[evV e, .int .i64 job] w fun x w' => x = .returned (.bool (gaveB e job)) ∧ Chg [] w w' := by
  unfold evV Ev.cells gaveB
  cases h1 : (e.r.o.k == 2)
  · go_enter Tryz.func81, Tryz.ntmps81
    go_wp2
    go_ret
    exact ⟨rfl, (Chg.refl _ _).alloc _⟩
  · cases h2 : (e.a.code == 0)
    · go_enter Tryz.func81, Tryz.ntmps81
      go_wp2
      go_ret
      exact ⟨rfl, (Chg.refl _ _).alloc _⟩
    · go_enter Tryz.func81, Tryz.ntmps81
      go_wp2
      go_ret
      exact ⟨rfl, (Chg.refl _ _).alloc _⟩

end Go.Proofs.YtllnjiljjodfdacGreatDoor

