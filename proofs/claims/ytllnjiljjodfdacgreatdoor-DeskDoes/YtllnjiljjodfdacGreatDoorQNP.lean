/-
 The records that bytes begin with, as lists; what stays of a disk that is opened anew; the table behind records. Plain mathematics. Nothing here is claimed by itself.
-/
import Derived.Test.YtllnjiljjodfdacGreatDoorQgC6a
import Derived.Test.YtllnjiljjodfdacGreatDoorQgBase
namespace Go.Proofs.YtllnjiljjodfdacGreatDoor
open Go.RowKit

def getB (l : List Int) : Nat → Int := fun i => l.getD i 0
def recsL (l : List Int) : List Rc := allR l.length (getB l)
def nineL (r : Rc) : List Int := [by9 r 0, by9 r 1, by9 r 2, by9 r 3, by9 r 4, by9 r 5, by9 r 6, by9 r 7, by9 r 8]
def bytesL (rs : List Rc) : List Int := rs.flatMap nineL
theorem nineL_len (r : Rc) : (nineL r).length = 9 := rfl
theorem nineL_at (r : Rc) {i : Nat} (hi : i < 9) : (nineL r)[i]? = some (by9 r i) := by
 obtain rfl | rfl | rfl | rfl | rfl | rfl | rfl | rfl | rfl : i = 0 ∨ i = 1 ∨ i = 2 ∨ i = 3 ∨ i = 4 ∨ i = 5 ∨ i = 6 ∨ i = 7 ∨ i = 8 := by omega
 all_goals rfl
theorem bytesL_nil : bytesL [] = [] := rfl
theorem bytesL_cons (r : Rc) (rs : List Rc) : bytesL (r :: rs) = nineL r ++ bytesL rs := rfl
theorem bytesL_app (a b : List Rc) : bytesL (a ++ b) = bytesL a ++ bytesL b := by simp [bytesL]
theorem bytesL_len : ∀ rs : List Rc, (bytesL rs).length = 9 * rs.length
 | [] => rfl
 | r :: rs => by rw [bytesL_cons, List.length_append, nineL_len, bytesL_len rs, List.length_cons]; omega
theorem bytesL_at : ∀ (rs : List Rc) (i : Nat), i < 9 * rs.length → (bytesL rs)[i]? = some (byF rs i)
 | [], i, h => by simp at h
 | r :: rs, i, h => by
  rw [bytesL_cons]
  by_cases h9 : i < 9
  ·rw [List.getElem?_append_left (by rw [nineL_len]; exact h9), nineL_at r h9]
   have e1 : i / 9 = 0 := by omega
   have e2 : i % 9 = i := by omega
   unfold byF
   rw [e1, e2]
   rfl
  ·rw [List.getElem?_append_right (by rw [nineL_len]; omega), nineL_len, bytesL_at rs (i - 9) (by simp at h; omega)]
   have e1 : i / 9 = (i - 9) / 9 + 1 := by omega
   have e2 : i % 9 = (i - 9) % 9 := by omega
   unfold byF
   rw [e1, e2]
   rfl
theorem bytesL_take (rs : List Rc) (k : Nat) : (bytesL rs).take (9 * k) = bytesL (rs.take k) := by
 induction rs generalizing k with
 | nil => simp [bytesL_nil]
 | cons r rs ih =>
  cases k with
  | zero => simp [bytesL_nil]
  | succ k =>
   rw [bytesL_cons, List.take_succ_cons, bytesL_cons, List.take_append]
   have e : 9 * (k + 1) - (nineL r).length = 9 * k := by rw [nineL_len]; omega
   rw [e, ih, List.take_of_length_le (by rw [nineL_len]; omega)]
theorem nineL_ok {r : Rc} (h : ckR r = 0) : okB (nineL r) := fun x hx => by
 obtain ⟨i, hi⟩ := List.getElem?_of_mem hx
 have h9 : i < 9 := by
  rcases Nat.lt_or_ge i 9 with h1 | h1
  ·exact h1
  ·rw [List.getElem?_eq_none (by rw [nineL_len]; omega)] at hi
   cases hi
 rw [nineL_at r h9] at hi
 cases hi
 exact by9_bd h i
theorem getB_at {l : List Int} {i : Nat} {x : Int} (h : l[i]? = some x) : getB l i = x := by simp [getB, List.getD, h]
theorem getB_ok {l : List Int} (h : okB l) : ∀ i, i < l.length → 0 ≤ getB l i ∧ getB l i < 256 := fun i hi => by
 rw [getB_at (List.getElem?_eq_getElem hi)]
 exact h _ (List.getElem_mem hi)
theorem allF_back : ∀ (fu : Nat) (ep : Int) (n : Nat) (f : Nat → Int), (∀ i, i < n → 0 ≤ f i ∧ f i < 256) → goodF ep (allF fu ep n f) ∧ 9 * (allF fu ep n f).length ≤ n ∧ ∀ i, i < 9 * (allF fu ep n f).length → f i = byF (allF fu ep n f) i
 | 0, _, _, _, _ => ⟨trivial, by simp [allF], fun i hi => by simp [allF] at hi⟩
 | fu + 1, ep, n, f, hf => by
  rw [allF]
  split
  ·exact ⟨trivial, by simp, fun i hi => by simp at hi⟩
  ·rename_i hc
   have h0 : (dec n f).2 = 0 := by
    by_cases h : (dec n f).2 = 0
    ·exact h
    ·exact absurd (.inl h) hc
   have hep : ep ≤ (dec n f).1.ep := by
    by_cases h : (dec n f).1.ep < ep
    ·exact absurd (.inr h) hc
    ·omega
   obtain ⟨h9, h8, hck, hd⟩ := dec_ok h0
   have e1 : (dec n f).1 = rdR f := by rw [hd]
   rw [e1] at hep ⊢
   obtain ⟨i1, i2, i3⟩ := allF_back fu (rdR f).ep (n - 9) (fun i => f (i + 9)) (fun i hi => hf (i + 9) (by omega))
   refine ⟨⟨hck, hep, i1⟩, by simp only [List.length_cons]; omega, fun i hi => ?_⟩
   by_cases hi9 : i < 9
   ·have := by_rd (fun j hj => hf j (by omega)) h8 i hi9
    unfold byF
    have e2 : i / 9 = 0 := by omega
    have e3 : i % 9 = i := by omega
    rw [e2, e3]
    exact this.symm
   ·have := i3 (i - 9) (by simp only [List.length_cons] at hi; omega)
    rw [show i - 9 + 9 = i by omega] at this
    rw [this]
    unfold byF
    have e2 : i / 9 = (i - 9) / 9 + 1 := by omega
    have e3 : i % 9 = (i - 9) % 9 := by omega
    rw [e2, e3]
    rfl
theorem recsL_back {l : List Int} (h : okB l) : goodF 0 (recsL l) ∧ 9 * (recsL l).length ≤ l.length ∧ l.take (9 * (recsL l).length) = bytesL (recsL l) := by
 obtain ⟨h1, h2, h3⟩ := allF_back (l.length + 1) 0 l.length (getB l) (getB_ok h)
 refine ⟨h1, h2, ?_⟩
 apply List.ext_getElem?
 intro i
 by_cases hi : i < 9 * (recsL l).length
 ·rw [List.getElem?_take_of_lt hi, bytesL_at _ i hi]
  have hl : i < l.length := by have : 9 * (recsL l).length ≤ l.length := h2; omega
  rw [List.getElem?_eq_getElem hl]
  have e := h3 i hi
  rw [getB_at (List.getElem?_eq_getElem hl)] at e
  exact congrArg some e
 ·rw [List.getElem?_eq_none (by rw [List.length_take]; omega), List.getElem?_eq_none (by rw [bytesL_len]; omega)]
theorem allF_part : ∀ (rs : List Rc) (ep : Int) (fu m : Nat) (F : Nat → Int), goodF ep rs → m < 9 → rs.length < fu → (∀ i, i < 9 * rs.length → F i = byF rs i) → allF fu ep (9 * rs.length + m) F = rs
 | rs, ep, 0, m, F, _, _, h, _ => by omega
 | [], ep, fu + 1, m, F, _, hm, _, _ => by
  rw [allF, dec_few (by simpa using hm), if_pos (.inl (by decide))]
 | r :: t, ep, fu + 1, m, F, ⟨h1, h2, h3⟩, hm, hf, hF => by
  have hd : dec (9 * (r :: t).length + m) F = (r, 0) := dec_by h1 (by simp only [List.length_cons]; omega) (fun i hi => by
   rw [hF i (by simp only [List.length_cons]; omega)]
   unfold byF
   have e1 : i / 9 = 0 := by omega
   have e2 : i % 9 = i := by omega
   rw [e1, e2]
   rfl)
  have ih := allF_part t r.ep fu m (fun i => F (i + 9)) h3 hm (by simp only [List.length_cons] at hf; omega) (fun i hi => by
   show F (i + 9) = _
   rw [hF (i + 9) (by simp only [List.length_cons]; omega)]
   unfold byF
   have e1 : (i + 9) / 9 = i / 9 + 1 := by omega
   have e2 : (i + 9) % 9 = i % 9 := by omega
   rw [e1, e2]
   rfl)
  rw [allF, hd, if_neg (by simp; omega)]
  simp only
  have e : 9 * (r :: t).length + m - 9 = 9 * t.length + m := by simp only [List.length_cons]; omega
  rw [e, ih]
theorem recsL_part {rs : List Rc} {t : List Int} (h : goodF 0 rs) (ht : t.length < 9) : recsL (bytesL rs ++ t) = rs := by
 unfold recsL allR
 have e : (bytesL rs ++ t).length = 9 * rs.length + t.length := by rw [List.length_append, bytesL_len]
 rw [e]
 refine allF_part rs 0 _ t.length _ h ht (by omega) (fun i hi => ?_)
 refine getB_at ?_
 rw [List.getElem?_append_left (by rw [bytesL_len]; exact hi)]
 exact bytesL_at rs i hi
theorem recsL_bytes {rs : List Rc} (h : goodF 0 rs) : recsL (bytesL rs) = rs := by
 have := recsL_part (t := []) h (by decide)
 simpa using this
theorem goodF_take : ∀ {rs : List Rc} {ep : Int} (k : Nat), goodF ep rs → goodF ep (rs.take k)
 | [], _, _, _ => by simp [goodF]
 | _ :: _, _, 0, _ => trivial
 | _ :: _, _, k + 1, ⟨h1, h2, h3⟩ => ⟨h1, h2, goodF_take k h3⟩
def untilR (rs : List Rc) (e : Int) : List Rc := rs.takeWhile (fun r => decide (r.ep ≤ e))
theorem untilR_pre (rs : List Rc) (e : Int) : untilR rs e = rs.take (untilR rs e).length := by
 induction rs with
 | nil => rfl
 | cons r rs ih =>
  unfold untilR
  rw [List.takeWhile_cons]
  split
  ·rw [List.length_cons, List.take_succ_cons]
   exact congrArg _ ih
  ·rfl
theorem untilR_all {rs : List Rc} {e : Int} (h : ∀ r ∈ rs, r.ep ≤ e) : untilR rs e = rs := by
 induction rs with
 | nil => rfl
 | cons r rs ih =>
  unfold untilR
  rw [List.takeWhile_cons, if_pos (by simpa using h r (by simp))]
  exact congrArg _ (ih fun q hq => h q (by simp [hq]))
theorem untilR_le {rs : List Rc} {e : Int} : ∀ r ∈ untilR rs e, r.ep ≤ e := by
 induction rs with
 | nil => intro r hr; simp [untilR] at hr
 | cons q rs ih =>
  intro r hr
  unfold untilR at hr
  rw [List.takeWhile_cons] at hr
  split at hr
  ·rename_i hq
   rcases List.mem_cons.1 hr with rfl | hr
   ·simpa using hq
   ·exact ih r hr
  ·simp at hr
theorem untilR_len (rs : List Rc) (e : Int) : (untilR rs e).length ≤ rs.length := by
 rw [untilR_pre]
 rw [List.length_take]
 omega
def behindT (rs : List Rc) : Tb := rs.foldl (fun T r => (doT T r.o).1) T0
theorem behindT_snoc (rs : List Rc) (r : Rc) : behindT (rs ++ [r]) = (doT (behindT rs) r.o).1 := by simp [behindT]
theorem behindT_inv (rs : List Rc) : Inv (behindT rs) := by
 unfold behindT
 have : ∀ (rs : List Rc) (T : Tb), Inv T → Inv (rs.foldl (fun T r => (doT T r.o).1) T) := by
  intro rs
  induction rs with
  | nil => exact fun T h => h
  | cons r rs ih => exact fun T h => ih _ (h.step r.o)
 exact this rs T0 inv_T0
def keptL (l : List Int) (ep : Int) : List Rc := untilR (recsL l) ep
theorem keptL_good {l : List Int} (h : okB l) (ep : Int) : goodF 0 (keptL l ep) := by
 unfold keptL
 rw [untilR_pre]
 exact goodF_take _ (recsL_back h).1
theorem keptL_bytes {l : List Int} (h : okB l) (ep : Int) : l.take (9 * (keptL l ep).length) = bytesL (keptL l ep) ∧ 9 * (keptL l ep).length ≤ l.length := by
 obtain ⟨_, h2, h3⟩ := recsL_back h
 have h4 := untilR_len (recsL l) ep
 have h5 : (keptL l ep).length ≤ (recsL l).length := h4
 refine ⟨?_, by omega⟩
 have e : l.take (9 * (keptL l ep).length) = (l.take (9 * (recsL l).length)).take (9 * (keptL l ep).length) := by
  rw [List.take_take, Nat.min_eq_left (by omega)]
 rw [e, h3, bytesL_take]
 exact congrArg bytesL (untilR_pre (recsL l) ep).symm
theorem lastE_snoc (rs : List Rc) (ep : Int) (r : Rc) : lastE ep (rs ++ [r]) = r.ep := by
 induction rs generalizing ep with
 | nil => rfl
 | cons q rs ih => exact ih q.ep
theorem lastE_le : ∀ {rs : List Rc} {ep e : Int}, ep ≤ e → (∀ r ∈ rs, r.ep ≤ e) → lastE ep rs ≤ e
 | [], _, _, h, _ => h
 | r :: rs, _, _, _, h => lastE_le (rs := rs) (ep := r.ep) (h r (by simp)) (fun q hq => h q (by simp [hq]))
end Go.Proofs.YtllnjiljjodfdacGreatDoor
