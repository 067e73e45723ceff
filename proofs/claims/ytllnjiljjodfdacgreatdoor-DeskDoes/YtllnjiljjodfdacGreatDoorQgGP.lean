/-
 Plain mathematics of a guild: what a step does; what holds of a guild ever after. Nothing here is claimed by itself.
-/
import Derived.Test.YtllnjiljjodfdacGreatDoorQgN2
import Derived.Test.YtllnjiljjodfdacGreatDoorQgO4
namespace Go.Proofs.YtllnjiljjodfdacGreatDoor
open Go.RowKit

structure Sp where
 k : Int
 n : Int
 keep : Int
 o : Od
structure Gd where
 now : Int
 d : Dk
 ns : Nat → Option Nd
def atO (o : Od) (now : Int) : Od := ⟨o.k, now, o.jb, o.tr, o.wk, o.tm⟩
def upG (ns : Nat → Option Nd) (i : Nat) (n : Nd) : Nat → Option Nd := fun j => if j = i then some n else ns j
theorem upG_same (ns : Nat → Option Nd) (i : Nat) (n : Nd) : upG ns i n i = some n := by simp [upG]
theorem upG_other (ns : Nat → Option Nd) {i j : Nat} (n : Nd) (h : j ≠ i) : upG ns i n j = ns j := by simp [upG, h]
def inN (n : Int) : Bool := decide (0 ≤ n) && decide (n < 3)
theorem inN_yes {n : Int} (h : inN n = true) : 0 ≤ n ∧ n < 3 := by simpa [inN] using h
theorem inN_no {n : Int} (h : inN n = false) : n < 0 ∨ 3 ≤ n := by
 unfold inN at h
 by_cases h0 : 0 ≤ n
 ·right; simp [h0] at h; exact h
 ·left; omega
def nodeG (s : Gd) (n : Int) : Option Nd := if inN n = true then s.ns n.toNat else none
def askG (s : Gd) (x : Sp) (i : Nat) (n : Nd) : Gd × An :=
 if x.k = 2 then (⟨s.now, wrD s.d n (atO x.o s.now) 9, upG s.ns i (ordN s.d n (atO x.o s.now))⟩, ordA s.d n (atO x.o s.now))
 else if x.k = 3 then (⟨s.now, wrD s.d n (atO x.o s.now) x.keep, upG s.ns i (tearN s.d n (atO x.o s.now) x.keep)⟩, ⟨wrC s.d n (atO x.o s.now) x.keep, 0, 0⟩)
 else (⟨s.now, s.d, upG s.ns i (stopN n)⟩, ⟨0, 0, 0⟩)
def openG (s : Gd) (n : Int) : Gd × Int :=
 if inN n = true then (if s.d.ep = 100 then (s, 8) else (⟨s.now, openD s.d, upG s.ns n.toNat (openN s.d)⟩, 0)) else (s, 3)
def tickG (s : Gd) (n : Int) : Gd × Int := if 0 ≤ n ∧ n ≤ 60000 - s.now then (⟨s.now + n, s.d, s.ns⟩, 0) else (s, 3)
def orderG (s : Gd) (x : Sp) : Gd × An := match nodeG s x.n with
 | none => (s, ⟨5, 0, 0⟩)
 | some n => askG s x x.n.toNat n
def stepG (s : Gd) (x : Sp) : Gd × An :=
 if x.k = 1 then ((openG s x.n).1, ⟨(openG s x.n).2, 0, 0⟩)
 else if x.k = 5 then ((tickG s x.n).1, ⟨(tickG s x.n).2, 0, 0⟩)
 else if x.k = 2 ∨ x.k = 3 ∨ x.k = 4 then orderG s x
 else (s, ⟨1, 0, 0⟩)
def G0 : Gd := ⟨0, ⟨0, []⟩, fun _ => none⟩
theorem nodeG_some {s : Gd} {n : Int} {y : Nd} (h : nodeG s n = some y) : ∃ i : Nat, i < 3 ∧ n = i ∧ n.toNat = i ∧ s.ns i = some y := by
 unfold nodeG at h
 split at h
 ·rename_i hn
  obtain ⟨h0, h1⟩ := inN_yes hn
  exact ⟨n.toNat, by omega, by omega, rfl, h⟩
 ·cases h
def accR (rs : List Rc) : Prop := ∀ pre r suf, rs = pre ++ r :: suf → (doT (behindT pre) r.o).2.code = 0
theorem accR_nil : accR [] := fun pre r suf h => by simp at h
theorem accR_snoc {rs : List Rc} {q : Rc} (h : accR rs) (hq : (doT (behindT rs) q.o).2.code = 0) : accR (rs ++ [q]) := fun pre r suf e => by
 rcases List.eq_nil_or_concat suf with rfl | ⟨suf', y, rfl⟩
 ·have e' : rs ++ [q] = pre ++ [r] := e
  obtain ⟨rfl, h2⟩ := List.append_inj' e' rfl
  cases h2
  exact hq
 ·have e' : rs ++ [q] = (pre ++ r :: suf') ++ [y] := by rw [e]; simp
  obtain ⟨h1, -⟩ := List.append_inj' e' rfl
  exact h pre r suf' h1
structure PlG (s : Gd) (rs : List Rc) (t : List Int) : Prop where
 n0 : 0 ≤ s.now
 n1 : s.now ≤ 60000
 e0 : 0 ≤ s.d.ep
 e1 : s.d.ep ≤ 100
 inv : ∀ i n, i < 3 → s.ns i = some n → Inv n.T
 le : ∀ i n, i < 3 → s.ns i = some n → 1 ≤ n.e ∧ n.e ≤ s.d.ep
 one : ∀ i j n m, i < 3 → j < 3 → s.ns i = some n → s.ns j = some m → n.e = s.d.ep → m.e = s.d.ep → i = j
 srv : ∀ i n, i < 3 → s.ns i = some n → n.e = s.d.ep → n.dn = false → t = [] ∧ n.T = behindT rs
 dl : s.d.l = bytesL rs ++ t
 good : goodF 0 rs
 rle : ∀ r ∈ rs, r.ep ≤ s.d.ep
 tl : t.length < 9
 acc : accR rs
theorem plG_0 : PlG G0 [] [] := ⟨by decide, by decide, by decide, by decide, (fun _ _ _ h => by cases h), (fun _ _ _ h => by cases h), (fun _ _ _ _ _ _ h => by cases h), (fun _ _ _ h => by cases h), rfl, trivial, by simp, by decide, accR_nil⟩
theorem PlG.recs {s : Gd} {rs : List Rc} {t : List Int} (h : PlG s rs t) : recsL s.d.l = rs := by rw [h.dl]; exact recsL_part h.good h.tl
theorem PlG.kept {s : Gd} {rs : List Rc} {t : List Int} (h : PlG s rs t) : keptL s.d.l s.d.ep = rs := by unfold keptL; rw [h.recs, untilR_all h.rle]
theorem PlG.len {s : Gd} {rs : List Rc} {t : List Int} (h : PlG s rs t) : s.d.l.length = 9 * rs.length + t.length := by rw [h.dl, List.length_append, bytesL_len]
section
variable {s : Gd} {rs : List Rc} {t : List Int}
theorem PlG.wrote (h : PlG s rs t) {i : Nat} (hi : i < 3) {n n' : Nd} (hn : s.ns i = some n) {o : Od} (hd : n.dn = false) (he : s.d.ep = n.e) (hc : (doT n.T o).2.code = 0) (hI : Inv n'.T) (hne : n'.e = n.e) (hT : n'.dn = false → n'.T = (doT n.T o).1) :
  t = [] ∧ n.T = behindT rs ∧ PlG ⟨s.now, ⟨s.d.ep, s.d.l ++ nineL ⟨s.d.ep, o⟩⟩, upG s.ns i n'⟩ (rs ++ [⟨s.d.ep, o⟩]) [] := by
 obtain ⟨rfl, hb⟩ := h.srv i n hi hn he.symm hd
 refine ⟨rfl, hb, ?_⟩
 have l1 := h.le i n hi hn
 have e1 := h.e1
 have hck : ckR ⟨s.d.ep, o⟩ = 0 := nine_ck (by omega) h.e1 hc
 refine ⟨h.n0, h.n1, h.e0, h.e1, fun j y hj hy => ?_, fun j y hj hy => ?_, fun a b y z ha hb hy hz h1 h2 => ?_, fun j y hj hy h1 h2 => ?_, ?_, goodF_snoc hck rs 0 h.good (lastE_le (e := s.d.ep) h.e0 h.rle), fun r hr => ?_, by decide, accR_snoc h.acc (by rw [← hb]; exact hc)⟩
 ·by_cases e : j = i
  ·subst e
   have hy' : upG s.ns j n' j = some y := hy
   rw [upG_same] at hy'
   cases hy'
   exact hI
  ·have hy' : upG s.ns i n' j = some y := hy
   rw [upG_other _ _ e] at hy'
   exact h.inv j y hj hy'
 ·show 1 ≤ y.e ∧ y.e ≤ s.d.ep
  by_cases e : j = i
  ·subst e
   have hy' : upG s.ns j n' j = some y := hy
   rw [upG_same] at hy'
   cases hy'
   rw [hne]
   exact l1
  ·have hy' : upG s.ns i n' j = some y := hy
   rw [upG_other _ _ e] at hy'
   exact h.le j y hj hy'
 ·have q : ∀ c y, c < 3 → upG s.ns i n' c = some y → y.e = s.d.ep → c = i := fun c y hc' hy' h' => by
   by_cases e : c = i
   ·exact e
   ·rw [upG_other _ _ e] at hy'
    exact h.one c i y n hc' hi hy' hn h' he.symm
  rw [q a y ha hy h1, q b z hb hz h2]
 ·by_cases e : j = i
  ·subst e
   have hy' : upG s.ns j n' j = some y := hy
   rw [upG_same] at hy'
   cases hy'
   refine ⟨rfl, ?_⟩
   rw [behindT_snoc, ← hb]
   exact hT h2
  ·have hy' : upG s.ns i n' j = some y := hy
   rw [upG_other _ _ e] at hy'
   exact absurd (h.one j i y n hj hi hy' hn h1 he.symm) e
 ·show s.d.l ++ nineL ⟨s.d.ep, o⟩ = bytesL (rs ++ [⟨s.d.ep, o⟩]) ++ []
  rw [h.dl, bytesL_app]
  simp [bytesL]
 ·rcases List.mem_append.1 hr with hr | hr
  ·exact h.rle r hr
  ·simp at hr
   subst hr
   exact Int.le_refl _
theorem PlG.tore (h : PlG s rs t) {i : Nat} (hi : i < 3) {n n' : Nd} (hn : s.ns i = some n) {p : List Int} (hp : p.length < 9) (hd : n.dn = false) (he : s.d.ep = n.e) (hI : Inv n'.T) (hne : n'.e = n.e) (hdn : n'.dn = true) :
  PlG ⟨s.now, ⟨s.d.ep, s.d.l ++ p⟩, upG s.ns i n'⟩ rs p := by
 obtain ⟨rfl, hb⟩ := h.srv i n hi hn he.symm hd
 have l1 := h.le i n hi hn
 refine ⟨h.n0, h.n1, h.e0, h.e1, fun j y hj hy => ?_, fun j y hj hy => ?_, fun a b y z ha hb hy hz h1 h2 => ?_, fun j y hj hy h1 h2 => ?_, ?_, h.good, h.rle, hp, h.acc⟩
 ·by_cases e : j = i
  ·subst e
   have hy' : upG s.ns j n' j = some y := hy
   rw [upG_same] at hy'
   cases hy'
   exact hI
  ·have hy' : upG s.ns i n' j = some y := hy
   rw [upG_other _ _ e] at hy'
   exact h.inv j y hj hy'
 ·show 1 ≤ y.e ∧ y.e ≤ s.d.ep
  by_cases e : j = i
  ·subst e
   have hy' : upG s.ns j n' j = some y := hy
   rw [upG_same] at hy'
   cases hy'
   rw [hne]
   exact l1
  ·have hy' : upG s.ns i n' j = some y := hy
   rw [upG_other _ _ e] at hy'
   exact h.le j y hj hy'
 ·have q : ∀ c y, c < 3 → upG s.ns i n' c = some y → y.e = s.d.ep → c = i := fun c y hc' hy' h' => by
   by_cases e : c = i
   ·exact e
   ·rw [upG_other _ _ e] at hy'
    exact h.one c i y n hc' hi hy' hn h' he.symm
  rw [q a y ha hy h1, q b z hb hz h2]
 ·by_cases e : j = i
  ·subst e
   have hy' : upG s.ns j n' j = some y := hy
   rw [upG_same] at hy'
   cases hy'
   rw [hdn] at h2
   cases h2
  ·have hy' : upG s.ns i n' j = some y := hy
   rw [upG_other _ _ e] at hy'
   exact absurd (h.one j i y n hj hi hy' hn h1 he.symm) e
 ·show s.d.l ++ p = bytesL rs ++ p
  rw [h.dl, List.append_nil]
theorem PlG.turned (h : PlG s rs t) {i : Nat} (hi : i < 3) {n n' : Nd} (hn : s.ns i = some n) (hT : n'.T = n.T) (hne : n'.e = n.e) (hdn : n'.dn = false → n.dn = false) :
  PlG ⟨s.now, s.d, upG s.ns i n'⟩ rs t := by
 have q : ∀ c y, upG s.ns i n' c = some y → ∃ z, s.ns c = some z ∧ z.T = y.T ∧ z.e = y.e ∧ (y.dn = false → z.dn = false) := fun c y hy' => by
  by_cases e : c = i
  ·subst e
   rw [upG_same] at hy'
   cases hy'
   exact ⟨n, hn, hT.symm, hne.symm, hdn⟩
  ·rw [upG_other _ _ e] at hy'
   exact ⟨y, hy', rfl, rfl, fun x => x⟩
 refine ⟨h.n0, h.n1, h.e0, h.e1, fun j y hj hy => ?_, fun j y hj hy => ?_, fun a b y z ha hb hy hz h1 h2 => ?_, fun j y hj hy h1 h2 => ?_, h.dl, h.good, h.rle, h.tl, h.acc⟩
 ·obtain ⟨z, hz, e1, e2, e3⟩ := q j y hy
  rw [← e1]; exact h.inv j z hj hz
 ·obtain ⟨z, hz, e1, e2, e3⟩ := q j y hy
  rw [← e2]; exact h.le j z hj hz
 ·obtain ⟨y', hy', -, e2, -⟩ := q a y hy
  obtain ⟨z', hz', -, e3, -⟩ := q b z hz
  exact h.one a b y' z' ha hb hy' hz' (e2.trans h1) (e3.trans h2)
 ·obtain ⟨z, hz, e1, e2, e3⟩ := q j y hy
  rw [← e1]
  exact h.srv j z hj hz (e2.trans h1) (e3 h2)
theorem PlG.opens (h : PlG s rs t) {i : Nat} (hlt : ¬ s.d.ep = 100) : PlG ⟨s.now, openD s.d, upG s.ns i (openN s.d)⟩ rs [] := by
 have h1 := h.e1
 have h0 := h.e0
 have hk := h.kept
 refine ⟨h.n0, h.n1, by show 0 ≤ s.d.ep + 1; omega, by show s.d.ep + 1 ≤ 100; omega, fun j y hj hy => ?_, fun j y hj hy => ?_, fun a b y z ha hb hy hz h1 h2 => ?_, fun j y hj hy h1 h2 => ?_, ?_, h.good, fun r hr => by show r.ep ≤ s.d.ep + 1; have := h.rle r hr; omega, by decide, h.acc⟩
 ·by_cases e : j = i
  ·subst e
   have hy' : upG s.ns j (openN s.d) j = some y := hy
   rw [upG_same] at hy'
   cases hy'
   exact behindT_inv _
  ·have hy' : upG s.ns i (openN s.d) j = some y := hy
   rw [upG_other _ _ e] at hy'
   exact h.inv j y hj hy'
 ·show 1 ≤ y.e ∧ y.e ≤ s.d.ep + 1
  by_cases e : j = i
  ·subst e
   have hy' : upG s.ns j (openN s.d) j = some y := hy
   rw [upG_same] at hy'
   cases hy'
   show 1 ≤ s.d.ep + 1 ∧ s.d.ep + 1 ≤ s.d.ep + 1
   omega
  ·have hy' : upG s.ns i (openN s.d) j = some y := hy
   rw [upG_other _ _ e] at hy'
   have := h.le j y hj hy'
   omega
 ·have q : ∀ c y, c < 3 → upG s.ns i (openN s.d) c = some y → y.e = s.d.ep + 1 → c = i := fun c y hc' hy' h' => by
   by_cases e : c = i
   ·exact e
   ·rw [upG_other _ _ e] at hy'
    have := h.le c y hc' hy'
    omega
  rw [q a y ha hy h1, q b z hb hz h2]
 ·have h1' : y.e = s.d.ep + 1 := h1
  by_cases e : j = i
  ·subst e
   have hy' : upG s.ns j (openN s.d) j = some y := hy
   rw [upG_same] at hy'
   cases hy'
   refine ⟨rfl, ?_⟩
   show behindT (keptL s.d.l s.d.ep) = _
   rw [hk]
  ·have hy' : upG s.ns i (openN s.d) j = some y := hy
   rw [upG_other _ _ e] at hy'
   have := h.le j y hj hy'
   omega
 ·show bytesL (keptL s.d.l s.d.ep) = _
  rw [hk, List.append_nil]
end
def Tells (s : Gd) (x : Sp) (rs : List Rc) (s' : Gd) (a : An) (rs' : List Rc) : Prop :=
 (x.k = 2 ∧ a.code = 0 ∧ rs' = rs ++ [⟨s.d.ep, atO x.o s.now⟩] ∧ (doT (behindT rs) (atO x.o s.now)).2 = a) ∨
 (x.k = 3 ∧ a.code = 0 ∧ rs' = rs ++ [⟨s.d.ep, atO x.o s.now⟩] ∧ (doT (behindT rs) (atO x.o s.now)).2.code = 0) ∨
 (rs' = rs ∧ (x.k = 2 → a.code ≠ 0 ∧ ∀ n, nodeG s' x.n = some n → n.dn = false → a.code ≠ 8 → (doT (behindT rs) (atO x.o s.now)).2 = a))
theorem tells_same {s : Gd} {x : Sp} {rs : List Rc} {s' : Gd} {a : An} (h : x.k ≠ 2) : Tells s x rs s' a rs := .inr (.inr ⟨rfl, fun e => absurd e h⟩)
theorem nodeG_ask {s : Gd} {x : Sp} {i : Nat} {n' : Nd} {d' : Dk} (hi : x.n = i) (h3 : i < 3) : nodeG ⟨s.now, d', upG s.ns i n'⟩ x.n = some n' := by
 unfold nodeG
 rw [if_pos (by unfold inN; simp; omega), hi, Int.toNat_natCast]
 exact upG_same _ _ _
theorem PlG.step {s : Gd} {rs : List Rc} {t : List Int} (h : PlG s rs t) (x : Sp) : ∃ rs' t', PlG (stepG s x).1 rs' t' ∧ Tells s x rs (stepG s x).1 (stepG s x).2 rs' := by
 by_cases h1 : x.k = 1
 ·have e : stepG s x = ((openG s x.n).1, ⟨(openG s x.n).2, 0, 0⟩) := by unfold stepG; rw [if_pos h1]
  rw [e]
  unfold openG
  split
  ·split
   ·exact ⟨rs, t, h, tells_same (by omega)⟩
   ·rename_i h100
    exact ⟨rs, [], h.opens h100, tells_same (by omega)⟩
  ·exact ⟨rs, t, h, tells_same (by omega)⟩
 by_cases h5 : x.k = 5
 ·have e : stepG s x = ((tickG s x.n).1, ⟨(tickG s x.n).2, 0, 0⟩) := by unfold stepG; rw [if_neg h1, if_pos h5]
  rw [e]
  unfold tickG
  split
  ·rename_i ht
   have := h.n0
   exact ⟨rs, t, ⟨by show 0 ≤ s.now + x.n; omega, by show s.now + x.n ≤ 60000; omega, h.e0, h.e1, h.inv, h.le, h.one, h.srv, h.dl, h.good, h.rle, h.tl, h.acc⟩, tells_same (by omega)⟩
  ·exact ⟨rs, t, h, tells_same (by omega)⟩
 by_cases h234 : ¬ (x.k = 2 ∨ x.k = 3 ∨ x.k = 4)
 ·have e : stepG s x = (s, ⟨1, 0, 0⟩) := by unfold stepG; rw [if_neg h1, if_neg h5, if_neg h234]
  rw [e]
  exact ⟨rs, t, h, tells_same (fun e => h234 (.inl e))⟩
 replace h234 := Classical.not_not.1 h234
 have e : stepG s x = orderG s x := by unfold stepG; rw [if_neg h1, if_neg h5, if_pos h234]
 rw [e]
 unfold orderG
 split
 ·rename_i hn
  refine ⟨rs, t, h, .inr (.inr ⟨rfl, fun _ => ⟨by show (5 : Int) ≠ 0; decide, fun n hn' => ?_⟩⟩)⟩
  rw [hn] at hn'
  cases hn'
 ·rename_i n hn
  obtain ⟨i, hi, hx, hxt, hs⟩ := nodeG_some hn
  rw [hxt]
  have hle := h.le i n hi hs
  have he1 := h.e1
  unfold askG
  by_cases k2 : x.k = 2
  ·rw [if_pos k2]
   dsimp only
   by_cases hw : wrC s.d n (atO x.o s.now) 9 = 0
   ·obtain ⟨hd, he, hc, hf⟩ := wr_zero hw
    obtain ⟨o1, o2⟩ := ord_yes hw
    rw [wrD_yes hw, tornL_nine]
    obtain ⟨-, hb, pl⟩ := h.wrote (n' := ordN s.d n (atO x.o s.now)) hi hs hd he hc (by rw [o1]; exact (h.inv i n hi hs).step _) (by rw [o1]) (fun _ => by rw [o1])
    refine ⟨_, _, pl, .inl ⟨k2, ?_, rfl, ?_⟩⟩
    ·rw [o2]; exact hc
    ·rw [o2, ← hb]
   ·obtain ⟨o1, o2⟩ := ord_no hw
    rw [wrD_no hw]
    refine ⟨rs, t, h.turned (n' := ordN s.d n (atO x.o s.now)) hi hs (by rw [o1]) (by rw [o1]) (fun hd => by rw [o1] at hd; exact (dnx_false hd).1), .inr (.inr ⟨rfl, fun _ => ⟨by rw [o2]; exact hw, fun m hm hmd h8 => ?_⟩⟩)⟩
    rw [nodeG_ask hx hi] at hm
    cases hm
    rw [o1] at hmd
    obtain ⟨hd, he⟩ := dnx_false hmd
    obtain ⟨-, hb⟩ := h.srv i n hi hs he.symm hd
    rw [o2] at h8 ⊢
    have h8' : ¬ wrC s.d n (atO x.o s.now) 9 = 8 := h8
    by_cases hc : (doT n.T (atO x.o s.now)).2.code = 0
    ·by_cases hf : 1500 < s.d.l.length + keepN 9
     ·exact absurd (wr_full hd he hc hf) h8'
     ·exact absurd (wr_yes hd he hc hf) hw
    ·rw [wr_ref hd he hc, ← hb]
     exact (doT_ref hc).1
  ·rw [if_neg k2]
   by_cases k3 : x.k = 3
   ·rw [if_pos k3]
    dsimp only
    by_cases hw : wrC s.d n (atO x.o s.now) x.keep = 0
    ·obtain ⟨hd, he, hc, hf⟩ := wr_zero hw
     rw [wrD_yes hw]
     have tn : (tearN s.d n (atO x.o s.now) x.keep).dn = true := by unfold tearN; simp [hw]
     by_cases hk : 9 ≤ x.keep
     ·rw [tornL_whole hk]
      obtain ⟨-, hb, pl⟩ := h.wrote (n' := tearN s.d n (atO x.o s.now) x.keep) hi hs hd he hc (h.inv i n hi hs) rfl (fun q => by rw [tn] at q; cases q)
      exact ⟨_, _, pl, .inr (.inl ⟨k3, hw, rfl, by rw [← hb]; exact hc⟩)⟩
     ·have pl := h.tore (n' := tearN s.d n (atO x.o s.now) x.keep) (p := tornL s.d.ep (atO x.o s.now) x.keep) hi hs (by unfold tornL; rw [List.length_take]; have := keepN_part (keep := x.keep) (by omega); omega) hd he (h.inv i n hi hs) rfl tn
      exact ⟨_, _, pl, tells_same k2⟩
    ·rw [wrD_no hw]
     refine ⟨rs, t, h.turned (n' := tearN s.d n (atO x.o s.now) x.keep) hi hs rfl rfl (fun hd => ?_), tells_same k2⟩
     have hd' : (dnx s.d n || decide (wrC s.d n (atO x.o s.now) x.keep = 0)) = false := hd
     rw [Bool.or_eq_false_iff] at hd'
     exact (dnx_false hd'.1).1
   ·rw [if_neg k3]
    exact ⟨rs, t, h.turned (n' := stopN n) hi hs rfl rfl (fun hd => by cases hd), tells_same k2⟩
def grw (n : Nat) (own f : Nat → Nat) : Nat → Nat := fun x => if x < n then own x else f x
theorem grw_old {n : Nat} {own f : Nat → Nat} {x : Nat} (h : x < n) : grw n own f x = own x := by simp [grw, h]
theorem grw_new {n : Nat} {own f : Nat → Nat} {x : Nat} (h : n ≤ x) : grw n own f x = f x := by unfold grw; rw [if_neg (by omega)]
def slotV (x : Option Nd) (b : Nat) : Value := match x with
 | none => .pointer none
 | some _ => .pointer (some ⟨b, 0, none⟩)
structure Gm where
 gb : Nat
 db : Nat
 v : Value
 nb : Nat → Nat
 tb : Nat → Nat
 own : Nat → Nat
def gCells (m : Gm) (s : Gd) : Array Value := #[.pointer (some ⟨m.db, 0, none⟩), slotV (s.ns 0) (m.nb 0), slotV (s.ns 1) (m.nb 1), slotV (s.ns 2) (m.nb 2), .int .i64 s.now]
structure Gld (W0 w : World) (m : Gm) (s : Gd) : Prop where
 blk : Blk w m.gb (gCells m s) 66
 dsk : Dsk 115 5 w W0.heap.size m.db s.d.ep m.v s.d.l
 nod : ∀ i n, i < 3 → s.ns i = some n → Nod w (m.nb i) (m.tb i) m.db n
 pl : ∃ rs t, PlG s rs t
 ogb : m.own m.gb = 0
 od : ∀ x ∈ fp m.db m.v, m.own x = 3
 on : ∀ i n, i < 3 → s.ns i = some n → m.own (m.nb i) = 5 + i ∧ m.own (m.tb i) = 5 + i
 lo : ∀ x, x < W0.heap.size → m.own x = 100
 ch : Chg [] W0 w
theorem grw_at (m : Gm) (n : Nat) {x : Nat} (h : n ≤ x) : ({ m with own := grw n m.own (fun _ => 100) } : Gm).own x = 100 := by dsimp only; rw [grw_new h]
structure Gnx (W0 w : World) (m : Gm) (w' : World) (m' : Gm) (s' : Gd) : Prop where
 g : Gld W0 w' m' s'
 gb : m'.gb = m.gb
 ow : ∀ x, x < w.heap.size → m.own x = 100 → m'.own x = 100
 ch : ∃ bs, Chg bs w w' ∧ ∀ x ∈ bs, m.own x ≠ 100 ∧ x < w.heap.size
section
variable {W0 w w' : World} {m : Gm} {s : Gd}
theorem Gld.base (h : Gld W0 w m s) {x : Nat} (hx : m.own x ≠ 100) : W0.heap.size ≤ x := by
 rcases Nat.lt_or_ge x W0.heap.size with h1 | h1
 ·exact absurd (h.lo x h1) hx
 ·exact h1
theorem Gld.pos (h : Gld W0 w m s) {i : Nat} {n : Nd} (hi : i < 3) (hn : s.ns i = some n) : 1 ≤ s.d.ep ∧ s.d.ep ≤ 100 ∧ Inv n.T := by
 obtain ⟨rs, t, pl⟩ := h.pl
 have := pl.le i n hi hn
 exact ⟨by omega, pl.e1, pl.inv i n hi hn⟩
theorem Gld.keep (h : Gld W0 w m s) {bs : List Nat} (k : Chg bs w w') (hb : ∀ x ∈ bs, m.own x = 100 ∧ W0.heap.size ≤ x) : Gld W0 w' m s := by
 have no : ∀ x, m.own x ≠ 100 → x ∉ bs := fun x hx hm => hx (hb x hm).1
 exact ⟨h.blk.chg k (no _ (by rw [h.ogb]; decide)), h.dsk.chg k (fun x hx hf => no x (by rw [h.od x hf]; decide) hx), fun i n hi hn => (h.nod i n hi hn).chg k (no _ (by rw [(h.on i n hi hn).1]; omega)) (no _ (by rw [(h.on i n hi hn).2]; omega)), h.pl, h.ogb, h.od, h.on, h.lo, h.ch.trans k (fun x hx => .inr (hb x hx).2)⟩
theorem Gld.tell (h : Gld W0 w m s) (f : Nat → Nat) : Gld W0 w { m with own := grw w.heap.size m.own f } s :=
 ⟨h.blk, h.dsk, h.nod, h.pl, (grw_old h.blk.lt).trans h.ogb, fun x hx => (grw_old (h.dsk.fp_lt x hx)).trans (h.od x hx), fun i n hi hn => ⟨(grw_old (h.nod i n hi hn).lt.1).trans (h.on i n hi hn).1, (grw_old (h.nod i n hi hn).lt.2).trans (h.on i n hi hn).2⟩, (fun x hx => by dsimp only; rw [grw_old (Nat.lt_of_lt_of_le hx h.ch.size)]; exact h.lo x hx), h.ch⟩
theorem Gld.fresh (h : Gld W0 w m s) (k : Chg [] w w') : Gld W0 w' { m with own := grw w.heap.size m.own (fun _ => 100) } s := (h.tell _).keep k (by simp)
theorem Gnx.refl (h : Gld W0 w m s) : Gnx W0 w m w m s := ⟨h, rfl, fun _ _ e => e, [], Chg.refl _ _, by simp⟩
theorem Gnx.pre {w2 : World} {m' : Gm} {s' : Gd} (k : Chg [] w w2) (h : Gnx W0 w2 { m with own := grw w.heap.size m.own (fun _ => 100) } w' m' s') : Gnx W0 w m w' m' s' := by
 obtain ⟨bs, c, hb⟩ := h.ch
 have hb' : ∀ x ∈ bs, m.own x ≠ 100 ∧ x < w.heap.size := fun x hx => by
  have h1 := (hb x hx).1
  rcases Nat.lt_or_ge x w.heap.size with h2 | h2
  ·have h1' : grw w.heap.size m.own (fun _ => 100) x ≠ 100 := h1
   rw [grw_old h2] at h1'
   exact ⟨h1', h2⟩
  ·have h1' : grw w.heap.size m.own (fun _ => 100) x ≠ 100 := h1
   rw [grw_new h2] at h1'
   exact absurd rfl h1'
 refine ⟨h.g, h.gb, fun x hx e => h.ow x (Nat.lt_of_lt_of_le hx k.size) (by dsimp only; rw [grw_old hx]; exact e), bs, ?_, hb'⟩
 exact (k.wide (cs := bs) (by simp)).trans c (fun x hx => .inl hx)
theorem Gnx.post {w2 : World} {m' : Gm} {s' : Gd} (h : Gnx W0 w m w' m' s') {bs : List Nat} (k : Chg bs w' w2) (hb : ∀ x ∈ bs, m'.own x = 100 ∧ w.heap.size ≤ x) (hw : W0.heap.size ≤ w.heap.size) : Gnx W0 w m w2 m' s' := by
 obtain ⟨cs, c, hc⟩ := h.ch
 refine ⟨h.g.keep k (fun x hx => ⟨(hb x hx).1, Nat.le_trans hw (hb x hx).2⟩), h.gb, h.ow, cs, ?_, hc⟩
 exact c.trans k (fun x hx => .inr (hb x hx).2)
theorem Gnx.size {m' : Gm} {s' : Gd} (h : Gnx W0 w m w' m' s') : w.heap.size ≤ w'.heap.size := by
 obtain ⟨bs, c, -⟩ := h.ch
 exact c.size
theorem Gnx.blk {m' : Gm} {s' : Gd} (h : Gnx W0 w m w' m' s') {b : Nat} {c : Array Value} {t : TypeId} (hb : Blk w b c t) (ho : m.own b = 100) : Blk w' b c t := by
 obtain ⟨bs, k, hbs⟩ := h.ch
 exact hb.chg k (fun hm => (hbs b hm).1 ho)
theorem Gnx.has {m' : Gm} {s' : Gd} (h : Gnx W0 w m w' m' s') {b : Nat} {T : Tb} {t : TypeId} (hb : Has t w b T) (ho : m.own b = 100) : Has t w' b T := by
 obtain ⟨bs, k, hbs⟩ := h.ch
 exact hb.chg k (fun hm => (hbs b hm).1 ho)
theorem gCells_up {i : Nat} {n n' : Nd} {d' : Dk} {v' : Value} {own' : Nat → Nat} (hn : s.ns i = some n) : gCells { m with v := v', own := own' } ⟨s.now, d', upG s.ns i n'⟩ = gCells m s := by
 have q : ∀ j, slotV (upG s.ns i n' j) (m.nb j) = slotV (s.ns j) (m.nb j) := fun j => by
  by_cases e : j = i
  ·subst e; rw [upG_same, hn]; rfl
  ·rw [upG_other _ _ e]
 unfold gCells
 simp only [q]
theorem Gld.nodeOp (h : Gld W0 w m s) {i : Nat} (hi : i < 3) {n n' : Nd} (hn : s.ns i = some n) {v' : Value} {d' : Dk} (hd : d'.ep = s.d.ep) (N : Nod w' (m.nb i) (m.tb i) m.db n') (D : Dsk 115 5 w' W0.heap.size m.db s.d.ep v' d'.l)
  (g : Chg (m.nb i :: m.tb i :: fp m.db m.v) w w') (nx : Nxt w m.v v') (pl : ∃ rs t, PlG ⟨s.now, d', upG s.ns i n'⟩ rs t) :
  Gnx W0 w m w' { m with v := v', own := grw w.heap.size m.own (fun _ => 3) } ⟨s.now, d', upG s.ns i n'⟩ := by
 have hb : ∀ x ∈ m.nb i :: m.tb i :: fp m.db m.v, (m.own x = 3 ∨ m.own x = 5 + i) ∧ x < w.heap.size := fun x hx => by
  rcases List.mem_cons.1 hx with rfl | hx
  ·exact ⟨.inr (h.on i n hi hn).1, (h.nod i n hi hn).lt.1⟩
  ·rcases List.mem_cons.1 hx with rfl | hx
   ·exact ⟨.inr (h.on i n hi hn).2, (h.nod i n hi hn).lt.2⟩
   ·exact ⟨.inl (h.od x hx), h.dsk.fp_lt x hx⟩
 have ne : ∀ y c, m.own y = c → c ≠ 3 → c ≠ 5 + i → y ∉ m.nb i :: m.tb i :: fp m.db m.v := fun y c e h1 h2 hx => by rcases (hb y hx).1 with e1 | e1 <;> omega
 refine ⟨⟨?_, by rw [hd]; exact D, fun j y hj hy => ?_, pl, (by dsimp only; rw [grw_old h.blk.lt]; exact h.ogb), fun x hx => ?_, fun j y hj hy => ?_, (fun x hx => by dsimp only; rw [grw_old (Nat.lt_of_lt_of_le hx h.ch.size)]; exact h.lo x hx), h.ch.trans g (fun x hx => .inr (h.base (by rcases (hb x hx).1 with e | e <;> omega)))⟩, rfl, (fun x hx e => by dsimp only; rw [grw_old hx]; exact e), _, g, fun x hx => ⟨by rcases (hb x hx).1 with e | e <;> omega, (hb x hx).2⟩⟩
 ·rw [gCells_up hn]
  exact h.blk.chg g (ne _ 0 h.ogb (by omega) (by omega))
 ·by_cases e : j = i
  ·subst e
   have hy' : upG s.ns j n' j = some y := hy
   rw [upG_same] at hy'
   cases hy'
   exact N
  ·have hy' : upG s.ns i n' j = some y := hy
   rw [upG_other _ _ e] at hy'
   exact (h.nod j y hj hy').chg g (ne _ _ (h.on j y hj hy').1 (by omega) (by omega)) (ne _ _ (h.on j y hj hy').2 (by omega) (by omega))
 ·rcases mem_fp.1 hx with e | e
  ·rw [e]; dsimp only; rw [grw_old h.dsk.blk.lt]; exact h.od _ (mem_fp.2 (.inl rfl))
  ·rcases nx.pnx x e with e1 | e1
   ·dsimp only; rw [grw_old (h.dsk.fp_lt x (mem_fp.2 (.inr e1)))]; exact h.od _ (mem_fp.2 (.inr e1))
   ·dsimp only; rw [grw_new e1]
 ·by_cases e : j = i
  ·subst e
   dsimp only
   rw [grw_old (h.nod j n hj hn).lt.1, grw_old (h.nod j n hj hn).lt.2]
   exact h.on j n hj hn
  ·have hy' : upG s.ns i n' j = some y := hy
   rw [upG_other _ _ e] at hy'
   dsimp only
   rw [grw_old (h.nod j y hj hy').lt.1, grw_old (h.nod j y hj hy').lt.2]
   exact h.on j y hj hy'
def upB (f : Nat → Nat) (i b : Nat) : Nat → Nat := fun j => if j = i then b else f j
theorem upB_same (f : Nat → Nat) (i b : Nat) : upB f i b i = b := by simp [upB]
theorem upB_other (f : Nat → Nat) {i j : Nat} (b : Nat) (h : j ≠ i) : upB f i b j = f j := by simp [upB, h]
theorem gCells_open {i nb' : Nat} (hi : i < 3) {n' : Nd} {d' : Dk} {v' : Value} {tb' own' : Nat → Nat} : (gCells m s).setIfInBounds (1 + i) (.pointer (some ⟨nb', 0, none⟩)) = gCells { m with v := v', nb := upB m.nb i nb', tb := tb', own := own' } ⟨s.now, d', upG s.ns i n'⟩ := by
 obtain rfl | rfl | rfl : i = 0 ∨ i = 1 ∨ i = 2 := by omega
 all_goals simp [gCells, upB, upG, slotV]
theorem Gld.openOp (h : Gld W0 w m s) {i : Nat} (hi : i < 3) {nb' tb' : Nat} {v' : Value} (he : ¬ s.d.ep = 100) (N : Nod w' nb' tb' m.db (openN s.d)) (D : Dsk 115 5 w' W0.heap.size m.db (openD s.d).ep v' (openD s.d).l) (g : Chg (fp m.db m.v) w w') (nx : Nxt w m.v v')
  (h1 : nb' ∉ fp m.db v') (h2 : tb' ∉ fp m.db v') (h3 : w.heap.size ≤ nb') (h4 : w.heap.size ≤ tb') :
  Gnx W0 w m (w'.setCell ⟨m.gb, 1 + i, none⟩ (.pointer (some ⟨nb', 0, none⟩))) { m with v := v', nb := upB m.nb i nb', tb := upB m.tb i tb', own := grw w.heap.size m.own (fun x => if x = nb' ∨ x = tb' then 5 + i else 3) } ⟨s.now, openD s.d, upG s.ns i (openN s.d)⟩ := by
 have hg : m.gb ∉ fp m.db m.v := fun hx => by have := h.od _ hx; rw [h.ogb] at this; omega
 have lgb := h.blk.lt
 have g0 := (Chg.refl [m.gb] w').setCell (p := ⟨m.gb, 1 + i, none⟩) (by simp) (.pointer (some ⟨nb', 0, none⟩))
 have hgv : m.gb ∉ fp m.db v' := fun hx => by
  rcases mem_fp.1 hx with e | e
  ·exact hg (mem_fp.2 (.inl e))
  ·rcases nx.pnx _ e with e1 | e1
   ·exact hg (mem_fp.2 (.inr e1))
   ·omega
 obtain ⟨rs, t, pl⟩ := h.pl
 have G : Chg (m.gb :: fp m.db m.v) w (w'.setCell ⟨m.gb, 1 + i, none⟩ (.pointer (some ⟨nb', 0, none⟩))) := (g.wide (cs := m.gb :: fp m.db m.v) (fun x hx => List.mem_cons_of_mem _ hx)).setCell (p := ⟨m.gb, 1 + i, none⟩) (by simp) _
 have hb : ∀ x ∈ m.gb :: fp m.db m.v, m.own x ≠ 100 ∧ x < w.heap.size := fun x hx => by
  rcases List.mem_cons.1 hx with rfl | hx
  ·exact ⟨by rw [h.ogb]; decide, lgb⟩
  ·exact ⟨by rw [h.od x hx]; decide, h.dsk.fp_lt x hx⟩
 have ne : ∀ y c, m.own y = c → 5 ≤ c → y ∉ m.gb :: fp m.db m.v := fun y c e h1 hx => by
  rcases List.mem_cons.1 hx with rfl | hx
  ·rw [h.ogb] at e; omega
  ·rw [h.od y hx] at e; omega
 refine ⟨⟨?_, D.chg g0 (by intro x hx; simp at hx; subst hx; exact hgv), fun j y hj hy => ?_, ⟨rs, [], pl.opens he⟩, (by dsimp only; rw [grw_old lgb]; exact h.ogb), fun x hx => ?_, fun j y hj hy => ?_, (fun x hx => by dsimp only; rw [grw_old (Nat.lt_of_lt_of_le hx h.ch.size)]; exact h.lo x hx), h.ch.trans G (fun x hx => .inr (h.base (hb x hx).1))⟩, rfl, (fun x hx e => by dsimp only; rw [grw_old hx]; exact e), _, G, hb⟩
 ·rw [← gCells_open hi]
  exact (h.blk.chg g hg).set _ _
 ·by_cases e : j = i
  ·subst e
   have hy' : upG s.ns j (openN s.d) j = some y := hy
   rw [upG_same] at hy'
   cases hy'
   dsimp only
   rw [upB_same, upB_same]
   exact N.chg g0 (by simp; omega) (by simp; omega)
  ·have hy' : upG s.ns i (openN s.d) j = some y := hy
   rw [upG_other _ _ e] at hy'
   dsimp only
   rw [upB_other _ _ e, upB_other _ _ e]
   exact (h.nod j y hj hy').chg G (ne _ _ (h.on j y hj hy').1 (by omega)) (ne _ _ (h.on j y hj hy').2 (by omega))
 ·rcases mem_fp.1 hx with e | e
  ·rw [e]; dsimp only; rw [grw_old h.dsk.blk.lt]; exact h.od _ (mem_fp.2 (.inl rfl))
  ·rcases nx.pnx x e with e1 | e1
   ·dsimp only; rw [grw_old (h.dsk.fp_lt x (mem_fp.2 (.inr e1)))]; exact h.od _ (mem_fp.2 (.inr e1))
   ·dsimp only
    rw [grw_new e1, if_neg (fun q => q.elim (fun q => h1 (q ▸ hx)) (fun q => h2 (q ▸ hx)))]
 ·by_cases e : j = i
  ·subst e
   dsimp only
   rw [upB_same, upB_same, grw_new h3, grw_new h4, if_pos (.inl rfl), if_pos (.inr rfl)]
   exact ⟨rfl, rfl⟩
  ·have hy' : upG s.ns i (openN s.d) j = some y := hy
   rw [upG_other _ _ e] at hy'
   dsimp only
   rw [upB_other _ _ e, upB_other _ _ e, grw_old (h.nod j y hj hy').lt.1, grw_old (h.nod j y hj hy').lt.2]
   exact h.on j y hj hy'
theorem Gld.fullOp (h : Gld W0 w m s) (D : Dsk 115 5 w' W0.heap.size m.db s.d.ep m.v s.d.l) (g : Chg [m.db] w w') : Gnx W0 w m w' m s := by
 have hb : ∀ x ∈ [m.db], m.own x = 3 ∧ x < w.heap.size := fun x hx => by simp at hx; subst hx; exact ⟨h.od _ (mem_fp.2 (.inl rfl)), h.dsk.blk.lt⟩
 have ne : ∀ y c, m.own y = c → c ≠ 3 → y ∉ [m.db] := fun y c e h1 hx => by rw [(hb y hx).1] at e; omega
 exact ⟨⟨h.blk.chg g (ne _ 0 h.ogb (by omega)), D, fun j y hj hy => (h.nod j y hj hy).chg g (ne _ _ (h.on j y hj hy).1 (by omega)) (ne _ _ (h.on j y hj hy).2 (by omega)), h.pl, h.ogb, h.od, h.on, h.lo, h.ch.trans g (fun x hx => .inr (h.base (by rw [(hb x hx).1]; decide)))⟩, rfl, fun _ _ e => e, _, g, fun x hx => ⟨by rw [(hb x hx).1]; decide, (hb x hx).2⟩⟩
theorem Gld.tickOp (h : Gld W0 w m s) {now' : Int} (pl : ∃ rs t, PlG ⟨now', s.d, s.ns⟩ rs t) : Gnx W0 w m (w.setCell ⟨m.gb, 4, none⟩ (.int .i64 now')) m ⟨now', s.d, s.ns⟩ := by
 have g := (Chg.refl [m.gb] w).setCell (p := ⟨m.gb, 4, none⟩) (by simp) (.int .i64 now')
 have ne : ∀ y c, m.own y = c → c ≠ 0 → y ∉ [m.gb] := fun y c e h1 hx => by simp at hx; subst hx; rw [h.ogb] at e; omega
 exact ⟨⟨h.blk.set 4 (.int .i64 now'), h.dsk.chg g (fun x hx hf => ne x 3 (h.od x hf) (by omega) hx), fun j y hj hy => (h.nod j y hj hy).chg g (ne _ _ (h.on j y hj hy).1 (by omega)) (ne _ _ (h.on j y hj hy).2 (by omega)), pl, h.ogb, h.od, h.on, h.lo, h.ch.trans g (fun x hx => .inr (h.base (by simp at hx; subst hx; rw [h.ogb]; decide)))⟩, rfl, fun _ _ e => e, _, g, fun x hx => by simp at hx; subst hx; exact ⟨by rw [h.ogb]; decide, h.blk.lt⟩⟩
end
theorem Gld.cells {W0 w : World} {m : Gm} {s : Gd} (h : Gld W0 w m s) : w.cell? ⟨m.gb, 0, none⟩ = some (.pointer (some ⟨m.db, 0, none⟩)) ∧ w.cell? ⟨m.gb, 1, none⟩ = some (slotV (s.ns 0) (m.nb 0)) ∧ w.cell? ⟨m.gb, 2, none⟩ = some (slotV (s.ns 1) (m.nb 1)) ∧ w.cell? ⟨m.gb, 3, none⟩ = some (slotV (s.ns 2) (m.nb 2)) ∧ w.cell? ⟨m.gb, 4, none⟩ = some (.int .i64 s.now) ∧ m.gb < w.heap.size :=
 ⟨h.blk.cell 0, h.blk.cell 1, h.blk.cell 2, h.blk.cell 3, h.blk.cell 4, h.blk.lt⟩
theorem gisnode_any (n : Int) (w : World) : Calls Tryz.prog 73 #[.int .i64 n] w fun e w' => e = .returned (.bool (inN n)) ∧ w' = w := by
 go_enter Tryz.func73, Tryz.ntmps73
 go_wp2
 all_goals (go_ret; simp [inN, *]; try omega)
theorem gnow_any (W0 : World) (m : Gm) (s : Gd) (w : World) (h : Gld W0 w m s) : Calls Tryz.prog 33 #[.pointer (some ⟨m.gb, 0, none⟩)] w fun e w' => e = .returned (.int .i64 s.now) ∧ w' = w := by
 obtain ⟨c0, c1, c2, c3, c4, lg⟩ := h.cells
 clear h
 go_enter Tryz.func33, Tryz.ntmps33
 go_wp2
 go_ret
 exact ⟨rfl, rfl⟩
def nodeV (m : Gm) (s : Gd) (n : Int) : Value := slotV (nodeG s n) (m.nb n.toNat)
theorem gnode_any (W0 : World) (m : Gm) (s : Gd) (n : Int) (w : World) (h : Gld W0 w m s) : Calls Tryz.prog 54 #[.pointer (some ⟨m.gb, 0, none⟩), .int .i64 n] w fun e w' => e = .returned (nodeV m s n) ∧ w' = w := by
 obtain ⟨c0, c1, c2, c3, c4, lg⟩ := h.cells
 clear h
 cases hn : inN n
 ·have e : nodeV m s n = .pointer none := by unfold nodeV nodeG; rw [hn]; rfl
  rw [e]
  clear e
  go_enter Tryz.func54, Tryz.ntmps54
  go_wp2_with (go_at_call 73; refine (gisnode_any _ _).mono ?_; rintro e w ⟨rfl, rfl⟩; rw [hn])
  go_ret
  exact ⟨rfl, rfl⟩
 ·obtain ⟨h0, h1⟩ := inN_yes hn
  have e : nodeV m s n = slotV (s.ns n.toNat) (m.nb n.toNat) := by unfold nodeV nodeG; rw [if_pos hn]
  rw [e]
  clear e
  obtain rfl | rfl | rfl : n = 0 ∨ n = 1 ∨ n = 2 := by omega
  all_goals
   clear h0 h1
   go_enter Tryz.func54, Tryz.ntmps54
   go_wp2_with (go_at_call 73; refine (gisnode_any _ _).mono ?_; rintro e w ⟨rfl, rfl⟩; rw [hn])
   go_ret
   exact ⟨rfl, rfl⟩
theorem gnew_any (w : World) : Calls Tryz.prog 12 #[] w fun e w' => ∃ m, e = .returned (.pointer (some ⟨m.gb, 0, none⟩)) ∧ Gld w w' m G0 := by
 go_enter Tryz.func12, Tryz.ntmps12
 go_wp2_with (go_at_call 20; refine (dnew_any _).mono ?_; rintro e w1 ⟨rfl, D1, G1⟩)
 go_ret
 have z1 := D1.blk.lt
 refine ⟨⟨w1.heap.size, w.heap.size, .slice none 0 0, fun _ => 0, fun _ => 0, fun x => if x < w.heap.size then 100 else if x = w1.heap.size then 0 else 3⟩, rfl, ⟨Blk.new w1 _ _, D1.alloc _, (fun i n hi hn => by cases hn), ⟨[], [], plG_0⟩, ?_, fun x hx => ?_, (fun i n hi hn => by cases hn), fun x hx => if_pos hx, G1.alloc _⟩⟩
 ·dsimp only
  rw [if_neg (by omega), if_pos rfl]
 ·have l := D1.fp_lt x hx
  have g := D1.fp_ge (Nat.le_refl _) x hx
  dsimp only
  rw [if_neg (by omega), if_neg (by omega)]
theorem gtick_any (W0 : World) (m : Gm) (s : Gd) (n : Int) (w : World) (h : Gld W0 w m s) : Calls Tryz.prog 83 #[.pointer (some ⟨m.gb, 0, none⟩), .int .i64 n] w fun e w' => e = .returned (.int .i64 (tickG s n).2) ∧ Gnx W0 w m w' m (tickG s n).1 := by
 obtain ⟨c0, c1, c2, c3, c4, lg⟩ := h.cells
 have cf := h.blk.fz 4
 obtain ⟨rs, t, pl⟩ := h.pl
 have n0 := pl.n0
 have n1 := pl.n1
 have HG := hide h
 have HP := hide pl
 clear h pl c0 c1 c2 c3
 by_cases hn : n < 0
 ·have e : tickG s n = (s, 3) := by unfold tickG; rw [if_neg (by omega)]
  rw [e]
  have d0 : decide (n < 0) = true := by simpa using hn
  clear e hn
  go_enter Tryz.func83, Tryz.ntmps83
  go_wp2
  go_ret
  exact ⟨rfl, Gnx.refl (unhide HG)⟩
 ·have d0 : decide (n < 0) = false := by simpa using hn
  by_cases hb : 60000 - s.now < n
  ·have e : tickG s n = (s, 3) := by unfold tickG; rw [if_neg (by omega)]
   rw [e]
   have d1 : decide (60000 - s.now < n) = true := by simpa using hb
   clear e hn hb
   go_enter Tryz.func83, Tryz.ntmps83
   go_wp2
   go_ret
   exact ⟨rfl, Gnx.refl (unhide HG)⟩
  ·have e : tickG s n = (⟨s.now + n, s.d, s.ns⟩, 0) := by unfold tickG; rw [if_pos (by omega)]
   rw [e]
   have d1 : decide (60000 - s.now < n) = false := by simpa using hb
   have hn0 : 0 ≤ n := by omega
   have hn1 : s.now + n ≤ 60000 := by omega
   clear e hn hb
   go_enter Tryz.func83, Tryz.ntmps83
   go_wp2
   go_ret
   have p := unhide HP
   exact ⟨rfl, (unhide HG).tickOp ⟨rs, t, ⟨by show 0 ≤ s.now + n; omega, by show s.now + n ≤ 60000; omega, p.e0, p.e1, p.inv, p.le, p.one, p.srv, p.dl, p.good, p.rle, p.tl, p.acc⟩⟩⟩
end Go.Proofs.YtllnjiljjodfdacGreatDoor
