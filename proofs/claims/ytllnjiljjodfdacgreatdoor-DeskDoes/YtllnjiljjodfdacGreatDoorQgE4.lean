/-
 What a line tells, and what it does, as a function; strconv.Atoi in one word. Nothing here is claimed by itself.
-/
import Derived.Lib.AtoiAllCases
import Derived.Lib.AtoiErrMem
import Derived.Test.YtllnjiljjodfdacGreatDoorQgE0
import Derived.Test.YtllnjiljjodfdacGreatDoorQgSP
namespace Go.Proofs.YtllnjiljjodfdacGreatDoor
open Go.RowKit

theorem atoi_bd {x : List UInt8} {v : Int} (h : Lib.atoiAll x = .ok v) : I64 v := Lib.atoiAll_bounds h
theorem Chg.bytesWorld (w : World) (e : TypeId) (t : ByteArray) : Chg [] w (Lib.bytesWorld w e t) := Chg.ofBelow (Lib.bytesWorld_below w e t) []
theorem atoi_any (x : List UInt8) (w : World) (hx : x.length ≤ 1000000000) (hv : Vars w) :
  Calls Tryz.prog 40 #[.string (strA x)] w fun e w' => ∃ v ev, e = .returned (.tuple #[.int .i64 v, ev]) ∧ Chg [] w w' ∧ ((Lib.atoiAll x = .ok v ∧ ev = .nilIface) ∨ ((∀ n, Lib.atoiAll x ≠ .ok n) ∧ ∃ t p, ev = .iface t p)) := by
 have e0 : (strA x).data.toList = x := by simp [strA]
 have hsz := strA_size x
 cases h : Lib.atoiAll x with
 | ok v =>
  refine (Tryz.strconv_Atoi_ok (strA x) (by omega) v (by rw [e0]; exact h) w).mono ?_
  rintro e w' ⟨rfl, rfl | ⟨t, rfl⟩⟩
  ·exact ⟨_, _, rfl, Chg.refl _ _, .inl ⟨rfl, rfl⟩⟩
  ·exact ⟨_, _, rfl, Chg.bytesWorld _ _ _, .inl ⟨rfl, rfl⟩⟩
 | «syntax» =>
  obtain ⟨tp, p, hs⟩ := hv.syn
  refine (Tryz.strconv_Atoi_syntax_var (strA x) (by omega) (by rw [e0]; exact h) tp p w hs).mono ?_
  rintro e w' ⟨N, rfl, -, -, hb⟩
  exact ⟨_, _, rfl, Chg.ofBelow hb [], .inr ⟨(fun n hn => by cases hn), _, _, rfl⟩⟩
 | range =>
  obtain ⟨tp, p, hs⟩ := hv.rng
  refine (Tryz.strconv_Atoi_range_var (strA x) (by omega) (by rw [e0]; exact h) tp p w hs).mono ?_
  rintro e w' ⟨N, rfl, -, -, hb⟩
  exact ⟨_, _, rfl, Chg.ofBelow hb [], .inr ⟨(fun n hn => by cases hn), _, _, rfl⟩⟩
theorem numL_some {x : List UInt8} {v : Int} (h : Lib.atoiAll x = .ok v) (he : Lib.itoa v = x) : numL x = some v := by unfold numL; rw [h]; simp [he]
theorem numL_long {x : List UInt8} {v : Int} (h : Lib.atoiAll x = .ok v) (he : ¬ Lib.itoa v = x) : numL x = none := by unfold numL; rw [h]; simp [he]
theorem numL_none {x : List UInt8} (h : ∀ n, Lib.atoiAll x ≠ .ok n) : numL x = none := by
 unfold numL
 cases hx : Lib.atoiAll x with
 | ok v => exact absurd hx (h v)
 | «syntax» => rfl
 | range => rfl
def wAdd : List UInt8 := [97, 100, 100]
def wTake : List UInt8 := [116, 97, 107, 101]
def wRenew : List UInt8 := [114, 101, 110, 101, 119]
def wDone : List UInt8 := [100, 111, 110, 101]
def wDrop : List UInt8 := [100, 114, 111, 112]
def wOpen : List UInt8 := [111, 112, 101, 110]
def wDown : List UInt8 := [100, 111, 119, 110]
def wTick : List UInt8 := [116, 105, 99, 107]
def wTear : List UInt8 := [116, 101, 97, 114]
def wJob : List UInt8 := [106, 111, 98]
def wDisk : List UInt8 := [100, 105, 115, 107]
def wLog : List UInt8 := [108, 111, 103]
def wHolders : List UInt8 := [104, 111, 108, 100, 101, 114, 115]
def wWhat : List UInt8 := [119, 104, 97, 116]
def wNo : List UInt8 := [110, 111]
def wOk : List UInt8 := [111, 107]
def wRecord : List UInt8 := [114, 101, 99, 111, 114, 100]
def wEnd : List UInt8 := [101, 110, 100]
def sayL (l : List UInt8) : List UInt8 := l ++ [10]
def at0 (ns : List Int) (i : Nat) : Int := ns.getD i 0
def stepW (w : List UInt8) (ns : List Int) (tear : Bool) : Option Sp :=
 if w = wAdd ∧ ns.length = 2 then some ⟨2, at0 ns 0, 0, ⟨1, 0, at0 ns 1, 0, 0, 0⟩⟩
 else if w = wTake ∧ ns.length = 3 then some ⟨2, at0 ns 0, 0, ⟨2, 0, 0, 0, at0 ns 1, at0 ns 2⟩⟩
 else if w = wRenew ∧ ns.length = 5 then some ⟨2, at0 ns 0, 0, ⟨3, 0, at0 ns 1, at0 ns 2, at0 ns 3, at0 ns 4⟩⟩
 else if w = wDone ∧ ns.length = 4 then some ⟨2, at0 ns 0, 0, ⟨4, 0, at0 ns 1, at0 ns 2, at0 ns 3, 0⟩⟩
 else if w = wDrop ∧ ns.length = 4 then some ⟨2, at0 ns 0, 0, ⟨5, 0, at0 ns 1, at0 ns 2, at0 ns 3, 0⟩⟩
 else if w = wOpen ∧ ns.length = 1 ∧ tear = false then some ⟨1, at0 ns 0, 0, ⟨0, 0, 0, 0, 0, 0⟩⟩
 else if w = wDown ∧ ns.length = 1 ∧ tear = false then some ⟨4, at0 ns 0, 0, ⟨0, 0, 0, 0, 0, 0⟩⟩
 else if w = wTick ∧ ns.length = 1 ∧ tear = false then some ⟨5, at0 ns 0, 0, ⟨0, 0, 0, 0, 0, 0⟩⟩
 else none
def tornX (x : Sp) (tear : Bool) (keep : Int) : Sp := if tear = true then ⟨3, x.n, keep, x.o⟩ else x
def ansT (a : An) (take : Bool) : List UInt8 := if a.code = 0 then (if take = true then listL wOk [a.jb, a.tr] else wOk) else listL wNo [a.code]
def recT (e : Ev) : List UInt8 := listL wRecord [e.r.ep, e.r.o.k, e.r.o.now, e.r.o.jb, e.r.o.tr, e.r.o.wk, e.r.o.tm] ++ listL (32 :: wJob) [e.j.st, e.j.wk, e.j.tr, e.j.un]
def pairsT (l : List (Int × Int)) : List Int := l.flatMap (fun p => [p.1, p.2])
def viewT (s : Gd) (w : List UInt8) (ns : List Int) : List UInt8 :=
 if w = wJob ∧ ns.length = 2 then (match nodeG s (at0 ns 0) with
  | none => sayL (listL wNo [5])
  | some nd => sayL (listL wJob [(jobA nd.T (at0 ns 1)).st, (jobA nd.T (at0 ns 1)).wk, (jobA nd.T (at0 ns 1)).tr, (jobA nd.T (at0 ns 1)).un]))
 else if w = wDisk ∧ ns.length = 0 then sayL (listL wDisk [s.d.ep, s.d.l.length, s.now])
 else if w = wLog ∧ ns.length = 0 then ((evs (recsL s.d.l)).flatMap (fun e => sayL (recT e))) ++ sayL wEnd
 else if w = wHolders ∧ ns.length = 1 then sayL (listL wHolders (pairsT (holdL (evs (recsL s.d.l)) (at0 ns 0))))
 else sayL wWhat
def cmdT (s : Gd) (w : List UInt8) (ns : List Int) (tear : Bool) (keep : Int) : Gd × List UInt8 := match stepW w ns tear with
 | some x => ((stepG s (tornX x tear keep)).1, sayL (ansT (stepG s (tornX x tear keep)).2 (decide (x.o.k = 2) && !tear)))
 | none => (s, if tear = true then sayL wWhat else viewT s w ns)
def numsT (s : Gd) (w : List UInt8) (r : List (List UInt8)) (tear : Bool) (keep : Int) : Gd × List UInt8 := match r.mapM numL with
 | none => (s, sayL wWhat)
 | some ns => cmdT s w ns tear keep
def lineT (s : Gd) (l : List UInt8) : Gd × List UInt8 := match wordsL l with
 | [] => (s, [])
 | w :: r => if w = wTear then (match r with
   | k :: v :: q => (match numL k with
    | none => (s, sayL wWhat)
    | some n => numsT s v q true n)
   | _ => (s, sayL wWhat))
  else numsT s w r false 0
def linesT (s : Gd) : List (List UInt8) → Gd × List UInt8
 | [] => (s, [])
 | l :: r => ((linesT (lineT s l).1 r).1, (lineT s l).2 ++ (linesT (lineT s l).1 r).2)
theorem linesT_app (s : Gd) (a b : List (List UInt8)) : linesT s (a ++ b) = ((linesT (linesT s a).1 b).1, (linesT s a).2 ++ (linesT (linesT s a).1 b).2) := by
 induction a generalizing s with
 | nil => simp [linesT]
 | cons l a ih => simp [linesT, ih]
def countW (w : List UInt8) : Int :=
 if w = wDisk ∨ w = wLog then 0
 else if w = wOpen ∨ w = wDown ∨ w = wTick ∨ w = wHolders then 1
 else if w = wAdd ∨ w = wJob then 2
 else if w = wTake then 3
 else if w = wDone ∨ w = wDrop then 4
 else if w = wRenew then 5
 else -1
def numbersP (w : List UInt8) (r : List (List UInt8)) : Option (List Int) := if (r.length : Int) = countW w then r.mapM numL else none
theorem mapM_len : ∀ {r : List (List UInt8)} {ns : List Int}, r.mapM numL = some ns → ns.length = r.length
 | [], ns, h => by simp at h; subst h; rfl
 | x :: r, ns, h => by
  rw [List.mapM_cons] at h
  cases hx : numL x with
  | none => rw [hx] at h; cases h
  | some v =>
   rw [hx] at h
   cases hr : r.mapM numL with
   | none => rw [hr] at h; cases h
   | some ms =>
    rw [hr] at h
    simp at h
    subst h
    simp [mapM_len hr]
theorem mapM_bd : ∀ {r : List (List UInt8)} {ns : List Int}, r.mapM numL = some ns → ∀ x ∈ ns, I64 x
 | [], ns, h => by simp at h; subst h; simp
 | x :: r, ns, h => by
  rw [List.mapM_cons] at h
  cases hx : numL x with
  | none => rw [hx] at h; cases h
  | some v =>
   rw [hx] at h
   cases hr : r.mapM numL with
   | none => rw [hr] at h; cases h
   | some ms =>
    rw [hr] at h
    simp at h
    subst h
    intro y hy
    rcases List.mem_cons.1 hy with rfl | hy
    ·unfold numL at hx
     cases ha : Lib.atoiAll x with
     | ok u =>
      rw [ha] at hx
      simp only at hx
      split at hx
      ·cases hx; exact atoi_bd ha
      ·cases hx
     | «syntax» => rw [ha] at hx; cases hx
     | range => rw [ha] at hx; cases hx
    ·exact mapM_bd hr y hy
theorem cmdT_bad {s : Gd} {w : List UInt8} {ns : List Int} {tear : Bool} {keep : Int} (h : ¬ (ns.length : Int) = countW w) : cmdT s w ns tear keep = (s, sayL wWhat) := by
 have e : ∀ (x : List UInt8) (k : Nat), countW x = (k : Int) → ¬ (w = x ∧ ns.length = k) := fun x k hx ⟨h1, h2⟩ => h (by rw [h1, hx, h2])
 have e' : ∀ (x : List UInt8) (k : Nat) (b : Bool), countW x = (k : Int) → ¬ (w = x ∧ ns.length = k ∧ tear = b) := fun x k b hx ⟨h1, h2, _⟩ => h (by rw [h1, hx, h2])
 have hs : stepW w ns tear = none := by
  unfold stepW
  rw [if_neg (e wAdd 2 (by decide)), if_neg (e wTake 3 (by decide)), if_neg (e wRenew 5 (by decide)), if_neg (e wDone 4 (by decide)), if_neg (e wDrop 4 (by decide)), if_neg (e' wOpen 1 _ (by decide)), if_neg (e' wDown 1 _ (by decide)), if_neg (e' wTick 1 _ (by decide))]
 have hv : viewT s w ns = sayL wWhat := by
  unfold viewT
  rw [if_neg (e wJob 2 (by decide)), if_neg (e wDisk 0 (by decide)), if_neg (e wLog 0 (by decide)), if_neg (e wHolders 1 (by decide))]
 unfold cmdT
 rw [hs]
 simp only [hv]
 cases tear <;> rfl
theorem numsT_none {s : Gd} {w : List UInt8} {r : List (List UInt8)} {tear : Bool} {keep : Int} (h : numbersP w r = none) : numsT s w r tear keep = (s, sayL wWhat) := by
 unfold numbersP at h
 unfold numsT
 cases hr : r.mapM numL with
 | none => rfl
 | some ns =>
  rw [hr] at h
  split at h
  ·cases h
  ·rename_i hc
   exact cmdT_bad (by rw [mapM_len hr]; exact hc)
theorem numsT_some {s : Gd} {w : List UInt8} {r : List (List UInt8)} {tear : Bool} {keep : Int} {ns : List Int} (h : numbersP w r = some ns) : numsT s w r tear keep = cmdT s w ns tear keep ∧ (ns.length : Int) = countW w ∧ ∀ x ∈ ns, I64 x := by
 unfold numbersP at h
 split at h
 ·rename_i hc
  unfold numsT
  rw [h]
  exact ⟨rfl, by rw [mapM_len h]; exact hc, mapM_bd h⟩
 ·cases h
def isStepW (w : List UInt8) : Bool := w == wAdd || w == wTake || w == wRenew || w == wDone || w == wDrop || w == wOpen || w == wDown || w == wTick
def spZ : Sp := ⟨0, 0, 0, ⟨0, 0, 0, 0, 0, 0⟩⟩
def stepP (w : List UInt8) (ns : List Int) : Sp :=
 if w = wOpen then ⟨1, at0 ns 0, 0, ⟨0, 0, 0, 0, 0, 0⟩⟩
 else if w = wDown then ⟨4, at0 ns 0, 0, ⟨0, 0, 0, 0, 0, 0⟩⟩
 else if w = wTick then ⟨5, at0 ns 0, 0, ⟨0, 0, 0, 0, 0, 0⟩⟩
 else if w = wAdd then ⟨2, at0 ns 0, 0, ⟨1, 0, at0 ns 1, 0, 0, 0⟩⟩
 else if w = wTake then ⟨2, at0 ns 0, 0, ⟨2, 0, 0, 0, at0 ns 1, at0 ns 2⟩⟩
 else if w = wRenew then ⟨2, at0 ns 0, 0, ⟨3, 0, at0 ns 1, at0 ns 2, at0 ns 3, at0 ns 4⟩⟩
 else if w = wDone then ⟨2, at0 ns 0, 0, ⟨4, 0, at0 ns 1, at0 ns 2, at0 ns 3, 0⟩⟩
 else if w = wDrop then ⟨2, at0 ns 0, 0, ⟨5, 0, at0 ns 1, at0 ns 2, at0 ns 3, 0⟩⟩
 else spZ
theorem countW_cases {w : List UInt8} {k : Nat} (h : (k : Int) = countW w) :
  (w = wDisk ∧ k = 0) ∨ (w = wLog ∧ k = 0) ∨ (w = wOpen ∧ k = 1) ∨ (w = wDown ∧ k = 1) ∨ (w = wTick ∧ k = 1) ∨ (w = wHolders ∧ k = 1) ∨ (w = wAdd ∧ k = 2) ∨ (w = wJob ∧ k = 2) ∨ (w = wTake ∧ k = 3) ∨ (w = wDone ∧ k = 4) ∨ (w = wDrop ∧ k = 4) ∨ (w = wRenew ∧ k = 5) := by
 unfold countW at h
 split at h
 ·rename_i h1; rcases h1 with h1 | h1
  ·exact .inl ⟨h1, by omega⟩
  ·exact .inr (.inl ⟨h1, by omega⟩)
 ·split at h
  ·rename_i h1; rcases h1 with h1 | h1 | h1 | h1
   ·exact .inr (.inr (.inl ⟨h1, by omega⟩))
   ·exact .inr (.inr (.inr (.inl ⟨h1, by omega⟩)))
   ·exact .inr (.inr (.inr (.inr (.inl ⟨h1, by omega⟩))))
   ·exact .inr (.inr (.inr (.inr (.inr (.inl ⟨h1, by omega⟩)))))
  ·split at h
   ·rename_i h1; rcases h1 with h1 | h1
    ·exact .inr (.inr (.inr (.inr (.inr (.inr (.inl ⟨h1, by omega⟩))))))
    ·exact .inr (.inr (.inr (.inr (.inr (.inr (.inr (.inl ⟨h1, by omega⟩)))))))
   ·split at h
    ·rename_i h1
     exact .inr (.inr (.inr (.inr (.inr (.inr (.inr (.inr (.inl ⟨h1, by omega⟩))))))))
    ·split at h
     ·rename_i h1; rcases h1 with h1 | h1
      ·exact .inr (.inr (.inr (.inr (.inr (.inr (.inr (.inr (.inr (.inl ⟨h1, by omega⟩)))))))))
      ·exact .inr (.inr (.inr (.inr (.inr (.inr (.inr (.inr (.inr (.inr (.inl ⟨h1, by omega⟩))))))))))
     ·split at h
      ·rename_i h1
       exact .inr (.inr (.inr (.inr (.inr (.inr (.inr (.inr (.inr (.inr (.inr ⟨h1, by omega⟩))))))))))
      ·omega
theorem cmdT_step {s : Gd} {w : List UInt8} {ns : List Int} (h : (ns.length : Int) = countW w) (hs : isStepW w = true) :
  cmdT s w ns false 0 = ((stepG s (stepP w ns)).1, sayL (ansT (stepG s (stepP w ns)).2 (decide ((stepP w ns).k = 2) && decide ((stepP w ns).o.k = 2)))) := by
 rcases countW_cases h with ⟨rfl, hk⟩ | ⟨rfl, hk⟩ | ⟨rfl, hk⟩ | ⟨rfl, hk⟩ | ⟨rfl, hk⟩ | ⟨rfl, hk⟩ | ⟨rfl, hk⟩ | ⟨rfl, hk⟩ | ⟨rfl, hk⟩ | ⟨rfl, hk⟩ | ⟨rfl, hk⟩ | ⟨rfl, hk⟩
 all_goals first | (exfalso; revert hs; decide) | skip
 all_goals (unfold cmdT stepW; simp [hk, wOpen, wDown, wTick, wAdd, wTake, wRenew, wDone, wDrop, stepP, tornX])
theorem cmdT_torn {s : Gd} {w : List UInt8} {ns : List Int} {keep : Int} (h : (ns.length : Int) = countW w) :
  cmdT s w ns true keep = if (stepP w ns).k = 2 then ((stepG s ⟨3, (stepP w ns).n, keep, (stepP w ns).o⟩).1, sayL (ansT (stepG s ⟨3, (stepP w ns).n, keep, (stepP w ns).o⟩).2 false)) else (s, sayL wWhat) := by
 rcases countW_cases h with ⟨rfl, hk⟩ | ⟨rfl, hk⟩ | ⟨rfl, hk⟩ | ⟨rfl, hk⟩ | ⟨rfl, hk⟩ | ⟨rfl, hk⟩ | ⟨rfl, hk⟩ | ⟨rfl, hk⟩ | ⟨rfl, hk⟩ | ⟨rfl, hk⟩ | ⟨rfl, hk⟩ | ⟨rfl, hk⟩
 all_goals (unfold cmdT stepW; simp [hk, wOpen, wDown, wTick, wAdd, wTake, wRenew, wDone, wDrop, wDisk, wLog, wHolders, wJob, stepP, tornX, spZ])
theorem cmdT_view {s : Gd} {w : List UInt8} {ns : List Int} (hs : isStepW w = false) : cmdT s w ns false 0 = (s, viewT s w ns) := by
 have e : ∀ x, isStepW x = true → ¬ w = x := fun x hx h => by rw [h, hx] at hs; cases hs
 have : stepW w ns false = none := by
  unfold stepW
  rw [if_neg (fun h => e wAdd (by decide) h.1), if_neg (fun h => e wTake (by decide) h.1), if_neg (fun h => e wRenew (by decide) h.1), if_neg (fun h => e wDone (by decide) h.1), if_neg (fun h => e wDrop (by decide) h.1), if_neg (fun h => e wOpen (by decide) h.1), if_neg (fun h => e wDown (by decide) h.1), if_neg (fun h => e wTick (by decide) h.1)]
 unfold cmdT
 rw [this]
 rfl
def Sm (n : Int) : Prop := -100000 ≤ n ∧ n ≤ 100000
theorem Sm.i64 {n : Int} (h : Sm n) : I64 n := by unfold Sm at h; unfold I64; omega
def AnOk (a : An) : Prop := Sm a.code ∧ Sm a.jb ∧ Sm a.tr
def JbOk (j : Jb) : Prop := Sm j.st ∧ Sm j.wk ∧ Sm j.tr ∧ Sm j.un
theorem jb_ok {now : Int} {j : Jb} (h : JInv now j) (h0 : 0 ≤ now) (h1 : now ≤ 60000) : JbOk j := by
 unfold JInv at h
 unfold JbOk Sm
 omega
theorem jobA_ok {T : Tb} (h : Inv T) (n : Int) : JbOk (jobA T n) := by
 unfold jobA
 split
 ·exact jb_ok (h.2.2 n.toNat (by omega)) h.1 h.2.1
 ·simp [JbOk, Sm]
theorem chk_ok (o : Od) : Sm (chk o) := by
 unfold chk Sm
 split
 ·decide
 ·split
  ·decide
  ·split <;> decide
theorem obey_ok {T : Tb} (h : Inv T) (o : Od) : AnOk (obeyT T o).2 := by
 have z : ∀ c : Int, Sm c → AnOk ⟨c, 0, 0⟩ := fun c hc => ⟨hc, by simp [Sm], by simp [Sm]⟩
 unfold obeyT
 split
 ·unfold addT
  split
  ·exact z _ (by simp [Sm])
  ·exact z _ (by simp [Sm])
 ·split
  ·unfold takeT
   rcases firstW_spec T 6 0 with ⟨e, _⟩ | ⟨n, e, _, hn, _, _⟩
   ·rw [e]; exact z _ (by simp [Sm])
   ·rw [e]
    have := h.2.2 n (by omega)
    unfold JInv at this
    refine ⟨by simp [Sm], ?_, ?_⟩
    ·show Sm (n : Int); unfold Sm; omega
    ·show Sm ((T.js n).tr + 1); unfold Sm; omega
  ·unfold heedT
   split
   ·exact z _ (by simp [Sm])
   ·split
    ·exact z _ (by simp [Sm])
    ·exact z _ (by simp [Sm])
theorem do_ok {T : Tb} (h : Inv T) (o : Od) : AnOk (doT T o).2 := by
 unfold doT
 by_cases hc : chk o ≠ 0
 ·rw [if_pos hc]
  exact ⟨chk_ok o, by simp [Sm], by simp [Sm]⟩
 ·rw [if_neg hc]
  have hz : chk o = 0 := by omega
  have hp := h.pass (chk_zero hz).2.1.2
  split
  ·exact obey_ok hp o
  ·exact obey_ok hp o
theorem wr_ok {d : Dk} {n : Nd} (h : Inv n.T) (o : Od) (keep : Int) : Sm (wrC d n o keep) := by
 have hd := do_ok h o
 unfold wrC
 split
 ·simp [Sm]
 ·split
  ·simp [Sm]
  ·split
   ·exact hd.1
   ·split <;> simp [Sm]
theorem step_ok {s : Gd} {rs : List Rc} {t : List Int} (h : PlG s rs t) (x : Sp) : AnOk (stepG s x).2 := by
 have z : ∀ c : Int, Sm c → AnOk ⟨c, 0, 0⟩ := fun c hc => ⟨hc, by simp [Sm], by simp [Sm]⟩
 unfold stepG
 split
 ·refine z _ ?_
  unfold openG
  split
  ·split <;> simp [Sm]
  ·simp [Sm]
 ·split
  ·refine z _ ?_
   unfold tickG
   split <;> simp [Sm]
  ·split
   ·unfold orderG
    split
    ·exact z _ (by simp [Sm])
    ·rename_i n hn
     obtain ⟨i, hi, _, _, hs⟩ := nodeG_some hn
     have hI := h.inv i n hi hs
     unfold askG
     split
     ·show AnOk (ordA _ _ _)
      unfold ordA
      split
      ·exact do_ok hI _
      ·exact z _ (wr_ok hI _ _)
     ·split
      ·exact z _ (wr_ok hI _ _)
      ·exact z _ (by simp [Sm])
   ·exact z _ (by simp [Sm])
def EvOk (e : Ev) : Prop := (Sm e.r.ep ∧ Sm e.r.o.k ∧ Sm e.r.o.now ∧ Sm e.r.o.jb ∧ Sm e.r.o.tr ∧ Sm e.r.o.wk ∧ Sm e.r.o.tm) ∧ AnOk e.a ∧ JbOk e.j
theorem ck_ok {r : Rc} (h : ckR r = 0) : Sm r.ep ∧ Sm r.o.k ∧ Sm r.o.now ∧ Sm r.o.jb ∧ Sm r.o.tr ∧ Sm r.o.wk ∧ Sm r.o.tm := by
 unfold ckR at h
 split at h
 ·omega
 ·have := chk_zero h
  unfold Sm
  omega
theorem evs_ok : ∀ (rs : List Rc) (ep : Int) (T : Tb), Inv T → goodF ep rs → ∀ e ∈ evsF T rs, EvOk e
 | [], _, _, _, _, e, he => by simp [evsF] at he
 | r :: rs, ep, T, hT, hg, e, he => by
  obtain ⟨h1, _, h3⟩ := hg
  rcases List.mem_cons.1 (show e ∈ evOf T r :: evsF (doT T r.o).1 rs from he) with rfl | he
  ·refine ⟨ck_ok h1, do_ok hT _, ?_⟩
   show JbOk (evJ _ _ _)
   unfold evJ
   split
   ·split
    ·exact jobA_ok (hT.step _) _
    ·exact jobA_ok (hT.step _) _
   ·simp [JbOk, Sm]
  ·exact evs_ok rs r.ep _ (hT.step _) h3 e he
theorem PlG.evOk {s : Gd} {rs : List Rc} {t : List Int} (h : PlG s rs t) : ∀ e ∈ evs (recsL s.d.l), EvOk e := by
 rw [h.recs]
 exact evs_ok rs 0 T0 inv_T0 h.good
theorem hold_ok {l : List Ev} (h : ∀ e ∈ l, EvOk e) (job : Int) : ∀ x ∈ pairsT (holdL l job), Sm x := by
 intro x hx
 unfold pairsT holdL at hx
 obtain ⟨p, hp, hx⟩ := List.mem_flatMap.1 hx
 obtain ⟨e, he, hep⟩ := List.mem_filterMap.1 hp
 have hk := h e he
 unfold holdE at hep
 split at hep
 ·cases hep
  simp at hx
  rcases hx with rfl | rfl
  ·exact hk.1.2.2.2.2.2.1
  ·exact hk.2.1.2.2
 ·cases hep
theorem list_len (s : List UInt8) (l : List Int) (h : ∀ x ∈ l, Sm x) : (listL s l).length ≤ s.length + 22 * l.length := listL_len s l (fun x hx => (h x hx).i64)
theorem ans_len {a : An} (h : AnOk a) (b : Bool) : (ansT a b).length ≤ 100 := by
 unfold ansT
 split
 ·split
  ·have := list_len wOk [a.jb, a.tr] (by intro x hx; simp at hx; rcases hx with rfl | rfl; exact h.2.1; exact h.2.2)
   simp only [List.length_cons, List.length_nil, show wOk.length = 2 from rfl] at this
   omega
  ·simp [wOk]
 ·have := list_len wNo [a.code] (by intro x hx; simp at hx; subst hx; exact h.1)
  simp only [List.length_cons, List.length_nil, show wNo.length = 2 from rfl] at this
  omega
theorem rec_len {e : Ev} (h : EvOk e) : (recT e).length ≤ 300 := by
 unfold recT
 have h1 := list_len wRecord [e.r.ep, e.r.o.k, e.r.o.now, e.r.o.jb, e.r.o.tr, e.r.o.wk, e.r.o.tm] (by
  intro x hx
  simp at hx
  obtain ⟨⟨a0, a1, a2, a3, a4, a5, a6⟩, _⟩ := h
  rcases hx with rfl | rfl | rfl | rfl | rfl | rfl | rfl <;> assumption)
 have h2 := list_len (32 :: wJob) [e.j.st, e.j.wk, e.j.tr, e.j.un] (by
  intro x hx
  simp at hx
  obtain ⟨_, _, a0, a1, a2, a3⟩ := h
  rcases hx with rfl | rfl | rfl | rfl <;> assumption)
 simp only [List.length_cons, List.length_nil, show wRecord.length = 6 from rfl] at h1
 simp only [List.length_cons, List.length_nil, show wJob.length = 3 from rfl] at h2
 rw [List.length_append]
 omega
theorem log_len : ∀ (l : List Ev), (∀ e ∈ l, EvOk e) → (l.flatMap (fun e => sayL (recT e))).length ≤ 301 * l.length
 | [], _ => by simp
 | e :: l, h => by
  have h1 := rec_len (h e (by simp))
  have h2 := log_len l (fun x hx => h x (by simp [hx]))
  rw [List.flatMap_cons, List.length_append, List.length_cons]
  unfold sayL at h2 ⊢
  rw [List.length_append]
  simp only [List.length_cons, List.length_nil] at *
  omega
theorem pairs_len (l : List (Int × Int)) : (pairsT l).length = 2 * l.length := by
 unfold pairsT
 induction l with
 | nil => rfl
 | cons p l ih => rw [List.flatMap_cons, List.length_append, ih, List.length_cons, List.length_cons, List.length_cons, List.length_nil]; omega
theorem hold_len (l : List Ev) (job : Int) : (holdL l job).length ≤ l.length := List.length_filterMap_le _ _
theorem PlG.few {s : Gd} {rs : List Rc} {t : List Int} (h : PlG s rs t) (hd : s.d.l.length ≤ 1500) : (evs (recsL s.d.l)).length ≤ 166 := by
 rw [evs_len, h.recs]
 have := h.len
 omega
theorem view_len {s : Gd} {rs : List Rc} {t : List Int} (h : PlG s rs t) (hd : s.d.l.length ≤ 1500) (w : List UInt8) (ns : List Int) : (viewT s w ns).length ≤ 60000 := by
 have hf := h.few hd
 have he := h.evOk
 have e0 := h.e0
 have e1 := h.e1
 have n0 := h.n0
 have n1 := h.n1
 unfold viewT
 split
 ·split
  ·have := list_len wNo [5] (by intro x hx; simp at hx; subst hx; simp [Sm])
   simp only [List.length_cons, List.length_nil, show wNo.length = 2 from rfl] at this
   unfold sayL
   rw [List.length_append]
   simp only [List.length_cons, List.length_nil]
   omega
  ·rename_i nd hn
   obtain ⟨i, hi, _, _, hs⟩ := nodeG_some hn
   obtain ⟨j0, j1, j2, j3⟩ := jobA_ok (h.inv i nd hi hs) (at0 ns 1)
   have := list_len wJob [(jobA nd.T (at0 ns 1)).st, (jobA nd.T (at0 ns 1)).wk, (jobA nd.T (at0 ns 1)).tr, (jobA nd.T (at0 ns 1)).un] (by intro x hx; simp at hx; rcases hx with rfl | rfl | rfl | rfl <;> assumption)
   unfold sayL
   rw [List.length_append]
   simp only [List.length_cons, List.length_nil, show wJob.length = 3 from rfl] at this ⊢
   omega
 ·split
  ·have := list_len wDisk [s.d.ep, s.d.l.length, s.now] (by intro x hx; simp at hx; unfold Sm; rcases hx with rfl | rfl | rfl <;> omega)
   unfold sayL
   rw [List.length_append]
   simp only [List.length_cons, List.length_nil, show wDisk.length = 4 from rfl] at this ⊢
   omega
  ·split
   ·have := log_len _ he
    rw [List.length_append, show (sayL wEnd).length = 4 from rfl]
    omega
   ·split
    ·have := list_len wHolders (pairsT (holdL (evs (recsL s.d.l)) (at0 ns 0))) (hold_ok he _)
     have h2 := hold_len (evs (recsL s.d.l)) (at0 ns 0)
     rw [pairs_len] at this
     unfold sayL
     rw [List.length_append]
     simp only [List.length_cons, List.length_nil, show wHolders.length = 7 from rfl] at this ⊢
     omega
    ·simp [sayL, wWhat]
theorem cmd_len {s : Gd} {rs : List Rc} {t : List Int} (h : PlG s rs t) (hd : s.d.l.length ≤ 1500) (w : List UInt8) (ns : List Int) (tear : Bool) (keep : Int) : (cmdT s w ns tear keep).2.length ≤ 60000 := by
 unfold cmdT
 split
 ·rename_i x _
  have := ans_len (step_ok h (tornX x tear keep)) (decide (x.o.k = 2) && !tear)
  show (sayL _).length ≤ _
  unfold sayL
  rw [List.length_append]
  simp
  omega
 ·show (if tear = true then sayL wWhat else viewT s w ns).length ≤ _
  split
  ·simp [sayL, wWhat]
  ·exact view_len h hd w ns
theorem nums_len {s : Gd} {rs : List Rc} {t : List Int} (h : PlG s rs t) (hd : s.d.l.length ≤ 1500) (w : List UInt8) (r : List (List UInt8)) (tear : Bool) (keep : Int) : (numsT s w r tear keep).2.length ≤ 60000 := by
 unfold numsT
 split
 ·simp [sayL, wWhat]
 ·exact cmd_len h hd _ _ _ _
theorem line_len {s : Gd} {rs : List Rc} {t : List Int} (h : PlG s rs t) (hd : s.d.l.length ≤ 1500) (l : List UInt8) : (lineT s l).2.length ≤ 60000 := by
 unfold lineT
 split
 ·simp
 ·split
  ·split
   ·split
    ·simp [sayL, wWhat]
    ·exact nums_len h hd _ _ _ _
   ·simp [sayL, wWhat]
  ·exact nums_len h hd _ _ _ _
end Go.Proofs.YtllnjiljjodfdacGreatDoor
