/-
 A desk of the program in memory; whose each block is; what became of it. Words one behind the other. Nothing here is claimed by itself.
-/
import Derived.Lib.UnsafeStr
import Derived.Lib.Builder
import Derived.Lib.AppendStr
import Derived.Test.YtllnjiljjodfdacGreatDoorQgE4
import Derived.Test.YtllnjiljjodfdacGreatDoorQgG2
import Derived.Test.YtllnjiljjodfdacGreatDoorQS4
namespace Go.Proofs.YtllnjiljjodfdacGreatDoor
open Go.RowKit

def joinW : List (List UInt8) → List UInt8
 | [] => []
 | w :: r => w ++ r.flatMap (fun x => 32 :: x)
theorem joinW_one (x : List UInt8) : joinW [x] = x := by simp [joinW]
theorem joinW_snoc {l : List (List UInt8)} (h : l ≠ []) (x : List UInt8) : joinW (l ++ [x]) = joinW l ++ (32 :: x) := by
 cases l with
 | nil => exact absurd rfl h
 | cons w r => simp [joinW]
theorem joinW_list (w : List UInt8) (ns : List Int) : joinW (w :: ns.map Lib.itoa) = listL w ns := by
 simp [joinW, listL, List.flatMap_map]
theorem joinW_app {a b : List (List UInt8)} (ha : a ≠ []) (w : List UInt8) : joinW (a ++ w :: b) = joinW a ++ joinW ((32 :: w) :: b) := by
 cases a with
 | nil => exact absurd rfl ha
 | cons x r => simp [joinW]
theorem joinW_take {l : List (List UInt8)} {k : Nat} {x : List UInt8} (hx : l[k]? = some x) : joinW (l.take (k + 1)) = if k = 0 then x else joinW (l.take k) ++ (32 :: x) := by
 rw [List.take_add_one, hx]
 by_cases hk : k = 0
 ·subst hk; simp [joinW]
 ·rw [if_neg hk]
  have : l.take k ≠ [] := by
   intro h
   have h1 := congrArg List.length h
   rw [List.length_take, List.length_nil] at h1
   have := (List.getElem?_eq_some_iff.1 hx).1
   omega
  exact joinW_snoc this x
structure Bld (w : World) (base db : Nat) (p v q : Value) (told : List UInt8) : Prop where
 blk : Blk w db #[p, v, q] 46
 hp : p = .pointer none ∨ p = .pointer (some ⟨db, 0, none⟩)
 row : w.ownsRow base 5 1 v told.length (Lib.byteCells told)
 nl : told = [] → v = .slice none 0 0
theorem Bld.ne {w : World} {base db : Nat} {p v q : Value} {told : List UInt8} (h : Bld w base db p v q told) : v.ownBlock ≠ some db := own_blk_ne h.row h.blk (by decide)
theorem Bld.keep {w w' : World} {base db : Nat} {p v q : Value} {told : List UInt8} (h : Bld w base db p v q told) {bs : List Nat} (k : Chg bs w w') (hb : ∀ x ∈ bs, x ∉ fp db v) : Bld w' base db p v q told :=
 ⟨h.blk.chg k (fun hx => hb _ hx (mem_fp.2 (.inl rfl))), h.hp, own_keep h.row k (fun x hx hv => hb x hx (mem_fp.2 (.inr hv))), h.nl⟩
structure Dm where
 db : Nat
 v : Value
 g : Gm
def Dm.mine (M : Dm) (x : Nat) : Prop := M.g.own x ≠ 100 ∨ x = M.db ∨ M.v.ownBlock = some x
structure Dq (W0 w : World) (M : Dm) (s : Gd) (told : List UInt8) : Prop where
 d : ∃ p, Bld w W0.heap.size M.db p M.v (.pointer (some ⟨M.g.gb, 0, none⟩)) told
 c : Gld W0 w M.g s
 od : M.g.own M.db = 100
 ov : ∀ x, M.v.ownBlock = some x → M.g.own x = 100
 b : W0.heap.size ≤ M.db
 hi : ∀ x, M.mine x → x < w.heap.size
structure Dqn (W0 w : World) (M : Dm) (w' : World) (M' : Dm) (s' : Gd) (told' : List UInt8) : Prop where
 k : Dq W0 w' M' s' told'
 db : M'.db = M.db
 ow : ∀ x, x < w.heap.size → M'.mine x → M.mine x
 ch : ∃ bs, Chg bs w w' ∧ ∀ x ∈ bs, M.mine x ∧ x < w.heap.size
section
variable {W0 w w' : World} {M : Dm} {s : Gd} {told : List UInt8}
theorem Dq.r (h : Dq W0 w M s told) : w.ownsRow W0.heap.size 5 1 M.v told.length (Lib.byteCells told) := by
 obtain ⟨p, hB⟩ := h.d
 exact hB.row
theorem Dq.lt (h : Dq W0 w M s told) : M.db < w.heap.size := h.hi _ (.inr (.inl rfl))
theorem Dq.lo (h : Dq W0 w M s told) {x : Nat} (hx : M.mine x) : W0.heap.size ≤ x := by
 rcases hx with hx | rfl | hx
 ·exact h.c.base hx
 ·exact h.b
 ·exact (h.r.lt x hx).1
theorem Dq.keep (h : Dq W0 w M s told) {bs : List Nat} (k : Chg bs w w') (hb : ∀ x ∈ bs, ¬ M.mine x ∧ W0.heap.size ≤ x) : Dq W0 w' M s told := by
 obtain ⟨p, hB⟩ := h.d
 exact ⟨⟨p, hB.keep k (fun x hx hf => (hb x hx).1 (.inr (mem_fp.1 hf)))⟩, h.c.keep k (fun x hx => ⟨Classical.byContradiction fun e => (hb x hx).1 (.inl e), (hb x hx).2⟩), h.od, h.ov, h.b, fun x hx => Nat.lt_of_lt_of_le (h.hi x hx) k.size⟩
theorem Dq.new (h : Dq W0 w M s told) (k : Chg [] w w') : Dq W0 w' M s told := h.keep k (by simp)
theorem Dqn.refl (h : Dq W0 w M s told) : Dqn W0 w M w M s told := ⟨h, rfl, fun _ _ e => e, [], Chg.refl _ _, by simp⟩
theorem Dq.quiet (h : Dq W0 w M s told) (k : Chg [] w w') : Dqn W0 w M w' M s told := ⟨h.new k, rfl, fun _ _ e => e, [], k, by simp⟩
theorem Dqn.trans {w1 w2 : World} {M1 M2 : Dm} {s1 s2 : Gd} {t1 t2 : List UInt8} (h : Dqn W0 w M w1 M1 s1 t1) (k : Dqn W0 w1 M1 w2 M2 s2 t2) : Dqn W0 w M w2 M2 s2 t2 := by
 obtain ⟨bs, c, hb⟩ := h.ch
 obtain ⟨cs, c2, hc⟩ := k.ch
 refine ⟨k.k, k.db.trans h.db, fun x hx hm => h.ow x hx (k.ow x (Nat.lt_of_lt_of_le hx c.size) hm), bs ++ cs.filter (fun x => decide (x < w.heap.size)), ?_, fun x hx => ?_⟩
 ·refine (c.wide (fun x hx => List.mem_append_left _ hx)).trans c2 (fun x hx => ?_)
  rcases Nat.lt_or_ge x w.heap.size with h1 | h1
  ·exact .inl (List.mem_append_right _ (List.mem_filter.2 ⟨hx, by simpa using h1⟩))
  ·exact .inr h1
 ·rcases List.mem_append.1 hx with hx | hx
  ·exact hb x hx
  ·obtain ⟨hx, h1⟩ := List.mem_filter.1 hx
   have h1' : x < w.heap.size := by simpa using h1
   exact ⟨h.ow x h1' (hc x hx).1, h1'⟩
theorem Dqn.later {w2 : World} {M' : Dm} {s' : Gd} {t' : List UInt8} (h : Dqn W0 w M w' M' s' t') {bs : List Nat} (k : Chg bs w' w2) (hb : ∀ x ∈ bs, ¬ M'.mine x ∧ w.heap.size ≤ x) (hz : W0.heap.size ≤ w.heap.size) : Dqn W0 w M w2 M' s' t' := by
 obtain ⟨cs, c, hc⟩ := h.ch
 exact ⟨h.k.keep k (fun x hx => ⟨(hb x hx).1, Nat.le_trans hz (hb x hx).2⟩), h.db, h.ow, cs, c.trans k (fun x hx => .inr (hb x hx).2), hc⟩
theorem Dqn.size {M' : Dm} {s' : Gd} {t' : List UInt8} (h : Dqn W0 w M w' M' s' t') : w.heap.size ≤ w'.heap.size := by
 obtain ⟨bs, c, -⟩ := h.ch
 exact c.size
theorem Dqn.cell {M' : Dm} {s' : Gd} {t' : List UInt8} (h : Dqn W0 w M w' M' s' t') {p : Addr} (hp : p.block < w.heap.size) (hn : ¬ M.mine p.block) : w'.cell? p = w.cell? p := by
 obtain ⟨bs, c, hb⟩ := h.ch
 exact c.cell' hp (fun hx => hn (hb _ hx).1)
theorem Dqn.blk {M' : Dm} {s' : Gd} {t' : List UInt8} (h : Dqn W0 w M w' M' s' t') {b : Nat} {c : Array Value} {t : TypeId} (hB : Blk w b c t) (hn : ¬ M.mine b) : Blk w' b c t := by
 obtain ⟨bs, k, hb⟩ := h.ch
 exact hB.chg k (fun hx => hn (hb _ hx).1)
theorem Dqn.other {M' : Dm} {s' : Gd} {t' : List UInt8} (h : Dqn W0 w M w' M' s' t') {x : Nat} (hx : x < w.heap.size) (hn : ¬ M.mine x) : ¬ M'.mine x := fun e => hn (h.ow x hx e)
theorem Dq.free (h : Dq W0 w M s told) {x : Nat} (hx : w.heap.size ≤ x) : ¬ M.mine x := fun e => by have := h.hi x e; omega
theorem Dq.gb (h : Dq W0 w M s told) : M.g.own M.g.gb ≠ 100 := by rw [h.c.ogb]; decide
theorem Dq.gop (h : Dq W0 w M s told) {m' : Gm} {s' : Gd} (X : Gnx W0 w M.g w' m' s') : Dqn W0 w M w' ⟨M.db, M.v, { m' with own := grw w'.heap.size m'.own (fun _ => 100) }⟩ s' told := by
 obtain ⟨bs, c, hb⟩ := X.ch
 have hdb : M.db < w.heap.size := h.lt
 have ndb : M.db ∉ bs := fun hx => (hb _ hx).1 h.od
 have own_lt : ∀ x, x < w'.heap.size → grw w'.heap.size m'.own (fun _ => 100) x = m'.own x := fun x hx => grw_old hx
 have own_ge : ∀ x, w'.heap.size ≤ x → grw w'.heap.size m'.own (fun _ => 100) x = 100 := fun x hx => grw_new hx
 have hv : ∀ x, M.v.ownBlock = some x → x < w.heap.size := fun x hx => h.hi x (.inr (.inr hx))
 obtain ⟨p, hB⟩ := h.d
 have hB' : Bld w' W0.heap.size M.db p M.v (.pointer (some ⟨m'.gb, 0, none⟩)) told := by
  rw [X.gb]
  refine hB.keep c (fun x hx hf => (hb x hx).1 ?_)
  rcases mem_fp.1 hf with rfl | e
  ·exact h.od
  ·exact h.ov x e
 refine ⟨⟨⟨p, hB'⟩, X.g.tell _, ?_, fun x hx => ?_, h.b, fun x hx => ?_⟩, rfl, fun x hx hm => ?_, bs, c, fun x hx => ⟨.inl (hb x hx).1, (hb x hx).2⟩⟩
 ·show grw w'.heap.size m'.own (fun _ => 100) M.db = 100
  rw [own_lt _ (Nat.lt_of_lt_of_le hdb c.size)]
  exact X.ow _ hdb h.od
 ·show grw w'.heap.size m'.own (fun _ => 100) x = 100
  rw [own_lt _ (Nat.lt_of_lt_of_le (hv x hx) c.size)]
  exact X.ow _ (hv x hx) (h.ov x hx)
 ·rcases hx with hx | hx | hx
  ·rcases Nat.lt_or_ge x w'.heap.size with h1 | h1
   ·exact h1
   ·exact absurd (own_ge x h1) hx
  ·rw [show x = M.db from hx]; exact Nat.lt_of_lt_of_le hdb c.size
  ·exact Nat.lt_of_lt_of_le (hv x hx) c.size
 ·rcases hm with hm | hm | hm
  ·refine .inl (fun e => hm ?_)
   show grw w'.heap.size m'.own (fun _ => 100) x = 100
   rw [own_lt _ (Nat.lt_of_lt_of_le hx c.size)]
   exact X.ow _ hx e
  ·exact .inr (.inl hm)
  ·exact .inr (.inr hm)
theorem Dq.wrote (h : Dq W0 w M s told) {told' : List UInt8} {v' p : Value} (k : Chg (fp M.db M.v) w w') (hB : Bld w' W0.heap.size M.db p v' (.pointer (some ⟨M.g.gb, 0, none⟩)) told') (hv : Pnx w M.v v') : Dqn W0 w M w' ⟨M.db, v', M.g⟩ s told' := by
 have own100 : ∀ x, w.heap.size ≤ x → M.g.own x = 100 := fun x hx => Classical.byContradiction fun e => by have := h.hi x (.inl e); omega
 have hb : ∀ x ∈ fp M.db M.v, x = M.db ∨ M.v.ownBlock = some x := fun x hx => mem_fp.1 hx
 have hb' : ∀ x ∈ fp M.db M.v, M.mine x ∧ x < w.heap.size := fun x hx => by
  have hm : M.mine x := .inr (hb x hx)
  exact ⟨hm, h.hi x hm⟩
 have hr := hB.row
 refine ⟨⟨⟨p, hB⟩, h.c.keep k (fun x hx => ?_), h.od, fun x hx => ?_, h.b, fun x hx => ?_⟩, rfl, fun x hx hm => ?_, _, k, hb'⟩
 ·rcases hb x hx with rfl | e
  ·exact ⟨h.od, h.b⟩
  ·exact ⟨h.ov x e, (h.r.lt x e).1⟩
 ·rcases hv x hx with e | e
  ·exact h.ov x e
  ·exact own100 x e
 ·rcases hx with hx | hx | hx
  ·exact Nat.lt_of_lt_of_le (h.hi x (.inl hx)) k.size
  ·exact Nat.lt_of_lt_of_le (h.hi x (.inr (.inl hx))) k.size
  ·exact (hr.lt x hx).2
 ·rcases hm with hm | hm | hm
  ·exact .inl hm
  ·exact .inr (.inl hm)
  ·rcases hv x hm with e | e
   ·exact .inr (.inr e)
   ·omega
end
def StrsF (w : World) (M : Dm) (a : Option Addr) (ls : List (List UInt8)) : Prop :=
 ls = [] ∨ ∃ g off, a = some ⟨g, off, none⟩ ∧ g < w.heap.size ∧ ¬ M.mine g ∧ ∀ i x, ls[i]? = some x → w.cell? ⟨g, off + i, none⟩ = some (.string (strA x))
theorem StrsF.next {W0 w w' : World} {M M' : Dm} {s' : Gd} {t' : List UInt8} {a : Option Addr} {ls : List (List UInt8)} (h : StrsF w M a ls) (k : Dqn W0 w M w' M' s' t') : StrsF w' M' a ls := by
 rcases h with h | ⟨g, off, e, hb, hn, hc⟩
 ·exact .inl h
 ·exact .inr ⟨g, off, e, Nat.lt_of_lt_of_le hb k.size, k.other hb hn, fun i x hx => by rw [k.cell (p := ⟨g, off + i, none⟩) hb hn]; exact hc i x hx⟩
theorem StrsF.new {w w' : World} {M : Dm} {a : Option Addr} {ls : List (List UInt8)} (h : StrsF w M a ls) (k : Chg [] w w') : StrsF w' M a ls := by
 rcases h with h | ⟨g, off, e, hb, hn, hc⟩
 ·exact .inl h
 ·exact .inr ⟨g, off, e, Nat.lt_of_lt_of_le hb k.size, hn, fun i x hx => by rw [k.cell' (p := ⟨g, off + i, none⟩) hb (by simp)]; exact hc i x hx⟩
theorem StrsF.plain {w : World} {M : Dm} {a : Option Addr} {ls : List (List UInt8)} (h : StrsF w M a ls) : Strs w a ls := by
 rcases h with h | ⟨g, off, e, hb, -, hc⟩
 ·exact .inl h
 ·exact .inr ⟨g, off, e, hb, hc⟩
theorem own_strsF {W0 w w' : World} {M : Dm} {s : Gd} {told : List UInt8} {base : Nat} {e : TypeId} {v : Value} {ls : List (List UInt8)} (D : Dq W0 w M s told) (hb : w.heap.size ≤ base) (h : w'.ownsRow base e 1 v ls.length (strsC ls)) : ∃ a c, v = .slice a ls.length c ∧ ls.length ≤ c ∧ StrsF w' M a ls := by
 have hl := h.lt
 obtain ⟨a, c, rfl, hc, hS⟩ := own_strs h
 refine ⟨a, c, rfl, hc, ?_⟩
 rcases hS with h0 | ⟨g, off, rfl, hg, hcell⟩
 ·exact .inl h0
 ·by_cases h0 : ls = []
  ·exact .inl h0
  ·refine .inr ⟨g, off, rfl, hg, ?_, hcell⟩
   have := (hl g (by
    obtain ⟨_, ⟨h1, h2⟩ | ⟨g', c', cur, h1, _⟩⟩ := h
    ·cases h1
    ·injection h1 with h1 _ _
     injection h1 with h1
     injection h1 with h1 h2 _
     subst h1
     subst h2
     rfl)).1
   exact D.free (Nat.le_trans hb this)
theorem bldSize : (Tryz.prog.info? 44).map (·.size) = some 2 := by kernel_rfl
theorem bldLies : liesAt Tryz.prog Tryz.prog.depth 46 (3 / Tryz.prog.cellsOf 46) 0 44 1 = true := by kernel_rfl
theorem bld_shape {w : World} {db : Nat} {p v q : Value} (h : Blk w db #[p, v, q] 46) : w.shape? db = some (46, 3) := by
 unfold Blk at h
 simp [World.shape?, h]
set_option maxHeartbeats 1000000 in
set_option maxRecDepth 100000 in
theorem ccheck_any (db : Nat) (p v q : Value) (w : World) (hp : p = .pointer none ∨ p = .pointer (some ⟨db, 0, none⟩)) (h : Blk w db #[p, v, q] 46) :
  Calls Tryz.prog 72 #[.pointer (some ⟨db, 0, none⟩)] w fun e w' => e = .returned (.tuple #[]) ∧ Blk w' db #[.pointer (some ⟨db, 0, none⟩), v, q] 46 ∧ Chg [db] w w' := by
 obtain ⟨j, hj, hjs⟩ := Option.map_eq_some_iff.1 bldSize
 have hsh := bld_shape h
 have lb := Blk.lt h
 have f0 := Blk.fz h 0
 have HH := hide h
 rcases hp with rfl | rfl
 ·have c0 : w.cell? ⟨db, 0, none⟩ = some (.pointer none) := Blk.cell h 0
  clear h
  go_enter Tryz.func72, Tryz.ntmps72
  go_wp2
  rw [Lib.run_to_unsafe w ⟨db, 0, none⟩ Tryz.underlying41 Tryz.underlying175 hj (by rw [hjs]; decide) hsh (Nat.zero_lt_succ 2)]
  simp only [Result.andThen]
  rw [Oper.upon_value]
  go_wp2
  rw [run_callFunc_extern Tryz.func102 (by kernel_rfl) (by kernel_rfl) (by kernel_rfl) (e := Extern.AbiNoEscape.same) (by kernel_rfl)]
  rw [Lib.run_noEscape]
  simp only [Result.andThen]
  rw [Oper.upon_value]
  go_wp2
  rw [Lib.run_from_unsafe w ⟨db, 0, none⟩ Tryz.underlying175 Tryz.underlying41 hj hsh bldLies]
  simp only [Result.andThen]
  rw [Oper.upon_value]
  go_wp2
  go_end0
  exact ⟨rfl, Blk.set (unhide HH) 0 _, (Chg.refl _ _).setCell (by simp) _⟩
 ·have c0 : w.cell? ⟨db, 0, none⟩ = some (.pointer (some ⟨db, 0, none⟩)) := Blk.cell h 0
  clear h
  go_enter Tryz.func72, Tryz.ntmps72
  go_wp2
  rw [Lib.run_neq_ptr_same w _ Tryz.underlying41 hj]
  go_wp2
  go_end0
  exact ⟨rfl, unhide HH, Chg.refl _ _⟩
theorem run_append_str_at {P : Program} (w : World) (base : Nat) (t u ty e : TypeId) (i : TypeInfo) (ht : P.underlying t = some (.slice e)) (hu : P.underlying u = some .string) (hi : P.info? e = some i) (hz : i.zero = some (.int .u8 0)) (hsize : i.size = 1) (hby : i.bytes = 1)
  (v : Value) (n : Nat) (xs : List Value) (hown : w.ownsRow base e 1 v n xs) (s : ByteArray) (hbytes : n + s.size ≤ 140737488355328) (hbase : base ≤ w.heap.size) :
  ∃ v' w', (Builtin.append_ #[t, u] ty #[v, .string s]).run P w = .ok v' w' ∧ w'.ownsRow base e 1 v' (n + s.size) (xs ++ Lib.strCells s) ∧ w.grownBy w' v.ownBlock ∧ (v' = .slice none 0 0 ↔ v = .slice none 0 0 ∧ s.size = 0) ∧ Pnx w v v' := by
 have h63 : n + s.size ≤ maxLen := by unfold maxLen; omega
 rcases hown.2 with ⟨rfl, rfl⟩ | ⟨g, cap, cur, rfl, hbg, hg, hnc, hcm, hcs, htake⟩
 ·obtain ⟨v', w', h1, h2, h3, h4⟩ := Lib.run_append_own_string (P := P) w w.heap.size t u ty e i ht hu hi hz hsize hby (.slice none 0 0) 0 xs ⟨hown.1, .inl ⟨rfl, rfl⟩⟩ s h63 hbytes (Nat.le_refl _)
  exact ⟨v', w', h1, ⟨h2.1, h2.2.imp id (fun ⟨g, c, cur, e1, hb, r⟩ => ⟨g, c, cur, e1, Nat.le_trans hbase hb, r⟩)⟩, h3, h4, fun g hg => .inr (h2.lt g hg).1⟩
 ·obtain ⟨v', w', h1, h2, h3, h4⟩ := Lib.run_append_own_string (P := P) w base t u ty e i ht hu hi hz hsize hby _ n xs hown s h63 hbytes hbase
  refine ⟨v', w', h1, h2, h3, h4, fun x hx => ?_⟩
  have hcs' : cur.size = cap := by simpa using hcs
  have hxl : xs.length = n := by simpa using hown.1
  by_cases hroom : n + s.size ≤ cap
  ·have hr := Lib.run_append_room_string (P := P) w t u ty e i ht hu hi hsize g n cap cur hg s hroom (by omega)
   rw [h1] at hr
   injection hr with e1 _
   subst e1
   exact .inl hx
  ·have holds : ∀ j u, xs[j]? = some u → w.cell? ((⟨g, 0, none⟩ : Addr).add j) = some u := hown.cells (g := g) rfl
   have hr := Lib.run_append_grow_string (P := P) w t u ty e i (.int .u8 0) ht hu hi hz ⟨g, 0, none⟩ n cap xs (by rw [hsize]; simpa using hxl) holds s (by omega) (by omega) (by rw [hby]; exact growslice_fits (by omega) (by omega))
   rw [h1] at hr
   injection hr with e1 _
   subst e1
   simp [Value.ownBlock] at hx
   exact .inr (by omega)
theorem wpList_append_str_at {P : Program} (w : World) {ops : Array Oper} {rest : List Oper} {o : Oper} {a : Act} {Q : Exit → Act → World → Prop} (hgd : o.guard = none) (sl x : Operand) (t u : TypeId)
  (ho : o.op = .call { callee := .builtin .append, args := #[sl, x], argTypes := #[t, u] })
  (base : Nat) (e : TypeId) (i : TypeInfo) (ht : P.underlying t = some (.slice e)) (hu : P.underlying u = some .string) (hi : P.info? e = some i) (hz : i.zero = some (.int .u8 0)) (hsize : i.size = 1) (hby : i.bytes = 1)
  (v : Value) (n : Nat) (xs : List Value) (hs : a.eval sl = v) (hown : w.ownsRow base e 1 v n xs) (s : ByteArray) (hx : a.eval x = .string s) (hbytes : n + s.size ≤ 140737488355328) (hbase : base ≤ w.heap.size)
  (h : ∀ v' w', w'.ownsRow base e 1 v' (n + s.size) (xs ++ Lib.strCells s) → w.grownBy w' v.ownBlock → (v' = .slice none 0 0 ↔ v = .slice none 0 0 ∧ s.size = 0) → Pnx w v v' → wpList P ops Q rest (a.put o.dst v') w') : wpList P ops Q (o :: rest) a w := by
 refine wpList_plain hgd fun K hK => ?_
 obtain ⟨v', w', hr, h2, h3, h4, h5⟩ := run_append_str_at (P := P) w base t u o.type e i ht hu hi hz hsize hby v n xs hown s hbytes hbase
 unfold Oper.wp execOp
 simp only [ho, resolve, invoke, builtin, Sem.run_bind, Sem.run_pure, Result.andThen_ok, List.map_toArray, List.map_cons, List.map_nil, hs, hx, hr]
 exact hK _ _ (h v' w' h2 h3 h4 h5)
theorem Bld.onto {w w' : World} {base db : Nat} {v v' q : Value} {told x : List UInt8} (h : Bld w base db (.pointer (some ⟨db, 0, none⟩)) v q told) (own : w'.ownsRow base 5 1 v' (told.length + x.length) (Lib.byteCells told ++ Lib.byteCells x)) (gr : w.grownBy w' v.ownBlock) (hn : v' = .slice none 0 0 ↔ v = .slice none 0 0 ∧ x.length = 0) (pn : Pnx w v v') :
  Bld (w'.setCell ⟨db, 1, none⟩ v') base db (.pointer (some ⟨db, 0, none⟩)) v' q (told ++ x) ∧ Chg (fp db v) w (w'.setCell ⟨db, 1, none⟩ v') := by
 have hl := h.blk.lt
 have hne : v'.ownBlock ≠ some db := fun e => by
  rcases pn _ e with e1 | e1
  ·exact h.ne e1
  ·omega
 refine ⟨⟨(h.blk.grew gr h.ne).set 1 v', .inr rfl, ?_, fun e => ?_⟩, ?_⟩
 ·rw [List.length_append, Lib.byteCells_append]
  exact own_keep own ((Chg.refl [db] w').setCell (p := ⟨db, 1, none⟩) (by simp) v') (by simpa using hne)
 ·have e1 : told = [] := (List.append_eq_nil_iff.1 e).1
  have e2 : x = [] := (List.append_eq_nil_iff.1 e).2
  exact hn.2 ⟨h.nl e1, by rw [e2]; rfl⟩
 ·exact ((Chg.refl (fp db v) w).grew gr (fun k hk => .inl (mem_fp.2 (.inr hk)))).setCell (p := ⟨db, 1, none⟩) (.inl (mem_fp.2 (.inl rfl))) _
theorem u8InfoB : (Tryz.prog.info? 5).map (fun i => (i.zero, i.size, i.bytes)) = some (some (.int .u8 0), 1, 1) := by kernel_rfl
set_option maxHeartbeats 2000000 in
set_option maxRecDepth 100000 in
theorem wbyte_any (base db : Nat) (p v q : Value) (told : List UInt8) (c : UInt8) (k : Int) (w : World) (h : Bld w base db p v q told) (hk : k = (c.toNat : Int)) (hb : base ≤ w.heap.size) (hl : told.length ≤ 1000000000) :
  Calls Tryz.prog 52 #[.pointer (some ⟨db, 0, none⟩), .int .u8 k] w fun e w' => e = .returned .nilIface ∧ ∃ v', Bld w' base db (.pointer (some ⟨db, 0, none⟩)) v' q (told ++ [c]) ∧ Chg (fp db v) w w' ∧ Pnx w v v' := by
 obtain ⟨i0, hi, hz0, hz1, hz2⟩ := kInfoParts u8InfoB
 have HH := hide h
 have HK := hide hk
 clear hk h
 go_enter Tryz.func52, Tryz.ntmps52
 go_wp2_with fail
 refine (ccheck_any db p v q _ (unhide HH).hp (unhide HH).blk).mono ?_
 rintro e w1 ⟨rfl, B1, g1⟩
 have r1 := own_keep (unhide HH).row g1 (by intro x hx; simp at hx; subst hx; exact (unhide HH).ne)
 have D1 : Bld w1 base db (.pointer (some ⟨db, 0, none⟩)) v q told := ⟨B1, .inr rfl, r1, (unhide HH).nl⟩
 have c1 : w1.cell? ⟨db, 1, none⟩ = some v := B1.cell 1
 have l1 := B1.lt
 have z1 := g1.size
 have HD := hide D1
 have HG := hide g1
 clear D1 r1 B1 g1
 go_wp2_with (at_builtin; refine wpList_append_own_at _ rfl (.tmp 11) (.tmp 13) 42 rfl base 5 i0 _ 1 1 Tryz.underlying42 hi hz0 hz1 hz2 rfl (by decide) v told.length (Lib.byteCells told) rfl ((unhide HD).row.alloc _) ⟨w1.heap.size, 0, none⟩ 1 1 [.int .u8 k] rfl rfl (Blk.new w1 #[.int .u8 k] _).news (by simp [Value.oneCell']) (by unfold maxLen; omega) (by omega) (by simp; omega) ?_; intro v2 w2 own2 gr2 nl2 at2; obtain ⟨g2, cc2, rfl, -, -, -⟩ := own_shape own2 (by omega); have B2 := (((unhide HD).blk).alloc _).grew gr2 (unhide HD).ne; have f2 := B2.fz 1; have d2 : w2.cell? ⟨db, 1, none⟩ = some v := B2.cell 1; have l2 := B2.lt; have OW := hide own2; have GR := hide gr2; have NL := hide nl2; have AT := hide at2; clear own2 gr2 nl2 at2)
 go_ret
 have Da : Bld (w1.alloc (.cells #[.int .u8 k] 5)) base db (.pointer (some ⟨db, 0, none⟩)) v q told := (unhide HD).keep ((Chg.refl [] w1).alloc _) (by simp)
 have hkk := unhide HK
 have OO := Da.onto (x := [c]) (v' := .slice (some ⟨g2, 0, none⟩) (told.length + 1) cc2) (by have := unhide OW; rw [hkk] at this; exact this) (unhide GR) (by simp) (fun x hx => by rcases unhide AT with e | e; exact .inl (by rw [← e]; exact hx); exact .inr (by rw [e] at hx; cases hx; exact Nat.le_refl _))
 refine ⟨rfl, _, OO.1, ((unhide HG).wide (cs := fp db v) (by intro x hx; simp at hx; subst hx; exact mem_fp.2 (.inl rfl))).trans (((Chg.refl [] w1).alloc _).wide (by simp) |>.trans OO.2 (fun x hx => .inl hx)) (fun x hx => .inl hx), fun x hx => ?_⟩
 rcases unhide AT with e | e
 ·exact .inl (by rw [← e]; exact hx)
 ·rw [e] at hx
  cases hx
  exact .inr (by simp; omega)
set_option maxHeartbeats 2000000 in
set_option maxRecDepth 100000 in
theorem wstr_any (base db : Nat) (p v q : Value) (told x : List UInt8) (w : World) (h : Bld w base db p v q told) (hb : base ≤ w.heap.size) (hl : told.length + x.length ≤ 1000000000) :
  Calls Tryz.prog 53 #[.pointer (some ⟨db, 0, none⟩), .string (strA x)] w fun e w' => e = .returned (.tuple #[.int .i64 x.length, .nilIface]) ∧ ∃ v', Bld w' base db (.pointer (some ⟨db, 0, none⟩)) v' q (told ++ x) ∧ Chg (fp db v) w w' ∧ Pnx w v v' := by
 obtain ⟨i0, hi, hz0, hz1, hz2⟩ := kInfoParts u8InfoB
 have HH := hide h
 have hsz := strA_size x
 clear h
 go_enter Tryz.func53, Tryz.ntmps53
 go_wp2_with fail
 refine (ccheck_any db p v q _ (unhide HH).hp (unhide HH).blk).mono ?_
 rintro e w1 ⟨rfl, B1, g1⟩
 have r1 := own_keep (unhide HH).row g1 (by intro x hx; simp at hx; subst hx; exact (unhide HH).ne)
 have D1 : Bld w1 base db (.pointer (some ⟨db, 0, none⟩)) v q told := ⟨B1, .inr rfl, r1, (unhide HH).nl⟩
 have c1 : w1.cell? ⟨db, 1, none⟩ = some v := B1.cell 1
 have l1 := B1.lt
 have z1 := g1.size
 have HD := hide D1
 have HG := hide g1
 clear D1 r1 B1 g1
 go_wp2_with (at_builtin; refine wpList_append_str_at w1 rfl (.tmp 12) (.tmp 13) 42 9 rfl base 5 i0 Tryz.underlying42 Tryz.underlying9 hi hz0 hz1 hz2 v told.length (Lib.byteCells told) rfl (unhide HD).row (strA x) rfl (by omega) (by omega) ?_; intro v2 w2 own2 gr2 nl2 at2; obtain ⟨a2, m2, cc2, rfl⟩ := own_slice own2; have B2 := ((unhide HD).blk).grew gr2 (unhide HD).ne; have f2 := B2.fz 1; have d2 : w2.cell? ⟨db, 1, none⟩ = some v := B2.cell 1; have l2 := B2.lt; have OW := hide own2; have GR := hide gr2; have NL := hide nl2; have AT := hide at2; clear own2 gr2 nl2 at2)
 go_ret2
 have e0 : Lib.strCells (strA x) = Lib.byteCells x := by rw [Lib.strCells_eq]; simp [strA]
 have OO := (unhide HD).onto (x := x) (by have := unhide OW; rw [strA_size, e0] at this; exact this) (unhide GR) (by have := unhide NL; rw [strA_size] at this; exact this) (unhide AT)
 exact ⟨rfl, _, OO.1, ((unhide HG).wide (cs := fp db v) (by intro x hx; simp at hx; subst hx; exact mem_fp.2 (.inl rfl))).trans OO.2 (fun x hx => .inl hx), fun y hy => (unhide AT y hy).imp id (fun h => by omega)⟩
theorem Chg.freeze (w : World) (g n : Nat) : Chg [g] w (w.freeze ⟨g, 0, none⟩ n) := by
 unfold World.freeze
 split
 ·exact Chg.refl _ _
 ·refine ⟨rfl, rfl, rfl, by simp, fun k _ hk => ?_⟩
  simp only [Array.getElem?_modify]
  rw [if_neg (by simpa using fun e => hk (by simp [e]))]
set_option maxHeartbeats 2000000 in
set_option maxRecDepth 100000 in
theorem bstring_any (base db : Nat) (p v q : Value) (told : List UInt8) (w : World) (h : Bld w base db p v q told) (hl : told.length ≤ 1000000000) :
  Calls Tryz.prog 16 #[.pointer (some ⟨db, 0, none⟩)] w fun e w' => e = .returned (.string (strA told)) ∧ Blk w' db #[p, v, q] 46 ∧ Chg (fp db v) w w' := by
 have HH := hide h
 have lb := h.blk.lt
 by_cases h0 : told = []
 ·have hv := h.nl h0
  subst h0
  subst hv
  have c1 : w.drew.cell? ⟨db, 1, none⟩ = some (.slice none 0 0) := h.blk.cell 1
  have hUS : ∀ (W : World) (a : Option Addr), (Builtin.unsafeString_ #[87, 3] 9 #[.pointer a, .int .i64 0]).run Tryz.prog W = .ok (.string .empty) W := fun W a => Lib.run_unsafeString_none W _ _ _ a
  have hSD : (Builtin.unsafeSliceData_ #[42] 87 #[.slice none 0 0]).run Tryz.prog w.drew = .ok (.pointer none) w.drew := rfl
  clear h
  go_enter Tryz.func16, Tryz.ntmps16
  go_wp2
  go_region
  all_goals (go_wp2; go_ret; exact ⟨rfl, (unhide HH).blk, (Chg.refl _ _).drew⟩)
 ·have hl0 : told.length ≠ 0 := by simpa using h0
  obtain ⟨g, cap, cur, rfl, hbg, hg, hnc, hcm, hcs, htake⟩ : ∃ g cap cur, v = .slice (some ⟨g, 0, none⟩) told.length cap ∧ base ≤ g ∧ w.heap[g]? = some (.cells cur 5) ∧ told.length ≤ cap ∧ cap ≤ maxLen ∧ cur.size = cap * 1 ∧ cur.toList.take (told.length * 1) = Lib.byteCells told := by
   rcases h.row.2 with ⟨_, hz⟩ | r
   ·exact absurd hz hl0
   ·exact r
  have hgb : g ≠ db := fun e => h.ne (by simp [Value.ownBlock, e])
  have c1 : w.drew.cell? ⟨db, 1, none⟩ = some (.slice (some ⟨g, 0, none⟩) told.length cap) := h.blk.cell 1
  have hSD : (Builtin.unsafeSliceData_ #[42] 87 #[.slice (some ⟨g, 0, none⟩) told.length cap]).run Tryz.prog w.drew = .ok (.pointer (some ⟨g, 0, none⟩)) w.drew := Lib.run_unsafeSliceData_row _ _ _ _ _ _ (by omega)
  have hUS : (Builtin.unsafeString_ #[87, 3] 9 #[.pointer (some ⟨g, 0, none⟩), .int .i64 told.length]).run Tryz.prog w.drew = .ok (.string ⟨told.toArray⟩) (w.drew.freeze ⟨g, 0, none⟩ told.length) := by
   refine Lib.run_unsafeString_row w.drew 87 3 9 5 Tryz.underlying87 (by kernel_rfl) g cur.size (by have hg' : w.drew.heap[g]? = some (.cells cur 5) := hg; simp [World.shape?, hg']) told h0 (by omega) (by omega) ?_
   intro j x hx
   exact (h.row.cells (g := g) rfl j (.int .u8 x.toNat) (by simp [Lib.byteCells, hx]))
  have HB := hide (show Blk (w.drew.freeze ⟨g, 0, none⟩ told.length) db #[p, .slice (some ⟨g, 0, none⟩) told.length cap, q] 46 from Blk.chg (show Blk w.drew db _ _ from h.blk) (Chg.freeze _ _ _) (by simpa using fun e => hgb e.symm))
  have HC := hide (show Chg (fp db (.slice (some ⟨g, 0, none⟩) told.length cap)) w (w.drew.freeze ⟨g, 0, none⟩ told.length) from ((Chg.refl _ w).drew).trans (Chg.freeze _ _ _) (by intro x hx; simp at hx; subst hx; exact .inl (mem_fp.2 (.inr rfl))))
  clear h hg htake hcs h0
  go_enter Tryz.func16, Tryz.ntmps16
  go_wp2
  go_region
  all_goals (go_wp2; go_ret; exact ⟨rfl, unhide HB, unhide HC⟩)
set_option maxRecDepth 100000 in
theorem breset_any (db : Nat) (p v q : Value) (w : World) (h : Blk w db #[p, v, q] 46) :
  Calls Tryz.prog 17 #[.pointer (some ⟨db, 0, none⟩)] w fun e w' => e = .returned (.tuple #[]) ∧ Blk w' db #[.pointer none, .slice none 0 0, q] 46 ∧ Chg [db] w w' := by
 have c0 : w.cell? ⟨db, 0, none⟩ = some p := Blk.cell h 0
 have c1 : w.cell? ⟨db, 1, none⟩ = some v := Blk.cell h 1
 have f0 := Blk.fz h 0
 have f1 := Blk.fz h 1
 have lb := Blk.lt h
 have HH := hide h
 clear h
 go_enter Tryz.func17, Tryz.ntmps17
 go_wp2
 go_end0
 exact ⟨rfl, ((unhide HH).set 0 _).set 1 _, ((Chg.refl _ _).setCell (by simp) _).setCell (by simp) _⟩
theorem dwbyte {W0 w : World} {M : Dm} {s : Gd} {told : List UInt8} (D : Dq W0 w M s told) (db : Nat) (hdb : M.db = db) (c : UInt8) (k : Int) (hk : k = (c.toNat : Int)) (hl : told.length ≤ 1000000000) :
  Calls Tryz.prog 52 #[.pointer (some ⟨db, 0, none⟩), .int .u8 k] w fun e w' => e = .returned .nilIface ∧ ∃ M', Dqn W0 w M w' M' s (told ++ [c]) ∧ M'.g = M.g := by
 subst hdb
 obtain ⟨p, hB⟩ := D.d
 refine (wbyte_any W0.heap.size M.db p M.v _ told c k w hB hk D.c.ch.size hl).mono ?_
 rintro e w' ⟨rfl, v', B, g, pn⟩
 exact ⟨rfl, _, D.wrote g B pn, rfl⟩
theorem dwstr {W0 w : World} {M : Dm} {s : Gd} {told : List UInt8} (D : Dq W0 w M s told) (db : Nat) (hdb : M.db = db) (x : List UInt8) (hl : told.length + x.length ≤ 1000000000) :
  Calls Tryz.prog 53 #[.pointer (some ⟨db, 0, none⟩), .string (strA x)] w fun e w' => e = .returned (.tuple #[.int .i64 x.length, .nilIface]) ∧ ∃ M', Dqn W0 w M w' M' s (told ++ x) ∧ M'.g = M.g := by
 subst hdb
 obtain ⟨p, hB⟩ := D.d
 refine (wstr_any W0.heap.size M.db p M.v _ told x w hB D.c.ch.size hl).mono ?_
 rintro e w' ⟨rfl, v', B, g, pn⟩
 exact ⟨rfl, _, D.wrote g B pn, rfl⟩
theorem joinW_len_take {l : List (List UInt8)} (k : Nat) : (joinW (l.take k)).length ≤ (joinW l).length := by
 cases l with
 | nil => simp
 | cons x r =>
  cases k with
  | zero => simp [joinW]
  | succ k =>
   rw [List.take_succ_cons]
   unfold joinW
   rw [List.length_append, List.length_append]
   have h : (r.flatMap (fun x => 32 :: x)) = ((r.take k).flatMap (fun x => 32 :: x)) ++ ((r.drop k).flatMap (fun x => 32 :: x)) := by rw [← List.flatMap_append, List.take_append_drop]
   rw [h, List.length_append]
   omega
set_option maxRecDepth 100000 in
set_option maxHeartbeats 4000000 in
theorem say_allG (W0 : World) (M : Dm) (s : Gd) (told : List UInt8) (a : Option Addr) (n c : Nat) (ws : List (List UInt8)) (w : World) (D : Dq W0 w M s told) (hS : StrsF w M a ws) (hl : ws.length = n) (hn : n ≤ 1000000) (hb : told.length + (joinW ws).length ≤ 999999999) :
  Calls Tryz.prog 28 #[.pointer (some ⟨M.db, 0, none⟩), .slice a n c] w fun e w' => e = .returned (.tuple #[]) ∧ ∃ M', Dqn W0 w M w' M' s (told ++ (joinW ws ++ [10])) ∧ M'.g = M.g := by
 have HD := hide D
 have HS := hide hS
 have HL := hide hl
 clear D hS hl
 go_enter Tryz.func28, Tryz.ntmps28
 go_wp2_with fail
 go_loopw [8] (fun i wr => ∃ (k : Nat) (M1 : Dm), k ≤ n ∧ i = .int .i64 k ∧ Dqn W0 w M wr M1 s (told ++ joinW (ws.take k)) ∧ M1.g = M.g) (fun i _ => n - (intOf i).toNat)
 case atStart => exact ⟨0, M, by omega, rfl, by rw [List.take_zero, show joinW [] = [] from rfl, List.append_nil]; exact Dqn.refl (unhide HD), rfl⟩
 case round =>
  obtain ⟨k, M1, hk, rfl, X, hMg⟩ := hrel
  have HMG := hide hMg
  clear hMg
  have HX := hide X
  have HJ := hide (joinW_len_take (l := ws) k)
  by_cases hlt : k < n
  ·have hki : (k : Int) < (n : Int) := by omega
   have hk0 : (0 : Int) ≤ (k : Int) := by omega
   obtain ⟨x, hx⟩ : ∃ x, ws[k]? = some x := ⟨_, List.getElem?_eq_getElem (by rw [unhide HL]; exact hlt)⟩
   rcases (unhide HS).next X with h0 | ⟨g, off, rfl, hg, hgn, hc⟩
   ·exfalso; have := unhide HL; rw [h0] at this; simp at this; omega
   have p0 := hc k x hx
   have HT := hide (joinW_take hx)
   have HJ1 := hide (joinW_len_take (l := ws) (k + 1))
   clear hc hx X
   by_cases h0 : k = 0
   ·subst h0
    have p1 : wr.cell? ⟨g, off, none⟩ = some (.string (strA x)) := p0
    have HT0 := hide (show joinW (ws.take 1) = x by have := unhide HT; simpa using this)
    have HLX := hide (show told.length + x.length ≤ 999999999 by have := unhide HJ1; rw [unhide HT0] at this; omega)
    have HX0 := hide (show Dqn W0 w M wr M1 s told by have := unhide HX; rw [List.take_zero, show joinW [] = [] from rfl, List.append_nil] at this; exact this)
    go_wp2_with fail
    refine (dwstr (unhide HX0).k M.db (unhide HX0).db x (by have := unhide HLX; omega)).mono ?_
    rintro e w2 ⟨rfl, M2, X2, g2⟩
    have HG2 := hide (g2.trans (unhide HMG))
    clear g2
    have HX2 := hide ((unhide HX0).trans X2)
    clear X2
    go_wp2
    go_roundw
    case rel => exact ⟨1, M2, by omega, by go_num, by rw [unhide HT0]; exact unhide HX2, unhide HG2⟩
    case measure => go_light; simp [intOf]; omega
   ·have hk1 : (k : Int) > 0 := by omega
    have hk2 : (0 : Int) < (k : Int) := by omega
    have HT0 := hide (show joinW (ws.take (k + 1)) = joinW (ws.take k) ++ (32 :: x) by have := unhide HT; rw [if_neg h0] at this; exact this)
    have HLX := hide (show told.length + (joinW (ws.take k)).length + 1 + x.length ≤ 999999999 by have := unhide HJ1; rw [unhide HT0, List.length_append, List.length_cons] at this; omega)
    have hgz := hg
    go_wp2_with fail
    refine (dwbyte (unhide HX).k M.db (unhide HX).db 32 32 rfl (by have := unhide HLX; rw [List.length_append]; omega)).mono ?_
    rintro e w2 ⟨rfl, M2, X2, g2⟩
    have HG2 := hide (g2.trans (unhide HMG))
    clear g2
    have HX2 := hide ((unhide HX).trans X2)
    clear X2
    go_wp2_with fail
    refine (dwstr (unhide HX2).k M.db (unhide HX2).db x (by have := unhide HLX; rw [List.length_append, List.length_append]; simp; omega)).mono ?_
    rintro e w3 ⟨rfl, M3, X3, g3⟩
    have HG3 := hide (g3.trans (unhide HG2))
    clear g3
    have HX3 := hide ((unhide HX2).trans X3)
    clear X3
    go_wp2
    go_roundw
    case rel => exact ⟨k + 1, M3, by omega, by go_num, by have := unhide HX3; rw [unhide HT0]; simpa [List.append_assoc] using this, unhide HG3⟩
    case measure => go_light; simp [intOf]; omega
  ·have hki : ¬ (k : Int) < (n : Int) := by omega
   have HT := hide (show ws.take k = ws by rw [show k = ws.length by rw [unhide HL]; omega, List.take_length])
   clear X
   go_wp2_with fail
   refine (dwbyte (unhide HX).k M.db (unhide HX).db 10 10 rfl (by have := unhide HJ; rw [List.length_append]; omega)).mono ?_
   rintro e w2 ⟨rfl, M2, X2, g2⟩
   have HG2 := hide (g2.trans (unhide HMG))
   clear g2
   have HX2 := hide ((unhide HX).trans X2)
   clear X2
   go_wp2
   go_end0
   exact ⟨rfl, M2, by have := unhide HX2; rw [unhide HT, List.append_assoc] at this; exact this, unhide HG2⟩
theorem say_all (W0 : World) (M : Dm) (s : Gd) (told : List UInt8) (a : Option Addr) (n c : Nat) (ws : List (List UInt8)) (w : World) (D : Dq W0 w M s told) (hS : StrsF w M a ws) (hl : ws.length = n) (hn : n ≤ 1000000) (hb : told.length + (joinW ws).length ≤ 999999999) :
  Calls Tryz.prog 28 #[.pointer (some ⟨M.db, 0, none⟩), .slice a n c] w fun e w' => e = .returned (.tuple #[]) ∧ ∃ M', Dqn W0 w M w' M' s (told ++ (joinW ws ++ [10])) := by
 refine (say_allG W0 M s told a n c ws w D hS hl hn hb).mono ?_
 rintro e w' ⟨rfl, M', X, -⟩
 exact ⟨rfl, M', X⟩
end Go.Proofs.YtllnjiljjodfdacGreatDoor
