/-
 The document's own guild in memory; who owns which block. Nothing here is claimed by itself.
-/
import Derived.Test.YtllnjiljjodfdacGreatDoorQgG2
import Derived.Test.YtllnjiljjodfdacGreatDoorQgN3
namespace Go.Proofs.YtllnjiljjodfdacGreatDoor
open Go.RowKit

set_option maxRecDepth 100000 in
set_option maxHeartbeats 4000000 in
theorem opened_nw {tp : TypeId} {rest : Array Value} (pb : Nat) (ep : Int) (u : Value) (l : List Int) (w : World) (P : Plt tp rest w pb ep u l) (h0 : 0 ≤ ep) (h1 : ¬ 100 ≤ ep) :
  Calls Tryz.prog 66 #[.pointer (some ⟨pb, 0, none⟩)] w fun e w' => ∃ vb u', e = .returned (.tuple #[.pointer (some ⟨vb, 0, none⟩), .int .i64 0]) ∧ w.heap.size ≤ vb ∧ vb ∉ fp pb u' ∧
   Vgr 106 w' vb (behindT (keptL l ep)) pb (ep + 1) false ∧ Plt tp rest w' pb (ep + 1) u' (bytesL (keptL l ep)) ∧ Chg [pb] w w' ∧ Pnx w u u' := by
 obtain ⟨c0, c1, hl, f0, f1⟩ := P.cells
 have hfew := P.few
 obtain ⟨kb1, kb2⟩ := keptL_bytes P.ok ep
 have KB := hide kb1
 have hok := hide P.ok
 have HQ : Hid ((allR l.length (getB l)).length ≤ 4000) := hide (by have := (recsL_back P.ok).2.1; unfold recsL at this; omega)
 clear kb1
 have HP := hide P
 clear P
 have h1 : ep < 100 := by omega
 go_enter Tryz.func66, Tryz.ntmps66
 go_wp2_with fail
 refine (praise_more pb ep u l _ (unhide HP) h0 (by omega)).mono ?_
 rintro e w2 ⟨rfl, P2, g2⟩
 have z2 := g2.size
 obtain ⟨d0, d1, dl, -, -⟩ := P2.cells
 obtain ⟨a2, c2, rfl, hc2, hB2⟩ := sl_byt P2.sl (unhide hok)
 obtain ⟨m, hm⟩ : ∃ m, m = (keptL l ep).length := ⟨_, rfl⟩
 have HM := hide hm
 have HU : Hid ((untilR (allR l.length (getB l)) ep).length = m) := hide hm.symm
 have hm9 : 9 * m ≤ l.length := by rw [hm]; exact kb2
 clear c0 c1 f0 f1 hm kb2
 go_wp2_with (first
  | (go_at_call 69; refine (rsof_any a2 l.length c2 (getB l) _ (by omega) hc2 hB2).mono ?_; rintro e w3 ⟨v3, rfl, own3, g3⟩; obtain ⟨a3, c3, rfl, hc3, -, R3⟩ := own_recs own3 rfl; have HO3 := hide own3; have HR3 := hide R3; have P3 := P2.chg g3 (by simp); have G3 : Chg [pb] w w3 := g2.trans g3 (by simp); have z3 := g3.size; clear own3 g3 R3)
  | (go_at_call 91; refine (until_any a3 c3 (allR l.length (getB l)) ep _ hc3 (unhide HQ) (unhide HR3)).mono ?_; rintro e w' ⟨rfl, rfl⟩; rw [unhide HU])
  | (go_at_call 92; refine (pcut_nine pb (ep + 1) _ l m _ P3 (by omega) hm9).mono ?_; rintro e w4 ⟨rfl, u4, P4, g4, n4⟩; have G4 := G3.trans g4 (by simp); have z4 := g4.size; have HO4 := hide (own_keep (unhide HO3) g4 (by intro x hx e; simp at hx; subst hx; have := ((unhide HO3).lt _ e).1; omega)); clear g4)
  | (go_at_call 93; refine (behind_any a3 m c3 (keptL l ep) _ (unhide HM).symm (by omega) (((Recs.own (unhide HO4) rfl).le (by rw [← unhide HU]; exact untilR_len _ _)).congr (fun i hi => by unfold keptL recsL; rw [untilR_pre, unhide HU, atR_take _ _ _ hi]))).mono ?_; rintro e w5 ⟨rfl, hB5, g5⟩; have P5 := P4.chg g5 (by simp); have G5 := G4.trans g5 (by simp); have z5 := hB5.lt; clear g5)
  | (refine wpList_load_tab 103 brdRow brdInfo rfl _ rfl w4.heap.size rfl 103 (behindT (keptL l ep)) ?hs ?_; (case hs => exact hB5); unfold Tb.cells))
 go_ret2
 have hP : Plt tp rest w5 pb (ep + 1) u4 (bytesL (keptL l ep)) := by rw [← unhide KB, ← unhide HM]; exact P5
 exact ⟨w5.heap.size, u4, rfl, by omega, fun hf => absurd (hP.fp_lt _ hf) (by omega), Blk.new w5 _ _, hP.alloc _, G5.alloc _, n4.mono (by omega)⟩
structure Cm where
 cb : Nat
 u : Value
 vb : Nat → Nat
 own : Nat → Nat
def cRest (m : Cm) (s : Gd) : Array Value := #[slotV (s.ns 0) (m.vb 0), slotV (s.ns 1) (m.vb 1), slotV (s.ns 2) (m.vb 2), .int .i64 s.now]
structure Chp (W0 w : World) (m : Cm) (s : Gd) : Prop where
 plt : Plt 53 (cRest m s) w m.cb s.d.ep m.u s.d.l
 vgr : ∀ i n, i < 3 → s.ns i = some n → Vn w (m.vb i) m.cb n
 pl : ∃ rs t, PlG s rs t
 op : ∀ x ∈ fp m.cb m.u, m.own x = 4
 ov : ∀ i n, i < 3 → s.ns i = some n → m.own (m.vb i) = 6 + i
 lo : ∀ x, x < W0.heap.size → m.own x = 100
 ch : Chg [] W0 w
structure Cnx (W0 w : World) (m : Cm) (w' : World) (m' : Cm) (s' : Gd) : Prop where
 c : Chp W0 w' m' s'
 cb : m'.cb = m.cb
 ow : ∀ x, x < w.heap.size → m.own x = 100 → m'.own x = 100
 ch : ∃ bs, Chg bs w w' ∧ ∀ x ∈ bs, m.own x ≠ 100 ∧ x < w.heap.size
theorem crw_at (m : Cm) (n : Nat) {x : Nat} (h : n ≤ x) : ({ m with own := grw n m.own (fun _ => 100) } : Cm).own x = 100 := by dsimp only; rw [grw_new h]
theorem crw_as (m : Cm) (n : Nat) {x : Nat} (h : x < n) (e : m.own x = 100) : ({ m with own := grw n m.own (fun _ => 100) } : Cm).own x = 100 := by dsimp only; rw [grw_old h]; exact e
theorem two_setN (a b x : Value) (r : Array Value) (i : Nat) : (#[a, b] ++ r).setIfInBounds (2 + i) x = #[a, b] ++ r.setIfInBounds i x := by
 rw [Array.setIfInBounds_append_right (by simp)]
 simp
theorem two_atN (a b : Value) (r : Array Value) (i : Nat) : (#[a, b] ++ r)[2 + i]? = r[i]? := by
 rw [Array.getElem?_append_right (by simp)]
 simp
theorem Plt.setRest {ty : TypeId} {rest : Array Value} {w : World} {b : Nat} {ep : Int} {v : Value} {l : List Int} (h : Plt ty rest w b ep v l) (i : Nat) (x : Value) : Plt ty (rest.setIfInBounds i x) (w.setCell ⟨b, 2 + i, none⟩ x) b ep v l := by
 have g := (Chg.refl [b] w).setCell (p := ⟨b, 2 + i, none⟩) (by simp) x
 refine ⟨?_, h.sl.chg g (by intro y hy; simp at hy; subst hy; exact h.ne), h.few, h.ok, h.ne, fun g' hg => by simpa using h.lt g' hg⟩
 have := h.blk.set (2 + i) x
 rw [two_setN] at this
 exact this
section
variable {W0 w w' : World} {m : Cm} {s : Gd}
theorem Chp.base (h : Chp W0 w m s) {x : Nat} (hx : m.own x ≠ 100) : W0.heap.size ≤ x := by
 rcases Nat.lt_or_ge x W0.heap.size with h1 | h1
 ·exact absurd (h.lo x h1) hx
 ·exact h1
theorem Chp.pos (h : Chp W0 w m s) {i : Nat} {n : Nd} (hi : i < 3) (hn : s.ns i = some n) : 1 ≤ s.d.ep ∧ s.d.ep ≤ 100 ∧ Inv n.T := by
 obtain ⟨rs, t, pl⟩ := h.pl
 have := pl.le i n hi hn
 exact ⟨by omega, pl.e1, pl.inv i n hi hn⟩
theorem Chp.keep (h : Chp W0 w m s) {bs : List Nat} (k : Chg bs w w') (hb : ∀ x ∈ bs, m.own x = 100 ∧ W0.heap.size ≤ x) : Chp W0 w' m s := by
 have no : ∀ x, m.own x ≠ 100 → x ∉ bs := fun x hx hm => hx (hb x hm).1
 exact ⟨h.plt.chg k (fun x hx hf => no x (by rw [h.op x hf]; decide) hx), fun i n hi hn => (h.vgr i n hi hn).chg k (no _ (by rw [h.ov i n hi hn]; omega)), h.pl, h.op, h.ov, h.lo, h.ch.trans k (fun x hx => .inr (hb x hx).2)⟩
theorem Chp.tell (h : Chp W0 w m s) (f : Nat → Nat) : Chp W0 w { m with own := grw w.heap.size m.own f } s :=
 ⟨h.plt, h.vgr, h.pl, (fun x hx => by dsimp only; rw [grw_old (h.plt.fp_lt x hx)]; exact h.op x hx), (fun i n hi hn => by dsimp only; rw [grw_old (h.vgr i n hi hn).lt]; exact h.ov i n hi hn), (fun x hx => by dsimp only; rw [grw_old (Nat.lt_of_lt_of_le hx h.ch.size)]; exact h.lo x hx), h.ch⟩
theorem Chp.fresh (h : Chp W0 w m s) (k : Chg [] w w') : Chp W0 w' { m with own := grw w.heap.size m.own (fun _ => 100) } s := (h.tell _).keep k (by simp)
theorem Cnx.refl (h : Chp W0 w m s) : Cnx W0 w m w m s := ⟨h, rfl, fun _ _ e => e, [], Chg.refl _ _, by simp⟩
theorem Cnx.pre {w2 : World} {m' : Cm} {s' : Gd} (k : Chg [] w w2) (h : Cnx W0 w2 { m with own := grw w.heap.size m.own (fun _ => 100) } w' m' s') : Cnx W0 w m w' m' s' := by
 obtain ⟨bs, c, hb⟩ := h.ch
 have hb' : ∀ x ∈ bs, m.own x ≠ 100 ∧ x < w.heap.size := fun x hx => by
  have h1 := (hb x hx).1
  rcases Nat.lt_or_ge x w.heap.size with h2 | h2
  ·have h1' : grw w.heap.size m.own (fun _ => 100) x ≠ 100 := h1
   rw [grw_old h2] at h1'
   exact ⟨h1', h2⟩
  ·have h1' : grw w.heap.size m.own (fun _ => 100) x ≠ 100 := h1
   rw [grw_new h2] at h1'
   exact absurd rfl h1'
 refine ⟨h.c, h.cb, fun x hx e => h.ow x (Nat.lt_of_lt_of_le hx k.size) (by dsimp only; rw [grw_old hx]; exact e), bs, ?_, hb'⟩
 exact (k.wide (cs := bs) (by simp)).trans c (fun x hx => .inl hx)
theorem Cnx.post {w2 : World} {m' : Cm} {s' : Gd} (h : Cnx W0 w m w' m' s') {bs : List Nat} (k : Chg bs w' w2) (hb : ∀ x ∈ bs, m'.own x = 100 ∧ w.heap.size ≤ x) (hw : W0.heap.size ≤ w.heap.size) : Cnx W0 w m w2 m' s' := by
 obtain ⟨cs, c, hc⟩ := h.ch
 refine ⟨h.c.keep k (fun x hx => ⟨(hb x hx).1, Nat.le_trans hw (hb x hx).2⟩), h.cb, h.ow, cs, ?_, hc⟩
 exact c.trans k (fun x hx => .inr (hb x hx).2)
theorem Cnx.blk {m' : Cm} {s' : Gd} (h : Cnx W0 w m w' m' s') {b : Nat} {c : Array Value} {t : TypeId} (hb : Blk w b c t) (ho : m.own b = 100) : Blk w' b c t := by
 obtain ⟨bs, k, hbs⟩ := h.ch
 exact hb.chg k (fun hm => (hbs b hm).1 ho)
theorem cRest_up {i : Nat} {n n' : Nd} {d' : Dk} {u' : Value} {own' : Nat → Nat} (hn : s.ns i = some n) : cRest { m with u := u', own := own' } ⟨s.now, d', upG s.ns i n'⟩ = cRest m s := by
 have q : ∀ j, slotV (upG s.ns i n' j) (m.vb j) = slotV (s.ns j) (m.vb j) := fun j => by
  by_cases e : j = i
  ·subst e; rw [upG_same, hn]; rfl
  ·rw [upG_other _ _ e]
 unfold cRest
 simp only [q]
theorem Chp.verOp (h : Chp W0 w m s) {i : Nat} (hi : i < 3) {n n' : Nd} (hn : s.ns i = some n) {u' : Value} {d' : Dk} (hd : d'.ep = s.d.ep) (V : Vn w' (m.vb i) m.cb n') (P : Plt 53 (cRest m s) w' m.cb s.d.ep u' d'.l)
  (g : Chg [m.vb i, m.cb] w w') (nx : Pnx w m.u u') (pl : ∃ rs t, PlG ⟨s.now, d', upG s.ns i n'⟩ rs t) :
  Cnx W0 w m w' { m with u := u', own := grw w.heap.size m.own (fun _ => 4) } ⟨s.now, d', upG s.ns i n'⟩ := by
 have hb : ∀ x ∈ [m.vb i, m.cb], (m.own x = 4 ∨ m.own x = 6 + i) ∧ x < w.heap.size := fun x hx => by
  rcases List.mem_cons.1 hx with rfl | hx
  ·exact ⟨.inr (h.ov i n hi hn), (h.vgr i n hi hn).lt⟩
  ·simp at hx
   subst hx
   exact ⟨.inl (h.op _ (mem_fp.2 (.inl rfl))), h.plt.blk.lt⟩
 have ne : ∀ y c, m.own y = c → c ≠ 4 → c ≠ 6 + i → y ∉ [m.vb i, m.cb] := fun y c e h1 h2 hx => by rcases (hb y hx).1 with e1 | e1 <;> omega
 refine ⟨⟨?_, fun j y hj hy => ?_, pl, fun x hx => ?_, fun j y hj hy => ?_, (fun x hx => by dsimp only; rw [grw_old (Nat.lt_of_lt_of_le hx h.ch.size)]; exact h.lo x hx), h.ch.trans g (fun x hx => .inr (h.base (by rcases (hb x hx).1 with e | e <;> omega)))⟩, rfl, (fun x hx e => by dsimp only; rw [grw_old hx]; exact e), _, g, fun x hx => ⟨by rcases (hb x hx).1 with e | e <;> omega, (hb x hx).2⟩⟩
 ·rw [cRest_up hn, hd]
  exact P
 ·by_cases e : j = i
  ·subst e
   have hy' : upG s.ns j n' j = some y := hy
   rw [upG_same] at hy'
   cases hy'
   exact V
  ·have hy' : upG s.ns i n' j = some y := hy
   rw [upG_other _ _ e] at hy'
   exact (h.vgr j y hj hy').chg g (ne _ _ (h.ov j y hj hy') (by omega) (by omega))
 ·dsimp only
  rcases mem_fp.1 hx with e | e
  ·rw [e, grw_old h.plt.blk.lt]; exact h.op _ (mem_fp.2 (.inl rfl))
  ·rcases nx x e with e1 | e1
   ·rw [grw_old (h.plt.fp_lt x (mem_fp.2 (.inr e1)))]; exact h.op _ (mem_fp.2 (.inr e1))
   ·rw [grw_new e1]
 ·dsimp only
  by_cases e : j = i
  ·subst e
   rw [grw_old (h.vgr j n hj hn).lt]
   exact h.ov j n hj hn
  ·have hy' : upG s.ns i n' j = some y := hy
   rw [upG_other _ _ e] at hy'
   rw [grw_old (h.vgr j y hj hy').lt]
   exact h.ov j y hj hy'
theorem cRest_open {i vb' : Nat} (hi : i < 3) {n' : Nd} {d' : Dk} {u' : Value} {own' : Nat → Nat} : (cRest m s).setIfInBounds i (.pointer (some ⟨vb', 0, none⟩)) = cRest { m with u := u', vb := upB m.vb i vb', own := own' } ⟨s.now, d', upG s.ns i n'⟩ := by
 obtain rfl | rfl | rfl : i = 0 ∨ i = 1 ∨ i = 2 := by omega
 all_goals simp [cRest, upB, upG, slotV]
theorem Chp.openOp (h : Chp W0 w m s) {i : Nat} (hi : i < 3) {vb' : Nat} {u' : Value} (he : ¬ s.d.ep = 100) (V : Vn w' vb' m.cb (openN s.d)) (P : Plt 53 (cRest m s) w' m.cb (openD s.d).ep u' (openD s.d).l) (g : Chg [m.cb] w w') (nx : Pnx w m.u u')
  (h1 : vb' ∉ fp m.cb u') (h3 : w.heap.size ≤ vb') :
  Cnx W0 w m (w'.setCell ⟨m.cb, 2 + i, none⟩ (.pointer (some ⟨vb', 0, none⟩))) { m with u := u', vb := upB m.vb i vb', own := grw w.heap.size m.own (fun x => if x = vb' then 6 + i else 4) } ⟨s.now, openD s.d, upG s.ns i (openN s.d)⟩ := by
 have lcb := h.plt.blk.lt
 have g0 := (Chg.refl [m.cb] w').setCell (p := ⟨m.cb, 2 + i, none⟩) (by simp) (.pointer (some ⟨vb', 0, none⟩))
 obtain ⟨rs, t, pl⟩ := h.pl
 have G : Chg [m.cb] w (w'.setCell ⟨m.cb, 2 + i, none⟩ (.pointer (some ⟨vb', 0, none⟩))) := g.setCell (p := ⟨m.cb, 2 + i, none⟩) (by simp) _
 have ocb : m.own m.cb = 4 := h.op _ (mem_fp.2 (.inl rfl))
 have hb : ∀ x ∈ [m.cb], m.own x ≠ 100 ∧ x < w.heap.size := fun x hx => by simp at hx; subst hx; exact ⟨by rw [ocb]; decide, lcb⟩
 refine ⟨⟨?_, fun j y hj hy => ?_, ⟨rs, [], pl.opens he⟩, fun x hx => ?_, fun j y hj hy => ?_, (fun x hx => by dsimp only; rw [grw_old (Nat.lt_of_lt_of_le hx h.ch.size)]; exact h.lo x hx), h.ch.trans G (fun x hx => .inr (h.base (hb x hx).1))⟩, rfl, (fun x hx e => by dsimp only; rw [grw_old hx]; exact e), _, G, hb⟩
 ·rw [← cRest_open hi]
  exact P.setRest i _
 ·by_cases e : j = i
  ·subst e
   have hy' : upG s.ns j (openN s.d) j = some y := hy
   rw [upG_same] at hy'
   cases hy'
   dsimp only
   rw [upB_same]
   exact V.chg g0 (by simp; omega)
  ·have hy' : upG s.ns i (openN s.d) j = some y := hy
   rw [upG_other _ _ e] at hy'
   dsimp only
   rw [upB_other _ _ e]
   exact (h.vgr j y hj hy').chg G (by intro q; simp at q; have := h.ov j y hj hy'; rw [q, ocb] at this; omega)
 ·dsimp only
  rcases mem_fp.1 hx with e | e
  ·rw [e, grw_old lcb]; exact ocb
  ·rcases nx x e with e1 | e1
   ·rw [grw_old (h.plt.fp_lt x (mem_fp.2 (.inr e1)))]; exact h.op _ (mem_fp.2 (.inr e1))
   ·rw [grw_new e1, if_neg (fun (q : x = vb') => h1 (q ▸ hx))]
 ·dsimp only
  by_cases e : j = i
  ·subst e
   rw [upB_same, grw_new h3, if_pos rfl]
  ·have hy' : upG s.ns i (openN s.d) j = some y := hy
   rw [upG_other _ _ e] at hy'
   rw [upB_other _ _ e, grw_old (h.vgr j y hj hy').lt]
   exact h.ov j y hj hy'
theorem Chp.fullOp (h : Chp W0 w m s) (P : Plt 53 (cRest m s) w' m.cb s.d.ep m.u s.d.l) (g : Chg [m.cb] w w') : Cnx W0 w m w' m s := by
 have ocb : m.own m.cb = 4 := h.op _ (mem_fp.2 (.inl rfl))
 have hb : ∀ x ∈ [m.cb], m.own x ≠ 100 ∧ x < w.heap.size := fun x hx => by simp at hx; subst hx; exact ⟨by rw [ocb]; decide, h.plt.blk.lt⟩
 exact ⟨⟨P, fun j y hj hy => (h.vgr j y hj hy).chg g (by intro q; simp at q; have := h.ov j y hj hy; rw [q, ocb] at this; omega), h.pl, h.op, h.ov, h.lo, h.ch.trans g (fun x hx => .inr (h.base (hb x hx).1))⟩, rfl, fun _ _ e => e, _, g, hb⟩
theorem Chp.tickOp (h : Chp W0 w m s) {now' : Int} (pl : ∃ rs t, PlG ⟨now', s.d, s.ns⟩ rs t) : Cnx W0 w m (w.setCell ⟨m.cb, 5, none⟩ (.int .i64 now')) m ⟨now', s.d, s.ns⟩ := by
 have ocb : m.own m.cb = 4 := h.op _ (mem_fp.2 (.inl rfl))
 have hb : ∀ x ∈ [m.cb], m.own x ≠ 100 ∧ x < w.heap.size := fun x hx => by simp at hx; subst hx; exact ⟨by rw [ocb]; decide, h.plt.blk.lt⟩
 have g := (Chg.refl [m.cb] w).setCell (p := ⟨m.cb, 5, none⟩) (by simp) (.int .i64 now')
 exact ⟨⟨h.plt.setRest 3 (.int .i64 now'), fun j y hj hy => (h.vgr j y hj hy).chg g (by intro q; simp at q; have := h.ov j y hj hy; rw [q, ocb] at this; omega), pl, h.op, h.ov, h.lo, h.ch.trans g (fun x hx => .inr (h.base (hb x hx).1))⟩, rfl, fun _ _ e => e, _, g, hb⟩
theorem Chp.cells (h : Chp W0 w m s) : w.cell? ⟨m.cb, 0, none⟩ = some (.int .i64 s.d.ep) ∧ w.cell? ⟨m.cb, 1, none⟩ = some m.u ∧ w.cell? ⟨m.cb, 2, none⟩ = some (slotV (s.ns 0) (m.vb 0)) ∧ w.cell? ⟨m.cb, 3, none⟩ = some (slotV (s.ns 1) (m.vb 1)) ∧ w.cell? ⟨m.cb, 4, none⟩ = some (slotV (s.ns 2) (m.vb 2)) ∧ w.cell? ⟨m.cb, 5, none⟩ = some (.int .i64 s.now) ∧ m.cb < w.heap.size :=
 ⟨h.plt.cells.1, h.plt.cells.2.1, (h.plt.blk.cell (2 + 0)).trans (two_atN _ _ _ 0), (h.plt.blk.cell (2 + 1)).trans (two_atN _ _ _ 1), (h.plt.blk.cell (2 + 2)).trans (two_atN _ _ _ 2), (h.plt.blk.cell (2 + 3)).trans (two_atN _ _ _ 3), h.plt.blk.lt⟩
end
set_option maxRecDepth 100000 in
set_option maxHeartbeats 4000000 in
theorem cstep_open_lo (W0 : World) (m : Cm) (s : Gd) (x : Sp) (w : World) (h : Chp W0 w m s) (k1 : x.k = 1) (hx : x.n < 0) :
  Calls Tryz.prog 43 #[.pointer (some ⟨m.cb, 0, none⟩), spV x] w fun e w' => e = .returned (ansV ⟨3, 0, 0⟩) ∧ ∃ m', Cnx W0 w m w' m' s := by
 have lg := h.plt.blk.lt
 have zw := h.ch.size
 obtain ⟨c0, c1, c2, c3, c4, c5, -⟩ := h.cells
 obtain ⟨rs, t, pl⟩ := h.pl
 have n0 := pl.n0
 have n1 := pl.n1
 have e0 := pl.e0
 have e1 := pl.e1
 have HPL := hide pl
 have HG := hide h
 clear h pl
 have b1 : (x.k == 1) = true := by simp [k1]
 have d0 : decide (x.n < 0) = true := by simp; omega
 have d3 : decide ((3 : Int) ≤ x.n) = false := by simp; omega
 clear k1 hx c0 c1 c2 c3 c4 c5 n0 n1 e0 e1
 unfold spV spC
 go_enter Tryz.func43, Tryz.ntmps43
 go_wp2
 have R7 := Blk.new1 w (.cells #[.int .i64 x.k, .int .i64 x.n, .int .i64 x.keep, .int .i64 x.o.k, .int .i64 x.o.now, .int .i64 x.o.jb, .int .i64 x.o.tr, .int .i64 x.o.wk, .int .i64 x.o.tm] 85) #[.int .i64 3, .int .i64 0, .int .i64 0] 95
 refine bodyPost_ret (v := ansV ⟨3, 0, 0⟩) (ret_ans rfl rfl R7) rfl ?_
 have k7 := ((Chg.refl [] w).alloc (.cells #[.int .i64 x.k, .int .i64 x.n, .int .i64 x.keep, .int .i64 x.o.k, .int .i64 x.o.now, .int .i64 x.o.jb, .int .i64 x.o.tr, .int .i64 x.o.wk, .int .i64 x.o.tm] 85)).alloc (.cells #[.int .i64 3, .int .i64 0, .int .i64 0] 95)
 exact ⟨rfl, _, Cnx.pre k7 (Cnx.refl ((unhide HG).fresh k7))⟩
set_option maxRecDepth 100000 in
set_option maxHeartbeats 4000000 in
theorem cstep_open_hi (W0 : World) (m : Cm) (s : Gd) (x : Sp) (w : World) (h : Chp W0 w m s) (k1 : x.k = 1) (hx : 3 ≤ x.n) :
  Calls Tryz.prog 43 #[.pointer (some ⟨m.cb, 0, none⟩), spV x] w fun e w' => e = .returned (ansV ⟨3, 0, 0⟩) ∧ ∃ m', Cnx W0 w m w' m' s := by
 have lg := h.plt.blk.lt
 have zw := h.ch.size
 obtain ⟨c0, c1, c2, c3, c4, c5, -⟩ := h.cells
 obtain ⟨rs, t, pl⟩ := h.pl
 have n0 := pl.n0
 have n1 := pl.n1
 have e0 := pl.e0
 have e1 := pl.e1
 have HPL := hide pl
 have HG := hide h
 clear h pl
 have b1 : (x.k == 1) = true := by simp [k1]
 have d0 : decide (x.n < 0) = false := by simp; omega
 have d3 : decide ((3 : Int) ≤ x.n) = true := by simp; omega
 clear k1 hx c0 c1 c2 c3 c4 c5 n0 n1 e0 e1
 unfold spV spC
 go_enter Tryz.func43, Tryz.ntmps43
 go_wp2
 have R7 := Blk.new1 w (.cells #[.int .i64 x.k, .int .i64 x.n, .int .i64 x.keep, .int .i64 x.o.k, .int .i64 x.o.now, .int .i64 x.o.jb, .int .i64 x.o.tr, .int .i64 x.o.wk, .int .i64 x.o.tm] 85) #[.int .i64 3, .int .i64 0, .int .i64 0] 95
 refine bodyPost_ret (v := ansV ⟨3, 0, 0⟩) (ret_ans rfl rfl R7) rfl ?_
 have k7 := ((Chg.refl [] w).alloc (.cells #[.int .i64 x.k, .int .i64 x.n, .int .i64 x.keep, .int .i64 x.o.k, .int .i64 x.o.now, .int .i64 x.o.jb, .int .i64 x.o.tr, .int .i64 x.o.wk, .int .i64 x.o.tm] 85)).alloc (.cells #[.int .i64 3, .int .i64 0, .int .i64 0] 95)
 exact ⟨rfl, _, Cnx.pre k7 (Cnx.refl ((unhide HG).fresh k7))⟩
set_option maxRecDepth 100000 in
set_option maxHeartbeats 4000000 in
theorem cstep_open_full (W0 : World) (m : Cm) (s : Gd) (x : Sp) (w : World) (h : Chp W0 w m s) (k1 : x.k = 1) (hx : 0 ≤ x.n ∧ x.n < 3) (hf : s.d.ep = 100) :
  Calls Tryz.prog 43 #[.pointer (some ⟨m.cb, 0, none⟩), spV x] w fun e w' => e = .returned (ansV ⟨8, 0, 0⟩) ∧ ∃ m', Cnx W0 w m w' m' s := by
 have lg := h.plt.blk.lt
 have zw := h.ch.size
 obtain ⟨c0, c1, c2, c3, c4, c5, -⟩ := h.cells
 obtain ⟨rs, t, pl⟩ := h.pl
 have n0 := pl.n0
 have n1 := pl.n1
 have e0 := pl.e0
 have e1 := pl.e1
 have HPL := hide pl
 have HG := hide h
 clear h pl
 have b1 : (x.k == 1) = true := by simp [k1]
 have d0 : decide (x.n < 0) = false := by simp; omega
 have d3 : decide ((3 : Int) ≤ x.n) = false := by simp; omega
 have HF := hide hf
 clear k1 hx c0 c1 c2 c3 c4 c5 n0 n1 e0 e1 hf
 unfold spV spC
 go_enter Tryz.func43, Tryz.ntmps43
 go_wp2_with fail
 have k : Chg [] w ((w.alloc (.cells #[.int .i64 x.k, .int .i64 x.n, .int .i64 x.keep, .int .i64 x.o.k, .int .i64 x.o.now, .int .i64 x.o.jb, .int .i64 x.o.tr, .int .i64 x.o.wk, .int .i64 x.o.tm] 85)).alloc (.cells #[.int .i64 0, .int .i64 0, .int .i64 0] 95)) := ((Chg.refl [] w).alloc _).alloc _
 have h3 := (unhide HG).fresh k
 have R3 := Blk.new1 w (.cells #[.int .i64 x.k, .int .i64 x.n, .int .i64 x.keep, .int .i64 x.o.k, .int .i64 x.o.now, .int .i64 x.o.jb, .int .i64 x.o.tr, .int .i64 x.o.wk, .int .i64 x.o.tm] 85) #[.int .i64 0, .int .i64 0, .int .i64 0] 95
 generalize hW : (w.alloc (.cells #[.int .i64 x.k, .int .i64 x.n, .int .i64 x.keep, .int .i64 x.o.k, .int .i64 x.o.now, .int .i64 x.o.jb, .int .i64 x.o.tr, .int .i64 x.o.wk, .int .i64 x.o.tm] 85)).alloc (.cells #[.int .i64 0, .int .i64 0, .int .i64 0] 95) = W at *
 clear hW
 have z3 := R3.lt
 have P3 := h3.plt
 rw [unhide HF] at P3
 refine (opened_full m.cb m.u s.d.l W P3).mono ?_
 rintro e w4 ⟨rfl, P4, g4⟩
 rw [← unhide HF] at P4
 have X4 := h3.fullOp P4 g4
 have R4 := X4.blk R3 (crw_at m w.heap.size (by omega))
 obtain ⟨r0, r1, r2, t0, t1, t2⟩ := R4.three
 have l4 := R4.lt
 have HX := hide X4
 have HR := hide R4
 have HK3 := hide k
 clear X4 R4 P3 P4 g4 R3 k h3
 go_wp2
 have R7 := (((unhide HR).set 0 (.int .i64 8)).set 1 (.int .i64 0)).set 2 (.int .i64 0)
 refine bodyPost_ret (v := ansV ⟨8, 0, 0⟩) (ret_ans rfl rfl R7) rfl ?_
 have k7 := (((Chg.refl [w.heap.size + 1] w4).setCell (p := ⟨w.heap.size + 1, 0, none⟩) (by simp) (.int .i64 8)).setCell (p := ⟨w.heap.size + 1, 1, none⟩) (by simp) (.int .i64 0)).setCell (p := ⟨w.heap.size + 1, 2, none⟩) (by simp) (.int .i64 0)
 exact ⟨rfl, _, (Cnx.pre (unhide HK3) (unhide HX)).post k7 (by intro y hy; simp at hy; subst hy; exact ⟨crw_at m w.heap.size (by omega), by omega⟩) zw⟩
set_option maxRecDepth 100000 in
set_option maxHeartbeats 4000000 in
theorem cstep_open0 (W0 : World) (m : Cm) (s : Gd) (x : Sp) (w : World) (h : Chp W0 w m s) (k1 : x.k = 1) (hx : x.n = 0) (hf : ¬ s.d.ep = 100) :
  Calls Tryz.prog 43 #[.pointer (some ⟨m.cb, 0, none⟩), spV x] w fun e w' => e = .returned (ansV ⟨0, 0, 0⟩) ∧ ∃ m', Cnx W0 w m w' m' ⟨s.now, openD s.d, upG s.ns 0 (openN s.d)⟩ := by
 have lg := h.plt.blk.lt
 have zw := h.ch.size
 obtain ⟨c0, c1, c2, c3, c4, c5, -⟩ := h.cells
 obtain ⟨rs, t, pl⟩ := h.pl
 have n0 := pl.n0
 have n1 := pl.n1
 have e0 := pl.e0
 have e1 := pl.e1
 have HPL := hide pl
 have HG := hide h
 clear h pl
 have b1 : (x.k == 1) = true := by simp [k1]
 have HF := hide hf
 have hlt : s.d.ep < 100 := by omega
 have hnot : Hid (w.heap.size ∉ [m.cb] ∧ w.heap.size + 1 ∉ [m.cb]) := hide ⟨by simp; omega, by simp; omega⟩
 clear k1 c0 c1 c2 c3 c4 c5 n0 n1 e1 hf
 obtain ⟨xk, xn, xkeep, xo⟩ := x
 dsimp only at b1 hx
 subst hx
 unfold spV spC
 dsimp only
 go_enter Tryz.func43, Tryz.ntmps43
 go_wp2_with fail
 have k : Chg [] w ((w.alloc (.cells #[.int .i64 xk, .int .i64 0, .int .i64 xkeep, .int .i64 xo.k, .int .i64 xo.now, .int .i64 xo.jb, .int .i64 xo.tr, .int .i64 xo.wk, .int .i64 xo.tm] 85)).alloc (.cells #[.int .i64 0, .int .i64 0, .int .i64 0] 95)) := ((Chg.refl [] w).alloc _).alloc _
 have h3 := (unhide HG).fresh k
 have R3 := Blk.new1 w (.cells #[.int .i64 xk, .int .i64 0, .int .i64 xkeep, .int .i64 xo.k, .int .i64 xo.now, .int .i64 xo.jb, .int .i64 xo.tr, .int .i64 xo.wk, .int .i64 xo.tm] 85) #[.int .i64 0, .int .i64 0, .int .i64 0] 95
 have BX := (Blk.new w #[.int .i64 xk, .int .i64 0, .int .i64 xkeep, .int .i64 xo.k, .int .i64 xo.now, .int .i64 xo.jb, .int .i64 xo.tr, .int .i64 xo.wk, .int .i64 xo.tm] 85).alloc (.cells #[.int .i64 0, .int .i64 0, .int .i64 0] 95)
 generalize hW : (w.alloc (.cells #[.int .i64 xk, .int .i64 0, .int .i64 xkeep, .int .i64 xo.k, .int .i64 xo.now, .int .i64 xo.jb, .int .i64 xo.tr, .int .i64 xo.wk, .int .i64 xo.tm] 85)).alloc (.cells #[.int .i64 0, .int .i64 0, .int .i64 0] 95) = W at *
 clear hW
 have z3 := R3.lt
 refine (opened_nw m.cb s.d.ep m.u s.d.l W h3.plt e0 (by omega)).mono ?_
 rintro e w4 ⟨vb4, u4, rfl, q1, q2, V4, P4, g4, nx4⟩
 have R4 := R3.chg g4 (unhide hnot).2
 have BX4 := BX.chg g4 (unhide hnot).1
 have x1 : w4.cell? ⟨w.heap.size, 1, none⟩ = some (.int .i64 0) := BX4.cell 1
 have lx := BX4.lt
 have cc : w4.cell? ⟨m.cb, 2, none⟩ = some (slotV (s.ns 0) (m.vb 0)) := (P4.blk.cell (2 + 0)).trans (two_atN _ _ _ 0)
 have cf := P4.blk.fz 2
 have lc4 := P4.blk.lt
 have X4 := h3.openOp (i := 0) (by decide) (unhide HF) V4 P4 g4 nx4 q2 q1
 have HX := hide X4
 have HR := hide R4
 have HK3 := hide k
 obtain ⟨r0, r1, r2, t0, t1, t2⟩ := R4.three
 have l4 := R4.lt
 have ncb : m.cb ≠ w.heap.size + 1 := by omega
 clear X4 R4 P4 V4 g4 R3 k h3 BX4 BX
 go_wp2_with fail
 go_region
 have R5 := (show Blk (w4.setCell ⟨m.cb, 2, none⟩ (.pointer (some ⟨vb4, 0, none⟩))).drew (w.heap.size + 1) _ _ from (unhide HR).other (by simpa using ncb) _)
 have X5 := (unhide HX).post (w2 := (w4.setCell ⟨m.cb, 2, none⟩ (.pointer (some ⟨vb4, 0, none⟩))).drew) ((Chg.refl [] _).drew) (by simp) (by omega)
 have o5 := X5.ow (w.heap.size + 1) z3 (crw_at m w.heap.size (by omega))
 clear HX HR r0 r1 r2 t0 t1 t2 l4 cc cf lc4 x1 lx
 generalize hW5 : (w4.setCell ⟨m.cb, 2, none⟩ (.pointer (some ⟨vb4, 0, none⟩))).drew = w5 at *
 clear hW5
 obtain ⟨r0, r1, r2, t0, t1, t2⟩ := R5.three
 have l5 := R5.lt
 have HX := hide X5
 have HR := hide R5
 clear X5 R5
 go_wp2
 have R7 := (((unhide HR).set 0 (.int .i64 0)).set 1 (.int .i64 0)).set 2 (.int .i64 0)
 refine bodyPost_ret (v := ansV ⟨0, 0, 0⟩) (ret_ans rfl rfl R7) rfl ?_
 have k7 := (((Chg.refl [w.heap.size + 1] w5).setCell (p := ⟨w.heap.size + 1, 0, none⟩) (by simp) (.int .i64 0)).setCell (p := ⟨w.heap.size + 1, 1, none⟩) (by simp) (.int .i64 0)).setCell (p := ⟨w.heap.size + 1, 2, none⟩) (by simp) (.int .i64 0)
 exact ⟨rfl, _, (Cnx.pre (unhide HK3) (unhide HX)).post k7 (by intro y hy; simp at hy; subst hy; exact ⟨o5, by omega⟩) zw⟩
set_option maxRecDepth 100000 in
set_option maxHeartbeats 4000000 in
theorem cstep_open1 (W0 : World) (m : Cm) (s : Gd) (x : Sp) (w : World) (h : Chp W0 w m s) (k1 : x.k = 1) (hx : x.n = 1) (hf : ¬ s.d.ep = 100) :
  Calls Tryz.prog 43 #[.pointer (some ⟨m.cb, 0, none⟩), spV x] w fun e w' => e = .returned (ansV ⟨0, 0, 0⟩) ∧ ∃ m', Cnx W0 w m w' m' ⟨s.now, openD s.d, upG s.ns 1 (openN s.d)⟩ := by
 have lg := h.plt.blk.lt
 have zw := h.ch.size
 obtain ⟨c0, c1, c2, c3, c4, c5, -⟩ := h.cells
 obtain ⟨rs, t, pl⟩ := h.pl
 have n0 := pl.n0
 have n1 := pl.n1
 have e0 := pl.e0
 have e1 := pl.e1
 have HPL := hide pl
 have HG := hide h
 clear h pl
 have b1 : (x.k == 1) = true := by simp [k1]
 have HF := hide hf
 have hlt : s.d.ep < 100 := by omega
 have hnot : Hid (w.heap.size ∉ [m.cb] ∧ w.heap.size + 1 ∉ [m.cb]) := hide ⟨by simp; omega, by simp; omega⟩
 clear k1 c0 c1 c2 c3 c4 c5 n0 n1 e1 hf
 obtain ⟨xk, xn, xkeep, xo⟩ := x
 dsimp only at b1 hx
 subst hx
 unfold spV spC
 dsimp only
 go_enter Tryz.func43, Tryz.ntmps43
 go_wp2_with fail
 have k : Chg [] w ((w.alloc (.cells #[.int .i64 xk, .int .i64 1, .int .i64 xkeep, .int .i64 xo.k, .int .i64 xo.now, .int .i64 xo.jb, .int .i64 xo.tr, .int .i64 xo.wk, .int .i64 xo.tm] 85)).alloc (.cells #[.int .i64 0, .int .i64 0, .int .i64 0] 95)) := ((Chg.refl [] w).alloc _).alloc _
 have h3 := (unhide HG).fresh k
 have R3 := Blk.new1 w (.cells #[.int .i64 xk, .int .i64 1, .int .i64 xkeep, .int .i64 xo.k, .int .i64 xo.now, .int .i64 xo.jb, .int .i64 xo.tr, .int .i64 xo.wk, .int .i64 xo.tm] 85) #[.int .i64 0, .int .i64 0, .int .i64 0] 95
 have BX := (Blk.new w #[.int .i64 xk, .int .i64 1, .int .i64 xkeep, .int .i64 xo.k, .int .i64 xo.now, .int .i64 xo.jb, .int .i64 xo.tr, .int .i64 xo.wk, .int .i64 xo.tm] 85).alloc (.cells #[.int .i64 0, .int .i64 0, .int .i64 0] 95)
 generalize hW : (w.alloc (.cells #[.int .i64 xk, .int .i64 1, .int .i64 xkeep, .int .i64 xo.k, .int .i64 xo.now, .int .i64 xo.jb, .int .i64 xo.tr, .int .i64 xo.wk, .int .i64 xo.tm] 85)).alloc (.cells #[.int .i64 0, .int .i64 0, .int .i64 0] 95) = W at *
 clear hW
 have z3 := R3.lt
 refine (opened_nw m.cb s.d.ep m.u s.d.l W h3.plt e0 (by omega)).mono ?_
 rintro e w4 ⟨vb4, u4, rfl, q1, q2, V4, P4, g4, nx4⟩
 have R4 := R3.chg g4 (unhide hnot).2
 have BX4 := BX.chg g4 (unhide hnot).1
 have x1 : w4.cell? ⟨w.heap.size, 1, none⟩ = some (.int .i64 1) := BX4.cell 1
 have lx := BX4.lt
 have cc : w4.cell? ⟨m.cb, 3, none⟩ = some (slotV (s.ns 1) (m.vb 1)) := (P4.blk.cell (2 + 1)).trans (two_atN _ _ _ 1)
 have cf := P4.blk.fz 3
 have lc4 := P4.blk.lt
 have X4 := h3.openOp (i := 1) (by decide) (unhide HF) V4 P4 g4 nx4 q2 q1
 have HX := hide X4
 have HR := hide R4
 have HK3 := hide k
 obtain ⟨r0, r1, r2, t0, t1, t2⟩ := R4.three
 have l4 := R4.lt
 have ncb : m.cb ≠ w.heap.size + 1 := by omega
 clear X4 R4 P4 V4 g4 R3 k h3 BX4 BX
 go_wp2_with fail
 go_region
 have R5 := (show Blk (w4.setCell ⟨m.cb, 3, none⟩ (.pointer (some ⟨vb4, 0, none⟩))).drew (w.heap.size + 1) _ _ from (unhide HR).other (by simpa using ncb) _)
 have X5 := (unhide HX).post (w2 := (w4.setCell ⟨m.cb, 3, none⟩ (.pointer (some ⟨vb4, 0, none⟩))).drew) ((Chg.refl [] _).drew) (by simp) (by omega)
 have o5 := X5.ow (w.heap.size + 1) z3 (crw_at m w.heap.size (by omega))
 clear HX HR r0 r1 r2 t0 t1 t2 l4 cc cf lc4 x1 lx
 generalize hW5 : (w4.setCell ⟨m.cb, 3, none⟩ (.pointer (some ⟨vb4, 0, none⟩))).drew = w5 at *
 clear hW5
 obtain ⟨r0, r1, r2, t0, t1, t2⟩ := R5.three
 have l5 := R5.lt
 have HX := hide X5
 have HR := hide R5
 clear X5 R5
 go_wp2
 have R7 := (((unhide HR).set 0 (.int .i64 0)).set 1 (.int .i64 0)).set 2 (.int .i64 0)
 refine bodyPost_ret (v := ansV ⟨0, 0, 0⟩) (ret_ans rfl rfl R7) rfl ?_
 have k7 := (((Chg.refl [w.heap.size + 1] w5).setCell (p := ⟨w.heap.size + 1, 0, none⟩) (by simp) (.int .i64 0)).setCell (p := ⟨w.heap.size + 1, 1, none⟩) (by simp) (.int .i64 0)).setCell (p := ⟨w.heap.size + 1, 2, none⟩) (by simp) (.int .i64 0)
 exact ⟨rfl, _, (Cnx.pre (unhide HK3) (unhide HX)).post k7 (by intro y hy; simp at hy; subst hy; exact ⟨o5, by omega⟩) zw⟩
set_option maxRecDepth 100000 in
set_option maxHeartbeats 4000000 in
theorem cstep_open2 (W0 : World) (m : Cm) (s : Gd) (x : Sp) (w : World) (h : Chp W0 w m s) (k1 : x.k = 1) (hx : x.n = 2) (hf : ¬ s.d.ep = 100) :
  Calls Tryz.prog 43 #[.pointer (some ⟨m.cb, 0, none⟩), spV x] w fun e w' => e = .returned (ansV ⟨0, 0, 0⟩) ∧ ∃ m', Cnx W0 w m w' m' ⟨s.now, openD s.d, upG s.ns 2 (openN s.d)⟩ := by
 have lg := h.plt.blk.lt
 have zw := h.ch.size
 obtain ⟨c0, c1, c2, c3, c4, c5, -⟩ := h.cells
 obtain ⟨rs, t, pl⟩ := h.pl
 have n0 := pl.n0
 have n1 := pl.n1
 have e0 := pl.e0
 have e1 := pl.e1
 have HPL := hide pl
 have HG := hide h
 clear h pl
 have b1 : (x.k == 1) = true := by simp [k1]
 have HF := hide hf
 have hlt : s.d.ep < 100 := by omega
 have hnot : Hid (w.heap.size ∉ [m.cb] ∧ w.heap.size + 1 ∉ [m.cb]) := hide ⟨by simp; omega, by simp; omega⟩
 clear k1 c0 c1 c2 c3 c4 c5 n0 n1 e1 hf
 obtain ⟨xk, xn, xkeep, xo⟩ := x
 dsimp only at b1 hx
 subst hx
 unfold spV spC
 dsimp only
 go_enter Tryz.func43, Tryz.ntmps43
 go_wp2_with fail
 have k : Chg [] w ((w.alloc (.cells #[.int .i64 xk, .int .i64 2, .int .i64 xkeep, .int .i64 xo.k, .int .i64 xo.now, .int .i64 xo.jb, .int .i64 xo.tr, .int .i64 xo.wk, .int .i64 xo.tm] 85)).alloc (.cells #[.int .i64 0, .int .i64 0, .int .i64 0] 95)) := ((Chg.refl [] w).alloc _).alloc _
 have h3 := (unhide HG).fresh k
 have R3 := Blk.new1 w (.cells #[.int .i64 xk, .int .i64 2, .int .i64 xkeep, .int .i64 xo.k, .int .i64 xo.now, .int .i64 xo.jb, .int .i64 xo.tr, .int .i64 xo.wk, .int .i64 xo.tm] 85) #[.int .i64 0, .int .i64 0, .int .i64 0] 95
 have BX := (Blk.new w #[.int .i64 xk, .int .i64 2, .int .i64 xkeep, .int .i64 xo.k, .int .i64 xo.now, .int .i64 xo.jb, .int .i64 xo.tr, .int .i64 xo.wk, .int .i64 xo.tm] 85).alloc (.cells #[.int .i64 0, .int .i64 0, .int .i64 0] 95)
 generalize hW : (w.alloc (.cells #[.int .i64 xk, .int .i64 2, .int .i64 xkeep, .int .i64 xo.k, .int .i64 xo.now, .int .i64 xo.jb, .int .i64 xo.tr, .int .i64 xo.wk, .int .i64 xo.tm] 85)).alloc (.cells #[.int .i64 0, .int .i64 0, .int .i64 0] 95) = W at *
 clear hW
 have z3 := R3.lt
 refine (opened_nw m.cb s.d.ep m.u s.d.l W h3.plt e0 (by omega)).mono ?_
 rintro e w4 ⟨vb4, u4, rfl, q1, q2, V4, P4, g4, nx4⟩
 have R4 := R3.chg g4 (unhide hnot).2
 have BX4 := BX.chg g4 (unhide hnot).1
 have x1 : w4.cell? ⟨w.heap.size, 1, none⟩ = some (.int .i64 2) := BX4.cell 1
 have lx := BX4.lt
 have cc : w4.cell? ⟨m.cb, 4, none⟩ = some (slotV (s.ns 2) (m.vb 2)) := (P4.blk.cell (2 + 2)).trans (two_atN _ _ _ 2)
 have cf := P4.blk.fz 4
 have lc4 := P4.blk.lt
 have X4 := h3.openOp (i := 2) (by decide) (unhide HF) V4 P4 g4 nx4 q2 q1
 have HX := hide X4
 have HR := hide R4
 have HK3 := hide k
 obtain ⟨r0, r1, r2, t0, t1, t2⟩ := R4.three
 have l4 := R4.lt
 have ncb : m.cb ≠ w.heap.size + 1 := by omega
 clear X4 R4 P4 V4 g4 R3 k h3 BX4 BX
 go_wp2_with fail
 go_region
 have R5 := (show Blk (w4.setCell ⟨m.cb, 4, none⟩ (.pointer (some ⟨vb4, 0, none⟩))).drew (w.heap.size + 1) _ _ from (unhide HR).other (by simpa using ncb) _)
 have X5 := (unhide HX).post (w2 := (w4.setCell ⟨m.cb, 4, none⟩ (.pointer (some ⟨vb4, 0, none⟩))).drew) ((Chg.refl [] _).drew) (by simp) (by omega)
 have o5 := X5.ow (w.heap.size + 1) z3 (crw_at m w.heap.size (by omega))
 clear HX HR r0 r1 r2 t0 t1 t2 l4 cc cf lc4 x1 lx
 generalize hW5 : (w4.setCell ⟨m.cb, 4, none⟩ (.pointer (some ⟨vb4, 0, none⟩))).drew = w5 at *
 clear hW5
 obtain ⟨r0, r1, r2, t0, t1, t2⟩ := R5.three
 have l5 := R5.lt
 have HX := hide X5
 have HR := hide R5
 clear X5 R5
 go_wp2
 have R7 := (((unhide HR).set 0 (.int .i64 0)).set 1 (.int .i64 0)).set 2 (.int .i64 0)
 refine bodyPost_ret (v := ansV ⟨0, 0, 0⟩) (ret_ans rfl rfl R7) rfl ?_
 have k7 := (((Chg.refl [w.heap.size + 1] w5).setCell (p := ⟨w.heap.size + 1, 0, none⟩) (by simp) (.int .i64 0)).setCell (p := ⟨w.heap.size + 1, 1, none⟩) (by simp) (.int .i64 0)).setCell (p := ⟨w.heap.size + 1, 2, none⟩) (by simp) (.int .i64 0)
 exact ⟨rfl, _, (Cnx.pre (unhide HK3) (unhide HX)).post k7 (by intro y hy; simp at hy; subst hy; exact ⟨o5, by omega⟩) zw⟩
set_option maxRecDepth 100000 in
set_option maxHeartbeats 4000000 in
theorem cstep_tick_lo (W0 : World) (m : Cm) (s : Gd) (x : Sp) (w : World) (h : Chp W0 w m s) (k1 : x.k = 5) (hx : x.n < 0) :
  Calls Tryz.prog 43 #[.pointer (some ⟨m.cb, 0, none⟩), spV x] w fun e w' => e = .returned (ansV ⟨3, 0, 0⟩) ∧ ∃ m', Cnx W0 w m w' m' s := by
 have lg := h.plt.blk.lt
 have zw := h.ch.size
 obtain ⟨c0, c1, c2, c3, c4, c5, -⟩ := h.cells
 obtain ⟨rs, t, pl⟩ := h.pl
 have n0 := pl.n0
 have n1 := pl.n1
 have e0 := pl.e0
 have e1 := pl.e1
 have HPL := hide pl
 have HG := hide h
 clear h pl
 have b1 : (x.k == 1) = false := by simp [k1]
 have b5 : (x.k == 5) = true := by simp [k1]
 have d0 : decide (x.n < 0) = true := by simp; omega
 have d3 : decide ((60000 : Int) < x.n) = false := by simp; omega
 skip
 skip
 skip
 clear k1 hx c0 c1 c2 c3 c4 e0 e1
 unfold spV spC
 go_enter Tryz.func43, Tryz.ntmps43
 go_wp2_with fail
 go_quiet (fail)
 go_wp2
 have R0 := show Blk (((w.alloc (.cells #[.int .i64 x.k, .int .i64 x.n, .int .i64 x.keep, .int .i64 x.o.k, .int .i64 x.o.now, .int .i64 x.o.jb, .int .i64 x.o.tr, .int .i64 x.o.wk, .int .i64 x.o.tm] 85)).alloc (.cells #[.int .i64 0, .int .i64 0, .int .i64 0] 95)).drewN nq) (w.heap.size + 1) _ _ from Blk.new1 w (.cells #[.int .i64 x.k, .int .i64 x.n, .int .i64 x.keep, .int .i64 x.o.k, .int .i64 x.o.now, .int .i64 x.o.jb, .int .i64 x.o.tr, .int .i64 x.o.wk, .int .i64 x.o.tm] 85) #[.int .i64 0, .int .i64 0, .int .i64 0] 95
 have R7 := ((R0.set 0 (.int .i64 3)).set 1 (.int .i64 0)).set 2 (.int .i64 0)
 refine bodyPost_ret (v := ansV ⟨3, 0, 0⟩) (ret_ans rfl rfl R7) rfl ?_
 have k7 := ((((((Chg.refl [] w).alloc (.cells #[.int .i64 x.k, .int .i64 x.n, .int .i64 x.keep, .int .i64 x.o.k, .int .i64 x.o.now, .int .i64 x.o.jb, .int .i64 x.o.tr, .int .i64 x.o.wk, .int .i64 x.o.tm] 85)).alloc (.cells #[.int .i64 0, .int .i64 0, .int .i64 0] 95)).drewN nq).setCell (p := ⟨w.heap.size + 1, 0, none⟩) (by simp) (.int .i64 3)).setCell (p := ⟨w.heap.size + 1, 1, none⟩) (by simp) (.int .i64 0)).setCell (p := ⟨w.heap.size + 1, 2, none⟩) (by simp) (.int .i64 0)
 exact ⟨rfl, _, Cnx.pre k7 (Cnx.refl ((unhide HG).fresh k7))⟩
set_option maxRecDepth 100000 in
set_option maxHeartbeats 4000000 in
theorem cstep_tick_big (W0 : World) (m : Cm) (s : Gd) (x : Sp) (w : World) (h : Chp W0 w m s) (k1 : x.k = 5) (hx : 60000 < x.n) :
  Calls Tryz.prog 43 #[.pointer (some ⟨m.cb, 0, none⟩), spV x] w fun e w' => e = .returned (ansV ⟨3, 0, 0⟩) ∧ ∃ m', Cnx W0 w m w' m' s := by
 have lg := h.plt.blk.lt
 have zw := h.ch.size
 obtain ⟨c0, c1, c2, c3, c4, c5, -⟩ := h.cells
 obtain ⟨rs, t, pl⟩ := h.pl
 have n0 := pl.n0
 have n1 := pl.n1
 have e0 := pl.e0
 have e1 := pl.e1
 have HPL := hide pl
 have HG := hide h
 clear h pl
 have b1 : (x.k == 1) = false := by simp [k1]
 have b5 : (x.k == 5) = true := by simp [k1]
 have d0 : decide (x.n < 0) = false := by simp; omega
 have d3 : decide ((60000 : Int) < x.n) = true := by simp; omega
 skip
 skip
 skip
 clear k1 hx c0 c1 c2 c3 c4 e0 e1
 unfold spV spC
 go_enter Tryz.func43, Tryz.ntmps43
 go_wp2_with fail
 go_quiet (fail)
 go_wp2
 have R0 := show Blk (((w.alloc (.cells #[.int .i64 x.k, .int .i64 x.n, .int .i64 x.keep, .int .i64 x.o.k, .int .i64 x.o.now, .int .i64 x.o.jb, .int .i64 x.o.tr, .int .i64 x.o.wk, .int .i64 x.o.tm] 85)).alloc (.cells #[.int .i64 0, .int .i64 0, .int .i64 0] 95)).drewN nq) (w.heap.size + 1) _ _ from Blk.new1 w (.cells #[.int .i64 x.k, .int .i64 x.n, .int .i64 x.keep, .int .i64 x.o.k, .int .i64 x.o.now, .int .i64 x.o.jb, .int .i64 x.o.tr, .int .i64 x.o.wk, .int .i64 x.o.tm] 85) #[.int .i64 0, .int .i64 0, .int .i64 0] 95
 have R7 := ((R0.set 0 (.int .i64 3)).set 1 (.int .i64 0)).set 2 (.int .i64 0)
 refine bodyPost_ret (v := ansV ⟨3, 0, 0⟩) (ret_ans rfl rfl R7) rfl ?_
 have k7 := ((((((Chg.refl [] w).alloc (.cells #[.int .i64 x.k, .int .i64 x.n, .int .i64 x.keep, .int .i64 x.o.k, .int .i64 x.o.now, .int .i64 x.o.jb, .int .i64 x.o.tr, .int .i64 x.o.wk, .int .i64 x.o.tm] 85)).alloc (.cells #[.int .i64 0, .int .i64 0, .int .i64 0] 95)).drewN nq).setCell (p := ⟨w.heap.size + 1, 0, none⟩) (by simp) (.int .i64 3)).setCell (p := ⟨w.heap.size + 1, 1, none⟩) (by simp) (.int .i64 0)).setCell (p := ⟨w.heap.size + 1, 2, none⟩) (by simp) (.int .i64 0)
 exact ⟨rfl, _, Cnx.pre k7 (Cnx.refl ((unhide HG).fresh k7))⟩
set_option maxRecDepth 100000 in
set_option maxHeartbeats 4000000 in
theorem cstep_tick_hi (W0 : World) (m : Cm) (s : Gd) (x : Sp) (w : World) (h : Chp W0 w m s) (k1 : x.k = 5) (hx : 0 ≤ x.n ∧ x.n ≤ 60000 ∧ 60000 < s.now + x.n) :
  Calls Tryz.prog 43 #[.pointer (some ⟨m.cb, 0, none⟩), spV x] w fun e w' => e = .returned (ansV ⟨3, 0, 0⟩) ∧ ∃ m', Cnx W0 w m w' m' s := by
 have lg := h.plt.blk.lt
 have zw := h.ch.size
 obtain ⟨c0, c1, c2, c3, c4, c5, -⟩ := h.cells
 obtain ⟨rs, t, pl⟩ := h.pl
 have n0 := pl.n0
 have n1 := pl.n1
 have e0 := pl.e0
 have e1 := pl.e1
 have HPL := hide pl
 have HG := hide h
 clear h pl
 have b1 : (x.k == 1) = false := by simp [k1]
 have b5 : (x.k == 5) = true := by simp [k1]
 have d0 : decide (x.n < 0) = false := by simp; omega
 have d3 : decide ((60000 : Int) < x.n) = false := by simp; omega
 have d4 : decide ((60000 : Int) < s.now + x.n) = true := by simp; omega
 have bx0 : 0 ≤ x.n := by omega
 have bx1 : x.n ≤ 60000 := by omega
 clear k1 hx c0 c1 c2 c3 c4 e0 e1
 unfold spV spC
 go_enter Tryz.func43, Tryz.ntmps43
 go_wp2_with fail
 go_quiet (fail)
 go_wp2
 have R0 := show Blk (((w.alloc (.cells #[.int .i64 x.k, .int .i64 x.n, .int .i64 x.keep, .int .i64 x.o.k, .int .i64 x.o.now, .int .i64 x.o.jb, .int .i64 x.o.tr, .int .i64 x.o.wk, .int .i64 x.o.tm] 85)).alloc (.cells #[.int .i64 0, .int .i64 0, .int .i64 0] 95)).drewN nq) (w.heap.size + 1) _ _ from Blk.new1 w (.cells #[.int .i64 x.k, .int .i64 x.n, .int .i64 x.keep, .int .i64 x.o.k, .int .i64 x.o.now, .int .i64 x.o.jb, .int .i64 x.o.tr, .int .i64 x.o.wk, .int .i64 x.o.tm] 85) #[.int .i64 0, .int .i64 0, .int .i64 0] 95
 have R7 := ((R0.set 0 (.int .i64 3)).set 1 (.int .i64 0)).set 2 (.int .i64 0)
 refine bodyPost_ret (v := ansV ⟨3, 0, 0⟩) (ret_ans rfl rfl R7) rfl ?_
 have k7 := ((((((Chg.refl [] w).alloc (.cells #[.int .i64 x.k, .int .i64 x.n, .int .i64 x.keep, .int .i64 x.o.k, .int .i64 x.o.now, .int .i64 x.o.jb, .int .i64 x.o.tr, .int .i64 x.o.wk, .int .i64 x.o.tm] 85)).alloc (.cells #[.int .i64 0, .int .i64 0, .int .i64 0] 95)).drewN nq).setCell (p := ⟨w.heap.size + 1, 0, none⟩) (by simp) (.int .i64 3)).setCell (p := ⟨w.heap.size + 1, 1, none⟩) (by simp) (.int .i64 0)).setCell (p := ⟨w.heap.size + 1, 2, none⟩) (by simp) (.int .i64 0)
 exact ⟨rfl, _, Cnx.pre k7 (Cnx.refl ((unhide HG).fresh k7))⟩
set_option maxRecDepth 100000 in
set_option maxHeartbeats 4000000 in
theorem cstep_tick_yes (W0 : World) (m : Cm) (s : Gd) (x : Sp) (w : World) (h : Chp W0 w m s) (k1 : x.k = 5) (hx : 0 ≤ x.n ∧ x.n ≤ 60000 - s.now) :
  Calls Tryz.prog 43 #[.pointer (some ⟨m.cb, 0, none⟩), spV x] w fun e w' => e = .returned (ansV ⟨0, 0, 0⟩) ∧ ∃ m', Cnx W0 w m w' m' ⟨s.now + x.n, s.d, s.ns⟩ := by
 have lg := h.plt.blk.lt
 have zw := h.ch.size
 obtain ⟨c0, c1, c2, c3, c4, c5, -⟩ := h.cells
 obtain ⟨rs, t, pl⟩ := h.pl
 have n0 := pl.n0
 have n1 := pl.n1
 have e0 := pl.e0
 have e1 := pl.e1
 have HPL := hide pl
 have HG := hide h
 clear h pl
 have b1 : (x.k == 1) = false := by simp [k1]
 have b5 : (x.k == 5) = true := by simp [k1]
 have d0 : decide (x.n < 0) = false := by simp; omega
 have d3 : decide ((60000 : Int) < x.n) = false := by simp; omega
 have d4 : decide ((60000 : Int) < s.now + x.n) = false := by simp; omega
 have bx0 : 0 ≤ x.n := by omega
 have bx1 : x.n ≤ 60000 := by omega
 have bx2 : s.now + x.n ≤ 60000 := by omega
 clear k1 hx c0 c1 c2 c3 c4 e0 e1
 unfold spV spC
 go_enter Tryz.func43, Tryz.ntmps43
 go_wp2_with fail
 go_quiet (fail)
 have k : Chg [] w (((w.alloc (.cells #[.int .i64 x.k, .int .i64 x.n, .int .i64 x.keep, .int .i64 x.o.k, .int .i64 x.o.now, .int .i64 x.o.jb, .int .i64 x.o.tr, .int .i64 x.o.wk, .int .i64 x.o.tm] 85)).alloc (.cells #[.int .i64 0, .int .i64 0, .int .i64 0] 95)).drewN nq) := (((Chg.refl [] w).alloc _).alloc _).drewN nq
 have h3 := (unhide HG).fresh k
 have R3 := show Blk (((w.alloc (.cells #[.int .i64 x.k, .int .i64 x.n, .int .i64 x.keep, .int .i64 x.o.k, .int .i64 x.o.now, .int .i64 x.o.jb, .int .i64 x.o.tr, .int .i64 x.o.wk, .int .i64 x.o.tm] 85)).alloc (.cells #[.int .i64 0, .int .i64 0, .int .i64 0] 95)).drewN nq) (w.heap.size + 1) _ _ from Blk.new1 w (.cells #[.int .i64 x.k, .int .i64 x.n, .int .i64 x.keep, .int .i64 x.o.k, .int .i64 x.o.now, .int .i64 x.o.jb, .int .i64 x.o.tr, .int .i64 x.o.wk, .int .i64 x.o.tm] 85) #[.int .i64 0, .int .i64 0, .int .i64 0] 95
 have BX := show Blk (((w.alloc (.cells #[.int .i64 x.k, .int .i64 x.n, .int .i64 x.keep, .int .i64 x.o.k, .int .i64 x.o.now, .int .i64 x.o.jb, .int .i64 x.o.tr, .int .i64 x.o.wk, .int .i64 x.o.tm] 85)).alloc (.cells #[.int .i64 0, .int .i64 0, .int .i64 0] 95)).drewN nq) w.heap.size _ _ from (Blk.new w #[.int .i64 x.k, .int .i64 x.n, .int .i64 x.keep, .int .i64 x.o.k, .int .i64 x.o.now, .int .i64 x.o.jb, .int .i64 x.o.tr, .int .i64 x.o.wk, .int .i64 x.o.tm] 85).alloc (.cells #[.int .i64 0, .int .i64 0, .int .i64 0] 95)
 generalize hW : World.drewN _ nq = W at *
 clear hW
 have z3 := R3.lt
 have x1 : W.cell? ⟨w.heap.size, 1, none⟩ = some (.int .i64 x.n) := BX.cell 1
 have lx := BX.lt
 obtain ⟨-, -, -, -, -, cc, lc⟩ := h3.cells
 have cf := h3.plt.blk.fz 5
 have p := unhide HPL
 have X4 := h3.tickOp (now' := s.now + x.n) ⟨rs, t, ⟨by show 0 ≤ s.now + x.n; omega, by show s.now + x.n ≤ 60000; omega, p.e0, p.e1, p.inv, p.le, p.one, p.srv, p.dl, p.good, p.rle, p.tl, p.acc⟩⟩
 have HX := hide X4
 have HR := hide R3
 have HK3 := hide k
 have ncb : m.cb ≠ w.heap.size + 1 := by omega
 clear X4 R3 k h3 BX p c5
 go_wp2_with fail
 go_region
 have R5 := (show Blk (W.setCell ⟨m.cb, 5, none⟩ (.int .i64 (s.now + x.n))).drew (w.heap.size + 1) _ _ from (unhide HR).other (by simpa using ncb) _)
 have X5 := (unhide HX).post (w2 := (W.setCell ⟨m.cb, 5, none⟩ (.int .i64 (s.now + x.n))).drew) ((Chg.refl [] _).drew) (by simp) (by omega)
 have o5 := X5.ow (w.heap.size + 1) z3 (crw_at m w.heap.size (by omega))
 clear HX HR cc cf lc x1 lx
 generalize hW5 : (W.setCell ⟨m.cb, 5, none⟩ (.int .i64 (s.now + x.n))).drew = w5 at *
 clear hW5
 obtain ⟨r0, r1, r2, t0, t1, t2⟩ := R5.three
 have l5 := R5.lt
 have HX := hide X5
 have HR := hide R5
 clear X5 R5
 go_wp2
 have R7 := (((unhide HR).set 0 (.int .i64 0)).set 1 (.int .i64 0)).set 2 (.int .i64 0)
 refine bodyPost_ret (v := ansV ⟨0, 0, 0⟩) (ret_ans rfl rfl R7) rfl ?_
 have k7 := (((Chg.refl [w.heap.size + 1] w5).setCell (p := ⟨w.heap.size + 1, 0, none⟩) (by simp) (.int .i64 0)).setCell (p := ⟨w.heap.size + 1, 1, none⟩) (by simp) (.int .i64 0)).setCell (p := ⟨w.heap.size + 1, 2, none⟩) (by simp) (.int .i64 0)
 exact ⟨rfl, _, (Cnx.pre (unhide HK3) (unhide HX)).post k7 (by intro y hy; simp at hy; subst hy; exact ⟨o5, by omega⟩) zw⟩
set_option maxRecDepth 100000 in
set_option maxHeartbeats 4000000 in
theorem cstep_ask2_lo (W0 : World) (m : Cm) (s : Gd) (x : Sp) (w : World) (h : Chp W0 w m s) (k1 : x.k = 2) (hx : x.n < 0) :
  Calls Tryz.prog 43 #[.pointer (some ⟨m.cb, 0, none⟩), spV x] w fun e w' => e = .returned (ansV ⟨5, 0, 0⟩) ∧ ∃ m', Cnx W0 w m w' m' s := by
 have lg := h.plt.blk.lt
 have zw := h.ch.size
 obtain ⟨c0, c1, c2, c3, c4, c5, -⟩ := h.cells
 obtain ⟨rs, t, pl⟩ := h.pl
 have n0 := pl.n0
 have n1 := pl.n1
 have e0 := pl.e0
 have e1 := pl.e1
 have HPL := hide pl
 have HG := hide h
 clear h pl
 have b1 : (x.k == 1) = false := by simp [k1]
 have b5 : (x.k == 5) = false := by simp [k1]
 have b2 : (x.k == 2) = true := by simp [k1]
 have d0 : decide (x.n < 0) = true := by simp; omega
 have d3 : decide ((3 : Int) ≤ x.n) = false := by simp; omega
 clear k1 hx c0 c1 c2 c3 c4 c5 n0 n1 e0 e1
 unfold spV spC
 go_enter Tryz.func43, Tryz.ntmps43
 go_wp2_with fail
 go_quiet (fail)
 go_wp2
 have R0 := show Blk (((w.alloc (.cells #[.int .i64 x.k, .int .i64 x.n, .int .i64 x.keep, .int .i64 x.o.k, .int .i64 x.o.now, .int .i64 x.o.jb, .int .i64 x.o.tr, .int .i64 x.o.wk, .int .i64 x.o.tm] 85)).alloc (.cells #[.int .i64 0, .int .i64 0, .int .i64 0] 95)).drewN nq) (w.heap.size + 1) _ _ from Blk.new1 w (.cells #[.int .i64 x.k, .int .i64 x.n, .int .i64 x.keep, .int .i64 x.o.k, .int .i64 x.o.now, .int .i64 x.o.jb, .int .i64 x.o.tr, .int .i64 x.o.wk, .int .i64 x.o.tm] 85) #[.int .i64 0, .int .i64 0, .int .i64 0] 95
 have R7 := ((R0.set 0 (.int .i64 5)).set 1 (.int .i64 0)).set 2 (.int .i64 0)
 refine bodyPost_ret (v := ansV ⟨5, 0, 0⟩) (ret_ans rfl rfl R7) rfl ?_
 have k7 := ((((((Chg.refl [] w).alloc (.cells #[.int .i64 x.k, .int .i64 x.n, .int .i64 x.keep, .int .i64 x.o.k, .int .i64 x.o.now, .int .i64 x.o.jb, .int .i64 x.o.tr, .int .i64 x.o.wk, .int .i64 x.o.tm] 85)).alloc (.cells #[.int .i64 0, .int .i64 0, .int .i64 0] 95)).drewN nq).setCell (p := ⟨w.heap.size + 1, 0, none⟩) (by simp) (.int .i64 5)).setCell (p := ⟨w.heap.size + 1, 1, none⟩) (by simp) (.int .i64 0)).setCell (p := ⟨w.heap.size + 1, 2, none⟩) (by simp) (.int .i64 0)
 exact ⟨rfl, _, Cnx.pre k7 (Cnx.refl ((unhide HG).fresh k7))⟩
set_option maxRecDepth 100000 in
set_option maxHeartbeats 4000000 in
theorem cstep_ask2_hi (W0 : World) (m : Cm) (s : Gd) (x : Sp) (w : World) (h : Chp W0 w m s) (k1 : x.k = 2) (hx : 3 ≤ x.n) :
  Calls Tryz.prog 43 #[.pointer (some ⟨m.cb, 0, none⟩), spV x] w fun e w' => e = .returned (ansV ⟨5, 0, 0⟩) ∧ ∃ m', Cnx W0 w m w' m' s := by
 have lg := h.plt.blk.lt
 have zw := h.ch.size
 obtain ⟨c0, c1, c2, c3, c4, c5, -⟩ := h.cells
 obtain ⟨rs, t, pl⟩ := h.pl
 have n0 := pl.n0
 have n1 := pl.n1
 have e0 := pl.e0
 have e1 := pl.e1
 have HPL := hide pl
 have HG := hide h
 clear h pl
 have b1 : (x.k == 1) = false := by simp [k1]
 have b5 : (x.k == 5) = false := by simp [k1]
 have b2 : (x.k == 2) = true := by simp [k1]
 have d0 : decide (x.n < 0) = false := by simp; omega
 have d3 : decide ((3 : Int) ≤ x.n) = true := by simp; omega
 clear k1 hx c0 c1 c2 c3 c4 c5 n0 n1 e0 e1
 unfold spV spC
 go_enter Tryz.func43, Tryz.ntmps43
 go_wp2_with fail
 go_quiet (fail)
 go_wp2
 have R0 := show Blk (((w.alloc (.cells #[.int .i64 x.k, .int .i64 x.n, .int .i64 x.keep, .int .i64 x.o.k, .int .i64 x.o.now, .int .i64 x.o.jb, .int .i64 x.o.tr, .int .i64 x.o.wk, .int .i64 x.o.tm] 85)).alloc (.cells #[.int .i64 0, .int .i64 0, .int .i64 0] 95)).drewN nq) (w.heap.size + 1) _ _ from Blk.new1 w (.cells #[.int .i64 x.k, .int .i64 x.n, .int .i64 x.keep, .int .i64 x.o.k, .int .i64 x.o.now, .int .i64 x.o.jb, .int .i64 x.o.tr, .int .i64 x.o.wk, .int .i64 x.o.tm] 85) #[.int .i64 0, .int .i64 0, .int .i64 0] 95
 have R7 := ((R0.set 0 (.int .i64 5)).set 1 (.int .i64 0)).set 2 (.int .i64 0)
 refine bodyPost_ret (v := ansV ⟨5, 0, 0⟩) (ret_ans rfl rfl R7) rfl ?_
 have k7 := ((((((Chg.refl [] w).alloc (.cells #[.int .i64 x.k, .int .i64 x.n, .int .i64 x.keep, .int .i64 x.o.k, .int .i64 x.o.now, .int .i64 x.o.jb, .int .i64 x.o.tr, .int .i64 x.o.wk, .int .i64 x.o.tm] 85)).alloc (.cells #[.int .i64 0, .int .i64 0, .int .i64 0] 95)).drewN nq).setCell (p := ⟨w.heap.size + 1, 0, none⟩) (by simp) (.int .i64 5)).setCell (p := ⟨w.heap.size + 1, 1, none⟩) (by simp) (.int .i64 0)).setCell (p := ⟨w.heap.size + 1, 2, none⟩) (by simp) (.int .i64 0)
 exact ⟨rfl, _, Cnx.pre k7 (Cnx.refl ((unhide HG).fresh k7))⟩
set_option maxRecDepth 100000 in
set_option maxHeartbeats 4000000 in
theorem cstep_ask3_lo (W0 : World) (m : Cm) (s : Gd) (x : Sp) (w : World) (h : Chp W0 w m s) (k1 : x.k = 3) (hx : x.n < 0) :
  Calls Tryz.prog 43 #[.pointer (some ⟨m.cb, 0, none⟩), spV x] w fun e w' => e = .returned (ansV ⟨5, 0, 0⟩) ∧ ∃ m', Cnx W0 w m w' m' s := by
 have lg := h.plt.blk.lt
 have zw := h.ch.size
 obtain ⟨c0, c1, c2, c3, c4, c5, -⟩ := h.cells
 obtain ⟨rs, t, pl⟩ := h.pl
 have n0 := pl.n0
 have n1 := pl.n1
 have e0 := pl.e0
 have e1 := pl.e1
 have HPL := hide pl
 have HG := hide h
 clear h pl
 have b1 : (x.k == 1) = false := by simp [k1]
 have b5 : (x.k == 5) = false := by simp [k1]
 have b2 : (x.k == 2) = false := by simp [k1]
 have b3 : (x.k == 3) = true := by simp [k1]
 have d0 : decide (x.n < 0) = true := by simp; omega
 have d3 : decide ((3 : Int) ≤ x.n) = false := by simp; omega
 clear k1 hx c0 c1 c2 c3 c4 c5 n0 n1 e0 e1
 unfold spV spC
 go_enter Tryz.func43, Tryz.ntmps43
 go_wp2_with fail
 go_quiet (fail)
 go_wp2
 have R0 := show Blk (((w.alloc (.cells #[.int .i64 x.k, .int .i64 x.n, .int .i64 x.keep, .int .i64 x.o.k, .int .i64 x.o.now, .int .i64 x.o.jb, .int .i64 x.o.tr, .int .i64 x.o.wk, .int .i64 x.o.tm] 85)).alloc (.cells #[.int .i64 0, .int .i64 0, .int .i64 0] 95)).drewN nq) (w.heap.size + 1) _ _ from Blk.new1 w (.cells #[.int .i64 x.k, .int .i64 x.n, .int .i64 x.keep, .int .i64 x.o.k, .int .i64 x.o.now, .int .i64 x.o.jb, .int .i64 x.o.tr, .int .i64 x.o.wk, .int .i64 x.o.tm] 85) #[.int .i64 0, .int .i64 0, .int .i64 0] 95
 have R7 := ((R0.set 0 (.int .i64 5)).set 1 (.int .i64 0)).set 2 (.int .i64 0)
 refine bodyPost_ret (v := ansV ⟨5, 0, 0⟩) (ret_ans rfl rfl R7) rfl ?_
 have k7 := ((((((Chg.refl [] w).alloc (.cells #[.int .i64 x.k, .int .i64 x.n, .int .i64 x.keep, .int .i64 x.o.k, .int .i64 x.o.now, .int .i64 x.o.jb, .int .i64 x.o.tr, .int .i64 x.o.wk, .int .i64 x.o.tm] 85)).alloc (.cells #[.int .i64 0, .int .i64 0, .int .i64 0] 95)).drewN nq).setCell (p := ⟨w.heap.size + 1, 0, none⟩) (by simp) (.int .i64 5)).setCell (p := ⟨w.heap.size + 1, 1, none⟩) (by simp) (.int .i64 0)).setCell (p := ⟨w.heap.size + 1, 2, none⟩) (by simp) (.int .i64 0)
 exact ⟨rfl, _, Cnx.pre k7 (Cnx.refl ((unhide HG).fresh k7))⟩
set_option maxRecDepth 100000 in
set_option maxHeartbeats 4000000 in
theorem cstep_ask3_hi (W0 : World) (m : Cm) (s : Gd) (x : Sp) (w : World) (h : Chp W0 w m s) (k1 : x.k = 3) (hx : 3 ≤ x.n) :
  Calls Tryz.prog 43 #[.pointer (some ⟨m.cb, 0, none⟩), spV x] w fun e w' => e = .returned (ansV ⟨5, 0, 0⟩) ∧ ∃ m', Cnx W0 w m w' m' s := by
 have lg := h.plt.blk.lt
 have zw := h.ch.size
 obtain ⟨c0, c1, c2, c3, c4, c5, -⟩ := h.cells
 obtain ⟨rs, t, pl⟩ := h.pl
 have n0 := pl.n0
 have n1 := pl.n1
 have e0 := pl.e0
 have e1 := pl.e1
 have HPL := hide pl
 have HG := hide h
 clear h pl
 have b1 : (x.k == 1) = false := by simp [k1]
 have b5 : (x.k == 5) = false := by simp [k1]
 have b2 : (x.k == 2) = false := by simp [k1]
 have b3 : (x.k == 3) = true := by simp [k1]
 have d0 : decide (x.n < 0) = false := by simp; omega
 have d3 : decide ((3 : Int) ≤ x.n) = true := by simp; omega
 clear k1 hx c0 c1 c2 c3 c4 c5 n0 n1 e0 e1
 unfold spV spC
 go_enter Tryz.func43, Tryz.ntmps43
 go_wp2_with fail
 go_quiet (fail)
 go_wp2
 have R0 := show Blk (((w.alloc (.cells #[.int .i64 x.k, .int .i64 x.n, .int .i64 x.keep, .int .i64 x.o.k, .int .i64 x.o.now, .int .i64 x.o.jb, .int .i64 x.o.tr, .int .i64 x.o.wk, .int .i64 x.o.tm] 85)).alloc (.cells #[.int .i64 0, .int .i64 0, .int .i64 0] 95)).drewN nq) (w.heap.size + 1) _ _ from Blk.new1 w (.cells #[.int .i64 x.k, .int .i64 x.n, .int .i64 x.keep, .int .i64 x.o.k, .int .i64 x.o.now, .int .i64 x.o.jb, .int .i64 x.o.tr, .int .i64 x.o.wk, .int .i64 x.o.tm] 85) #[.int .i64 0, .int .i64 0, .int .i64 0] 95
 have R7 := ((R0.set 0 (.int .i64 5)).set 1 (.int .i64 0)).set 2 (.int .i64 0)
 refine bodyPost_ret (v := ansV ⟨5, 0, 0⟩) (ret_ans rfl rfl R7) rfl ?_
 have k7 := ((((((Chg.refl [] w).alloc (.cells #[.int .i64 x.k, .int .i64 x.n, .int .i64 x.keep, .int .i64 x.o.k, .int .i64 x.o.now, .int .i64 x.o.jb, .int .i64 x.o.tr, .int .i64 x.o.wk, .int .i64 x.o.tm] 85)).alloc (.cells #[.int .i64 0, .int .i64 0, .int .i64 0] 95)).drewN nq).setCell (p := ⟨w.heap.size + 1, 0, none⟩) (by simp) (.int .i64 5)).setCell (p := ⟨w.heap.size + 1, 1, none⟩) (by simp) (.int .i64 0)).setCell (p := ⟨w.heap.size + 1, 2, none⟩) (by simp) (.int .i64 0)
 exact ⟨rfl, _, Cnx.pre k7 (Cnx.refl ((unhide HG).fresh k7))⟩
set_option maxRecDepth 100000 in
set_option maxHeartbeats 4000000 in
theorem cstep_ask4_lo (W0 : World) (m : Cm) (s : Gd) (x : Sp) (w : World) (h : Chp W0 w m s) (k1 : x.k = 4) (hx : x.n < 0) :
  Calls Tryz.prog 43 #[.pointer (some ⟨m.cb, 0, none⟩), spV x] w fun e w' => e = .returned (ansV ⟨5, 0, 0⟩) ∧ ∃ m', Cnx W0 w m w' m' s := by
 have lg := h.plt.blk.lt
 have zw := h.ch.size
 obtain ⟨c0, c1, c2, c3, c4, c5, -⟩ := h.cells
 obtain ⟨rs, t, pl⟩ := h.pl
 have n0 := pl.n0
 have n1 := pl.n1
 have e0 := pl.e0
 have e1 := pl.e1
 have HPL := hide pl
 have HG := hide h
 clear h pl
 have b1 : (x.k == 1) = false := by simp [k1]
 have b5 : (x.k == 5) = false := by simp [k1]
 have b2 : (x.k == 2) = false := by simp [k1]
 have b3 : (x.k == 3) = false := by simp [k1]
 have b4 : (x.k == 4) = true := by simp [k1]
 have d0 : decide (x.n < 0) = true := by simp; omega
 have d3 : decide ((3 : Int) ≤ x.n) = false := by simp; omega
 clear k1 hx c0 c1 c2 c3 c4 c5 n0 n1 e0 e1
 unfold spV spC
 go_enter Tryz.func43, Tryz.ntmps43
 go_wp2_with fail
 go_quiet (fail)
 go_wp2
 have R0 := show Blk (((w.alloc (.cells #[.int .i64 x.k, .int .i64 x.n, .int .i64 x.keep, .int .i64 x.o.k, .int .i64 x.o.now, .int .i64 x.o.jb, .int .i64 x.o.tr, .int .i64 x.o.wk, .int .i64 x.o.tm] 85)).alloc (.cells #[.int .i64 0, .int .i64 0, .int .i64 0] 95)).drewN nq) (w.heap.size + 1) _ _ from Blk.new1 w (.cells #[.int .i64 x.k, .int .i64 x.n, .int .i64 x.keep, .int .i64 x.o.k, .int .i64 x.o.now, .int .i64 x.o.jb, .int .i64 x.o.tr, .int .i64 x.o.wk, .int .i64 x.o.tm] 85) #[.int .i64 0, .int .i64 0, .int .i64 0] 95
 have R7 := ((R0.set 0 (.int .i64 5)).set 1 (.int .i64 0)).set 2 (.int .i64 0)
 refine bodyPost_ret (v := ansV ⟨5, 0, 0⟩) (ret_ans rfl rfl R7) rfl ?_
 have k7 := ((((((Chg.refl [] w).alloc (.cells #[.int .i64 x.k, .int .i64 x.n, .int .i64 x.keep, .int .i64 x.o.k, .int .i64 x.o.now, .int .i64 x.o.jb, .int .i64 x.o.tr, .int .i64 x.o.wk, .int .i64 x.o.tm] 85)).alloc (.cells #[.int .i64 0, .int .i64 0, .int .i64 0] 95)).drewN nq).setCell (p := ⟨w.heap.size + 1, 0, none⟩) (by simp) (.int .i64 5)).setCell (p := ⟨w.heap.size + 1, 1, none⟩) (by simp) (.int .i64 0)).setCell (p := ⟨w.heap.size + 1, 2, none⟩) (by simp) (.int .i64 0)
 exact ⟨rfl, _, Cnx.pre k7 (Cnx.refl ((unhide HG).fresh k7))⟩
set_option maxRecDepth 100000 in
set_option maxHeartbeats 4000000 in
theorem cstep_ask4_hi (W0 : World) (m : Cm) (s : Gd) (x : Sp) (w : World) (h : Chp W0 w m s) (k1 : x.k = 4) (hx : 3 ≤ x.n) :
  Calls Tryz.prog 43 #[.pointer (some ⟨m.cb, 0, none⟩), spV x] w fun e w' => e = .returned (ansV ⟨5, 0, 0⟩) ∧ ∃ m', Cnx W0 w m w' m' s := by
 have lg := h.plt.blk.lt
 have zw := h.ch.size
 obtain ⟨c0, c1, c2, c3, c4, c5, -⟩ := h.cells
 obtain ⟨rs, t, pl⟩ := h.pl
 have n0 := pl.n0
 have n1 := pl.n1
 have e0 := pl.e0
 have e1 := pl.e1
 have HPL := hide pl
 have HG := hide h
 clear h pl
 have b1 : (x.k == 1) = false := by simp [k1]
 have b5 : (x.k == 5) = false := by simp [k1]
 have b2 : (x.k == 2) = false := by simp [k1]
 have b3 : (x.k == 3) = false := by simp [k1]
 have b4 : (x.k == 4) = true := by simp [k1]
 have d0 : decide (x.n < 0) = false := by simp; omega
 have d3 : decide ((3 : Int) ≤ x.n) = true := by simp; omega
 clear k1 hx c0 c1 c2 c3 c4 c5 n0 n1 e0 e1
 unfold spV spC
 go_enter Tryz.func43, Tryz.ntmps43
 go_wp2_with fail
 go_quiet (fail)
 go_wp2
 have R0 := show Blk (((w.alloc (.cells #[.int .i64 x.k, .int .i64 x.n, .int .i64 x.keep, .int .i64 x.o.k, .int .i64 x.o.now, .int .i64 x.o.jb, .int .i64 x.o.tr, .int .i64 x.o.wk, .int .i64 x.o.tm] 85)).alloc (.cells #[.int .i64 0, .int .i64 0, .int .i64 0] 95)).drewN nq) (w.heap.size + 1) _ _ from Blk.new1 w (.cells #[.int .i64 x.k, .int .i64 x.n, .int .i64 x.keep, .int .i64 x.o.k, .int .i64 x.o.now, .int .i64 x.o.jb, .int .i64 x.o.tr, .int .i64 x.o.wk, .int .i64 x.o.tm] 85) #[.int .i64 0, .int .i64 0, .int .i64 0] 95
 have R7 := ((R0.set 0 (.int .i64 5)).set 1 (.int .i64 0)).set 2 (.int .i64 0)
 refine bodyPost_ret (v := ansV ⟨5, 0, 0⟩) (ret_ans rfl rfl R7) rfl ?_
 have k7 := ((((((Chg.refl [] w).alloc (.cells #[.int .i64 x.k, .int .i64 x.n, .int .i64 x.keep, .int .i64 x.o.k, .int .i64 x.o.now, .int .i64 x.o.jb, .int .i64 x.o.tr, .int .i64 x.o.wk, .int .i64 x.o.tm] 85)).alloc (.cells #[.int .i64 0, .int .i64 0, .int .i64 0] 95)).drewN nq).setCell (p := ⟨w.heap.size + 1, 0, none⟩) (by simp) (.int .i64 5)).setCell (p := ⟨w.heap.size + 1, 1, none⟩) (by simp) (.int .i64 0)).setCell (p := ⟨w.heap.size + 1, 2, none⟩) (by simp) (.int .i64 0)
 exact ⟨rfl, _, Cnx.pre k7 (Cnx.refl ((unhide HG).fresh k7))⟩
end Go.Proofs.YtllnjiljjodfdacGreatDoor
