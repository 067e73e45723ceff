/-
  A law on a region that draws its order, in which a cell is read, and written behind that: a load may be taken first if whoever writes its cell comes behind an operation that waits for the load. (The held walk of the library keeps one condition for the whole region; here it may hang on what has come up.) Nothing here is claimed by itself.
-/
import Derived.Test.YtafbacijfiodhabMgN2
import Derived.Test.YtafbacijfiodhabMgO7
namespace Go.Proofs.Ytafbacijfiodhab
open Go.RowKit
section
variable {P : Program} {ops : Array Oper} {Q : Exit → Act → World → Prop} {md : Region.Mode} {S : Array Bool → World → Prop}

def wpAnyL (P : Program) (md : Region.Mode) (ops : Array Oper) (Q : Exit → Act → World → Prop) (S : Array Bool → World → Prop) : Nat → Array Bool → Act → World → Prop
  | 0, listed, a, w => Region.ready md ops listed = [] ∧ Q .normal a w
  | fuel + 1, listed, a, w =>
    (Region.ready md ops listed = [] → Q .normal a w) ∧
    ∀ i ∈ Region.ready md ops listed, wpOp P ops Q i (fun a' w' => S (listed.setIfInBounds i true) w' ∧ wpAnyL P md ops Q S fuel (listed.setIfInBounds i true) a' w') a w

theorem wpAny_of_L : ∀ (fuel : Nat) (listed : Array Bool) (a : Act) (w : World), wpAnyL P md ops Q S fuel listed a w → wpAny P md ops Q fuel listed a w
  | 0, _, _, _, h => h
  | fuel + 1, _, _, _, h => ⟨h.1, fun i hi => wpOp_mono (fun a' w' h' => wpAny_of_L fuel _ a' w' h'.2) (h.2 i hi)⟩

/-- An operation is taken first: R: what stands of what has come up while it has not. -/
theorem wpAnyL_first {i : Nat} {oi : Oper} {v : Value} {A : World → Prop} {R : Array Bool → Prop} (hi : ops[i]? = some oi) (hsel : ∀ (j : Nat) (o : Oper) cs b, ops[j]? = some o → o.op ≠ .select cs b)
    (hQ : ∀ c a w, Q (.panic c) (a.put oi.dst v) w → Q (.panic c) a w)
    (hirr : ∀ L w, S (L.setIfInBounds i true) w ↔ S L w) (hA : ∀ L w, R L → S L w → A w)
    (hR : ∀ L j oj, R L → ops[j]? = some oj → (∀ e ∈ oj.after, Region.binds md e = true → e.on ≠ i) → R (L.setIfInBounds j true)) :
    ∀ (fuel : Nat) (listed : Array Bool) (a : Act) (w : World),
      (∀ j oj, ops[j]? = some oj → j ≠ i → listed.getD j true = false → (∀ e ∈ oj.after, Region.binds md e = true → e.on ≠ i) → oi.apart ops oj = true) →
      i ∈ Region.ready md ops listed → YieldsIf P ops A oi v a → R listed → S listed w →
      wpAnyL P md ops Q S fuel (listed.setIfInBounds i true) (a.put oi.dst v) w → wpAnyL P md ops Q S (fuel + 1) listed a w := by
  intro fuel
  induction fuel with
  | zero =>
    intro listed a w _ hr hy hL hS H
    refine ⟨fun h => (by rw [h] at hr; cases hr), fun j hj => ?_⟩
    by_cases hji : j = i
    · subst hji; exact hy.wpOp hi (hA _ _ hL hS) ⟨(hirr _ _).2 hS, H⟩
    · have := ready_mono hj hji
      rw [H.1] at this
      cases this
  | succ fuel ih =>
    intro listed a w hfree hr hy hL hS H
    refine ⟨fun h => (by rw [h] at hr; cases hr), fun j hj => ?_⟩
    by_cases hji : j = i
    · subst hji; exact hy.wpOp hi (hA _ _ hL hS) ⟨(hirr _ _).2 hS, H⟩
    · have h1 := H.2 j (ready_mono hj hji)
      obtain ⟨hjun, oj, hoj, hall⟩ := mem_ready.1 hj
      have hnot : ∀ e ∈ oj.after, Region.binds md e = true → e.on ≠ i := fun e he hb heq => by
        have h1 := hall e he hb
        have h0 := (mem_ready.1 hr).1
        rw [heq] at h1
        rcases Nat.lt_or_ge i listed.size with h' | h'
        · simp [h'] at h0 h1; rw [h0] at h1; cases h1
        · simp [Array.getElem?_eq_none h'] at h1
      have h2 := wpOp_putIf hoj (hfree j oj hoj hji hjun hnot) (fun cs b => hsel i oi cs b hi) (fun cs b => hsel j oj cs b hoj) hQ hy h1
      have hfree' : ∀ k ok, ops[k]? = some ok → k ≠ i → (listed.setIfInBounds j true).getD k true = false →
          (∀ e ∈ ok.after, Region.binds md e = true → e.on ≠ i) → oi.apart ops ok = true := fun k ok hk hki hun hno => by
        refine hfree k ok hk hki ?_ hno
        by_cases hjk : j = k
        · subst hjk; exact hjun
        · rw [getD_set_ne true hjk] at hun; exact hun
      refine wpOp_mono (fun a' w' h3 => ?_) h2
      have hS' : S (listed.setIfInBounds j true) w' := by
        have h4 := h3.2.1
        rw [Array.setIfInBounds_comm _ _ (Ne.symm hji)] at h4
        exact (hirr _ _).1 h4
      refine ⟨hS', ih (listed.setIfInBounds j true) a' w' hfree' (ready_mono hr (Ne.symm hji)) h3.1 (hR _ _ _ hL hoj hnot) hS' ?_⟩
      rw [Array.setIfInBounds_comm _ _ hji]
      exact h3.2.2

/-- What hangs on no world. -/
theorem wpAnyL_pure {i : Nat} {oi : Oper} {v : Value} {fuel : Nat} {listed : Array Bool} {a : Act} {w : World} (hirr : ∀ L w, S (L.setIfInBounds i true) w ↔ S L w) (hi : ops[i]? = some oi)
    (hs : Region.noSelect ops = true) (hf : Region.free md ops listed i = true) (hr : (Region.ready md ops listed).contains i = true)
    (hQ : ∀ c a w, Q (.panic c) (a.put oi.dst v) w → Q (.panic c) a w) (hy : YieldsIf P ops (fun _ => True) oi v a) (hS : S listed w)
    (h : wpAnyL P md ops Q S fuel (listed.setIfInBounds i true) (a.put oi.dst v) w) : wpAnyL P md ops Q S (fuel + 1) listed a w :=
  wpAnyL_first (A := fun _ => True) (R := fun _ => True) hi (Region.noSelect_spec hs) hQ hirr (fun _ _ _ _ => trivial) (fun _ _ _ _ _ _ => trivial) fuel listed a w (Region.free_spec hi hf) (by simpa using hr) hy trivial hS h

/-- A load whose cell stands as long as operation z has not come up, which waits for it. -/
theorem wpAnyL_take {i z : Nat} {oi oz : Oper} {v : Value} {A : World → Prop} {fuel : Nat} {listed : Array Bool} {a : Act} {w : World} (hirr : ∀ L w, S (L.setIfInBounds i true) w ↔ S L w) (hA : ∀ L w, L.getD z true = false → S L w → A w) (hi : ops[i]? = some oi)
    (hoz : ops[z]? = some oz) (hedge : (oz.after.any fun e => Region.binds md e && e.on == i) = true) (hzl : listed.getD z true = false)
    (hs : Region.noSelect ops = true) (hf : Region.free md ops listed i = true) (hr : (Region.ready md ops listed).contains i = true)
    (hQ : ∀ c a w, Q (.panic c) (a.put oi.dst v) w → Q (.panic c) a w) (hy : YieldsIf P ops A oi v a) (hS : S listed w)
    (h : wpAnyL P md ops Q S fuel (listed.setIfInBounds i true) (a.put oi.dst v) w) : wpAnyL P md ops Q S (fuel + 1) listed a w :=
  wpAnyL_first (A := A) (R := fun L => L.getD z true = false) hi (Region.noSelect_spec hs) hQ hirr hA (fun L j oj hL hoj hno => by
    by_cases hjz : j = z
    · subst hjz
      rw [hoz] at hoj
      cases hoj
      obtain ⟨e, he, hb⟩ := Array.any_eq_true'.1 hedge
      simp only [Bool.and_eq_true, beq_iff_eq] at hb
      exact absurd hb.2 (hno e he hb.1)
    · rw [getD_set_ne true hjz]; exact hL) fuel listed a w (Region.free_spec hi hf) (by simpa using hr) hy hzl hS h

def AllReadyL (P : Program) (md : Region.Mode) (ops : Array Oper) (Q : Exit → Act → World → Prop) (S : Array Bool → World → Prop) (fuel : Nat) (listed : Array Bool) (a : Act) (w : World) (rs : List Nat) : Prop :=
  ∀ i ∈ rs, wpOp P ops Q i (fun a' w' => S (listed.setIfInBounds i true) w' ∧ wpAnyL P md ops Q S fuel (listed.setIfInBounds i true) a' w') a w
theorem AllReadyL.nil {fuel : Nat} {listed : Array Bool} {a : Act} {w : World} : AllReadyL P md ops Q S fuel listed a w [] := fun _ h => by cases h
theorem AllReadyL.cons {fuel : Nat} {listed : Array Bool} {a : Act} {w : World} {i : Nat} {o : Oper} {rs : List Nat} (ho : ops[i]? = some o)
    (h : ∀ K' : Act → World → Prop, Shut (∀ a w, S (listed.setIfInBounds i true) w → wpAnyL P md ops Q S fuel (listed.setIfInBounds i true) a w → K' a w) → if Region.wanted o (yielded ops a.tmps) = true then Oper.wp P o a w K' Q else K' (a.put o.dst undef) w)
    (hs : AllReadyL P md ops Q S fuel listed a w rs) : AllReadyL P md ops Q S fuel listed a w (i :: rs) := fun j hj => by
  rcases List.mem_cons.1 hj with rfl | hj
  · exact wpOp_step ho (fun K' hK => h K' (fun a w hS hW => hK a w ⟨hS, hW⟩))
  · exact hs j hj
theorem wpAnyL_ready {rs : List Nat} {fuel : Nat} {listed : Array Bool} {a : Act} {w : World} (hr : Region.ready md ops listed = rs) (hne : rs ≠ [])
    (h : AllReadyL P md ops Q S fuel listed a w rs) : wpAnyL P md ops Q S (fuel + 1) listed a w :=
  ⟨fun h0 => absurd (hr ▸ h0) hne, hr ▸ h⟩
theorem wpAnyL_done {listed : Array Bool} {a : Act} {w : World} (hr : Region.ready md ops listed = []) (h : Q .normal a w) :
    ∀ fuel, wpAnyL P md ops Q S fuel listed a w
  | 0 => ⟨hr, h⟩
  | _ + 1 => ⟨fun _ => h, by rw [hr]; simp⟩
theorem wp_region_L {id : Nat} {a : Act} {w : World} (hm : P.follows .mixedOrders = true) (S : Array Bool → World → Prop)
    (h : wpAnyL P .any ops Q S ops.size (Array.replicate ops.size false) a w.drew) : (Code.region id ops true).wp P Q a w :=
  wp_region_any hm (wpAny_of_L _ _ _ _ h)

/-- One thing is appended. -/
theorem wp_append_one {op : Oper} {a : Act} {w : World} {K : Act → World → Prop} {s x : Operand} {t : TypeId}
    (ho : op.op = .call { callee := .builtin .append, args := #[s, x], argTypes := #[t, t] }) (base : Nat) (e : TypeId) {i : TypeInfo} {z : Value} (ht : P.underlying t = some (.slice e)) (hi : P.info? e = some i) (hz : i.zero = some z)
    (hsize : i.size = 1) (hby : i.bytes = 8) (hzs : z.cells.size = 1) (v : Value) (n : Nat) (xs : List Value) (hs : a.eval s = v) (hown : w.ownsRow base e 1 v n xs) (g : Nat) (u : Value) (hx : a.eval x = .slice (some ⟨g, 0, none⟩) 1 1) (hg : w.cell? ⟨g, 0, none⟩ = some u) (h1 : u.oneCell' = true) (hn : n ≤ 1000) (hbase : base ≤ w.heap.size)
    (k : ∀ v' w', w'.ownsRow base e 1 v' (n + 1) (xs ++ [u]) → w.grownBy w' v.ownBlock → (v'.ownBlock = v.ownBlock ∨ v'.ownBlock = some w.heap.size) → K (a.put op.dst v') w') : op.wp P a w K Q := by
  obtain ⟨v', w', hr, h2, h3, _, h5⟩ := run_append_own_at (P := P) w base t op.type e i z 1 8 ht hi hz hsize hby hzs (by decide) v n xs hown ⟨g, 0, none⟩ 1 1 [u] rfl (fun j u' hj => by
    match j, hj with
    | 0, hj => simp at hj; subst hj; simpa [Addr.add] using hg) (by simpa using h1) (by unfold maxLen; omega) (by omega) hbase
  unfold Oper.wp execOp
  simp only [ho, resolve, invoke, builtin, Sem.run_bind, Sem.run_pure, Result.andThen_ok, List.map_toArray, List.map_cons, List.map_nil, hs, hx, hr]
  exact k v' w' h2 h3 h5
end
end Go.Proofs.Ytafbacijfiodhab

namespace Go.Proofs.Ytafbacijfiodhab
open Go.RowKit

set_option maxRecDepth 100000 in
set_option maxHeartbeats 4000000 in
theorem opened_new (pb : Nat) (ep : Int) (u : Value) (l : List Int) (w : World) (P : Plt 83 w pb ep u l) (h0 : 0 ≤ ep) (h1 : ¬ 100 ≤ ep) :
    Calls Try.prog 39 #[.pointer (some ⟨pb, 0, none⟩)] w fun e w' => ∃ vb u', e = .returned (.tuple #[.pointer (some ⟨vb, 0, none⟩), .int .i64 0]) ∧ w.heap.size ≤ vb ∧ vb ∉ fp pb u' ∧
      Vgr 89 w' vb (behindT (keptL l ep)) pb (ep + 1) false ∧ Plt 83 w' pb (ep + 1) u' (bytesL (keptL l ep)) ∧ Chg [pb] w w' ∧ Pnx w u u' := by
  obtain ⟨c0, c1, hl, f0, f1⟩ := P.cells
  have hfew := P.few
  obtain ⟨kb1, kb2⟩ := keptL_bytes P.ok ep
  have KB := hide kb1
  have hok := hide P.ok
  have HQ : Hid ((allR l.length (getB l)).length ≤ 4000) := hide (by have := (recsL_back P.ok).2.1; unfold recsL at this; omega)
  clear kb1
  have HP := hide P
  clear P
  have h1 : ep < 100 := by omega
  go_enter Try.func39, Try.ntmps39
  go_wp2_with fail
  refine (praise_more pb ep u l _ (unhide HP) h0 (by omega)).mono ?_
  rintro e w2 ⟨rfl, P2, g2⟩
  have z2 := g2.size
  obtain ⟨d0, d1, dl, -, -⟩ := P2.cells
  obtain ⟨a2, c2, rfl, hc2, hB2⟩ := sl_byt P2.sl (unhide hok)
  obtain ⟨m, hm⟩ : ∃ m, m = (keptL l ep).length := ⟨_, rfl⟩
  have HM := hide hm
  have HU : Hid ((untilR (allR l.length (getB l)) ep).length = m) := hide hm.symm
  have hm9 : 9 * m ≤ l.length := by rw [hm]; exact kb2
  clear c0 c1 f0 f1 hm kb2
  go_wp2_with (first
    | (go_at_call 50; refine (rsof_any a2 l.length c2 (getB l) _ (by omega) hc2 hB2).mono ?_; rintro e w3 ⟨v3, rfl, own3, g3⟩; obtain ⟨a3, c3, rfl, hc3, -, R3⟩ := own_recs own3 rfl; have HO3 := hide own3; have HR3 := hide R3; have P3 := P2.chg g3 (by simp); have G3 : Chg [pb] w w3 := g2.trans g3 (by simp); have z3 := g3.size; clear own3 g3 R3)
    | (go_at_call 27; refine (until_any a3 c3 (allR l.length (getB l)) ep _ hc3 (unhide HQ) (unhide HR3)).mono ?_; rintro e w' ⟨rfl, rfl⟩; rw [unhide HU])
    | (go_at_call 51; refine (pcut_nine pb (ep + 1) _ l m _ P3 (by omega) hm9).mono ?_; rintro e w4 ⟨rfl, u4, P4, g4, n4⟩; have G4 := G3.trans g4 (by simp); have z4 := g4.size; have HO4 := hide (own_keep (unhide HO3) g4 (by intro x hx e; simp at hx; subst hx; have := ((unhide HO3).lt _ e).1; omega)); clear g4)
    | (go_at_call 30; refine (behind_any a3 m c3 (keptL l ep) _ (unhide HM).symm (by omega) (((Recs.own (unhide HO4) rfl).le (by rw [← unhide HU]; exact untilR_len _ _)).congr (fun i hi => by unfold keptL recsL; rw [untilR_pre, unhide HU, atR_take _ _ _ hi]))).mono ?_; rintro e w5 ⟨rfl, hB5, g5⟩; have P5 := P4.chg g5 (by simp); have G5 := G4.trans g5 (by simp); have z5 := hB5.lt; clear g5)
    | (refine wpList_load_tab 74 brdRow brdInfo rfl _ rfl w4.heap.size rfl 74 (behindT (keptL l ep)) ?hs ?_; (case hs => exact hB5); unfold Tb.cells))
  go_ret2
  have hP : Plt 83 w5 pb (ep + 1) u4 (bytesL (keptL l ep)) := by rw [← unhide KB, ← unhide HM]; exact P5
  exact ⟨w5.heap.size, u4, rfl, by omega, fun hf => absurd (hP.fp_lt _ hf) (by omega), Blk.new w5 _ _, hP.alloc _, G5.alloc _, n4.mono (by omega)⟩


/-! ### The rows of a crew, while both are appended to -/
section
variable {W0 W w w' : World} {m : Mm} {s : St}
def rowB (m : Mm) : List Nat := m.rn.ownBlock.toList ++ m.rv.ownBlock.toList
theorem mem_rowB {x : Nat} : x ∈ rowB m ↔ m.rn.ownBlock = some x ∨ m.rv.ownBlock = some x := by
  unfold rowB
  cases m.rn.ownBlock <;> cases m.rv.ownBlock <;> simp [eq_comm]
theorem Crw.row_own (h : Crw W0 W m s) : ∀ x ∈ rowB m, m.own x = 1 ∨ m.own x = 2 := fun x hx => (mem_rowB.1 hx).imp (h.orn x) (h.orv x)
theorem Crw.mid_b (h : Crw W0 W m s) (c : Chg (rowB m) W w) : Blk w m.cb #[.pointer (some ⟨m.db, 0, none⟩), .pointer (some ⟨m.pb, 0, none⟩), m.rn, m.rv] 51 := h.blk.chg c (fun hx => by have := h.row_own _ hx; have := h.ocb; omega)
theorem mid_ap1 (c : Chg (rowB m) W w) (g : w.grownBy w' m.rn.ownBlock) : Chg (rowB m) W w' := c.grew g (fun _ hk => .inl (mem_rowB.2 (.inl hk)))
theorem mid_ap2 (c : Chg (rowB m) W w) (g : w.grownBy w' m.rv.ownBlock) : Chg (rowB m) W w' := c.grew g (fun _ hk => .inl (mem_rowB.2 (.inr hk)))
theorem Crw.row2 (h : Crw W0 W m s) {e : TypeId} {n : Nat} {xs : List Value} (r : w.ownsRow W0.heap.size e 1 m.rv n xs) (g : w.grownBy w' m.rn.ownBlock) : w'.ownsRow W0.heap.size e 1 m.rv n xs :=
  own_keep r ((Chg.refl m.rn.ownBlock.toList w).grew g (fun k hk => .inl (by rw [hk]; simp))) (fun x hx e => by
    have h1 : m.rn.ownBlock = some x := by cases hh : m.rn.ownBlock <;> rw [hh] at hx <;> simp at hx; rw [hx]
    have := h.orn x h1
    have := h.orv x e
    omega)
theorem Crw.row1 (h : Crw W0 W m s) {e : TypeId} {n : Nat} {xs : List Value} {rn' : Value} (r : w.ownsRow W0.heap.size e 1 rn' n xs) (hr : ∀ y, rn'.ownBlock = some y → m.rn.ownBlock = some y ∨ W.heap.size ≤ y) (g : w.grownBy w' m.rv.ownBlock) : w'.ownsRow W0.heap.size e 1 rn' n xs :=
  own_keep r ((Chg.refl m.rv.ownBlock.toList w).grew g (fun k hk => .inl (by rw [hk]; simp))) (fun x hx e => by
    have h1 : m.rv.ownBlock = some x := by cases hh : m.rv.ownBlock <;> rw [hh] at hx <;> simp at hx; rw [hx]
    rcases hr x e with e1 | e1
    · have := h.orn x e1
      have := h.orv x h1
      omega
    · have := (h.rowv.lt x h1).2
      omega)
end
theorem nptrInfo : (Try.prog.info? 52).map (fun i => (i.zero, i.size, i.bytes)) = some (some (.pointer none), 1, 8) := by kernel_rfl
theorem vptrInfo : (Try.prog.info? 84).map (fun i => (i.zero, i.size, i.bytes)) = some (some (.pointer none), 1, 8) := by kernel_rfl

/-- What stands of a crew's cells till the first of both is laid down. -/
def RowS (m : Mm) (a1 : Option Addr) (k c1 : Nat) (a2 : Option Addr) (c2 : Nat) (L : Array Bool) (w : World) : Prop := L.getD 18 true = false → w.cell? ⟨m.cb, 2, none⟩ = some (.slice a1 k c1) ∧ w.cell? ⟨m.cb, 3, none⟩ = some (.slice a2 k c2)
theorem rowS_irr {m : Mm} {a1 a2 : Option Addr} {k c1 c2 i : Nat} (hi : i ≠ 18) (L : Array Bool) (w : World) : RowS m a1 k c1 a2 c2 (L.setIfInBounds i true) w ↔ RowS m a1 k c1 a2 c2 L w := by
  unfold RowS
  rw [getD_set_ne true hi]

set_option maxRecDepth 100000 in
set_option maxHeartbeats 4000000 in
theorem step_full (W0 : World) (m : Mm) (s : St) (x : Ns) (w : World) (h : Crw W0 w m s) (he : s.p.ep = s.d.ep) (hx : x.d = 0) (hf : s.d.ep = 100) :
    Calls Try.prog 20 #[.pointer (some ⟨m.cb, 0, none⟩), nsV x] w fun e w' => StepPost W0 m s e w' := by
  obtain ⟨xd, xk, xkeep, o⟩ := x
  have c0 : w.cell? ⟨m.cb, 0, none⟩ = some (.pointer (some ⟨m.db, 0, none⟩)) := h.blk.cell 0
  have lcb := h.blk.lt
  have hx0 : (xd == 0) = true := by simpa using hx
  have h1 : Crw W0 (w.alloc (.cells #[.int .i64 xd, .int .i64 xk, .int .i64 xkeep, .int .i64 o.k, .int .i64 o.now, .int .i64 o.jb, .int .i64 o.tr, .int .i64 o.wk, .int .i64 o.tm] 45)) m s := h.same ((Chg.refl [] w).alloc _)
  have HC := hide h1
  clear h h1 hx
  have HF := hide hf
  have HE := hide he
  clear hf he
  unfold nsV nsC
  go_enter Try.func20, Try.ntmps20
  go_wp2_with (first
    | (go_at_call 22; refine (nopen_full m.db W0.heap.size s.d m.v _ (unhide HC).dsk (unhide HF)).mono ?_; rintro e w2 ⟨rfl, D2, g2⟩; have h2 := (unhide HC).nodeFull D2 g2; have c1 : w2.cell? ⟨m.cb, 1, none⟩ = some (.pointer (some ⟨m.pb, 0, none⟩)) := h2.blk.cell 1; have l2 := h2.blk.lt; have HC2 := hide h2; clear D2 g2 h2)
    | (go_at_call 39; refine (opened_full m.pb m.u s.p.l _ (((unhide HE).trans (unhide HF)) ▸ (unhide HC2).plt)).mono ?_; rintro e w3 ⟨rfl, P3, g3⟩; have h3 := (unhide HC2).verFull (((unhide HE).trans (unhide HF)).symm ▸ P3) g3; have HC3 := hide h3; clear P3 g3 h3))
  go_ret
  exact step_mk (unhide HC3) rfl rfl (unhide HE) (fun hs => ⟨rfl, hs⟩)

set_option maxRecDepth 100000 in
set_option maxHeartbeats 4000000 in
theorem step_extra (W0 : World) (m : Mm) (s : St) (x : Ns) (w : World) (h : Crw W0 w m s) (he : s.p.ep = s.d.ep) (hx : x.d = 0) (hlt : s.d.ep < 100) (hk : ¬ s.k < 8) :
    Calls Try.prog 20 #[.pointer (some ⟨m.cb, 0, none⟩), nsV x] w fun e w' => StepPost W0 m s e w' := by
  obtain ⟨xd, xk, xkeep, o⟩ := x
  have c0 : w.cell? ⟨m.cb, 0, none⟩ = some (.pointer (some ⟨m.db, 0, none⟩)) := h.blk.cell 0
  have lcb := h.blk.lt
  have hx0 : (xd == 0) = true := by simpa using hx
  have h1 : Crw W0 (w.alloc (.cells #[.int .i64 xd, .int .i64 xk, .int .i64 xkeep, .int .i64 o.k, .int .i64 o.now, .int .i64 o.jb, .int .i64 o.tr, .int .i64 o.wk, .int .i64 o.tm] 45)) m s := h.same ((Chg.refl [] w).alloc _)
  have HC := hide h1
  clear h h1 hx
  have HE := hide he
  have hkb : decide ((s.k : Int) < 8) = false := by simp; omega
  clear he
  unfold nsV nsC
  go_enter Try.func20, Try.ntmps20
  go_wp2_with (first
    | (go_at_call 22; refine (nopen_more m.db W0.heap.size s.d m.v _ (unhide HC).dsk (by have := (unhide HC).pd.e1; omega) hlt).mono ?_; rintro e w2 ⟨nb', tb', v2, rfl, z1, z2, N2, D2, f1, f2, g2, n2⟩; have h2 := (unhide HC).nodeOpen hlt D2 g2 n2 f1 f2; have c1 : w2.cell? ⟨m.cb, 1, none⟩ = some (.pointer (some ⟨m.pb, 0, none⟩)) := h2.blk.cell 1; have l2 : m.cb < w2.heap.size := h2.blk.lt; have HC2 := hide h2; have HN2 := hide N2; have HZ := hide (And.intro z1 z2); clear D2 g2 h2 N2 z1 z2 f1 f2 n2)
    | (go_at_call 39; refine (opened_new m.pb s.p.ep m.u s.p.l _ (unhide HC2).plt (by have := (unhide HC).pd.e1; have := unhide HE; omega) (by have := unhide HE; omega)).mono ?_; rintro e w3 ⟨vb', u3, rfl, z3, f3, V3, P3, g3, n3⟩; have h3 := (unhide HC2).verOpen (vb' := vb') (by have := unhide HE; show s.p.ep < 100; omega) P3 g3 n3 f3; have N3 := (unhide HN2).chg g3 (by intro hx; simp at hx; have := (unhide HC).plt.fp_lt m.pb (mem_fp.2 (.inl rfl)); have := (unhide HZ).1; omega) (by intro hx; simp at hx; have := (unhide HC).plt.fp_lt m.pb (mem_fp.2 (.inl rfl)); have := (unhide HZ).2; omega); have V3' : Vn w3 vb' m.pb (openN s.p) := V3; obtain ⟨an, cn, ern, hcn, hrn⟩ := row_form h3.rown; have C2 : w3.cell? ⟨m.cb, 2, none⟩ = some (.slice an s.k cn) := (h3.blk.cell 2).trans (congrArg some ern); have l3 : m.cb < w3.heap.size := h3.blk.lt; have HERN := hide ern; have HC3 := hide h3; have HN3 := hide N3; have HV3 := hide V3'; have HZ3 := hide z3; clear V3 P3 g3 n3 h3 N3 V3' hrn ern z3 f3))
  go_ret
  exact step_mk (unhide HC3) rfl rfl (congrArg (· + 1) (unhide HE)) (fun hs => ⟨rfl, by show openD s.p = openD s.d; rw [hs.1], hs.2⟩)

theorem same_open {s : St} (h : Same s) : Same { s with d := openD s.d, p := openD s.p, k := s.k + 1, ns := upN s.ns s.k (openN s.d), vs := upN s.vs s.k (openN s.p) } := by
  obtain ⟨h1, h2⟩ := h
  refine ⟨by show openD s.p = openD s.d; rw [h1], fun j hj => ?_⟩
  show upN s.vs s.k (openN s.p) j = upN s.ns s.k (openN s.d) j
  rw [h1]
  by_cases e : j = s.k
  · subst e; rw [upN_same, upN_same]
  · rw [upN_other _ _ e, upN_other _ _ e]; exact h2 j (by have hj' : j < s.k + 1 := hj; omega)


set_option maxRecDepth 100000 in
set_option maxHeartbeats 4000000 in
theorem step_open (W0 : World) (m : Mm) (s : St) (x : Ns) (w : World) (h : Crw W0 w m s) (he : s.p.ep = s.d.ep) (hx : x.d = 0) (hlt : s.d.ep < 100) (hk : s.k < 8) :
    Calls Try.prog 20 #[.pointer (some ⟨m.cb, 0, none⟩), nsV x] w fun e w' => StepPost W0 m s e w' := by
  obtain ⟨xd, xk, xkeep, o⟩ := x
  have c0 : w.cell? ⟨m.cb, 0, none⟩ = some (.pointer (some ⟨m.db, 0, none⟩)) := h.blk.cell 0
  have lcb := h.blk.lt
  have hx0 : (xd == 0) = true := by simpa using hx
  have h1 : Crw W0 (w.alloc (.cells #[.int .i64 xd, .int .i64 xk, .int .i64 xkeep, .int .i64 o.k, .int .i64 o.now, .int .i64 o.jb, .int .i64 o.tr, .int .i64 o.wk, .int .i64 o.tm] 45)) m s := h.same ((Chg.refl [] w).alloc _)
  have HC := hide h1
  clear h h1 hx
  have HE := hide he
  have hkb : decide ((s.k : Int) < 8) = true := by simp; omega
  clear he
  unfold nsV nsC
  go_enter Try.func20, Try.ntmps20
  go_wp2_with (first
    | (go_at_call 22; refine (nopen_more m.db W0.heap.size s.d m.v _ (unhide HC).dsk (by have := (unhide HC).pd.e1; omega) hlt).mono ?_; rintro e w2 ⟨nb', tb', v2, rfl, z1, z2, N2, D2, f1, f2, g2, n2⟩; have h2 := (unhide HC).nodeOpen hlt D2 g2 n2 f1 f2; have c1 : w2.cell? ⟨m.cb, 1, none⟩ = some (.pointer (some ⟨m.pb, 0, none⟩)) := h2.blk.cell 1; have l2 : m.cb < w2.heap.size := h2.blk.lt; have HC2 := hide h2; have HN2 := hide N2; have HZ := hide (And.intro z1 z2); clear D2 g2 h2 N2 z1 z2 f1 f2 n2)
    | (go_at_call 39; refine (opened_new m.pb s.p.ep m.u s.p.l _ (unhide HC2).plt (by have := (unhide HC).pd.e1; have := unhide HE; omega) (by have := unhide HE; omega)).mono ?_; rintro e w3 ⟨vb', u3, rfl, z3, f3, V3, P3, g3, n3⟩; have h3 := (unhide HC2).verOpen (vb' := vb') (by have := unhide HE; show s.p.ep < 100; omega) P3 g3 n3 f3; have N3 := (unhide HN2).chg g3 (by intro hx; simp at hx; have := (unhide HC).plt.fp_lt m.pb (mem_fp.2 (.inl rfl)); have := (unhide HZ).1; omega) (by intro hx; simp at hx; have := (unhide HC).plt.fp_lt m.pb (mem_fp.2 (.inl rfl)); have := (unhide HZ).2; omega); have V3' : Vn w3 vb' m.pb (openN s.p) := V3; obtain ⟨an, cn, ern, hcn, hrn⟩ := row_form h3.rown; have C2 : w3.cell? ⟨m.cb, 2, none⟩ = some (.slice an s.k cn) := (h3.blk.cell 2).trans (congrArg some ern); have l3 : m.cb < w3.heap.size := h3.blk.lt; have HERN := hide ern; have HC3 := hide h3; have HN3 := hide N3; have HV3 := hide V3'; have HZ3 := hide z3; clear V3 P3 g3 n3 h3 N3 V3' hrn ern z3 f3))
  obtain ⟨M, S, hh, e1, e2, ern, e5, on4, ot4, ov4, N4, V4, pd4, pp4, ep4, sm4⟩ : ∃ M S, Crw W0 w3.drew M S ∧ M.cb = m.cb ∧ M.db = m.db ∧ M.rn = .slice an s.k cn ∧ S.k = s.k ∧ M.own nb' = 5 + 2 * S.k ∧ M.own tb' = 5 + 2 * S.k ∧ M.own vb' = 6 + 2 * S.k ∧ Nod w3.drew nb' tb' M.db (openN s.d) ∧ Vn w3.drew vb' M.pb (openN s.p) ∧ Pl S.d (S.k + 1) (upN S.ns S.k (openN s.d)) ∧ Pl S.p (S.k + 1) (upN S.vs S.k (openN s.p)) ∧ S.p.ep = S.d.ep ∧ (Same s → Same { S with k := S.k + 1, ns := upN S.ns S.k (openN s.d), vs := upN S.vs S.k (openN s.p) }) := by
    have z1 := (unhide HZ).1
    have z2 := (unhide HZ).2
    have z3 := unhide HZ3
    have ln2 := (unhide HN2).lt
    refine ⟨_, _, (unhide HC3).same ((Chg.refl [] w3).drew), rfl, rfl, unhide HERN, rfl, ?_, ?_, ?_, ⟨(unhide HN3).1, (unhide HN3).2⟩, unhide HV3, (unhide HC).pd.opens (unhide HC).dsk.ok hlt, (unhide HC).pp.opens (unhide HC).plt.ok (by have := unhide HE; omega), congrArg (· + 1) (unhide HE), same_open⟩
    · dsimp only
      rw [grow_old ln2.1, grow_new z1]
      exact if_pos (Or.inl rfl)
    · dsimp only
      rw [grow_old ln2.2, grow_new z2]
      exact if_pos (Or.inr rfl)
    · dsimp only
      rw [grow_new z3]
      exact if_pos rfl
  clear HC HC2 HC3 HN2 HN3 HV3 HERN HZ HZ3 C2 c1 l2 l3 hcn
  rw [← e5] at ern
  have hk8 : S.k < 8 := by omega
  obtain ⟨av, cv, erv, hcv, hrv⟩ := row_form hh.rowv
  have R1 := hh.rown
  have R2 := hh.rowv
  rw [ern] at R1
  rw [erv] at R2
  obtain ⟨i1, hi1, hz11, hz12, hz13⟩ := kInfoParts nptrInfo
  obtain ⟨i2, hi2, hz21, hz22, hz23⟩ := kInfoParts vptrInfo
  clear hrv hcv
  rw [← e1]
  have E1 := hide e1
  have E2 := hide e2
  clear e1 e2 e5
  obtain ⟨W4, hW4⟩ : ∃ W4, w3.drew = W4 := ⟨_, rfl⟩
  rw [hW4] at hh N4 V4 R1 R2
  have cc : Chg (rowB M) W4 W4 := Chg.refl _ _
  refine wp_region_noPanic ?_
  refine wp_region_L (by kernel_rfl) (RowS M an S.k cn av cv) ?_
  rw [hW4]
  clear hW4
  refine wpAnyL_pure (i := 0) (v := ?_) (rowS_irr (by decide)) rfl (by kernel_rfl) (by kernel_rfl) (by kernel_rfl) (fun _ _ _ h => h) (Or.inl ⟨by rfl, ?hzp5⟩) (fun _ => ⟨((hh.mid_b cc).cell 2).trans (congrArg some ern), ((hh.mid_b cc).cell 3).trans (congrArg some erv)⟩) ?rzp5
  case hzp5 => (intro W' _; go_simp; try with_reducible rfl)
  walk_nrm
  refine wpAnyL_pure (i := 1) (v := ?_) (rowS_irr (by decide)) rfl (by kernel_rfl) (by kernel_rfl) (by kernel_rfl) (fun _ _ _ h => h) (Or.inl ⟨by rfl, ?hzp6⟩) (fun _ => ⟨((hh.mid_b cc).cell 2).trans (congrArg some ern), ((hh.mid_b cc).cell 3).trans (congrArg some erv)⟩) ?rzp6
  case hzp6 => (intro W' _; go_simp; try with_reducible rfl)
  walk_nrm
  refine wpAnyL_pure (i := 2) (v := ?_) (rowS_irr (by decide)) rfl (by kernel_rfl) (by kernel_rfl) (by kernel_rfl) (fun _ _ _ h => h) (Or.inl ⟨by rfl, ?hzp7⟩) (fun _ => ⟨((hh.mid_b cc).cell 2).trans (congrArg some ern), ((hh.mid_b cc).cell 3).trans (congrArg some erv)⟩) ?rzp7
  case hzp7 => (intro W' _; go_simp; try with_reducible rfl)
  walk_nrm
  refine wpAnyL_pure (i := 3) (v := ?_) (rowS_irr (by decide)) rfl (by kernel_rfl) (by kernel_rfl) (by kernel_rfl) (fun _ _ _ h => h) (Or.inl ⟨by rfl, ?hzp8⟩) (fun _ => ⟨((hh.mid_b cc).cell 2).trans (congrArg some ern), ((hh.mid_b cc).cell 3).trans (congrArg some erv)⟩) ?rzp8
  case hzp8 => (intro W' _; go_simp; try with_reducible rfl)
  walk_nrm
  refine wpAnyL_pure (i := 4) (v := ?_) (rowS_irr (by decide)) rfl (by kernel_rfl) (by kernel_rfl) (by kernel_rfl) (fun _ _ _ h => h) (Or.inl ⟨by rfl, ?hzp9⟩) (fun _ => ⟨((hh.mid_b cc).cell 2).trans (congrArg some ern), ((hh.mid_b cc).cell 3).trans (congrArg some erv)⟩) ?rzp9
  case hzp9 => (intro W' _; go_simp; try with_reducible rfl)
  walk_nrm
  refine wpAnyL_pure (i := 6) (v := ?_) (rowS_irr (by decide)) rfl (by kernel_rfl) (by kernel_rfl) (by kernel_rfl) (fun _ _ _ h => h) (Or.inl ⟨by rfl, ?hzp10⟩) (fun _ => ⟨((hh.mid_b cc).cell 2).trans (congrArg some ern), ((hh.mid_b cc).cell 3).trans (congrArg some erv)⟩) ?rzp10
  case hzp10 => (intro W' _; go_simp; try with_reducible rfl)
  walk_nrm
  refine wpAnyL_pure (i := 9) (v := ?_) (rowS_irr (by decide)) rfl (by kernel_rfl) (by kernel_rfl) (by kernel_rfl) (fun _ _ _ h => h) (Or.inl ⟨by rfl, ?hzp11⟩) (fun _ => ⟨((hh.mid_b cc).cell 2).trans (congrArg some ern), ((hh.mid_b cc).cell 3).trans (congrArg some erv)⟩) ?rzp11
  case hzp11 => (intro W' _; go_simp; try with_reducible rfl)
  walk_nrm
  refine wpAnyL_pure (i := 10) (v := ?_) (rowS_irr (by decide)) rfl (by kernel_rfl) (by kernel_rfl) (by kernel_rfl) (fun _ _ _ h => h) (Or.inl ⟨by rfl, ?hzp12⟩) (fun _ => ⟨((hh.mid_b cc).cell 2).trans (congrArg some ern), ((hh.mid_b cc).cell 3).trans (congrArg some erv)⟩) ?rzp12
  case hzp12 => (intro W' _; go_simp; try with_reducible rfl)
  walk_nrm
  refine wpAnyL_pure (i := 11) (v := ?_) (rowS_irr (by decide)) rfl (by kernel_rfl) (by kernel_rfl) (by kernel_rfl) (fun _ _ _ h => h) (Or.inl ⟨by rfl, ?hzp13⟩) (fun _ => ⟨((hh.mid_b cc).cell 2).trans (congrArg some ern), ((hh.mid_b cc).cell 3).trans (congrArg some erv)⟩) ?rzp13
  case hzp13 => (intro W' _; go_simp; try with_reducible rfl)
  walk_nrm
  refine wpAnyL_pure (i := 13) (v := ?_) (rowS_irr (by decide)) rfl (by kernel_rfl) (by kernel_rfl) (by kernel_rfl) (fun _ _ _ h => h) (Or.inl ⟨by rfl, ?hzp14⟩) (fun _ => ⟨((hh.mid_b cc).cell 2).trans (congrArg some ern), ((hh.mid_b cc).cell 3).trans (congrArg some erv)⟩) ?rzp14
  case hzp14 => (intro W' _; go_simp; try with_reducible rfl)
  walk_nrm
  refine wpAnyL_take (i := 5) (z := 18) (v := ?_) (A := fun w => w.cell? ⟨M.cb, 2, none⟩ = some (.slice an S.k cn) ∧ w.cell? ⟨M.cb, 3, none⟩ = some (.slice av S.k cv)) (rowS_irr (by decide)) (fun _ _ hL h => h hL) rfl rfl (by kernel_rfl) (by kernel_rfl) (by kernel_rfl) (by kernel_rfl) (by kernel_rfl) (fun _ _ _ h => h) (Or.inl ⟨by rfl, ?hzp15⟩) (fun _ => ⟨((hh.mid_b cc).cell 2).trans (congrArg some ern), ((hh.mid_b cc).cell 3).trans (congrArg some erv)⟩) ?rzp15
  case hzp15 => (intro W' hSw; obtain ⟨s1, s2⟩ := hSw; go_simp; try with_reducible rfl)
  walk_nrm
  refine wpAnyL_take (i := 12) (z := 18) (v := ?_) (A := fun w => w.cell? ⟨M.cb, 2, none⟩ = some (.slice an S.k cn) ∧ w.cell? ⟨M.cb, 3, none⟩ = some (.slice av S.k cv)) (rowS_irr (by decide)) (fun _ _ hL h => h hL) rfl rfl (by kernel_rfl) (by kernel_rfl) (by kernel_rfl) (by kernel_rfl) (by kernel_rfl) (fun _ _ _ h => h) (Or.inl ⟨by rfl, ?hzp16⟩) (fun _ => ⟨((hh.mid_b cc).cell 2).trans (congrArg some ern), ((hh.mid_b cc).cell 3).trans (congrArg some erv)⟩) ?rzp16
  case hzp16 => (intro W' hSw; obtain ⟨s1, s2⟩ := hSw; go_simp; try with_reducible rfl)
  walk_nrm
  refine wpAnyL_ready (rs := [7, 14]) (by kernel_rfl) (by simp) ?_
  refine AllReadyL.cons rfl (fun K hK => ?_) (AllReadyL.cons rfl (fun K hK => ?_) AllReadyL.nil)
  · rw [if_pos (by rfl)]
    have zz := cc.size
    go_simp
    have cc' := cc.alloc (.cells #[.pointer (some ⟨nb', 0, none⟩)] 52)
    have G1 : (W4.alloc (.cells #[.pointer (some ⟨nb', 0, none⟩)] 52)).cell? ⟨W4.heap.size, 0, none⟩ = some (.pointer (some ⟨nb', 0, none⟩)) := (Blk.new W4 _ _).cell 0
    have gb1 : W4.heap.size ≤ W4.heap.size := zz
    replace R1 := own_keep R1 ((Chg.refl [] W4).alloc (.cells #[.pointer (some ⟨nb', 0, none⟩)] 52)) (by simp)
    replace R2 := own_keep R2 ((Chg.refl [] W4).alloc (.cells #[.pointer (some ⟨nb', 0, none⟩)] 52)) (by simp)
    clear cc
    have cc := cc'
    clear cc'
    refine hK.out _ _ (fun _ => ⟨((hh.mid_b cc).cell 2).trans (congrArg some ern), ((hh.mid_b cc).cell 3).trans (congrArg some erv)⟩) ?_
    clear hK K
    walk_nrm
    generalize hW : W4.alloc _ = Wb at *
    clear hW
    refine wpAnyL_ready (rs := [8, 14]) (by kernel_rfl) (by simp) ?_
    refine AllReadyL.cons rfl (fun K hK => ?_) (AllReadyL.cons rfl (fun K hK => ?_) AllReadyL.nil)
    · rw [if_pos (by rfl)]
      refine wp_append_one rfl W0.heap.size 52 (i := i1) (z := .pointer none) Try.underlying48 hi1 hz11 hz12 hz13 rfl (.slice an S.k cn) S.k (ptrs M.nb S.k) rfl R1 _ _ rfl G1 rfl (by omega) (Nat.le_trans hh.ch.size cc.size) (fun rn' Wc R1' gr1 at1 => ?_)
      have x1 : ∀ y, rn'.ownBlock = some y → M.rn.ownBlock = some y ∨ W4.heap.size ≤ y := fun y hy => by
        rcases at1 with e | e
        · exact .inl (by rw [ern, ← e]; exact hy)
        · rw [e] at hy; cases hy; exact .inr cc.size
      have zw := cc.size
      rw [← ern] at gr1
      have cc' := mid_ap1 cc gr1
      rw [← erv] at R2
      replace R2 := hh.row2 R2 gr1
      rw [erv] at R2
      clear cc
      have cc := cc'
      clear cc' at1
      refine hK.out _ _ (fun _ => ⟨((hh.mid_b cc).cell 2).trans (congrArg some ern), ((hh.mid_b cc).cell 3).trans (congrArg some erv)⟩) ?_
      clear hK K
      walk_nrm
      clear gr1
      refine wpAnyL_ready (rs := [14]) (by kernel_rfl) (by simp) ?_
      refine AllReadyL.cons rfl (fun K hK => ?_) AllReadyL.nil
      rw [if_pos (by rfl)]
      have zz := cc.size
      go_simp
      have cc' := cc.alloc (.cells #[.pointer (some ⟨vb', 0, none⟩)] 84)
      have G2 : (Wc.alloc (.cells #[.pointer (some ⟨vb', 0, none⟩)] 84)).cell? ⟨Wc.heap.size, 0, none⟩ = some (.pointer (some ⟨vb', 0, none⟩)) := (Blk.new Wc _ _).cell 0
      have gb2 : W4.heap.size ≤ Wc.heap.size := zz
      replace R1' := own_keep R1' ((Chg.refl [] Wc).alloc (.cells #[.pointer (some ⟨vb', 0, none⟩)] 84)) (by simp)
      replace R2 := own_keep R2 ((Chg.refl [] Wc).alloc (.cells #[.pointer (some ⟨vb', 0, none⟩)] 84)) (by simp)
      clear cc
      have cc := cc'
      clear cc'
      refine hK.out _ _ (fun _ => ⟨((hh.mid_b cc).cell 2).trans (congrArg some ern), ((hh.mid_b cc).cell 3).trans (congrArg some erv)⟩) ?_
      clear hK K
      walk_nrm
      generalize hW : Wc.alloc _ = Wd at *
      clear hW
      refine wpAnyL_ready (rs := [15]) (by kernel_rfl) (by simp) ?_
      refine AllReadyL.cons rfl (fun K hK => ?_) AllReadyL.nil
      rw [if_pos (by rfl)]
      refine wp_append_one rfl W0.heap.size 84 (i := i2) (z := .pointer none) Try.underlying49 hi2 hz21 hz22 hz23 rfl (.slice av S.k cv) S.k (ptrs M.vb S.k) rfl R2 _ _ rfl G2 rfl (by omega) (Nat.le_trans hh.ch.size cc.size) (fun rv' We R2' gr2 at2 => ?_)
      have x2 : ∀ y, rv'.ownBlock = some y → M.rv.ownBlock = some y ∨ (W4.heap.size ≤ y ∧ rn'.ownBlock ≠ some y) := fun y hy => by
        rcases at2 with e | e
        · exact .inl (by rw [erv, ← e]; exact hy)
        · rw [e] at hy
          cases hy
          exact .inr ⟨cc.size, fun e => absurd (R1'.lt _ e).2 (by omega)⟩
      rw [← erv] at gr2
      have cc' := mid_ap2 cc gr2
      replace R1' := hh.row1 R1' x1 gr2
      clear cc
      have cc := cc'
      clear cc' at2
      refine hK.out _ _ (fun _ => ⟨((hh.mid_b cc).cell 2).trans (congrArg some ern), ((hh.mid_b cc).cell 3).trans (congrArg some erv)⟩) ?_
      clear hK K
      walk_nrm
      clear gr2
      have B9 := hh.mid_b cc
      obtain ⟨r1a, r1n, r1c, rfl⟩ := own_slice R1'
      obtain ⟨r2a, r2n, r2c, rfl⟩ := own_slice R2'
      have fz2 := B9.fz 2
      have cl2 : We.cell? ⟨M.cb, 2, none⟩ = some M.rn := B9.cell 2
      have lb9 := B9.lt
      refine wpAnyL_pure (i := 16) (v := ?_) (rowS_irr (by decide)) rfl (by kernel_rfl) (by kernel_rfl) (by kernel_rfl) (fun _ _ _ h => h) (Or.inl ⟨by rfl, ?hzap1⟩) (fun _ => ⟨((hh.mid_b cc).cell 2).trans (congrArg some ern), ((hh.mid_b cc).cell 3).trans (congrArg some erv)⟩) ?rzap1
      case hzap1 => (intro W' _; go_simp; try with_reducible rfl)
      walk_nrm
      refine wpAnyL_pure (i := 17) (v := ?_) (rowS_irr (by decide)) rfl (by kernel_rfl) (by kernel_rfl) (by kernel_rfl) (fun _ _ _ h => h) (Or.inl ⟨by rfl, ?hzap2⟩) (fun _ => ⟨((hh.mid_b cc).cell 2).trans (congrArg some ern), ((hh.mid_b cc).cell 3).trans (congrArg some erv)⟩) ?rzap2
      case hzap2 => (intro W' _; go_simp; try with_reducible rfl)
      walk_nrm
      refine wpAnyL_ready (rs := [18]) (by kernel_rfl) (by simp) ?_
      refine AllReadyL.cons rfl (fun K hK => ?_) AllReadyL.nil
      rw [if_pos (by rfl)]
      go_simp
      have Ba := B9.set 2 (.slice r1a r1n r1c)
      have ga : Chg (M.cb :: rowB M) W4 (We.setCell ⟨M.cb, 2, none⟩ (.slice r1a r1n r1c)) := (cc.wide (fun x hx => List.mem_cons_of_mem _ hx)).setCell (by simp) _
      have sm : Chg [M.cb] We (We.setCell ⟨M.cb, 2, none⟩ (.slice r1a r1n r1c)) := (Chg.refl _ _).setCell (by simp) _
      have ne1 : ∀ x ∈ [M.cb], (Value.slice r1a r1n r1c).ownBlock ≠ some x := fun x hx e => by
        simp at hx
        subst hx
        rcases x1 _ e with e1 | e1
        · have := hh.orn _ e1; have := hh.ocb; omega
        · have := hh.blk.lt; omega
      have ne2 : ∀ x ∈ [M.cb], (Value.slice r2a r2n r2c).ownBlock ≠ some x := fun x hx e => by
        simp at hx
        subst hx
        rcases x2 _ e with e1 | ⟨e1, _⟩
        · have := hh.orv _ e1; have := hh.ocb; omega
        · have := hh.blk.lt; omega
      replace R1' := own_keep R1' sm ne1
      replace R2' := own_keep R2' sm ne2
      refine hK.out _ _ (fun h => absurd h (by first | decide | simp)) ?_
      clear hK K fz2 cl2 lb9 sm B9
      walk_nrm
      have fz3 := Ba.fz 3
      have cl3 := Ba.cell 3
      have lb9 := Ba.lt
      generalize hWa : We.setCell _ _ = Wa at *
      clear hWa
      refine wpAnyL_pure (i := 19) (v := ?_) (rowS_irr (by decide)) rfl (by kernel_rfl) (by kernel_rfl) (by kernel_rfl) (fun _ _ _ h => h) (Or.inl ⟨by rfl, ?hzap3⟩) (fun h => absurd h (by first | decide | simp)) ?rzap3
      case hzap3 => (intro W' _; go_simp; try with_reducible rfl)
      walk_nrm
      refine wpAnyL_pure (i := 20) (v := ?_) (rowS_irr (by decide)) rfl (by kernel_rfl) (by kernel_rfl) (by kernel_rfl) (fun _ _ _ h => h) (Or.inl ⟨by rfl, ?hzap4⟩) (fun h => absurd h (by first | decide | simp)) ?rzap4
      case hzap4 => (intro W' _; go_simp; try with_reducible rfl)
      walk_nrm
      refine wpAnyL_ready (rs := [21]) (by kernel_rfl) (by simp) ?_
      refine AllReadyL.cons rfl (fun K hK => ?_) AllReadyL.nil
      rw [if_pos (by rfl)]
      go_simp
      have Bb := Ba.set 3 (.slice r2a r2n r2c)
      have gb : Chg (M.cb :: rowB M) W4 (Wa.setCell ⟨M.cb, 3, none⟩ (.slice r2a r2n r2c)) := ga.setCell (by simp) _
      have sm : Chg [M.cb] Wa (Wa.setCell ⟨M.cb, 3, none⟩ (.slice r2a r2n r2c)) := (Chg.refl _ _).setCell (by simp) _
      replace R1' := own_keep R1' sm ne1
      replace R2' := own_keep R2' sm ne2
      refine hK.out _ _ (fun h => absurd h (by first | decide | simp)) ?_
      clear hK K
      walk_nrm
      refine wpAnyL_done (by kernel_rfl) ?_ _
      refine NoPanic.normal ?_
      go_wp2_with fail
      go_ret
      have h9 := hh.stash hk8 N4 V4 on4 ot4 ov4 pd4 pp4 Bb R1' R2' gb (fun x hx => by rcases List.mem_cons.1 hx with e | e; exact e ▸ (Nat.le_trans (Nat.le_of_eq hh.ocb) (by omega)); have := hh.row_own x e; omega) x1 x2
      exact step_mk h9 (unhide E1) (unhide E2) ep4 (fun hs => ⟨rfl, sm4 hs⟩)
    · rw [if_pos (by rfl)]
      have zz := cc.size
      go_simp
      have cc' := cc.alloc (.cells #[.pointer (some ⟨vb', 0, none⟩)] 84)
      have G2 : (Wb.alloc (.cells #[.pointer (some ⟨vb', 0, none⟩)] 84)).cell? ⟨Wb.heap.size, 0, none⟩ = some (.pointer (some ⟨vb', 0, none⟩)) := (Blk.new Wb _ _).cell 0
      have gb2 : W4.heap.size ≤ Wb.heap.size := zz
      replace R1 := own_keep R1 ((Chg.refl [] Wb).alloc (.cells #[.pointer (some ⟨vb', 0, none⟩)] 84)) (by simp)
      replace R2 := own_keep R2 ((Chg.refl [] Wb).alloc (.cells #[.pointer (some ⟨vb', 0, none⟩)] 84)) (by simp)
      replace G1 := (kCell ((Chg.refl [] Wb).alloc (.cells #[.pointer (some ⟨vb', 0, none⟩)] 84)) (p := ⟨_, 0, none⟩) (World.block_lt_of_cell? _ _ G1) (by simp)).trans G1
      clear cc
      have cc := cc'
      clear cc'
      refine hK.out _ _ (fun _ => ⟨((hh.mid_b cc).cell 2).trans (congrArg some ern), ((hh.mid_b cc).cell 3).trans (congrArg some erv)⟩) ?_
      clear hK K
      walk_nrm
      generalize hW : Wb.alloc _ = Wc at *
      clear hW
      refine wpAnyL_ready (rs := [8]) (by kernel_rfl) (by simp) ?_
      refine AllReadyL.cons rfl (fun K hK => ?_) AllReadyL.nil
      rw [if_pos (by rfl)]
      refine wp_append_one rfl W0.heap.size 52 (i := i1) (z := .pointer none) Try.underlying48 hi1 hz11 hz12 hz13 rfl (.slice an S.k cn) S.k (ptrs M.nb S.k) rfl R1 _ _ rfl G1 rfl (by omega) (Nat.le_trans hh.ch.size cc.size) (fun rn' Wd R1' gr1 at1 => ?_)
      have x1 : ∀ y, rn'.ownBlock = some y → M.rn.ownBlock = some y ∨ W4.heap.size ≤ y := fun y hy => by
        rcases at1 with e | e
        · exact .inl (by rw [ern, ← e]; exact hy)
        · rw [e] at hy; cases hy; exact .inr cc.size
      have zw := cc.size
      rw [← ern] at gr1
      have cc' := mid_ap1 cc gr1
      rw [← erv] at R2
      replace R2 := hh.row2 R2 gr1
      rw [erv] at R2
      replace G2 := gr1.cell G2 (fun e => absurd (hh.rown.lt _ e.symm).2 (by simp <;> omega))
      clear cc
      have cc := cc'
      clear cc' at1
      refine hK.out _ _ (fun _ => ⟨((hh.mid_b cc).cell 2).trans (congrArg some ern), ((hh.mid_b cc).cell 3).trans (congrArg some erv)⟩) ?_
      clear hK K
      walk_nrm
      clear gr1
      refine wpAnyL_ready (rs := [15]) (by kernel_rfl) (by simp) ?_
      refine AllReadyL.cons rfl (fun K hK => ?_) AllReadyL.nil
      rw [if_pos (by rfl)]
      refine wp_append_one rfl W0.heap.size 84 (i := i2) (z := .pointer none) Try.underlying49 hi2 hz21 hz22 hz23 rfl (.slice av S.k cv) S.k (ptrs M.vb S.k) rfl R2 _ _ rfl G2 rfl (by omega) (Nat.le_trans hh.ch.size cc.size) (fun rv' We R2' gr2 at2 => ?_)
      have x2 : ∀ y, rv'.ownBlock = some y → M.rv.ownBlock = some y ∨ (W4.heap.size ≤ y ∧ rn'.ownBlock ≠ some y) := fun y hy => by
        rcases at2 with e | e
        · exact .inl (by rw [erv, ← e]; exact hy)
        · rw [e] at hy
          cases hy
          exact .inr ⟨cc.size, fun e => absurd (R1'.lt _ e).2 (by omega)⟩
      rw [← erv] at gr2
      have cc' := mid_ap2 cc gr2
      replace R1' := hh.row1 R1' x1 gr2
      clear cc
      have cc := cc'
      clear cc' at2
      refine hK.out _ _ (fun _ => ⟨((hh.mid_b cc).cell 2).trans (congrArg some ern), ((hh.mid_b cc).cell 3).trans (congrArg some erv)⟩) ?_
      clear hK K
      walk_nrm
      clear gr2
      have B9 := hh.mid_b cc
      obtain ⟨r1a, r1n, r1c, rfl⟩ := own_slice R1'
      obtain ⟨r2a, r2n, r2c, rfl⟩ := own_slice R2'
      have fz2 := B9.fz 2
      have cl2 : We.cell? ⟨M.cb, 2, none⟩ = some M.rn := B9.cell 2
      have lb9 := B9.lt
      refine wpAnyL_pure (i := 16) (v := ?_) (rowS_irr (by decide)) rfl (by kernel_rfl) (by kernel_rfl) (by kernel_rfl) (fun _ _ _ h => h) (Or.inl ⟨by rfl, ?hzbp1⟩) (fun _ => ⟨((hh.mid_b cc).cell 2).trans (congrArg some ern), ((hh.mid_b cc).cell 3).trans (congrArg some erv)⟩) ?rzbp1
      case hzbp1 => (intro W' _; go_simp; try with_reducible rfl)
      walk_nrm
      refine wpAnyL_pure (i := 17) (v := ?_) (rowS_irr (by decide)) rfl (by kernel_rfl) (by kernel_rfl) (by kernel_rfl) (fun _ _ _ h => h) (Or.inl ⟨by rfl, ?hzbp2⟩) (fun _ => ⟨((hh.mid_b cc).cell 2).trans (congrArg some ern), ((hh.mid_b cc).cell 3).trans (congrArg some erv)⟩) ?rzbp2
      case hzbp2 => (intro W' _; go_simp; try with_reducible rfl)
      walk_nrm
      refine wpAnyL_ready (rs := [18]) (by kernel_rfl) (by simp) ?_
      refine AllReadyL.cons rfl (fun K hK => ?_) AllReadyL.nil
      rw [if_pos (by rfl)]
      go_simp
      have Ba := B9.set 2 (.slice r1a r1n r1c)
      have ga : Chg (M.cb :: rowB M) W4 (We.setCell ⟨M.cb, 2, none⟩ (.slice r1a r1n r1c)) := (cc.wide (fun x hx => List.mem_cons_of_mem _ hx)).setCell (by simp) _
      have sm : Chg [M.cb] We (We.setCell ⟨M.cb, 2, none⟩ (.slice r1a r1n r1c)) := (Chg.refl _ _).setCell (by simp) _
      have ne1 : ∀ x ∈ [M.cb], (Value.slice r1a r1n r1c).ownBlock ≠ some x := fun x hx e => by
        simp at hx
        subst hx
        rcases x1 _ e with e1 | e1
        · have := hh.orn _ e1; have := hh.ocb; omega
        · have := hh.blk.lt; omega
      have ne2 : ∀ x ∈ [M.cb], (Value.slice r2a r2n r2c).ownBlock ≠ some x := fun x hx e => by
        simp at hx
        subst hx
        rcases x2 _ e with e1 | ⟨e1, _⟩
        · have := hh.orv _ e1; have := hh.ocb; omega
        · have := hh.blk.lt; omega
      replace R1' := own_keep R1' sm ne1
      replace R2' := own_keep R2' sm ne2
      refine hK.out _ _ (fun h => absurd h (by first | decide | simp)) ?_
      clear hK K fz2 cl2 lb9 sm B9
      walk_nrm
      have fz3 := Ba.fz 3
      have cl3 := Ba.cell 3
      have lb9 := Ba.lt
      generalize hWa : We.setCell _ _ = Wa at *
      clear hWa
      refine wpAnyL_pure (i := 19) (v := ?_) (rowS_irr (by decide)) rfl (by kernel_rfl) (by kernel_rfl) (by kernel_rfl) (fun _ _ _ h => h) (Or.inl ⟨by rfl, ?hzbp3⟩) (fun h => absurd h (by first | decide | simp)) ?rzbp3
      case hzbp3 => (intro W' _; go_simp; try with_reducible rfl)
      walk_nrm
      refine wpAnyL_pure (i := 20) (v := ?_) (rowS_irr (by decide)) rfl (by kernel_rfl) (by kernel_rfl) (by kernel_rfl) (fun _ _ _ h => h) (Or.inl ⟨by rfl, ?hzbp4⟩) (fun h => absurd h (by first | decide | simp)) ?rzbp4
      case hzbp4 => (intro W' _; go_simp; try with_reducible rfl)
      walk_nrm
      refine wpAnyL_ready (rs := [21]) (by kernel_rfl) (by simp) ?_
      refine AllReadyL.cons rfl (fun K hK => ?_) AllReadyL.nil
      rw [if_pos (by rfl)]
      go_simp
      have Bb := Ba.set 3 (.slice r2a r2n r2c)
      have gb : Chg (M.cb :: rowB M) W4 (Wa.setCell ⟨M.cb, 3, none⟩ (.slice r2a r2n r2c)) := ga.setCell (by simp) _
      have sm : Chg [M.cb] Wa (Wa.setCell ⟨M.cb, 3, none⟩ (.slice r2a r2n r2c)) := (Chg.refl _ _).setCell (by simp) _
      replace R1' := own_keep R1' sm ne1
      replace R2' := own_keep R2' sm ne2
      refine hK.out _ _ (fun h => absurd h (by first | decide | simp)) ?_
      clear hK K
      walk_nrm
      refine wpAnyL_done (by kernel_rfl) ?_ _
      refine NoPanic.normal ?_
      go_wp2_with fail
      go_ret
      have h9 := hh.stash hk8 N4 V4 on4 ot4 ov4 pd4 pp4 Bb R1' R2' gb (fun x hx => by rcases List.mem_cons.1 hx with e | e; exact e ▸ (Nat.le_trans (Nat.le_of_eq hh.ocb) (by omega)); have := hh.row_own x e; omega) x1 x2
      exact step_mk h9 (unhide E1) (unhide E2) ep4 (fun hs => ⟨rfl, sm4 hs⟩)
  · rw [if_pos (by rfl)]
    have zz := cc.size
    go_simp
    have cc' := cc.alloc (.cells #[.pointer (some ⟨vb', 0, none⟩)] 84)
    have G2 : (W4.alloc (.cells #[.pointer (some ⟨vb', 0, none⟩)] 84)).cell? ⟨W4.heap.size, 0, none⟩ = some (.pointer (some ⟨vb', 0, none⟩)) := (Blk.new W4 _ _).cell 0
    have gb2 : W4.heap.size ≤ W4.heap.size := zz
    replace R1 := own_keep R1 ((Chg.refl [] W4).alloc (.cells #[.pointer (some ⟨vb', 0, none⟩)] 84)) (by simp)
    replace R2 := own_keep R2 ((Chg.refl [] W4).alloc (.cells #[.pointer (some ⟨vb', 0, none⟩)] 84)) (by simp)
    clear cc
    have cc := cc'
    clear cc'
    refine hK.out _ _ (fun _ => ⟨((hh.mid_b cc).cell 2).trans (congrArg some ern), ((hh.mid_b cc).cell 3).trans (congrArg some erv)⟩) ?_
    clear hK K
    walk_nrm
    generalize hW : W4.alloc _ = Wb at *
    clear hW
    refine wpAnyL_ready (rs := [7]) (by kernel_rfl) (by simp) ?_
    refine AllReadyL.cons rfl (fun K hK => ?_) AllReadyL.nil
    rw [if_pos (by rfl)]
    have zz := cc.size
    go_simp
    have cc' := cc.alloc (.cells #[.pointer (some ⟨nb', 0, none⟩)] 52)
    have G1 : (Wb.alloc (.cells #[.pointer (some ⟨nb', 0, none⟩)] 52)).cell? ⟨Wb.heap.size, 0, none⟩ = some (.pointer (some ⟨nb', 0, none⟩)) := (Blk.new Wb _ _).cell 0
    have gb1 : W4.heap.size ≤ Wb.heap.size := zz
    replace R1 := own_keep R1 ((Chg.refl [] Wb).alloc (.cells #[.pointer (some ⟨nb', 0, none⟩)] 52)) (by simp)
    replace R2 := own_keep R2 ((Chg.refl [] Wb).alloc (.cells #[.pointer (some ⟨nb', 0, none⟩)] 52)) (by simp)
    replace G2 := (kCell ((Chg.refl [] Wb).alloc (.cells #[.pointer (some ⟨nb', 0, none⟩)] 52)) (p := ⟨_, 0, none⟩) (World.block_lt_of_cell? _ _ G2) (by simp)).trans G2
    clear cc
    have cc := cc'
    clear cc'
    refine hK.out _ _ (fun _ => ⟨((hh.mid_b cc).cell 2).trans (congrArg some ern), ((hh.mid_b cc).cell 3).trans (congrArg some erv)⟩) ?_
    clear hK K
    walk_nrm
    generalize hW : Wb.alloc _ = Wc at *
    clear hW
    refine wpAnyL_ready (rs := [8]) (by kernel_rfl) (by simp) ?_
    refine AllReadyL.cons rfl (fun K hK => ?_) AllReadyL.nil
    rw [if_pos (by rfl)]
    refine wp_append_one rfl W0.heap.size 52 (i := i1) (z := .pointer none) Try.underlying48 hi1 hz11 hz12 hz13 rfl (.slice an S.k cn) S.k (ptrs M.nb S.k) rfl R1 _ _ rfl G1 rfl (by omega) (Nat.le_trans hh.ch.size cc.size) (fun rn' Wd R1' gr1 at1 => ?_)
    have x1 : ∀ y, rn'.ownBlock = some y → M.rn.ownBlock = some y ∨ W4.heap.size ≤ y := fun y hy => by
      rcases at1 with e | e
      · exact .inl (by rw [ern, ← e]; exact hy)
      · rw [e] at hy; cases hy; exact .inr cc.size
    have zw := cc.size
    rw [← ern] at gr1
    have cc' := mid_ap1 cc gr1
    rw [← erv] at R2
    replace R2 := hh.row2 R2 gr1
    rw [erv] at R2
    replace G2 := gr1.cell G2 (fun e => absurd (hh.rown.lt _ e.symm).2 (by simp <;> omega))
    clear cc
    have cc := cc'
    clear cc' at1
    refine hK.out _ _ (fun _ => ⟨((hh.mid_b cc).cell 2).trans (congrArg some ern), ((hh.mid_b cc).cell 3).trans (congrArg some erv)⟩) ?_
    clear hK K
    walk_nrm
    clear gr1
    refine wpAnyL_ready (rs := [15]) (by kernel_rfl) (by simp) ?_
    refine AllReadyL.cons rfl (fun K hK => ?_) AllReadyL.nil
    rw [if_pos (by rfl)]
    refine wp_append_one rfl W0.heap.size 84 (i := i2) (z := .pointer none) Try.underlying49 hi2 hz21 hz22 hz23 rfl (.slice av S.k cv) S.k (ptrs M.vb S.k) rfl R2 _ _ rfl G2 rfl (by omega) (Nat.le_trans hh.ch.size cc.size) (fun rv' We R2' gr2 at2 => ?_)
    have x2 : ∀ y, rv'.ownBlock = some y → M.rv.ownBlock = some y ∨ (W4.heap.size ≤ y ∧ rn'.ownBlock ≠ some y) := fun y hy => by
      rcases at2 with e | e
      · exact .inl (by rw [erv, ← e]; exact hy)
      · rw [e] at hy
        cases hy
        exact .inr ⟨cc.size, fun e => absurd (R1'.lt _ e).2 (by omega)⟩
    rw [← erv] at gr2
    have cc' := mid_ap2 cc gr2
    replace R1' := hh.row1 R1' x1 gr2
    clear cc
    have cc := cc'
    clear cc' at2
    refine hK.out _ _ (fun _ => ⟨((hh.mid_b cc).cell 2).trans (congrArg some ern), ((hh.mid_b cc).cell 3).trans (congrArg some erv)⟩) ?_
    clear hK K
    walk_nrm
    clear gr2
    have B9 := hh.mid_b cc
    obtain ⟨r1a, r1n, r1c, rfl⟩ := own_slice R1'
    obtain ⟨r2a, r2n, r2c, rfl⟩ := own_slice R2'
    have fz2 := B9.fz 2
    have cl2 : We.cell? ⟨M.cb, 2, none⟩ = some M.rn := B9.cell 2
    have lb9 := B9.lt
    refine wpAnyL_pure (i := 16) (v := ?_) (rowS_irr (by decide)) rfl (by kernel_rfl) (by kernel_rfl) (by kernel_rfl) (fun _ _ _ h => h) (Or.inl ⟨by rfl, ?hzcp1⟩) (fun _ => ⟨((hh.mid_b cc).cell 2).trans (congrArg some ern), ((hh.mid_b cc).cell 3).trans (congrArg some erv)⟩) ?rzcp1
    case hzcp1 => (intro W' _; go_simp; try with_reducible rfl)
    walk_nrm
    refine wpAnyL_pure (i := 17) (v := ?_) (rowS_irr (by decide)) rfl (by kernel_rfl) (by kernel_rfl) (by kernel_rfl) (fun _ _ _ h => h) (Or.inl ⟨by rfl, ?hzcp2⟩) (fun _ => ⟨((hh.mid_b cc).cell 2).trans (congrArg some ern), ((hh.mid_b cc).cell 3).trans (congrArg some erv)⟩) ?rzcp2
    case hzcp2 => (intro W' _; go_simp; try with_reducible rfl)
    walk_nrm
    refine wpAnyL_ready (rs := [18]) (by kernel_rfl) (by simp) ?_
    refine AllReadyL.cons rfl (fun K hK => ?_) AllReadyL.nil
    rw [if_pos (by rfl)]
    go_simp
    have Ba := B9.set 2 (.slice r1a r1n r1c)
    have ga : Chg (M.cb :: rowB M) W4 (We.setCell ⟨M.cb, 2, none⟩ (.slice r1a r1n r1c)) := (cc.wide (fun x hx => List.mem_cons_of_mem _ hx)).setCell (by simp) _
    have sm : Chg [M.cb] We (We.setCell ⟨M.cb, 2, none⟩ (.slice r1a r1n r1c)) := (Chg.refl _ _).setCell (by simp) _
    have ne1 : ∀ x ∈ [M.cb], (Value.slice r1a r1n r1c).ownBlock ≠ some x := fun x hx e => by
      simp at hx
      subst hx
      rcases x1 _ e with e1 | e1
      · have := hh.orn _ e1; have := hh.ocb; omega
      · have := hh.blk.lt; omega
    have ne2 : ∀ x ∈ [M.cb], (Value.slice r2a r2n r2c).ownBlock ≠ some x := fun x hx e => by
      simp at hx
      subst hx
      rcases x2 _ e with e1 | ⟨e1, _⟩
      · have := hh.orv _ e1; have := hh.ocb; omega
      · have := hh.blk.lt; omega
    replace R1' := own_keep R1' sm ne1
    replace R2' := own_keep R2' sm ne2
    refine hK.out _ _ (fun h => absurd h (by first | decide | simp)) ?_
    clear hK K fz2 cl2 lb9 sm B9
    walk_nrm
    have fz3 := Ba.fz 3
    have cl3 := Ba.cell 3
    have lb9 := Ba.lt
    generalize hWa : We.setCell _ _ = Wa at *
    clear hWa
    refine wpAnyL_pure (i := 19) (v := ?_) (rowS_irr (by decide)) rfl (by kernel_rfl) (by kernel_rfl) (by kernel_rfl) (fun _ _ _ h => h) (Or.inl ⟨by rfl, ?hzcp3⟩) (fun h => absurd h (by first | decide | simp)) ?rzcp3
    case hzcp3 => (intro W' _; go_simp; try with_reducible rfl)
    walk_nrm
    refine wpAnyL_pure (i := 20) (v := ?_) (rowS_irr (by decide)) rfl (by kernel_rfl) (by kernel_rfl) (by kernel_rfl) (fun _ _ _ h => h) (Or.inl ⟨by rfl, ?hzcp4⟩) (fun h => absurd h (by first | decide | simp)) ?rzcp4
    case hzcp4 => (intro W' _; go_simp; try with_reducible rfl)
    walk_nrm
    refine wpAnyL_ready (rs := [21]) (by kernel_rfl) (by simp) ?_
    refine AllReadyL.cons rfl (fun K hK => ?_) AllReadyL.nil
    rw [if_pos (by rfl)]
    go_simp
    have Bb := Ba.set 3 (.slice r2a r2n r2c)
    have gb : Chg (M.cb :: rowB M) W4 (Wa.setCell ⟨M.cb, 3, none⟩ (.slice r2a r2n r2c)) := ga.setCell (by simp) _
    have sm : Chg [M.cb] Wa (Wa.setCell ⟨M.cb, 3, none⟩ (.slice r2a r2n r2c)) := (Chg.refl _ _).setCell (by simp) _
    replace R1' := own_keep R1' sm ne1
    replace R2' := own_keep R2' sm ne2
    refine hK.out _ _ (fun h => absurd h (by first | decide | simp)) ?_
    clear hK K
    walk_nrm
    refine wpAnyL_done (by kernel_rfl) ?_ _
    refine NoPanic.normal ?_
    go_wp2_with fail
    go_ret
    have h9 := hh.stash hk8 N4 V4 on4 ot4 ov4 pd4 pp4 Bb R1' R2' gb (fun x hx => by rcases List.mem_cons.1 hx with e | e; exact e ▸ (Nat.le_trans (Nat.le_of_eq hh.ocb) (by omega)); have := hh.row_own x e; omega) x1 x2
    exact step_mk h9 (unhide E1) (unhide E2) ep4 (fun hs => ⟨rfl, sm4 hs⟩)

end Go.Proofs.Ytafbacijfiodhab

