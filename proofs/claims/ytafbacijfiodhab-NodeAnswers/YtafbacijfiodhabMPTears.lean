/- For all bytes, all steps, every order and every number the law NodeTears returns true, and leaves them as they were; no condition. -/
import Derived.Test.YtafbacijfiodhabMgOa
import Derived.Test.YtafbacijfiodhabMgKFrame
namespace Go.Proofs.Ytafbacijfiodhab
open Go.RowKit

theorem kept_part {rs : List Rc} {ep : Int} (h2 : goodF 0 rs) (h3 : ∀ r ∈ rs, r.ep ≤ ep) {t : List Int} (ht : t.length < 9) : keptL (bytesL rs ++ t) ep = rs := by
  unfold keptL
  rw [recsL_part h2 ht, untilR_all h3]
theorem kept_whole {rs : List Rc} {ep : Int} (h2 : goodF 0 rs) (h3 : ∀ r ∈ rs, r.ep ≤ ep) : keptL (bytesL rs) ep = rs := by
  have := kept_part h2 h3 (t := []) (by simp)
  rwa [List.append_nil] at this
theorem kept_more {rs : List Rc} {ep : Int} (h2 : goodF 0 rs) (h3 : ∀ r ∈ rs, r.ep ≤ ep) (e0 : 1 ≤ ep) (e1 : ep ≤ 100) {T : Tb} {o : Od} (hc : (doT T o).2.code = 0) : keptL (bytesL rs ++ nineL ⟨ep, o⟩) ep = rs ++ [⟨ep, o⟩] ∧ goodF 0 (rs ++ [⟨ep, o⟩]) := by
  have hg := goodF_snoc (nine_ck e0 e1 hc) rs 0 h2 (lastE_le (e := ep) (by omega) h3)
  refine ⟨?_, hg⟩
  have e : bytesL rs ++ nineL ⟨ep, o⟩ = bytesL (rs ++ [⟨ep, o⟩]) := by simp [bytesL]
  rw [e]
  refine kept_whole hg (fun r hr => ?_)
  rcases List.mem_append.1 hr with hr | hr
  · exact h3 r hr
  · simp at hr
    subst hr
    exact Int.le_refl _
theorem wr_serves {ep : Int} {l : List Int} {T : Tb} {o : Od} {keep : Int} (h : ¬ wrC ⟨ep, l⟩ ⟨T, ep, false⟩ o keep = 0) : (wrC ⟨ep, l⟩ ⟨T, ep, false⟩ o keep = (doT T o).2.code ∨ wrC ⟨ep, l⟩ ⟨T, ep, false⟩ o keep = 8) := by
  by_cases hc : (doT T o).2.code = 0
  · by_cases hf : 1500 < l.length + keepN keep
    · exact .inr (wr_full (d := ⟨ep, l⟩) (n := ⟨T, ep, false⟩) rfl rfl hc hf)
    · exact absurd (wr_yes (d := ⟨ep, l⟩) (n := ⟨T, ep, false⟩) rfl rfl hc hf) h
  · exact .inl (wr_ref (d := ⟨ep, l⟩) (n := ⟨T, ep, false⟩) rfl rfl hc)
theorem tear_dn (ep : Int) (l : List Int) (T : Tb) (o : Od) (keep : Int) : tearN ⟨ep, l⟩ ⟨T, ep, false⟩ o keep = ⟨T, ep, decide (wrC ⟨ep, l⟩ ⟨T, ep, false⟩ o keep = 0)⟩ := by
  unfold tearN
  rw [dnx_serves rfl rfl, Bool.false_or]

set_option maxRecDepth 100000 in
set_option maxHeartbeats 8000000 in
theorem tears_any (vb : Value) (bs : List Int) (a : Option Addr) (len cap : Nat) (fs : Nat → Ns) (o : Od) (keep : Int) (W : World) (hb : Sl W vb bs) (hk : okB bs) (h : Nss W a len fs) :
    Calls Try.prog 8 #[vb, .slice a len cap, odV o, .int .i64 keep] W fun e w' => e = .returned (.bool true) ∧ Chg [] W w' := by
  have HB := hide hb
  have HK := hide hk
  have HH := hide h
  obtain ⟨ab, cab, rfl⟩ := sl_slice hb
  clear hb hk h
  unfold odV
  by_cases hbig : 1400 < bs.length
  · have d1 : decide ((1400 : Int) < (bs.length : Int)) = true := by simp; omega
    go_enter Try.func8, Try.ntmps8
    go_wp2_with (go_at_call 18; refine (nbegun_any _).mono ?_; rintro e w1 ⟨rfl, G1⟩; have O1 := (Blk.new W #[.int .i64 o.k, .int .i64 o.now, .int .i64 o.jb, .int .i64 o.tr, .int .i64 o.wk, .int .i64 o.tm] 43).chg G1 (by simp); replace G1 := ((Chg.refl [] W).alloc (.cells #[.int .i64 o.k, .int .i64 o.now, .int .i64 o.jb, .int .i64 o.tr, .int .i64 o.wk, .int .i64 o.tm] 43)).trans G1 (by simp))
    go_ret
    exact ⟨rfl, G1⟩
  have d1 : decide ((1400 : Int) < (bs.length : Int)) = false := by simp; omega
  by_cases hbig2 : 200 < len
  · have d2 : decide ((200 : Int) < (len : Int)) = true := by simp; omega
    go_enter Try.func8, Try.ntmps8
    go_wp2_with (go_at_call 18; refine (nbegun_any _).mono ?_; rintro e w1 ⟨rfl, G1⟩; have O1 := (Blk.new W #[.int .i64 o.k, .int .i64 o.now, .int .i64 o.jb, .int .i64 o.tr, .int .i64 o.wk, .int .i64 o.tm] 43).chg G1 (by simp); replace G1 := ((Chg.refl [] W).alloc (.cells #[.int .i64 o.k, .int .i64 o.now, .int .i64 o.jb, .int .i64 o.tr, .int .i64 o.wk, .int .i64 o.tm] 43)).trans G1 (by simp))
    go_ret
    exact ⟨rfl, G1⟩
  have d2 : decide ((200 : Int) < (len : Int)) = false := by simp; omega
  go_enter Try.func8, Try.ntmps8
  go_wp2_with (first
    | (go_at_call 18; refine (nbegun_any _).mono ?_; rintro e w1 ⟨rfl, G1⟩; have O1 := (Blk.new W #[.int .i64 o.k, .int .i64 o.now, .int .i64 o.jb, .int .i64 o.tr, .int .i64 o.wk, .int .i64 o.tm] 43).chg G1 (by simp); replace G1 := ((Chg.refl [] W).alloc (.cells #[.int .i64 o.k, .int .i64 o.now, .int .i64 o.jb, .int .i64 o.tr, .int .i64 o.wk, .int .i64 o.tm] 43)).trans G1 (by simp))
    | (go_at_call 19; refine (newcrew_any _ bs _ ((unhide HB).chg G1 (by simp)) (unhide HK) (by omega)).mono ?_; rintro e w2 ⟨cb, db, pb, v, u, rfl, h1, h2, B, D, P, A, hp, c1, c2, g2⟩))
  obtain ⟨own, C0⟩ := crew_start h1 h2 B D P A hp c1 c2 g2
  have HC0 := hide C0
  clear h1 h2 B D P A hp c1 c2 g2 C0
  go_loopw [10] (fun i wr => ∃ (k : Nat) (m : Mm) (s : St), k ≤ len ∧ i = .int .i64 k ∧ Crw w1 wr m s ∧ m.cb = cb ∧ m.db = db ∧ s.p.ep = s.d.ep) (fun i _ => len - (intOf i).toNat)
  case atStart => exact ⟨0, _, _, by omega, rfl, unhide HC0, rfl, rfl, rfl⟩
  case round =>
    obtain ⟨k, m, s, hkl, rfl, C, rfl, rfl, he⟩ := hrel
    clear HC0
    by_cases hlt : k < len
    · have hki : (k : Int) < (len : Int) := by omega
      have hk0 : (0 : Int) ≤ (k : Int) := by omega
      rcases unhide HH with h0 | ⟨bl, off, rfl, hbl, hO⟩
      · omega
      have GW := G1.trans C.ch (by simp)
      obtain ⟨p0, p1, p2, p3, p4, p5, p6, p7, p8⟩ := (hO k hlt).chg GW hbl
      clear hO
      have HX := hide C
      clear C
      go_wp2_with (first
        | (go_at_call 20; refine (step_any w1 m s (fs k) _ (unhide HX) he).mono ?_; rintro e w3 ⟨bo, m', s', rfl, C3, e1, e2, e3, -⟩))
      go_roundw
      case rel => exact ⟨k + 1, m', s', by omega, by go_num, C3, e1, e2, e3⟩
      case measure => go_light; simp [intOf]; omega
    · have hki : ¬ (k : Int) < (len : Int) := by omega
      have ct := C.blk
      have lcb := C.blk.lt
      have hcb : m.cb ∉ fp m.db m.v := fun hf => by have := C.od _ hf; have := C.ocb; omega
      have D := C.dsk
      have q1 := C.pd.e1
      have q2 := C.pd.e2
      have hdb : w1.heap.size ≤ m.db := C.base (by have := C.od _ (mem_fp.2 (.inl rfl)); omega)
      have hcw : w1.heap.size ≤ m.cb := C.base (by have := C.ocb; omega)
      have GW : Chg [] W wr := G1.trans C.ch (by simp)
      have O2 := O1.chg C.ch (by simp)
      have lO : W.heap.size < w1.heap.size := O1.lt
      have zb := C.ch.size
      obtain ⟨rn, hrn⟩ : ∃ x, m.rn = x := ⟨_, rfl⟩
      obtain ⟨rv, hrv⟩ : ∃ x, m.rv = x := ⟨_, rfl⟩
      obtain ⟨d, hd⟩ : ∃ d, s.d = d := ⟨_, rfl⟩
      rw [hrn, hrv] at ct
      rw [hd] at D q1 q2
      clear C he hd hrn hrv O1 HB HK HH
      have c0 : wr.cell? ⟨m.cb, 0, none⟩ = some (.pointer (some ⟨m.db, 0, none⟩)) := ct.cell 0
      by_cases hfull : d.ep = 100
      · go_wp2_with fail
        refine (nopen_full m.db w1.heap.size d m.v _ D hfull).mono ?_
        rintro e w4 ⟨rfl, D4, g4⟩
        go_wp2
        go_ret
        exact ⟨rfl, GW.trans g4 (fun x hx => .inr (by simp at hx; subst hx; omega))⟩
      have hlt1 : d.ep < 100 := by omega
      go_wp2_with fail
      refine (nopen_more m.db w1.heap.size d m.v _ D (by omega) hlt1).mono ?_
      rintro e w4 ⟨nb, tb, v4, rfl, hn4, ht4, N4, D4, f4, t4, g4, n4⟩
      have lf := D.fp_lt
      have lfb := D.fp_ge hdb
      have c4 := fp_nxt hcb n4 lcb
      replace ct := ct.chg g4 hcb
      replace O2 := O2.chg g4 (fun hf => by have := lfb _ hf; omega)
      have G4 := GW.trans g4 (fun x hx => .inr (by have := lfb x hx; omega))
      have z4 := g4.size
      have hg : goodF 0 (keptL d.l d.ep) := keptL_good D.ok d.ep
      have hle : ∀ r ∈ keptL d.l d.ep, r.ep ≤ d.ep + 1 := fun r hr => by have := untilR_le r hr; omega
      unfold openN openD at *
      dsimp only at N4 D4
      generalize keptL d.l d.ep = rs at *
      obtain ⟨ep, hep⟩ : ∃ ep, ep = d.ep + 1 := ⟨_, rfl⟩
      rw [← hep] at N4 D4 hle
      have r1 : 1 ≤ ep := by omega
      have r2 : ep ≤ 100 := by omega
      have hrec : recsL (bytesL rs) = rs := recsL_bytes hg
      have hfew := D4.few
      rw [bytesL_len] at hfew
      have hI : Inv (behindT rs) := behindT_inv rs
      have lN := N4.lt
      have lfx := D4.fp_lt
      clear g4 n4 D GW hcb lf lfb c0 hlt1 hfull hep q1 q2
      have c0 : w4.cell? ⟨m.cb, 0, none⟩ = some (.pointer (some ⟨m.db, 0, none⟩)) := ct.cell 0
      go_wp2_with fail
      refine (dbytes_any m.db ep v4 (bytesL rs) _ _ D4).mono ?_
      rintro e w5 ⟨v5, rfl, own5, g5⟩
      obtain ⟨a5, c5, rfl, hc5, hB5⟩ := sl_byt (own_sl own5) D4.ok
      replace N4 := N4.chg g5 (by simp) (by simp)
      replace D4 := D4.chg g5 (by simp)
      replace ct := ct.chg g5 (by simp)
      replace O2 := O2.chg g5 (by simp)
      have G5 := G4.trans g5 (by simp)
      have z5 := g5.size
      clear g5 own5 G4 c0
      go_wp2_with fail
      refine (all_any a5 _ c5 (getB (bytesL rs)) _ (by rw [bytesL_len]; omega) hc5 hB5).mono ?_
      rintro e w6 ⟨v6, rfl, own6, g6⟩
      have hall : allR (bytesL rs).length (getB (bytesL rs)) = rs := hrec
      rw [hall] at own6
      obtain ⟨a6, c6, rfl, hc6, -, R6⟩ := own_recs own6 rfl
      replace N4 := N4.chg g6 (by simp) (by simp)
      replace D4 := D4.chg g6 (by simp)
      replace ct := ct.chg g6 (by simp)
      replace O2 := O2.chg g6 (by simp)
      have G6 := G5.trans g6 (by simp)
      have z6 := g6.size
      have OW := hide own6
      have rowlt := fun x hx => (own6.lt x hx).2
      have rowge := fun x hx => (own6.lt x hx).1
      clear g6 own6 hB5 hc5 G5
      go_wp2_with fail
      refine (behind_any a6 rs.length c6 rs _ rfl (by omega) R6).mono ?_
      rintro e w7 ⟨rfl, B7, g7⟩
      replace N4 := N4.chg g7 (by simp) (by simp)
      replace D4 := D4.chg g7 (by simp)
      replace ct := ct.chg g7 (by simp)
      replace O2 := O2.chg g7 (by simp)
      have G7 := G6.trans g7 (by simp)
      have z7 := g7.size
      have OW7 := hide (own_keep (unhide OW) g7 (by simp))
      have lB := B7.lt
      clear g7 R6 OW G6
      obtain ⟨o0, o1, o2, o3, o4, o5⟩ := O2.six
      have lO7 : W.heap.size < w7.heap.size := by omega
      go_wp2_with fail
      refine (bdo_all w6.heap.size o (behindT rs) _ B7 hI).mono ?_
      rintro e w8 ⟨rfl, B8, g8⟩
      have zN := N4.lt
      replace N4 := N4.chg g8 (by simp; omega) (by simp; omega)
      replace D4 := D4.chg g8 (by intro x hx hf; simp at hx; subst hx; exact absurd (lfx _ hf) (by omega))
      replace ct := ct.chg g8 (by simp; omega)
      replace O2 := O2.chg g8 (by simp; omega)
      have G8 := G7.trans g8 (by simp; omega)
      have z8 := g8.size
      have OW8 := hide (own_keep (unhide OW7) g8 (by intro x hx e; simp at hx; subst hx; exact absurd (rowlt _ e) (by omega)))
      clear o0 o1 o2 o3 o4 o5 g8 OW7 G7 B7
      obtain ⟨o0, o1, o2, o3, o4, o5⟩ := O2.six
      have lO8 : W.heap.size < w8.heap.size := by omega
      go_wp2_with fail
      have A9 := Blk.new w8 #[.int .i64 (doT (behindT rs) o).2.code, .int .i64 (doT (behindT rs) o).2.jb, .int .i64 (doT (behindT rs) o).2.tr] 56
      replace N4 := N4.alloc (.cells #[.int .i64 (doT (behindT rs) o).2.code, .int .i64 (doT (behindT rs) o).2.jb, .int .i64 (doT (behindT rs) o).2.tr] 56)
      replace D4 := D4.alloc (.cells #[.int .i64 (doT (behindT rs) o).2.code, .int .i64 (doT (behindT rs) o).2.jb, .int .i64 (doT (behindT rs) o).2.tr] 56)
      replace ct := ct.alloc (.cells #[.int .i64 (doT (behindT rs) o).2.code, .int .i64 (doT (behindT rs) o).2.jb, .int .i64 (doT (behindT rs) o).2.tr] 56)
      replace O2 := O2.alloc (.cells #[.int .i64 (doT (behindT rs) o).2.code, .int .i64 (doT (behindT rs) o).2.jb, .int .i64 (doT (behindT rs) o).2.tr] 56)
      have G9 := G8.alloc (.cells #[.int .i64 (doT (behindT rs) o).2.code, .int .i64 (doT (behindT rs) o).2.jb, .int .i64 (doT (behindT rs) o).2.tr] 56)
      replace B8 := B8.alloc (.cells #[.int .i64 (doT (behindT rs) o).2.code, .int .i64 (doT (behindT rs) o).2.jb, .int .i64 (doT (behindT rs) o).2.tr] 56)
      have OW9 := hide (own_keep (unhide OW8) ((Chg.refl [] w8).alloc (.cells #[.int .i64 (doT (behindT rs) o).2.code, .int .i64 (doT (behindT rs) o).2.jb, .int .i64 (doT (behindT rs) o).2.tr] 56)) (by simp))
      have s8 : (w8.alloc (.cells #[.int .i64 (doT (behindT rs) o).2.code, .int .i64 (doT (behindT rs) o).2.jb, .int .i64 (doT (behindT rs) o).2.tr] 56)).heap.size = w8.heap.size + 1 := by simp
      clear OW8 G8 o0 o1 o2 o3 o4 o5
      refine (ntear_all nb tb m.db w1.heap.size ⟨behindT rs, ep, false⟩ ⟨ep, bytesL rs⟩ v4 o keep _ N4 D4 hI (by omega) r1 r2 f4 t4).mono ?_
      rintro e w10 ⟨rfl, v10, N10, D10, g10, n10⟩
      rw [tear_dn] at N10
      have nin : ∀ x, x ≠ nb → x ≠ tb → x ∉ fp m.db v4 → x ∉ nb :: tb :: fp m.db v4 := fun x h1 h2 h3 => by simp only [List.mem_cons, not_or]; exact ⟨h1, h2, h3⟩
      have nf : ∀ x, w4.heap.size ≤ x → x ∉ nb :: tb :: fp m.db v4 := fun x hx => nin x (by omega) (by omega) (fun hf => absurd (lfx _ hf) (by omega))
      have lfb4 := D4.fp_ge hdb
      have c10 := fp_nxt c4 n10 (by omega)
      have f10 := fp_nxt f4 n10 (by omega)
      have t10 := fp_nxt t4 n10 (by omega)
      replace ct := ct.chg g10 (nin _ (by omega) (by omega) c4)
      replace O2 := O2.chg g10 (nin _ (by omega) (by omega) (fun hf => by have := lfb4 _ hf; omega))
      replace A9 := A9.chg g10 (nf _ (by omega))
      replace B8 := B8.chg g10 (nf _ (by omega))
      have OW10 := hide (own_keep (unhide OW9) g10 (fun x hx e => absurd hx (nf _ (by have := rowge _ e; omega))))
      have G10 := G9.trans g10 (fun x hx => .inr (by rcases List.mem_cons.1 hx with e | e; omega; rcases List.mem_cons.1 e with e | e; omega; have := lfb4 _ e; omega))
      have z10 := g10.size
      dsimp only at D10
      obtain ⟨l2, hl2⟩ : ∃ l2, (wrD ⟨ep, bytesL rs⟩ ⟨behindT rs, ep, false⟩ o keep).l = l2 := ⟨_, rfl⟩
      obtain ⟨cd, hcd⟩ : ∃ cd, wrC ⟨ep, bytesL rs⟩ ⟨behindT rs, ep, false⟩ o keep = cd := ⟨_, rfl⟩
      rw [hl2] at D10
      rw [hcd] at N10 ⊢
      have HL2 := hide hl2
      have HCD := hide hcd
      have bf10 : ∀ x, w4.heap.size ≤ x → x < w8.heap.size + 1 → x ∉ fp m.db v10 := fun x hx hx2 => fp_nxt (fun hf => absurd (lfx _ hf) (by omega)) n10 (by omega)
      clear hl2 hcd n10 N4 D4 G9 OW9 nin nf g10 f4 t4 c4
      have c0 : w10.cell? ⟨m.cb, 0, none⟩ = some (.pointer (some ⟨m.db, 0, none⟩)) := ct.cell 0
      have lcb10 : m.cb < w10.heap.size := by omega
      by_cases hfull2 : ep = 100
      · go_wp2_with fail
        refine (nopen_full m.db w1.heap.size ⟨ep, l2⟩ v10 _ D10 hfull2).mono ?_
        rintro e w11 ⟨rfl, D11, g11⟩
        go_wp2
        go_ret
        exact ⟨rfl, G10.trans g11 (fun x hx => .inr (by simp at hx; subst hx; omega))⟩
      go_wp2_with fail
      refine (nopen_more m.db w1.heap.size ⟨ep, l2⟩ v10 _ D10 (by dsimp only; omega) (by dsimp only; omega)).mono ?_
      rintro e w11 ⟨mb, ub, v11, rfl, hm11, hu11, M11, D11, f11, t11, g11, n11⟩
      have lfb10 := D10.fp_ge hdb
      replace ct := ct.chg g11 c10
      replace O2 := O2.chg g11 (fun hf => by have := lfb10 _ hf; omega)
      replace A9 := A9.chg g11 (bf10 _ (by omega) (by omega))
      replace B8 := B8.chg g11 (bf10 _ (by omega) (by omega))
      have OW11 := hide (own_keep (unhide OW10) g11 (fun x hx e => absurd hx (bf10 _ (by have := rowge _ e; omega) (by have := rowlt _ e; omega))))
      have N11 := N10.chg g11 f10 t10
      have G11 := G10.trans g11 (fun x hx => .inr (by have := lfb10 x hx; omega))
      have z11 := g11.size
      have hg2 : goodF 0 (keptL l2 ep) := keptL_good D10.ok ep
      unfold openN at M11
      unfold openD at D11
      dsimp only at M11 D11
      obtain ⟨rs2, hrs2⟩ : ∃ rs2, keptL l2 ep = rs2 := ⟨_, rfl⟩
      rw [hrs2] at M11 D11 hg2
      have HR2 := hide hrs2
      have hrec2 : recsL (bytesL rs2) = rs2 := recsL_bytes hg2
      have hfew2 := D11.few
      rw [bytesL_len] at hfew2
      clear g11 n11 D10 G10 OW10 N10 hrs2 f10 t10 c10 bf10 c0 f11 t11
      have c0 : w11.cell? ⟨m.cb, 0, none⟩ = some (.pointer (some ⟨m.db, 0, none⟩)) := ct.cell 0
      have lcb11 : m.cb < w11.heap.size := by omega
      go_wp2_with fail
      refine (dbytes_any m.db (ep + 1) v11 (bytesL rs2) _ _ D11).mono ?_
      rintro e w12 ⟨v12, rfl, own12, g12⟩
      obtain ⟨a12, c12, rfl, hc12, hB12⟩ := sl_byt (own_sl own12) D11.ok
      replace O2 := O2.chg g12 (by simp)
      replace A9 := A9.chg g12 (by simp)
      replace B8 := B8.chg g12 (by simp)
      replace N11 := N11.chg g12 (by simp) (by simp)
      replace M11 := M11.chg g12 (by simp) (by simp)
      have OW12 := hide (own_keep (unhide OW11) g12 (by simp))
      have G12 := G11.trans g12 (by simp)
      have z12 := g12.size
      clear g12 own12 G11 OW11 D11 c0 ct
      go_wp2_with fail
      refine (all_any a12 _ c12 (getB (bytesL rs2)) _ (by rw [bytesL_len]; omega) hc12 hB12).mono ?_
      rintro e w13 ⟨v13, rfl, own13, g13⟩
      have hall2 : allR (bytesL rs2).length (getB (bytesL rs2)) = rs2 := hrec2
      rw [hall2] at own13
      obtain ⟨a13, c13, rfl, hc13, -, R13⟩ := own_recs own13 rfl
      replace O2 := O2.chg g13 (by simp)
      replace A9 := A9.chg g13 (by simp)
      replace B8 := B8.chg g13 (by simp)
      replace N11 := N11.chg g13 (by simp) (by simp)
      replace M11 := M11.chg g13 (by simp) (by simp)
      have R6 := Recs.own (own_keep (unhide OW12) g13 (by simp)) rfl
      have G13 := G12.trans g13 (by simp)
      have z13 := g13.size
      clear g13 own13 hB12 hc12 G12 OW12
      obtain ⟨y0, y1, y2, -, -, -⟩ := A9.three
      have lA := A9.lt
      have lN13 := N11.lt
      by_cases hcd0 : cd = 0
      · have hz : wrC ⟨ep, bytesL rs⟩ ⟨behindT rs, ep, false⟩ o keep = 0 := (unhide HCD).trans hcd0
        obtain ⟨_, _, hac, _⟩ := wr_zero hz
        have hl2' : l2 = bytesL rs ++ tornL ep o keep := by rw [← unhide HL2, wrD_yes hz]
        have hcb0 : (cd != 0) = false := by simp [hcd0]
        have hab0 : ((doT (behindT rs) o).2.code != 0) = false := by simpa using hac
        rw [hcd0, decide_eq_true rfl] at N11
        have HAC := hide hac
        clear hac hz hcd0
        by_cases hk9 : keep < 9
        · have dk : decide (keep < 9) = true := by simpa using hk9
          have e2 : rs2 = rs := by rw [← unhide HR2, hl2']; exact kept_part hg hle (by rw [tornL_len]; exact keepN_part hk9)
          subst e2
          go_wp2_with (first
            | (go_at_call 25; refine (ndown_any nb tb _ _ _ N11).mono ?_; rintro e w13 ⟨rfl, rfl⟩)
            | (go_at_call 29; refine (same_any a6 a13 rs2.length c6 c13 (atR rs2) _ (by omega) R6 R13).mono ?_; rintro e w14 ⟨rfl, dd, rfl⟩))
          go_ret
          exact ⟨rfl, G13.drewN _⟩
        · have dk : decide (keep < 9) = false := by simpa using hk9
          obtain ⟨e2, -⟩ := kept_more hg hle r1 r2 (unhide HAC)
          rw [← tornL_whole (by omega : 9 ≤ keep), ← hl2', unhide HR2] at e2
          subst e2
          have hlen : (rs ++ [(⟨ep, o⟩ : Rc)]).length = rs.length + 1 := by simp
          have hlenI : (((rs ++ [(⟨ep, o⟩ : Rc)]).length : Nat) : Int) = (rs.length : Int) + 1 := by rw [hlen]; omega
          have hT2 : behindT (rs ++ [(⟨ep, o⟩ : Rc)]) = (doT (behindT rs) o).1 := behindT_snoc rs ⟨ep, o⟩
          rw [hT2] at M11
          have R13' : Recs w13 a13 rs.length (atR rs) := (R13.le (by rw [hlen]; omega)).congr (fun i hi => by simp [atR, List.getD, List.getElem?_append_left hi])
          rcases R13 with h0 | ⟨bl, off, rfl, hbl, hO⟩
          · rw [hlen] at h0; omega
          have hlast : atR (rs ++ [(⟨ep, o⟩ : Rc)]) rs.length = ⟨ep, o⟩ := by simp [atR, List.getD]
          have hrA := hO rs.length (by rw [hlen]; omega)
          rw [hlast] at hrA
          obtain ⟨p0, p1, p2, p3, p4, p5, p6⟩ := hrA
          obtain ⟨o0, o1, o2, o3, o4, o5⟩ := O2.six
          have lO13 := O2.lt
          clear hO hlast hT2
          generalize (rs ++ [(⟨ep, o⟩ : Rc)]).length = n2 at *
          subst hlen
          have hn0 : (0 : Int) ≤ (rs.length : Int) := by omega
          have hn1 : (rs.length : Int) < (rs.length : Int) + 1 := by omega
          have hnn : (((rs.length + 1 : Nat) : Int) != (rs.length : Int) + 1) = false := by simp
          have hnc : (rs.length : Int) ≤ (c13 : Int) := by omega
          have hnk : rs.length < rs.length + 1 := by omega
          have hwr : IntKind.i64.wrap ((rs.length : Int) + 1) = (rs.length : Int) + 1 := by simp [IntKind.wrap, IntKind.bits, IntKind.signed]; omega
          go_wp2_with (first
            | (go_at_call 25; refine (ndown_any nb tb _ _ _ N11).mono ?_; rintro e w13 ⟨rfl, rfl⟩))
          have R13d := R13'.chg ((Chg.refl [] w13).drew)
          have R6d := R6.chg ((Chg.refl [] w13).drew)
          refine wp_region_noPanic ?_
          refine wp_region_held_drew (S := (fun w' => w'.cell? ⟨bl, off + rs.length * 7, none⟩ = some (.int .i64 ep) ∧ w'.cell? ⟨bl, off + rs.length * 7 + 1, none⟩ = some (.int .i64 o.k) ∧ w'.cell? ⟨bl, off + rs.length * 7 + 2, none⟩ = some (.int .i64 o.now) ∧ w'.cell? ⟨bl, off + rs.length * 7 + 3, none⟩ = some (.int .i64 o.jb) ∧ w'.cell? ⟨bl, off + rs.length * 7 + 4, none⟩ = some (.int .i64 o.tr) ∧ w'.cell? ⟨bl, off + rs.length * 7 + 5, none⟩ = some (.int .i64 o.wk) ∧ w'.cell? ⟨bl, off + rs.length * 7 + 6, none⟩ = some (.int .i64 o.tm) ∧ Blk w' W.heap.size #[.int .i64 o.k, .int .i64 o.now, .int .i64 o.jb, .int .i64 o.tr, .int .i64 o.wk, .int .i64 o.tm] 43)) (by kernel_rfl) ⟨p0, p1, p2, p3, p4, p5, p6, O2⟩ (fun hH => ?_)
          refine wpAnyH_take (i := 0) (v := ?_) rfl (by kernel_rfl) (by kernel_rfl) (by kernel_rfl) (fun _ _ _ h => h) (Or.inl ⟨by rfl, ?hzq1⟩) hH ?rzq1
          case hzq1 => (intro W' hSw; (try dsimp only at hSw); go_simp; try with_reducible rfl)
          walk_nrm
          refine wpAnyH_take (i := 1) (v := ?_) rfl (by kernel_rfl) (by kernel_rfl) (by kernel_rfl) (fun _ _ _ h => h) (Or.inl ⟨by rfl, ?hzq2⟩) hH ?rzq2
          case hzq2 => (intro W' hSw; (try dsimp only at hSw); go_simp; try with_reducible rfl)
          walk_nrm
          refine wpAnyH_take (i := 2) (v := ?_) rfl (by kernel_rfl) (by kernel_rfl) (by kernel_rfl) (fun _ _ _ h => h) (Or.inl ⟨by rfl, ?hzq3⟩) hH ?rzq3
          case hzq3 => (intro W' hSw; (try dsimp only at hSw); go_simp; try with_reducible rfl)
          walk_nrm
          refine wpAnyH_take (i := 3) (v := ?_) rfl (by kernel_rfl) (by kernel_rfl) (by kernel_rfl) (fun _ _ _ h => h) (Or.inl ⟨by rfl, ?hzq4⟩) hH ?rzq4
          case hzq4 => (intro W' hSw; (try dsimp only at hSw); go_simp; try with_reducible rfl)
          walk_nrm
          refine wpAnyH_take (i := 4) (v := ?_) rfl (by kernel_rfl) (by kernel_rfl) (by kernel_rfl) (fun _ _ _ h => h) (Or.inl ⟨by rfl, ?hzq5⟩) hH ?rzq5
          case hzq5 => (intro W' hSw; (try dsimp only at hSw); go_simp; try with_reducible rfl)
          walk_nrm
          refine wpAnyH_take (i := 5) (v := .bool false) rfl (by kernel_rfl) (by kernel_rfl) (by kernel_rfl) (fun _ _ _ h => h) (Or.inl ⟨by rfl, ?hzq6⟩) hH ?rzq6
          case hzq6 => (intro W' hSw; (try dsimp only at hSw); go_simp; (try simp); try with_reducible rfl)
          walk_nrm
          refine wpAnyH_take (i := 6) (v := ?_) rfl (by kernel_rfl) (by kernel_rfl) (by kernel_rfl) (fun _ _ _ h => h) (Or.inl ⟨by rfl, ?hzq7⟩) hH ?rzq7
          case hzq7 => (intro W' hSw; (try dsimp only at hSw); go_simp; try with_reducible rfl)
          walk_nrm
          refine wpAnyH_take (i := 7) (v := ?_) rfl (by kernel_rfl) (by kernel_rfl) (by kernel_rfl) (fun _ _ _ h => h) (Or.inl ⟨by rfl, ?hzq8⟩) hH ?rzq8
          case hzq8 => (intro W' hSw; (try dsimp only at hSw); go_simp; try with_reducible rfl)
          walk_nrm
          refine wpAnyH_take (i := 8) (v := ?_) rfl (by kernel_rfl) (by kernel_rfl) (by kernel_rfl) (fun _ _ _ h => h) (Or.inl ⟨by rfl, ?hzq9⟩) hH ?rzq9
          case hzq9 => (intro W' hSw; (try dsimp only at hSw); go_simp; try with_reducible rfl)
          walk_nrm
          refine wpAnyH_take (i := 9) (v := ?_) rfl (by kernel_rfl) (by kernel_rfl) (by kernel_rfl) (fun _ _ _ h => h) (Or.inl ⟨by rfl, ?hzq10⟩) hH ?rzq10
          case hzq10 => (intro W' hSw; (try dsimp only at hSw); go_simp; try with_reducible rfl)
          walk_nrm
          refine wpAnyH_take (i := 10) (v := ?_) rfl (by kernel_rfl) (by kernel_rfl) (by kernel_rfl) (fun _ _ _ h => h) (Or.inl ⟨by rfl, ?hzq11⟩) hH ?rzq11
          case hzq11 => (intro W' hSw; (try dsimp only at hSw); go_simp; try with_reducible rfl)
          walk_nrm
          refine wpAnyH_take (i := 11) (v := ?_) rfl (by kernel_rfl) (by kernel_rfl) (by kernel_rfl) (fun _ _ _ h => h) (Or.inl ⟨by rfl, ?hzq12⟩) hH ?rzq12
          case hzq12 => (intro W' hSw; (try dsimp only at hSw); go_simp; try with_reducible rfl)
          walk_nrm
          refine wpAnyH_ready (rs := [12]) (by kernel_rfl) (by simp) ?_
          refine AllReadyH.cons rfl (fun K hK => ?_) AllReadyH.nil
          rw [if_pos (by rfl)]
          go_simp
          refine (same_any _ a6 rs.length _ c6 (atR rs) _ (by omega) R13d R6d).mono ?_
          rintro e w14 ⟨rfl, dd, rfl⟩
          refine hK.out _ _ ⟨hH.1, hH.2.1, hH.2.2.1, hH.2.2.2.1, hH.2.2.2.2.1, hH.2.2.2.2.2.1, hH.2.2.2.2.2.2.1, hH.2.2.2.2.2.2.2⟩ (fun hH2 => ?_)
          clear hK K hH
          have hH := hH2
          clear hH2
          walk_nrm
          refine wpAnyH_take (i := 13) (v := ?_) rfl (by kernel_rfl) (by kernel_rfl) (by kernel_rfl) (fun _ _ _ h => h) (Or.inl ⟨by rfl, ?hzq13⟩) hH ?rzq13
          case hzq13 => (intro W' hSw; (try dsimp only at hSw); go_simp; try with_reducible rfl)
          walk_nrm
          refine wpAnyH_take (i := 14) (v := ?_) rfl (by kernel_rfl) (by kernel_rfl) (by kernel_rfl) (fun _ _ _ h => h) (Or.inl ⟨by rfl, ?hzq14⟩) hH ?rzq14
          case hzq14 => (intro W' hSw; (try dsimp only at hSw); go_simp; try with_reducible rfl)
          walk_nrm
          refine wpAnyH_take (i := 15) (v := ?_) rfl (by kernel_rfl) (by kernel_rfl) (by kernel_rfl) (fun _ _ _ h => h) (Or.inl ⟨by rfl, ?hzq15⟩) hH ?rzq15
          case hzq15 => (intro W' hSw; (try dsimp only at hSw); go_simp; try with_reducible rfl)
          walk_nrm
          refine wpAnyH_take (i := 16) (v := ?_) rfl (by kernel_rfl) (by kernel_rfl) (by kernel_rfl) (fun _ _ _ h => h) (Or.inl ⟨by rfl, ?hzq16⟩) hH ?rzq16
          case hzq16 => (intro W' hSw; (try dsimp only at hSw); go_simp; try with_reducible rfl)
          walk_nrm
          refine wpAnyH_take (i := 17) (v := ?_) rfl (by kernel_rfl) (by kernel_rfl) (by kernel_rfl) (fun _ _ _ h => h) (Or.inl ⟨by rfl, ?hzq17⟩) hH ?rzq17
          case hzq17 => (intro W' hSw; (try dsimp only at hSw); go_simp; try with_reducible rfl)
          walk_nrm
          refine wpAnyH_take (i := 18) (v := ?_) rfl (by kernel_rfl) (by kernel_rfl) (by kernel_rfl) (fun _ _ _ h => h) (Or.inl ⟨by rfl, ?hzq18⟩) hH ?rzq18
          case hzq18 => (intro W' hSw; (try dsimp only at hSw); go_simp; try with_reducible rfl)
          walk_nrm
          refine wpAnyH_take (i := 19) (v := ?_) rfl (by kernel_rfl) (by kernel_rfl) (by kernel_rfl) (fun _ _ _ h => h) (Or.inl ⟨by rfl, ?hzq19⟩) hH ?rzq19
          case hzq19 => (intro W' hSw; (try dsimp only at hSw); go_simp; try with_reducible rfl)
          walk_nrm
          refine wpAnyH_take (i := 20) (v := ?_) rfl (by kernel_rfl) (by kernel_rfl) (by kernel_rfl) (fun _ _ _ h => h) (Or.inl ⟨by rfl, ?hzq20⟩) hH ?rzq20
          case hzq20 => (intro W' hSw; (try dsimp only at hSw); obtain ⟨c1, c2, c3, c4, c5, c6, c7, c8⟩ := hSw; go_simp; try with_reducible rfl)
          walk_nrm
          refine wpAnyH_take (i := 21) (v := ?_) rfl (by kernel_rfl) (by kernel_rfl) (by kernel_rfl) (fun _ _ _ h => h) (Or.inl ⟨by rfl, ?hzq21⟩) hH ?rzq21
          case hzq21 => (intro W' hSw; (try dsimp only at hSw); go_simp; try with_reducible rfl)
          walk_nrm
          refine wpAnyH_take (i := 23) (v := _) rfl (by kernel_rfl) (by kernel_rfl) (by kernel_rfl) (fun _ _ _ h => h) (ord_yield (fun _ h => h.2.2.2.2.2.2.2) (by rfl) rfl rfl) hH ?_
          walk_nrm
          unfold odV
          refine wpAnyH_ready (rs := [22]) (by kernel_rfl) (by simp) ?_
          refine AllReadyH.cons rfl (fun K hK => ?_) AllReadyH.nil
          rw [if_pos (by rfl)]
          go_simp
          refine (nepoch_any nb tb m.db ⟨behindT rs, ep, true⟩ (w13.drewN (1 + dd)) ⟨N11.1, N11.2⟩).mono ?_
          rintro e w15 ⟨rfl, rfl⟩
          refine hK.out _ _ hH (fun hH2 => ?_)
          clear hK K hH
          have hH := hH2
          clear hH2
          walk_nrm
          refine wpAnyH_take (i := 24) (v := ?_) rfl (by kernel_rfl) (by kernel_rfl) (by kernel_rfl) (fun _ _ _ h => h) (Or.inl ⟨by rfl, ?hzq22⟩) hH ?rzq22
          case hzq22 => (intro W' hSw; (try dsimp only at hSw); go_simp; try with_reducible rfl)
          walk_nrm
          refine wpAnyH_take (i := 25) (v := .bool false) rfl (by kernel_rfl) (by kernel_rfl) (by kernel_rfl) (fun _ _ _ h => h) (Or.inl ⟨by rfl, ?hzq23⟩) hH ?rzq23
          case hzq23 => (intro W' hSw; (try dsimp only at hSw); go_simp; (try simp); try with_reducible rfl)
          walk_nrm
          refine wpAnyH_take (i := 26) (v := ?_) rfl (by kernel_rfl) (by kernel_rfl) (by kernel_rfl) (fun _ _ _ h => h) (Or.inl ⟨by rfl, ?hzq24⟩) hH ?rzq24
          case hzq24 => (intro W' hSw; (try dsimp only at hSw); go_simp; try with_reducible rfl)
          walk_nrm
          refine wpAnyH_done (by kernel_rfl) ?_ _
          refine NoPanic.normal ?_
          have M14 : Nod (w13.drewN (1 + dd)) mb ub m.db ⟨(doT (behindT rs) o).1, ep + 1, false⟩ := ⟨M11.1, M11.2⟩
          have B14 : Has 74 (w13.drewN (1 + dd)) w6.heap.size (doT (behindT rs) o).1 := B8
          have G14 : Chg [] W (w13.drewN (1 + dd)) := G13.drewN _
          clear M11 B8 G13 N11 A9 O2 y0 y1 y2 o0 o1 o2 o3 o4 o5 p0 p1 p2 p3 p4 p5 p6 hH R13d R6d R6 R13' hab0 hcb0
          generalize (doT (behindT rs) o).1 = T2 at *
          generalize hW14 : World.drewN w13 _ = w14 at *
          clear hW14
          go_wp2_with fail
          go_loopw [20] (fun i wr => ∃ j : Nat, j ≤ 6 ∧ i = .int .i64 j ∧ Nod wr mb ub m.db ⟨T2, ep + 1, false⟩ ∧ Has 74 wr w6.heap.size T2 ∧ Chg [] W wr) (fun i _ => 6 - (intOf i).toNat)
          case atStart => exact ⟨0, by omega, rfl, M14, B14, G14⟩
          case round =>
            clear M14 B14 G14
            obtain ⟨j, hj, rfl, M, B, G⟩ := hrel
            by_cases hj6 : j < 6
            · have hji : decide ((j : Int) < 6) = true := by simp; omega
              obtain ⟨m0, -, -, -, lm, -⟩ := M.cells
              go_wp2_with (first
                | (go_at_call 31; refine (job_all ub j T2 _ M.2).mono ?_; rintro e w16 ⟨rfl, g16⟩; have B16 := B.chg g16 (by simp); have M16 := M.chg g16 (by simp) (by simp); have G16 := G.trans g16 (by simp); clear g16)
                | (go_at_call 32; refine (bjob_all w6.heap.size j T2 _ B16).mono ?_; rintro e w17 ⟨rfl, g17⟩; have B17 := B16.chg g17 (by simp); have M17 := M16.chg g17 (by simp) (by simp); have G17 := G16.trans g17 (by simp); clear g17))
              go_roundw
              case rel => exact ⟨j + 1, by omega, by go_num, M17, B17, G17⟩
              case measure => go_light; simp [intOf]; omega
            · have hji : decide ((j : Int) < 6) = false := by simp; omega
              go_wp2
              go_ret
              exact ⟨rfl, G⟩
      · obtain hq := wr_serves (fun h => hcd0 ((unhide HCD).symm.trans h))
        have hno : wrD ⟨ep, bytesL rs⟩ ⟨behindT rs, ep, false⟩ o keep = ⟨ep, bytesL rs⟩ := wrD_no (fun h => hcd0 ((unhide HCD).symm.trans h))
        have e2 : rs2 = rs := by rw [← unhide HR2, ← unhide HL2, hno]; exact kept_whole hg hle
        rw [unhide HCD] at hq
        rw [decide_eq_false hcd0] at N11
        have hcb1 : (cd != 0) = true := by simpa using hcd0
        subst e2
        clear hno hcd0
        by_cases hq1 : cd = (doT (behindT rs2) o).2.code
        · have hqb : (cd == (doT (behindT rs2) o).2.code) = true := by simpa using hq1
          clear hq1 hq
          go_wp2_with (first
            | (go_at_call 25; refine (ndown_any nb tb _ _ _ (N11.chg ((Chg.refl [] w13).drewN dd) (by simp) (by simp))).mono ?_; rintro e w15 ⟨rfl, rfl⟩)
            | (go_at_call 29; refine (same_any a6 a13 rs2.length c6 c13 (atR rs2) _ (by omega) R6 R13).mono ?_; rintro e w14 ⟨rfl, dd, rfl⟩))
          go_ret
          exact ⟨rfl, G13.drewN _⟩
        · have hq8 : cd = 8 := hq.resolve_left hq1
          have hqb : (cd == (doT (behindT rs2) o).2.code) = false := by simpa using hq1
          have hqc : (cd == 8) = true := by simpa using hq8
          clear hq1 hq hq8
          go_wp2_with (first
            | (go_at_call 25; refine (ndown_any nb tb _ _ _ (N11.chg ((Chg.refl [] w13).drewN dd) (by simp) (by simp))).mono ?_; rintro e w15 ⟨rfl, rfl⟩)
            | (go_at_call 29; refine (same_any a6 a13 rs2.length c6 c13 (atR rs2) _ (by omega) R6 R13).mono ?_; rintro e w14 ⟨rfl, dd, rfl⟩))
          go_ret
          exact ⟨rfl, G13.drewN _⟩

end Go.Proofs.Ytafbacijfiodhab

namespace Go.Proofs.Ytafbacijfiodhab
open Go.ChangeShapes Go.WideShapes Go.ChangeAt Go.RowKit

set_option maxRecDepth 100000 in
theorem tears_lifted (os : Os) (started : os.Started) (H : Type) (enc : TypeId × Value → H) :
    ReturnsInHanded {} Try.checked os 8 .any (Rows.nodeTearsSpec.pre6 enc Try.prog Try.f8 Rows.nodeTearsRow.domain false) (Rows.nodeTearsSpec.post enc Try.prog Try.f8 false true false false) := by
  refine returnsInHanded_of_change (C := Try.checked) ownK started (by kernel_rfl) Try.func8
    (ChangeSpec.witness6 (enc := enc) (C := Try.checked) false ⟨#[], #[.slice none 0 0, .slice none 0 0, .agg #[.int .i64 0, .int .i64 0, .int .i64 0, .int .i64 0, .int .i64 0, .int .i64 0], .int .i64 0], []⟩ 8 (by kernel_rfl) (by kernel_rfl) (by kernel_rfl) (by kernel_rfl)) ?_
  intro W base args ds gs before hval0 hW hcnd _
  have hval : ∀ (j : Nat) t v, Try.f8.params[j]? = some t → args[j]? = some v → Value.okWide Try.prog W .any base t v := hval0
  have hW' := hW
  obtain ⟨p, q, hA0, hV, rfl, hfz, hnd⟩ := hW
  have hA : DataW.TrodAll enc Try.prog W 0 (fun _ => true) true Try.f8.params.toList args.toList ds p := hA0
  rw [Try.params8] at hA hval
  obtain ⟨v0, vs0, d0, ds0, p0, q0, hargs, rfl, rfl, h0, r0⟩ := trodAll_cons hA
  obtain ⟨v1, vs1, d1, ds1, p1, q1, rfl, rfl, rfl, h1, r1⟩ := trodAll_cons r0
  obtain ⟨v2, vs2, d2, ds2, p2, q2, rfl, rfl, rfl, h2, r2⟩ := trodAll_cons r1
  obtain ⟨v3, vs3, d3, ds3, p3, q3, rfl, rfl, rfl, h3, r3⟩ := trodAll_cons r2
  obtain ⟨rfl, rfl, rfl⟩ := trodAll_nil r3
  obtain rfl : args = #[v0, v1, v2, v3] := by cases args; simp_all
  obtain ⟨rfl, rfl⟩ := trodVars_none hV
  obtain ⟨a0, len0, cap0, rfl⟩ := okWide_slice Try.underlying27 (hval 0 27 v0 rfl rfl)
  have k0 := h0
  have lt0 : ∀ x ∈ p0, x.block < W.heap.size := by obtain ⟨m, hm⟩ := k0; exact DataW.trod_lt m _ _ _ hm
  obtain ⟨z0, w0, y0⟩ : ∃ l, Sl W (.slice a0 len0 cap0) l ∧ okB l := by
    obtain ⟨fuel, hf⟩ := h0
    have hf2 : DataW.trod enc Try.prog W 0 (fun _ => true) true fuel 27 [.slice a0 len0 cap0] = some (d0, p0) := by simpa [Value.cells] using hf
    obtain ⟨v9, l9, e9, h9, g9⟩ := sl_of_trod hf2
    simp at e9
    subst e9
    exact ⟨l9, h9, g9⟩
  obtain ⟨a1, len1, cap1, rfl⟩ := okWide_slice Try.underlying38 (hval 1 38 v1 rfl rfl)
  have k1 := h1
  have lt1 : ∀ x ∈ p1, x.block < W.heap.size := by obtain ⟨m, hm⟩ := k1; exact DataW.trod_lt m _ _ _ hm
  obtain ⟨z1, w1⟩ : ∃ fs, Nss W a1 len1 fs := by
    obtain ⟨fuel, hf⟩ := h1
    exact nss_of_trod (by simpa [Value.cells] using hf)
  have k2 := h2
  have lt2 : ∀ x ∈ p2, x.block < W.heap.size := by obtain ⟨m, hm⟩ := k2; exact DataW.trod_lt m _ _ _ hm
  obtain ⟨a2, rfl⟩ := open_ord (hval 2 43 v2 rfl rfl) h2
  obtain ⟨a3, rfl, rfl, rfl, w3⟩ := open_int Try.underlying3 (hval 3 3 v3 rfl rfl) h3
  clear hA0 hval0
  refine (tears_any (.slice a0 len0 cap0) z0 a1 len1 cap1 z1 a2 a3 W w0 y0 w1).mono fun e W' ⟨he, hch⟩ => ?_
  have bel := hch.below
  subst he
  exact ⟨_, rfl, _, _, _, [], _, [], hW', trodAll_mk1 (shut_bool Try.underlying4 _), (trodAll_cons_mk (Below.trod laidOutK (by kernel_rfl) (of_decide_eq_true (by kernel_rfl)) k0 bel lt0) (trodAll_cons_mk (Below.trod laidOutK (by kernel_rfl) (of_decide_eq_true (by kernel_rfl)) k1 bel lt1) (trodAll_cons_mk (Below.trod laidOutK (by kernel_rfl) (of_decide_eq_true (by kernel_rfl)) k2 bel lt2) (trodAll_cons_mk (shut_int Try.underlying3 w3) trodAll_mk0)))), rfl, bel.frame _, fun h => by cases h⟩

theorem tears_holds : Rows.NodeTearsSaid :=
  OpenClaim.holds_of_wide 8 Try.f8 rfl rfl rfl rfl rfl rfl rfl ⟨rfl, rfl, rfl, rfl, rfl⟩ rfl rfl rfl rfl rfl (by kernel_rfl) Try.func8 (by kernel_rfl)
    (of_decide_eq_true (by kernel_rfl)) (by unfold Func.isWrapper; first | (rw [if_pos (by decide +kernel)]; kernel_rfl) | (rw [if_neg (by decide +kernel)]; exact ⟨rfl, rfl⟩))
    (fun os started H enc _ => tears_lifted os started H enc)

end Go.Proofs.Ytafbacijfiodhab

