/- For all bytes and all steps the law NodeAnswers returns true, and leaves them as they were; no condition. -/
import Derived.Test.YtafbacijfiodhabMgOa
import Derived.Test.YtafbacijfiodhabMPTears
import Derived.Test.YtafbacijfiodhabMgKFrame
namespace Go.Proofs.Ytafbacijfiodhab
open Go.RowKit

theorem Crw.fresh {W0 w : World} {m : Mm} {s : St} (h : Crw W0 w m s) : Crw W0 w { m with own := grow w.heap.size m.own (fun _ => 50) } s :=
  ⟨h.blk, h.few, h.rown, h.rowv, h.dsk, h.plt, h.nod, h.vgr, h.pd, h.pp, h.g_cb (fun _ => 50), h.g_rn (fun _ => 50), h.g_rv (fun _ => 50), h.g_d (fun _ => 50), h.g_p (fun _ => 50), h.g_n (fun _ => 50), h.g_v (fun _ => 50), h.g_lo (fun _ => 50), h.ch⟩
/-- A block that is nobody's is turned. -/
theorem Crw.turn {W0 w w' : World} {m : Mm} {s : St} (h : Crw W0 w m s) {x : Nat} (g : Chg [x] w w') (hx : m.own x = 50) : Crw W0 w' m s := by
  have h8 := h.few
  have ne : ∀ c, c ≠ 50 → ∀ y ∈ [x], m.own y ≠ c := fun c h1 y hy e => by simp at hy; subst hy; omega
  exact ⟨h.k_blk g (ne 0 (by omega)), h.few, h.k_rown g (ne 1 (by omega)), h.k_rowv g (ne 2 (by omega)), h.k_dsk g (ne 3 (by omega)), h.k_plt g (ne 4 (by omega)), fun i hi => h.k_nod g hi (ne _ (by omega)), fun i hi => h.k_vgr g hi (ne _ (by omega)), h.pd, h.pp, h.ocb, h.orn, h.orv, h.od, h.op, h.on, h.ov, h.lo, h.chs g (fun y hy _ => by simp at hy; subst hy; omega)⟩

set_option maxRecDepth 100000 in
set_option maxHeartbeats 8000000 in
theorem answers_any (vb : Value) (bs : List Int) (a : Option Addr) (len cap : Nat) (fs : Nat → Ns) (W : World) (hb : Sl W vb bs) (hk : okB bs) (h : Nss W a len fs) :
    Calls Try.prog 9 #[vb, .slice a len cap] W fun e w' => e = .returned (.bool true) ∧ Chg [] W w' := by
  have HB := hide hb
  have HK := hide hk
  have HH := hide h
  obtain ⟨ab, cab, rfl⟩ := sl_slice hb
  clear hb hk h
  by_cases hbig : 1400 < bs.length
  · have d1 : decide ((1400 : Int) < (bs.length : Int)) = true := by simp; omega
    go_enter Try.func9, Try.ntmps9
    go_wp2_with (go_at_call 18; refine (nbegun_any _).mono ?_; rintro e w1 ⟨rfl, G1⟩)
    go_ret
    exact ⟨rfl, G1⟩
  have d1 : decide ((1400 : Int) < (bs.length : Int)) = false := by simp; omega
  by_cases hbig2 : 200 < len
  · have d2 : decide ((200 : Int) < (len : Int)) = true := by simp; omega
    go_enter Try.func9, Try.ntmps9
    go_wp2_with (go_at_call 18; refine (nbegun_any _).mono ?_; rintro e w1 ⟨rfl, G1⟩)
    go_ret
    exact ⟨rfl, G1⟩
  have d2 : decide ((200 : Int) < (len : Int)) = false := by simp; omega
  go_enter Try.func9, Try.ntmps9
  go_wp2_with (first
    | (go_at_call 18; refine (nbegun_any _).mono ?_; rintro e w1 ⟨rfl, G1⟩)
    | (go_at_call 19; refine (newcrew_any _ bs _ ((unhide HB).chg G1 (by simp)) (unhide HK) (by omega)).mono ?_; rintro e w2 ⟨cb, db, pb, v, u, rfl, h1, h2, B, D, P, A, hp, c1, c2, g2⟩))
  obtain ⟨own, C0⟩ := crew_start h1 h2 B D P A hp c1 c2 g2
  have HC0 := hide C0
  clear h1 h2 B D P A hp c1 c2 g2 C0
  go_loopw [6] (fun i wr => ∃ (k : Nat) (m : Mm) (s : St), k ≤ len ∧ i = .int .i64 k ∧ Crw w1 wr m s ∧ m.cb = cb ∧ m.db = db ∧ s.p.ep = s.d.ep) (fun i _ => len - (intOf i).toNat)
  case atStart => exact ⟨0, _, _, by omega, rfl, unhide HC0, rfl, rfl, rfl⟩
  case round =>
    obtain ⟨k, m, s, hkl, rfl, C, rfl, rfl, he⟩ := hrel
    clear HC0
    by_cases hlt : k < len
    · have hki : (k : Int) < (len : Int) := by omega
      have hk0 : (0 : Int) ≤ (k : Int) := by omega
      rcases unhide HH with h0 | ⟨bl, off, rfl, hbl, hO⟩
      · omega
      have GW := G1.trans C.ch (by simp)
      obtain ⟨p0, p1, p2, p3, p4, p5, p6, p7, p8⟩ := (hO k hlt).chg GW hbl
      obtain ⟨an, cn0, ern, hcn0, hrn0⟩ := row_form C.rown
      have c2 : wr.cell? ⟨m.cb, 2, none⟩ = some (.slice an s.k cn0) := (C.blk.cell 2).trans (congrArg some ern)
      have lcb := C.blk.lt
      have hk8 := C.few
      have X0 := hO k hlt
      have HX0 := hide X0
      clear hO X0 ern hcn0 hrn0
      have HX := hide C
      clear C
      generalize fs k = x at *
      by_cases hx1 : x.d = 1
      · have b1 : (x.d != 1) = false := by simpa using hx1
        clear hx1
        by_cases hk0' : s.k = 0
        · have b2 : ((s.k : Int) == 0) = true := by simp [hk0']
          clear hk0'
          go_wp2_with (first
            | (go_at_call 20; refine (step_any w1 m s x _ (unhide HX) he).mono ?_; rintro e w3 ⟨bo, m', s', rfl, C3, e1, e2, e3, -⟩))
          go_roundw
          case rel => exact ⟨k + 1, m', s', by omega, by go_num, C3, e1, e2, e3⟩
          case measure => go_light; simp [intOf]; omega
        · have b2 : ((s.k : Int) == 0) = false := by simp; omega
          obtain ⟨i, hi, hpick⟩ := pickK x.k (by omega : 0 < s.k) hk8
          obtain ⟨gn, cn, en, hcn, ogn, lgn, wgn, cgn⟩ := (unhide HX).rcell hi
          have ean : an = some ⟨gn, 0, none⟩ := by
            have h8 := ((unhide HX).blk.cell 2).symm.trans c2
            have h9 : m.rn = .slice an s.k cn0 := by simpa using h8
            have h7 := h9.symm.trans en
            injection h7
          subst ean
          have hi0 : (0 : Int) ≤ (i : Int) := by omega
          have hik : (i : Int) < (s.k : Int) := by omega
          clear en hcn ogn
          go_wp2_with fail
          go_quiet (fail)
          have C4 : Crw w1 (wr.drewN nq) m s := (unhide HX).same ((Chg.refl [] wr).drewN nq)
          clear p0 p1 p2 p3 p4 p5 p6 p7 p8 c2 lgn wgn cgn hpick HX GW
          have lC4 := C4.blk.lt
          have c0 : (wr.drewN nq).cell? ⟨m.cb, 0, none⟩ = some (.pointer (some ⟨m.db, 0, none⟩)) := C4.blk.cell 0
          generalize hW4 : World.drewN wr nq = w4 at *
          clear hW4
          have hfew := C4.dsk.few
          have hok := C4.dsk.ok
          have hall4 : (recsL s.d.l).length ≤ 4000 := by have := (recsL_back hok).2.1; omega
          go_wp2_with fail
          refine (dbytes_any m.db s.d.ep m.v s.d.l _ _ C4.dsk).mono ?_
          rintro e w5 ⟨v5, rfl, own5, g5⟩
          obtain ⟨a5, c5, rfl, hc5, hB5⟩ := sl_byt (own_sl own5) hok
          have C5 := C4.same g5
          clear own5 g5 c0
          go_wp2_with fail
          refine (all_any a5 _ c5 (getB s.d.l) _ (by omega) hc5 hB5).mono ?_
          rintro e w6 ⟨v6, rfl, own6, g6⟩
          have hall : allR s.d.l.length (getB s.d.l) = recsL s.d.l := rfl
          rw [hall] at own6
          obtain ⟨a6, c6, rfl, hc6, -, R6⟩ := own_recs own6 rfl
          have C6 := (C5.same g6).fresh
          have z6 := C6.ch.size
          clear g6 own6 hB5 hc5 hall C4 C5
          go_wp2_with fail
          refine (behind_any a6 _ c6 (recsL s.d.l) _ rfl hall4 R6).mono ?_
          rintro e w7 ⟨rfl, B7, g7⟩
          have C7 := C6.same g7
          have lB7 := B7.lt
          have c0 : w7.cell? ⟨m.cb, 0, none⟩ = some (.pointer (some ⟨m.db, 0, none⟩)) := C7.blk.cell 0
          have lc7 := C7.blk.lt
          have lN6 := (C6.nod i hi).lt
          have lD6 := C6.dsk.fp_lt
          clear g7 R6 C6
          go_wp2_with fail
          refine (dbytes_any m.db s.d.ep m.v s.d.l _ _ C7.dsk).mono ?_
          rintro e w8 ⟨v8, rfl, own8, g8⟩
          obtain ⟨a8, c8, rfl, -, -⟩ := sl_byt (own_sl own8) hok
          have C8 := C7.same g8
          have B8 := B7.chg g8 (by simp)
          have GW8 := G1.trans C8.ch (by simp)
          obtain ⟨p0, p1, p2, p3, p4, p5, p6, p7, p8⟩ := (unhide HX0).chg GW8 hbl
          have hbl8 := Nat.lt_of_lt_of_le hbl GW8.size
          have z8 := g8.size
          clear g8 own8 C7 B7 c0
          obtain ⟨f1, f2, -⟩ := C8.apart hi
          go_wp2_with fail
          refine (nord_all (m.nb i) (m.tb i) m.db w1.heap.size (s.ns i) s.d m.v x.o _ (C8.nod i hi) C8.dsk (C8.pd.inv i hi) C8.ch.size C8.pd.e1 C8.pd.e2 f1 f2).mono ?_
          rintro e w10 ⟨rfl, v10, N10, D10, g10, n10⟩
          have C10 := C8.nodeOp (d' := wrD s.d (s.ns i) x.o 9) hi rfl N10 D10 g10 n10 (C8.pd.order hi x.o)
          have B10 := B8.chg g10 (by simp only [List.mem_cons, not_or]; exact ⟨by omega, by omega, fun hf => absurd (lD6 _ hf) (by omega)⟩)
          have z10 := g10.size
          have hN10 : (ordN s.d (s.ns i) x.o).e = (s.ns i).e := rfl
          clear p0 p1 p2 p3 p4 p5 p6 p7 p8 g10 n10 N10 f1 f2
          generalize hA : ordA s.d (s.ns i) x.o = A at *
          unfold ansV
          have A11 := Blk.new w10 #[.int .i64 A.code, .int .i64 A.jb, .int .i64 A.tr] 56
          have C11 := C10.same ((Chg.refl [] w10).alloc (.cells #[.int .i64 A.code, .int .i64 A.jb, .int .i64 A.tr] 56))
          have B11 := B10.alloc (.cells #[.int .i64 A.code, .int .i64 A.jb, .int .i64 A.tr] 56)
          have D11 := D10.alloc (.cells #[.int .i64 A.code, .int .i64 A.jb, .int .i64 A.tr] 56)
          have c0 : w10.cell? ⟨m.cb, 0, none⟩ = some (.pointer (some ⟨m.db, 0, none⟩)) := C10.blk.cell 0
          have lc10 : m.cb < w10.heap.size := C10.blk.lt
          have okl := D11.ok
          have fewl := D11.few
          have s10 : (w10.alloc (.cells #[.int .i64 A.code, .int .i64 A.jb, .int .i64 A.tr] 56)).heap.size = w10.heap.size + 1 := by simp
          have lB11 := B11.lt
          generalize hl' : (wrD s.d (s.ns i) x.o 9).l = l' at *
          have hall4' : (recsL l').length ≤ 4000 := by have := (recsL_back okl).2.1; omega
          have HA := hide hA
          have HL := hide hl'
          have SV := hide (C8.pd.srv i hi)
          have E1 := C8.pd.e1
          have E2 := C8.pd.e2
          clear hA hl' C8 B8 B10 D10
          go_wp2_with fail
          refine (dbytes_any m.db s.d.ep v10 l' _ _ D11).mono ?_
          rintro e w11 ⟨v11, rfl, own11, g11⟩
          obtain ⟨a11, c11, rfl, hc11, hB11⟩ := sl_byt (own_sl own11) okl
          replace C11 := C11.same g11
          replace B11 := B11.chg g11 (by simp)
          replace A11 := A11.chg g11 (by simp)
          replace D11 := D11.chg g11 (by simp)
          clear own11 c0
          have z11 := g11.size
          clear g11
          go_wp2_with fail
          refine (all_any a11 _ c11 (getB l') _ (by omega) hc11 hB11).mono ?_
          rintro e w12 ⟨v12, rfl, own12, g12⟩
          have hall : allR l'.length (getB l') = recsL l' := rfl
          rw [hall] at own12
          have C12 := C11.same g12
          have B12 := B11.chg g12 (by simp)
          have A12 := A11.chg g12 (by simp)
          have D12 := D11.chg g12 (by simp)
          have z12 := g12.size
          clear g12 hB11 hc11 C11 B11 A11 D11 hall
          obtain ⟨y0, y1, y2, -, -, -⟩ := A12.three
          have lA12 := A12.lt
          have c0 : w12.cell? ⟨m.cb, 0, none⟩ = some (.pointer (some ⟨m.db, 0, none⟩)) := C12.blk.cell 0
          have lc12 : m.cb < w12.heap.size := C12.blk.lt
          by_cases hw : wrC s.d (s.ns i) x.o 9 = 0
          · obtain ⟨hdn, hee, hc, -⟩ := wr_zero hw
            obtain ⟨rs, hl, hg, hle, hT⟩ := unhide SV hee.symm hdn
            have hrs : recsL s.d.l = rs := by rw [hl]; exact recsL_bytes hg
            have hA2 : A = (doT (behindT rs) x.o).2 := by rw [← unhide HA, (ord_yes hw).2, hT]
            have hcode : A.code = 0 := by rw [hA2, ← hT]; exact hc
            have hcb : (A.code != 0) = false := by simpa using hcode
            have hg' := (kept_more hg hle E1 E2 hc).2
            have hl'e : l' = bytesL (rs ++ [⟨s.d.ep, x.o⟩]) := by
              rw [← unhide HL, wrD_yes hw, tornL_nine, hl]
              simp [bytesL]
            have hrs' : recsL l' = rs ++ [⟨s.d.ep, x.o⟩] := by rw [hl'e]; exact recsL_bytes hg'
            have hIr : Inv (behindT rs) := behindT_inv rs
            rw [hrs] at B12 hall4 ⊢
            rw [hrs'] at own12
            subst hA2
            have hlen : (rs ++ [(⟨s.d.ep, x.o⟩ : Rc)]).length = rs.length + 1 := by simp
            obtain ⟨a12, c12, rfl, hc12, -, R12⟩ := own_recs own12 rfl
            have rlt := fun y hy => (own12.lt y hy).1
            rcases R12 with h0 | ⟨rb, roff, rfl, hrb, hO⟩
            · rw [hlen] at h0; omega
            have hrb2 : w11.heap.size ≤ rb := rlt rb rfl
            have hlast : atR (rs ++ [(⟨s.d.ep, x.o⟩ : Rc)]) rs.length = ⟨s.d.ep, x.o⟩ := by simp [atR, List.getD]
            have hrA := hO rs.length (by rw [hlen]; omega)
            rw [hlast] at hrA
            obtain ⟨r0, r1, r2, r3, r4, r5, r6⟩ := hrA
            clear hO hlast own12 rlt hcode
            generalize (rs ++ [(⟨s.d.ep, x.o⟩ : Rc)]).length = n2 at *
            subst hlen
            have hn0 : (0 : Int) ≤ (rs.length : Int) := by omega
            have hn1 : (rs.length : Int) < (rs.length : Int) + 1 := by omega
            have hnk : rs.length < rs.length + 1 := by omega
            have hwr : IntKind.i64.wrap ((rs.length : Int) + 1) = (rs.length : Int) + 1 := by simp [IntKind.wrap, IntKind.bits, IntKind.signed]; omega
            have GW12 := G1.trans C12.ch (by simp)
            have X12 := (unhide HX0).chg (GW12.drew) hbl
            have hbb : grow w8.heap.size (grow w6.heap.size m.own (fun _ => 50)) (fun _ => 3) w6.heap.size = 50 := by rw [grow_old (by omega), grow_new (Nat.le_refl _)]
            have HHW := hide hw
            have HHT := hide hT
            have HHL := hide hl
            have HHE := hide hl'e
            clear hw hT hl hl'e hrs hrs' hdn
            go_wp2_with fail
            refine wp_region_noPanic ?_
            refine wp_region_held_drew (S := (fun w' => NsAt w' bl (off + k * 9) x ∧ Blk w' w10.heap.size #[.int .i64 (doT (behindT rs) x.o).2.code, .int .i64 (doT (behindT rs) x.o).2.jb, .int .i64 (doT (behindT rs) x.o).2.tr] 56 ∧ w'.cell? ⟨rb, roff + rs.length * 7, none⟩ = some (.int .i64 s.d.ep) ∧ w'.cell? ⟨rb, roff + rs.length * 7 + 1, none⟩ = some (.int .i64 x.o.k) ∧ w'.cell? ⟨rb, roff + rs.length * 7 + 2, none⟩ = some (.int .i64 x.o.now) ∧ w'.cell? ⟨rb, roff + rs.length * 7 + 3, none⟩ = some (.int .i64 x.o.jb) ∧ w'.cell? ⟨rb, roff + rs.length * 7 + 4, none⟩ = some (.int .i64 x.o.tr) ∧ w'.cell? ⟨rb, roff + rs.length * 7 + 5, none⟩ = some (.int .i64 x.o.wk) ∧ w'.cell? ⟨rb, roff + rs.length * 7 + 6, none⟩ = some (.int .i64 x.o.tm))) (by kernel_rfl) ⟨X12, A12, r0, r1, r2, r3, r4, r5, r6⟩ (fun hH => ?_)
            refine wpAnyH_take (i := 0) (v := ?_) rfl (by kernel_rfl) (by kernel_rfl) (by kernel_rfl) (fun _ _ _ h => h) (Or.inl ⟨by rfl, ?hzq1⟩) hH ?rzq1
            case hzq1 => (intro W' hSw; (try dsimp only at hSw); go_simp; try with_reducible rfl)
            walk_nrm
            refine wpAnyH_take (i := 1) (v := ?_) rfl (by kernel_rfl) (by kernel_rfl) (by kernel_rfl) (fun _ _ _ h => h) (Or.inl ⟨by rfl, ?hzq2⟩) hH ?rzq2
            case hzq2 => (intro W' hSw; (try dsimp only at hSw); go_simp; try with_reducible rfl)
            walk_nrm
            refine wpAnyH_take (i := 2) (v := ?_) rfl (by kernel_rfl) (by kernel_rfl) (by kernel_rfl) (fun _ _ _ h => h) (Or.inl ⟨by rfl, ?hzq3⟩) hH ?rzq3
            case hzq3 => (intro W' hSw; (try dsimp only at hSw); go_simp; try with_reducible rfl)
            walk_nrm
            refine wpAnyH_take (i := 3) (v := ?_) rfl (by kernel_rfl) (by kernel_rfl) (by kernel_rfl) (fun _ _ _ h => h) (Or.inl ⟨by rfl, ?hzq4⟩) hH ?rzq4
            case hzq4 => (intro W' hSw; (try dsimp only at hSw); go_simp; try with_reducible rfl)
            walk_nrm
            refine wpAnyH_take (i := 4) (v := ?_) rfl (by kernel_rfl) (by kernel_rfl) (by kernel_rfl) (fun _ _ _ h => h) (Or.inl ⟨by rfl, ?hzq5⟩) hH ?rzq5
            case hzq5 => (intro W' hSw; (try dsimp only at hSw); go_simp; try with_reducible rfl)
            walk_nrm
            refine wpAnyH_take (i := 5) (v := ?_) rfl (by kernel_rfl) (by kernel_rfl) (by kernel_rfl) (fun _ _ _ h => h) (Or.inl ⟨by rfl, ?hzq6⟩) hH ?rzq6
            case hzq6 => (intro W' hSw; (try dsimp only at hSw); obtain ⟨⟨p0, p1, p2, p3, p4, p5, p6, p7, p8⟩, s2, s3⟩ := hSw; go_simp; try with_reducible rfl)
            walk_nrm
            refine wpAnyH_take (i := 7) (v := ?_) rfl (by kernel_rfl) (by kernel_rfl) (by kernel_rfl) (fun _ _ _ h => h) (Or.inl ⟨by rfl, ?hzq7⟩) hH ?rzq7
            case hzq7 => (intro W' hSw; (try dsimp only at hSw); obtain ⟨s1, s2, s3⟩ := hSw; obtain ⟨y0, y1, y2, -, -, -⟩ := s2.three; go_simp; try with_reducible rfl)
            walk_nrm
            refine wpAnyH_ready (rs := [6]) (by kernel_rfl) (by simp) ?_
            refine AllReadyH.cons rfl (fun K hK => ?_) AllReadyH.nil
            rw [if_pos (by rfl)]
            go_simp
            refine (bdo_all w6.heap.size x.o (behindT rs) w12.drew B12 hIr).mono ?_
            rintro e w14 ⟨rfl, B14, g14⟩
            have C14 := (C12.same ((Chg.refl [] w12).drew)).turn (x := w6.heap.size) g14 hbb
            have X14 := (unhide HX0).chg (G1.trans C14.ch (by simp)) hbl
            have A14 := hH.2.1.chg g14 (by simp; omega)
            obtain ⟨n14, N14, hn14⟩ : ∃ n, Nod w14 (m.nb i) (m.tb i) m.db n ∧ n.e = s.d.ep := ⟨_, C14.nod i hi, by show (upN s.ns i (ordN s.d (s.ns i) x.o) i).e = s.d.ep; rw [upN_same]; exact hee.symm⟩
            have cr : ∀ jj, w14.cell? ⟨rb, jj, none⟩ = w12.drew.cell? ⟨rb, jj, none⟩ := fun jj => kCell g14 (by show rb < w12.heap.size; exact hrb) (by simp; omega)
            refine hK.out _ _ ⟨X14, A14, (cr _).trans hH.2.2.1, (cr _).trans hH.2.2.2.1, (cr _).trans hH.2.2.2.2.1, (cr _).trans hH.2.2.2.2.2.1, (cr _).trans hH.2.2.2.2.2.2.1, (cr _).trans hH.2.2.2.2.2.2.2.1, (cr _).trans hH.2.2.2.2.2.2.2.2⟩ (fun hH2 => ?_)
            clear hK K hH
            have hH := hH2
            clear hH2
            walk_nrm
            refine wpAnyH_take (i := 8) (v := .bool false) rfl (by kernel_rfl) (by kernel_rfl) (by kernel_rfl) (fun _ _ _ h => h) (Or.inl ⟨by rfl, ?hzq8⟩) hH ?rzq8
            case hzq8 => (intro W' hSw; (try dsimp only at hSw); go_simp; (try simp); try with_reducible rfl)
            walk_nrm
            refine wpAnyH_take (i := 9) (v := ?_) rfl (by kernel_rfl) (by kernel_rfl) (by kernel_rfl) (fun _ _ _ h => h) (Or.inl ⟨by rfl, ?hzq9⟩) hH ?rzq9
            case hzq9 => (intro W' hSw; (try dsimp only at hSw); go_simp; try with_reducible rfl)
            walk_nrm
            refine wpAnyH_take (i := 10) (v := ?_) rfl (by kernel_rfl) (by kernel_rfl) (by kernel_rfl) (fun _ _ _ h => h) (Or.inl ⟨by rfl, ?hzq10⟩) hH ?rzq10
            case hzq10 => (intro W' hSw; (try dsimp only at hSw); go_simp; try with_reducible rfl)
            walk_nrm
            refine wpAnyH_take (i := 11) (v := ?_) rfl (by kernel_rfl) (by kernel_rfl) (by kernel_rfl) (fun _ _ _ h => h) (Or.inl ⟨by rfl, ?hzq11⟩) hH ?rzq11
            case hzq11 => (intro W' hSw; (try dsimp only at hSw); go_simp; try with_reducible rfl)
            walk_nrm
            refine wpAnyH_take (i := 12) (v := ?_) rfl (by kernel_rfl) (by kernel_rfl) (by kernel_rfl) (fun _ _ _ h => h) (Or.inl ⟨by rfl, ?hzq12⟩) hH ?rzq12
            case hzq12 => (intro W' hSw; (try dsimp only at hSw); go_simp; try with_reducible rfl)
            walk_nrm
            refine wpAnyH_take (i := 13) (v := ?_) rfl (by kernel_rfl) (by kernel_rfl) (by kernel_rfl) (fun _ _ _ h => h) (Or.inl ⟨by rfl, ?hzq13⟩) hH ?rzq13
            case hzq13 => (intro W' hSw; (try dsimp only at hSw); go_simp; try with_reducible rfl)
            walk_nrm
            refine wpAnyH_take (i := 14) (v := ?_) rfl (by kernel_rfl) (by kernel_rfl) (by kernel_rfl) (fun _ _ _ h => h) (Or.inl ⟨by rfl, ?hzq14⟩) hH ?rzq14
            case hzq14 => (intro W' hSw; (try dsimp only at hSw); go_simp; try with_reducible rfl)
            walk_nrm
            refine wpAnyH_take (i := 15) (v := .bool false) rfl (by kernel_rfl) (by kernel_rfl) (by kernel_rfl) (fun _ _ _ h => h) (Or.inl ⟨by rfl, ?hzq15⟩) hH ?rzq15
            case hzq15 => (intro W' hSw; (try dsimp only at hSw); go_simp; (try simp); try with_reducible rfl)
            walk_nrm
            refine wpAnyH_take (i := 16) (v := ?_) rfl (by kernel_rfl) (by kernel_rfl) (by kernel_rfl) (fun _ _ _ h => h) (Or.inl ⟨by rfl, ?hzq16⟩) hH ?rzq16
            case hzq16 => (intro W' hSw; (try dsimp only at hSw); go_simp; try with_reducible rfl)
            walk_nrm
            refine wpAnyH_take (i := 17) (v := ?_) rfl (by kernel_rfl) (by kernel_rfl) (by kernel_rfl) (fun _ _ _ h => h) (Or.inl ⟨by rfl, ?hzq17⟩) hH ?rzq17
            case hzq17 => (intro W' hSw; (try dsimp only at hSw); go_simp; try with_reducible rfl)
            walk_nrm
            refine wpAnyH_take (i := 18) (v := ?_) rfl (by kernel_rfl) (by kernel_rfl) (by kernel_rfl) (fun _ _ _ h => h) (Or.inl ⟨by rfl, ?hzq18⟩) hH ?rzq18
            case hzq18 => (intro W' hSw; (try dsimp only at hSw); go_simp; try with_reducible rfl)
            walk_nrm
            refine wpAnyH_take (i := 19) (v := ?_) rfl (by kernel_rfl) (by kernel_rfl) (by kernel_rfl) (fun _ _ _ h => h) (Or.inl ⟨by rfl, ?hzq19⟩) hH ?rzq19
            case hzq19 => (intro W' hSw; (try dsimp only at hSw); go_simp; try with_reducible rfl)
            walk_nrm
            refine wpAnyH_take (i := 20) (v := ?_) rfl (by kernel_rfl) (by kernel_rfl) (by kernel_rfl) (fun _ _ _ h => h) (Or.inl ⟨by rfl, ?hzq20⟩) hH ?rzq20
            case hzq20 => (intro W' hSw; (try dsimp only at hSw); go_simp; try with_reducible rfl)
            walk_nrm
            refine wpAnyH_take (i := 21) (v := ?_) rfl (by kernel_rfl) (by kernel_rfl) (by kernel_rfl) (fun _ _ _ h => h) (Or.inl ⟨by rfl, ?hzq21⟩) hH ?rzq21
            case hzq21 => (intro W' hSw; (try dsimp only at hSw); go_simp; try with_reducible rfl)
            walk_nrm
            refine wpAnyH_take (i := 22) (v := ?_) rfl (by kernel_rfl) (by kernel_rfl) (by kernel_rfl) (fun _ _ _ h => h) (Or.inl ⟨by rfl, ?hzq22⟩) hH ?rzq22
            case hzq22 => (intro W' hSw; (try dsimp only at hSw); obtain ⟨s1, s2, c1, c2, c3, c4, c5, c6, c7⟩ := hSw; go_simp; try with_reducible rfl)
            walk_nrm
            refine wpAnyH_take (i := 23) (v := ?_) rfl (by kernel_rfl) (by kernel_rfl) (by kernel_rfl) (fun _ _ _ h => h) (Or.inl ⟨by rfl, ?hzq23⟩) hH ?rzq23
            case hzq23 => (intro W' hSw; (try dsimp only at hSw); go_simp; try with_reducible rfl)
            walk_nrm
            refine wpAnyH_take (i := 25) (v := ?_) rfl (by kernel_rfl) (by kernel_rfl) (by kernel_rfl) (fun _ _ _ h => h) (Or.inl ⟨by rfl, ?hzq24⟩) hH ?rzq24
            case hzq24 => (intro W' hSw; (try dsimp only at hSw); go_simp; try with_reducible rfl)
            walk_nrm
            refine wpAnyH_take (i := 26) (v := ?_) rfl (by kernel_rfl) (by kernel_rfl) (by kernel_rfl) (fun _ _ _ h => h) (Or.inl ⟨by rfl, ?hzq25⟩) hH ?rzq25
            case hzq25 => (intro W' hSw; (try dsimp only at hSw); go_simp; try with_reducible rfl)
            walk_nrm
            refine wpAnyH_take (i := 27) (v := ?_) rfl (by kernel_rfl) (by kernel_rfl) (by kernel_rfl) (fun _ _ _ h => h) (Or.inl ⟨by rfl, ?hzq26⟩) hH ?rzq26
            case hzq26 => (intro W' hSw; (try dsimp only at hSw); go_simp; try with_reducible rfl)
            walk_nrm
            refine wpAnyH_take (i := 28) (v := ?_) rfl (by kernel_rfl) (by kernel_rfl) (by kernel_rfl) (fun _ _ _ h => h) (Or.inl ⟨by rfl, ?hzq27⟩) hH ?rzq27
            case hzq27 => (intro W' hSw; (try dsimp only at hSw); go_simp; try with_reducible rfl)
            walk_nrm
            refine wpAnyH_take (i := 29) (v := ?_) rfl (by kernel_rfl) (by kernel_rfl) (by kernel_rfl) (fun _ _ _ h => h) (Or.inl ⟨by rfl, ?hzq28⟩) hH ?rzq28
            case hzq28 => (intro W' hSw; (try dsimp only at hSw); obtain ⟨⟨p0, p1, p2, p3, p4, p5, p6, p7, p8⟩, s2, s3⟩ := hSw; go_simp; try with_reducible rfl)
            walk_nrm
            refine wpAnyH_ready (rs := [24]) (by kernel_rfl) (by simp) ?_
            refine AllReadyH.cons rfl (fun K hK => ?_) AllReadyH.nil
            rw [if_pos (by rfl)]
            go_simp
            refine (nepoch_any (m.nb i) (m.tb i) m.db n14 _ N14).mono ?_
            rintro e w15 ⟨rfl, rfl⟩
            rw [hn14]
            refine hK.out _ _ hH (fun hH2 => ?_)
            clear hK K hH
            have hH := hH2
            clear hH2
            walk_nrm
            refine wpAnyH_take (i := 30) (v := ?_) rfl (by kernel_rfl) (by kernel_rfl) (by kernel_rfl) (fun _ _ _ h => h) (Or.inl ⟨by rfl, ?hzq29⟩) hH ?rzq29
            case hzq29 => (intro W' hSw; (try dsimp only at hSw); go_simp; try with_reducible rfl)
            walk_nrm
            refine wpAnyH_take (i := 31) (v := .bool false) rfl (by kernel_rfl) (by kernel_rfl) (by kernel_rfl) (fun _ _ _ h => h) (Or.inl ⟨by rfl, ?hzq30⟩) hH ?rzq30
            case hzq30 => (intro W' hSw; (try dsimp only at hSw); go_simp; (try simp); try with_reducible rfl)
            walk_nrm
            refine wpAnyH_take (i := 32) (v := ?_) rfl (by kernel_rfl) (by kernel_rfl) (by kernel_rfl) (fun _ _ _ h => h) (Or.inl ⟨by rfl, ?hzq31⟩) hH ?rzq31
            case hzq31 => (intro W' hSw; (try dsimp only at hSw); go_simp; try with_reducible rfl)
            walk_nrm
            refine wpAnyH_done (by kernel_rfl) ?_ _
            refine NoPanic.normal ?_
            go_wp2
            go_roundw
            case rel => exact ⟨k + 1, _, _, by omega, by go_num, C14, rfl, rfl, he⟩
            case measure => go_light; simp [intOf]; omega
          · obtain ⟨-, oa⟩ := ord_no hw
            have el : l' = s.d.l := by rw [← unhide HL, wrD_no hw]
            have hAe : A = ⟨wrC s.d (s.ns i) x.o 9, 0, 0⟩ := (unhide HA).symm.trans oa
            have hcb : (A.code != 0) = true := by rw [hAe]; simpa using hw
            obtain ⟨a12, c12, rfl, -, -, -⟩ := own_recs own12 rfl
            subst hAe
            dsimp only at *
            subst el
            clear own12
            go_wp2_with (go_at_call 17; refine (dbytes_any m.db s.d.ep v10 s.d.l _ _ D12).mono ?_; rintro e w13 ⟨v13, rfl, own13, g13⟩; obtain ⟨a13, c13, rfl, -, -⟩ := sl_byt (own_sl own13) okl; have C13 := C12.same g13; have A13 := A12.chg g13 (by simp); clear y0 y1 y2 lA12; obtain ⟨y0, y1, y2, -, -, -⟩ := A13.three; have lA13 := A13.lt; clear g13 own13)
            go_roundw
            case rel => exact ⟨k + 1, _, _, by omega, by go_num, C13, rfl, rfl, he⟩
            case measure => go_light; simp [intOf]; omega
      · have b1 : (x.d != 1) = true := by simpa using hx1
        clear hx1
        go_wp2_with (first
          | (go_at_call 20; refine (step_any w1 m s x _ (unhide HX) he).mono ?_; rintro e w3 ⟨bo, m', s', rfl, C3, e1, e2, e3, -⟩))
        go_roundw
        case rel => exact ⟨k + 1, m', s', by omega, by go_num, C3, e1, e2, e3⟩
        case measure => go_light; simp [intOf]; omega
    · have hki : ¬ (k : Int) < (len : Int) := by omega
      have GG := G1.trans C.ch (by simp)
      clear C
      go_wp2
      go_ret
      exact ⟨rfl, GG⟩

end Go.Proofs.Ytafbacijfiodhab

namespace Go.Proofs.Ytafbacijfiodhab
open Go.ChangeShapes Go.WideShapes Go.ChangeAt Go.RowKit

set_option maxRecDepth 100000 in
theorem answers_lifted (os : Os) (started : os.Started) (H : Type) (enc : TypeId × Value → H) :
    ReturnsInHanded {} Try.checked os 9 .any (Rows.nodeAnswersSpec.pre6 enc Try.prog Try.f9 Rows.nodeAnswersRow.domain false) (Rows.nodeAnswersSpec.post enc Try.prog Try.f9 false true false false) := by
  refine returnsInHanded_of_change (C := Try.checked) ownK started (by kernel_rfl) Try.func9
    (ChangeSpec.witness6 (enc := enc) (C := Try.checked) false ⟨#[], #[.slice none 0 0, .slice none 0 0], []⟩ 8 (by kernel_rfl) (by kernel_rfl) (by kernel_rfl) (by kernel_rfl)) ?_
  intro W base args ds gs before hval0 hW hcnd _
  have hval : ∀ (j : Nat) t v, Try.f9.params[j]? = some t → args[j]? = some v → Value.okWide Try.prog W .any base t v := hval0
  have hW' := hW
  obtain ⟨p, q, hA0, hV, rfl, hfz, hnd⟩ := hW
  have hA : DataW.TrodAll enc Try.prog W 0 (fun _ => true) true Try.f9.params.toList args.toList ds p := hA0
  rw [Try.params9] at hA hval
  obtain ⟨v0, vs0, d0, ds0, p0, q0, hargs, rfl, rfl, h0, r0⟩ := trodAll_cons hA
  obtain ⟨v1, vs1, d1, ds1, p1, q1, rfl, rfl, rfl, h1, r1⟩ := trodAll_cons r0
  obtain ⟨rfl, rfl, rfl⟩ := trodAll_nil r1
  obtain rfl : args = #[v0, v1] := by cases args; simp_all
  obtain ⟨rfl, rfl⟩ := trodVars_none hV
  obtain ⟨a0, len0, cap0, rfl⟩ := okWide_slice Try.underlying27 (hval 0 27 v0 rfl rfl)
  have k0 := h0
  have lt0 : ∀ x ∈ p0, x.block < W.heap.size := by obtain ⟨m, hm⟩ := k0; exact DataW.trod_lt m _ _ _ hm
  obtain ⟨z0, w0, y0⟩ : ∃ l, Sl W (.slice a0 len0 cap0) l ∧ okB l := by
    obtain ⟨fuel, hf⟩ := h0
    have hf2 : DataW.trod enc Try.prog W 0 (fun _ => true) true fuel 27 [.slice a0 len0 cap0] = some (d0, p0) := by simpa [Value.cells] using hf
    obtain ⟨v9, l9, e9, h9, g9⟩ := sl_of_trod hf2
    simp at e9
    subst e9
    exact ⟨l9, h9, g9⟩
  obtain ⟨a1, len1, cap1, rfl⟩ := okWide_slice Try.underlying38 (hval 1 38 v1 rfl rfl)
  have k1 := h1
  have lt1 : ∀ x ∈ p1, x.block < W.heap.size := by obtain ⟨m, hm⟩ := k1; exact DataW.trod_lt m _ _ _ hm
  obtain ⟨z1, w1⟩ : ∃ fs, Nss W a1 len1 fs := by
    obtain ⟨fuel, hf⟩ := h1
    exact nss_of_trod (by simpa [Value.cells] using hf)
  clear hA0 hval0
  refine (answers_any (.slice a0 len0 cap0) z0 a1 len1 cap1 z1 W w0 y0 w1).mono fun e W' ⟨he, hch⟩ => ?_
  have bel := hch.below
  subst he
  exact ⟨_, rfl, _, _, _, [], _, [], hW', trodAll_mk1 (shut_bool Try.underlying4 _), (trodAll_cons_mk (Below.trod laidOutK (by kernel_rfl) (of_decide_eq_true (by kernel_rfl)) k0 bel lt0) (trodAll_cons_mk (Below.trod laidOutK (by kernel_rfl) (of_decide_eq_true (by kernel_rfl)) k1 bel lt1) trodAll_mk0)), rfl, bel.frame _, fun h => by cases h⟩

theorem answers_holds : Rows.NodeAnswersSaid :=
  OpenClaim.holds_of_wide 9 Try.f9 rfl rfl rfl rfl rfl rfl rfl ⟨rfl, rfl, rfl, rfl, rfl⟩ rfl rfl rfl rfl rfl (by kernel_rfl) Try.func9 (by kernel_rfl)
    (of_decide_eq_true (by kernel_rfl)) (by unfold Func.isWrapper; first | (rw [if_pos (by decide +kernel)]; kernel_rfl) | (rw [if_neg (by decide +kernel)]; exact ⟨rfl, rfl⟩))
    (fun os started H enc _ => answers_lifted os started H enc)

end Go.Proofs.Ytafbacijfiodhab

