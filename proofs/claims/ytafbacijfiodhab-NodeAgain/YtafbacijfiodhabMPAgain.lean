/- For all bytes and all steps the law NodeAgain returns true, and leaves them as they were; no condition. -/
import Derived.Test.YtafbacijfiodhabMgOa
import Derived.Test.YtafbacijfiodhabMgKFrame
namespace Go.Proofs.Ytafbacijfiodhab
open Go.RowKit

theorem recs_until {w : World} {base : Nat} {e : TypeId} {a : Option Addr} {c : Nat} {l : List Rc} (h : w.ownsRow base e 7 (.slice a l.length c) l.length (cellsR l)) (ep : Int) : Recs w a (untilR l ep).length (atR (untilR l ep)) := by
  have e1 := untilR_pre l ep
  have e2 := untilR_len l ep
  generalize untilR l ep = u at *
  have R := ((Recs.own h rfl).le e2)
  refine R.congr (fun i hi => ?_)
  rw [e1, atR_take _ _ _ hi]

set_option maxRecDepth 100000 in
set_option maxHeartbeats 8000000 in
theorem again_any (vb : Value) (bs : List Int) (a : Option Addr) (len cap : Nat) (fs : Nat → Ns) (W : World) (hb : Sl W vb bs) (hk : okB bs) (h : Nss W a len fs) :
    Calls Try.prog 7 #[vb, .slice a len cap] W fun e w' => e = .returned (.bool true) ∧ Chg [] W w' := by
  have HB := hide hb
  have HK := hide hk
  have HH := hide h
  obtain ⟨ab, cab, rfl⟩ := sl_slice hb
  clear hb hk h
  by_cases hbig : 1400 < bs.length
  · have d1 : decide ((1400 : Int) < (bs.length : Int)) = true := by simp; omega
    go_enter Try.func7, Try.ntmps7
    go_wp2_with (go_at_call 18; refine (nbegun_any _).mono ?_; rintro e w1 ⟨rfl, G1⟩)
    go_ret
    exact ⟨rfl, G1⟩
  have d1 : decide ((1400 : Int) < (bs.length : Int)) = false := by simp; omega
  by_cases hbig2 : 200 < len
  · have d2 : decide ((200 : Int) < (len : Int)) = true := by simp; omega
    go_enter Try.func7, Try.ntmps7
    go_wp2_with (go_at_call 18; refine (nbegun_any _).mono ?_; rintro e w1 ⟨rfl, G1⟩)
    go_ret
    exact ⟨rfl, G1⟩
  have d2 : decide ((200 : Int) < (len : Int)) = false := by simp; omega
  go_enter Try.func7, Try.ntmps7
  go_wp2_with (first
    | (go_at_call 18; refine (nbegun_any _).mono ?_; rintro e w1 ⟨rfl, G1⟩)
    | (go_at_call 19; refine (newcrew_any _ bs _ ((unhide HB).chg G1 (by simp)) (unhide HK) (by omega)).mono ?_; rintro e w2 ⟨cb, db, pb, v, u, rfl, h1, h2, B, D, P, A, hp, c1, c2, g2⟩))
  obtain ⟨own, C0⟩ := crew_start h1 h2 B D P A hp c1 c2 g2
  have HC0 := hide C0
  clear h1 h2 B D P A hp c1 c2 g2 C0
  go_loopw [6] (fun i wr => ∃ (k : Nat) (m : Mm) (s : St), k ≤ len ∧ i = .int .i64 k ∧ Crw w1 wr m s ∧ m.cb = cb ∧ m.db = db ∧ s.p.ep = s.d.ep) (fun i _ => len - (intOf i).toNat)
  case atStart => exact ⟨0, _, _, by omega, rfl, unhide HC0, rfl, rfl, rfl⟩
  case round =>
    obtain ⟨k, m, s, hkl, rfl, C, rfl, rfl, he⟩ := hrel
    clear HC0
    by_cases hlt : k < len
    · have hki : (k : Int) < (len : Int) := by omega
      have hk0 : (0 : Int) ≤ (k : Int) := by omega
      rcases unhide HH with h0 | ⟨bl, off, rfl, hbl, hO⟩
      · omega
      have GW := G1.trans C.ch (by simp)
      obtain ⟨p0, p1, p2, p3, p4, p5, p6, p7, p8⟩ := (hO k hlt).chg GW hbl
      clear hO
      have HX := hide C
      clear C
      go_wp2_with (first
        | (go_at_call 20; refine (step_any w1 m s (fs k) _ (unhide HX) he).mono ?_; rintro e w3 ⟨bo, m', s', rfl, C3, e1, e2, e3, -⟩))
      go_roundw
      case rel => exact ⟨k + 1, m', s', by omega, by go_num, C3, e1, e2, e3⟩
      case measure => go_light; simp [intOf]; omega
    · have hki : ¬ (k : Int) < (len : Int) := by omega
      have c0 : wr.cell? ⟨m.cb, 0, none⟩ = some (.pointer (some ⟨m.db, 0, none⟩)) := C.blk.cell 0
      have lcb := C.blk.lt
      have HX := hide C
      have q1 := C.pd.e1
      have q2 := C.pd.e2
      have hok := hide C.dsk.ok
      have hfew := C.dsk.few
      obtain ⟨d, hd⟩ : ∃ d, s.d = d := ⟨_, rfl⟩
      have HD := hide hd
      rw [hd] at q1 q2 hok hfew
      clear C HB HK HH hd
      have HQ : Hid ((allR d.l.length (getB d.l)).length ≤ 4000) := hide (by have := (recsL_back (unhide hok)).2.1; unfold recsL at this; omega)
      have Dd : Dsk 79 5 wr.drew w1.heap.size m.db d.ep m.v d.l := by rw [← unhide HD]; exact (unhide HX).dsk.drew
      have Cd : Crw w1 wr.drew m s := (unhide HX).same ((Chg.refl [] wr).drew)
      have HDd := hide Dd
      have HCd := hide Cd
      clear Dd Cd
      go_wp2_with fail
      go_region_held3 (fun w' => w'.cell? ⟨m.cb, 0, none⟩ = some (.pointer (some ⟨m.db, 0, none⟩))) (first | exact c0 | exact k5 | exact k6) (first
        | (go_at_call 17; refine (dbytes_any m.db d.ep m.v d.l _ _ (unhide HDd)).mono ?_; rintro e w5 ⟨v5, rfl, own5, g5⟩; obtain ⟨a5, c5, rfl, hc5, hB5⟩ := sl_byt (own_sl own5) (unhide hok); have C5 := (unhide HCd).same g5; have k5 : w5.cell? ⟨m.cb, 0, none⟩ = some (.pointer (some ⟨m.db, 0, none⟩)) := C5.blk.cell 0; have HC5 := hide C5; have LF5 := hide C5.dsk.fp_lt; clear own5 g5 C5)
        | (go_at_call 28; refine (all_any a5 _ c5 (getB d.l) _ (by omega) hc5 hB5).mono ?_; rintro e w6 ⟨v6, rfl, own6, g6⟩; obtain ⟨a3, c3, rfl, hc3, -, R3⟩ := own_recs own6 rfl; have C6 := (unhide HC5).same g6; have k6 : w6.cell? ⟨m.cb, 0, none⟩ = some (.pointer (some ⟨m.db, 0, none⟩)) := C6.blk.cell 0; have HC6 := hide C6; have HO6 := hide own6; have HR3 := hide R3; have RG6 := hide (fun x (hx : (Value.slice a3 (allR d.l.length (getB d.l)).length c3).ownBlock = some x) => (own6.lt x hx).1); clear own6 g6 C6 R3)
        | (go_at_call 15; refine (depoch_any m.db d.ep m.v d.l w1.heap.size _ (by rw [← unhide HD]; exact (unhide HC6).dsk)).mono ?_; rintro e w6 ⟨rfl, rfl⟩)
        | (go_at_call 27; refine (until_any a3 c3 (allR d.l.length (getB d.l)) d.ep _ hc3 (unhide HQ) (unhide HR3)).mono ?_; rintro e w6 ⟨rfl, rfl⟩))
      have hun : untilR (allR d.l.length (getB d.l)) d.ep = keptL d.l d.ep := rfl
      obtain ⟨rs, hrs⟩ : ∃ rs, keptL d.l d.ep = rs := ⟨_, rfl⟩
      rw [hun, hrs]
      have HRS := hide hrs
      have hg : goodF 0 rs := hrs ▸ keptL_good (unhide hok) d.ep
      have hle : ∀ r ∈ rs, r.ep ≤ d.ep + 1 := fun r hr => by rw [← hrs] at hr; have := untilR_le r hr; omega
      clear hun hrs HQ HDd HCd HC5 k5 k6 HR3 hc5 hB5 c0 lcb HX
      go_wp2_with fail
      go_loopw [8, 9] (fun lst i w' => ∃ j : Nat, j ≤ s.k ∧ i = .int .i64 j ∧ Crw w1 w' m s ∧ Chg [] w6 w' ∧ (lst = .pointer none ∨ ∃ q, q < s.k ∧ lst = .pointer (some ⟨m.nb q, 0, none⟩) ∧ (s.ns q).e = d.ep ∧ (s.ns q).dn = false)) (fun _ i _ => s.k - (intOf i).toNat)
      case atStart => exact ⟨0, by omega, rfl, unhide HC6, Chg.refl _ _, .inl rfl⟩
      case round =>
        obtain ⟨j, hj, rfl, C, g, hl⟩ := hrel
        by_cases hjk : j < s.k
        · have hji : (j : Int) < (s.k : Int) := by omega
          have hj0 : (0 : Int) ≤ (j : Int) := by omega
          obtain ⟨gn, cn, en, hcn, ogn, lgn, wgn, cgn⟩ := C.rcell hjk
          have c2 : wr.cell? ⟨m.cb, 2, none⟩ = some (.slice (some ⟨gn, 0, none⟩) s.k cn) := (C.blk.cell 2).trans (congrArg some en)
          have c0 : wr.cell? ⟨m.cb, 0, none⟩ = some (.pointer (some ⟨m.db, 0, none⟩)) := C.blk.cell 0
          have lcb := C.blk.lt
          have N := C.nod j hjk
          have hk8 := C.few
          have DD : Dsk 79 5 wr w1.heap.size m.db d.ep m.v d.l := by rw [← unhide HD]; exact C.dsk
          have HN := hide N
          have HDD := hide DD
          have HC := hide C
          have HL := hide hl
          clear C N DD en hcn ogn wgn hl
          have HDN : Hid (∀ n, Calls Try.prog 25 #[.pointer (some ⟨m.nb j, 0, none⟩)] (wr.drewN n) fun e w' => e = .returned (.bool (s.ns j).dn) ∧ w' = wr.drewN n) := hide (fun n => ndown_any (m.nb j) (m.tb j) m.db (s.ns j) _ ⟨(unhide HN).1, (unhide HN).2⟩)
          by_cases h1 : (s.ns j).e = d.ep
          · have b1 : ((s.ns j).e == d.ep) = true := by simpa using h1
            cases hdn : (s.ns j).dn
            all_goals rw [hdn] at HDN
            · go_wp2_with fail
              go_quiet ((first
                | (go_at_call 26; exact Calls.quiet_of_same (nepoch_any (m.nb j) (m.tb j) m.db (s.ns j) _ ⟨(unhide HN).1, (unhide HN).2⟩))
                | (go_at_call 15; exact Calls.quiet_of_same (depoch_any m.db d.ep m.v d.l w1.heap.size _ ((unhide HDD).chg ((Chg.refl [] _).drewN _) (by simp))))
                | (go_at_call 25; exact Calls.quiet_of_same (unhide HDN _))))
              go_wp2
              go_roundw
              case rel => exact ⟨j + 1, by omega, by go_num, (unhide HC).same ((Chg.refl [] _).drewN nq), g.drewN _, .inr ⟨j, hjk, rfl, h1, hdn⟩⟩
              case measure => go_light; simp [intOf]; omega
            · go_wp2_with fail
              go_quiet ((first
                | (go_at_call 26; exact Calls.quiet_of_same (nepoch_any (m.nb j) (m.tb j) m.db (s.ns j) _ ⟨(unhide HN).1, (unhide HN).2⟩))
                | (go_at_call 15; exact Calls.quiet_of_same (depoch_any m.db d.ep m.v d.l w1.heap.size _ ((unhide HDD).chg ((Chg.refl [] _).drewN _) (by simp))))
                | (go_at_call 25; exact Calls.quiet_of_same (unhide HDN _))))
              go_wp2
              go_roundw
              case rel => exact ⟨j + 1, by omega, by go_num, (unhide HC).same ((Chg.refl [] _).drewN nq), g.drewN _, unhide HL⟩
              case measure => go_light; simp [intOf]; omega
          · have b1 : ((s.ns j).e == d.ep) = false := by simpa using h1
            go_wp2_with fail
            go_quiet ((first
              | (go_at_call 26; exact Calls.quiet_of_same (nepoch_any (m.nb j) (m.tb j) m.db (s.ns j) _ ⟨(unhide HN).1, (unhide HN).2⟩))
              | (go_at_call 15; exact Calls.quiet_of_same (depoch_any m.db d.ep m.v d.l w1.heap.size _ ((unhide HDD).chg ((Chg.refl [] _).drewN _) (by simp))))
              | (go_at_call 25; exact Calls.quiet_of_same (unhide HDN _))))
            go_wp2
            go_roundw
            case rel => exact ⟨j + 1, by omega, by go_num, (unhide HC).same ((Chg.refl [] _).drewN nq), g.drewN _, unhide HL⟩
            case measure => go_light; simp [intOf]; omega
        · have hji : ¬ (j : Int) < (s.k : Int) := by omega
          obtain ⟨an, cn, ern, hcn, hrn⟩ := row_form C.rown
          have c2 : wr.cell? ⟨m.cb, 2, none⟩ = some (.slice an s.k cn) := (C.blk.cell 2).trans (congrArg some ern)
          have c0 : wr.cell? ⟨m.cb, 0, none⟩ = some (.pointer (some ⟨m.db, 0, none⟩)) := C.blk.cell 0
          have lcb := C.blk.lt
          have DD : Dsk 79 5 wr w1.heap.size m.db d.ep m.v d.l := by rw [← unhide HD]; exact C.dsk
          have hdb : w1.heap.size ≤ m.db := C.base (by have := C.od _ (mem_fp.2 (.inl rfl)); omega)
          have lfb := DD.fp_ge hdb
          have GW : Chg [] W wr := G1.trans C.ch (by simp)
          have zb := C.ch.size
          have zb1 := G1.size
          have hcb : m.cb ∉ fp m.db m.v := fun hf => by have := C.od _ hf; have := C.ocb; omega
          have OWr := hide (own_keep (unhide HO6) g (by simp))
          have ct := C.blk
          obtain ⟨rn, hrn'⟩ : ∃ x, m.rn = x := ⟨_, rfl⟩
          obtain ⟨rv, hrv'⟩ : ∃ x, m.rv = x := ⟨_, rfl⟩
          rw [hrn', hrv'] at ct
          by_cases hfull : d.ep = 100
          · go_wp2_with fail
            refine (nopen_full m.db w1.heap.size d m.v _ DD hfull).mono ?_
            rintro e w10 ⟨rfl, D10, g10⟩
            go_wp2
            go_ret
            exact ⟨rfl, GW.trans g10 (fun x hx => .inr (by simp at hx; subst hx; omega))⟩
          have hlt1 : d.ep < 100 := by omega
          have lrow : ∀ x, (Value.slice a3 (allR d.l.length (getB d.l)).length c3).ownBlock = some x → x ∉ fp m.db m.v := fun x hx hf => by have h7 := unhide RG6 x hx; have h8 := unhide LF5 x hf; omega
          rcases hl with rfl | ⟨q, hq, rfl, hqe, hqd⟩
          · clear C g ern hrn hrn' hrv' HC6
            go_wp2_with fail
            refine (nopen_more m.db w1.heap.size d m.v _ DD (by omega) hlt1).mono ?_
            rintro e w10 ⟨nb, tb, v10, rfl, hn10, ht10, N10, D10, f10, t10, g10, n10⟩
            replace ct := ct.chg g10 hcb
            have OW10 := hide (own_keep (unhide OWr) g10 (fun x hx e => lrow x e hx))
            have G10 := GW.trans g10 (fun x hx => .inr (by have := lfb x hx; omega))
            have z10 := g10.size
            unfold openN at N10
            unfold openD at D10
            dsimp only at N10 D10
            rw [unhide HRS] at N10 D10
            have hfew2 := D10.few
            rw [bytesL_len] at hfew2
            have hrec : recsL (bytesL rs) = rs := recsL_bytes hg
            clear g10 n10 DD c0 c2 GW OWr lrow lfb hcb f10 t10
            have c0 : w10.cell? ⟨m.cb, 0, none⟩ = some (.pointer (some ⟨m.db, 0, none⟩)) := ct.cell 0
            have lcb10 : m.cb < w10.heap.size := by omega
            go_wp2_with fail
            refine (dbytes_any m.db (d.ep + 1) v10 (bytesL rs) _ _ D10).mono ?_
            rintro e w11 ⟨v11, rfl, own11, g11⟩
            obtain ⟨a11, c11, rfl, hc11, hB11⟩ := sl_byt (own_sl own11) D10.ok
            replace ct := ct.chg g11 (by simp)
            replace N10 := N10.chg g11 (by simp) (by simp)
            replace D10 := D10.chg g11 (by simp)
            have OW11 := hide (own_keep (unhide OW10) g11 (by simp))
            have G11 := G10.trans g11 (by simp)
            have z11 := g11.size
            clear g11 own11 G10 OW10 c0
            go_wp2_with fail
            refine (all_any a11 _ c11 (getB (bytesL rs)) _ (by rw [bytesL_len]; omega) hc11 hB11).mono ?_
            rintro e w12 ⟨v12, rfl, own12, g12⟩
            have hall : allR (bytesL rs).length (getB (bytesL rs)) = rs := hrec
            rw [hall] at own12
            obtain ⟨a12, c12, rfl, hc12, -, R12⟩ := own_recs own12 rfl
            replace ct := ct.chg g12 (by simp)
            replace N10 := N10.chg g12 (by simp) (by simp)
            replace D10 := D10.chg g12 (by simp)
            have OW12 := own_keep (unhide OW11) g12 (by simp)
            have R3 := recs_until OW12 d.ep
            have hun : untilR (allR d.l.length (getB d.l)) d.ep = rs := unhide HRS
            rw [hun] at R3
            have G12 := G11.trans g12 (by simp)
            have z12 := g12.size
            clear g12 own12 hB11 hc11 G11 OW11 OW12
            go_wp2_with fail
            refine (same_any a12 a3 rs.length c12 c3 (atR rs) _ (by omega) R12 R3).mono ?_
            rintro e w13 ⟨rfl, dd, rfl⟩
            have g13 : Chg [] w12 (w12.drewN dd) := (Chg.refl _ _).drewN dd
            replace ct := ct.chg g13 (by simp)
            replace N10 := N10.chg g13 (by simp) (by simp)
            replace D10 := D10.chg g13 (by simp)
            replace R3 := R3.chg g13
            have G13 := G12.trans g13 (by simp)
            have z13 := g13.size
            clear R12 G12 g13
            have c0 : (w12.drewN dd).cell? ⟨m.cb, 0, none⟩ = some (.pointer (some ⟨m.db, 0, none⟩)) := ct.cell 0
            generalize hW13 : w12.drewN dd = w13 at *
            clear hW13
            have lcb13 : m.cb < w13.heap.size := by omega
            go_wp2_with fail
            refine (dbytes_any m.db (d.ep + 1) v10 (bytesL rs) _ _ D10).mono ?_
            rintro e w14 ⟨v14, rfl, own14, g14⟩
            obtain ⟨a14, c14, rfl, -, -⟩ := sl_byt (own_sl own14) D10.ok
            replace N10 := N10.chg g14 (by simp) (by simp)
            replace R3 := R3.chg g14
            have G14 := G13.trans g14 (by simp)
            have z14 := g14.size
            have h9 : (((bytesL rs).length : Nat) : Int) = 9 * (rs.length : Int) := by rw [bytesL_len]; omega
            have h9b : ((((bytesL rs).length : Nat) : Int) != 9 * (rs.length : Int)) = false := by rw [h9]; simp
            clear g14 own14 G13 D10 ct c0
            go_wp2_with fail
            refine (behind_any a3 rs.length c3 rs _ rfl (by omega) R3).mono ?_
            rintro e w15 ⟨rfl, B15, g15⟩
            replace N10 := N10.chg g15 (by simp) (by simp)
            have G15 := G14.trans g15 (by simp)
            clear g15 R3 G14 h9 h9b
            go_wp2_with fail
            go_loopw [13] (fun i wr => ∃ j : Nat, j ≤ 6 ∧ i = .int .i64 j ∧ Nod wr nb tb m.db ⟨behindT rs, d.ep + 1, false⟩ ∧ Has 74 wr w14.heap.size (behindT rs) ∧ Chg [] W wr) (fun i _ => 6 - (intOf i).toNat)
            case atStart => exact ⟨0, by omega, rfl, N10, B15, G15⟩
            case round =>
              clear N10 B15 G15
              obtain ⟨j6, hj6, rfl, N, B, GG⟩ := hrel
              generalize behindT rs = T at *
              by_cases hj7 : j6 < 6
              · have hji6 : decide ((j6 : Int) < 6) = true := by simp; omega
                have N2 := (show Nod wr.drew nb tb m.db ⟨T, d.ep + 1, false⟩ from ⟨N.1, N.2⟩)
                have B2 : Has 74 wr.drew w14.heap.size T := B
                have G2 := GG.drew
                skip
                go_wp2_with fail
                refine wp_region_noPanic ?_
                refine wp_region_held_drew (S := (fun W => W.cell? ⟨nb, 0, none⟩ = some (.pointer (some ⟨tb, 0, none⟩)))) (by kernel_rfl) (N2.1.cell 0) (fun hH => ?_)
                refine wpAnyH_take (i := 0) (v := ?_) rfl (by kernel_rfl) (by kernel_rfl) (by kernel_rfl) (fun _ _ _ h => h) (Or.inl ⟨by rfl, ?hzq1⟩) hH ?rzq1
                case hzq1 => (intro W' hSw; (try dsimp only at hSw); go_simp; try with_reducible rfl)
                walk_nrm
                refine wpAnyH_take (i := 1) (v := ?_) rfl (by kernel_rfl) (by kernel_rfl) (by kernel_rfl) (fun _ _ _ h => h) (Or.inl ⟨by rfl, ?hzq2⟩) hH ?rzq2
                case hzq2 => (intro W' hSw; (try dsimp only at hSw); go_simp; try with_reducible rfl)
                walk_nrm
                refine wpAnyH_take (i := 2) (v := ?_) rfl (by kernel_rfl) (by kernel_rfl) (by kernel_rfl) (fun _ _ _ h => h) (Or.inl ⟨by rfl, ?hzq3⟩) hH ?rzq3
                case hzq3 => (intro W' hSw; (try dsimp only at hSw); go_simp; try with_reducible rfl)
                walk_nrm
                refine wpAnyH_take (i := 3) (v := ?_) rfl (by kernel_rfl) (by kernel_rfl) (by kernel_rfl) (fun _ _ _ h => h) (Or.inl ⟨by rfl, ?hzq4⟩) hH ?rzq4
                case hzq4 => (intro W' hSw; (try dsimp only at hSw); go_simp; try with_reducible rfl)
                walk_nrm
                refine wpAnyH_take (i := 4) (v := ?_) rfl (by kernel_rfl) (by kernel_rfl) (by kernel_rfl) (fun _ _ _ h => h) (Or.inl ⟨by rfl, ?hzq5⟩) hH ?rzq5
                case hzq5 => (intro W' hSw; (try dsimp only at hSw); go_simp; try with_reducible rfl)
                walk_nrm
                refine wpAnyH_take (i := 6) (v := ?_) rfl (by kernel_rfl) (by kernel_rfl) (by kernel_rfl) (fun _ _ _ h => h) (Or.inl ⟨by rfl, ?hzq6⟩) hH ?rzq6
                case hzq6 => (intro W' hSw; (try dsimp only at hSw); go_simp; try with_reducible rfl)
                walk_nrm
                refine wpAnyH_take (i := 7) (v := ?_) rfl (by kernel_rfl) (by kernel_rfl) (by kernel_rfl) (fun _ _ _ h => h) (Or.inl ⟨by rfl, ?hzq7⟩) hH ?rzq7
                case hzq7 => (intro W' hSw; (try dsimp only at hSw); go_simp; try with_reducible rfl)
                walk_nrm
                refine wpAnyH_ready (rs := [5]) (by kernel_rfl) (by simp) ?_
                refine AllReadyH.cons rfl (fun K hK => ?_) AllReadyH.nil
                rw [if_pos (by rfl)]
                go_simp
                refine (job_all tb j6 T _ N2.2).mono ?_
                rintro e wa ⟨rfl, ga⟩
                have Na := N2.chg ga (by simp) (by simp)
                have Ba := B2.chg ga (by simp)
                have Ga := G2.trans ga (by simp)
                clear ga
                refine hK.out _ _ (Na.1.cell 0) (fun hH2 => ?_)
                clear hK K hH
                have hH := hH2
                clear hH2
                walk_nrm
                refine wpAnyH_ready (rs := [8]) (by kernel_rfl) (by simp) ?_
                refine AllReadyH.cons rfl (fun K hK => ?_) AllReadyH.nil
                rw [if_pos (by rfl)]
                go_simp
                refine (bjob_all w14.heap.size j6 T _ Ba).mono ?_
                rintro e wb ⟨rfl, gb⟩
                have Nb := Na.chg gb (by simp) (by simp)
                have Bb := Ba.chg gb (by simp)
                have Gb := Ga.trans gb (by simp)
                clear gb
                refine hK.out _ _ (Nb.1.cell 0) (fun hH2 => ?_)
                clear hK K hH
                have hH := hH2
                clear hH2
                walk_nrm
                refine wpAnyH_take (i := 9) (v := .bool false) rfl (by kernel_rfl) (by kernel_rfl) (by kernel_rfl) (fun _ _ _ h => h) (Or.inl ⟨by rfl, ?hzq8⟩) hH ?rzq8
                case hzq8 => (intro W' hSw; (try dsimp only at hSw); go_simp; (try simp); try with_reducible rfl)
                walk_nrm
                refine wpAnyH_take (i := 10) (v := ?_) rfl (by kernel_rfl) (by kernel_rfl) (by kernel_rfl) (fun _ _ _ h => h) (Or.inl ⟨by rfl, ?hzq9⟩) hH ?rzq9
                case hzq9 => (intro W' hSw; (try dsimp only at hSw); go_simp; try with_reducible rfl)
                walk_nrm
                refine wpAnyH_take (i := 11) (v := ?_) rfl (by kernel_rfl) (by kernel_rfl) (by kernel_rfl) (fun _ _ _ h => h) (Or.inl ⟨by rfl, ?hzq10⟩) hH ?rzq10
                case hzq10 => (intro W' hSw; (try dsimp only at hSw); go_simp; try with_reducible rfl)
                walk_nrm
                refine wpAnyH_take (i := 12) (v := ?_) rfl (by kernel_rfl) (by kernel_rfl) (by kernel_rfl) (fun _ _ _ h => h) (Or.inl ⟨by rfl, ?hzq11⟩) hH ?rzq11
                case hzq11 => (intro W' hSw; (try dsimp only at hSw); go_simp; try with_reducible rfl)
                walk_nrm
                refine wpAnyH_take (i := 13) (v := ?_) rfl (by kernel_rfl) (by kernel_rfl) (by kernel_rfl) (fun _ _ _ h => h) (Or.inl ⟨by rfl, ?hzq12⟩) hH ?rzq12
                case hzq12 => (intro W' hSw; (try dsimp only at hSw); go_simp; try with_reducible rfl)
                walk_nrm
                refine wpAnyH_take (i := 14) (v := _) rfl (by kernel_rfl) (by kernel_rfl) (by kernel_rfl) (fun _ _ _ h => h) (Or.inr ⟨by rfl, rfl⟩) hH ?_
                walk_nrm
                refine wpAnyH_take (i := 15) (v := _) rfl (by kernel_rfl) (by kernel_rfl) (by kernel_rfl) (fun _ _ _ h => h) (Or.inr ⟨by rfl, rfl⟩) hH ?_
                walk_nrm
                refine wpAnyH_take (i := 16) (v := _) rfl (by kernel_rfl) (by kernel_rfl) (by kernel_rfl) (fun _ _ _ h => h) (Or.inr ⟨by rfl, rfl⟩) hH ?_
                walk_nrm
                refine wpAnyH_take (i := 17) (v := _) rfl (by kernel_rfl) (by kernel_rfl) (by kernel_rfl) (fun _ _ _ h => h) (Or.inr ⟨by rfl, rfl⟩) hH ?_
                walk_nrm
                refine wpAnyH_take (i := 18) (v := _) rfl (by kernel_rfl) (by kernel_rfl) (by kernel_rfl) (fun _ _ _ h => h) (Or.inr ⟨by rfl, rfl⟩) hH ?_
                walk_nrm
                refine wpAnyH_take (i := 19) (v := _) rfl (by kernel_rfl) (by kernel_rfl) (by kernel_rfl) (fun _ _ _ h => h) (Or.inr ⟨by rfl, rfl⟩) hH ?_
                walk_nrm
                refine wpAnyH_take (i := 20) (v := _) rfl (by kernel_rfl) (by kernel_rfl) (by kernel_rfl) (fun _ _ _ h => h) (Or.inr ⟨by rfl, rfl⟩) hH ?_
                walk_nrm
                refine wpAnyH_take (i := 21) (v := _) rfl (by kernel_rfl) (by kernel_rfl) (by kernel_rfl) (fun _ _ _ h => h) (Or.inr ⟨by rfl, rfl⟩) hH ?_
                walk_nrm
                refine wpAnyH_take (i := 22) (v := _) rfl (by kernel_rfl) (by kernel_rfl) (by kernel_rfl) (fun _ _ _ h => h) (Or.inr ⟨by rfl, rfl⟩) hH ?_
                walk_nrm
                refine wpAnyH_take (i := 23) (v := _) rfl (by kernel_rfl) (by kernel_rfl) (by kernel_rfl) (fun _ _ _ h => h) (Or.inr ⟨by rfl, rfl⟩) hH ?_
                walk_nrm
                refine wpAnyH_take (i := 24) (v := _) rfl (by kernel_rfl) (by kernel_rfl) (by kernel_rfl) (fun _ _ _ h => h) (Or.inr ⟨by rfl, rfl⟩) hH ?_
                walk_nrm
                refine wpAnyH_take (i := 25) (v := _) rfl (by kernel_rfl) (by kernel_rfl) (by kernel_rfl) (fun _ _ _ h => h) (Or.inr ⟨by rfl, rfl⟩) hH ?_
                walk_nrm
                refine wpAnyH_take (i := 26) (v := _) rfl (by kernel_rfl) (by kernel_rfl) (by kernel_rfl) (fun _ _ _ h => h) (Or.inr ⟨by rfl, rfl⟩) hH ?_
                walk_nrm
                have N3 := Nb
                have B3 := Bb
                have G3 := Gb
                refine wpAnyH_take (i := 27) (v := ?_) rfl (by kernel_rfl) (by kernel_rfl) (by kernel_rfl) (fun _ _ _ h => h) (Or.inl ⟨by rfl, ?hzq13⟩) hH ?rzq13
                case hzq13 => (intro W' hSw; (try dsimp only at hSw); go_simp; try with_reducible rfl)
                walk_nrm
                refine wpAnyH_take (i := 28) (v := ?_) rfl (by kernel_rfl) (by kernel_rfl) (by kernel_rfl) (fun _ _ _ h => h) (Or.inl ⟨by rfl, ?hzq14⟩) hH ?rzq14
                case hzq14 => (intro W' hSw; (try dsimp only at hSw); go_simp; try with_reducible rfl)
                walk_nrm
                refine wpAnyH_done (by kernel_rfl) ?_ _
                refine NoPanic.normal ?_
                go_wp2
                go_roundw
                case rel => exact ⟨j6 + 1, by omega, by go_num, N3, B3, G3⟩
                case measure => go_light; simp [intOf]; omega
              · have hji6 : decide ((j6 : Int) < 6) = false := by simp; omega
                obtain ⟨m0, -, -, -, lm, -⟩ := N.cells
                have bn := B.cn
                have lbn := B.lt
                have HNN := hide N
                have HGG := hide GG
                clear N B GG
                go_wp2_with fail
                go_quiet ((first | (go_at_call 33; exact Calls.quiet_of_same (now_any tb T _ (unhide HNN).2))))
                go_wp2
                go_ret
                exact ⟨rfl, (unhide HGG).drewN _⟩
          · have hsv := C.pd.srv q hq (by rw [unhide HD]; exact hqe) hqd
            rw [unhide HD] at hsv
            have hTq : (s.ns q).T = behindT rs := by
              obtain ⟨h1, _, h3⟩ := hsv.recs
              rw [h3, ← unhide HRS, h1]
            have Nq := C.nod q hq
            obtain ⟨fq1, fq2, -⟩ := C.apart hq
            clear C g ern hrn hrn' hrv' HC6
            go_wp2_with fail
            refine (nopen_more m.db w1.heap.size d m.v _ DD (by omega) hlt1).mono ?_
            rintro e w10 ⟨nb, tb, v10, rfl, hn10, ht10, N10, D10, f10, t10, g10, n10⟩
            replace ct := ct.chg g10 hcb
            have OW10 := hide (own_keep (unhide OWr) g10 (fun x hx e => lrow x e hx))
            replace Nq := Nq.chg g10 fq1 fq2
            have G10 := GW.trans g10 (fun x hx => .inr (by have := lfb x hx; omega))
            have z10 := g10.size
            unfold openN at N10
            unfold openD at D10
            dsimp only at N10 D10
            rw [unhide HRS] at N10 D10
            have hfew2 := D10.few
            rw [bytesL_len] at hfew2
            have hrec : recsL (bytesL rs) = rs := recsL_bytes hg
            clear g10 n10 DD c0 c2 GW OWr lrow lfb hcb f10 t10
            have c0 : w10.cell? ⟨m.cb, 0, none⟩ = some (.pointer (some ⟨m.db, 0, none⟩)) := ct.cell 0
            have lcb10 : m.cb < w10.heap.size := by omega
            go_wp2_with fail
            refine (dbytes_any m.db (d.ep + 1) v10 (bytesL rs) _ _ D10).mono ?_
            rintro e w11 ⟨v11, rfl, own11, g11⟩
            obtain ⟨a11, c11, rfl, hc11, hB11⟩ := sl_byt (own_sl own11) D10.ok
            replace ct := ct.chg g11 (by simp)
            replace N10 := N10.chg g11 (by simp) (by simp)
            replace D10 := D10.chg g11 (by simp)
            replace Nq := Nq.chg g11 (by simp) (by simp)
            have OW11 := hide (own_keep (unhide OW10) g11 (by simp))
            have G11 := G10.trans g11 (by simp)
            have z11 := g11.size
            clear g11 own11 G10 OW10 c0
            go_wp2_with fail
            refine (all_any a11 _ c11 (getB (bytesL rs)) _ (by rw [bytesL_len]; omega) hc11 hB11).mono ?_
            rintro e w12 ⟨v12, rfl, own12, g12⟩
            have hall : allR (bytesL rs).length (getB (bytesL rs)) = rs := hrec
            rw [hall] at own12
            obtain ⟨a12, c12, rfl, hc12, -, R12⟩ := own_recs own12 rfl
            replace ct := ct.chg g12 (by simp)
            replace N10 := N10.chg g12 (by simp) (by simp)
            replace D10 := D10.chg g12 (by simp)
            replace Nq := Nq.chg g12 (by simp) (by simp)
            have OW12 := own_keep (unhide OW11) g12 (by simp)
            have R3 := recs_until OW12 d.ep
            have hun : untilR (allR d.l.length (getB d.l)) d.ep = rs := unhide HRS
            rw [hun] at R3
            have G12 := G11.trans g12 (by simp)
            have z12 := g12.size
            clear g12 own12 hB11 hc11 G11 OW11 OW12
            go_wp2_with fail
            refine (same_any a12 a3 rs.length c12 c3 (atR rs) _ (by omega) R12 R3).mono ?_
            rintro e w13 ⟨rfl, dd, rfl⟩
            have g13 : Chg [] w12 (w12.drewN dd) := (Chg.refl _ _).drewN dd
            replace ct := ct.chg g13 (by simp)
            replace N10 := N10.chg g13 (by simp) (by simp)
            replace D10 := D10.chg g13 (by simp)
            replace Nq := Nq.chg g13 (by simp) (by simp)
            replace R3 := R3.chg g13
            have G13 := G12.trans g13 (by simp)
            have z13 := g13.size
            clear R12 G12 g13
            have c0 : (w12.drewN dd).cell? ⟨m.cb, 0, none⟩ = some (.pointer (some ⟨m.db, 0, none⟩)) := ct.cell 0
            generalize hW13 : w12.drewN dd = w13 at *
            clear hW13
            have lcb13 : m.cb < w13.heap.size := by omega
            go_wp2_with fail
            refine (dbytes_any m.db (d.ep + 1) v10 (bytesL rs) _ _ D10).mono ?_
            rintro e w14 ⟨v14, rfl, own14, g14⟩
            obtain ⟨a14, c14, rfl, -, -⟩ := sl_byt (own_sl own14) D10.ok
            replace N10 := N10.chg g14 (by simp) (by simp)
            replace Nq := Nq.chg g14 (by simp) (by simp)
            replace R3 := R3.chg g14
            have G14 := G13.trans g14 (by simp)
            have z14 := g14.size
            have h9 : (((bytesL rs).length : Nat) : Int) = 9 * (rs.length : Int) := by rw [bytesL_len]; omega
            have h9b : ((((bytesL rs).length : Nat) : Int) != 9 * (rs.length : Int)) = false := by rw [h9]; simp
            clear g14 own14 G13 D10 ct c0
            go_wp2_with fail
            refine (behind_any a3 rs.length c3 rs _ rfl (by omega) R3).mono ?_
            rintro e w15 ⟨rfl, B15, g15⟩
            replace N10 := N10.chg g15 (by simp) (by simp)
            replace Nq := Nq.chg g15 (by simp) (by simp)
            have G15 := G14.trans g15 (by simp)
            clear g15 R3 G14 h9 h9b
            go_wp2_with fail
            have hTn : (⟨behindT rs, (s.ns q).e, (s.ns q).dn⟩ : Nd) = s.ns q := by rw [← hTq]
            rw [← hTn] at Nq
            go_loopw [13] (fun i wr => ∃ j : Nat, j ≤ 6 ∧ i = .int .i64 j ∧ Nod wr nb tb m.db ⟨behindT rs, d.ep + 1, false⟩ ∧ Has 74 wr w14.heap.size (behindT rs) ∧ Chg [] W wr ∧ Nod wr (m.nb q) (m.tb q) m.db ⟨behindT rs, (s.ns q).e, (s.ns q).dn⟩) (fun i _ => 6 - (intOf i).toNat)
            case atStart => exact ⟨0, by omega, rfl, N10, B15, G15, Nq⟩
            case round =>
              clear N10 B15 G15 Nq
              obtain ⟨j6, hj6, rfl, N, B, GG, Q⟩ := hrel
              generalize behindT rs = T at *
              by_cases hj7 : j6 < 6
              · have hji6 : decide ((j6 : Int) < 6) = true := by simp; omega
                have N2 := (show Nod wr.drew nb tb m.db ⟨T, d.ep + 1, false⟩ from ⟨N.1, N.2⟩)
                have B2 : Has 74 wr.drew w14.heap.size T := B
                have G2 := GG.drew
                have Q2 := (show Nod wr.drew (m.nb q) (m.tb q) m.db ⟨T, (s.ns q).e, (s.ns q).dn⟩ from ⟨Q.1, Q.2⟩)
                go_wp2_with fail
                refine wp_region_noPanic ?_
                refine wp_region_held_drew (S := (fun W => W.cell? ⟨nb, 0, none⟩ = some (.pointer (some ⟨tb, 0, none⟩)) ∧ W.cell? ⟨m.nb q, 0, none⟩ = some (.pointer (some ⟨m.tb q, 0, none⟩)))) (by kernel_rfl) ⟨N2.1.cell 0, Q2.1.cell 0⟩ (fun hH => ?_)
                refine wpAnyH_take (i := 0) (v := ?_) rfl (by kernel_rfl) (by kernel_rfl) (by kernel_rfl) (fun _ _ _ h => h) (Or.inl ⟨by rfl, ?hzq15⟩) hH ?rzq15
                case hzq15 => (intro W' hSw; (try dsimp only at hSw); go_simp; try with_reducible rfl)
                walk_nrm
                refine wpAnyH_take (i := 1) (v := ?_) rfl (by kernel_rfl) (by kernel_rfl) (by kernel_rfl) (fun _ _ _ h => h) (Or.inl ⟨by rfl, ?hzq16⟩) hH ?rzq16
                case hzq16 => (intro W' hSw; (try dsimp only at hSw); go_simp; try with_reducible rfl)
                walk_nrm
                refine wpAnyH_take (i := 2) (v := ?_) rfl (by kernel_rfl) (by kernel_rfl) (by kernel_rfl) (fun _ _ _ h => h) (Or.inl ⟨by rfl, ?hzq17⟩) hH ?rzq17
                case hzq17 => (intro W' hSw; (try dsimp only at hSw); go_simp; try with_reducible rfl)
                walk_nrm
                refine wpAnyH_take (i := 3) (v := ?_) rfl (by kernel_rfl) (by kernel_rfl) (by kernel_rfl) (fun _ _ _ h => h) (Or.inl ⟨by rfl, ?hzq18⟩) hH ?rzq18
                case hzq18 => (intro W' hSw; (try dsimp only at hSw); obtain ⟨s1, s2⟩ := hSw; go_simp; try with_reducible rfl)
                walk_nrm
                refine wpAnyH_take (i := 4) (v := ?_) rfl (by kernel_rfl) (by kernel_rfl) (by kernel_rfl) (fun _ _ _ h => h) (Or.inl ⟨by rfl, ?hzq19⟩) hH ?rzq19
                case hzq19 => (intro W' hSw; (try dsimp only at hSw); go_simp; try with_reducible rfl)
                walk_nrm
                refine wpAnyH_take (i := 6) (v := ?_) rfl (by kernel_rfl) (by kernel_rfl) (by kernel_rfl) (fun _ _ _ h => h) (Or.inl ⟨by rfl, ?hzq20⟩) hH ?rzq20
                case hzq20 => (intro W' hSw; (try dsimp only at hSw); go_simp; try with_reducible rfl)
                walk_nrm
                refine wpAnyH_take (i := 7) (v := ?_) rfl (by kernel_rfl) (by kernel_rfl) (by kernel_rfl) (fun _ _ _ h => h) (Or.inl ⟨by rfl, ?hzq21⟩) hH ?rzq21
                case hzq21 => (intro W' hSw; (try dsimp only at hSw); go_simp; try with_reducible rfl)
                walk_nrm
                refine wpAnyH_ready (rs := [5]) (by kernel_rfl) (by simp) ?_
                refine AllReadyH.cons rfl (fun K hK => ?_) AllReadyH.nil
                rw [if_pos (by rfl)]
                go_simp
                refine (job_all tb j6 T _ N2.2).mono ?_
                rintro e wa ⟨rfl, ga⟩
                have Na := N2.chg ga (by simp) (by simp)
                have Ba := B2.chg ga (by simp)
                have Ga := G2.trans ga (by simp)
                have Qa := Q2.chg ga (by simp) (by simp)
                clear ga
                refine hK.out _ _ ⟨Na.1.cell 0, Qa.1.cell 0⟩ (fun hH2 => ?_)
                clear hK K hH
                have hH := hH2
                clear hH2
                walk_nrm
                refine wpAnyH_ready (rs := [8]) (by kernel_rfl) (by simp) ?_
                refine AllReadyH.cons rfl (fun K hK => ?_) AllReadyH.nil
                rw [if_pos (by rfl)]
                go_simp
                refine (bjob_all w14.heap.size j6 T _ Ba).mono ?_
                rintro e wb ⟨rfl, gb⟩
                have Nb := Na.chg gb (by simp) (by simp)
                have Bb := Ba.chg gb (by simp)
                have Gb := Ga.trans gb (by simp)
                have Qb := Qa.chg gb (by simp) (by simp)
                clear gb
                refine hK.out _ _ ⟨Nb.1.cell 0, Qb.1.cell 0⟩ (fun hH2 => ?_)
                clear hK K hH
                have hH := hH2
                clear hH2
                walk_nrm
                refine wpAnyH_take (i := 9) (v := .bool false) rfl (by kernel_rfl) (by kernel_rfl) (by kernel_rfl) (fun _ _ _ h => h) (Or.inl ⟨by rfl, ?hzq22⟩) hH ?rzq22
                case hzq22 => (intro W' hSw; (try dsimp only at hSw); go_simp; (try simp); try with_reducible rfl)
                walk_nrm
                refine wpAnyH_take (i := 10) (v := ?_) rfl (by kernel_rfl) (by kernel_rfl) (by kernel_rfl) (fun _ _ _ h => h) (Or.inl ⟨by rfl, ?hzq23⟩) hH ?rzq23
                case hzq23 => (intro W' hSw; (try dsimp only at hSw); go_simp; try with_reducible rfl)
                walk_nrm
                refine wpAnyH_take (i := 11) (v := ?_) rfl (by kernel_rfl) (by kernel_rfl) (by kernel_rfl) (fun _ _ _ h => h) (Or.inl ⟨by rfl, ?hzq24⟩) hH ?rzq24
                case hzq24 => (intro W' hSw; (try dsimp only at hSw); go_simp; try with_reducible rfl)
                walk_nrm
                refine wpAnyH_take (i := 12) (v := ?_) rfl (by kernel_rfl) (by kernel_rfl) (by kernel_rfl) (fun _ _ _ h => h) (Or.inl ⟨by rfl, ?hzq25⟩) hH ?rzq25
                case hzq25 => (intro W' hSw; (try dsimp only at hSw); go_simp; try with_reducible rfl)
                walk_nrm
                refine wpAnyH_take (i := 13) (v := ?_) rfl (by kernel_rfl) (by kernel_rfl) (by kernel_rfl) (fun _ _ _ h => h) (Or.inl ⟨by rfl, ?hzq26⟩) hH ?rzq26
                case hzq26 => (intro W' hSw; (try dsimp only at hSw); go_simp; try with_reducible rfl)
                walk_nrm
                refine wpAnyH_take (i := 14) (v := ?_) rfl (by kernel_rfl) (by kernel_rfl) (by kernel_rfl) (fun _ _ _ h => h) (Or.inl ⟨by rfl, ?hzq27⟩) hH ?rzq27
                case hzq27 => (intro W' hSw; (try dsimp only at hSw); go_simp; try with_reducible rfl)
                walk_nrm
                refine wpAnyH_take (i := 15) (v := ?_) rfl (by kernel_rfl) (by kernel_rfl) (by kernel_rfl) (fun _ _ _ h => h) (Or.inl ⟨by rfl, ?hzq28⟩) hH ?rzq28
                case hzq28 => (intro W' hSw; (try dsimp only at hSw); go_simp; try with_reducible rfl)
                walk_nrm
                refine wpAnyH_take (i := 16) (v := ?_) rfl (by kernel_rfl) (by kernel_rfl) (by kernel_rfl) (fun _ _ _ h => h) (Or.inl ⟨by rfl, ?hzq29⟩) hH ?rzq29
                case hzq29 => (intro W' hSw; (try dsimp only at hSw); go_simp; try with_reducible rfl)
                walk_nrm
                refine wpAnyH_take (i := 17) (v := ?_) rfl (by kernel_rfl) (by kernel_rfl) (by kernel_rfl) (fun _ _ _ h => h) (Or.inl ⟨by rfl, ?hzq30⟩) hH ?rzq30
                case hzq30 => (intro W' hSw; (try dsimp only at hSw); obtain ⟨s1, s2⟩ := hSw; go_simp; try with_reducible rfl)
                walk_nrm
                refine wpAnyH_take (i := 18) (v := ?_) rfl (by kernel_rfl) (by kernel_rfl) (by kernel_rfl) (fun _ _ _ h => h) (Or.inl ⟨by rfl, ?hzq31⟩) hH ?rzq31
                case hzq31 => (intro W' hSw; (try dsimp only at hSw); go_simp; try with_reducible rfl)
                walk_nrm
                refine wpAnyH_take (i := 20) (v := ?_) rfl (by kernel_rfl) (by kernel_rfl) (by kernel_rfl) (fun _ _ _ h => h) (Or.inl ⟨by rfl, ?hzq32⟩) hH ?rzq32
                case hzq32 => (intro W' hSw; (try dsimp only at hSw); go_simp; try with_reducible rfl)
                walk_nrm
                refine wpAnyH_take (i := 21) (v := ?_) rfl (by kernel_rfl) (by kernel_rfl) (by kernel_rfl) (fun _ _ _ h => h) (Or.inl ⟨by rfl, ?hzq33⟩) hH ?rzq33
                case hzq33 => (intro W' hSw; (try dsimp only at hSw); go_simp; try with_reducible rfl)
                walk_nrm
                refine wpAnyH_take (i := 22) (v := ?_) rfl (by kernel_rfl) (by kernel_rfl) (by kernel_rfl) (fun _ _ _ h => h) (Or.inl ⟨by rfl, ?hzq34⟩) hH ?rzq34
                case hzq34 => (intro W' hSw; (try dsimp only at hSw); go_simp; try with_reducible rfl)
                walk_nrm
                refine wpAnyH_take (i := 23) (v := ?_) rfl (by kernel_rfl) (by kernel_rfl) (by kernel_rfl) (fun _ _ _ h => h) (Or.inl ⟨by rfl, ?hzq35⟩) hH ?rzq35
                case hzq35 => (intro W' hSw; (try dsimp only at hSw); obtain ⟨s1, s2⟩ := hSw; go_simp; try with_reducible rfl)
                walk_nrm
                refine wpAnyH_take (i := 24) (v := ?_) rfl (by kernel_rfl) (by kernel_rfl) (by kernel_rfl) (fun _ _ _ h => h) (Or.inl ⟨by rfl, ?hzq36⟩) hH ?rzq36
                case hzq36 => (intro W' hSw; (try dsimp only at hSw); go_simp; try with_reducible rfl)
                walk_nrm
                refine wpAnyH_ready (rs := [19]) (by kernel_rfl) (by simp) ?_
                refine AllReadyH.cons rfl (fun K hK => ?_) AllReadyH.nil
                rw [if_pos (by rfl)]
                go_simp
                refine (job_all (m.tb q) j6 T _ Qb.2).mono ?_
                rintro e wc ⟨rfl, gc⟩
                have Nc := Nb.chg gc (by simp) (by simp)
                have Bc := Bb.chg gc (by simp)
                have Gc := Gb.trans gc (by simp)
                have Qc := Qb.chg gc (by simp) (by simp)
                clear gc
                refine hK.out _ _ ⟨Nc.1.cell 0, Qc.1.cell 0⟩ (fun hH2 => ?_)
                clear hK K hH
                have hH := hH2
                clear hH2
                walk_nrm
                refine wpAnyH_ready (rs := [25]) (by kernel_rfl) (by simp) ?_
                refine AllReadyH.cons rfl (fun K hK => ?_) AllReadyH.nil
                rw [if_pos (by rfl)]
                go_simp
                refine (job_all tb j6 T _ Nc.2).mono ?_
                rintro e wd ⟨rfl, g3⟩
                have N3 := Nc.chg g3 (by simp) (by simp)
                have B3 := Bc.chg g3 (by simp)
                have G3 := Gc.trans g3 (by simp)
                have Q3 := Qc.chg g3 (by simp) (by simp)
                clear g3
                refine hK.out _ _ ⟨N3.1.cell 0, Q3.1.cell 0⟩ (fun hH2 => ?_)
                clear hK K hH
                have hH := hH2
                clear hH2
                walk_nrm
                refine wpAnyH_take (i := 26) (v := .bool false) rfl (by kernel_rfl) (by kernel_rfl) (by kernel_rfl) (fun _ _ _ h => h) (Or.inl ⟨by rfl, ?hzq37⟩) hH ?rzq37
                case hzq37 => (intro W' hSw; (try dsimp only at hSw); go_simp; (try simp); try with_reducible rfl)
                walk_nrm
                refine wpAnyH_take (i := 27) (v := ?_) rfl (by kernel_rfl) (by kernel_rfl) (by kernel_rfl) (fun _ _ _ h => h) (Or.inl ⟨by rfl, ?hzq38⟩) hH ?rzq38
                case hzq38 => (intro W' hSw; (try dsimp only at hSw); go_simp; try with_reducible rfl)
                walk_nrm
                refine wpAnyH_take (i := 28) (v := ?_) rfl (by kernel_rfl) (by kernel_rfl) (by kernel_rfl) (fun _ _ _ h => h) (Or.inl ⟨by rfl, ?hzq39⟩) hH ?rzq39
                case hzq39 => (intro W' hSw; (try dsimp only at hSw); go_simp; try with_reducible rfl)
                walk_nrm
                refine wpAnyH_done (by kernel_rfl) ?_ _
                refine NoPanic.normal ?_
                go_wp2
                go_roundw
                case rel => exact ⟨j6 + 1, by omega, by go_num, N3, B3, G3, Q3⟩
                case measure => go_light; simp [intOf]; omega
              · have hji6 : decide ((j6 : Int) < 6) = false := by simp; omega
                obtain ⟨m0, -, -, -, lm, -⟩ := N.cells
                have bn := B.cn
                have lbn := B.lt
                obtain ⟨m1, -, -, -, lm1, -⟩ := Q.cells
                have HNN := hide N
                have HGG := hide GG
                have HQQ := hide Q
                clear N B GG Q
                go_wp2_with fail
                go_quiet ((first | (go_at_call 33; exact Calls.quiet_of_same (now_any tb T _ (unhide HNN).2)) | (go_at_call 33; exact Calls.quiet_of_same (now_any (m.tb q) T _ (unhide HQQ).2))))
                go_wp2
                go_ret
                exact ⟨rfl, (unhide HGG).drewN _⟩

end Go.Proofs.Ytafbacijfiodhab

namespace Go.Proofs.Ytafbacijfiodhab
open Go.ChangeShapes Go.WideShapes Go.ChangeAt Go.RowKit

set_option maxRecDepth 100000 in
theorem again_lifted (os : Os) (started : os.Started) (H : Type) (enc : TypeId × Value → H) :
    ReturnsInHanded {} Try.checked os 7 .any (Rows.nodeAgainSpec.pre6 enc Try.prog Try.f7 Rows.nodeAgainRow.domain false) (Rows.nodeAgainSpec.post enc Try.prog Try.f7 false true false false) := by
  refine returnsInHanded_of_change (C := Try.checked) ownK started (by kernel_rfl) Try.func7
    (ChangeSpec.witness6 (enc := enc) (C := Try.checked) false ⟨#[], #[.slice none 0 0, .slice none 0 0], []⟩ 8 (by kernel_rfl) (by kernel_rfl) (by kernel_rfl) (by kernel_rfl)) ?_
  intro W base args ds gs before hval0 hW hcnd _
  have hval : ∀ (j : Nat) t v, Try.f7.params[j]? = some t → args[j]? = some v → Value.okWide Try.prog W .any base t v := hval0
  have hW' := hW
  obtain ⟨p, q, hA0, hV, rfl, hfz, hnd⟩ := hW
  have hA : DataW.TrodAll enc Try.prog W 0 (fun _ => true) true Try.f7.params.toList args.toList ds p := hA0
  rw [Try.params7] at hA hval
  obtain ⟨v0, vs0, d0, ds0, p0, q0, hargs, rfl, rfl, h0, r0⟩ := trodAll_cons hA
  obtain ⟨v1, vs1, d1, ds1, p1, q1, rfl, rfl, rfl, h1, r1⟩ := trodAll_cons r0
  obtain ⟨rfl, rfl, rfl⟩ := trodAll_nil r1
  obtain rfl : args = #[v0, v1] := by cases args; simp_all
  obtain ⟨rfl, rfl⟩ := trodVars_none hV
  obtain ⟨a0, len0, cap0, rfl⟩ := okWide_slice Try.underlying27 (hval 0 27 v0 rfl rfl)
  have k0 := h0
  have lt0 : ∀ x ∈ p0, x.block < W.heap.size := by obtain ⟨m, hm⟩ := k0; exact DataW.trod_lt m _ _ _ hm
  obtain ⟨z0, w0, y0⟩ : ∃ l, Sl W (.slice a0 len0 cap0) l ∧ okB l := by
    obtain ⟨fuel, hf⟩ := h0
    have hf2 : DataW.trod enc Try.prog W 0 (fun _ => true) true fuel 27 [.slice a0 len0 cap0] = some (d0, p0) := by simpa [Value.cells] using hf
    obtain ⟨v9, l9, e9, h9, g9⟩ := sl_of_trod hf2
    simp at e9
    subst e9
    exact ⟨l9, h9, g9⟩
  obtain ⟨a1, len1, cap1, rfl⟩ := okWide_slice Try.underlying38 (hval 1 38 v1 rfl rfl)
  have k1 := h1
  have lt1 : ∀ x ∈ p1, x.block < W.heap.size := by obtain ⟨m, hm⟩ := k1; exact DataW.trod_lt m _ _ _ hm
  obtain ⟨z1, w1⟩ : ∃ fs, Nss W a1 len1 fs := by
    obtain ⟨fuel, hf⟩ := h1
    exact nss_of_trod (by simpa [Value.cells] using hf)
  clear hA0 hval0
  refine (again_any (.slice a0 len0 cap0) z0 a1 len1 cap1 z1 W w0 y0 w1).mono fun e W' ⟨he, hch⟩ => ?_
  have bel := hch.below
  subst he
  exact ⟨_, rfl, _, _, _, [], _, [], hW', trodAll_mk1 (shut_bool Try.underlying4 _), (trodAll_cons_mk (Below.trod laidOutK (by kernel_rfl) (of_decide_eq_true (by kernel_rfl)) k0 bel lt0) (trodAll_cons_mk (Below.trod laidOutK (by kernel_rfl) (of_decide_eq_true (by kernel_rfl)) k1 bel lt1) trodAll_mk0)), rfl, bel.frame _, fun h => by cases h⟩

theorem again_holds : Rows.NodeAgainSaid :=
  OpenClaim.holds_of_wide 7 Try.f7 rfl rfl rfl rfl rfl rfl rfl ⟨rfl, rfl, rfl, rfl, rfl⟩ rfl rfl rfl rfl rfl (by kernel_rfl) Try.func7 (by kernel_rfl)
    (of_decide_eq_true (by kernel_rfl)) (by unfold Func.isWrapper; first | (rw [if_pos (by decide +kernel)]; kernel_rfl) | (rw [if_neg (by decide +kernel)]; exact ⟨rfl, rfl⟩))
    (fun os started H enc _ => again_lifted os started H enc)

end Go.Proofs.Ytafbacijfiodhab

