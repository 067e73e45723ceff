/- For all bytes and all two lists of steps the law NodeFenced returns true, and leaves them as they were; no condition. -/
import Derived.Test.YtafbacijfiodhabMgOa
import Derived.Test.YtafbacijfiodhabMgKFrame
namespace Go.Proofs.Ytafbacijfiodhab
open Go.RowKit

theorem fenced_plain {d : Dk} {n : Nd} (h : ¬ d.ep = n.e) (o : Od) (keep : Int) : (∃ cd : Int, (cd = 9 ∨ cd = 10) ∧ wrC d n o keep = cd ∧ (n.dn = true → cd = 10)) ∧ wrD d n o keep = d ∧ tearN d n o keep = ⟨n.T, n.e, true⟩ := by
  have hw : ∃ cd : Int, (cd = 9 ∨ cd = 10) ∧ wrC d n o keep = cd ∧ (n.dn = true → cd = 10) := by
    cases hd : n.dn
    · exact ⟨9, .inl rfl, wr_fenced hd h, fun h => by cases h⟩
    · exact ⟨10, .inr rfl, wr_down hd, fun _ => rfl⟩
  refine ⟨hw, ?_, ?_⟩
  · obtain ⟨cd, h1, h2, _⟩ := hw
    exact wrD_no (by rw [h2]; omega)
  · unfold tearN
    rw [dnx_fenced h, Bool.true_or]
theorem fenced_order {d : Dk} {n : Nd} (h : ¬ d.ep = n.e) (o : Od) : (∃ cd : Int, (cd = 9 ∨ cd = 10) ∧ ordA d n o = ⟨cd, 0, 0⟩) ∧ ordN d n o = ⟨n.T, n.e, true⟩ := by
  obtain ⟨⟨cd, h1, h2, _⟩, _, _⟩ := fenced_plain h o 9
  have hn : ¬ wrC d n o 9 = 0 := by rw [h2]; omega
  obtain ⟨e1, e2⟩ := ord_no hn
  refine ⟨⟨cd, h1, by rw [e2, h2]⟩, by rw [e1, dnx_fenced h]⟩

/-- A crew behind which another node was opened. -/
structure Fen (W0 w : World) (cb db : Nat) (rn : Value) (k : Nat) (d1 : Dk) (nb' tb' : Nat) (n1 : Nd) (M : Mm) (S : St) : Prop where
  crw : Crw W0 w M S
  ecb : M.cb = cb
  edb : M.db = db
  ern : M.rn = rn
  ek : S.k = k
  ed : S.d = d1
  elt : ∀ i, i < k → (S.ns i).e < d1.ep
  en : Nod w nb' tb' db n1
  eo1 : M.own nb' = 5 + 2 * k
  eo2 : M.own tb' = 5 + 2 * k
section
variable {W0 w : World} {cb db : Nat} {rn : Value} {k : Nat} {d1 : Dk} {nb' tb' : Nat} {n1 : Nd} {M : Mm} {S : St}
theorem Fen.same {w' : World} (h : Fen W0 w cb db rn k d1 nb' tb' n1 M S) (g : Chg [] w w') : Fen W0 w' cb db rn k d1 nb' tb' n1 M S := ⟨h.crw.same g, h.ecb, h.edb, h.ern, h.ek, h.ed, h.elt, h.en.chg g (by simp) (by simp), h.eo1, h.eo2⟩
/-- One of them is ordered, or torn: its blocks and the disk's alone are turned. -/
theorem Fen.op {w' : World} (h : Fen W0 w cb db rn k d1 nb' tb' n1 M S) {i : Nat} (hi : i < S.k) {v' : Value} {n' : Nd} (N : Nod w' (M.nb i) (M.tb i) M.db n') (hn : n'.e = (S.ns i).e) (D : Dsk 79 5 w' W0.heap.size M.db S.d.ep v' S.d.l) (g : Chg (M.nb i :: M.tb i :: fp M.db M.v) w w') (nx : Nxt w M.v v') (pl : Pl S.d S.k (upN S.ns i n')) :
    ∃ M' S', Fen W0 w' cb db rn k d1 nb' tb' n1 M' S' ∧ M'.nb = M.nb ∧ M'.tb = M.tb ∧ S'.ns i = n' ∧ (∀ x j, M.own x = 1 → x < w.heap.size → w'.cell? ⟨x, j, none⟩ = w.cell? ⟨x, j, none⟩) := by
  have hb : ∀ x ∈ M.nb i :: M.tb i :: fp M.db M.v, M.own x = 3 ∨ M.own x = 5 + 2 * i := fun x hx => by
    rcases List.mem_cons.1 hx with rfl | hx
    · exact .inr (h.crw.on i hi).1
    · rcases List.mem_cons.1 hx with rfl | hx
      · exact .inr (h.crw.on i hi).2
      · exact .inl (h.crw.od x hx)
  have hik : i < k := h.ek ▸ hi
  have l1 := h.en.lt
  refine ⟨_, _, ⟨h.crw.nodeOp (d' := S.d) hi rfl N D g nx pl, h.ecb, h.edb, h.ern, h.ek, h.ed, fun j hj => ?_, h.en.chg g (fun hx => by have := hb _ hx; have := h.eo1; omega) (fun hx => by have := hb _ hx; have := h.eo2; omega), by dsimp only; rw [grow_old l1.1]; exact h.eo1, by dsimp only; rw [grow_old l1.2]; exact h.eo2⟩, rfl, rfl, upN_same _ _ _, fun x j hx hl => kCell g hl (fun hm => by have := hb x hm; omega)⟩
  show (upN S.ns i n' j).e < d1.ep
  by_cases e : j = i
  · subst e; rw [upN_same, hn]; exact h.elt j hj
  · rw [upN_other _ _ e]; exact h.elt j hj
theorem fn_order (h : Fen W0 w cb db rn k d1 nb' tb' n1 M S) {i : Nat} (hi : i < S.k) (o : Od) :
    Calls Try.prog 23 #[.pointer (some ⟨M.nb i, 0, none⟩), odV o] w fun x w' => ∃ cd M' S', x = .returned (ansV ⟨cd, 0, 0⟩) ∧ (cd = 9 ∨ cd = 10) ∧ Fen W0 w' cb db rn k d1 nb' tb' n1 M' S' ∧ M'.nb = M.nb ∧ M'.tb = M.tb ∧ (S'.ns i).dn = true ∧ (∀ x j, M.own x = 1 → x < w.heap.size → w'.cell? ⟨x, j, none⟩ = w.cell? ⟨x, j, none⟩) := by
  have hne : ¬ S.d.ep = (S.ns i).e := by have := h.elt i (h.ek ▸ hi); rw [h.ed]; omega
  obtain ⟨f1, f2, _⟩ := h.crw.apart hi
  refine (nord_all (M.nb i) (M.tb i) M.db W0.heap.size (S.ns i) S.d M.v o _ (h.crw.nod i hi) h.crw.dsk (h.crw.pd.inv i hi) h.crw.ch.size h.crw.pd.e1 h.crw.pd.e2 f1 f2).mono ?_
  rintro x w' ⟨rfl, v', N, D, g, nx⟩
  obtain ⟨⟨cd, h1, h2⟩, h3⟩ := fenced_order hne o
  have h4 := (fenced_plain hne o 9).2.1
  have pl := h.crw.pd.order hi o
  rw [h4] at D pl
  obtain ⟨M', S', q1, q2, q3, q4, q5⟩ := h.op hi N (by rw [h3]) D g nx pl
  rw [h2]
  exact ⟨cd, M', S', rfl, h1, q1, q2, q3, by rw [q4, h3], q5⟩
theorem fn_tear (h : Fen W0 w cb db rn k d1 nb' tb' n1 M S) {i : Nat} (hi : i < S.k) (hdn : (S.ns i).dn = true) (o : Od) (keep : Int) :
    Calls Try.prog 24 #[.pointer (some ⟨M.nb i, 0, none⟩), odV o, .int .i64 keep] w fun x w' => ∃ M' S', x = .returned (.int .i64 10) ∧ Fen W0 w' cb db rn k d1 nb' tb' n1 M' S' ∧ M'.nb = M.nb ∧ M'.tb = M.tb ∧ (S'.ns i).dn = true ∧ (∀ x j, M.own x = 1 → x < w.heap.size → w'.cell? ⟨x, j, none⟩ = w.cell? ⟨x, j, none⟩) := by
  have hne : ¬ S.d.ep = (S.ns i).e := by have := h.elt i (h.ek ▸ hi); rw [h.ed]; omega
  obtain ⟨f1, f2, _⟩ := h.crw.apart hi
  refine (ntear_all (M.nb i) (M.tb i) M.db W0.heap.size (S.ns i) S.d M.v o keep _ (h.crw.nod i hi) h.crw.dsk (h.crw.pd.inv i hi) h.crw.ch.size h.crw.pd.e1 h.crw.pd.e2 f1 f2).mono ?_
  rintro x w' ⟨rfl, v', N, D, g, nx⟩
  obtain ⟨⟨cd, h1, h2, h5⟩, h4, h3⟩ := fenced_plain hne o keep
  have pl := h.crw.pd.tear hi o keep
  rw [h4] at D pl
  obtain ⟨M', S', q1, q2, q3, q4, q5⟩ := h.op hi N (by rw [h3]) D g nx pl
  rw [h2, h5 hdn]
  exact ⟨M', S', rfl, q1, q2, q3, by rw [q4, h3], q5⟩
theorem Fen.dsk (h : Fen W0 w cb db rn k d1 nb' tb' n1 M S) : Dsk 79 5 w W0.heap.size db d1.ep M.v d1.l := by
  have := h.crw.dsk
  rw [h.edb, h.ed] at this
  exact this
theorem Fen.c0 (h : Fen W0 w cb db rn k d1 nb' tb' n1 M S) : w.cell? ⟨cb, 0, none⟩ = some (.pointer (some ⟨db, 0, none⟩)) ∧ cb < w.heap.size := by
  have h1 := h.crw.blk.cell 0
  have h2 := h.crw.blk.lt
  rw [h.ecb] at h1 h2
  rw [h.edb] at h1
  exact ⟨h1, h2⟩
theorem fen_open {w' : World} {m : Mm} {s : St} {v' : Value} (C : Crw W0 w m s) (hlt : s.d.ep < 100) (ern : m.rn = rn) (hn : w.heap.size ≤ nb') (ht : w.heap.size ≤ tb') (N : Nod w' nb' tb' m.db (openN s.d)) (D : Dsk 79 5 w' W0.heap.size m.db (openD s.d).ep v' (openD s.d).l) (f : nb' ∉ fp m.db v') (t : tb' ∉ fp m.db v') (g : Chg (fp m.db m.v) w w') (nx : Nxt w m.v v') :
    ∃ M S, Fen W0 w' m.cb m.db rn s.k (openD s.d) nb' tb' (openN s.d) M S := by
  refine ⟨_, _, ⟨C.nodeOpen hlt D g nx f t, rfl, rfl, ern, rfl, rfl, fun i hi => by have := C.pd.le i hi; show (s.ns i).e < s.d.ep + 1; omega, N, ?_, ?_⟩⟩
  · dsimp only
    rw [grow_new hn]
    exact if_pos (Or.inl rfl)
  · dsimp only
    rw [grow_new ht]
    exact if_pos (Or.inr rfl)
end

set_option maxRecDepth 100000 in
set_option maxHeartbeats 8000000 in
theorem nfenced_any (vb : Value) (bs : List Int) (a : Option Addr) (len cap : Nat) (fs : Nat → Ns) (a2 : Option Addr) (len2 cap2 : Nat) (gs : Nat → Ns) (W : World) (hb : Sl W vb bs) (hk : okB bs) (h : Nss W a len fs) (h2 : Nss W a2 len2 gs) :
    Calls Try.prog 6 #[vb, .slice a len cap, .slice a2 len2 cap2] W fun e w' => e = .returned (.bool true) ∧ Chg [] W w' := by
  have HB := hide hb
  have HK := hide hk
  have HH := hide h
  obtain ⟨ab, cab, rfl⟩ := sl_slice hb
  clear hb hk h
  have H2 := hide h2
  clear h2
  by_cases hbig : 1400 < bs.length
  · have d1 : decide ((1400 : Int) < (bs.length : Int)) = true := by simp; omega
    go_enter Try.func6, Try.ntmps6
    go_wp2_with (go_at_call 18; refine (nbegun_any _).mono ?_; rintro e w1 ⟨rfl, G1⟩)
    go_ret
    exact ⟨rfl, G1⟩
  have d1 : decide ((1400 : Int) < (bs.length : Int)) = false := by simp; omega
  by_cases hbig2 : 200 < len
  · have d2 : decide ((200 : Int) < (len : Int)) = true := by simp; omega
    go_enter Try.func6, Try.ntmps6
    go_wp2_with (go_at_call 18; refine (nbegun_any _).mono ?_; rintro e w1 ⟨rfl, G1⟩)
    go_ret
    exact ⟨rfl, G1⟩
  have d2 : decide ((200 : Int) < (len : Int)) = false := by simp; omega
  by_cases hbig3 : 200 < len2
  · have d3 : decide ((200 : Int) < (len2 : Int)) = true := by simp; omega
    go_enter Try.func6, Try.ntmps6
    go_wp2_with (go_at_call 18; refine (nbegun_any _).mono ?_; rintro e w1 ⟨rfl, G1⟩)
    go_ret
    exact ⟨rfl, G1⟩
  have d3 : decide ((200 : Int) < (len2 : Int)) = false := by simp; omega
  go_enter Try.func6, Try.ntmps6
  go_wp2_with (first
    | (go_at_call 18; refine (nbegun_any _).mono ?_; rintro e w1 ⟨rfl, G1⟩)
    | (go_at_call 19; refine (newcrew_any _ bs _ ((unhide HB).chg G1 (by simp)) (unhide HK) (by omega)).mono ?_; rintro e w2 ⟨cb, db, pb, v, u, rfl, h1, h2, B, D, P, A, hp, c1, c2, g2⟩))
  obtain ⟨own, C0⟩ := crew_start h1 h2 B D P A hp c1 c2 g2
  have HC0 := hide C0
  clear h1 h2 B D P A hp c1 c2 g2 C0
  go_loopw [8] (fun i wr => ∃ (k : Nat) (m : Mm) (s : St), k ≤ len ∧ i = .int .i64 k ∧ Crw w1 wr m s ∧ m.cb = cb ∧ m.db = db ∧ s.p.ep = s.d.ep) (fun i _ => len - (intOf i).toNat)
  case atStart => exact ⟨0, _, _, by omega, rfl, unhide HC0, rfl, rfl, rfl⟩
  case round =>
    obtain ⟨k, m, s, hkl, rfl, C, rfl, rfl, he⟩ := hrel
    clear HC0
    by_cases hlt : k < len
    · have hki : (k : Int) < (len : Int) := by omega
      have hk0 : (0 : Int) ≤ (k : Int) := by omega
      rcases unhide HH with h0 | ⟨bl, off, rfl, hbl, hO⟩
      · omega
      have GW := G1.trans C.ch (by simp)
      obtain ⟨p0, p1, p2, p3, p4, p5, p6, p7, p8⟩ := (hO k hlt).chg GW hbl
      clear hO
      have HX := hide C
      clear C
      go_wp2_with (first
        | (go_at_call 20; refine (step_any w1 m s (fs k) _ (unhide HX) he).mono ?_; rintro e w3 ⟨bo, m', s', rfl, C3, e1, e2, e3, -⟩))
      go_roundw
      case rel => exact ⟨k + 1, m', s', by omega, by go_num, C3, e1, e2, e3⟩
      case measure => go_light; simp [intOf]; omega
    · have hki : ¬ (k : Int) < (len : Int) := by omega
      obtain ⟨an, cn, ern, hcn, hrn⟩ := row_form C.rown
      have c2 : wr.cell? ⟨m.cb, 2, none⟩ = some (.slice an s.k cn) := (C.blk.cell 2).trans (congrArg some ern)
      have c0 : wr.cell? ⟨m.cb, 0, none⟩ = some (.pointer (some ⟨m.db, 0, none⟩)) := C.blk.cell 0
      have lcb := C.blk.lt
      have D := C.dsk
      have q1 := C.pd.e1
      have q2 := C.pd.e2
      have HX := hide C
      have hk8 := C.few
      clear C HB HK HH hrn
      have HERN := hide ern
      clear ern
      by_cases hfull : s.d.ep = 100
      · go_wp2_with (go_at_call 22; refine (nopen_full m.db w1.heap.size s.d m.v _ D hfull).mono ?_; rintro e w4 ⟨rfl, D4, g4⟩)
        go_ret
        exact ⟨rfl, G1.trans ((unhide HX).nodeFull D4 g4).ch (by simp)⟩
      have hlt1 : s.d.ep < 100 := by omega
      go_wp2_with fail
      refine (nopen_more m.db w1.heap.size s.d m.v _ D (by omega) hlt1).mono ?_
      rintro e w4 ⟨nb', tb', v4, rfl, hn4, ht4, N4, D4, f4, t4, g4, n4⟩
      obtain ⟨M4, S4, F4⟩ := fen_open (unhide HX) hlt1 (unhide HERN) hn4 ht4 N4 D4 f4 t4 g4 n4
      obtain ⟨e0, l4⟩ := F4.c0
      have hn1 : (openN s.d).dn = false := rfl
      have hn2 : (openN s.d).e = (openD s.d).ep := rfl
      clear D4 g4 n4 f4 t4 N4 c0 c2 D lcb hn4 ht4
      generalize openN s.d = n1 at *
      generalize openD s.d = d1 at *
      have HF4 := hide F4
      clear F4
      go_wp2_with fail
      refine (dbytes_any m.db d1.ep M4.v d1.l _ _ (unhide HF4).dsk).mono ?_
      rintro e w5 ⟨v5, rfl, own5, g5⟩
      have hcv := kStr d1.l w5 v5 (own_sl own5)
      have F5 := (unhide HF4).same g5
      clear own5 g5
      go_wp2_with fail
      obtain ⟨kk, hkk⟩ : ∃ kk, s.k = kk := ⟨_, rfl⟩
      rw [hkk] at F5 hk8 hcn ⊢
      clear HF4 HERN HX hcv hkk q1 q2 hlt1 hfull e0 l4
      go_loopw [13] (fun i wr => ∃ (j : Nat) (M : Mm) (S : St), j ≤ len2 ∧ i = .int .i64 j ∧ Fen w1 wr m.cb m.db (.slice an kk cn) kk d1 nb' tb' n1 M S) (fun i _ => len2 - (intOf i).toNat)
      case atStart => exact ⟨0, _, _, by omega, rfl, F5⟩
      case round =>
        clear F5
        obtain ⟨j, M, S, hjl, rfl, F⟩ := hrel
        by_cases hlt : j < len2
        · by_cases hk0 : kk = 0
          · have dj : decide ((j : Int) < (len2 : Int)) = true := by simp; omega
            have dk : decide ((0 : Int) < (kk : Int)) = false := by simp; omega
            go_wp2_with (go_at_call 25; refine (ndown_any nb' tb' _ _ _ F.en).mono ?_; rintro e w8 ⟨rfl, rfl⟩; rw [hn1])
            go_ret
            exact ⟨rfl, G1.trans F.crw.ch (by simp)⟩
          · have hkp : 0 < kk := by omega
            have dj : decide ((j : Int) < (len2 : Int)) = true := by simp; omega
            have dji : (j : Int) < (len2 : Int) := by omega
            have dj0 : (0 : Int) ≤ (j : Int) := by omega
            have dk : decide ((0 : Int) < (kk : Int)) = true := by simp; omega
            rcases unhide H2 with h0 | ⟨bl, off, rfl, hbl, hO⟩
            · omega
            have GW := G1.trans F.crw.ch (by simp)
            have hbl' := Nat.lt_of_lt_of_le hbl GW.size
            have X0 := hO j hlt
            generalize gs j = x at *
            have X := X0.chg GW hbl
            have HX0 := hide X0
            clear hO X0
            obtain ⟨p0, p1, p2, p3, p4, p5, p6, p7, p8⟩ := X
            have X : NsAt wr bl (off + j * 9) x := ⟨p0, p1, p2, p3, p4, p5, p6, p7, p8⟩
            have hfld : ∀ (W : World) (a b c : Int), (Instr.field 56 (.agg #[.int .i64 a, .int .i64 b, .int .i64 c]) 0).run Try.prog W = .ok (.int .i64 a) W := fun W a b c => by kernel_rfl
            have HFF := hide F
            have HXX := hide X
            clear F X
            go_wp2_with fail
            have F := unhide HFF
            have X := unhide HXX
            clear HFF HXX p0 p1 p2 p3 p4 p5 p6 p7 p8
            obtain ⟨i, hi, hpick⟩ := pickK x.k hkp hk8
            rw [hpick]
            clear hpick
            have hiS : i < S.k := F.ek.symm ▸ hi
            obtain ⟨gn, cn', en, hcn', ogn, lgn, wgn, cgn⟩ := F.crw.rcell hiS
            have ean : an = some ⟨gn, 0, none⟩ := by have h9 := F.ern.symm.trans en; injection h9
            subst ean
            have hi0 : (0 : Int) ≤ (i : Int) := by omega
            have hik : (i : Int) < (kk : Int) := by omega
            clear en hcn' ogn
            have Fd : Fen w1 wr.drew m.cb m.db (.slice (some ⟨gn, 0, none⟩) kk cn) kk d1 nb' tb' n1 M S := F.same ((Chg.refl [] wr).drew)
            have Xd := X.chg ((Chg.refl [] wr).drew) hbl'
            have lgd : gn < wr.drew.heap.size := lgn
            refine wp_region_noPanic ?_
            refine wp_region_held_drew (S := (fun W => W.cell? ⟨gn, i, none⟩ = some (.pointer (some ⟨M.nb i, 0, none⟩)) ∧ NsAt W bl (off + j * 9) x)) (by kernel_rfl) ⟨cgn, Xd⟩ (fun hH => ?_)
            refine wpAnyH_take (i := 0) (v := ?_) rfl (by kernel_rfl) (by kernel_rfl) (by kernel_rfl) (fun _ _ _ h => h) (Or.inl ⟨by rfl, ?hzq1⟩) hH ?rzq1
            case hzq1 => (intro W' hSw; (try dsimp only at hSw); go_simp; try with_reducible rfl)
            walk_nrm
            refine wpAnyH_take (i := 1) (v := ?_) rfl (by kernel_rfl) (by kernel_rfl) (by kernel_rfl) (fun _ _ _ h => h) (Or.inl ⟨by rfl, ?hzq2⟩) hH ?rzq2
            case hzq2 => (intro W' hSw; (try dsimp only at hSw); go_simp; try with_reducible rfl)
            walk_nrm
            refine wpAnyH_take (i := 2) (v := ?_) rfl (by kernel_rfl) (by kernel_rfl) (by kernel_rfl) (fun _ _ _ h => h) (Or.inl ⟨by rfl, ?hzq3⟩) hH ?rzq3
            case hzq3 => (intro W' hSw; (try dsimp only at hSw); go_simp; try with_reducible rfl)
            walk_nrm
            refine wpAnyH_take (i := 3) (v := ?_) rfl (by kernel_rfl) (by kernel_rfl) (by kernel_rfl) (fun _ _ _ h => h) (Or.inl ⟨by rfl, ?hzq4⟩) hH ?rzq4
            case hzq4 => (intro W' hSw; (try dsimp only at hSw); obtain ⟨s1, p0, p1, p2, p3, p4, p5, p6, p7, p8⟩ := hSw; go_simp; try with_reducible rfl)
            walk_nrm
            refine wpAnyH_take (i := 4) (v := ?_) rfl (by kernel_rfl) (by kernel_rfl) (by kernel_rfl) (fun _ _ _ h => h) (Or.inl ⟨by rfl, ?hzq5⟩) hH ?rzq5
            case hzq5 => (intro W' hSw; (try dsimp only at hSw); go_simp; try with_reducible rfl)
            walk_nrm
            refine wpAnyH_take (i := 5) (v := ?_) rfl (by kernel_rfl) (by kernel_rfl) (by kernel_rfl) (fun _ _ _ h => h) (Or.inl ⟨by rfl, ?hzq6⟩) hH ?rzq6
            case hzq6 => (intro W' hSw; (try dsimp only at hSw); go_simp; try with_reducible rfl)
            walk_nrm
            refine wpAnyH_take (i := 6) (v := ?_) rfl (by kernel_rfl) (by kernel_rfl) (by kernel_rfl) (fun _ _ _ h => h) (Or.inl ⟨by rfl, ?hzq7⟩) hH ?rzq7
            case hzq7 => (intro W' hSw; (try dsimp only at hSw); go_simp; try with_reducible rfl)
            walk_nrm
            refine wpAnyH_take (i := 7) (v := ?_) rfl (by kernel_rfl) (by kernel_rfl) (by kernel_rfl) (fun _ _ _ h => h) (Or.inl ⟨by rfl, ?hzq8⟩) hH ?rzq8
            case hzq8 => (intro W' hSw; (try dsimp only at hSw); go_simp; try with_reducible rfl)
            walk_nrm
            refine wpAnyH_take (i := 8) (v := ?_) rfl (by kernel_rfl) (by kernel_rfl) (by kernel_rfl) (fun _ _ _ h => h) (Or.inl ⟨by rfl, ?hzq9⟩) hH ?rzq9
            case hzq9 => (intro W' hSw; (try dsimp only at hSw); obtain ⟨s1, p0, p1, p2, p3, p4, p5, p6, p7, p8⟩ := hSw; go_simp; try with_reducible rfl)
            walk_nrm
            refine wpAnyH_ready (rs := [9]) (by kernel_rfl) (by simp) ?_
            refine AllReadyH.cons rfl (fun K hK => ?_) AllReadyH.nil
            rw [if_pos (by rfl)]
            go_simp
            refine (fn_order Fd hiS x.o).mono ?_
            rintro y w5 ⟨cd, M5, S5, rfl, hcd, F5, en5, et5, dn5, q5⟩
            have g5 : Chg [] W w5 := G1.trans F5.crw.ch (by simp)
            have X5 := (unhide HX0).chg g5 hbl
            have cg5 := (q5 gn i wgn lgd).trans hH.1
            have lgn5 := World.block_lt_of_cell? _ _ cg5
            unfold ansV
            refine hK.out _ _ ⟨cg5, X5⟩ (fun hH2 => ?_)
            clear hK K hH
            have hH := hH2
            clear hH2
            walk_nrm
            refine wpAnyH_take (i := 10) (v := ?_) rfl (by kernel_rfl) (by kernel_rfl) (by kernel_rfl) (fun _ _ _ h => h) (Or.inl ⟨by rfl, ?hzq10⟩) hH ?rzq10
            case hzq10 => (intro W' hSw; (try dsimp only at hSw); go_simp; try with_reducible rfl)
            walk_nrm
            refine wpAnyH_take (i := 11) (v := ?_) rfl (by kernel_rfl) (by kernel_rfl) (by kernel_rfl) (fun _ _ _ h => h) (Or.inl ⟨by rfl, ?hzq11⟩) hH ?rzq11
            case hzq11 => (intro W' hSw; (try dsimp only at hSw); go_simp; try with_reducible rfl)
            walk_nrm
            refine wpAnyH_done (by kernel_rfl) ?_ _
            refine NoPanic.normal ?_
            rw [← en5] at cg5
            clear en5 et5 q5
            obtain ⟨e05, l5⟩ := F5.c0
            have X5' := X5
            obtain ⟨p0, p1, p2, p3, p4, p5, p6, p7, p8⟩ := X5'
            have hbl5 := Nat.lt_of_lt_of_le hbl g5.size
            by_cases hx2 : x.d = 2
            · have bx : (x.d == 2) = true := by simpa using hx2
              clear hx2
              go_wp2_with fail
              have Fe : Fen w1 w5.drew m.cb m.db (.slice (some ⟨gn, 0, none⟩) kk cn) kk d1 nb' tb' n1 M5 S5 := F5.same ((Chg.refl [] w5).drew)
              have Xe := X5.chg ((Chg.refl [] w5).drew) (Nat.lt_of_lt_of_le hbl g5.size)
              have w5o : M5.own gn = 1 := F5.crw.orn gn (by rw [F5.ern]; rfl)
              have lge : gn < w5.drew.heap.size := lgn5
              refine wp_region_noPanic ?_
              refine wp_region_held_drew (S := (fun W => W.cell? ⟨gn, i, none⟩ = some (.pointer (some ⟨M5.nb i, 0, none⟩)) ∧ NsAt W bl (off + j * 9) x)) (by kernel_rfl) ⟨cg5, Xe⟩ (fun hH => ?_)
              refine wpAnyH_take (i := 0) (v := ?_) rfl (by kernel_rfl) (by kernel_rfl) (by kernel_rfl) (fun _ _ _ h => h) (Or.inl ⟨by rfl, ?hzq12⟩) hH ?rzq12
              case hzq12 => (intro W' hSw; (try dsimp only at hSw); go_simp; try with_reducible rfl)
              walk_nrm
              refine wpAnyH_take (i := 1) (v := ?_) rfl (by kernel_rfl) (by kernel_rfl) (by kernel_rfl) (fun _ _ _ h => h) (Or.inl ⟨by rfl, ?hzq13⟩) hH ?rzq13
              case hzq13 => (intro W' hSw; (try dsimp only at hSw); go_simp; try with_reducible rfl)
              walk_nrm
              refine wpAnyH_take (i := 2) (v := ?_) rfl (by kernel_rfl) (by kernel_rfl) (by kernel_rfl) (fun _ _ _ h => h) (Or.inl ⟨by rfl, ?hzq14⟩) hH ?rzq14
              case hzq14 => (intro W' hSw; (try dsimp only at hSw); go_simp; try with_reducible rfl)
              walk_nrm
              refine wpAnyH_take (i := 3) (v := ?_) rfl (by kernel_rfl) (by kernel_rfl) (by kernel_rfl) (fun _ _ _ h => h) (Or.inl ⟨by rfl, ?hzq15⟩) hH ?rzq15
              case hzq15 => (intro W' hSw; (try dsimp only at hSw); obtain ⟨s1, p0, p1, p2, p3, p4, p5, p6, p7, p8⟩ := hSw; go_simp; try with_reducible rfl)
              walk_nrm
              refine wpAnyH_take (i := 4) (v := ?_) rfl (by kernel_rfl) (by kernel_rfl) (by kernel_rfl) (fun _ _ _ h => h) (Or.inl ⟨by rfl, ?hzq16⟩) hH ?rzq16
              case hzq16 => (intro W' hSw; (try dsimp only at hSw); go_simp; try with_reducible rfl)
              walk_nrm
              refine wpAnyH_take (i := 5) (v := ?_) rfl (by kernel_rfl) (by kernel_rfl) (by kernel_rfl) (fun _ _ _ h => h) (Or.inl ⟨by rfl, ?hzq17⟩) hH ?rzq17
              case hzq17 => (intro W' hSw; (try dsimp only at hSw); go_simp; try with_reducible rfl)
              walk_nrm
              refine wpAnyH_take (i := 6) (v := ?_) rfl (by kernel_rfl) (by kernel_rfl) (by kernel_rfl) (fun _ _ _ h => h) (Or.inl ⟨by rfl, ?hzq18⟩) hH ?rzq18
              case hzq18 => (intro W' hSw; (try dsimp only at hSw); go_simp; try with_reducible rfl)
              walk_nrm
              refine wpAnyH_take (i := 7) (v := ?_) rfl (by kernel_rfl) (by kernel_rfl) (by kernel_rfl) (fun _ _ _ h => h) (Or.inl ⟨by rfl, ?hzq19⟩) hH ?rzq19
              case hzq19 => (intro W' hSw; (try dsimp only at hSw); go_simp; try with_reducible rfl)
              walk_nrm
              refine wpAnyH_take (i := 8) (v := ?_) rfl (by kernel_rfl) (by kernel_rfl) (by kernel_rfl) (fun _ _ _ h => h) (Or.inl ⟨by rfl, ?hzq20⟩) hH ?rzq20
              case hzq20 => (intro W' hSw; (try dsimp only at hSw); obtain ⟨s1, p0, p1, p2, p3, p4, p5, p6, p7, p8⟩ := hSw; go_simp; try with_reducible rfl)
              walk_nrm
              refine wpAnyH_take (i := 9) (v := ?_) rfl (by kernel_rfl) (by kernel_rfl) (by kernel_rfl) (fun _ _ _ h => h) (Or.inl ⟨by rfl, ?hzq21⟩) hH ?rzq21
              case hzq21 => (intro W' hSw; (try dsimp only at hSw); go_simp; try with_reducible rfl)
              walk_nrm
              refine wpAnyH_take (i := 10) (v := ?_) rfl (by kernel_rfl) (by kernel_rfl) (by kernel_rfl) (fun _ _ _ h => h) (Or.inl ⟨by rfl, ?hzq22⟩) hH ?rzq22
              case hzq22 => (intro W' hSw; (try dsimp only at hSw); go_simp; try with_reducible rfl)
              walk_nrm
              refine wpAnyH_take (i := 11) (v := ?_) rfl (by kernel_rfl) (by kernel_rfl) (by kernel_rfl) (fun _ _ _ h => h) (Or.inl ⟨by rfl, ?hzq23⟩) hH ?rzq23
              case hzq23 => (intro W' hSw; (try dsimp only at hSw); go_simp; try with_reducible rfl)
              walk_nrm
              refine wpAnyH_take (i := 12) (v := ?_) rfl (by kernel_rfl) (by kernel_rfl) (by kernel_rfl) (fun _ _ _ h => h) (Or.inl ⟨by rfl, ?hzq24⟩) hH ?rzq24
              case hzq24 => (intro W' hSw; (try dsimp only at hSw); go_simp; try with_reducible rfl)
              walk_nrm
              refine wpAnyH_take (i := 13) (v := ?_) rfl (by kernel_rfl) (by kernel_rfl) (by kernel_rfl) (fun _ _ _ h => h) (Or.inl ⟨by rfl, ?hzq25⟩) hH ?rzq25
              case hzq25 => (intro W' hSw; (try dsimp only at hSw); obtain ⟨s1, p0, p1, p2, p3, p4, p5, p6, p7, p8⟩ := hSw; go_simp; try with_reducible rfl)
              walk_nrm
              refine wpAnyH_ready (rs := [14]) (by kernel_rfl) (by simp) ?_
              refine AllReadyH.cons rfl (fun K hK => ?_) AllReadyH.nil
              rw [if_pos (by rfl)]
              go_simp
              refine (fn_tear Fe (F5.ek.symm ▸ hi) dn5 x.o x.keep).mono ?_
              rintro y w6 ⟨M6, S6, rfl, F6, en6, et6, dn6, q6⟩
              have g6 : Chg [] W w6 := G1.trans F6.crw.ch (by simp)
              have X6 := (unhide HX0).chg g6 hbl
              have cg6 := (q6 gn i w5o lge).trans hH.1
              refine hK.out _ _ ⟨cg6, X6⟩ (fun hH2 => ?_)
              clear hK K hH
              have hH := hH2
              clear hH2
              walk_nrm
              refine wpAnyH_take (i := 15) (v := ?_) rfl (by kernel_rfl) (by kernel_rfl) (by kernel_rfl) (fun _ _ _ h => h) (Or.inl ⟨by rfl, ?hzq26⟩) hH ?rzq26
              case hzq26 => (intro W' hSw; (try dsimp only at hSw); go_simp; try with_reducible rfl)
              walk_nrm
              refine wpAnyH_done (by kernel_rfl) ?_ _
              refine NoPanic.normal ?_
              rw [← en6] at cg6
              clear en6 et6 q6
              have lgn6 := World.block_lt_of_cell? _ _ cg6
              obtain ⟨e0', l6⟩ := F6.c0
              go_wp2_with (first
                | (go_at_call 25; refine (ndown_any (M6.nb i) (M6.tb i) M6.db (S6.ns i) _ (F6.crw.nod i (F6.ek.symm ▸ hi))).mono ?_; rintro e w6 ⟨rfl, rfl⟩; rw [dn6])
                | (go_at_call 17; refine (dbytes_any m.db d1.ep M6.v d1.l _ _ F6.dsk).mono ?_; rintro e w8 ⟨v8, rfl, own8, g8⟩; have hcv8 := kStr d1.l w8 v8 (own_sl own8); have F8 := F6.same g8; obtain ⟨e0, l8⟩ := F8.c0; clear own8 g8)
                | (go_at_call 15; refine (depoch_any m.db d1.ep M6.v d1.l _ _ F8.dsk).mono ?_; rintro e w8 ⟨rfl, rfl⟩)
                | (go_at_call 26; refine (nepoch_any nb' tb' m.db n1 _ F8.en).mono ?_; rintro e w8 ⟨rfl, rfl⟩))
              go_roundw
              case rel => exact ⟨j + 1, M6, S6, by omega, by go_num, F8⟩
              case measure => go_light; simp [intOf]; omega
            · have bx : (x.d == 2) = false := by simpa using hx2
              clear hx2
              rcases hcd with rfl | rfl
              · go_wp2_with (first
                  | (go_at_call 25; refine (ndown_any (M5.nb i) (M5.tb i) M5.db (S5.ns i) _ (F5.crw.nod i (F5.ek.symm ▸ hi))).mono ?_; rintro e w5 ⟨rfl, rfl⟩; rw [dn5])
                  | (go_at_call 17; refine (dbytes_any m.db d1.ep M5.v d1.l _ _ F5.dsk).mono ?_; rintro e w8 ⟨v8, rfl, own8, g8⟩; have hcv8 := kStr d1.l w8 v8 (own_sl own8); have F8 := F5.same g8; obtain ⟨e0, l8⟩ := F8.c0; clear own8 g8)
                  | (go_at_call 15; refine (depoch_any m.db d1.ep M5.v d1.l _ _ F8.dsk).mono ?_; rintro e w8 ⟨rfl, rfl⟩)
                  | (go_at_call 26; refine (nepoch_any nb' tb' m.db n1 _ F8.en).mono ?_; rintro e w8 ⟨rfl, rfl⟩))
                go_roundw
                case rel => exact ⟨j + 1, M5, S5, by omega, by go_num, F8⟩
                case measure => go_light; simp [intOf]; omega
              · go_wp2_with (first
                  | (go_at_call 25; refine (ndown_any (M5.nb i) (M5.tb i) M5.db (S5.ns i) _ (F5.crw.nod i (F5.ek.symm ▸ hi))).mono ?_; rintro e w5 ⟨rfl, rfl⟩; rw [dn5])
                  | (go_at_call 17; refine (dbytes_any m.db d1.ep M5.v d1.l _ _ F5.dsk).mono ?_; rintro e w8 ⟨v8, rfl, own8, g8⟩; have hcv8 := kStr d1.l w8 v8 (own_sl own8); have F8 := F5.same g8; obtain ⟨e0, l8⟩ := F8.c0; clear own8 g8)
                  | (go_at_call 15; refine (depoch_any m.db d1.ep M5.v d1.l _ _ F8.dsk).mono ?_; rintro e w8 ⟨rfl, rfl⟩)
                  | (go_at_call 26; refine (nepoch_any nb' tb' m.db n1 _ F8.en).mono ?_; rintro e w8 ⟨rfl, rfl⟩))
                go_roundw
                case rel => exact ⟨j + 1, M5, S5, by omega, by go_num, F8⟩
                case measure => go_light; simp [intOf]; omega
        · have dj : decide ((j : Int) < (len2 : Int)) = false := by simp; omega
          go_wp2_with (go_at_call 25; refine (ndown_any nb' tb' _ _ _ F.en).mono ?_; rintro e w8 ⟨rfl, rfl⟩; rw [hn1])
          go_ret
          exact ⟨rfl, G1.trans F.crw.ch (by simp)⟩

end Go.Proofs.Ytafbacijfiodhab

namespace Go.Proofs.Ytafbacijfiodhab
open Go.ChangeShapes Go.WideShapes Go.ChangeAt Go.RowKit

set_option maxRecDepth 100000 in
theorem nfenced_lifted (os : Os) (started : os.Started) (H : Type) (enc : TypeId × Value → H) :
    ReturnsInHanded {} Try.checked os 6 .any (Rows.nodeFencedSpec.pre6 enc Try.prog Try.f6 Rows.nodeFencedRow.domain false) (Rows.nodeFencedSpec.post enc Try.prog Try.f6 false true false false) := by
  refine returnsInHanded_of_change (C := Try.checked) ownK started (by kernel_rfl) Try.func6
    (ChangeSpec.witness6 (enc := enc) (C := Try.checked) false ⟨#[], #[.slice none 0 0, .slice none 0 0, .slice none 0 0], []⟩ 8 (by kernel_rfl) (by kernel_rfl) (by kernel_rfl) (by kernel_rfl)) ?_
  intro W base args ds gs before hval0 hW hcnd _
  have hval : ∀ (j : Nat) t v, Try.f6.params[j]? = some t → args[j]? = some v → Value.okWide Try.prog W .any base t v := hval0
  have hW' := hW
  obtain ⟨p, q, hA0, hV, rfl, hfz, hnd⟩ := hW
  have hA : DataW.TrodAll enc Try.prog W 0 (fun _ => true) true Try.f6.params.toList args.toList ds p := hA0
  rw [Try.params6] at hA hval
  obtain ⟨v0, vs0, d0, ds0, p0, q0, hargs, rfl, rfl, h0, r0⟩ := trodAll_cons hA
  obtain ⟨v1, vs1, d1, ds1, p1, q1, rfl, rfl, rfl, h1, r1⟩ := trodAll_cons r0
  obtain ⟨v2, vs2, d2, ds2, p2, q2, rfl, rfl, rfl, h2, r2⟩ := trodAll_cons r1
  obtain ⟨rfl, rfl, rfl⟩ := trodAll_nil r2
  obtain rfl : args = #[v0, v1, v2] := by cases args; simp_all
  obtain ⟨rfl, rfl⟩ := trodVars_none hV
  obtain ⟨a0, len0, cap0, rfl⟩ := okWide_slice Try.underlying27 (hval 0 27 v0 rfl rfl)
  have k0 := h0
  have lt0 : ∀ x ∈ p0, x.block < W.heap.size := by obtain ⟨m, hm⟩ := k0; exact DataW.trod_lt m _ _ _ hm
  obtain ⟨z0, w0, y0⟩ : ∃ l, Sl W (.slice a0 len0 cap0) l ∧ okB l := by
    obtain ⟨fuel, hf⟩ := h0
    have hf2 : DataW.trod enc Try.prog W 0 (fun _ => true) true fuel 27 [.slice a0 len0 cap0] = some (d0, p0) := by simpa [Value.cells] using hf
    obtain ⟨v9, l9, e9, h9, g9⟩ := sl_of_trod hf2
    simp at e9
    subst e9
    exact ⟨l9, h9, g9⟩
  obtain ⟨a1, len1, cap1, rfl⟩ := okWide_slice Try.underlying38 (hval 1 38 v1 rfl rfl)
  have k1 := h1
  have lt1 : ∀ x ∈ p1, x.block < W.heap.size := by obtain ⟨m, hm⟩ := k1; exact DataW.trod_lt m _ _ _ hm
  obtain ⟨z1, w1⟩ : ∃ fs, Nss W a1 len1 fs := by
    obtain ⟨fuel, hf⟩ := h1
    exact nss_of_trod (by simpa [Value.cells] using hf)
  obtain ⟨a2, len2, cap2, rfl⟩ := okWide_slice Try.underlying38 (hval 2 38 v2 rfl rfl)
  have k2 := h2
  have lt2 : ∀ x ∈ p2, x.block < W.heap.size := by obtain ⟨m, hm⟩ := k2; exact DataW.trod_lt m _ _ _ hm
  obtain ⟨z2, w2⟩ : ∃ fs, Nss W a2 len2 fs := by
    obtain ⟨fuel, hf⟩ := h2
    exact nss_of_trod (by simpa [Value.cells] using hf)
  clear hA0 hval0
  refine (nfenced_any (.slice a0 len0 cap0) z0 a1 len1 cap1 z1 a2 len2 cap2 z2 W w0 y0 w1 w2).mono fun e W' ⟨he, hch⟩ => ?_
  have bel := hch.below
  subst he
  exact ⟨_, rfl, _, _, _, [], _, [], hW', trodAll_mk1 (shut_bool Try.underlying4 _), (trodAll_cons_mk (Below.trod laidOutK (by kernel_rfl) (of_decide_eq_true (by kernel_rfl)) k0 bel lt0) (trodAll_cons_mk (Below.trod laidOutK (by kernel_rfl) (of_decide_eq_true (by kernel_rfl)) k1 bel lt1) (trodAll_cons_mk (Below.trod laidOutK (by kernel_rfl) (of_decide_eq_true (by kernel_rfl)) k2 bel lt2) trodAll_mk0))), rfl, bel.frame _, fun h => by cases h⟩

theorem nfenced_holds : Rows.NodeFencedSaid :=
  OpenClaim.holds_of_wide 6 Try.f6 rfl rfl rfl rfl rfl rfl rfl ⟨rfl, rfl, rfl, rfl, rfl⟩ rfl rfl rfl rfl rfl (by kernel_rfl) Try.func6 (by kernel_rfl)
    (of_decide_eq_true (by kernel_rfl)) (by unfold Func.isWrapper; first | (rw [if_pos (by decide +kernel)]; kernel_rfl) | (rw [if_neg (by decide +kernel)]; exact ⟨rfl, rfl⟩))
    (fun os started H enc _ => nfenced_lifted os started H enc)

end Go.Proofs.Ytafbacijfiodhab

