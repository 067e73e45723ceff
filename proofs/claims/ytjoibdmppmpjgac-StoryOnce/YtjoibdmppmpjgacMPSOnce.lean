/- For all steps the law StoryOnce returns true, and leaves them as they were; no condition. -/
import Derived.BigQuiet
import Derived.Test.YtjoibdmppmpjgacMgGA
import Derived.Test.YtjoibdmppmpjgacMgS2
import Derived.Test.YtjoibdmppmpjgacMgBegun
import Derived.Test.YtjoibdmppmpjgacMgKF0
namespace Go.Proofs.Ytjoibdmppmpjgac
open Go.RowKit

set_option maxRecDepth 100000 in
set_option maxHeartbeats 8000000 in
theorem sonce_any (a : Option Addr) (len cap : Nat) (fs : Nat → Sp) (W : World) (h : Sps W a len fs) :
    Calls Try.prog 6 #[.slice a len cap] W fun e w' => e = .returned (.bool true) ∧ Chg [] W w' := by
  have HH := hide h
  clear h
  by_cases hbig : 300 < len
  · have d1 : decide ((300 : Int) < (len : Int)) = true := by simp; omega
    go_enter Try.func6, Try.ntmps6
    go_wp2_with (go_at_call 7; refine (sbegun_any _).mono ?_; rintro e w1 ⟨rfl, G1⟩)
    go_ret
    exact ⟨rfl, G1⟩
  have d1 : decide ((300 : Int) < (len : Int)) = false := by simp; omega
  go_enter Try.func6, Try.ntmps6
  go_wp2_with (first
    | (go_at_call 7; refine (sbegun_any _).mono ?_; rintro e w1 ⟨rfl, G1⟩)
    | (go_at_call 18; refine (gnew_any _).mono ?_; rintro e w2 ⟨m0, rfl, C0⟩))
  obtain ⟨gb, hgb0⟩ : ∃ gb, m0.gb = gb := ⟨_, rfl⟩
  rw [hgb0]
  have HC0 := hide C0
  clear C0
  go_loopw [4] (fun i wr => ∃ (k : Nat) (m : Gm) (s : Gd), k ≤ len ∧ i = .int .i64 k ∧ Gld w1 wr m s ∧ m.gb = gb) (fun i _ => len - (intOf i).toNat)
  case atStart =>
    exact ⟨0, m0, G0, by omega, rfl, unhide HC0, hgb0⟩
  case round =>
    obtain ⟨k, m, s, hkl, rfl, C, hgb⟩ := hrel
    clear HC0 hgb0
    by_cases hlt : k < len
    · have hki : (k : Int) < (len : Int) := by omega
      have hk0 : (0 : Int) ≤ (k : Int) := by omega
      rcases unhide HH with h0 | ⟨bl, off, rfl, hbl, hO⟩
      · omega
      have GW := G1.trans C.ch (by simp)
      obtain ⟨p0, p1, p2, p3, p4, p5, p6, p7, p8⟩ := (hO k hlt).chg GW hbl
      have lbl := Nat.lt_of_lt_of_le hbl GW.size
      clear hO
      have HC := hide C
      clear C
      go_wp2_with (go_at_call 19; refine (gstep_at w1 m s (fs k) gb _ (unhide HC) hgb).mono ?_; rintro e w3 ⟨rfl, m3, X3⟩)
      go_roundw
      case rel => exact ⟨k + 1, m3, _, by omega, by go_num, X3.g, X3.gb.trans hgb⟩
      case measure => go_light; simp [intOf]; omega
    · have hki : ¬ (k : Int) < (len : Int) := by omega
      obtain ⟨rs, t, PL⟩ := C.pl
      have HPL := hide PL
      have HR := hide PL.recs
      have hlen := PL.len
      obtain ⟨cd, lg⟩ := C.disk hgb
      have HK := hide C.dsk.ok
      have few := C.dsk.few
      have HC := hide C
      have GW : Chg [] W wr := G1.trans C.ch (by simp)
      clear C PL
      obtain ⟨n, hn⟩ : ∃ n, n = rs.length := ⟨_, rfl⟩
      rw [← hn] at hlen
      have HN := hide hn
      have hn1 : n ≤ 1500 := by have h7 : s.d.l.length ≤ 1500 := few; omega
      clear hn hlen
      go_wp2_with fail
      refine (dbytes_any m.db s.d.ep m.v s.d.l _ _ (unhide HC).dsk).mono ?_
      rintro e w5 ⟨v5, rfl, own5, g5⟩
      obtain ⟨a5, c5, rfl, hc5, hB5⟩ := sl_byt (own_sl own5) (unhide HK)
      have HC5 := hide ((unhide HC).keep g5 (by simp))
      clear own5 cd lg
      go_wp2_with fail
      refine (of_any a5 s.d.l.length c5 (getB s.d.l) _ (by omega) hc5 hB5).mono ?_
      rintro e w6 ⟨v6, rfl, own6, g6⟩
      rw [recsL_all, unhide HR, ← unhide HN] at own6
      obtain ⟨a6, c6, rfl, hc6, E6⟩ := own_evs own6 (by rw [evs_len]; exact unhide HN)
      have HE6 := hide E6
      have HC6 := hide ((unhide HC5).keep g6 (by simp))
      have G6 : Chg [] W w6 := (GW.trans g5 (by simp)).trans g6 (by simp)
      clear own6 E6 g5 g6 HC5 hB5 hc5 GW
      have HACC := hide (unhide HPL).acc
      have HGD := hide (goodF_one (unhide HPL).good)
      have HRLE := hide (unhide HPL).rle
      clear HPL HC
      go_wp2_with fail
      have k8 : Chg [] w6 ((w6.alloc (.cells #[.int .i64 0, .int .i64 0, .int .i64 0, .int .i64 0, .int .i64 0, .int .i64 0] 74)).alloc (.cells #[.int .i64 0, .int .i64 0, .int .i64 0, .int .i64 0, .int .i64 0, .int .i64 0] 74)) := ((Chg.refl [] w6).alloc _).alloc _
      obtain ⟨m7, C7, hgb7, -, -, -, -, hown7, -⟩ := (unhide HC6).alien k8
      replace hgb7 := hgb7.trans hgb
      have oA := hown7 w6.heap.size (Nat.le_refl _)
      have oB := hown7 (w6.heap.size + 1) (by omega)
      have z6 := (unhide HC6).ch.size
      have J1 : Ints6 74 ((w6.alloc (.cells #[.int .i64 0, .int .i64 0, .int .i64 0, .int .i64 0, .int .i64 0, .int .i64 0] 74)).alloc (.cells #[.int .i64 0, .int .i64 0, .int .i64 0, .int .i64 0, .int .i64 0, .int .i64 0] 74)) w6.heap.size (fun _ => 0) := (Blk.new w6 _ _).alloc _
      have J2 : Ints6 74 ((w6.alloc (.cells #[.int .i64 0, .int .i64 0, .int .i64 0, .int .i64 0, .int .i64 0, .int .i64 0] 74)).alloc (.cells #[.int .i64 0, .int .i64 0, .int .i64 0, .int .i64 0, .int .i64 0, .int .i64 0] 74)) (w6.heap.size + 1) (fun _ => 0) := Blk.new1 w6 _ _ _
      have E8 := (unhide HE6).chg k8
      have lE8 : ∀ bl off, a6 = some ⟨bl, off, none⟩ → n = 0 ∨ bl < w6.heap.size := fun bl off e => by
        rcases unhide HE6 with h | ⟨b', o', e', hb', -⟩
        · exact .inl h
        · rw [e] at e'; cases e'; exact .inr hb'
      have G8 := G6.trans k8 (by simp)
      have HE8 := hide E8
      have HC8 := hide C7
      clear k8 C7 hown7 E8 HC6 HE6 G6
      generalize hW8 : (w6.alloc (.cells #[.int .i64 0, .int .i64 0, .int .i64 0, .int .i64 0, .int .i64 0, .int .i64 0] 74)).alloc (.cells #[.int .i64 0, .int .i64 0, .int .i64 0, .int .i64 0, .int .i64 0, .int .i64 0] 74) = w8 at *
      clear hW8
      go_loopw [8, 9] (fun la i wr => ∃ j : Nat, j ≤ n ∧ i = .int .i64 j ∧ la = .int .i64 (lastE 1 (rs.take j)) ∧ Ints6 74 wr w6.heap.size (fun q => addI ((behindT (rs.take j)).js q)) ∧ Ints6 74 wr (w6.heap.size + 1) (fun q => doneI ((behindT (rs.take j)).js q)) ∧ Chg [w6.heap.size, w6.heap.size + 1] w8 wr) (fun _ i _ => n - (intOf i).toNat)
      case atStart => exact ⟨0, by omega, rfl, rfl, J1.congr (fun _ _ => rfl), J2.congr (fun _ _ => rfl), Chg.refl _ _⟩
      case round =>
        clear J1 J2
        obtain ⟨j, hj, rfl, rfl, I1, I2, hG⟩ := hrel
        by_cases hlt : j < n
        · have hji : (j : Int) < (n : Int) := by omega
          have hj0 : (0 : Int) ≤ (j : Int) := by omega
          rcases unhide HE8 with h0 | ⟨be, oe, rfl, hbe, hO⟩
          · omega
          have hbe6 : be < w6.heap.size := by rcases lE8 be oe rfl with h | h <;> omega
          obtain ⟨q, e, hq6, he, hek, hl1, hl2, hmem, hd0, ha1, hadd, hdone, hoth⟩ := once_at (unhide HACC) (unhide HGD) (k := j) (by rw [← unhide HN]; exact hlt)
          have hX := (hO j hlt).chg hG hbe (by simp; omega)
          rw [he] at hX
          obtain ⟨p0, p1, p2, p3, p4, p5, p6, p7, p8, p9, -, -, -, -⟩ := hX.all
          have hbe' := Nat.lt_of_lt_of_le hbe hG.size
          have hep := unhide HRLE e.r hmem
          have HADD := hide (once_add (k := e.r.o.k) ha1 hoth hadd)
          have HDONE := hide (once_done (k := e.r.o.k) hd0 hoth hdone)
          have i1 := I1.c hq6
          have i2 := I2.c hq6
          have f1 := Blk.fz I1 q
          have f2 := Blk.fz I2 q
          have l1 := Blk.lt I1
          have l2 := Blk.lt I2
          have C9 := (unhide HC8).keep hG (by simp; exact ⟨⟨oA, z6⟩, oB, by omega⟩)
          obtain ⟨cd9, lg9⟩ := C9.disk hgb7
          have HD9 := hide C9.dsk
          have HL2 := hide hl2
          have HEK := hide hek
          have HI1 := hide I1
          have HI2 := hide I2
          simp only [hd0] at i2
          have q0 : decide ((q : Int) < 0) = false := by simp
          have q6 : decide ((6 : Int) ≤ (q : Int)) = false := by simp; omega
          have qn0 : (0 : Int) ≤ (q : Int) := by omega
          have qn6 : (q : Int) < 6 := by omega
          have y1 : decide (e.r.ep < lastE 1 (rs.take j)) = false := by simp; omega
          have y2 : decide (s.d.ep < e.r.ep) = false := by simp; omega
          clear hO hX he hek hl1 hl2 hmem hd0 ha1 hadd hdone hoth I1 I2 C9 hep
          generalize lastE 1 (rs.take j) = la at *
          by_cases h2 : e.r.o.k = 2
          · have h1 : ¬ e.r.o.k = 1 := by omega
            have h4 : ¬ e.r.o.k = 4 := by omega
            have b2 : (e.r.o.k == 2) = true := by simpa using h2
            have b1 : (e.r.o.k == 1) = false := by simpa using h1
            have b4 : (e.r.o.k == 4) = false := by simpa using h4
            have HQ := hide (evK_take (unhide HEK) h2)
            rw [unhide HQ] at p8
            obtain ⟨hA1, hA2⟩ := (unhide HADD).2 h1
            have hD2 := (unhide HDONE).2 h4
            rw [hA1] at i1
            have HA2 := hide hA2
            have HD2 := hide hD2
            clear h1 h2 h4 hA1 hA2 hD2
            go_wp2_with fail
            go_quiet ((go_at_call 24; exact Calls.quiet_of_same (depoch_any m7.db s.d.ep m7.v s.d.l w1.heap.size _ (((unhide HD9).alloc _).chg ((Chg.refl [] _).drewN _) (by simp)))))
            go_wp2
            go_roundw
            case rel =>
              have kA := ((Chg.refl [] wr).alloc (.cells #[.int .i64 e.r.o.k, .int .i64 e.r.o.now, .int .i64 e.r.o.jb, .int .i64 e.r.o.tr, .int .i64 e.r.o.wk, .int .i64 e.r.o.tm] 29)).drewN nq
              exact ⟨j + 1, by omega, by go_num, by rw [unhide HL2], Ints6.congr ((unhide HI1).chg kA (by simp)) (unhide HA2), Ints6.congr ((unhide HI2).chg kA (by simp)) (unhide HD2), hG.trans (kA.wide (by simp)) (fun x hx => .inl hx)⟩
            case measure => go_light; simp [intOf]; omega
          · by_cases h1 : e.r.o.k = 1
            · have h4 : ¬ e.r.o.k = 4 := by omega
              have b2 : (e.r.o.k == 2) = false := by simpa using h2
              have b1 : (e.r.o.k == 1) = true := by simpa using h1
              have b4 : (e.r.o.k == 4) = false := by simpa using h4
              have HQ := hide (evK_else (unhide HEK) h2)
              rw [unhide HQ] at p3
              obtain ⟨hA1, hA2⟩ := (unhide HADD).1 h1
              have hD2 := (unhide HDONE).2 h4
              rw [hA1] at i1
              have HA2 := hide hA2
              have HD2 := hide hD2
              clear h1 h2 h4 hA1 hA2 hD2
              go_wp2_with fail
              go_quiet ((go_at_call 24; exact Calls.quiet_of_same (depoch_any m7.db s.d.ep m7.v s.d.l w1.heap.size _ (((unhide HD9).alloc _).chg ((Chg.refl [] _).drewN _) (by simp)))))
              go_wp2
              go_roundw
              case rel =>
                have kA := (((Chg.refl [w6.heap.size, w6.heap.size + 1] wr).alloc (.cells #[.int .i64 e.r.o.k, .int .i64 e.r.o.now, .int .i64 (q : Int), .int .i64 e.r.o.tr, .int .i64 e.r.o.wk, .int .i64 e.r.o.tm] 29)).drewN nq).setCell (p := ⟨w6.heap.size, q, none⟩) (by simp) (.int .i64 1)
                exact ⟨j + 1, by omega, by go_num, by rw [unhide HL2], Ints6.congr ((((unhide HI1).chg (((Chg.refl [] wr).alloc (.cells #[.int .i64 e.r.o.k, .int .i64 e.r.o.now, .int .i64 (q : Int), .int .i64 e.r.o.tr, .int .i64 e.r.o.wk, .int .i64 e.r.o.tm] 29)).drewN nq) (by simp))).set hq6 1) (unhide HA2), Ints6.congr ((unhide HI2).chg ((((Chg.refl [w6.heap.size] wr).alloc (.cells #[.int .i64 e.r.o.k, .int .i64 e.r.o.now, .int .i64 (q : Int), .int .i64 e.r.o.tr, .int .i64 e.r.o.wk, .int .i64 e.r.o.tm] 29)).drewN nq).setCell (p := ⟨w6.heap.size, q, none⟩) (by simp) (.int .i64 1)) (by simp)) (unhide HD2), hG.trans kA (fun x hx => .inl hx)⟩
              case measure => go_light; simp [intOf]; omega
            · by_cases h4 : e.r.o.k = 4
              · skip
                have b2 : (e.r.o.k == 2) = false := by simpa using h2
                have b1 : (e.r.o.k == 1) = false := by simpa using h1
                have b4 : (e.r.o.k == 4) = true := by simpa using h4
                have HQ := hide (evK_else (unhide HEK) h2)
                rw [unhide HQ] at p3
                obtain ⟨hA1, hA2⟩ := (unhide HADD).2 h1
                have hD2 := (unhide HDONE).1 h4
                rw [hA1] at i1
                have HA2 := hide hA2
                have HD2 := hide hD2
                clear h1 h2 h4 hA1 hA2 hD2
                go_wp2_with fail
                go_quiet ((go_at_call 24; exact Calls.quiet_of_same (depoch_any m7.db s.d.ep m7.v s.d.l w1.heap.size _ (((unhide HD9).alloc _).chg ((Chg.refl [] _).drewN _) (by simp)))))
                go_wp2
                go_roundw
                case rel =>
                  have kA := (((Chg.refl [w6.heap.size, w6.heap.size + 1] wr).alloc (.cells #[.int .i64 e.r.o.k, .int .i64 e.r.o.now, .int .i64 (q : Int), .int .i64 e.r.o.tr, .int .i64 e.r.o.wk, .int .i64 e.r.o.tm] 29)).drewN nq).setCell (p := ⟨w6.heap.size + 1, q, none⟩) (by simp) (.int .i64 1)
                  exact ⟨j + 1, by omega, by go_num, by rw [unhide HL2], Ints6.congr ((unhide HI1).chg ((((Chg.refl [w6.heap.size + 1] wr).alloc (.cells #[.int .i64 e.r.o.k, .int .i64 e.r.o.now, .int .i64 (q : Int), .int .i64 e.r.o.tr, .int .i64 e.r.o.wk, .int .i64 e.r.o.tm] 29)).drewN nq).setCell (p := ⟨w6.heap.size + 1, q, none⟩) (by simp) (.int .i64 1)) (by simp)) (unhide HA2), Ints6.congr ((((unhide HI2).chg (((Chg.refl [] wr).alloc (.cells #[.int .i64 e.r.o.k, .int .i64 e.r.o.now, .int .i64 (q : Int), .int .i64 e.r.o.tr, .int .i64 e.r.o.wk, .int .i64 e.r.o.tm] 29)).drewN nq) (by simp))).set hq6 1) (unhide HD2), hG.trans kA (fun x hx => .inl hx)⟩
                case measure => go_light; simp [intOf]; omega
              · skip
                have b2 : (e.r.o.k == 2) = false := by simpa using h2
                have b1 : (e.r.o.k == 1) = false := by simpa using h1
                have b4 : (e.r.o.k == 4) = false := by simpa using h4
                have HQ := hide (evK_else (unhide HEK) h2)
                rw [unhide HQ] at p3
                obtain ⟨hA1, hA2⟩ := (unhide HADD).2 h1
                have hD2 := (unhide HDONE).2 h4
                rw [hA1] at i1
                have HA2 := hide hA2
                have HD2 := hide hD2
                clear h1 h2 h4 hA1 hA2 hD2
                go_wp2_with fail
                go_quiet ((go_at_call 24; exact Calls.quiet_of_same (depoch_any m7.db s.d.ep m7.v s.d.l w1.heap.size _ (((unhide HD9).alloc _).chg ((Chg.refl [] _).drewN _) (by simp)))))
                go_wp2
                go_roundw
                case rel =>
                  have kA := ((Chg.refl [] wr).alloc (.cells #[.int .i64 e.r.o.k, .int .i64 e.r.o.now, .int .i64 (q : Int), .int .i64 e.r.o.tr, .int .i64 e.r.o.wk, .int .i64 e.r.o.tm] 29)).drewN nq
                  exact ⟨j + 1, by omega, by go_num, by rw [unhide HL2], Ints6.congr ((unhide HI1).chg kA (by simp)) (unhide HA2), Ints6.congr ((unhide HI2).chg kA (by simp)) (unhide HD2), hG.trans (kA.wide (by simp)) (fun x hx => .inl hx)⟩
                case measure => go_light; simp [intOf]; omega
        · have hji : ¬ (j : Int) < (n : Int) := by omega
          have C9 := (unhide HC8).keep hG (by simp; exact ⟨⟨oA, z6⟩, oB, by omega⟩)
          have GE := G1.trans C9.ch (by simp)
          clear C9
          go_wp2
          go_ret
          exact ⟨rfl, GE⟩
end Go.Proofs.Ytjoibdmppmpjgac

namespace Go.Proofs.Ytjoibdmppmpjgac
open Go.ChangeShapes Go.WideShapes Go.ChangeAt Go.RowKit

set_option maxRecDepth 100000 in
theorem sonce_lifted (os : Os) (started : os.Started) (H : Type) (enc : TypeId × Value → H) :
    ReturnsInHanded {} Try.checked os 6 .any (Rows.storyOnceSpec.pre6 enc Try.prog Try.f6 Rows.storyOnceRow.domain false) (Rows.storyOnceSpec.post enc Try.prog Try.f6 false true false false) := by
  refine returnsInHanded_of_change (C := Try.checked) ownK started (by kernel_rfl) Try.func6
    (ChangeSpec.witness6 (enc := enc) (C := Try.checked) false ⟨#[], #[.slice none 0 0], []⟩ 8 (by kernel_rfl) (by kernel_rfl) (by kernel_rfl) (by kernel_rfl)) ?_
  intro W base args ds gs before hval0 hW hcnd _
  have hval : ∀ (j : Nat) t v, Try.f6.params[j]? = some t → args[j]? = some v → Value.okWide Try.prog W .any base t v := hval0
  have hW' := hW
  obtain ⟨p, q, hA0, hV, rfl, hfz, hnd⟩ := hW
  have hA : DataW.TrodAll enc Try.prog W 0 (fun _ => true) true Try.f6.params.toList args.toList ds p := hA0
  rw [Try.params6] at hA hval
  obtain ⟨v0, vs0, d0, ds0, p0, q0, hargs, rfl, rfl, h0, r0⟩ := trodAll_cons hA
  obtain ⟨rfl, rfl, rfl⟩ := trodAll_nil r0
  obtain rfl : args = #[v0] := by cases args; simp_all
  obtain ⟨rfl, rfl⟩ := trodVars_none hV
  obtain ⟨a0, len0, cap0, rfl⟩ := okWide_slice Try.underlying54 (hval 0 54 v0 rfl rfl)
  have k0 := h0
  have lt0 : ∀ x ∈ p0, x.block < W.heap.size := by obtain ⟨m, hm⟩ := k0; exact DataW.trod_lt m _ _ _ hm
  obtain ⟨z0, w0⟩ : ∃ fs, Sps W a0 len0 fs := by
    obtain ⟨fuel, hf⟩ := h0
    exact sps_of_trod (by simpa [Value.cells] using hf)
  clear hA0 hval0
  refine (sonce_any a0 len0 cap0 z0 W w0).mono fun e W' ⟨he, hch⟩ => ?_
  have bel := hch.below
  subst he
  exact ⟨_, rfl, _, _, _, [], _, [], hW', trodAll_mk1 (shut_bool Try.underlying4 _), (trodAll_cons_mk (Below.trod laidOutK (by kernel_rfl) (of_decide_eq_true (by kernel_rfl)) k0 bel lt0) trodAll_mk0), rfl, bel.frame _, fun h => by cases h⟩

theorem sonce_holds : Rows.StoryOnceSaid :=
  OpenClaim.holds_of_wide 6 Try.f6 rfl rfl rfl rfl rfl rfl rfl ⟨rfl, rfl, rfl, rfl, rfl⟩ rfl rfl rfl rfl rfl (by kernel_rfl) Try.func6 (by kernel_rfl)
    (of_decide_eq_true (by kernel_rfl)) (by unfold Func.isWrapper; first | (rw [if_pos (by decide +kernel)]; kernel_rfl) | (rw [if_neg (by decide +kernel)]; exact ⟨rfl, rfl⟩))
    (fun os started H enc _ => sonce_lifted os started H enc)

end Go.Proofs.Ytjoibdmppmpjgac

