/-
  What the document's own RecordsOf does. Nothing here is claimed by itself.
-/
import Derived.Test.YtllnjiljjodfdacGreatDoorMD2
namespace Go.Proofs.YtllnjiljjodfdacGreatDoor
open Go.RowKit

theorem lastE_snoc : ∀ (rs : List Rc) (ep : Int) (r : Rc), lastE ep (rs ++ [r]) = r.ep
  | [], _, _ => rfl
  | q :: t, _, r => lastE_snoc t q.ep r
theorem Byt.dropA {w : World} {a : Option Addr} {n j : Nat} {f : Nat → Int} (h : Byt w a n f) :
    Byt w (Option.map (fun x => x.add j) a) (n - j) (fun i => f (i + j)) := by
  obtain ⟨h1, h2⟩ := h
  refine ⟨fun i hi => h1 (i + j) (by omega), ?_⟩
  rcases h2 with h2 | ⟨b, off, rfl, hb, hc⟩
  · exact .inl (by omega)
  · have e : ((⟨b, off, none⟩ : Addr).add j) = ⟨b, off + j, none⟩ := by unfold Addr.add; split <;> simp_all
    refine .inr ⟨b, off + j, by simp [e], hb, fun i hi => ?_⟩
    have := hc (i + j) (by omega)
    rw [show off + j + i = off + (i + j) by omega]
    exact this

set_option maxRecDepth 100000 in
set_option maxHeartbeats 4000000 in
theorem rsof_any (a : Option Addr) (n cap : Nat) (f : Nat → Int) (w : World) (hn4 : n ≤ 4000) (hcap : n ≤ cap) (h : Byt w a n f) :
    Calls Tryz.prog 69 #[.slice a n cap] w fun e w' => ∃ v, e = .returned v ∧ w'.ownsRow w.heap.size 110 7 v (allR n f).length (cellsR (allR n f)) ∧ Chg [] w w' := by
  obtain ⟨i0, hi, hz0, hz1, hz2⟩ := info_parts recInfo3
  have HB := hide h
  clear h
  go_enter Tryz.func69, Tryz.ntmps69
  go_wp2_with fail
  go_loopw [3, 4] (fun v i wr => ∃ (k fu : Nat) (rs : List Rc), rs.length = k ∧ k * 9 ≤ n ∧ n - k * 9 < fu * 9 ∧ i = .int .i64 ((k * 9 : Nat) : Int) ∧
      allR n f = rs ++ allF fu (lastE 0 rs) (n - k * 9) (fun i => f (i + k * 9)) ∧ wr.ownsRow w.heap.size 110 7 v k (cellsR rs) ∧ Chg [] w wr) (fun _ i _ => n - (intOf i).toNat)
  case atStart => exact ⟨0, n + 1, [], rfl, by omega, by omega, rfl, rfl, World.ownsRow_nil _ _ _ _, Chg.refl _ _⟩
  case round =>
    obtain ⟨k, fu, rs, hk, hkn, hfu, rfl, hall, hown, hG⟩ := hrel
    have HK := hide hk
    have HALL := hide hall
    clear hk hall
    obtain ⟨fu, rfl⟩ : ∃ x, fu = x + 1 := ⟨fu - 1, by omega⟩
    obtain ⟨av, cv, rfl, hcv, hav, hRv⟩ := own_recs hown (unhide HK).symm
    obtain ⟨j, hj⟩ : ∃ j, j = k * 9 := ⟨_, rfl⟩
    rw [← hj] at hkn hfu HALL ⊢
    have HJ := hide hj
    clear hj
    have hji : (j : Int) ≤ (n : Int) := by omega
    have hjc : (j : Int) ≤ (cap : Int) := by omega
    have hj4 : j ≤ 4000 := by omega
    have hd : Hid (allF (fu + 1) (lastE 0 rs) (n - j) (fun i => f (i + j)) = if (dec (n - j) (fun i => f (i + j))).2 ≠ 0 ∨ (dec (n - j) (fun i => f (i + j))).1.ep < lastE 0 rs then [] else (dec (n - j) (fun i => f (i + j))).1 :: allF fu (dec (n - j) (fun i => f (i + j))).1.ep (n - j - 9) (fun i => f (i + 9 + j))) := hide rfl
    by_cases hcj : cap = j
    · have hnj : n - j = 0 := by omega
      have hdd := dec_few (k := n - j) (by omega) (fun i => f (i + j))
      have e1 : Hid (allR n f = rs) := hide (by rw [unhide HALL, unhide hd, if_pos (.inl (by rw [hdd]; decide)), List.append_nil])
      clear hd hdd
      go_wp2_with fail
      refine (rof_short a 0 0 _ (by omega)).mono ?_
      rintro e w3 ⟨rfl, g3⟩
      have G3 := hG.trans g3 (by simp)
      have own3 := own_chg hown g3
      clear hG g3 hown
      unfold Rc.cells rc0
      go_wp2_with fail
      go_quiet (fail)
      go_wp2
      go_ret
      refine ⟨_, rfl, ?_, (G3.alloc _).drewN _⟩
      rw [unhide e1, unhide HK]
      exact own3.alloc _
    · go_wp2_with fail
      refine (rof_any _ (n - j) (cap - j) (fun i => f (i + j)) _ (by omega) ((unhide HB).dropA.chg hG)).mono ?_
      rintro e w3 ⟨rfl, g3⟩
      have G3 := hG.trans g3 (by simp)
      have own3 := own_chg hown g3
      have R3 := hRv.chg g3
      clear hG g3 hown hRv
      by_cases hc : (dec (n - j) (fun i => f (i + j))).2 = 0
      · obtain ⟨h9, -, hck, hD⟩ := dec_ok hc
        have hep := (ckR_bd hck).1
        have HD := hide hD
        clear hD hc hck
        rw [unhide HD]
        simp only
        generalize rdR (fun i => f (i + j)) = r at *
        have X := Blk.new w3 r.cells 110
        have ownW := own3.alloc (.cells r.cells 110)
        have GW := G3.alloc (.cells r.cells 110)
        have RW := R3.chg ((Chg.refl [] w3).alloc (.cells r.cells 110))
        have zlt := own3.lt
        have HZ := hide zlt
        clear own3 G3 R3 zlt
        unfold Rc.cells
        go_wp2_with fail
        have eW : (w3.alloc (.cells #[.int .i64 r.ep, .int .i64 r.o.k, .int .i64 r.o.now, .int .i64 r.o.jb, .int .i64 r.o.tr, .int .i64 r.o.wk, .int .i64 r.o.tm] 110)) = w3.alloc (.cells r.cells 110) := rfl
        rw [eW]
        clear eW
        have zW : w3.heap.size < (w3.alloc (.cells r.cells 110)).heap.size := X.lt
        obtain ⟨W, hW⟩ : ∃ W : World, W = w3.alloc (.cells r.cells 110) := ⟨_, rfl⟩
        rw [← hW] at X ownW GW RW zW ⊢
        clear hW
        obtain ⟨x0, x1, x2, x3, x4, x5, x6⟩ := X.seven
        have HX := hide X
        clear X
        rcases k with _ | m
        · have e2 : Hid (rs = []) := hide (List.eq_nil_of_length_eq_zero (unhide HK))
          have hj0 : j = 0 * 9 := unhide HJ
          go_quiet (fail)
          have ownV : (W.drewN nq).ownsRow w.heap.size 110 7 (.slice av 0 cv) 0 (cellsR rs) := ownW
          have GV := GW.drewN nq
          obtain ⟨y0, y1, y2, y3, y4, y5, y6⟩ := (show Blk (W.drewN nq) w3.heap.size r.cells 110 from unhide HX).seven
          have zV := GV.size
          clear ownW GW x0 x1 x2 x3 x4 x5 x6 RW
          generalize W.drewN nq = V at *
          go_wp2_with (at_builtin; refine wpList_append_own _ rfl (.tmp 36) (.tmp 38) 146 rfl w.heap.size 110 i0 _ 7 56 Tryz.underlying146 hi hz0 hz1 hz2 rfl (by decide) (.slice av 0 cv) 0 (cellsR rs) rfl (ownV.alloc _) ⟨V.heap.size, 0, none⟩ 1 1 r.list rfl rfl (Blk.new _ r.cells _).news (by simp [Rc.list, Value.oneCell']) (by unfold maxLen; omega) (by omega) (by simp; omega) ?_; intro v' w4 own4 gr4 _; have G4 := (GV.alloc _).grown gr4 (fun q hq => .inr (ownV.lt q hq).1); clear ownV gr4 GV y0 y1 y2 y3 y4 y5 y6)
          go_roundw
          case rel =>
            refine ⟨0 + 1, fu, rs ++ [r], by simp [unhide HK], by omega, by omega, ?_, ?_, by rw [cellsR_snoc]; exact own4, G4⟩
            · exact congrArg (Value.int .i64) (by omega)
            · rw [lastE_snoc, unhide HALL, unhide hd, if_neg (by rw [unhide HD]; simp; rw [unhide e2]; simp only [lastE]; omega), unhide HD]
              simp only [List.append_assoc, List.cons_append, List.nil_append]
              rw [show n - (0 + 1) * 9 = n - j - 9 by omega, show (fun i => f (i + (0 + 1) * 9)) = (fun i => f (i + 9 + j)) from funext fun i => congrArg f (by omega)]
          case measure => go_light; simp [intOf]; omega
        · rcases RW with h0 | ⟨bi, oi, rfl, hbi, hRi⟩
          · omega
          have ce := (hRi m (by omega)).1
          rw [← lastE_at rs 0 m (unhide HK)] at ce
          clear hRi
          have hjm : j = (m + 1) * 9 := unhide HJ
          have hwm : IntKind.i64.wrap (m : Int) = m := by simp [IntKind.wrap, IntKind.bits, IntKind.signed]; omega
          have hm0 : (0 : Int) < (m : Int) + 1 := by omega
          by_cases hlt : r.ep < lastE 0 rs
          · go_quiet (fail)
            go_wp2
            go_ret
            have e1 : allR n f = rs := by
              rw [unhide HALL, unhide hd, if_pos (.inr (by rw [unhide HD]; exact hlt)), List.append_nil]
            refine ⟨_, rfl, ?_, GW.drewN _⟩
            rw [e1, unhide HK]
            exact ownW
          · have hle : lastE 0 rs ≤ r.ep := by omega
            go_quiet (fail)
            have ownV : (W.drewN nq).ownsRow w.heap.size 110 7 (.slice (some ⟨bi, oi, none⟩) (m + 1) cv) (m + 1) (cellsR rs) := ownW
            have GV := GW.drewN nq
            obtain ⟨y0, y1, y2, y3, y4, y5, y6⟩ := (show Blk (W.drewN nq) w3.heap.size r.cells 110 from unhide HX).seven
            have zV := GV.size
            clear ownW GW x0 x1 x2 x3 x4 x5 x6 ce
            generalize W.drewN nq = V at *
            go_wp2_with (at_builtin; refine wpList_append_own _ rfl (.tmp 36) (.tmp 38) 146 rfl w.heap.size 110 i0 _ 7 56 Tryz.underlying146 hi hz0 hz1 hz2 rfl (by decide) (.slice (some ⟨bi, oi, none⟩) (m + 1) cv) (m + 1) (cellsR rs) rfl (ownV.alloc _) ⟨V.heap.size, 0, none⟩ 1 1 r.list rfl rfl (Blk.new _ r.cells _).news (by simp [Rc.list, Value.oneCell']) (by unfold maxLen; omega) (by omega) (by simp; omega) ?_; intro v' w4 own4 gr4 _; have G4 := (GV.alloc _).grown gr4 (fun q hq => .inr (ownV.lt q hq).1); clear ownV gr4 GV y0 y1 y2 y3 y4 y5 y6)
            go_roundw
            case rel =>
              refine ⟨(m + 1) + 1, fu, rs ++ [r], by simp [unhide HK], by omega, by omega, ?_, ?_, by rw [cellsR_snoc]; exact own4, G4⟩
              · exact congrArg (Value.int .i64) (by omega)
              · rw [lastE_snoc, unhide HALL, unhide hd, if_neg (by rw [unhide HD]; simp; omega), unhide HD]
                simp only [List.append_assoc, List.cons_append, List.nil_append]
                rw [show n - ((m + 1) + 1) * 9 = n - j - 9 by omega, show (fun i => f (i + ((m + 1) + 1) * 9)) = (fun i => f (i + 9 + j)) from funext fun i => congrArg f (by omega)]
            case measure => go_light; simp [intOf]; omega
      · have hcb : ((dec (n - j) (fun i => f (i + j))).2 == 0) = false := by simpa using hc
        have hcn : ((dec (n - j) (fun i => f (i + j))).2 != 0) = true := by simpa using hc
        have e1 : Hid (allR n f = rs) := hide (by
          rw [unhide HALL, unhide hd, if_pos (.inl hc), List.append_nil])
        clear hd
        generalize (dec (n - j) (fun i => f (i + j))).1 = r at *
        generalize (dec (n - j) (fun i => f (i + j))).2 = q at *
        unfold Rc.cells
        go_wp2_with fail
        go_quiet (fail)
        go_wp2
        go_ret
        refine ⟨_, rfl, ?_, (G3.alloc _).drewN _⟩
        rw [unhide e1, unhide HK]
        exact own3.alloc _

end Go.Proofs.YtllnjiljjodfdacGreatDoor

