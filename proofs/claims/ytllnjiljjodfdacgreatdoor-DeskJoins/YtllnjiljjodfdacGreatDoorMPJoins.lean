/- For all lines and every number the law DeskJoins returns true, and leaves them as they were; no condition (the listed variables of the library hold what the program text lays). -/
import Derived.Test.YtllnjiljjodfdacGreatDoorCards
import Derived.Test.YtllnjiljjodfdacGreatDoorTie
import Derived.SevenTiedAt
import Derived.Test.YtllnjiljjodfdacGreatDoorMgEI
import Derived.Test.YtllnjiljjodfdacGreatDoorMEFr
namespace Go.Proofs.YtllnjiljjodfdacGreatDoor
open Go.RowKit

theorem pickJ (x : Int) (m : Nat) (hm : m ≤ 4000) : ∃ k : Nat, k ≤ m ∧ wrap64 ((IntKind.u64.wrap x).tmod ((m : Int) + 1)) = k := by
  have h0 : 0 ≤ IntKind.u64.wrap x := by simp only [IntKind.wrap, IntKind.bits, IntKind.signed]; simp; omega
  have h1 : 0 ≤ (IntKind.u64.wrap x).tmod ((m : Int) + 1) := Int.tmod_nonneg _ h0
  have h2 : (IntKind.u64.wrap x).tmod ((m : Int) + 1) < (m : Int) + 1 := Int.tmod_lt_of_pos _ (by omega)
  refine ⟨((IntKind.u64.wrap x).tmod ((m : Int) + 1)).toNat, by omega, ?_⟩
  unfold wrap64
  omega
/-- Texts that came in are nobody's desk's. -/
theorem Strs.far {W W0 w : World} {M : Dm} {s : Gd} {told : List UInt8} {a : Option Addr} {ls : List (List UInt8)} (h : Strs W a ls) (hz : W.heap.size ≤ W0.heap.size) (D : Dq W0 w M s told) (k : Chg [] W w) : StrsF w M a ls := by
  rcases h with h | ⟨g, off, e, hb, hc⟩
  · exact .inl h
  · exact .inr ⟨g, off, e, Nat.lt_of_lt_of_le hb k.size, (fun hm => by have := D.lo hm; omega), fun i x hx => by rw [k.cell' (p := ⟨g, off + i, none⟩) hb (by simp)]; exact hc i x hx⟩
theorem Strs.take {W : World} {a : Option Addr} {ls : List (List UInt8)} (h : Strs W a ls) (k : Nat) : Strs W a (ls.take k) := by
  rcases h with h | ⟨g, off, e, hb, hc⟩
  · exact .inl (by rw [h]; simp)
  · refine .inr ⟨g, off, e, hb, fun i x hx => hc i x ?_⟩
    rw [List.getElem?_take] at hx
    split at hx
    · exact hx
    · cases hx
theorem Strs.drop {W : World} {g off : Nat} {ls : List (List UInt8)} (h : Strs W (some ⟨g, off, none⟩) ls) (k : Nat) : Strs W (some ⟨g, off + k, none⟩) (ls.drop k) := by
  rcases h with h | ⟨g', off', e, hb, hc⟩
  · exact .inl (by rw [h]; simp)
  · cases e
    refine .inr ⟨g, off + k, rfl, hb, fun i x hx => ?_⟩
    rw [List.getElem?_drop] at hx
    have := hc (k + i) x hx
    rw [Nat.add_assoc]
    exact this

set_option maxRecDepth 100000 in
set_option maxHeartbeats 8000000 in
theorem joins_any (a : Option Addr) (n c : Nat) (ls : List (List UInt8)) (cut : Int) (W : World) (hl : ls.length = n) (hc : n ≤ c) (hnil : a = none → c = 0) (hs : ∀ x ∈ ls, x.length ≤ 1000000000000000000) (h : Strs W a ls) (hv : Vars W) :
    Calls Tryz.prog 4 #[.slice a n c, .int .i64 cut] W fun e w' => e = .returned (.bool true) ∧ Chg [] W w' := by
  have HV := hide hv
  have HS := hide h
  have HL := hide hl
  have HB := hide hs
  clear hv h hl hs
  by_cases hbig : 150 < n
  · have d1 : (150 : Int) < (n : Int) := by omega
    go_enter Tryz.func4, Tryz.ntmps4
    go_wp2_with fail
    refine (dkbegun_any _ (unhide HV)).mono ?_
    rintro e w1 ⟨rfl, G1⟩
    go_wp2
    go_ret
    exact ⟨rfl, G1⟩
  have d1 : ¬ (150 : Int) < (n : Int) := by omega
  cases hsl : slowF 0 ls with
  | true =>
    have HSL := hide hsl
    clear hsl
    go_enter Tryz.func4, Tryz.ntmps4
    go_wp2_with fail
    refine (dkbegun_any _ (unhide HV)).mono ?_
    rintro e w1 ⟨rfl, G1⟩
    have HG := hide G1
    clear G1
    go_wp2_with fail
    refine (slow_any a n c ls _ (unhide HL) (by omega) (unhide HB) ((unhide HS).chg (unhide HG))).mono ?_
    rintro e w1 ⟨rfl, rfl⟩
    rw [unhide HSL]
    go_wp2
    go_ret
    exact ⟨rfl, unhide HG⟩
  | false =>
    have HSL := hide hsl
    have HLL := hide (show ∀ x ∈ ls, x.length ≤ 900000 from fun x hx => by have := slowF_le ls 0 hsl x hx; omega)
    clear hsl
    obtain ⟨k, hk, hke⟩ := pickJ cut n (by omega)
    obtain ⟨tk, htk⟩ : ∃ t, t = ls.take k := ⟨_, rfl⟩
    obtain ⟨dk, hdk⟩ : ∃ t, t = ls.drop k := ⟨_, rfl⟩
    have HLT := hide (show ∀ x ∈ tk, x.length ≤ 900000 from fun x hx => unhide HLL x (List.mem_of_mem_take (by rw [← htk]; exact hx)))
    have HLD := hide (show ∀ x ∈ dk, x.length ≤ 900000 from fun x hx => unhide HLL x (List.mem_of_mem_drop (by rw [← hdk]; exact hx)))
    have HKT := hide (show tk.length = k by rw [htk, List.length_take, unhide HL]; omega)
    have HKD := hide (show dk.length = n - k by rw [hdk, List.length_drop, unhide HL])
    have HST := hide (show Strs W a tk by rw [htk]; exact (unhide HS).take k)
    have HFQ := hide (show (faultL ls).1 = 0 ↔ (faultL tk).1 = 0 ∧ (faultL dk).1 = 0 by rw [htk, hdk]; exact fault_parts (by rw [unhide HL]; omega) k)
    have HDQ := hide (show (faultL ls).1 = 0 → doO G0 tk ++ doO (doS G0 tk) dk = doO G0 ls from fun hf => by rw [htk, hdk]; exact do_parts (by rw [unhide HL]; omega) hf)
    have HDK := hide hdk
    clear htk hdk
    have hkn : (k : Int) ≤ (n : Int) := by omega
    have hkc : (k : Int) ≤ (c : Int) := by omega
    have hk0 : (0 : Int) ≤ (k : Int) := by omega
    have hkn' : k ≤ c := by omega
    by_cases hn0 : n = 0
    · subst hn0
      obtain rfl : k = 0 := by omega
      have HNL := hide (List.eq_nil_of_length_eq_zero (unhide HKD))
      cases a with
      | none =>
        have hc0 := hnil rfl
        subst hc0
        have HD := hide (show Strs W none dk from .inl (unhide HNL))
        clear hnil
        go_enter Tryz.func4, Tryz.ntmps4
        go_wp2_with fail
        refine (dkbegun_any _ (unhide HV)).mono ?_
        rintro e w1 ⟨rfl, G1⟩
        have HG := hide G1
        clear G1
        go_wp2_with fail
        refine (slow_any none 0 0 ls _ (unhide HL) (by omega) (unhide HB) ((unhide HS).chg (unhide HG))).mono ?_
        rintro e w1 ⟨rfl, rfl⟩
        rw [unhide HSL]
        go_wp2_with fail
        refine (dknew_any _).mono ?_
        rintro e w2 ⟨Md, rfl, Dd⟩
        have HDd := hide Dd
        clear Dd
        go_wp2_with fail
        refine (dknew_any _).mono ?_
        rintro e w3 ⟨Me, rfl, De0⟩
        have zW := (unhide HG).size
        have De : Dq w1 w3 Me G0 [] := De0.lower (unhide HDd).c.ch
        have Dd3 := (unhide HDd).new De0.c.ch
        have ap3 : Apart7 Md Me := fun x hx hy => by have h1 := (unhide HDd).hi x hx; have h2 := De0.lo hy; omega
        have HV1 := hide ((unhide HV).chg (unhide HG))
        have GW3 := (unhide HG).trans Dd3.c.ch (by simp)
        have S3 := (unhide HST).far zW Dd3 GW3
        have HDe := hide De
        have HDd3 := hide Dd3
        have HAP := hide ap3
        have HS3 := hide S3
        clear De0 De Dd3 ap3 S3 GW3 HDd
        go_wp2_with fail
        refine (ddo_any w1 Md G0 Md.db _ 0 0 tk _ rfl (unhide HDd3) (unhide HV1) (unhide HKT) (unhide HLT) (unhide HS3)).mono ?_
        rintro e w4 ⟨rfl, lO4, M4, X4⟩
        obtain ⟨De4, ap4⟩ := X4.apart (unhide HDe) (.inr (fun x hx => (unhide HDd3).lo hx)) (unhide HAP)
        have b9 : Blk (w4.alloc (.cells #[.int .i64 (faultL tk).1, .int .i64 (faultL tk).2] 31)) w4.heap.size _ _ := Blk.new w4 _ _
        have k5 := (Chg.refl [] w4).alloc (.cells #[.int .i64 (faultL tk).1, .int .i64 (faultL tk).2] 31)
        have n9d := X4.k.free (Nat.le_refl w4.heap.size)
        have n9e := De4.free (Nat.le_refl w4.heap.size)
        have e4 := X4.db
        have HE4 := hide e4
        have HDd5 := hide (X4.k.new k5)
        have HDe5 := hide (De4.new k5)
        have HAP4 := hide ap4
        have HL4 := hide lO4
        clear X4 De4 ap4 k5 lO4 HDe HDd3 HAP HS3 e4
        go_upto_region 8 with fail
        generalize w4.alloc (.cells #[.int .i64 (faultL tk).1, .int .i64 (faultL tk).2] 31) = w5 at *
        have HF9 := hide b9
        clear b9
        have GW5 := (unhide HG).trans (unhide HDd5).c.ch (by simp)
        have HS5 := hide ((unhide HS).far zW (unhide HDe5) GW5)
        clear GW5
        go_wp2_with fail
        refine (ddo_any w1 Me G0 Me.db _ 0 0 ls _ rfl (unhide HDe5) (unhide HV1) (unhide HL) (unhide HLL) (unhide HS5)).mono ?_
        rintro e w6 ⟨rfl, lO6, M6, X6⟩
        obtain ⟨Dd6, ap6⟩ := X6.apart (unhide HDd5) (.inr (fun x hx => (unhide HDe5).lo hx)) (unhide HAP4).symm
        have f96 := X6.blk (unhide HF9) n9e
        have n9f := X6.other (unhide HF9).lt n9e
        have k7 := (Chg.refl [] w6).alloc (.cells #[.int .i64 (faultL ls).1, .int .i64 (faultL ls).2] 31)
        have b11 : Blk (w6.alloc (.cells #[.int .i64 (faultL ls).1, .int .i64 (faultL ls).2] 31)) w6.heap.size _ _ := Blk.new w6 _ _
        have n11d := Dd6.free (Nat.le_refl w6.heap.size)
        have f97 := f96.chg k7 (by simp)
        have HDd7 := hide (Dd6.new k7)
        have HL6 := hide lO6
        clear X6 Dd6 ap6 f96 k7 lO6 HF9 HDd5 HDe5 HAP4 HS5 n9e n9f
        go_upto_region 9 with fail
        generalize w6.alloc (.cells #[.int .i64 (faultL ls).1, .int .i64 (faultL ls).2] 31) = w7 at *
        have HF9 := hide f97
        have HF11 := hide b11
        clear f97 b11
        have GW7 := (unhide HG).trans (unhide HDd7).c.ch (by simp)
        have HS7 := hide ((unhide HD).far zW (unhide HDd7) GW7)
        clear GW7
        go_wp2_with fail
        refine (ddo_any w1 M4 (doS G0 tk) Md.db _ _ _ dk _ (unhide HE4) (unhide HDd7) (unhide HV1) (by rw [unhide HKD]; try omega) (unhide HLD) (unhide HS7)).mono ?_
        rintro e w8 ⟨rfl, lO8, M8, X8⟩
        have f98 := X8.blk (unhide HF9) n9d
        have f118 := X8.blk (unhide HF11) n11d
        have k9 := (Chg.refl [] w8).alloc (.cells #[.int .i64 (faultL dk).1, .int .i64 (faultL dk).2] 31)
        have b13 : Blk (w8.alloc (.cells #[.int .i64 (faultL dk).1, .int .i64 (faultL dk).2] 31)) w8.heap.size _ _ := Blk.new w8 _ _
        have f99 := f98.chg k9 (by simp)
        have f119 := f118.chg k9 (by simp)
        have GW9 := ((unhide HG).trans X8.k.c.ch (by simp)).trans k9 (by simp)
        have HL8 := hide lO8
        clear X8 f98 f118 k9 lO8 HF9 HF11 HDd7 HS7 n9d n11d
        go_upto_region 10 with fail
        generalize w8.alloc (.cells #[.int .i64 (faultL dk).1, .int .i64 (faultL dk).2] 31) = w9 at *
        obtain ⟨f1, hf1⟩ : ∃ f, f = (faultL tk).1 := ⟨_, rfl⟩
        obtain ⟨f2, hf2⟩ : ∃ f, f = (faultL dk).1 := ⟨_, rfl⟩
        obtain ⟨f0, hf0⟩ : ∃ f, f = (faultL ls).1 := ⟨_, rfl⟩
        have HFP := hide (show f0 = 0 ↔ f1 = 0 ∧ f2 = 0 by rw [hf0, hf1, hf2]; exact unhide HFQ)
        have c9 : w9.cell? ⟨w4.heap.size, 0, none⟩ = some (.int .i64 f1) := by rw [hf1]; exact f99.cell 0
        have c11 : w9.cell? ⟨w6.heap.size, 0, none⟩ = some (.int .i64 f0) := by rw [hf0]; exact f119.cell 0
        have c13 : w9.cell? ⟨w8.heap.size, 0, none⟩ = some (.int .i64 f2) := by rw [hf2]; exact b13.cell 0
        have z9 := f99.lt
        have z11 := f119.lt
        have z13 := b13.lt
        have HF0 := hide hf0
        clear hf0 hf1 hf2 f99 f119 b13
        by_cases h0 : f0 = 0
        · obtain ⟨h1, h2⟩ := (unhide HFP).1 h0
          have HPP := hide (unhide HDQ (by rw [← unhide HF0]; exact h0))
          subst h0
          subst h1
          subst h2
          have HG9 := hide GW9
          have HS9 := hide GW9
          clear HFP HF0 GW9
          go_wp2_with fail
          refine (dknew_any _).mono ?_
          rintro e w10 ⟨Mt, rfl, Dt⟩
          have GW10 := (unhide HG9).trans Dt.c.ch (by simp)
          have HST := hide ((unhide HS).far (unhide HG9).size Dt GW10)
          have HDt := hide Dt
          clear Dt GW10
          go_wp2_with fail
          refine (ddo_any w9 Mt G0 Mt.db _ 0 0 ls _ rfl (unhide HDt) ((unhide HV).chg (unhide HG9)) (unhide HL) (unhide HLL) (unhide HST)).mono ?_
          rintro e w11 ⟨rfl, -, M11, X11⟩
          have k11 := X11.k.c.ch
          have q9 := (k11.cell' (p := ⟨w4.heap.size, 0, none⟩) z9 (by simp)).trans c9
          have q13 := (k11.cell' (p := ⟨w8.heap.size, 0, none⟩) z13 (by simp)).trans c13
          have y9 := Nat.lt_of_lt_of_le z9 k11.size
          have y13 := Nat.lt_of_lt_of_le z13 k11.size
          have GW11 := (unhide HG9).trans k11 (by simp)
          clear X11 k11 c9 c11 c13 z9 z11 z13 HDt HST
          generalize (faultL ls).1 = g1 at *
          generalize (faultL ls).2 = g2 at *
          have hb0 : (doO G0 tk).length + (doO (doS G0 tk) dk).length ≤ 18000000 := by have h1 := unhide HL4; have h2 := unhide HL8; omega
          have hpp := unhide HPP
          clear HPP HL4 HL6 HL8
          generalize doO G0 tk = A at *
          generalize doO (doS G0 tk) dk = B at *
          generalize doO G0 ls = C at *
          have hadd : strA A ++ strA B = strA C := by rw [strA_app, hpp]
          have hs1 := strA_size A
          have hs2 := strA_size B
          have hb1 : ¬ 9223372036854775807 < A.length + B.length := by omega
          have hcc : ((strA C).toList == (strA C).toList) = true := by simp
          clear hpp
          go_wp2
          go_ret
          exact ⟨rfl, GW11.alloc _⟩
        · have b0 : (f0 != 0) = true := by simpa using h0
          have HG9 := hide GW9
          by_cases h1 : f1 = 0
          · have h2 : ¬ f2 = 0 := fun h2 => h0 ((unhide HFP).2 ⟨h1, h2⟩)
            have b1 : (f1 != 0) = false := by simpa using h1
            have b2 : (f2 != 0) = true := by simpa using h2
            clear h0 h1 h2 HFP HF0 GW9
            go_wp2
            go_ret
            exact ⟨rfl, unhide HG9⟩
          · have b1 : (f1 != 0) = true := by simpa using h1
            clear h0 h1 HFP HF0 GW9
            go_wp2
            go_ret
            exact ⟨rfl, unhide HG9⟩
      | some y =>
        have HD := hide (show ∀ q, Strs W q dk from fun q => .inl (unhide HNL))
        clear hnil
        by_cases hc0 : c = 0
        · subst hc0
          go_enter Tryz.func4, Tryz.ntmps4
          go_wp2_with fail
          refine (dkbegun_any _ (unhide HV)).mono ?_
          rintro e w1 ⟨rfl, G1⟩
          have HG := hide G1
          clear G1
          go_wp2_with fail
          refine (slow_any (some y) 0 0 ls _ (unhide HL) (by omega) (unhide HB) ((unhide HS).chg (unhide HG))).mono ?_
          rintro e w1 ⟨rfl, rfl⟩
          rw [unhide HSL]
          go_wp2_with fail
          refine (dknew_any _).mono ?_
          rintro e w2 ⟨Md, rfl, Dd⟩
          have HDd := hide Dd
          clear Dd
          go_wp2_with fail
          refine (dknew_any _).mono ?_
          rintro e w3 ⟨Me, rfl, De0⟩
          have zW := (unhide HG).size
          have De : Dq w1 w3 Me G0 [] := De0.lower (unhide HDd).c.ch
          have Dd3 := (unhide HDd).new De0.c.ch
          have ap3 : Apart7 Md Me := fun x hx hy => by have h1 := (unhide HDd).hi x hx; have h2 := De0.lo hy; omega
          have HV1 := hide ((unhide HV).chg (unhide HG))
          have GW3 := (unhide HG).trans Dd3.c.ch (by simp)
          have S3 := (unhide HST).far zW Dd3 GW3
          have HDe := hide De
          have HDd3 := hide Dd3
          have HAP := hide ap3
          have HS3 := hide S3
          clear De0 De Dd3 ap3 S3 GW3 HDd
          go_wp2_with fail
          refine (ddo_any w1 Md G0 Md.db _ 0 0 tk _ rfl (unhide HDd3) (unhide HV1) (unhide HKT) (unhide HLT) (unhide HS3)).mono ?_
          rintro e w4 ⟨rfl, lO4, M4, X4⟩
          obtain ⟨De4, ap4⟩ := X4.apart (unhide HDe) (.inr (fun x hx => (unhide HDd3).lo hx)) (unhide HAP)
          have b9 : Blk (w4.alloc (.cells #[.int .i64 (faultL tk).1, .int .i64 (faultL tk).2] 31)) w4.heap.size _ _ := Blk.new w4 _ _
          have k5 := (Chg.refl [] w4).alloc (.cells #[.int .i64 (faultL tk).1, .int .i64 (faultL tk).2] 31)
          have n9d := X4.k.free (Nat.le_refl w4.heap.size)
          have n9e := De4.free (Nat.le_refl w4.heap.size)
          have e4 := X4.db
          have HE4 := hide e4
          have HDd5 := hide (X4.k.new k5)
          have HDe5 := hide (De4.new k5)
          have HAP4 := hide ap4
          have HL4 := hide lO4
          clear X4 De4 ap4 k5 lO4 HDe HDd3 HAP HS3 e4
          go_upto_region 8 with fail
          generalize w4.alloc (.cells #[.int .i64 (faultL tk).1, .int .i64 (faultL tk).2] 31) = w5 at *
          have HF9 := hide b9
          clear b9
          have GW5 := (unhide HG).trans (unhide HDd5).c.ch (by simp)
          have HS5 := hide ((unhide HS).far zW (unhide HDe5) GW5)
          clear GW5
          go_wp2_with fail
          refine (ddo_any w1 Me G0 Me.db _ 0 0 ls _ rfl (unhide HDe5) (unhide HV1) (unhide HL) (unhide HLL) (unhide HS5)).mono ?_
          rintro e w6 ⟨rfl, lO6, M6, X6⟩
          obtain ⟨Dd6, ap6⟩ := X6.apart (unhide HDd5) (.inr (fun x hx => (unhide HDe5).lo hx)) (unhide HAP4).symm
          have f96 := X6.blk (unhide HF9) n9e
          have n9f := X6.other (unhide HF9).lt n9e
          have k7 := (Chg.refl [] w6).alloc (.cells #[.int .i64 (faultL ls).1, .int .i64 (faultL ls).2] 31)
          have b11 : Blk (w6.alloc (.cells #[.int .i64 (faultL ls).1, .int .i64 (faultL ls).2] 31)) w6.heap.size _ _ := Blk.new w6 _ _
          have n11d := Dd6.free (Nat.le_refl w6.heap.size)
          have f97 := f96.chg k7 (by simp)
          have HDd7 := hide (Dd6.new k7)
          have HL6 := hide lO6
          clear X6 Dd6 ap6 f96 k7 lO6 HF9 HDd5 HDe5 HAP4 HS5 n9e n9f
          go_upto_region 9 with fail
          generalize w6.alloc (.cells #[.int .i64 (faultL ls).1, .int .i64 (faultL ls).2] 31) = w7 at *
          have HF9 := hide f97
          have HF11 := hide b11
          clear f97 b11
          have GW7 := (unhide HG).trans (unhide HDd7).c.ch (by simp)
          have HS7 := hide (fun q => (unhide HD q).far zW (unhide HDd7) GW7)
          clear GW7
          go_wp2_with fail
          refine (ddo_any w1 M4 (doS G0 tk) Md.db _ _ _ dk _ (unhide HE4) (unhide HDd7) (unhide HV1) (by rw [unhide HKD]; try omega) (unhide HLD) (unhide HS7 _)).mono ?_
          rintro e w8 ⟨rfl, lO8, M8, X8⟩
          have f98 := X8.blk (unhide HF9) n9d
          have f118 := X8.blk (unhide HF11) n11d
          have k9 := (Chg.refl [] w8).alloc (.cells #[.int .i64 (faultL dk).1, .int .i64 (faultL dk).2] 31)
          have b13 : Blk (w8.alloc (.cells #[.int .i64 (faultL dk).1, .int .i64 (faultL dk).2] 31)) w8.heap.size _ _ := Blk.new w8 _ _
          have f99 := f98.chg k9 (by simp)
          have f119 := f118.chg k9 (by simp)
          have GW9 := ((unhide HG).trans X8.k.c.ch (by simp)).trans k9 (by simp)
          have HL8 := hide lO8
          clear X8 f98 f118 k9 lO8 HF9 HF11 HDd7 HS7 n9d n11d
          go_upto_region 10 with fail
          generalize w8.alloc (.cells #[.int .i64 (faultL dk).1, .int .i64 (faultL dk).2] 31) = w9 at *
          obtain ⟨f1, hf1⟩ : ∃ f, f = (faultL tk).1 := ⟨_, rfl⟩
          obtain ⟨f2, hf2⟩ : ∃ f, f = (faultL dk).1 := ⟨_, rfl⟩
          obtain ⟨f0, hf0⟩ : ∃ f, f = (faultL ls).1 := ⟨_, rfl⟩
          have HFP := hide (show f0 = 0 ↔ f1 = 0 ∧ f2 = 0 by rw [hf0, hf1, hf2]; exact unhide HFQ)
          have c9 : w9.cell? ⟨w4.heap.size, 0, none⟩ = some (.int .i64 f1) := by rw [hf1]; exact f99.cell 0
          have c11 : w9.cell? ⟨w6.heap.size, 0, none⟩ = some (.int .i64 f0) := by rw [hf0]; exact f119.cell 0
          have c13 : w9.cell? ⟨w8.heap.size, 0, none⟩ = some (.int .i64 f2) := by rw [hf2]; exact b13.cell 0
          have z9 := f99.lt
          have z11 := f119.lt
          have z13 := b13.lt
          have HF0 := hide hf0
          clear hf0 hf1 hf2 f99 f119 b13
          by_cases h0 : f0 = 0
          · obtain ⟨h1, h2⟩ := (unhide HFP).1 h0
            have HPP := hide (unhide HDQ (by rw [← unhide HF0]; exact h0))
            subst h0
            subst h1
            subst h2
            have HG9 := hide GW9
            have HS9 := hide GW9
            clear HFP HF0 GW9
            go_wp2_with fail
            refine (dknew_any _).mono ?_
            rintro e w10 ⟨Mt, rfl, Dt⟩
            have GW10 := (unhide HG9).trans Dt.c.ch (by simp)
            have HST := hide ((unhide HS).far (unhide HG9).size Dt GW10)
            have HDt := hide Dt
            clear Dt GW10
            go_wp2_with fail
            refine (ddo_any w9 Mt G0 Mt.db _ 0 0 ls _ rfl (unhide HDt) ((unhide HV).chg (unhide HG9)) (unhide HL) (unhide HLL) (unhide HST)).mono ?_
            rintro e w11 ⟨rfl, -, M11, X11⟩
            have k11 := X11.k.c.ch
            have q9 := (k11.cell' (p := ⟨w4.heap.size, 0, none⟩) z9 (by simp)).trans c9
            have q13 := (k11.cell' (p := ⟨w8.heap.size, 0, none⟩) z13 (by simp)).trans c13
            have y9 := Nat.lt_of_lt_of_le z9 k11.size
            have y13 := Nat.lt_of_lt_of_le z13 k11.size
            have GW11 := (unhide HG9).trans k11 (by simp)
            clear X11 k11 c9 c11 c13 z9 z11 z13 HDt HST
            generalize (faultL ls).1 = g1 at *
            generalize (faultL ls).2 = g2 at *
            have hb0 : (doO G0 tk).length + (doO (doS G0 tk) dk).length ≤ 18000000 := by have h1 := unhide HL4; have h2 := unhide HL8; omega
            have hpp := unhide HPP
            clear HPP HL4 HL6 HL8
            generalize doO G0 tk = A at *
            generalize doO (doS G0 tk) dk = B at *
            generalize doO G0 ls = C at *
            have hadd : strA A ++ strA B = strA C := by rw [strA_app, hpp]
            have hs1 := strA_size A
            have hs2 := strA_size B
            have hb1 : ¬ 9223372036854775807 < A.length + B.length := by omega
            have hcc : ((strA C).toList == (strA C).toList) = true := by simp
            clear hpp
            go_wp2
            go_ret
            exact ⟨rfl, GW11.alloc _⟩
          · have b0 : (f0 != 0) = true := by simpa using h0
            have HG9 := hide GW9
            by_cases h1 : f1 = 0
            · have h2 : ¬ f2 = 0 := fun h2 => h0 ((unhide HFP).2 ⟨h1, h2⟩)
              have b1 : (f1 != 0) = false := by simpa using h1
              have b2 : (f2 != 0) = true := by simpa using h2
              clear h0 h1 h2 HFP HF0 GW9
              go_wp2
              go_ret
              exact ⟨rfl, unhide HG9⟩
            · have b1 : (f1 != 0) = true := by simpa using h1
              clear h0 h1 HFP HF0 GW9
              go_wp2
              go_ret
              exact ⟨rfl, unhide HG9⟩
        · skip
          go_enter Tryz.func4, Tryz.ntmps4
          go_wp2_with fail
          refine (dkbegun_any _ (unhide HV)).mono ?_
          rintro e w1 ⟨rfl, G1⟩
          have HG := hide G1
          clear G1
          go_wp2_with fail
          refine (slow_any (some y) 0 c ls _ (unhide HL) (by omega) (unhide HB) ((unhide HS).chg (unhide HG))).mono ?_
          rintro e w1 ⟨rfl, rfl⟩
          rw [unhide HSL]
          go_wp2_with fail
          refine (dknew_any _).mono ?_
          rintro e w2 ⟨Md, rfl, Dd⟩
          have HDd := hide Dd
          clear Dd
          go_wp2_with fail
          refine (dknew_any _).mono ?_
          rintro e w3 ⟨Me, rfl, De0⟩
          have zW := (unhide HG).size
          have De : Dq w1 w3 Me G0 [] := De0.lower (unhide HDd).c.ch
          have Dd3 := (unhide HDd).new De0.c.ch
          have ap3 : Apart7 Md Me := fun x hx hy => by have h1 := (unhide HDd).hi x hx; have h2 := De0.lo hy; omega
          have HV1 := hide ((unhide HV).chg (unhide HG))
          have GW3 := (unhide HG).trans Dd3.c.ch (by simp)
          have S3 := (unhide HST).far zW Dd3 GW3
          have HDe := hide De
          have HDd3 := hide Dd3
          have HAP := hide ap3
          have HS3 := hide S3
          clear De0 De Dd3 ap3 S3 GW3 HDd
          go_wp2_with fail
          refine (ddo_any w1 Md G0 Md.db _ 0 c tk _ rfl (unhide HDd3) (unhide HV1) (unhide HKT) (unhide HLT) (unhide HS3)).mono ?_
          rintro e w4 ⟨rfl, lO4, M4, X4⟩
          obtain ⟨De4, ap4⟩ := X4.apart (unhide HDe) (.inr (fun x hx => (unhide HDd3).lo hx)) (unhide HAP)
          have b9 : Blk (w4.alloc (.cells #[.int .i64 (faultL tk).1, .int .i64 (faultL tk).2] 31)) w4.heap.size _ _ := Blk.new w4 _ _
          have k5 := (Chg.refl [] w4).alloc (.cells #[.int .i64 (faultL tk).1, .int .i64 (faultL tk).2] 31)
          have n9d := X4.k.free (Nat.le_refl w4.heap.size)
          have n9e := De4.free (Nat.le_refl w4.heap.size)
          have e4 := X4.db
          have HE4 := hide e4
          have HDd5 := hide (X4.k.new k5)
          have HDe5 := hide (De4.new k5)
          have HAP4 := hide ap4
          have HL4 := hide lO4
          clear X4 De4 ap4 k5 lO4 HDe HDd3 HAP HS3 e4
          go_upto_region 8 with fail
          generalize w4.alloc (.cells #[.int .i64 (faultL tk).1, .int .i64 (faultL tk).2] 31) = w5 at *
          have HF9 := hide b9
          clear b9
          have GW5 := (unhide HG).trans (unhide HDd5).c.ch (by simp)
          have HS5 := hide ((unhide HS).far zW (unhide HDe5) GW5)
          clear GW5
          go_wp2_with fail
          refine (ddo_any w1 Me G0 Me.db _ 0 c ls _ rfl (unhide HDe5) (unhide HV1) (unhide HL) (unhide HLL) (unhide HS5)).mono ?_
          rintro e w6 ⟨rfl, lO6, M6, X6⟩
          obtain ⟨Dd6, ap6⟩ := X6.apart (unhide HDd5) (.inr (fun x hx => (unhide HDe5).lo hx)) (unhide HAP4).symm
          have f96 := X6.blk (unhide HF9) n9e
          have n9f := X6.other (unhide HF9).lt n9e
          have k7 := (Chg.refl [] w6).alloc (.cells #[.int .i64 (faultL ls).1, .int .i64 (faultL ls).2] 31)
          have b11 : Blk (w6.alloc (.cells #[.int .i64 (faultL ls).1, .int .i64 (faultL ls).2] 31)) w6.heap.size _ _ := Blk.new w6 _ _
          have n11d := Dd6.free (Nat.le_refl w6.heap.size)
          have f97 := f96.chg k7 (by simp)
          have HDd7 := hide (Dd6.new k7)
          have HL6 := hide lO6
          clear X6 Dd6 ap6 f96 k7 lO6 HF9 HDd5 HDe5 HAP4 HS5 n9e n9f
          go_upto_region 9 with fail
          generalize w6.alloc (.cells #[.int .i64 (faultL ls).1, .int .i64 (faultL ls).2] 31) = w7 at *
          have HF9 := hide f97
          have HF11 := hide b11
          clear f97 b11
          have GW7 := (unhide HG).trans (unhide HDd7).c.ch (by simp)
          have HS7 := hide (fun q => (unhide HD q).far zW (unhide HDd7) GW7)
          clear GW7
          go_wp2_with fail
          refine (ddo_any w1 M4 (doS G0 tk) Md.db _ _ _ dk _ (unhide HE4) (unhide HDd7) (unhide HV1) (by rw [unhide HKD]; try omega) (unhide HLD) (unhide HS7 _)).mono ?_
          rintro e w8 ⟨rfl, lO8, M8, X8⟩
          have f98 := X8.blk (unhide HF9) n9d
          have f118 := X8.blk (unhide HF11) n11d
          have k9 := (Chg.refl [] w8).alloc (.cells #[.int .i64 (faultL dk).1, .int .i64 (faultL dk).2] 31)
          have b13 : Blk (w8.alloc (.cells #[.int .i64 (faultL dk).1, .int .i64 (faultL dk).2] 31)) w8.heap.size _ _ := Blk.new w8 _ _
          have f99 := f98.chg k9 (by simp)
          have f119 := f118.chg k9 (by simp)
          have GW9 := ((unhide HG).trans X8.k.c.ch (by simp)).trans k9 (by simp)
          have HL8 := hide lO8
          clear X8 f98 f118 k9 lO8 HF9 HF11 HDd7 HS7 n9d n11d
          go_upto_region 10 with fail
          generalize w8.alloc (.cells #[.int .i64 (faultL dk).1, .int .i64 (faultL dk).2] 31) = w9 at *
          obtain ⟨f1, hf1⟩ : ∃ f, f = (faultL tk).1 := ⟨_, rfl⟩
          obtain ⟨f2, hf2⟩ : ∃ f, f = (faultL dk).1 := ⟨_, rfl⟩
          obtain ⟨f0, hf0⟩ : ∃ f, f = (faultL ls).1 := ⟨_, rfl⟩
          have HFP := hide (show f0 = 0 ↔ f1 = 0 ∧ f2 = 0 by rw [hf0, hf1, hf2]; exact unhide HFQ)
          have c9 : w9.cell? ⟨w4.heap.size, 0, none⟩ = some (.int .i64 f1) := by rw [hf1]; exact f99.cell 0
          have c11 : w9.cell? ⟨w6.heap.size, 0, none⟩ = some (.int .i64 f0) := by rw [hf0]; exact f119.cell 0
          have c13 : w9.cell? ⟨w8.heap.size, 0, none⟩ = some (.int .i64 f2) := by rw [hf2]; exact b13.cell 0
          have z9 := f99.lt
          have z11 := f119.lt
          have z13 := b13.lt
          have HF0 := hide hf0
          clear hf0 hf1 hf2 f99 f119 b13
          by_cases h0 : f0 = 0
          · obtain ⟨h1, h2⟩ := (unhide HFP).1 h0
            have HPP := hide (unhide HDQ (by rw [← unhide HF0]; exact h0))
            subst h0
            subst h1
            subst h2
            have HG9 := hide GW9
            have HS9 := hide GW9
            clear HFP HF0 GW9
            go_wp2_with fail
            refine (dknew_any _).mono ?_
            rintro e w10 ⟨Mt, rfl, Dt⟩
            have GW10 := (unhide HG9).trans Dt.c.ch (by simp)
            have HST := hide ((unhide HS).far (unhide HG9).size Dt GW10)
            have HDt := hide Dt
            clear Dt GW10
            go_wp2_with fail
            refine (ddo_any w9 Mt G0 Mt.db _ 0 c ls _ rfl (unhide HDt) ((unhide HV).chg (unhide HG9)) (unhide HL) (unhide HLL) (unhide HST)).mono ?_
            rintro e w11 ⟨rfl, -, M11, X11⟩
            have k11 := X11.k.c.ch
            have q9 := (k11.cell' (p := ⟨w4.heap.size, 0, none⟩) z9 (by simp)).trans c9
            have q13 := (k11.cell' (p := ⟨w8.heap.size, 0, none⟩) z13 (by simp)).trans c13
            have y9 := Nat.lt_of_lt_of_le z9 k11.size
            have y13 := Nat.lt_of_lt_of_le z13 k11.size
            have GW11 := (unhide HG9).trans k11 (by simp)
            clear X11 k11 c9 c11 c13 z9 z11 z13 HDt HST
            generalize (faultL ls).1 = g1 at *
            generalize (faultL ls).2 = g2 at *
            have hb0 : (doO G0 tk).length + (doO (doS G0 tk) dk).length ≤ 18000000 := by have h1 := unhide HL4; have h2 := unhide HL8; omega
            have hpp := unhide HPP
            clear HPP HL4 HL6 HL8
            generalize doO G0 tk = A at *
            generalize doO (doS G0 tk) dk = B at *
            generalize doO G0 ls = C at *
            have hadd : strA A ++ strA B = strA C := by rw [strA_app, hpp]
            have hs1 := strA_size A
            have hs2 := strA_size B
            have hb1 : ¬ 9223372036854775807 < A.length + B.length := by omega
            have hcc : ((strA C).toList == (strA C).toList) = true := by simp
            clear hpp
            go_wp2
            go_ret
            exact ⟨rfl, GW11.alloc _⟩
          · have b0 : (f0 != 0) = true := by simpa using h0
            have HG9 := hide GW9
            by_cases h1 : f1 = 0
            · have h2 : ¬ f2 = 0 := fun h2 => h0 ((unhide HFP).2 ⟨h1, h2⟩)
              have b1 : (f1 != 0) = false := by simpa using h1
              have b2 : (f2 != 0) = true := by simpa using h2
              clear h0 h1 h2 HFP HF0 GW9
              go_wp2
              go_ret
              exact ⟨rfl, unhide HG9⟩
            · have b1 : (f1 != 0) = true := by simpa using h1
              clear h0 h1 HFP HF0 GW9
              go_wp2
              go_ret
              exact ⟨rfl, unhide HG9⟩
    · rcases unhide HS with h0 | ⟨g, off, rfl, hgW, hcW⟩
      · exact absurd (by have := unhide HL; rw [h0] at this; simpa using this.symm) hn0
      clear hgW hcW hnil
      by_cases hck : c = k
      · have q1 : n = k := by omega
        subst q1
        have q2 : n = c := by omega
        subst q2
        have HD := hide (show Strs W (some ⟨g, off, none⟩) dk from .inl (List.eq_nil_of_length_eq_zero (by rw [unhide HKD]; omega)))
        go_enter Tryz.func4, Tryz.ntmps4
        go_wp2_with fail
        refine (dkbegun_any _ (unhide HV)).mono ?_
        rintro e w1 ⟨rfl, G1⟩
        have HG := hide G1
        clear G1
        go_wp2_with fail
        refine (slow_any (some ⟨g, off, none⟩) n n ls _ (unhide HL) (by omega) (unhide HB) ((unhide HS).chg (unhide HG))).mono ?_
        rintro e w1 ⟨rfl, rfl⟩
        rw [unhide HSL]
        go_wp2_with fail
        refine (dknew_any _).mono ?_
        rintro e w2 ⟨Md, rfl, Dd⟩
        have HDd := hide Dd
        clear Dd
        go_wp2_with fail
        refine (dknew_any _).mono ?_
        rintro e w3 ⟨Me, rfl, De0⟩
        have zW := (unhide HG).size
        have De : Dq w1 w3 Me G0 [] := De0.lower (unhide HDd).c.ch
        have Dd3 := (unhide HDd).new De0.c.ch
        have ap3 : Apart7 Md Me := fun x hx hy => by have h1 := (unhide HDd).hi x hx; have h2 := De0.lo hy; omega
        have HV1 := hide ((unhide HV).chg (unhide HG))
        have GW3 := (unhide HG).trans Dd3.c.ch (by simp)
        have S3 := (unhide HST).far zW Dd3 GW3
        have HDe := hide De
        have HDd3 := hide Dd3
        have HAP := hide ap3
        have HS3 := hide S3
        clear De0 De Dd3 ap3 S3 GW3 HDd
        go_wp2_with fail
        refine (ddo_any w1 Md G0 Md.db _ n n tk _ rfl (unhide HDd3) (unhide HV1) (unhide HKT) (unhide HLT) (unhide HS3)).mono ?_
        rintro e w4 ⟨rfl, lO4, M4, X4⟩
        obtain ⟨De4, ap4⟩ := X4.apart (unhide HDe) (.inr (fun x hx => (unhide HDd3).lo hx)) (unhide HAP)
        have b9 : Blk (w4.alloc (.cells #[.int .i64 (faultL tk).1, .int .i64 (faultL tk).2] 31)) w4.heap.size _ _ := Blk.new w4 _ _
        have k5 := (Chg.refl [] w4).alloc (.cells #[.int .i64 (faultL tk).1, .int .i64 (faultL tk).2] 31)
        have n9d := X4.k.free (Nat.le_refl w4.heap.size)
        have n9e := De4.free (Nat.le_refl w4.heap.size)
        have e4 := X4.db
        have HE4 := hide e4
        have HDd5 := hide (X4.k.new k5)
        have HDe5 := hide (De4.new k5)
        have HAP4 := hide ap4
        have HL4 := hide lO4
        clear X4 De4 ap4 k5 lO4 HDe HDd3 HAP HS3 e4
        go_upto_region 8 with fail
        generalize w4.alloc (.cells #[.int .i64 (faultL tk).1, .int .i64 (faultL tk).2] 31) = w5 at *
        have HF9 := hide b9
        clear b9
        have GW5 := (unhide HG).trans (unhide HDd5).c.ch (by simp)
        have HS5 := hide ((unhide HS).far zW (unhide HDe5) GW5)
        clear GW5
        go_wp2_with fail
        refine (ddo_any w1 Me G0 Me.db _ n n ls _ rfl (unhide HDe5) (unhide HV1) (unhide HL) (unhide HLL) (unhide HS5)).mono ?_
        rintro e w6 ⟨rfl, lO6, M6, X6⟩
        obtain ⟨Dd6, ap6⟩ := X6.apart (unhide HDd5) (.inr (fun x hx => (unhide HDe5).lo hx)) (unhide HAP4).symm
        have f96 := X6.blk (unhide HF9) n9e
        have n9f := X6.other (unhide HF9).lt n9e
        have k7 := (Chg.refl [] w6).alloc (.cells #[.int .i64 (faultL ls).1, .int .i64 (faultL ls).2] 31)
        have b11 : Blk (w6.alloc (.cells #[.int .i64 (faultL ls).1, .int .i64 (faultL ls).2] 31)) w6.heap.size _ _ := Blk.new w6 _ _
        have n11d := Dd6.free (Nat.le_refl w6.heap.size)
        have f97 := f96.chg k7 (by simp)
        have HDd7 := hide (Dd6.new k7)
        have HL6 := hide lO6
        clear X6 Dd6 ap6 f96 k7 lO6 HF9 HDd5 HDe5 HAP4 HS5 n9e n9f
        go_upto_region 9 with fail
        generalize w6.alloc (.cells #[.int .i64 (faultL ls).1, .int .i64 (faultL ls).2] 31) = w7 at *
        have HF9 := hide f97
        have HF11 := hide b11
        clear f97 b11
        have GW7 := (unhide HG).trans (unhide HDd7).c.ch (by simp)
        have HS7 := hide ((unhide HD).far zW (unhide HDd7) GW7)
        clear GW7
        go_wp2_with fail
        refine (ddo_any w1 M4 (doS G0 tk) Md.db _ _ _ dk _ (unhide HE4) (unhide HDd7) (unhide HV1) (by rw [unhide HKD]; try omega) (unhide HLD) (unhide HS7)).mono ?_
        rintro e w8 ⟨rfl, lO8, M8, X8⟩
        have f98 := X8.blk (unhide HF9) n9d
        have f118 := X8.blk (unhide HF11) n11d
        have k9 := (Chg.refl [] w8).alloc (.cells #[.int .i64 (faultL dk).1, .int .i64 (faultL dk).2] 31)
        have b13 : Blk (w8.alloc (.cells #[.int .i64 (faultL dk).1, .int .i64 (faultL dk).2] 31)) w8.heap.size _ _ := Blk.new w8 _ _
        have f99 := f98.chg k9 (by simp)
        have f119 := f118.chg k9 (by simp)
        have GW9 := ((unhide HG).trans X8.k.c.ch (by simp)).trans k9 (by simp)
        have HL8 := hide lO8
        clear X8 f98 f118 k9 lO8 HF9 HF11 HDd7 HS7 n9d n11d
        go_upto_region 10 with fail
        generalize w8.alloc (.cells #[.int .i64 (faultL dk).1, .int .i64 (faultL dk).2] 31) = w9 at *
        obtain ⟨f1, hf1⟩ : ∃ f, f = (faultL tk).1 := ⟨_, rfl⟩
        obtain ⟨f2, hf2⟩ : ∃ f, f = (faultL dk).1 := ⟨_, rfl⟩
        obtain ⟨f0, hf0⟩ : ∃ f, f = (faultL ls).1 := ⟨_, rfl⟩
        have HFP := hide (show f0 = 0 ↔ f1 = 0 ∧ f2 = 0 by rw [hf0, hf1, hf2]; exact unhide HFQ)
        have c9 : w9.cell? ⟨w4.heap.size, 0, none⟩ = some (.int .i64 f1) := by rw [hf1]; exact f99.cell 0
        have c11 : w9.cell? ⟨w6.heap.size, 0, none⟩ = some (.int .i64 f0) := by rw [hf0]; exact f119.cell 0
        have c13 : w9.cell? ⟨w8.heap.size, 0, none⟩ = some (.int .i64 f2) := by rw [hf2]; exact b13.cell 0
        have z9 := f99.lt
        have z11 := f119.lt
        have z13 := b13.lt
        have HF0 := hide hf0
        clear hf0 hf1 hf2 f99 f119 b13
        by_cases h0 : f0 = 0
        · obtain ⟨h1, h2⟩ := (unhide HFP).1 h0
          have HPP := hide (unhide HDQ (by rw [← unhide HF0]; exact h0))
          subst h0
          subst h1
          subst h2
          have HG9 := hide GW9
          have HS9 := hide GW9
          clear HFP HF0 GW9
          go_wp2_with fail
          refine (dknew_any _).mono ?_
          rintro e w10 ⟨Mt, rfl, Dt⟩
          have GW10 := (unhide HG9).trans Dt.c.ch (by simp)
          have HST := hide ((unhide HS).far (unhide HG9).size Dt GW10)
          have HDt := hide Dt
          clear Dt GW10
          go_wp2_with fail
          refine (ddo_any w9 Mt G0 Mt.db _ n n ls _ rfl (unhide HDt) ((unhide HV).chg (unhide HG9)) (unhide HL) (unhide HLL) (unhide HST)).mono ?_
          rintro e w11 ⟨rfl, -, M11, X11⟩
          have k11 := X11.k.c.ch
          have q9 := (k11.cell' (p := ⟨w4.heap.size, 0, none⟩) z9 (by simp)).trans c9
          have q13 := (k11.cell' (p := ⟨w8.heap.size, 0, none⟩) z13 (by simp)).trans c13
          have y9 := Nat.lt_of_lt_of_le z9 k11.size
          have y13 := Nat.lt_of_lt_of_le z13 k11.size
          have GW11 := (unhide HG9).trans k11 (by simp)
          clear X11 k11 c9 c11 c13 z9 z11 z13 HDt HST
          generalize (faultL ls).1 = g1 at *
          generalize (faultL ls).2 = g2 at *
          have hb0 : (doO G0 tk).length + (doO (doS G0 tk) dk).length ≤ 18000000 := by have h1 := unhide HL4; have h2 := unhide HL8; omega
          have hpp := unhide HPP
          clear HPP HL4 HL6 HL8
          generalize doO G0 tk = A at *
          generalize doO (doS G0 tk) dk = B at *
          generalize doO G0 ls = C at *
          have hadd : strA A ++ strA B = strA C := by rw [strA_app, hpp]
          have hs1 := strA_size A
          have hs2 := strA_size B
          have hb1 : ¬ 9223372036854775807 < A.length + B.length := by omega
          have hcc : ((strA C).toList == (strA C).toList) = true := by simp
          clear hpp
          go_wp2
          go_ret
          exact ⟨rfl, GW11.alloc _⟩
        · have b0 : (f0 != 0) = true := by simpa using h0
          have HG9 := hide GW9
          by_cases h1 : f1 = 0
          · have h2 : ¬ f2 = 0 := fun h2 => h0 ((unhide HFP).2 ⟨h1, h2⟩)
            have b1 : (f1 != 0) = false := by simpa using h1
            have b2 : (f2 != 0) = true := by simpa using h2
            clear h0 h1 h2 HFP HF0 GW9
            go_wp2
            go_ret
            exact ⟨rfl, unhide HG9⟩
          · have b1 : (f1 != 0) = true := by simpa using h1
            clear h0 h1 HFP HF0 GW9
            go_wp2
            go_ret
            exact ⟨rfl, unhide HG9⟩
      · have HD := hide (show Strs W (some ⟨g, off + k, none⟩) dk by rw [unhide HDK]; exact (unhide HS).drop k)
        have hckk : ¬ c - k = 0 := by omega
        go_enter Tryz.func4, Tryz.ntmps4
        go_wp2_with fail
        refine (dkbegun_any _ (unhide HV)).mono ?_
        rintro e w1 ⟨rfl, G1⟩
        have HG := hide G1
        clear G1
        go_wp2_with fail
        refine (slow_any (some ⟨g, off, none⟩) n c ls _ (unhide HL) (by omega) (unhide HB) ((unhide HS).chg (unhide HG))).mono ?_
        rintro e w1 ⟨rfl, rfl⟩
        rw [unhide HSL]
        go_wp2_with fail
        refine (dknew_any _).mono ?_
        rintro e w2 ⟨Md, rfl, Dd⟩
        have HDd := hide Dd
        clear Dd
        go_wp2_with fail
        refine (dknew_any _).mono ?_
        rintro e w3 ⟨Me, rfl, De0⟩
        have zW := (unhide HG).size
        have De : Dq w1 w3 Me G0 [] := De0.lower (unhide HDd).c.ch
        have Dd3 := (unhide HDd).new De0.c.ch
        have ap3 : Apart7 Md Me := fun x hx hy => by have h1 := (unhide HDd).hi x hx; have h2 := De0.lo hy; omega
        have HV1 := hide ((unhide HV).chg (unhide HG))
        have GW3 := (unhide HG).trans Dd3.c.ch (by simp)
        have S3 := (unhide HST).far zW Dd3 GW3
        have HDe := hide De
        have HDd3 := hide Dd3
        have HAP := hide ap3
        have HS3 := hide S3
        clear De0 De Dd3 ap3 S3 GW3 HDd
        go_wp2_with fail
        refine (ddo_any w1 Md G0 Md.db _ k c tk _ rfl (unhide HDd3) (unhide HV1) (unhide HKT) (unhide HLT) (unhide HS3)).mono ?_
        rintro e w4 ⟨rfl, lO4, M4, X4⟩
        obtain ⟨De4, ap4⟩ := X4.apart (unhide HDe) (.inr (fun x hx => (unhide HDd3).lo hx)) (unhide HAP)
        have b9 : Blk (w4.alloc (.cells #[.int .i64 (faultL tk).1, .int .i64 (faultL tk).2] 31)) w4.heap.size _ _ := Blk.new w4 _ _
        have k5 := (Chg.refl [] w4).alloc (.cells #[.int .i64 (faultL tk).1, .int .i64 (faultL tk).2] 31)
        have n9d := X4.k.free (Nat.le_refl w4.heap.size)
        have n9e := De4.free (Nat.le_refl w4.heap.size)
        have e4 := X4.db
        have HE4 := hide e4
        have HDd5 := hide (X4.k.new k5)
        have HDe5 := hide (De4.new k5)
        have HAP4 := hide ap4
        have HL4 := hide lO4
        clear X4 De4 ap4 k5 lO4 HDe HDd3 HAP HS3 e4
        go_upto_region 8 with fail
        generalize w4.alloc (.cells #[.int .i64 (faultL tk).1, .int .i64 (faultL tk).2] 31) = w5 at *
        have HF9 := hide b9
        clear b9
        have GW5 := (unhide HG).trans (unhide HDd5).c.ch (by simp)
        have HS5 := hide ((unhide HS).far zW (unhide HDe5) GW5)
        clear GW5
        go_wp2_with fail
        refine (ddo_any w1 Me G0 Me.db _ n c ls _ rfl (unhide HDe5) (unhide HV1) (unhide HL) (unhide HLL) (unhide HS5)).mono ?_
        rintro e w6 ⟨rfl, lO6, M6, X6⟩
        obtain ⟨Dd6, ap6⟩ := X6.apart (unhide HDd5) (.inr (fun x hx => (unhide HDe5).lo hx)) (unhide HAP4).symm
        have f96 := X6.blk (unhide HF9) n9e
        have n9f := X6.other (unhide HF9).lt n9e
        have k7 := (Chg.refl [] w6).alloc (.cells #[.int .i64 (faultL ls).1, .int .i64 (faultL ls).2] 31)
        have b11 : Blk (w6.alloc (.cells #[.int .i64 (faultL ls).1, .int .i64 (faultL ls).2] 31)) w6.heap.size _ _ := Blk.new w6 _ _
        have n11d := Dd6.free (Nat.le_refl w6.heap.size)
        have f97 := f96.chg k7 (by simp)
        have HDd7 := hide (Dd6.new k7)
        have HL6 := hide lO6
        clear X6 Dd6 ap6 f96 k7 lO6 HF9 HDd5 HDe5 HAP4 HS5 n9e n9f
        go_upto_region 9 with fail
        generalize w6.alloc (.cells #[.int .i64 (faultL ls).1, .int .i64 (faultL ls).2] 31) = w7 at *
        have HF9 := hide f97
        have HF11 := hide b11
        clear f97 b11
        have GW7 := (unhide HG).trans (unhide HDd7).c.ch (by simp)
        have HS7 := hide ((unhide HD).far zW (unhide HDd7) GW7)
        clear GW7
        go_wp2_with fail
        refine (ddo_any w1 M4 (doS G0 tk) Md.db _ _ _ dk _ (unhide HE4) (unhide HDd7) (unhide HV1) (by rw [unhide HKD]; try omega) (unhide HLD) (unhide HS7)).mono ?_
        rintro e w8 ⟨rfl, lO8, M8, X8⟩
        have f98 := X8.blk (unhide HF9) n9d
        have f118 := X8.blk (unhide HF11) n11d
        have k9 := (Chg.refl [] w8).alloc (.cells #[.int .i64 (faultL dk).1, .int .i64 (faultL dk).2] 31)
        have b13 : Blk (w8.alloc (.cells #[.int .i64 (faultL dk).1, .int .i64 (faultL dk).2] 31)) w8.heap.size _ _ := Blk.new w8 _ _
        have f99 := f98.chg k9 (by simp)
        have f119 := f118.chg k9 (by simp)
        have GW9 := ((unhide HG).trans X8.k.c.ch (by simp)).trans k9 (by simp)
        have HL8 := hide lO8
        clear X8 f98 f118 k9 lO8 HF9 HF11 HDd7 HS7 n9d n11d
        go_upto_region 10 with fail
        generalize w8.alloc (.cells #[.int .i64 (faultL dk).1, .int .i64 (faultL dk).2] 31) = w9 at *
        obtain ⟨f1, hf1⟩ : ∃ f, f = (faultL tk).1 := ⟨_, rfl⟩
        obtain ⟨f2, hf2⟩ : ∃ f, f = (faultL dk).1 := ⟨_, rfl⟩
        obtain ⟨f0, hf0⟩ : ∃ f, f = (faultL ls).1 := ⟨_, rfl⟩
        have HFP := hide (show f0 = 0 ↔ f1 = 0 ∧ f2 = 0 by rw [hf0, hf1, hf2]; exact unhide HFQ)
        have c9 : w9.cell? ⟨w4.heap.size, 0, none⟩ = some (.int .i64 f1) := by rw [hf1]; exact f99.cell 0
        have c11 : w9.cell? ⟨w6.heap.size, 0, none⟩ = some (.int .i64 f0) := by rw [hf0]; exact f119.cell 0
        have c13 : w9.cell? ⟨w8.heap.size, 0, none⟩ = some (.int .i64 f2) := by rw [hf2]; exact b13.cell 0
        have z9 := f99.lt
        have z11 := f119.lt
        have z13 := b13.lt
        have HF0 := hide hf0
        clear hf0 hf1 hf2 f99 f119 b13
        by_cases h0 : f0 = 0
        · obtain ⟨h1, h2⟩ := (unhide HFP).1 h0
          have HPP := hide (unhide HDQ (by rw [← unhide HF0]; exact h0))
          subst h0
          subst h1
          subst h2
          have HG9 := hide GW9
          have HS9 := hide GW9
          clear HFP HF0 GW9
          go_wp2_with fail
          refine (dknew_any _).mono ?_
          rintro e w10 ⟨Mt, rfl, Dt⟩
          have GW10 := (unhide HG9).trans Dt.c.ch (by simp)
          have HST := hide ((unhide HS).far (unhide HG9).size Dt GW10)
          have HDt := hide Dt
          clear Dt GW10
          go_wp2_with fail
          refine (ddo_any w9 Mt G0 Mt.db _ n c ls _ rfl (unhide HDt) ((unhide HV).chg (unhide HG9)) (unhide HL) (unhide HLL) (unhide HST)).mono ?_
          rintro e w11 ⟨rfl, -, M11, X11⟩
          have k11 := X11.k.c.ch
          have q9 := (k11.cell' (p := ⟨w4.heap.size, 0, none⟩) z9 (by simp)).trans c9
          have q13 := (k11.cell' (p := ⟨w8.heap.size, 0, none⟩) z13 (by simp)).trans c13
          have y9 := Nat.lt_of_lt_of_le z9 k11.size
          have y13 := Nat.lt_of_lt_of_le z13 k11.size
          have GW11 := (unhide HG9).trans k11 (by simp)
          clear X11 k11 c9 c11 c13 z9 z11 z13 HDt HST
          generalize (faultL ls).1 = g1 at *
          generalize (faultL ls).2 = g2 at *
          have hb0 : (doO G0 tk).length + (doO (doS G0 tk) dk).length ≤ 18000000 := by have h1 := unhide HL4; have h2 := unhide HL8; omega
          have hpp := unhide HPP
          clear HPP HL4 HL6 HL8
          generalize doO G0 tk = A at *
          generalize doO (doS G0 tk) dk = B at *
          generalize doO G0 ls = C at *
          have hadd : strA A ++ strA B = strA C := by rw [strA_app, hpp]
          have hs1 := strA_size A
          have hs2 := strA_size B
          have hb1 : ¬ 9223372036854775807 < A.length + B.length := by omega
          have hcc : ((strA C).toList == (strA C).toList) = true := by simp
          clear hpp
          go_wp2
          go_ret
          exact ⟨rfl, GW11.alloc _⟩
        · have b0 : (f0 != 0) = true := by simpa using h0
          have HG9 := hide GW9
          by_cases h1 : f1 = 0
          · have h2 : ¬ f2 = 0 := fun h2 => h0 ((unhide HFP).2 ⟨h1, h2⟩)
            have b1 : (f1 != 0) = false := by simpa using h1
            have b2 : (f2 != 0) = true := by simpa using h2
            clear h0 h1 h2 HFP HF0 GW9
            go_wp2
            go_ret
            exact ⟨rfl, unhide HG9⟩
          · have b1 : (f1 != 0) = true := by simpa using h1
            clear h0 h1 HFP HF0 GW9
            go_wp2
            go_ret
            exact ⟨rfl, unhide HG9⟩

end Go.Proofs.YtllnjiljjodfdacGreatDoor

namespace Go.Proofs.YtllnjiljjodfdacGreatDoor
open Go.ChangeShapes Go.WideShapes Go.ChangeAt Go.RowKit

set_option maxRecDepth 100000 in
theorem joins_lifted (os : Os) (started : os.Started) (H : Type) (enc : TypeId × Value → H) :
    ReturnsInHanded {} Tryz.checked os 4 .any (fun w args => (Rows.deskJoinsSpec.pre enc Tryz.prog Tryz.f4 [] false w args ∧ laidMetH Tryz.prog laidF w) ∧ sizedMet enc Tryz.prog Tryz.f4 (OpenSpec.ofChange Rows.deskJoinsSpec) false w args)
      (Rows.deskJoinsSpec.post enc Tryz.prog Tryz.f4 false true false false) := by
  refine returnsInHanded_of_change_and (C := Tryz.checked) (X := fun w _ => laidMetH Tryz.prog laidF w) (fun _ _ _ hh h => h.of_heap hh) ownF started (by kernel_rfl) Tryz.func4
    (ChangeSpec.witness_shaped (enc := enc) (C := Tryz.checked) (os := os) (X := fun w _ => laidMetH Tryz.prog laidF w) false (World.doorLaid Tryz.prog 400 os) #[.slice none 0 0, .int .i64 0] 8 rfl (World.shaped_of_RefB (by kernel_rfl) (by kernel_rfl)) (by kernel_rfl) (by kernel_rfl) (by kernel_rfl) (door_metF os _)) ?_
  intro W base args ds gs before hval0 hW hcnd hsz0 hL _
  have hsz : (DataW.weightsEach Tryz.prog (Tryz.f4.params.toList ++ Rows.deskJoinsSpec.plain.varTypes Tryz.prog) (ds ++ gs)).all (· ≤ reachBytes) = true := hsz0
  clear hsz0
  have hval : ∀ (j : Nat) t v, Tryz.f4.params[j]? = some t → args[j]? = some v → Value.okWide Tryz.prog W .any base t v := hval0
  have hW' := hW
  obtain ⟨p, q, hA0, hV, rfl, hfz, hnd⟩ := hW
  have hA : DataW.TrodAll enc Tryz.prog W 0 (fun _ => true) true Tryz.f4.params.toList args.toList ds p := hA0
  rw [Tryz.params4] at hA hval hsz
  obtain ⟨v0, vs0, d0, ds0, p0, q0, hargs, rfl, rfl, h0, r0⟩ := trodAll_cons hA
  obtain ⟨v1, vs1, d1, ds1, p1, q1, rfl, rfl, rfl, h1, r1⟩ := trodAll_cons r0
  obtain ⟨rfl, rfl, rfl⟩ := trodAll_nil r1
  obtain rfl : args = #[v0, v1] := by cases args; simp_all
  obtain ⟨rfl, rfl⟩ := trodVars_none hV
  obtain ⟨a0, len0, cap0, rfl⟩ := okWide_slice Tryz.underlying22 (hval 0 22 v0 rfl rfl)
  have k0 := h0
  have lt0 : ∀ x ∈ p0, x.block < W.heap.size := by obtain ⟨m, hm⟩ := k0; exact DataW.trod_lt m _ _ _ hm
  obtain ⟨ls0, e0, c0, z0, S0, m0⟩ : ∃ ls : List (List UInt8), ls.length = len0 ∧ len0 ≤ cap0 ∧ (a0 = none → cap0 = 0) ∧ Strs W a0 ls ∧ ∀ y ∈ ls, y.length ∈ d0.weights Tryz.prog 22 := by
    obtain ⟨fuel, hf⟩ := h0
    exact strs_of_trod (by simpa [Value.cells] using hf)
  have y0 : ∀ x ∈ ls0, x.length ≤ 1000000000000000000 := fun x hx => reachF (by simpa using List.all_eq_true.1 hsz _ (DataW.weights_mem_each (j := 0) (t := 22) rfl rfl _ (m0 x hx)))
  obtain ⟨a1, rfl, rfl, rfl, w1⟩ := open_int Tryz.underlying3 (hval 1 3 v1 rfl rfl) h1
  clear hA0 hval0
  refine (joins_any a0 len0 cap0 ls0 a1 W e0 c0 z0 y0 S0 (vars_of_laid hL)).mono fun e W' ⟨he, hch⟩ => ?_
  have bel := hch.below
  subst he
  exact ⟨_, rfl, _, _, _, [], _, [], hW', trodAll_mk1 (shut_bool Tryz.underlying4 _), (trodAll_cons_mk (Below.trod laidOutF (by kernel_rfl) (of_decide_eq_true (by kernel_rfl)) k0 bel lt0) (trodAll_cons_mk (shut_int Tryz.underlying3 w1) trodAll_mk0)), rfl, bel.frame _, fun h => by cases h⟩

theorem joins_row : Rows.DeskJoinsSaid :=
  OpenClaim.holds_of_wide 4 Tryz.f4 rfl rfl rfl rfl rfl rfl rfl ⟨rfl, rfl, rfl, rfl, rfl⟩ rfl rfl rfl rfl rfl (by kernel_rfl) Tryz.func4 (by kernel_rfl)
    (of_decide_eq_true (by kernel_rfl)) (by unfold Func.isWrapper; first | (rw [if_pos (by decide +kernel)]; kernel_rfl) | (rw [if_neg (by decide +kernel)]; exact ⟨rfl, rfl⟩))
    (fun os started H enc _ => joins_lifted os started H enc)

theorem joins_holds : Rows.DeskJoinsCardSaid :=
  Claim7.holds_tied_plain_at .later [] [.data, .data, .data, .sentinel, .sentinel] true Rows.deskJoinsCard.stood.harness true
    joins_row (fun _ h => by cases h) (by kernel_rfl) (fun _ h => by cases h) deskJoins_row_tie rfl ⟨rfl, rfl⟩ (by kernel_rfl) rfl
    (fun f fn hf hfn => by
      obtain rfl : f = 4 := Option.some.inj ((show Tryz.prog.funcNamed Rows.deskJoinsRow.func = some 4 by kernel_rfl).symm.trans hf) |>.symm
      obtain rfl : fn = Tryz.f4 := (Option.some.inj (Tryz.func4.symm.trans hfn)).symm
      exact ⟨by kernel_rfl, fun j t ht => by
        rw [Tryz.params4] at ht
        have hm : t ∈ [22, 3] := by simpa using Array.mem_of_getElem? ht
        have hall : ([22, 3].all fun u => !Tryz.prog.wantsStandIn u) = true := by kernel_rfl
        exact (show Tryz.prog.wantsStandIn t = false by simpa using List.all_eq_true.1 hall t hm)⟩)
    (by kernel_rfl)

end Go.Proofs.YtllnjiljjodfdacGreatDoor

