/- FallOk by the model. -/
import Derived.Test.YtfigkfcdfmoihaaDoorRelFo
import Derived.Test.YtfigkfcdfmoihaaDoorRelE
namespace Go.Proofs.YtfigkfcdfmoihaaDoor
set_option maxRecDepth 100000
open Go.RowKit

set_option maxHeartbeats 8000000 in
theorem spec_FallOk (a0 : Option Addr) (n0 c0 : Nat) (x0 : List Int) (a1 : Option Addr) (n1 c1 : Nat) (x1 : List (List Int)) (w : World) (h0 : Sl w a0 n0 c0 x0) (h1 : SlR w a1 n1 c1 x1) :
    Calls Tryd.prog 13 #[.slice a0 n0 c0, .slice a1 n1 c1] w fun e w' => e = .returned (.bool (fallB x0 x1)) ∧ Below w.heap.size w w' := by
  have k0 := Lib.hid (spec_RelValid a0 n0 c0 x0 w h0)
  have HL0 := Lib.hid h0.1
  have HL1 := Lib.hid h1.1
  have H0 := Lib.hid h0
  have H1 := Lib.hid h1
  obtain ⟨o, ho⟩ : ∃ o, o = fallB x0 x1 := ⟨_, rfl⟩
  have HNo : Hid (¬ FallP x0 x1 → o = false) := fun h9 => ho.trans (fallB_no h9)
  have HYes : Hid (FallP x0 x1 → o = true) := fun h9 => ho.trans (fallB_yes h9)
  rw [← ho]
  clear h0 h1 ho
  rcases rel_tf x0 with e0 | e0
  · rw [e0] at k0
    have hR0 := relB_true.1 e0
    have hn0 := hR0.1
    rw [HL0.out] at hn0
    have HR0 := Lib.hid hR0
    clear e0 hR0
    by_cases hne : n1 = n0
    · subst hne
      have hn1 : ¬ (n1 : Int) = 0 := by omega
      obtain ⟨b0, o0, rfl, hat0⟩ := H0.out.2.2.2 (by omega)
      have hb0 : b0 < w.heap.size := hat0.lt (by intro h9; have := HL0.out; rw [h9] at this; simp at this; omega)
      obtain ⟨b1, o1, rfl, hat1⟩ := H1.out.2.2.2 (by omega)
      have HA0 := Lib.hid hat0
      clear hat0 hat1 hn1
      go_enter Tryd.func13, Tryd.ntmps13
      go_wp2_with fail
      refine (k0.out).mono ?_
      rintro ee w1 ⟨rfl, hd1⟩
      have HB1 := Lib.hid hd1
      clear hd1
      go_wp2_with fail
      go_loopw [5] (fun v5 wr => ∃ k : Nat, k ≤ n1 ∧ v5 = .int .i64 k ∧ Hid (∀ j x, j < k → x1[j]? = some x → T.vldB x = true) ∧ Below w.heap.size w wr) (fun v5 _ => n1 - (intOf v5).toNat)
      case atStart => exact ⟨0, Nat.zero_le _, rfl, fun j x hj => by omega, HB1.out⟩
      case round =>
        obtain ⟨k, hk, rfl, HE, hbel⟩ := hrel
        by_cases hlt : k < n1
        · obtain ⟨x, hx⟩ : ∃ x, x1[k]? = some x := ⟨x1[k]'(by rw [HL1.out]; exact hlt), List.getElem?_eq_getElem _⟩
          obtain ⟨b1', o1', hbe, hat⟩ := (H1.out.below hbel).2.2.2 (by omega)
          cases hbe
          obtain ⟨a2, n2, c2, e1, s1⟩ := hat k x hx
          have kV := Lib.hid (spec_OrdValid a2 n2 c2 x wr s1)
          have Hbel := Lib.hid hbel
          rcases vld_tf x with hv | hv
          · rw [hv] at kV
            have HV := Lib.hid hv
            have Hx := Lib.hid hx
            clear hx s1 hat hv hbel
            go_wp2_with fail
            refine (kV.out).mono ?_
            rintro ee w2 ⟨rfl, hb2⟩
            have Hb2 := Lib.hid (Hbel.out.trans (hb2.mono Hbel.out.size))
            clear hb2
            go_wp2_with fail
            go_roundw
            case measure => simp [intOf]; omega
            case rel =>
              refine ⟨k + 1, by omega, by go_num, fun j x' hj hx' => ?_, Hb2.out⟩
              by_cases hjk : j = k
              · subst hjk
                have h9 := Hx.out.symm.trans hx'
                cases h9
                exact HV.out
              · exact HE.out j x' (by omega) hx'
          · rw [hv] at kV
            have hoF := HNo.out (fun h9 => by have := h9.2.2.1 x (List.mem_of_getElem? hx); rw [hv] at this; cases this)
            subst hoF
            clear hx s1 hat hv hbel
            go_wp2_with fail
            refine (kV.out).mono ?_
            rintro ee w2 ⟨rfl, hb2⟩
            have Hb2 := Lib.hid (Hbel.out.trans (hb2.mono Hbel.out.size))
            clear hb2
            go_wp2_with fail
            go_ret
            exact ⟨rfl, Hb2.out⟩
        · obtain rfl : k = n1 := by omega
          have HV : Hid (∀ j x, x1[j]? = some x → T.vldB x = true) := fun j x hx => HE.out j x (by have := (List.getElem?_eq_some_iff.1 hx).1; have := HL1.out; omega) hx
          have Hbel := Lib.hid hbel
          clear hbel
          go_wp2_with fail
          go_loopw [6] (fun v6 wr => ∃ p : Nat, p ≤ k ∧ v6 = .int .i64 p ∧ Hid (∀ p' q, p' < p → (rw' x0 p').testBit q = true → 0 < T.cmpRow (x1.getD p' []) (x1.getD q [])) ∧ Below w.heap.size w wr) (fun v6 _ => k - (intOf v6).toNat)
          case atStart => exact ⟨0, Nat.zero_le _, rfl, fun p' q hj => by omega, Hbel.out⟩
          case round =>
            obtain ⟨p, hp, rfl, HP, hbelA⟩ := hrel
            have HBA := Lib.hid hbelA
            clear hbelA
            by_cases hpl : p < k
            · go_wp2_with fail
              go_loopw [7] (fun v7 wr => ∃ q : Nat, q ≤ k ∧ v7 = .int .i64 q ∧ Hid (∀ q', q' < q → (rw' x0 p).testBit q' = true → 0 < T.cmpRow (x1.getD p []) (x1.getD q' [])) ∧ Below w.heap.size w wr) (fun v7 _ => k - (intOf v7).toNat)
              case atStart => exact ⟨0, Nat.zero_le _, rfl, fun q' hj => by omega, HBA.out⟩
              case round =>
                obtain ⟨q, hq, rfl, HQ, hbelB⟩ := hrel
                obtain ⟨wB, rfl⟩ : ∃ wB : World, wB = wr := ⟨_, rfl⟩
                have hwB := hbelB.size
                by_cases hql : q < k
                · have y0 : wB.cell? ⟨b0, o0 + p, none⟩ = some (.int .i64 (rw' x0 p : Int)) := by
                    have h9 := (HA0.out.below hbelB hb0) p (by rw [HL0.out]; exact hpl)
                    rw [h9, HR0.out.row_int (by rw [HL0.out]; exact hpl)]
                  obtain ⟨xp, hxp⟩ : ∃ x, x1[p]? = some x := ⟨x1[p]'(by rw [HL1.out]; exact hpl), List.getElem?_eq_getElem _⟩
                  obtain ⟨xq, hxq⟩ : ∃ x, x1[q]? = some x := ⟨x1[q]'(by rw [HL1.out]; exact hql), List.getElem?_eq_getElem _⟩
                  obtain ⟨b1', o1', hbe, hat⟩ := (H1.out.below hbelB).2.2.2 (by omega)
                  cases hbe
                  obtain ⟨ap, np, cp, ep, sp⟩ := hat p xp hxp
                  obtain ⟨aq, nq, cq, eq, sq⟩ := hat q xq hxq
                  have hgp : x1.getD p [] = xp := by simp [List.getD, hxp]
                  have hgq : x1.getD q [] = xq := by simp [List.getD, hxq]
                  have kc := Lib.hid (compS_any ap np cp xp aq nq cq xq wB.drew (sp.below (Joins.below_draws _ _ _)) (sq.below (Joins.below_draws _ _ _)) (HV.out p xp hxp) (HV.out q xq hxq))
                  have HZe := Lib.hid (show T.cmpRow (x1.getD p []) (x1.getD q []) = T.cmpRow xp xq by rw [hgp, hgq])
                  obtain ⟨Z, hZ⟩ : ∃ Z, Z = T.cmpRow xp xq := ⟨_, rfl⟩
                  rw [← hZ] at kc HZe
                  obtain ⟨A, hA⟩ : ∃ A, A = rw' x0 p := ⟨_, rfl⟩
                  rw [← hA] at y0
                  have HAe := Lib.hid hA
                  clear hA hZ hgp hgq hat sp sq hxp hxq
                  rcases bit_tf A q with hB | hB
                  · have ka := Lib.hid (bitI_k1 hB (fun wx => l7Bit_any A q (by omega) wx))
                    by_cases hz : Z ≤ 0
                    · have hoF := HNo.out (fun h9 => by
                        have h8 := h9.2.2.2 p q (by rw [HL0.out]; exact hpl) (by rw [← HAe.out]; exact hB)
                        rw [HZe.out] at h8; omega)
                      subst hoF
                      clear hB
                      go_wp2_with fail
                      -- REGION Z
                      refine wp_region_any (by kernel_rfl) ?_
                      try (change wpAny _ _ _ _ _ _ _ (World.drew _))
                      have y0d : wB.drew.cell? ⟨b0, o0 + p, none⟩ = some (.int .i64 (A : Int)) := y0
                      have epd : wB.drew.cell? ⟨b1, o1 + p, none⟩ = some (.slice ap np cp) := ep
                      have eqd : wB.drew.cell? ⟨b1, o1 + q, none⟩ = some (.slice aq nq cq) := eq
                      refine wpAny_take (oi := ⟨some 42, _, _, _, _, _⟩) (i := 0) (v := .slice (some ⟨b0, o0, none⟩) k c0) rfl (by kernel_rfl) (by kernel_rfl) (by kernel_rfl) (fun _ _ _ h => h) (Or.inl ⟨by kernel_rfl, fun w => by go_simp⟩) ?_
                      simp only [Act.put, List.setIfInBounds_toArray, List.set_cons_zero, List.set_cons_succ]
                      refine wpAny_take (oi := ⟨some 43, _, _, _, _, _⟩) (i := 1) (v := .int .i64 (p : Int)) rfl (by kernel_rfl) (by kernel_rfl) (by kernel_rfl) (fun _ _ _ h => h) (Or.inl ⟨by kernel_rfl, fun w => by go_simp⟩) ?_
                      simp only [Act.put, List.setIfInBounds_toArray, List.set_cons_zero, List.set_cons_succ]
                      refine wpAny_take (oi := ⟨some 44, _, _, _, _, _⟩) (i := 2) (v := .pointer (some ⟨b0, o0 + p, none⟩)) rfl (by kernel_rfl) (by kernel_rfl) (by kernel_rfl) (fun _ _ _ h => h) (Or.inl ⟨by kernel_rfl, fun w => by (go_simp; try omega)⟩) ?_
                      simp only [Act.put, List.setIfInBounds_toArray, List.set_cons_zero, List.set_cons_succ]
                      refine wpAny_take (oi := ⟨some 46, _, _, _, _, _⟩) (i := 4) (v := .int .i64 (q : Int)) rfl (by kernel_rfl) (by kernel_rfl) (by kernel_rfl) (fun _ _ _ h => h) (Or.inl ⟨by kernel_rfl, fun w => by go_simp⟩) ?_
                      simp only [Act.put, List.setIfInBounds_toArray, List.set_cons_zero, List.set_cons_succ]
                      refine wpAny_ready (rs := [3]) (by kernel_rfl) (by simp) (AllReady.cons rfl (fun K hK => ?_) AllReady.nil)
                      go_simp
                      refine hK _ _ ?_
                      clear hK K
                      refine wpAny_ready (rs := [5]) (by kernel_rfl) (by simp) (AllReady.cons rfl (fun K hK => ?_) AllReady.nil)
                      go_simp
                      go_wp2_with (first
                        | (go_at_call 20; (refine (ka.out _).mono ?_); rintro ee wx ⟨rfl, rfl⟩)
                        | fail)
                      refine wpAny_take (oi := ⟨some 48, _, _, _, _, _⟩) (i := 6) (v := .bool true) rfl (by kernel_rfl) (by kernel_rfl) (by kernel_rfl) (fun _ _ _ h => h) (Or.inl ⟨by kernel_rfl, fun w => by go_simp⟩) ?_
                      simp only [Act.put, List.setIfInBounds_toArray, List.set_cons_zero, List.set_cons_succ]
                      refine wpAny_take (oi := ⟨some 49, _, _, _, _, _⟩) (i := 7) (v := .bool true) rfl (by kernel_rfl) (by kernel_rfl) (by kernel_rfl) (fun _ _ _ h => h) (Or.inl ⟨by kernel_rfl, fun w => by go_simp⟩) ?_
                      simp only [Act.put, List.setIfInBounds_toArray, List.set_cons_zero, List.set_cons_succ]
                      refine wpAny_take (oi := ⟨some 50, _, _, _, _, _⟩) (i := 8) (v := .slice (some ⟨b1, o1, none⟩) k c1) rfl (by kernel_rfl) (by kernel_rfl) (by kernel_rfl) (fun _ _ _ h => h) (Or.inl ⟨by kernel_rfl, fun w => by go_simp⟩) ?_
                      simp only [Act.put, List.setIfInBounds_toArray, List.set_cons_zero, List.set_cons_succ]
                      refine wpAny_take (oi := ⟨some 51, _, _, _, _, _⟩) (i := 9) (v := .int .i64 (p : Int)) rfl (by kernel_rfl) (by kernel_rfl) (by kernel_rfl) (fun _ _ _ h => h) (Or.inl ⟨by kernel_rfl, fun w => by go_simp⟩) ?_
                      simp only [Act.put, List.setIfInBounds_toArray, List.set_cons_zero, List.set_cons_succ]
                      refine wpAny_take (oi := ⟨some 52, _, _, _, _, _⟩) (i := 10) (v := .pointer (some ⟨b1, o1 + p, none⟩)) rfl (by kernel_rfl) (by kernel_rfl) (by kernel_rfl) (fun _ _ _ h => h) (Or.inl ⟨by kernel_rfl, fun w => by (go_simp; try omega)⟩) ?_
                      simp only [Act.put, List.setIfInBounds_toArray, List.set_cons_zero, List.set_cons_succ]
                      refine wpAny_take (oi := ⟨some 54, _, _, _, _, _⟩) (i := 12) (v := .slice (some ⟨b1, o1, none⟩) k c1) rfl (by kernel_rfl) (by kernel_rfl) (by kernel_rfl) (fun _ _ _ h => h) (Or.inl ⟨by kernel_rfl, fun w => by go_simp⟩) ?_
                      simp only [Act.put, List.setIfInBounds_toArray, List.set_cons_zero, List.set_cons_succ]
                      refine wpAny_take (oi := ⟨some 55, _, _, _, _, _⟩) (i := 13) (v := .int .i64 (q : Int)) rfl (by kernel_rfl) (by kernel_rfl) (by kernel_rfl) (fun _ _ _ h => h) (Or.inl ⟨by kernel_rfl, fun w => by go_simp⟩) ?_
                      simp only [Act.put, List.setIfInBounds_toArray, List.set_cons_zero, List.set_cons_succ]
                      refine wpAny_take (oi := ⟨some 56, _, _, _, _, _⟩) (i := 14) (v := .pointer (some ⟨b1, o1 + q, none⟩)) rfl (by kernel_rfl) (by kernel_rfl) (by kernel_rfl) (fun _ _ _ h => h) (Or.inl ⟨by kernel_rfl, fun w => by (go_simp; try omega)⟩) ?_
                      simp only [Act.put, List.setIfInBounds_toArray, List.set_cons_zero, List.set_cons_succ]
                      refine wpAny_ready (rs := [11, 15]) (by kernel_rfl) (by simp) (AllReady.cons rfl (fun K hK => ?_) (AllReady.cons rfl (fun K hK => ?_) AllReady.nil))
                      · go_simp
                        refine hK _ _ ?_
                        clear hK K
                        refine wpAny_ready (rs := [15]) (by kernel_rfl) (by simp) (AllReady.cons rfl (fun K hK => ?_) AllReady.nil)
                        go_simp
                        refine hK _ _ ?_
                        clear hK K
                        refine wpAny_ready (rs := [16]) (by kernel_rfl) (by simp) (AllReady.cons rfl (fun K hK => ?_) AllReady.nil)
                        go_simp
                        go_wp2_with (first
                          | (go_at_call 27; (refine (kc.out).mono ?_); rintro ee wx ⟨rfl, hbx⟩)
                          | fail)
                        refine wpAny_take (oi := ⟨some 59, _, _, _, _, _⟩) (i := 17) (v := .bool true) rfl (by kernel_rfl) (by kernel_rfl) (by kernel_rfl) (fun _ _ _ h => h) (Or.inl ⟨by kernel_rfl, fun w => by (go_simp; try simp [hz]; try omega)⟩) ?_
                        simp only [Act.put, List.setIfInBounds_toArray, List.set_cons_zero, List.set_cons_succ]
                        refine wpAny_take (oi := ⟨some 60, _, _, _, _, _⟩) (i := 18) (v := .bool true) rfl (by kernel_rfl) (by kernel_rfl) (by kernel_rfl) (fun _ _ _ h => h) (Or.inl ⟨by kernel_rfl, fun w => by go_simp⟩) ?_
                        simp only [Act.put, List.setIfInBounds_toArray, List.set_cons_zero, List.set_cons_succ]
                        refine wpAny_done (by kernel_rfl) ?_ _
                        have Hbx := Lib.hid (hbelB.trans ((Joins.below_draws _ _ _).trans (hbx.mono (by simp)) |>.mono hwB))
                        clear hbx
                        go_wp2_with fail
                        go_ret
                        exact ⟨rfl, Hbx.out⟩
                      · go_simp
                        refine hK _ _ ?_
                        clear hK K
                        refine wpAny_ready (rs := [11]) (by kernel_rfl) (by simp) (AllReady.cons rfl (fun K hK => ?_) AllReady.nil)
                        go_simp
                        refine hK _ _ ?_
                        clear hK K
                        refine wpAny_ready (rs := [16]) (by kernel_rfl) (by simp) (AllReady.cons rfl (fun K hK => ?_) AllReady.nil)
                        go_simp
                        go_wp2_with (first
                          | (go_at_call 27; (refine (kc.out).mono ?_); rintro ee wx ⟨rfl, hbx⟩)
                          | fail)
                        refine wpAny_take (oi := ⟨some 59, _, _, _, _, _⟩) (i := 17) (v := .bool true) rfl (by kernel_rfl) (by kernel_rfl) (by kernel_rfl) (fun _ _ _ h => h) (Or.inl ⟨by kernel_rfl, fun w => by (go_simp; try simp [hz]; try omega)⟩) ?_
                        simp only [Act.put, List.setIfInBounds_toArray, List.set_cons_zero, List.set_cons_succ]
                        refine wpAny_take (oi := ⟨some 60, _, _, _, _, _⟩) (i := 18) (v := .bool true) rfl (by kernel_rfl) (by kernel_rfl) (by kernel_rfl) (fun _ _ _ h => h) (Or.inl ⟨by kernel_rfl, fun w => by go_simp⟩) ?_
                        simp only [Act.put, List.setIfInBounds_toArray, List.set_cons_zero, List.set_cons_succ]
                        refine wpAny_done (by kernel_rfl) ?_ _
                        have Hbx := Lib.hid (hbelB.trans ((Joins.below_draws _ _ _).trans (hbx.mono (by simp)) |>.mono hwB))
                        clear hbx
                        go_wp2_with fail
                        go_ret
                        exact ⟨rfl, Hbx.out⟩
                      -- END REGION
                    · have HQ2 : Hid (∀ q', q' < q + 1 → (rw' x0 p).testBit q' = true → 0 < T.cmpRow (x1.getD p []) (x1.getD q' [])) := fun q' hq' hb => by
                        by_cases hqq : q' = q
                        · subst hqq; rw [HZe.out]; omega
                        · exact HQ.out q' (by omega) hb
                      clear hB
                      go_wp2_with fail
                      -- REGION P
                      refine wp_region_any (by kernel_rfl) ?_
                      try (change wpAny _ _ _ _ _ _ _ (World.drew _))
                      have y0d : wB.drew.cell? ⟨b0, o0 + p, none⟩ = some (.int .i64 (A : Int)) := y0
                      have epd : wB.drew.cell? ⟨b1, o1 + p, none⟩ = some (.slice ap np cp) := ep
                      have eqd : wB.drew.cell? ⟨b1, o1 + q, none⟩ = some (.slice aq nq cq) := eq
                      refine wpAny_take (oi := ⟨some 42, _, _, _, _, _⟩) (i := 0) (v := .slice (some ⟨b0, o0, none⟩) k c0) rfl (by kernel_rfl) (by kernel_rfl) (by kernel_rfl) (fun _ _ _ h => h) (Or.inl ⟨by kernel_rfl, fun w => by go_simp⟩) ?_
                      simp only [Act.put, List.setIfInBounds_toArray, List.set_cons_zero, List.set_cons_succ]
                      refine wpAny_take (oi := ⟨some 43, _, _, _, _, _⟩) (i := 1) (v := .int .i64 (p : Int)) rfl (by kernel_rfl) (by kernel_rfl) (by kernel_rfl) (fun _ _ _ h => h) (Or.inl ⟨by kernel_rfl, fun w => by go_simp⟩) ?_
                      simp only [Act.put, List.setIfInBounds_toArray, List.set_cons_zero, List.set_cons_succ]
                      refine wpAny_take (oi := ⟨some 44, _, _, _, _, _⟩) (i := 2) (v := .pointer (some ⟨b0, o0 + p, none⟩)) rfl (by kernel_rfl) (by kernel_rfl) (by kernel_rfl) (fun _ _ _ h => h) (Or.inl ⟨by kernel_rfl, fun w => by (go_simp; try omega)⟩) ?_
                      simp only [Act.put, List.setIfInBounds_toArray, List.set_cons_zero, List.set_cons_succ]
                      refine wpAny_take (oi := ⟨some 46, _, _, _, _, _⟩) (i := 4) (v := .int .i64 (q : Int)) rfl (by kernel_rfl) (by kernel_rfl) (by kernel_rfl) (fun _ _ _ h => h) (Or.inl ⟨by kernel_rfl, fun w => by go_simp⟩) ?_
                      simp only [Act.put, List.setIfInBounds_toArray, List.set_cons_zero, List.set_cons_succ]
                      refine wpAny_ready (rs := [3]) (by kernel_rfl) (by simp) (AllReady.cons rfl (fun K hK => ?_) AllReady.nil)
                      go_simp
                      refine hK _ _ ?_
                      clear hK K
                      refine wpAny_ready (rs := [5]) (by kernel_rfl) (by simp) (AllReady.cons rfl (fun K hK => ?_) AllReady.nil)
                      go_simp
                      go_wp2_with (first
                        | (go_at_call 20; (refine (ka.out _).mono ?_); rintro ee wx ⟨rfl, rfl⟩)
                        | fail)
                      refine wpAny_take (oi := ⟨some 48, _, _, _, _, _⟩) (i := 6) (v := .bool true) rfl (by kernel_rfl) (by kernel_rfl) (by kernel_rfl) (fun _ _ _ h => h) (Or.inl ⟨by kernel_rfl, fun w => by go_simp⟩) ?_
                      simp only [Act.put, List.setIfInBounds_toArray, List.set_cons_zero, List.set_cons_succ]
                      refine wpAny_take (oi := ⟨some 49, _, _, _, _, _⟩) (i := 7) (v := .bool true) rfl (by kernel_rfl) (by kernel_rfl) (by kernel_rfl) (fun _ _ _ h => h) (Or.inl ⟨by kernel_rfl, fun w => by go_simp⟩) ?_
                      simp only [Act.put, List.setIfInBounds_toArray, List.set_cons_zero, List.set_cons_succ]
                      refine wpAny_take (oi := ⟨some 50, _, _, _, _, _⟩) (i := 8) (v := .slice (some ⟨b1, o1, none⟩) k c1) rfl (by kernel_rfl) (by kernel_rfl) (by kernel_rfl) (fun _ _ _ h => h) (Or.inl ⟨by kernel_rfl, fun w => by go_simp⟩) ?_
                      simp only [Act.put, List.setIfInBounds_toArray, List.set_cons_zero, List.set_cons_succ]
                      refine wpAny_take (oi := ⟨some 51, _, _, _, _, _⟩) (i := 9) (v := .int .i64 (p : Int)) rfl (by kernel_rfl) (by kernel_rfl) (by kernel_rfl) (fun _ _ _ h => h) (Or.inl ⟨by kernel_rfl, fun w => by go_simp⟩) ?_
                      simp only [Act.put, List.setIfInBounds_toArray, List.set_cons_zero, List.set_cons_succ]
                      refine wpAny_take (oi := ⟨some 52, _, _, _, _, _⟩) (i := 10) (v := .pointer (some ⟨b1, o1 + p, none⟩)) rfl (by kernel_rfl) (by kernel_rfl) (by kernel_rfl) (fun _ _ _ h => h) (Or.inl ⟨by kernel_rfl, fun w => by (go_simp; try omega)⟩) ?_
                      simp only [Act.put, List.setIfInBounds_toArray, List.set_cons_zero, List.set_cons_succ]
                      refine wpAny_take (oi := ⟨some 54, _, _, _, _, _⟩) (i := 12) (v := .slice (some ⟨b1, o1, none⟩) k c1) rfl (by kernel_rfl) (by kernel_rfl) (by kernel_rfl) (fun _ _ _ h => h) (Or.inl ⟨by kernel_rfl, fun w => by go_simp⟩) ?_
                      simp only [Act.put, List.setIfInBounds_toArray, List.set_cons_zero, List.set_cons_succ]
                      refine wpAny_take (oi := ⟨some 55, _, _, _, _, _⟩) (i := 13) (v := .int .i64 (q : Int)) rfl (by kernel_rfl) (by kernel_rfl) (by kernel_rfl) (fun _ _ _ h => h) (Or.inl ⟨by kernel_rfl, fun w => by go_simp⟩) ?_
                      simp only [Act.put, List.setIfInBounds_toArray, List.set_cons_zero, List.set_cons_succ]
                      refine wpAny_take (oi := ⟨some 56, _, _, _, _, _⟩) (i := 14) (v := .pointer (some ⟨b1, o1 + q, none⟩)) rfl (by kernel_rfl) (by kernel_rfl) (by kernel_rfl) (fun _ _ _ h => h) (Or.inl ⟨by kernel_rfl, fun w => by (go_simp; try omega)⟩) ?_
                      simp only [Act.put, List.setIfInBounds_toArray, List.set_cons_zero, List.set_cons_succ]
                      refine wpAny_ready (rs := [11, 15]) (by kernel_rfl) (by simp) (AllReady.cons rfl (fun K hK => ?_) (AllReady.cons rfl (fun K hK => ?_) AllReady.nil))
                      · go_simp
                        refine hK _ _ ?_
                        clear hK K
                        refine wpAny_ready (rs := [15]) (by kernel_rfl) (by simp) (AllReady.cons rfl (fun K hK => ?_) AllReady.nil)
                        go_simp
                        refine hK _ _ ?_
                        clear hK K
                        refine wpAny_ready (rs := [16]) (by kernel_rfl) (by simp) (AllReady.cons rfl (fun K hK => ?_) AllReady.nil)
                        go_simp
                        go_wp2_with (first
                          | (go_at_call 27; (refine (kc.out).mono ?_); rintro ee wx ⟨rfl, hbx⟩)
                          | fail)
                        refine wpAny_take (oi := ⟨some 59, _, _, _, _, _⟩) (i := 17) (v := .bool false) rfl (by kernel_rfl) (by kernel_rfl) (by kernel_rfl) (fun _ _ _ h => h) (Or.inl ⟨by kernel_rfl, fun w => by (go_simp; try simp [hz]; try omega)⟩) ?_
                        simp only [Act.put, List.setIfInBounds_toArray, List.set_cons_zero, List.set_cons_succ]
                        refine wpAny_take (oi := ⟨some 60, _, _, _, _, _⟩) (i := 18) (v := .bool false) rfl (by kernel_rfl) (by kernel_rfl) (by kernel_rfl) (fun _ _ _ h => h) (Or.inl ⟨by kernel_rfl, fun w => by go_simp⟩) ?_
                        simp only [Act.put, List.setIfInBounds_toArray, List.set_cons_zero, List.set_cons_succ]
                        refine wpAny_done (by kernel_rfl) ?_ _
                        have Hbx := Lib.hid (hbelB.trans ((Joins.below_draws _ _ _).trans (hbx.mono (by simp)) |>.mono hwB))
                        clear hbx
                        go_wp2_with fail
                        go_roundw
                        case rel => exact ⟨q + 1, by omega, by go_num, HQ2.out, Hbx.out⟩
                        case measure => simp [intOf]; omega
                      · go_simp
                        refine hK _ _ ?_
                        clear hK K
                        refine wpAny_ready (rs := [11]) (by kernel_rfl) (by simp) (AllReady.cons rfl (fun K hK => ?_) AllReady.nil)
                        go_simp
                        refine hK _ _ ?_
                        clear hK K
                        refine wpAny_ready (rs := [16]) (by kernel_rfl) (by simp) (AllReady.cons rfl (fun K hK => ?_) AllReady.nil)
                        go_simp
                        go_wp2_with (first
                          | (go_at_call 27; (refine (kc.out).mono ?_); rintro ee wx ⟨rfl, hbx⟩)
                          | fail)
                        refine wpAny_take (oi := ⟨some 59, _, _, _, _, _⟩) (i := 17) (v := .bool false) rfl (by kernel_rfl) (by kernel_rfl) (by kernel_rfl) (fun _ _ _ h => h) (Or.inl ⟨by kernel_rfl, fun w => by (go_simp; try simp [hz]; try omega)⟩) ?_
                        simp only [Act.put, List.setIfInBounds_toArray, List.set_cons_zero, List.set_cons_succ]
                        refine wpAny_take (oi := ⟨some 60, _, _, _, _, _⟩) (i := 18) (v := .bool false) rfl (by kernel_rfl) (by kernel_rfl) (by kernel_rfl) (fun _ _ _ h => h) (Or.inl ⟨by kernel_rfl, fun w => by go_simp⟩) ?_
                        simp only [Act.put, List.setIfInBounds_toArray, List.set_cons_zero, List.set_cons_succ]
                        refine wpAny_done (by kernel_rfl) ?_ _
                        have Hbx := Lib.hid (hbelB.trans ((Joins.below_draws _ _ _).trans (hbx.mono (by simp)) |>.mono hwB))
                        clear hbx
                        go_wp2_with fail
                        go_roundw
                        case rel => exact ⟨q + 1, by omega, by go_num, HQ2.out, Hbx.out⟩
                        case measure => simp [intOf]; omega
                      -- END REGION
                  · have ka := Lib.hid (bitI_k0 hB (fun wx => l7Bit_any A q (by omega) wx))
                    have HQ2 : Hid (∀ q', q' < q + 1 → (rw' x0 p).testBit q' = true → 0 < T.cmpRow (x1.getD p []) (x1.getD q' [])) := fun q' hq' hb => by
                      by_cases hqq : q' = q
                      · subst hqq; rw [← HAe.out, hB] at hb; cases hb
                      · exact HQ.out q' (by omega) hb
                    have HbB := Lib.hid hbelB
                    clear hB
                    go_wp2_with fail
                    -- REGION N
                    refine wp_region_any (by kernel_rfl) ?_
                    try (change wpAny _ _ _ _ _ _ _ (World.drew _))
                    have y0d : wB.drew.cell? ⟨b0, o0 + p, none⟩ = some (.int .i64 (A : Int)) := y0
                    refine wpAny_take (oi := ⟨some 42, _, _, _, _, _⟩) (i := 0) (v := .slice (some ⟨b0, o0, none⟩) k c0) rfl (by kernel_rfl) (by kernel_rfl) (by kernel_rfl) (fun _ _ _ h => h) (Or.inl ⟨by kernel_rfl, fun w => by go_simp⟩) ?_
                    simp only [Act.put, List.setIfInBounds_toArray, List.set_cons_zero, List.set_cons_succ]
                    refine wpAny_take (oi := ⟨some 43, _, _, _, _, _⟩) (i := 1) (v := .int .i64 (p : Int)) rfl (by kernel_rfl) (by kernel_rfl) (by kernel_rfl) (fun _ _ _ h => h) (Or.inl ⟨by kernel_rfl, fun w => by go_simp⟩) ?_
                    simp only [Act.put, List.setIfInBounds_toArray, List.set_cons_zero, List.set_cons_succ]
                    refine wpAny_take (oi := ⟨some 44, _, _, _, _, _⟩) (i := 2) (v := .pointer (some ⟨b0, o0 + p, none⟩)) rfl (by kernel_rfl) (by kernel_rfl) (by kernel_rfl) (fun _ _ _ h => h) (Or.inl ⟨by kernel_rfl, fun w => by (go_simp; try omega)⟩) ?_
                    simp only [Act.put, List.setIfInBounds_toArray, List.set_cons_zero, List.set_cons_succ]
                    refine wpAny_take (oi := ⟨some 46, _, _, _, _, _⟩) (i := 4) (v := .int .i64 (q : Int)) rfl (by kernel_rfl) (by kernel_rfl) (by kernel_rfl) (fun _ _ _ h => h) (Or.inl ⟨by kernel_rfl, fun w => by go_simp⟩) ?_
                    simp only [Act.put, List.setIfInBounds_toArray, List.set_cons_zero, List.set_cons_succ]
                    refine wpAny_ready (rs := [3]) (by kernel_rfl) (by simp) (AllReady.cons rfl (fun K hK => ?_) AllReady.nil)
                    go_simp
                    refine hK _ _ ?_
                    clear hK K
                    refine wpAny_ready (rs := [5]) (by kernel_rfl) (by simp) (AllReady.cons rfl (fun K hK => ?_) AllReady.nil)
                    go_simp
                    go_wp2_with (first
                      | (go_at_call 20; (refine (ka.out _).mono ?_); rintro ee wx ⟨rfl, rfl⟩)
                      | fail)
                    refine wpAny_take (oi := ⟨some 48, _, _, _, _, _⟩) (i := 6) (v := .bool false) rfl (by kernel_rfl) (by kernel_rfl) (by kernel_rfl) (fun _ _ _ h => h) (Or.inl ⟨by kernel_rfl, fun w => by go_simp⟩) ?_
                    simp only [Act.put, List.setIfInBounds_toArray, List.set_cons_zero, List.set_cons_succ]
                    refine wpAny_take (oi := ⟨some 49, _, _, _, _, _⟩) (i := 7) (v := .bool false) rfl (by kernel_rfl) (by kernel_rfl) (by kernel_rfl) (fun _ _ _ h => h) (Or.inl ⟨by kernel_rfl, fun w => by go_simp⟩) ?_
                    simp only [Act.put, List.setIfInBounds_toArray, List.set_cons_zero, List.set_cons_succ]
                    refine wpAny_take (oi := ⟨some 50, _, _, _, _, _⟩) (i := 8) (v := undef) rfl (by kernel_rfl) (by kernel_rfl) (by kernel_rfl) (fun _ _ _ h => h) (Or.inr ⟨by kernel_rfl, rfl⟩) ?_
                    simp only [Act.put, List.setIfInBounds_toArray, List.set_cons_zero, List.set_cons_succ]
                    refine wpAny_take (oi := ⟨some 51, _, _, _, _, _⟩) (i := 9) (v := undef) rfl (by kernel_rfl) (by kernel_rfl) (by kernel_rfl) (fun _ _ _ h => h) (Or.inr ⟨by kernel_rfl, rfl⟩) ?_
                    simp only [Act.put, List.setIfInBounds_toArray, List.set_cons_zero, List.set_cons_succ]
                    refine wpAny_take (oi := ⟨some 52, _, _, _, _, _⟩) (i := 10) (v := undef) rfl (by kernel_rfl) (by kernel_rfl) (by kernel_rfl) (fun _ _ _ h => h) (Or.inr ⟨by kernel_rfl, rfl⟩) ?_
                    simp only [Act.put, List.setIfInBounds_toArray, List.set_cons_zero, List.set_cons_succ]
                    refine wpAny_take (oi := ⟨some 53, _, _, _, _, _⟩) (i := 11) (v := undef) rfl (by kernel_rfl) (by kernel_rfl) (by kernel_rfl) (fun _ _ _ h => h) (Or.inr ⟨by kernel_rfl, rfl⟩) ?_
                    simp only [Act.put, List.setIfInBounds_toArray, List.set_cons_zero, List.set_cons_succ]
                    refine wpAny_take (oi := ⟨some 54, _, _, _, _, _⟩) (i := 12) (v := undef) rfl (by kernel_rfl) (by kernel_rfl) (by kernel_rfl) (fun _ _ _ h => h) (Or.inr ⟨by kernel_rfl, rfl⟩) ?_
                    simp only [Act.put, List.setIfInBounds_toArray, List.set_cons_zero, List.set_cons_succ]
                    refine wpAny_take (oi := ⟨some 55, _, _, _, _, _⟩) (i := 13) (v := undef) rfl (by kernel_rfl) (by kernel_rfl) (by kernel_rfl) (fun _ _ _ h => h) (Or.inr ⟨by kernel_rfl, rfl⟩) ?_
                    simp only [Act.put, List.setIfInBounds_toArray, List.set_cons_zero, List.set_cons_succ]
                    refine wpAny_take (oi := ⟨some 56, _, _, _, _, _⟩) (i := 14) (v := undef) rfl (by kernel_rfl) (by kernel_rfl) (by kernel_rfl) (fun _ _ _ h => h) (Or.inr ⟨by kernel_rfl, rfl⟩) ?_
                    simp only [Act.put, List.setIfInBounds_toArray, List.set_cons_zero, List.set_cons_succ]
                    refine wpAny_take (oi := ⟨some 57, _, _, _, _, _⟩) (i := 15) (v := undef) rfl (by kernel_rfl) (by kernel_rfl) (by kernel_rfl) (fun _ _ _ h => h) (Or.inr ⟨by kernel_rfl, rfl⟩) ?_
                    simp only [Act.put, List.setIfInBounds_toArray, List.set_cons_zero, List.set_cons_succ]
                    refine wpAny_take (oi := ⟨some 58, _, _, _, _, _⟩) (i := 16) (v := undef) rfl (by kernel_rfl) (by kernel_rfl) (by kernel_rfl) (fun _ _ _ h => h) (Or.inr ⟨by kernel_rfl, rfl⟩) ?_
                    simp only [Act.put, List.setIfInBounds_toArray, List.set_cons_zero, List.set_cons_succ]
                    refine wpAny_take (oi := ⟨some 59, _, _, _, _, _⟩) (i := 17) (v := undef) rfl (by kernel_rfl) (by kernel_rfl) (by kernel_rfl) (fun _ _ _ h => h) (Or.inr ⟨by kernel_rfl, rfl⟩) ?_
                    simp only [Act.put, List.setIfInBounds_toArray, List.set_cons_zero, List.set_cons_succ]
                    refine wpAny_take (oi := ⟨some 60, _, _, _, _, _⟩) (i := 18) (v := .bool false) rfl (by kernel_rfl) (by kernel_rfl) (by kernel_rfl) (fun _ _ _ h => h) (Or.inl ⟨by kernel_rfl, fun w => by go_simp⟩) ?_
                    simp only [Act.put, List.setIfInBounds_toArray, List.set_cons_zero, List.set_cons_succ]
                    refine wpAny_done (by kernel_rfl) ?_ _
                    -- END REGION
                    go_wp2_with fail
                    go_roundw
                    case rel => exact ⟨q + 1, by omega, by go_num, HQ2.out, HbB.out.drew⟩
                    case measure => simp [intOf]; omega
                · obtain rfl : q = k := by omega
                  have HP2 : Hid (∀ p' q', p' < p + 1 → (rw' x0 p').testBit q' = true → 0 < T.cmpRow (x1.getD p' []) (x1.getD q' [])) := fun p' q' hp' hb => by
                    by_cases hpp : p' = p
                    · subst hpp
                      have h8 := bit_lt (HR0.out.row p') hb
                      rw [HL0.out] at h8
                      exact HQ.out q' h8 hb
                    · exact HP.out p' q' (by omega) hb
                  have HbB := Lib.hid hbelB
                  clear hbelB
                  go_wp2_with fail
                  go_roundw
                  case rel => exact ⟨p + 1, by omega, by go_num, HP2.out, HbB.out⟩
                  case measure => simp [intOf]; omega
            · obtain rfl : p = k := by omega
              have hoT := HYes.out ⟨HR0.out, by rw [HL0.out, HL1.out], fun x hx => by
                obtain ⟨j, hj⟩ := List.mem_iff_getElem?.1 hx; exact HV.out j x hj, fun p' q hp' hb => HP.out p' q (by rw [HL0.out] at hp'; exact hp') hb⟩
              subst hoT
              go_wp2_with fail
              go_ret
              exact ⟨rfl, HBA.out⟩
    · have hoF := HNo.out (fun h9 => hne (by have := h9.2.1; rw [HL0.out, HL1.out] at this; exact this))
      subst hoF
      have hne' : ((n1 : Int) != (n0 : Int)) = true := by simp; omega
      go_enter Tryd.func13, Tryd.ntmps13
      go_wp2_with fail
      refine (k0.out).mono ?_
      rintro ee w1 ⟨rfl, hd1⟩
      have HB1 := Lib.hid hd1
      clear hd1
      go_wp2_with fail
      go_ret
      exact ⟨rfl, HB1.out⟩
  · rw [e0] at k0
    have hoF := HNo.out (fun h9 => relB_false e0 h9.1)
    subst hoF
    clear e0
    go_enter Tryd.func13, Tryd.ntmps13
    go_wp2_with fail
    refine (k0.out).mono ?_
    rintro ee w1 ⟨rfl, hd1⟩
    have HB1 := Lib.hid hd1
    clear hd1
    go_wp2_with fail
    go_ret
    exact ⟨rfl, HB1.out⟩

end Go.Proofs.YtfigkfcdfmoihaaDoor
