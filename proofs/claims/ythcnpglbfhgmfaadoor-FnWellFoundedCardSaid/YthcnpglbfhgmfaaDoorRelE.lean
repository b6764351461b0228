/- Relations: WalksTo of the program and of the model. -/
import Derived.Test.YthcnpglbfhgmfaaDoorRelB
import Derived.Test.YthcnpglbfhgmfaaDoorRelD
import Derived.Test.YthcnpglbfhgmfaaDoorRelW
import Derived.Test.YthcnpglbfhgmfaaDoorIdx
namespace Go.Proofs.YthcnpglbfhgmfaaDoor
set_option maxRecDepth 100000
open Go.RowKit

theorem sum_wrap {a b : Nat} (ha : a < 4096) (hb : b ≤ 4096) : wrap64 ((a : Int) + (b : Int)) = ((a + b : Nat) : Int) := by
  rw [IntWalk.wrap64_in _ (by omega)]; omega
theorem bitI_k1 {s k : Nat} (h : s.testBit k = true) {P : Program} {f : Nat} (hc : ∀ w : World, Calls P f #[.int .i64 s, .int .i64 k] w fun e w' => e = .returned (.int .i64 (bitI s k)) ∧ w = w') (w : World) :
    Calls P f #[.int .i64 s, .int .i64 k] w fun e w' => e = .returned (.int .i64 1) ∧ w = w' := by
  have h9 := hc w
  rw [bitI_1 h] at h9
  exact h9
theorem bitI_k0 {s k : Nat} (h : s.testBit k = false) {P : Program} {f : Nat} (hc : ∀ w : World, Calls P f #[.int .i64 s, .int .i64 k] w fun e w' => e = .returned (.int .i64 (bitI s k)) ∧ w = w') (w : World) :
    Calls P f #[.int .i64 s, .int .i64 k] w fun e w' => e = .returned (.int .i64 0) ∧ w = w' := by
  have h9 := hc w
  rw [bitI_0 h] at h9
  exact h9

set_option maxHeartbeats 2000000 in
theorem impl_WalksTo (ao : Option Addr) (n c : Nat) (xs : List Int) (p t : Int) (w : World) (h : Sl w ao n c xs) (hT : Tab w) :
    Calls Tryd.prog 17 #[.slice ao n c, .int .i64 p, .int .i64 t] w fun e w' => e = .returned (.int .i64 (walkV xs p t)) ∧ Below w.heap.size w w' := by
  have k1 := Lib.hid (iRelValid_any ao n c xs w h)
  have HL := Lib.hid h.1
  have H := Lib.hid h
  have HT := Lib.hid hT
  have htl := hT.lt
  obtain ⟨z, hz⟩ : ∃ z, z = walkV xs p t := ⟨_, rfl⟩
  have HNo : Hid (¬ (RelOk xs ∧ (0 ≤ p ∧ p < xs.length) ∧ 0 ≤ t ∧ t ≤ 99) → z = -1) := fun h9 => hz.trans (walkV_no h9)
  have HYes : Hid (∀ (p' t' : Nat), p = p' → t = t' → RelOk xs → p' < xs.length → t' ≤ 99 → z = (walkN xs (2 ^ p') t' : Int)) := fun p' t' e1 e2 h1 h2 h3 => by rw [hz, e1, e2, walkV_yes p' t' h1 h2 h3]
  rw [← hz]
  clear h hT hz
  rcases rel_tf xs with h1 | h1
  · rw [h1] at k1
    have hR := relB_true.1 h1
    have hn12 := hR.1
    rw [HL.out] at hn12
    have HR := Lib.hid hR
    clear h1 hR
    by_cases hp : 0 ≤ p ∧ p < n
    · obtain ⟨p', rfl⟩ := Int.eq_ofNat_of_zero_le hp.1
      have hpn : p' < n := by omega
      by_cases ht : 0 ≤ t ∧ t ≤ 99
      · obtain ⟨t', rfl⟩ := Int.eq_ofNat_of_zero_le ht.1
        have ht9 : t' ≤ 99 := by omega
        have hzz := HYes.out p' t' rfl rfl HR.out (by rw [HL.out]; exact hpn) ht9
        have HZ := Lib.hid hzz
        have k2 := Lib.hid (fun wx => setOf_any p' (by omega) wx)
        have hq := two_lt hpn
        have H0 := Lib.hid (show walkN xs (2 ^ p') 0 = 2 ^ p' from rfl)
        have HN := Lib.hid (fun j => walkN_lt HR.out (s := 2 ^ p') (by rw [HL.out]; exact two_lt hpn) j)
        obtain ⟨q, hqq⟩ : ∃ q, q = 2 ^ p' := ⟨_, rfl⟩
        rw [← hqq] at k2 H0 HN HZ
        have ks := Lib.hid (fun (s : Nat) (wx : World) hs hb => stepFrom_any ao n c xs s wx (H.out.below hb) HR.out hs (HT.out.below hb htl))
        clear hp ht hzz hq hqq
        go_enter Tryd.func17, Tryd.ntmps17
        go_wp2_with fail
        refine (k1.out).mono ?_
        rintro ee wx ⟨rfl, rfl⟩
        go_wp2_with fail
        refine (k2.out _).mono ?_
        rintro ee wx ⟨rfl, rfl⟩
        go_wp2_with fail
        go_loopw [7, 32] (fun v7 v32 wr => ∃ j : Nat, j ≤ t' ∧ v32 = .int .i64 j ∧ v7 = .int .i64 (walkN xs q j : Nat) ∧ Below w.heap.size w wr) (fun _ v32 _ => t' - (intOf v32).toNat)
        case atStart => exact ⟨0, Nat.zero_le _, rfl, by rw [H0.out], Below.refl _ _⟩
        case round =>
          obtain ⟨j, hj, rfl, rfl, hb⟩ := hrel
          have HB := Lib.hid hb
          by_cases hlt : j < t'
          · have k3 := Lib.hid (ks.out (walkN xs q j) wr (by have := HN.out j; rw [HL.out] at this; exact this) hb)
            have HS := Lib.hid (show walkN xs q (j + 1) = step xs (walkN xs q j) from rfl)
            obtain ⟨s, hs⟩ : ∃ s, s = walkN xs q j := ⟨_, rfl⟩
            obtain ⟨s', hs'⟩ : ∃ s', s' = step xs s := ⟨_, rfl⟩
            rw [← hs] at k3 HS ⊢
            rw [← hs'] at k3 HS
            clear hs hs' hb
            go_wp2_with fail
            refine (k3.out).mono ?_
            rintro ee w3 ⟨rfl, hb3⟩
            have HB3 := Lib.hid (HB.out.trans (hb3.mono HB.out.size))
            clear hb3
            go_wp2_with fail
            go_roundw
            case rel => exact ⟨j + 1, by omega, by go_num, by rw [HS.out], HB3.out⟩
            case measure => simp [intOf]; omega
          · obtain rfl : j = t' := by omega
            obtain ⟨s, hs⟩ : ∃ s, s = walkN xs q j := ⟨_, rfl⟩
            rw [← hs] at HZ ⊢
            obtain rfl := HZ.out
            clear hs hb
            go_wp2_with fail
            go_ret
            exact ⟨rfl, HB.out⟩
      · obtain rfl := HNo.out (fun h9 => ht h9.2.2)
        by_cases ht0 : t < 0
        · go_enter Tryd.func17, Tryd.ntmps17
          go_wp2_with fail
          refine (k1.out).mono ?_
          rintro ee wx ⟨rfl, rfl⟩
          go_wp2_with fail
          go_ret
          exact ⟨rfl, Below.refl _ _⟩
        · have ht1 : 99 < t := by omega
          go_enter Tryd.func17, Tryd.ntmps17
          go_wp2_with fail
          refine (k1.out).mono ?_
          rintro ee wx ⟨rfl, rfl⟩
          go_wp2_with fail
          go_ret
          exact ⟨rfl, Below.refl _ _⟩
    · obtain rfl := HNo.out (fun h9 => hp (by have := h9.2.1; rw [HL.out] at this; exact this))
      by_cases hp0 : p < 0
      · go_enter Tryd.func17, Tryd.ntmps17
        go_wp2_with fail
        refine (k1.out).mono ?_
        rintro ee wx ⟨rfl, rfl⟩
        go_wp2_with fail
        go_ret
        exact ⟨rfl, Below.refl _ _⟩
      · have hp1 : (n : Int) ≤ p := by omega
        go_enter Tryd.func17, Tryd.ntmps17
        go_wp2_with fail
        refine (k1.out).mono ?_
        rintro ee wx ⟨rfl, rfl⟩
        go_wp2_with fail
        go_ret
        exact ⟨rfl, Below.refl _ _⟩
  · rw [h1] at k1
    obtain rfl := HNo.out (fun h9 => relB_false h1 h9.1)
    clear h1
    go_enter Tryd.func17, Tryd.ntmps17
    go_wp2_with fail
    refine (k1.out).mono ?_
    rintro ee wx ⟨rfl, rfl⟩
    go_wp2_with fail
    go_ret
    exact ⟨rfl, Below.refl _ _⟩

set_option maxHeartbeats 8000000 in
theorem spec_WalksTo (ao : Option Addr) (n c : Nat) (xs : List Int) (p t : Int) (w : World) (h : Sl w ao n c xs) :
    Calls Tryd.prog 19 #[.slice ao n c, .int .i64 p, .int .i64 t] w fun e w' => e = .returned (.int .i64 (walkV xs p t)) ∧ Below w.heap.size w w' := by
  have k1 := Lib.hid (spec_RelValid ao n c xs w h)
  have HL := Lib.hid h.1
  have H := Lib.hid h
  obtain ⟨z, hz⟩ : ∃ z, z = walkV xs p t := ⟨_, rfl⟩
  have HNo : Hid (¬ (RelOk xs ∧ (0 ≤ p ∧ p < xs.length) ∧ 0 ≤ t ∧ t ≤ 99) → z = -1) := fun h9 => hz.trans (walkV_no h9)
  have HYes : Hid (∀ (p' t' : Nat), p = p' → t = t' → RelOk xs → p' < xs.length → t' ≤ 99 → z = (walkN xs (2 ^ p') t' : Int)) := fun p' t' e1 e2 h1 h2 h3 => by rw [hz, e1, e2, walkV_yes p' t' h1 h2 h3]
  rw [← hz]
  clear h hz
  rcases rel_tf xs with h1 | h1
  · rw [h1] at k1
    have hR := relB_true.1 h1
    have hn12 := hR.1
    rw [HL.out] at hn12
    have HR := Lib.hid hR
    clear h1 hR
    have hm1 : IntKind.i64.wrap ((n : Int) - 1) = (n : Int) - 1 := IntWalk.i64_in _ (by omega)
    by_cases hp : 0 ≤ p ∧ p < n
    · obtain ⟨p', rfl⟩ := Int.eq_ofNat_of_zero_le hp.1
      have hpn : p' < n := by omega
      have kp := Lib.hid (fun wx => l1In_yes (p' : Int) 0 ((n : Int) - 1) wx (by omega) (by omega))
      by_cases ht : 0 ≤ t ∧ t ≤ 99
      · obtain ⟨t', rfl⟩ := Int.eq_ofNat_of_zero_le ht.1
        have ht9 : t' ≤ 99 := by omega
        have kt := Lib.hid (fun wx => l1In_yes (t' : Int) 0 99 wx (by omega) (by omega))
        have hzz := HYes.out p' t' rfl rfl HR.out (by rw [HL.out]; exact hpn) ht9
        have HZ := Lib.hid hzz
        obtain ⟨b, off, rfl, hat⟩ := H.out.2.2.2 (by omega)
        have hbl : b < w.heap.size := hat.lt (by intro h9; have := HL.out; rw [h9] at this; simp at this; omega)
        have HA := Lib.hid hat
        have hw7 := wrap_pow p' (by omega)
        have hw8 := wrap_pow' p' (by omega)
        have H0 := Lib.hid (show walkN xs (2 ^ p') 0 = 2 ^ p' from rfl)
        have HN := Lib.hid (fun j => walkN_lt HR.out (s := 2 ^ p') (by rw [HL.out]; exact two_lt hpn) j)
        obtain ⟨q, hqq⟩ : ∃ q, q = 2 ^ p' := ⟨_, rfl⟩
        rw [← hqq] at H0 HN HZ hw7 hw8
        clear hp ht hzz hqq hat
        go_enter Tryd.func19, Tryd.ntmps19
        go_wp2_with fail
        refine (k1.out).mono ?_
        rintro ee w1 ⟨rfl, hb1⟩
        have HB1 := Lib.hid hb1
        clear hb1
        go_wp2_with fail
        refine (kp.out _).mono ?_
        rintro ee wx ⟨rfl, rfl⟩
        go_wp2_with fail
        refine (kt.out _).mono ?_
        rintro ee wx ⟨rfl, rfl⟩
        go_wp2_with fail
        try simp only [hw7, hw8]
        go_loopw [7, 8] (fun v7 v8 wr => ∃ j : Nat, j ≤ t' ∧ v8 = .int .i64 j ∧ v7 = .int .i64 (walkN xs q j : Nat) ∧ Below w.heap.size w wr) (fun _ v8 _ => t' - (intOf v8).toNat)
        case atStart => exact ⟨0, Nat.zero_le _, rfl, by rw [H0.out], HB1.out⟩
        case round =>
          obtain ⟨t1, hj, rfl, rfl, hb⟩ := hrel
          have HB := Lib.hid hb
          have HS := Lib.hid (show walkN xs q (t1 + 1) = step xs (walkN xs q t1) from rfl)
          have hs9 := HN.out t1
          rw [HL.out] at hs9
          obtain ⟨s, hs⟩ : ∃ s, s = walkN xs q t1 := ⟨_, rfl⟩
          rw [← hs] at HS hs9 ⊢
          have HSe := Lib.hid hs
          have hs4 : s < 4096 := Nat.lt_of_lt_of_le hs9 (two_le hn12.2)
          clear hs hb
          by_cases hlt : t1 < t'
          · go_wp2_with fail
            go_loopw [9, 10] (fun v9 v10 wr => ∃ k nx : Nat, k ≤ n ∧ v10 = .int .i64 k ∧ v9 = .int .i64 nx ∧ Hid (PartB xs s k 0 nx) ∧ Below w.heap.size w wr) (fun _ v10 _ => n - (intOf v10).toNat)
            case atStart => exact ⟨0, 0, Nat.zero_le _, rfl, rfl, PartB.start _ _, HB.out⟩
            case round =>
              obtain ⟨k, nx0, hk, rfl, rfl, HP0, hb2⟩ := hrel
              have HB2 := Lib.hid hb2
              clear hb2
              by_cases hkn : k < n
              · go_wp2_with fail
                go_loopw [9, 11] (fun v9 v11 wr => ∃ j nx : Nat, j ≤ n ∧ v11 = .int .i64 j ∧ v9 = .int .i64 nx ∧ Hid (PartB xs s k j nx) ∧ Below w.heap.size w wr) (fun _ v11 _ => n - (intOf v11).toNat)
                case atStart => exact ⟨0, nx0, Nat.zero_le _, rfl, rfl, HP0, HB2.out⟩
                case round =>
                  obtain ⟨j, nx, hjn, rfl, rfl, HP, hbel⟩ := hrel
                  by_cases hjlt : j < n
                  · have y0 : wr.cell? ⟨b, off + k, none⟩ = some (.int .i64 (rw' xs k : Nat)) := by
                      have h9 := (HA.out.below hbel hbl) k (by rw [HL.out]; exact hkn)
                      rw [h9, HR.out.row_int (by rw [HL.out]; exact hkn)]
                    have hx9 := HP.out.1
                    rw [HL.out] at hx9
                    have hx4 : nx < 4096 := Nat.lt_of_lt_of_le hx9 (two_le hn12.2)
                    obtain ⟨rk, hrk⟩ : ∃ rk, rk = rw' xs k := ⟨_, rfl⟩
                    rw [← hrk] at y0
                    have Hrk := Lib.hid hrk
                    clear hrk hx9
                    rcases bit_tf s k with hA | hA
                    · have ka := Lib.hid (bitI_k1 hA (fun wx => l7Bit_any s k (by omega) wx))
                      have HAa := Lib.hid hA
                      clear hA
                      rcases bit_tf rk j with hBB | hBB
                      · have kb := Lib.hid (bitI_k1 hBB (fun wx => l7Bit_any rk j (by omega) wx))
                        have HBb := Lib.hid hBB
                        clear hBB
                        rcases bit_tf nx j with hC | hC
                        · have kc := Lib.hid (bitI_k1 hC (fun wx => l7Bit_any nx j (by omega) wx))
                          have HP2 := Lib.hid (HP.out.skip (.inr (.inr hC)))
                          clear hC
                          go_wp2_with fail
                          refine (ka.out _).mono ?_
                          rintro ee wx ⟨rfl, rfl⟩
                          go_wp2_with fail
                          refine (kb.out _).mono ?_
                          rintro ee wx ⟨rfl, rfl⟩
                          go_wp2_with fail
                          refine (kc.out _).mono ?_
                          rintro ee wx ⟨rfl, rfl⟩
                          go_wp2_with fail
                          go_roundw
                          case rel => exact ⟨j + 1, nx, by omega, by go_num, rfl, HP2.out, hbel⟩
                          case measure => exact idx_measure hjlt
                        · have kc := Lib.hid (bitI_k0 hC (fun wx => l7Bit_any nx j (by omega) wx))
                          have HP2 := Lib.hid (HP.out.put HR.out HAa.out (by rw [← Hrk.out]; exact HBb.out) hC)
                          have hj7 := wrap_pow j (by omega)
                          have hj8 := wrap_pow' j (by omega)
                          have hj9 : 2 ^ j ≤ 4096 := two_le (by omega)
                          obtain ⟨u, hu⟩ : ∃ u, u = 2 ^ j := ⟨_, rfl⟩
                          rw [← hu] at HP2 hj7 hj8 hj9
                          clear hC hu
                          go_wp2_with fail
                          refine (ka.out _).mono ?_
                          rintro ee wx ⟨rfl, rfl⟩
                          go_wp2_with fail
                          refine (kb.out _).mono ?_
                          rintro ee wx ⟨rfl, rfl⟩
                          go_wp2_with fail
                          refine (kc.out _).mono ?_
                          rintro ee wx ⟨rfl, rfl⟩
                          go_wp2_with fail
                          try simp only [hj7, hj8]
                          go_roundw
                          case rel => exact ⟨j + 1, nx + u, by omega, by go_num, by rw [sum_wrap hx4 hj9], HP2.out, hbel⟩
                          case measure => exact idx_measure hjlt
                      · have kb := Lib.hid (bitI_k0 hBB (fun wx => l7Bit_any rk j (by omega) wx))
                        have HP2 := Lib.hid (HP.out.skip (.inr (.inl (by rw [← Hrk.out]; exact hBB))))
                        clear hBB
                        go_wp2_with fail
                        refine (ka.out _).mono ?_
                        rintro ee wx ⟨rfl, rfl⟩
                        go_wp2_with fail
                        refine (kb.out _).mono ?_
                        rintro ee wx ⟨rfl, rfl⟩
                        go_wp2_with fail
                        go_roundw
                        case rel => exact ⟨j + 1, nx, by omega, by go_num, rfl, HP2.out, hbel⟩
                        case measure => exact idx_measure hjlt
                    · have ka := Lib.hid (bitI_k0 hA (fun wx => l7Bit_any s k (by omega) wx))
                      have HP2 := Lib.hid (HP.out.skip (.inl hA))
                      clear hA
                      go_wp2_with fail
                      refine (ka.out _).mono ?_
                      rintro ee wx ⟨rfl, rfl⟩
                      go_wp2_with fail
                      go_roundw
                      case rel => exact ⟨j + 1, nx, by omega, by go_num, rfl, HP2.out, hbel⟩
                      case measure => exact idx_measure hjlt
                  · obtain rfl : j = n := by omega
                    have HP2 := Lib.hid (PartB.row HR.out (by rw [HL.out]; exact HP.out))
                    go_wp2_with fail
                    go_roundw
                    case rel => exact ⟨k + 1, nx, by omega, by go_num, rfl, HP2.out, hbel⟩
                    case measure => exact idx_measure hkn
              · obtain rfl : k = n := by omega
                have hnx := PartB.done HR.out (by rw [HL.out]; exact hs9) (by rw [HL.out]; exact HP0.out)
                have HX := Lib.hid (hnx.trans HS.out.symm)
                clear hnx
                go_wp2_with fail
                go_roundw
                case rel => exact ⟨t1 + 1, by omega, by go_num, by rw [HX.out], HB2.out⟩
                case measure => simp [intOf]; omega
          · obtain rfl : t1 = t' := by omega
            rw [← HSe.out] at HZ
            obtain rfl := HZ.out
            go_wp2_with fail
            go_ret
            exact ⟨rfl, HB.out⟩
      · obtain rfl := HNo.out (fun h9 => ht h9.2.2)
        have kt := Lib.hid (fun wx => l1In_no t 0 99 wx (by omega))
        clear ht
        go_enter Tryd.func19, Tryd.ntmps19
        go_wp2_with fail
        refine (k1.out).mono ?_
        rintro ee w1 ⟨rfl, hb1⟩
        have HB1 := Lib.hid hb1
        clear hb1
        go_wp2_with fail
        refine (kp.out _).mono ?_
        rintro ee wx ⟨rfl, rfl⟩
        go_wp2_with fail
        refine (kt.out _).mono ?_
        rintro ee wx ⟨rfl, rfl⟩
        go_wp2_with fail
        go_ret
        exact ⟨rfl, HB1.out⟩
    · obtain rfl := HNo.out (fun h9 => hp (by have := h9.2.1; rw [HL.out] at this; exact this))
      have kp := Lib.hid (fun wx => l1In_no p 0 ((n : Int) - 1) wx (by omega))
      clear hp
      go_enter Tryd.func19, Tryd.ntmps19
      go_wp2_with fail
      refine (k1.out).mono ?_
      rintro ee w1 ⟨rfl, hb1⟩
      have HB1 := Lib.hid hb1
      clear hb1
      go_wp2_with fail
      refine (kp.out _).mono ?_
      rintro ee wx ⟨rfl, rfl⟩
      go_wp2_with fail
      go_ret
      exact ⟨rfl, HB1.out⟩
  · rw [h1] at k1
    obtain rfl := HNo.out (fun h9 => relB_false h1 h9.1)
    clear h1
    go_enter Tryd.func19, Tryd.ntmps19
    go_wp2_with fail
    refine (k1.out).mono ?_
    rintro ee w1 ⟨rfl, hb1⟩
    have HB1 := Lib.hid hb1
    clear hb1
    go_wp2_with fail
    go_ret
    exact ⟨rfl, HB1.out⟩

end Go.Proofs.YthcnpglbfhgmfaaDoor
