/- FnWalksTo: the walk of the law. -/
import Derived.Test.YthcnpglbfhgmfaaDoorDrawWalks
import Derived.Test.YthcnpglbfhgmfaaDoorRelR
import Derived.Test.YthcnpglbfhgmfaaDoorRelE
namespace Go.Proofs.YthcnpglbfhgmfaaDoor
set_option maxRecDepth 100000
open Go.RowKit

theorem wshr_bit (s j : Nat) : ((s : Int) / 2 ^ j).tmod 2 = bitI s j := by
  have hb := bit_div s j
  have h0 : (0 : Int) ≤ (s : Int) / 2 ^ j := by
    have hd : ((s : Int) / 2 ^ j) = ((s / 2 ^ j : Nat) : Int) := by simp
    rw [hd]; exact Int.natCast_nonneg _
  rw [Int.tmod_eq_emod_of_nonneg h0, hb]; rfl
theorem wshr (s j : Nat) : (((s : Int) / 2 ^ j).tmod 2 == 1) = s.testBit j := by rw [wshr_bit, bitI_eq]

/-- Whether one of the first k points of the set leads to j. -/
def SmB (xs : List Int) (s j k : Nat) (b : Bool) : Prop := b = true ↔ ∃ q, q < k ∧ s.testBit q = true ∧ (rw' xs q).testBit j = true
theorem SmB.start (xs : List Int) (s j : Nat) : SmB xs s j 0 false := ⟨fun h => (by cases h), fun ⟨q, h, _⟩ => by omega⟩
theorem SmB.keep {xs : List Int} {s j k : Nat} (h : SmB xs s j k true) : SmB xs s j (k + 1) true := ⟨fun _ => by
  obtain ⟨q, h1, h2⟩ := h.1 rfl
  exact ⟨q, by omega, h2⟩, fun _ => rfl⟩
theorem SmB.put {xs : List Int} {s j k : Nat} (h1 : s.testBit k = true) (h2 : (rw' xs k).testBit j = true) : SmB xs s j (k + 1) true := ⟨fun _ => ⟨k, by omega, h1, h2⟩, fun _ => rfl⟩
theorem SmB.skip {xs : List Int} {s j k : Nat} (h : SmB xs s j k false) (h1 : s.testBit k = false ∨ (rw' xs k).testBit j = false) : SmB xs s j (k + 1) false := by
  refine ⟨fun h9 => (by cases h9), fun ⟨q, h2, h3, h4⟩ => ?_⟩
  by_cases hq : q = k
  · subst hq
    rcases h1 with h1 | h1
    · rw [h1] at h3; cases h3
    · rw [h1] at h4; cases h4
  · exact h.2 ⟨q, by omega, h3, h4⟩
theorem SmB.done {xs : List Int} (hR : RelOk xs) {s j : Nat} (hs : s < 2 ^ xs.length) {b : Bool} (h : SmB xs s j xs.length b) : b = (step xs s).testBit j := by
  have h4 : s < 4096 := Nat.lt_of_lt_of_le hs (two_le hR.1.2)
  have h1 : b = true ↔ (step xs s).testBit j = true := by
    rw [step_bit h4]
    refine h.trans ⟨fun ⟨q, _, h2, h3⟩ => ⟨q, h2, h3⟩, fun ⟨q, h2, h3⟩ => ⟨q, bit_lt hs h2, h2, h3⟩⟩
  cases b <;> cases h5 : (step xs s).testBit j <;> simp_all
theorem walk_facts {xs : List Int} {p t : Int} (h : RelOk xs) (hp0 : 0 ≤ p) (hp1 : p < xs.length) (ht0 : 0 ≤ t) (ht1 : t ≤ 99) :
    ∃ S N : Nat, S < 2 ^ xs.length ∧ N < 2 ^ xs.length ∧ walkV xs p t = (S : Int) ∧ (t < 99 → walkV xs p (t + 1) = (N : Int)) ∧ (t = 99 → walkV xs p (t + 1) = -1) ∧ N = step xs S ∧ walkV xs p 0 = ((2 ^ p.toNat : Nat) : Int) := by
  obtain ⟨P, rfl⟩ := Int.eq_ofNat_of_zero_le hp0
  obtain ⟨T, rfl⟩ := Int.eq_ofNat_of_zero_le ht0
  have hP : P < xs.length := by omega
  refine ⟨walkN xs (2 ^ P) T, walkN xs (2 ^ P) (T + 1), walkN_lt h (two_lt hP) _, walkN_lt h (two_lt hP) _, walkV_yes P T h hP (by omega), fun h9 => ?_, fun h9 => ?_, rfl, ?_⟩
  · exact walkV_yes P (T + 1) h hP (by omega)
  · exact walkV_no (fun ⟨_, _, h8⟩ => by omega)
  · exact walkV_yes P 0 h hP (by omega)

set_option maxHeartbeats 4000000 in
theorem fnWalksTo_walk (a : Option Addr) (len cap : Nat) (w : World) (h : By w a len cap) (hT : Tab w) :
    Calls Tryd.prog 4 #[.slice a len cap] w fun e w' => e = .returned (.bool true) ∧ Below w.heap.size w w' := by
  have hlm : len ≤ 9223372036854775807 := by have := h.1; have := h.2.1; unfold maxLen at this; omega
  by_cases hbig : 1048576 < len
  · clear h hT
    go_enter Tryd.func4, Tryd.ntmps4
    go_wp2_with fail
    go_ret
    exact ⟨rfl, Below.refl _ _⟩
  have HT := Lib.hid hT
  have htl := hT.lt
  have k0 := Lib.hid (drawWalksTo_any a len cap w h)
  clear h hT
  go_enter Tryd.func4, Tryd.ntmps4
  go_wp2_with fail
  refine (k0.out).mono ?_
  rintro ee w1 ⟨xs, p, t, g, n, c, hn, rfl, ho, hl, ⟨hp0, hp1, ht0, ht1⟩, hb0⟩
  have Hn := Lib.hid hn
  clear hn
  have X_0 := Lib.hid (Sl.of_own ho)
  have Ht0 := Lib.hid hb0
  have hws := hb0.size
  clear ho hb0
  obtain ⟨v, hv⟩ : ∃ v, v = walkV xs p t := ⟨_, rfl⟩
  have Hv := Lib.hid hv.symm
  clear hv
  have k1 := Lib.hid (impl_WalksTo (some ⟨g, 0, none⟩) n c xs p t w1 X_0.out (HT.out.below Ht0.out htl))
  rw [Hv.out] at k1
  go_wp2_with fail
  refine (k1.out).mono ?_
  rintro ee w101 ⟨rfl, hb1⟩
  have Ht1 := Lib.hid (Ht0.out.trans (hb1.mono (by have h1 := Ht0.out.size; omega)))
  have X_1 := Lib.hid (X_0.out.below hb1)
  clear hb1
  have k2 := Lib.hid (spec_WalksTo (some ⟨g, 0, none⟩) n c xs p t w101 X_1.out)
  rw [Hv.out] at k2
  have hvv : (v != v) = false := by simp
  go_wp2_with fail
  refine (k2.out).mono ?_
  rintro ee w102 ⟨rfl, hb2⟩
  have Ht2 := Lib.hid (Ht1.out.trans (hb2.mono (by have h1 := Ht1.out.size; omega)))
  have X_2 := Lib.hid (X_1.out.below hb2)
  clear hb2
  by_cases hc : RelOk xs ∧ (0 ≤ p ∧ p < xs.length) ∧ 0 ≤ t ∧ t ≤ 99
  · obtain ⟨hR, ⟨hq0, hq1⟩, hs0, hs1⟩ := hc
    obtain ⟨S, N, hS, hN, g1, g2, g3, g4, g5⟩ := walk_facts hR hq0 hq1 hs0 hs1
    obtain rfl : v = (S : Int) := Hv.out.symm.trans g1
    obtain ⟨P, rfl⟩ := Int.eq_ofNat_of_zero_le hq0
    have g6 : walkV xs P 0 = ((2 ^ P : Nat) : Int) := g5
    have hn12 : n ≤ 12 := by have := hR.1.2; have := Hn.out; omega
    have k3 := Lib.hid (impl_WalksTo (some ⟨g, 0, none⟩) n c xs P (t + 1) w102 X_2.out (HT.out.below Ht2.out htl))
    have HR := Lib.hid hR
    have HS := Lib.hid hS
    have G2 := Lib.hid g2
    have G3 := Lib.hid g3
    have G4 := Lib.hid g4
    have G6 := Lib.hid g6
    have hS2 : S < 2 ^ n := by rw [Hn.out]; exact hS
    have hpn : P < n := by have := Hn.out; omega
    clear hR hS hN g1 g2 g3 g4 g5 g6 hq1 hq0
    obtain ⟨nx, hnx⟩ : ∃ nx, nx = walkV xs P (t + 1) := ⟨_, rfl⟩
    rw [← hnx] at k3
    have Hnx := Lib.hid hnx
    clear hnx
    go_wp2_with fail
    refine (k3.out).mono ?_
    rintro ee w103 ⟨rfl, hb3⟩
    have Ht3 := Lib.hid (Ht2.out.trans (hb3.mono (by have h1 := Ht2.out.size; omega)))
    have X_3 := Lib.hid (X_2.out.below hb3)
    clear hb3
    have kz := Lib.hid (fun wx (hx : w103.grownBy wx none) => impl_WalksTo (some ⟨g, 0, none⟩) n c xs P 0 wx (X_3.out.below ⟨hx.os, hx.tape, hx.output, hx.size, fun k hk => hx.block k hk (by simp)⟩) ((HT.out.below Ht3.out htl).below (n := w103.heap.size) ⟨hx.os, hx.tape, hx.output, hx.size, fun k hk => hx.block k hk (by simp)⟩ (by have := Ht3.out.size; omega)))
    rw [G6.out] at kz
    have hs3 := Ht3.out.size
    obtain ⟨Z, hZ⟩ : ∃ Z : Nat, Z = 2 ^ n := ⟨_, rfl⟩
    obtain ⟨Y, hY⟩ : ∃ Y : Nat, Y = 2 ^ P := ⟨_, rfl⟩
    have hz4 : 2 ^ n ≤ 4096 := two_le hn12
    have hy4 : 2 ^ P ≤ 4096 := two_le (by omega)
    rw [← hY] at kz hy4
    rw [← hZ] at hS2 hz4
    have hpz : (2 : Int) ^ n = (Z : Int) := by rw [hZ]; simp
    have hpy : (2 : Int) ^ P = (Y : Int) := by rw [hY]; simp
    have hwz : IntKind.i64.wrap ((2 : Int) ^ n) = (Z : Int) := by rw [hpz]; exact IntWalk.i64_in _ (by omega)
    have hwy : IntKind.i64.wrap ((2 : Int) ^ P) = (Y : Int) := by rw [hpy]; exact IntWalk.i64_in _ (by omega)
    have hSZ : (S : Int) < (Z : Int) := by omega
    have HWZ := Lib.hid hwz
    have HWY := Lib.hid hwy
    clear hpz hpy hZ hY hz4 hy4 hwz hwy hS2
    go_wp2_with fail
    go_loopw [8] (fun v8 wr => ∃ j : Nat, j ≤ n ∧ v8 = .int .i64 j ∧ w103 = wr) (fun v8 _ => n - (intOf v8).toNat)
    case atStart => exact ⟨0, Nat.zero_le _, rfl, rfl⟩
    case round =>
      obtain ⟨j, hjn, rfl, rfl⟩ := hrel
      by_cases hgo : j < n ∧ t < 99
      · obtain ⟨hjl, ht99⟩ := hgo
        obtain rfl : nx = (N : Int) := Hnx.out.trans (G2.out ht99)
        go_wp2_with fail
        go_loopw [9, 10] (fun v9 v10 wr => ∃ (k : Nat) (b : Bool), k ≤ n ∧ v10 = .int .i64 k ∧ v9 = .bool b ∧ Hid (SmB xs S j k b) ∧ w103 = wr) (fun _ v10 _ => n - (intOf v10).toNat)
        case atStart => exact ⟨0, false, Nat.zero_le _, rfl, rfl, Lib.hid (SmB.start _ _ _), rfl⟩
        case round =>
          obtain ⟨k, b, hkn, rfl, rfl, HB, rfl⟩ := hrel
          by_cases hkl : k < n
          · obtain ⟨bX, oX, he, hatx⟩ := X_3.out.2.2.2 (by omega)
            obtain ⟨rfl, rfl⟩ : bX = g ∧ oX = 0 := by simp at he; omega
            obtain ⟨s, hs⟩ : ∃ s, s = rw' xs k := ⟨_, rfl⟩
            have y0 : w103.cell? ⟨bX, k, none⟩ = some (.int .i64 (s : Int)) := by
              have h9 := hatx k (by have := Hn.out; omega)
              rw [Nat.zero_add] at h9
              rw [h9, HR.out.row_int (by have := Hn.out; omega), hs]
            have Hs := Lib.hid hs
            have e1 := wshr S k
            have e2 := wshr s j
            clear hatx he hs
            cases b with
            | true =>
              have HB2 := Lib.hid HB.out.keep
              go_wp2_with fail
              go_roundw
              case rel => exact ⟨k + 1, true, by omega, by go_num, rfl, HB2, by trivial⟩
              case measure => exact idx_measure hkl
            | false =>
              rcases bit_tf S k with hB | hB
              · rw [hB] at e1
                rcases bit_tf s j with hC | hC
                · rw [hC] at e2
                  have HB2 := Lib.hid (SmB.put (xs := xs) hB (by rw [← Hs.out]; exact hC))
                  clear hB hC
                  go_wp2_with fail
                  go_roundw
                  case rel => exact ⟨k + 1, true, by omega, by go_num, rfl, HB2, by trivial⟩
                  case measure => exact idx_measure hkl
                · rw [hC] at e2
                  have HB2 := Lib.hid (HB.out.skip (.inr (by rw [← Hs.out]; exact hC)))
                  clear hB hC
                  go_wp2_with fail
                  go_roundw
                  case rel => exact ⟨k + 1, false, by omega, by go_num, rfl, HB2, by trivial⟩
                  case measure => exact idx_measure hkl
              · rw [hB] at e1
                have HB2 := Lib.hid (HB.out.skip (.inl hB))
                clear hB
                go_wp2_with fail
                go_roundw
                case rel => exact ⟨k + 1, false, by omega, by go_num, rfl, HB2, by trivial⟩
                case measure => exact idx_measure hkl
          · obtain rfl : k = n := by omega
            have hbd : b = N.testBit j := by
              have h9 := HB.out
              rw [Hn.out] at h9
              rw [G4.out]
              exact h9.done HR.out HS.out
            have e1 := wshr N j
            rw [← hbd] at e1
            have hbb : (b != b) = false := by cases b <;> rfl
            clear hbd
            go_wp2_with fail
            go_roundw
            case rel => exact ⟨j + 1, by omega, by go_num, by trivial⟩
            case measure => exact idx_measure hjl
      · by_cases hjl : j < n
        · have ht99 : ¬ t < 99 := fun h9 => hgo ⟨hjl, h9⟩
          have hwz := HWZ.out
          have hwy := HWY.out
          go_wp2_with fail
          -- REGION 10
          refine wp_region_any (by kernel_rfl) ?_
          try (change wpAny _ _ _ _ _ _ _ (World.drew _))
          refine wpAny_take (oi := ⟨some 83, _, _, _, _, _⟩) (i := 0) (v := .int .i64 (S : Int)) rfl (by kernel_rfl) (by kernel_rfl) (by kernel_rfl) (fun _ _ _ h => h) (Or.inl ⟨by kernel_rfl, fun w => by go_simp⟩) ?_
          simp only [Act.put, List.setIfInBounds_toArray, List.set_cons_zero, List.set_cons_succ]
          refine wpAny_take (oi := ⟨some 84, _, _, _, _, _⟩) (i := 1) (v := .slice (some ⟨g, 0, none⟩) n c) rfl (by kernel_rfl) (by kernel_rfl) (by kernel_rfl) (fun _ _ _ h => h) (Or.inl ⟨by kernel_rfl, fun w => by go_simp⟩) ?_
          simp only [Act.put, List.setIfInBounds_toArray, List.set_cons_zero, List.set_cons_succ]
          refine wpAny_take (oi := ⟨some 85, _, _, _, _, _⟩) (i := 2) (v := .int .i64 (n : Int)) rfl (by kernel_rfl) (by kernel_rfl) (by kernel_rfl) (fun _ _ _ h => h) (Or.inl ⟨by kernel_rfl, fun w => by go_simp⟩) ?_
          simp only [Act.put, List.setIfInBounds_toArray, List.set_cons_zero, List.set_cons_succ]
          refine wpAny_take (oi := ⟨some 86, _, _, _, _, _⟩) (i := 3) (v := .int .i64 (Z : Int)) rfl (by kernel_rfl) (by kernel_rfl) (by kernel_rfl) (fun _ _ _ h => h) (Or.inl ⟨by kernel_rfl, fun w => by (go_simp; try rw [hwz])⟩) ?_
          simp only [Act.put, List.setIfInBounds_toArray, List.set_cons_zero, List.set_cons_succ]
          refine wpAny_take (oi := ⟨some 87, _, _, _, _, _⟩) (i := 4) (v := .bool true) rfl (by kernel_rfl) (by kernel_rfl) (by kernel_rfl) (fun _ _ _ h => h) (Or.inl ⟨by kernel_rfl, fun w => by (go_simp; try simp [hSZ])⟩) ?_
          simp only [Act.put, List.setIfInBounds_toArray, List.set_cons_zero, List.set_cons_succ]
          refine wpAny_take (oi := ⟨some 88, _, _, _, _, _⟩) (i := 5) (v := .bool true) rfl (by kernel_rfl) (by kernel_rfl) (by kernel_rfl) (fun _ _ _ h => h) (Or.inl ⟨by kernel_rfl, fun w => by go_simp⟩) ?_
          simp only [Act.put, List.setIfInBounds_toArray, List.set_cons_zero, List.set_cons_succ]
          refine wpAny_take (oi := ⟨some 89, _, _, _, _, _⟩) (i := 6) (v := .slice (some ⟨g, 0, none⟩) n c) rfl (by kernel_rfl) (by kernel_rfl) (by kernel_rfl) (fun _ _ _ h => h) (Or.inl ⟨by kernel_rfl, fun w => by go_simp⟩) ?_
          simp only [Act.put, List.setIfInBounds_toArray, List.set_cons_zero, List.set_cons_succ]
          refine wpAny_take (oi := ⟨some 90, _, _, _, _, _⟩) (i := 7) (v := .int .i64 (P : Int)) rfl (by kernel_rfl) (by kernel_rfl) (by kernel_rfl) (fun _ _ _ h => h) (Or.inl ⟨by kernel_rfl, fun w => by go_simp⟩) ?_
          simp only [Act.put, List.setIfInBounds_toArray, List.set_cons_zero, List.set_cons_succ]
          refine wpAny_take (oi := ⟨some 92, _, _, _, _, _⟩) (i := 9) (v := .int .i64 (P : Int)) rfl (by kernel_rfl) (by kernel_rfl) (by kernel_rfl) (fun _ _ _ h => h) (Or.inl ⟨by kernel_rfl, fun w => by go_simp⟩) ?_
          simp only [Act.put, List.setIfInBounds_toArray, List.set_cons_zero, List.set_cons_succ]
          refine wpAny_take (oi := ⟨some 93, _, _, _, _, _⟩) (i := 10) (v := .int .i64 (Y : Int)) rfl (by kernel_rfl) (by kernel_rfl) (by kernel_rfl) (fun _ _ _ h => h) (Or.inl ⟨by kernel_rfl, fun w => by (go_simp; try rw [hwy])⟩) ?_
          simp only [Act.put, List.setIfInBounds_toArray, List.set_cons_zero, List.set_cons_succ]
          refine wpAny_ready (rs := [8]) (by kernel_rfl) (by simp) (AllReady.cons rfl (fun K hK => ?_) AllReady.nil)
          go_simp
          go_wp2_with (first
            | (go_at_call 17; (refine ((kz.out _ (gb_drew (gb_refl _))).mono ?_)); rintro ee w9 ⟨rfl, hb9⟩)
            | fail)
          refine wpAny_take (oi := ⟨some 94, _, _, _, _, _⟩) (i := 11) (v := .bool true) rfl (by kernel_rfl) (by kernel_rfl) (by kernel_rfl) (fun _ _ _ h => h) (Or.inl ⟨by kernel_rfl, fun w => by (go_simp; try simp)⟩) ?_
          simp only [Act.put, List.setIfInBounds_toArray, List.set_cons_zero, List.set_cons_succ]
          refine wpAny_take (oi := ⟨some 95, _, _, _, _, _⟩) (i := 12) (v := .bool true) rfl (by kernel_rfl) (by kernel_rfl) (by kernel_rfl) (fun _ _ _ h => h) (Or.inl ⟨by kernel_rfl, fun w => by go_simp⟩) ?_
          simp only [Act.put, List.setIfInBounds_toArray, List.set_cons_zero, List.set_cons_succ]
          refine wpAny_take (oi := ⟨some 2, _, _, _, _, _⟩) (i := 13) (v := .bool true) rfl (by kernel_rfl) (by kernel_rfl) (by kernel_rfl) (fun _ _ _ h => h) (Or.inl ⟨by kernel_rfl, fun w => by go_simp⟩) ?_
          simp only [Act.put, List.setIfInBounds_toArray, List.set_cons_zero, List.set_cons_succ]
          refine wpAny_done (by kernel_rfl) ?_ _
          have hd0 : Below w103.heap.size w103 w103.drew := Joins.below_draws _ _ _
          have Hb9 := Lib.hid (Ht3.out.trans ((hd0.trans hb9).mono hs3))
          clear hb9 hd0
          go_wp2_with fail
          go_ret
          exact ⟨rfl, Hb9.out⟩
          -- END REGION
        · have hjl' : ¬ (j : Int) < (n : Int) := by omega
          have hwz := HWZ.out
          have hwy := HWY.out
          go_wp2_with fail
          -- REGION 10
          refine wp_region_any (by kernel_rfl) ?_
          try (change wpAny _ _ _ _ _ _ _ (World.drew _))
          refine wpAny_take (oi := ⟨some 83, _, _, _, _, _⟩) (i := 0) (v := .int .i64 (S : Int)) rfl (by kernel_rfl) (by kernel_rfl) (by kernel_rfl) (fun _ _ _ h => h) (Or.inl ⟨by kernel_rfl, fun w => by go_simp⟩) ?_
          simp only [Act.put, List.setIfInBounds_toArray, List.set_cons_zero, List.set_cons_succ]
          refine wpAny_take (oi := ⟨some 84, _, _, _, _, _⟩) (i := 1) (v := .slice (some ⟨g, 0, none⟩) n c) rfl (by kernel_rfl) (by kernel_rfl) (by kernel_rfl) (fun _ _ _ h => h) (Or.inl ⟨by kernel_rfl, fun w => by go_simp⟩) ?_
          simp only [Act.put, List.setIfInBounds_toArray, List.set_cons_zero, List.set_cons_succ]
          refine wpAny_take (oi := ⟨some 85, _, _, _, _, _⟩) (i := 2) (v := .int .i64 (n : Int)) rfl (by kernel_rfl) (by kernel_rfl) (by kernel_rfl) (fun _ _ _ h => h) (Or.inl ⟨by kernel_rfl, fun w => by go_simp⟩) ?_
          simp only [Act.put, List.setIfInBounds_toArray, List.set_cons_zero, List.set_cons_succ]
          refine wpAny_take (oi := ⟨some 86, _, _, _, _, _⟩) (i := 3) (v := .int .i64 (Z : Int)) rfl (by kernel_rfl) (by kernel_rfl) (by kernel_rfl) (fun _ _ _ h => h) (Or.inl ⟨by kernel_rfl, fun w => by (go_simp; try rw [hwz])⟩) ?_
          simp only [Act.put, List.setIfInBounds_toArray, List.set_cons_zero, List.set_cons_succ]
          refine wpAny_take (oi := ⟨some 87, _, _, _, _, _⟩) (i := 4) (v := .bool true) rfl (by kernel_rfl) (by kernel_rfl) (by kernel_rfl) (fun _ _ _ h => h) (Or.inl ⟨by kernel_rfl, fun w => by (go_simp; try simp [hSZ])⟩) ?_
          simp only [Act.put, List.setIfInBounds_toArray, List.set_cons_zero, List.set_cons_succ]
          refine wpAny_take (oi := ⟨some 88, _, _, _, _, _⟩) (i := 5) (v := .bool true) rfl (by kernel_rfl) (by kernel_rfl) (by kernel_rfl) (fun _ _ _ h => h) (Or.inl ⟨by kernel_rfl, fun w => by go_simp⟩) ?_
          simp only [Act.put, List.setIfInBounds_toArray, List.set_cons_zero, List.set_cons_succ]
          refine wpAny_take (oi := ⟨some 89, _, _, _, _, _⟩) (i := 6) (v := .slice (some ⟨g, 0, none⟩) n c) rfl (by kernel_rfl) (by kernel_rfl) (by kernel_rfl) (fun _ _ _ h => h) (Or.inl ⟨by kernel_rfl, fun w => by go_simp⟩) ?_
          simp only [Act.put, List.setIfInBounds_toArray, List.set_cons_zero, List.set_cons_succ]
          refine wpAny_take (oi := ⟨some 90, _, _, _, _, _⟩) (i := 7) (v := .int .i64 (P : Int)) rfl (by kernel_rfl) (by kernel_rfl) (by kernel_rfl) (fun _ _ _ h => h) (Or.inl ⟨by kernel_rfl, fun w => by go_simp⟩) ?_
          simp only [Act.put, List.setIfInBounds_toArray, List.set_cons_zero, List.set_cons_succ]
          refine wpAny_take (oi := ⟨some 92, _, _, _, _, _⟩) (i := 9) (v := .int .i64 (P : Int)) rfl (by kernel_rfl) (by kernel_rfl) (by kernel_rfl) (fun _ _ _ h => h) (Or.inl ⟨by kernel_rfl, fun w => by go_simp⟩) ?_
          simp only [Act.put, List.setIfInBounds_toArray, List.set_cons_zero, List.set_cons_succ]
          refine wpAny_take (oi := ⟨some 93, _, _, _, _, _⟩) (i := 10) (v := .int .i64 (Y : Int)) rfl (by kernel_rfl) (by kernel_rfl) (by kernel_rfl) (fun _ _ _ h => h) (Or.inl ⟨by kernel_rfl, fun w => by (go_simp; try rw [hwy])⟩) ?_
          simp only [Act.put, List.setIfInBounds_toArray, List.set_cons_zero, List.set_cons_succ]
          refine wpAny_ready (rs := [8]) (by kernel_rfl) (by simp) (AllReady.cons rfl (fun K hK => ?_) AllReady.nil)
          go_simp
          go_wp2_with (first
            | (go_at_call 17; (refine ((kz.out _ (gb_drew (gb_refl _))).mono ?_)); rintro ee w9 ⟨rfl, hb9⟩)
            | fail)
          refine wpAny_take (oi := ⟨some 94, _, _, _, _, _⟩) (i := 11) (v := .bool true) rfl (by kernel_rfl) (by kernel_rfl) (by kernel_rfl) (fun _ _ _ h => h) (Or.inl ⟨by kernel_rfl, fun w => by (go_simp; try simp)⟩) ?_
          simp only [Act.put, List.setIfInBounds_toArray, List.set_cons_zero, List.set_cons_succ]
          refine wpAny_take (oi := ⟨some 95, _, _, _, _, _⟩) (i := 12) (v := .bool true) rfl (by kernel_rfl) (by kernel_rfl) (by kernel_rfl) (fun _ _ _ h => h) (Or.inl ⟨by kernel_rfl, fun w => by go_simp⟩) ?_
          simp only [Act.put, List.setIfInBounds_toArray, List.set_cons_zero, List.set_cons_succ]
          refine wpAny_take (oi := ⟨some 2, _, _, _, _, _⟩) (i := 13) (v := .bool true) rfl (by kernel_rfl) (by kernel_rfl) (by kernel_rfl) (fun _ _ _ h => h) (Or.inl ⟨by kernel_rfl, fun w => by go_simp⟩) ?_
          simp only [Act.put, List.setIfInBounds_toArray, List.set_cons_zero, List.set_cons_succ]
          refine wpAny_done (by kernel_rfl) ?_ _
          have hd0 : Below w103.heap.size w103 w103.drew := Joins.below_draws _ _ _
          have Hb9 := Lib.hid (Ht3.out.trans ((hd0.trans hb9).mono hs3))
          clear hb9 hd0
          go_wp2_with fail
          go_ret
          exact ⟨rfl, Hb9.out⟩
          -- END REGION
  · have hv1 : v = -1 := by rw [← Hv.out]; exact walkV_no hc
    clear hc
    subst hv1
    have k5 := Lib.hid (alive_any w102)
    go_wp2_with fail
    refine (k5.out).mono ?_
    rintro ee w105 ⟨rfl, hb5⟩
    have Ht5 := Lib.hid (Ht2.out.trans (hb5.mono (by have h1 := Ht2.out.size; omega)))
    clear hb5
    go_wp2_with fail
    go_ret
    exact ⟨rfl, Ht5.out⟩

end Go.Proofs.YthcnpglbfhgmfaaDoor
