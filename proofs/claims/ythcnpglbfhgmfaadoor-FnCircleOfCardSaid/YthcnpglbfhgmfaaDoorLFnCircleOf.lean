/- FnCircleOf: the walk of the law. -/
import Derived.Test.YthcnpglbfhgmfaaDoorDrawRelA
import Derived.Test.YthcnpglbfhgmfaaDoorRelCk
import Derived.Test.YthcnpglbfhgmfaaDoorRelCl
import Derived.StillTailTactics
namespace Go.Proofs.YthcnpglbfhgmfaaDoor
set_option maxRecDepth 100000
open Go.RowKit

theorem hasInt_no (ao : Option Addr) (n c : Nat) (xs : List Int) (m : Int) (w : World) (hb : n ≤ 1000000) (h : Sl w ao n c xs) (hm : m ∉ xs) :
    Calls Tryd.prog 35 #[.slice ao n c, .int .i64 m] w fun e w' => e = .returned (.bool false) ∧ w = w' := by
  obtain ⟨x1, x2, x3, x4⟩ := h
  have X1 := Lib.hid x1
  have X4 := Lib.hid x4
  have HM := Lib.hid hm
  clear x1 x4 hm
  go_enter Tryd.func35, Tryd.ntmps35
  go_wp2_with fail
  go_loopw [5] (fun v5 wr => ∃ k : Nat, k ≤ n ∧ v5 = .int .i64 k ∧ w = wr) (fun v5 _ => n - (intOf v5).toNat)
  case atStart => exact ⟨0, Nat.zero_le _, rfl, rfl⟩
  case round =>
    obtain ⟨k, hk, rfl, rfl⟩ := hrel
    by_cases hlt : k < n
    · obtain ⟨b, off, rfl, hat⟩ := X4.out (by omega)
      have y0 := hat k (by rw [X1.out]; exact hlt)
      have hne : xs.getD k 0 ≠ m := fun h9 => HM.out (by
        have hl : k < xs.length := by rw [X1.out]; exact hlt
        rw [← h9]
        simp [List.getD, hl])
      obtain ⟨x, hx⟩ : ∃ x, x = xs.getD k 0 := ⟨_, rfl⟩
      rw [← hx] at y0 hne
      have hxe : (x == m) = false := by simp [hne]
      clear hat hx hne
      go_wp2_with fail
      go_roundw
      case rel => exact ⟨k + 1, by omega, by go_num, by trivial⟩
      case measure => exact idx_measure hlt
    · obtain rfl : k = n := by omega
      go_wp2_with fail
      go_ret
      exact ⟨rfl, rfl⟩
theorem Sl.upto {w : World} {ao : Option Addr} {k c t : Nat} {xs : List Int} (h : Sl w ao k c xs) (ht : t ≤ k) : Sl w ao t c (xs.take t) := by
  obtain ⟨h1, h2, h3, h4⟩ := h
  refine ⟨by rw [List.length_take]; omega, by omega, h3, fun h9 => ?_⟩
  obtain ⟨b, off, rfl, hat⟩ := h4 (by omega)
  exact ⟨b, off, rfl, hat.take t⟩

set_option maxHeartbeats 4000000 in
theorem fnCircleOf_walk (a : Option Addr) (len cap : Nat) (w : World) (h : By w a len cap) (hT : Tab w) :
    Calls Tryd.prog 8 #[.slice a len cap] w fun e w' => e = .returned (.bool true) ∧ Below w.heap.size w w' := by
  have hlm : len ≤ 9223372036854775807 := by have := h.1; have := h.2.1; unfold maxLen at this; omega
  by_cases hbig : 1048576 < len
  · clear h hT
    go_enter Tryd.func8, Tryd.ntmps8
    go_wp2_with fail
    go_ret
    exact ⟨rfl, Below.refl _ _⟩
  have HT := Lib.hid hT
  have htl := hT.lt
  have k0 := Lib.hid (drawCircleOf_any a len cap w h)
  clear h hT
  go_enter Tryd.func8, Tryd.ntmps8
  go_wp2_with fail
  refine (k0.out).mono ?_
  rintro ee w1 ⟨xs, g, n, c, hn, rfl, ho, hl, hb0⟩
  have X_0 := Lib.hid (Sl.of_own ho)
  have Ht0 := Lib.hid hb0
  have hws := hb0.size
  clear ho hb0 hn
  have k1 := Lib.hid (impl_CircleOf (some ⟨g, 0, none⟩) n c xs w1 X_0.out (HT.out.below Ht0.out htl))
  unfold CirPost at k1
  go_wp2_with fail
  refine (k1.out).mono ?_
  rintro ee w101 ⟨ls, o, aR, cR, hcv, rfl, hsl, hll, hb1⟩
  have Hcv := Lib.hid hcv
  have Ht1 := Lib.hid (Ht0.out.trans (hb1.mono (by have h1 := Ht0.out.size; omega)))
  have X_1 := Lib.hid (X_0.out.below hb1)
  have R_1 := Lib.hid hsl
  clear hb1 hsl hcv
  have k2 := Lib.hid (spec_CircleOf (some ⟨g, 0, none⟩) n c xs w101 X_1.out)
  unfold CirPost at k2
  go_wp2_with fail
  refine (k2.out).mono ?_
  rintro ee w102 ⟨ls2, o2, aQ, cQ, hcv2, rfl, hsl, _, hb2⟩
  obtain ⟨e1, e2⟩ := Hcv.out.unique hcv2
  subst e1 e2
  have Ht2 := Lib.hid (Ht1.out.trans (hb2.mono (by have h1 := Ht1.out.size; omega)))
  have X_2 := Lib.hid (X_1.out.below hb2)
  have R_2 := Lib.hid (R_1.out.below hb2)
  have Q_2 := Lib.hid hsl
  clear hb2 hsl hcv2
  have hoo : (o != o) = false := by cases o <;> rfl
  have k3 := Lib.hid (sameInts_any aR aQ ls.length cR ls.length cQ (nz ls) (nz ls) w102 (by omega) R_2.out Q_2.out)
  rw [eqB_refl] at k3
  go_wp2_with fail
  refine (k3.out).mono ?_
  rintro ee w103 ⟨rfl, hb3⟩
  have Ht3 := Lib.hid (Ht2.out.trans (hb3.mono (by have h1 := Ht2.out.size; omega)))
  have X_3 := Lib.hid (X_2.out.below hb3)
  have R_3 := Lib.hid (R_2.out.below hb3)
  clear hb3 hoo
  cases o with
  | false =>
    have hnil : ls = [] := by
      rcases Hcv.out with ⟨_, h2, _⟩ | ⟨h1, _⟩
      · exact h2
      · cases h1
    subst hnil
    have k5 := Lib.hid (alive_any w103)
    go_wp2_with fail
    refine (k5.out).mono ?_
    rintro ee w104 ⟨rfl, hb4⟩
    have Ht4 := Lib.hid (Ht3.out.trans (hb4.mono (by have h1 := Ht3.out.size; omega)))
    clear hb4
    go_wp2_with fail
    go_ret
    exact ⟨rfl, Ht4.out⟩
  | true =>
    have Hok := Lib.hid (cir_ok Hcv.out rfl)
    have Hnew := Lib.hid (fun k (hk : k < ls.length) => cir_new Hcv.out hk)
    have Hpl := Lib.hid (nz_len ls)
    obtain ⟨ps, hps⟩ : ∃ ps, ps = nz ls := ⟨_, rfl⟩
    rw [← hps] at R_3 Hok Hnew Hpl
    clear hps
    go_wp2_with fail
    go_loopw [8] (fun v8 wr => ∃ k : Nat, k ≤ ls.length ∧ v8 = .int .i64 k ∧ Below w103.heap.size w103 wr) (fun v8 _ => ls.length - (intOf v8).toNat)
    case atStart => exact ⟨0, Nat.zero_le _, rfl, Below.refl _ _⟩
    case round =>
      obtain ⟨k, hk, rfl, hb⟩ := hrel
      obtain ⟨wA, rfl⟩ : ∃ wA : World, wA = wr := ⟨_, rfl⟩
      have Hb := Lib.hid hb
      have Ht5 := Lib.hid (Ht3.out.trans (hb.mono (by have h1 := Ht3.out.size; omega)))
      have X_5 := Lib.hid (X_3.out.below hb)
      have R_5 := Lib.hid (R_3.out.below hb)
      have hsA := hb.size
      clear hb
      by_cases hkl : k < ls.length
      · have hc5 := R_5.out.2.1
        obtain ⟨bR, oR, rfl, hat⟩ := R_5.out.2.2.2 (by omega)
        have y0 := hat k (by rw [Hpl.out]; exact hkl)
        have hnw := Hnew.out k hkl
        obtain ⟨x, hx⟩ : ∃ x, x = ps.getD k 0 := ⟨_, rfl⟩
        rw [← hx] at y0 hnw
        have Hnw := Lib.hid hnw
        have h1 : (k : Int) ≤ (ls.length : Int) := by omega
        have h2 : (k : Int) ≤ (cR : Int) := by omega
        have h3 : (k : Int) < (ls.length : Int) := by omega
        have kh := Lib.hid (fun wx (hx : Below wA.heap.size wA wx) => hasInt_no (some ⟨bR, oR, none⟩) k cR (ps.take k) x wx (by omega) ((R_5.out.below hx).upto (by omega)) Hnw.out)
        clear hat hx hnw
        go_wp2_with fail
        -- REGION
        refine wp_region_any (by kernel_rfl) ?_
        try (change wpAny _ _ _ _ _ _ _ (World.drew _))
        refine wpAny_take (oi := ⟨some 47, _, _, _, _, _⟩) (i := 0) (v := .slice (some ⟨bR, oR, none⟩) ls.length cR) rfl (by kernel_rfl) (by kernel_rfl) (by kernel_rfl) (fun _ _ _ h => h) (Or.inl ⟨by kernel_rfl, fun w => by go_simp⟩) ?_
        simp only [Act.put, List.setIfInBounds_toArray, List.set_cons_zero, List.set_cons_succ]
        refine wpAny_take (oi := ⟨some 48, _, _, _, _, _⟩) (i := 1) (v := .int .i64 (k : Int)) rfl (by kernel_rfl) (by kernel_rfl) (by kernel_rfl) (fun _ _ _ h => h) (Or.inl ⟨by kernel_rfl, fun w => by go_simp⟩) ?_
        simp only [Act.put, List.setIfInBounds_toArray, List.set_cons_zero, List.set_cons_succ]
        refine wpAny_take (oi := ⟨some 49, _, _, _, _, _⟩) (i := 2) (v := .slice (some ⟨bR, oR, none⟩) k cR) rfl (by kernel_rfl) (by kernel_rfl) (by kernel_rfl) (fun _ _ _ h => h) (Or.inl ⟨by kernel_rfl, fun w => by (go_simp; try omega)⟩) ?_
        simp only [Act.put, List.setIfInBounds_toArray, List.set_cons_zero, List.set_cons_succ]
        refine wpAny_take (oi := ⟨some 50, _, _, _, _, _⟩) (i := 3) (v := .slice (some ⟨bR, oR, none⟩) ls.length cR) rfl (by kernel_rfl) (by kernel_rfl) (by kernel_rfl) (fun _ _ _ h => h) (Or.inl ⟨by kernel_rfl, fun w => by go_simp⟩) ?_
        simp only [Act.put, List.setIfInBounds_toArray, List.set_cons_zero, List.set_cons_succ]
        refine wpAny_take (oi := ⟨some 51, _, _, _, _, _⟩) (i := 4) (v := .int .i64 (k : Int)) rfl (by kernel_rfl) (by kernel_rfl) (by kernel_rfl) (fun _ _ _ h => h) (Or.inl ⟨by kernel_rfl, fun w => by go_simp⟩) ?_
        simp only [Act.put, List.setIfInBounds_toArray, List.set_cons_zero, List.set_cons_succ]
        refine wpAny_take (oi := ⟨some 52, _, _, _, _, _⟩) (i := 5) (v := .pointer (some ⟨bR, oR + k, none⟩)) rfl (by kernel_rfl) (by kernel_rfl) (by kernel_rfl) (fun _ _ _ h => h) (Or.inl ⟨by kernel_rfl, fun w => by (go_simp; try omega)⟩) ?_
        simp only [Act.put, List.setIfInBounds_toArray, List.set_cons_zero, List.set_cons_succ]
        have y0d : wA.drew.cell? ⟨bR, oR + k, none⟩ = some (.int .i64 x) := y0
        refine wpAny_ready (rs := [6]) (by kernel_rfl) (by simp) (AllReady.cons rfl (fun K hK => ?_) AllReady.nil)
        go_simp
        refine hK _ _ ?_
        clear hK K
        refine wpAny_ready (rs := [7]) (by kernel_rfl) (by simp) (AllReady.cons rfl (fun K hK => ?_) AllReady.nil)
        go_simp
        go_wp2_with (first
          | (go_at_call 35; (refine ((kh.out _ (Joins.below_draws _ _ _)).mono ?_)); rintro ee wx ⟨rfl, rfl⟩)
          | fail)
        refine wpAny_done (by kernel_rfl) ?_ _
        -- END REGION
        go_wp2_with fail
        go_roundw
        case rel => exact ⟨k + 1, by omega, by go_num, Hb.out.trans (Joins.below_draws _ _ 1)⟩
        case measure => exact idx_measure hkl
      · obtain rfl : k = ls.length := by omega
        have k5 := Lib.hid (impl_CircleOk (some ⟨g, 0, none⟩) aR n c ls.length cR xs ps wA X_5.out R_5.out (by omega))
        rw [Hok.out] at k5
        go_wp2_with fail
        refine (k5.out).mono ?_
        rintro ee w106 ⟨rfl, hb6⟩
        have Ht6 := Lib.hid (Ht5.out.trans (hb6.mono (by have h1 := Ht5.out.size; omega)))
        clear hb6
        go_wp2_with fail
        go_ret
        exact ⟨rfl, Ht6.out⟩

end Go.Proofs.YthcnpglbfhgmfaaDoor
