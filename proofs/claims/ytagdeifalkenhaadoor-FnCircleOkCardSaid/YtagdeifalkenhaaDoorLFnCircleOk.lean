/- FnCircleOk: the walk of the law. -/
import Derived.Test.YtagdeifalkenhaaDoorDrawCir
import Derived.Test.YtagdeifalkenhaaDoorRelCm
import Derived.Test.YtagdeifalkenhaaDoorRelCl
import Derived.Test.YtagdeifalkenhaaDoorRelG
namespace Go.Proofs.YtagdeifalkenhaaDoor
set_option maxRecDepth 100000
open Go.RowKit

theorem ite_go {c a b : Prop} [Decidable c] (hc : c) (ha : a) : (if c then a else b) := by rw [if_pos hc]; exact ha
/-- A row but its first number, as a slice. -/
theorem tail_parts {b off m c : Nat} {ps : List Int} {w : World} (hm : m = ps.length) (hm1 : 1 ≤ m) (hmc : m ≤ c) (hat : At w b off ps) : ∃ oT mT cT : Nat,
    ((c = 1 ∧ m = 1 ∧ oT = off ∧ mT = 0 ∧ cT = 0) ∨ (m = mT + 1 ∧ c = cT + 1 ∧ 0 < cT ∧ oT = off + 1)) ∧ At w b oT (ps.drop 1) ∧ mT = (ps.drop 1).length ∧ mT ≤ cT ∧ mT + 1 = m := by
  by_cases hc : c = 1
  · refine ⟨off, 0, 0, .inl ⟨hc, by omega, rfl, rfl, rfl⟩, fun j hj => ?_, by rw [List.length_drop]; omega, Nat.le_refl _, by omega⟩
    rw [List.length_drop] at hj; omega
  · refine ⟨off + 1, m - 1, c - 1, .inr ⟨by omega, by omega, by omega, rfl⟩, hat.drop 1, by rw [List.length_drop]; omega, by omega, by omega⟩

set_option maxHeartbeats 8000000 in
theorem fnCircleOk_walk (a : Option Addr) (len cap : Nat) (w : World) (h : By w a len cap) (hT : Tab w) :
    Calls Tryd.prog 3 #[.slice a len cap] w fun e w' => e = .returned (.bool true) ∧ Below w.heap.size w w' := by
  obtain ⟨i0, hi, hz0, hz1, hz2⟩ := info_parts info_int
  have hlm : len ≤ 9223372036854775807 := by have := h.1; have := h.2.1; unfold maxLen at this; omega
  by_cases hbig : 1048576 < len
  · clear h hT
    go_enter Tryd.func3, Tryd.ntmps3
    go_wp2_with fail
    go_ret
    exact ⟨rfl, Below.refl _ _⟩
  have HT := Lib.hid hT
  have htl := hT.lt
  have k0 := Lib.hid (drawCircleOk_any a len cap w h)
  clear h hT
  go_enter Tryd.func3, Tryd.ntmps3
  go_wp2_with fail
  refine (k0.out).mono ?_
  rintro ee w1 ⟨xs, ps, g, n, c, aP, m, cP, hn, hm, rfl, hX, hP, hl, hml, hb0⟩
  have Hn := Lib.hid hn
  have Hm := Lib.hid hm
  have X_0 := Lib.hid hX
  have P_0 := Lib.hid hP
  have Ht0 := Lib.hid hb0
  clear hn hm hX hP hb0
  obtain ⟨o, ho⟩ : ∃ o, o = circB xs ps := ⟨_, rfl⟩
  have k1 := Lib.hid (impl_CircleOk (some ⟨g, 0, none⟩) aP n c m cP xs ps w1 X_0.out P_0.out (by omega))
  rw [← ho] at k1
  go_wp2_with fail
  refine (k1.out).mono ?_
  rintro ee w101 ⟨rfl, hb1⟩
  have Ht1 := Lib.hid (Ht0.out.trans (hb1.mono (by have h1 := Ht0.out.size; omega)))
  have X_1 := Lib.hid (X_0.out.below hb1)
  have P_1 := Lib.hid (P_0.out.below hb1)
  clear hb1
  have k2 := Lib.hid (spec_CircleOk (some ⟨g, 0, none⟩) aP n c m cP xs ps w101 X_1.out P_1.out (by omega) (by omega))
  rw [← ho] at k2
  have HO := Lib.hid ho
  clear ho
  go_wp2_with fail
  refine (k2.out).mono ?_
  rintro ee w102 ⟨rfl, hb2⟩
  have Ht2 := Lib.hid (Ht1.out.trans (hb2.mono (by have h1 := Ht1.out.size; omega)))
  have X_2 := Lib.hid (X_1.out.below hb2)
  have P_2 := Lib.hid (P_1.out.below hb2)
  clear hb2
  cases o with
  | false =>
    have k5 := Lib.hid (alive_any w102)
    go_wp2_with fail
    refine (k5.out).mono ?_
    rintro ee w104 ⟨rfl, hb4⟩
    have Ht4 := Lib.hid (Ht2.out.trans (hb4.mono (by have h1 := Ht2.out.size; omega)))
    clear hb4
    go_wp2_with fail
    go_ret
    exact ⟨rfl, Ht4.out⟩
  | true =>
    have hC : CircOk xs ps := circB_true.1 HO.out.symm
    have hm1 : 1 ≤ m := by have := hC.2.1; have := Hm.out; omega
    have hrl : (ranks xs).length = n := by rw [(ranks_spec hC.1).1, Hn.out]
    have hrk : ∀ k, k < m → ps.getD k 0 = (pt ps k : Int) ∧ pt ps k < n ∧ (ranks xs).getD (pt ps k) 0 = -1 := fun k hk => by
      rw [Hm.out] at hk
      have h1 := pt_int hC.2.2.1 hk
      exact ⟨h1.1, by rw [Hn.out]; exact h1.2, circ_rank hC hk⟩
    have Hwf := Lib.hid (circ_wf hC)
    have Hrot := Lib.hid (rot_circ hC)
    have hrn : 1 ≤ n := by have := (hrk 0 (by omega)).2.1; omega
    have k3 := Lib.hid (impl_RanksOf (some ⟨g, 0, none⟩) n c xs w102 X_2.out (HT.out.below Ht2.out htl))
    unfold RkPost at k3
    obtain ⟨r, hr⟩ : ∃ r, r = ranks xs := ⟨_, rfl⟩
    rw [← hr] at k3 hrk hrl
    rw [hrl] at k3
    have Hrl := Lib.hid hrl
    have Hrk := Lib.hid hrk
    clear hC hr hrl hrk
    go_wp2_with fail
    refine (k3.out).mono ?_
    rintro ee w103 ⟨aR, cR, rfl, hoR, hb3⟩
    have Ht3 := Lib.hid (Ht2.out.trans (hb3.mono (by have h1 := Ht2.out.size; omega)))
    have X_3 := Lib.hid (X_2.out.below hb3)
    have P_3 := Lib.hid (P_2.out.below hb3)
    have hRs := Sl.of_own hoR
    obtain ⟨bP, oP, rfl, hatP⟩ := P_3.out.2.2.2 (by omega)
    obtain ⟨bR, oR, rfl, hatR⟩ := hRs.2.2.2 (by omega)
    have HatP := Lib.hid hatP
    have HatR := Lib.hid hatR
    have hmcP := P_3.out.2.1
    have hbPl : bP < w103.heap.size := hatP.lt (by intro h9; have := Hm.out; rw [h9] at this; simp at this; omega)
    clear hb3 hoR hRs hatP hatR
    obtain ⟨W, hW⟩ : ∃ W, W = w103 := ⟨_, rfl⟩
    rw [← hW] at HatP HatR hbPl X_3 Ht3 ⊢
    clear P_3 hW
    go_wp2_with fail
    go_loopw [7] (fun v7 wr => ∃ k : Nat, k ≤ m ∧ v7 = .int .i64 k ∧ W = wr) (fun v7 _ => m - (intOf v7).toNat)
    case atStart => exact ⟨0, Nat.zero_le _, rfl, rfl⟩
    case round =>
      obtain ⟨k, hk, rfl, rfl⟩ := hrel
      by_cases hkm : k < m
      · obtain ⟨h1, h2, h3⟩ := Hrk.out k hkm
        obtain ⟨q, hq⟩ : ∃ q, q = pt ps k := ⟨_, rfl⟩
        rw [← hq] at h1 h2 h3
        have y0 : W.cell? ⟨bP, oP + k, none⟩ = some (.int .i64 (q : Int)) := by rw [HatP.out k (by rw [← Hm.out]; exact hkm), h1]
        have y1 : W.cell? ⟨bR, oR + q, none⟩ = some (.int .i64 (-1)) := by rw [HatR.out q (by rw [Hrl.out]; exact h2), h3]
        have hkm2 : (k : Int) < m := by omega
        have hq2 : (q : Int) < n := by omega
        have hq3 : ¬ ((n : Int) ≤ q) := by omega
        have hwq : IntKind.i64.wrap (q : Int) = (q : Int) := wrap_nat _ (by omega)
        clear hq h1 h3
        go_wp2_with fail
        go_roundw
        case rel => exact ⟨k + 1, by omega, by go_num, trivial⟩
        case measure => exact idx_measure hkm
      · obtain rfl : m = k := by omega
        have hkm2 : ¬ (m : Int) < m := by omega
        go_wp2_with fail
        have kw := Lib.hid (fun wx (hx : Below W.heap.size W wx) => impl_WellFounded (some ⟨g, 0, none⟩) n c xs wx (X_3.out.below hx) (HT.out.below (Ht3.out.trans (hx.mono (by have h1 := Ht3.out.size; omega))) htl))
        rw [Hwf.out] at kw
        have HYW := Lib.hid (HatP.out 0 (by rw [← Hm.out]; exact hm1))
        obtain ⟨y, hy⟩ : ∃ y, y = ps.getD 0 0 := ⟨_, rfl⟩
        rw [← hy] at HYW
        obtain ⟨oT, mT, cT, hT7, hTa, hTl, hTc, hTm⟩ := tail_parts Hm.out hm1 hmcP HatP.out
        obtain ⟨T, hTT⟩ : ∃ T, T = ps.drop 1 := ⟨_, rfl⟩
        rw [← hTT] at hTa hTl
        have HTr := Lib.hid (show rot ps = T ++ [y] by rw [hTT, hy]; rfl)
        have HTl := Lib.hid hTl.symm
        have HTaW := Lib.hid hTa
        have H7 := Lib.hid hT7
        have hP1 : (1 : Int) ≤ (m : Int) := by omega
        have hP2 : (1 : Int) ≤ (cP : Int) := by omega
        have hP3 : (m : Int) ≤ (cP : Int) := by omega
        have hP4 : (0 : Int) < (m : Int) := by omega
        clear hy hTT hTa hTl hT7
        -- REGION
        refine wp_region_any (by kernel_rfl) ?_
        try (change wpAny _ _ _ _ _ _ _ (World.drew _))
        refine wpAny_take (oi := ⟨some 59, _, _, _, _, _⟩) (i := 0) (v := .slice (some ⟨g, 0, none⟩) n c) rfl (by kernel_rfl) (by kernel_rfl) (by kernel_rfl) (fun _ _ _ h => h) (Or.inl ⟨by kernel_rfl, fun w => by go_simp⟩) ?_
        try simp only [Act.put, List.setIfInBounds_toArray, List.set_cons_zero, List.set_cons_succ]
        refine wpAny_ready (rs := [1]) (by kernel_rfl) (by simp) (AllReady.cons rfl (fun K hK => ?_) AllReady.nil)
        go_simp
        go_wp2_with (first
          | (go_at_call 12; (refine ((kw.out _ (Joins.below_draws _ _ _)).mono ?_)); rintro ee wy ⟨rfl, hby⟩)
          | fail)
        have hd0 : Below W.heap.size W W.drew := Joins.below_draws _ _ _
        have hby2 : Below W.heap.size W wy := hd0.trans hby
        have hsy : w.heap.size ≤ wy.heap.size := Nat.le_trans Ht3.out.size hby2.size
        have hbPy : bP < wy.heap.size := Nat.lt_of_lt_of_le hbPl hby2.size
        have HbW := Lib.hid (Ht3.out.trans (hby2.mono Ht3.out.size))
        have X_4 := Lib.hid (X_3.out.below hby2)
        have HTa := Lib.hid (HTaW.out.below hby2 hbPl)
        have HY := Lib.hid ((hby2.cell (p := ⟨bP, oP, none⟩) hbPl).trans HYW.out)
        have HbY := Lib.hid (Below.refl wy.heap.size wy)
        clear hby hby2 hd0
        refine wpAny_take (oi := ⟨some 61, _, _, _, _, _⟩) (i := 2) (v := .bool true) rfl (by kernel_rfl) (by kernel_rfl) (by kernel_rfl) (fun _ _ _ h => h) (Or.inl ⟨by kernel_rfl, fun w => by go_simp⟩) ?_
        try simp only [Act.put, List.setIfInBounds_toArray, List.set_cons_zero, List.set_cons_succ]
        refine wpAny_take (oi := ⟨some 62, _, _, _, _, _⟩) (i := 3) (v := .bool true) rfl (by kernel_rfl) (by kernel_rfl) (by kernel_rfl) (fun _ _ _ h => h) (Or.inl ⟨by kernel_rfl, fun w => by go_simp⟩) ?_
        try simp only [Act.put, List.setIfInBounds_toArray, List.set_cons_zero, List.set_cons_succ]
        refine wpAny_take (oi := ⟨some 63, _, _, _, _, _⟩) (i := 4) (v := .slice (some ⟨g, 0, none⟩) n c) rfl (by kernel_rfl) (by kernel_rfl) (by kernel_rfl) (fun _ _ _ h => h) (Or.inl ⟨by kernel_rfl, fun w => by go_simp⟩) ?_
        try simp only [Act.put, List.setIfInBounds_toArray, List.set_cons_zero, List.set_cons_succ]
        refine wpAny_take (oi := ⟨some 65, _, _, _, _, _⟩) (i := 6) (v := .slice (some ⟨bP, oP, none⟩) m cP) rfl (by kernel_rfl) (by kernel_rfl) (by kernel_rfl) (fun _ _ _ h => h) (Or.inl ⟨by kernel_rfl, fun w => by go_simp⟩) ?_
        try simp only [Act.put, List.setIfInBounds_toArray, List.set_cons_zero, List.set_cons_succ]
        refine wpAny_take (oi := ⟨some 66, _, _, _, _, _⟩) (i := 7) (v := .slice (some ⟨bP, oT, none⟩) mT cT) rfl (by kernel_rfl) (by kernel_rfl) (by kernel_rfl) (fun _ _ _ h => h) (Or.inl ⟨by kernel_rfl, fun w => by (rcases H7.out with ⟨rfl, rfl, rfl, rfl, rfl⟩ | ⟨rfl, rfl, h9, rfl⟩ <;> (try (have h8 : (1 : Int) ≤ (mT : Int) + 1 := by omega)) <;> (try (have h10 : ¬ cT = 0 := by omega)) <;> (go_simp; try omega))⟩) ?_
        try simp only [Act.put, List.setIfInBounds_toArray, List.set_cons_zero, List.set_cons_succ]
        refine wpAny_take (oi := ⟨some 68, _, _, _, _, _⟩) (i := 9) (v := .slice (some ⟨bP, oP, none⟩) m cP) rfl (by kernel_rfl) (by kernel_rfl) (by kernel_rfl) (fun _ _ _ h => h) (Or.inl ⟨by kernel_rfl, fun w => by go_simp⟩) ?_
        try simp only [Act.put, List.setIfInBounds_toArray, List.set_cons_zero, List.set_cons_succ]
        refine wpAny_take (oi := ⟨some 69, _, _, _, _, _⟩) (i := 10) (v := .pointer (some ⟨bP, oP, none⟩)) rfl (by kernel_rfl) (by kernel_rfl) (by kernel_rfl) (fun _ _ _ h => h) (Or.inl ⟨by kernel_rfl, fun w => by (go_simp; try (intro h9; omega))⟩) ?_
        try simp only [Act.put, List.setIfInBounds_toArray, List.set_cons_zero, List.set_cons_succ]
        refine wpAny_ready (rs := [5, 11]) (by kernel_rfl) (by simp) (AllReady.cons rfl (fun K hK => ?_) (AllReady.cons rfl (fun K hK => ?_) AllReady.nil))
        · go_simp
          refine hK _ _ ?_
          clear hK K
          generalize hq1 : wy.alloc (.cells #[] 3) = wq1
          have Hb1 := Lib.hid (show Below wy.heap.size wy wq1 by rw [← hq1]; exact HbY.out.alloc HbY.out.size _)
          have Ho1 := Lib.hid (show wq1.ownsRow wy.heap.size 3 1 (.slice (some ⟨wy.heap.size, 0, none⟩) 0 0) 0 (ints []) by rw [← hq1]; exact Joins.ownsRow_le (World.ownsRow_lit wy #[] 0 (Nat.le_refl _) (by simp [maxLen]) rfl) HbY.out.size)
          have Hsz1 := Lib.hid (show wq1.heap.size = wy.heap.size + 1 by rw [← hq1]; simp)
          clear hq1
          try simp only [Act.put, List.setIfInBounds_toArray, List.set_cons_zero, List.set_cons_succ]
          refine wpAny_ready (rs := [8, 11]) (by kernel_rfl) (by simp) (AllReady.cons rfl (fun K hK => ?_) (AllReady.cons rfl (fun K hK => ?_) AllReady.nil))
          · refine ite_go (by kernel_rfl) ?_
            refine wp_append_own _ (.tmp 64) (.tmp 66) 23 rfl wy.heap.size 3 i0 (.int .i64 0) 1 8 Tryd.underlying23 hi hz0 hz1 hz2 rfl (by decide) (.slice (some ⟨wy.heap.size, 0, none⟩) 0 0) 0 (ints []) rfl Ho1.out ⟨bP, oT, none⟩ mT cT (ints T) rfl (by rw [ints_len, Nat.mul_one, HTl.out]) (At.news (HTa.out.below Hb1.out hbPy)) (ints_one _) (by unfold maxLen; omega) (by omega) Hb1.out.size ?_
            intro v2 wq2 ho2 hg2 hii2
            obtain ⟨g67, c67, rfl, _, _, _, _⟩ := own_some ho2 (fun e => by have := (hii2.1 e).1; cases this)
            have Hb2 := Lib.hid (Hb1.out.grown hg2 Hb1.out.size (fun r e => (Ho1.out.lt r e).1))
            have Ho2 := Lib.hid (show wq2.ownsRow wy.heap.size 3 1 (.slice (some ⟨g67, 0, none⟩) mT c67) mT (ints T) by simpa [ints] using ho2)
            refine hK _ _ ?_
            clear hK K ho2 hg2 hii2
            simp only [Nat.zero_add]
            try simp only [Act.put, List.setIfInBounds_toArray]
            refine wpAny_ready (rs := [11]) (by kernel_rfl) (by simp) (AllReady.cons rfl (fun K hK => ?_) AllReady.nil)
            have yL3 : wq2.cell? ⟨bP, oP, none⟩ = some (.int .i64 y) := (Hb2.out.cell (p := ⟨bP, oP, none⟩) hbPy).trans HY.out
            go_simp
            refine hK _ _ ?_
            clear hK K yL3
            try simp only [Act.put, List.setIfInBounds_toArray, List.set_cons_zero, List.set_cons_succ]
            refine wpAny_ready (rs := [12]) (by kernel_rfl) (by simp) (AllReady.cons rfl (fun K hK => ?_) AllReady.nil)
            go_simp
            refine hK _ _ ?_
            clear hK K
            generalize hq4 : wq2.alloc (.cells #[.int .i64 y] 3) = wq4
            have Hb4 := Lib.hid (show Below wy.heap.size wy wq4 by rw [← hq4]; exact Hb2.out.alloc Hb2.out.size _)
            have Hc4 := Lib.hid (show ∀ (j : Nat) (u : Value), ([.int .i64 y] : List Value)[j]? = some u → wq4.cell? ((⟨wq2.heap.size, 0, none⟩ : Addr).add j) = some u by rw [← hq4]; exact cell_one_new _ _ _)
            have Hsz4 := Lib.hid (show wq4.heap.size = wq2.heap.size + 1 by rw [← hq4]; simp)
            have Ho4 := Lib.hid (show wq4.ownsRow wy.heap.size 3 1 (.slice (some ⟨g67, 0, none⟩) mT c67) mT (ints T) by rw [← hq4]; exact Ho2.out.alloc _)
            clear hq4
            try simp only [Act.put, List.setIfInBounds_toArray, List.set_cons_zero, List.set_cons_succ]
            refine wpAny_ready (rs := [13]) (by kernel_rfl) (by simp) (AllReady.cons rfl (fun K hK => ?_) AllReady.nil)
            refine ite_go (by kernel_rfl) ?_
            refine wp_append_own _ (.tmp 67) (.tmp 71) 23 rfl wy.heap.size 3 i0 (.int .i64 0) 1 8 Tryd.underlying23 hi hz0 hz1 hz2 rfl (by decide) (.slice (some ⟨g67, 0, none⟩) mT c67) mT (ints T) rfl Ho4.out ⟨wq2.heap.size, 0, none⟩ 1 1 [.int .i64 y] rfl rfl Hc4.out (ints_oneCell _ [y]) (by unfold maxLen; omega) (by omega) Hb4.out.size ?_
            intro v5 wq5 ho5 hg5 _
            obtain ⟨g72, c72, rfl⟩ := Joins.ownsRow_form ho5 (by omega)
            have Hb5 := Lib.hid (Hb4.out.grown hg5 Hb4.out.size (fun r e => (Ho4.out.lt r e).1))
            have Ho5 := Lib.hid (show wq5.ownsRow wy.heap.size 3 1 (.slice (some ⟨g72, 0, none⟩) m c72) m (ints (rot ps)) by rw [HTr.out, ← hTm]; simpa [ints] using ho5)
            refine hK _ _ ?_
            clear hK K ho5 hg5
            try simp only [Act.put, List.setIfInBounds_toArray]
            have kc := Lib.hid (impl_CircleOk (some ⟨g, 0, none⟩) (some ⟨g72, 0, none⟩) n c m c72 xs (rot ps) wq5 (X_4.out.below Hb5.out) (Sl.of_own Ho5.out) (by omega))
            rw [Hrot.out] at kc
            refine wpAny_ready (rs := [14]) (by kernel_rfl) (by simp) (AllReady.cons rfl (fun K hK => ?_) AllReady.nil)
            go_simp
            go_wp2_with (first
              | (go_at_call 8; (refine ((kc.out).mono ?_)); rintro ee wz ⟨rfl, hbz⟩)
              | fail)
            refine wpAny_take (oi := ⟨some 74, _, _, _, _, _⟩) (i := 15) (v := .bool true) rfl (by kernel_rfl) (by kernel_rfl) (by kernel_rfl) (fun _ _ _ h => h) (Or.inl ⟨by kernel_rfl, fun w => by go_simp⟩) ?_
            try simp only [Act.put, List.setIfInBounds_toArray, List.set_cons_zero, List.set_cons_succ]
            refine wpAny_take (oi := ⟨some 2, _, _, _, _, _⟩) (i := 16) (v := .bool true) rfl (by kernel_rfl) (by kernel_rfl) (by kernel_rfl) (fun _ _ _ h => h) (Or.inl ⟨by kernel_rfl, fun w => by go_simp⟩) ?_
            try simp only [Act.put, List.setIfInBounds_toArray, List.set_cons_zero, List.set_cons_succ]
            refine wpAny_done (by kernel_rfl) ?_ _
            have Hfin := Lib.hid (HbW.out.trans ((Hb5.out.trans (hbz.mono Hb5.out.size)).mono hsy))
            clear hbz
            go_wp2_with fail
            go_ret
            exact ⟨rfl, Hfin.out⟩
          · have yL6 : wq1.cell? ⟨bP, oP, none⟩ = some (.int .i64 y) := (Hb1.out.cell (p := ⟨bP, oP, none⟩) hbPy).trans HY.out
            go_simp
            refine hK _ _ ?_
            clear hK K yL6
            try simp only [Act.put, List.setIfInBounds_toArray, List.set_cons_zero, List.set_cons_succ]
            refine wpAny_ready (rs := [8, 12]) (by kernel_rfl) (by simp) (AllReady.cons rfl (fun K hK => ?_) (AllReady.cons rfl (fun K hK => ?_) AllReady.nil))
            · refine ite_go (by kernel_rfl) ?_
              refine wp_append_own _ (.tmp 64) (.tmp 66) 23 rfl wy.heap.size 3 i0 (.int .i64 0) 1 8 Tryd.underlying23 hi hz0 hz1 hz2 rfl (by decide) (.slice (some ⟨wy.heap.size, 0, none⟩) 0 0) 0 (ints []) rfl Ho1.out ⟨bP, oT, none⟩ mT cT (ints T) rfl (by rw [ints_len, Nat.mul_one, HTl.out]) (At.news (HTa.out.below Hb1.out hbPy)) (ints_one _) (by unfold maxLen; omega) (by omega) Hb1.out.size ?_
              intro v7 wq7 ho7 hg7 hii7
              obtain ⟨g67, c67, rfl, _, _, _, _⟩ := own_some ho7 (fun e => by have := (hii7.1 e).1; cases this)
              have Hb7 := Lib.hid (Hb1.out.grown hg7 Hb1.out.size (fun r e => (Ho1.out.lt r e).1))
              have Ho7 := Lib.hid (show wq7.ownsRow wy.heap.size 3 1 (.slice (some ⟨g67, 0, none⟩) mT c67) mT (ints T) by simpa [ints] using ho7)
              refine hK _ _ ?_
              clear hK K ho7 hg7 hii7
              simp only [Nat.zero_add]
              try simp only [Act.put, List.setIfInBounds_toArray]
              refine wpAny_ready (rs := [12]) (by kernel_rfl) (by simp) (AllReady.cons rfl (fun K hK => ?_) AllReady.nil)
              go_simp
              refine hK _ _ ?_
              clear hK K
              generalize hq8 : wq7.alloc (.cells #[.int .i64 y] 3) = wq8
              have Hb8 := Lib.hid (show Below wy.heap.size wy wq8 by rw [← hq8]; exact Hb7.out.alloc Hb7.out.size _)
              have Hc8 := Lib.hid (show ∀ (j : Nat) (u : Value), ([.int .i64 y] : List Value)[j]? = some u → wq8.cell? ((⟨wq7.heap.size, 0, none⟩ : Addr).add j) = some u by rw [← hq8]; exact cell_one_new _ _ _)
              have Hsz8 := Lib.hid (show wq8.heap.size = wq7.heap.size + 1 by rw [← hq8]; simp)
              have Ho8 := Lib.hid (show wq8.ownsRow wy.heap.size 3 1 (.slice (some ⟨g67, 0, none⟩) mT c67) mT (ints T) by rw [← hq8]; exact Ho7.out.alloc _)
              clear hq8
              try simp only [Act.put, List.setIfInBounds_toArray, List.set_cons_zero, List.set_cons_succ]
              refine wpAny_ready (rs := [13]) (by kernel_rfl) (by simp) (AllReady.cons rfl (fun K hK => ?_) AllReady.nil)
              refine ite_go (by kernel_rfl) ?_
              refine wp_append_own _ (.tmp 67) (.tmp 71) 23 rfl wy.heap.size 3 i0 (.int .i64 0) 1 8 Tryd.underlying23 hi hz0 hz1 hz2 rfl (by decide) (.slice (some ⟨g67, 0, none⟩) mT c67) mT (ints T) rfl Ho8.out ⟨wq7.heap.size, 0, none⟩ 1 1 [.int .i64 y] rfl rfl Hc8.out (ints_oneCell _ [y]) (by unfold maxLen; omega) (by omega) Hb8.out.size ?_
              intro v9 wq9 ho9 hg9 _
              obtain ⟨g72, c72, rfl⟩ := Joins.ownsRow_form ho9 (by omega)
              have Hb9 := Lib.hid (Hb8.out.grown hg9 Hb8.out.size (fun r e => (Ho8.out.lt r e).1))
              have Ho9 := Lib.hid (show wq9.ownsRow wy.heap.size 3 1 (.slice (some ⟨g72, 0, none⟩) m c72) m (ints (rot ps)) by rw [HTr.out, ← hTm]; simpa [ints] using ho9)
              refine hK _ _ ?_
              clear hK K ho9 hg9
              try simp only [Act.put, List.setIfInBounds_toArray]
              have kc := Lib.hid (impl_CircleOk (some ⟨g, 0, none⟩) (some ⟨g72, 0, none⟩) n c m c72 xs (rot ps) wq9 (X_4.out.below Hb9.out) (Sl.of_own Ho9.out) (by omega))
              rw [Hrot.out] at kc
              refine wpAny_ready (rs := [14]) (by kernel_rfl) (by simp) (AllReady.cons rfl (fun K hK => ?_) AllReady.nil)
              go_simp
              go_wp2_with (first
                | (go_at_call 8; (refine ((kc.out).mono ?_)); rintro ee wz ⟨rfl, hbz⟩)
                | fail)
              refine wpAny_take (oi := ⟨some 74, _, _, _, _, _⟩) (i := 15) (v := .bool true) rfl (by kernel_rfl) (by kernel_rfl) (by kernel_rfl) (fun _ _ _ h => h) (Or.inl ⟨by kernel_rfl, fun w => by go_simp⟩) ?_
              try simp only [Act.put, List.setIfInBounds_toArray, List.set_cons_zero, List.set_cons_succ]
              refine wpAny_take (oi := ⟨some 2, _, _, _, _, _⟩) (i := 16) (v := .bool true) rfl (by kernel_rfl) (by kernel_rfl) (by kernel_rfl) (fun _ _ _ h => h) (Or.inl ⟨by kernel_rfl, fun w => by go_simp⟩) ?_
              try simp only [Act.put, List.setIfInBounds_toArray, List.set_cons_zero, List.set_cons_succ]
              refine wpAny_done (by kernel_rfl) ?_ _
              have Hfin := Lib.hid (HbW.out.trans ((Hb9.out.trans (hbz.mono Hb9.out.size)).mono hsy))
              clear hbz
              go_wp2_with fail
              go_ret
              exact ⟨rfl, Hfin.out⟩
            · go_simp
              refine hK _ _ ?_
              clear hK K
              generalize hq10 : wq1.alloc (.cells #[.int .i64 y] 3) = wq10
              have Hb10 := Lib.hid (show Below wy.heap.size wy wq10 by rw [← hq10]; exact Hb1.out.alloc Hb1.out.size _)
              have Hc10 := Lib.hid (show ∀ (j : Nat) (u : Value), ([.int .i64 y] : List Value)[j]? = some u → wq10.cell? ((⟨wq1.heap.size, 0, none⟩ : Addr).add j) = some u by rw [← hq10]; exact cell_one_new _ _ _)
              have Hsz10 := Lib.hid (show wq10.heap.size = wq1.heap.size + 1 by rw [← hq10]; simp)
              have Ho10 := Lib.hid (show wq10.ownsRow wy.heap.size 3 1 (.slice (some ⟨wy.heap.size, 0, none⟩) 0 0) 0 (ints []) by rw [← hq10]; exact Ho1.out.alloc _)
              clear hq10
              try simp only [Act.put, List.setIfInBounds_toArray, List.set_cons_zero, List.set_cons_succ]
              refine wpAny_ready (rs := [8]) (by kernel_rfl) (by simp) (AllReady.cons rfl (fun K hK => ?_) AllReady.nil)
              refine ite_go (by kernel_rfl) ?_
              refine wp_append_own _ (.tmp 64) (.tmp 66) 23 rfl wy.heap.size 3 i0 (.int .i64 0) 1 8 Tryd.underlying23 hi hz0 hz1 hz2 rfl (by decide) (.slice (some ⟨wy.heap.size, 0, none⟩) 0 0) 0 (ints []) rfl Ho10.out ⟨bP, oT, none⟩ mT cT (ints T) rfl (by rw [ints_len, Nat.mul_one, HTl.out]) (At.news (HTa.out.below Hb10.out hbPy)) (ints_one _) (by unfold maxLen; omega) (by omega) Hb10.out.size ?_
              intro v11 wq11 ho11 hg11 hii11
              obtain ⟨g67, c67, rfl, _, _, _, _⟩ := own_some ho11 (fun e => by have := (hii11.1 e).1; cases this)
              have Hb11 := Lib.hid (Hb10.out.grown hg11 Hb10.out.size (fun r e => (Ho10.out.lt r e).1))
              have Ho11 := Lib.hid (show wq11.ownsRow wy.heap.size 3 1 (.slice (some ⟨g67, 0, none⟩) mT c67) mT (ints T) by simpa [ints] using ho11)
              have Hc11 := Lib.hid (show ∀ (j : Nat) (u : Value), ([.int .i64 y] : List Value)[j]? = some u → wq11.cell? ((⟨wq1.heap.size, 0, none⟩ : Addr).add j) = some u from fun j u hj => hg11.cell (Hc10.out j u hj) (fun e => by have e2 : wq1.heap.size = wy.heap.size := (by simpa [Value.ownBlock, Addr.add_lit] using e); have := Hsz1.out; have := Hsz10.out; omega))
              refine hK _ _ ?_
              clear hK K ho11 hg11 hii11
              simp only [Nat.zero_add]
              try simp only [Act.put, List.setIfInBounds_toArray]
              refine wpAny_ready (rs := [13]) (by kernel_rfl) (by simp) (AllReady.cons rfl (fun K hK => ?_) AllReady.nil)
              refine ite_go (by kernel_rfl) ?_
              refine wp_append_own _ (.tmp 67) (.tmp 71) 23 rfl wy.heap.size 3 i0 (.int .i64 0) 1 8 Tryd.underlying23 hi hz0 hz1 hz2 rfl (by decide) (.slice (some ⟨g67, 0, none⟩) mT c67) mT (ints T) rfl Ho11.out ⟨wq1.heap.size, 0, none⟩ 1 1 [.int .i64 y] rfl rfl Hc11.out (ints_oneCell _ [y]) (by unfold maxLen; omega) (by omega) Hb11.out.size ?_
              intro v12 wq12 ho12 hg12 _
              obtain ⟨g72, c72, rfl⟩ := Joins.ownsRow_form ho12 (by omega)
              have Hb12 := Lib.hid (Hb11.out.grown hg12 Hb11.out.size (fun r e => (Ho11.out.lt r e).1))
              have Ho12 := Lib.hid (show wq12.ownsRow wy.heap.size 3 1 (.slice (some ⟨g72, 0, none⟩) m c72) m (ints (rot ps)) by rw [HTr.out, ← hTm]; simpa [ints] using ho12)
              refine hK _ _ ?_
              clear hK K ho12 hg12
              try simp only [Act.put]
              have kc := Lib.hid (impl_CircleOk (some ⟨g, 0, none⟩) (some ⟨g72, 0, none⟩) n c m c72 xs (rot ps) wq12 (X_4.out.below Hb12.out) (Sl.of_own Ho12.out) (by omega))
              rw [Hrot.out] at kc
              refine wpAny_ready (rs := [14]) (by kernel_rfl) (by simp) (AllReady.cons rfl (fun K hK => ?_) AllReady.nil)
              go_simp
              go_wp2_with (first
                | (go_at_call 8; (refine ((kc.out).mono ?_)); rintro ee wz ⟨rfl, hbz⟩)
                | fail)
              refine wpAny_take (oi := ⟨some 74, _, _, _, _, _⟩) (i := 15) (v := .bool true) rfl (by kernel_rfl) (by kernel_rfl) (by kernel_rfl) (fun _ _ _ h => h) (Or.inl ⟨by kernel_rfl, fun w => by go_simp⟩) ?_
              try simp only [Act.put, List.setIfInBounds_toArray, List.set_cons_zero, List.set_cons_succ]
              refine wpAny_take (oi := ⟨some 2, _, _, _, _, _⟩) (i := 16) (v := .bool true) rfl (by kernel_rfl) (by kernel_rfl) (by kernel_rfl) (fun _ _ _ h => h) (Or.inl ⟨by kernel_rfl, fun w => by go_simp⟩) ?_
              try simp only [Act.put, List.setIfInBounds_toArray, List.set_cons_zero, List.set_cons_succ]
              refine wpAny_done (by kernel_rfl) ?_ _
              have Hfin := Lib.hid (HbW.out.trans ((Hb12.out.trans (hbz.mono Hb12.out.size)).mono hsy))
              clear hbz
              go_wp2_with fail
              go_ret
              exact ⟨rfl, Hfin.out⟩
        · have yL13 : wy.cell? ⟨bP, oP, none⟩ = some (.int .i64 y) := (HbY.out.cell (p := ⟨bP, oP, none⟩) hbPy).trans HY.out
          go_simp
          refine hK _ _ ?_
          clear hK K yL13
          try simp only [Act.put, List.setIfInBounds_toArray, List.set_cons_zero, List.set_cons_succ]
          refine wpAny_ready (rs := [5, 12]) (by kernel_rfl) (by simp) (AllReady.cons rfl (fun K hK => ?_) (AllReady.cons rfl (fun K hK => ?_) AllReady.nil))
          · go_simp
            refine hK _ _ ?_
            clear hK K
            generalize hq14 : wy.alloc (.cells #[] 3) = wq14
            have Hb14 := Lib.hid (show Below wy.heap.size wy wq14 by rw [← hq14]; exact HbY.out.alloc HbY.out.size _)
            have Ho14 := Lib.hid (show wq14.ownsRow wy.heap.size 3 1 (.slice (some ⟨wy.heap.size, 0, none⟩) 0 0) 0 (ints []) by rw [← hq14]; exact Joins.ownsRow_le (World.ownsRow_lit wy #[] 0 (Nat.le_refl _) (by simp [maxLen]) rfl) HbY.out.size)
            have Hsz14 := Lib.hid (show wq14.heap.size = wy.heap.size + 1 by rw [← hq14]; simp)
            clear hq14
            try simp only [Act.put, List.setIfInBounds_toArray, List.set_cons_zero, List.set_cons_succ]
            refine wpAny_ready (rs := [8, 12]) (by kernel_rfl) (by simp) (AllReady.cons rfl (fun K hK => ?_) (AllReady.cons rfl (fun K hK => ?_) AllReady.nil))
            · refine ite_go (by kernel_rfl) ?_
              refine wp_append_own _ (.tmp 64) (.tmp 66) 23 rfl wy.heap.size 3 i0 (.int .i64 0) 1 8 Tryd.underlying23 hi hz0 hz1 hz2 rfl (by decide) (.slice (some ⟨wy.heap.size, 0, none⟩) 0 0) 0 (ints []) rfl Ho14.out ⟨bP, oT, none⟩ mT cT (ints T) rfl (by rw [ints_len, Nat.mul_one, HTl.out]) (At.news (HTa.out.below Hb14.out hbPy)) (ints_one _) (by unfold maxLen; omega) (by omega) Hb14.out.size ?_
              intro v15 wq15 ho15 hg15 hii15
              obtain ⟨g67, c67, rfl, _, _, _, _⟩ := own_some ho15 (fun e => by have := (hii15.1 e).1; cases this)
              have Hb15 := Lib.hid (Hb14.out.grown hg15 Hb14.out.size (fun r e => (Ho14.out.lt r e).1))
              have Ho15 := Lib.hid (show wq15.ownsRow wy.heap.size 3 1 (.slice (some ⟨g67, 0, none⟩) mT c67) mT (ints T) by simpa [ints] using ho15)
              refine hK _ _ ?_
              clear hK K ho15 hg15 hii15
              simp only [Nat.zero_add]
              try simp only [Act.put, List.setIfInBounds_toArray]
              refine wpAny_ready (rs := [12]) (by kernel_rfl) (by simp) (AllReady.cons rfl (fun K hK => ?_) AllReady.nil)
              go_simp
              refine hK _ _ ?_
              clear hK K
              generalize hq16 : wq15.alloc (.cells #[.int .i64 y] 3) = wq16
              have Hb16 := Lib.hid (show Below wy.heap.size wy wq16 by rw [← hq16]; exact Hb15.out.alloc Hb15.out.size _)
              have Hc16 := Lib.hid (show ∀ (j : Nat) (u : Value), ([.int .i64 y] : List Value)[j]? = some u → wq16.cell? ((⟨wq15.heap.size, 0, none⟩ : Addr).add j) = some u by rw [← hq16]; exact cell_one_new _ _ _)
              have Hsz16 := Lib.hid (show wq16.heap.size = wq15.heap.size + 1 by rw [← hq16]; simp)
              have Ho16 := Lib.hid (show wq16.ownsRow wy.heap.size 3 1 (.slice (some ⟨g67, 0, none⟩) mT c67) mT (ints T) by rw [← hq16]; exact Ho15.out.alloc _)
              clear hq16
              try simp only [Act.put, List.setIfInBounds_toArray, List.set_cons_zero, List.set_cons_succ]
              refine wpAny_ready (rs := [13]) (by kernel_rfl) (by simp) (AllReady.cons rfl (fun K hK => ?_) AllReady.nil)
              refine ite_go (by kernel_rfl) ?_
              refine wp_append_own _ (.tmp 67) (.tmp 71) 23 rfl wy.heap.size 3 i0 (.int .i64 0) 1 8 Tryd.underlying23 hi hz0 hz1 hz2 rfl (by decide) (.slice (some ⟨g67, 0, none⟩) mT c67) mT (ints T) rfl Ho16.out ⟨wq15.heap.size, 0, none⟩ 1 1 [.int .i64 y] rfl rfl Hc16.out (ints_oneCell _ [y]) (by unfold maxLen; omega) (by omega) Hb16.out.size ?_
              intro v17 wq17 ho17 hg17 _
              obtain ⟨g72, c72, rfl⟩ := Joins.ownsRow_form ho17 (by omega)
              have Hb17 := Lib.hid (Hb16.out.grown hg17 Hb16.out.size (fun r e => (Ho16.out.lt r e).1))
              have Ho17 := Lib.hid (show wq17.ownsRow wy.heap.size 3 1 (.slice (some ⟨g72, 0, none⟩) m c72) m (ints (rot ps)) by rw [HTr.out, ← hTm]; simpa [ints] using ho17)
              refine hK _ _ ?_
              clear hK K ho17 hg17
              try simp only [Act.put, List.setIfInBounds_toArray]
              have kc := Lib.hid (impl_CircleOk (some ⟨g, 0, none⟩) (some ⟨g72, 0, none⟩) n c m c72 xs (rot ps) wq17 (X_4.out.below Hb17.out) (Sl.of_own Ho17.out) (by omega))
              rw [Hrot.out] at kc
              refine wpAny_ready (rs := [14]) (by kernel_rfl) (by simp) (AllReady.cons rfl (fun K hK => ?_) AllReady.nil)
              go_simp
              go_wp2_with (first
                | (go_at_call 8; (refine ((kc.out).mono ?_)); rintro ee wz ⟨rfl, hbz⟩)
                | fail)
              refine wpAny_take (oi := ⟨some 74, _, _, _, _, _⟩) (i := 15) (v := .bool true) rfl (by kernel_rfl) (by kernel_rfl) (by kernel_rfl) (fun _ _ _ h => h) (Or.inl ⟨by kernel_rfl, fun w => by go_simp⟩) ?_
              try simp only [Act.put, List.setIfInBounds_toArray, List.set_cons_zero, List.set_cons_succ]
              refine wpAny_take (oi := ⟨some 2, _, _, _, _, _⟩) (i := 16) (v := .bool true) rfl (by kernel_rfl) (by kernel_rfl) (by kernel_rfl) (fun _ _ _ h => h) (Or.inl ⟨by kernel_rfl, fun w => by go_simp⟩) ?_
              try simp only [Act.put, List.setIfInBounds_toArray, List.set_cons_zero, List.set_cons_succ]
              refine wpAny_done (by kernel_rfl) ?_ _
              have Hfin := Lib.hid (HbW.out.trans ((Hb17.out.trans (hbz.mono Hb17.out.size)).mono hsy))
              clear hbz
              go_wp2_with fail
              go_ret
              exact ⟨rfl, Hfin.out⟩
            · go_simp
              refine hK _ _ ?_
              clear hK K
              generalize hq18 : wq14.alloc (.cells #[.int .i64 y] 3) = wq18
              have Hb18 := Lib.hid (show Below wy.heap.size wy wq18 by rw [← hq18]; exact Hb14.out.alloc Hb14.out.size _)
              have Hc18 := Lib.hid (show ∀ (j : Nat) (u : Value), ([.int .i64 y] : List Value)[j]? = some u → wq18.cell? ((⟨wq14.heap.size, 0, none⟩ : Addr).add j) = some u by rw [← hq18]; exact cell_one_new _ _ _)
              have Hsz18 := Lib.hid (show wq18.heap.size = wq14.heap.size + 1 by rw [← hq18]; simp)
              have Ho18 := Lib.hid (show wq18.ownsRow wy.heap.size 3 1 (.slice (some ⟨wy.heap.size, 0, none⟩) 0 0) 0 (ints []) by rw [← hq18]; exact Ho14.out.alloc _)
              clear hq18
              try simp only [Act.put, List.setIfInBounds_toArray, List.set_cons_zero, List.set_cons_succ]
              refine wpAny_ready (rs := [8]) (by kernel_rfl) (by simp) (AllReady.cons rfl (fun K hK => ?_) AllReady.nil)
              refine ite_go (by kernel_rfl) ?_
              refine wp_append_own _ (.tmp 64) (.tmp 66) 23 rfl wy.heap.size 3 i0 (.int .i64 0) 1 8 Tryd.underlying23 hi hz0 hz1 hz2 rfl (by decide) (.slice (some ⟨wy.heap.size, 0, none⟩) 0 0) 0 (ints []) rfl Ho18.out ⟨bP, oT, none⟩ mT cT (ints T) rfl (by rw [ints_len, Nat.mul_one, HTl.out]) (At.news (HTa.out.below Hb18.out hbPy)) (ints_one _) (by unfold maxLen; omega) (by omega) Hb18.out.size ?_
              intro v19 wq19 ho19 hg19 hii19
              obtain ⟨g67, c67, rfl, _, _, _, _⟩ := own_some ho19 (fun e => by have := (hii19.1 e).1; cases this)
              have Hb19 := Lib.hid (Hb18.out.grown hg19 Hb18.out.size (fun r e => (Ho18.out.lt r e).1))
              have Ho19 := Lib.hid (show wq19.ownsRow wy.heap.size 3 1 (.slice (some ⟨g67, 0, none⟩) mT c67) mT (ints T) by simpa [ints] using ho19)
              have Hc19 := Lib.hid (show ∀ (j : Nat) (u : Value), ([.int .i64 y] : List Value)[j]? = some u → wq19.cell? ((⟨wq14.heap.size, 0, none⟩ : Addr).add j) = some u from fun j u hj => hg19.cell (Hc18.out j u hj) (fun e => by have e2 : wq14.heap.size = wy.heap.size := (by simpa [Value.ownBlock, Addr.add_lit] using e); have := Hsz14.out; have := Hsz18.out; omega))
              refine hK _ _ ?_
              clear hK K ho19 hg19 hii19
              simp only [Nat.zero_add]
              try simp only [Act.put, List.setIfInBounds_toArray]
              refine wpAny_ready (rs := [13]) (by kernel_rfl) (by simp) (AllReady.cons rfl (fun K hK => ?_) AllReady.nil)
              refine ite_go (by kernel_rfl) ?_
              refine wp_append_own _ (.tmp 67) (.tmp 71) 23 rfl wy.heap.size 3 i0 (.int .i64 0) 1 8 Tryd.underlying23 hi hz0 hz1 hz2 rfl (by decide) (.slice (some ⟨g67, 0, none⟩) mT c67) mT (ints T) rfl Ho19.out ⟨wq14.heap.size, 0, none⟩ 1 1 [.int .i64 y] rfl rfl Hc19.out (ints_oneCell _ [y]) (by unfold maxLen; omega) (by omega) Hb19.out.size ?_
              intro v20 wq20 ho20 hg20 _
              obtain ⟨g72, c72, rfl⟩ := Joins.ownsRow_form ho20 (by omega)
              have Hb20 := Lib.hid (Hb19.out.grown hg20 Hb19.out.size (fun r e => (Ho19.out.lt r e).1))
              have Ho20 := Lib.hid (show wq20.ownsRow wy.heap.size 3 1 (.slice (some ⟨g72, 0, none⟩) m c72) m (ints (rot ps)) by rw [HTr.out, ← hTm]; simpa [ints] using ho20)
              refine hK _ _ ?_
              clear hK K ho20 hg20
              try simp only [Act.put]
              have kc := Lib.hid (impl_CircleOk (some ⟨g, 0, none⟩) (some ⟨g72, 0, none⟩) n c m c72 xs (rot ps) wq20 (X_4.out.below Hb20.out) (Sl.of_own Ho20.out) (by omega))
              rw [Hrot.out] at kc
              refine wpAny_ready (rs := [14]) (by kernel_rfl) (by simp) (AllReady.cons rfl (fun K hK => ?_) AllReady.nil)
              go_simp
              go_wp2_with (first
                | (go_at_call 8; (refine ((kc.out).mono ?_)); rintro ee wz ⟨rfl, hbz⟩)
                | fail)
              refine wpAny_take (oi := ⟨some 74, _, _, _, _, _⟩) (i := 15) (v := .bool true) rfl (by kernel_rfl) (by kernel_rfl) (by kernel_rfl) (fun _ _ _ h => h) (Or.inl ⟨by kernel_rfl, fun w => by go_simp⟩) ?_
              try simp only [Act.put, List.setIfInBounds_toArray, List.set_cons_zero, List.set_cons_succ]
              refine wpAny_take (oi := ⟨some 2, _, _, _, _, _⟩) (i := 16) (v := .bool true) rfl (by kernel_rfl) (by kernel_rfl) (by kernel_rfl) (fun _ _ _ h => h) (Or.inl ⟨by kernel_rfl, fun w => by go_simp⟩) ?_
              try simp only [Act.put, List.setIfInBounds_toArray, List.set_cons_zero, List.set_cons_succ]
              refine wpAny_done (by kernel_rfl) ?_ _
              have Hfin := Lib.hid (HbW.out.trans ((Hb20.out.trans (hbz.mono Hb20.out.size)).mono hsy))
              clear hbz
              go_wp2_with fail
              go_ret
              exact ⟨rfl, Hfin.out⟩
          · go_simp
            refine hK _ _ ?_
            clear hK K
            generalize hq21 : wy.alloc (.cells #[.int .i64 y] 3) = wq21
            have Hb21 := Lib.hid (show Below wy.heap.size wy wq21 by rw [← hq21]; exact HbY.out.alloc HbY.out.size _)
            have Hc21 := Lib.hid (show ∀ (j : Nat) (u : Value), ([.int .i64 y] : List Value)[j]? = some u → wq21.cell? ((⟨wy.heap.size, 0, none⟩ : Addr).add j) = some u by rw [← hq21]; exact cell_one_new _ _ _)
            have Hsz21 := Lib.hid (show wq21.heap.size = wy.heap.size + 1 by rw [← hq21]; simp)
            clear hq21
            try simp only [Act.put, List.setIfInBounds_toArray, List.set_cons_zero, List.set_cons_succ]
            refine wpAny_ready (rs := [5]) (by kernel_rfl) (by simp) (AllReady.cons rfl (fun K hK => ?_) AllReady.nil)
            go_simp
            refine hK _ _ ?_
            clear hK K
            generalize hq22 : wq21.alloc (.cells #[] 3) = wq22
            have Hb22 := Lib.hid (show Below wy.heap.size wy wq22 by rw [← hq22]; exact Hb21.out.alloc Hb21.out.size _)
            have Ho22 := Lib.hid (show wq22.ownsRow wy.heap.size 3 1 (.slice (some ⟨wq21.heap.size, 0, none⟩) 0 0) 0 (ints []) by rw [← hq22]; exact Joins.ownsRow_le (World.ownsRow_lit wq21 #[] 0 (Nat.le_refl _) (by simp [maxLen]) rfl) Hb21.out.size)
            have Hsz22 := Lib.hid (show wq22.heap.size = wq21.heap.size + 1 by rw [← hq22]; simp)
            have Hc22 := Lib.hid (show ∀ (j : Nat) (u : Value), ([.int .i64 y] : List Value)[j]? = some u → wq22.cell? ((⟨wy.heap.size, 0, none⟩ : Addr).add j) = some u from fun j u hj => by rw [← hq22]; exact (World.grownBy_alloc wq21 _ none).cell (Hc21.out j u hj) (fun e => by cases e))
            clear hq22
            try simp only [Act.put, List.setIfInBounds_toArray, List.set_cons_zero, List.set_cons_succ]
            refine wpAny_ready (rs := [8]) (by kernel_rfl) (by simp) (AllReady.cons rfl (fun K hK => ?_) AllReady.nil)
            refine ite_go (by kernel_rfl) ?_
            refine wp_append_own _ (.tmp 64) (.tmp 66) 23 rfl wy.heap.size 3 i0 (.int .i64 0) 1 8 Tryd.underlying23 hi hz0 hz1 hz2 rfl (by decide) (.slice (some ⟨wq21.heap.size, 0, none⟩) 0 0) 0 (ints []) rfl Ho22.out ⟨bP, oT, none⟩ mT cT (ints T) rfl (by rw [ints_len, Nat.mul_one, HTl.out]) (At.news (HTa.out.below Hb22.out hbPy)) (ints_one _) (by unfold maxLen; omega) (by omega) Hb22.out.size ?_
            intro v23 wq23 ho23 hg23 hii23
            obtain ⟨g67, c67, rfl, _, _, _, _⟩ := own_some ho23 (fun e => by have := (hii23.1 e).1; cases this)
            have Hb23 := Lib.hid (Hb22.out.grown hg23 Hb22.out.size (fun r e => (Ho22.out.lt r e).1))
            have Ho23 := Lib.hid (show wq23.ownsRow wy.heap.size 3 1 (.slice (some ⟨g67, 0, none⟩) mT c67) mT (ints T) by simpa [ints] using ho23)
            have Hc23 := Lib.hid (show ∀ (j : Nat) (u : Value), ([.int .i64 y] : List Value)[j]? = some u → wq23.cell? ((⟨wy.heap.size, 0, none⟩ : Addr).add j) = some u from fun j u hj => hg23.cell (Hc22.out j u hj) (fun e => by have e2 : wy.heap.size = wq21.heap.size := (by simpa [Value.ownBlock, Addr.add_lit] using e); have := Hsz21.out; have := Hsz22.out; omega))
            refine hK _ _ ?_
            clear hK K ho23 hg23 hii23
            simp only [Nat.zero_add]
            try simp only [Act.put, List.setIfInBounds_toArray]
            refine wpAny_ready (rs := [13]) (by kernel_rfl) (by simp) (AllReady.cons rfl (fun K hK => ?_) AllReady.nil)
            refine ite_go (by kernel_rfl) ?_
            refine wp_append_own _ (.tmp 67) (.tmp 71) 23 rfl wy.heap.size 3 i0 (.int .i64 0) 1 8 Tryd.underlying23 hi hz0 hz1 hz2 rfl (by decide) (.slice (some ⟨g67, 0, none⟩) mT c67) mT (ints T) rfl Ho23.out ⟨wy.heap.size, 0, none⟩ 1 1 [.int .i64 y] rfl rfl Hc23.out (ints_oneCell _ [y]) (by unfold maxLen; omega) (by omega) Hb23.out.size ?_
            intro v24 wq24 ho24 hg24 _
            obtain ⟨g72, c72, rfl⟩ := Joins.ownsRow_form ho24 (by omega)
            have Hb24 := Lib.hid (Hb23.out.grown hg24 Hb23.out.size (fun r e => (Ho23.out.lt r e).1))
            have Ho24 := Lib.hid (show wq24.ownsRow wy.heap.size 3 1 (.slice (some ⟨g72, 0, none⟩) m c72) m (ints (rot ps)) by rw [HTr.out, ← hTm]; simpa [ints] using ho24)
            refine hK _ _ ?_
            clear hK K ho24 hg24
            try simp only [Act.put]
            have kc := Lib.hid (impl_CircleOk (some ⟨g, 0, none⟩) (some ⟨g72, 0, none⟩) n c m c72 xs (rot ps) wq24 (X_4.out.below Hb24.out) (Sl.of_own Ho24.out) (by omega))
            rw [Hrot.out] at kc
            refine wpAny_ready (rs := [14]) (by kernel_rfl) (by simp) (AllReady.cons rfl (fun K hK => ?_) AllReady.nil)
            go_simp
            go_wp2_with (first
              | (go_at_call 8; (refine ((kc.out).mono ?_)); rintro ee wz ⟨rfl, hbz⟩)
              | fail)
            refine wpAny_take (oi := ⟨some 74, _, _, _, _, _⟩) (i := 15) (v := .bool true) rfl (by kernel_rfl) (by kernel_rfl) (by kernel_rfl) (fun _ _ _ h => h) (Or.inl ⟨by kernel_rfl, fun w => by go_simp⟩) ?_
            try simp only [Act.put, List.setIfInBounds_toArray, List.set_cons_zero, List.set_cons_succ]
            refine wpAny_take (oi := ⟨some 2, _, _, _, _, _⟩) (i := 16) (v := .bool true) rfl (by kernel_rfl) (by kernel_rfl) (by kernel_rfl) (fun _ _ _ h => h) (Or.inl ⟨by kernel_rfl, fun w => by go_simp⟩) ?_
            try simp only [Act.put, List.setIfInBounds_toArray, List.set_cons_zero, List.set_cons_succ]
            refine wpAny_done (by kernel_rfl) ?_ _
            have Hfin := Lib.hid (HbW.out.trans ((Hb24.out.trans (hbz.mono Hb24.out.size)).mono hsy))
            clear hbz
            go_wp2_with fail
            go_ret
            exact ⟨rfl, Hfin.out⟩

end Go.Proofs.YtagdeifalkenhaaDoor
