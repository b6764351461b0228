/- RelPairs by the model. -/
import Derived.Test.YtagdeifalkenhaaDoorRelPJ
import Derived.Test.YtagdeifalkenhaaDoorRelE
namespace Go.Proofs.YtagdeifalkenhaaDoor
set_option maxRecDepth 100000
open Go.RowKit

set_option maxHeartbeats 8000000 in
theorem spec_RelPairs (a0 : Option Addr) (n0 c0 : Nat) (x0 : List Int) (a1 : Option Addr) (n1 c1 : Nat) (x1 : List Int) (w : World) (h0 : Sl w a0 n0 c0 x0) (h1 : Sl w a1 n1 c1 x1) :
    Calls Tryd.prog 21 #[.slice a0 n0 c0, .slice a1 n1 c1] w (RkPost w (prs x0 x1)) := by
  obtain ⟨i0, hi, hz0, hz1, hz2⟩ := info_parts info_int
  obtain ⟨W, hW⟩ : ∃ W, W = w.alloc (.cells #[] 3) := ⟨_, rfl⟩
  have hbW : Below w.heap.size w W := by rw [hW]; exact (Below.refl _ _).alloc (Nat.le_refl _) _
  have hoW : W.ownsRow w.heap.size 3 1 (.slice (some ⟨w.heap.size, 0, none⟩) 0 0) 0 (ints []) := by rw [hW]; exact World.ownsRow_lit w #[] 0 (Nat.le_refl _) (by simp [maxLen]) rfl
  have k0 := Lib.hid (spec_RelValid a0 n0 c0 x0 W (h0.below hbW))
  have k1 := Lib.hid (fun wx (hx : Below w.heap.size w wx) => spec_RelValid a1 n1 c1 x1 wx (h1.below hx))
  have HbW := Lib.hid hbW
  have HoW := Lib.hid hoW
  have HWe := Lib.hid hW.symm
  have hws := hbW.size
  have HL0 := Lib.hid h0.1
  have HL1 := Lib.hid h1.1
  have H0 := Lib.hid h0
  have H1 := Lib.hid h1
  obtain ⟨r, hr⟩ : ∃ r, r = prs x0 x1 := ⟨_, rfl⟩
  have HNo : Hid (¬ (relB x0 = true ∧ relB x1 = true ∧ x0.length * x1.length ≤ 12) → r = []) := fun h9 => hr.trans (if_neg h9)
  have HYes : Hid (relB x0 = true ∧ relB x1 = true ∧ x0.length * x1.length ≤ 12 → r = prp x0 x1 (n0 * n1)) := fun h9 => by rw [hr, prs, if_pos h9, h0.1, h1.1]
  rw [← hr]
  clear h0 h1 hr hbW hoW hW
  have HFin : Hid (r = [] → ∀ wx, Below W.heap.size W wx → RkPost w r (.returned (.slice (some ⟨w.heap.size, 0, none⟩) 0 0)) wx) := fun e wx hx => by
    subst e
    exact ⟨_, 0, rfl, ownsRow_below' HoW.out hx, HbW.out.trans (hx.mono hws)⟩
  rcases rel_tf x0 with e0 | e0
  · rw [e0] at k0
    have hR0 := relB_true.1 e0
    have hn0 := hR0.1
    rw [HL0.out] at hn0
    rcases rel_tf x1 with e1 | e1
    · rw [e1] at k1
      have hR1 := relB_true.1 e1
      have hn1 := hR1.1
      rw [HL1.out] at hn1
      have hmul : n0 * n1 ≤ 144 := Nat.mul_le_mul hn0.2 hn1.2
      have hwm : IntKind.i64.wrap ((n0 : Int) * (n1 : Int)) = ((n0 * n1 : Nat) : Int) := by rw [← Int.natCast_mul]; exact wrap_nat _ (by omega)
      by_cases hN : n0 * n1 ≤ 12
      · have hrr := HYes.out ⟨e0, e1, by rw [HL0.out, HL1.out]; exact hN⟩
        have HRr := Lib.hid hrr
        have HN := Lib.hid hN
        have HR0 := Lib.hid hR0
        have HR1 := Lib.hid hR1
        obtain ⟨N, hNN⟩ : ∃ N, N = n0 * n1 := ⟨_, rfl⟩
        have HNN := Lib.hid hNN
        rw [← hNN] at hwm hN
        obtain ⟨b0, o0, rfl, hat0⟩ := H0.out.2.2.2 (by omega)
        have hb0 : b0 < w.heap.size := hat0.lt (by intro h9; have := HL0.out; rw [h9] at this; simp at this; omega)
        obtain ⟨b1, o1, rfl, hat1⟩ := H1.out.2.2.2 (by omega)
        have hb1 : b1 < w.heap.size := hat1.lt (by intro h9; have := HL1.out; rw [h9] at this; simp at this; omega)
        have HA0 := Lib.hid hat0
        have HA1 := Lib.hid hat1
        clear e0 e1 hR0 hR1 hrr hat0 hat1 hNN hmul
        go_enter Tryd.func21, Tryd.ntmps21
        go_wp2_with fail
        rw [HWe.out]
        refine (k0.out).mono ?_
        rintro ee w1 ⟨rfl, hd1⟩
        have HW1 := Lib.hid (HbW.out.trans (hd1.mono hws))
        have HO1 := Lib.hid (ownsRow_below' HoW.out hd1)
        clear hd1
        have k2 := Lib.hid (k1.out w1 HW1.out)
        go_wp2_with fail
        refine (k2.out).mono ?_
        rintro ee w2 ⟨rfl, hd2⟩
        have HW2 := Lib.hid (HW1.out.trans (hd2.mono HW1.out.size))
        have hst : PrRel w x0 x1 0 (.slice (some ⟨w.heap.size, 0, none⟩) 0 0) w2 := ⟨_, 0, rfl, ownsRow_below' HO1.out hd2, HW2.out⟩
        have Hst := Lib.hid hst
        clear hd2 hst
        go_wp2_with fail
        try simp only [hwm]
        go_wp2_with fail
        go_loopw [5, 8] (fun v5 v8 wr => ∃ p : Nat, p ≤ N ∧ v8 = .int .i64 p ∧ PrRel w x0 x1 p v5 wr) (fun _ v8 _ => N - (intOf v8).toNat)
        case atStart => exact ⟨0, Nat.zero_le _, rfl, Hst.out⟩
        case round =>
          obtain ⟨p, hp, rfl, hP⟩ := hrel
          by_cases hlt : p < N
          · obtain ⟨a5, c5, rfl, ho, hbel⟩ := hP
            obtain ⟨wA, rfl⟩ : ∃ wA : World, wA = wr := ⟨_, rfl⟩
            have HO := Lib.hid ho
            have HB := Lib.hid hbel
            have hwA := hbel.size
            have hpi : p / n1 < n0 := (Nat.div_lt_iff_lt_mul hn1.1).2 (by have := HNN.out; omega)
            have hpk : p % n1 < n1 := Nat.mod_lt p hn1.1
            have y0 := cr_row HA0.out HR0.out rfl HL0.out hpi hbel hb0
            have y1 := cr_row HA1.out HR1.out rfl HL1.out hpk hbel hb1
            have hsn := prp_snoc x0 x1 p
            rw [HL1.out] at hsn
            have hRl : pr x0 x1 n1 (p / n1) (p % n1) < 2 ^ N := by
              have h8 := pr_lt HR0.out HR1.out (p % n1) (by rw [HL0.out]; exact hpi)
              rw [HL0.out, HL1.out, ← HNN.out] at h8
              exact h8
            have hRb : ∀ q, (pr x0 x1 n1 (p / n1) (p % n1)).testBit q = ((rw' x0 (p / n1)).testBit (q / n1) || (decide (p / n1 = q / n1) && (rw' x1 (p % n1)).testBit (q % n1))) := fun q => by
              have h8 := pr_bit HR0.out HR1.out (p % n1) (show p / n1 < x0.length by rw [HL0.out]; exact hpi) q
              rw [HL1.out] at h8
              exact h8
            have hqd : (p : Int).tdiv (n1 : Int) = ((p / n1 : Nat) : Int) := by rw [Int.tdiv_eq_ediv_of_nonneg (by omega)]; simp
            have hqm : (p : Int).tmod (n1 : Int) = ((p % n1 : Nat) : Int) := by rw [Int.tmod_eq_emod_of_nonneg (by omega)]; simp
            obtain ⟨R, hR⟩ : ∃ R, R = pr x0 x1 n1 (p / n1) (p % n1) := ⟨_, rfl⟩
            obtain ⟨A, hA⟩ : ∃ A, A = rw' x0 (p / n1) := ⟨_, rfl⟩
            obtain ⟨B, hB⟩ : ∃ B, B = rw' x1 (p % n1) := ⟨_, rfl⟩
            rw [← hR] at hsn hRl hRb
            rw [← hA] at y0 hRb
            rw [← hB] at y1 hRb
            obtain ⟨pi, hpid⟩ : ∃ pi, pi = p / n1 := ⟨_, rfl⟩
            obtain ⟨pk, hpkd⟩ : ∃ pk, pk = p % n1 := ⟨_, rfl⟩
            rw [← hpid] at y0 hRb hqd hpi
            rw [← hpkd] at y1 hqm hpk
            have HRb := Lib.hid hRb
            have HRl := Lib.hid hRl
            have Hsn := Lib.hid hsn
            have HY0 := Lib.hid y0
            have HY1 := Lib.hid y1
            clear hR hA hB hRb hRl hsn hpid hpkd ho hbel y0 y1
            go_wp2_with fail
            go_loopw [9, 10] (fun v9 v10 wr => ∃ q m9 : Nat, q ≤ N ∧ v10 = .int .i64 q ∧ v9 = .int .i64 m9 ∧ Hid (m9 = R % 2 ^ q) ∧ Below wA.heap.size wA wr) (fun _ v10 _ => N - (intOf v10).toNat)
            case atStart => exact ⟨0, 0, Nat.zero_le _, rfl, rfl, Lib.hid (by simp [Nat.mod_one]), Below.refl _ _⟩
            case round =>
              obtain ⟨q, m9, hq, rfl, rfl, Hm, hbq⟩ := hrel
              obtain ⟨wB, rfl⟩ : ∃ wB : World, wB = wr := ⟨_, rfl⟩
              have HBq := Lib.hid hbq
              have Hm0 : m9 < 4096 := by
                have h8 := Nat.mod_le R (2 ^ q)
                have h9 := Nat.lt_of_lt_of_le HRl.out (two_le hN)
                have := Hm.out; omega
              by_cases hql : q < N
              · have y0 : wB.cell? ⟨b0, o0 + pi, none⟩ = some (.int .i64 (A : Int)) := by
                  have := hbq.cell (p := ⟨b0, o0 + pi, none⟩) (show b0 < wA.heap.size by omega); rw [this]; exact HY0.out
                have y1 : wB.cell? ⟨b1, o1 + pk, none⟩ = some (.int .i64 (B : Int)) := by
                  have := hbq.cell (p := ⟨b1, o1 + pk, none⟩) (show b1 < wA.heap.size by omega); rw [this]; exact HY1.out
                have hqi : q / n1 < n0 := (Nat.div_lt_iff_lt_mul hn1.1).2 (by have := HNN.out; omega)
                have hqk : q % n1 < n1 := Nat.mod_lt q hn1.1
                have hsd : (q : Int).tdiv (n1 : Int) = ((q / n1 : Nat) : Int) := by rw [Int.tdiv_eq_ediv_of_nonneg (by omega)]; simp
                have hsm : (q : Int).tmod (n1 : Int) = ((q % n1 : Nat) : Int) := by rw [Int.tmod_eq_emod_of_nonneg (by omega)]; simp
                have hbit := HRb.out q
                have hnx := mod_next R q
                rw [← Hm.out] at hnx
                obtain ⟨qi, hqid⟩ : ∃ qi, qi = q / n1 := ⟨_, rfl⟩
                obtain ⟨qk, hqkd⟩ : ∃ qk, qk = q % n1 := ⟨_, rfl⟩
                rw [← hqid] at hbit hsd hqi
                rw [← hqkd] at hbit hsm hqk
                have hn10 : ¬ n1 = 0 := by omega
                have hwpi : IntKind.i64.wrap (pi : Int) = (pi : Int) := wrap_nat _ (by omega)
                have hwpk : IntKind.i64.wrap (pk : Int) = (pk : Int) := wrap_nat _ (by omega)
                have hwqi : IntKind.i64.wrap (qi : Int) = (qi : Int) := wrap_nat _ (by omega)
                have hwqk : IntKind.i64.wrap (qk : Int) = (qk : Int) := wrap_nat _ (by omega)
                have hj7 := wrap_pow q (by omega)
                have hj8 := wrap_pow' q (by omega)
                have hj9 : 2 ^ q ≤ 4096 := two_le (by omega)
                obtain ⟨u, hu⟩ : ∃ u, u = 2 ^ q := ⟨_, rfl⟩
                rw [← hu] at hnx hj7 hj8 hj9
                have Hbit := Lib.hid hbit
                have Hnx := Lib.hid hnx
                clear hbit hnx hqid hqkd hu hbq
                rcases bit_tf A qi with hA | hA
                · have ka := Lib.hid (bitI_k1 hA (fun wx => l7Bit_any A qi (by omega) wx))
                  have Hv := Lib.hid (show m9 + u = R % 2 ^ (q + 1) by rw [Hnx.out, Hbit.out, hA]; simp)
                  clear hA
                  go_wp2_with fail
                  -- REGION A
                  refine wp_region_any (by kernel_rfl) ?_
                  try (change wpAny _ _ _ _ _ _ _ (World.drew _))
                  have y0d : wB.drew.cell? ⟨b0, o0 + pi, none⟩ = some (.int .i64 (A : Int)) := y0
                  have y1d : wB.drew.cell? ⟨b1, o1 + pk, none⟩ = some (.int .i64 (B : Int)) := y1
                  refine wpAny_take (oi := ⟨some 45, _, _, _, _, _⟩) (i := 0) (v := .slice (some ⟨b0, o0, none⟩) n0 c0) rfl (by kernel_rfl) (by kernel_rfl) (by kernel_rfl) (fun _ _ _ h => h) (Or.inl ⟨by kernel_rfl, fun w => by go_simp⟩) ?_
                  simp only [Act.put, List.setIfInBounds_toArray, List.set_cons_zero, List.set_cons_succ]
                  refine wpAny_take (oi := ⟨some 46, _, _, _, _, _⟩) (i := 1) (v := .int .i64 (p : Int)) rfl (by kernel_rfl) (by kernel_rfl) (by kernel_rfl) (fun _ _ _ h => h) (Or.inl ⟨by kernel_rfl, fun w => by go_simp⟩) ?_
                  simp only [Act.put, List.setIfInBounds_toArray, List.set_cons_zero, List.set_cons_succ]
                  refine wpAny_take (oi := ⟨some 47, _, _, _, _, _⟩) (i := 2) (v := .int .i64 (n1 : Int)) rfl (by kernel_rfl) (by kernel_rfl) (by kernel_rfl) (fun _ _ _ h => h) (Or.inl ⟨by kernel_rfl, fun w => by go_simp⟩) ?_
                  simp only [Act.put, List.setIfInBounds_toArray, List.set_cons_zero, List.set_cons_succ]
                  refine wpAny_take (oi := ⟨some 48, _, _, _, _, _⟩) (i := 3) (v := .int .i64 (pi : Int)) rfl (by kernel_rfl) (by kernel_rfl) (by kernel_rfl) (fun _ _ _ h => h) (Or.inl ⟨by kernel_rfl, fun w => by (go_simp; try (rw [if_neg hn10]; try rw [hwpi]))⟩) ?_
                  simp only [Act.put, List.setIfInBounds_toArray, List.set_cons_zero, List.set_cons_succ]
                  refine wpAny_take (oi := ⟨some 49, _, _, _, _, _⟩) (i := 4) (v := .pointer (some ⟨b0, o0 + pi, none⟩)) rfl (by kernel_rfl) (by kernel_rfl) (by kernel_rfl) (fun _ _ _ h => h) (Or.inl ⟨by kernel_rfl, fun w => by (go_simp; try omega)⟩) ?_
                  simp only [Act.put, List.setIfInBounds_toArray, List.set_cons_zero, List.set_cons_succ]
                  refine wpAny_take (oi := ⟨some 51, _, _, _, _, _⟩) (i := 6) (v := .int .i64 (q : Int)) rfl (by kernel_rfl) (by kernel_rfl) (by kernel_rfl) (fun _ _ _ h => h) (Or.inl ⟨by kernel_rfl, fun w => by go_simp⟩) ?_
                  simp only [Act.put, List.setIfInBounds_toArray, List.set_cons_zero, List.set_cons_succ]
                  refine wpAny_take (oi := ⟨some 52, _, _, _, _, _⟩) (i := 7) (v := .int .i64 (n1 : Int)) rfl (by kernel_rfl) (by kernel_rfl) (by kernel_rfl) (fun _ _ _ h => h) (Or.inl ⟨by kernel_rfl, fun w => by go_simp⟩) ?_
                  simp only [Act.put, List.setIfInBounds_toArray, List.set_cons_zero, List.set_cons_succ]
                  refine wpAny_take (oi := ⟨some 53, _, _, _, _, _⟩) (i := 8) (v := .int .i64 (qi : Int)) rfl (by kernel_rfl) (by kernel_rfl) (by kernel_rfl) (fun _ _ _ h => h) (Or.inl ⟨by kernel_rfl, fun w => by (go_simp; try (rw [if_neg hn10]; try rw [hwqi]))⟩) ?_
                  simp only [Act.put, List.setIfInBounds_toArray, List.set_cons_zero, List.set_cons_succ]
                  refine wpAny_ready (rs := [5]) (by kernel_rfl) (by simp) (AllReady.cons rfl (fun K hK => ?_) AllReady.nil)
                  go_simp
                  refine hK _ _ ?_
                  clear hK K
                  refine wpAny_ready (rs := [9]) (by kernel_rfl) (by simp) (AllReady.cons rfl (fun K hK => ?_) AllReady.nil)
                  go_simp
                  go_wp2_with (first
                    | (go_at_call 34; (refine (ka.out _).mono ?_); rintro ee wx ⟨rfl, rfl⟩)
                    | fail)
                  refine wpAny_take (oi := ⟨some 55, _, _, _, _, _⟩) (i := 10) (v := .bool true) rfl (by kernel_rfl) (by kernel_rfl) (by kernel_rfl) (fun _ _ _ h => h) (Or.inl ⟨by kernel_rfl, fun w => by go_simp⟩) ?_
                  simp only [Act.put, List.setIfInBounds_toArray, List.set_cons_zero, List.set_cons_succ]
                  refine wpAny_take (oi := ⟨some 56, _, _, _, _, _⟩) (i := 11) (v := .bool true) rfl (by kernel_rfl) (by kernel_rfl) (by kernel_rfl) (fun _ _ _ h => h) (Or.inl ⟨by kernel_rfl, fun w => by go_simp⟩) ?_
                  simp only [Act.put, List.setIfInBounds_toArray, List.set_cons_zero, List.set_cons_succ]
                  refine wpAny_take (oi := ⟨some 57, _, _, _, _, _⟩) (i := 12) (v := undef) rfl (by kernel_rfl) (by kernel_rfl) (by kernel_rfl) (fun _ _ _ h => h) (Or.inr ⟨by kernel_rfl, rfl⟩) ?_
                  simp only [Act.put, List.setIfInBounds_toArray, List.set_cons_zero, List.set_cons_succ]
                  refine wpAny_take (oi := ⟨some 58, _, _, _, _, _⟩) (i := 13) (v := undef) rfl (by kernel_rfl) (by kernel_rfl) (by kernel_rfl) (fun _ _ _ h => h) (Or.inr ⟨by kernel_rfl, rfl⟩) ?_
                  simp only [Act.put, List.setIfInBounds_toArray, List.set_cons_zero, List.set_cons_succ]
                  refine wpAny_take (oi := ⟨some 59, _, _, _, _, _⟩) (i := 14) (v := undef) rfl (by kernel_rfl) (by kernel_rfl) (by kernel_rfl) (fun _ _ _ h => h) (Or.inr ⟨by kernel_rfl, rfl⟩) ?_
                  simp only [Act.put, List.setIfInBounds_toArray, List.set_cons_zero, List.set_cons_succ]
                  refine wpAny_take (oi := ⟨some 60, _, _, _, _, _⟩) (i := 15) (v := undef) rfl (by kernel_rfl) (by kernel_rfl) (by kernel_rfl) (fun _ _ _ h => h) (Or.inr ⟨by kernel_rfl, rfl⟩) ?_
                  simp only [Act.put, List.setIfInBounds_toArray, List.set_cons_zero, List.set_cons_succ]
                  refine wpAny_take (oi := ⟨some 61, _, _, _, _, _⟩) (i := 16) (v := undef) rfl (by kernel_rfl) (by kernel_rfl) (by kernel_rfl) (fun _ _ _ h => h) (Or.inr ⟨by kernel_rfl, rfl⟩) ?_
                  simp only [Act.put, List.setIfInBounds_toArray, List.set_cons_zero, List.set_cons_succ]
                  refine wpAny_take (oi := ⟨some 62, _, _, _, _, _⟩) (i := 17) (v := undef) rfl (by kernel_rfl) (by kernel_rfl) (by kernel_rfl) (fun _ _ _ h => h) (Or.inr ⟨by kernel_rfl, rfl⟩) ?_
                  simp only [Act.put, List.setIfInBounds_toArray, List.set_cons_zero, List.set_cons_succ]
                  refine wpAny_take (oi := ⟨some 63, _, _, _, _, _⟩) (i := 18) (v := undef) rfl (by kernel_rfl) (by kernel_rfl) (by kernel_rfl) (fun _ _ _ h => h) (Or.inr ⟨by kernel_rfl, rfl⟩) ?_
                  simp only [Act.put, List.setIfInBounds_toArray, List.set_cons_zero, List.set_cons_succ]
                  refine wpAny_take (oi := ⟨some 64, _, _, _, _, _⟩) (i := 19) (v := undef) rfl (by kernel_rfl) (by kernel_rfl) (by kernel_rfl) (fun _ _ _ h => h) (Or.inr ⟨by kernel_rfl, rfl⟩) ?_
                  simp only [Act.put, List.setIfInBounds_toArray, List.set_cons_zero, List.set_cons_succ]
                  refine wpAny_take (oi := ⟨some 65, _, _, _, _, _⟩) (i := 20) (v := undef) rfl (by kernel_rfl) (by kernel_rfl) (by kernel_rfl) (fun _ _ _ h => h) (Or.inr ⟨by kernel_rfl, rfl⟩) ?_
                  simp only [Act.put, List.setIfInBounds_toArray, List.set_cons_zero, List.set_cons_succ]
                  refine wpAny_take (oi := ⟨some 66, _, _, _, _, _⟩) (i := 21) (v := undef) rfl (by kernel_rfl) (by kernel_rfl) (by kernel_rfl) (fun _ _ _ h => h) (Or.inr ⟨by kernel_rfl, rfl⟩) ?_
                  simp only [Act.put, List.setIfInBounds_toArray, List.set_cons_zero, List.set_cons_succ]
                  refine wpAny_take (oi := ⟨some 67, _, _, _, _, _⟩) (i := 22) (v := undef) rfl (by kernel_rfl) (by kernel_rfl) (by kernel_rfl) (fun _ _ _ h => h) (Or.inr ⟨by kernel_rfl, rfl⟩) ?_
                  simp only [Act.put, List.setIfInBounds_toArray, List.set_cons_zero, List.set_cons_succ]
                  refine wpAny_take (oi := ⟨some 68, _, _, _, _, _⟩) (i := 23) (v := undef) rfl (by kernel_rfl) (by kernel_rfl) (by kernel_rfl) (fun _ _ _ h => h) (Or.inr ⟨by kernel_rfl, rfl⟩) ?_
                  simp only [Act.put, List.setIfInBounds_toArray, List.set_cons_zero, List.set_cons_succ]
                  refine wpAny_take (oi := ⟨some 69, _, _, _, _, _⟩) (i := 24) (v := undef) rfl (by kernel_rfl) (by kernel_rfl) (by kernel_rfl) (fun _ _ _ h => h) (Or.inr ⟨by kernel_rfl, rfl⟩) ?_
                  simp only [Act.put, List.setIfInBounds_toArray, List.set_cons_zero, List.set_cons_succ]
                  refine wpAny_take (oi := ⟨some 70, _, _, _, _, _⟩) (i := 25) (v := undef) rfl (by kernel_rfl) (by kernel_rfl) (by kernel_rfl) (fun _ _ _ h => h) (Or.inr ⟨by kernel_rfl, rfl⟩) ?_
                  simp only [Act.put, List.setIfInBounds_toArray, List.set_cons_zero, List.set_cons_succ]
                  refine wpAny_take (oi := ⟨some 71, _, _, _, _, _⟩) (i := 26) (v := undef) rfl (by kernel_rfl) (by kernel_rfl) (by kernel_rfl) (fun _ _ _ h => h) (Or.inr ⟨by kernel_rfl, rfl⟩) ?_
                  simp only [Act.put, List.setIfInBounds_toArray, List.set_cons_zero, List.set_cons_succ]
                  refine wpAny_take (oi := ⟨some 72, _, _, _, _, _⟩) (i := 27) (v := undef) rfl (by kernel_rfl) (by kernel_rfl) (by kernel_rfl) (fun _ _ _ h => h) (Or.inr ⟨by kernel_rfl, rfl⟩) ?_
                  simp only [Act.put, List.setIfInBounds_toArray, List.set_cons_zero, List.set_cons_succ]
                  refine wpAny_take (oi := ⟨some 73, _, _, _, _, _⟩) (i := 28) (v := undef) rfl (by kernel_rfl) (by kernel_rfl) (by kernel_rfl) (fun _ _ _ h => h) (Or.inr ⟨by kernel_rfl, rfl⟩) ?_
                  simp only [Act.put, List.setIfInBounds_toArray, List.set_cons_zero, List.set_cons_succ]
                  refine wpAny_take (oi := ⟨some 74, _, _, _, _, _⟩) (i := 29) (v := undef) rfl (by kernel_rfl) (by kernel_rfl) (by kernel_rfl) (fun _ _ _ h => h) (Or.inr ⟨by kernel_rfl, rfl⟩) ?_
                  simp only [Act.put, List.setIfInBounds_toArray, List.set_cons_zero, List.set_cons_succ]
                  refine wpAny_take (oi := ⟨some 75, _, _, _, _, _⟩) (i := 30) (v := undef) rfl (by kernel_rfl) (by kernel_rfl) (by kernel_rfl) (fun _ _ _ h => h) (Or.inr ⟨by kernel_rfl, rfl⟩) ?_
                  simp only [Act.put, List.setIfInBounds_toArray, List.set_cons_zero, List.set_cons_succ]
                  refine wpAny_take (oi := ⟨some 76, _, _, _, _, _⟩) (i := 31) (v := undef) rfl (by kernel_rfl) (by kernel_rfl) (by kernel_rfl) (fun _ _ _ h => h) (Or.inr ⟨by kernel_rfl, rfl⟩) ?_
                  simp only [Act.put, List.setIfInBounds_toArray, List.set_cons_zero, List.set_cons_succ]
                  refine wpAny_take (oi := ⟨some 77, _, _, _, _, _⟩) (i := 32) (v := .bool true) rfl (by kernel_rfl) (by kernel_rfl) (by kernel_rfl) (fun _ _ _ h => h) (Or.inl ⟨by kernel_rfl, fun w => by go_simp⟩) ?_
                  simp only [Act.put, List.setIfInBounds_toArray, List.set_cons_zero, List.set_cons_succ]
                  refine wpAny_done (by kernel_rfl) ?_ _
                  -- END REGION
                  clear hn10 hwpi hwpk hwqi hwqk hqd hqm hsd hsm y0d y1d y0 y1 hwm
                  go_wp2_with fail
                  try simp only [hj7, hj8]
                  go_roundw
                  case rel => exact ⟨q + 1, m9 + u, by omega, by go_num, by rw [sum_wrap Hm0 hj9], Hv.out, HBq.out.drew⟩
                  case measure => exact idx_measure hql
                · have ka := Lib.hid (bitI_k0 hA (fun wx => l7Bit_any A qi (by omega) wx))
                  by_cases he : pi = qi
                  · rcases bit_tf B qk with hB | hB
                    · have kb := Lib.hid (bitI_k1 hB (fun wx => l7Bit_any B qk (by omega) wx))
                      have Hv := Lib.hid (show m9 + u = R % 2 ^ (q + 1) by rw [Hnx.out, Hbit.out, hA, hB]; simp [he])
                      obtain rfl : pi = qi := he
                      clear hA hB
                      go_wp2_with fail
                      -- REGION B1
                      refine wp_region_any (by kernel_rfl) ?_
                      try (change wpAny _ _ _ _ _ _ _ (World.drew _))
                      have y0d : wB.drew.cell? ⟨b0, o0 + pi, none⟩ = some (.int .i64 (A : Int)) := y0
                      have y1d : wB.drew.cell? ⟨b1, o1 + pk, none⟩ = some (.int .i64 (B : Int)) := y1
                      refine wpAny_take (oi := ⟨some 45, _, _, _, _, _⟩) (i := 0) (v := .slice (some ⟨b0, o0, none⟩) n0 c0) rfl (by kernel_rfl) (by kernel_rfl) (by kernel_rfl) (fun _ _ _ h => h) (Or.inl ⟨by kernel_rfl, fun w => by go_simp⟩) ?_
                      simp only [Act.put, List.setIfInBounds_toArray, List.set_cons_zero, List.set_cons_succ]
                      refine wpAny_take (oi := ⟨some 46, _, _, _, _, _⟩) (i := 1) (v := .int .i64 (p : Int)) rfl (by kernel_rfl) (by kernel_rfl) (by kernel_rfl) (fun _ _ _ h => h) (Or.inl ⟨by kernel_rfl, fun w => by go_simp⟩) ?_
                      simp only [Act.put, List.setIfInBounds_toArray, List.set_cons_zero, List.set_cons_succ]
                      refine wpAny_take (oi := ⟨some 47, _, _, _, _, _⟩) (i := 2) (v := .int .i64 (n1 : Int)) rfl (by kernel_rfl) (by kernel_rfl) (by kernel_rfl) (fun _ _ _ h => h) (Or.inl ⟨by kernel_rfl, fun w => by go_simp⟩) ?_
                      simp only [Act.put, List.setIfInBounds_toArray, List.set_cons_zero, List.set_cons_succ]
                      refine wpAny_take (oi := ⟨some 48, _, _, _, _, _⟩) (i := 3) (v := .int .i64 (pi : Int)) rfl (by kernel_rfl) (by kernel_rfl) (by kernel_rfl) (fun _ _ _ h => h) (Or.inl ⟨by kernel_rfl, fun w => by (go_simp; try (rw [if_neg hn10]; try rw [hwpi]))⟩) ?_
                      simp only [Act.put, List.setIfInBounds_toArray, List.set_cons_zero, List.set_cons_succ]
                      refine wpAny_take (oi := ⟨some 49, _, _, _, _, _⟩) (i := 4) (v := .pointer (some ⟨b0, o0 + pi, none⟩)) rfl (by kernel_rfl) (by kernel_rfl) (by kernel_rfl) (fun _ _ _ h => h) (Or.inl ⟨by kernel_rfl, fun w => by (go_simp; try omega)⟩) ?_
                      simp only [Act.put, List.setIfInBounds_toArray, List.set_cons_zero, List.set_cons_succ]
                      refine wpAny_take (oi := ⟨some 51, _, _, _, _, _⟩) (i := 6) (v := .int .i64 (q : Int)) rfl (by kernel_rfl) (by kernel_rfl) (by kernel_rfl) (fun _ _ _ h => h) (Or.inl ⟨by kernel_rfl, fun w => by go_simp⟩) ?_
                      simp only [Act.put, List.setIfInBounds_toArray, List.set_cons_zero, List.set_cons_succ]
                      refine wpAny_take (oi := ⟨some 52, _, _, _, _, _⟩) (i := 7) (v := .int .i64 (n1 : Int)) rfl (by kernel_rfl) (by kernel_rfl) (by kernel_rfl) (fun _ _ _ h => h) (Or.inl ⟨by kernel_rfl, fun w => by go_simp⟩) ?_
                      simp only [Act.put, List.setIfInBounds_toArray, List.set_cons_zero, List.set_cons_succ]
                      refine wpAny_take (oi := ⟨some 53, _, _, _, _, _⟩) (i := 8) (v := .int .i64 (pi : Int)) rfl (by kernel_rfl) (by kernel_rfl) (by kernel_rfl) (fun _ _ _ h => h) (Or.inl ⟨by kernel_rfl, fun w => by (go_simp; try (rw [if_neg hn10]; try rw [hwqi]))⟩) ?_
                      simp only [Act.put, List.setIfInBounds_toArray, List.set_cons_zero, List.set_cons_succ]
                      refine wpAny_ready (rs := [5]) (by kernel_rfl) (by simp) (AllReady.cons rfl (fun K hK => ?_) AllReady.nil)
                      go_simp
                      refine hK _ _ ?_
                      clear hK K
                      refine wpAny_ready (rs := [9]) (by kernel_rfl) (by simp) (AllReady.cons rfl (fun K hK => ?_) AllReady.nil)
                      go_simp
                      go_wp2_with (first
                        | (go_at_call 34; (refine (ka.out _).mono ?_); rintro ee wx ⟨rfl, rfl⟩)
                        | fail)
                      refine wpAny_take (oi := ⟨some 55, _, _, _, _, _⟩) (i := 10) (v := .bool false) rfl (by kernel_rfl) (by kernel_rfl) (by kernel_rfl) (fun _ _ _ h => h) (Or.inl ⟨by kernel_rfl, fun w => by go_simp⟩) ?_
                      simp only [Act.put, List.setIfInBounds_toArray, List.set_cons_zero, List.set_cons_succ]
                      refine wpAny_take (oi := ⟨some 56, _, _, _, _, _⟩) (i := 11) (v := .bool false) rfl (by kernel_rfl) (by kernel_rfl) (by kernel_rfl) (fun _ _ _ h => h) (Or.inl ⟨by kernel_rfl, fun w => by go_simp⟩) ?_
                      simp only [Act.put, List.setIfInBounds_toArray, List.set_cons_zero, List.set_cons_succ]
                      refine wpAny_take (oi := ⟨some 57, _, _, _, _, _⟩) (i := 12) (v := .int .i64 (p : Int)) rfl (by kernel_rfl) (by kernel_rfl) (by kernel_rfl) (fun _ _ _ h => h) (Or.inl ⟨by kernel_rfl, fun w => by go_simp⟩) ?_
                      simp only [Act.put, List.setIfInBounds_toArray, List.set_cons_zero, List.set_cons_succ]
                      refine wpAny_take (oi := ⟨some 58, _, _, _, _, _⟩) (i := 13) (v := .int .i64 (n1 : Int)) rfl (by kernel_rfl) (by kernel_rfl) (by kernel_rfl) (fun _ _ _ h => h) (Or.inl ⟨by kernel_rfl, fun w => by go_simp⟩) ?_
                      simp only [Act.put, List.setIfInBounds_toArray, List.set_cons_zero, List.set_cons_succ]
                      refine wpAny_take (oi := ⟨some 59, _, _, _, _, _⟩) (i := 14) (v := .int .i64 (pi : Int)) rfl (by kernel_rfl) (by kernel_rfl) (by kernel_rfl) (fun _ _ _ h => h) (Or.inl ⟨by kernel_rfl, fun w => by (go_simp; try (rw [if_neg hn10]; try rw [hwpi]))⟩) ?_
                      simp only [Act.put, List.setIfInBounds_toArray, List.set_cons_zero, List.set_cons_succ]
                      refine wpAny_take (oi := ⟨some 60, _, _, _, _, _⟩) (i := 15) (v := .int .i64 (q : Int)) rfl (by kernel_rfl) (by kernel_rfl) (by kernel_rfl) (fun _ _ _ h => h) (Or.inl ⟨by kernel_rfl, fun w => by go_simp⟩) ?_
                      simp only [Act.put, List.setIfInBounds_toArray, List.set_cons_zero, List.set_cons_succ]
                      refine wpAny_take (oi := ⟨some 61, _, _, _, _, _⟩) (i := 16) (v := .int .i64 (n1 : Int)) rfl (by kernel_rfl) (by kernel_rfl) (by kernel_rfl) (fun _ _ _ h => h) (Or.inl ⟨by kernel_rfl, fun w => by go_simp⟩) ?_
                      simp only [Act.put, List.setIfInBounds_toArray, List.set_cons_zero, List.set_cons_succ]
                      refine wpAny_take (oi := ⟨some 62, _, _, _, _, _⟩) (i := 17) (v := .int .i64 (pi : Int)) rfl (by kernel_rfl) (by kernel_rfl) (by kernel_rfl) (fun _ _ _ h => h) (Or.inl ⟨by kernel_rfl, fun w => by (go_simp; try (rw [if_neg hn10]; try rw [hwqi]))⟩) ?_
                      simp only [Act.put, List.setIfInBounds_toArray, List.set_cons_zero, List.set_cons_succ]
                      refine wpAny_take (oi := ⟨some 63, _, _, _, _, _⟩) (i := 18) (v := .bool true) rfl (by kernel_rfl) (by kernel_rfl) (by kernel_rfl) (fun _ _ _ h => h) (Or.inl ⟨by kernel_rfl, fun w => by (go_simp; try simp)⟩) ?_
                      simp only [Act.put, List.setIfInBounds_toArray, List.set_cons_zero, List.set_cons_succ]
                      refine wpAny_take (oi := ⟨some 64, _, _, _, _, _⟩) (i := 19) (v := .bool true) rfl (by kernel_rfl) (by kernel_rfl) (by kernel_rfl) (fun _ _ _ h => h) (Or.inl ⟨by kernel_rfl, fun w => by go_simp⟩) ?_
                      simp only [Act.put, List.setIfInBounds_toArray, List.set_cons_zero, List.set_cons_succ]
                      refine wpAny_take (oi := ⟨some 65, _, _, _, _, _⟩) (i := 20) (v := .slice (some ⟨b1, o1, none⟩) n1 c1) rfl (by kernel_rfl) (by kernel_rfl) (by kernel_rfl) (fun _ _ _ h => h) (Or.inl ⟨by kernel_rfl, fun w => by go_simp⟩) ?_
                      simp only [Act.put, List.setIfInBounds_toArray, List.set_cons_zero, List.set_cons_succ]
                      refine wpAny_take (oi := ⟨some 66, _, _, _, _, _⟩) (i := 21) (v := .int .i64 (p : Int)) rfl (by kernel_rfl) (by kernel_rfl) (by kernel_rfl) (fun _ _ _ h => h) (Or.inl ⟨by kernel_rfl, fun w => by go_simp⟩) ?_
                      simp only [Act.put, List.setIfInBounds_toArray, List.set_cons_zero, List.set_cons_succ]
                      refine wpAny_take (oi := ⟨some 67, _, _, _, _, _⟩) (i := 22) (v := .int .i64 (n1 : Int)) rfl (by kernel_rfl) (by kernel_rfl) (by kernel_rfl) (fun _ _ _ h => h) (Or.inl ⟨by kernel_rfl, fun w => by go_simp⟩) ?_
                      simp only [Act.put, List.setIfInBounds_toArray, List.set_cons_zero, List.set_cons_succ]
                      refine wpAny_take (oi := ⟨some 68, _, _, _, _, _⟩) (i := 23) (v := .int .i64 (pk : Int)) rfl (by kernel_rfl) (by kernel_rfl) (by kernel_rfl) (fun _ _ _ h => h) (Or.inl ⟨by kernel_rfl, fun w => by (go_simp; try (rw [if_neg hn10]; try rw [hwpk]))⟩) ?_
                      simp only [Act.put, List.setIfInBounds_toArray, List.set_cons_zero, List.set_cons_succ]
                      refine wpAny_take (oi := ⟨some 69, _, _, _, _, _⟩) (i := 24) (v := .pointer (some ⟨b1, o1 + pk, none⟩)) rfl (by kernel_rfl) (by kernel_rfl) (by kernel_rfl) (fun _ _ _ h => h) (Or.inl ⟨by kernel_rfl, fun w => by (go_simp; try omega)⟩) ?_
                      simp only [Act.put, List.setIfInBounds_toArray, List.set_cons_zero, List.set_cons_succ]
                      refine wpAny_take (oi := ⟨some 71, _, _, _, _, _⟩) (i := 26) (v := .int .i64 (q : Int)) rfl (by kernel_rfl) (by kernel_rfl) (by kernel_rfl) (fun _ _ _ h => h) (Or.inl ⟨by kernel_rfl, fun w => by go_simp⟩) ?_
                      simp only [Act.put, List.setIfInBounds_toArray, List.set_cons_zero, List.set_cons_succ]
                      refine wpAny_take (oi := ⟨some 72, _, _, _, _, _⟩) (i := 27) (v := .int .i64 (n1 : Int)) rfl (by kernel_rfl) (by kernel_rfl) (by kernel_rfl) (fun _ _ _ h => h) (Or.inl ⟨by kernel_rfl, fun w => by go_simp⟩) ?_
                      simp only [Act.put, List.setIfInBounds_toArray, List.set_cons_zero, List.set_cons_succ]
                      refine wpAny_take (oi := ⟨some 73, _, _, _, _, _⟩) (i := 28) (v := .int .i64 (qk : Int)) rfl (by kernel_rfl) (by kernel_rfl) (by kernel_rfl) (fun _ _ _ h => h) (Or.inl ⟨by kernel_rfl, fun w => by (go_simp; try (rw [if_neg hn10]; try rw [hwqk]))⟩) ?_
                      simp only [Act.put, List.setIfInBounds_toArray, List.set_cons_zero, List.set_cons_succ]
                      refine wpAny_ready (rs := [25]) (by kernel_rfl) (by simp) (AllReady.cons rfl (fun K hK => ?_) AllReady.nil)
                      go_simp
                      refine hK _ _ ?_
                      clear hK K
                      refine wpAny_ready (rs := [29]) (by kernel_rfl) (by simp) (AllReady.cons rfl (fun K hK => ?_) AllReady.nil)
                      go_simp
                      go_wp2_with (first
                        | (go_at_call 34; (refine (kb.out _).mono ?_); rintro ee wx ⟨rfl, rfl⟩)
                        | fail)
                      refine wpAny_take (oi := ⟨some 75, _, _, _, _, _⟩) (i := 30) (v := .bool true) rfl (by kernel_rfl) (by kernel_rfl) (by kernel_rfl) (fun _ _ _ h => h) (Or.inl ⟨by kernel_rfl, fun w => by go_simp⟩) ?_
                      simp only [Act.put, List.setIfInBounds_toArray, List.set_cons_zero, List.set_cons_succ]
                      refine wpAny_take (oi := ⟨some 76, _, _, _, _, _⟩) (i := 31) (v := .bool true) rfl (by kernel_rfl) (by kernel_rfl) (by kernel_rfl) (fun _ _ _ h => h) (Or.inl ⟨by kernel_rfl, fun w => by go_simp⟩) ?_
                      simp only [Act.put, List.setIfInBounds_toArray, List.set_cons_zero, List.set_cons_succ]
                      refine wpAny_take (oi := ⟨some 77, _, _, _, _, _⟩) (i := 32) (v := .bool true) rfl (by kernel_rfl) (by kernel_rfl) (by kernel_rfl) (fun _ _ _ h => h) (Or.inl ⟨by kernel_rfl, fun w => by go_simp⟩) ?_
                      simp only [Act.put, List.setIfInBounds_toArray, List.set_cons_zero, List.set_cons_succ]
                      refine wpAny_done (by kernel_rfl) ?_ _
                      -- END REGION
                      clear hn10 hwpi hwpk hwqi hwqk hqd hqm hsd hsm y0d y1d y0 y1 hwm
                      go_wp2_with fail
                      try simp only [hj7, hj8]
                      go_roundw
                      case rel => exact ⟨q + 1, m9 + u, by omega, by go_num, by rw [sum_wrap Hm0 hj9], Hv.out, HBq.out.drew⟩
                      case measure => exact idx_measure hql
                    · have kb := Lib.hid (bitI_k0 hB (fun wx => l7Bit_any B qk (by omega) wx))
                      have Hv := Lib.hid (show m9 = R % 2 ^ (q + 1) by rw [Hnx.out, Hbit.out, hA, hB]; simp)
                      obtain rfl : pi = qi := he
                      clear hA hB
                      go_wp2_with fail
                      -- REGION B0
                      refine wp_region_any (by kernel_rfl) ?_
                      try (change wpAny _ _ _ _ _ _ _ (World.drew _))
                      have y0d : wB.drew.cell? ⟨b0, o0 + pi, none⟩ = some (.int .i64 (A : Int)) := y0
                      have y1d : wB.drew.cell? ⟨b1, o1 + pk, none⟩ = some (.int .i64 (B : Int)) := y1
                      refine wpAny_take (oi := ⟨some 45, _, _, _, _, _⟩) (i := 0) (v := .slice (some ⟨b0, o0, none⟩) n0 c0) rfl (by kernel_rfl) (by kernel_rfl) (by kernel_rfl) (fun _ _ _ h => h) (Or.inl ⟨by kernel_rfl, fun w => by go_simp⟩) ?_
                      simp only [Act.put, List.setIfInBounds_toArray, List.set_cons_zero, List.set_cons_succ]
                      refine wpAny_take (oi := ⟨some 46, _, _, _, _, _⟩) (i := 1) (v := .int .i64 (p : Int)) rfl (by kernel_rfl) (by kernel_rfl) (by kernel_rfl) (fun _ _ _ h => h) (Or.inl ⟨by kernel_rfl, fun w => by go_simp⟩) ?_
                      simp only [Act.put, List.setIfInBounds_toArray, List.set_cons_zero, List.set_cons_succ]
                      refine wpAny_take (oi := ⟨some 47, _, _, _, _, _⟩) (i := 2) (v := .int .i64 (n1 : Int)) rfl (by kernel_rfl) (by kernel_rfl) (by kernel_rfl) (fun _ _ _ h => h) (Or.inl ⟨by kernel_rfl, fun w => by go_simp⟩) ?_
                      simp only [Act.put, List.setIfInBounds_toArray, List.set_cons_zero, List.set_cons_succ]
                      refine wpAny_take (oi := ⟨some 48, _, _, _, _, _⟩) (i := 3) (v := .int .i64 (pi : Int)) rfl (by kernel_rfl) (by kernel_rfl) (by kernel_rfl) (fun _ _ _ h => h) (Or.inl ⟨by kernel_rfl, fun w => by (go_simp; try (rw [if_neg hn10]; try rw [hwpi]))⟩) ?_
                      simp only [Act.put, List.setIfInBounds_toArray, List.set_cons_zero, List.set_cons_succ]
                      refine wpAny_take (oi := ⟨some 49, _, _, _, _, _⟩) (i := 4) (v := .pointer (some ⟨b0, o0 + pi, none⟩)) rfl (by kernel_rfl) (by kernel_rfl) (by kernel_rfl) (fun _ _ _ h => h) (Or.inl ⟨by kernel_rfl, fun w => by (go_simp; try omega)⟩) ?_
                      simp only [Act.put, List.setIfInBounds_toArray, List.set_cons_zero, List.set_cons_succ]
                      refine wpAny_take (oi := ⟨some 51, _, _, _, _, _⟩) (i := 6) (v := .int .i64 (q : Int)) rfl (by kernel_rfl) (by kernel_rfl) (by kernel_rfl) (fun _ _ _ h => h) (Or.inl ⟨by kernel_rfl, fun w => by go_simp⟩) ?_
                      simp only [Act.put, List.setIfInBounds_toArray, List.set_cons_zero, List.set_cons_succ]
                      refine wpAny_take (oi := ⟨some 52, _, _, _, _, _⟩) (i := 7) (v := .int .i64 (n1 : Int)) rfl (by kernel_rfl) (by kernel_rfl) (by kernel_rfl) (fun _ _ _ h => h) (Or.inl ⟨by kernel_rfl, fun w => by go_simp⟩) ?_
                      simp only [Act.put, List.setIfInBounds_toArray, List.set_cons_zero, List.set_cons_succ]
                      refine wpAny_take (oi := ⟨some 53, _, _, _, _, _⟩) (i := 8) (v := .int .i64 (pi : Int)) rfl (by kernel_rfl) (by kernel_rfl) (by kernel_rfl) (fun _ _ _ h => h) (Or.inl ⟨by kernel_rfl, fun w => by (go_simp; try (rw [if_neg hn10]; try rw [hwqi]))⟩) ?_
                      simp only [Act.put, List.setIfInBounds_toArray, List.set_cons_zero, List.set_cons_succ]
                      refine wpAny_ready (rs := [5]) (by kernel_rfl) (by simp) (AllReady.cons rfl (fun K hK => ?_) AllReady.nil)
                      go_simp
                      refine hK _ _ ?_
                      clear hK K
                      refine wpAny_ready (rs := [9]) (by kernel_rfl) (by simp) (AllReady.cons rfl (fun K hK => ?_) AllReady.nil)
                      go_simp
                      go_wp2_with (first
                        | (go_at_call 34; (refine (ka.out _).mono ?_); rintro ee wx ⟨rfl, rfl⟩)
                        | fail)
                      refine wpAny_take (oi := ⟨some 55, _, _, _, _, _⟩) (i := 10) (v := .bool false) rfl (by kernel_rfl) (by kernel_rfl) (by kernel_rfl) (fun _ _ _ h => h) (Or.inl ⟨by kernel_rfl, fun w => by go_simp⟩) ?_
                      simp only [Act.put, List.setIfInBounds_toArray, List.set_cons_zero, List.set_cons_succ]
                      refine wpAny_take (oi := ⟨some 56, _, _, _, _, _⟩) (i := 11) (v := .bool false) rfl (by kernel_rfl) (by kernel_rfl) (by kernel_rfl) (fun _ _ _ h => h) (Or.inl ⟨by kernel_rfl, fun w => by go_simp⟩) ?_
                      simp only [Act.put, List.setIfInBounds_toArray, List.set_cons_zero, List.set_cons_succ]
                      refine wpAny_take (oi := ⟨some 57, _, _, _, _, _⟩) (i := 12) (v := .int .i64 (p : Int)) rfl (by kernel_rfl) (by kernel_rfl) (by kernel_rfl) (fun _ _ _ h => h) (Or.inl ⟨by kernel_rfl, fun w => by go_simp⟩) ?_
                      simp only [Act.put, List.setIfInBounds_toArray, List.set_cons_zero, List.set_cons_succ]
                      refine wpAny_take (oi := ⟨some 58, _, _, _, _, _⟩) (i := 13) (v := .int .i64 (n1 : Int)) rfl (by kernel_rfl) (by kernel_rfl) (by kernel_rfl) (fun _ _ _ h => h) (Or.inl ⟨by kernel_rfl, fun w => by go_simp⟩) ?_
                      simp only [Act.put, List.setIfInBounds_toArray, List.set_cons_zero, List.set_cons_succ]
                      refine wpAny_take (oi := ⟨some 59, _, _, _, _, _⟩) (i := 14) (v := .int .i64 (pi : Int)) rfl (by kernel_rfl) (by kernel_rfl) (by kernel_rfl) (fun _ _ _ h => h) (Or.inl ⟨by kernel_rfl, fun w => by (go_simp; try (rw [if_neg hn10]; try rw [hwpi]))⟩) ?_
                      simp only [Act.put, List.setIfInBounds_toArray, List.set_cons_zero, List.set_cons_succ]
                      refine wpAny_take (oi := ⟨some 60, _, _, _, _, _⟩) (i := 15) (v := .int .i64 (q : Int)) rfl (by kernel_rfl) (by kernel_rfl) (by kernel_rfl) (fun _ _ _ h => h) (Or.inl ⟨by kernel_rfl, fun w => by go_simp⟩) ?_
                      simp only [Act.put, List.setIfInBounds_toArray, List.set_cons_zero, List.set_cons_succ]
                      refine wpAny_take (oi := ⟨some 61, _, _, _, _, _⟩) (i := 16) (v := .int .i64 (n1 : Int)) rfl (by kernel_rfl) (by kernel_rfl) (by kernel_rfl) (fun _ _ _ h => h) (Or.inl ⟨by kernel_rfl, fun w => by go_simp⟩) ?_
                      simp only [Act.put, List.setIfInBounds_toArray, List.set_cons_zero, List.set_cons_succ]
                      refine wpAny_take (oi := ⟨some 62, _, _, _, _, _⟩) (i := 17) (v := .int .i64 (pi : Int)) rfl (by kernel_rfl) (by kernel_rfl) (by kernel_rfl) (fun _ _ _ h => h) (Or.inl ⟨by kernel_rfl, fun w => by (go_simp; try (rw [if_neg hn10]; try rw [hwqi]))⟩) ?_
                      simp only [Act.put, List.setIfInBounds_toArray, List.set_cons_zero, List.set_cons_succ]
                      refine wpAny_take (oi := ⟨some 63, _, _, _, _, _⟩) (i := 18) (v := .bool true) rfl (by kernel_rfl) (by kernel_rfl) (by kernel_rfl) (fun _ _ _ h => h) (Or.inl ⟨by kernel_rfl, fun w => by (go_simp; try simp)⟩) ?_
                      simp only [Act.put, List.setIfInBounds_toArray, List.set_cons_zero, List.set_cons_succ]
                      refine wpAny_take (oi := ⟨some 64, _, _, _, _, _⟩) (i := 19) (v := .bool true) rfl (by kernel_rfl) (by kernel_rfl) (by kernel_rfl) (fun _ _ _ h => h) (Or.inl ⟨by kernel_rfl, fun w => by go_simp⟩) ?_
                      simp only [Act.put, List.setIfInBounds_toArray, List.set_cons_zero, List.set_cons_succ]
                      refine wpAny_take (oi := ⟨some 65, _, _, _, _, _⟩) (i := 20) (v := .slice (some ⟨b1, o1, none⟩) n1 c1) rfl (by kernel_rfl) (by kernel_rfl) (by kernel_rfl) (fun _ _ _ h => h) (Or.inl ⟨by kernel_rfl, fun w => by go_simp⟩) ?_
                      simp only [Act.put, List.setIfInBounds_toArray, List.set_cons_zero, List.set_cons_succ]
                      refine wpAny_take (oi := ⟨some 66, _, _, _, _, _⟩) (i := 21) (v := .int .i64 (p : Int)) rfl (by kernel_rfl) (by kernel_rfl) (by kernel_rfl) (fun _ _ _ h => h) (Or.inl ⟨by kernel_rfl, fun w => by go_simp⟩) ?_
                      simp only [Act.put, List.setIfInBounds_toArray, List.set_cons_zero, List.set_cons_succ]
                      refine wpAny_take (oi := ⟨some 67, _, _, _, _, _⟩) (i := 22) (v := .int .i64 (n1 : Int)) rfl (by kernel_rfl) (by kernel_rfl) (by kernel_rfl) (fun _ _ _ h => h) (Or.inl ⟨by kernel_rfl, fun w => by go_simp⟩) ?_
                      simp only [Act.put, List.setIfInBounds_toArray, List.set_cons_zero, List.set_cons_succ]
                      refine wpAny_take (oi := ⟨some 68, _, _, _, _, _⟩) (i := 23) (v := .int .i64 (pk : Int)) rfl (by kernel_rfl) (by kernel_rfl) (by kernel_rfl) (fun _ _ _ h => h) (Or.inl ⟨by kernel_rfl, fun w => by (go_simp; try (rw [if_neg hn10]; try rw [hwpk]))⟩) ?_
                      simp only [Act.put, List.setIfInBounds_toArray, List.set_cons_zero, List.set_cons_succ]
                      refine wpAny_take (oi := ⟨some 69, _, _, _, _, _⟩) (i := 24) (v := .pointer (some ⟨b1, o1 + pk, none⟩)) rfl (by kernel_rfl) (by kernel_rfl) (by kernel_rfl) (fun _ _ _ h => h) (Or.inl ⟨by kernel_rfl, fun w => by (go_simp; try omega)⟩) ?_
                      simp only [Act.put, List.setIfInBounds_toArray, List.set_cons_zero, List.set_cons_succ]
                      refine wpAny_take (oi := ⟨some 71, _, _, _, _, _⟩) (i := 26) (v := .int .i64 (q : Int)) rfl (by kernel_rfl) (by kernel_rfl) (by kernel_rfl) (fun _ _ _ h => h) (Or.inl ⟨by kernel_rfl, fun w => by go_simp⟩) ?_
                      simp only [Act.put, List.setIfInBounds_toArray, List.set_cons_zero, List.set_cons_succ]
                      refine wpAny_take (oi := ⟨some 72, _, _, _, _, _⟩) (i := 27) (v := .int .i64 (n1 : Int)) rfl (by kernel_rfl) (by kernel_rfl) (by kernel_rfl) (fun _ _ _ h => h) (Or.inl ⟨by kernel_rfl, fun w => by go_simp⟩) ?_
                      simp only [Act.put, List.setIfInBounds_toArray, List.set_cons_zero, List.set_cons_succ]
                      refine wpAny_take (oi := ⟨some 73, _, _, _, _, _⟩) (i := 28) (v := .int .i64 (qk : Int)) rfl (by kernel_rfl) (by kernel_rfl) (by kernel_rfl) (fun _ _ _ h => h) (Or.inl ⟨by kernel_rfl, fun w => by (go_simp; try (rw [if_neg hn10]; try rw [hwqk]))⟩) ?_
                      simp only [Act.put, List.setIfInBounds_toArray, List.set_cons_zero, List.set_cons_succ]
                      refine wpAny_ready (rs := [25]) (by kernel_rfl) (by simp) (AllReady.cons rfl (fun K hK => ?_) AllReady.nil)
                      go_simp
                      refine hK _ _ ?_
                      clear hK K
                      refine wpAny_ready (rs := [29]) (by kernel_rfl) (by simp) (AllReady.cons rfl (fun K hK => ?_) AllReady.nil)
                      go_simp
                      go_wp2_with (first
                        | (go_at_call 34; (refine (kb.out _).mono ?_); rintro ee wx ⟨rfl, rfl⟩)
                        | fail)
                      refine wpAny_take (oi := ⟨some 75, _, _, _, _, _⟩) (i := 30) (v := .bool false) rfl (by kernel_rfl) (by kernel_rfl) (by kernel_rfl) (fun _ _ _ h => h) (Or.inl ⟨by kernel_rfl, fun w => by go_simp⟩) ?_
                      simp only [Act.put, List.setIfInBounds_toArray, List.set_cons_zero, List.set_cons_succ]
                      refine wpAny_take (oi := ⟨some 76, _, _, _, _, _⟩) (i := 31) (v := .bool false) rfl (by kernel_rfl) (by kernel_rfl) (by kernel_rfl) (fun _ _ _ h => h) (Or.inl ⟨by kernel_rfl, fun w => by go_simp⟩) ?_
                      simp only [Act.put, List.setIfInBounds_toArray, List.set_cons_zero, List.set_cons_succ]
                      refine wpAny_take (oi := ⟨some 77, _, _, _, _, _⟩) (i := 32) (v := .bool false) rfl (by kernel_rfl) (by kernel_rfl) (by kernel_rfl) (fun _ _ _ h => h) (Or.inl ⟨by kernel_rfl, fun w => by go_simp⟩) ?_
                      simp only [Act.put, List.setIfInBounds_toArray, List.set_cons_zero, List.set_cons_succ]
                      refine wpAny_done (by kernel_rfl) ?_ _
                      -- END REGION
                      go_wp2_with fail
                      go_roundw
                      case rel => exact ⟨q + 1, m9, by omega, by go_num, rfl, Hv.out, HBq.out.drew⟩
                      case measure => exact idx_measure hql
                  · have Hv := Lib.hid (show m9 = R % 2 ^ (q + 1) by rw [Hnx.out, Hbit.out, hA]; simp [he])
                    clear hA
                    go_wp2_with fail
                    -- REGION N
                    refine wp_region_any (by kernel_rfl) ?_
                    try (change wpAny _ _ _ _ _ _ _ (World.drew _))
                    have y0d : wB.drew.cell? ⟨b0, o0 + pi, none⟩ = some (.int .i64 (A : Int)) := y0
                    have y1d : wB.drew.cell? ⟨b1, o1 + pk, none⟩ = some (.int .i64 (B : Int)) := y1
                    refine wpAny_take (oi := ⟨some 45, _, _, _, _, _⟩) (i := 0) (v := .slice (some ⟨b0, o0, none⟩) n0 c0) rfl (by kernel_rfl) (by kernel_rfl) (by kernel_rfl) (fun _ _ _ h => h) (Or.inl ⟨by kernel_rfl, fun w => by go_simp⟩) ?_
                    simp only [Act.put, List.setIfInBounds_toArray, List.set_cons_zero, List.set_cons_succ]
                    refine wpAny_take (oi := ⟨some 46, _, _, _, _, _⟩) (i := 1) (v := .int .i64 (p : Int)) rfl (by kernel_rfl) (by kernel_rfl) (by kernel_rfl) (fun _ _ _ h => h) (Or.inl ⟨by kernel_rfl, fun w => by go_simp⟩) ?_
                    simp only [Act.put, List.setIfInBounds_toArray, List.set_cons_zero, List.set_cons_succ]
                    refine wpAny_take (oi := ⟨some 47, _, _, _, _, _⟩) (i := 2) (v := .int .i64 (n1 : Int)) rfl (by kernel_rfl) (by kernel_rfl) (by kernel_rfl) (fun _ _ _ h => h) (Or.inl ⟨by kernel_rfl, fun w => by go_simp⟩) ?_
                    simp only [Act.put, List.setIfInBounds_toArray, List.set_cons_zero, List.set_cons_succ]
                    refine wpAny_take (oi := ⟨some 48, _, _, _, _, _⟩) (i := 3) (v := .int .i64 (pi : Int)) rfl (by kernel_rfl) (by kernel_rfl) (by kernel_rfl) (fun _ _ _ h => h) (Or.inl ⟨by kernel_rfl, fun w => by (go_simp; try (rw [if_neg hn10]; try rw [hwpi]))⟩) ?_
                    simp only [Act.put, List.setIfInBounds_toArray, List.set_cons_zero, List.set_cons_succ]
                    refine wpAny_take (oi := ⟨some 49, _, _, _, _, _⟩) (i := 4) (v := .pointer (some ⟨b0, o0 + pi, none⟩)) rfl (by kernel_rfl) (by kernel_rfl) (by kernel_rfl) (fun _ _ _ h => h) (Or.inl ⟨by kernel_rfl, fun w => by (go_simp; try omega)⟩) ?_
                    simp only [Act.put, List.setIfInBounds_toArray, List.set_cons_zero, List.set_cons_succ]
                    refine wpAny_take (oi := ⟨some 51, _, _, _, _, _⟩) (i := 6) (v := .int .i64 (q : Int)) rfl (by kernel_rfl) (by kernel_rfl) (by kernel_rfl) (fun _ _ _ h => h) (Or.inl ⟨by kernel_rfl, fun w => by go_simp⟩) ?_
                    simp only [Act.put, List.setIfInBounds_toArray, List.set_cons_zero, List.set_cons_succ]
                    refine wpAny_take (oi := ⟨some 52, _, _, _, _, _⟩) (i := 7) (v := .int .i64 (n1 : Int)) rfl (by kernel_rfl) (by kernel_rfl) (by kernel_rfl) (fun _ _ _ h => h) (Or.inl ⟨by kernel_rfl, fun w => by go_simp⟩) ?_
                    simp only [Act.put, List.setIfInBounds_toArray, List.set_cons_zero, List.set_cons_succ]
                    refine wpAny_take (oi := ⟨some 53, _, _, _, _, _⟩) (i := 8) (v := .int .i64 (qi : Int)) rfl (by kernel_rfl) (by kernel_rfl) (by kernel_rfl) (fun _ _ _ h => h) (Or.inl ⟨by kernel_rfl, fun w => by (go_simp; try (rw [if_neg hn10]; try rw [hwqi]))⟩) ?_
                    simp only [Act.put, List.setIfInBounds_toArray, List.set_cons_zero, List.set_cons_succ]
                    refine wpAny_ready (rs := [5]) (by kernel_rfl) (by simp) (AllReady.cons rfl (fun K hK => ?_) AllReady.nil)
                    go_simp
                    refine hK _ _ ?_
                    clear hK K
                    refine wpAny_ready (rs := [9]) (by kernel_rfl) (by simp) (AllReady.cons rfl (fun K hK => ?_) AllReady.nil)
                    go_simp
                    go_wp2_with (first
                      | (go_at_call 34; (refine (ka.out _).mono ?_); rintro ee wx ⟨rfl, rfl⟩)
                      | fail)
                    refine wpAny_take (oi := ⟨some 55, _, _, _, _, _⟩) (i := 10) (v := .bool false) rfl (by kernel_rfl) (by kernel_rfl) (by kernel_rfl) (fun _ _ _ h => h) (Or.inl ⟨by kernel_rfl, fun w => by go_simp⟩) ?_
                    simp only [Act.put, List.setIfInBounds_toArray, List.set_cons_zero, List.set_cons_succ]
                    refine wpAny_take (oi := ⟨some 56, _, _, _, _, _⟩) (i := 11) (v := .bool false) rfl (by kernel_rfl) (by kernel_rfl) (by kernel_rfl) (fun _ _ _ h => h) (Or.inl ⟨by kernel_rfl, fun w => by go_simp⟩) ?_
                    simp only [Act.put, List.setIfInBounds_toArray, List.set_cons_zero, List.set_cons_succ]
                    refine wpAny_take (oi := ⟨some 57, _, _, _, _, _⟩) (i := 12) (v := .int .i64 (p : Int)) rfl (by kernel_rfl) (by kernel_rfl) (by kernel_rfl) (fun _ _ _ h => h) (Or.inl ⟨by kernel_rfl, fun w => by go_simp⟩) ?_
                    simp only [Act.put, List.setIfInBounds_toArray, List.set_cons_zero, List.set_cons_succ]
                    refine wpAny_take (oi := ⟨some 58, _, _, _, _, _⟩) (i := 13) (v := .int .i64 (n1 : Int)) rfl (by kernel_rfl) (by kernel_rfl) (by kernel_rfl) (fun _ _ _ h => h) (Or.inl ⟨by kernel_rfl, fun w => by go_simp⟩) ?_
                    simp only [Act.put, List.setIfInBounds_toArray, List.set_cons_zero, List.set_cons_succ]
                    refine wpAny_take (oi := ⟨some 59, _, _, _, _, _⟩) (i := 14) (v := .int .i64 (pi : Int)) rfl (by kernel_rfl) (by kernel_rfl) (by kernel_rfl) (fun _ _ _ h => h) (Or.inl ⟨by kernel_rfl, fun w => by (go_simp; try (rw [if_neg hn10]; try rw [hwpi]))⟩) ?_
                    simp only [Act.put, List.setIfInBounds_toArray, List.set_cons_zero, List.set_cons_succ]
                    refine wpAny_take (oi := ⟨some 60, _, _, _, _, _⟩) (i := 15) (v := .int .i64 (q : Int)) rfl (by kernel_rfl) (by kernel_rfl) (by kernel_rfl) (fun _ _ _ h => h) (Or.inl ⟨by kernel_rfl, fun w => by go_simp⟩) ?_
                    simp only [Act.put, List.setIfInBounds_toArray, List.set_cons_zero, List.set_cons_succ]
                    refine wpAny_take (oi := ⟨some 61, _, _, _, _, _⟩) (i := 16) (v := .int .i64 (n1 : Int)) rfl (by kernel_rfl) (by kernel_rfl) (by kernel_rfl) (fun _ _ _ h => h) (Or.inl ⟨by kernel_rfl, fun w => by go_simp⟩) ?_
                    simp only [Act.put, List.setIfInBounds_toArray, List.set_cons_zero, List.set_cons_succ]
                    refine wpAny_take (oi := ⟨some 62, _, _, _, _, _⟩) (i := 17) (v := .int .i64 (qi : Int)) rfl (by kernel_rfl) (by kernel_rfl) (by kernel_rfl) (fun _ _ _ h => h) (Or.inl ⟨by kernel_rfl, fun w => by (go_simp; try (rw [if_neg hn10]; try rw [hwqi]))⟩) ?_
                    simp only [Act.put, List.setIfInBounds_toArray, List.set_cons_zero, List.set_cons_succ]
                    refine wpAny_take (oi := ⟨some 63, _, _, _, _, _⟩) (i := 18) (v := .bool false) rfl (by kernel_rfl) (by kernel_rfl) (by kernel_rfl) (fun _ _ _ h => h) (Or.inl ⟨by kernel_rfl, fun w => by (go_simp; try omega)⟩) ?_
                    simp only [Act.put, List.setIfInBounds_toArray, List.set_cons_zero, List.set_cons_succ]
                    refine wpAny_take (oi := ⟨some 64, _, _, _, _, _⟩) (i := 19) (v := .bool false) rfl (by kernel_rfl) (by kernel_rfl) (by kernel_rfl) (fun _ _ _ h => h) (Or.inl ⟨by kernel_rfl, fun w => by go_simp⟩) ?_
                    simp only [Act.put, List.setIfInBounds_toArray, List.set_cons_zero, List.set_cons_succ]
                    refine wpAny_take (oi := ⟨some 65, _, _, _, _, _⟩) (i := 20) (v := undef) rfl (by kernel_rfl) (by kernel_rfl) (by kernel_rfl) (fun _ _ _ h => h) (Or.inr ⟨by kernel_rfl, rfl⟩) ?_
                    simp only [Act.put, List.setIfInBounds_toArray, List.set_cons_zero, List.set_cons_succ]
                    refine wpAny_take (oi := ⟨some 66, _, _, _, _, _⟩) (i := 21) (v := undef) rfl (by kernel_rfl) (by kernel_rfl) (by kernel_rfl) (fun _ _ _ h => h) (Or.inr ⟨by kernel_rfl, rfl⟩) ?_
                    simp only [Act.put, List.setIfInBounds_toArray, List.set_cons_zero, List.set_cons_succ]
                    refine wpAny_take (oi := ⟨some 67, _, _, _, _, _⟩) (i := 22) (v := undef) rfl (by kernel_rfl) (by kernel_rfl) (by kernel_rfl) (fun _ _ _ h => h) (Or.inr ⟨by kernel_rfl, rfl⟩) ?_
                    simp only [Act.put, List.setIfInBounds_toArray, List.set_cons_zero, List.set_cons_succ]
                    refine wpAny_take (oi := ⟨some 68, _, _, _, _, _⟩) (i := 23) (v := undef) rfl (by kernel_rfl) (by kernel_rfl) (by kernel_rfl) (fun _ _ _ h => h) (Or.inr ⟨by kernel_rfl, rfl⟩) ?_
                    simp only [Act.put, List.setIfInBounds_toArray, List.set_cons_zero, List.set_cons_succ]
                    refine wpAny_take (oi := ⟨some 69, _, _, _, _, _⟩) (i := 24) (v := undef) rfl (by kernel_rfl) (by kernel_rfl) (by kernel_rfl) (fun _ _ _ h => h) (Or.inr ⟨by kernel_rfl, rfl⟩) ?_
                    simp only [Act.put, List.setIfInBounds_toArray, List.set_cons_zero, List.set_cons_succ]
                    refine wpAny_take (oi := ⟨some 70, _, _, _, _, _⟩) (i := 25) (v := undef) rfl (by kernel_rfl) (by kernel_rfl) (by kernel_rfl) (fun _ _ _ h => h) (Or.inr ⟨by kernel_rfl, rfl⟩) ?_
                    simp only [Act.put, List.setIfInBounds_toArray, List.set_cons_zero, List.set_cons_succ]
                    refine wpAny_take (oi := ⟨some 71, _, _, _, _, _⟩) (i := 26) (v := undef) rfl (by kernel_rfl) (by kernel_rfl) (by kernel_rfl) (fun _ _ _ h => h) (Or.inr ⟨by kernel_rfl, rfl⟩) ?_
                    simp only [Act.put, List.setIfInBounds_toArray, List.set_cons_zero, List.set_cons_succ]
                    refine wpAny_take (oi := ⟨some 72, _, _, _, _, _⟩) (i := 27) (v := undef) rfl (by kernel_rfl) (by kernel_rfl) (by kernel_rfl) (fun _ _ _ h => h) (Or.inr ⟨by kernel_rfl, rfl⟩) ?_
                    simp only [Act.put, List.setIfInBounds_toArray, List.set_cons_zero, List.set_cons_succ]
                    refine wpAny_take (oi := ⟨some 73, _, _, _, _, _⟩) (i := 28) (v := undef) rfl (by kernel_rfl) (by kernel_rfl) (by kernel_rfl) (fun _ _ _ h => h) (Or.inr ⟨by kernel_rfl, rfl⟩) ?_
                    simp only [Act.put, List.setIfInBounds_toArray, List.set_cons_zero, List.set_cons_succ]
                    refine wpAny_take (oi := ⟨some 74, _, _, _, _, _⟩) (i := 29) (v := undef) rfl (by kernel_rfl) (by kernel_rfl) (by kernel_rfl) (fun _ _ _ h => h) (Or.inr ⟨by kernel_rfl, rfl⟩) ?_
                    simp only [Act.put, List.setIfInBounds_toArray, List.set_cons_zero, List.set_cons_succ]
                    refine wpAny_take (oi := ⟨some 75, _, _, _, _, _⟩) (i := 30) (v := undef) rfl (by kernel_rfl) (by kernel_rfl) (by kernel_rfl) (fun _ _ _ h => h) (Or.inr ⟨by kernel_rfl, rfl⟩) ?_
                    simp only [Act.put, List.setIfInBounds_toArray, List.set_cons_zero, List.set_cons_succ]
                    refine wpAny_take (oi := ⟨some 76, _, _, _, _, _⟩) (i := 31) (v := .bool false) rfl (by kernel_rfl) (by kernel_rfl) (by kernel_rfl) (fun _ _ _ h => h) (Or.inl ⟨by kernel_rfl, fun w => by go_simp⟩) ?_
                    simp only [Act.put, List.setIfInBounds_toArray, List.set_cons_zero, List.set_cons_succ]
                    refine wpAny_take (oi := ⟨some 77, _, _, _, _, _⟩) (i := 32) (v := .bool false) rfl (by kernel_rfl) (by kernel_rfl) (by kernel_rfl) (fun _ _ _ h => h) (Or.inl ⟨by kernel_rfl, fun w => by go_simp⟩) ?_
                    simp only [Act.put, List.setIfInBounds_toArray, List.set_cons_zero, List.set_cons_succ]
                    refine wpAny_done (by kernel_rfl) ?_ _
                    -- END REGION
                    go_wp2_with fail
                    go_roundw
                    case rel => exact ⟨q + 1, m9, by omega, by go_num, rfl, Hv.out, HBq.out.drew⟩
                    case measure => exact idx_measure hql
              · obtain rfl : q = N := by omega
                have hmR : m9 = R := by rw [Hm.out, Nat.mod_eq_of_lt HRl.out]
                subst hmR
                have HB2 := Lib.hid (HB.out.trans (HBq.out.mono hwA))
                have HO2 := Lib.hid (ownsRow_below' HO.out HBq.out)
                have hw2 := HB2.out.size
                clear hbq
                go_wp2_with (first
                  | (at_builtin; go_loud (refine wpList_append_own _ rfl (.tmp 82) (.tmp 84) 23 rfl w.heap.size 3 i0 (.int .i64 0) 1 8 Tryd.underlying23 hi hz0 hz1 hz2 rfl (by decide) _ p (ints (prp x0 x1 p)) (by rfl) (HO2.out.alloc _) ⟨wB.heap.size, 0, none⟩ 1 1 [.int .i64 m9] (by rfl) (by rfl) (cell_one_new _ _ _) (ints_oneCell _ [_]) (by unfold maxLen; omega) (by omega) (by simp; omega) ?_; intro v2' wC ho5 hg5 _; obtain ⟨g6, c6, rfl⟩ := Joins.ownsRow_form ho5 (by omega); have hbB : Below w.heap.size w wC := (HB2.out.alloc hw2 _).grown hg5 (by simp; omega) (fun r e => (HO2.out.lt r e).1))))
                have hfin : PrRel w x0 x1 (p + 1) (.slice (some ⟨g6, 0, none⟩) (p + 1) c6) wC :=
                  ⟨_, c6, rfl, by rw [Hsn.out]; simpa [ints] using ho5, hbB⟩
                have Hfin := Lib.hid hfin
                clear hfin ho5 hg5 hbB
                go_wp2_with fail
                go_roundw
                case rel => exact ⟨p + 1, by omega, by go_num, Hfin.out⟩
                case measure => exact idx_measure hlt
          · obtain rfl : p = N := by omega
            obtain ⟨a5, c5, rfl, ho, hbel⟩ := hP
            have HO := Lib.hid ho
            have HB := Lib.hid hbel
            have hlen : r.length = p := by rw [HRr.out, prp_len]; exact HNN.out.symm
            have HLn := Lib.hid hlen
            clear ho hbel hlen
            go_wp2_with fail
            go_ret
            refine ⟨a5, c5, by rw [HLn.out]; rfl, ?_, HB.out⟩
            rw [HLn.out, HRr.out, ← HNN.out]
            exact HO.out
      · have hr0 := HNo.out (fun h9 => hN (by have := h9.2.2; rw [HL0.out, HL1.out] at this; exact this))
        have Hr0 := Lib.hid hr0
        obtain ⟨N, hNN⟩ : ∃ N, N = n0 * n1 := ⟨_, rfl⟩
        rw [← hNN] at hwm hN hmul
        clear hNN e0 e1 hR0 hR1 hr0
        go_enter Tryd.func21, Tryd.ntmps21
        go_wp2_with fail
        rw [HWe.out]
        refine (k0.out).mono ?_
        rintro ee w1 ⟨rfl, hd1⟩
        have HX1 := Lib.hid hd1
        clear hd1
        have k2 := Lib.hid (k1.out w1 (HbW.out.trans (HX1.out.mono hws)))
        go_wp2_with fail
        refine (k2.out).mono ?_
        rintro ee w2 ⟨rfl, hd2⟩
        have HX2 := Lib.hid (HX1.out.trans (hd2.mono HX1.out.size))
        clear hd2
        go_wp2_with fail
        try simp only [hwm]
        go_wp2_with fail
        go_ret
        exact HFin.out Hr0.out _ HX2.out
    · rw [e1] at k1
      have hr0 := HNo.out (fun h9 => by rw [h9.2.1] at e1; cases e1)
      have Hr0 := Lib.hid hr0
      clear e0 e1 hR0 hr0
      go_enter Tryd.func21, Tryd.ntmps21
      go_wp2_with fail
      rw [HWe.out]
      refine (k0.out).mono ?_
      rintro ee w1 ⟨rfl, hd1⟩
      have HX1 := Lib.hid hd1
      clear hd1
      have k2 := Lib.hid (k1.out w1 (HbW.out.trans (HX1.out.mono hws)))
      go_wp2_with fail
      refine (k2.out).mono ?_
      rintro ee w2 ⟨rfl, hd2⟩
      have HX2 := Lib.hid (HX1.out.trans (hd2.mono HX1.out.size))
      clear hd2
      go_wp2_with fail
      go_ret
      exact HFin.out Hr0.out _ HX2.out
  · rw [e0] at k0
    have hr0 := HNo.out (fun h9 => by rw [h9.1] at e0; cases e0)
    have Hr0 := Lib.hid hr0
    clear e0 hr0
    go_enter Tryd.func21, Tryd.ntmps21
    go_wp2_with fail
    rw [HWe.out]
    refine (k0.out).mono ?_
    rintro ee w1 ⟨rfl, hd1⟩
    have HX1 := Lib.hid hd1
    clear hd1
    go_wp2_with fail
    go_ret
    exact HFin.out Hr0.out _ HX1.out

end Go.Proofs.YtagdeifalkenhaaDoor
