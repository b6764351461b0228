/- PlainNext: the model's answer. -/
import Derived.Test.YtinbbeeplfdafaaPlainI
import Derived.Test.YtinbbeeplfdafaaBaseS
namespace Go.Proofs.Ytinbbeeplfdafaa
open Go.RowKit

theorem plain_over {b n s p m : Nat} (hR : T.rd b n = s + p * T.rd b m) (hp : 1000000000 < p) (hne : p ≠ 1000000001) (hb : 2 ≤ b) (hd : 0 < m % b) : 1000000000 < (T.rd b n : Int) - 1 := by
  have h1 : 1 ≤ T.rd b m := by rw [T.rd_eq hb]; omega
  have h2 : p * 1 ≤ p * T.rd b m := Nat.mul_le_mul_left _ h1
  rw [Nat.mul_one] at h2
  omega

set_option maxHeartbeats 4000000 in
theorem spec_PlainNext (n b : Int) (w : World) (hn0 : -9223372036854775808 ≤ n) (hn1 : n ≤ 9223372036854775807) (hb0 : -9223372036854775808 ≤ b) (hb1 : b ≤ 9223372036854775807) :
    Calls Try.prog 36 #[.int .i64 n, .int .i64 b] w fun e w' => e = .returned (.int .i64 (T.plainI n b)) ∧ Below w.heap.size w w' := by
  by_cases h : (1 ≤ n ∧ n ≤ 1000000000) ∧ 2 ≤ b ∧ b ≤ 89
  · obtain ⟨N, rfl⟩ := Int.eq_ofNat_of_zero_le (show 0 ≤ n by omega)
    obtain ⟨B, rfl⟩ := Int.eq_ofNat_of_zero_le (show 0 ≤ b by omega)
    have hm1 : 1 ≤ N := by omega
    have hm2 : N ≤ 1000000000 := by omega
    have hq1 : 2 ≤ B := by omega
    have hq2 : B ≤ 89 := by omega
    have ki := Lib.hid (l1In_yes N 1 1000000000 w (by omega) (by omega))
    have kr := Lib.hid (l1In_yes B 2 89 w (by omega) (by omega))
    have hpl := T.plainI_in hm1 hm2 hq1 hq2
    rw [hpl]
    have hyes : (T.rd B N : Int) - 1 ≤ 1000000000 → (if (T.rd B N : Int) - 1 ≤ 1000000000 then (T.rd B N : Int) - 1 else -1) = (T.rd B N : Int) - 1 := fun h => if_pos h
    have hno : 1000000000 < (T.rd B N : Int) - 1 → (if (T.rd B N : Int) - 1 ≤ 1000000000 then (T.rd B N : Int) - 1 else -1) = -1 := fun h => if_neg (by omega)
    obtain ⟨res, hres⟩ : ∃ res : Int, res = if (T.rd B N : Int) - 1 ≤ 1000000000 then (T.rd B N : Int) - 1 else -1 := ⟨_, rfl⟩
    rw [← hres] at hyes hno ⊢
    have HY := Lib.hid hyes
    have HN := Lib.hid hno
    clear h hpl hres hyes hno hn0 hn1 hb0 hb1
    go_enter Try.func36, Try.ntmps36
    go_wp2_with fail
    refine (ki.out).mono ?_
    rintro ee wx ⟨rfl, rfl⟩
    go_wp2_with fail
    refine (kr.out).mono ?_
    rintro ee wx ⟨rfl, rfl⟩
    go_wp2_with fail
    go_loopw [0, 5, 6] (fun v0 v5 v6 wr => ∃ (m s p : Nat), w = wr ∧ v0 = .int .i64 m ∧ v5 = .int .i64 s ∧ v6 = .int .i64 p ∧ m ≤ 1000000000 ∧ s ≤ 1000000001 ∧ Hid (∃ k, p = (B + 1) ^ k ∧ m = N / B ^ k) ∧ Hid (T.rd B N = s + p * T.rd B m)) (fun v0 _ _ _ => (intOf v0).toNat)
    case atStart => exact ⟨N, 0, 1, rfl, rfl, rfl, rfl, hm2, by omega, Lib.hid ⟨0, rfl, by rw [Nat.pow_zero, Nat.div_one]⟩, Lib.hid (by omega)⟩
    case round =>
      obtain ⟨m, s, p, rfl, rfl, rfl, rfl, hm9, hs9, HK, HR⟩ := hrel
      by_cases hm0 : 0 < m
      · have hpb : p ≤ 200000000000000 := by
          obtain ⟨k, h1, h2⟩ := HK.out
          rw [h1]
          refine T.pow_bound hq1 (Nat.le_trans ?_ hm2)
          rcases Nat.lt_or_ge N (B ^ k) with h3 | h3
          · rw [Nat.div_eq_of_lt h3] at h2; omega
          · exact h3
        have Hne := Lib.hid (show p ≠ 1000000001 by obtain ⟨k, h1, _⟩ := HK.out; rw [h1]; exact T.pow_ne (by omega))
        obtain ⟨d, hd⟩ : ∃ d, d = m % B := ⟨_, rfl⟩
        obtain ⟨mb, hmb⟩ : ∃ mb, mb = m / B := ⟨_, rfl⟩
        have Hd := Lib.hid hd
        have hd89 : d < 89 := by rw [hd]; exact Nat.lt_of_lt_of_le (Nat.mod_lt _ (by omega)) hq2
        have hmbm : mb < m := by rw [hmb]; exact Nat.div_lt_self hm0 (by omega)
        have hrw := rem_nat m B d hd hm9
        have hri : (m : Int) % (B : Int) = (d : Int) := by rw [nat_mod, hd]
        obtain ⟨x, hx⟩ : ∃ x, x = d * p := ⟨_, rfl⟩
        have hxb : x ≤ 17800000000000000 := by rw [hx]; exact Nat.mul_le_mul (show d ≤ 89 by omega) hpb
        obtain ⟨s2, hs2⟩ : ∃ s2, s2 = s + x := ⟨_, rfl⟩
        have hs2b : s2 ≤ 1000000000000000000 := by omega
        obtain ⟨p2, hp2⟩ : ∃ p2, p2 = p * (B + 1) := ⟨_, rfl⟩
        have hp2b : p2 ≤ 18000000000000000 := by rw [hp2]; exact Nat.mul_le_mul hpb (show B + 1 ≤ 90 by omega)
        have hR2 : T.rd B N = s2 + p2 * T.rd B mb := by
          rw [HR.out, T.rd_eq hq1 m, ← hd, ← hmb, hs2, hx, hp2, Nat.mul_add, Nat.mul_assoc, Nat.mul_comm d p, Nat.add_assoc]
        have HR2 := Lib.hid hR2
        have HK2 := Lib.hid (show ∃ k, p2 = (B + 1) ^ k ∧ mb = N / B ^ k by
          obtain ⟨k, h1, h2⟩ := HK.out
          exact ⟨k + 1, by rw [hp2, h1, Nat.pow_succ], by rw [hmb, h2, Nat.div_div_eq_div_mul, ← Nat.pow_succ]⟩)
        have hxw := mul_big d p x hx (by omega)
        have hsw := add_big s x s2 hs2 hs2b
        have hpw0 := mul_big p (B + 1) p2 hp2 (by omega)
        have hpw : wrap64 ((p : Int) * ((B : Int) + 1)) = (p2 : Int) := by rw [← hpw0]; rfl
        have hqw := quo_nat m B mb hmb hm9
        have HXW := Lib.hid hxw
        have HSW := Lib.hid hsw
        have HPW := Lib.hid hpw
        have HQW := Lib.hid hqw
        clear hd hmb hx hs2 hp2 hR2 hpw0 hxw hsw hpw hqw
        by_cases hbad : 0 < d ∧ 1000000000 < p
        · have hfin := Lib.hid (HN.out (plain_over HR.out hbad.2 Hne.out hq1 (by rw [← Hd.out]; exact hbad.1)))
          obtain ⟨hd0, hp0⟩ := hbad
          go_wp2_with fail
          go_ret
          exact ⟨ret_int hfin.out.symm, Below.refl _ _⟩
        · by_cases hs3 : 1000000001 < s2
          · have hfin := Lib.hid (HN.out (by
              have h1 := HR2.out
              clear hrw hri
              have h2 : s2 ≤ T.rd B N := by rw [h1]; exact Nat.le_add_right _ _
              omega))
            by_cases hd0 : 0 < d
            · have hp0 : ¬ 1000000000 < p := fun k => hbad ⟨hd0, k⟩
              clear hbad
              go_upto_region 9 with fail
              rw [HXW.out, HSW.out]
              go_wp2_with fail
              go_ret
              exact ⟨ret_int hfin.out.symm, Below.refl _ _⟩
            · clear hbad
              go_upto_region 9 with fail
              rw [HXW.out, HSW.out]
              go_wp2_with fail
              go_ret
              exact ⟨ret_int hfin.out.symm, Below.refl _ _⟩
          · have hcase : (0 < d ∧ ¬ 1000000000 < p) ∨ ¬ 0 < d := by
              by_cases hd0 : 0 < d
              · exact .inl ⟨hd0, fun k => hbad ⟨hd0, k⟩⟩
              · exact .inr hd0
            clear hbad
            have hrel' : ∃ (m s p : Nat), True ∧ Value.int .i64 (mb : Int) = .int .i64 m ∧ Value.int .i64 (s2 : Int) = .int .i64 s ∧ Value.int .i64 (p2 : Int) = .int .i64 p ∧ m ≤ 1000000000 ∧ s ≤ 1000000001 ∧ Hid (∃ k, p = (B + 1) ^ k ∧ m = N / B ^ k) ∧ Hid (T.rd B N = s + p * T.rd B m) :=
              ⟨mb, s2, p2, trivial, rfl, rfl, rfl, by clear hrw hri; omega, by clear hrw hri; omega, HK2, HR2⟩
            have Hrel := Lib.hid hrel'
            clear hrel'
            rcases hcase with ⟨hd0, hp0⟩ | hd0
            · go_upto_region 9 with fail
              rw [HXW.out, HSW.out]
              go_wp2_with fail
              go_roundw
              case measure => exact rem_measure HQW.out hmbm
              case rel => have h9 := Hrel.out; rw [← HPW.out, ← HQW.out] at h9; exact h9
            · go_upto_region 9 with fail
              rw [HXW.out, HSW.out]
              go_wp2_with fail
              go_roundw
              case measure => exact rem_measure HQW.out hmbm
              case rel => have h9 := Hrel.out; rw [← HPW.out, ← HQW.out] at h9; exact h9
      · obtain rfl : m = 0 := by omega
        have hR0 := HR.out
        rw [T.rd_z, Nat.mul_zero, Nat.add_zero] at hR0
        by_cases hg : (s : Int) - 1 ≤ 1000000000
        · have hfin := Lib.hid (HY.out (by rw [hR0]; exact hg))
          have hf2 : (s : Int) - 1 = res := by rw [hfin.out, hR0]
          have Hf := Lib.hid hf2
          clear hR0 hf2
          go_wp2_with fail
          go_ret
          exact ⟨ret_int Hf.out, Below.refl _ _⟩
        · exfalso
          omega
  · rw [T.plainI_out h]
    by_cases h1 : n < 1 ∨ 1000000000 < n
    · have ki := Lib.hid (l1In_no n 1 1000000000 w h1)
      clear h h1
      go_enter Try.func36, Try.ntmps36
      go_wp2_with fail
      refine (ki.out).mono ?_
      rintro ee wx ⟨rfl, rfl⟩
      go_wp2_with fail
      go_ret
      exact ⟨rfl, Below.refl _ _⟩
    · have ki := Lib.hid (l1In_yes n 1 1000000000 w (by omega) (by omega))
      have kr := Lib.hid (l1In_no b 2 89 w (by omega))
      clear h h1
      go_enter Try.func36, Try.ntmps36
      go_wp2_with fail
      refine (ki.out).mono ?_
      rintro ee wx ⟨rfl, rfl⟩
      go_wp2_with fail
      refine (kr.out).mono ?_
      rintro ee wx ⟨rfl, rfl⟩
      go_wp2_with fail
      go_ret
      exact ⟨rfl, Below.refl _ _⟩

end Go.Proofs.Ytinbbeeplfdafaa
