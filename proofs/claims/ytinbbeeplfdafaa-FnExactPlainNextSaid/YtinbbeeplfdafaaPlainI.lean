/- PlainNext: the program's and the model's answers. -/
import Derived.Test.YtinbbeeplfdafaaBaseU
import Derived.Test.YtinbbeeplfdafaaPlainM
import Derived.Deep.LoopGhost
namespace Go.Proofs.Ytinbbeeplfdafaa
open Go.RowKit

theorem wrap_big (q : Nat) (h : q ≤ 1000000000000000000) : wrap64 (q : Int) = q := wrap_in (by omega) (by omega)
theorem mul_big (x b y : Nat) (h : y = x * b) (hy : y ≤ 1000000000000000000) : wrap64 ((x : Int) * (b : Int)) = (y : Int) := by
  rw [show (x : Int) * (b : Int) = (y : Int) by rw [h]; exact (Int.natCast_mul _ _).symm]; exact wrap_big _ hy
theorem add_big (x b y : Nat) (h : y = x + b) (hy : y ≤ 1000000000000000000) : wrap64 ((x : Int) + (b : Int)) = (y : Int) := by
  rw [show (x : Int) + (b : Int) = (y : Int) by rw [h]; exact (Int.natCast_add _ _).symm]; exact wrap_big _ hy

set_option maxHeartbeats 1000000 in
theorem readDigits_any (n b B L : Nat) (a : Option Addr) (c base : Nat) (w : World) (hb : 2 ≤ b) (hb2 : b ≤ 89) (hB : B = b + 1) (hn : n ≤ 1000000000) (hL : L = (T.digs b n).length)
    (ho : w.ownsRow base 3 1 (.slice a L c) L (ints (T.digI b n))) :
    Calls Try.prog 62 #[.slice a L c, .int .i64 B] w fun e w' => e = .returned (.int .i64 (T.rd b n)) ∧ w = w' := by
  have hL30 : L ≤ 30 := by rw [hL]; exact T.digs_cnt hb hn
  have HL := Lib.hid hL
  have HO := Lib.hid ho
  have HB := Lib.hid hB
  have hB91 : B ≤ 91 := by omega
  have hstart : T.rd b (n / b ^ L) = 0 := by rw [Nat.div_eq_of_lt (by rw [hL]; exact T.digs_pow hb (n + 1) n (by omega)), T.rd_z]
  have Hst := Lib.hid hstart
  clear hL ho hB hstart
  go_enter Try.func62, Try.ntmps62
  go_wp2_with fail
  go_loopg [5, 10] L (fun gk v5 v10 wr => ∃ (i v : Nat), w = wr ∧ v5 = .int .i64 v ∧ v10 = .int .i64 i ∧ gk + i = L ∧ Hid (v = T.rd b (n / b ^ gk)))
  case atStart => exact ⟨0, 0, rfl, rfl, rfl, rfl, Lib.hid Hst.out.symm⟩
  case round =>
    obtain ⟨i, v, rfl, rfl, rfl, hgk, HV⟩ := hrel
    by_cases hlt : i < L
    · obtain ⟨t, ht⟩ : ∃ t, gk = t + 1 := ⟨gk - 1, by omega⟩
      subst ht
      obtain ⟨g, c', hv⟩ := Joins.ownsRow_form HO.out (by omega)
      simp only [Value.slice.injEq] at hv
      obtain ⟨rfl, _, rfl⟩ := hv
      obtain ⟨d, hd⟩ : ∃ d, d = n / b ^ t % b := ⟨_, rfl⟩
      have y0 : w.cell? ⟨g, i, none⟩ = some (.int .i64 d) := by
        refine (HO.out.cellAt i (by omega)).trans ?_
        rw [ints, List.getElem?_map, T.digI_get (t := t) hb (by have := HL.out; omega), hd]
        rfl
      have hst := T.rd_step (n := n) (t := t) hb
      have hbd := T.rd_bound (n := n / b ^ t) hb (Nat.le_trans (Nat.div_le_self _ _) hn)
      rw [← HV.out, ← hd, ← HB.out] at hst
      obtain ⟨x, hx⟩ : ∃ x, x = v * B := ⟨_, rfl⟩
      obtain ⟨y, hy⟩ : ∃ y, y = x + d := ⟨_, rfl⟩
      have hyv : T.rd b (n / b ^ t) = y := by rw [hst, hy, hx, Nat.mul_comm B v, Nat.add_comm]
      rw [hyv] at hbd
      have hxw := mul_big v B x hx (by omega)
      have hyw := add_big x d y hy (by omega)
      have HY := Lib.hid hyv.symm
      clear hd hst hx hy hyv
      go_wp2_with fail
      go_roundg t
      case measure => clear hxw hyw; omega
      case rel =>
        refine ⟨i + 1, y, rfl, congrArg (Value.int .i64) hyw, ?_, by clear hxw hyw; omega, HY⟩
        clear hxw hyw
        go_num
    · obtain rfl : gk = 0 := by omega
      have HF := Lib.hid (show (v : Int) = (T.rd b n : Int) by rw [HV.out, Nat.pow_zero, Nat.div_one])
      go_wp2_with fail
      go_ret
      exact ⟨ret_int HF.out, rfl⟩

theorem impl_PlainNext (n b : Int) (w : World) (hn0 : -9223372036854775808 ≤ n) (hn1 : n ≤ 9223372036854775807) (hb0 : -9223372036854775808 ≤ b) (hb1 : b ≤ 9223372036854775807) :
    Calls Try.prog 37 #[.int .i64 n, .int .i64 b] w fun e w' => e = .returned (.int .i64 (T.plainI n b)) ∧ Below w.heap.size w w' := by
  have k1 := Lib.hid (mayFollow_any n b w)
  by_cases h : (1 ≤ n ∧ n ≤ 1000000000) ∧ 2 ≤ b ∧ b ≤ 89
  · rw [decide_eq_true h] at k1
    obtain ⟨m, rfl⟩ := Int.eq_ofNat_of_zero_le (show 0 ≤ n by omega)
    obtain ⟨q, rfl⟩ := Int.eq_ofNat_of_zero_le (show 0 ≤ b by omega)
    have hm1 : 1 ≤ m := by omega
    have hm2 : m ≤ 1000000000 := by omega
    have hq1 : 2 ≤ q := by omega
    have hq2 : q ≤ 89 := by omega
    have k2 := Lib.hid (digitsOf_any m q w hq1 (by omega) hm2)
    have hbd := T.rd_bound hq1 hm2
    have k3 := Lib.hid (fun a c wx ho => readDigits_any m q (q + 1) (T.digs q m).length a c w.heap.size wx hq1 hq2 rfl hm2 rfl ho)
    have hpl := T.plainI_in hm1 hm2 hq1 hq2
    obtain ⟨r, hr⟩ : ∃ r, r = T.rd q m := ⟨_, rfl⟩
    rw [← hr] at hbd k3 hpl
    rw [hpl]
    have hq3 : ((q : Int) + 1) = ((q + 1 : Nat) : Int) := by omega
    rw [← hq3] at k3
    clear h hr hpl hq3 hn0 hn1 hb0 hb1
    go_enter Try.func37, Try.ntmps37
    go_wp2_with fail
    refine (k1.out).mono ?_
    rintro ee wx ⟨rfl, rfl⟩
    go_wp2_with fail
    refine (k2.out).mono ?_
    rintro ee w2 ⟨a2, c2, rfl, ho2, hb2⟩
    have Hb2 := Lib.hid hb2
    have k4 := Lib.hid (k3.out a2 c2 w2 ho2)
    clear hb2 ho2
    go_wp2_with fail
    refine (k4.out).mono ?_
    rintro ee wx ⟨rfl, rfl⟩
    by_cases hg : (r : Int) - 1 ≤ 1000000000
    · go_wp2_with fail
      go_ret
      exact ⟨rfl, Hb2.out⟩
    · go_wp2_with fail
      go_ret
      exact ⟨rfl, Hb2.out⟩
  · rw [decide_eq_false h] at k1
    rw [T.plainI_out h]
    clear h
    go_enter Try.func37, Try.ntmps37
    go_wp2_with fail
    refine (k1.out).mono ?_
    rintro ee wx ⟨rfl, rfl⟩
    go_wp2_with fail
    go_ret
    exact ⟨rfl, Below.refl _ _⟩

end Go.Proofs.Ytinbbeeplfdafaa
