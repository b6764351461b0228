/- The program's digits of a number. -/
import Derived.Test.YtfclhepmakhimaaBaseI
import Derived.Test.YtfclhepmakhimaaSlow
namespace Go.Proofs.Ytfclhepmakhimaa
set_option maxRecDepth 100000
open Go.RowKit

theorem nat_div (n b : Nat) : (n : Int) / (b : Int) = ((n / b : Nat) : Int) := rfl
theorem nat_mod (n b : Nat) : (n : Int) % (b : Int) = ((n % b : Nat) : Int) := rfl

theorem nat_measure {a m : Nat} (h : a < m) : (intOf (.int .i64 (a : Int))).toNat < (intOf (.int .i64 (m : Int))).toNat := by
  show (a : Int).toNat < (m : Int).toNat
  rw [Int.toNat_natCast, Int.toNat_natCast]
  exact h
theorem div_measure {m b : Nat} {x : Int} (hq : x = ((m / b : Nat) : Int)) (h : m / b < m) : (intOf (.int .i64 x)).toNat < (intOf (.int .i64 (m : Int))).toNat := by
  rw [hq]; exact nat_measure h

set_option maxHeartbeats 1000000 in
theorem digitsOf_any (n b : Nat) (w : World) (hb : 2 ≤ b) (hb2 : b ≤ 99) (hn : n ≤ 1000000000) :
    Calls Try.prog 68 #[.int .i64 n, .int .i64 b] w fun e w' => ∃ a c, e = .returned (.slice a (T.digs b n).length c) ∧
      w'.ownsRow w.heap.size 3 1 (.slice a (T.digs b n).length c) (T.digs b n).length (ints (T.digI b n)) ∧ Below w.heap.size w w' := by
  obtain ⟨i0, hi, hz0, hz1, hz2⟩ := info_parts info_int
  obtain ⟨L, hL⟩ : ∃ L, L = (T.digs b n).length := ⟨_, rfl⟩
  have hL30 : L ≤ 30 := by rw [hL]; exact T.digs_cnt hb hn
  obtain ⟨Z, hZ⟩ : ∃ Z, Z = ints (T.digI b n) := ⟨_, rfl⟩
  rw [← hL, ← hZ]
  have HL := Lib.hid hL
  have HZ0 := Lib.hid hZ
  clear hL hZ
  go_enter Try.func68, Try.ntmps68
  go_wp2_with fail
  go_loopw [0, 5] (fun v0 v5 wr => ∃ (m k : Nat) (zs : List Nat) (a : Option Addr) (c : Nat), m ≤ n ∧ Hid (T.digs b n = zs ++ T.digs b m ∧ zs.length = k) ∧ Hid (k = 0 → a = none ∧ c = 0) ∧ v0 = .int .i64 m ∧ v5 = .slice a k c ∧ wr.ownsRow w.heap.size 3 1 (.slice a k c) k (ints (zs.map Int.ofNat)) ∧ Below w.heap.size w wr) (fun v0 _ _ => (intOf v0).toNat)
  case atStart => exact ⟨n, 0, [], none, 0, Nat.le_refl _, Lib.hid ⟨(List.nil_append _).symm, rfl⟩, Lib.hid (fun _ => ⟨rfl, rfl⟩), rfl, rfl, ⟨rfl, .inl ⟨rfl, rfl⟩⟩, Below.refl _ _⟩
  case round =>
    obtain ⟨m, k, zs, a, c, hm, HZ, HN, rfl, rfl, ho, hb1⟩ := hrel
    have hkL : k ≤ L := by have h1 := HZ.out; rw [HL.out, h1.1, List.length_append]; omega
    have Ho := Lib.hid ho
    have Hb1 := Lib.hid hb1
    have hws := hb1.size
    clear ho hb1
    by_cases hm0 : 0 < m
    · have hq : wrap64 ((m : Int) / (b : Int)) = ((m / b : Nat) : Int) := by
        have h2 : m / b ≤ 1000000000 := Nat.le_trans (Nat.div_le_self _ _) (by omega)
        have h3 : ∀ q : Nat, q ≤ 1000000000 → wrap64 (q : Int) = q := fun q h => wrap_in (by omega) (by omega)
        rw [nat_div]
        exact h3 _ h2
      have hr : wrap64 ((m : Int) % (b : Int)) = ((m % b : Nat) : Int) := by
        have h2 : m % b ≤ 1000000000 := Nat.le_trans (Nat.mod_le _ _) (by omega)
        have h3 : ∀ q : Nat, q ≤ 1000000000 → wrap64 (q : Int) = q := fun q h => wrap_in (by omega) (by omega)
        rw [nat_mod]
        exact h3 _ h2
      have hlt : m / b < m := Nat.div_lt_self hm0 (by omega)
      have HD := Lib.hid (T.digs_c hb hm0)
      go_wp2_with (first
        | (at_builtin; refine wpList_append_own _ rfl (.tmp 11) (.tmp 15) 26 rfl w.heap.size 3 i0 (.int .i64 0) 1 8 Try.underlying26 hi hz0 hz1 hz2 rfl (by decide) _ _ _ rfl (Ho.out.alloc _) ⟨wr.heap.size, 0, none⟩ 1 1 [.int .i64 ((m : Int) % (b : Int))] rfl rfl (cell_one_new _ _ _) (ints_oneCell _ [(m : Int) % (b : Int)]) (by unfold maxLen; omega) (by omega) (by simp; omega) ?_; intro v1 w1 ho1 hg1 _; obtain ⟨a1, c1, rfl⟩ := own_shape ho1))
      have hb2 := (Hb1.out.alloc hws _).grown hg1 (by simp; omega) (fun r e => (Ho.out.lt r e).1)
      have Hb2 := Lib.hid hb2
      have Ho1 := Lib.hid ho1
      clear ho1 hg1 hb2
      go_wp2_with fail
      go_roundw
      case rel =>
        refine ⟨m / b, k + 1, zs ++ [m % b], a1, c1, Nat.le_trans (Nat.le_of_lt hlt) hm, Lib.hid ⟨?_, by simp [HZ.out.2]⟩, Lib.hid (fun h => by omega), congrArg (Value.int .i64) hq, rfl, ?_, Hb2.out⟩
        · rw [List.append_assoc, List.singleton_append, ← HD.out]; exact HZ.out.1
        · have h7 := Ho1.out
          simpa [ints] using h7
      case measure => exact div_measure hq hlt
    · obtain rfl : m = 0 := by omega
      have hzs : T.digs b n = zs := by have h1 := HZ.out.1; rw [T.digs_z, List.append_nil] at h1; exact h1
      have hkL2 : k = L := by rw [HL.out, hzs]; exact HZ.out.2.symm
      subst hkL2
      have HRV := Lib.hid (show Z = ints (zs.map Int.ofNat).reverse by rw [HZ0.out, T.digI, hzs, List.map_reverse])
      have HZL := Lib.hid (show k = (zs.map Int.ofNat).length by rw [List.length_map]; exact HZ.out.2.symm)
      clear hzs
      by_cases hk0 : k = 0
      · subst hk0
        have hzs0 : zs = [] := List.length_eq_zero_iff.1 HZ.out.2
        have HF := Lib.hid (show Z = ints [] by rw [HRV.out, hzs0]; rfl)
        rcases HN.out rfl with ⟨rfl, rfl⟩
        have kr := Lib.hid (reverse_nil wr)
        have HO0 := Lib.hid (show wr.ownsRow w.heap.size 3 1 (.slice none 0 0) 0 (ints []) by have h := Ho.out; rw [hzs0] at h; exact h)
        clear hzs0
        go_wp2_with fail
        refine (kr.out).mono ?_
        rintro ee w2 ⟨rfl, rfl⟩
        go_wp2_with fail
        go_ret
        exact ⟨none, 0, rfl, by rw [HF.out]; exact HO0.out, Hb1.out⟩
      · obtain ⟨g, c', hv⟩ := Joins.ownsRow_form Ho.out (by omega)
        simp only [Value.slice.injEq] at hv
        obtain ⟨rfl, _, rfl⟩ := hv
        have kr := Lib.hid (reverse_any g k c w.heap.size _ wr HZL.out (by omega) (by omega) Ho.out)
        go_wp2_with fail
        refine (kr.out).mono ?_
        rintro ee w2 ⟨rfl, ho2, hb2⟩
        have Ho2 := Lib.hid ho2
        have Hb2 := Lib.hid (Hb1.out.trans hb2)
        clear ho2 hb2
        go_wp2_with fail
        go_ret
        exact ⟨_, c, rfl, by rw [HRV.out]; exact Ho2.out, Hb2.out⟩

end Go.Proofs.Ytfclhepmakhimaa
