/- The program's OrdInBase and PlainOrd. -/
import Derived.Test.YtfclhepmakhimaaBaseK
import Derived.Deep.CutBlock
namespace Go.Proofs.Ytfclhepmakhimaa
set_option maxRecDepth 100000
open Go.RowKit

theorem isNumber_yes (n : Int) (w : World) (h1 : 0 ≤ n) (h2 : n ≤ 1000000000) :
    Calls Try.prog 45 #[.int .i64 n] w fun e w' => e = .returned (.bool true) ∧ w = w' := by
  go_enter Try.func45, Try.ntmps45
  go_wp2
  go_ret
  exact ⟨rfl, rfl⟩
theorem isNumber_no (n : Int) (w : World) (h1 : n < 0 ∨ 1000000000 < n) :
    Calls Try.prog 45 #[.int .i64 n] w fun e w' => e = .returned (.bool false) ∧ w = w' := by
  by_cases h : 0 ≤ n
  · have h2 : decide (n ≤ 1000000000) = false := by simp; omega
    go_enter Try.func45, Try.ntmps45
    go_wp2
    go_ret
    exact ⟨by simp, rfl⟩
  · have h2 : n < 0 := by omega
    go_enter Try.func45, Try.ntmps45
    go_wp2
    go_ret
    exact ⟨rfl, rfl⟩
theorem isRoot_yes (n : Int) (w : World) (h1 : 2 ≤ n) (h2 : n ≤ 90) :
    Calls Try.prog 41 #[.int .i64 n] w fun e w' => e = .returned (.bool true) ∧ w = w' := by
  go_enter Try.func41, Try.ntmps41
  go_wp2
  go_ret
  exact ⟨rfl, rfl⟩
theorem isRoot_no (n : Int) (w : World) (h1 : n < 2 ∨ 90 < n) :
    Calls Try.prog 41 #[.int .i64 n] w fun e w' => e = .returned (.bool false) ∧ w = w' := by
  by_cases h : 2 ≤ n
  · have h2 : decide (n ≤ 90) = false := by simp; omega
    go_enter Try.func41, Try.ntmps41
    go_wp2
    go_ret
    exact ⟨by simp, rfl⟩
  · have h2 : n < 2 := by omega
    go_enter Try.func41, Try.ntmps41
    go_wp2
    go_ret
    exact ⟨rfl, rfl⟩

theorem IntPost.nil {w w' : World} (hb : Below w.heap.size w w') : IntPost w [] (.returned (.slice none 0 0)) w' :=
  ⟨none, 0, rfl, ⟨rfl, .inl ⟨rfl, rfl⟩⟩, hb⟩
theorem IntPost.mono {w w1 : World} {r : List Int} {e : Ending} {w' : World} (h : IntPost w1 r e w') (hb : Below w.heap.size w w1) : IntPost w r e w' := by
  obtain ⟨a, c, rfl, ho, hb1⟩ := h
  exact ⟨a, c, rfl, Joins.ownsRow_le ho hb.size, hb.trans (hb1.mono hb.size)⟩

/-- The exponent's function of OrdInBase. -/
theorem closure_any (e b bx : Nat) (r : List Int) (w : World) (hc : w.cell? ⟨bx, 0, none⟩ = some (.int .i64 b)) (K : Calls Try.prog 43 #[.int .i64 e, .int .i64 b] w (IntPost w r)) :
    Calls Try.prog 69 #[.int .i64 e, .pointer (some ⟨bx, 0, none⟩)] w (IntPost w r) := by
  have K1 := Lib.hid K
  clear K
  go_enter Try.func69, Try.ntmps69
  go_wp2_with fail
  refine (K1.out).mono ?_
  rintro ee w1 ⟨a, c, rfl, ho, hb⟩
  have hfin : IntPost w r (.returned (.slice a r.length c)) w1 := ⟨a, c, rfl, ho, hb⟩
  have Hfin := Lib.hid hfin
  clear ho hb hfin
  go_wp2_with fail
  go_ret
  exact Hfin.out

set_option maxHeartbeats 1000000 in
theorem inBase_core (N : Nat) : ∀ (n b : Nat) (w : World), n < N → 2 ≤ b → b ≤ 90 → n ≤ 1000000000 →
    Calls Try.prog 43 #[.int .i64 n, .int .i64 b] w (IntPostN w (T.fit (T.ordB b n))) := by
  induction N with
  | zero => intro n b w h; omega
  | succ N ih =>
    intro n b w hN hb hb2 hn
    obtain ⟨w1, hw1⟩ : ∃ w1, w1 = w.alloc (.cells #[.int .i64 b] 3) := ⟨_, rfl⟩
    have hc1 : w1.cell? ⟨w.heap.size, 0, none⟩ = some (.int .i64 b) := by rw [hw1]; exact cell_one_new _ _ _ 0 _ rfl
    have hs1 : w.heap.size < w1.heap.size := by rw [hw1, World.size_alloc]; omega
    have hb1 : Below w.heap.size w w1 := by rw [hw1]; exact (Below.refl _ _).alloc (Nat.le_refl _) _
    have kg := Lib.hid (digitsOf_any n b w1 hb (by omega) hn)
    obtain ⟨L, hL⟩ : ∃ L, L = (T.digs b n).length := ⟨_, rfl⟩
    rw [← hL] at kg
    have kd : ∀ (a : Option Addr) (c : Nat) (w2 : World), Below w1.heap.size w1 w2 → w2.ownsRow w1.heap.size 3 1 (.slice a L c) L (ints (T.digI b n)) →
        Calls Try.prog 67 #[.slice a L c, .func (.func 69) #[] #[.pointer (some ⟨w.heap.size, 0, none⟩)]] w2 (IntPostN w2 (T.fit (T.ordB b n))) := by
      intro a c w2 hb12 ho2
      rw [T.ordB_eq hb n]
      refine ordOfDigits_any _ (enters_of Try.func69 (by kernel_rfl) rfl) _ (T.ordB b) n b w2 hb hb2 hn ?_ ?_ a L c hL (Sl.of_own ho2) ?_
      · rw [← T.ordB_eq hb n]; exact T.base_len hb hn
      · intro e he
        have := T.exp_len hb (T.exp_le hb hn he)
        omega
      · intro e wr he hbr
        have he29 := T.exp_le hb hn he
        have hen := T.pow_gt hb e
        rw [← T.exp_fit hb hb2 he29]
        exact closure_any e b _ _ wr ((hbr.cell (p := ⟨w.heap.size, 0, none⟩) (Nat.lt_of_lt_of_le hs1 hb12.size)).trans ((hb12.cell (p := ⟨w.heap.size, 0, none⟩) hs1).trans hc1)) ((ih e b wr (by omega) hb hb2 (by omega)).mono (fun _ _ h9 => h9.weak))
    have Kd := Lib.hid kd
    have Hb1 := Lib.hid hb1
    have ki := Lib.hid (isNumber_yes n w1 (by omega) (by omega))
    have kr := Lib.hid (isRoot_yes b w1 (by omega) (by omega))
    clear ih kd hb1 hL
    go_enter Try.func43, Try.ntmps43
    go_upto_region 1 with fail
    rw [← hw1]
    clear hw1
    go_wp2_with fail
    refine (ki.out).mono ?_
    rintro ee wx ⟨rfl, rfl⟩
    go_wp2_with fail
    refine (kr.out).mono ?_
    rintro ee wx ⟨rfl, rfl⟩
    go_wp2_with fail
    refine (kg.out).mono ?_
    rintro ee w2 ⟨a0, c0, rfl, ho2, hb12⟩
    have Kd2 := Lib.hid (Kd.out a0 c0 w2 hb12 ho2)
    have hcw := (hb12.cell (p := ⟨w.heap.size, 0, none⟩) hs1).trans hc1
    have Hb12 := Lib.hid (Hb1.out.trans (hb12.mono Hb1.out.size))
    clear ho2 hb12
    go_wp2_with fail
    refine (Kd2.out).mono ?_
    rintro ee w3 ⟨a, c, rfl, hnn, ho, hb3⟩
    have hfin : IntPostN w (T.fit (T.ordB b n)) (.returned (.slice a (T.fit (T.ordB b n)).length c)) w3 := IntPostN.mono ⟨a, c, rfl, hnn, ho, hb3⟩ Hb12.out
    have Hfin := Lib.hid hfin
    clear ho hb3 hnn hfin
    go_wp2_with fail
    go_ret
    exact Hfin.out

theorem inBase_no (n b : Int) (w : World) (h : n < 0 ∨ 1000000000 < n ∨ b < 2 ∨ 90 < b) :
    Calls Try.prog 43 #[.int .i64 n, .int .i64 b] w (IntPostN w []) := by
  by_cases h1 : n < 0 ∨ 1000000000 < n
  · have ki := Lib.hid (fun wr => isNumber_no n wr h1)
    clear h h1
    go_enter Try.func43, Try.ntmps43
    go_wp2_with fail
    refine (ki.out _).mono ?_
    rintro ee wx ⟨rfl, rfl⟩
    go_wp2_with fail
    go_ret
    exact IntPostN.nil ((Below.refl _ _).alloc (Nat.le_refl _) _)
  · have ki := Lib.hid (fun wr => isNumber_yes n wr (by omega) (by omega))
    have kr := Lib.hid (fun wr => isRoot_no b wr (by omega))
    clear h h1
    go_enter Try.func43, Try.ntmps43
    go_wp2_with fail
    refine (ki.out _).mono ?_
    rintro ee wx ⟨rfl, rfl⟩
    go_wp2_with fail
    refine (kr.out _).mono ?_
    rintro ee wx ⟨rfl, rfl⟩
    go_wp2_with fail
    go_ret
    exact IntPostN.nil ((Below.refl _ _).alloc (Nat.le_refl _) _)

theorem impl_OrdInBaseN (n b : Int) (w : World) : Calls Try.prog 43 #[.int .i64 n, .int .i64 b] w (IntPostN w (T.baseRow n b)) := by
  by_cases h : n < 0 ∨ 1000000000 < n ∨ b < 2 ∨ 90 < b
  · rw [T.baseRow_out h]; exact inBase_no n b w h
  · obtain ⟨n', rfl⟩ := Int.eq_ofNat_of_zero_le (show 0 ≤ n by omega)
    obtain ⟨b', rfl⟩ := Int.eq_ofNat_of_zero_le (show 0 ≤ b by omega)
    have h1 : n' ≤ 1000000000 := by omega
    have h2 : 2 ≤ b' := by omega
    have h3 : b' ≤ 90 := by omega
    have h4 := T.baseRow_in h1 h2 h3
    rw [h4]
    exact inBase_core (n' + 1) n' b' w (by omega) h2 h3 h1

theorem impl_OrdInBase (n b : Int) (w : World) (_hn0 : -9223372036854775808 ≤ n) (_hn1 : n ≤ 9223372036854775807) (_hb0 : -9223372036854775808 ≤ b) (_hb1 : b ≤ 9223372036854775807) : Calls Try.prog 43 #[.int .i64 n, .int .i64 b] w (IntPost w (T.baseRow n b)) :=
  (impl_OrdInBaseN n b w).mono (fun _ _ h => h.weak)



end Go.Proofs.Ytfclhepmakhimaa
