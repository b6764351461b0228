/- The model's OrdInBase and PlainOrd, for all numbers. -/
import Derived.Test.YtfclhepmakhimaaBaseS
namespace Go.Proofs.Ytfclhepmakhimaa
set_option maxRecDepth 100000
open Go.RowKit

theorem IntPost.none0 {w w1 : World} (hb : Below w.heap.size w w1) : IntPost w [] (.returned (.slice (some ⟨w1.heap.size, 0, none⟩) 0 0)) (w1.alloc (.cells #[] 3)) :=
  ⟨_, 0, rfl, World.ownsRow_lit w1 #[] 0 hb.size (by simp [maxLen]) rfl, hb.alloc hb.size _⟩

theorem baseS_core (n b : Nat) (w : World) (hb : 2 ≤ b) (hb2 : b ≤ 90) (hn : n ≤ 1000000000) :
    Calls Try.prog 38 #[.int .i64 n, .int .i64 b] w (IntPost w (T.fit (T.ordB b n))) := by
  have k5 := Lib.hid (fun wx => l4Ord_any (n + 1) n b wx (Nat.lt_succ_self n) hb hb2 hn)
  obtain ⟨res, hres⟩ : ∃ res, res = T.ordB b n := ⟨_, rfl⟩
  have hlen := T.base_len hb hn
  have hnf := T.ordB_nf hb (by omega) (n + 1) n (Nat.lt_succ_self n)
  rw [← hres] at hlen hnf k5 ⊢
  have Hlen := Lib.hid hlen
  have HNf := Lib.hid hnf
  have ki := Lib.hid (l1In_yes n 0 1000000000 w (by omega) (by omega))
  have kr := Lib.hid (l1In_yes b 2 90 w (by omega) (by omega))
  clear hres hlen hnf
  go_enter Try.func38, Try.ntmps38
  go_wp2_with fail
  refine (ki.out).mono ?_
  rintro ee wx ⟨rfl, rfl⟩
  go_wp2_with fail
  refine (kr.out).mono ?_
  rintro ee wx ⟨rfl, rfl⟩
  go_wp2_with fail
  refine (k5.out _).mono ?_
  rintro ee w5 ⟨a3, c3, rfl, ho3, hb5⟩
  have Hb5 := Lib.hid hb5
  have k6 := Lib.hid (k5.out w5)
  clear ho3 hb5
  by_cases hg : 60 < res.enc.length
  · have hfin : IntPost w res.fit (.returned (.slice (some ⟨w5.heap.size, 0, none⟩) 0 0)) (w5.alloc (.cells #[] 3)) := by
      rw [T.fit_no hg]
      exact IntPost.none0 Hb5.out
    have Hfin := Lib.hid hfin
    have hgi : (60 : Int) < (res.enc.length : Int) := by omega
    clear hfin
    go_wp2_with fail
    go_ret
    exact Hfin.out
  · have hgi : ¬ (60 : Int) < (res.enc.length : Int) := by omega
    have Hft := Lib.hid (T.fit_yes HNf.out (by omega))
    go_wp2_with fail
    refine (k6.out).mono ?_
    rintro ee w6 ⟨a4, c4, rfl, ho4, hb6⟩
    have hfin : IntPost w res.fit (.returned (.slice a4 res.enc.length c4)) w6 := by
      rw [Hft.out]
      exact IntPost.mono ⟨a4, c4, rfl, ho4, hb6⟩ Hb5.out
    have Hfin := Lib.hid hfin
    clear ho4 hb6 hfin
    go_wp2_with fail
    go_ret
    exact Hfin.out

theorem spec_OrdInBase (n b : Int) (w : World) (_hn0 : -9223372036854775808 ≤ n) (_hn1 : n ≤ 9223372036854775807) (_hb0 : -9223372036854775808 ≤ b) (_hb1 : b ≤ 9223372036854775807) : Calls Try.prog 38 #[.int .i64 n, .int .i64 b] w (IntPost w (T.baseRow n b)) := by
  by_cases h : n < 0 ∨ 1000000000 < n ∨ b < 2 ∨ 90 < b
  · rw [T.baseRow_out h]
    by_cases h1 : n < 0 ∨ 1000000000 < n
    · have ki := Lib.hid (l1In_no n 0 1000000000 w h1)
      clear h h1
      go_enter Try.func38, Try.ntmps38
      go_wp2_with fail
      refine (ki.out).mono ?_
      rintro ee wx ⟨rfl, rfl⟩
      go_wp2_with fail
      go_ret
      exact IntPost.none0 (Below.refl _ _)
    · have ki := Lib.hid (l1In_yes n 0 1000000000 w (by omega) (by omega))
      have kr := Lib.hid (l1In_no b 2 90 w (by omega))
      clear h h1
      go_enter Try.func38, Try.ntmps38
      go_wp2_with fail
      refine (ki.out).mono ?_
      rintro ee wx ⟨rfl, rfl⟩
      go_wp2_with fail
      refine (kr.out).mono ?_
      rintro ee wx ⟨rfl, rfl⟩
      go_wp2_with fail
      go_ret
      exact IntPost.none0 (Below.refl _ _)
  · obtain ⟨n', rfl⟩ := Int.eq_ofNat_of_zero_le (show 0 ≤ n by omega)
    obtain ⟨b', rfl⟩ := Int.eq_ofNat_of_zero_le (show 0 ≤ b by omega)
    have h1 : n' ≤ 1000000000 := by omega
    have h2 : 2 ≤ b' := by omega
    have h3 : b' ≤ 90 := by omega
    have h4 := T.baseRow_in h1 h2 h3
    rw [h4]
    exact baseS_core n' b' w h2 h3 h1


end Go.Proofs.Ytfclhepmakhimaa
