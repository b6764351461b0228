/- Iterate of the model. -/
import Derived.Test.YtbhifmjpaageeaaIterM
import Derived.Test.YtbhifmjpaageeaaLeaf
namespace Go.Proofs.Ytbhifmjpaageeaa
set_option maxRecDepth 100000
open Go.RowKit

set_option maxHeartbeats 4000000 in
theorem spec_Iterate_in (l : Nat) : l ≤ 9 → ∀ (n : Nat) (w : World), 1 ≤ n → n ≤ 90 →
    Calls Try.prog 15 #[.int .i64 l, .int .i64 n] w fun e w' => e = .returned (.int .i64 (T.optI (T.iter l n))) ∧ w = w' := by
  induction l with
  | zero =>
    intro _ n w h1 h2
    have ka := Lib.hid (fun w => l1In_yes 0 0 9 w (by omega) (by omega))
    have kb := Lib.hid (fun w => l1In_yes n 1 90 w (by omega) (by omega))
    by_cases h9 : n = 90
    · subst h9
      go_enter Try.func15, Try.ntmps15
      go_wp2_with fail
      refine (ka.out _).mono ?_
      rintro ee wx ⟨rfl, rfl⟩
      go_wp2_with fail
      refine (kb.out _).mono ?_
      rintro ee wx ⟨rfl, rfl⟩
      go_wp2_with fail
      go_ret
      exact ⟨rfl, rfl⟩
    · have hb : ((n : Int) == 90) = false := by simp; omega
      have hr : T.optI (T.iter 0 n) = (n : Int) + 1 := by simp only [T.iter]; rw [if_pos (by omega)]; simp [T.optI]
      rw [hr]
      clear hr
      go_enter Try.func15, Try.ntmps15
      go_wp2_with fail
      refine (ka.out _).mono ?_
      rintro ee wx ⟨rfl, rfl⟩
      go_wp2_with fail
      refine (kb.out _).mono ?_
      rintro ee wx ⟨rfl, rfl⟩
      go_wp2_with fail
      go_ret
      exact ⟨rfl, rfl⟩
  | succ l ih =>
    intro hl n w h1 h2
    have IH := Lib.hid (ih (by omega))
    have ka := Lib.hid (fun w => l1In_yes ((l + 1 : Nat) : Int) 0 9 w (by omega) (by omega))
    have kb := Lib.hid (fun w => l1In_yes n 1 90 w (by omega) (by omega))
    obtain ⟨R, hR⟩ : ∃ R, R = T.iter (l + 1) n := ⟨_, rfl⟩
    have HR := Lib.hid (show T.manyAt R (T.iter l) n (some n) by rw [hR]; exact T.manyAt.start)
    rw [← hR]
    obtain ⟨L, hL⟩ : ∃ L, L = l + 1 := ⟨_, rfl⟩
    rw [← hL] at ka ⊢
    have hl1 : ((L : Int) == 0) = false := by simp; omega
    have hlm : (L : Int) - 1 = (l : Int) := by omega
    have hl2 : L ≤ 9 := by omega
    clear ih hR hL hl
    go_enter Try.func15, Try.ntmps15
    go_wp2_with fail
    refine (ka.out _).mono ?_
    rintro ee wx ⟨rfl, rfl⟩
    go_wp2_with fail
    refine (kb.out _).mono ?_
    rintro ee wx ⟨rfl, rfl⟩
    go_wp2_with fail
    go_loopw [5, 6] (fun v2 v3 wr => ∃ (i x : Nat), v3 = .int .i64 i ∧ i ≤ n ∧ v2 = .int .i64 x ∧ 1 ≤ x ∧ x ≤ 90 ∧ T.manyAt R (T.iter l) (n - i) (some x) ∧ w = wr) (fun _ v3 _ => n - (intOf v3).toNat)
    case atStart => exact ⟨0, n, rfl, by omega, rfl, h1, h2, HR.out, rfl⟩
    case round =>
      obtain ⟨i, x, rfl, hi, rfl, hx1, hx2, hm, rfl⟩ := hrel
      have HM := Lib.hid hm
      clear hm
      by_cases hin : i < n
      · have k1 := Lib.hid (IH.out x w hx1 hx2)
        have hin2 : (i : Int) < n := by omega
        rcases T.optI_bnd (l := l) hx1 hx2 with h | ⟨y, h, hy1, hy2⟩
        · have HX := Lib.hid h
          have hRn : R = none := by
            have h3 := HM.out
            rw [show n - i = (n - i - 1) + 1 by omega] at h3
            have h4 := h3.next
            cases hd : T.iter l x with
            | none => rw [hd] at h4; exact h4.none
            | some m => rw [hd] at h; simp [T.optI] at h
          rw [h] at k1
          have HRN := Lib.hid hRn
          clear h hRn
          go_wp2_with fail
          refine (k1.out).mono ?_
          rintro ee wx ⟨rfl, rfl⟩
          go_wp2_with fail
          go_ret
          exact ⟨by rw [HRN.out]; rfl, rfl⟩
        · have hnx : T.manyAt R (T.iter l) (n - (i + 1)) (some y) := by
            have h3 := HM.out
            rw [show n - i = (n - (i + 1)) + 1 by omega] at h3
            have h4 := h3.next
            rw [h] at h4
            exact h4
          have HNX := Lib.hid hnx
          rw [h] at k1
          simp only [T.optI] at k1
          clear h hnx
          go_wp2_with fail
          refine (k1.out).mono ?_
          rintro ee wx ⟨rfl, rfl⟩
          go_wp2_with fail
          go_roundw
          case rel => exact ⟨i + 1, y, by simp, by omega, rfl, by omega, hy2, HNX.out, trivial⟩
          case measure => simp [intOf]; omega
      · have hin2 : ¬ (i : Int) < n := by omega
        have hRd : R = some x := by
          have h3 := HM.out
          rw [show n - i = 0 by omega] at h3
          exact h3.done
        have HRD := Lib.hid hRd
        clear hRd
        go_wp2_with fail
        go_ret
        exact ⟨by rw [HRD.out]; rfl, rfl⟩

theorem spec_Iterate (l n : Int) (w : World) (_hl0 : -9223372036854775808 ≤ l) (_hl1 : l ≤ 9223372036854775807) (_hn0 : -9223372036854775808 ≤ n) (_hn1 : n ≤ 9223372036854775807) :
    Calls Try.prog 15 #[.int .i64 l, .int .i64 n] w fun e w' => e = .returned (.int .i64 (T.iterRes l n)) ∧ w = w' := by
  by_cases h1 : 0 ≤ l ∧ l ≤ 9
  · by_cases h2 : 1 ≤ n ∧ n ≤ 90
    · obtain ⟨L, rfl⟩ : ∃ L : Nat, l = L := ⟨l.toNat, by omega⟩
      obtain ⟨N, rfl⟩ : ∃ N : Nat, n = N := ⟨n.toNat, by omega⟩
      rw [T.iterRes_val (by omega) (by omega) (by omega)]
      exact spec_Iterate_in L (by omega) N w (by omega) (by omega)
    · have ka := Lib.hid (fun w => l1In_yes l 0 9 w h1.1 h1.2)
      have kb := Lib.hid (fun w => l1In_no n 1 90 w (by omega))
      rw [T.iterRes_bad (.inr h2)]
      clear h1 h2
      go_enter Try.func15, Try.ntmps15
      go_wp2_with fail
      refine (ka.out _).mono ?_
      rintro ee wx ⟨rfl, rfl⟩
      go_wp2_with fail
      refine (kb.out _).mono ?_
      rintro ee wx ⟨rfl, rfl⟩
      go_wp2_with fail
      go_ret
      exact ⟨rfl, rfl⟩
  · have ka := Lib.hid (fun w => l1In_no l 0 9 w (by omega))
    rw [T.iterRes_bad (.inl h1)]
    clear h1
    go_enter Try.func15, Try.ntmps15
    go_wp2_with fail
    refine (ka.out _).mono ?_
    rintro ee wx ⟨rfl, rfl⟩
    go_wp2_with fail
    go_ret
    exact ⟨rfl, rfl⟩
end Go.Proofs.Ytbhifmjpaageeaa
