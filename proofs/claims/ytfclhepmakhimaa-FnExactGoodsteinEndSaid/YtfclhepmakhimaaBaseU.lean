/- BaseOk, ChangeBase, GoodsteinNext: the program's and the model's answers. -/
import Derived.Test.YtfclhepmakhimaaBaseT
import Derived.Test.YtfclhepmakhimaaSlowS
namespace Go.Proofs.Ytfclhepmakhimaa
set_option maxRecDepth 100000
open Go.RowKit

theorem T.vldB_nil : T.vldB [] = false := by
  rcases vld_tf [] with h | h
  · obtain ⟨_, t, h2, _⟩ := T.vldB_true.1 h
    first
    | exact absurd h2 (T.enc_ne t)
    | exact absurd h2.symm (T.enc_ne t)
  · exact h
theorem T.fit_cases (t : T) : T.fit t = [] ∨ (T.vldB (T.fit t) = true ∧ 0 < (T.fit t).length) := by
  rw [T.fit]
  split
  · rename_i h; exact .inr ⟨h, by rw [T.enc_len]; omega⟩
  · exact .inl rfl
theorem T.baseRow_cases (n b : Int) : T.baseRow n b = [] ∨ (T.vldB (T.baseRow n b) = true ∧ 0 < (T.baseRow n b).length) := by
  unfold T.baseRow
  split
  · rcases T.fit_cases (T.ordB b.toNat n.toNat) with h | h
    · exact .inl h
    · exact .inr h
  · exact .inl rfl



theorem impl_ChangeBase (n a b : Int) (w : World) (hn0 : -9223372036854775808 ≤ n) (hn1 : n ≤ 9223372036854775807) (ha0 : -9223372036854775808 ≤ a) (ha1 : a ≤ 9223372036854775807) (hb0 : -9223372036854775808 ≤ b) (hb1 : b ≤ 9223372036854775807) :
    Calls Try.prog 13 #[.int .i64 n, .int .i64 a, .int .i64 b] w fun e w' => e = .returned (.int .i64 (T.changeI n a b)) ∧ Below w.heap.size w w' := by
  by_cases hr : 2 ≤ b ∧ b ≤ 90
  · have k1 := Lib.hid (isRoot_yes b w hr.1 hr.2)
    have k2 := Lib.hid (impl_OrdInBase n a w hn0 hn1 ha0 ha1)
    have k3 := Lib.hid (fun ao len cap wx h => impl_SlowValue ao len cap (T.baseRow n a) b wx h hb0 hb1)
    have he : T.changeI n a b = T.slowRow (T.baseRow n a) b := by rw [T.changeI, if_pos hr]
    rw [he]
    obtain ⟨r, hrr⟩ : ∃ r, r = T.baseRow n a := ⟨_, rfl⟩
    rw [← hrr] at k2 k3 ⊢
    clear hr he hrr hn0 hn1 ha0 ha1 hb0 hb1
    go_enter Try.func13, Try.ntmps13
    go_wp2_with fail
    refine (k1.out).mono ?_
    rintro ee wx ⟨rfl, rfl⟩
    go_wp2_with fail
    refine (k2.out).mono ?_
    rintro ee w1 ⟨a1, c1, rfl, ho1, hb1⟩
    have Hb1 := Lib.hid hb1
    have k4 := Lib.hid (k3.out _ _ _ w1 (Sl.of_own ho1))
    clear ho1 hb1
    go_wp2_with fail
    refine (k4.out).mono ?_
    rintro ee w2 ⟨rfl, hb2⟩
    have Hb2 := Lib.hid (Hb1.out.trans (hb2.mono Hb1.out.size))
    clear hb2
    go_wp2_with fail
    go_ret
    exact ⟨rfl, Hb2.out⟩
  · have k1 := Lib.hid (isRoot_no b w (by omega))
    have he : T.changeI n a b = -1 := by rw [T.changeI, if_neg hr]
    rw [he]
    clear hr he hn0 hn1 ha0 ha1 hb0 hb1
    go_enter Try.func13, Try.ntmps13
    go_wp2_with fail
    refine (k1.out).mono ?_
    rintro ee wx ⟨rfl, rfl⟩
    go_wp2_with fail
    go_ret
    exact ⟨rfl, Below.refl _ _⟩

theorem l3Value_row (ao : Option Addr) (len cap : Nat) (xs : List Int) (b : Nat) (w : World) (h : Sl w ao len cap xs) (h1 : T.vldB xs = true) (hb : 1 ≤ b) (hb2 : b ≤ 99) :
    Calls Try.prog 40 #[.slice ao len cap, .int .i64 b] w fun e w' => e = .returned (.int .i64 (T.slowRow xs b)) ∧ Below w.heap.size w w' := by
  obtain ⟨bb, off, t, rfl, rfl, hs, hos, hat, hn, hl, hp, hc, hm⟩ := h.valid h1
  have hr : T.slowRow t.enc (b : Int) = T.slowI b t := by rw [T.slowRow, if_pos ⟨h1, by omega, by omega⟩, hos]; rfl
  rw [hr]
  exact l3Value_any b hb hb2 (t.body.length + 1) bb off len cap t w (by omega) hn hl hc hm hat hs

theorem spec_ChangeBase (n a b : Int) (w : World) (hn0 : -9223372036854775808 ≤ n) (hn1 : n ≤ 9223372036854775807) (ha0 : -9223372036854775808 ≤ a) (ha1 : a ≤ 9223372036854775807) (_hb0 : -9223372036854775808 ≤ b) (_hb1 : b ≤ 9223372036854775807) :
    Calls Try.prog 12 #[.int .i64 n, .int .i64 a, .int .i64 b] w fun e w' => e = .returned (.int .i64 (T.changeI n a b)) ∧ Below w.heap.size w w' := by
  have k2 := Lib.hid (spec_OrdInBase n a w hn0 hn1 ha0 ha1)
  have hcs := T.baseRow_cases n a
  have hce : T.changeI n a b = if 2 ≤ b ∧ b ≤ 90 then T.slowRow (T.baseRow n a) b else -1 := rfl
  rw [hce]
  obtain ⟨r, hrr⟩ : ∃ r, r = T.baseRow n a := ⟨_, rfl⟩
  rw [← hrr] at k2 hcs ⊢
  clear hrr hce hn0 hn1 ha0 ha1
  rcases hcs with rfl | ⟨hv, hl⟩
  · have he : (if 2 ≤ b ∧ b ≤ 90 then T.slowRow [] b else -1) = (-1 : Int) := by
      split
      · exact T.slowRow_bad (.inl T.vldB_nil)
      · rfl
    rw [he]
    clear he
    go_enter Try.func12, Try.ntmps12
    go_wp2_with fail
    refine (k2.out).mono ?_
    rintro ee w1 ⟨a1, c1, rfl, ho1, hb1⟩
    have Hb1 := Lib.hid hb1
    clear ho1 hb1
    go_wp2_with fail
    go_ret
    exact ⟨rfl, Hb1.out⟩
  · have hl0 : (((r.length : Nat) : Int) == 0) = false := by simp; intro h9; rw [h9] at hl; simp at hl
    by_cases hr : 2 ≤ b ∧ b ≤ 90
    · have k1 := Lib.hid (fun wx => l1In_yes b 2 90 wx hr.1 hr.2)
      rw [if_pos hr]
      obtain ⟨b', rfl⟩ := Int.eq_ofNat_of_zero_le (show 0 ≤ b by omega)
      have hb1 : 1 ≤ b' := by omega
      have hb2 : b' ≤ 99 := by omega
      have k3 := Lib.hid (fun ao len cap wx h => l3Value_row ao len cap r b' wx h hv hb1 hb2)
      clear hr hb1 hb2 hv
      go_enter Try.func12, Try.ntmps12
      go_wp2_with fail
      refine (k2.out).mono ?_
      rintro ee w1 ⟨a1, c1, rfl, ho1, hb1⟩
      have Hb1 := Lib.hid hb1
      have k4 := Lib.hid (k3.out _ _ _ w1 (Sl.of_own ho1))
      clear ho1 hb1
      go_wp2_with fail
      refine (k1.out _).mono ?_
      rintro ee wx ⟨rfl, rfl⟩
      go_wp2_with fail
      refine (k4.out).mono ?_
      rintro ee w2 ⟨rfl, hb2⟩
      have Hb2 := Lib.hid (Hb1.out.trans (hb2.mono Hb1.out.size))
      clear hb2
      go_wp2_with fail
      go_ret
      exact ⟨rfl, Hb2.out⟩
    · have k1 := Lib.hid (fun wx => l1In_no b 2 90 wx (by omega))
      rw [if_neg hr]
      clear hr hv
      go_enter Try.func12, Try.ntmps12
      go_wp2_with fail
      refine (k2.out).mono ?_
      rintro ee w1 ⟨a1, c1, rfl, ho1, hb1⟩
      have Hb1 := Lib.hid hb1
      clear ho1 hb1
      go_wp2_with fail
      refine (k1.out _).mono ?_
      rintro ee wx ⟨rfl, rfl⟩
      go_wp2_with fail
      go_ret
      exact ⟨rfl, Hb1.out⟩

theorem T.changeI_vals (n a b : Int) : T.changeI n a b = -1 ∨ 0 ≤ T.changeI n a b ∧ T.changeI n a b ≤ 1000000000 := by
  rw [T.changeI]
  split
  · exact T.slowRow_vals _ _
  · exact .inl rfl
theorem T.changeI_out {n a b : Int} (h : n < 0 ∨ 1000000000 < n) : T.changeI n a b = -1 := by
  rw [T.changeI, T.baseRow_out (by omega)]
  split
  · exact T.slowRow_bad (.inl T.vldB_nil)
  · rfl

theorem mayFollow_any (n b : Int) (w : World) :
    Calls Try.prog 44 #[.int .i64 n, .int .i64 b] w fun e w' => e = .returned (.bool (decide ((1 ≤ n ∧ n ≤ 1000000000) ∧ 2 ≤ b ∧ b ≤ 89))) ∧ w = w' := by
  by_cases h1 : 0 < n
  · by_cases h2 : 1000000000 < n
    · have k1 := Lib.hid (isNumber_no n w (.inr h2))
      rw [decide_eq_false (by omega)]
      clear h2
      go_enter Try.func44, Try.ntmps44
      go_wp2_with fail
      refine (k1.out).mono ?_
      rintro ee wx ⟨rfl, rfl⟩
      go_wp2_with fail
      go_ret
      exact ⟨rfl, rfl⟩
    · have k1 := Lib.hid (isNumber_yes n w (by omega) (by omega))
      by_cases h3 : 2 ≤ b ∧ b ≤ 90
      · have k2 := Lib.hid (isRoot_yes b w h3.1 h3.2)
        have he : decide ((1 ≤ n ∧ n ≤ 1000000000) ∧ 2 ≤ b ∧ b ≤ 89) = decide (b < 90) := by
          by_cases h4 : b < 90
          · rw [decide_eq_true h4, decide_eq_true (by omega)]
          · rw [decide_eq_false h4, decide_eq_false (by omega)]
        rw [he]
        clear h2 h3 he
        go_enter Try.func44, Try.ntmps44
        go_wp2_with fail
        refine (k1.out).mono ?_
        rintro ee wx ⟨rfl, rfl⟩
        go_wp2_with fail
        refine (k2.out).mono ?_
        rintro ee wx ⟨rfl, rfl⟩
        go_wp2_with fail
        go_ret
        exact ⟨rfl, rfl⟩
      · have k2 := Lib.hid (isRoot_no b w (by omega))
        rw [decide_eq_false (by omega)]
        clear h2 h3
        go_enter Try.func44, Try.ntmps44
        go_wp2_with fail
        refine (k1.out).mono ?_
        rintro ee wx ⟨rfl, rfl⟩
        go_wp2_with fail
        refine (k2.out).mono ?_
        rintro ee wx ⟨rfl, rfl⟩
        go_wp2_with fail
        go_ret
        exact ⟨rfl, rfl⟩
  · rw [decide_eq_false (by omega)]
    go_enter Try.func44, Try.ntmps44
    go_wp2_with fail
    go_ret
    exact ⟨rfl, rfl⟩

end Go.Proofs.Ytfclhepmakhimaa
