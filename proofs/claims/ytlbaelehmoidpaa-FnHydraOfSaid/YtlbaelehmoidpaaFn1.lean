/- OrdCompare, OrdOf, OrdNumber, OrdKind: the program's and the model's answers. -/
import Derived.Test.YtlbaelehmoidpaaLawKit
import Derived.Test.YtlbaelehmoidpaaFnMath
namespace Go.Proofs.Ytlbaelehmoidpaa
set_option maxRecDepth 100000
open Go.RowKit

theorem impl_valid {v : Bool} (ao : Option Addr) (len cap : Nat) (xs : List Int) (w : World) (h : Sl w ao len cap xs) (hv : T.vldB xs = v) :
    Calls Try.prog 35 #[.slice ao len cap] w fun e w' => e = .returned (.bool v) ∧ Below w.heap.size w w' := by
  subst hv
  exact impl_OrdValid ao len cap xs w h

theorem spec_valid {v : Bool} (ao : Option Addr) (len cap : Nat) (xs : List Int) (w : World) (h : Sl w ao len cap xs) (hv : T.vldB xs = v) :
    Calls Try.prog 41 #[.slice ao len cap] w fun e w' => e = .returned (.bool v) ∧ Below w.heap.size w w' := by
  subst hv
  exact spec_OrdValid ao len cap xs w h

/-- A slice that reads as a valid ordinal. -/
theorem Sl.valid {w : World} {ao : Option Addr} {len cap : Nat} {xs : List Int} (h : Sl w ao len cap xs) (hv : T.vldB xs = true) :
    ∃ b off t, ao = some ⟨b, off, none⟩ ∧ xs = T.enc t ∧ t.Nf ∧ T.of xs = t ∧ At w b off t.enc ∧ len = t.enc.length ∧ len ≤ 60 ∧ 1 ≤ len ∧ len ≤ cap ∧ cap ≤ maxLen := by
  obtain ⟨t, h1, h2, h3, h4⟩ := T.vld_of hv
  have hl : len = t.enc.length := by rw [← h.1, h1]
  have hel := T.enc_len t
  obtain ⟨b, off, h5, h6⟩ := h.2.2.2 (by omega)
  exact ⟨b, off, t, h5, h1, h2, h4, by rw [← h1]; exact h6, hl, by omega, by omega, h.2.1, h.2.2.1⟩

theorem vld_tf (xs : List Int) : T.vldB xs = true ∨ T.vldB xs = false := by cases T.vldB xs <;> simp

theorem impl_OrdCompare (a1 a2 : Option Addr) (n1 c1 n2 c2 : Nat) (xs ys : List Int) (w : World) (hx : Sl w a1 n1 c1 xs) (hy : Sl w a2 n2 c2 ys) :
    Calls Try.prog 13 #[.slice a1 n1 c1, .slice a2 n2 c2] w fun e w' => e = .returned (.int .i64 (T.cmpRow xs ys)) ∧ Below w.heap.size w w' := by
  have HY := Lib.hid hy
  rcases vld_tf xs with h1 | h1
  · have k1 := Lib.hid (impl_valid a1 n1 c1 xs w hx h1)
    obtain ⟨b1, o1, s, rfl, rfl, hs, hos, hat1, hn1, hl1, hp1, hc1, hm1⟩ := hx.valid h1
    have HA1 := Lib.hid hat1
    have H1 := Lib.hid h1
    have HO := Lib.hid hos
    have HN1 := Lib.hid hn1
    clear hy h1 hos hs hat1 hn1
    go_enter Try.func13, Try.ntmps13
    go_wp2_with fail
    refine (k1.out).mono ?_
    rintro ee w1 ⟨rfl, hb1⟩
    have Hb1 := Lib.hid hb1
    clear hb1
    rcases vld_tf ys with h2 | h2
    · have k2 := Lib.hid (impl_valid a2 n2 c2 ys w1 (HY.out.below Hb1.out) h2)
      obtain ⟨b2, o2, t, rfl, rfl, ht, hot, hat2, hn2, hl2, hp2, hc2, hm2⟩ := HY.out.valid h2
      have HA2 := Lib.hid hat2
      have H2 := Lib.hid h2
      have HO2 := Lib.hid hot
      have HN2 := Lib.hid hn2
      clear h2 hot ht hat2 hn2
      go_wp2_with fail
      refine (k2.out).mono ?_
      rintro ee w2 ⟨rfl, hb2⟩
      have Hb2 := Lib.hid (Hb1.out.trans (hb2.mono Hb1.out.size))
      have k3 := Lib.hid (compareOrds_any (s.body.length + 1) b1 o1 c1 b2 o2 c2 n1 n2 s t w2 (by omega) HN1.out HN2.out (by omega) (by omega) hc1 hm1 hc2 hm2 (HA1.out.below Hb2.out (HA1.out.lt (T.enc_ne s))) (HA2.out.below Hb2.out (HA2.out.lt (T.enc_ne t))))
      clear hb2
      go_wp2_with fail
      refine (k3.out).mono ?_
      rintro ee w3 ⟨rfl, hb3⟩
      have Hb3 := Lib.hid (Hb2.out.trans (hb3.mono Hb2.out.size))
      clear hb3
      go_wp2_with fail
      go_ret
      exact ⟨ret_int (by rw [T.cmpRow_val H1.out H2.out, HO.out, HO2.out]), Hb3.out⟩
    · have k2 := Lib.hid (impl_valid a2 n2 c2 ys w1 (HY.out.below Hb1.out) h2)
      have H2 := Lib.hid h2
      clear h2
      go_wp2_with fail
      refine (k2.out).mono ?_
      rintro ee w2 ⟨rfl, hb2⟩
      have Hb2 := Lib.hid (Hb1.out.trans (hb2.mono Hb1.out.size))
      clear hb2
      go_wp2_with fail
      go_ret
      exact ⟨ret_int (by rw [T.cmpRow_bad (.inr H2.out)]), Hb2.out⟩
  · have k1 := Lib.hid (impl_valid a1 n1 c1 xs w hx h1)
    have H1 := Lib.hid h1
    clear hx hy h1
    go_enter Try.func13, Try.ntmps13
    go_wp2_with fail
    refine (k1.out).mono ?_
    rintro ee w1 ⟨rfl, hb1⟩
    have Hb1 := Lib.hid hb1
    clear hb1
    go_wp2_with fail
    go_ret
    exact ⟨ret_int (by rw [T.cmpRow_bad (.inl H1.out)]), Hb1.out⟩

theorem impl_OrdOf (n : Int) (w : World) (h1 : -9223372036854775808 ≤ n) (h2 : n ≤ 9223372036854775807) :
    Calls Try.prog 33 #[.int .i64 n] w fun e w' => ∃ ao cap, e = .returned (.slice ao (T.num' n).length cap) ∧ w'.ownsRow w.heap.size 3 1 (.slice ao (T.num' n).length cap) (T.num' n).length (ints (T.num' n)) ∧ Below w.heap.size w w' := by
  by_cases ha : n < 0
  · have hr : T.num' n = [] := by rw [T.num', if_pos (.inl ha)]
    rw [hr]
    go_enter Try.func33, Try.ntmps33
    go_wp2_with fail
    go_ret
    exact ⟨none, 0, rfl, World.ownsRow_nil _ _ _ _, Below.refl _ _⟩
  · by_cases hb : 9999 < n
    · have hr : T.num' n = [] := by rw [T.num', if_pos (.inr hb)]
      rw [hr]
      go_enter Try.func33, Try.ntmps33
      go_wp2_with fail
      go_ret
      exact ⟨none, 0, rfl, World.ownsRow_nil _ _ _ _, Below.refl _ _⟩
    · by_cases h0 : n = 0
      · subst h0
        have hr : T.num' 0 = [0] := rfl
        rw [hr]
        go_enter Try.func33, Try.ntmps33
        go_wp2_with fail
        go_ret
        exact ⟨_, 1, rfl, World.ownsRow_lit w _ 1 (Nat.le_refl _) (by simp [maxLen]) rfl, (Below.refl _ _).alloc (Nat.le_refl _) _⟩
      · have hr : T.num' n = [1, n, 0] := by rw [T.num', if_neg (by omega), if_neg h0]
        rw [hr]
        have hz : (n == 0) = false := by simpa using h0
        clear hr h0
        go_enter Try.func33, Try.ntmps33
        go_wp2_with fail
        go_ret
        exact ⟨_, 3, rfl, World.ownsRow_lit w _ 3 (Nat.le_refl _) (by simp [maxLen]) rfl, (Below.refl _ _).alloc (Nat.le_refl _) _⟩

theorem spec_OrdOf (n : Int) (w : World) (h1 : -9223372036854775808 ≤ n) (h2 : n ≤ 9223372036854775807) :
    Calls Try.prog 75 #[.int .i64 n] w fun e w' => ∃ ao cap, e = .returned (.slice ao (T.num' n).length cap) ∧ w'.ownsRow w.heap.size 3 1 (.slice ao (T.num' n).length cap) (T.num' n).length (ints (T.num' n)) ∧ Below w.heap.size w w' := by
  by_cases ha : n < 0 ∨ 9999 < n
  · have hr : T.num' n = [] := by rw [T.num', if_pos ha]
    rw [hr]
    have k := Lib.hid (l1In_no n 0 9999 w ha)
    clear ha hr
    go_enter Try.func75, Try.ntmps75
    go_wp2_with fail
    refine (k.out).mono ?_
    rintro ee w' ⟨rfl, rfl⟩
    go_wp2_with fail
    go_ret
    exact ⟨_, 0, rfl, World.ownsRow_lit w #[] 0 (Nat.le_refl _) (by simp [maxLen]) rfl, (Below.refl _ _).alloc (Nat.le_refl _) _⟩
  · have k := Lib.hid (l1In_yes n 0 9999 w (by omega) (by omega))
    by_cases h0 : n = 0
    · subst h0
      have hr : T.num' 0 = [0] := rfl
      rw [hr]
      go_enter Try.func75, Try.ntmps75
      go_wp2_with fail
      refine (k.out).mono ?_
      rintro ee w' ⟨rfl, rfl⟩
      go_wp2_with fail
      go_ret
      exact ⟨_, 1, rfl, World.ownsRow_lit w _ 1 (Nat.le_refl _) (by simp [maxLen]) rfl, (Below.refl _ _).alloc (Nat.le_refl _) _⟩
    · have hr : T.num' n = [1, n, 0] := by rw [T.num', if_neg (by omega), if_neg h0]
      rw [hr]
      have hz : (n == 0) = false := by simpa using h0
      clear hr h0
      go_enter Try.func75, Try.ntmps75
      go_wp2_with fail
      refine (k.out).mono ?_
      rintro ee w' ⟨rfl, rfl⟩
      go_wp2_with fail
      go_ret
      exact ⟨_, 3, rfl, World.ownsRow_lit w _ 3 (Nat.le_refl _) (by simp [maxLen]) rfl, (Below.refl _ _).alloc (Nat.le_refl _) _⟩

end Go.Proofs.Ytlbaelehmoidpaa
