/- Lists of numbers: how they are compared, by the program and by the model. -/
import Derived.Test.YtnacndlfjlibmaaRowA
namespace Go.Proofs.Ytnacndlfjlibmaa
set_option maxRecDepth 100000
open Go.RowKit

/-- The first place at which two lists differ decides. -/
def cmpL : List Int → List Int → Int
  | [], [] => 0
  | [], _ :: _ => -1
  | _ :: _, [] => 1
  | x :: xs, y :: ys => if x < y then -1 else if y < x then 1 else cmpL xs ys
theorem cmpL_lt {x y : Int} {xs ys : List Int} (h : x < y) : cmpL (x :: xs) (y :: ys) = -1 := by rw [cmpL, if_pos h]
theorem cmpL_gt {x y : Int} {xs ys : List Int} (h : y < x) : cmpL (x :: xs) (y :: ys) = 1 := by rw [cmpL, if_neg (by omega), if_pos h]
theorem cmpL_eq {x : Int} {xs ys : List Int} : cmpL (x :: xs) (x :: ys) = cmpL xs ys := by rw [cmpL, if_neg (by omega), if_neg (by omega)]
theorem cmpL_vals (xs ys : List Int) : cmpL xs ys = -1 ∨ cmpL xs ys = 0 ∨ cmpL xs ys = 1 := by
  fun_induction cmpL xs ys <;> simp_all

/-- The comparison of two lists; -2 for lists that can't be compared. -/
def rowCmp (xs ys : List Int) : Int := if (rowB xs = true ∧ rowB ys = true) ∧ xs.length = ys.length then cmpL xs ys else -2
theorem rowCmp_in {xs ys : List Int} (h1 : rowB xs = true) (h2 : rowB ys = true) (h3 : xs.length = ys.length) : rowCmp xs ys = cmpL xs ys := by rw [rowCmp, if_pos ⟨⟨h1, h2⟩, h3⟩]
theorem rowCmp_1 {xs ys : List Int} (h1 : rowB xs = false) : rowCmp xs ys = -2 := by rw [rowCmp, if_neg (by rw [h1]; simp)]
theorem rowCmp_2 {xs ys : List Int} (h1 : rowB ys = false) : rowCmp xs ys = -2 := by rw [rowCmp, if_neg (by rw [h1]; simp)]
theorem rowCmp_3 {xs ys : List Int} (h1 : xs.length ≠ ys.length) : rowCmp xs ys = -2 := by rw [rowCmp, if_neg (fun h => h1 h.2)]

theorem cmpI_lt {x y : Int} (h : x < y) : cmpI x y = -1 := by rw [cmpI, if_pos h]
theorem cmpI_gt {x y : Int} (h : y < x) : cmpI x y = 1 := by rw [cmpI, if_neg (by omega), if_pos h]
theorem cmpI_eq (x : Int) : cmpI x x = 0 := by rw [cmpI, if_neg (by omega), if_neg (by omega)]

set_option maxHeartbeats 2000000 in
theorem slicesCompare_any (a1 a2 : Option Addr) (n1 c1 n2 c2 : Nat) (xs ys : List Int) (w : World) (hb : n1 ≤ 1000000000000) (hb2 : n2 ≤ 1000000000000) (hx : Sl w a1 n1 c1 xs) (hy : Sl w a2 n2 c2 ys) :
    Calls Try.prog 62 #[.slice a1 n1 c1, .slice a2 n2 c2] w fun e w' => e = .returned (.int .i64 (cmpL xs ys)) ∧ w = w' := by
  obtain ⟨x1, x2, x3, x4⟩ := hx
  obtain ⟨y1, y2, y3, y4⟩ := hy
  have X1 := Lib.hid x1
  have X4 := Lib.hid x4
  have Y1 := Lib.hid y1
  have Y4 := Lib.hid y4
  obtain ⟨o, ho⟩ : ∃ o, o = cmpL xs ys := ⟨_, rfl⟩
  rw [← ho]
  have Ho := Lib.hid ho
  clear x1 x4 y1 y4 ho
  go_enter Try.func62, Try.ntmps62
  go_wp2_with fail
  go_loopg [11] n1 (fun gk i wr => ∃ (k : Nat), gk + k = n1 ∧ i = .int .i64 k ∧ k ≤ n2 ∧ Hid (cmpL (xs.drop k) (ys.drop k) = o) ∧ w = wr)
  case atStart => exact ⟨0, rfl, rfl, Nat.zero_le _, Lib.hid Ho.out.symm, rfl⟩
  case round =>
    obtain ⟨k, hgk, rfl, hk2, HE, rfl⟩ := hrel
    have Hgk := Lib.hid hgk
    have hk : k ≤ n1 := by omega
    clear hgk
    by_cases hlt : k < n1
    · obtain ⟨b, off, rfl, hat⟩ := X4.out (by omega)
      obtain ⟨x, xt, hdx, hdx1⟩ := drop_cons (xs := xs) (a := k) (by rw [X1.out]; exact hlt)
      have hx := hat.get hdx
      have HDX := Lib.hid hdx
      have HDX1 := Lib.hid hdx1
      clear hdx hdx1
      by_cases hlt2 : k < n2
      · obtain ⟨b', off', rfl, hat'⟩ := Y4.out (by omega)
        obtain ⟨y, yt, hdy, hdy1⟩ := drop_cons (xs := ys) (a := k) (by rw [Y1.out]; exact hlt2)
        have hy := hat'.get hdy
        have HDY := Lib.hid hdy
        have HDY1 := Lib.hid hdy1
        have kc := Lib.hid (cmp_int x y w)
        have hge : decide ((n2 : Int) ≤ (k : Int)) = false := by simp; omega
        clear hdy hdy1
        rcases Int.lt_trichotomy x y with hxy | hxy | hxy
        · have hof : o = -1 := by rw [← HE.out, HDX.out, HDY.out, cmpL_lt hxy]
          rw [cmpI_lt hxy] at kc
          subst hof
          clear hxy
          go_wp2_with fail
          refine (kc.out).mono ?_
          rintro ee wx ⟨rfl, rfl⟩
          go_wp2_with fail
          go_ret
          exact ⟨rfl, rfl⟩
        · subst hxy
          rw [cmpI_eq] at kc
          have hn := HE.out
          rw [HDX.out, HDY.out, cmpL_eq, ← HDX1.out, ← HDY1.out] at hn
          have HN := Lib.hid hn
          clear hn
          go_wp2_with fail
          refine (kc.out).mono ?_
          rintro ee wx ⟨rfl, rfl⟩
          go_wp2_with fail
          go_roundg (gk - 1)
          case measure => have := Hgk.out; omega
          case rel => exact ⟨k + 1, by have := Hgk.out; omega, by go_num, by omega, HN, rfl⟩
        · have hof : o = 1 := by rw [← HE.out, HDX.out, HDY.out, cmpL_gt hxy]
          rw [cmpI_gt hxy] at kc
          subst hof
          clear hxy
          go_wp2_with fail
          refine (kc.out).mono ?_
          rintro ee wx ⟨rfl, rfl⟩
          go_wp2_with fail
          go_ret
          exact ⟨rfl, rfl⟩
      · have hge : decide ((n2 : Int) ≤ (k : Int)) = true := by simp; omega
        have hnil : ys.drop k = [] := List.drop_eq_nil_of_le (by rw [Y1.out]; omega)
        have hof : o = 1 := by rw [← HE.out, HDX.out, hnil]; rfl
        subst hof
        clear hnil
        go_wp2_with fail
        go_ret
        exact ⟨rfl, rfl⟩
    · obtain rfl : k = n1 := by omega
      have hnil : xs.drop k = [] := List.drop_eq_nil_of_le (by rw [X1.out]; exact Nat.le_refl _)
      by_cases hlt2 : k < n2
      · obtain ⟨y, yt, hdy, hdy1⟩ := drop_cons (xs := ys) (a := k) (by rw [Y1.out]; exact hlt2)
        have hof : o = -1 := by rw [← HE.out, hnil, hdy]; rfl
        subst hof
        clear hnil hdy hdy1
        go_wp2_with fail
        go_ret
        exact ⟨rfl, rfl⟩
      · have hnil2 : ys.drop k = [] := List.drop_eq_nil_of_le (by rw [Y1.out]; omega)
        have hof : o = 0 := by rw [← HE.out, hnil, hnil2]; rfl
        subst hof
        clear hnil hnil2
        go_wp2_with fail
        go_ret
        exact ⟨rfl, rfl⟩

theorem iRowCompare_any (a1 a2 : Option Addr) (n1 c1 n2 c2 : Nat) (xs ys : List Int) (w : World) (hx : Sl w a1 n1 c1 xs) (hy : Sl w a2 n2 c2 ys) :
    Calls Try.prog 19 #[.slice a1 n1 c1, .slice a2 n2 c2] w fun e w' => e = .returned (.int .i64 (rowCmp xs ys)) ∧ w = w' := by
  have k1 := Lib.hid (iRowValid_any a1 n1 c1 xs w hx)
  have k2 := Lib.hid (iRowValid_any a2 n2 c2 ys w hy)
  rcases row_tf xs with h1 | h1
  · rcases row_tf ys with h2 | h2
    · have hl1 := (rowB_true.1 h1).1
      have hl2 := (rowB_true.1 h2).1
      rw [hx.1] at hl1
      rw [hy.1] at hl2
      rw [h1] at k1
      rw [h2] at k2
      by_cases hn : n1 = n2
      · have k3 := Lib.hid (slicesCompare_any a1 a2 n1 c1 n2 c2 xs ys w (by omega) (by omega) hx hy)
        rw [rowCmp_in h1 h2 (by rw [hx.1, hy.1]; exact hn)]
        have hne : ((n1 : Int) != (n2 : Int)) = false := by simp; omega
        clear hx hy h1 h2 hn
        go_enter Try.func19, Try.ntmps19
        go_wp2_with fail
        refine (k1.out).mono ?_
        rintro ee wx ⟨rfl, rfl⟩
        go_wp2_with fail
        refine (k2.out).mono ?_
        rintro ee wx ⟨rfl, rfl⟩
        go_wp2_with fail
        refine (k3.out).mono ?_
        rintro ee wx ⟨rfl, rfl⟩
        go_wp2_with fail
        go_ret
        exact ⟨rfl, rfl⟩
      · rw [rowCmp_3 (by rw [hx.1, hy.1]; exact hn)]
        have hne : ((n1 : Int) != (n2 : Int)) = true := by simp; omega
        clear hx hy h1 h2 hn
        go_enter Try.func19, Try.ntmps19
        go_wp2_with fail
        refine (k1.out).mono ?_
        rintro ee wx ⟨rfl, rfl⟩
        go_wp2_with fail
        refine (k2.out).mono ?_
        rintro ee wx ⟨rfl, rfl⟩
        go_wp2_with fail
        go_ret
        exact ⟨rfl, rfl⟩
    · rw [rowCmp_2 h2]
      rw [h1] at k1
      rw [h2] at k2
      clear hx hy h1 h2
      go_enter Try.func19, Try.ntmps19
      go_wp2_with fail
      refine (k1.out).mono ?_
      rintro ee wx ⟨rfl, rfl⟩
      go_wp2_with fail
      refine (k2.out).mono ?_
      rintro ee wx ⟨rfl, rfl⟩
      go_wp2_with fail
      go_ret
      exact ⟨rfl, rfl⟩
  · rw [rowCmp_1 h1]
    rw [h1] at k1
    clear hx hy h1
    go_enter Try.func19, Try.ntmps19
    go_wp2_with fail
    refine (k1.out).mono ?_
    rintro ee wx ⟨rfl, rfl⟩
    go_wp2_with fail
    go_ret
    exact ⟨rfl, rfl⟩

set_option maxHeartbeats 2000000 in
theorem spec_RowCompare (a1 a2 : Option Addr) (n1 c1 n2 c2 : Nat) (xs ys : List Int) (w : World) (hx : Sl w a1 n1 c1 xs) (hy : Sl w a2 n2 c2 ys) :
    Calls Try.prog 20 #[.slice a1 n1 c1, .slice a2 n2 c2] w fun e w' => e = .returned (.int .i64 (rowCmp xs ys)) ∧ Below w.heap.size w w' := by
  have k1 := Lib.hid (sRowValid_any a1 n1 c1 xs w hx)
  have k2 := Lib.hid (sRowValid_any a2 n2 c2 ys w hy)
  rcases row_tf xs with h1 | h1
  · rcases row_tf ys with h2 | h2
    · have hl1 := (rowB_true.1 h1).1
      have hl2 := (rowB_true.1 h2).1
      rw [hx.1] at hl1
      rw [hy.1] at hl2
      rw [h1] at k1
      rw [h2] at k2
      by_cases hn : n1 = n2
      · subst hn
        rw [rowCmp_in h1 h2 (by rw [hx.1, hy.1])]
        obtain ⟨x1, x2, x3, x4⟩ := hx
        obtain ⟨y1, y2, y3, y4⟩ := hy
        obtain ⟨b, off, rfl, hat⟩ := x4 (by omega)
        obtain ⟨b', off', rfl, hat'⟩ := y4 (by omega)
        have X1 := Lib.hid x1
        have Y1 := Lib.hid y1
        have Hat := Lib.hid hat
        have Hat' := Lib.hid hat'
        obtain ⟨o, ho⟩ : ∃ o, o = cmpL xs ys := ⟨_, rfl⟩
        rw [← ho]
        have Ho := Lib.hid ho
        have hne : ((n1 : Int) != (n1 : Int)) = false := by simp
        have hbl : b < w.heap.size := hat.lt (by intro h; rw [h] at x1; simp at x1; omega)
        have hbl' : b' < w.heap.size := hat'.lt (by intro h; rw [h] at y1; simp at y1; omega)
        clear h1 h2 x1 x4 y1 y4 ho hat hat'
        go_enter Try.func20, Try.ntmps20
        go_wp2_with fail
        refine (k1.out).mono ?_
        rintro ee wx ⟨rfl, rfl⟩
        go_wp2_with fail
        refine (k2.out).mono ?_
        rintro ee wx ⟨rfl, rfl⟩
        go_wp2_with fail
        go_loopw [5] (fun i wr => ∃ (k : Nat), k ≤ n1 ∧ i = .int .i64 k ∧ Hid (cmpL (xs.drop k) (ys.drop k) = o) ∧ Below w.heap.size w wr) (fun i _ => n1 - (intOf i).toNat)
        case atStart => exact ⟨0, Nat.zero_le _, rfl, Lib.hid Ho.out.symm, Below.refl _ _⟩
        case round =>
          obtain ⟨k, hk, rfl, HE, hbel⟩ := hrel
          by_cases hlt : k < n1
          · obtain ⟨x, xt, hdx, hdx1⟩ := drop_cons (xs := xs) (a := k) (by rw [X1.out]; exact hlt)
            have hx := (Hat.out.below hbel hbl).get hdx
            obtain ⟨y, yt, hdy, hdy1⟩ := drop_cons (xs := ys) (a := k) (by rw [Y1.out]; exact hlt)
            have hy := (Hat'.out.below hbel hbl').get hdy
            have HDX := Lib.hid hdx
            have HDX1 := Lib.hid hdx1
            have HDY := Lib.hid hdy
            have HDY1 := Lib.hid hdy1
            clear hdx hdx1 hdy hdy1
            rcases Int.lt_trichotomy x y with hxy | hxy | hxy
            · have hof : o = -1 := by rw [← HE.out, HDX.out, HDY.out, cmpL_lt hxy]
              subst hof
              go_wp2_with fail
              go_quiet (fail)
              go_wp2_with fail
              go_ret
              exact ⟨rfl, hbel.trans (Joins.below_draws _ _ _)⟩
            · subst hxy
              have hn := HE.out
              rw [HDX.out, HDY.out, cmpL_eq, ← HDX1.out, ← HDY1.out] at hn
              have HN := Lib.hid hn
              have hno : decide (x < x) = false := by simp
              clear hn
              go_wp2_with fail
              go_quiet (fail)
              go_wp2_with fail
              go_quiet (fail)
              go_wp2_with fail
              go_roundw
              case rel => exact ⟨k + 1, by omega, by go_num, HN, hbel.trans (Joins.below_draws _ _ _)⟩
              case measure => simp [intOf]; omega
            · have hof : o = 1 := by rw [← HE.out, HDX.out, HDY.out, cmpL_gt hxy]
              have hno : decide (x < y) = false := by simp; omega
              subst hof
              go_wp2_with fail
              go_quiet (fail)
              go_wp2_with fail
              go_quiet (fail)
              go_wp2_with fail
              go_ret
              exact ⟨rfl, (hbel.trans (Joins.below_draws _ _ _)).trans (Joins.below_draws _ _ _)⟩
          · obtain rfl : k = n1 := by omega
            have hof : o = 0 := by rw [← HE.out, List.drop_eq_nil_of_le (by rw [X1.out]; exact Nat.le_refl _), List.drop_eq_nil_of_le (by rw [Y1.out]; exact Nat.le_refl _)]; rfl
            subst hof
            go_wp2_with fail
            go_ret
            exact ⟨rfl, hbel⟩
      · rw [rowCmp_3 (by rw [hx.1, hy.1]; exact hn)]
        have hne : ((n1 : Int) != (n2 : Int)) = true := by simp; omega
        clear hx hy h1 h2 hn
        go_enter Try.func20, Try.ntmps20
        go_wp2_with fail
        refine (k1.out).mono ?_
        rintro ee wx ⟨rfl, rfl⟩
        go_wp2_with fail
        refine (k2.out).mono ?_
        rintro ee wx ⟨rfl, rfl⟩
        go_wp2_with fail
        go_ret
        exact ⟨rfl, Below.refl _ _⟩
    · rw [rowCmp_2 h2]
      rw [h1] at k1
      rw [h2] at k2
      clear hx hy h1 h2
      go_enter Try.func20, Try.ntmps20
      go_wp2_with fail
      refine (k1.out).mono ?_
      rintro ee wx ⟨rfl, rfl⟩
      go_wp2_with fail
      refine (k2.out).mono ?_
      rintro ee wx ⟨rfl, rfl⟩
      go_wp2_with fail
      go_ret
      exact ⟨rfl, Below.refl _ _⟩
  · rw [rowCmp_1 h1]
    rw [h1] at k1
    clear hx hy h1
    go_enter Try.func20, Try.ntmps20
    go_wp2_with fail
    refine (k1.out).mono ?_
    rintro ee wx ⟨rfl, rfl⟩
    go_wp2_with fail
    go_ret
    exact ⟨rfl, Below.refl _ _⟩

theorem impl_RowCompare (a1 a2 : Option Addr) (n1 c1 n2 c2 : Nat) (xs ys : List Int) (w : World) (hx : Sl w a1 n1 c1 xs) (hy : Sl w a2 n2 c2 ys) :
    Calls Try.prog 19 #[.slice a1 n1 c1, .slice a2 n2 c2] w fun e w' => e = .returned (.int .i64 (rowCmp xs ys)) ∧ Below w.heap.size w w' :=
  (iRowCompare_any a1 a2 n1 c1 n2 c2 xs ys w hx hy).mono (fun _ _ h9 => by obtain ⟨h1, rfl⟩ := h9; exact ⟨h1, Below.refl _ _⟩)

end Go.Proofs.Ytnacndlfjlibmaa
