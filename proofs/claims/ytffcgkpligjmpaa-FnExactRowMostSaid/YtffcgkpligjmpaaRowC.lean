/- Lists of numbers: how often one can drop, by the program and by the model. -/
import Derived.Test.YtffcgkpligjmpaaRowA
namespace Go.Proofs.Ytffcgkpligjmpaa
set_option maxRecDepth 100000
open Go.RowKit

/-- Digits read in a base. -/
def hor (b : Int) : Int → List Int → Int
  | a, [] => a
  | a, x :: xs => hor b (a * b + x) xs
def mostI (xs : List Int) (m : Int) : Int := if (rowB xs = true ∧ 0 ≤ m ∧ m ≤ 9) ∧ upTo m xs = true then hor (m + 1) 0 xs else -1
theorem mostI_in {xs : List Int} {m : Int} (h1 : rowB xs = true) (h2 : 0 ≤ m ∧ m ≤ 9) (h3 : upTo m xs = true) : mostI xs m = hor (m + 1) 0 xs := by rw [mostI, if_pos ⟨⟨h1, h2⟩, h3⟩]
theorem mostI_1 {xs : List Int} {m : Int} (h1 : rowB xs = false) : mostI xs m = -1 := by rw [mostI, if_neg (by rw [h1]; simp)]
theorem mostI_2 {xs : List Int} {m : Int} (h1 : ¬ (0 ≤ m ∧ m ≤ 9)) : mostI xs m = -1 := by rw [mostI, if_neg (fun h => h1 h.1.2)]
theorem mostI_3 {xs : List Int} {m : Int} (h1 : upTo m xs = false) : mostI xs m = -1 := by rw [mostI, if_neg (by rw [h1]; simp)]

theorem wrapR (q : Nat) (h : q ≤ 1000000000) : wrap64 (q : Int) = q := by unfold wrap64; omega
theorem next_measure {n i : Nat} (h : i < n) : n - (intOf (.int .i64 ((i : Int) + 1))).toNat < n - (intOf (.int .i64 (i : Int))).toNat := by
  show n - ((i : Int) + 1).toNat < n - (i : Int).toNat
  omega
theorem mulR (x b y : Nat) (h : y = x * b) (hy : y ≤ 1000000000) : wrap64 ((x : Int) * (b : Int)) = (y : Int) := by
  rw [show (x : Int) * (b : Int) = (y : Int) by rw [h]; exact (Int.natCast_mul _ _).symm]; exact wrapR _ hy
theorem addR (x b y : Nat) (h : y = x + b) (hy : y ≤ 1000000000) : wrap64 ((x : Int) + (b : Int)) = (y : Int) := by
  rw [show (x : Int) + (b : Int) = (y : Int) by rw [h]; exact (Int.natCast_add _ _).symm]; exact wrapR _ hy

/-- One digit more. -/
theorem hor_step {b v d i : Nat} {xs ys : List Int} {o : Int} (hb : b ≤ 10) (hd : d + 1 ≤ 10) (hv : v < 10 ^ i) (hi : i < 5) (h : hor b v xs = o) (hx : xs = (d : Int) :: ys) :
    ∃ x y : Nat, x = v * b ∧ y = x + d ∧ x ≤ 1000000 ∧ y ≤ 1000000 ∧ y < 10 ^ (i + 1) ∧ hor b y ys = o := by
  have h1 : v * b ≤ v * 10 := Nat.mul_le_mul_left _ hb
  have h2 : 10 ^ (i + 1) ≤ 10 ^ 5 := Nat.pow_le_pow_right (by decide) (by omega)
  have h3 : 10 ^ (i + 1) = 10 ^ i * 10 := Nat.pow_succ ..
  refine ⟨_, _, rfl, rfl, ?_, ?_, ?_, ?_⟩
  · omega
  · omega
  · omega
  · rw [← h, hx, hor]
    congr 1

set_option maxHeartbeats 1000000 in
theorem readDigs_any (b : Nat) (ao : Option Addr) (n c : Nat) (xs : List Int) (w : World) (hb : b ≤ 10) (hn : n ≤ 5) (hx : upTo 9 xs = true) (h : Sl w ao n c xs) :
    Calls Try.prog 51 #[.slice ao n c, .int .i64 b] w fun e w' => e = .returned (.int .i64 (hor b 0 xs)) ∧ w = w' := by
  obtain ⟨x1, x2, x3, x4⟩ := h
  have X1 := Lib.hid x1
  have X4 := Lib.hid x4
  have HX := Lib.hid hx
  obtain ⟨o, ho⟩ : ∃ o, o = hor b 0 xs := ⟨_, rfl⟩
  rw [← ho]
  have Ho := Lib.hid ho
  clear x1 x4 ho hx
  go_enter Try.func51, Try.ntmps51
  go_wp2_with fail
  go_loopg [5, 10] n (fun gk v5 v10 wr => ∃ (i v : Nat), w = wr ∧ v5 = .int .i64 v ∧ v10 = .int .i64 i ∧ gk + i = n ∧ Hid (hor b v (xs.drop i) = o) ∧ Hid (v < 10 ^ i))
  case atStart => exact ⟨0, 0, rfl, rfl, rfl, rfl, Lib.hid Ho.out.symm, Lib.hid (by decide)⟩
  case round =>
    obtain ⟨i, v, rfl, rfl, rfl, hgk, HV, HB⟩ := hrel
    have Hgk := Lib.hid hgk
    have hik : i ≤ n := by omega
    clear hgk
    by_cases hlt : i < n
    · obtain ⟨bb, off, rfl, hat⟩ := X4.out (by omega)
      have hix : i < xs.length := by rw [X1.out]; exact hlt
      obtain ⟨x, xt, hdx, hdx1⟩ := drop_cons (xs := xs) (a := i) hix
      have y0 := hat.get hdx
      have hxm : x ∈ xs := List.mem_of_mem_drop (by rw [hdx]; exact List.mem_cons_self)
      have hx9 := upTo_true.1 HX.out x hxm
      obtain ⟨d, rfl⟩ := Int.eq_ofNat_of_zero_le hx9.1
      obtain ⟨p, y, hp, hy, hp9, hy9, hy10, hn⟩ := hor_step hb (by omega) HB.out (by omega) HV.out hdx
      have hxw := mulR v b p hp (by omega)
      have hyw := addR p d y hy (by omega)
      have HN := Lib.hid (show hor b y (xs.drop (i + 1)) = o by rw [hdx1]; exact hn)
      have HY := Lib.hid hy10
      have HYW := Lib.hid (show (p : Int) + (d : Int) = (y : Int) by rw [hy]; exact (Int.natCast_add _ _).symm)
      clear hix hdx hdx1 hxm hp hy hy10 hn
      go_wp2_with fail
      go_roundg (gk - 1)
      case measure => have := Hgk.out; clear hxw hyw; omega
      case rel =>
        refine ⟨i + 1, y, rfl, congrArg (Value.int .i64) HYW.out, ?_, by have := Hgk.out; clear hxw hyw; omega, HN, HY⟩
        clear hxw hyw
        go_num
    · obtain rfl : i = n := by omega
      have HF := Lib.hid (show (v : Int) = o by have h1 := HV.out; rw [List.drop_eq_nil_of_le (by rw [X1.out]; exact Nat.le_refl _)] at h1; exact h1)
      go_wp2_with fail
      go_ret
      exact ⟨ret_int HF.out, rfl⟩

theorem impl_RowMost (ao : Option Addr) (n c : Nat) (xs : List Int) (m : Int) (w : World) (h : Sl w ao n c xs) (_hm0 : -9223372036854775808 ≤ m) (_hm1 : m ≤ 9223372036854775807) :
    Calls Try.prog 27 #[.slice ao n c, .int .i64 m] w fun e w' => e = .returned (.int .i64 (mostI xs m)) ∧ Below w.heap.size w w' := by
  have k1 := Lib.hid (iRowValid_any ao n c xs w h)
  rcases row_tf xs with h1 | h1
  · have hl := (rowB_true.1 h1).1
    rw [h.1] at hl
    have k2 := Lib.hid (allUpTo_any ao n c xs m w (by omega) h)
    by_cases hm : 0 ≤ m ∧ m ≤ 9
    · obtain ⟨q, rfl⟩ := Int.eq_ofNat_of_zero_le hm.1
      rw [h1] at k1
      rcases up_tf q xs with h2 | h2
      · have h9 : upTo 9 xs = true := upTo_true.2 (fun x hx => by have := upTo_true.1 h2 x hx; omega)
        have k3 := Lib.hid (readDigs_any (q + 1) ao n c xs w (by omega) (by omega) h9 h)
        rw [h2] at k2
        rw [mostI_in h1 hm h2]
        clear h h1 h2 h9
        go_enter Try.func27, Try.ntmps27
        go_wp2_with fail
        refine (k1.out).mono ?_
        rintro ee wx ⟨rfl, rfl⟩
        go_wp2_with fail
        refine (k2.out).mono ?_
        rintro ee wx ⟨rfl, rfl⟩
        go_wp2_with fail
        refine (k3.out).mono ?_
        rintro ee wx ⟨rfl, rfl⟩
        go_wp2_with fail
        go_ret
        exact ⟨rfl, Below.refl _ _⟩
      · rw [h2] at k2
        rw [mostI_3 h2]
        clear h h1 h2
        go_enter Try.func27, Try.ntmps27
        go_wp2_with fail
        refine (k1.out).mono ?_
        rintro ee wx ⟨rfl, rfl⟩
        go_wp2_with fail
        refine (k2.out).mono ?_
        rintro ee wx ⟨rfl, rfl⟩
        go_wp2_with fail
        go_ret
        exact ⟨rfl, Below.refl _ _⟩
    · rw [h1] at k1
      rw [mostI_2 hm]
      by_cases hm0 : m < 0
      · clear h h1 hm k2
        go_enter Try.func27, Try.ntmps27
        go_wp2_with fail
        refine (k1.out).mono ?_
        rintro ee wx ⟨rfl, rfl⟩
        go_wp2_with fail
        go_ret
        exact ⟨rfl, Below.refl _ _⟩
      · have hm9 : 9 < m := by omega
        clear h h1 hm k2
        go_enter Try.func27, Try.ntmps27
        go_wp2_with fail
        refine (k1.out).mono ?_
        rintro ee wx ⟨rfl, rfl⟩
        go_wp2_with fail
        go_ret
        exact ⟨rfl, Below.refl _ _⟩
  · rw [h1] at k1
    rw [mostI_1 h1]
    clear h h1
    go_enter Try.func27, Try.ntmps27
    go_wp2_with fail
    refine (k1.out).mono ?_
    rintro ee wx ⟨rfl, rfl⟩
    go_wp2_with fail
    go_ret
    exact ⟨rfl, Below.refl _ _⟩

set_option maxHeartbeats 1000000 in
theorem spec_RowMost (ao : Option Addr) (n c : Nat) (xs : List Int) (m : Int) (w : World) (h : Sl w ao n c xs) (_hm0 : -9223372036854775808 ≤ m) (_hm1 : m ≤ 9223372036854775807) :
    Calls Try.prog 26 #[.slice ao n c, .int .i64 m] w fun e w' => e = .returned (.int .i64 (mostI xs m)) ∧ Below w.heap.size w w' := by
  have k1 := Lib.hid (sRowValid_any ao n c xs w h)
  rcases row_tf xs with h1 | h1
  · have hl := (rowB_true.1 h1).1
    rw [h.1] at hl
    rw [h1] at k1
    by_cases hm : 0 ≤ m ∧ m ≤ 9
    · have k2 := Lib.hid (l1In_yes m 0 9 w hm.1 hm.2)
      obtain ⟨q, rfl⟩ := Int.eq_ofNat_of_zero_le hm.1
      obtain ⟨x1, x2, x3, x4⟩ := h
      obtain ⟨bb, off, rfl, hat⟩ := x4 (by omega)
      have X1 := Lib.hid x1
      have Hat := Lib.hid hat
      have H1 := Lib.hid h1
      obtain ⟨o, ho⟩ : ∃ o, o = mostI xs q := ⟨_, rfl⟩
      have HoI := Lib.hid (show upTo q xs = true → o = hor ((q + 1 : Nat) : Int) 0 xs from fun h9 => by rw [ho, mostI_in h1 hm h9]; rfl)
      have HoN := Lib.hid (show upTo q xs = false → o = -1 from fun h9 => by rw [ho, mostI_3 h9])
      have HX := Lib.hid (rowB_true.1 h1).2
      rw [← ho]
      clear h1 x1 x4 hat ho
      have hq9 : q ≤ 9 := by omega
      go_enter Try.func26, Try.ntmps26
      go_wp2_with fail
      refine (k1.out).mono ?_
      rintro ee wx ⟨rfl, rfl⟩
      go_wp2_with fail
      refine (k2.out).mono ?_
      rintro ee wx ⟨rfl, rfl⟩
      go_wp2_with fail
      go_loopw [5, 6] (fun v5 v6 wr => ∃ (i v : Nat), w = wr ∧ v5 = .int .i64 v ∧ v6 = .int .i64 i ∧ i ≤ n ∧ Hid (hor ((q + 1 : Nat) : Int) v (xs.drop i) = hor ((q + 1 : Nat) : Int) 0 xs) ∧ Hid (v < 10 ^ i) ∧ Hid (∀ j, j < i → xs.getD j 0 ≤ q)) (fun _ v6 _ => n - (intOf v6).toNat)
      case atStart => exact ⟨0, 0, rfl, rfl, rfl, Nat.zero_le _, Lib.hid rfl, Lib.hid (by decide), Lib.hid (fun j hj => by omega)⟩
      case round =>
        obtain ⟨i, v, rfl, rfl, rfl, hik, HV, HB, HE⟩ := hrel
        by_cases hlt : i < n
        · have hix : i < xs.length := by rw [X1.out]; exact hlt
          obtain ⟨x, xt, hdx, hdx1⟩ := drop_cons (xs := xs) (a := i) hix
          have y0 := Hat.out.get hdx
          have hxm : x ∈ xs := List.mem_of_mem_drop (by rw [hdx]; exact List.mem_cons_self)
          have hxg : xs.getD i 0 = x := by
            rw [getD_at hix]
            have h5 := List.drop_eq_getElem_cons hix
            rw [hdx] at h5
            exact (List.cons.inj h5).1.symm
          have hx9 := upTo_true.1 HX.out x hxm
          obtain ⟨d, rfl⟩ := Int.eq_ofNat_of_zero_le hx9.1
          by_cases hdq : (q : Int) < (d : Int)
          · have hoF := HoN.out (upTo_at hix (.inr (by rw [hxg]; exact hdq)))
            subst hoF
            clear hix hdx hdx1 hxm hxg hx9
            go_wp2_with fail
            go_ret
            exact ⟨rfl, Below.refl _ _⟩
          · have HE' := Lib.hid (show ∀ j, j < i + 1 → xs.getD j 0 ≤ q from fun j hj => by
              by_cases hji : j = i
              · rw [hji, hxg]; exact Int.not_lt.1 hdq
              · exact HE.out j (by omega))
            obtain ⟨p, y, hp, hy, hp9, hy9, hy10, hn⟩ := hor_step (b := q + 1) (by omega) (by omega) HB.out (by omega) HV.out hdx
            have hxw : wrap64 ((v : Int) * ((q : Int) + 1)) = (p : Int) := mulR v (q + 1) p hp (by omega)
            have hyw := addR p d y hy (by omega)
            have HN := Lib.hid (show hor ((q + 1 : Nat) : Int) y (xs.drop (i + 1)) = hor ((q + 1 : Nat) : Int) 0 xs by rw [hdx1]; exact hn)
            have HY := Lib.hid hy10
            have HYW := Lib.hid (show (p : Int) + (d : Int) = (y : Int) by rw [hy]; exact (Int.natCast_add _ _).symm)
            clear hix hdx hdx1 hxm hp hy hy10 hn hxg hx9
            go_wp2_with fail
            go_roundw
            case measure => exact next_measure hlt
            case rel =>
              refine ⟨i + 1, y, by trivial, congrArg (Value.int .i64) HYW.out, ?_, by clear hxw hyw; omega, HN, HY, HE'⟩
              clear hxw hyw
              go_num
        · obtain rfl : i = n := by omega
          have hup : upTo q xs = true := upTo_all (fun j hj => ⟨(upTo_get HX.out hj).1, HE.out j (by rw [← X1.out]; exact hj)⟩)
          have HF := Lib.hid (show (v : Int) = o by have h1 := HV.out; rw [List.drop_eq_nil_of_le (by rw [X1.out]; exact Nat.le_refl _)] at h1; rw [HoI.out hup]; exact h1)
          clear hup
          go_wp2_with fail
          go_ret
          exact ⟨ret_int HF.out, Below.refl _ _⟩
    · have k2 := Lib.hid (l1In_no m 0 9 w (by omega))
      rw [mostI_2 hm]
      clear h h1 hm
      go_enter Try.func26, Try.ntmps26
      go_wp2_with fail
      refine (k1.out).mono ?_
      rintro ee wx ⟨rfl, rfl⟩
      go_wp2_with fail
      refine (k2.out).mono ?_
      rintro ee wx ⟨rfl, rfl⟩
      go_wp2_with fail
      go_ret
      exact ⟨rfl, Below.refl _ _⟩
  · rw [h1] at k1
    rw [mostI_1 h1]
    clear h h1
    go_enter Try.func26, Try.ntmps26
    go_wp2_with fail
    refine (k1.out).mono ?_
    rintro ee wx ⟨rfl, rfl⟩
    go_wp2_with fail
    go_ret
    exact ⟨rfl, Below.refl _ _⟩

end Go.Proofs.Ytffcgkpligjmpaa
