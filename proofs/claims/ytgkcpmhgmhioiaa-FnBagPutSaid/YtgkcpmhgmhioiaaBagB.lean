/- Multisets: how they are compared, by the program and by the model. -/
import Derived.Test.YtgkcpmhgmhioiaaBagA
namespace Go.Proofs.Ytgkcpmhgmhioiaa
set_option maxRecDepth 100000
open Go.RowKit

/-- The first place at which two lists differ decides. -/
def cmpL : List Int → List Int → Int
  | [], [] => 0
  | [], _ :: _ => -1
  | _ :: _, [] => 1
  | x :: xs, y :: ys => if x < y then -1 else if y < x then 1 else cmpL xs ys
theorem cmpL_lt {x y : Int} {xs ys : List Int} (h : x < y) : cmpL (x :: xs) (y :: ys) = -1 := by rw [cmpL, if_pos h]
theorem cmpL_gt {x y : Int} {xs ys : List Int} (h : y < x) : cmpL (x :: xs) (y :: ys) = 1 := by rw [cmpL, if_neg (by omega), if_pos h]
theorem cmpL_eq {x : Int} {xs ys : List Int} : cmpL (x :: xs) (x :: ys) = cmpL xs ys := by rw [cmpL, if_neg (by omega), if_neg (by omega)]
theorem cmpL_vals (xs ys : List Int) : cmpL xs ys = -1 ∨ cmpL xs ys = 0 ∨ cmpL xs ys = 1 := by
  fun_induction cmpL xs ys <;> simp_all

theorem cmpI_lt {x y : Int} (h : x < y) : cmpI x y = -1 := by rw [cmpI, if_pos h]
theorem cmpI_gt {x y : Int} (h : y < x) : cmpI x y = 1 := by rw [cmpI, if_neg (by omega), if_pos h]
theorem cmpI_eq (x : Int) : cmpI x x = 0 := by rw [cmpI, if_neg (by omega), if_neg (by omega)]

set_option maxHeartbeats 2000000 in
theorem slicesCompare_any (a1 a2 : Option Addr) (n1 c1 n2 c2 : Nat) (xs ys : List Int) (w : World) (hb : n1 ≤ 1000000000000) (hb2 : n2 ≤ 1000000000000) (hx : Sl w a1 n1 c1 xs) (hy : Sl w a2 n2 c2 ys) :
    Calls Try.prog 67 #[.slice a1 n1 c1, .slice a2 n2 c2] w fun e w' => e = .returned (.int .i64 (cmpL xs ys)) ∧ w = w' := by
  obtain ⟨x1, x2, x3, x4⟩ := hx
  obtain ⟨y1, y2, y3, y4⟩ := hy
  have X1 := Lib.hid x1
  have X4 := Lib.hid x4
  have Y1 := Lib.hid y1
  have Y4 := Lib.hid y4
  obtain ⟨o, ho⟩ : ∃ o, o = cmpL xs ys := ⟨_, rfl⟩
  rw [← ho]
  have Ho := Lib.hid ho
  clear x1 x4 y1 y4 ho
  go_enter Try.func67, Try.ntmps67
  go_wp2_with fail
  go_loopg [11] n1 (fun gk i wr => ∃ (k : Nat), gk + k = n1 ∧ i = .int .i64 k ∧ k ≤ n2 ∧ Hid (cmpL (xs.drop k) (ys.drop k) = o) ∧ w = wr)
  case atStart => exact ⟨0, rfl, rfl, Nat.zero_le _, Lib.hid Ho.out.symm, rfl⟩
  case round =>
    obtain ⟨k, hgk, rfl, hk2, HE, rfl⟩ := hrel
    have Hgk := Lib.hid hgk
    have hk : k ≤ n1 := by omega
    clear hgk
    by_cases hlt : k < n1
    · obtain ⟨b, off, rfl, hat⟩ := X4.out (by omega)
      obtain ⟨x, xt, hdx, hdx1⟩ := drop_cons (xs := xs) (a := k) (by rw [X1.out]; exact hlt)
      have hx := hat.get hdx
      have HDX := Lib.hid hdx
      have HDX1 := Lib.hid hdx1
      clear hdx hdx1
      by_cases hlt2 : k < n2
      · obtain ⟨b', off', rfl, hat'⟩ := Y4.out (by omega)
        obtain ⟨y, yt, hdy, hdy1⟩ := drop_cons (xs := ys) (a := k) (by rw [Y1.out]; exact hlt2)
        have hy := hat'.get hdy
        have HDY := Lib.hid hdy
        have HDY1 := Lib.hid hdy1
        have kc := Lib.hid (cmp_int x y w)
        have hge : decide ((n2 : Int) ≤ (k : Int)) = false := by simp; omega
        clear hdy hdy1
        rcases Int.lt_trichotomy x y with hxy | hxy | hxy
        · have hof : o = -1 := by rw [← HE.out, HDX.out, HDY.out, cmpL_lt hxy]
          rw [cmpI_lt hxy] at kc
          subst hof
          clear hxy
          go_wp2_with fail
          refine (kc.out).mono ?_
          rintro ee wx ⟨rfl, rfl⟩
          go_wp2_with fail
          go_ret
          exact ⟨rfl, rfl⟩
        · subst hxy
          rw [cmpI_eq] at kc
          have hn := HE.out
          rw [HDX.out, HDY.out, cmpL_eq, ← HDX1.out, ← HDY1.out] at hn
          have HN := Lib.hid hn
          clear hn
          go_wp2_with fail
          refine (kc.out).mono ?_
          rintro ee wx ⟨rfl, rfl⟩
          go_wp2_with fail
          go_roundg (gk - 1)
          case measure => have := Hgk.out; omega
          case rel => exact ⟨k + 1, by have := Hgk.out; omega, by go_num, by omega, HN, rfl⟩
        · have hof : o = 1 := by rw [← HE.out, HDX.out, HDY.out, cmpL_gt hxy]
          rw [cmpI_gt hxy] at kc
          subst hof
          clear hxy
          go_wp2_with fail
          refine (kc.out).mono ?_
          rintro ee wx ⟨rfl, rfl⟩
          go_wp2_with fail
          go_ret
          exact ⟨rfl, rfl⟩
      · have hge : decide ((n2 : Int) ≤ (k : Int)) = true := by simp; omega
        have hnil : ys.drop k = [] := List.drop_eq_nil_of_le (by rw [Y1.out]; omega)
        have hof : o = 1 := by rw [← HE.out, HDX.out, hnil]; rfl
        subst hof
        clear hnil
        go_wp2_with fail
        go_ret
        exact ⟨rfl, rfl⟩
    · obtain rfl : k = n1 := by omega
      have hnil : xs.drop k = [] := List.drop_eq_nil_of_le (by rw [X1.out]; exact Nat.le_refl _)
      by_cases hlt2 : k < n2
      · obtain ⟨y, yt, hdy, hdy1⟩ := drop_cons (xs := ys) (a := k) (by rw [Y1.out]; exact hlt2)
        have hof : o = -1 := by rw [← HE.out, hnil, hdy]; rfl
        subst hof
        clear hnil hdy hdy1
        go_wp2_with fail
        go_ret
        exact ⟨rfl, rfl⟩
      · have hnil2 : ys.drop k = [] := List.drop_eq_nil_of_le (by rw [Y1.out]; omega)
        have hof : o = 0 := by rw [← HE.out, hnil, hnil2]; rfl
        subst hof
        clear hnil hnil2
        go_wp2_with fail
        go_ret
        exact ⟨rfl, rfl⟩

/-- From the greatest number on, the one of which there are fewer is less. -/
def cmpC (xs ys : List Int) : Nat → Int
  | 0 => 0
  | k + 1 => if xs.count (k : Int) < ys.count (k : Int) then -1 else if ys.count (k : Int) < xs.count (k : Int) then 1 else cmpC xs ys k

theorem desc_pw : ∀ xs : List Int, DescTo xs.length xs → xs.Pairwise (fun a b => b ≤ a)
  | [], _ => List.Pairwise.nil
  | [x], _ => by simp
  | x :: y :: t, h => by
    have h2 := desc_pw (y :: t) (fun j hj => by
      have := h (j + 1) (by simp at hj ⊢; omega)
      simpa using this)
    have hxy : y ≤ x := by simpa using h 0 (by simp)
    refine List.pairwise_cons.2 ⟨fun z hz => ?_, h2⟩
    rcases List.mem_cons.1 hz with rfl | hz
    · exact hxy
    · have := (List.pairwise_cons.1 h2).1 z hz
      omega

/-- The greatest numbers stand ahead. -/
theorem desc_split (k : Nat) : ∀ xs : List Int, xs.Pairwise (fun a b => b ≤ a) → (∀ x ∈ xs, 0 ≤ x ∧ x < k + 1) →
    ∃ t, xs = List.replicate (xs.count (k : Int)) (k : Int) ++ t ∧ t.Pairwise (fun a b => b ≤ a) ∧ ∀ x ∈ t, 0 ≤ x ∧ x < k := by
  intro xs
  induction xs with
  | nil => exact fun _ _ => ⟨[], by simp, List.Pairwise.nil, by simp⟩
  | cons x xs ih =>
    intro hp hb
    have hp' := List.pairwise_cons.1 hp
    by_cases hx : x = (k : Int)
    · subst hx
      obtain ⟨t, h1, h2, h3⟩ := ih hp'.2 (fun y hy => hb y (List.mem_cons_of_mem _ hy))
      refine ⟨t, ?_, h2, h3⟩
      rw [List.count_cons_self, List.replicate_succ, List.cons_append, ← h1]
    · have hxk := hb x List.mem_cons_self
      have hall : ∀ y ∈ x :: xs, 0 ≤ y ∧ y < k := by
        intro y hy
        rcases List.mem_cons.1 hy with rfl | hy
        · omega
        · have := hp'.1 y hy
          have := hb y (List.mem_cons_of_mem _ hy)
          omega
      have hc : (x :: xs).count (k : Int) = 0 := List.count_eq_zero.2 (fun h => by have := hall _ h; omega)
      exact ⟨x :: xs, by rw [hc]; rfl, hp, hall⟩

theorem cmpL_rep (m : Int) (s t : List Int) (hs : ∀ x ∈ s, x < m) (ht : ∀ x ∈ t, x < m) : ∀ a b : Nat,
    cmpL (List.replicate a m ++ s) (List.replicate b m ++ t) = if a < b then -1 else if b < a then 1 else cmpL s t := by
  intro a
  induction a with
  | zero =>
    intro b
    cases b with
    | zero => simp
    | succ b =>
      rw [if_pos (by omega), List.replicate_succ]
      cases s with
      | nil => rfl
      | cons x s => exact cmpL_lt (hs x List.mem_cons_self)
  | succ a ih =>
    intro b
    cases b with
    | zero =>
      rw [if_neg (by omega), if_pos (by omega), List.replicate_succ]
      cases t with
      | nil => rfl
      | cons x t => exact cmpL_gt (ht x List.mem_cons_self)
    | succ b =>
      rw [List.replicate_succ, List.replicate_succ, List.cons_append, List.cons_append, cmpL_eq, ih b]
      by_cases h1 : a < b
      · rw [if_pos h1, if_pos (by omega)]
      · rw [if_neg h1, if_neg (show ¬ a + 1 < b + 1 by omega)]
        by_cases h2 : b < a
        · rw [if_pos h2, if_pos (by omega)]
        · rw [if_neg h2, if_neg (by omega)]

theorem count_rep (k j : Nat) (a : Nat) (t : List Int) (h : j < k) : (List.replicate a (k : Int) ++ t).count (j : Int) = t.count (j : Int) := by
  rw [List.count_append, List.count_replicate]
  have : ((k : Int) == (j : Int)) = false := by simp; omega
  rw [this]
  simp

theorem cmpC_rep (k : Nat) (a b : Nat) (s t : List Int) : ∀ j, j ≤ k → cmpC (List.replicate a (k : Int) ++ s) (List.replicate b (k : Int) ++ t) j = cmpC s t j := by
  intro j
  induction j with
  | zero => intro _; rfl
  | succ j ih =>
    intro hj
    rw [cmpC, cmpC, count_rep k j a s (by omega), count_rep k j b t (by omega), ih (by omega)]

theorem cmpL_counts : ∀ (k : Nat) (xs ys : List Int), xs.Pairwise (fun a b => b ≤ a) → ys.Pairwise (fun a b => b ≤ a) → (∀ x ∈ xs, 0 ≤ x ∧ x < k) → (∀ x ∈ ys, 0 ≤ x ∧ x < k) → cmpL xs ys = cmpC xs ys k := by
  intro k
  induction k with
  | zero =>
    intro xs ys _ _ hx hy
    have h1 : xs = [] := List.eq_nil_iff_forall_not_mem.2 (fun x h => by have := hx x h; omega)
    have h2 : ys = [] := List.eq_nil_iff_forall_not_mem.2 (fun x h => by have := hy x h; omega)
    subst h1 h2
    rfl
  | succ k ih =>
    intro xs ys px py hx hy
    obtain ⟨s, e1, ps, hs⟩ := desc_split k xs px (fun x h => by have := hx x h; omega)
    obtain ⟨t, e2, pt, ht⟩ := desc_split k ys py (fun x h => by have := hy x h; omega)
    rw [cmpC]
    have h3 := ih s t ps pt hs ht
    obtain ⟨a, ha⟩ : ∃ a, a = xs.count (k : Int) := ⟨_, rfl⟩
    obtain ⟨b, hb⟩ : ∃ b, b = ys.count (k : Int) := ⟨_, rfl⟩
    rw [← ha] at e1 ⊢
    rw [← hb] at e2 ⊢
    have h4 : cmpC xs ys k = cmpC s t k := by rw [e1, e2]; exact cmpC_rep k a b s t k (Nat.le_refl _)
    rw [h4, ← h3, e1, e2]
    exact cmpL_rep k s t (fun x h => (hs x h).2) (fun x h => (ht x h).2) a b

theorem bag_pw {xs : List Int} (h : bagB xs = true) : xs.Pairwise (fun a b => b ≤ a) := desc_pw xs (bagB_true.1 h).2
theorem bag_bnd {xs : List Int} (h : bagB xs = true) : ∀ x ∈ xs, 0 ≤ x ∧ x < (10 : Nat) := fun x hx => by
  have := upTo_true.1 (itemsB_true.1 (bagB_true.1 h).1).2 x hx
  omega
theorem cmpL_cmpC {xs ys : List Int} (h1 : bagB xs = true) (h2 : bagB ys = true) : cmpL xs ys = cmpC xs ys 10 := cmpL_counts 10 xs ys (bag_pw h1) (bag_pw h2) (bag_bnd h1) (bag_bnd h2)

/-- The comparison of two multisets; -2 for other lists. -/
noncomputable def bagCmp (xs ys : List Int) : Int := if bagB xs = true ∧ bagB ys = true then cmpL xs ys else -2
theorem bagCmp_in {xs ys : List Int} (h1 : bagB xs = true) (h2 : bagB ys = true) : bagCmp xs ys = cmpL xs ys := by rw [bagCmp, if_pos ⟨h1, h2⟩]
theorem bagCmp_1 {xs ys : List Int} (h1 : bagB xs = false) : bagCmp xs ys = -2 := by rw [bagCmp, if_neg (by rw [h1]; simp)]
theorem bagCmp_2 {xs ys : List Int} (h1 : bagB ys = false) : bagCmp xs ys = -2 := by rw [bagCmp, if_neg (by rw [h1]; simp)]

theorem count_take {xs : List Int} {m x : Int} {k : Nat} {t : List Int} (h : xs.drop k = x :: t) : (xs.take (k + 1)).count m = (xs.take k).count m + (if x = m then 1 else 0) := by
  have hk : k < xs.length := by
    have := congrArg List.length h
    simp at this
    omega
  have hx : xs[k] = x := by
    have h5 := List.drop_eq_getElem_cons hk
    rw [h] at h5
    exact (List.cons.inj h5).1.symm
  rw [List.take_succ_eq_append_getElem hk, List.count_append, hx]
  congr 1
  rw [List.count_cons, List.count_nil]
  by_cases hm : x = m
  · simp [hm]
  · simp [hm]

set_option maxHeartbeats 1000000 in
theorem l6Many_any (ao : Option Addr) (n c : Nat) (xs : List Int) (m : Int) (w : World) (hb : n ≤ 1000000000000) (h : Sl w ao n c xs) :
    Calls Try.prog 59 #[.slice ao n c, .int .i64 m] w fun e w' => e = .returned (.int .i64 (xs.count m : Nat)) ∧ w = w' := by
  obtain ⟨x1, x2, x3, x4⟩ := h
  have X1 := Lib.hid x1
  have X4 := Lib.hid x4
  clear x1 x4
  go_enter Try.func59, Try.ntmps59
  go_wp2_with fail
  go_loopw [5, 6] (fun v5 v6 wr => ∃ (k q : Nat), k ≤ n ∧ q ≤ k ∧ v5 = .int .i64 q ∧ v6 = .int .i64 k ∧ Hid (q = (xs.take k).count m) ∧ w = wr) (fun _ v6 _ => n - (intOf v6).toNat)
  case atStart => exact ⟨0, 0, Nat.zero_le _, Nat.le_refl _, rfl, rfl, Lib.hid (by simp), rfl⟩
  case round =>
    obtain ⟨k, q, hk, hq, rfl, rfl, HE, rfl⟩ := hrel
    by_cases hlt : k < n
    · obtain ⟨b, off, rfl, hat⟩ := X4.out (by omega)
      obtain ⟨x, t, hdx, hdx1⟩ := drop_cons (xs := xs) (a := k) (by rw [X1.out]; exact hlt)
      have y0 := hat.get hdx
      have HT := Lib.hid (count_take (m := m) hdx)
      clear hdx hdx1
      by_cases hxm : x = m
      · have HQ := Lib.hid (show q + 1 = (xs.take (k + 1)).count m by rw [HT.out, if_pos hxm, ← HE.out])
        have hxe : (x == m) = true := by simp [hxm]
        clear hxm
        go_wp2_with fail
        go_roundw
        case rel => exact ⟨k + 1, q + 1, by omega, by omega, by go_num, by go_num, HQ, by trivial⟩
        case measure => exact bag_measure hlt
      · have HQ := Lib.hid (show q = (xs.take (k + 1)).count m by rw [HT.out, if_neg hxm, ← HE.out]; rfl)
        have hxe : (x == m) = false := by simp [hxm]
        clear hxm
        go_wp2_with fail
        go_roundw
        case rel => exact ⟨k + 1, q, by omega, by omega, rfl, by go_num, HQ, by trivial⟩
        case measure => exact bag_measure hlt
    · obtain rfl : k = n := by omega
      have HF := Lib.hid (show (q : Int) = ((xs.count m : Nat) : Int) by rw [HE.out, List.take_of_length_le (by rw [X1.out]; exact Nat.le_refl _)])
      go_wp2_with fail
      go_ret
      exact ⟨ret_int HF.out, rfl⟩

theorem impl_BagCompare (a1 a2 : Option Addr) (n1 c1 n2 c2 : Nat) (xs ys : List Int) (w : World) (hx : Sl w a1 n1 c1 xs) (hy : Sl w a2 n2 c2 ys) :
    Calls Try.prog 30 #[.slice a1 n1 c1, .slice a2 n2 c2] w fun e w' => e = .returned (.int .i64 (bagCmp xs ys)) ∧ Below w.heap.size w w' := by
  have k1 := Lib.hid (impl_BagValid a1 n1 c1 xs w hx)
  rcases bag_tf xs with h1 | h1
  · rw [h1] at k1
    rcases bag_tf ys with h2 | h2
    · have hl1 := (itemsB_true.1 (bagB_true.1 h1).1).1
      have hl2 := (itemsB_true.1 (bagB_true.1 h2).1).1
      rw [hx.1] at hl1
      rw [hy.1] at hl2
      have k2 := Lib.hid (fun wx hb => impl_BagValid a2 n2 c2 ys wx (hy.below (w := w) hb))
      rw [h2] at k2
      have kc := Lib.hid (fun wx hb => slicesCompare_any a1 a2 n1 c1 n2 c2 xs ys wx (by omega) (by omega) (hx.below (w := w) hb) (hy.below (w := w) hb))
      rw [bagCmp_in h1 h2]
      obtain ⟨o, ho⟩ : ∃ o, o = cmpL xs ys := ⟨_, rfl⟩
      rw [← ho] at kc ⊢
      clear ho
      clear hx hy h1 h2
      go_enter Try.func30, Try.ntmps30
      go_wp2_with fail
      refine (k1.out).mono ?_
      rintro ee w1 ⟨rfl, hb1⟩
      have k3 := Lib.hid (k2.out w1 hb1)
      have Hb1 := Lib.hid hb1
      clear hb1
      go_wp2_with fail
      refine (k3.out).mono ?_
      rintro ee w2 ⟨rfl, hb2⟩
      have Hb2 := Lib.hid (Hb1.out.trans (hb2.mono Hb1.out.size))
      clear hb2
      have k4 := Lib.hid (kc.out w2 Hb2.out)
      go_wp2_with fail
      refine (k4.out).mono ?_
      rintro ee wx ⟨rfl, rfl⟩
      go_wp2_with fail
      go_ret
      exact ⟨rfl, Hb2.out⟩
    · rw [bagCmp_2 h2]
      have k2 := Lib.hid (fun wx hb => impl_BagValid a2 n2 c2 ys wx (hy.below (w := w) hb))
      rw [h2] at k2
      clear hx hy h1 h2
      go_enter Try.func30, Try.ntmps30
      go_wp2_with fail
      refine (k1.out).mono ?_
      rintro ee w1 ⟨rfl, hb1⟩
      have k3 := Lib.hid (k2.out w1 hb1)
      have Hb1 := Lib.hid hb1
      clear hb1
      go_wp2_with fail
      refine (k3.out).mono ?_
      rintro ee w2 ⟨rfl, hb2⟩
      have Hb2 := Lib.hid (Hb1.out.trans (hb2.mono Hb1.out.size))
      clear hb2
      go_wp2_with fail
      go_ret
      exact ⟨rfl, Hb2.out⟩
  · rw [bagCmp_1 h1]
    rw [h1] at k1
    clear hx hy h1
    go_enter Try.func30, Try.ntmps30
    go_wp2_with fail
    refine (k1.out).mono ?_
    rintro ee w1 ⟨rfl, hb1⟩
    have Hb1 := Lib.hid hb1
    clear hb1
    go_wp2_with fail
    go_ret
    exact ⟨rfl, Hb1.out⟩


end Go.Proofs.Ytgkcpmhgmhioiaa
