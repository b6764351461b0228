/- Powers of ordinals: on trees and on rows; the program's OrdRaise and the model's. -/
import Derived.Test.YtaleaagnkfbhpabMulM
import Derived.Test.YtaleaagnkfbhpabMulJ
import Derived.Test.YtaleaagnkfbhpabMulT
namespace Go.Proofs.Ytaleaagnkfbhpab
open Go.RowKit
namespace T

def raise (o : T) : Nat → T
  | 0 => c 1 z z
  | k + 1 => mul (raise o k) o
noncomputable def raiseOk (o : T) : Nat → Bool
  | 0 => true
  | k + 1 => raiseOk o k && vldB (raise o (k + 1)).enc
theorem raiseOk_vld {o : T} {k : Nat} (h : raiseOk o k = true) : vldB (raise o k).enc = true := by
  cases k with
  | zero => exact vldB_true.2 ⟨(by decide : (c 1 z z).enc.length ≤ 60), _, rfl, by omega, by omega, trivial, trivial, ok_z _⟩
  | succ k =>
    rw [raiseOk, Bool.and_eq_true] at h
    exact h.2
theorem raiseOk_down {o : T} {j k : Nat} (hjk : j ≤ k) (h : raiseOk o k = true) : raiseOk o j = true := by
  induction k with
  | zero => obtain rfl : j = 0 := by omega
            exact h
  | succ k ih =>
    by_cases hj : j = k + 1
    · subst hj; exact h
    · rw [raiseOk, Bool.and_eq_true] at h
      exact ih (by omega) h.1
theorem raise_step {xs : List Int} {j : Nat} (hv : vldB xs = true) (h : raiseOk (of xs) j = true) : mulRow (raise (of xs) j).enc xs = fit (raise (of xs) (j + 1)) ∧ mulOk (raise (of xs) j).enc xs = vldB (raise (of xs) (j + 1)).enc := by
  obtain ⟨h1, h2⟩ := mulRow_val (raiseOk_vld h) hv
  rw [of_enc] at h1 h2
  exact ⟨h1, h2⟩

noncomputable def raiseOkB (xs : List Int) (n : Int) : Bool := vldB xs && decide (0 ≤ n ∧ n ≤ 9) && raiseOk (of xs) n.toNat
noncomputable def raiseRow (xs : List Int) (n : Int) : List Int := if raiseOkB xs n = true then (raise (of xs) n.toNat).enc else []
theorem raise_bad {xs : List Int} {n : Int} (h : vldB xs = false ∨ n < 0 ∨ 9 < n) : raiseRow xs n = [] ∧ raiseOkB xs n = false := by
  have h1 : raiseOkB xs n = false := by
    rw [raiseOkB]
    rcases h with h | h
    · rw [h]; rfl
    · rw [decide_eq_false (by omega : ¬ (0 ≤ n ∧ n ≤ 9)), Bool.and_false, Bool.false_and]
  exact ⟨by rw [raiseRow, if_neg (by rw [h1]; simp)], h1⟩
theorem raise_in {xs : List Int} {k : Nat} (hv : vldB xs = true) (hk : k ≤ 9) : raiseOkB xs (k : Int) = raiseOk (of xs) k := by
  rw [raiseOkB, hv, decide_eq_true (by omega : (0 : Int) ≤ k ∧ (k : Int) ≤ 9)]; rfl
theorem raise_yes {xs : List Int} {k : Nat} (hv : vldB xs = true) (hk : k ≤ 9) (h : raiseOk (of xs) k = true) : raiseRow xs (k : Int) = (raise (of xs) k).enc ∧ raiseOkB xs (k : Int) = true := by
  have h1 := raise_in hv hk
  rw [h] at h1
  exact ⟨by rw [raiseRow, if_pos h1]; rfl, h1⟩
theorem raise_no {xs : List Int} {k : Nat} (hv : vldB xs = true) (hk : k ≤ 9) (h : raiseOk (of xs) k = false) : raiseRow xs (k : Int) = [] ∧ raiseOkB xs (k : Int) = false := by
  have h1 := raise_in hv hk
  rw [h] at h1
  exact ⟨by rw [raiseRow, if_neg (by rw [h1]; simp)], h1⟩
theorem raiseRow_len (xs : List Int) (n : Int) : (raiseRow xs n).length ≤ 1000 := by
  unfold raiseRow
  split
  · rename_i h
    rw [raiseOkB, Bool.and_eq_true] at h
    have h1 := (vldB_true.1 (raiseOk_vld h.2)).1
    omega
  · simp

theorem raise_one {xs : List Int} (hv : vldB xs = true) : raiseRow xs 1 = xs ∧ raiseOkB xs 1 = true := by
  have h1 : raise (of xs) 1 = of xs := one_mul (nf_of hv)
  have h2 : raiseOk (of xs) 1 = true := by rw [raiseOk, h1, enc_of hv, hv]; rfl
  obtain ⟨h3, h4⟩ := raise_yes (k := 1) hv (by omega) h2
  exact ⟨by rw [show ((1 : Int) = ((1 : Nat) : Int)) from rfl, h3, h1, enc_of hv], h4⟩
theorem raiseOkB_true {xs : List Int} {n : Int} (h : raiseOkB xs n = true) : vldB xs = true ∧ 0 ≤ n ∧ n ≤ 9 ∧ raiseOk (of xs) n.toNat = true ∧ vldB (raiseRow xs n) = true ∧ raiseRow xs n = (raise (of xs) n.toNat).enc := by
  have h2 : raiseRow xs n = (raise (of xs) n.toNat).enc := by rw [raiseRow, if_pos h]
  rw [raiseOkB, Bool.and_eq_true, Bool.and_eq_true] at h
  have h1 := of_decide_eq_true h.1.2
  exact ⟨h.1.1, h1.1, h1.2, h.2, by rw [h2]; exact raiseOk_vld h.2, h2⟩
/-- One more. -/
theorem raise_next {xs : List Int} {n : Int} (h : raiseOkB xs n = true) (h' : raiseOkB xs (n + 1) = true) : mulRow (raiseRow xs n) xs = raiseRow xs (n + 1) ∧ mulOk (raiseRow xs n) xs = true := by
  obtain ⟨a1, a2, a3, a4, a5, a6⟩ := raiseOkB_true h
  obtain ⟨b1, b2, b3, b4, b5, b6⟩ := raiseOkB_true h'
  obtain ⟨k, rfl⟩ := Int.eq_ofNat_of_zero_le a2
  have e1 : ((k : Int) + 1).toNat = k + 1 := by omega
  have e2 : (k : Int).toNat = k := by omega
  rw [e1] at b4 b6
  rw [e2] at a4 a6
  obtain ⟨h1, h2⟩ := raise_step a1 a4
  have h3 := raiseOk_vld b4
  rw [a6, b6, h1, h2, fit, if_pos h3]
  exact ⟨rfl, h3⟩

end T

def RaiseRel (w : World) (o : T) (k gk : Nat) (v6 v21 : Value) (wr : World) : Prop :=
  ∃ (j : Nat) (a : Option Addr) (c : Nat), v21 = .int .i64 j ∧ gk + j = k ∧ T.raiseOk o j = true ∧ v6 = .slice a (T.raise o j).enc.length c ∧ wr.ownsRow w.heap.size 3 1 v6 (T.raise o j).enc.length (ints (T.raise o j).enc) ∧ Below w.heap.size w wr

set_option maxRecDepth 100000 in
set_option maxHeartbeats 4000000 in
theorem impl_OrdRaise (a1 : Option Addr) (n1 c1 : Nat) (xs : List Int) (n : Int) (w : World) (hx : Sl w a1 n1 c1 xs) (hn0 : -9223372036854775808 ≤ n) (hn1 : n ≤ 9223372036854775807) :
    Calls Try.prog 27 #[.slice a1 n1 c1, .int .i64 n] w (OrdOkPost w (T.raiseRow xs n) (T.raiseOkB xs n)) := by
  have HX := Lib.hid hx
  rcases vld_tf xs with h1 | h1
  · have k1 := Lib.hid (impl_valid a1 n1 c1 xs w hx h1)
    by_cases hout : n < 0 ∨ 9 < n
    · obtain ⟨e1, e2⟩ := T.raise_bad (xs := xs) (n := n) (.inr hout)
      rw [e1, e2]
      clear hx h1 e1 e2
      by_cases h0 : n < 0
      · clear hout
        go_enter Try.func27, Try.ntmps27
        go_wp2_with fail
        refine (k1.out).mono ?_
        rintro ee w1 ⟨rfl, hb1⟩
        have Hb1 := Lib.hid hb1
        clear hb1
        go_wp2_with fail
        go_ret2
        exact OrdOkPost.nil (nil_own w w1) Hb1.out
      · have h9 : 9 < n := by omega
        have h0' : decide (n < 0) = false := by simp; omega
        clear hout
        go_enter Try.func27, Try.ntmps27
        go_wp2_with fail
        refine (k1.out).mono ?_
        rintro ee w1 ⟨rfl, hb1⟩
        have Hb1 := Lib.hid hb1
        clear hb1
        go_wp2_with fail
        go_ret2
        exact OrdOkPost.nil (nil_own w w1) Hb1.out
    · obtain ⟨k, rfl⟩ := Int.eq_ofNat_of_zero_le (show 0 ≤ n by omega)
      have hk : k ≤ 9 := by omega
      have hk1 : decide ((k : Int) < 0) = false := decide_eq_false (by omega)
      have hk2 : decide ((9 : Int) < (k : Int)) = false := decide_eq_false (by omega)
      have hk3 : ¬ ((9 : Int) < (k : Int)) := by omega
      have H1v := Lib.hid h1
      obtain ⟨rr, hrr⟩ : ∃ rr, rr = T.raiseRow xs (k : Int) := ⟨_, rfl⟩
      obtain ⟨ro, hro⟩ : ∃ ro, ro = T.raiseOkB xs (k : Int) := ⟨_, rfl⟩
      rw [← hrr, ← hro]
      have Hrr := Lib.hid hrr
      have Hro := Lib.hid hro
      clear hout hx h1 hn0 hn1 hrr hro
      go_enter Try.func27, Try.ntmps27
      go_wp2_with fail
      refine (k1.out).mono ?_
      rintro ee w1 ⟨rfl, hb1⟩
      have Hb1 := Lib.hid hb1
      have k0 := Lib.hid (impl_OrdOf 1 w1 (by decide) (by decide))
      rw [show T.num' 1 = (T.raise (T.of xs) 0).enc from rfl] at k0
      clear hb1
      go_wp2_with fail
      refine (k0.out).mono ?_
      rintro ee w2 ⟨a2, c2, rfl, ho2, hb2⟩
      have hst : RaiseRel w (T.of xs) k k (.slice a2 (T.raise (T.of xs) 0).enc.length c2) (.int .i64 (0 : Nat)) w2 := ⟨0, a2, c2, rfl, rfl, rfl, rfl, Joins.ownsRow_le ho2 Hb1.out.size, Hb1.out.trans (hb2.mono Hb1.out.size)⟩
      have Hst := Lib.hid hst
      clear ho2 hb2 hst
      go_wp2_with fail
      go_loopg [6, 21] k (fun gk v6 v21 wr => RaiseRel w (T.of xs) k gk v6 v21 wr)
      case atStart => exact Hst.out
      case round =>
        obtain ⟨j, a, c, rfl, hkj, hok, rfl, ho, hb⟩ := hrel
        have Ho := Lib.hid ho
        have Hb := Lib.hid hb
        have Hkj := Lib.hid hkj
        have Hok := Lib.hid hok
        have hjk : j ≤ k := by omega
        by_cases hlt : j < k
        · obtain ⟨p1, p2⟩ := T.raise_step H1v.out hok
          have kt := Lib.hid (impl_OrdTimes a a1 (T.raise (T.of xs) j).enc.length c n1 c1 (T.raise (T.of xs) j).enc xs wr (Sl.of_own ho) (HX.out.below hb))
          unfold OrdOkPost at kt
          rw [p1, p2] at kt
          clear ho hb hkj hok p1 p2
          rcases vld_tf (T.raise (T.of xs) (j + 1)).enc with hv | hv
          · have hf : T.fit (T.raise (T.of xs) (j + 1)) = (T.raise (T.of xs) (j + 1)).enc := by rw [T.fit, if_pos hv]
            have hok2 : T.raiseOk (T.of xs) (j + 1) = true := by rw [T.raiseOk, Hok.out, hv]; rfl
            rw [hf, hv] at kt
            have Hok2 := Lib.hid hok2
            clear hf hv hok2
            go_wp2_with fail
            refine (kt.out).mono ?_
            rintro ee w3 ⟨a3, c3, rfl, ho3, hb3⟩
            have hfin : RaiseRel w (T.of xs) k (gk - 1) (.slice a3 (T.raise (T.of xs) (j + 1)).enc.length c3) (.int .i64 ((j + 1 : Nat) : Int)) w3 :=
              ⟨j + 1, a3, c3, rfl, by have := Hkj.out; omega, Hok2.out, rfl, Joins.ownsRow_le ho3 Hb.out.size, Hb.out.trans (hb3.mono Hb.out.size)⟩
            have Hfin := Lib.hid hfin
            clear hfin ho3 hb3
            go_wp2_with fail
            go_roundg (gk - 1)
            case measure => have := Hkj.out; omega
            case rel => exact Hfin.out
          · have hf : T.fit (T.raise (T.of xs) (j + 1)) = [] := by rw [T.fit, if_neg (by rw [hv]; simp)]
            have hbad : T.raiseOk (T.of xs) k = false := by
              cases hq : T.raiseOk (T.of xs) k with
              | false => rfl
              | true =>
                have h1 := T.raiseOk_vld (T.raiseOk_down (j := j + 1) hlt hq)
                rw [hv] at h1
                cases h1
            obtain ⟨e1, e2⟩ := T.raise_no H1v.out hk hbad
            have hfin : ∀ wx, Below wr.heap.size wr wx → OrdOkPost w rr ro (.returned (.tuple #[.slice none 0 0, .bool false])) wx := by
              intro wx hbx
              rw [Hrr.out, Hro.out, e1, e2]
              exact OrdOkPost.nil (nil_own w wx) (Hb.out.trans (hbx.mono Hb.out.size))
            have Hfin := Lib.hid hfin
            rw [hf, hv] at kt
            clear hf hv hbad e1 e2 hfin
            go_wp2_with fail
            refine (kt.out).mono ?_
            rintro ee w3 ⟨a3, c3, rfl, _, hb3⟩
            have Hb3 := Lib.hid hb3
            clear hb3
            go_wp2_with fail
            go_ret2
            exact Hfin.out _ Hb3.out
        · obtain rfl : k = j := by omega
          obtain ⟨e1, e2⟩ := T.raise_yes H1v.out hk hok
          have hfin : OrdOkPost w rr ro (.returned (.tuple #[.slice a (T.raise (T.of xs) k).enc.length c, .bool true])) wr := by
            rw [Hrr.out, Hro.out, e1, e2]
            exact ⟨a, c, rfl, ho, hb⟩
          have Hfin := Lib.hid hfin
          clear ho hb hkj hok e1 e2 hfin
          go_wp2_with fail
          go_ret2
          exact Hfin.out
  · obtain ⟨e1, e2⟩ := T.raise_bad (xs := xs) (n := n) (.inl h1)
    have k1 := Lib.hid (impl_valid a1 n1 c1 xs w hx h1)
    rw [e1, e2]
    clear hx h1 e1 e2
    go_enter Try.func27, Try.ntmps27
    go_wp2_with fail
    refine (k1.out).mono ?_
    rintro ee w1 ⟨rfl, hb1⟩
    have Hb1 := Lib.hid hb1
    clear hb1
    go_wp2_with fail
    go_ret2
    exact OrdOkPost.nil (nil_own w w1) Hb1.out

set_option maxRecDepth 100000 in
set_option maxHeartbeats 4000000 in
theorem spec_OrdRaise (a1 : Option Addr) (n1 c1 : Nat) (xs : List Int) (n : Int) (w : World) (hx : Sl w a1 n1 c1 xs) (hn0 : -9223372036854775808 ≤ n) (hn1 : n ≤ 9223372036854775807) :
    Calls Try.prog 28 #[.slice a1 n1 c1, .int .i64 n] w (OrdOkPost w (T.raiseRow xs n) (T.raiseOkB xs n)) := by
  have HX := Lib.hid hx
  rcases vld_tf xs with h1 | h1
  · have k1 := Lib.hid (spec_valid a1 n1 c1 xs w hx h1)
    by_cases hout : n < 0 ∨ 9 < n
    · obtain ⟨e1, e2⟩ := T.raise_bad (xs := xs) (n := n) (.inr hout)
      rw [e1, e2]
      have k2 := fun w => Lib.hid (l1In_no n 0 9 w hout)
      clear hx h1 e1 e2 hout
      go_enter Try.func28, Try.ntmps28
      go_wp2_with fail
      refine (k1.out).mono ?_
      rintro ee w1 ⟨rfl, hb1⟩
      have Hb1 := Lib.hid hb1
      clear hb1
      go_wp2_with fail
      refine ((k2 _).out).mono ?_
      rintro ee w2 ⟨rfl, rfl⟩
      go_wp2_with fail
      go_ret2
      exact lit_post Hb1.out
    · obtain ⟨k, rfl⟩ := Int.eq_ofNat_of_zero_le (show 0 ≤ n by omega)
      have hk : k ≤ 9 := by omega
      have k2 := fun w => Lib.hid (l1In_yes (k : Int) 0 9 w (by omega) (by omega))
      have H1v := Lib.hid h1
      obtain ⟨rr, hrr⟩ : ∃ rr, rr = T.raiseRow xs (k : Int) := ⟨_, rfl⟩
      obtain ⟨ro, hro⟩ : ∃ ro, ro = T.raiseOkB xs (k : Int) := ⟨_, rfl⟩
      rw [← hrr, ← hro]
      have Hrr := Lib.hid hrr
      have Hro := Lib.hid hro
      clear hout hx h1 hn0 hn1 hrr hro
      go_enter Try.func28, Try.ntmps28
      go_wp2_with fail
      refine (k1.out).mono ?_
      rintro ee w1 ⟨rfl, hb1⟩
      have Hb1 := Lib.hid hb1
      clear hb1
      go_wp2_with fail
      refine ((k2 _).out).mono ?_
      rintro ee w2 ⟨rfl, rfl⟩
      have hst : RaiseRel w (T.of xs) k k (.slice (some ⟨w1.heap.size, 0, none⟩) 3 3) (.int .i64 (0 : Nat)) (w1.alloc (.cells #[.int .i64 1, .int .i64 1, .int .i64 0] 3)) :=
        ⟨0, _, 3, rfl, rfl, rfl, rfl, Joins.ownsRow_le (World.ownsRow_lit (base := w1.heap.size) w1 _ 3 (Nat.le_refl _) (by simp [maxLen]) rfl) Hb1.out.size, Hb1.out.alloc Hb1.out.size _⟩
      have Hst := Lib.hid hst
      clear hst
      go_wp2_with fail
      go_loopg [6, 7] k (fun gk v6 v21 wr => RaiseRel w (T.of xs) k gk v6 v21 wr)
      case atStart => exact Hst.out
      case round =>
        obtain ⟨j, a, c, rfl, hkj, hok, rfl, ho, hb⟩ := hrel
        have Ho := Lib.hid ho
        have Hb := Lib.hid hb
        have Hkj := Lib.hid hkj
        have Hok := Lib.hid hok
        have hjk : j ≤ k := by omega
        by_cases hlt : j < k
        · obtain ⟨p1, p2⟩ := T.raise_step H1v.out hok
          have kt := Lib.hid (spec_OrdTimes a a1 (T.raise (T.of xs) j).enc.length c n1 c1 (T.raise (T.of xs) j).enc xs wr (Sl.of_own ho) (HX.out.below hb))
          unfold OrdOkPost at kt
          rw [p1, p2] at kt
          clear ho hb hkj hok p1 p2
          rcases vld_tf (T.raise (T.of xs) (j + 1)).enc with hv | hv
          · have hf : T.fit (T.raise (T.of xs) (j + 1)) = (T.raise (T.of xs) (j + 1)).enc := by rw [T.fit, if_pos hv]
            have hok2 : T.raiseOk (T.of xs) (j + 1) = true := by rw [T.raiseOk, Hok.out, hv]; rfl
            rw [hf, hv] at kt
            have Hok2 := Lib.hid hok2
            clear hf hv hok2
            go_wp2_with fail
            refine (kt.out).mono ?_
            rintro ee w3 ⟨a3, c3, rfl, ho3, hb3⟩
            have hfin : RaiseRel w (T.of xs) k (gk - 1) (.slice a3 (T.raise (T.of xs) (j + 1)).enc.length c3) (.int .i64 ((j + 1 : Nat) : Int)) w3 :=
              ⟨j + 1, a3, c3, rfl, by have := Hkj.out; omega, Hok2.out, rfl, Joins.ownsRow_le ho3 Hb.out.size, Hb.out.trans (hb3.mono Hb.out.size)⟩
            have Hfin := Lib.hid hfin
            clear hfin ho3 hb3
            go_wp2_with fail
            go_roundg (gk - 1)
            case measure => have := Hkj.out; omega
            case rel => exact Hfin.out
          · have hf : T.fit (T.raise (T.of xs) (j + 1)) = [] := by rw [T.fit, if_neg (by rw [hv]; simp)]
            have hbad : T.raiseOk (T.of xs) k = false := by
              cases hq : T.raiseOk (T.of xs) k with
              | false => rfl
              | true =>
                have h1 := T.raiseOk_vld (T.raiseOk_down (j := j + 1) hlt hq)
                rw [hv] at h1
                cases h1
            obtain ⟨e1, e2⟩ := T.raise_no H1v.out hk hbad
            have hfin : ∀ w3, Below wr.heap.size wr w3 → OrdOkPost w rr ro (.returned (.tuple #[.slice (some ⟨w3.heap.size, 0, none⟩) 0 0, .bool false])) (w3.alloc (.cells #[] 3)) := by
              intro wx hbx
              rw [Hrr.out, Hro.out, e1, e2]
              exact lit_post (Hb.out.trans (hbx.mono Hb.out.size))
            have Hfin := Lib.hid hfin
            rw [hf, hv] at kt
            clear hf hv hbad e1 e2 hfin
            go_wp2_with fail
            refine (kt.out).mono ?_
            rintro ee w3 ⟨a3, c3, rfl, _, hb3⟩
            have Hb3 := Lib.hid hb3
            clear hb3
            go_wp2_with fail
            go_ret2
            exact Hfin.out _ Hb3.out
        · obtain rfl : k = j := by omega
          obtain ⟨e1, e2⟩ := T.raise_yes H1v.out hk hok
          have hfin : OrdOkPost w rr ro (.returned (.tuple #[.slice a (T.raise (T.of xs) k).enc.length c, .bool true])) wr := by
            rw [Hrr.out, Hro.out, e1, e2]
            exact ⟨a, c, rfl, ho, hb⟩
          have Hfin := Lib.hid hfin
          clear ho hb hkj hok e1 e2 hfin
          go_wp2_with fail
          go_ret2
          exact Hfin.out
  · obtain ⟨e1, e2⟩ := T.raise_bad (xs := xs) (n := n) (.inl h1)
    have k1 := Lib.hid (spec_valid a1 n1 c1 xs w hx h1)
    rw [e1, e2]
    clear hx h1 e1 e2
    go_enter Try.func28, Try.ntmps28
    go_wp2_with fail
    refine (k1.out).mono ?_
    rintro ee w1 ⟨rfl, hb1⟩
    have Hb1 := Lib.hid hb1
    clear hb1
    go_wp2_with fail
    go_ret2
    exact lit_post Hb1.out

end Go.Proofs.Ytaleaagnkfbhpab
