/- BattleValid and BattleLeft of the program and of the model; comparisons of battles. -/
import Derived.Test.YtdcgcohfbcdnnaaBtB
import Derived.Test.YtdcgcohfbcdnnaaHydW
import Derived.Test.YtdcgcohfbcdnnaaSame
namespace Go.Proofs.Ytdcgcohfbcdnnaa
set_option maxRecDepth 100000
open Go.RowKit

theorem below_drewN (w : World) (q : Nat) : Below w.heap.size w (w.drewN q) := ⟨rfl, rfl, rfl, Nat.le_refl _, fun _ _ => rfl⟩

theorem equal_any (a1 a2 : Option Addr) (n1 c1 n2 c2 : Nat) (xs ys : List Int) (w : World) (hx : Sl w a1 n1 c1 xs) (hy : Sl w a2 n2 c2 ys) :
    Calls Try.prog 60 #[.slice a1 n1 c1, .slice a2 n2 c2] w fun e w' => e = .returned (.bool (eqB xs ys)) ∧ Below w.heap.size w w' := by
  obtain ⟨x1, x2, x3, x4⟩ := hx
  obtain ⟨y1, y2, y3, y4⟩ := hy
  unfold maxLen at x3 y3
  by_cases hn : n1 = n2
  · rcases Nat.eq_zero_or_pos n1 with hz | hp
    · subst hz
      refine (Try.slices_Equal_int_empty a1 a2 c1 n2 c2 w (by omega)).mono ?_
      rintro e w' ⟨rfl, rfl⟩
      have e1 : xs = [] := List.eq_nil_of_length_eq_zero x1
      have e2 : ys = [] := List.eq_nil_of_length_eq_zero (by omega)
      refine ⟨?_, Below.refl _ _⟩
      rw [e1, e2, ← hn]; rfl
    · obtain ⟨b1, o1, rfl, h1⟩ := x4 hp
      obtain ⟨b2, o2, rfl, h2⟩ := y4 (by omega)
      refine (Try.slices_Equal_int b1 o1 n1 c1 b2 o2 n2 c2 xs ys w (by omega) (by omega) (by omega) (by omega) h1 h2).mono ?_
      rintro e w' ⟨rfl, q, rfl⟩
      refine ⟨?_, below_drewN w q⟩
      rw [List.take_of_length_le (by omega), List.take_of_length_le (by omega)]
      have : (xs == ys) = eqB xs ys := by unfold eqB; by_cases h : xs = ys <;> simp [h]
      rw [this]
  · refine (Try.slices_Equal_int_lens a1 a2 n1 c1 n2 c2 w hn).mono ?_
    rintro e w' ⟨rfl, rfl⟩
    refine ⟨?_, Below.refl _ _⟩
    have : eqB xs ys = false := by unfold eqB; exact decide_eq_false (fun h => hn (by rw [← x1, ← y1, h]))
    rw [this]

/-- BattleValid. -/
noncomputable def btB (b : Bt) : Bool := H.runOkB b.first b.cuts b.copies && eqB (H.runRow b.first b.cuts b.copies) b.now
/-- BattleLeft. -/
noncomputable def btLeft (b : Bt) : Int := if btB b = true then H.fightRow b.now b.copies else -1

/-- A battle in memory. -/
def BtIn (w : World) (v : Value) (b : Bt) : Prop :=
  ∃ (a1 a2 a3 : Option Addr) (n1 c1 n2 c2 n3 c3 : Nat), v = .agg #[.slice a1 n1 c1, .int .i64 b.copies, .slice a2 n2 c2, .slice a3 n3 c3] ∧ Sl w a1 n1 c1 b.first ∧ Sl w a2 n2 c2 b.cuts ∧ Sl w a3 n3 c3 b.now

set_option maxHeartbeats 2000000 in
theorem impl_BattleValid (a1 a2 a3 : Option Addr) (n1 c1 n2 c2 n3 c3 : Nat) (b : Bt) (w : World) (h1 : Sl w a1 n1 c1 b.first) (h2 : Sl w a2 n2 c2 b.cuts) (h3 : Sl w a3 n3 c3 b.now) :
    Calls Try.prog 25 #[.agg #[.slice a1 n1 c1, .int .i64 b.copies, .slice a2 n2 c2, .slice a3 n3 c3]] w fun e w' => e = .returned (.bool (btB b)) ∧ Below w.heap.size w w' := by
  obtain ⟨q, hq⟩ : ∃ q, q = b.copies := ⟨_, rfl⟩
  have hbt : btB b = (H.runOkB b.first b.cuts q && eqB (H.runRow b.first b.cuts q) b.now) := by rw [btB, hq]
  rw [hbt, ← hq]
  obtain ⟨W, hW, hB, hbW, _⟩ := box_four w (.slice a1 n1 c1) (.int .i64 q) (.slice a2 n2 c2) (.slice a3 n3 c3) 36
  have hc0 := hB.c0
  have hc1 := hB.c1
  have hc2 := hB.c2
  have k1 := Lib.hid (impl_HydraRun a1 n1 c1 b.first a2 n2 c2 b.cuts q W (h1.below hbW) (h2.below hbW))
  unfold OrdOkPost at k1
  have HB := Lib.hid hB
  have HbW := Lib.hid hbW
  have H3 := Lib.hid h3
  clear h1 h2 h3 hbt hq hbW
  obtain ⟨r, hr⟩ : ∃ r, r = H.runRow b.first b.cuts q := ⟨_, rfl⟩
  have hrl : r.length ≤ 1000 := by rw [hr]; exact H.run_len _ _ _
  rw [← hr] at k1 ⊢
  have hlt := hB.lt
  cases ho : H.runOkB b.first b.cuts q with
  | true =>
    rw [ho] at k1
    clear hr hB ho
    rw [Bool.true_and]
    go_enter Try.func25, Try.ntmps25
    go_wp2_with fail
    refine (k1.out).mono ?_
    rintro ee w4 ⟨a4, c4, rfl, ho4, hb4⟩
    have hd3 := (HB.out.below hb4 hlt).c3
    have Hb4 := Lib.hid (HbW.out.trans (hb4.mono HbW.out.size))
    have k2 := Lib.hid (equal_any a4 a3 r.length c4 n3 c3 r b.now w4 (Sl.of_own ho4) (H3.out.below Hb4.out))
    clear ho4 hb4
    go_wp2_with fail
    refine (k2.out).mono ?_
    rintro ee w5 ⟨rfl, hb5⟩
    have Hb5 := Lib.hid (Hb4.out.trans (hb5.mono Hb4.out.size))
    clear hb5
    go_wp2_with fail
    go_ret
    exact ⟨rfl, Hb5.out⟩
  | false =>
    rw [ho] at k1
    clear hr hB ho
    rw [Bool.false_and]
    go_enter Try.func25, Try.ntmps25
    go_wp2_with fail
    refine (k1.out).mono ?_
    rintro ee w4 ⟨a4, c4, rfl, ho4, hb4⟩
    have Hb4 := Lib.hid (HbW.out.trans (hb4.mono HbW.out.size))
    clear ho4 hb4
    go_wp2_with fail
    go_ret
    exact ⟨rfl, Hb4.out⟩

set_option maxHeartbeats 2000000 in
theorem spec_BattleValid (a1 a2 a3 : Option Addr) (n1 c1 n2 c2 n3 c3 : Nat) (b : Bt) (w : World) (h1 : Sl w a1 n1 c1 b.first) (h2 : Sl w a2 n2 c2 b.cuts) (h3 : Sl w a3 n3 c3 b.now) :
    Calls Try.prog 23 #[.agg #[.slice a1 n1 c1, .int .i64 b.copies, .slice a2 n2 c2, .slice a3 n3 c3]] w fun e w' => e = .returned (.bool (btB b)) ∧ Below w.heap.size w w' := by
  obtain ⟨q, hq⟩ : ∃ q, q = b.copies := ⟨_, rfl⟩
  have hbt : btB b = (H.runOkB b.first b.cuts q && eqB (H.runRow b.first b.cuts q) b.now) := by rw [btB, hq]
  rw [hbt, ← hq]
  obtain ⟨W, hW, hB, hbW, _⟩ := box_four w (.slice a1 n1 c1) (.int .i64 q) (.slice a2 n2 c2) (.slice a3 n3 c3) 36
  have hc0 := hB.c0
  have hc1 := hB.c1
  have hc2 := hB.c2
  have k1 := Lib.hid (spec_HydraRun a1 n1 c1 b.first a2 n2 c2 b.cuts q W (h1.below hbW) (h2.below hbW))
  unfold OrdOkPost at k1
  have HB := Lib.hid hB
  have HbW := Lib.hid hbW
  have H3 := Lib.hid h3
  clear h1 h2 h3 hbt hq hbW
  obtain ⟨r, hr⟩ : ∃ r, r = H.runRow b.first b.cuts q := ⟨_, rfl⟩
  have hrl : r.length ≤ 1000 := by rw [hr]; exact H.run_len _ _ _
  rw [← hr] at k1 ⊢
  have hlt := hB.lt
  cases ho : H.runOkB b.first b.cuts q with
  | true =>
    rw [ho] at k1
    clear hr hB ho
    rw [Bool.true_and]
    go_enter Try.func23, Try.ntmps23
    go_wp2_with fail
    refine (k1.out).mono ?_
    rintro ee w4 ⟨a4, c4, rfl, ho4, hb4⟩
    have hd3 := (HB.out.below hb4 hlt).c3
    have Hb4 := Lib.hid (HbW.out.trans (hb4.mono HbW.out.size))
    have k2 := Lib.hid (l1Same_any a4 a3 r.length c4 n3 c3 r b.now w4 (by omega) (Sl.of_own ho4) (H3.out.below Hb4.out))
    clear ho4 hb4
    go_wp2_with fail
    refine (k2.out).mono ?_
    rintro ee w5 ⟨rfl, hb5⟩
    have Hb5 := Lib.hid (Hb4.out.trans (hb5.mono Hb4.out.size))
    clear hb5
    go_wp2_with fail
    go_ret
    exact ⟨rfl, Hb5.out⟩
  | false =>
    rw [ho] at k1
    clear hr hB ho
    rw [Bool.false_and]
    go_enter Try.func23, Try.ntmps23
    go_wp2_with fail
    refine (k1.out).mono ?_
    rintro ee w4 ⟨a4, c4, rfl, ho4, hb4⟩
    have Hb4 := Lib.hid (HbW.out.trans (hb4.mono HbW.out.size))
    clear ho4 hb4
    go_wp2_with fail
    go_ret
    exact ⟨rfl, Hb4.out⟩

set_option maxHeartbeats 2000000 in
theorem impl_BattleLeft (a1 a2 a3 : Option Addr) (n1 c1 n2 c2 n3 c3 : Nat) (b : Bt) (w : World) (h1 : Sl w a1 n1 c1 b.first) (h2 : Sl w a2 n2 c2 b.cuts) (h3 : Sl w a3 n3 c3 b.now) :
    Calls Try.prog 41 #[.agg #[.slice a1 n1 c1, .int .i64 b.copies, .slice a2 n2 c2, .slice a3 n3 c3]] w fun e w' => e = .returned (.int .i64 (btLeft b)) ∧ Below w.heap.size w w' := by
  obtain ⟨xf, q, xc, xn⟩ := b
  dsimp only at h1 h2 h3 ⊢
  obtain ⟨W, hW, hB, hbW, _⟩ := box_four w (.slice a1 n1 c1) (.int .i64 q) (.slice a2 n2 c2) (.slice a3 n3 c3) 36
  have hc0 := hB.c0
  have hc1 := hB.c1
  have hc2 := hB.c2
  have hc3 := hB.c3
  have k1' := impl_BattleValid a1 a2 a3 n1 c1 n2 c2 n3 c3 ⟨xf, q, xc, xn⟩ W (h1.below hbW) (h2.below hbW) (h3.below hbW)
  dsimp only at k1'
  have k1 := Lib.hid k1'
  clear k1'
  obtain ⟨b, hbb⟩ : ∃ b, b = Bt.mk xf q xc xn := ⟨_, rfl⟩
  rw [← hbb] at k1 ⊢
  have HB := Lib.hid hB
  have HbW := Lib.hid hbW
  have H3 := Lib.hid h3
  have hlt := hB.lt
  clear h1 h2 h3 hbW hB
  cases ho : btB b with
  | true =>
    rw [ho] at k1
    have hL : btLeft b = H.fightRow xn q := by rw [btLeft, if_pos ho, hbb]
    rw [hL]
    clear ho hL hbb
    go_enter Try.func41, Try.ntmps41
    go_wp2_with fail
    refine (k1.out).mono ?_
    rintro ee w4 ⟨rfl, hb4⟩
    have hB4 := HB.out.below hb4 hlt
    have hd3 := hB4.c3
    have hd1 := hB4.c1
    have Hb4 := Lib.hid (HbW.out.trans (hb4.mono HbW.out.size))
    have k2 := Lib.hid (impl_HydraFight a3 n3 c3 xn q w4 (H3.out.below Hb4.out))
    clear hb4 hB4
    go_wp2_with fail
    refine (k2.out).mono ?_
    rintro ee w5 ⟨rfl, hb5⟩
    have Hb5 := Lib.hid (Hb4.out.trans (hb5.mono Hb4.out.size))
    clear hb5
    go_wp2_with fail
    go_ret
    exact ⟨rfl, Hb5.out⟩
  | false =>
    rw [ho] at k1
    have hL : btLeft b = -1 := by rw [btLeft, if_neg (by rw [ho]; simp)]
    rw [hL]
    clear ho hL hbb
    go_enter Try.func41, Try.ntmps41
    go_wp2_with fail
    refine (k1.out).mono ?_
    rintro ee w4 ⟨rfl, hb4⟩
    have Hb4 := Lib.hid (HbW.out.trans (hb4.mono HbW.out.size))
    clear hb4
    go_wp2_with fail
    go_ret
    exact ⟨rfl, Hb4.out⟩

set_option maxHeartbeats 2000000 in
theorem spec_BattleLeft (a1 a2 a3 : Option Addr) (n1 c1 n2 c2 n3 c3 : Nat) (b : Bt) (w : World) (h1 : Sl w a1 n1 c1 b.first) (h2 : Sl w a2 n2 c2 b.cuts) (h3 : Sl w a3 n3 c3 b.now) :
    Calls Try.prog 40 #[.agg #[.slice a1 n1 c1, .int .i64 b.copies, .slice a2 n2 c2, .slice a3 n3 c3]] w fun e w' => e = .returned (.int .i64 (btLeft b)) ∧ Below w.heap.size w w' := by
  obtain ⟨xf, q, xc, xn⟩ := b
  dsimp only at h1 h2 h3 ⊢
  obtain ⟨W, hW, hB, hbW, _⟩ := box_four w (.slice a1 n1 c1) (.int .i64 q) (.slice a2 n2 c2) (.slice a3 n3 c3) 36
  have hc0 := hB.c0
  have hc1 := hB.c1
  have hc2 := hB.c2
  have hc3 := hB.c3
  have k1' := spec_BattleValid a1 a2 a3 n1 c1 n2 c2 n3 c3 ⟨xf, q, xc, xn⟩ W (h1.below hbW) (h2.below hbW) (h3.below hbW)
  dsimp only at k1'
  have k1 := Lib.hid k1'
  clear k1'
  obtain ⟨b, hbb⟩ : ∃ b, b = Bt.mk xf q xc xn := ⟨_, rfl⟩
  rw [← hbb] at k1 ⊢
  have HB := Lib.hid hB
  have HbW := Lib.hid hbW
  have H3 := Lib.hid h3
  have hlt := hB.lt
  clear h1 h2 h3 hbW hB
  cases ho : btB b with
  | true =>
    rw [ho] at k1
    have hL : btLeft b = H.fightRow xn q := by rw [btLeft, if_pos ho, hbb]
    rw [hL]
    clear ho hL hbb
    go_enter Try.func40, Try.ntmps40
    go_wp2_with fail
    refine (k1.out).mono ?_
    rintro ee w4 ⟨rfl, hb4⟩
    have hB4 := HB.out.below hb4 hlt
    have hd3 := hB4.c3
    have hd1 := hB4.c1
    have Hb4 := Lib.hid (HbW.out.trans (hb4.mono HbW.out.size))
    have k2 := Lib.hid (spec_HydraFight a3 n3 c3 xn q w4 (H3.out.below Hb4.out))
    clear hb4 hB4
    go_wp2_with fail
    refine (k2.out).mono ?_
    rintro ee w5 ⟨rfl, hb5⟩
    have Hb5 := Lib.hid (Hb4.out.trans (hb5.mono Hb4.out.size))
    clear hb5
    go_wp2_with fail
    go_ret
    exact ⟨rfl, Hb5.out⟩
  | false =>
    rw [ho] at k1
    have hL : btLeft b = -1 := by rw [btLeft, if_neg (by rw [ho]; simp)]
    rw [hL]
    clear ho hL hbb
    go_enter Try.func40, Try.ntmps40
    go_wp2_with fail
    refine (k1.out).mono ?_
    rintro ee w4 ⟨rfl, hb4⟩
    have Hb4 := Lib.hid (HbW.out.trans (hb4.mono HbW.out.size))
    clear hb4
    go_wp2_with fail
    go_ret
    exact ⟨rfl, Hb4.out⟩

set_option maxHeartbeats 2000000 in
theorem eqBattle_same (a1 a2 a3 a4 a5 a6 : Option Addr) (n1 c1 n2 c2 n3 c3 n4 c4 n5 c5 n6 c6 : Nat) (b : Bt) (w : World) (hb1 : n1 ≤ 1000000000000) (hb2 : n2 ≤ 1000000000000) (hb3 : n3 ≤ 1000000000000)
    (h1 : Sl w a1 n1 c1 b.first) (h2 : Sl w a2 n2 c2 b.cuts) (h3 : Sl w a3 n3 c3 b.now) (h4 : Sl w a4 n4 c4 b.first) (h5 : Sl w a5 n5 c5 b.cuts) (h6 : Sl w a6 n6 c6 b.now) :
    Calls Try.prog 26 #[.agg #[.slice a1 n1 c1, .int .i64 b.copies, .slice a2 n2 c2, .slice a3 n3 c3], .agg #[.slice a4 n4 c4, .int .i64 b.copies, .slice a5 n5 c5, .slice a6 n6 c6]] w fun e w' => e = .returned (.bool true) ∧ Below w.heap.size w w' := by
  obtain ⟨q, hq⟩ : ∃ q, q = b.copies := ⟨_, rfl⟩
  rw [← hq]
  clear hq
  have hqq : (q != q) = false := by simp
  obtain ⟨W1, hW1, hB1, hbW1, e1⟩ := box_four w (.slice a1 n1 c1) (.int .i64 q) (.slice a2 n2 c2) (.slice a3 n3 c3) 36
  obtain ⟨W2, hW2, hB2, hbW2, e2⟩ := box_four W1 (.slice a4 n4 c4) (.int .i64 q) (.slice a5 n5 c5) (.slice a6 n6 c6) 36
  have hA : (w.alloc (.cells #[.slice a1 n1 c1, .int .i64 q, .slice a2 n2 c2, .slice a3 n3 c3] 36)).alloc (.cells #[.slice a4 n4 c4, .int .i64 q, .slice a5 n5 c5, .slice a6 n6 c6] 36) = W2 := by rw [hW1, hW2]
  have hb02 : Below w.heap.size w W2 := hbW1.trans (hbW2.mono hbW1.size)
  have B1 := hB1.below hbW2 (by omega)
  rw [e1] at hB2
  have k1 := Lib.hid (eqIntS_any a1 a4 n1 c1 n4 c4 b.first b.first W2 hb1 (h1.below hb02) (h4.below hb02))
  rw [eqB_refl] at k1
  have x0 := B1.c0
  have x1 := hB2.c0
  have HB1 := Lib.hid B1
  have HB2 := Lib.hid hB2
  have Hb := Lib.hid hb02
  have Hs := Lib.hid (show W2.heap.size = w.heap.size + 1 + 1 by omega)
  have H2 := Lib.hid h2
  have H3 := Lib.hid h3
  have H5 := Lib.hid h5
  have H6 := Lib.hid h6
  clear hW1 hW2 hB1 hB2 hbW1 hbW2 e1 e2 hb02 B1 h1 h2 h3 h4 h5 h6
  go_enter Try.func26, Try.ntmps26
  go_wp2_with fail
  refine (k1.out).mono ?_
  rintro ee w1 ⟨rfl, hb3'⟩
  have hs2 := Hs.out
  have A1 := HB1.out.below hb3' (by omega)
  have A2 := HB2.out.below hb3' (by omega)
  have y1 := A1.c1
  have y2 := A2.c1
  have y3 := A1.c2
  have y4 := A2.c2
  have hb4 := Hb.out.trans (hb3'.mono Hb.out.size)
  have k2 := Lib.hid (eqIntS_any a2 a5 n2 c2 n5 c5 b.cuts b.cuts w1 hb2 (H2.out.below hb4) (H5.out.below hb4))
  rw [eqB_refl] at k2
  have Hb4 := Lib.hid hb4
  have HA1 := Lib.hid A1
  have HA2 := Lib.hid A2
  have Hl := Lib.hid (show w.heap.size + 1 < w1.heap.size by have := A2.lt; omega)
  clear hs2 hb3' hb4 A1 A2
  go_wp2_with fail
  refine (k2.out).mono ?_
  rintro ee w2 ⟨rfl, hb5⟩
  have hl := Hl.out
  have z3 := (HA1.out.below hb5 (by omega)).c3
  have z4 := (HA2.out.below hb5 (by omega)).c3
  have hb6 := Hb4.out.trans (hb5.mono Hb4.out.size)
  have k3 := Lib.hid (eqIntS_any a3 a6 n3 c3 n6 c6 b.now b.now w2 hb3 (H3.out.below hb6) (H6.out.below hb6))
  rw [eqB_refl] at k3
  have Hb6 := Lib.hid hb6
  clear hl hb5 hb6
  go_wp2_with fail
  refine (k3.out).mono ?_
  rintro ee w3 ⟨rfl, hb7⟩
  have Hb7 := Lib.hid (Hb6.out.trans (hb7.mono Hb6.out.size))
  clear hb7
  go_wp2_with fail
  go_ret
  exact ⟨rfl, Hb7.out⟩
end Go.Proofs.Ytdcgcohfbcdnnaa