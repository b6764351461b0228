/- What the laws of chapter 1 draw: the draws of each law. -/
import Derived.Test.YthalogciiochfaaDraw1
import Derived.Test.YthalogciiochfaaSem
import Derived.Deep.DeepCutAuto
namespace Go.Proofs.Ythalogciiochfaa
set_option maxRecDepth 100000
open Go.RowKit

def DrawPost (w : World) (e : Ending) (w' : World) : Prop :=
  ∃ (xs : List Int) (g n c : Nat), n = xs.length ∧ e = .returned (.slice (some ⟨g, 0, none⟩) n c) ∧ w'.ownsRow w.heap.size 3 1 (.slice (some ⟨g, 0, none⟩) n c) n (ints xs) ∧ n ≤ 200 ∧ Below w.heap.size w w'

def DrawPost2 (w : World) (e : Ending) (w' : World) : Prop :=
  ∃ (xs ys : List Int) (g n c g2 n2 c2 : Nat), n = xs.length ∧ n2 = ys.length ∧ e = .returned (.tuple #[.slice (some ⟨g, 0, none⟩) n c, .slice (some ⟨g2, 0, none⟩) n2 c2]) ∧
    w'.ownsRow w.heap.size 3 1 (.slice (some ⟨g, 0, none⟩) n c) n (ints xs) ∧ w'.ownsRow w.heap.size 3 1 (.slice (some ⟨g2, 0, none⟩) n2 c2) n2 (ints ys) ∧ n ≤ 200 ∧ n2 ≤ 200 ∧ Below w.heap.size w w'

theorem OrdPost.draw {w w1 w2 : World} {e : Ending} (h : OrdPost w1 w.heap.size 0 e w2) (hb : Below w.heap.size w w1) : DrawPost w e w2 := by
  obtain ⟨xs, g, n, c, hn, rfl, ho, hl, _, hg⟩ := h
  exact ⟨xs, g, n, c, hn, rfl, Joins.ownsRow_le ho hb.size, hl, hb.grown hg hb.size (fun k e => by cases e; exact Nat.le_refl _)⟩

set_option maxHeartbeats 1000000 in
theorem drawOrdNext_any (a : Option Addr) (len cap : Nat) (w : World) (h : By w a len cap) : Calls Try.prog 34 #[.slice a len cap] w (DrawPost w) := by
  have k0 := Lib.hid (open_any a len cap w h)
  obtain ⟨g, hg⟩ : ∃ g, g = w.heap.size := ⟨_, rfl⟩
  rw [← hg] at k0
  have Hg := Lib.hid hg
  clear hg h
  go_enter Try.func34, Try.ntmps34
  go_wp2_with fail
  refine (k0.out).mono ?_
  rintro ee w1 ⟨rfl, hr1, hb1⟩
  have Hb1 := Lib.hid hb1
  have k1 := Lib.hid (l20Ord_any g 0 9 w1 (by decide) (by decide) (by decide) hr1)
  clear hb1 hr1
  go_wp2_with fail
  refine (k1.out).mono ?_
  intro ee w2 hpost
  obtain ⟨v, he⟩ : ∃ v, ee = .returned v := by obtain ⟨_, g', n, c, _, h, _⟩ := hpost; exact ⟨_, h⟩
  subst he
  have Hp := Lib.hid hpost
  clear hpost
  go_wp2_with fail
  go_ret
  rw [Hg.out] at Hp
  exact Hp.out.draw (by rw [← Hg.out]; exact Hb1.out)
set_option maxHeartbeats 1000000 in
theorem drawOrdBefore_any (a : Option Addr) (len cap : Nat) (w : World) (h : By w a len cap) : Calls Try.prog 39 #[.slice a len cap] w (DrawPost w) := by
  have k0 := Lib.hid (open_any a len cap w h)
  obtain ⟨g, hg⟩ : ∃ g, g = w.heap.size := ⟨_, rfl⟩
  rw [← hg] at k0
  have Hg := Lib.hid hg
  clear hg h
  go_enter Try.func39, Try.ntmps39
  go_wp2_with fail
  refine (k0.out).mono ?_
  rintro ee w1 ⟨rfl, hr1, hb1⟩
  have Hb1 := Lib.hid hb1
  have k1 := Lib.hid (l20Ord_any g 0 9 w1 (by decide) (by decide) (by decide) hr1)
  clear hb1 hr1
  go_wp2_with fail
  refine (k1.out).mono ?_
  intro ee w2 hpost
  obtain ⟨v, he⟩ : ∃ v, ee = .returned v := by obtain ⟨_, g', n, c, _, h, _⟩ := hpost; exact ⟨_, h⟩
  subst he
  have Hp := Lib.hid hpost
  clear hpost
  go_wp2_with fail
  go_ret
  rw [Hg.out] at Hp
  exact Hp.out.draw (by rw [← Hg.out]; exact Hb1.out)

def OrdsPost (w : World) (g : Nat) (e : Ending) (w' : World) : Prop :=
  ∃ (xs ys : List Int) (g1 n c g2 n2 c2 : Nat), n = xs.length ∧ n2 = ys.length ∧ e = .returned (.tuple #[.slice (some ⟨g1, 0, none⟩) n c, .slice (some ⟨g2, 0, none⟩) n2 c2]) ∧
    w'.ownsRow w.heap.size 3 1 (.slice (some ⟨g1, 0, none⟩) n c) n (ints xs) ∧ w'.ownsRow w.heap.size 3 1 (.slice (some ⟨g2, 0, none⟩) n2 c2) n2 (ints ys) ∧ n ≤ 200 ∧ n2 ≤ 200 ∧ w.grownBy w' (some g)

set_option maxHeartbeats 2000000 in
theorem l20Ords_any (g : Nat) (w : World) (hrd : RdOk w g 0) : Calls Try.prog 64 #[.pointer (some ⟨g, 0, none⟩)] w (OrdsPost w g) := by
  have hgl : g < w.heap.size := by obtain ⟨_, _, _, _, h1, _⟩ := hrd; exact (Array.getElem?_eq_some_iff.1 h1).1
  have k1 := Lib.hid (l20Ord_any g 0 14 w (by decide) (by decide) (by decide) hrd)
  clear hrd
  go_enter Try.func64, Try.ntmps64
  go_wp2_with fail
  refine (k1.out).mono ?_
  rintro ee w1 ⟨xs, g1, n, c, hn, rfl, ho, hl, hr1, hg1⟩
  have Hn := Lib.hid hn
  have Ho := Lib.hid ho
  have Hg1 := Lib.hid hg1
  have k2 := Lib.hid (pick_any g (0 + 2000) 4 w1 (by decide) (by decide) (by decide) hr1)
  clear hn ho hr1 hg1
  go_wp2_with fail
  refine (k2.out).mono ?_
  rintro ee w2 ⟨r, rfl, hr, hr2, hg2⟩
  have hr0 := hr.1
  have Ho2 := Lib.hid (own_rd Ho.out hg2 hgl)
  have Hg2 := Lib.hid (grownBy_trans Hg1.out hg2)
  have Hr2 := Lib.hid hr2
  clear hr hr2 hg2
  go_upto_if 11 with fail
  go_cut [2, 3] (fun _ _ wx => w2.grownBy wx none)
  case first =>
    by_cases hr4 : r = 0
    · subst hr4
      have k3 := Lib.hid (spec_OrdNext (some ⟨g1, 0, none⟩) n c xs w2 (Sl.of_own Ho2.out))
      obtain ⟨m, hm⟩ : ∃ m, m = T.nextRow xs := ⟨_, rfl⟩
      have hml : m.length ≤ 1000 := by rw [hm]; exact T.nextRow_len xs
      rw [← hm] at k3
      have HM := Lib.hid hm
      clear hm
      go_wp2_with fail
      refine (k3.out).mono ?_
      rintro ee w3 ⟨a3, c3, rfl, ho3, hb3⟩
      have Ho3 := Lib.hid ho3
      have Hb3 := Lib.hid hb3
      clear ho3 hb3
      cases hok : T.nextOk xs with
      | false =>
        go_wp2_with fail
        go_meet
        exact below_grown Hb3.out none
      | true =>
        have hv := (T.nextOk_true hok).2.1
        rw [← HM.out] at hv
        have hml2 : 0 < m.length ∧ m.length ≤ 60 := by
          obtain ⟨t, h1, _, h3, _⟩ := T.vld_of hv
          have := T.enc_len t
          rw [h1]; omega
        obtain ⟨g3, c4, hv3⟩ := Joins.ownsRow_form Ho3.out hml2.1
        simp only [Value.slice.injEq] at hv3
        obtain ⟨rfl, _, rfl⟩ := hv3
        have Hml := Lib.hid hml2
        clear hok hv hml2
        go_wp2_with fail
        go_ret2
        exact ⟨xs, m, g1, n, c, g3, m.length, c3, Hn.out, rfl, rfl, ownsRow_below' Ho2.out Hb3.out, Joins.ownsRow_le Ho3.out Hg2.out.size, hl, by have := Hml.out; omega, grownBy_step Hg2.out (below_grown Hb3.out none) (fun k hk => by cases hk)⟩
    · have hrb : (r == 0) = false := by simp [hr4]
      clear hr4
      go_wp2_with fail
      go_meet
      exact World.grownBy.refl _ _
  case rest =>
    have Hg3 := Lib.hid (grownBy_step Hg2.out hcut (fun k hk => by cases hk))
    have Ho3 := Lib.hid (Ho2.out.kept hcut (.inr (by simp [Value.ownBlock])))
    have k4 := Lib.hid (l20Ord_any g (0 + 2000 + 1) 14 wc (by decide) (by decide) (by decide) (Hr2.out.kept hcut (fun k hk => by cases hk)))
    clear hcut
    go_wp2_with fail
    refine (k4.out).mono ?_
    rintro ee w4 ⟨ys, g4, n4, c4, hn4, rfl, ho4, hl4, _, hg4⟩
    have hfin : OrdsPost w g (.returned (.tuple #[.slice (some ⟨g1, 0, none⟩) n c, .slice (some ⟨g4, 0, none⟩) n4 c4])) w4 :=
      ⟨xs, ys, g1, n, c, g4, n4, c4, Hn.out, hn4, rfl, own_rd Ho3.out hg4 hgl, Joins.ownsRow_le ho4 Hg3.out.size, hl, hl4, grownBy_trans Hg3.out hg4⟩
    have Hfin := Lib.hid hfin
    clear hn4 ho4 hg4 hfin
    go_wp2_with fail
    go_ret2
    exact Hfin.out
set_option maxHeartbeats 1000000 in
theorem drawOrdCompare_any (a : Option Addr) (len cap : Nat) (w : World) (h : By w a len cap) : Calls Try.prog 31 #[.slice a len cap] w (DrawPost2 w) := by
  have k0 := Lib.hid (open_any a len cap w h)
  obtain ⟨g, hg⟩ : ∃ g, g = w.heap.size := ⟨_, rfl⟩
  rw [← hg] at k0
  have Hg := Lib.hid hg
  clear hg h
  go_enter Try.func31, Try.ntmps31
  go_wp2_with fail
  refine (k0.out).mono ?_
  rintro ee w1 ⟨rfl, hr1, hb1⟩
  have Hb1 := Lib.hid hb1
  have k1 := Lib.hid (l20Ords_any g w1 hr1)
  clear hb1 hr1
  go_wp2_with fail
  refine (k1.out).mono ?_
  rintro ee w2 ⟨xs, ys, g1, n, c, g2, n2, c2, hn, hn2, rfl, ho, ho2, hl, hl2, hg2⟩
  have hs1 : w.heap.size ≤ w1.heap.size := by have h1 := Hb1.out.size; have h2 := Hg.out; omega
  have hfin : DrawPost2 w (.returned (.tuple #[.slice (some ⟨g1, 0, none⟩) n c, .slice (some ⟨g2, 0, none⟩) n2 c2])) w2 :=
    ⟨xs, ys, g1, n, c, g2, n2, c2, hn, hn2, rfl, Joins.ownsRow_le ho hs1, Joins.ownsRow_le ho2 hs1, hl, hl2, by rw [← Hg.out]; exact Hb1.out.grown hg2 (by have h1 := Hb1.out.size; have h2 := Hg.out; omega) (fun k e => by cases e; exact Nat.le_refl _)⟩
  have Hfin := Lib.hid hfin
  clear hn hn2 ho ho2 hg2 hfin hs1
  go_wp2_with fail
  go_ret2
  exact Hfin.out

end Go.Proofs.Ythalogciiochfaa
