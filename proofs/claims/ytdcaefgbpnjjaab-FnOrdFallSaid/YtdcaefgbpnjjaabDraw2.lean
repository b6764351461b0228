/- What the laws of chapter 1 draw: the draws of each law. -/
import Derived.Test.YtdcaefgbpnjjaabDraw1
import Derived.Test.YtdcaefgbpnjjaabSem
import Derived.Deep.DeepCutAuto
namespace Go.Proofs.Ytdcaefgbpnjjaab
open Go.RowKit

def DrawPost (w : World) (e : Ending) (w' : World) : Prop :=
  ∃ (xs : List Int) (g n c : Nat), n = xs.length ∧ e = .returned (.slice (some ⟨g, 0, none⟩) n c) ∧ w'.ownsRow w.heap.size 3 1 (.slice (some ⟨g, 0, none⟩) n c) n (ints xs) ∧ n ≤ 200 ∧ Below w.heap.size w w'

def DrawPost2 (w : World) (e : Ending) (w' : World) : Prop :=
  ∃ (xs ys : List Int) (g n c g2 n2 c2 : Nat), n = xs.length ∧ n2 = ys.length ∧ e = .returned (.tuple #[.slice (some ⟨g, 0, none⟩) n c, .slice (some ⟨g2, 0, none⟩) n2 c2]) ∧
    w'.ownsRow w.heap.size 3 1 (.slice (some ⟨g, 0, none⟩) n c) n (ints xs) ∧ w'.ownsRow w.heap.size 3 1 (.slice (some ⟨g2, 0, none⟩) n2 c2) n2 (ints ys) ∧ n ≤ 200 ∧ n2 ≤ 200 ∧ Below w.heap.size w w'

theorem OrdPost.draw {w w1 w2 : World} {e : Ending} (h : OrdPost w1 w.heap.size 0 e w2) (hb : Below w.heap.size w w1) : DrawPost w e w2 := by
  obtain ⟨xs, g, n, c, hn, rfl, ho, hl, _, hg⟩ := h
  exact ⟨xs, g, n, c, hn, rfl, Joins.ownsRow_le ho hb.size, hl, hb.grown hg hb.size (fun k e => by cases e; exact Nat.le_refl _)⟩

set_option maxHeartbeats 1000000 in
theorem drawOrdKind_any (a : Option Addr) (len cap : Nat) (w : World) (h : By w a len cap) : Calls Try.prog 35 #[.slice a len cap] w (DrawPost w) := by
  have k0 := Lib.hid (open_any a len cap w h)
  obtain ⟨g, hg⟩ : ∃ g, g = w.heap.size := ⟨_, rfl⟩
  rw [← hg] at k0
  have Hg := Lib.hid hg
  clear hg h
  go_enter Try.func35, Try.ntmps35
  go_wp2_with fail
  refine (k0.out).mono ?_
  rintro ee w1 ⟨rfl, hr1, hb1⟩
  have Hb1 := Lib.hid hb1
  have k1 := Lib.hid (l20Ord_any g 0 9 w1 (by decide) (by decide) (by decide) hr1)
  clear hb1 hr1
  go_wp2_with fail
  refine (k1.out).mono ?_
  intro ee w2 hpost
  obtain ⟨v, he⟩ : ∃ v, ee = .returned v := by obtain ⟨_, g', n, c, _, h, _⟩ := hpost; exact ⟨_, h⟩
  subst he
  have Hp := Lib.hid hpost
  clear hpost
  go_wp2_with fail
  go_ret
  rw [Hg.out] at Hp
  exact Hp.out.draw (by rw [← Hg.out]; exact Hb1.out)
set_option maxHeartbeats 1000000 in
theorem drawOrdNext_any (a : Option Addr) (len cap : Nat) (w : World) (h : By w a len cap) : Calls Try.prog 39 #[.slice a len cap] w (DrawPost w) := by
  have k0 := Lib.hid (open_any a len cap w h)
  obtain ⟨g, hg⟩ : ∃ g, g = w.heap.size := ⟨_, rfl⟩
  rw [← hg] at k0
  have Hg := Lib.hid hg
  clear hg h
  go_enter Try.func39, Try.ntmps39
  go_wp2_with fail
  refine (k0.out).mono ?_
  rintro ee w1 ⟨rfl, hr1, hb1⟩
  have Hb1 := Lib.hid hb1
  have k1 := Lib.hid (l20Ord_any g 0 9 w1 (by decide) (by decide) (by decide) hr1)
  clear hb1 hr1
  go_wp2_with fail
  refine (k1.out).mono ?_
  intro ee w2 hpost
  obtain ⟨v, he⟩ : ∃ v, ee = .returned v := by obtain ⟨_, g', n, c, _, h, _⟩ := hpost; exact ⟨_, h⟩
  subst he
  have Hp := Lib.hid hpost
  clear hpost
  go_wp2_with fail
  go_ret
  rw [Hg.out] at Hp
  exact Hp.out.draw (by rw [← Hg.out]; exact Hb1.out)
set_option maxHeartbeats 1000000 in
theorem drawOrdBefore_any (a : Option Addr) (len cap : Nat) (w : World) (h : By w a len cap) : Calls Try.prog 41 #[.slice a len cap] w (DrawPost w) := by
  have k0 := Lib.hid (open_any a len cap w h)
  obtain ⟨g, hg⟩ : ∃ g, g = w.heap.size := ⟨_, rfl⟩
  rw [← hg] at k0
  have Hg := Lib.hid hg
  clear hg h
  go_enter Try.func41, Try.ntmps41
  go_wp2_with fail
  refine (k0.out).mono ?_
  rintro ee w1 ⟨rfl, hr1, hb1⟩
  have Hb1 := Lib.hid hb1
  have k1 := Lib.hid (l20Ord_any g 0 9 w1 (by decide) (by decide) (by decide) hr1)
  clear hb1 hr1
  go_wp2_with fail
  refine (k1.out).mono ?_
  intro ee w2 hpost
  obtain ⟨v, he⟩ : ∃ v, ee = .returned v := by obtain ⟨_, g', n, c, _, h, _⟩ := hpost; exact ⟨_, h⟩
  subst he
  have Hp := Lib.hid hpost
  clear hpost
  go_wp2_with fail
  go_ret
  rw [Hg.out] at Hp
  exact Hp.out.draw (by rw [← Hg.out]; exact Hb1.out)


end Go.Proofs.Ytdcaefgbpnjjaab
