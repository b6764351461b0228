/- What the laws of one relation draw. -/
import Derived.Test.YthcnpglbfhgmfaaDoorDrawRel
namespace Go.Proofs.YthcnpglbfhgmfaaDoor
set_option maxRecDepth 100000
open Go.RowKit

set_option maxHeartbeats 2000000 in
theorem drawRanksOf_any (a : Option Addr) (len cap : Nat) (w : World) (h : By w a len cap) : Calls Tryd.prog 11 #[.slice a len cap] w (fun e w' =>
    ∃ (xs : List Int) (g n c : Nat), n = xs.length ∧ e = .returned (.slice (some ⟨g, 0, none⟩) n c) ∧ w'.ownsRow w.heap.size 3 1 (.slice (some ⟨g, 0, none⟩) n c) n (ints xs) ∧ n ≤ 13 ∧ Below w.heap.size w w') := by
  have k0 := Lib.hid (open_any a len cap w h)
  obtain ⟨g, hg⟩ : ∃ g, g = w.heap.size := ⟨_, rfl⟩
  rw [← hg] at k0
  have Hg := Lib.hid hg
  clear hg h
  go_enter Tryd.func11, Tryd.ntmps11
  go_wp2_with fail
  refine (k0.out).mono ?_
  rintro ee w1 ⟨rfl, hr1, hb1⟩
  have Hb1 := Lib.hid (show Below w.heap.size w w1 by rw [← Hg.out]; exact hb1)
  have k3 := Lib.hid (l20Rel_any g 0 8 9 w1 (by decide) (by decide) (by decide) (by decide) (by decide) hr1)
  clear hr1 hb1
  go_wp2_with fail
  refine (k3.out).mono ?_
  rintro ee w3 ⟨xs, g1, n, c, hn, rfl, ho, hl, hrd, hgr⟩
  have HO := Lib.hid (Joins.ownsRow_le ho Hb1.out.size)
  have HN := Lib.hid hn
  have HB := Lib.hid (Hb1.out.grown hgr Hb1.out.size (fun k e => by cases e; rw [Hg.out]; exact Nat.le_refl _))
  clear ho hn hrd hgr
  go_wp2_with fail
  go_ret
  exact ⟨xs, g1, n, c, HN.out, rfl, HO.out, hl, HB.out⟩
set_option maxHeartbeats 2000000 in
theorem drawRelClosed_any (a : Option Addr) (len cap : Nat) (w : World) (h : By w a len cap) : Calls Tryd.prog 39 #[.slice a len cap] w (fun e w' =>
    ∃ (xs : List Int) (g n c : Nat), n = xs.length ∧ e = .returned (.slice (some ⟨g, 0, none⟩) n c) ∧ w'.ownsRow w.heap.size 3 1 (.slice (some ⟨g, 0, none⟩) n c) n (ints xs) ∧ n ≤ 13 ∧ Below w.heap.size w w') := by
  have k0 := Lib.hid (open_any a len cap w h)
  obtain ⟨g, hg⟩ : ∃ g, g = w.heap.size := ⟨_, rfl⟩
  rw [← hg] at k0
  have Hg := Lib.hid hg
  clear hg h
  go_enter Tryd.func39, Tryd.ntmps39
  go_wp2_with fail
  refine (k0.out).mono ?_
  rintro ee w1 ⟨rfl, hr1, hb1⟩
  have Hb1 := Lib.hid (show Below w.heap.size w w1 by rw [← Hg.out]; exact hb1)
  have k3 := Lib.hid (l20Rel_any g 0 7 9 w1 (by decide) (by decide) (by decide) (by decide) (by decide) hr1)
  clear hr1 hb1
  go_wp2_with fail
  refine (k3.out).mono ?_
  rintro ee w3 ⟨xs, g1, n, c, hn, rfl, ho, hl, hrd, hgr⟩
  have HO := Lib.hid (Joins.ownsRow_le ho Hb1.out.size)
  have HN := Lib.hid hn
  have HB := Lib.hid (Hb1.out.grown hgr Hb1.out.size (fun k e => by cases e; rw [Hg.out]; exact Nat.le_refl _))
  clear ho hn hrd hgr
  go_wp2_with fail
  go_ret
  exact ⟨xs, g1, n, c, HN.out, rfl, HO.out, hl, HB.out⟩
set_option maxHeartbeats 2000000 in
theorem drawWellFounded_any (a : Option Addr) (len cap : Nat) (w : World) (h : By w a len cap) : Calls Tryd.prog 20 #[.slice a len cap] w (fun e w' =>
    ∃ (xs : List Int) (g n c : Nat), n = xs.length ∧ e = .returned (.slice (some ⟨g, 0, none⟩) n c) ∧ w'.ownsRow w.heap.size 3 1 (.slice (some ⟨g, 0, none⟩) n c) n (ints xs) ∧ n ≤ 13 ∧ Below w.heap.size w w') := by
  have k0 := Lib.hid (open_any a len cap w h)
  obtain ⟨g, hg⟩ : ∃ g, g = w.heap.size := ⟨_, rfl⟩
  rw [← hg] at k0
  have Hg := Lib.hid hg
  clear hg h
  go_enter Tryd.func20, Tryd.ntmps20
  go_wp2_with fail
  refine (k0.out).mono ?_
  rintro ee w1 ⟨rfl, hr1, hb1⟩
  have Hb1 := Lib.hid (show Below w.heap.size w w1 by rw [← Hg.out]; exact hb1)
  have k3 := Lib.hid (l20Rel_any g 0 7 9 w1 (by decide) (by decide) (by decide) (by decide) (by decide) hr1)
  clear hr1 hb1
  go_wp2_with fail
  refine (k3.out).mono ?_
  rintro ee w3 ⟨xs, g1, n, c, hn, rfl, ho, hl, hrd, hgr⟩
  have HO := Lib.hid (Joins.ownsRow_le ho Hb1.out.size)
  have HN := Lib.hid hn
  have HB := Lib.hid (Hb1.out.grown hgr Hb1.out.size (fun k e => by cases e; rw [Hg.out]; exact Nat.le_refl _))
  clear ho hn hrd hgr
  go_wp2_with fail
  go_ret
  exact ⟨xs, g1, n, c, HN.out, rfl, HO.out, hl, HB.out⟩
set_option maxHeartbeats 2000000 in
theorem drawCircleOf_any (a : Option Addr) (len cap : Nat) (w : World) (h : By w a len cap) : Calls Tryd.prog 33 #[.slice a len cap] w (fun e w' =>
    ∃ (xs : List Int) (g n c : Nat), n = xs.length ∧ e = .returned (.slice (some ⟨g, 0, none⟩) n c) ∧ w'.ownsRow w.heap.size 3 1 (.slice (some ⟨g, 0, none⟩) n c) n (ints xs) ∧ n ≤ 13 ∧ Below w.heap.size w w') := by
  have k0 := Lib.hid (open_any a len cap w h)
  obtain ⟨g, hg⟩ : ∃ g, g = w.heap.size := ⟨_, rfl⟩
  rw [← hg] at k0
  have Hg := Lib.hid hg
  clear hg h
  go_enter Tryd.func33, Tryd.ntmps33
  go_wp2_with fail
  refine (k0.out).mono ?_
  rintro ee w1 ⟨rfl, hr1, hb1⟩
  have Hb1 := Lib.hid (show Below w.heap.size w w1 by rw [← Hg.out]; exact hb1)
  have k3 := Lib.hid (l20Rel_any g 0 7 9 w1 (by decide) (by decide) (by decide) (by decide) (by decide) hr1)
  clear hr1 hb1
  go_wp2_with fail
  refine (k3.out).mono ?_
  rintro ee w3 ⟨xs, g1, n, c, hn, rfl, ho, hl, hrd, hgr⟩
  have HO := Lib.hid (Joins.ownsRow_le ho Hb1.out.size)
  have HN := Lib.hid hn
  have HB := Lib.hid (Hb1.out.grown hgr Hb1.out.size (fun k e => by cases e; rw [Hg.out]; exact Nat.le_refl _))
  clear ho hn hrd hgr
  go_wp2_with fail
  go_ret
  exact ⟨xs, g1, n, c, HN.out, rfl, HO.out, hl, HB.out⟩

end Go.Proofs.YthcnpglbfhgmfaaDoor
