/- What the laws of one relation draw. -/
import Derived.Test.YthcnpglbfhgmfaaDrawRel
namespace Go.Proofs.Ythcnpglbfhgmfaa
set_option maxRecDepth 100000
open Go.RowKit

set_option maxHeartbeats 2000000 in
theorem drawRelValid_any (a : Option Addr) (len cap : Nat) (w : World) (h : By w a len cap) : Calls Try.prog 20 #[.slice a len cap] w (fun e w' =>
    ∃ (xs : List Int) (g n c : Nat), n = xs.length ∧ e = .returned (.slice (some ⟨g, 0, none⟩) n c) ∧ w'.ownsRow w.heap.size 3 1 (.slice (some ⟨g, 0, none⟩) n c) n (ints xs) ∧ n ≤ 13 ∧ Below w.heap.size w w') := by
  have k0 := Lib.hid (open_any a len cap w h)
  obtain ⟨g, hg⟩ : ∃ g, g = w.heap.size := ⟨_, rfl⟩
  rw [← hg] at k0
  have Hg := Lib.hid hg
  clear hg h
  go_enter Try.func20, Try.ntmps20
  go_wp2_with fail
  refine (k0.out).mono ?_
  rintro ee w1 ⟨rfl, hr1, hb1⟩
  have Hb1 := Lib.hid (show Below w.heap.size w w1 by rw [← Hg.out]; exact hb1)
  have k3 := Lib.hid (l20Rel_any g 0 7 3 w1 (by decide) (by decide) (by decide) (by decide) (by decide) hr1)
  clear hr1 hb1
  go_wp2_with fail
  refine (k3.out).mono ?_
  rintro ee w3 ⟨xs, g1, n, c, hn, rfl, ho, hl, hrd, hgr⟩
  have HO := Lib.hid (Joins.ownsRow_le ho Hb1.out.size)
  have HN := Lib.hid hn
  have HB := Lib.hid (Hb1.out.grown hgr Hb1.out.size (fun k e => by cases e; rw [Hg.out]; exact Nat.le_refl _))
  clear ho hn hrd hgr
  go_wp2_with fail
  go_ret
  exact ⟨xs, g1, n, c, HN.out, rfl, HO.out, hl, HB.out⟩

end Go.Proofs.Ythcnpglbfhgmfaa
