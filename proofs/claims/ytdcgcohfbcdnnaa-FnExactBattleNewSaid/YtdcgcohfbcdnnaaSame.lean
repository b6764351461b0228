/- The model's l1Same: whether two rows are the same. -/
import Derived.Test.YtdcgcohfbcdnnaaLawKit
import Derived.Deep.LoopGhost
namespace Go.Proofs.Ytdcgcohfbcdnnaa
set_option maxRecDepth 100000
open Go.RowKit

set_option maxHeartbeats 1000000 in
theorem l1Same_any (a1 a2 : Option Addr) (n1 c1 n2 c2 : Nat) (xs ys : List Int) (w : World) (hb : n1 ≤ 1000000000000) (hx : Sl w a1 n1 c1 xs) (hy : Sl w a2 n2 c2 ys) :
    Calls Try.prog 59 #[.slice a1 n1 c1, .slice a2 n2 c2] w fun e w' => e = .returned (.bool (eqB xs ys)) ∧ Below w.heap.size w w' := by
  obtain ⟨x1, x2, x3, x4⟩ := hx
  obtain ⟨y1, y2, y3, y4⟩ := hy
  have X1 := Lib.hid x1
  have X4 := Lib.hid x4
  have Y1 := Lib.hid y1
  have Y4 := Lib.hid y4
  clear x1 x4 y1 y4
  go_enter Try.func59, Try.ntmps59
  go_wp2_with fail
  go_loopg [5] n1 (fun gk i wr => ∃ (k : Nat), gk + k = n1 ∧ k ≤ n2 ∧ i = .int .i64 k ∧ Hid (∀ j, j < k → xs.getD j 0 = ys.getD j 0) ∧ Below w.heap.size w wr)
  case atStart => exact ⟨0, rfl, Nat.zero_le _, rfl, fun j hj => by omega, Below.refl _ _⟩
  case round =>
    obtain ⟨k, hgk, hk2, rfl, HE, hbel⟩ := hrel
    have Hgk := Lib.hid hgk
    have hk : k ≤ n1 := by omega
    by_cases hlt : k < n1
    · by_cases hlt2 : k < n2
      · obtain ⟨b, off, rfl, hat⟩ := X4.out (by omega)
        obtain ⟨b', off', rfl, hat'⟩ := Y4.out (by omega)
        have hkx : k < xs.length := by rw [X1.out]; exact hlt
        have hky : k < ys.length := by rw [Y1.out]; exact hlt2
        have hx : wr.cell? ⟨b, off + k, none⟩ = some (.int .i64 (xs.getD k 0)) := (hbel.cell (p := ⟨b, off + k, none⟩) (by exact hat.lt (by intro h; rw [h] at hkx; simp at hkx))).trans (hat k hkx)
        have hy : wr.cell? ⟨b', off' + k, none⟩ = some (.int .i64 (ys.getD k 0)) := (hbel.cell (p := ⟨b', off' + k, none⟩) (by exact hat'.lt (by intro h; rw [h] at hky; simp at hky))).trans (hat' k hky)
        obtain ⟨x, hxe⟩ : ∃ x, x = xs.getD k 0 := ⟨_, rfl⟩
        obtain ⟨y, hye⟩ : ∃ x, x = ys.getD k 0 := ⟨_, rfl⟩
        rw [← hxe] at hx
        rw [← hye] at hy
        have Hx := Lib.hid hxe
        have Hy := Lib.hid hye
        clear hkx hky hxe hye hgk
        by_cases hxy : x = y
        · subst hxy
          go_wp2_with fail
          go_quiet (fail)
          go_wp2_with fail
          go_roundg (gk - 1)
          case measure => have := Hgk.out; omega
          case rel =>
            refine ⟨k + 1, by have := Hgk.out; omega, by omega, by go_num, fun j hj => ?_, hbel.trans (Joins.below_draws _ _ _)⟩
            by_cases hjk : j = k
            · subst hjk; rw [← Hx.out, ← Hy.out]
            · exact HE.out j (by omega)
        · have hne : (x != y) = true := by simp [hxy]
          have HXY := Lib.hid hxy
          clear hxy
          go_wp2_with fail
          go_quiet (fail)
          go_wp2_with fail
          go_ret
          exact ⟨by rw [eqB_at (k := k) (by rw [← Hx.out, ← Hy.out]; exact HXY.out)]; rfl, hbel.trans (Joins.below_draws _ _ _)⟩
      · have hd : decide ((k : Int) < (n2 : Int)) = false := decide_eq_false (by omega)
        have hne : ((n1 : Int) == (n2 : Int)) = false := by simp; omega
        have Hn := Lib.hid (show n1 ≠ n2 by omega)
        clear hgk
        go_wp2_with fail
        go_ret
        exact ⟨by rw [eqB_len (by rw [X1.out, Y1.out]; exact Hn.out)]; rfl, hbel⟩
    · obtain rfl : k = n1 := by omega
      have hd : decide ((k : Int) < (k : Int)) = false := decide_eq_false (by omega)
      by_cases hn : k = n2
      · subst hn
        have hne : ((k : Int) == (k : Int)) = true := by simp
        clear hgk
        go_wp2_with fail
        go_ret
        exact ⟨by rw [eqB_all (by rw [X1.out, Y1.out]) (fun j hj => HE.out j (by rw [← X1.out]; exact hj))]; rfl, hbel⟩
      · have hne : ((k : Int) == (n2 : Int)) = false := by simp; omega
        have Hn := Lib.hid hn
        clear hgk hn
        go_wp2_with fail
        go_ret
        exact ⟨by rw [eqB_len (by rw [X1.out, Y1.out]; exact Hn.out)]; rfl, hbel⟩

end Go.Proofs.Ytdcgcohfbcdnnaa
