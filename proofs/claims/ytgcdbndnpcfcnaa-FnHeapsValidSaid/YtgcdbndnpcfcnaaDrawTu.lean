/- The draws of chapter 8. -/
import Derived.Test.YtgcdbndnpcfcnaaDrawTs
namespace Go.Proofs.Ytgcdbndnpcfcnaa
set_option maxRecDepth 100000
open Go.RowKit

def HpDraw (w : World) (e : Ending) (w' : World) : Prop :=
  ∃ (xs : List Int) (g n c : Nat), n = xs.length ∧ e = .returned (.slice (some ⟨g, 0, none⟩) n c) ∧ w'.ownsRow w.heap.size 3 1 (.slice (some ⟨g, 0, none⟩) n c) n (ints xs) ∧ n ≤ 3 ∧ Below w.heap.size w w'
def TsDraw (w : World) (e : Ending) (w' : World) : Prop :=
  ∃ (ts : List Tr) (v : Value) (n : Nat), e = .returned v ∧ TsD w.heap.size w' v n ts ∧ T3 ts ∧ 1 ≤ n ∧ n ≤ 5 ∧ Below w.heap.size w w'
/-- A rule that was drawn. -/
def TrDraw (w : World) (e : Ending) (w' : World) : Prop :=
  ∃ (t : Tr) (a1 a2 : Option Addr) (n1 n2 c1 c2 : Nat), e = .returned (.agg #[.slice a1 n1 c1, .slice a2 n2 c2]) ∧ Sl w' a1 n1 c1 t.take ∧ Sl w' a2 n2 c2 t.give ∧ n1 ≤ 3 ∧ n2 ≤ 3 ∧ Below w.heap.size w w'

set_option maxHeartbeats 2000000 in
theorem drawHeapsValid_any (a : Option Addr) (len cap : Nat) (w : World) (h : By w a len cap) : Calls Try.prog 20 #[.slice a len cap] w (HpDraw w) := by
  have k0 := Lib.hid (open_any a len cap w h)
  obtain ⟨g, hg⟩ : ∃ g, g = w.heap.size := ⟨_, rfl⟩
  rw [← hg] at k0
  have Hg := Lib.hid hg
  clear hg h
  go_enter Try.func20, Try.ntmps20
  go_wp2_with fail
  refine (k0.out).mono ?_
  rintro ee w1 ⟨rfl, hr1, hb1⟩
  have k1 := Lib.hid (l20Heaps_any g 0 2 w1 (by decide) (by decide) (by decide) hr1)
  have Hb1 := Lib.hid hb1
  clear hr1 hb1
  go_wp2_with fail
  refine (k1.out).mono ?_
  rintro ee w2 ⟨xs, g', n, c, hn, rfl, ho, hl, _, hg2⟩
  have HF := Lib.hid (show HpDraw w (.returned (.slice (some ⟨g', 0, none⟩) n c)) w2 from ⟨xs, g', n, c, hn, rfl, Joins.ownsRow_le ho (by have := Hb1.out.size; omega), hl, by rw [Hg.out] at Hb1 hg2; exact Hb1.out.grown hg2 Hb1.out.size (fun k e => by cases e; exact Nat.le_refl _)⟩)
  clear hn ho hl hg2
  go_wp2_with fail
  go_ret
  exact HF.out

set_option maxHeartbeats 2000000 in
theorem drawTradesValid_any (a : Option Addr) (len cap : Nat) (w : World) (h : By w a len cap) : Calls Try.prog 17 #[.slice a len cap] w (TsDraw w) := by
  have k0 := Lib.hid (open_any a len cap w h)
  obtain ⟨g, hg⟩ : ∃ g, g = w.heap.size := ⟨_, rfl⟩
  rw [← hg] at k0
  have Hg := Lib.hid hg
  clear hg h
  go_enter Try.func17, Try.ntmps17
  go_wp2_with fail
  refine (k0.out).mono ?_
  rintro ee w1 ⟨rfl, hr1, hb1⟩
  have k1 := Lib.hid (l20Trades_any g 0 3 w1 (by decide) (by decide) (by decide) hr1)
  have Hb1 := Lib.hid hb1
  clear hr1 hb1
  go_wp2_with fail
  refine (k1.out).mono ?_
  rintro ee w2 ⟨ts, v, n, rfl, hT, h3, hn1, hn5, _, hg2⟩
  have HF := Lib.hid (show TsDraw w (.returned v) w2 from ⟨ts, v, n, rfl, hT.mono (by have := Hb1.out.size; omega), h3, hn1, hn5, by rw [Hg.out] at Hb1 hg2; exact Hb1.out.grown hg2 Hb1.out.size (fun k e => by cases e; exact Nat.le_refl _)⟩)
  clear hT h3 hn1 hn5 hg2
  go_wp2_with fail
  go_ret
  exact HF.out

end Go.Proofs.Ytgcdbndnpcfcnaa
