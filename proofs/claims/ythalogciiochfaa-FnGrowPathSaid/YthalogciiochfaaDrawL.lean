/- What the laws of chapter 2 draw: small ordinals, one or two. -/
import Derived.Test.YthalogciiochfaaDraw1
import Derived.Test.YthalogciiochfaaSem
import Derived.Deep.DeepCutAuto
namespace Go.Proofs.Ythalogciiochfaa
set_option maxRecDepth 100000
open Go.RowKit

theorem By.later {w w' : World} {a : Option Addr} {len cap : Nat} (h : By w a len cap) (hb : Below w.heap.size w w') : By w' a len cap := by
  refine ⟨h.1, h.2.1, fun hp => ?_⟩
  obtain ⟨b, off, h1, h2, h3⟩ := h.2.2 hp
  refine ⟨b, off, h1, Nat.lt_of_lt_of_le h2 hb.size, fun j hj => ?_⟩
  obtain ⟨v, h4, h5⟩ := h3 j hj
  exact ⟨v, h4, (hb.cell (p := ⟨b, off + j, none⟩) h2).trans h5⟩

def LitPost (w : World) (g P : Nat) (e : Ending) (w' : World) : Prop :=
  ∃ (xs : List Int) (g' n c : Nat), n = xs.length ∧ e = .returned (.slice (some ⟨g', 0, none⟩) n c) ∧ w'.ownsRow w.heap.size 3 1 (.slice (some ⟨g', 0, none⟩) n c) n (ints xs) ∧
    n ≤ 200 ∧ RdOk w' g (P + 2100) ∧ w.grownBy w' (some g)

def LitRel (w : World) (g P k : Nat) (v5 v6 : Value) (wr : World) : Prop :=
  ∃ (j : Nat) (t : T) (g1 c1 : Nat), v6 = .int .i64 j ∧ k + j = 4 ∧ v5 = .slice (some ⟨g1, 0, none⟩) t.enc.length c1 ∧ wr.ownsRow w.heap.size 3 1 v5 t.enc.length (ints t.enc) ∧
    t.enc.length ≤ 140 ∧ RdOk wr g (P + 200 + j * 61) ∧ w.grownBy wr (some g)

theorem lit_fin {w w7 w8 : World} {g P n g' c : Nat} {xs : List Int} (h0 : w.grownBy w7 (some g)) (hg : w7.grownBy w8 none) (hr : RdOk w7 g (P + 2100)) (hn : n = xs.length) (hl : n ≤ 200)
    (ho : w7.ownsRow w.heap.size 3 1 (.slice (some ⟨g', 0, none⟩) n c) n (ints xs)) : LitPost w g P (.returned (.slice (some ⟨g', 0, none⟩) n c)) w8 :=
  ⟨xs, g', n, c, hn, rfl, ho.kept hg (.inr (by simp [Value.ownBlock])), hl, hr.kept hg (fun k hk => by cases hk), grownBy_step h0 hg (fun k hk => by cases hk)⟩

set_option maxHeartbeats 2000000 in
theorem l20Little_any (g P : Nat) (n : Int) (w : World) (hP : P ≤ 80000000) (hn0 : 0 ≤ n) (hn1 : n ≤ 1000000) (hrd : RdOk w g P) :
    Calls Try.prog 79 #[.pointer (some ⟨g, 0, none⟩), .int .i64 n] w (LitPost w g P) := by
  have hgl : g < w.heap.size := by obtain ⟨_, _, _, _, h1, _⟩ := hrd; exact (Array.getElem?_eq_some_iff.1 h1).1
  have k0 := Lib.hid (odd_any g P n w (by omega) (by omega) (by omega) hrd)
  clear hrd
  go_enter Try.func79, Try.ntmps79
  go_wp2_with fail
  refine (k0.out).mono ?_
  rintro ee w0 ⟨b, rfl, hr0, hg0⟩
  have Hr0 := Lib.hid hr0
  have Hg0 := Lib.hid hg0
  have hg0s := hg0.size
  clear hr0 hg0
  cases b with
  | true =>
    have k1 := Lib.hid (l20Ord_any g (P + 1) 1 w0 (by omega) (by decide) (by decide) Hr0.out)
    go_wp2_with fail
    refine (k1.out).mono ?_
    rintro ee w1 ⟨xs, g1, m, c, hm, rfl, ho, hl, hr, hg⟩
    have hfin : LitPost w g P (.returned (.slice (some ⟨g1, 0, none⟩) m c)) w1 := ⟨xs, g1, m, c, hm, rfl, Joins.ownsRow_le ho hg0s, hl, hr.mono (by omega), grownBy_trans Hg0.out hg⟩
    have Hfin := Lib.hid hfin
    clear hm ho hr hg hfin
    go_wp2_with fail
    go_ret
    exact Hfin.out
  | false =>
    have k3 := Lib.hid (l20Raw_any 4 2 g (P + 1) w0 (by omega) (by omega) (by omega) Hr0.out)
    go_wp2_with fail
    refine (k3.out).mono ?_
    rintro ee w1 ⟨t1, g1, c1, rfl, ho1, hl1, hr1, hg1⟩
    have hst : LitRel w g P 4 (.slice (some ⟨g1, 0, none⟩) t1.enc.length c1) (.int .i64 0) w1 :=
      ⟨0, t1, g1, c1, rfl, rfl, rfl, Joins.ownsRow_le ho1 hg0s, Nat.le_trans hl1 (by decide), hr1.mono (by simp [Cb] <;> omega), grownBy_trans Hg0.out hg1⟩
    have Hst := Lib.hid hst
    clear hst ho1 hl1 hr1 hg1
    go_wp2_with fail
    go_loopg [5, 6] 4 (fun k v5 v6 wr => LitRel w g P k v5 v6 wr)
    case atStart => exact Hst.out
    case round =>
      obtain ⟨j, t, g2, c2, rfl, hkj, rfl, ho, hl, hr, hg⟩ := hrel
      have Hkj := Lib.hid hkj
      have Ho := Lib.hid ho
      have Hr := Lib.hid hr
      have Hg := Lib.hid hg
      have hj4 : j ≤ 4 := by omega
      by_cases hj : j < 4
      · by_cases hlen : 16 < t.enc.length
        · have k2 := Lib.hid (l20Raw_any 4 1 g (P + 200 + j * 61) wr (by omega) (by omega) (by omega) hr)
          clear hkj ho hr hg
          go_wp2_with fail
          refine (k2.out).mono ?_
          rintro ee w2 ⟨t2, g3, c3, rfl, ho2, hl2, hr2, hg2⟩
          have hfin : LitRel w g P (gk - 1) (.slice (some ⟨g3, 0, none⟩) t2.enc.length c3) (.int .i64 ((j + 1 : Nat) : Int)) w2 :=
            ⟨j + 1, t2, g3, c3, rfl, by have := Hkj.out; omega, rfl, Joins.ownsRow_le ho2 Hg.out.size, Nat.le_trans hl2 (by decide), hr2.mono (by simp [Cb]; omega), grownBy_trans Hg.out hg2⟩
          have Hfin := Lib.hid hfin
          clear hfin ho2 hl2 hr2 hg2
          go_wp2_with fail
          go_roundg (gk - 1)
          case measure => have := Hkj.out; omega
          case rel => exact Hfin.out
        · clear hkj ho hr hg
          go_wp2_with fail
          go_ret
          exact ⟨t.enc, g2, t.enc.length, c2, rfl, rfl, Ho.out, by omega, Hr.out.mono (by omega), Hg.out⟩
      · clear hkj ho hr hg
        go_wp2_with fail
        go_ret
        exact ⟨t.enc, g2, t.enc.length, c2, rfl, rfl, Ho.out, by omega, Hr.out.mono (by omega), Hg.out⟩

def BothPost (w : World) (g P : Nat) (e : Ending) (w' : World) : Prop :=
  ∃ (xs ys : List Int) (g1 n c g2 n2 c2 : Nat), n = xs.length ∧ n2 = ys.length ∧ e = .returned (.tuple #[.slice (some ⟨g1, 0, none⟩) n c, .slice (some ⟨g2, 0, none⟩) n2 c2]) ∧
    w'.ownsRow w.heap.size 3 1 (.slice (some ⟨g1, 0, none⟩) n c) n (ints xs) ∧ w'.ownsRow w.heap.size 3 1 (.slice (some ⟨g2, 0, none⟩) n2 c2) n2 (ints ys) ∧ n ≤ 200 ∧ n2 ≤ 200 ∧ RdOk w' g (P + 4200) ∧ w.grownBy w' (some g)


def DrawBoth (w : World) (e : Ending) (w' : World) : Prop :=
  ∃ (xs ys : List Int) (g n c g2 n2 c2 : Nat), n = xs.length ∧ n2 = ys.length ∧ e = .returned (.tuple #[.slice (some ⟨g, 0, none⟩) n c, .slice (some ⟨g2, 0, none⟩) n2 c2]) ∧
    w'.ownsRow w.heap.size 3 1 (.slice (some ⟨g, 0, none⟩) n c) n (ints xs) ∧ w'.ownsRow w.heap.size 3 1 (.slice (some ⟨g2, 0, none⟩) n2 c2) n2 (ints ys) ∧ n ≤ 200 ∧ n2 ≤ 200 ∧ Below w.heap.size w w'


end Go.Proofs.Ythalogciiochfaa
