/- More of chapter 2's draws: for powers, differences and quotients. -/
import Derived.Test.YtaleaagnkfbhpabDrawL
import Derived.Test.YtaleaagnkfbhpabAddT
import Derived.Test.YtaleaagnkfbhpabAddM
namespace Go.Proofs.Ytaleaagnkfbhpab
open Go.RowKit

theorem RdOk.lt {w : World} {g P : Nat} (h : RdOk w g P) : g < w.heap.size := by obtain ⟨_, _, _, _, h1, _⟩ := h; exact (Array.getElem?_eq_some_iff.1 h1).1

def DrawPow (w : World) (e : Ending) (w' : World) : Prop :=
  ∃ (xs : List Int) (r : Int) (g n c : Nat), n = xs.length ∧ -6 ≤ r ∧ r ≤ 11 ∧ e = .returned (.tuple #[.slice (some ⟨g, 0, none⟩) n c, .int .i64 r]) ∧
    w'.ownsRow w.heap.size 3 1 (.slice (some ⟨g, 0, none⟩) n c) n (ints xs) ∧ n ≤ 200 ∧ Below w.heap.size w w'

set_option maxHeartbeats 2000000 in
theorem drawOrdRaise_any (a : Option Addr) (len cap : Nat) (w : World) (h : By w a len cap) : Calls Try.prog 26 #[.slice a len cap] w (DrawPow w) := by
  have k0 := Lib.hid (open_any a len cap w h)
  obtain ⟨g, hg⟩ : ∃ g, g = w.heap.size := ⟨_, rfl⟩
  rw [← hg] at k0
  have Hg := Lib.hid hg
  clear hg h
  go_enter Try.func26, Try.ntmps26
  go_wp2_with fail
  refine (k0.out).mono ?_
  rintro ee w1 ⟨rfl, hr1, hb1⟩
  have Hb1 := Lib.hid hb1
  have hgl := hr1.lt
  have k1 := Lib.hid (l20Little_any g 0 9 w1 (by decide) (by decide) (by decide) hr1)
  clear hb1 hr1
  go_wp2_with fail
  refine (k1.out).mono ?_
  rintro ee w2 ⟨xs, g1, n, c, hn, rfl, ho, hl, hr2, hg2⟩
  have Hn := Lib.hid hn
  have Ho2 := Lib.hid ho
  have Hg2 := Lib.hid hg2
  have k2 := Lib.hid (pick_any g (0 + 2100) 5 w2 (by decide) (by decide) (by decide) hr2)
  clear hn ho hr2 hg2
  go_wp2_with fail
  refine (k2.out).mono ?_
  rintro ee w3 ⟨x2, rfl, hx2, hr3, hg3⟩
  have hx20 := hx2.1
  have hx21 := hx2.2.1 (by decide)
  have Hg3 := Lib.hid (grownBy_trans Hg2.out hg3)
  have Ho3 := Lib.hid (own_rd Ho2.out hg3 hgl)
  have k3 := Lib.hid (pick_any g (0 + 2100 + 1) 20 w3 (by decide) (by decide) (by decide) hr3)
  clear hx2 hr3 hg3
  go_wp2_with fail
  refine (k3.out).mono ?_
  rintro ee w4 ⟨x3, rfl, hx3, hr4, hg4⟩
  have hx30 := hx3.1
  have hx31 := hx3.2.1 (by decide)
  have Hg4 := Lib.hid (grownBy_trans Hg3.out hg4)
  have Ho4 := Lib.hid (own_rd Ho3.out hg4 hgl)
  have k4 := Lib.hid (pick_any g (0 + 2100 + 1 + 1) 20 w4 (by decide) (by decide) (by decide) hr4)
  have hd0 : 0 ≤ x3 / 19 := by omega
  have hd1 : x3 / 19 ≤ 1 := by omega
  have q3 : x3.tdiv 19 = x3 / 19 := Int.tdiv_eq_ediv_of_nonneg hx30
  clear hx3 hr4 hg4
  go_wp2_with fail
  refine (k4.out).mono ?_
  rintro ee w5 ⟨x4, rfl, hx4, hr5, hg5⟩
  have hx40 := hx4.1
  have hx41 := hx4.2.1 (by decide)
  have Hg5 := Lib.hid (grownBy_trans Hg4.out hg5)
  have Ho5 := Lib.hid (own_rd Ho4.out hg5 hgl)
  have hd2 : 0 ≤ x4 / 19 := by omega
  have hd3 : x4 / 19 ≤ 1 := by omega
  have q4 : x4.tdiv 19 = x4 / 19 := Int.tdiv_eq_ediv_of_nonneg hx40
  clear hx4 hr5 hg5
  go_wp2_with fail
  go_ret2
  have hs1 : g ≤ w1.heap.size := by omega
  have hs2 : w.heap.size ≤ w1.heap.size := Hb1.out.size
  refine ⟨xs, _, g1, n, c, Hn.out, ?_, ?_, rfl, Joins.ownsRow_le Ho5.out hs2, hl, by rw [← Hg.out]; exact Hb1.out.grown Hg5.out hs1 (fun k e => by cases e; exact Nat.le_refl _)⟩
  · omega
  · omega

/-- A row keeps the base that it had. -/
theorem own_above {w w' : World} {B B' e n size : Nat} {v : Value} {xs ys : List Value} (h : w.ownsRow B e size v n xs) (h' : w'.ownsRow B' e size v n ys) : w'.ownsRow B e size v n ys := by
  refine ⟨h'.1, ?_⟩
  rcases h'.2 with h1 | ⟨g, cap, cur, h0, h1, h2, h3⟩
  · exact .inl h1
  · exact .inr ⟨g, cap, cur, h0, (h.lt g (by rw [h0]; rfl)).1, h2, h3⟩

set_option maxHeartbeats 2000000 in
theorem drawOrdMinus_any (a : Option Addr) (len cap : Nat) (w : World) (h : By w a len cap) : Calls Try.prog 20 #[.slice a len cap] w (DrawBoth w) := by
  have k0 := Lib.hid (open_any a len cap w h)
  obtain ⟨g, hg⟩ : ∃ g, g = w.heap.size := ⟨_, rfl⟩
  rw [← hg] at k0
  have Hg := Lib.hid hg
  clear hg h
  go_enter Try.func20, Try.ntmps20
  go_wp2_with fail
  refine (k0.out).mono ?_
  rintro ee w1 ⟨rfl, hr1, hb1⟩
  have Hb1 := Lib.hid hb1
  have hgl := hr1.lt
  have k1 := Lib.hid (l20Both_any g w1 hr1)
  clear hb1 hr1
  go_wp2_with fail
  refine (k1.out).mono ?_
  rintro ee w2 ⟨xs, ys, g1, n, c, g2, n2, c2, hn, hn2, rfl, ho, ho2, hl, hl2, hr2, hg2⟩
  have hs1 : w.heap.size ≤ w1.heap.size := Hb1.out.size
  have hgw : g ≤ w1.heap.size := by omega
  have Hb2 := Lib.hid (show Below w.heap.size w w2 by rw [← Hg.out]; exact Hb1.out.grown hg2 hgw (fun k e => by cases e; exact Nat.le_refl _))
  have Hn := Lib.hid hn
  have Hn2 := Lib.hid hn2
  have Hr2 := Lib.hid hr2
  have HoX := Lib.hid (Joins.ownsRow_le ho hs1)
  have HoY := Lib.hid (Joins.ownsRow_le ho2 hs1)
  have HoX1 := Lib.hid ho
  have HoY1 := Lib.hid ho2
  have hs12 := hg2.size
  have ka := Lib.hid (spec_OrdAdd (some ⟨g2, 0, none⟩) (some ⟨g1, 0, none⟩) n2 c2 n c ys xs w2 (Sl.of_own ho2) (Sl.of_own ho))
  unfold OrdOkPost at ka
  obtain ⟨o, hoo⟩ : ∃ o, o = T.addOk ys xs := ⟨_, rfl⟩
  rw [← hoo] at ka
  have Ho := Lib.hid hoo
  have hs2 : w.heap.size ≤ w2.heap.size := Hb2.out.size
  clear hn hn2 ho ho2 hg2 hoo hr2
  go_wp2_with fail
  refine (ka.out).mono ?_
  rintro ee w3 ⟨a3, c3, rfl, ho3, hb3⟩
  have Hb3 := Lib.hid (Hb2.out.trans (hb3.mono hs2))
  have HoX3 := Lib.hid (ownsRow_below' HoX.out hb3)
  have HoY3 := Lib.hid (ownsRow_below' HoY.out hb3)
  have Hr3 := Lib.hid (Hr2.out.kept (below_grown hb3 none) (fun k e => by cases e))
  have Ho3 := Lib.hid ho3
  have hgl2 : g < w2.heap.size := by omega
  have hs3 := hb3.size
  clear ho3 hb3
  cases o with
  | false =>
    have hfin : DrawBoth w (.returned (.tuple #[.slice (some ⟨g1, 0, none⟩) n c, .slice (some ⟨g2, 0, none⟩) n2 c2])) w3 :=
      ⟨xs, ys, g1, n, c, g2, n2, c2, Hn.out, Hn2.out, rfl, HoX3.out, HoY3.out, hl, hl2, Hb3.out⟩
    have Hfin := Lib.hid hfin
    clear hfin
    go_wp2_with fail
    go_ret2
    exact Hfin.out
  | true =>
    have hv := (T.addOk_true Ho.out.symm).2.2.1
    have hvl : (T.addRow ys xs).length ≤ 60 := (T.vldB_true.1 hv).1
    have hvp : 0 < (T.addRow ys xs).length := by
      obtain ⟨_, t, ht, _⟩ := T.vldB_true.1 hv
      rw [ht, T.enc_len]; omega
    obtain ⟨g3, c3', hform⟩ := Joins.ownsRow_form Ho3.out hvp
    simp only [Value.slice.injEq] at hform
    obtain ⟨rfl, _, rfl⟩ := hform
    have kp := Lib.hid (pick_any g (0 + 4200) 2 w3 (by decide) (by decide) (by decide) Hr3.out)
    clear hv
    go_wp2_with fail
    refine (kp.out).mono ?_
    rintro ee w4 ⟨x, rfl, hx, _, hg4⟩
    have hb4 : Below w.heap.size w w4 := by
      rw [← Hg.out]
      have h1 := Hb3.out
      rw [← Hg.out] at h1
      exact h1.grown hg4 (by omega) (fun k e => by cases e; exact Nat.le_refl _)
    have hgB : g < w1.heap.size := hgl
    have hX4 := own_rd (own_above HoX1.out HoX3.out) hg4 hgB
    have hY4 := own_rd (own_above HoY1.out HoY3.out) hg4 hgB
    have h34 := own_rd Ho3.out hg4 hgl2
    have HX4 := Lib.hid (Joins.ownsRow_le hX4 hs1)
    have HY4 := Lib.hid (Joins.ownsRow_le hY4 hs1)
    have H34 := Lib.hid (Joins.ownsRow_le h34 hs2)
    have Hb4 := Lib.hid hb4
    clear hx hg4 hb4 hX4 hY4 h34
    by_cases hx0 : x = 0
    · subst hx0
      have hfin : DrawBoth w (.returned (.tuple #[.slice (some ⟨g3, 0, none⟩) (T.addRow ys xs).length c3, .slice (some ⟨g2, 0, none⟩) n2 c2])) w4 :=
        ⟨T.addRow ys xs, ys, g3, _, c3, g2, n2, c2, rfl, Hn2.out, rfl, H34.out, HY4.out, by omega, hl2, Hb4.out⟩
      have Hfin := Lib.hid hfin
      clear hfin
      go_wp2_with fail
      go_ret2
      exact Hfin.out
    · have hx1 : (x == 0) = false := by simpa using hx0
      have hfin : DrawBoth w (.returned (.tuple #[.slice (some ⟨g1, 0, none⟩) n c, .slice (some ⟨g2, 0, none⟩) n2 c2])) w4 :=
        ⟨xs, ys, g1, n, c, g2, n2, c2, Hn.out, Hn2.out, rfl, HX4.out, HY4.out, hl, hl2, Hb4.out⟩
      have Hfin := Lib.hid hfin
      clear hfin hx0
      go_wp2_with fail
      go_ret2
      exact Hfin.out

set_option maxHeartbeats 2000000 in
theorem drawOrdDivide_any (a : Option Addr) (len cap : Nat) (w : World) (h : By w a len cap) : Calls Try.prog 23 #[.slice a len cap] w (DrawBoth w) := by
  have k0 := Lib.hid (open_any a len cap w h)
  obtain ⟨g, hg⟩ : ∃ g, g = w.heap.size := ⟨_, rfl⟩
  rw [← hg] at k0
  have Hg := Lib.hid hg
  clear hg h
  go_enter Try.func23, Try.ntmps23
  go_wp2_with fail
  refine (k0.out).mono ?_
  rintro ee w1 ⟨rfl, hr1, hb1⟩
  have Hb1 := Lib.hid hb1
  have hgl := hr1.lt
  have k1 := Lib.hid (l20Both_any g w1 hr1)
  clear hb1 hr1
  go_wp2_with fail
  refine (k1.out).mono ?_
  rintro ee w2 ⟨xs, ys, g1, n, c, g2, n2, c2, hn, hn2, rfl, ho, ho2, hl, hl2, hr2, hg2⟩
  have hs1 : w.heap.size ≤ w1.heap.size := Hb1.out.size
  have hgw : g ≤ w1.heap.size := by omega
  have Hn := Lib.hid hn
  have Hn2 := Lib.hid hn2
  have HoX := Lib.hid ho
  have HoY := Lib.hid ho2
  have Hg2 := Lib.hid hg2
  have kp := Lib.hid (pick_any g (0 + 4200) 2 w2 (by decide) (by decide) (by decide) hr2)
  clear hn hn2 ho ho2 hg2 hr2
  go_wp2_with fail
  refine (kp.out).mono ?_
  rintro ee w3 ⟨x, rfl, hx, hr3, hg3⟩
  have Hg3 := Lib.hid (grownBy_trans Hg2.out hg3)
  have HoX3 := Lib.hid (own_rd HoX.out hg3 hgl)
  have HoY3 := Lib.hid (own_rd HoY.out hg3 hgl)
  have hs3 := Hg3.out.size
  by_cases hx0 : x = 0
  · subst hx0
    have ko := Lib.hid (l20Ord_any g (0 + 4200 + 1) 12 w3 (by decide) (by decide) (by decide) hr3)
    clear hx hr3 hg3
    go_wp2_with fail
    refine (ko.out).mono ?_
    rintro ee w4 ⟨zs, g4, n4, c4, hn4, rfl, ho4, hl4, _, hg4⟩
    have hfin : DrawBoth w (.returned (.tuple #[.slice (some ⟨g4, 0, none⟩) n4 c4, .slice (some ⟨g2, 0, none⟩) n2 c2])) w4 :=
      ⟨zs, ys, g4, n4, c4, g2, n2, c2, hn4, Hn2.out, rfl, Joins.ownsRow_le ho4 (Nat.le_trans hs1 hs3), Joins.ownsRow_le (own_rd HoY3.out hg4 hgl) hs1, hl4, hl2, by rw [← Hg.out]; exact Hb1.out.grown (grownBy_trans Hg3.out hg4) hgw (fun k e => by cases e; exact Nat.le_refl _)⟩
    have Hfin := Lib.hid hfin
    clear hn4 ho4 hg4 hfin
    go_wp2_with fail
    go_ret2
    exact Hfin.out
  · have hx1 : (x == 0) = false := by simpa using hx0
    have hfin : DrawBoth w (.returned (.tuple #[.slice (some ⟨g1, 0, none⟩) n c, .slice (some ⟨g2, 0, none⟩) n2 c2])) w3 :=
      ⟨xs, ys, g1, n, c, g2, n2, c2, Hn.out, Hn2.out, rfl, Joins.ownsRow_le HoX3.out hs1, Joins.ownsRow_le HoY3.out hs1, hl, hl2, by rw [← Hg.out]; exact Hb1.out.grown Hg3.out hgw (fun k e => by cases e; exact Nat.le_refl _)⟩
    have Hfin := Lib.hid hfin
    clear hx hr3 hg3 hx0 hfin
    go_wp2_with fail
    go_ret2
    exact Hfin.out

end Go.Proofs.Ytaleaagnkfbhpab
