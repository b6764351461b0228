/- What the laws of chapter 1 draw: ordinals, and rows that are none. -/
import Derived.Test.YthalogciiochfaaRaw
import Derived.Test.YthalogciiochfaaDraw0
import Derived.Test.YthalogciiochfaaNextS
namespace Go.Proofs.Ythalogciiochfaa
set_option maxRecDepth 100000
open Go.RowKit

/-- A row that was drawn. -/
def OrdPost (w : World) (g P : Nat) (e : Ending) (w' : World) : Prop :=
  ∃ (xs : List Int) (g' n c : Nat), n = xs.length ∧ e = .returned (.slice (some ⟨g', 0, none⟩) n c) ∧ w'.ownsRow w.heap.size 3 1 (.slice (some ⟨g', 0, none⟩) n c) n (ints xs) ∧
    n ≤ 200 ∧ RdOk w' g (P + 2000) ∧ w.grownBy w' (some g)

def OrdRel (w : World) (g P k : Nat) (v5 v6 : Value) (wr : World) : Prop :=
  ∃ (j : Nat) (t : T) (g1 c1 : Nat), v6 = .int .i64 j ∧ k + j = 4 ∧ v5 = .slice (some ⟨g1, 0, none⟩) t.enc.length c1 ∧ wr.ownsRow w.heap.size 3 1 v5 t.enc.length (ints t.enc) ∧
    t.enc.length ≤ 140 ∧ RdOk wr g (P + 200 + j * 61) ∧ w.grownBy wr (some g)

def OrdCut (w : World) (g P : Nat) (v5 : Value) (wx : World) : Prop :=
  ∃ (xs : List Int) (g1 n c1 : Nat), n = xs.length ∧ v5 = .slice (some ⟨g1, 0, none⟩) n c1 ∧ wx.ownsRow w.heap.size 3 1 v5 n (ints xs) ∧ n ≤ 140 ∧ RdOk wx g (P + 444) ∧ w.grownBy wx (some g)

theorem OrdRel.cut {w wr : World} {g P k : Nat} {v5 v6 : Value} (h : OrdRel w g P k v5 v6 wr) : OrdCut w g P v5 wr := by
  obtain ⟨j, t, g1, c1, rfl, hk, rfl, ho, hl, hr, hg⟩ := h
  exact ⟨t.enc, g1, t.enc.length, c1, rfl, rfl, ho, hl, hr.mono (by omega), hg⟩

theorem ord_fin {w w7 w8 : World} {g P n g' c : Nat} {xs : List Int} (h0 : w.grownBy w7 (some g)) (hg : w7.grownBy w8 none) (hr : RdOk w7 g (P + 2000)) (hn : n = xs.length) (hl : n ≤ 200)
    (ho : w8.ownsRow w7.heap.size 3 1 (.slice (some ⟨g', 0, none⟩) n c) n (ints xs)) : OrdPost w g P (.returned (.slice (some ⟨g', 0, none⟩) n c)) w8 :=
  ⟨xs, g', n, c, hn, rfl, Joins.ownsRow_le ho h0.size, hl, hr.kept hg (fun k hk => by cases hk), grownBy_step h0 hg (fun k hk => by cases hk)⟩

theorem own_news {w : World} {B e n b c : Nat} {xs : List Value} {o : Obj} (ho : w.ownsRow B e 1 (.slice (some ⟨b, 0, none⟩) n c) n xs) :
    ∀ j x, xs[j]? = some x → (w.alloc o).cell? ((⟨b, 0, none⟩ : Addr).add j) = some x := by
  intro j x hx
  have hj : j < xs.length := (List.getElem?_eq_some_iff.1 hx).1
  have hl := ho.1
  rw [Addr.add_lit, Nat.zero_add, World.cell?_alloc_past _ _ _ (ho.lt b rfl).2, ho.cellAt j (by omega)]
  exact hx

theorem le_of_alloc' {w w' : World} {o : Obj} {row : Option Nat} (hg : (w.alloc o).grownBy w' row) : w.heap.size + 1 ≤ w'.heap.size := by
  have := hg.size
  simpa using this

set_option maxHeartbeats 2000000 in
theorem l20Ord_any (g P : Nat) (n : Int) (w : World) (hP : P ≤ 90000000) (hn0 : 0 ≤ n) (hn1 : n ≤ 1000000) (hrd : RdOk w g P) :
    Calls Try.prog 66 #[.pointer (some ⟨g, 0, none⟩), .int .i64 n] w (OrdPost w g P) := by
  obtain ⟨i0, hi, hz0, hz1, hz2⟩ := info_parts info_int
  have hgl : g < w.heap.size := by obtain ⟨_, _, _, _, h1, _⟩ := hrd; exact (Array.getElem?_eq_some_iff.1 h1).1
  have k3 := Lib.hid (l20Raw_any 4 3 g P w (by omega) (by omega) (by omega) hrd)
  clear hrd
  go_enter Try.func66, Try.ntmps66
  go_wp2_with fail
  refine (k3.out).mono ?_
  rintro ee w1 ⟨t1, g1, c1, rfl, ho1, hl1, hr1, hg1⟩
  have hst : OrdRel w g P 4 (.slice (some ⟨g1, 0, none⟩) t1.enc.length c1) (.int .i64 0) w1 :=
    ⟨0, t1, g1, c1, rfl, rfl, rfl, ho1, Nat.le_trans hl1 (by decide), hr1.mono (by simp [Cb]), hg1⟩
  have Hst := Lib.hid hst
  clear hst ho1 hl1 hr1 hg1
  go_upto_block 0 with fail
  go_cut [5] (fun v5 wx => OrdCut w g P v5 wx)
  case first =>
    go_wp2_with fail
    go_loopg [5, 6] 4 (fun k v5 v6 wr => OrdRel w g P k v5 v6 wr)
    case atStart => exact Hst.out
    case round =>
      have Hrel := Lib.hid hrel
      obtain ⟨j, t, g2, c2, rfl, hkj, rfl, ho, hl, hr, hg⟩ := hrel
      have Hkj := Lib.hid hkj
      have hj4 : j ≤ 4 := by omega
      by_cases hj : j < 4
      · by_cases hlen : 24 < t.enc.length
        · have k2 := Lib.hid (l20Raw_any 4 2 g (P + 200 + j * 61) wr (by omega) (by omega) (by omega) hr)
          have Hg := Lib.hid hg
          clear hkj ho hr hg
          go_wp2_with fail
          refine (k2.out).mono ?_
          rintro ee w2 ⟨t2, g3, c3, rfl, ho2, hl2, hr2, hg2⟩
          have hfin : OrdRel w g P (gk - 1) (.slice (some ⟨g3, 0, none⟩) t2.enc.length c3) (.int .i64 ((j + 1 : Nat) : Int)) w2 :=
            ⟨j + 1, t2, g3, c3, rfl, by have := Hkj.out; omega, rfl, Joins.ownsRow_le ho2 Hg.out.size, Nat.le_trans hl2 (by decide), hr2.mono (by simp [Cb]; omega), grownBy_trans Hg.out hg2⟩
          have Hfin := Lib.hid hfin
          clear hfin ho2 hl2 hr2 hg2
          go_wp2_with fail
          go_roundg (gk - 1)
          case measure => have := Hkj.out; omega
          case rel => exact Hfin.out
        · clear hkj ho hr hg
          go_wp2_with fail
          go_meet
          exact OrdRel.cut Hrel.out
      · clear hkj ho hr hg
        go_wp2_with fail
        go_meet
        exact OrdRel.cut Hrel.out
  case rest =>
    obtain ⟨xs, g2, m, c2, hm, rfl, ho, hl, hr, hg⟩ := hcut
    obtain ⟨w5, rfl⟩ : ∃ w5 : World, w5 = wc := ⟨_, rfl⟩
    have Hm := Lib.hid hm
    have Ho := Lib.hid ho
    have Hg := Lib.hid hg
    have Hr := Lib.hid hr
    have ko := Lib.hid (odd_any g (P + 444) n w5 (by omega) (by omega) (by omega) hr)
    clear hm ho hg hr
    go_wp2_with fail
    refine (ko.out).mono ?_
    rintro ee w6 ⟨b, rfl, hr6, hg6⟩
    have Hg6 := Lib.hid (grownBy_trans Hg.out hg6)
    have Ho6 := Lib.hid (own_rd Ho.out hg6 hgl)
    have Hr6 := Lib.hid hr6
    clear hr6 hg6
    cases b with
    | false =>
      go_wp2_with fail
      go_ret
      exact ⟨xs, g2, m, c2, Hm.out, rfl, Ho6.out, by omega, Hr6.out.mono (by omega), Hg6.out⟩
    | true =>
      have kp := Lib.hid (pick_any g (P + 444 + 1) 5 w6 (by omega) (by decide) (by decide) Hr6.out)
      go_wp2_with fail
      refine (kp.out).mono ?_
      rintro ee w7 ⟨r, rfl, hr7, hrd7, hg7⟩
      have hr70 := hr7.1
      have hr71 := hr7.2.1 (by decide)
      have Hg7 := Lib.hid (grownBy_trans Hg6.out hg7)
      have Ho7 := Lib.hid (own_rd Ho6.out hg7 hgl)
      have Hr7 := Lib.hid (hrd7.mono (show P + 444 + 1 + 1 ≤ P + 2000 by omega))
      clear hr7 hrd7 hg7
      have hcase : r = 0 ∨ r = 1 ∨ r = 2 ∨ r = 3 ∨ r = 4 := by omega
      rcases hcase with rfl | rfl | rfl | rfl | rfl
      · go_wp2_with fail
        go_ret
        exact ord_fin (xs := []) Hg7.out (World.grownBy_alloc w7 _ none) Hr7.out rfl (by decide) (World.ownsRow_lit w7 #[] 0 (Nat.le_refl _) (by simp [maxLen]) rfl)
      · have HX := Lib.hid (show (ints xs).length = m * 1 by rw [ints_len]; have := Hm.out; omega)
        have HN := Lib.hid (show ∀ j u, (ints xs)[j]? = some u → (w7.alloc (.cells #[] 3)).cell? ((⟨g2, 0, none⟩ : Addr).add j) = some u from own_news Ho7.out)
        go_wp2_with (first
          | (at_builtin; refine wpList_append_own _ rfl (.tmp 31) (.tmp 32) 23 rfl w7.heap.size 3 i0 (.int .i64 0) 1 8 Try.underlying23 hi hz0 hz1 hz2 rfl (by decide) _ 0 [] rfl (World.ownsRow_lit w7 #[] 0 (Nat.le_refl _) (by simp [maxLen]) rfl) ⟨g2, 0, none⟩ m c2 (ints xs) rfl HX.out HN.out (ints_one _) (by unfold maxLen; omega) (by omega) (by simp) ?_; intro v1 w8 ho1 hg1 _)
          | (at_builtin; refine wpList_append_own _ rfl (.tmp 33) (.tmp 34) 23 rfl w7.heap.size 3 i0 (.int .i64 0) 1 8 Try.underlying23 hi hz0 hz1 hz2 rfl (by decide) _ m (ints xs) rfl ((own0 ho1).alloc _) ⟨w8.heap.size, 0, none⟩ 1 1 [.int .i64 0] rfl rfl (cell_one_new _ _ _) (ints_oneCell _ [0]) (by unfold maxLen; omega) (by omega) (by have h1 : w7.heap.size + 1 ≤ w8.heap.size := le_of_alloc' hg1; simp; omega) ?_; intro v2 w9 ho2 hg2 _))
        obtain ⟨g5, c5, rfl⟩ := Joins.ownsRow_form ho2 (by omega)
        have hgA := gn (gn (gn (World.grownBy_alloc w7 _ none) hg1 (fun r e => by cases e; exact Nat.le_refl _)) (World.grownBy_alloc w8 _ none) (fun r e => by cases e)) hg2 (fun r e => ((own0 ho1).lt r e).1)
        have hfin : OrdPost w g P (.returned (.slice (some ⟨g5, 0, none⟩) (m + 1) c5)) w9 :=
          ord_fin (xs := xs ++ [0]) Hg7.out hgA Hr7.out (by have := Hm.out; simp; omega) (by omega) (by simpa [ints] using ho2)
        have Hfin := Lib.hid hfin
        clear hfin hgA ho1 hg1 ho2 hg2
        go_wp2_with fail
        go_ret
        exact Hfin.out
      · go_wp2_with fail
        go_ret
        exact ord_fin (xs := [2, 1, 0, 1, 1, 1, 0]) Hg7.out (World.grownBy_alloc w7 _ none) Hr7.out rfl (by decide) (World.ownsRow_lit w7 _ 7 (Nat.le_refl _) (by simp [maxLen]) rfl)
      · go_wp2_with fail
        go_ret
        exact ord_fin (xs := [1, 0, 0]) Hg7.out (World.grownBy_alloc w7 _ none) Hr7.out rfl (by decide) (World.ownsRow_lit w7 _ 3 (Nat.le_refl _) (by simp [maxLen]) rfl)
      · go_wp2_with fail
        go_ret
        exact ord_fin (xs := [1, 10000, 0]) Hg7.out (World.grownBy_alloc w7 _ none) Hr7.out rfl (by decide) (World.ownsRow_lit w7 _ 3 (Nat.le_refl _) (by simp [maxLen]) rfl)

end Go.Proofs.Ythalogciiochfaa
