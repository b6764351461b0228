/- GoodsteinNext, GoodsteinRun, GoodsteinEnd: the program's and the model's answers. -/
import Derived.Test.YtfclhepmakhimaaBaseU
import Derived.Deep.LoopGhost
namespace Go.Proofs.Ytfclhepmakhimaa
set_option maxRecDepth 100000
open Go.RowKit

theorem T.goodI_out {n b : Int} (h : ¬ ((1 ≤ n ∧ n ≤ 1000000000) ∧ 2 ≤ b ∧ b ≤ 89)) : T.goodI n b = -1 := by
  rw [T.goodI, if_neg]
  rintro ⟨h1, h2, h3, h4⟩
  by_cases h5 : 1000000000 < n
  · rw [T.changeI_out (.inr h5)] at h4; omega
  · exact h ⟨⟨h1, by omega⟩, h2, h3⟩
theorem T.goodI_in {n b : Int} (h : (1 ≤ n ∧ n ≤ 1000000000) ∧ 2 ≤ b ∧ b ≤ 89) : T.goodI n b = if 0 ≤ T.changeI n b (b + 1) then T.changeI n b (b + 1) - 1 else -1 := by
  rw [T.goodI]
  by_cases h4 : 0 ≤ T.changeI n b (b + 1)
  · rw [if_pos ⟨h.1.1, h.2.1, h.2.2, h4⟩, if_pos h4]
  · rw [if_neg (fun k => h4 k.2.2.2), if_neg h4]
theorem T.goodI_vals (n b : Int) : T.goodI n b = -1 ∨ 0 ≤ T.goodI n b ∧ T.goodI n b ≤ 1000000000 := by
  rw [T.goodI]
  split
  · rename_i h
    rcases T.changeI_vals n b (b + 1) with h1 | h1
    · omega
    · omega
  · exact .inl rfl
theorem T.goodI_zero (b : Int) : T.goodI 0 b = -1 := T.goodI_out (by omega)

theorem impl_GoodsteinNext (n b : Int) (w : World) (hn0 : -9223372036854775808 ≤ n) (hn1 : n ≤ 9223372036854775807) (hb0 : -9223372036854775808 ≤ b) (hb1 : b ≤ 9223372036854775807) :
    Calls Try.prog 15 #[.int .i64 n, .int .i64 b] w fun e w' => e = .returned (.int .i64 (T.goodI n b)) ∧ Below w.heap.size w w' := by
  have k1 := Lib.hid (mayFollow_any n b w)
  by_cases h : (1 ≤ n ∧ n ≤ 1000000000) ∧ 2 ≤ b ∧ b ≤ 89
  · rw [decide_eq_true h] at k1
    rw [T.goodI_in h]
    have k2 := Lib.hid (impl_ChangeBase n b (b + 1) w hn0 hn1 hb0 hb1 (by omega) (by omega))
    have hv := T.changeI_vals n b (b + 1)
    obtain ⟨g, hg⟩ : ∃ g, g = T.changeI n b (b + 1) := ⟨_, rfl⟩
    rw [← hg] at k2 hv ⊢
    clear hg
    go_enter Try.func15, Try.ntmps15
    go_wp2_with fail
    refine (k1.out).mono ?_
    rintro ee wx ⟨rfl, rfl⟩
    go_wp2_with fail
    refine (k2.out).mono ?_
    rintro ee w2 ⟨rfl, hb2⟩
    have Hb2 := Lib.hid hb2
    clear hb2
    rcases hv with rfl | ⟨hg0, hg1⟩
    · go_wp2_with fail
      go_ret
      exact ⟨rfl, Hb2.out⟩
    · have hgn : ¬ g < 0 := by omega
      go_wp2_with fail
      go_ret
      exact ⟨rfl, Hb2.out⟩
  · rw [decide_eq_false h] at k1
    rw [T.goodI_out h]
    clear h
    go_enter Try.func15, Try.ntmps15
    go_wp2_with fail
    refine (k1.out).mono ?_
    rintro ee wx ⟨rfl, rfl⟩
    go_wp2_with fail
    go_ret
    exact ⟨rfl, Below.refl _ _⟩

theorem spec_GoodsteinNext (n b : Int) (w : World) (hn0 : -9223372036854775808 ≤ n) (hn1 : n ≤ 9223372036854775807) (hb0 : -9223372036854775808 ≤ b) (hb1 : b ≤ 9223372036854775807) :
    Calls Try.prog 14 #[.int .i64 n, .int .i64 b] w fun e w' => e = .returned (.int .i64 (T.goodI n b)) ∧ Below w.heap.size w w' := by
  by_cases h1 : n < 1
  · rw [T.goodI_out (by omega)]
    go_enter Try.func14, Try.ntmps14
    go_wp2_with fail
    go_ret
    exact ⟨rfl, Below.refl _ _⟩
  · by_cases h2 : 2 ≤ b ∧ b ≤ 89
    · have k1 := Lib.hid (l1In_yes b 2 89 w h2.1 h2.2)
      have k2 := Lib.hid (fun wx => spec_ChangeBase n b (b + 1) wx hn0 hn1 hb0 hb1 (by omega) (by omega))
      have hv := T.changeI_vals n b (b + 1)
      have he : T.goodI n b = if 0 ≤ T.changeI n b (b + 1) then T.changeI n b (b + 1) - 1 else -1 := by
        by_cases h9 : n ≤ 1000000000
        · exact T.goodI_in ⟨⟨by omega, h9⟩, h2⟩
        · rw [T.goodI_out (by omega), T.changeI_out (by omega)]; rfl
      rw [he]
      obtain ⟨g, hg⟩ : ∃ g, g = T.changeI n b (b + 1) := ⟨_, rfl⟩
      rw [← hg] at k2 hv ⊢
      clear hg he
      go_enter Try.func14, Try.ntmps14
      go_wp2_with fail
      refine (k1.out).mono ?_
      rintro ee wx ⟨rfl, rfl⟩
      go_wp2_with fail
      refine (k2.out _).mono ?_
      rintro ee w2 ⟨rfl, hb2⟩
      have Hb2 := Lib.hid hb2
      clear hb2
      rcases hv with rfl | ⟨hg0, hg1⟩
      · go_wp2_with fail
        go_ret
        exact ⟨rfl, Hb2.out⟩
      · have hgn : ¬ g < 0 := by omega
        go_wp2_with fail
        refine (k2.out _).mono ?_
        rintro ee w3 ⟨rfl, hb3⟩
        have Hb3 := Lib.hid (Hb2.out.trans (hb3.mono Hb2.out.size))
        clear hb3
        go_wp2_with fail
        go_ret
        exact ⟨rfl, Hb3.out⟩
    · have k1 := Lib.hid (l1In_no b 2 89 w (by omega))
      rw [T.goodI_out (by omega)]
      clear h2
      go_enter Try.func14, Try.ntmps14
      go_wp2_with fail
      refine (k1.out).mono ?_
      rintro ee wx ⟨rfl, rfl⟩
      go_wp2_with fail
      go_ret
      exact ⟨rfl, Below.refl _ _⟩

theorem T.goods_len : ∀ (k : Nat) (n b : Int), (T.goods k n b).length ≤ k := by
  intro k
  induction k with
  | zero => intro n b; exact Nat.le_refl _
  | succ k ih =>
    intro n b
    rw [T.goods]
    split
    · exact Nat.zero_le _
    · simp only [List.length_cons]; have := ih (T.goodI n b) (b + 1); omega
theorem T.goodRun_len (n : Int) : (T.goodRun n).length ≤ 1000 := by
  unfold T.goodRun
  split
  · simp only [List.length_cons]; have := T.goods_len 59 n 2; omega
  · simp
theorem T.goods_end {k : Nat} {n b : Int} (h : T.goodI n b = -1) : T.goods k n b = [] := by
  cases k with
  | zero => rfl
  | succ k => rw [T.goods, h, if_pos (by omega)]
theorem T.goods_next {k : Nat} {n b : Int} (h : 0 ≤ T.goodI n b) : T.goods (k + 1) n b = T.goodI n b :: T.goods k (T.goodI n b) (b + 1) := by
  rw [T.goods, if_neg (by omega)]

def GrL (w : World) (N : Int) (gk : Nat) (v0 v3 v4 : Value) (wr : World) : Prop :=
  ∃ (m : Int) (i : Nat) (xs : List Int) (a : Option Addr) (c : Nat), v0 = .int .i64 m ∧ 0 ≤ m ∧ m ≤ 1000000000 ∧ v4 = .int .i64 ((i : Int) + 2) ∧ gk + i = 59 ∧ xs.length = i + 1 ∧ v3 = .slice a (i + 1 : Nat) c ∧
    T.goodRun N = xs ++ T.goods gk m ((i : Int) + 2) ∧ wr.ownsRow w.heap.size 3 1 v3 (i + 1) (ints xs) ∧ Below w.heap.size w wr

theorem IntPost.run {w wr : World} {xs r : List Int} {a : Option Addr} {l c : Nat} (h : wr.ownsRow w.heap.size 3 1 (.slice a l c) l (ints xs)) (hl : xs.length = l) (hr : r = xs) (hb : Below w.heap.size w wr) : IntPost w r (.returned (.slice a l c)) wr := by
  subst hr; subst hl
  exact ⟨a, c, rfl, h, hb⟩

set_option maxHeartbeats 1000000 in
theorem impl_GoodsteinRun (n : Int) (w : World) (hn0 : -9223372036854775808 ≤ n) (hn1 : n ≤ 9223372036854775807) :
    Calls Try.prog 17 #[.int .i64 n] w (IntPost w (T.goodRun n)) := by
  by_cases h : 0 ≤ n ∧ n ≤ 1000000000
  · obtain ⟨i0, hi, hz0, hz1, hz2⟩ := info_parts info_int
    have k1 := Lib.hid (isNumber_yes n w h.1 h.2)
    have hst : GrL w n 59 (.int .i64 n) (.slice (some ⟨w.heap.size, 0, none⟩) 1 1) (.int .i64 2) (w.alloc (.cells #[.int .i64 n] 3)) :=
      ⟨n, 0, [n], _, _, rfl, h.1, h.2, rfl, rfl, rfl, rfl, by rw [T.goodRun, if_pos h]; rfl, World.ownsRow_lit w _ 1 (Nat.le_refl _) (by simp [maxLen]) rfl, (Below.refl _ _).alloc (Nat.le_refl _) _⟩
    have Hst := Lib.hid hst
    clear hst h
    go_enter Try.func17, Try.ntmps17
    go_wp2_with fail
    refine (k1.out).mono ?_
    rintro ee wx ⟨rfl, rfl⟩
    go_wp2_with fail
    go_loopg [0, 3, 4] 59 (fun gk v0 v3 v4 wr => GrL w n gk v0 v3 v4 wr)
    case atStart => exact Hst.out
    case round =>
      obtain ⟨m, i, xs, a, c, rfl, hm0, hm1, rfl, hgk, hxl, rfl, hgo, ho, hb⟩ := hrel
      have Hxl := Lib.hid hxl
      have Hgo := Lib.hid hgo
      have Ho := Lib.hid ho
      have Hb := Lib.hid hb
      have hws := hb.size
      clear hxl hgo ho hb
      by_cases hlt : i < 59
      · obtain ⟨t, ht⟩ : ∃ t, gk = t + 1 := ⟨gk - 1, by omega⟩
        subst ht
        have kg := Lib.hid (impl_GoodsteinNext m ((i : Int) + 2) wr (by omega) (by omega) (by omega) (by omega))
        have hv := T.goodI_vals m ((i : Int) + 2)
        have hend := Lib.hid (fun h => T.goods_end (k := t + 1) (n := m) (b := (i : Int) + 2) h)
        have hnx := Lib.hid (fun h => T.goods_next (k := t) (n := m) (b := (i : Int) + 2) h)
        obtain ⟨g, hg⟩ : ∃ g, g = T.goodI m ((i : Int) + 2) := ⟨_, rfl⟩
        rw [← hg] at kg hv hend hnx
        clear hg
        go_wp2_with fail
        refine (kg.out).mono ?_
        rintro ee w1 ⟨rfl, hb1⟩
        have Hb1 := Lib.hid (Hb.out.trans (hb1.mono hws))
        have Ho1 := Lib.hid (ownsRow_below' Ho.out hb1)
        have hw1 := Hb1.out.size
        clear hb1
        rcases hv with rfl | ⟨hg0, hg1⟩
        · have hfin := IntPost.run (r := T.goodRun n) Ho1.out Hxl.out (by rw [Hgo.out, hend.out rfl, List.append_nil]) Hb1.out
          have Hfin := Lib.hid hfin
          clear hfin
          go_wp2_with fail
          go_ret
          exact Hfin.out
        · have hgn : ¬ g < 0 := by omega
          go_wp2_with (first
            | (at_builtin; refine wpList_append_own _ rfl (.tmp 20) (.tmp 22) 26 rfl w.heap.size 3 i0 (.int .i64 0) 1 8 Try.underlying26 hi hz0 hz1 hz2 rfl (by decide) _ _ _ rfl (Ho1.out.alloc _) ⟨w1.heap.size, 0, none⟩ 1 1 [.int .i64 g] rfl rfl (cell_one_new _ _ _) (ints_oneCell _ [g]) (by unfold maxLen; omega) (by omega) (by simp; omega) ?_; intro v1 w2 ho2 hg2 _; obtain ⟨a2, c2, rfl⟩ := own_shape ho2))
          have hb2 := (Hb1.out.alloc hw1 _).grown hg2 (by simp; omega) (fun r e => (Ho1.out.lt r e).1)
          have hfin : GrL w n t (.int .i64 g) (.slice a2 (i + 1 + 1 : Nat) c2) (.int .i64 ((i : Int) + 2 + 1)) w2 := by
            refine ⟨g, i + 1, xs ++ [g], a2, c2, rfl, hg0, hg1, by go_num, by omega, by simp [Hxl.out], rfl, ?_, ?_, hb2⟩
            · rw [Hgo.out, hnx.out hg0, List.append_assoc, List.singleton_append, show (((i + 1 : Nat) : Int) + 2) = (i : Int) + 2 + 1 by omega]
            · have h7 := ho2
              simpa [ints] using h7
          have Hfin := Lib.hid hfin
          clear ho2 hg2 hb2 hfin
          go_wp2_with fail
          go_roundg t
          case measure => omega
          case rel => exact Hfin.out
      · have hfin := IntPost.run (r := T.goodRun n) Ho.out Hxl.out (by rw [Hgo.out, show gk = 0 by omega]; exact List.append_nil _) Hb.out
        have Hfin := Lib.hid hfin
        clear hfin
        go_wp2_with fail
        go_ret
        exact Hfin.out
  · have k1 := Lib.hid (isNumber_no n w (by omega))
    rw [T.goodRun, if_neg h]
    clear h
    go_enter Try.func17, Try.ntmps17
    go_wp2_with fail
    refine (k1.out).mono ?_
    rintro ee wx ⟨rfl, rfl⟩
    go_wp2_with fail
    go_ret
    exact IntPost.nil (Below.refl _ _)

set_option maxHeartbeats 1000000 in
theorem spec_GoodsteinRun (n : Int) (w : World) (hn0 : -9223372036854775808 ≤ n) (hn1 : n ≤ 9223372036854775807) :
    Calls Try.prog 16 #[.int .i64 n] w (IntPost w (T.goodRun n)) := by
  by_cases h : 0 ≤ n ∧ n ≤ 1000000000
  · obtain ⟨i0, hi, hz0, hz1, hz2⟩ := info_parts info_int
    have k1 := Lib.hid (fun wx => l1In_yes n 0 1000000000 wx h.1 h.2)
    have hL : (w.alloc (.cells #[] 3)).ownsRow w.heap.size 3 1 (.slice (some ⟨w.heap.size, 0, none⟩) 0 0) 0 (ints []) := World.ownsRow_lit w #[] 0 (Nat.le_refl _) (by simp [maxLen]) rfl
    have HL := Lib.hid hL
    have HLb := Lib.hid ((Below.refl w.heap.size w).alloc (Nat.le_refl _) (.cells #[] 3))
    have Hrun := Lib.hid (show T.goodRun n = [n] ++ T.goods 59 n 2 by rw [T.goodRun, if_pos h]; rfl)
    obtain ⟨wl, hwl⟩ : ∃ wl, wl = w.alloc (.cells #[] 3) := ⟨_, rfl⟩
    rw [← hwl] at HL HLb
    have hwls := HLb.out.size
    clear hL
    go_enter Try.func16, Try.ntmps16
    go_upto_region 2 with fail
    rw [← hwl]
    clear hwl
    go_wp2_with fail
    refine (k1.out _).mono ?_
    rintro ee wx ⟨rfl, rfl⟩
    go_wp2_with (first
      | (at_builtin; refine wpList_append_own _ rfl (.tmp 10) (.tmp 12) 26 rfl w.heap.size 3 i0 (.int .i64 0) 1 8 Try.underlying26 hi hz0 hz1 hz2 rfl (by decide) _ _ _ rfl (HL.out.alloc _) ⟨wl.heap.size, 0, none⟩ 1 1 [.int .i64 n] rfl rfl (cell_one_new _ _ _) (ints_oneCell _ [n]) (by unfold maxLen; omega) (by omega) (by simp; omega) ?_; intro v1 w2 ho2 hg2 _; obtain ⟨a2, c2, rfl⟩ := own_shape ho2))
    have hst : GrL w n 59 (.int .i64 n) (.slice a2 1 c2) (.int .i64 2) w2 :=
      ⟨n, 0, [n], _, _, rfl, h.1, h.2, rfl, rfl, rfl, rfl, Hrun.out, ho2, (HLb.out.alloc hwls _).grown hg2 (by simp; omega) (fun r e => (HL.out.lt r e).1)⟩
    have Hst := Lib.hid hst
    clear hst h ho2 hg2
    go_wp2_with fail
    go_loopg [0, 3, 4] 59 (fun gk v0 v3 v4 wr => GrL w n gk v0 v3 v4 wr)
    case atStart => exact Hst.out
    case round =>
      obtain ⟨m, i, xs, a, c, rfl, hm0, hm1, rfl, hgk, hxl, rfl, hgo, ho, hb⟩ := hrel
      have Hxl := Lib.hid hxl
      have Hgo := Lib.hid hgo
      have Ho := Lib.hid ho
      have Hb := Lib.hid hb
      have hws := hb.size
      clear hxl hgo ho hb
      by_cases hmz : 0 < m
      · by_cases hlt : i < 59
        · obtain ⟨t, ht⟩ : ∃ t, gk = t + 1 := ⟨gk - 1, by omega⟩
          subst ht
          have kg := Lib.hid (spec_GoodsteinNext m ((i : Int) + 2) wr (by omega) (by omega) (by omega) (by omega))
          have hv := T.goodI_vals m ((i : Int) + 2)
          have hend := Lib.hid (fun h => T.goods_end (k := t + 1) (n := m) (b := (i : Int) + 2) h)
          have hnx := Lib.hid (fun h => T.goods_next (k := t) (n := m) (b := (i : Int) + 2) h)
          obtain ⟨g, hg⟩ : ∃ g, g = T.goodI m ((i : Int) + 2) := ⟨_, rfl⟩
          rw [← hg] at kg hv hend hnx
          clear hg
          go_wp2_with fail
          refine (kg.out).mono ?_
          rintro ee w1 ⟨rfl, hb1⟩
          have Hb1 := Lib.hid (Hb.out.trans (hb1.mono hws))
          have Ho1 := Lib.hid (ownsRow_below' Ho.out hb1)
          have hw1 := Hb1.out.size
          clear hb1
          rcases hv with rfl | ⟨hg0, hg1⟩
          · have hfin := IntPost.run (r := T.goodRun n) Ho1.out Hxl.out (by rw [Hgo.out, hend.out rfl, List.append_nil]) Hb1.out
            have Hfin := Lib.hid hfin
            clear hfin
            go_wp2_with fail
            go_ret
            exact Hfin.out
          · have hgn : ¬ g < 0 := by omega
            go_wp2_with (first
              | (at_builtin; refine wpList_append_own _ rfl (.tmp 29) (.tmp 31) 26 rfl w.heap.size 3 i0 (.int .i64 0) 1 8 Try.underlying26 hi hz0 hz1 hz2 rfl (by decide) _ _ _ rfl (Ho1.out.alloc _) ⟨w1.heap.size, 0, none⟩ 1 1 [.int .i64 g] rfl rfl (cell_one_new _ _ _) (ints_oneCell _ [g]) (by unfold maxLen; omega) (by omega) (by simp; omega) ?_; intro v1 w2 ho2 hg2 _; obtain ⟨a2, c2, rfl⟩ := own_shape ho2))
            have hb2 := (Hb1.out.alloc hw1 _).grown hg2 (by simp; omega) (fun r e => (Ho1.out.lt r e).1)
            have hfin : GrL w n t (.int .i64 g) (.slice a2 (i + 1 + 1 : Nat) c2) (.int .i64 ((i : Int) + 2 + 1)) w2 := by
              refine ⟨g, i + 1, xs ++ [g], a2, c2, rfl, hg0, hg1, by go_num, by omega, by simp [Hxl.out], rfl, ?_, ?_, hb2⟩
              · rw [Hgo.out, hnx.out hg0, List.append_assoc, List.singleton_append, show (((i + 1 : Nat) : Int) + 2) = (i : Int) + 2 + 1 by omega]
              · have h7 := ho2
                simpa [ints] using h7
            have Hfin := Lib.hid hfin
            clear ho2 hg2 hb2 hfin
            go_wp2_with fail
            go_roundg t
            case measure => omega
            case rel => exact Hfin.out
        · have hfin := IntPost.run (r := T.goodRun n) Ho.out Hxl.out (by rw [Hgo.out, show gk = 0 by omega]; exact List.append_nil _) Hb.out
          have Hfin := Lib.hid hfin
          clear hfin
          go_wp2_with fail
          go_ret
          exact Hfin.out
      · obtain rfl : m = 0 := by omega
        have hfin := IntPost.run (r := T.goodRun n) Ho.out Hxl.out (by rw [Hgo.out, T.goods_end (T.goodI_zero _), List.append_nil]) Hb.out
        have Hfin := Lib.hid hfin
        clear hfin
        go_wp2_with fail
        go_ret
        exact Hfin.out
  · have k1 := Lib.hid (fun wx => l1In_no n 0 1000000000 wx (by omega))
    rw [T.goodRun, if_neg h]
    clear h
    go_enter Try.func16, Try.ntmps16
    go_wp2_with fail
    refine (k1.out _).mono ?_
    rintro ee wx ⟨rfl, rfl⟩
    go_wp2_with fail
    go_ret
    exact IntPost.none0 (Below.refl _ _)


theorem T.goodEnd_nil {n : Int} (h : T.goodRun n = []) : T.goodEnd n = -1 := by rw [T.goodEnd, if_neg (fun k => k.1 h)]
theorem T.goodEnd_some {n : Int} {xs : List Int} {x : Int} (h : T.goodRun n = xs ++ [x]) : T.goodEnd n = if x = 0 then ((xs.length + 1 : Nat) : Int) else -1 := by
  have h1 : (xs ++ [x]).getLastD 0 = x := by simp
  rw [T.goodEnd, h, h1]
  by_cases hx : x = 0
  · rw [if_pos ⟨by simp, hx⟩, if_pos hx]; simp
  · rw [if_neg (fun k => hx k.2), if_neg hx]

theorem impl_GoodsteinEnd (n : Int) (w : World) (hn0 : -9223372036854775808 ≤ n) (hn1 : n ≤ 9223372036854775807) :
    Calls Try.prog 22 #[.int .i64 n] w fun e w' => e = .returned (.int .i64 (T.goodEnd n)) ∧ Below w.heap.size w w' := by
  have k1 := Lib.hid (impl_GoodsteinRun n w hn0 hn1)
  have hlen := T.goodRun_len n
  rcases List.eq_nil_or_concat (T.goodRun n) with h | ⟨xs, x, h⟩
  · rw [T.goodEnd_nil h]
    rw [h] at k1
    clear h hlen
    go_enter Try.func22, Try.ntmps22
    go_wp2_with fail
    refine (k1.out).mono ?_
    rintro ee w1 ⟨a1, c1, rfl, ho1, hb1⟩
    have Hb1 := Lib.hid hb1
    clear ho1 hb1
    go_wp2_with fail
    go_ret
    exact ⟨rfl, Hb1.out⟩
  · rw [List.concat_eq_append] at h
    rw [T.goodEnd_some h]
    have hl : (xs ++ [x]).length = xs.length + 1 := by simp
    rw [h] at k1 hlen
    rw [hl] at hlen
    unfold IntPost at k1
    rw [hl] at k1
    have hx : (ints (xs ++ [x]))[xs.length]? = some (.int .i64 x) := by simp [ints]
    obtain ⟨l, hll⟩ : ∃ l, l = xs.length := ⟨_, rfl⟩
    rw [← hll] at k1 hx hlen ⊢
    have Hx := Lib.hid hx
    clear h hl hll hx
    go_enter Try.func22, Try.ntmps22
    go_wp2_with fail
    refine (k1.out).mono ?_
    rintro ee w1 ⟨a1, c1, rfl, ho1, hb1⟩
    obtain ⟨g, c', hv⟩ := Joins.ownsRow_form ho1 (by omega)
    simp only [Value.slice.injEq] at hv
    obtain ⟨rfl, _, rfl⟩ := hv
    have y0 : w1.cell? ⟨g, l, none⟩ = some (.int .i64 x) := (ho1.cellAt l (by omega)).trans Hx.out
    have Hb1 := Lib.hid hb1
    have hl0 : (((l + 1 : Nat) : Int) == 0) = false := by simp; omega
    have hl1 : ((l + 1 : Nat) : Int) - 1 = (l : Int) := by omega
    clear ho1 hb1
    by_cases hx0 : x = 0
    · subst hx0
      go_wp2_with fail
      go_ret
      exact ⟨rfl, Hb1.out⟩
    · have hxb : (x != 0) = true := by simpa using hx0
      go_wp2_with fail
      go_ret
      exact ⟨rfl, Hb1.out⟩

theorem spec_GoodsteinEnd (n : Int) (w : World) (hn0 : -9223372036854775808 ≤ n) (hn1 : n ≤ 9223372036854775807) :
    Calls Try.prog 21 #[.int .i64 n] w fun e w' => e = .returned (.int .i64 (T.goodEnd n)) ∧ Below w.heap.size w w' := by
  have k1 := Lib.hid (spec_GoodsteinRun n w hn0 hn1)
  have hlen := T.goodRun_len n
  rcases List.eq_nil_or_concat (T.goodRun n) with h | ⟨xs, x, h⟩
  · rw [T.goodEnd_nil h]
    rw [h] at k1
    clear h hlen
    go_enter Try.func21, Try.ntmps21
    go_wp2_with fail
    refine (k1.out).mono ?_
    rintro ee w1 ⟨a1, c1, rfl, ho1, hb1⟩
    have Hb1 := Lib.hid hb1
    clear ho1 hb1
    go_wp2_with fail
    go_ret
    exact ⟨rfl, Hb1.out⟩
  · rw [List.concat_eq_append] at h
    rw [T.goodEnd_some h]
    have hl : (xs ++ [x]).length = xs.length + 1 := by simp
    rw [h] at k1 hlen
    rw [hl] at hlen
    unfold IntPost at k1
    rw [hl] at k1
    have hx : (ints (xs ++ [x]))[xs.length]? = some (.int .i64 x) := by simp [ints]
    obtain ⟨l, hll⟩ : ∃ l, l = xs.length := ⟨_, rfl⟩
    rw [← hll] at k1 hx hlen ⊢
    have Hx := Lib.hid hx
    clear h hl hll hx
    go_enter Try.func21, Try.ntmps21
    go_wp2_with fail
    refine (k1.out).mono ?_
    rintro ee w1 ⟨a1, c1, rfl, ho1, hb1⟩
    obtain ⟨g, c', hv⟩ := Joins.ownsRow_form ho1 (by omega)
    simp only [Value.slice.injEq] at hv
    obtain ⟨rfl, _, rfl⟩ := hv
    have y0 : w1.cell? ⟨g, l, none⟩ = some (.int .i64 x) := (ho1.cellAt l (by omega)).trans Hx.out
    have Hb1 := Lib.hid hb1
    have hl0 : (((l + 1 : Nat) : Int) == 0) = false := by simp; omega
    have hl1 : ((l + 1 : Nat) : Int) - 1 = (l : Int) := by omega
    clear ho1 hb1
    by_cases hx0 : x = 0
    · subst hx0
      go_wp2_with fail
      go_ret
      exact ⟨rfl, Hb1.out⟩
    · have hxb : (x != 0) = true := by simpa using hx0
      go_wp2_with fail
      go_ret
      exact ⟨rfl, Hb1.out⟩

end Go.Proofs.Ytfclhepmakhimaa
