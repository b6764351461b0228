/- What the laws of chapter 6 draw: two multisets. -/
import Derived.Test.YtobiaglmfdfepaaDrawBag
namespace Go.Proofs.Ytobiaglmfdfepaa
set_option maxRecDepth 100000
open Go.RowKit

def PutRel (w wA : World) (n2 : Nat) (v8 v9 v11 : Value) (wr : World) : Prop :=
  ∃ (i k g c : Nat) (b : Bool) (ls : List Int), v11 = .int .i64 i ∧ v9 = .bool b ∧ v8 = .slice (some ⟨g, 0, none⟩) k c ∧ wr.ownsRow w.heap.size 3 1 v8 k (ints ls) ∧ ls.length = k ∧ k ≤ n2 + i ∧ Below w.heap.size w wr ∧ wA.heap.size ≤ wr.heap.size

set_option maxHeartbeats 4000000 in
theorem spec_BagPut_weak (a1 : Option Addr) (n1 c1 g2 n2 c2 B : Nat) (xs ys : List Int) (V : Int) (w : World) (hx : Sl w a1 n1 c1 xs) (hy : w.ownsRow B 3 1 (.slice (some ⟨g2, 0, none⟩) n2 c2) n2 (ints ys)) (hn1 : n1 ≤ 200) (hn2 : n2 ≤ 10) (hV0 : -100 ≤ V) (hV1 : V ≤ 100) :
    Calls Try.prog 36 #[.slice a1 n1 c1, .int .i64 V, .slice (some ⟨g2, 0, none⟩) n2 c2] w fun e w' => ∃ (r : List Int) (o : Bool) (g c : Nat), e = .returned (.tuple #[.slice (some ⟨g, 0, none⟩) r.length c, .bool o]) ∧
      w'.ownsRow w.heap.size 3 1 (.slice (some ⟨g, 0, none⟩) r.length c) r.length (ints r) ∧ r.length ≤ 200 ∧ Below w.heap.size w w' := by
  obtain ⟨i0, hi, hz0, hz1, hz2⟩ := info_parts info_int
  have k1 := Lib.hid (spec_BagValid a1 n1 c1 xs w hx)
  have HX := Lib.hid hx
  have HY := Lib.hid hy
  have hl2 : ys.length = n2 := by have := hy.1; rw [ints_len] at this; omega
  have Hl2 := Lib.hid hl2
  have hV : IntKind.i64.wrap (V - 1) = V - 1 := IntWalk.i64_in _ (by omega)
  clear hx hy hl2
  rcases bag_tf xs with h1 | h1
  · rw [h1] at k1
    clear h1
    go_enter Try.func36, Try.ntmps36
    go_wp2_with fail
    refine (k1.out).mono ?_
    rintro ee w1 ⟨rfl, hb1⟩
    have Hb1 := Lib.hid hb1
    have hw1 := hb1.size
    have k2 := Lib.hid (l6Many_any a1 n1 c1 xs V w1 (by omega) (HX.out.below hb1))
    have hcb : xs.count V ≤ 200 := by have := List.count_le_length (a := V) (l := xs); rw [HX.out.1] at this; omega
    obtain ⟨p, hp⟩ : ∃ p, p = xs.count V := ⟨_, rfl⟩
    rw [← hp] at k2 hcb
    have HY1 := Lib.hid (ownsRow_below' HY.out hb1)
    clear hb1 hp
    go_wp2_with fail
    refine (k2.out).mono ?_
    rintro ee wx ⟨rfl, rfl⟩
    by_cases hp0 : p = 0
    · have hpz : ((p : Int) == 0) = true := by simp [hp0]
      clear hp0
      go_wp2_with fail
      go_ret2
      exact ⟨[], false, _, 0, rfl, World.ownsRow_lit w1 #[] 0 hw1 (by simp [maxLen]) rfl, by decide, Hb1.out.alloc hw1 _⟩
    · have hpz : ((p : Int) == 0) = false := by simp [hp0]
      have HN := Lib.hid (bg_news (o := .cells #[] 3) HY1.out)
      clear hp0
      go_wp2_with (first
        | (at_builtin; go_loud (refine wpList_append_own _ rfl (.tmp 22) (.tmp 23) 23 rfl w1.heap.size 3 i0 (.int .i64 0) 1 8 Try.underlying23 hi hz0 hz1 hz2 rfl (by decide) _ 0 [] (by rfl) (World.ownsRow_lit w1 #[] 0 (Nat.le_refl _) (by simp [maxLen]) rfl) ⟨g2, 0, none⟩ n2 c2 (ints ys) (by rfl) (by rw [ints_len]; have := Hl2.out; omega) HN.out (ints_one ys) (by unfold maxLen; omega) (by omega) (by simp) ?_; intro v1 wA ho1 hg1 hiff; have hne1 : v1 ≠ .slice none 0 0 := fun h => absurd (hiff.1 h).1 (by simp); have hoA := own0 ho1; have hbA := (Hb1.out.alloc hw1 (.cells #[] 3)).grown hg1 (by simp <;> omega) (fun r e => by cases e <;> exact hw1); have hsA := hg1.size; have HbA := Lib.hid hbA; have HoA := Lib.hid hoA)))
      obtain ⟨g6, c6, rfl⟩ : ∃ g c, v1 = .slice (some ⟨g, 0, none⟩) n2 c := by
        rcases HoA.out.2 with ⟨h9, h8⟩ | ⟨g, cap, cur, h0, _⟩
        · exact absurd h9 hne1
        · exact ⟨g, cap, h0⟩
      have HYA := Lib.hid (ownsRow_below' HY.out HbA.out)
      have XA := Lib.hid (HX.out.below HbA.out)
      have hwA := HbA.out.size
      have HoA0 := Lib.hid (Joins.ownsRow_le HoA.out hw1)
      clear ho1 hg1 hoA hbA hsA hiff hne1
      go_wp2_with fail
      go_loopw [10] (fun v10 wr => ∃ k : Nat, k ≤ n2 ∧ v10 = .int .i64 k ∧ wA = wr) (fun v10 _ => n2 - (intOf v10).toNat)
      case atStart => exact ⟨0, Nat.zero_le _, rfl, rfl⟩
      case round =>
        obtain ⟨k, hk, rfl, rfl⟩ := hrel
        by_cases hlt : k < n2
        · obtain ⟨x, hx⟩ : ∃ x, x = ys.getD k 0 := ⟨_, rfl⟩
          have y0 : wA.cell? ⟨g2, k, none⟩ = some (.int .i64 x) := by
            rw [HYA.out.cellAt k (by omega), ints_get ys k (by rw [Hl2.out]; exact hlt), hx]
          clear hx
          by_cases hin : 0 ≤ x ∧ x ≤ V - 1
          · have ci := Lib.hid (l1In_yes x 0 (V - 1) wA hin.1 hin.2)
            clear hin
            go_wp2_with fail
            refine (ci.out).mono ?_
            rintro ee wx ⟨rfl, rfl⟩
            go_wp2_with fail
            go_roundw
            case rel => exact ⟨k + 1, by omega, by go_num, by trivial⟩
            case measure => exact bag_measure hlt
          · have ci := Lib.hid (l1In_no x 0 (V - 1) wA (by omega))
            clear hin
            go_wp2_with fail
            refine (ci.out).mono ?_
            rintro ee wx ⟨rfl, rfl⟩
            go_wp2_with fail
            go_ret2
            exact ⟨[], false, _, 0, rfl, World.ownsRow_lit wA #[] 0 hwA (by simp [maxLen]) rfl, by decide, HbA.out.alloc hwA _⟩
        · have Hst := Lib.hid (show PutRel w wA n2 (.slice (some ⟨g6, 0, none⟩) n2 c6) (.bool false) (.int .i64 (0 : Nat)) wA from ⟨0, n2, g6, c6, false, ys, rfl, rfl, rfl, HoA0.out, Hl2.out, by omega, HbA.out, Nat.le_refl _⟩)
          go_wp2_with fail
          go_loopw [8, 9, 11] (fun v8 v9 v11 wr => PutRel w wA n2 v8 v9 v11 wr) (fun _ _ v11 _ => n1 - (intOf v11).toNat)
          case atStart => exact Hst.out
          case round =>
            obtain ⟨i, k3, g3, c3, b, ls, rfl, rfl, rfl, ho3, hl3, hk3, hb3, hw3⟩ := hrel
            obtain ⟨wB, rfl⟩ : ∃ wB : World, wB = wr := ⟨_, rfl⟩
            have Ho3 := Lib.hid ho3
            have Hl3 := Lib.hid hl3
            have Hb3 := Lib.hid hb3
            have XB := Lib.hid (HX.out.below hb3)
            have hwB := hb3.size
            clear ho3 hl3 hb3
            by_cases hlt3 : i < n1
            · obtain ⟨bb, off, rfl, hat⟩ := XB.out.2.2.2 (by omega)
              have hix : i < xs.length := by rw [HX.out.1]; exact hlt3
              have y0 := hat i hix
              obtain ⟨x, hx⟩ : ∃ x, x = xs.getD i 0 := ⟨_, rfl⟩
              rw [← hx] at y0
              have hap : ∀ (g6 c6 : Nat) (wC : World), wC.ownsRow w.heap.size 3 1 (.slice (some ⟨g6, 0, none⟩) (k3 + 1) c6) (k3 + 1) (ints ls ++ [.int .i64 x]) → (wB.alloc (.cells #[.int .i64 x] 3)).grownBy wC (Value.slice (some ⟨g3, 0, none⟩) k3 c3).ownBlock →
                  PutRel w wA n2 (.slice (some ⟨g6, 0, none⟩) (k3 + 1) c6) (.bool b) (.int .i64 ((i : Int) + 1)) wC := by
                intro g6 c6 wC ho hg
                refine ⟨i + 1, k3 + 1, g6, c6, b, ls ++ [x], by go_num, rfl, rfl, by simpa [ints] using ho, by rw [List.length_append, Hl3.out]; rfl, by omega, (Hb3.out.alloc hwB _).grown hg (by simp; omega) (fun r e => (Ho3.out.lt r e).1), ?_⟩
                have h9 := hg.size
                simp at h9
                omega
              have Hap := Lib.hid hap
              clear hat hix hx hap
              by_cases hg : x = V ∧ b = false
              · obtain ⟨rfl, rfl⟩ := hg
                have hxe : (x == x) = true := by simp
                go_wp2_with fail
                go_roundw
                case rel => exact ⟨i + 1, k3, g3, c3, true, ls, by go_num, rfl, rfl, Ho3.out, Hl3.out, by omega, Hb3.out, hw3⟩
                case measure => exact bag_measure hlt3
              · have hgo : ((x == V) = false) ∨ ((x == V) = true ∧ b = true) := by
                  by_cases hxv : x = V
                  · right
                    refine ⟨by simp [hxv], ?_⟩
                    cases b with
                    | true => rfl
                    | false => exact absurd ⟨hxv, rfl⟩ hg
                  · left; simp [hxv]
                clear hg
                rcases hgo with hxe | ⟨hxe, rfl⟩
                all_goals
                  go_wp2_with (first
                    | (at_builtin; refine wpList_append_own _ rfl (.tmp 56) (.tmp 61) 23 rfl w.heap.size 3 i0 (.int .i64 0) 1 8 Try.underlying23 hi hz0 hz1 hz2 rfl (by decide) _ k3 (ints ls) (by rfl) (Ho3.out.alloc _) ⟨wB.heap.size, 0, none⟩ 1 1 [.int .i64 x] (by rfl) (by rfl) (cell_one_new _ _ _) (ints_oneCell _ [x]) (by unfold maxLen; omega) (by omega) (by simp; omega) ?_; intro v4 wC ho4 hg4 _; obtain ⟨g6, c6, rfl⟩ := Joins.ownsRow_form ho4 (by omega)))
                  have Hfin := Lib.hid (Hap.out g6 c6 wC ho4 hg4)
                  clear ho4 hg4
                  go_wp2_with fail
                  go_roundw
                  case rel => exact Hfin.out
                  case measure => exact bag_measure hlt3
            · by_cases h16 : 16 < k3
              · go_wp2_with fail
                go_ret2
                exact ⟨[], false, _, 0, rfl, World.ownsRow_lit wB #[] 0 hwB (by simp [maxLen]) rfl, by decide, Hb3.out.alloc hwB _⟩
              · have kb := Lib.hid (spec_BagOf _ k3 c3 ls wB (Sl.of_own Ho3.out))
                have hbl := bagOf_len ls
                obtain ⟨bg, hbg⟩ : ∃ bg, bg = bagOf ls := ⟨_, rfl⟩
                rw [← hbg] at kb hbl
                unfold BagPost at kb
                clear hbg
                go_wp2_with fail
                refine (kb.out).mono ?_
                rintro ee w9 ⟨g9, c9, rfl, ho9, hb9⟩
                have hfin : ∃ (r : List Int) (o : Bool) (g c : Nat), Ending.returned (.tuple #[.slice (some ⟨g9, 0, none⟩) bg.length c9, .bool true]) = .returned (.tuple #[.slice (some ⟨g, 0, none⟩) r.length c, .bool o]) ∧
                    w9.ownsRow w.heap.size 3 1 (.slice (some ⟨g, 0, none⟩) r.length c) r.length (ints r) ∧ r.length ≤ 200 ∧ Below w.heap.size w w9 :=
                  ⟨bg, true, g9, c9, rfl, Joins.ownsRow_le ho9 hwB, by omega, Hb3.out.trans (hb9.mono hwB)⟩
                have Hfin := Lib.hid hfin
                clear hfin ho9 hb9 hbl
                go_wp2_with fail
                go_ret2
                exact Hfin.out
  · rw [h1] at k1
    clear h1
    go_enter Try.func36, Try.ntmps36
    go_wp2_with fail
    refine (k1.out).mono ?_
    rintro ee w1 ⟨rfl, hb1⟩
    have Hb1 := Lib.hid hb1
    have hw1 := hb1.size
    clear hb1
    go_wp2_with fail
    go_ret2
    exact ⟨[], false, _, 0, rfl, World.ownsRow_lit w1 #[] 0 hw1 (by simp [maxLen]) rfl, by decide, Hb1.out.alloc hw1 _⟩

def BagsDrw (w : World) (g : Nat) (e : Ending) (w' : World) : Prop :=
  ∃ (xs ys : List Int) (g1 n1 c1 g2 n2 c2 : Nat), n1 = xs.length ∧ n2 = ys.length ∧ e = .returned (.tuple #[.slice (some ⟨g1, 0, none⟩) n1 c1, .slice (some ⟨g2, 0, none⟩) n2 c2]) ∧
    w'.ownsRow w.heap.size 3 1 (.slice (some ⟨g1, 0, none⟩) n1 c1) n1 (ints xs) ∧ w'.ownsRow w.heap.size 3 1 (.slice (some ⟨g2, 0, none⟩) n2 c2) n2 (ints ys) ∧ n1 ≤ 200 ∧ n2 ≤ 200 ∧ w.grownBy w' (some g)
def BgsSt (w : World) (g g1 n1 c1 B : Nat) (xs : List Int) (v5 v7 : Value) (wr : World) : Prop :=
  ∃ (j k : Nat) (ls : List Int) (gl cl : Nat), v7 = .int .i64 j ∧ j + k ≤ 3 ∧ ls.length = k ∧ v5 = .slice (some ⟨gl, 0, none⟩) k cl ∧ wr.ownsRow B 3 1 v5 k (ints ls) ∧
    wr.ownsRow w.heap.size 3 1 (.slice (some ⟨g1, 0, none⟩) n1 c1) n1 (ints xs) ∧ RdOk wr g (63 + k) ∧ w.grownBy wr (some g) ∧ B ≤ wr.heap.size

set_option maxHeartbeats 8000000 in
theorem l20Bags_any (g : Nat) (w : World) (hrd : RdOk w g 0) :
    Calls Try.prog 57 #[.pointer (some ⟨g, 0, none⟩)] w (BagsDrw w g) := by
  obtain ⟨i0, hi, hz0, hz1, hz2⟩ := info_parts info_int
  have hgl : g < w.heap.size := by obtain ⟨_, _, _, _, h1, _⟩ := hrd; exact (Array.getElem?_eq_some_iff.1 h1).1
  have k1 := Lib.hid (l20Bag_any g 0 14 w (by decide) (by decide) (by decide) hrd)
  clear hrd
  go_enter Try.func57, Try.ntmps57
  go_wp2_with fail
  refine (k1.out).mono ?_
  rintro ee w1 ⟨xs, g1, n1, c1, hn, rfl, ho, hl, hrd, hgr⟩
  have Hn := Lib.hid hn
  have Ho1 := Lib.hid ho
  have Hg1 := Lib.hid hgr
  have Hr1 := Lib.hid hrd
  have hs1 := hgr.size
  clear hn ho hrd hgr
  by_cases hn0 : n1 = 0
  · subst hn0
    have k9 := Lib.hid (l20Bag_any g (0 + 60) 14 w1 (by omega) (by decide) (by decide) Hr1.out)
    go_wp2_with fail
    refine (k9.out).mono ?_
    rintro ee w9 ⟨ys, g9, n9, c9, hn9, rfl, ho9, hl9, hrd9, hgr9⟩
    have HoA9 := Lib.hid (own_rd Ho1.out hgr9 hgl)
    have Hg9 := Lib.hid (grownBy_trans Hg1.out hgr9)
    have HoB9 := Lib.hid (Joins.ownsRow_le ho9 Hg1.out.size)
    have Hn9 := Lib.hid hn9
    clear ho9 hrd9 hgr9 hn9
    go_wp2_with fail
    go_ret2
    exact ⟨xs, ys, g1, 0, c1, g9, n9, c9, Hn.out, Hn9.out, rfl, HoA9.out, HoB9.out, hl, hl9, Hg9.out⟩
  · have hnp : 0 < n1 := by omega
    clear hn0
    have kv := Lib.hid (spec_BagValid (some ⟨g1, 0, none⟩) n1 c1 xs w1 (Sl.of_own Ho1.out))
    rcases bag_tf xs with hb | hb
    all_goals
      rw [hb] at kv
      go_wp2_with fail
      refine (kv.out).mono ?_
      rintro ee w2 ⟨rfl, hbl⟩
      have Ho2 := Lib.hid (ownsRow_below' Ho1.out hbl)
      have Hg2 := Lib.hid (grownBy_step Hg1.out (below_grown hbl none) (fun k hk => by cases hk))
      have Hr2 := Lib.hid (Hr1.out.kept (below_grown hbl none) (fun k hk => by cases hk))
      clear hbl
    · have hup := (itemsB_true.1 (bagB_true.1 hb).1).2
      have kp := Lib.hid (pick_any g (0 + 60) 2 w2 (by decide) (by decide) (by decide) Hr2.out)
      clear hb
      go_wp2_with fail
      refine (kp.out).mono ?_
      rintro ee w3 ⟨r, rfl, hr, hr3, hg3⟩
      have r0 := hr.1
      have r1 := hr.2.1 (by decide)
      have Ho3 := Lib.hid (own_rd Ho2.out hg3 hgl)
      have Hg3 := Lib.hid (grownBy_trans Hg2.out hg3)
      have Hr3 := Lib.hid hr3
      have hs3 := Hg3.out.size
      have hgg := (Ho3.out.lt g1 rfl).2
      clear hr hr3 hg3
      have hcase : r = 1 ∨ r = 0 := by omega
      rcases hcase with rfl | rfl
      · have k9 := Lib.hid (l20Bag_any g (0 + 60 + 1) 14 w3 (by omega) (by decide) (by decide) Hr3.out)
        go_wp2_with fail
        refine (k9.out).mono ?_
        rintro ee w9 ⟨ys, g9, n9, c9, hn9, rfl, ho9, hl9, hrd9, hgr9⟩
        have HoA9 := Lib.hid (own_rd Ho3.out hgr9 hgl)
        have Hg9 := Lib.hid (grownBy_trans Hg3.out hgr9)
        have HoB9 := Lib.hid (Joins.ownsRow_le ho9 Hg3.out.size)
        have Hn9 := Lib.hid hn9
        clear ho9 hrd9 hgr9 hn9
        go_wp2_with fail
        go_ret2
        exact ⟨xs, ys, g1, n1, c1, g9, n9, c9, Hn.out, Hn9.out, rfl, HoA9.out, HoB9.out, hl, hl9, Hg9.out⟩
      · obtain ⟨W, hW⟩ : ∃ W, W = w3.alloc (.cells #[] 3) := ⟨_, rfl⟩
        have hoW : W.ownsRow w3.heap.size 3 1 (.slice (some ⟨w3.heap.size, 0, none⟩) 0 0) 0 (ints []) := by rw [hW]; exact World.ownsRow_lit w3 #[] 0 (Nat.le_refl _) (by simp [maxLen]) rfl
        have hoA : W.ownsRow w.heap.size 3 1 (.slice (some ⟨g1, 0, none⟩) n1 c1) n1 (ints xs) := by rw [hW]; exact Ho3.out.alloc _
        have hrW : RdOk W g (0 + 60 + 1) := by rw [hW]; exact Hr3.out.kept (World.grownBy_alloc w3 _ none) (fun k hk => by cases hk)
        have hgW : w.grownBy W (some g) := by rw [hW]; exact grownBy_step Hg3.out (World.grownBy_alloc w3 _ none) (fun k hk => by cases hk)
        have hsW : w3.heap.size ≤ W.heap.size := by rw [hW]; simp
        have kl := Lib.hid (pick_any g (0 + 60 + 1) (n1 : Int) W (by decide) (by omega) (by omega) hrW)
        have HoW := Lib.hid hoW
        have HoAW := Lib.hid hoA
        have HgW := Lib.hid hgW
        have HWe := Lib.hid hW.symm
        clear hW hoW hoA hrW hgW
        go_wp2_with fail
        rw [HWe.out]
        refine (kl.out).mono ?_
        rintro ee w4 ⟨q', rfl, hq, hr4, hg4⟩
        have q0 := hq.1
        have q1 := hq.2.1 (by omega)
        obtain ⟨q, rfl⟩ := Int.eq_ofNat_of_zero_le q0
        have hqn : q < n1 := by omega
        have Ho4 := Lib.hid (own_rd HoAW.out hg4 hgl)
        have HoL4 := Lib.hid (own_rd HoW.out hg4 (by omega))
        have Hg4 := Lib.hid (grownBy_trans HgW.out hg4)
        have hs4 : w3.heap.size ≤ w4.heap.size := Nat.le_trans hsW hg4.size
        have hxq : q < xs.length := by rw [← Hn.out]; exact hqn
        have hvb := upTo_get hup hxq
        obtain ⟨V, hV⟩ : ∃ V, V = xs.getD q 0 := ⟨_, rfl⟩
        rw [← hV] at hvb
        have v0 := hvb.1
        have v1 := hvb.2
        have y0 : w4.cell? ⟨g1, q, none⟩ = some (.int .i64 V) := by rw [Ho4.out.cellAt q (by omega), ints_get xs q hxq, hV]
        have km := Lib.hid (pick_any g (0 + 60 + 1 + 1) 4 w4 (by decide) (by decide) (by decide) hr4)
        clear hq hr4 hg4 hxq hvb hV hup
        go_wp2_with fail
        refine (km.out).mono ?_
        rintro ee w5 ⟨r5, rfl, hr, hr5, hg5⟩
        obtain ⟨j0, rfl⟩ := Int.eq_ofNat_of_zero_le hr.1
        have hj0 : j0 ≤ 3 := by have := hr.2.1 (by decide); omega
        have Hst := Lib.hid (show BgsSt w g g1 n1 c1 w3.heap.size xs (.slice (some ⟨w3.heap.size, 0, none⟩) 0 0) (.int .i64 (j0 : Int)) w5 from ⟨j0, 0, [], _, 0, rfl, by omega, rfl, rfl, own_rd HoL4.out hg5 (by omega), own_rd Ho4.out hg5 hgl, hr5.mono (by omega), grownBy_trans Hg4.out hg5, Nat.le_trans hs4 hg5.size⟩)
        clear hr hr5 hg5 y0
        go_wp2_with fail
        go_loopw [5, 7] (fun v5 v7 wr => BgsSt w g g1 n1 c1 w3.heap.size xs v5 v7 wr) (fun _ v7 _ => (intOf v7).toNat)
        case atStart => exact Hst.out
        case round =>
          obtain ⟨j, k, ls, gl, cl, rfl, hjk, hll, rfl, hol, hoa, hr, hg, hw3⟩ := hrel
          obtain ⟨wA, rfl⟩ : ∃ wA : World, wA = wr := ⟨_, rfl⟩
          have Hll := Lib.hid hll
          have Hol := Lib.hid hol
          have Hoa := Lib.hid hoa
          have Hg := Lib.hid hg
          have hws : w.heap.size ≤ wA.heap.size := hg.size
          clear hll hol hoa hg
          by_cases hj : 0 < j
          · by_cases hV0 : 0 < V
            · obtain ⟨j1, rfl⟩ : ∃ j1, j = j1 + 1 := ⟨j - 1, by omega⟩
              have k2 := Lib.hid (pick_any g (63 + k) V wA (by omega) (by omega) (by omega) hr)
              clear hr
              go_wp2_with fail
              refine (k2.out).mono ?_
              rintro ee w6 ⟨x1, rfl, hx1, hr6, hg6⟩
              have x10 := hx1.1
              have x11 := hx1.2.1 hV0
              have Hol6 := Lib.hid (own_rd Hol.out hg6 (by omega))
              have Hoa6 := Lib.hid (own_rd Hoa.out hg6 hgl)
              have Hg6 := Lib.hid (grownBy_trans Hg.out hg6)
              have Hr6 := Lib.hid hr6
              have hw6 : w3.heap.size ≤ w6.heap.size := Nat.le_trans hw3 hg6.size
              clear hx1 hr6 hg6
              go_wp2_with (first
                | (at_builtin; go_loud (refine wpList_append_own _ rfl (.tmp 42) (.tmp 46) 23 rfl w3.heap.size 3 i0 (.int .i64 0) 1 8 Try.underlying23 hi hz0 hz1 hz2 rfl (by decide) _ k (ints ls) (by rfl) (Hol6.out.alloc _) ⟨w6.heap.size, 0, none⟩ 1 1 [.int .i64 x1] (by rfl) (by rfl) (cell_one_new _ _ _) (ints_oneCell _ [_]) (by unfold maxLen; omega) (by omega) (by simp; omega) ?_; intro v2' w7 ho7 hg7 _; obtain ⟨g7, c7, rfl⟩ := Joins.ownsRow_form ho7 (by omega))))
              have hfin : BgsSt w g g1 n1 c1 w3.heap.size xs (.slice (some ⟨g7, 0, none⟩) (k + 1) c7) (.int .i64 (j1 : Int)) w7 := by
                have hrw : ∀ k', Value.ownBlock (.slice (some ⟨gl, 0, none⟩) k cl) = some k' → w3.heap.size ≤ k' := fun k' hk => (Hol6.out.lt k' hk).1
                refine ⟨j1, k + 1, ls ++ [x1], g7, c7, rfl, by omega, by rw [List.length_append, Hll.out]; rfl, rfl, by simpa [ints] using ho7, (Hoa6.out.alloc _).kept hg7 (.inr (fun he => by have h9 := hrw g1 he.symm; omega)), ?_, grownBy_step (grownBy_step Hg6.out (World.grownBy_alloc w6 _ none) (fun k hk => by cases hk)) hg7 (fun k hk => .inr (Nat.le_trans hs3 (hrw k hk))), ?_⟩
                · exact ((Hr6.out.kept (World.grownBy_alloc w6 _ none) (fun k hk => by cases hk)).kept hg7 (fun k hk => by have := hrw k hk; omega)).mono (by omega)
                · have h9 := hg7.size
                  simp at h9
                  omega
              have Hfin := Lib.hid hfin
              clear hfin ho7 hg7
              go_wp2_with fail
              go_roundw
              case rel => have h9 := Hfin.out; simpa using h9
              case measure => simp [intOf] <;> omega
            · obtain rfl : V = 0 := by omega
              have kb := Lib.hid (spec_BagPut_weak (some ⟨g1, 0, none⟩) n1 c1 gl k cl w3.heap.size xs ls 0 wA (Sl.of_own Hoa.out) Hol.out (by omega) (by omega) (by omega) (by omega))
              have Hr := Lib.hid hr
              clear hr
              go_wp2_with fail
              refine (kb.out).mono ?_
              rintro ee w8 ⟨rs, o, g8, c8, rfl, ho8, hl8, hb8⟩
              have HoA8 := Lib.hid (ownsRow_below' Hoa.out hb8)
              have Hg8 := Lib.hid (grownBy_step Hg.out (below_grown hb8 none) (fun k hk => by cases hk))
              have Hr8 := Lib.hid (Hr.out.kept (below_grown hb8 none) (fun k hk => by cases hk))
              have HoR := Lib.hid (Joins.ownsRow_le ho8 hws)
              clear ho8 hb8
              cases o with
              | true =>
                go_wp2_with fail
                go_ret2
                exact ⟨rs, xs, g8, _, c8, g1, n1, c1, rfl, Hn.out, rfl, HoR.out, HoA8.out, hl8, hl, Hg8.out⟩
              | false =>
                have k9 := Lib.hid (l20Bag_any g (63 + k) 14 w8 (by omega) (by decide) (by decide) Hr8.out)
                go_wp2_with fail
                refine (k9.out).mono ?_
                rintro ee w9 ⟨ys, g9, n9, c9, hn9, rfl, ho9, hl9, hrd9, hgr9⟩
                have HoA9 := Lib.hid (own_rd HoA8.out hgr9 hgl)
                have Hg9 := Lib.hid (grownBy_trans Hg8.out hgr9)
                have HoB9 := Lib.hid (Joins.ownsRow_le ho9 Hg8.out.size)
                have Hn9 := Lib.hid hn9
                clear ho9 hrd9 hgr9 hn9
                go_wp2_with fail
                go_ret2
                exact ⟨xs, ys, g1, n1, c1, g9, n9, c9, Hn.out, Hn9.out, rfl, HoA9.out, HoB9.out, hl, hl9, Hg9.out⟩
          · obtain rfl : j = 0 := by omega
            have kb := Lib.hid (spec_BagPut_weak (some ⟨g1, 0, none⟩) n1 c1 gl k cl w3.heap.size xs ls V wA (Sl.of_own Hoa.out) Hol.out (by omega) (by omega) (by omega) (by omega))
            have Hr := Lib.hid hr
            clear hr
            go_wp2_with fail
            refine (kb.out).mono ?_
            rintro ee w8 ⟨rs, o, g8, c8, rfl, ho8, hl8, hb8⟩
            have HoA8 := Lib.hid (ownsRow_below' Hoa.out hb8)
            have Hg8 := Lib.hid (grownBy_step Hg.out (below_grown hb8 none) (fun k hk => by cases hk))
            have Hr8 := Lib.hid (Hr.out.kept (below_grown hb8 none) (fun k hk => by cases hk))
            have HoR := Lib.hid (Joins.ownsRow_le ho8 hws)
            clear ho8 hb8
            cases o with
            | true =>
              go_wp2_with fail
              go_ret2
              exact ⟨rs, xs, g8, _, c8, g1, n1, c1, rfl, Hn.out, rfl, HoR.out, HoA8.out, hl8, hl, Hg8.out⟩
            | false =>
              have k9 := Lib.hid (l20Bag_any g (63 + k) 14 w8 (by omega) (by decide) (by decide) Hr8.out)
              go_wp2_with fail
              refine (k9.out).mono ?_
              rintro ee w9 ⟨ys, g9, n9, c9, hn9, rfl, ho9, hl9, hrd9, hgr9⟩
              have HoA9 := Lib.hid (own_rd HoA8.out hgr9 hgl)
              have Hg9 := Lib.hid (grownBy_trans Hg8.out hgr9)
              have HoB9 := Lib.hid (Joins.ownsRow_le ho9 Hg8.out.size)
              have Hn9 := Lib.hid hn9
              clear ho9 hrd9 hgr9 hn9
              go_wp2_with fail
              go_ret2
              exact ⟨xs, ys, g1, n1, c1, g9, n9, c9, Hn.out, Hn9.out, rfl, HoA9.out, HoB9.out, hl, hl9, Hg9.out⟩
    · clear hb
      have k9 := Lib.hid (l20Bag_any g (0 + 60) 14 w2 (by omega) (by decide) (by decide) Hr2.out)
      go_wp2_with fail
      refine (k9.out).mono ?_
      rintro ee w9 ⟨ys, g9, n9, c9, hn9, rfl, ho9, hl9, hrd9, hgr9⟩
      have HoA9 := Lib.hid (own_rd Ho2.out hgr9 hgl)
      have Hg9 := Lib.hid (grownBy_trans Hg2.out hgr9)
      have HoB9 := Lib.hid (Joins.ownsRow_le ho9 Hg2.out.size)
      have Hn9 := Lib.hid hn9
      clear ho9 hrd9 hgr9 hn9
      go_wp2_with fail
      go_ret2
      exact ⟨xs, ys, g1, n1, c1, g9, n9, c9, Hn.out, Hn9.out, rfl, HoA9.out, HoB9.out, hl, hl9, Hg9.out⟩

set_option maxHeartbeats 2000000 in
theorem drawBagBelow_any (a : Option Addr) (len cap : Nat) (w : World) (h : By w a len cap) : Calls Try.prog 26 #[.slice a len cap] w (fun e w' =>
    ∃ (xs ys : List Int) (g n c g2 n2 c2 : Nat), n = xs.length ∧ n2 = ys.length ∧ e = .returned (.tuple #[.slice (some ⟨g, 0, none⟩) n c, .slice (some ⟨g2, 0, none⟩) n2 c2]) ∧ w'.ownsRow w.heap.size 3 1 (.slice (some ⟨g, 0, none⟩) n c) n (ints xs) ∧
      w'.ownsRow w.heap.size 3 1 (.slice (some ⟨g2, 0, none⟩) n2 c2) n2 (ints ys) ∧ n ≤ 200 ∧ n2 ≤ 200 ∧ Below w.heap.size w w') := by
  have k0 := Lib.hid (open_any a len cap w h)
  obtain ⟨g, hg⟩ : ∃ g, g = w.heap.size := ⟨_, rfl⟩
  rw [← hg] at k0
  have Hg := Lib.hid hg
  clear hg h
  go_enter Try.func26, Try.ntmps26
  go_wp2_with fail
  refine (k0.out).mono ?_
  rintro ee w1 ⟨rfl, hr1, hb1⟩
  have Hb1 := Lib.hid (show Below w.heap.size w w1 by rw [← Hg.out]; exact hb1)
  have k3 := Lib.hid (l20Bags_any g w1 hr1)
  clear hr1 hb1
  go_wp2_with fail
  refine (k3.out).mono ?_
  rintro ee w3 ⟨xs, ys, g1, n, c, g2, n2, c2, hn, hn2, rfl, ho, ho2, hl, hl2, hgr⟩
  have HO := Lib.hid (Joins.ownsRow_le ho Hb1.out.size)
  have HO2 := Lib.hid (Joins.ownsRow_le ho2 Hb1.out.size)
  have HN := Lib.hid hn
  have HN2 := Lib.hid hn2
  have HB := Lib.hid (Hb1.out.grown hgr Hb1.out.size (fun k e => by cases e; rw [Hg.out]; exact Nat.le_refl _))
  clear ho ho2 hn hn2 hgr
  go_wp2_with fail
  go_ret2
  exact ⟨xs, ys, g1, n, c, g2, n2, c2, HN.out, HN2.out, rfl, HO.out, HO2.out, hl, hl2, HB.out⟩

set_option maxHeartbeats 2000000 in
theorem drawBagCompare_any (a : Option Addr) (len cap : Nat) (w : World) (h : By w a len cap) : Calls Try.prog 21 #[.slice a len cap] w (fun e w' =>
    ∃ (xs ys : List Int) (g n c g2 n2 c2 : Nat), n = xs.length ∧ n2 = ys.length ∧ e = .returned (.tuple #[.slice (some ⟨g, 0, none⟩) n c, .slice (some ⟨g2, 0, none⟩) n2 c2]) ∧ w'.ownsRow w.heap.size 3 1 (.slice (some ⟨g, 0, none⟩) n c) n (ints xs) ∧
      w'.ownsRow w.heap.size 3 1 (.slice (some ⟨g2, 0, none⟩) n2 c2) n2 (ints ys) ∧ n ≤ 200 ∧ n2 ≤ 200 ∧ Below w.heap.size w w') := by
  have k0 := Lib.hid (open_any a len cap w h)
  obtain ⟨g, hg⟩ : ∃ g, g = w.heap.size := ⟨_, rfl⟩
  rw [← hg] at k0
  have Hg := Lib.hid hg
  clear hg h
  go_enter Try.func21, Try.ntmps21
  go_wp2_with fail
  refine (k0.out).mono ?_
  rintro ee w1 ⟨rfl, hr1, hb1⟩
  have Hb1 := Lib.hid (show Below w.heap.size w w1 by rw [← Hg.out]; exact hb1)
  have k3 := Lib.hid (l20Bags_any g w1 hr1)
  clear hr1 hb1
  go_wp2_with fail
  refine (k3.out).mono ?_
  rintro ee w3 ⟨xs, ys, g1, n, c, g2, n2, c2, hn, hn2, rfl, ho, ho2, hl, hl2, hgr⟩
  have HO := Lib.hid (Joins.ownsRow_le ho Hb1.out.size)
  have HO2 := Lib.hid (Joins.ownsRow_le ho2 Hb1.out.size)
  have HN := Lib.hid hn
  have HN2 := Lib.hid hn2
  have HB := Lib.hid (Hb1.out.grown hgr Hb1.out.size (fun k e => by cases e; rw [Hg.out]; exact Nat.le_refl _))
  clear ho ho2 hn hn2 hgr
  go_wp2_with fail
  go_ret2
  exact ⟨xs, ys, g1, n, c, g2, n2, c2, HN.out, HN2.out, rfl, HO.out, HO2.out, hl, hl2, HB.out⟩

end Go.Proofs.Ytobiaglmfdfepaa
