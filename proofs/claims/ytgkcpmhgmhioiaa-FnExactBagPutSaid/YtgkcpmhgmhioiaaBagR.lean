/- Multisets: one number replaced by lesser ones, by the program. -/
import Derived.Test.YtgkcpmhgmhioiaaBagQ
import Derived.Test.YtgkcpmhgmhioiaaBagRm
import Derived.Test.YtgkcpmhgmhioiaaBagD
import Derived.Test.YtgkcpmhgmhioiaaCatB
import Derived.Test.YtgkcpmhgmhioiaaIdx
import Derived.Test.YtgkcpmhgmhioiaaPost
namespace Go.Proofs.Ytgkcpmhgmhioiaa
set_option maxRecDepth 100000
open Go.RowKit

set_option maxHeartbeats 4000000 in
theorem with_any (a1 a2 : Option Addr) (n1 c1 n2 c2 : Nat) (xs ys : List Int) (w : World) (hx : CB.Rd w a1 n1 c1 (ints xs)) (hy : CB.Rd w a2 n2 c2 (ints ys)) (hl1 : xs.length = n1) (hl2 : ys.length = n2) (b1 : n1 ≤ 1000) (b2 : n2 ≤ 1000) (hu : upTo 9 (xs ++ ys) = true) :
    Calls Try.prog 65 #[.slice a1 n1 c1, .slice a2 n2 c2] w (IntPost w (flat (xs ++ ys) 10)) := by
  obtain ⟨W, hW⟩ : ∃ W, W = w.alloc (.cells #[.slice a1 n1 c1, .slice a2 n2 c2] 61) := ⟨_, rfl⟩
  have hbW : Below w.heap.size w W := by rw [hW]; exact (Below.refl _ _).alloc (Nat.le_refl _) _
  have hc : ∀ i, W.cell? ⟨w.heap.size, i, none⟩ = #[.slice a1 n1 c1, .slice a2 n2 c2][i]? := fun i => by rw [hW]; exact Joins.cell_alloc_mark_at _ _ _ _ _ _ rfl
  have kc := Lib.hid (CB.concat2_any w.heap.size 2 a1 a2 n1 c1 n2 c2 (ints xs) (ints ys) W (hc 0) (hc 1) (hx.below hbW) (hy.below hbW) (by omega) (by omega))
  have km := Lib.hid (fun (w1 : World) (a : Option Addr) (c : Nat) (h : Sl w1 a (n1 + n2) c (xs ++ ys)) => multisetOf_any a (n1 + n2) c (xs ++ ys) w1 h (by omega) hu)
  have HbW := Lib.hid hbW
  have HWe := Lib.hid hW.symm
  have hws := hbW.size
  obtain ⟨r, hr⟩ : ∃ r, r = flat (xs ++ ys) 10 := ⟨_, rfl⟩
  rw [← hr] at km ⊢
  unfold IntPost at km
  clear hx hy hbW hW hc hr hu
  go_enter Try.func65, Try.ntmps65
  go_wp2_with fail
  rw [HWe.out]
  refine (kc.out).mono ?_
  rintro ee w1 ⟨a, c, rfl, ho, hb⟩
  have e9 : ints xs ++ ints ys = ints (xs ++ ys) := by simp [ints]
  rw [e9] at ho
  have k2 := Lib.hid (km.out w1 a c (Sl.of_own ho))
  have Hb := Lib.hid (HbW.out.trans (hb.mono hws))
  clear ho hb e9
  go_wp2_with fail
  refine (k2.out).mono ?_
  rintro ee w2 ⟨a2', c2', rfl, ho2, hb2⟩
  have hfin : IntPost w r (.returned (.slice a2' r.length c2')) w2 := ⟨a2', c2', rfl, Joins.ownsRow_le ho2 Hb.out.size, Hb.out.trans (hb2.mono Hb.out.size)⟩
  have Hfin := Lib.hid hfin
  clear ho2 hb2 hfin
  go_wp2_with fail
  go_ret
  exact Hfin.out

theorem Rd.of_own' {w : World} {B n c : Nat} {a : Option Addr} {xs : List Int} (h : w.ownsRow B 3 1 (.slice a n c) n (ints xs)) : CB.Rd w a n c (ints xs) := by
  have hl : xs.length = n := by have := h.1; rw [ints_len] at this; omega
  have hs := Sl.of_own h
  rcases h.2 with ⟨h1, h2⟩ | ⟨g, cap, cur, h1, h2⟩
  · cases h1
    have hx : xs = [] := List.length_eq_zero_iff.1 hl
    subst hx
    exact ⟨rfl, fun u hu => (by cases hu), .inl ⟨rfl, rfl, rfl⟩⟩
  · cases h1
    exact CB.Rd.of_sl hs rfl

set_option maxHeartbeats 8000000 in
theorem impl_BagPut (a1 a2 : Option Addr) (n1 c1 n2 c2 : Nat) (xs : List Int) (V : Int) (ys : List Int) (w : World) (hx : Sl w a1 n1 c1 xs) (hy : Sl w a2 n2 c2 ys) (hn1 : n1 ≤ 1048576) (hn2 : n2 ≤ 1048576) (hs : a2.isSome = true := by rfl) :
    Calls Try.prog 28 #[.slice a1 n1 c1, .int .i64 V, .slice a2 n2 c2] w (OrdOkPost w (putRow xs V ys) (putOk xs V ys)) := by
  have k1 := Lib.hid (impl_BagValid a1 n1 c1 xs w hx)
  have HX := Lib.hid hx
  have HY := Lib.hid hy
  obtain ⟨r, hr⟩ : ∃ r, r = putRow xs V ys := ⟨_, rfl⟩
  obtain ⟨o, ho⟩ : ∃ o, o = putOk xs V ys := ⟨_, rfl⟩
  have hno : putOk xs V ys = false → r = [] ∧ o = false := fun h => ⟨by rw [hr, putRow_no h], by rw [ho, h]⟩
  have hyes : putOk xs V ys = true → r = flat (xs.erase V ++ ys) 10 ∧ o = true := fun h => ⟨by rw [hr, putRow_yes h]; exact flat_cong 10 (fun j _ => by rw [List.count_append, List.count_append]; omega), by rw [ho, h]⟩
  rw [← hr, ← ho]
  have HNo := Lib.hid hno
  have HYes := Lib.hid hyes
  have Hs := Lib.hid hs
  clear hx hy hr ho hno hyes hs
  rcases bag_tf xs with h1 | h1
  · rw [h1] at k1
    have h16 : n1 ≤ 16 := by have h9 := (itemsB_true.1 (bagB_true.1 h1).1).1; rw [HX.out.1] at h9; exact h9
    have H1 := Lib.hid h1
    clear h1
    go_enter Try.func28, Try.ntmps28
    go_wp2_with fail
    refine (k1.out).mono ?_
    rintro ee w1 ⟨rfl, hb1⟩
    have Hb1 := Lib.hid hb1
    have hw1 := hb1.size
    have k2 := Lib.hid (contains_any a1 n1 c1 xs V w1 (by omega) (HX.out.below hb1))
    clear hb1
    by_cases hm : V ∈ xs
    · rw [decide_eq_true hm] at k2
      have hVb := upTo_true.1 (itemsB_true.1 (bagB_true.1 H1.out).1).2 V hm
      have hn0 : 1 ≤ n1 := by have := List.length_pos_of_mem hm; rw [HX.out.1] at this; exact this
      have HM := Lib.hid hm
      have k3 := Lib.hid (allUpTo_any a2 n2 c2 ys (V - 1) w1 (by omega) (HY.out.below Hb1.out))
      clear hm
      go_wp2_with fail
      refine (k2.out).mono ?_
      rintro ee wx ⟨rfl, rfl⟩
      rcases up_tf (V - 1) ys with h3 | h3
      · rw [h3] at k3
        have H3 := Lib.hid h3
        clear h3
        go_wp2_with fail
        refine (k3.out).mono ?_
        rintro ee wx ⟨rfl, rfl⟩
        by_cases hle : n1 - 1 + n2 ≤ 16
        · obtain ⟨hr, rfl⟩ := HYes.out (putOk_yes H1.out HM.out H3.out (by rw [HX.out.1, HY.out.1]; exact hle))
          have hwo : wo xs [V] = xs.erase V := wo_erase xs (bag_pw H1.out) HM.out
          obtain ⟨W, hW⟩ : ∃ W, W = w1.alloc (.cells #[.int .i64 V] 3) := ⟨_, rfl⟩
          have hbW : Below w1.heap.size w1 W := by rw [hW]; exact (Below.refl _ _).alloc (Nat.le_refl _) _
          have hbw : Below w.heap.size w W := Hb1.out.trans (hbW.mono hw1)
          have hslV : Sl W (some ⟨w1.heap.size, 0, none⟩) 1 1 [V] := by
            refine Sl.of_own (B := w1.heap.size) ?_
            rw [hW]; exact World.ownsRow_lit w1 #[.int .i64 V] 1 (Nat.le_refl _) (by simp [maxLen]) rfl
          have k4 := Lib.hid (without_any a1 (some ⟨w1.heap.size, 0, none⟩) n1 c1 1 1 xs [V] W (by omega) (by omega) (HX.out.below hbw) hslV)
          rw [hwo] at k4
          have hel : (xs.erase V).length = n1 - 1 := by rw [List.length_erase_of_mem HM.out, HX.out.1]
          obtain ⟨xe, hxe⟩ : ∃ xe, xe = xs.erase V := ⟨_, rfl⟩
          rw [← hxe] at k4 hel hr
          have hu : upTo 9 (xe ++ ys) = true := upTo_true.2 (fun x hx => by
            have h6 := upTo_true.1 (itemsB_true.1 (bagB_true.1 H1.out).1).2
            rcases List.mem_append.1 hx with hx | hx
            · rw [hxe] at hx; exact h6 x (List.mem_of_mem_erase hx)
            · have := upTo_true.1 H3.out x hx
              omega)
          have k5 := Lib.hid (fun (w2 : World) (a : Option Addr) (c : Nat) (h : CB.Rd w2 a (n1 - 1) c (ints xe)) (h' : CB.Rd w2 a2 n2 c2 (ints ys)) => with_any a a2 (n1 - 1) c n2 c2 xe ys w2 h h' hel HY.out.1 (by omega) (by omega) hu)
          rw [hel] at k4
          rw [← hr] at k5
          unfold IntPost at k5
          have Hbw := Lib.hid hbw
          have HWe := Lib.hid hW.symm
          have hwW := hbw.size
          have hsum : IntKind.i64.wrap ((n1 : Int) - 1) = (n1 : Int) - 1 := IntWalk.i64_in _ (by omega)
          have hsum2 : IntKind.i64.wrap ((n1 : Int) - 1 + (n2 : Int)) = (n1 : Int) - 1 + (n2 : Int) := IntWalk.i64_in _ (by omega)
          have hle' : decide ((16 : Int) < (n1 : Int) - 1 + (n2 : Int)) = false := by simp; omega
          clear hwo hbW hbw hslV hel hu hW hxe hr
          go_wp2_with fail
          rw [HWe.out]
          refine (k4.out).mono ?_
          rintro ee w2 ⟨a, c, rfl, ho2, hb2⟩
          have Hb2 := Lib.hid (Hbw.out.trans (hb2.mono hwW))
          have k6 := Lib.hid (k5.out w2 a c (Rd.of_own' ho2) (CB.Rd.of_sl (HY.out.below Hb2.out) Hs.out))
          clear ho2 hb2
          go_wp2_with fail
          refine (k6.out).mono ?_
          rintro ee w3 ⟨a3, c3, rfl, ho3, hb3⟩
          have hfin : OrdOkPost w r true (.returned (.tuple #[.slice a3 r.length c3, .bool true])) w3 := ⟨a3, c3, rfl, Joins.ownsRow_le ho3 Hb2.out.size, Hb2.out.trans (hb3.mono Hb2.out.size)⟩
          have Hfin := Lib.hid hfin
          clear ho3 hb3 hfin
          go_wp2_with fail
          go_ret2
          exact Hfin.out
        · obtain ⟨rfl, rfl⟩ := HNo.out (putOk_4 (by rw [HX.out.1, HY.out.1]; exact hle))
          have hsum : IntKind.i64.wrap ((n1 : Int) - 1) = (n1 : Int) - 1 := IntWalk.i64_in _ (by omega)
          have hsum2 : IntKind.i64.wrap ((n1 : Int) - 1 + (n2 : Int)) = (n1 : Int) - 1 + (n2 : Int) := IntWalk.i64_in _ (by omega)
          have hle' : decide ((16 : Int) < (n1 : Int) - 1 + (n2 : Int)) = true := by simp; omega
          go_wp2_with fail
          go_ret2
          exact OrdOkPost.nil (nil_own _ _) Hb1.out
      · rw [h3] at k3
        obtain ⟨rfl, rfl⟩ := HNo.out (putOk_3 h3)
        clear h3
        go_wp2_with fail
        refine (k3.out).mono ?_
        rintro ee wx ⟨rfl, rfl⟩
        go_wp2_with fail
        go_ret2
        exact OrdOkPost.nil (nil_own _ _) Hb1.out
    · rw [decide_eq_false hm] at k2
      obtain ⟨rfl, rfl⟩ := HNo.out (putOk_2 hm)
      clear hm
      go_wp2_with fail
      refine (k2.out).mono ?_
      rintro ee wx ⟨rfl, rfl⟩
      go_wp2_with fail
      go_ret2
      exact OrdOkPost.nil (nil_own _ _) Hb1.out
  · rw [h1] at k1
    obtain ⟨rfl, rfl⟩ := HNo.out (putOk_1 h1)
    clear h1
    go_enter Try.func28, Try.ntmps28
    go_wp2_with fail
    refine (k1.out).mono ?_
    rintro ee w1 ⟨rfl, hb1⟩
    have Hb1 := Lib.hid hb1
    clear hb1
    go_wp2_with fail
    go_ret2
    exact OrdOkPost.nil (nil_own _ _) Hb1.out

end Go.Proofs.Ytgkcpmhgmhioiaa
