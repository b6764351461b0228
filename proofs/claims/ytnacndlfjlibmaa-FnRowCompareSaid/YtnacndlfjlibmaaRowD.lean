/- Lists of numbers: what is dropped, by the program. -/
import Derived.Test.YtnacndlfjlibmaaRowA
import Derived.Test.YtnacndlfjlibmaaCatI
import Derived.Test.YtnacndlfjlibmaaPost
import Derived.Deep.RegionHeld3
namespace Go.Proofs.Ytnacndlfjlibmaa
set_option maxRecDepth 100000
open Go.RowKit

def dropPl (xs : List Int) (V : Int) : Bool := decide ((0 ≤ V ∧ V < xs.length) ∧ xs.getD V.toNat 0 ≠ 0)
def dropFit (xs : List Int) (V : Int) (ys : List Int) : Bool := decide ((ys.length : Int) = xs.length - 1 - V) && upTo 9999 ys
def dropOk (xs : List Int) (V : Int) (ys : List Int) : Bool := (rowB xs && dropPl xs V) && dropFit xs V ys
def dropRow (xs : List Int) (V : Int) (ys : List Int) : List Int := if dropOk xs V ys = true then xs.take V.toNat ++ (xs.getD V.toNat 0 - 1) :: ys else []
theorem dropOk_1 {xs ys : List Int} {V : Int} (h : rowB xs = false) : dropOk xs V ys = false := by rw [dropOk, h]; rfl
theorem dropOk_2 {xs ys : List Int} {V : Int} (h : dropPl xs V = false) : dropOk xs V ys = false := by rw [dropOk, h, Bool.and_false, Bool.false_and]
theorem dropOk_3 {xs ys : List Int} {V : Int} (h : dropFit xs V ys = false) : dropOk xs V ys = false := by rw [dropOk, h, Bool.and_false]
theorem dropOk_4 {xs ys : List Int} {V : Int} (h1 : rowB xs = true) (h2 : dropPl xs V = true) (h3 : dropFit xs V ys = true) : dropOk xs V ys = true := by rw [dropOk, h1, h2, h3]; rfl
theorem dropOk_in {xs ys : List Int} {V : Int} (h : dropOk xs V ys = true) : rowB xs = true ∧ dropPl xs V = true ∧ dropFit xs V ys = true := by
  rw [dropOk, Bool.and_eq_true, Bool.and_eq_true] at h
  exact ⟨h.1.1, h.1.2, h.2⟩
theorem dropRow_no {xs ys : List Int} {V : Int} (h : dropOk xs V ys = false) : dropRow xs V ys = [] := by rw [dropRow, if_neg (by rw [h]; simp)]
theorem dropRow_yes {xs ys : List Int} {V : Int} (h : dropOk xs V ys = true) : dropRow xs V ys = xs.take V.toNat ++ (xs.getD V.toNat 0 - 1) :: ys := by rw [dropRow, if_pos h]
theorem dropPl_true {xs : List Int} {V : Int} : dropPl xs V = true ↔ (0 ≤ V ∧ V < xs.length) ∧ xs.getD V.toNat 0 ≠ 0 := by rw [dropPl, decide_eq_true_eq]
theorem dropPl_false {xs : List Int} {V : Int} (h : ¬ ((0 ≤ V ∧ V < xs.length) ∧ xs.getD V.toNat 0 ≠ 0)) : dropPl xs V = false := by rw [dropPl, decide_eq_false h]
theorem dropFit_true {xs ys : List Int} {V : Int} : dropFit xs V ys = true ↔ (ys.length : Int) = xs.length - 1 - V ∧ upTo 9999 ys = true := by rw [dropFit, Bool.and_eq_true, decide_eq_true_eq]
theorem dropFit_len {xs ys : List Int} {V : Int} (h : (ys.length : Int) ≠ xs.length - 1 - V) : dropFit xs V ys = false := by rw [dropFit, decide_eq_false h]; rfl
theorem dropFit_up {xs ys : List Int} {V : Int} (h : upTo 9999 ys = false) : dropFit xs V ys = false := by rw [dropFit, h, Bool.and_false]
theorem dropRow_len (xs : List Int) (V : Int) (ys : List Int) : (dropRow xs V ys).length ≤ 1000 := by
  cases h : dropOk xs V ys with
  | false => rw [dropRow_no h]; decide
  | true =>
    obtain ⟨h1, h2, h3⟩ := dropOk_in h
    have h4 := (rowB_true.1 h1).1
    have h5 := (dropPl_true.1 h2).1
    have h6 := (dropFit_true.1 h3).1
    rw [dropRow_yes h]
    simp
    omega

theorem drop_cells (w : World) (x : Int) (V1 V2 V3 : Value) (t1 t2 : TypeId) :
    (((w.alloc (.cells #[.int .i64 x] t1)).alloc (.cells #[V1, V2, V3] t2)).drew).cell? ⟨w.heap.size + 1, 0, none⟩ = some V1 ∧
    (((w.alloc (.cells #[.int .i64 x] t1)).alloc (.cells #[V1, V2, V3] t2)).drew).cell? ⟨w.heap.size + 1, 1, none⟩ = some V2 ∧
    (((w.alloc (.cells #[.int .i64 x] t1)).alloc (.cells #[V1, V2, V3] t2)).drew).cell? ⟨w.heap.size + 1, 2, none⟩ = some V3 ∧
    CI.Rd (((w.alloc (.cells #[.int .i64 x] t1)).alloc (.cells #[V1, V2, V3] t2)).drew) (some ⟨w.heap.size, 0, none⟩) 1 1 [.int .i64 x] := by
  have h3 : ∀ i, (((w.alloc (.cells #[.int .i64 x] t1)).alloc (.cells #[V1, V2, V3] t2)).drew).cell? ⟨w.heap.size + 1, i, none⟩ = #[V1, V2, V3][i]? := fun i => by
    show ((w.alloc (.cells #[.int .i64 x] t1)).alloc (.cells #[V1, V2, V3] t2)).cell? _ = _
    exact Joins.cell_alloc_mark_at _ _ _ _ _ _ (by simp)
  have h2 : ∀ i, (((w.alloc (.cells #[.int .i64 x] t1)).alloc (.cells #[V1, V2, V3] t2)).drew).cell? ⟨w.heap.size, i, none⟩ = #[.int .i64 x][i]? := fun i => by
    show ((w.alloc (.cells #[.int .i64 x] t1)).alloc (.cells #[V1, V2, V3] t2)).cell? _ = _
    rw [World.cell?_alloc_past _ _ _ (by simp)]
    exact Joins.cell_alloc_mark_at _ _ _ _ _ _ rfl
  refine ⟨h3 0, h3 1, h3 2, CI.Rd.of_at (xs := [x]) rfl (fun j hj => ?_)⟩
  simp at hj
  subst hj
  exact h2 0

set_option maxHeartbeats 4000000 in
theorem impl_RowDrop (a1 a2 : Option Addr) (n1 c1 n2 c2 : Nat) (xs : List Int) (V : Int) (ys : List Int) (w : World) (hx : Sl w a1 n1 c1 xs) (hy : Sl w a2 n2 c2 ys) (hv0 : -9223372036854775808 ≤ V) (hv1 : V ≤ 9223372036854775807) (hs : a2.isSome = true := by rfl) :
    Calls Try.prog 31 #[.slice a1 n1 c1, .int .i64 V, .slice a2 n2 c2] w (OrdOkPost w (dropRow xs V ys) (dropOk xs V ys)) := by
  have k1 := Lib.hid (iRowValid_any a1 n1 c1 xs w hx)
  have hn9 : n2 ≤ 9223372036854775807 := by have h2 := hy.2.1; have h3 := hy.2.2.1; unfold maxLen at h3; omega
  obtain ⟨r, hr⟩ : ∃ r, r = dropRow xs V ys := ⟨_, rfl⟩
  obtain ⟨o, ho⟩ : ∃ o, o = dropOk xs V ys := ⟨_, rfl⟩
  have hno : dropOk xs V ys = false → r = [] ∧ o = false := fun h => ⟨by rw [hr, dropRow_no h], by rw [ho, h]⟩
  have hyes : dropOk xs V ys = true → r = xs.take V.toNat ++ (xs.getD V.toNat 0 - 1) :: ys ∧ o = true := fun h => ⟨by rw [hr, dropRow_yes h], by rw [ho, h]⟩
  rw [← hr, ← ho]
  clear hr ho
  rcases row_tf xs with h1 | h1
  · rw [h1] at k1
    have hl := (rowB_true.1 h1).1
    rw [hx.1] at hl
    by_cases hp : 0 ≤ V ∧ V < n1
    · obtain ⟨v, rfl⟩ := Int.eq_ofNat_of_zero_le hp.1
      have hvn : v < n1 := by omega
      obtain ⟨b, off, rfl, hat⟩ := hx.2.2.2 (by omega)
      have hvx : v < xs.length := by rw [hx.1]; exact hvn
      have y0 := hat v hvx
      have hx9 := upTo_get (rowB_true.1 h1).2 hvx
      obtain ⟨d, hd⟩ := Int.eq_ofNat_of_zero_le hx9.1
      have hd9 : d ≤ 9999 := by have := hx9.2; omega
      rw [hd] at y0
      by_cases hd0 : d = 0
      · subst hd0
        obtain ⟨rfl, rfl⟩ := hno (dropOk_2 (dropPl_false (fun h => h.2 (by rw [Int.toNat_natCast]; exact hd))))
        have hz : (((0 : Nat) : Int) == 0) = true := rfl
        clear hx hy hno hyes h1 hl hp hat hvx hx9 hd
        go_enter Try.func31, Try.ntmps31
        go_wp2_with fail
        refine (k1.out).mono ?_
        rintro ee wx ⟨rfl, rfl⟩
        go_wp2_with fail
        go_ret2
        exact OrdOkPost.nil (nil_own _ _) (Below.refl _ _)
      · have hpl : dropPl xs (v : Int) = true := dropPl_true.2 ⟨by rw [hx.1]; exact hp, by rw [Int.toNat_natCast, hd]; omega⟩
        have hdz : ((d : Int) == 0) = false := by simp; omega
        obtain ⟨m1, hm1⟩ : ∃ m1, n1 = m1 + 1 := ⟨n1 - 1, by omega⟩
        obtain ⟨t, ht⟩ : ∃ t, m1 = t + v := ⟨m1 - v, by omega⟩
        have hj1 : IntKind.i64.wrap ((n1 : Int) - 1) = (m1 : Int) := by rw [IntWalk.i64_in _ (by omega)]; omega
        have hj2 : (n1 : Int) - 1 = (m1 : Int) := by omega
        have hk1 : IntKind.i64.wrap ((m1 : Int) - (v : Int)) = (t : Int) := by rw [IntWalk.i64_in _ (by omega)]; omega
        have hk2 : (m1 : Int) - (v : Int) = (t : Int) := by omega
        by_cases hlen : n2 = t
        · have k2 := Lib.hid (fun wx h => allUpTo_any a2 n2 c2 ys 9999 wx (by omega) h)
          rcases up_tf 9999 ys with h2 | h2
          · obtain ⟨hr, ho⟩ := hyes (dropOk_4 h1 hpl (dropFit_true.2 ⟨by rw [hx.1, hy.1]; omega, h2⟩))
            rw [Int.toNat_natCast, hd] at hr
            obtain ⟨d1, hd1⟩ : ∃ d1, d = d1 + 1 := ⟨d - 1, by omega⟩
            have hq1 : IntKind.i64.wrap ((d : Int) - 1) = (d1 : Int) := by rw [IntWalk.i64_in _ (by omega)]; omega
            have hq3 : IntKind.i64.wrap (d1 : Int) = (d1 : Int) := IntWalk.i64_in _ (by omega)
            have hq2 : (d : Int) - 1 = (d1 : Int) := by omega
            rw [hq2] at hr
            have HR := Lib.hid hr
            subst ho
            rw [h2] at k2
            have hne : ((n2 : Int) != (t : Int)) = false := by simp; omega
            have hvc : v ≤ c1 := by have := hx.2.1; omega
            have hvc1 : (v : Int) ≤ (c1 : Int) := by omega
            have hv00 : (0 : Int) ≤ (v : Int) := by omega
            have Hat := Lib.hid hat
            have HY := Lib.hid hy
            have HX1 := Lib.hid hx.1
            have Hd1 := Lib.hid hd1
            have hbl : b < w.heap.size := hat.lt (by intro h9; rw [h9] at hvx; simp at hvx)
            have HL := Lib.hid (show v + 1 + n2 = r.length by rw [hr]; simp [hy.1]; omega)
            have hv5 : v ≤ 5 := by omega
            have hn25 : n2 ≤ 5 := by omega
            clear hx hy hno hyes h1 hp hat hvx hx9 hd hr h2 hpl hlen hm1 ht hd1
            go_enter Try.func31, Try.ntmps31
            go_wp2_with fail
            refine (k1.out).mono ?_
            rintro ee wx ⟨rfl, rfl⟩
            go_wp2_with fail
            refine (k2.out _ HY.out).mono ?_
            rintro ee wx ⟨rfl, rfl⟩
            have HBW := Lib.hid ((((Below.refl w.heap.size w).alloc (Nat.le_refl _) (.cells #[.int .i64 (d1 : Int)] 3)).alloc (by simp) (.cells #[.slice (some ⟨b, off, none⟩) v c1, .slice (some ⟨w.heap.size, 0, none⟩) 1 1, .slice a2 n2 c2] 23)).drew)
            have HC := Lib.hid (drop_cells w (d1 : Int) (.slice (some ⟨b, off, none⟩) v c1) (.slice (some ⟨w.heap.size, 0, none⟩) 1 1) (.slice a2 n2 c2) 3 23)
            have HR1 := Lib.hid (CI.Rd.below (CI.Rd.of_at (c := c1) (xs := xs.take v) (n := v) (by rw [List.length_take, HX1.out]; omega) (Hat.out.take v)) HBW.out)
            have HR3 := Lib.hid (CI.Rd.below (CI.Rd.of_sl HY.out hs) HBW.out)
            go_wp2_with fail
            go_region_held3 (fun w' => w'.cell? ⟨b, off + v, none⟩ = some (.int .i64 (d : Int))) (first | go_keep | exact kS0)
              ((first
                | (go_at_call 72; (refine (CI.concat3_any (w.heap.size + 1) 3 (some ⟨b, off, none⟩) (some ⟨w.heap.size, 0, none⟩) a2 v c1 1 1 n2 c2 (ints (xs.take v)) [.int .i64 (d1 : Int)] (ints ys) _ HC.out.1 HC.out.2.1 HC.out.2.2.1 HR1.out HC.out.2.2.2 HR3.out (by omega) (by omega) (by omega)).mono ?_); rintro ee w5 ⟨a5, c5, rfl, ho5, hb5⟩; have kS0 := (hb5.cell (p := ⟨b, off + v, none⟩) (by simp; omega)).trans ((HBW.out.cell (p := ⟨b, off + v, none⟩) hbl).trans y0))))
            have hfin : OrdOkPost w r true (.returned (.tuple #[.slice a5 (v + 1 + n2) c5, .bool true])) w5 := by
              rw [HL.out]
              refine ⟨a5, c5, rfl, ?_, HBW.out.trans (hb5.mono HBW.out.size)⟩
              have h9 := Joins.ownsRow_le ho5 HBW.out.size
              rw [HL.out] at h9
              have e9 : ints r = ints (xs.take v) ++ [.int .i64 (d1 : Int)] ++ ints ys := by rw [HR.out]; simp [ints]
              rw [e9]
              exact h9
            have Hfin := Lib.hid hfin
            clear hfin ho5 hb5 kS0
            go_wp2_with fail
            go_ret2
            exact Hfin.out
          · obtain ⟨rfl, rfl⟩ := hno (dropOk_3 (dropFit_up h2))
            rw [h2] at k2
            have hne : ((n2 : Int) != (t : Int)) = false := by simp; omega
            have HY := Lib.hid hy
            clear hx hy hno hyes h1 hp hat hvx hx9 hd h2 hpl hlen hm1 ht
            go_enter Try.func31, Try.ntmps31
            go_wp2_with fail
            refine (k1.out).mono ?_
            rintro ee wx ⟨rfl, rfl⟩
            go_wp2_with fail
            refine (k2.out _ HY.out).mono ?_
            rintro ee wx ⟨rfl, rfl⟩
            go_wp2_with fail
            go_ret2
            exact OrdOkPost.nil (nil_own _ _) (Below.refl _ _)
        · obtain ⟨rfl, rfl⟩ := hno (dropOk_3 (dropFit_len (by rw [hx.1, hy.1]; omega)))
          have hne : ((n2 : Int) != (t : Int)) = true := by simp; omega
          clear hx hy hno hyes h1 hp hat hvx hx9 hd hpl hlen hm1 ht
          go_enter Try.func31, Try.ntmps31
          go_wp2_with fail
          refine (k1.out).mono ?_
          rintro ee wx ⟨rfl, rfl⟩
          go_wp2_with fail
          go_ret2
          exact OrdOkPost.nil (nil_own _ _) (Below.refl _ _)
    · obtain ⟨rfl, rfl⟩ := hno (dropOk_2 (dropPl_false (fun h => hp (by rw [hx.1] at h; exact h.1))))
      by_cases hp0 : V < 0
      · clear hx hy hno hyes h1 hp
        go_enter Try.func31, Try.ntmps31
        go_wp2_with fail
        refine (k1.out).mono ?_
        rintro ee wx ⟨rfl, rfl⟩
        go_wp2_with fail
        go_ret2
        exact OrdOkPost.nil (nil_own _ _) (Below.refl _ _)
      · have hp1 : (n1 : Int) ≤ V := by omega
        clear hx hy hno hyes h1 hp
        go_enter Try.func31, Try.ntmps31
        go_wp2_with fail
        refine (k1.out).mono ?_
        rintro ee wx ⟨rfl, rfl⟩
        go_wp2_with fail
        go_ret2
        exact OrdOkPost.nil (nil_own _ _) (Below.refl _ _)
  · rw [h1] at k1
    obtain ⟨rfl, rfl⟩ := hno (dropOk_1 h1)
    clear hx hy hno hyes h1
    go_enter Try.func31, Try.ntmps31
    go_wp2_with fail
    refine (k1.out).mono ?_
    rintro ee wx ⟨rfl, rfl⟩
    go_wp2_with fail
    go_ret2
    exact OrdOkPost.nil (nil_own _ _) (Below.refl _ _)

end Go.Proofs.Ytnacndlfjlibmaa
