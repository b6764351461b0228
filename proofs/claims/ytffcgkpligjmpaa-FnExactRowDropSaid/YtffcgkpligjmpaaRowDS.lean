/- Lists of numbers: what is dropped, by the model. -/
import Derived.Test.YtffcgkpligjmpaaRowD
import Derived.Test.YtffcgkpligjmpaaRawKit
namespace Go.Proofs.Ytffcgkpligjmpaa
set_option maxRecDepth 100000
open Go.RowKit

theorem At.take_cells {W : World} {b off v : Nat} {xs : List Int} (h : At W b off xs) : ∀ j u, (ints (xs.take v))[j]? = some u → W.cell? ((⟨b, off, none⟩ : Addr).add j) = some u := by
  intro j u hj
  have hjl : j < (xs.take v).length := by
    rcases Nat.lt_or_ge j (xs.take v).length with h1 | h1
    · exact h1
    · rw [List.getElem?_eq_none (by rw [ints_len]; exact h1)] at hj; cases hj
  rw [ints_get _ j hjl] at hj
  cases hj
  rw [Addr.add_lit]
  exact h.take v j hjl

namespace DS
theorem gn {wz W w' : World} {row : Option Nat} (h : wz.grownBy W none) (k : W.grownBy w' row) (hr : ∀ r, row = some r → wz.heap.size ≤ r) : wz.grownBy w' none := by
  refine ⟨k.os.trans h.os, k.tape.trans h.tape, k.output.trans h.output, Nat.le_trans h.size k.size, fun i hi hne => ?_⟩
  rw [k.block i (Nat.lt_of_lt_of_le hi h.size) (fun e => by have := hr i e.symm; omega)]
  exact h.block i hi hne
theorem lit_past (w : World) (o : Obj) (e : TypeId) : ((w.alloc o).alloc (.cells #[] e)).drew.ownsRow w.heap.size e 1 (.slice (some ⟨w.heap.size + 1, 0, none⟩) 0 0) 0 [] := by
  have h := World.ownsRow_lit (base := w.heap.size) (e := e) (size := 1) (w.alloc o) #[] 0 (by simp) (by simp [maxLen]) rfl
  rw [World.size_alloc] at h
  exact h.drew
theorem v_kept2 {w w' : World} {o : Obj} {V : Value} {ty : TypeId} (hg : ((w.alloc o).drew.alloc (.cells #[V] ty)).grownBy w' (some w.heap.size)) :
    ∀ j u, [V][j]? = some u → w'.cell? ((⟨w.heap.size + 1, 0, none⟩ : Addr).add j) = some u := by
  intro j u hj
  match j, hj with
  | 0, hj =>
    simp at hj; subst hj
    refine hg.cell (a := ⟨w.heap.size + 1, 0, none⟩) ?_ (by simp)
    have h1 : (w.alloc o).drew.heap.size = w.heap.size + 1 := World.size_alloc w o
    have := cell_one_at (w.alloc o).drew V ty (w.heap.size + 1) h1.symm 0 V rfl
    exact this
  | (j + 1), hj => simp at hj
theorem v_kept3 {w w' : World} {o : Obj} {V : Value} {ty : TypeId} (hg : ((w.alloc (.cells #[V] ty)).alloc o).drew.grownBy w' (some (w.heap.size + 1))) :
    ∀ j u, [V][j]? = some u → w'.cell? ((⟨w.heap.size, 0, none⟩ : Addr).add j) = some u := by
  intro j u hj
  match j, hj with
  | 0, hj =>
    simp at hj; subst hj
    refine hg.cell (a := ⟨w.heap.size, 0, none⟩) ?_ (by simp)
    show ((w.alloc (.cells #[V] ty)).alloc o).cell? _ = _
    rw [World.cell?_alloc_past _ _ _ (by simp)]
    exact cell_one_at w V ty w.heap.size rfl 0 V rfl
  | (j + 1), hj => simp at hj
theorem below_of {w w' : World} (h : w.grownBy w' none) : Below w.heap.size w w' := (Below.refl w.heap.size w).grown h (Nat.le_refl _) (fun k hk => by cases hk)
end DS

theorem rowB_mid {xs ys : List Int} {v : Nat} {d1 : Nat} (h : rowB xs = true) (hv : v < xs.length) (hd : d1 ≤ 9999) (hl : v + 1 + ys.length = xs.length) : rowB (xs.take v ++ (d1 : Int) :: ys) = upTo 9999 ys := by
  have h1 := rowB_true.1 h
  rw [rowB_in (by simp; omega)]
  rcases up_tf 9999 ys with h2 | h2
  · rw [h2, upTo_true]
    intro x hx
    rcases List.mem_append.1 hx with hx | hx
    · exact upTo_true.1 h1.2 x (List.mem_of_mem_take hx)
    · rcases List.mem_cons.1 hx with rfl | hx
      · omega
      · exact upTo_true.1 h2 x hx
  · rw [h2, upTo_false]
    intro h3
    exact upTo_false.1 h2 (fun x hx => h3 x (by simp [hx]))

set_option maxHeartbeats 8000000 in
theorem spec_RowDrop (a1 a2 : Option Addr) (n1 c1 n2 c2 : Nat) (xs : List Int) (V : Int) (ys : List Int) (w : World) (hx : Sl w a1 n1 c1 xs) (hy : Sl w a2 n2 c2 ys) (hv0 : -9223372036854775808 ≤ V) (hv1 : V ≤ 9223372036854775807) (hs : a2.isSome = true := by rfl) :
    Calls Try.prog 24 #[.slice a1 n1 c1, .int .i64 V, .slice a2 n2 c2] w (OrdOkPost w (dropRow xs V ys) (dropOk xs V ys)) := by
  have k1 := Lib.hid (sRowValid_any a1 n1 c1 xs w hx)
  have hn9 : n2 ≤ 9223372036854775807 := by have h2 := hy.2.1; have h3 := hy.2.2.1; unfold maxLen at h3; omega
  obtain ⟨r, hr⟩ : ∃ r, r = dropRow xs V ys := ⟨_, rfl⟩
  obtain ⟨o, ho⟩ : ∃ o, o = dropOk xs V ys := ⟨_, rfl⟩
  have hno : dropOk xs V ys = false → r = [] ∧ o = false := fun h => ⟨by rw [hr, dropRow_no h], by rw [ho, h]⟩
  have hyes : dropOk xs V ys = true → r = xs.take V.toNat ++ (xs.getD V.toNat 0 - 1) :: ys ∧ o = true := fun h => ⟨by rw [hr, dropRow_yes h], by rw [ho, h]⟩
  rw [← hr, ← ho]
  clear hr ho
  rcases row_tf xs with h1 | h1
  · rw [h1] at k1
    have hl := (rowB_true.1 h1).1
    rw [hx.1] at hl
    obtain ⟨m1, hm1⟩ : ∃ m1, n1 = m1 + 1 := ⟨n1 - 1, by omega⟩
    have hj1 : IntKind.i64.wrap ((n1 : Int) - 1) = (m1 : Int) := by rw [IntWalk.i64_in _ (by omega)]; omega
    have hj2 : (n1 : Int) - 1 = (m1 : Int) := by omega
    by_cases hp : 0 ≤ V ∧ V < n1
    · obtain ⟨v, rfl⟩ := Int.eq_ofNat_of_zero_le hp.1
      have ki := Lib.hid (l1In_yes (v : Int) 0 (m1 : Int) w (by omega) (by omega))
      have hvn : v < n1 := by omega
      obtain ⟨b, off, rfl, hat⟩ := hx.2.2.2 (by omega)
      have hvx : v < xs.length := by rw [hx.1]; exact hvn
      have y0 := hat v hvx
      have hx9 := upTo_get (rowB_true.1 h1).2 hvx
      obtain ⟨d, hd⟩ := Int.eq_ofNat_of_zero_le hx9.1
      have hd9 : d ≤ 9999 := by have := hx9.2; omega
      rw [hd] at y0
      by_cases hd0 : d = 0
      · subst hd0
        obtain ⟨rfl, rfl⟩ := hno (dropOk_2 (dropPl_false (fun h => h.2 (by rw [Int.toNat_natCast]; exact hd))))
        have hz : (((0 : Nat) : Int) == 0) = true := rfl
        clear hx hy hno hyes h1 hp hat hvx hx9 hd hm1
        go_enter Try.func24, Try.ntmps24
        go_wp2_with fail
        refine (k1.out).mono ?_
        rintro ee wx ⟨rfl, rfl⟩
        go_wp2_with fail
        refine (ki.out).mono ?_
        rintro ee wx ⟨rfl, rfl⟩
        go_wp2_with fail
        go_ret2
        exact lit_post (Below.refl _ _)
      · have hpl : dropPl xs (v : Int) = true := dropPl_true.2 ⟨by rw [hx.1]; exact hp, by rw [Int.toNat_natCast, hd]; omega⟩
        have hdz : ((d : Int) == 0) = false := by simp; omega
        obtain ⟨t, ht⟩ : ∃ t, m1 = t + v := ⟨m1 - v, by omega⟩
        have hk1 : IntKind.i64.wrap ((m1 : Int) - (v : Int)) = (t : Int) := by rw [IntWalk.i64_in _ (by omega)]; omega
        have hk2 : (m1 : Int) - (v : Int) = (t : Int) := by omega
        by_cases hlen : n2 = t
        · obtain ⟨d1, hd1⟩ : ∃ d1, d = d1 + 1 := ⟨d - 1, by omega⟩
          have hq1 : IntKind.i64.wrap ((d : Int) - 1) = (d1 : Int) := by rw [IntWalk.i64_in _ (by omega)]; omega
          have hq3 : IntKind.i64.wrap (d1 : Int) = (d1 : Int) := IntWalk.i64_in _ (by omega)
          have hq2 : (d : Int) - 1 = (d1 : Int) := by omega
          have hrB := rowB_mid (ys := ys) (d1 := d1) h1 hvx (by omega) (by rw [hx.1, hy.1]; omega)
          have hne : ((n2 : Int) != (t : Int)) = false := by simp; omega
          have hvc : v ≤ c1 := by have := hx.2.1; omega
          have hvc1 : (v : Int) ≤ (c1 : Int) := by omega
          have hv00 : (0 : Int) ≤ (v : Int) := by omega
          have hbl : b < w.heap.size := hat.lt (by intro h9; rw [h9] at hvx; simp at hvx)
          have hxn : xs ≠ [] := by intro h9; rw [h9] at hvx; simp at hvx
          have hv5 : v ≤ 5 := by omega
          have hn25 : n2 ≤ 5 := by omega
          obtain ⟨i0, hi, hz0, hz1, hz2⟩ := info_parts info_int
          obtain ⟨x2, rfl⟩ := Option.isSome_iff_exists.1 hs
          have HE1 := Lib.hid (show (ints (xs.take v)).length = v * 1 by rw [ints_len, List.length_take, hx.1]; omega)
          have HEn := Lib.hid (show ∀ j u, (ints (xs.take v))[j]? = some u → (w.alloc (.cells #[] 3)).drew.cell? ((⟨b, off, none⟩ : Addr).add j) = some u from At.take_cells (hat.alloc hxn _))
          have HEn2 := Lib.hid (fun (o : Obj) => show ∀ j u, (ints (xs.take v))[j]? = some u → ((w.alloc (.cells #[] 3)).drew.alloc o).cell? ((⟨b, off, none⟩ : Addr).add j) = some u from At.take_cells (At.alloc (w := (w.alloc (.cells #[] 3)).drew) (hat.alloc hxn _) hxn _))
          have HEn3 := Lib.hid (fun (o : Obj) => show ∀ j u, (ints (xs.take v))[j]? = some u → ((w.alloc o).drew.alloc (.cells #[] 3)).cell? ((⟨b, off, none⟩ : Addr).add j) = some u from At.take_cells (At.alloc (w := (w.alloc o).drew) (hat.alloc hxn _) hxn _))
          have HEo := Lib.hid (ints_one (xs.take v))
          have Hhr := Lib.hid (show upTo 9999 ys = true → r = xs.take v ++ (d1 : Int) :: ys ∧ o = true from fun h => by
            have h9 := hyes (dropOk_4 h1 hpl (dropFit_true.2 ⟨by rw [hx.1, hy.1]; omega, h⟩))
            rw [Int.toNat_natCast, hd, hq2] at h9
            exact h9)
          have Hhn := Lib.hid (show upTo 9999 ys = false → r = [] ∧ o = false from fun h => hno (dropOk_3 (dropFit_up h)))
          have HRB := Lib.hid hrB
          have HLY := Lib.hid hy.1
          have HRL := Lib.hid (show (xs.take v ++ (d1 : Int) :: ys).length = v + 1 + n2 by simp [hy.1]; have := hx.1; omega)
          have HYR := Lib.hid (CI.Rd.of_sl hy rfl)
          clear hx hy hno hyes h1 hp hat hvx hx9 hd hpl hlen hm1 ht hd1 hrB
          go_enter Try.func24, Try.ntmps24
          go_wp2_with fail
          refine (k1.out).mono ?_
          rintro ee wx ⟨rfl, rfl⟩
          go_wp2_with fail
          refine (ki.out).mono ?_
          rintro ee wx ⟨rfl, rfl⟩
          go_wp2_with fail
          go_region_held3 (fun w' => w'.cell? ⟨b, off + v, none⟩ = some (.int .i64 (d : Int))) (first | go_keep | exact kS0)
            ((first
            | (refine step_append_own (by rfl) (.tmp 38) (.tmp 41) 22 (by rfl) w.heap.size 3 i0 (.int .i64 0) 1 8 Try.underlying22 hi hz0 hz1 hz2 rfl (by decide) _ 0 [] (by rfl) ((World.ownsRow_lit (base := w.heap.size) w #[] 0 (Nat.le_refl _) (by simp [maxLen]) rfl).drew) ⟨b, off, none⟩ v c1 (ints (xs.take v)) (by rfl) HE1.out HEn.out HEo.out (by unfold maxLen; omega) (by omega) (by simp) ?_; intro v4 wa hoa hga hna; have GA := Lib.hid (DS.gn (ga w _ none) hga (fun r e => by cases e; exact Nat.le_refl _)); have Hoa := Lib.hid (own0 hoa); have hsa : w.heap.size ≤ wa.heap.size := GA.out.size; have kS0 := GA.out.cell (a := ⟨b, off + v, none⟩) y0 (by simp))
            | (refine step_append_own (by rfl) (.tmp 38) (.tmp 41) 22 (by rfl) w.heap.size 3 i0 (.int .i64 0) 1 8 Try.underlying22 hi hz0 hz1 hz2 rfl (by decide) _ 0 [] (by rfl) ((World.ownsRow_lit (base := w.heap.size) w #[] 0 (Nat.le_refl _) (by simp [maxLen]) rfl).drew.alloc _) ⟨b, off, none⟩ v c1 (ints (xs.take v)) (by rfl) HE1.out (HEn2.out _) HEo.out (by unfold maxLen; omega) (by omega) (by simp <;> omega) ?_; intro v4 wa hoa hga hna; have GA := Lib.hid (DS.gn (DS.gn (ga w _ none) (World.grownBy_alloc _ _ none) (fun r e => by cases e)) hga (fun r e => by cases e; exact Nat.le_refl _)); have HV := Lib.hid (DS.v_kept2 hga); have Hoa := Lib.hid (own0 hoa); have hsa : w.heap.size ≤ wa.heap.size := GA.out.size; have kS0 := GA.out.cell (a := ⟨b, off + v, none⟩) y0 (by simp))
            | (refine step_append_own (by rfl) (.tmp 38) (.tmp 41) 22 (by rfl) w.heap.size 3 i0 (.int .i64 0) 1 8 Try.underlying22 hi hz0 hz1 hz2 rfl (by decide) _ 0 [] (by rfl) (DS.lit_past w (.cells #[.int .i64 (d1 : Int)] 3) 3) ⟨b, off, none⟩ v c1 (ints (xs.take v)) (by rfl) HE1.out (HEn3.out _) HEo.out (by unfold maxLen; omega) (by omega) (by simp <;> omega) ?_; intro v4 wa hoa hga hna; have GA := Lib.hid (DS.gn (DS.gn (World.grownBy_alloc w _ none) (ga (w.alloc _) _ none) (fun r e => by cases e)) hga (fun r e => by cases e; simp)); have HV := Lib.hid (DS.v_kept3 hga); have Hoa := Lib.hid (own0 hoa); have hsa : w.heap.size ≤ wa.heap.size := GA.out.size; have kS0 := GA.out.cell (a := ⟨b, off + v, none⟩) y0 (by simp))
            | (refine step_append_own (by rfl) (.tmp 42) (.tmp 48) 22 (by rfl) w.heap.size 3 i0 (.int .i64 0) 1 8 Try.underlying22 hi hz0 hz1 hz2 rfl (by decide) _ v (ints (xs.take v)) (by rfl) (Hoa.out.alloc _) ⟨wa.heap.size, 0, none⟩ 1 1 [.int .i64 (d1 : Int)] (by rfl) (by rfl) (cell_one_new _ _ _) (ints_oneCell _ [_]) (by unfold maxLen; omega) (by omega) (by simp; omega) ?_; intro v5 wb hob hgb hnb; have GB := Lib.hid (DS.gn (DS.gn GA.out (World.grownBy_alloc wa _ none) (fun r e => by cases e)) hgb (fun r e => (Hoa.out.lt r e).1)); have Hob := Lib.hid hob; have hsb : w.heap.size ≤ wb.heap.size := GB.out.size; have kS0 := GB.out.cell (a := ⟨b, off + v, none⟩) y0 (by simp))
            | (refine step_append_own (by rfl) (.tmp 42) (.tmp 48) 22 (by rfl) w.heap.size 3 i0 (.int .i64 0) 1 8 Try.underlying22 hi hz0 hz1 hz2 rfl (by decide) _ v (ints (xs.take v)) (by rfl) Hoa.out ⟨_, 0, none⟩ 1 1 [.int .i64 (d1 : Int)] (by rfl) (by rfl) HV.out (ints_oneCell _ [_]) (by unfold maxLen; omega) (by omega) (by omega) ?_; intro v5 wb hob hgb hnb; have GB := Lib.hid (DS.gn GA.out hgb (fun r e => (Hoa.out.lt r e).1)); have Hob := Lib.hid hob; have hsb : w.heap.size ≤ wb.heap.size := GB.out.size; have kS0 := GB.out.cell (a := ⟨b, off + v, none⟩) y0 (by simp))
            | fail))
          all_goals
            obtain ⟨g5, c5, rfl⟩ := Joins.ownsRow_form Hob.out (by omega)
            have hbb := DS.below_of GB.out
            have HYW := Lib.hid (CI.Rd.below HYR.out hbb)
            have HYl := Lib.hid HYW.out.1
            have HY1 := Lib.hid HYW.out.2.1
            have HYc := Lib.hid (show ∀ j u, (ints ys)[j]? = some u → wb.cell? (x2.add j) = some u from by
              rcases HYW.out.2.2 with ⟨h9, _⟩ | ⟨x3, h9, h8⟩
              · cases h9
              · cases h9; exact h8)
            have Hbb := Lib.hid hbb
            clear hbb hoa hga hna hob hgb hnb kS0
            go_wp2_with (first
              | (at_builtin; refine wpList_append_own _ rfl (.tmp 50) (.tmp 51) 22 rfl w.heap.size 3 i0 (.int .i64 0) 1 8 Try.underlying22 hi hz0 hz1 hz2 rfl (by decide) _ (v + 1) (ints (xs.take v) ++ [.int .i64 (d1 : Int)]) (by rfl) Hob.out x2 n2 _ (ints ys) (by rfl) HYl.out HYc.out HY1.out (by unfold maxLen; omega) (by omega) (by omega) ?_; intro v6 wc hoc hgc _))
            obtain ⟨g6, c6, rfl⟩ := Joins.ownsRow_form hoc (by omega)
            have hbc := Hbb.out.grown hgc hsb (fun r e => (Hob.out.lt r e).1)
            have hoc' : wc.ownsRow w.heap.size 3 1 (.slice (some ⟨g6, 0, none⟩) (v + 1 + n2) c6) (v + 1 + n2) (ints (xs.take v ++ (d1 : Int) :: ys)) := by
              have e9 : ints (xs.take v ++ (d1 : Int) :: ys) = ints (xs.take v) ++ [.int .i64 (d1 : Int)] ++ ints ys := by simp [ints]
              rw [e9]; exact hoc
            have kv := Lib.hid (sRowValid_any _ _ _ _ wc (Sl.of_own hoc'))
            rw [HRB.out] at kv
            have Hbc := Lib.hid hbc
            have Hoc := Lib.hid hoc'
            clear hoc hgc hbc hoc'
            rcases up_tf 9999 ys with h2 | h2
            · obtain ⟨hr9, ho9⟩ := Hhr.out h2
              have hfin : OrdOkPost w r o (.returned (.tuple #[.slice (some ⟨g6, 0, none⟩) (v + 1 + n2) c6, .bool true])) wc := by
                rw [hr9, ho9, ← HRL.out]
                refine ⟨some ⟨g6, 0, none⟩, c6, rfl, ?_, Hbc.out⟩
                have h9 := Hoc.out
                rw [← HRL.out] at h9
                exact h9
              have Hfin := Lib.hid hfin
              rw [h2] at kv
              clear hfin h2 hr9 ho9
              go_wp2_with fail
              refine (kv.out).mono ?_
              rintro ee wx ⟨rfl, rfl⟩
              go_wp2_with fail
              go_ret2
              exact Hfin.out
            · obtain ⟨rfl, rfl⟩ := Hhn.out h2
              rw [h2] at kv
              clear h2
              go_wp2_with fail
              refine (kv.out).mono ?_
              rintro ee wx ⟨rfl, rfl⟩
              go_wp2_with fail
              go_ret2
              exact lit_post Hbc.out
        · obtain ⟨rfl, rfl⟩ := hno (dropOk_3 (dropFit_len (by rw [hx.1, hy.1]; omega)))
          have hne : ((n2 : Int) != (t : Int)) = true := by simp; omega
          clear hx hy hno hyes h1 hp hat hvx hx9 hd hpl hlen hm1 ht
          go_enter Try.func24, Try.ntmps24
          go_wp2_with fail
          refine (k1.out).mono ?_
          rintro ee wx ⟨rfl, rfl⟩
          go_wp2_with fail
          refine (ki.out).mono ?_
          rintro ee wx ⟨rfl, rfl⟩
          go_wp2_with fail
          go_ret2
          exact lit_post (Below.refl _ _)
    · obtain ⟨rfl, rfl⟩ := hno (dropOk_2 (dropPl_false (fun h => hp (by rw [hx.1] at h; exact h.1))))
      have ki := Lib.hid (l1In_no V 0 (m1 : Int) w (by omega))
      clear hx hy hno hyes h1 hp hm1
      go_enter Try.func24, Try.ntmps24
      go_wp2_with fail
      refine (k1.out).mono ?_
      rintro ee wx ⟨rfl, rfl⟩
      go_wp2_with fail
      refine (ki.out).mono ?_
      rintro ee wx ⟨rfl, rfl⟩
      go_wp2_with fail
      go_ret2
      exact lit_post (Below.refl _ _)
  · rw [h1] at k1
    obtain ⟨rfl, rfl⟩ := hno (dropOk_1 h1)
    clear hx hy hno hyes h1
    go_enter Try.func24, Try.ntmps24
    go_wp2_with fail
    refine (k1.out).mono ?_
    rintro ee wx ⟨rfl, rfl⟩
    go_wp2_with fail
    go_ret2
    exact lit_post (Below.refl _ _)

end Go.Proofs.Ytffcgkpligjmpaa
