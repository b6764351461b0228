/- One exchange: TradeDo of the program and of the model. -/
import Derived.Test.YtgcdbndnpcfcnaaTrB
import Derived.Deep.LoopGhost
import Derived.StillTailTactics
import Derived.Maps.AppendAt
import Derived.Deep.RegionHeld3
import Derived.Deep.AppendLies
namespace Go.Proofs.Ytgcdbndnpcfcnaa
set_option maxRecDepth 100000
open Go.RowKit

/-- An answer of a row and a truth. -/
def TdPost (w : World) (r : List Int) (o : Bool) (e : Ending) (w' : World) : Prop :=
  ∃ a c, e = .returned (.tuple #[.slice a r.length c, .bool o]) ∧ w'.ownsRow w.heap.size 3 1 (.slice a r.length c) r.length (ints r) ∧ Below w.heap.size w w'

theorem td_nil {w w1 : World} (hb : Below w.heap.size w w1) : TdPost w [] false (.returned (.tuple #[.slice none 0 0, .bool false])) w1 := ⟨none, 0, rfl, ⟨rfl, .inl ⟨rfl, rfl⟩⟩, hb⟩
theorem td_lit {w w1 : World} (hb : Below w.heap.size w w1) : TdPost w [] false (.returned (.tuple #[.slice (some ⟨w1.heap.size, 0, none⟩) 0 0, .bool false])) (w1.alloc (.cells #[] 3)) :=
  ⟨_, 0, rfl, World.ownsRow_lit w1 #[] 0 (by have := hb.size; omega) (by simp [maxLen]) rfl, hb.alloc (by have := hb.size; omega) _⟩

/-- The row behind k heaps. -/
def rowAt (h : List Int) (t : Tr) : Nat → List Int
  | 0 => [0, 0, 0]
  | 1 => [aft h t 0, 0, 0]
  | 2 => [aft h t 0, aft h t 1, 0]
  | _ => [aft h t 0, aft h t 1, aft h t 2]
theorem rowAt_len (h : List Int) (t : Tr) (k : Nat) : (rowAt h t k).length = 3 := by
  match k with
  | 0 => rfl
  | 1 => rfl
  | 2 => rfl
  | k + 3 => rfl
theorem rowAt_set (h : List Int) (t : Tr) {k : Nat} (hk : k < 3) : (ints (rowAt h t k)).set k (.int .i64 (aft h t k)) = ints (rowAt h t (k + 1)) := by
  match k, hk with
  | 0, _ => rfl
  | 1, _ => rfl
  | 2, _ => rfl

set_option maxHeartbeats 2000000 in
theorem impl_TradeDo (a0 a1 a2 : Option Addr) (n0 c0 n1 c1 n2 c2 : Nat) (h : List Int) (t : Tr) (w : World) (hb0 : n0 ≤ 1000000000000) (hb1 : n1 ≤ 1000000000000) (hb2 : n2 ≤ 1000000000000) (h0 : Sl w a0 n0 c0 h) (h1 : Sl w a1 n1 c1 t.take) (h2 : Sl w a2 n2 c2 t.give) :
    Calls Try.prog 24 #[.slice a0 n0 c0, .agg #[.slice a1 n1 c1, .slice a2 n2 c2]] w (TdPost w (doR h t) (canB h t)) := by
  obtain ⟨i0, hi, hz0, hz1, hz2⟩ := info_parts info_int
  obtain ⟨W, hW, hB, hbW, hsW⟩ := box_two w (.slice a1 n1 c1) (.slice a2 n2 c2) 25
  have kH := Lib.hid (impl_HeapsValid a0 n0 c0 h W hb0 (h0.below hbW))
  have kT := Lib.hid (iTradeValid_any a1 a2 n1 c1 n2 c2 t W hb1 hb2 (h1.below hbW) (h2.below hbW))
  have x0 := hB.c0
  have x1 := hB.c1
  have HB := Lib.hid hB
  have HbW := Lib.hid hbW
  have HsW := Lib.hid hsW
  have H0 := Lib.hid h0
  have H1 := Lib.hid h1
  have H2 := Lib.hid h2
  clear hB hbW hsW h0 h1 h2
  rcases list_tf 40 h with hh | hh
  · rw [hh] at kH
    rcases (show tradeB t = true ∨ tradeB t = false by cases tradeB t <;> simp) with ht | ht
    · rw [ht] at kT
      have l0 : n0 = 3 := by rw [← H0.out.1]; exact (listB_true.1 hh).1
      have l1 : n1 = 3 := by rw [← H1.out.1]; exact (listB_true.1 (tradeB_true.1 ht).1).1
      have l2 : n2 = 3 := by rw [← H2.out.1]; exact (listB_true.1 (tradeB_true.1 ht).2).1
      subst l0 l1 l2
      have Hh := Lib.hid hh
      have Ht := Lib.hid ht
      obtain ⟨r, hr⟩ : ∃ r, r = doR h t := ⟨_, rfl⟩
      obtain ⟨o, ho⟩ : ∃ o, o = canB h t := ⟨_, rfl⟩
      rw [← hr, ← ho]
      have Hr := Lib.hid hr
      have Ho := Lib.hid ho
      clear hh ht hr ho hb0 hb1 hb2
      go_enter Try.func24, Try.ntmps24
      go_wp2_with fail
      refine (kH.out).mono ?_
      rintro ee wx ⟨rfl, rfl⟩
      go_wp2_with fail
      refine (kT.out).mono ?_
      rintro ee w1 ⟨rfl, hb1⟩
      have hB1 := HB.out.below hb1 (by have := HsW.out; omega)
      have HB1 := Lib.hid hB1
      have Hb1 := Lib.hid (HbW.out.trans (hb1.mono HbW.out.size))
      have Hs1 := Lib.hid (show w.heap.size < w1.heap.size by have := HsW.out; have := hb1.size; omega)
      clear hb1 hB1 x0 x1
      go_wp2_with (first
        | (at_make; refine wpList_make_full _ rfl (.const (.int .i64 3)) (.const (.int .i64 3)) 23 rfl w1.heap.size 3 i0 _ 1 Try.underlying23 hi hz0 hz1 .i64 .i64 _ _ 3 rfl rfl rfl rfl (by rw [hz2]; omega) (by unfold maxLen; omega) (Nat.le_refl _) ?_; intro w2 hown hg2))
      have hown' : w2.ownsRow w1.heap.size 3 1 (.slice (some ⟨w1.heap.size, 0, none⟩) 3 3) 3 (ints (rowAt h t 0)) := by
        rw [show 3 * 1 = 3 from rfl, show (Value.int .i64 0).cells = #[Value.int .i64 0] from rfl, toList_madeCells_one] at hown
        exact hown
      have Hown := Lib.hid hown'
      have Hb2 := Lib.hid ((Below.refl w1.heap.size w1).grown hg2 (Nat.le_refl _) (fun k hk => by cases hk))
      clear hown hown' hg2
      go_loopg [21] 3 (fun gk i wr => ∃ (k : Nat), gk + k = 3 ∧ i = .int .i64 k ∧ Hid (∀ j, j < k → fitB h t j = true) ∧ wr.ownsRow w1.heap.size 3 1 (.slice (some ⟨w1.heap.size, 0, none⟩) 3 3) 3 (ints (rowAt h t k)) ∧ Below w1.heap.size w1 wr)
      case atStart => exact ⟨0, rfl, rfl, fun j hj => by omega, Hown.out, Hb2.out⟩
      case round =>
        obtain ⟨k, hgk, rfl, HE, hrow, hbel⟩ := hrel
        have Hgk := Lib.hid hgk
        have hk : k ≤ 3 := by omega
        clear hgk
        by_cases hlt : k < 3
        · obtain ⟨b0, f0, rfl, at0⟩ := ((H0.out.below Hb1.out).below hbel).2.2.2 (by omega)
          obtain ⟨b1, f1, rfl, at1⟩ := ((H1.out.below Hb1.out).below hbel).2.2.2 (by omega)
          obtain ⟨b2, f2, rfl, at2⟩ := ((H2.out.below Hb1.out).below hbel).2.2.2 (by omega)
          have e0 := at0 k (by rw [H0.out.1]; exact hlt)
          have e1 := at1 k (by rw [H1.out.1]; exact hlt)
          have e2 := at2 k (by rw [H2.out.1]; exact hlt)
          have hBr := HB1.out.below hbel Hs1.out
          have y0 := hBr.c0
          have y1 := hBr.c1
          have bx := listB_get Hh.out hlt
          have bt := listB_get (tradeB_true.1 Ht.out).1 hlt
          have bg := listB_get (tradeB_true.1 Ht.out).2 hlt
          have ha : aft h t k = h.getD k 0 - t.take.getD k 0 + t.give.getD k 0 := rfl
          have hset := (hrow.stored k (.int .i64 (aft h t k))).1
          rw [rowAt_set h t hlt] at hset
          have hf := hrow.frozenAt k
          obtain ⟨z, hz⟩ : ∃ z, (ints (rowAt h t k))[k]? = some z := ⟨_, List.getElem?_eq_getElem (by rw [ints_len, rowAt_len]; exact hlt)⟩
          have hc : wr.cell? ⟨w1.heap.size, k, none⟩ = some z := by rw [hrow.cellAt k hlt, hz]
          obtain ⟨x, hx⟩ : ∃ x, x = h.getD k 0 := ⟨_, rfl⟩
          obtain ⟨u, hu⟩ : ∃ x, x = t.take.getD k 0 := ⟨_, rfl⟩
          obtain ⟨v, hv⟩ : ∃ x, x = t.give.getD k 0 := ⟨_, rfl⟩
          rw [← hx] at e0 bx ha
          rw [← hu] at e1 bt ha
          rw [← hv] at e2 bg ha
          rw [ha] at hset
          have hbelS := hbel.setCell (p := ⟨w1.heap.size, k, none⟩) (Nat.le_refl _) (.int .i64 (x - u + v))
          have Hset := Lib.hid hset
          have HbelS := Lib.hid hbelS
          have Ha := Lib.hid ha
          have Hx := Lib.hid hx
          have Hu := Lib.hid hu
          have hxx : 0 ≤ x := bx.1
          have hx4 : x ≤ 40 := bx.2
          have hu0 : 0 ≤ u := bt.1
          have hu5 : u ≤ 5 := bt.2
          have hv0 : 0 ≤ v := bg.1
          have hv5 : v ≤ 5 := bg.2
          clear at0 at1 at2 hBr bx bt bg ha hset hbelS hz hx hu hv hrow
          by_cases hl : x - u < 0
          · have hoF : o = false := by rw [Ho.out]; exact canB_no hlt (.inl (by rw [← Hx.out, ← Hu.out]; omega))
            have hrN : r = [] := by rw [Hr.out]; exact doR_no (by rw [← Ho.out]; exact hoF)
            subst hoF hrN
            go_wp2_with fail
            go_ret2
            exact td_nil (Hb1.out.trans (HbelS.out.mono Hb1.out.size))
          · by_cases hm : 40 < x - u + v
            · have hoF : o = false := by rw [Ho.out]; exact canB_no hlt (.inr (by rw [Ha.out]; exact hm))
              have hrN : r = [] := by rw [Hr.out]; exact doR_no (by rw [← Ho.out]; exact hoF)
              subst hoF hrN
              go_wp2_with fail
              go_ret2
              exact td_nil (Hb1.out.trans (HbelS.out.mono Hb1.out.size))
            · have Hfit := Lib.hid (show fitB h t k = true by rw [fitB_true, Ha.out, ← Hx.out, ← Hu.out]; omega)
              go_wp2_with fail
              go_roundg (gk - 1)
              case measure => have := Hgk.out; omega
              case rel =>
                refine ⟨k + 1, by have := Hgk.out; omega, by go_num, fun j hj => ?_, Hset.out, HbelS.out⟩
                by_cases hjk : j = k
                · subst hjk; exact Hfit.out
                · exact HE.out j (by omega)
        · obtain rfl : k = 3 := by omega
          have hoT : canB h t = true := canB_true.2 ⟨Hh.out, Ht.out, HE.out⟩
          have hrT : r = rowAt h t 3 := by rw [Hr.out, doR_yes hoT]; rfl
          rw [← Ho.out] at hoT
          subst hoT hrT
          go_wp2_with fail
          go_ret2
          exact ⟨some ⟨w1.heap.size, 0, none⟩, 3, rfl, Joins.ownsRow_le hrow Hb1.out.size, Hb1.out.trans (hbel.mono Hb1.out.size)⟩
    · rw [ht] at kT
      rw [canB_trade ht, doR_no (canB_trade ht)]
      go_enter Try.func24, Try.ntmps24
      go_wp2_with fail
      refine (kH.out).mono ?_
      rintro ee wx ⟨rfl, rfl⟩
      go_wp2_with fail
      refine (kT.out).mono ?_
      rintro ee w1 ⟨rfl, hb1⟩
      have Hb1 := Lib.hid (HbW.out.trans (hb1.mono HbW.out.size))
      clear hb1
      go_wp2_with fail
      go_ret2
      exact td_nil Hb1.out
  · rw [hh] at kH
    rw [canB_heaps hh, doR_no (canB_heaps hh)]
    go_enter Try.func24, Try.ntmps24
    go_wp2_with fail
    refine (kH.out).mono ?_
    rintro ee wx ⟨rfl, rfl⟩
    go_wp2_with fail
    go_ret2
    exact td_nil HbW.out

theorem cell_in {w : World} {p : Addr} {v : Value} (h : w.cell? p = some v) : p.block < w.heap.size := by
  by_cases hh : p.block < w.heap.size
  · exact hh
  · have hn : w.heap[p.block]? = none := Array.getElem?_eq_none_iff.2 (by omega)
    simp [World.cell?, hn] at h

/-- The first k numbers of the row. -/
def outAt (h : List Int) (t : Tr) : Nat → List Int
  | 0 => []
  | k + 1 => outAt h t k ++ [aft h t k]
theorem outAt_len (h : List Int) (t : Tr) (k : Nat) : (outAt h t k).length = k := by
  induction k with
  | zero => rfl
  | succ k ih => rw [outAt, List.length_append, ih]; rfl
theorem aft_fit {h : List Int} {t : Tr} (hh : listB 40 h = true) (ht : tradeB t = true) {k : Nat} (hk : k < 3) (hu : t.take.getD k 0 ≤ h.getD k 0) : 0 ≤ aft h t k ∧ aft h t k ≤ 45 := by
  have a1 := listB_get hh hk
  have a2 := listB_get (tradeB_true.1 ht).1 hk
  have a3 := listB_get (tradeB_true.1 ht).2 hk
  unfold aft
  omega

theorem td_cell {wr w1 : World} {B e n size : Nat} {v : Value} {ys : List Value} (ho : wr.ownsRow B e size v n ys) {o1 : Obj}
    (hg : (wr.alloc o1).drew.grownBy w1 v.ownBlock) {b o : Nat} {x : Value} (h : wr.cell? ⟨b, o, none⟩ = some x) (hb : b < B) : w1.cell? ⟨b, o, none⟩ = some x := by
  have hlt : b < wr.heap.size := World.block_lt_of_cell? wr _ h
  refine hg.cell ?_ ?_
  · show (wr.alloc o1).cell? ⟨b, o, none⟩ = _
    rw [World.cell?_alloc_past _ _ _ hlt]
    exact h
  · intro h'
    have h2 : B ≤ b := (ho.lt _ h'.symm).1
    omega

theorem sl_lt {w : World} {b off n c : Nat} {xs : List Int} (h : Sl w (some ⟨b, off, none⟩) n c xs) (hn : 0 < n) : b < w.heap.size := by
  obtain ⟨b', off', e, hat⟩ := h.2.2.2 hn
  cases e
  exact cell_in (hat 0 (by rw [h.1]; exact hn))

theorem out_can {h : List Int} {t : Tr} (hh : listB 40 h = true) (ht : tradeB t = true) (hu : ∀ j, j < 3 → t.take.getD j 0 ≤ h.getD j 0) : listB 40 (outAt h t 3) = canB h t := by
  rcases can_tf h t with hc | hc
  · rw [hc, show outAt h t 3 = doR h t by rw [doR_yes hc]; rfl]
    exact doR_valid hc
  · rw [hc, Bool.eq_false_iff]
    intro h1
    have h2 : canB h t = true := by
      rw [canB_true]
      refine ⟨hh, ht, fun k hk => ?_⟩
      rw [fitB_true]
      refine ⟨hu k hk, ?_⟩
      have h3 := (listB_get h1 hk).2
      have h4 : (outAt h t 3).getD k 0 = aft h t k := by
        have : k = 0 ∨ k = 1 ∨ k = 2 := by omega
        rcases this with rfl | rfl | rfl <;> rfl
      rw [h4] at h3
      exact h3
    rw [hc] at h2
    cases h2

set_option maxHeartbeats 4000000 in
theorem spec_TradeDo (a0 a1 a2 : Option Addr) (n0 c0 n1 c1 n2 c2 : Nat) (h : List Int) (t : Tr) (w : World) (h0 : Sl w a0 n0 c0 h) (h1 : Sl w a1 n1 c1 t.take) (h2 : Sl w a2 n2 c2 t.give) :
    Calls Try.prog 25 #[.slice a0 n0 c0, .agg #[.slice a1 n1 c1, .slice a2 n2 c2]] w (TdPost w (doR h t) (canB h t)) := by
  obtain ⟨i0, hi, hz0, hz1, hz2⟩ := info_parts info_int
  obtain ⟨W, hW, hB, hbW, hsW⟩ := box_two w (.slice a1 n1 c1) (.slice a2 n2 c2) 25
  have kH := Lib.hid (spec_HeapsValid a0 n0 c0 h W (h0.below hbW))
  have kT := Lib.hid (sTradeValid_any a1 a2 n1 c1 n2 c2 t W (h1.below hbW) (h2.below hbW))
  have x0 := hB.c0
  have x1 := hB.c1
  have HB := Lib.hid hB
  have HbW := Lib.hid hbW
  have HsW := Lib.hid hsW
  have H0 := Lib.hid h0
  have H1 := Lib.hid h1
  have H2 := Lib.hid h2
  clear hB hbW hsW h0 h1 h2
  rcases list_tf 40 h with hh | hh
  · rw [hh] at kH
    rcases (show tradeB t = true ∨ tradeB t = false by cases tradeB t <;> simp) with ht | ht
    · rw [ht] at kT
      have l0 : n0 = 3 := by rw [← H0.out.1]; exact (listB_true.1 hh).1
      have l1 : n1 = 3 := by rw [← H1.out.1]; exact (listB_true.1 (tradeB_true.1 ht).1).1
      have l2 : n2 = 3 := by rw [← H2.out.1]; exact (listB_true.1 (tradeB_true.1 ht).2).1
      subst l0 l1 l2
      have Hh := Lib.hid hh
      have Ht := Lib.hid ht
      obtain ⟨r, hr⟩ : ∃ r, r = doR h t := ⟨_, rfl⟩
      obtain ⟨o, ho⟩ : ∃ o, o = canB h t := ⟨_, rfl⟩
      rw [← hr, ← ho]
      have Hr := Lib.hid hr
      have Ho := Lib.hid ho
      clear hh ht hr ho
      go_enter Try.func25, Try.ntmps25
      go_wp2_with fail
      refine (kH.out).mono ?_
      rintro ee wx ⟨rfl, rfl⟩
      go_wp2_with fail
      refine (kT.out).mono ?_
      rintro ee w1 ⟨rfl, hb1⟩
      have hB1 := HB.out.below hb1 (by have := HsW.out; omega)
      have HB1 := Lib.hid hB1
      have Hb1 := Lib.hid (HbW.out.trans (hb1.mono HbW.out.size))
      have Hs1 := Lib.hid (show w.heap.size < w1.heap.size by have := HsW.out; have := hb1.size; omega)
      clear hb1 hB1 x0 x1
      have Hst := Lib.hid (show (w1.alloc (.cells #[] 3)).ownsRow w1.heap.size 3 1 (.slice (some ⟨w1.heap.size, 0, none⟩) 0 0) 0 (ints (outAt h t 0)) from World.ownsRow_lit w1 #[] 0 (Nat.le_refl _) (by simp [maxLen]) rfl)
      have Hbst := Lib.hid (show Below w1.heap.size w1 (w1.alloc (.cells #[] 3)) from (Below.refl _ _).alloc (Nat.le_refl _) _)
      go_wp2_with fail
      go_loopg [6, 7] 3 (fun gk v6 v7 wr => ∃ (k g c : Nat), gk + k = 3 ∧ v7 = .int .i64 k ∧ v6 = .slice (some ⟨g, 0, none⟩) k c ∧ Hid (∀ j, j < k → t.take.getD j 0 ≤ h.getD j 0) ∧ wr.ownsRow w1.heap.size 3 1 v6 k (ints (outAt h t k)) ∧ Below w1.heap.size w1 wr)
      case atStart => exact ⟨0, w1.heap.size, 0, rfl, rfl, rfl, fun j hj => by omega, Hst.out, Hbst.out⟩
      case round =>
        obtain ⟨k, g, cc, hgk, rfl, rfl, HE, hrow, hbel⟩ := hrel
        have Hgk := Lib.hid hgk
        have hk : k ≤ 3 := by omega
        clear hgk
        by_cases hlt : k < 3
        · obtain ⟨b0, f0, rfl, at0⟩ := ((H0.out.below Hb1.out).below hbel).2.2.2 (by omega)
          obtain ⟨b1, f1, rfl, at1⟩ := ((H1.out.below Hb1.out).below hbel).2.2.2 (by omega)
          obtain ⟨b2, f2, rfl, at2⟩ := ((H2.out.below Hb1.out).below hbel).2.2.2 (by omega)
          have e0 := at0 k (by rw [H0.out.1]; exact hlt)
          have e1 := at1 k (by rw [H1.out.1]; exact hlt)
          have e2 := at2 k (by rw [H2.out.1]; exact hlt)
          have L0 := Lib.hid (sl_lt (H0.out.below Hb1.out) (by decide))
          have L1 := Lib.hid (sl_lt (H1.out.below Hb1.out) (by decide))
          have L2 := Lib.hid (sl_lt (H2.out.below Hb1.out) (by decide))
          have hBr := HB1.out.below hbel Hs1.out
          have y0 := hBr.c0
          have y1 := hBr.c1
          have bx := listB_get Hh.out hlt
          have bt := listB_get (tradeB_true.1 Ht.out).1 hlt
          have bg := listB_get (tradeB_true.1 Ht.out).2 hlt
          have ha : aft h t k = h.getD k 0 - t.take.getD k 0 + t.give.getD k 0 := rfl
          obtain ⟨x, hx⟩ : ∃ x, x = h.getD k 0 := ⟨_, rfl⟩
          obtain ⟨u, hu⟩ : ∃ x, x = t.take.getD k 0 := ⟨_, rfl⟩
          obtain ⟨v, hv⟩ : ∃ x, x = t.give.getD k 0 := ⟨_, rfl⟩
          rw [← hx] at e0 bx ha
          rw [← hu] at e1 bt ha
          rw [← hv] at e2 bg ha
          have Ha := Lib.hid ha
          have Hx := Lib.hid hx
          have Hu := Lib.hid hu
          have Hrow := Lib.hid hrow
          have Hbel := Lib.hid hbel
          have hxx : 0 ≤ x := bx.1
          have hx4 : x ≤ 40 := bx.2
          have hu0 : 0 ≤ u := bt.1
          have hu5 : u ≤ 5 := bt.2
          have hv0 : 0 ≤ v := bg.1
          have hv5 : v ≤ 5 := bg.2
          clear at0 at1 at2 hBr bx bt bg ha hx hu hv hrow hbel
          by_cases hl : x < u
          · have hoF : o = false := by rw [Ho.out]; exact canB_no hlt (.inl (by rw [← Hx.out, ← Hu.out]; exact hl))
            have hrN : r = [] := by rw [Hr.out]; exact doR_no (by rw [← Ho.out]; exact hoF)
            subst hoF hrN
            go_wp2_with fail
            go_quiet (fail)
            go_wp2_with fail
            go_ret2
            exact td_lit ((Hb1.out.trans (Hbel.out.mono Hb1.out.size)).trans (Joins.below_draws _ _ _))
          · go_wp2_with fail
            go_quiet (fail)
            generalize hwq : wr.drewN _ = wq
            have hbq : Below wr.heap.size wr wq := by rw [← hwq]; exact Joins.below_draws _ _ _
            have E0 := (hbq.cell (cell_in e0)).trans e0
            have E1 := (hbq.cell (cell_in e1)).trans e1
            have E2 := (hbq.cell (cell_in e2)).trans e2
            have Y0 := (hbq.cell (cell_in y0)).trans y0
            have Y1 := (hbq.cell (cell_in y1)).trans y1
            have HoA := Lib.hid (ownsRow_below' Hrow.out hbq)
            have HbA := Lib.hid (Hbel.out.trans (hbq.mono Hbel.out.size))
            have hwqs : w1.heap.size ≤ wq.heap.size := HbA.out.size
            have q1 : IntKind.i64.wrap (x - u) = x - u := by rw [IntKind.wrap_i64]; omega
            have q2 : IntKind.i64.wrap (x - u + v) = x - u + v := by rw [IntKind.wrap_i64]; omega
            clear e0 e1 e2 y0 y1 hbq hwq
            go_wp2_with fail
            go_region_held3 (fun w' => (w'.cell? ⟨b0, f0 + k, none⟩ = some (.int .i64 x) ∧ w'.cell? ⟨b1, f1 + k, none⟩ = some (.int .i64 u) ∧ w'.cell? ⟨b2, f2 + k, none⟩ = some (.int .i64 v)) ∧ w'.cell? ⟨w.heap.size, 0, none⟩ = some (.slice (some ⟨b1, f1, none⟩) 3 c1) ∧ w'.cell? ⟨w.heap.size, 1, none⟩ = some (.slice (some ⟨b2, f2, none⟩) 3 c2))
              (first | go_keep | exact ⟨⟨kS0, kS1, kS2⟩, kS3, kS4⟩)
              ((first
                | (refine step_append_lies _ (by rfl) (.tmp 33) (.tmp 50) _ (by rfl) w1.heap.size 3 i0 _ 1 8 Try.underlying23 hi hz0 hz1 hz2 rfl (by decide) _ k (ints (outAt h t k)) (by rfl) ((HoA.out.alloc _).drew) ⟨wq.heap.size, 0, none⟩ 1 1 [.int .i64 (x - u + v)] (by rfl) (by rfl) (cell_one_new _ _ _) (ints_oneCell _ [x - u + v]) (by omega) (by unfold maxLen; omega) (by omega) (by simp; omega) (wq.heap.size + 1) (by simp) ?_; intro g6 c6 w3 ho3 hg3 hat3 hlt3; have kS0 := td_cell HoA.out hg3 E0 L0.out; have kS1 := td_cell HoA.out hg3 E1 L1.out; have kS2 := td_cell HoA.out hg3 E2 L2.out; have kS3 := td_cell HoA.out hg3 Y0 Hs1.out; have kS4 := td_cell HoA.out hg3 Y1 Hs1.out)
                | fail))
            have hbel3 : Below w1.heap.size w1 w3 := (HbA.out.alloc HbA.out.size _).drew.grown hg3 (by simp; omega) (fun k hk => (HoA.out.lt k hk).1)
            have ho3' : w3.ownsRow w1.heap.size 3 1 (.slice (some ⟨g6, 0, none⟩) (k + 1) c6) (k + 1) (ints (outAt h t (k + 1))) := by
              rw [outAt, Ha.out]
              simpa [ints] using ho3
            have Ho3 := Lib.hid ho3'
            have Hbel3 := Lib.hid hbel3
            have Hle := Lib.hid (show t.take.getD k 0 ≤ h.getD k 0 by rw [← Hx.out, ← Hu.out]; omega)
            clear ho3 ho3' hbel3 hg3
            go_wp2_with fail
            go_roundg (gk - 1)
            case measure => have := Hgk.out; omega
            case rel =>
              refine ⟨k + 1, g6, c6, by have := Hgk.out; omega, by go_num, rfl, fun j hj => ?_, Ho3.out, Hbel3.out⟩
              by_cases hjk : j = k
              · subst hjk; exact Hle.out
              · exact HE.out j (by omega)
        · obtain rfl : k = 3 := by omega
          have kV := Lib.hid (spec_HeapsValid (some ⟨g, 0, none⟩) 3 cc (outAt h t 3) wr (Sl.of_own hrow))
          rw [out_can Hh.out Ht.out HE.out, ← Ho.out] at kV
          have Hrow := Lib.hid hrow
          have Hbel := Lib.hid hbel
          clear hrow hbel
          cases o with
          | true =>
            have hrT : r = outAt h t 3 := by rw [Hr.out, doR_yes Ho.out.symm]; rfl
            subst hrT
            go_wp2_with fail
            refine (kV.out).mono ?_
            rintro ee wx ⟨rfl, rfl⟩
            go_wp2_with fail
            go_ret2
            exact ⟨some ⟨g, 0, none⟩, cc, rfl, Joins.ownsRow_le Hrow.out Hb1.out.size, Hb1.out.trans (Hbel.out.mono Hb1.out.size)⟩
          | false =>
            have hrN : r = [] := by rw [Hr.out]; exact doR_no Ho.out.symm
            subst hrN
            go_wp2_with fail
            refine (kV.out).mono ?_
            rintro ee wx ⟨rfl, rfl⟩
            go_wp2_with fail
            go_ret2
            exact td_lit (Hb1.out.trans (Hbel.out.mono Hb1.out.size))
    · rw [ht] at kT
      rw [canB_trade ht, doR_no (canB_trade ht)]
      go_enter Try.func25, Try.ntmps25
      go_wp2_with fail
      refine (kH.out).mono ?_
      rintro ee wx ⟨rfl, rfl⟩
      go_wp2_with fail
      refine (kT.out).mono ?_
      rintro ee w1 ⟨rfl, hb1⟩
      have Hb1 := Lib.hid (HbW.out.trans (hb1.mono HbW.out.size))
      clear hb1
      go_wp2_with fail
      go_ret2
      exact td_lit Hb1.out
  · rw [hh] at kH
    rw [canB_heaps hh, doR_no (canB_heaps hh)]
    go_enter Try.func25, Try.ntmps25
    go_wp2_with fail
    refine (kH.out).mono ?_
    rintro ee wx ⟨rfl, rfl⟩
    go_wp2_with fail
    go_ret2
    exact td_lit HbW.out

end Go.Proofs.Ytgcdbndnpcfcnaa
