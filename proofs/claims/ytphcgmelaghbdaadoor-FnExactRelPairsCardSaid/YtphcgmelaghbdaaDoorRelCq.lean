/- CircleOf by the program once more: its answer is a row of its own, which may begin inside a block; marks in such a row. -/
import Derived.Test.YtphcgmelaghbdaaDoorRelCk
import Derived.Test.YtphcgmelaghbdaaDoorMark
namespace Go.Proofs.YtphcgmelaghbdaaDoor
set_option maxRecDepth 100000
open Go.RowKit

/-- A row of its own that may begin inside its block. -/
def OwnAt (w : World) (B : Nat) (a : Option Addr) (n c : Nat) (xs : List Int) : Prop :=
  (a = .none ∧ n = 0 ∧ c = 0 ∧ xs = []) ∨ ∃ (g t n' c' : Nat) (ys : List Int), a = .some ⟨g, t, .none⟩ ∧ n' = t + n ∧ c' = t + c ∧ 0 < n ∧ xs = ys.drop t ∧ w.ownsRow B 3 1 (.slice (.some ⟨g, 0, .none⟩) n' c') n' (ints ys)
theorem OwnAt.none (w : World) (B : Nat) : OwnAt w B .none 0 0 [] := .inl ⟨rfl, rfl, rfl, rfl⟩
theorem OwnAt.below {w w' : World} {B n c : Nat} {a : Option Addr} {xs : List Int} (h : OwnAt w B a n c xs) (hb : Below w.heap.size w w') : OwnAt w' B a n c xs := by
  rcases h with h | ⟨g, t, n', c', ys, h1, h2, h3, h4, h5, h6⟩
  · exact .inl h
  · exact .inr ⟨g, t, n', c', ys, h1, h2, h3, h4, h5, ownsRow_below' h6 hb⟩
theorem OwnAt.sl {w : World} {B n c : Nat} {a : Option Addr} {xs : List Int} (h : OwnAt w B a n c xs) : Sl w a n c xs := by
  rcases h with ⟨rfl, rfl, rfl, rfl⟩ | ⟨g, t, n', c', ys, rfl, rfl, rfl, h4, rfl, h6⟩
  · exact ⟨rfl, Nat.le_refl _, Nat.zero_le _, fun h => by simp at h⟩
  · have h7 := (Sl.of_own h6).from (t := t) (by omega)
    have e1 : t + n - t = n := by omega
    have e2 : t + c - t = c := by omega
    rw [e1, e2] at h7
    simpa [Addr.add_lit] using h7
theorem OwnAt.from {w : World} {B k c t : Nat} {a : Option Addr} {xs : List Int} (h : w.ownsRow B 3 1 (.slice a k c) k (ints xs)) (ht : t < k) : OwnAt w B (a.map fun x => x.add t) (k - t) (c - t) (xs.drop t) := by
  have hc := (Sl.of_own h).2.1
  obtain ⟨g, c', hv⟩ := Joins.ownsRow_form h (by omega)
  simp at hv
  obtain ⟨rfl, rfl⟩ := hv
  exact .inr ⟨g, t, k, c, xs, by simp [Addr.add_lit], by omega, by omega, by omega, rfl, h⟩

/-- Below B and from U on the world is as it was. -/
structure MidQ (B U : Nat) (w w' : World) : Prop where
  below : Below B w w'
  keep : ∀ k, U ≤ k → k < w.heap.size → w'.heap[k]? = w.heap[k]?
theorem MidQ.of_grown {B U g : Nat} {w w' : World} (hb : Below B w w') (hg : w.grownBy w' (some g)) (hU : g < U) : MidQ B U w w' :=
  ⟨hb, fun k h1 h2 => hg.block k h2 (fun e => by cases e; omega)⟩
theorem MidQ.own {B U Bo e n size : Nat} {w w' : World} {v : Value} {xs : List Value} (h : MidQ B U w w') (ho : w.ownsRow Bo e size v n xs) (hU : U ≤ Bo) : w'.ownsRow Bo e size v n xs := by
  obtain ⟨h1, h2⟩ := ho
  refine ⟨h1, ?_⟩
  rcases h2 with h2 | ⟨g, cap, cur, hv, hg, hh, r⟩
  · exact .inl h2
  · exact .inr ⟨g, cap, cur, hv, hg, by rw [h.keep g (by omega) (Array.getElem?_eq_some_iff.1 hh).1]; exact hh, r⟩
theorem MidQ.ownAt {B U Bo n c : Nat} {w w' : World} {a : Option Addr} {xs : List Int} (h : MidQ B U w w') (ho : OwnAt w Bo a n c xs) (hU : U ≤ Bo) : OwnAt w' Bo a n c xs := by
  rcases ho with ho | ⟨g, t, n', c', ys, h1, h2, h3, h4, h5, h6⟩
  · exact .inl ho
  · exact .inr ⟨g, t, n', c', ys, h1, h2, h3, h4, h5, h.own h6 hU⟩

theorem mark_set_off (P : List Value) (k : Int) (t j : Nat) (z : Value) (zs : List Value) (ht : P.length = t) :
    (P ++ (ints (marks k j) ++ z :: zs)).set (t + j) (.int .i64 (k + j)) = P ++ (ints (marks k (j + 1)) ++ zs) := by
  rw [List.set_append_right _ _ (by omega), ht, Nat.add_sub_cancel_left, mark_set]

set_option maxHeartbeats 1000000 in
theorem markIntS_off (B : Nat) (ao : Option Addr) (n cap : Nat) (xs : List Int) (k : Int) (w : World) (hn : n ≤ 1000000000) (hk0 : 0 ≤ k) (hk1 : k ≤ 1000000000)
    (ho : OwnAt w B ao n cap xs) :
    Calls Tryd.prog 10 #[.slice ao n cap, .int .i64 k] w fun e w' => e = .returned (.int .i64 (k + n)) ∧ OwnAt w' B ao n cap (marks k n) ∧ Below B w w' := by
  rcases ho with ⟨rfl, rfl, rfl, rfl⟩ | ⟨g, t, n', cap', ys, rfl, hn', hc', hpos, rfl, ho⟩
  · refine (markIntS_any B none 0 0 [] k w hn hk0 hk1 ⟨rfl, .inl ⟨rfl, rfl⟩⟩).mono ?_
    rintro ee w1 ⟨h1, _, h3, _⟩
    exact ⟨h1, .inl ⟨rfl, rfl, rfl, rfl⟩, h3⟩
  · have hyl : ys.length = t + n := by have := ho.1; rw [ints_len] at this; omega
    have hgl := ho.lt g rfl
    obtain ⟨P, hP⟩ : ∃ P, P = ints (ys.take t) := ⟨_, rfl⟩
    have hPl : P.length = t := by rw [hP, ints_len, List.length_take]; omega
    have hst : w.ownsRow B 3 1 (.slice (some ⟨g, 0, none⟩) n' cap') n' (P ++ (ints (marks k 0) ++ ints (ys.drop t))) := by
      have : P ++ (ints (marks k 0) ++ ints (ys.drop t)) = ints ys := by rw [hP]; simp only [marks, ints, List.map_nil, List.nil_append, ← List.map_append, List.take_append_drop]
      rw [this]; exact ho
    have Hst := Lib.hid hst
    have HP := Lib.hid hP
    have HPl := Lib.hid hPl
    have Hn' := Lib.hid hn'
    have Hc' := Lib.hid hc'
    clear ho hst hP hPl hn' hc' hyl
    go_enter Tryd.func10, Tryd.ntmps10
    go_wp2_with fail
    go_loopw [1, 5] (fun i j wr => ∃ (c : Nat) (zs : List Value), c ≤ n ∧ i = .int .i64 (k + c) ∧ j = .int .i64 c ∧ wr.ownsRow B 3 1 (.slice (some ⟨g, 0, none⟩) n' cap') n' (P ++ (ints (marks k c) ++ zs)) ∧ Below B w wr) (fun _ j _ => n - (intOf j).toNat)
    case atStart => exact ⟨0, _, Nat.zero_le _, by simp, rfl, Hst.out, Below.refl _ _⟩
    case round =>
      obtain ⟨c, zs, hc, rfl, rfl, ho, hbel⟩ := hrel
      have hlen := ho.1
      rw [List.length_append, HPl.out, List.length_append, ints_len, marks_len] at hlen
      have hlen2 : c + zs.length = n := by have := Hn'.out; omega
      clear hlen
      by_cases hlt : c < n
      · obtain ⟨z, zs', rfl⟩ : ∃ z zs', zs = z :: zs' := by
          cases zs with
          | nil => simp at hlen2; omega
          | cons z zs' => exact ⟨z, zs', rfl⟩
        have hcell : wr.cell? ⟨g, t + c, none⟩ = some z := by
          have hl : (ints (marks k c)).length = c := by rw [ints_len, marks_len]
          have hj : t + c < n' * 1 := by have := Hn'.out; omega
          rw [ho.cellAt _ hj, List.getElem?_append_right (by have := HPl.out; omega), HPl.out, Nat.add_sub_cancel_left, List.getElem?_append_right (by omega), hl, Nat.sub_self]
          rfl
        have hf := ho.frozenAt (t + c)
        have Hs := Lib.hid (ho.stored (t + c) (.int .i64 (k + c))).1
        clear hlen2 ho
        go_wp2_with fail
        go_roundw
        case rel =>
          have h7 := Hs.out
          rw [mark_set_off P k t c z zs' HPl.out] at h7
          exact ⟨c + 1, zs', by omega, by go_num, by go_num, h7, hbel.setCell (p := ⟨g, t + c, none⟩) hgl.1 _⟩
        case measure => simp [intOf]; omega
      · obtain rfl : c = n := by omega
        have hz : zs = [] := by cases zs with
          | nil => rfl
          | cons z zs' => simp at hlen2
        subst hz
        clear hlen2
        go_wp2_with fail
        go_ret
        refine ⟨rfl, .inr ⟨g, t, n', cap', ys.take t ++ marks k c, rfl, Hn'.out, Hc'.out, hpos, ?_, ?_⟩, hbel⟩
        · have h8 : (ys.take t).length = t := by have := HPl.out; rw [HP.out, ints_len] at this; exact this
          exact (List.drop_left' h8).symm
        · rw [HP.out, List.append_nil] at ho
          simpa [ints] using ho

/-- What the program answers. -/
def CirPostO (w : World) (xs : List Int) (e : Ending) (w' : World) : Prop :=
  ∃ (ls : List Nat) (o : Bool) (a : Option Addr) (c : Nat), CirV xs ls o ∧ e = .returned (.tuple #[.slice a ls.length c, .bool o]) ∧ OwnAt w' w.heap.size a ls.length c (nz ls) ∧ ls.length ≤ 13 ∧ Below w.heap.size w w'

set_option maxHeartbeats 4000000 in
theorem implq_CircleOf (ao : Option Addr) (n c : Nat) (xs : List Int) (w : World) (h : Sl w ao n c xs) (hT : Tab w) :
    Calls Tryd.prog 8 #[.slice ao n c] w (CirPostO w xs) := by
  obtain ⟨i0, hi, hz0, hz1, hz2⟩ := info_parts info_int
  have k1 := Lib.hid (endlessOf_any ao n c xs w h hT)
  have HL := Lib.hid h.1
  have H := Lib.hid h
  have HT := Lib.hid hT
  have htl := hT.lt
  have he4 := eset_4 xs
  have hno : eset xs = 0 → CirV xs [] false := fun h0 => .inl ⟨rfl, rfl, fun ⟨p, hp⟩ => by
    have h1 := (eset_edl (edl_ok hp) p).2 hp
    rw [h0, Nat.zero_testBit] at h1; cases h1⟩
  have hR : eset xs ≠ 0 → RelOk xs := fun h0 => Classical.byContradiction (fun h1 => h0 (eset_no h1))
  have Hno := Lib.hid hno
  have HRn := Lib.hid hR
  obtain ⟨E, hE⟩ : ∃ E, E = eset xs := ⟨_, rfl⟩
  rw [← hE] at k1 he4
  have HE := Lib.hid hE
  clear h hT hno hR hE
  go_enter Tryd.func8, Tryd.ntmps8
  go_wp2_with fail
  refine (k1.out).mono ?_
  rintro ee w1 ⟨rfl, hb1⟩
  have Hb1 := Lib.hid hb1
  have hs1 := hb1.size
  clear hb1
  by_cases hE0 : E = 0
  · have hz : ((E : Int) == 0) = true := by simp [hE0]
    have HV := Lib.hid (Hno.out (by rw [← HE.out]; exact hE0))
    clear hE0
    go_wp2_with fail
    go_ret2
    exact ⟨[], false, none, 0, HV.out, rfl, OwnAt.none _ _, by simp, Hb1.out⟩
  · have hz : ((E : Int) == 0) = false := by simp [hE0]
    have hR := HRn.out (by rw [← HE.out]; exact hE0)
    have hn12 : n ≤ 12 := by have := hR.1.2; have := HL.out; omega
    have k2 := Lib.hid (leastOf_any E hE0 (by omega) w1 (HT.out.below Hb1.out htl))
    have hst : Wlk xs [] (Lib.ctz 64 E) := .start (ctz_lst he4 hE0 (fun j => by rw [HE.out]; exact eset_edl hR j))
    obtain ⟨a0, ha0⟩ : ∃ a0, a0 = Lib.ctz 64 E := ⟨_, rfl⟩
    rw [← ha0] at k2 hst
    have HR := Lib.hid hR
    have Hst := Lib.hid (show CrRel w xs 13 (.slice none 0 0) (.int .i64 a0) w1 from ⟨[], a0, 0, 0, none, hst, rfl, rfl, rfl, rfl, ⟨rfl, .inl ⟨rfl, rfl⟩⟩, Hb1.out⟩)
    clear hR hst ha0 hE0
    go_wp2_with fail
    refine (k2.out).mono ?_
    rintro ee wx ⟨rfl, rfl⟩
    go_wp2_with fail
    go_loopg [5, 6] 13 (fun gk v5 v6 wr => CrRel w xs gk v5 v6 wr)
    case atStart => exact Hst.out
    case round =>
      obtain ⟨ls, a, k, c5, a5, hW, hlk, hgk, rfl, rfl, ho, hb⟩ := hrel
      obtain ⟨gA, rfl⟩ : ∃ gA, gA = gk := ⟨_, rfl⟩
      obtain ⟨wA, rfl⟩ : ∃ wA : World, wA = wr := ⟨_, rfl⟩
      have hk12 : k ≤ 12 := by have := walk_short hW; have := HL.out; omega
      have k3 := Lib.hid (index_any a5 k c5 (nz ls) a wA (by omega) (Sl.of_own ho))
      have HW := Lib.hid hW
      have Hlk := Lib.hid hlk
      have Hgk := Lib.hid hgk
      have Ho := Lib.hid ho
      have Hb := Lib.hid hb
      have hsA := hb.size
      clear hW hlk hgk ho hb
      by_cases ha : a ∈ ls
      · obtain ⟨t, htl', htg, hti⟩ := nz_idx ha
        rw [hti] at k3
        have hkc : k ≤ c5 := (Sl.of_own Ho.out).2.1
        have htk : t < k := by have := Hlk.out; omega
        have h1 : (t : Int) ≤ (k : Int) := by omega
        have h2 : (t : Int) ≤ (c5 : Int) := by omega
        have h3 : ¬ (c5 : Int) = (t : Int) := by omega
        clear hti htl'
        go_wp2_with fail
        refine (k3.out).mono ?_
        rintro ee wx ⟨rfl, rfl⟩
        have hfin : CirPostO w xs (.returned (.tuple #[.slice (a5.map fun x => x.add t) (k - t) (c5 - t), .bool true])) wA := by
          have h9 := OwnAt.from Ho.out htk
          have hl : (ls.drop t).length = k - t := by rw [List.length_drop, Hlk.out]
          refine ⟨ls.drop t, true, _, c5 - t, .inr ⟨rfl, ls, a, t, HW.out, by have := Hlk.out; omega, htg, rfl⟩, by rw [hl], by rw [hl, nz_drop]; exact h9, by omega, Hb.out⟩
        have Hfin := Lib.hid hfin
        clear hfin
        go_wp2_with fail
        go_ret2
        exact Hfin.out
      · obtain ⟨z, hz'⟩ : ∃ z, z = idxI (nz ls) a := ⟨_, rfl⟩
        have hzn : ¬ 0 ≤ z := fun h9 => ha (nz_mem.1 ((idx_mem _ _).1 (by rw [← hz']; exact h9)))
        rw [← hz'] at k3
        have hE := HW.out.edl
        have han : a < n := by have := hE.1; have := HL.out; omega
        obtain ⟨bX, oX, rfl, hat⟩ := H.out.2.2.2 (by omega)
        have hbl : bX < w.heap.size := hat.lt (by intro h9; have := HL.out; rw [h9] at this; simp at this; omega)
        obtain ⟨R, hRr⟩ : ∃ R, R = rw' xs a := ⟨_, rfl⟩
        have hr4 := HR.out.row_lt a
        rw [← hRr] at hr4
        have hand := and_i64 R E (by omega) (by omega)
        have hne := step_ne hE
        have hD4 : rw' xs a &&& eset xs < 4096 := Nat.and_lt_two_pow (n := 12) _ (by rw [← HE.out]; omega)
        have hlst : Lst (fun j => (rw' xs a).testBit j = true ∧ Edl xs j) (Lib.ctz 64 (rw' xs a &&& eset xs)) := ctz_lst hD4 hne (fun j => step_edl HR.out a j)
        rw [← hRr, ← HE.out] at hne hD4 hlst
        obtain ⟨D, hD⟩ : ∃ D, D = R &&& E := ⟨_, rfl⟩
        rw [← hD] at hne hD4 hlst hand
        have k4 := Lib.hid (fun wx (hx : Tab wx) => leastOf_any D hne (by omega) wx hx)
        obtain ⟨b, hbb⟩ : ∃ b, b = Lib.ctz 64 D := ⟨_, rfl⟩
        rw [← hbb] at hlst k4
        rw [hRr] at hlst
        have HW2 := Lib.hid (Wlk.next HW.out ha hlst)
        have Hat := Lib.hid hat
        have HRr := Lib.hid hRr
        clear hz' ha hE hat hne hlst hD hbb hRr
        go_wp2_with fail
        refine (k3.out).mono ?_
        rintro ee wx ⟨rfl, rfl⟩
        go_wp2_with (first
          | (at_builtin; go_loud (refine wpList_append_own _ rfl (.tmp 22) (.tmp 24) 22 rfl w.heap.size 3 i0 (.int .i64 0) 1 8 Tryd.underlying22 hi hz0 hz1 hz2 rfl (by decide) _ k (ints (nz ls)) (by rfl) (Ho.out.alloc _) ⟨wA.heap.size, 0, none⟩ 1 1 [.int .i64 a] (by rfl) (by rfl) (cell_one_new _ _ _) (ints_oneCell _ [_]) (by unfold maxLen; omega) (by omega) (by simp; omega) ?_; intro v2' wB ho5 hg5 _; obtain ⟨g6, c6, rfl⟩ := Joins.ownsRow_form ho5 (by omega); have hbB : Below w.heap.size w wB := (Hb.out.alloc hsA _).grown hg5 (by simp; omega) (fun r e => (Ho.out.lt r e).1); have y0 := cr_row Hat.out HR.out HRr.out HL.out han hbB hbl)))
        have k5 := Lib.hid (k4.out wB (HT.out.below hbB htl))
        have hfin : CrRel w xs (gA - 1) (.slice (some ⟨g6, 0, none⟩) (k + 1) c6) (.int .i64 b) wB :=
          ⟨ls ++ [a], b, k + 1, c6, _, HW2.out, by rw [List.length_append, Hlk.out]; rfl, by have := Hgk.out; omega, rfl, rfl, by rw [nz_snoc]; simpa [ints] using ho5, hbB⟩
        have Hfin := Lib.hid hfin
        clear hfin ho5 hg5 hbB
        go_wp2_with fail
        refine (k5.out).mono ?_
        rintro ee wx ⟨rfl, rfl⟩
        go_wp2_with fail
        go_roundg (gA - 1)
        case measure => have := Hgk.out; omega
        case rel => exact Hfin.out

end Go.Proofs.YtphcgmelaghbdaaDoor
