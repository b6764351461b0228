/- CircleOf by the program, as far as the drawn laws need it (the answer may begin inside a block). -/
import Derived.Test.YtagdeifalkenhaaDoorRelCi
import Derived.Test.YtagdeifalkenhaaDoorRelH
import Derived.Test.YtagdeifalkenhaaDoorMakeK
namespace Go.Proofs.YtagdeifalkenhaaDoor
set_option maxRecDepth 100000
open Go.RowKit

theorem ctz_least {s j : Nat} (h : s < 4096) (h0 : s ≠ 0) (hj : s.testBit j = true) : Lib.ctz 64 s ≤ j := by
  have h1 := (mem_pts h).2 hj
  have h2 : (pts s).Pairwise (· < ·) := List.Pairwise.filter _ List.pairwise_lt_range
  rw [pts_all s h h0] at h1 h2
  rcases List.mem_cons.1 h1 with h3 | h3
  · omega
  · have := (List.pairwise_cons.1 h2).1 j h3; omega
theorem ctz_lst {s : Nat} (h : s < 4096) (h0 : s ≠ 0) {P : Nat → Prop} (hP : ∀ j, s.testBit j = true ↔ P j) : Lst P (Lib.ctz 64 s) :=
  ⟨(hP _).1 (ctz_bit h h0), fun j hj hp => by have := ctz_least h h0 ((hP j).2 hp); omega⟩
theorem eset_edl {xs : List Int} (h : RelOk xs) (j : Nat) : (eset xs).testBit j = true ↔ Edl xs j := eset_bit h j
theorem step_edl {xs : List Int} (h : RelOk xs) (a j : Nat) : (rw' xs a &&& eset xs).testBit j = true ↔ (rw' xs a).testBit j = true ∧ Edl xs j := by
  rw [Nat.testBit_and, Bool.and_eq_true, eset_edl h]
theorem step_ne {xs : List Int} {a : Nat} (h : Edl xs a) : rw' xs a &&& eset xs ≠ 0 := by
  obtain ⟨q, hq⟩ := edl_next h
  have h1 := (step_edl (edl_ok h) a q).2 hq
  exact fun h0 => by rw [h0, Nat.zero_testBit] at h1; cases h1

def nz (ls : List Nat) : List Int := ls.map Int.ofNat
theorem nz_len (ls : List Nat) : (nz ls).length = ls.length := by simp [nz]
theorem nz_drop (ls : List Nat) (t : Nat) : nz (ls.drop t) = (nz ls).drop t := by simp [nz, List.map_drop]
theorem nz_snoc (ls : List Nat) (a : Nat) : nz (ls ++ [a]) = nz ls ++ [(a : Int)] := by simp [nz]
theorem nz_mem {ls : List Nat} {a : Nat} : (a : Int) ∈ nz ls ↔ a ∈ ls := by
  simp only [nz, List.mem_map]
  exact ⟨fun ⟨b, h1, h2⟩ => by have : b = a := Int.ofNat.inj h2; exact this ▸ h1, fun h => ⟨a, h, rfl⟩⟩
/-- Where it comes again. -/
theorem nz_idx {ls : List Nat} {a : Nat} (h : a ∈ ls) : ∃ t : Nat, t < ls.length ∧ ls[t]? = some a ∧ idxI (nz ls) a = t := by
  have h1 : ∃ t, ls[t]? = some a := List.mem_iff_getElem?.1 h
  obtain ⟨t0, ht0⟩ := h1
  obtain ⟨t, _, h2, h3⟩ := lst_ex (P := fun t => ls[t]? = some a) t0 ht0
  have htl : t < ls.length := (List.getElem?_eq_some_iff.1 h2).1
  refine ⟨t, htl, h2, idx_at (by rw [nz_len]; exact htl) ?_ (fun j hj he => h3 j hj ?_)⟩
  · simp [nz, List.getD, h2]
  · have hjl : j < ls.length := by omega
    simp [nz, List.getD, hjl] at he
    show ls[j]? = some a
    rw [List.getElem?_eq_getElem hjl]
    exact congrArg some (Int.ofNat.inj he)
theorem nodup_le : ∀ (n : Nat) (ls : List Nat), ls.Nodup → (∀ p ∈ ls, p < n) → ls.length ≤ n
  | 0, ls, _, h => by
    cases ls with
    | nil => exact Nat.le_refl _
    | cons x t => have := h x List.mem_cons_self; omega
  | n + 1, ls, hd, h => by
    have h1 := nodup_le n (ls.erase n) (hd.erase n) (fun p hp => by
      have h2 := (hd.mem_erase_iff).1 hp
      have := h p h2.2
      omega)
    have h3 := List.length_erase (a := n) (l := ls)
    split at h3 <;> omega
theorem walk_short {xs : List Int} {ls : List Nat} {a : Nat} (h : Wlk xs ls a) : ls.length ≤ xs.length := nodup_le _ ls h.nodup (fun p hp => (h.all p hp).1)

theorem cr_row {w wB : World} {b off n a R : Nat} {xs : List Int} (hat : At w b off xs) (hR : RelOk xs) (hr : R = rw' xs a) (hl : xs.length = n) (han : a < n) (hb : Below w.heap.size w wB) (hbl : b < w.heap.size) : wB.cell? ⟨b, off + a, none⟩ = some (.int .i64 (R : Int)) := by
  rw [(hat.below hb hbl) a (by omega), hR.row_int (by omega), hr]
theorem Sl.from {w : World} {ao : Option Addr} {k c t : Nat} {xs : List Int} (h : Sl w ao k c xs) (ht : t < k) : Sl w (ao.map fun x => x.add t) (k - t) (c - t) (xs.drop t) := by
  obtain ⟨h1, h2, h3, h4⟩ := h
  obtain ⟨b, off, rfl, hat⟩ := h4 (by omega)
  exact ⟨by rw [List.length_drop]; omega, by omega, by omega, fun _ => ⟨b, off + t, by simp [Addr.add_lit], hat.drop t⟩⟩

/-- What a search for a circle answers, in memory that may begin inside a block. -/
def CirPost (w : World) (xs : List Int) (e : Ending) (w' : World) : Prop :=
  ∃ (ls : List Nat) (o : Bool) (a : Option Addr) (c : Nat), CirV xs ls o ∧ e = .returned (.tuple #[.slice a ls.length c, .bool o]) ∧ Sl w' a ls.length c (nz ls) ∧ ls.length ≤ 13 ∧ Below w.heap.size w w'

def CrRel (w : World) (xs : List Int) (gk : Nat) (v5 v6 : Value) (wr : World) : Prop :=
  ∃ (ls : List Nat) (a k c5 : Nat) (a5 : Option Addr), Wlk xs ls a ∧ ls.length = k ∧ gk + k = 13 ∧ v6 = .int .i64 a ∧ v5 = .slice a5 k c5 ∧ wr.ownsRow w.heap.size 3 1 v5 k (ints (nz ls)) ∧ Below w.heap.size w wr

set_option maxHeartbeats 4000000 in
theorem impl_CircleOf (ao : Option Addr) (n c : Nat) (xs : List Int) (w : World) (h : Sl w ao n c xs) (hT : Tab w) :
    Calls Tryd.prog 23 #[.slice ao n c] w (CirPost w xs) := by
  obtain ⟨i0, hi, hz0, hz1, hz2⟩ := info_parts info_int
  have k1 := Lib.hid (endlessOf_any ao n c xs w h hT)
  have HL := Lib.hid h.1
  have H := Lib.hid h
  have HT := Lib.hid hT
  have htl := hT.lt
  have he4 := eset_4 xs
  have hno : eset xs = 0 → CirV xs [] false := fun h0 => .inl ⟨rfl, rfl, fun ⟨p, hp⟩ => by
    have h1 := (eset_edl (edl_ok hp) p).2 hp
    rw [h0, Nat.zero_testBit] at h1; cases h1⟩
  have hR : eset xs ≠ 0 → RelOk xs := fun h0 => Classical.byContradiction (fun h1 => h0 (eset_no h1))
  have Hno := Lib.hid hno
  have HRn := Lib.hid hR
  obtain ⟨E, hE⟩ : ∃ E, E = eset xs := ⟨_, rfl⟩
  rw [← hE] at k1 he4
  have HE := Lib.hid hE
  clear h hT hno hR hE
  go_enter Tryd.func23, Tryd.ntmps23
  go_wp2_with fail
  refine (k1.out).mono ?_
  rintro ee w1 ⟨rfl, hb1⟩
  have Hb1 := Lib.hid hb1
  have hs1 := hb1.size
  clear hb1
  by_cases hE0 : E = 0
  · have hz : ((E : Int) == 0) = true := by simp [hE0]
    have HV := Lib.hid (Hno.out (by rw [← HE.out]; exact hE0))
    clear hE0
    go_wp2_with fail
    go_ret2
    exact ⟨[], false, none, 0, HV.out, rfl, ⟨rfl, Nat.le_refl _, Nat.zero_le _, fun h => by simp at h⟩, by simp, Hb1.out⟩
  · have hz : ((E : Int) == 0) = false := by simp [hE0]
    have hR := HRn.out (by rw [← HE.out]; exact hE0)
    have hn12 : n ≤ 12 := by have := hR.1.2; have := HL.out; omega
    have k2 := Lib.hid (leastOf_any E hE0 (by omega) w1 (HT.out.below Hb1.out htl))
    have hst : Wlk xs [] (Lib.ctz 64 E) := .start (ctz_lst he4 hE0 (fun j => by rw [HE.out]; exact eset_edl hR j))
    obtain ⟨a0, ha0⟩ : ∃ a0, a0 = Lib.ctz 64 E := ⟨_, rfl⟩
    rw [← ha0] at k2 hst
    have HR := Lib.hid hR
    have Hst := Lib.hid (show CrRel w xs 13 (.slice none 0 0) (.int .i64 a0) w1 from ⟨[], a0, 0, 0, none, hst, rfl, rfl, rfl, rfl, ⟨rfl, .inl ⟨rfl, rfl⟩⟩, Hb1.out⟩)
    clear hR hst ha0 hE0
    go_wp2_with fail
    refine (k2.out).mono ?_
    rintro ee wx ⟨rfl, rfl⟩
    go_wp2_with fail
    go_loopg [5, 6] 13 (fun gk v5 v6 wr => CrRel w xs gk v5 v6 wr)
    case atStart => exact Hst.out
    case round =>
      obtain ⟨ls, a, k, c5, a5, hW, hlk, hgk, rfl, rfl, ho, hb⟩ := hrel
      obtain ⟨gA, rfl⟩ : ∃ gA, gA = gk := ⟨_, rfl⟩
      obtain ⟨wA, rfl⟩ : ∃ wA : World, wA = wr := ⟨_, rfl⟩
      have hk12 : k ≤ 12 := by have := walk_short hW; have := HL.out; omega
      have k3 := Lib.hid (index_any a5 k c5 (nz ls) a wA (by omega) (Sl.of_own ho))
      have HW := Lib.hid hW
      have Hlk := Lib.hid hlk
      have Hgk := Lib.hid hgk
      have Ho := Lib.hid ho
      have Hb := Lib.hid hb
      have hsA := hb.size
      clear hW hlk hgk ho hb
      by_cases ha : a ∈ ls
      · obtain ⟨t, htl', htg, hti⟩ := nz_idx ha
        rw [hti] at k3
        have hkc : k ≤ c5 := (Sl.of_own Ho.out).2.1
        have htk : t < k := by have := Hlk.out; omega
        have h1 : (t : Int) ≤ (k : Int) := by omega
        have h2 : (t : Int) ≤ (c5 : Int) := by omega
        have h3 : ¬ (c5 : Int) = (t : Int) := by omega
        clear hti htl'
        go_wp2_with fail
        refine (k3.out).mono ?_
        rintro ee wx ⟨rfl, rfl⟩
        have hfin : CirPost w xs (.returned (.tuple #[.slice (a5.map fun x => x.add t) (k - t) (c5 - t), .bool true])) wA := by
          have h9 := (Sl.of_own Ho.out).from htk
          have hl : (ls.drop t).length = k - t := by rw [List.length_drop, Hlk.out]
          refine ⟨ls.drop t, true, _, c5 - t, .inr ⟨rfl, ls, a, t, HW.out, by have := Hlk.out; omega, htg, rfl⟩, by rw [hl], by rw [hl, nz_drop]; exact h9, by omega, Hb.out⟩
        have Hfin := Lib.hid hfin
        clear hfin
        go_wp2_with fail
        go_ret2
        exact Hfin.out
      · obtain ⟨z, hz'⟩ : ∃ z, z = idxI (nz ls) a := ⟨_, rfl⟩
        have hzn : ¬ 0 ≤ z := fun h9 => ha (nz_mem.1 ((idx_mem _ _).1 (by rw [← hz']; exact h9)))
        rw [← hz'] at k3
        have hE := HW.out.edl
        have han : a < n := by have := hE.1; have := HL.out; omega
        obtain ⟨bX, oX, rfl, hat⟩ := H.out.2.2.2 (by omega)
        have hbl : bX < w.heap.size := hat.lt (by intro h9; have := HL.out; rw [h9] at this; simp at this; omega)
        obtain ⟨R, hRr⟩ : ∃ R, R = rw' xs a := ⟨_, rfl⟩
        have hr4 := HR.out.row_lt a
        rw [← hRr] at hr4
        have hand := and_i64 R E (by omega) (by omega)
        have hne := step_ne hE
        have hD4 : rw' xs a &&& eset xs < 4096 := Nat.and_lt_two_pow (n := 12) _ (by rw [← HE.out]; omega)
        have hlst : Lst (fun j => (rw' xs a).testBit j = true ∧ Edl xs j) (Lib.ctz 64 (rw' xs a &&& eset xs)) := ctz_lst hD4 hne (fun j => step_edl HR.out a j)
        rw [← hRr, ← HE.out] at hne hD4 hlst
        obtain ⟨D, hD⟩ : ∃ D, D = R &&& E := ⟨_, rfl⟩
        rw [← hD] at hne hD4 hlst hand
        have k4 := Lib.hid (fun wx (hx : Tab wx) => leastOf_any D hne (by omega) wx hx)
        obtain ⟨b, hbb⟩ : ∃ b, b = Lib.ctz 64 D := ⟨_, rfl⟩
        rw [← hbb] at hlst k4
        rw [hRr] at hlst
        have HW2 := Lib.hid (Wlk.next HW.out ha hlst)
        have Hat := Lib.hid hat
        have HRr := Lib.hid hRr
        clear hz' ha hE hat hne hlst hD hbb hRr
        go_wp2_with fail
        refine (k3.out).mono ?_
        rintro ee wx ⟨rfl, rfl⟩
        go_wp2_with (first
          | (at_builtin; go_loud (refine wpList_append_own _ rfl (.tmp 22) (.tmp 24) 23 rfl w.heap.size 3 i0 (.int .i64 0) 1 8 Tryd.underlying23 hi hz0 hz1 hz2 rfl (by decide) _ k (ints (nz ls)) (by rfl) (Ho.out.alloc _) ⟨wA.heap.size, 0, none⟩ 1 1 [.int .i64 a] (by rfl) (by rfl) (cell_one_new _ _ _) (ints_oneCell _ [_]) (by unfold maxLen; omega) (by omega) (by simp; omega) ?_; intro v2' wB ho5 hg5 _; obtain ⟨g6, c6, rfl⟩ := Joins.ownsRow_form ho5 (by omega); have hbB : Below w.heap.size w wB := (Hb.out.alloc hsA _).grown hg5 (by simp; omega) (fun r e => (Ho.out.lt r e).1); have y0 := cr_row Hat.out HR.out HRr.out HL.out han hbB hbl)))
        have k5 := Lib.hid (k4.out wB (HT.out.below hbB htl))
        have hfin : CrRel w xs (gA - 1) (.slice (some ⟨g6, 0, none⟩) (k + 1) c6) (.int .i64 b) wB :=
          ⟨ls ++ [a], b, k + 1, c6, _, HW2.out, by rw [List.length_append, Hlk.out]; rfl, by have := Hgk.out; omega, rfl, rfl, by rw [nz_snoc]; simpa [ints] using ho5, hbB⟩
        have Hfin := Lib.hid hfin
        clear hfin ho5 hg5 hbB
        go_wp2_with fail
        refine (k5.out).mono ?_
        rintro ee wx ⟨rfl, rfl⟩
        go_wp2_with fail
        go_roundg (gA - 1)
        case measure => have := Hgk.out; omega
        case rel => exact Hfin.out

end Go.Proofs.YtagdeifalkenhaaDoor
