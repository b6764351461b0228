/- CircleOf by the model, as far as the drawn laws need it (the answer may begin inside a block). -/
import Derived.Test.YtagdeifalkenhaaDoorRelCj
import Derived.Test.YtagdeifalkenhaaDoorRelF
namespace Go.Proofs.YtagdeifalkenhaaDoor
set_option maxRecDepth 100000
open Go.RowKit

def CsRel (w : World) (xs : List Int) (gk : Nat) (v5 v6 : Value) (wr : World) : Prop :=
  ∃ (ls : List Nat) (a k g5 c5 : Nat), Wlk xs ls a ∧ ls.length = k ∧ gk + k = 13 ∧ v5 = .int .i64 a ∧ v6 = .slice (some ⟨g5, 0, none⟩) k c5 ∧ wr.ownsRow w.heap.size 3 1 v6 k (ints (nz ls)) ∧ Below w.heap.size w wr

/-- The least endless successor among those from j on. -/
def NxI (xs : List Int) (a : Nat) (j : Nat) (z : Int) : Prop :=
  (z = -1 ∧ ∀ q, j ≤ q → q < xs.length → ¬ ((rw' xs a).testBit q = true ∧ Edl xs q)) ∨ (∃ b : Nat, z = b ∧ j ≤ b ∧ ((rw' xs a).testBit b = true ∧ Edl xs b) ∧ ∀ q, j ≤ q → q < b → ¬ ((rw' xs a).testBit q = true ∧ Edl xs q))
theorem NxI.start (xs : List Int) (a : Nat) : NxI xs a xs.length (-1) := .inl ⟨rfl, fun q h1 h2 => by omega⟩
theorem NxI.yes {xs : List Int} {a j : Nat} {z : Int} (_h : NxI xs a (j + 1) z) (hj : (rw' xs a).testBit j = true ∧ Edl xs j) : NxI xs a j (j : Nat) := .inr ⟨j, rfl, Nat.le_refl _, hj, fun q h1 h2 => by omega⟩
theorem NxI.no {xs : List Int} {a j : Nat} {z : Int} (h : NxI xs a (j + 1) z) (hj : ¬ ((rw' xs a).testBit j = true ∧ Edl xs j)) : NxI xs a j z := by
  rcases h with ⟨h1, h2⟩ | ⟨b, h1, h2, h3, h4⟩
  · exact .inl ⟨h1, fun q h5 h6 => by
      by_cases hq : q = j
      · rw [hq]; exact hj
      · exact h2 q (by omega) h6⟩
  · exact .inr ⟨b, h1, by omega, h3, fun q h5 h6 => by
      by_cases hq : q = j
      · rw [hq]; exact hj
      · exact h4 q (by omega) h6⟩
theorem NxI.done {xs : List Int} {a : Nat} {z : Int} (h : NxI xs a 0 z) (ha : Edl xs a) : ∃ b : Nat, z = b ∧ Lst (fun j => (rw' xs a).testBit j = true ∧ Edl xs j) b := by
  rcases h with ⟨_, h2⟩ | ⟨b, h1, _, h3, h4⟩
  · obtain ⟨q, h5, h6⟩ := edl_next ha
    exact absurd ⟨h5, h6⟩ (h2 q (Nat.zero_le _) h6.1)
  · exact ⟨b, h1, h3, fun q hq => h4 q (Nat.zero_le _) hq⟩

set_option maxHeartbeats 4000000 in
theorem spec_CircleOf (ao : Option Addr) (n c : Nat) (xs : List Int) (w : World) (h : Sl w ao n c xs) :
    Calls Tryd.prog 24 #[.slice ao n c] w (CirPost w xs) := by
  obtain ⟨i0, hi, hz0, hz1, hz2⟩ := info_parts info_int
  have k1 := Lib.hid (spec_RanksOf ao n c xs w h)
  unfold RkPost at k1
  have HL := Lib.hid h.1
  have H := Lib.hid h
  have hn9 : n ≤ 9223372036854775807 := by have h2 := h.2.1; have h3 := h.2.2.1; unfold maxLen at h3; omega
  have hrl := ranks_len xs
  have hlen : RelOk xs → (ranks xs).length = n := fun h9 => by rw [(ranks_spec h9).1, h.1]
  have hnil : ¬ RelOk xs → ranks xs = [] := fun h9 => ranks_no h9
  obtain ⟨r, hr⟩ : ∃ r, r = ranks xs := ⟨_, rfl⟩
  rw [← hr] at k1 hrl hlen hnil
  have Hr := Lib.hid hr
  have Hlen := Lib.hid hlen
  have Hnil := Lib.hid hnil
  clear h hr hlen hnil
  go_enter Tryd.func24, Tryd.ntmps24
  go_wp2_with fail
  refine (k1.out).mono ?_
  rintro ee w1 ⟨aR, cR, rfl, ho, hb1⟩
  have Hb1 := Lib.hid hb1
  have hs1 := hb1.size
  have R_1 := Lib.hid (Sl.of_own ho)
  have OR := Lib.hid ho
  clear ho hb1
  go_wp2_with fail
  go_loopw [5] (fun v5 wx => ∃ k : Nat, k ≤ r.length ∧ v5 = .int .i64 k ∧ Hid (∀ j, j < k → ¬ r.getD j 0 < 0) ∧ w1 = wx) (fun v5 _ => r.length - (intOf v5).toNat)
  case atStart => exact ⟨0, Nat.zero_le _, rfl, Lib.hid (fun j hj => by omega), rfl⟩
  case round =>
    obtain ⟨k, hk, rfl, HK, rfl⟩ := hrel
    by_cases hkl : k < r.length
    · obtain ⟨bR, oR, rfl, hat⟩ := R_1.out.2.2.2 (by omega)
      have y0 := hat k hkl
      have hR : RelOk xs := Classical.byContradiction (fun h9 => by rw [Hnil.out h9] at hkl; simp at hkl)
      have hrn := Hlen.out hR
      have Hat := Lib.hid hat
      have HR := Lib.hid hR
      have Hrn := Lib.hid hrn
      obtain ⟨f, hf⟩ : ∃ f, f = r.getD k 0 := ⟨_, rfl⟩
      rw [← hf] at y0
      have Hf := Lib.hid hf
      clear hat hR hrn hf
      by_cases hf0 : 0 ≤ f
      · have HK2 := Lib.hid (show ∀ j, j < k + 1 → ¬ r.getD j 0 < 0 from fun j hj => by
          by_cases hjk : j = k
          · rw [hjk, ← Hf.out]; omega
          · exact HK.out j (by omega))
        go_wp2_with fail
        go_roundw
        case rel => exact ⟨k + 1, by omega, by go_num, HK2, by trivial⟩
        case measure => exact idx_measure hkl
      · have hedl : Lst (Edl xs) k := by
          refine ⟨⟨by have := HL.out; have := Hrn.out; omega, by rw [← Hr.out, ← Hf.out]; omega⟩, fun j hj hp => ?_⟩
          have h9 := hp.2
          rw [← Hr.out] at h9
          exact HK.out j hj h9
        have Hst := Lib.hid (Wlk.start hedl)
        have hkr : ((k : Int) == (r.length : Int)) = false := by simp; omega
        have hn12 : n ≤ 12 := by have := HR.out.1.2; have := HL.out; omega
        obtain ⟨W, hW⟩ : ∃ W, W = w1.alloc (.cells #[] 3) := ⟨_, rfl⟩
        have hbW : Below w1.heap.size w1 W := by rw [hW]; exact (Below.refl _ _).alloc (Nat.le_refl _) _
        have hoW : W.ownsRow w1.heap.size 3 1 (.slice (some ⟨w1.heap.size, 0, none⟩) 0 0) 0 (ints []) := by rw [hW]; exact World.ownsRow_lit w1 #[] 0 (Nat.le_refl _) (by simp [maxLen]) rfl
        have Hcs := Lib.hid (show CsRel w1 xs 13 (.int .i64 k) (.slice (some ⟨w1.heap.size, 0, none⟩) 0 0) W from ⟨[], k, 0, _, 0, Hst.out, rfl, rfl, rfl, rfl, hoW, hbW⟩)
        have HWe := Lib.hid hW.symm
        clear hedl hW hbW hoW
        go_wp2_with fail
        rw [HWe.out]
        go_loopg [5, 6] 13 (fun gk v5 v6 wr => CsRel w1 xs gk v5 v6 wr)
        case atStart => exact Hcs.out
        case round =>
          obtain ⟨ls, a, m, g5, c5, hW, hlk, hgk, rfl, rfl, ho, hb⟩ := hrel
          obtain ⟨gA, rfl⟩ : ∃ gA, gA = gk := ⟨_, rfl⟩
          obtain ⟨wA, rfl⟩ : ∃ wA : World, wA = wr := ⟨_, rfl⟩
          have hm12 : m ≤ 12 := by have := walk_short hW; have := HL.out; omega
          have HW := Lib.hid hW
          have Hlk := Lib.hid hlk
          have Hgk := Lib.hid hgk
          have Ho := Lib.hid ho
          have Hb := Lib.hid hb
          have hsA := hb.size
          have hmc : m ≤ c5 := (Sl.of_own ho).2.1
          clear hW hlk hgk ho hb
          go_wp2_with fail
          go_loopw [7] (fun v7 wx => ∃ t : Nat, t ≤ m ∧ v7 = .int .i64 t ∧ Hid (∀ j, j < t → (nz ls).getD j 0 ≠ a) ∧ wA = wx) (fun v7 _ => m - (intOf v7).toNat)
          case atStart => exact ⟨0, Nat.zero_le _, rfl, Lib.hid (fun j hj => by omega), rfl⟩
          case round =>
            obtain ⟨t, ht, rfl, HT, rfl⟩ := hrel
            by_cases htm : t < m
            · have y1 : wA.cell? ⟨g5, t, none⟩ = some (.int .i64 ((nz ls).getD t 0)) := by
                rw [Ho.out.cellAt t (by omega), ints_get (nz ls) t (by rw [nz_len, Hlk.out]; exact htm)]
              obtain ⟨x, hx⟩ : ∃ x, x = (nz ls).getD t 0 := ⟨_, rfl⟩
              rw [← hx] at y1
              have Hx := Lib.hid hx
              clear hx
              by_cases hxa : x = (a : Int)
              · have hxe : (x == (a : Int)) = true := by simp [hxa]
                have htg : ls[t]? = some a := by
                  have h9 := Hx.out
                  rw [hxa] at h9
                  have hl : t < ls.length := by rw [Hlk.out]; exact htm
                  simp [nz, List.getD, hl] at h9
                  rw [List.getElem?_eq_getElem hl]
                  exact congrArg some (Int.ofNat.inj h9).symm
                have h1 : (t : Int) ≤ (m : Int) := by omega
                have h2 : (t : Int) ≤ (c5 : Int) := by omega
                have h3 : ¬ (c5 : Int) = (t : Int) := by omega
                have hfin : CirPost w xs (.returned (.tuple #[.slice (some ⟨g5, t, none⟩) (m - t) (c5 - t), .bool true])) wA := by
                  have h9 : Sl wA (some ⟨g5, t, none⟩) (m - t) (c5 - t) ((nz ls).drop t) := by have h8 := (Sl.of_own Ho.out).from htm; simpa [Addr.add_lit] using h8
                  have hl : (ls.drop t).length = m - t := by rw [List.length_drop, Hlk.out]
                  refine ⟨ls.drop t, true, _, c5 - t, .inr ⟨rfl, ls, a, t, HW.out, by have := Hlk.out; omega, htg, rfl⟩, by rw [hl], by rw [hl, nz_drop]; exact h9, by omega, Hb1.out.trans (Hb.out.mono hs1)⟩
                have Hfin := Lib.hid hfin
                clear hfin htg hxa
                go_wp2_with fail
                go_ret2
                exact Hfin.out
              · have hxe : (x == (a : Int)) = false := by simp [hxa]
                have HT2 := Lib.hid (show ∀ j, j < t + 1 → (nz ls).getD j 0 ≠ a from fun j hj => by
                  by_cases hjt : j = t
                  · rw [hjt, ← Hx.out]; exact hxa
                  · exact HT.out j (by omega))
                clear hxa
                go_wp2_with fail
                go_roundw
                case rel => exact ⟨t + 1, by omega, by go_num, HT2, by trivial⟩
                case measure => exact idx_measure htm
            · obtain rfl : t = m := by omega
              have ha : a ∉ ls := fun h9 => by
                obtain ⟨q, h1, h2⟩ := List.mem_iff_getElem.1 h9
                refine HT.out q (by rw [← Hlk.out]; exact h1) ?_
                simp [nz, List.getD, h1, h2]
              have hE := HW.out.edl
              have han : a < n := by have := hE.1; have := HL.out; omega
              obtain ⟨bX, oX, rfl, hat⟩ := H.out.2.2.2 (by omega)
              have hbl : bX < w.heap.size := hat.lt (by intro h9; have := HL.out; rw [h9] at this; simp at this; omega)
              have HAx := Lib.hid hat
              have HEa := Lib.hid hE
              have Hna := Lib.hid ha
              clear ha hE hat HT
              go_wp2_with (first
                | (at_builtin; go_loud (refine wpList_append_own _ rfl (.tmp 46) (.tmp 48) 23 rfl w1.heap.size 3 i0 (.int .i64 0) 1 8 Tryd.underlying23 hi hz0 hz1 hz2 rfl (by decide) _ t (ints (nz ls)) (by rfl) (Ho.out.alloc _) ⟨wA.heap.size, 0, none⟩ 1 1 [.int .i64 a] (by rfl) (by rfl) (cell_one_new _ _ _) (ints_oneCell _ [_]) (by unfold maxLen; omega) (by omega) (by simp; omega) ?_; intro v2' wB ho5 hg5 _; obtain ⟨g6, c6, rfl⟩ := Joins.ownsRow_form ho5 (by omega); have hbB : Below w1.heap.size w1 wB := (Hb.out.alloc hsA _).grown hg5 (by simp; omega) (fun r e => (Ho.out.lt r e).1))))
              have hlB := HAx.out.below (Hb1.out.trans (hbB.mono hs1)) hbl
              have hrB := Hat.out.below hbB (Hat.out.lt (by intro h9; rw [h9] at hkl; simp at hkl))
              have HlB := Lib.hid hlB
              have HrB := Lib.hid hrB
              have HbB := Lib.hid hbB
              have Ho5 := Lib.hid ho5
              clear ho5 hg5 hbB hlB hrB
              go_loopw [8, 9] (fun v8 v9 wr => ∃ (j : Nat) (z zz : Int), v9 = .int .i64 zz ∧ zz = (j : Int) - 1 ∧ j ≤ n ∧ v8 = .int .i64 z ∧ Hid (NxI xs a j z) ∧ wB = wr) (fun _ v9 _ => (intOf v9 + 1).toNat)
              case atStart => exact ⟨n, -1, _, rfl, rfl, Nat.le_refl _, rfl, Lib.hid (by have h9 := NxI.start xs a; rw [HL.out] at h9; exact h9), rfl⟩
              case round =>
                obtain ⟨j, z, zz, rfl, hzz, hjn, rfl, HN, rfl⟩ := hrel
                by_cases hj : 0 < j
                · obtain ⟨j1, rfl⟩ : ∃ j1, j = j1 + 1 := ⟨j - 1, by omega⟩
                  obtain rfl : zz = (j1 : Int) := by omega
                  have hz0' : (0 : Int) ≤ (j1 : Int) := by omega
                  have hj12 : j1 ≤ 60 := by omega
                  obtain ⟨R, hRr⟩ : ∃ R, R = rw' xs a := ⟨_, rfl⟩
                  have y0 : wB.cell? ⟨bX, oX + a, none⟩ = some (.int .i64 (R : Int)) := by
                    rw [HlB.out a (by have := HL.out; omega), HR.out.row_int (by have := HL.out; omega), hRr]
                  obtain ⟨fj, hfj⟩ : ∃ fj, fj = r.getD j1 0 := ⟨_, rfl⟩
                  have y1 : wB.cell? ⟨bR, oR + j1, none⟩ = some (.int .i64 fj) := by rw [HrB.out j1 (by have := Hrn.out; omega), hfj]
                  have hjr : (j1 : Int) < (r.length : Int) := by have := Hrn.out; omega
                  have hed : Edl xs j1 ↔ fj < 0 := by
                    rw [hfj, Hr.out]
                    exact ⟨fun h9 => h9.2, fun h9 => ⟨by have := HL.out; omega, h9⟩⟩
                  have Hed := Lib.hid hed
                  have HRr := Lib.hid hRr
                  have k6 := Lib.hid (l7Bit_any R j1 hj12 wB)
                  clear hRr hfj hed hzz
                  rcases bit_tf R j1 with hB | hB
                  · rw [bitI_1 hB] at k6
                    by_cases hf9 : fj < 0
                    · have HN2 := Lib.hid (HN.out.yes ⟨by rw [← HRr.out]; exact hB, Hed.out.2 hf9⟩)
                      clear hB
                      go_wp2_with fail
                      refine (k6.out).mono ?_
                      rintro ee wx ⟨rfl, rfl⟩
                      go_wp2_with fail
                      go_roundw
                      case rel => exact ⟨j1, j1, _, rfl, rfl, by omega, rfl, HN2, by trivial⟩
                      case measure => simp [intOf] <;> omega
                    · have HN2 := Lib.hid (HN.out.no (fun h9 => hf9 (Hed.out.1 h9.2)))
                      have hf9' : decide (fj < 0) = false := by simpa using hf9
                      clear hB
                      go_wp2_with fail
                      refine (k6.out).mono ?_
                      rintro ee wx ⟨rfl, rfl⟩
                      go_wp2_with fail
                      go_roundw
                      case rel => exact ⟨j1, z, _, rfl, rfl, by omega, rfl, HN2, by trivial⟩
                      case measure => simp [intOf] <;> omega
                  · rw [bitI_0 hB] at k6
                    have HN2 := Lib.hid (HN.out.no (fun h9 => by rw [← HRr.out, hB] at h9; cases h9.1))
                    clear hB
                    go_wp2_with fail
                    refine (k6.out).mono ?_
                    rintro ee wx ⟨rfl, rfl⟩
                    go_wp2_with fail
                    go_roundw
                    case rel => exact ⟨j1, z, _, rfl, rfl, by omega, rfl, HN2, by trivial⟩
                    case measure => simp [intOf] <;> omega
                · obtain rfl : j = 0 := by omega
                  have hzn : ¬ (0 ≤ zz) := by omega
                  obtain ⟨b, rfl, hlst⟩ := HN.out.done HEa.out
                  have HW2 := Lib.hid (Wlk.next HW.out Hna.out hlst)
                  have hfin : CsRel w1 xs (gA - 1) (.int .i64 b) (.slice (some ⟨g6, 0, none⟩) (t + 1) c6) wB :=
                    ⟨ls ++ [a], b, t + 1, g6, c6, HW2.out, by rw [List.length_append, Hlk.out]; rfl, by have := Hgk.out; omega, rfl, rfl, by rw [nz_snoc]; simpa [ints] using Ho5.out, HbB.out⟩
                  have Hfin := Lib.hid hfin
                  clear hfin hlst HN
                  go_wp2_with fail
                  go_roundg (gA - 1)
                  case measure => have := Hgk.out; omega
                  case rel => exact Hfin.out
    · obtain rfl : k = r.length := by omega
      have hV : CirV xs [] false := .inl ⟨rfl, rfl, fun ⟨p, hp⟩ => by
        have hR := edl_ok hp
        have h1 := hp.2
        have h2 := Hlen.out hR
        rw [← Hr.out] at h1
        exact HK.out p (by have := hp.1; have := HL.out; omega) h1⟩
      have HV := Lib.hid hV
      have hbb : Below w.heap.size w (w1.alloc (.cells #[] 3)) := Hb1.out.alloc hs1 _
      have Hbb := Lib.hid hbb
      clear hV hbb
      go_wp2_with fail
      go_ret2
      exact ⟨[], false, _, 0, HV.out, rfl, ⟨rfl, Nat.le_refl _, Nat.zero_le _, fun h => by simp at h⟩, by simp, Hbb.out⟩

end Go.Proofs.YtagdeifalkenhaaDoor
