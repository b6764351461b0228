/- Relations: RanksOf of the model. -/
import Derived.Test.YtagdeifalkenhaaDoorRelB
import Derived.Test.YtagdeifalkenhaaDoorIdx
import Derived.Maps.AppendAt
import Derived.OwnWalk
import Derived.Deep.AppendLies
namespace Go.Proofs.YtagdeifalkenhaaDoor
set_option maxRecDepth 100000
open Go.RowKit

theorem ints_set (xs : List Int) (k : Nat) (v : Int) : (ints xs).set k (.int .i64 v) = ints (xs.set k v) := by
  rw [ints, ints, List.map_set]
theorem Upd.bnd {xs o : List Int} {k j n : Nat} {v : Int} (h : Upd xs o k j v) (ho : ∀ p, o.getD p 0 < (n : Int)) (hn : 0 ≤ n) : -1 ≤ v ∧ v ≤ n := by
  rcases h with ⟨h1, _⟩ | ⟨h1, _, h3⟩
  · omega
  · rcases h3 with h3 | ⟨q, _, _, h3⟩
    · omega
    · have := ho q; omega
theorem MdI.bnd {xs o : List Int} {i k : Nat} (hR : RelOk xs) (h : MdI xs i k o) (p : Nat) : -1 ≤ o.getD p 0 ∧ o.getD p 0 < (xs.length : Int) := by
  rcases Nat.lt_or_ge p xs.length with hp | hp
  · rcases h.2.1 p hp with h1 | ⟨h1, h2⟩
    · omega
    · have := (ranks_spec hR).2.2 p hp; omega
  · have h1 := hR.1.1
    rw [List.getD, List.getElem?_eq_none (by rw [h.1]; exact hp)]
    simp; omega

/-- A row in new memory. -/
def RkPost (w : World) (r : List Int) (e : Ending) (w' : World) : Prop :=
  ∃ a c, e = .returned (.slice a r.length c) ∧ w'.ownsRow w.heap.size 3 1 (.slice a r.length c) r.length (ints r) ∧ Below w.heap.size w w'
theorem ranks_len (xs : List Int) : (ranks xs).length ≤ 1000 := by
  rcases Classical.em (RelOk xs) with h | h
  · have := (ranks_spec h).1; have := h.1.2; omega
  · rw [ranks_no h]; decide

def RkApp (w : World) (n : Nat) (k : Nat) (v3 : Value) (wr : World) : Prop :=
  ∃ (g c : Nat), v3 = .slice (some ⟨g, 0, none⟩) k c ∧ wr.ownsRow w.heap.size 3 1 v3 k (ints (List.replicate k (-1))) ∧ Below w.heap.size w wr ∧ k ≤ n

set_option maxHeartbeats 8000000 in
theorem spec_RanksOf (ao : Option Addr) (n c : Nat) (xs : List Int) (w : World) (h : Sl w ao n c xs) :
    Calls Tryd.prog 40 #[.slice ao n c] w (RkPost w (ranks xs)) := by
  obtain ⟨i0, hi, hz0, hz1, hz2⟩ := info_parts info_int
  have HL := Lib.hid h.1
  have H := Lib.hid h
  obtain ⟨r, hr⟩ : ∃ r, r = ranks xs := ⟨_, rfl⟩
  have HNo : Hid (¬ RelOk xs → r = []) := fun h9 => hr.trans (ranks_no h9)
  have HYes : Hid (∀ o, RelOk xs → MdI xs xs.length 0 o → r = o) := fun o h1 h2 => by rw [hr, ← h2.done h1]
  rw [← hr]
  obtain ⟨W, hW⟩ : ∃ W, W = w.alloc (.cells #[] 3) := ⟨_, rfl⟩
  have hbW : Below w.heap.size w W := by rw [hW]; exact (Below.refl _ _).alloc (Nat.le_refl _) _
  have hoW : W.ownsRow w.heap.size 3 1 (.slice (some ⟨w.heap.size, 0, none⟩) 0 0) 0 (ints []) := by rw [hW]; exact World.ownsRow_lit w #[] 0 (Nat.le_refl _) (by simp [maxLen]) rfl
  have k1 := Lib.hid (spec_RelValid ao n c xs W (h.below hbW))
  have HbW := Lib.hid hbW
  have HoW := Lib.hid hoW
  have HWe := Lib.hid hW.symm
  have hws := hbW.size
  clear h hr hbW hoW hW
  rcases rel_tf xs with h1 | h1
  · rw [h1] at k1
    have hR := relB_true.1 h1
    have hn12 := hR.1
    rw [HL.out] at hn12
    obtain ⟨b, off, rfl, hat⟩ := H.out.2.2.2 (by omega)
    have hbl : b < w.heap.size := hat.lt (by intro h9; have := HL.out; rw [h9] at this; simp at this; omega)
    have HA := Lib.hid hat
    have HR := Lib.hid hR
    clear h1 hR hat
    go_enter Tryd.func40, Tryd.ntmps40
    go_wp2_with fail
    rw [HWe.out]
    refine (k1.out).mono ?_
    rintro ee w1 ⟨rfl, hb1⟩
    have hst : RkApp w n 0 (.slice (some ⟨w.heap.size, 0, none⟩) 0 0) w1 := ⟨_, 0, rfl, ownsRow_below' HoW.out hb1, HbW.out.trans (hb1.mono hws), Nat.zero_le _⟩
    have Hst := Lib.hid hst
    clear hb1 hst
    go_wp2_with fail
    go_loopw [3, 4] (fun v3 v4 wr => ∃ k : Nat, v4 = .int .i64 k ∧ RkApp w n k v3 wr) (fun _ v4 _ => n - (intOf v4).toNat)
    case atStart => exact ⟨0, rfl, Hst.out⟩
    case round =>
      obtain ⟨k, rfl, g3, c3, rfl, ho3, hb3, hk⟩ := hrel
      obtain ⟨wB, rfl⟩ : ∃ wB : World, wB = wr := ⟨_, rfl⟩
      have Ho3 := Lib.hid ho3
      have Hb3 := Lib.hid hb3
      have hwB := hb3.size
      clear ho3 hb3
      by_cases hlt : k < n
      · go_wp2_with (first
          | (at_builtin; refine wpList_append_own _ rfl (.tmp 20) (.tmp 21) 23 rfl w.heap.size 3 i0 (.int .i64 0) 1 8 Tryd.underlying23 hi hz0 hz1 hz2 rfl (by decide) _ k (ints (List.replicate k (-1))) rfl (Ho3.out.alloc _) ⟨wB.heap.size, 0, none⟩ 1 1 [.int .i64 (-1)] rfl rfl (cell_one_new _ _ _) (ints_oneCell _ [-1]) (by unfold maxLen; omega) (by omega) (by simp; omega) ?_; intro v4 wC ho4 hg4 _; obtain ⟨g6, c6, rfl⟩ := Joins.ownsRow_form ho4 (by omega)))
        have hfin : RkApp w n (k + 1) (.slice (some ⟨g6, 0, none⟩) (k + 1) c6) wC := by
          refine ⟨g6, c6, rfl, ?_, (Hb3.out.alloc hwB _).grown hg4 (by simp; omega) (fun r e => (Ho3.out.lt r e).1), hlt⟩
          rw [List.replicate_succ']
          simpa [ints] using ho4
        have Hfin := Lib.hid hfin
        clear hfin ho4 hg4
        go_wp2_with fail
        go_roundw
        case rel => exact ⟨k + 1, by go_num, Hfin.out⟩
        case measure => exact idx_measure hlt
      · obtain rfl : k = n := by omega
        have HM0 := Lib.hid (show MdI xs 0 0 (List.replicate k (-1)) by have := MdI.start xs; rw [HL.out] at this; exact this)
        go_wp2_with fail
        go_loopw [5] (fun v5 wr => ∃ (i : Nat) (o : List Int), i ≤ k ∧ v5 = .int .i64 i ∧ wr.ownsRow w.heap.size 3 1 (.slice (some ⟨g3, 0, none⟩) k c3) k (ints o) ∧ Hid (MdI xs i 0 o) ∧ Below w.heap.size w wr) (fun v5 _ => k - (intOf v5).toNat)
        case atStart => exact ⟨0, _, Nat.zero_le _, rfl, Ho3.out, HM0.out, Hb3.out⟩
        case round =>
          obtain ⟨i, o, hik, rfl, ho5, HM, hb5⟩ := hrel
          have Ho5 := Lib.hid ho5
          have Hb5 := Lib.hid hb5
          clear ho5 hb5
          by_cases hil : i < k
          · go_wp2_with fail
            go_loopw [6] (fun v6 wr => ∃ (q : Nat) (o : List Int), q ≤ k ∧ v6 = .int .i64 q ∧ wr.ownsRow w.heap.size 3 1 (.slice (some ⟨g3, 0, none⟩) k c3) k (ints o) ∧ Hid (MdI xs i q o) ∧ Below w.heap.size w wr) (fun v6 _ => k - (intOf v6).toNat)
            case atStart => exact ⟨0, o, Nat.zero_le _, rfl, Ho5.out, HM, Hb5.out⟩
            case round =>
              obtain ⟨q, o, hqk, rfl, ho6, HM6, hb6⟩ := hrel
              obtain ⟨wD, rfl⟩ : ∃ wD : World, wD = wr := ⟨_, rfl⟩
              have Ho6 := Lib.hid ho6
              have Hb6 := Lib.hid hb6
              clear ho6 hb6
              by_cases hql : q < k
              · have y0 : wD.cell? ⟨b, off + q, none⟩ = some (.int .i64 (rw' xs q : Nat)) := by
                  have h9 := (HA.out.below Hb6.out hbl) q (by rw [HL.out]; exact hql)
                  rw [h9, HR.out.row_int (by rw [HL.out]; exact hql)]
                have hol : o.length = k := by rw [HM6.out.1, HL.out]
                have Hol := Lib.hid hol
                have HOb := Lib.hid (fun p => HM6.out.bnd HR.out p)
                obtain ⟨rk, hrk⟩ : ∃ rk, rk = rw' xs q := ⟨_, rfl⟩
                rw [← hrk] at y0
                have Hrk := Lib.hid hrk
                clear hrk hol
                go_wp2_with fail
                go_loopw [7, 8] (fun v7 v8 wr => ∃ (j : Nat) (v : Int), j ≤ k ∧ v8 = .int .i64 j ∧ v7 = .int .i64 v ∧ Hid (Upd xs o q j v) ∧ wD = wr) (fun _ v8 _ => k - (intOf v8).toNat)
                case atStart => exact ⟨0, 0, Nat.zero_le _, rfl, rfl, Upd.start _ _ _, rfl⟩
                case round =>
                  obtain ⟨j, v, hjk, rfl, rfl, HU, rfl⟩ := hrel
                  have hv := HU.out.bnd (n := xs.length) (fun p => (HOb.out p).2) (Nat.zero_le _)
                  rw [HL.out] at hv
                  by_cases hjl : j < k
                  · have y1 : wD.cell? ⟨g3, j, none⟩ = some (.int .i64 (o.getD j 0)) := by
                      rw [Ho6.out.cellAt j (by omega), ints_get o j (by rw [Hol.out]; exact hjl)]
                    have hob := HOb.out j
                    rw [HL.out] at hob
                    obtain ⟨x, hx⟩ : ∃ x, x = o.getD j 0 := ⟨_, rfl⟩
                    rw [← hx] at y1 hob
                    have Hx := Lib.hid hx
                    clear hx
                    rcases bit_tf rk j with hB | hB
                    · have kb := Lib.hid (l7Bit_any rk j (by omega) wD)
                      rw [bitI_1 hB] at kb
                      have HB := Lib.hid (show (rw' xs q).testBit j = true by rw [← Hrk.out]; exact hB)
                      clear hB
                      by_cases hv0 : 0 ≤ v
                      · by_cases hx0 : x < 0
                        · have HU2 := Lib.hid (HU.out.bad HB.out (by rw [← Hx.out]; exact hx0))
                          go_wp2_with fail
                          refine (kb.out).mono ?_
                          rintro ee wx ⟨rfl, rfl⟩
                          go_wp2_with fail
                          go_roundw
                          case rel => exact ⟨j + 1, -1, by omega, by go_num, rfl, HU2.out, by trivial⟩
                          case measure => exact idx_measure hjl
                        · have hx0' : decide (x < 0) = false := by simpa using hx0
                          have hU3 := HU.out.good HB.out (by rw [← Hx.out]; omega) hv0
                          rw [← Hx.out] at hU3
                          have HU2 := Lib.hid hU3
                          have hws1 : wrap64 (x + 1) = x + 1 := IntWalk.wrap64_in _ (by omega)
                          have hws2 : IntKind.i64.wrap (x + 1) = x + 1 := IntWalk.i64_in _ (by omega)
                          clear hU3
                          by_cases hm : v < x + 1
                          · have hmx : max v (x + 1) = x + 1 := by omega
                            rw [hmx] at HU2
                            clear hmx
                            go_wp2_with fail
                            refine (kb.out).mono ?_
                            rintro ee wx ⟨rfl, rfl⟩
                            go_wp2_with fail
                            go_roundw
                            case rel => exact ⟨j + 1, x + 1, by omega, by go_num, by first | rfl | go_num, HU2.out, by trivial⟩
                            case measure => exact idx_measure hjl
                          · have hmx : max v (x + 1) = v := by omega
                            rw [hmx] at HU2
                            clear hmx
                            go_wp2_with fail
                            refine (kb.out).mono ?_
                            rintro ee wx ⟨rfl, rfl⟩
                            go_wp2_with fail
                            go_roundw
                            case rel => exact ⟨j + 1, v, by omega, by go_num, rfl, HU2.out, by trivial⟩
                            case measure => exact idx_measure hjl
                      · have hv0' : decide ((0 : Int) ≤ v) = false := by simpa using hv0
                        have HU2 := Lib.hid (HU.out.skip (.inr (by omega)))
                        go_wp2_with fail
                        refine (kb.out).mono ?_
                        rintro ee wx ⟨rfl, rfl⟩
                        go_wp2_with fail
                        go_roundw
                        case rel => exact ⟨j + 1, v, by omega, by go_num, rfl, HU2.out, by trivial⟩
                        case measure => exact idx_measure hjl
                    · have kb := Lib.hid (l7Bit_any rk j (by omega) wD)
                      rw [bitI_0 hB] at kb
                      have HU2 := Lib.hid (HU.out.skip (.inl (by rw [← Hrk.out]; exact hB)))
                      clear hB
                      go_wp2_with fail
                      refine (kb.out).mono ?_
                      rintro ee wx ⟨rfl, rfl⟩
                      go_wp2_with fail
                      go_roundw
                      case rel => exact ⟨j + 1, v, by omega, by go_num, rfl, HU2.out, by trivial⟩
                      case measure => exact idx_measure hjl
                  · obtain rfl : j = k := by omega
                    have HM7 := Lib.hid (HM6.out.set HR.out (by rw [HL.out]; exact hql) (by rw [HL.out]; exact HU.out))
                    have hc : wD.cell? ⟨g3, q, none⟩ = some (.int .i64 (o.getD q 0)) := by
                      rw [Ho6.out.cellAt q (by omega), ints_get o q (by rw [Hol.out]; exact hql)]
                    have hf := Ho6.out.frozenAt q
                    have hs := (Ho6.out.stored q (.int .i64 v)).1
                    rw [ints_set] at hs
                    have HS := Lib.hid hs
                    have HB6 := Lib.hid (Hb6.out.setCell (p := ⟨g3, q, none⟩) (Ho6.out.lt g3 rfl).1 (.int .i64 v))
                    obtain ⟨x, hx⟩ : ∃ x, x = o.getD q 0 := ⟨_, rfl⟩
                    rw [← hx] at hc
                    clear hs hx
                    go_wp2_with fail
                    go_roundw
                    case rel => exact ⟨q + 1, o.set q v, by omega, by go_num, HS.out, HM7.out, HB6.out⟩
                    case measure => exact idx_measure hql
              · obtain rfl : q = k := by omega
                have HM7 := Lib.hid (MdI.round (by rw [HL.out]; exact HM6.out))
                go_wp2_with fail
                go_roundw
                case rel => exact ⟨i + 1, o, by omega, by go_num, Ho6.out, HM7.out, Hb6.out⟩
                case measure => exact idx_measure hil
          · obtain rfl : i = k := by omega
            obtain rfl := HYes.out o HR.out (by rw [HL.out]; exact HM.out)
            have hrl : r.length = i := by rw [HM.out.1, HL.out]
            have hfin : RkPost w r (.returned (.slice (some ⟨g3, 0, none⟩) i c3)) wr := by
              refine ⟨_, c3, by rw [hrl], ?_, Hb5.out⟩
              rw [hrl]; exact Ho5.out
            have Hfin := Lib.hid hfin
            clear hfin hrl
            go_wp2_with fail
            go_ret
            exact Hfin.out
  · rw [h1] at k1
    obtain rfl := HNo.out (relB_false h1)
    clear h1
    go_enter Tryd.func40, Tryd.ntmps40
    go_wp2_with fail
    rw [HWe.out]
    refine (k1.out).mono ?_
    rintro ee w1 ⟨rfl, hb1⟩
    have hfin : RkPost w [] (.returned (.slice (some ⟨w.heap.size, 0, none⟩) 0 0)) w1 := ⟨_, 0, rfl, ownsRow_below' HoW.out hb1, HbW.out.trans (hb1.mono hws)⟩
    have Hfin := Lib.hid hfin
    clear hb1 hfin
    go_wp2_with fail
    go_ret
    exact Hfin.out

end Go.Proofs.YtagdeifalkenhaaDoor
