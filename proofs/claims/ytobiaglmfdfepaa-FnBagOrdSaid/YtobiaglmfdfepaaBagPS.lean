/- Multisets: their ordinals, by the model. -/
import Derived.Test.YtobiaglmfdfepaaBagP
import Derived.Test.YtobiaglmfdfepaaGdKit
import Derived.Test.YtobiaglmfdfepaaMakeS
import Derived.Test.YtobiaglmfdfepaaPost
namespace Go.Proofs.Ytobiaglmfdfepaa
set_option maxRecDepth 100000
open Go.RowKit

theorem bag_sl {w : World} {B n c : Nat} {a : Option Addr} {t : T} {xs : List Value} (h : w.ownsRow B 3 1 (.slice a n c) n xs) (hx : xs = ints t.times) : Sl w a n c t.times := by
  subst hx; exact Sl.of_own h
theorem bag_snoc (d f : T) (n : Int) : ints d.times ++ [.int .i64 n] = ints (d.app (.c n f .z)).times := by
  rw [T.times_app]; simp [ints, T.times]

def BoS (w : World) (xs : List Int) (m : Nat) (v3 v4 : Value) (wr : World) : Prop :=
  ∃ (qn : Nat) (q : T) (es : List Value) (a5 a6 : Option Addr) (c5 c6 : Nat), m ≤ 10 ∧ T.cts xs 10 = q.app (T.cts xs m) ∧ q.cnt = qn ∧ qn ≤ 10 - m ∧ v3 = .slice a5 qn c5 ∧ v4 = .slice a6 qn c6 ∧
    wr.ownsRow w.heap.size 3 1 v3 qn (ints q.times) ∧ wr.ownsRow w.heap.size 23 1 v4 qn es ∧ EF wr v3.ownBlock v4.ownBlock q es ∧ Below w.heap.size w wr

theorem bos_start (w w1 : World) (xs : List Int) (hb : Below w.heap.size w w1) : BoS w xs 10 (.slice (some ⟨w1.heap.size, 0, none⟩) 0 0) (.slice (some ⟨w1.heap.size + 1, 0, none⟩) 0 0) ((w1.alloc (.cells #[] 3)).alloc (.cells #[] 23)) := by
  have hL : (w1.alloc (.cells #[] 3)).ownsRow w.heap.size 3 1 (.slice (some ⟨w1.heap.size, 0, none⟩) 0 0) 0 (ints []) := World.ownsRow_lit w1 #[] 0 hb.size (by simp [maxLen]) rfl
  have hL2 := World.ownsRow_lit (base := w.heap.size) (e := 23) (size := 1) (w1.alloc (.cells #[] 3)) #[] 0 (by have := hb.size; simp; omega) (by simp [maxLen]) rfl
  rw [World.size_alloc] at hL2
  exact ⟨0, .z, [], _, _, 0, 0, by omega, rfl, rfl, Nat.le_refl _, rfl, rfl, hL.alloc _, hL2, rfl, (hb.alloc hb.size _).alloc (by have := hb.size; simp; omega) _⟩

set_option maxRecDepth 100000 in
set_option maxHeartbeats 8000000 in
theorem spec_BagOrd (ao : Option Addr) (n c : Nat) (xs : List Int) (w : World) (h : Sl w ao n c xs) :
    Calls Try.prog 30 #[.slice ao n c] w (IntPost w (T.bagOrd xs)) := by
  have k1 := Lib.hid (spec_BagValid ao n c xs w h)
  rcases bag_tf xs with h1 | h1
  · obtain ⟨i0, hi, hz0, hz1, hz2⟩ := info_parts info_int
    obtain ⟨j0, hj, hy0, hy1, hy2⟩ := info_parts info_ints
    rw [h1] at k1
    have hl := (itemsB_true.1 (bagB_true.1 h1).1).1
    rw [h.1] at hl
    have HS := Lib.hid h
    have hcb : ∀ m : Int, xs.count m ≤ 16 := fun m => by have := List.count_le_length (a := m) (l := xs); rw [h.1] at this; omega
    have Hcb := Lib.hid hcb
    have km := Lib.hid (fun (m : Int) wx (hb : Below w.heap.size w wx) => l6Many_any ao n c xs m wx (by omega) (HS.out.below hb))
    have HFF := Lib.hid (show ∀ (e : Nat) (wr : World), e ≤ 9999 → Calls Try.prog 63 #[.int .i64 e] wr (IntPost wr (T.nT e).enc) from fun e wr he => by
      have h1 := T.nT_row (e := e) (by omega)
      rw [← h1]
      refine (spec_OrdOf e wr (by omega) (by omega)).mono ?_
      rintro ee wx ⟨a, c, rfl, ho, hbx⟩
      exact ⟨a, c, rfl, ho, hbx⟩)
    have hll := T.cts_len xs 10
    obtain ⟨res, hres⟩ : ∃ res, res = T.cts xs 10 := ⟨_, rfl⟩
    have Hst := Lib.hid (fun w1 hb => bos_start w w1 xs hb)
    rw [T.bagOrd_in h1, ← hres]
    rw [← hres] at hll
    have HR := Lib.hid hres
    have Hlen := Lib.hid hll
    clear h h1 hcb hres hll
    go_enter Try.func30, Try.ntmps30
    go_wp2_with fail
    refine (k1.out).mono ?_
    rintro ee w1 ⟨rfl, hb1⟩
    have Hst1 := Lib.hid (Hst.out w1 hb1)
    clear hb1
    go_wp2_with fail
    go_loopw [3, 4, 5] (fun v3 v4 v5 wr => ∃ m : Nat, v5 = .int .i64 ((m : Int) - 1) ∧ BoS w xs m v3 v4 wr) (fun _ _ v5 _ => ((intOf v5) + 1).toNat)
    case atStart => exact ⟨10, rfl, Hst1.out⟩
    case round =>
      obtain ⟨m, rfl, qn, q, es, a5, a6, c5, c6, hm, hdi, hqn, hqi, rfl, rfl, ho5, ho6, hEF, hbw⟩ := hrel
      obtain ⟨wA, rfl⟩ : ∃ wA : World, wA = wr := ⟨_, rfl⟩
      have Hdi := Lib.hid hdi
      have Hqn := Lib.hid hqn
      have Ho5 := Lib.hid ho5
      have Ho6 := Lib.hid ho6
      have HEF := Lib.hid hEF
      have Hbw := Lib.hid hbw
      have hws := hbw.size
      clear hdi hqn ho5 ho6 hEF hbw
      by_cases hm0 : 0 < m
      · obtain ⟨t, rfl⟩ : ∃ t, m = t + 1 := ⟨m - 1, by omega⟩
        have em : (((t + 1 : Nat) : Int) - 1) = (t : Int) := by omega
        rw [em]
        have kp := Lib.hid (km.out t wA Hbw.out)
        have hdb := Hcb.out t
        obtain ⟨d, hd⟩ : ∃ d, d = xs.count (t : Int) := ⟨_, rfl⟩
        rw [← hd] at kp hdb
        have Hd := Lib.hid hd
        have ht9 : t ≤ 9999 := by omega
        have ht0 : (0 : Int) ≤ (t : Int) := by omega
        clear em hd
        by_cases hd0 : 0 < d
        · have Hnx := Lib.hid (show T.cts xs (t + 1) = .c d (T.nT t) (T.cts xs t) by rw [T.cts_next (by rw [← Hd.out]; omega), ← Hd.out])
          go_wp2_with fail
          refine (kp.out).mono ?_
          rintro ee wx ⟨rfl, rfl⟩
          go_wp2_with fail
          refine (kp.out).mono ?_
          rintro ee wx ⟨rfl, rfl⟩
          go_wp2_with (first
            | (at_builtin; go_loud (refine wpList_append_own_at _ rfl (.tmp 20) (.tmp 24) 23 rfl w.heap.size 3 i0 (.int .i64 0) 1 8 Try.underlying23 hi hz0 hz1 hz2 rfl (by decide) _ qn (ints q.times) (by rfl) (Ho5.out.alloc _) ⟨wA.heap.size, 0, none⟩ 1 1 [.int .i64 d] (by rfl) (by rfl) (cell_one_new _ _ _) (ints_oneCell _ [(d : Int)]) (by unfold maxLen; omega) (by omega) (by simp; omega) ?_; intro v1 wa ho1 hg1 _ hat1)))
          obtain ⟨a1, c1', rfl, _⟩ := own_form ho1
          have hE1 := HEF.out.below ((Below.refl wA.heap.size wA).alloc (Nat.le_refl _) (.cells #[.int .i64 d] 3))
          obtain ⟨ho6a, hE2⟩ := mul_numbers (Ho5.out.alloc _) (Ho6.out.alloc _) hE1 hg1 hat1
          have hba := (Hbw.out.alloc hws _).grown hg1 (by simp; omega) (fun k h => (Ho5.out.lt k h).1)
          have Ho1 := Lib.hid ho1
          have Ho6a := Lib.hid ho6a
          have HE2 := Lib.hid hE2
          have Hba := Lib.hid hba
          have hwa := hba.size
          have kF := Lib.hid (HFF.out t wa ht9)
          clear ho1 hg1 hat1 hE1 ho6a hE2 hba
          go_wp2_with fail
          refine (kF.out).mono ?_
          rintro ee wb ⟨aN, cN, rfl, hoN, hbN⟩
          obtain ⟨LN, hLN⟩ : ∃ LN, LN = (T.nT t).enc.length := ⟨_, rfl⟩
          rw [← hLN] at hoN ⊢
          have hL0 : 0 < LN := by rw [hLN, T.enc_len]; omega
          obtain ⟨gN, cN', hform⟩ := Joins.ownsRow_form hoN hL0
          simp only [Value.slice.injEq] at hform
          obtain ⟨rfl, _, rfl⟩ := hform
          have hslN := Sl.of_own hoN
          obtain ⟨bN, oN, heN, hatN⟩ := hslN.2.2.2 hL0
          simp only [Option.some.injEq, Addr.mk.injEq, and_true] at heN
          obtain ⟨rfl, rfl⟩ := heN
          have HatN := Lib.hid hatN
          have HcN := Lib.hid (And.intro hslN.2.1 hslN.2.2.1)
          have hgNb : wa.heap.size ≤ gN := (hoN.lt gN rfl).1
          have Ho1b := Lib.hid (ownsRow_below' Ho1.out hbN)
          have Ho6b := Lib.hid (ownsRow_below' Ho6a.out hbN)
          have HE3 := Lib.hid (HE2.out.below hbN)
          have Hbb := Lib.hid (Hba.out.trans (hbN.mono hwa))
          have hwb := Hbb.out.size
          have HLh := Lib.hid hLN
          clear hL0 hLN hslN hatN hoN hbN
          go_wp2_with (first
            | (at_builtin; go_loud (refine wpList_append_own_at _ rfl (.tmp 26) (.tmp 29) 56 rfl w.heap.size 23 j0 (.slice none 0 0) 1 24 Try.underlying56 hj hy0 hy1 hy2 rfl (by decide) _ qn es (by rfl) (Ho6b.out.alloc _) ⟨wb.heap.size, 0, none⟩ 1 1 [.slice (some ⟨gN, 0, none⟩) LN cN] (by rfl) (by rfl) (cell_one_new _ _ _) (slice_oneCell _ _ _) (by unfold maxLen; omega) (by omega) (by simp; omega) ?_; intro v2 wd ho2 hg2 _ hat2)))
          obtain ⟨a2, c2', rfl, _⟩ := own_form ho2
          have hfin : BoS w xs t (.slice a1 (qn + 1) c1') (.slice a2 (qn + 1) c2') wd := by
            have hE4 := ((HE3.out.below ((Below.refl wb.heap.size wb).alloc (Nat.le_refl _) (.cells #[.slice (some ⟨gN, 0, none⟩) LN cN] 23)))).snoc (n := (d : Int)) (HatN.out.alloc (T.enc_ne (T.nT t)) _) (own_row_lt Ho1.out hgNb) (own_row_lt Ho6a.out hgNb) (by have := HcN.out.1; have := HLh.out; omega) HcN.out.2
            rw [← HLh.out] at hE4
            obtain ⟨ho5', hE5⟩ := mul_exps (Ho1b.out.alloc _) (Ho6b.out.alloc _) hE4 hg2 hat2
            refine ⟨qn + 1, q.app (.c d (T.nT t) .z), _, a1, a2, c1', c2', by omega, ?_, by rw [T.app_cnt, Hqn.out]; rfl, by omega, rfl, rfl, ?_, ho2, hE5, (Hbb.out.alloc hwb _).grown hg2 (by simp; omega) (fun k h => (Ho6b.out.lt k h).1)⟩
            · rw [Hdi.out, Hnx.out, T.app_assoc]; rfl
            · rw [← bag_snoc q (T.nT t) d]; exact ho5'
          have Hfin := Lib.hid hfin
          clear ho2 hg2 hat2 hfin
          go_wp2_with fail
          go_roundw
          case measure => simp [intOf] <;> omega
          case rel => exact ⟨t, by first | rfl | go_num, Hfin.out⟩
        · obtain rfl : d = 0 := by omega
          have Hsk := Lib.hid (T.cts_skip (xs := xs) (k := t) Hd.out.symm)
          go_wp2_with fail
          refine (kp.out).mono ?_
          rintro ee wx ⟨rfl, rfl⟩
          go_wp2_with fail
          go_roundw
          case measure => simp [intOf] <;> omega
          case rel => exact ⟨t, by first | rfl | go_num, qn, q, es, a5, a6, c5, c6, by omega, by rw [Hdi.out, Hsk.out], Hqn.out, by omega, rfl, rfl, Ho5.out, Ho6.out, HEF.out, Hbw.out⟩
      · obtain rfl : m = 0 := by omega
        have hrt : q = res := by rw [HR.out, Hdi.out, T.cts, T.app_z]
        have hql : qn = q.cnt := Hqn.out.symm
        have k5 := Lib.hid (l1Make_any a5 a6 qn c5 c6 q wA (by rw [hrt]; have := Hlen.out; omega) (Ex.of_own Ho6.out HEF.out.ec hql) (bag_sl Ho5.out rfl))
        rw [hrt] at k5
        clear hrt hql
        go_wp2_with fail
        refine (k5.out).mono ?_
        rintro ee w5 ⟨a3, c3, rfl, ho3, hb5⟩
        have hfin : IntPost w res.enc (.returned (.slice a3 res.enc.length c3)) w5 :=
          ⟨a3, c3, rfl, Joins.ownsRow_le ho3 hws, Hbw.out.trans (hb5.mono hws)⟩
        have Hfin := Lib.hid hfin
        clear ho3 hb5 hfin
        go_wp2_with fail
        go_ret
        exact Hfin.out
  · rw [h1] at k1
    rw [T.bagOrd_out h1]
    clear h h1
    go_enter Try.func30, Try.ntmps30
    go_wp2_with fail
    refine (k1.out).mono ?_
    rintro ee w1 ⟨rfl, hb1⟩
    have Hb1 := Lib.hid hb1
    have hw1 := hb1.size
    clear hb1
    go_wp2_with fail
    go_ret
    exact ⟨_, 0, rfl, World.ownsRow_lit w1 #[] 0 hw1 (by simp [maxLen]) rfl, Hb1.out.alloc hw1 _⟩

end Go.Proofs.Ytobiaglmfdfepaa
