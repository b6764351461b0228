/- Lists of numbers: their ordinals, by the model. -/
import Derived.Test.YtffcgkpligjmpaaRowO
import Derived.Test.YtffcgkpligjmpaaMakeS
namespace Go.Proofs.Ytffcgkpligjmpaa
set_option maxRecDepth 100000
open Go.RowKit

theorem row_sl {w : World} {B n c : Nat} {a : Option Addr} {t : T} {xs : List Value} (h : w.ownsRow B 3 1 (.slice a n c) n xs) (hx : xs = ints t.times) : Sl w a n c t.times := by
  subst hx; exact Sl.of_own h
theorem row_snoc (d f : T) (n : Int) : ints d.times ++ [.int .i64 n] = ints (d.app (.c n f .z)).times := by
  rw [T.times_app]; simp [ints, T.times]
theorem row_none0 {w w1 : World} (hb : Below w.heap.size w w1) : IntPost w [] (.returned (.slice (some ⟨w1.heap.size, 0, none⟩) 0 0)) (w1.alloc (.cells #[] 3)) :=
  ⟨_, 0, rfl, World.ownsRow_lit w1 #[] 0 hb.size (by simp [maxLen]) rfl, hb.alloc hb.size _⟩

def RoS (w : World) (xs : List Int) (n : Nat) (v3 v4 v5 : Value) (wr : World) : Prop :=
  ∃ (i qn : Nat) (q : T) (es : List Value) (a5 a6 : Option Addr) (c5 c6 : Nat), v5 = .int .i64 i ∧ i ≤ n ∧ T.ofDigs T.numT xs = q.app (T.ofDigs T.numT (xs.drop i)) ∧ q.cnt = qn ∧ qn ≤ i ∧ v3 = .slice a5 qn c5 ∧ v4 = .slice a6 qn c6 ∧
    wr.ownsRow w.heap.size 3 1 v3 qn (ints q.times) ∧ wr.ownsRow w.heap.size 22 1 v4 qn es ∧ EF wr v3.ownBlock v4.ownBlock q es ∧ Below w.heap.size w wr

theorem ros_start (w : World) (xs : List Int) (n : Nat) : RoS w xs n (.slice (some ⟨w.heap.size, 0, none⟩) 0 0) (.slice (some ⟨w.heap.size + 1, 0, none⟩) 0 0) (.int .i64 (0 : Nat)) ((w.alloc (.cells #[] 3)).alloc (.cells #[] 22)) := by
  have hL : (w.alloc (.cells #[] 3)).ownsRow w.heap.size 3 1 (.slice (some ⟨w.heap.size, 0, none⟩) 0 0) 0 (ints []) := World.ownsRow_lit w #[] 0 (Nat.le_refl _) (by simp [maxLen]) rfl
  have hL2 := World.ownsRow_lit (base := w.heap.size) (e := 22) (size := 1) (w.alloc (.cells #[] 3)) #[] 0 (by simp) (by simp [maxLen]) rfl
  rw [World.size_alloc] at hL2
  exact ⟨0, 0, .z, [], _, _, 0, 0, rfl, Nat.zero_le _, rfl, rfl, Nat.le_refl _, rfl, rfl, hL.alloc _, hL2, rfl, ((Below.refl _ _).alloc (Nat.le_refl _) _).alloc (by simp) _⟩

set_option maxRecDepth 100000 in
set_option maxHeartbeats 8000000 in
theorem spec_RowOrd (ao : Option Addr) (n c : Nat) (xs : List Int) (w : World) (h : Sl w ao n c xs) :
    Calls Try.prog 20 #[.slice ao n c] w (IntPost w (T.rowOrd xs)) := by
  have k1 := Lib.hid (sRowValid_any ao n c xs w h)
  rcases row_tf xs with h1 | h1
  · obtain ⟨i0, hi, hz0, hz1, hz2⟩ := info_parts info_int
    obtain ⟨j0, hj, hy0, hy1, hy2⟩ := info_parts info_ints
    rw [h1] at k1
    have hl := (rowB_true.1 h1).1
    rw [h.1] at hl
    have hll := T.ofDigs_len xs
    rw [h.1] at hll
    obtain ⟨x1, x2, x3, x4⟩ := h
    obtain ⟨bb, off, rfl, hat⟩ := x4 (by omega)
    have X1 := Lib.hid x1
    have Hat := Lib.hid hat
    have HX := Lib.hid (upTo_true.1 (rowB_true.1 h1).2)
    have hbl : bb < w.heap.size := hat.lt (by intro h9; rw [h9] at x1; simp at x1; omega)
    have HFF := Lib.hid (show ∀ (e : Nat) (wr : World), e ≤ 9999 → Calls Try.prog 46 #[.int .i64 e] wr (IntPost wr (T.numT e).enc) from fun e wr he => by
      have h1 := T.numT_row (e := e) (by omega)
      rw [← h1]
      refine (spec_OrdOf e wr (by omega) (by omega)).mono ?_
      rintro ee wx ⟨a, c, rfl, ho, hbx⟩
      exact ⟨a, c, rfl, ho, hbx⟩)
    obtain ⟨res, hres⟩ : ∃ res, res = T.ofDigs T.numT xs := ⟨_, rfl⟩
    have Hst := Lib.hid (ros_start w xs n)
    rw [T.rowOrd_in h1, ← hres]
    rw [← hres] at hll
    have HR := Lib.hid hres
    have Hlen := Lib.hid hll
    clear h1 x1 x4 hat hres hll
    go_enter Try.func20, Try.ntmps20
    go_wp2_with fail
    refine (k1.out).mono ?_
    rintro ee wx ⟨rfl, rfl⟩
    go_wp2_with fail
    go_loopw [3, 4, 5] (fun v3 v4 v5 wr => RoS w xs n v3 v4 v5 wr) (fun _ _ v5 _ => n - (intOf v5).toNat)
    case atStart => exact Hst.out
    case round =>
      obtain ⟨i, qn, q, es, a5, a6, c5, c6, rfl, hin, hdi, hqn, hqi, rfl, rfl, ho5, ho6, hEF, hbw⟩ := hrel
      have hq30 : qn ≤ 5 := by omega
      have Hdi := Lib.hid hdi
      have Hqn := Lib.hid hqn
      have Ho5 := Lib.hid ho5
      have Ho6 := Lib.hid ho6
      have HEF := Lib.hid hEF
      have Hbw := Lib.hid hbw
      have hws := hbw.size
      clear hdi hqn ho5 ho6 hEF hbw
      by_cases hlt : i < n
      · obtain ⟨n1, hn1⟩ : ∃ n1, n = n1 + 1 := ⟨n - 1, by omega⟩
        obtain ⟨t, ht⟩ : ∃ t, n1 = t + i := ⟨n1 - i, by omega⟩
        have hix : i < xs.length := by rw [X1.out]; exact hlt
        obtain ⟨x, xt, hdx, hdx1⟩ := drop_cons (xs := xs) (a := i) hix
        have y0 := (Hat.out.below Hbw.out hbl).get hdx
        have hxm : x ∈ xs := List.mem_of_mem_drop (by rw [hdx]; exact List.mem_cons_self)
        have hx9 := HX.out x hxm
        have hxt : xt.length = t := by
          have h9 := congrArg List.length hdx
          rw [List.length_drop, X1.out] at h9
          simp at h9
          omega
        obtain ⟨d, rfl⟩ := Int.eq_ofNat_of_zero_le hx9.1
        have hdb : d ≤ 9999 := by omega
        have hj1 : IntKind.i64.wrap ((n : Int) - 1) = (n1 : Int) := by rw [IntWalk.i64_in _ (by omega)]; omega
        have hj2 : (n : Int) - 1 = (n1 : Int) := by omega
        have hk1 : IntKind.i64.wrap ((n1 : Int) - (i : Int)) = (t : Int) := by rw [IntWalk.i64_in _ (by omega)]; omega
        have hk2 : (n1 : Int) - (i : Int) = (t : Int) := by omega
        have Hdx := Lib.hid hdx
        have Hdx1 := Lib.hid hdx1
        have Hxt := Lib.hid hxt
        have Hn1 := Lib.hid hn1
        have Ht := Lib.hid ht
        have ht9 : t ≤ 9999 := by omega
        clear hix hdx hdx1 hxm hx9 hxt hn1 ht
        by_cases hd0 : 0 < d
        · have Hnx := Lib.hid (show T.ofDigs T.numT (xs.drop i) = .c d (T.numT t) (T.ofDigs T.numT (xs.drop (i + 1))) by rw [Hdx.out, T.ofDigs_next (by omega), Hxt.out, Hdx1.out])
          go_wp2_with (first
            | (at_builtin; refine wpList_append_own_at _ rfl (.tmp 23) (.tmp 28) 22 rfl w.heap.size 3 i0 (.int .i64 0) 1 8 Try.underlying22 hi hz0 hz1 hz2 rfl (by decide) _ qn (ints q.times) rfl (Ho5.out.alloc _) ⟨wr.heap.size, 0, none⟩ 1 1 [.int .i64 d] rfl rfl (cell_one_new _ _ _) (ints_oneCell _ [(d : Int)]) (by unfold maxLen; omega) (by omega) (by simp; omega) ?_; intro v1 wa ho1 hg1 _ hat1))
          obtain ⟨a1, c1', rfl, _⟩ := own_form ho1
          have hE1 := HEF.out.below ((Below.refl wr.heap.size wr).alloc (Nat.le_refl _) (.cells #[.int .i64 d] 3))
          obtain ⟨ho6a, hE2⟩ := mul_numbers (Ho5.out.alloc _) (Ho6.out.alloc _) hE1 hg1 hat1
          have hba := (Hbw.out.alloc hws _).grown hg1 (by simp; omega) (fun k h => (Ho5.out.lt k h).1)
          have Ho1 := Lib.hid ho1
          have Ho6a := Lib.hid ho6a
          have HE2 := Lib.hid hE2
          have Hba := Lib.hid hba
          have hwa := hba.size
          have kF := Lib.hid (HFF.out t wa ht9)
          clear ho1 hg1 hat1 hE1 ho6a hE2 hba
          go_wp2_with fail
          refine (kF.out).mono ?_
          rintro ee wb ⟨aN, cN, rfl, hoN, hbN⟩
          obtain ⟨LN, hLN⟩ : ∃ LN, LN = (T.numT t).enc.length := ⟨_, rfl⟩
          rw [← hLN] at hoN ⊢
          have hL0 : 0 < LN := by rw [hLN, T.enc_len]; omega
          obtain ⟨gN, cN', hform⟩ := Joins.ownsRow_form hoN hL0
          simp only [Value.slice.injEq] at hform
          obtain ⟨rfl, _, rfl⟩ := hform
          have hslN := Sl.of_own hoN
          obtain ⟨bN, oN, heN, hatN⟩ := hslN.2.2.2 hL0
          simp only [Option.some.injEq, Addr.mk.injEq, and_true] at heN
          obtain ⟨rfl, rfl⟩ := heN
          have HatN := Lib.hid hatN
          have HcN := Lib.hid (And.intro hslN.2.1 hslN.2.2.1)
          have hgNb : wa.heap.size ≤ gN := (hoN.lt gN rfl).1
          have Ho1b := Lib.hid (ownsRow_below' Ho1.out hbN)
          have Ho6b := Lib.hid (ownsRow_below' Ho6a.out hbN)
          have HE3 := Lib.hid (HE2.out.below hbN)
          have Hbb := Lib.hid (Hba.out.trans (hbN.mono hwa))
          have hwb := Hbb.out.size
          have HLh := Lib.hid hLN
          clear hL0 hLN hslN hatN hoN hbN
          go_wp2_with (first
            | (at_builtin; refine wpList_append_own_at _ rfl (.tmp 30) (.tmp 37) 34 rfl w.heap.size 22 j0 (.slice none 0 0) 1 24 Try.underlying34 hj hy0 hy1 hy2 rfl (by decide) _ qn es rfl (Ho6b.out.alloc _) ⟨wb.heap.size, 0, none⟩ 1 1 [.slice (some ⟨gN, 0, none⟩) LN cN] rfl rfl (cell_one_new _ _ _) (slice_oneCell _ _ _) (by unfold maxLen; omega) (by omega) (by simp; omega) ?_; intro v2 wd ho2 hg2 _ hat2))
          obtain ⟨a2, c2', rfl, _⟩ := own_form ho2
          have hfin : RoS w xs n (.slice a1 (qn + 1) c1') (.slice a2 (qn + 1) c2') (.int .i64 ((i : Int) + 1)) wd := by
            have hE4 := ((HE3.out.below ((Below.refl wb.heap.size wb).alloc (Nat.le_refl _) (.cells #[.slice (some ⟨gN, 0, none⟩) LN cN] 22)))).snoc (n := (d : Int)) (HatN.out.alloc (T.enc_ne (T.numT t)) _) (own_row_lt Ho1.out hgNb) (own_row_lt Ho6a.out hgNb) (by have := HcN.out.1; have := HLh.out; omega) HcN.out.2
            rw [← HLh.out] at hE4
            obtain ⟨ho5', hE5⟩ := mul_exps (Ho1b.out.alloc _) (Ho6b.out.alloc _) hE4 hg2 hat2
            refine ⟨i + 1, qn + 1, q.app (.c d (T.numT t) .z), _, a1, a2, c1', c2', by go_num, by omega, ?_, by rw [T.app_cnt, Hqn.out]; rfl, by omega, rfl, rfl, ?_, ho2, hE5, (Hbb.out.alloc hwb _).grown hg2 (by simp; omega) (fun k h => (Ho6b.out.lt k h).1)⟩
            · rw [Hdi.out, Hnx.out, T.app_assoc]; rfl
            · rw [← row_snoc q (T.numT t) d]; exact ho5'
          have Hfin := Lib.hid hfin
          clear ho2 hg2 hat2 hfin
          go_wp2_with fail
          go_roundw
          case measure => simp [intOf]; omega
          case rel => exact Hfin.out
        · obtain rfl : d = 0 := by omega
          have Hsk := Lib.hid (show T.ofDigs T.numT (xs.drop i) = T.ofDigs T.numT (xs.drop (i + 1)) by rw [Hdx.out, Hdx1.out]; exact T.ofDigs_skip)
          go_wp2_with fail
          go_roundw
          case measure => simp [intOf]; omega
          case rel => exact ⟨i + 1, qn, q, es, a5, a6, c5, c6, by go_num, by omega, by rw [Hdi.out, Hsk.out], Hqn.out, by omega, rfl, rfl, Ho5.out, Ho6.out, HEF.out, Hbw.out⟩
      · obtain rfl : i = n := by omega
        have hrt : q = res := by rw [HR.out, Hdi.out, List.drop_eq_nil_of_le (by rw [X1.out]; exact Nat.le_refl _), T.ofDigs, T.app_z]
        have hql : qn = q.cnt := Hqn.out.symm
        have k5 := Lib.hid (l1Make_any a5 a6 qn c5 c6 q wr (by rw [hrt]; have := Hlen.out; omega) (Ex.of_own Ho6.out HEF.out.ec hql) (row_sl Ho5.out rfl))
        rw [hrt] at k5
        clear hrt hql
        go_wp2_with fail
        refine (k5.out).mono ?_
        rintro ee w5 ⟨a3, c3, rfl, ho3, hb5⟩
        have hfin : IntPost w res.enc (.returned (.slice a3 res.enc.length c3)) w5 :=
          ⟨a3, c3, rfl, Joins.ownsRow_le ho3 hws, Hbw.out.trans (hb5.mono hws)⟩
        have Hfin := Lib.hid hfin
        clear ho3 hb5 hfin
        go_wp2_with fail
        go_ret
        exact Hfin.out
  · rw [h1] at k1
    rw [T.rowOrd_out h1]
    clear h h1
    go_enter Try.func20, Try.ntmps20
    go_wp2_with fail
    refine (k1.out).mono ?_
    rintro ee wx ⟨rfl, rfl⟩
    go_wp2_with fail
    go_ret
    exact row_none0 (Below.refl _ _)

end Go.Proofs.Ytffcgkpligjmpaa
