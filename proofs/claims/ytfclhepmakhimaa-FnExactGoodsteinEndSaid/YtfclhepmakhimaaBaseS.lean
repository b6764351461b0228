/- The model's OrdInBase and PlainOrd. -/
import Derived.Test.YtfclhepmakhimaaBaseL
import Derived.Test.YtfclhepmakhimaaMakeS
import Derived.Test.YtfclhepmakhimaaFn1
namespace Go.Proofs.Ytfclhepmakhimaa
set_option maxRecDepth 100000
open Go.RowKit

theorem sum_sl {w : World} {B n c : Nat} {a : Option Addr} {t : T} {xs : List Value} (h : w.ownsRow B 3 1 (.slice a n c) n xs) (hx : xs = ints t.times) : Sl w a n c t.times := by
  subst hx; exact Sl.of_own h
theorem ints_snoc (d f : T) (n : Int) : ints d.times ++ [.int .i64 n] = ints (d.app (.c n f .z)).times := by
  rw [T.times_app]; simp [ints, T.times]

def LoS (w : World) (f : Nat → T) (b n : Nat) (v0 v5 v6 : Value) (wr : World) : Prop :=
  ∃ (m qn : Nat) (q : T) (es : List Value) (a5 a6 : Option Addr) (c5 c6 : Nat), v0 = .int .i64 m ∧ m ≤ n ∧ T.dig f b n = q.app (T.dig f b m) ∧ q.cnt = qn ∧ v5 = .slice a5 qn c5 ∧ v6 = .slice a6 qn c6 ∧
    wr.ownsRow w.heap.size 3 1 v5 qn (ints q.times) ∧ wr.ownsRow w.heap.size 26 1 v6 qn es ∧ EF wr v5.ownBlock v6.ownBlock q es ∧ Below w.heap.size w wr

theorem los_start (w : World) (f : Nat → T) (b n : Nat) : LoS w f b n (.int .i64 n) (.slice (some ⟨w.heap.size, 0, none⟩) 0 0) (.slice (some ⟨w.heap.size + 1, 0, none⟩) 0 0) ((w.alloc (.cells #[] 3)).alloc (.cells #[] 26)) := by
  have hL : (w.alloc (.cells #[] 3)).ownsRow w.heap.size 3 1 (.slice (some ⟨w.heap.size, 0, none⟩) 0 0) 0 (ints []) := World.ownsRow_lit w #[] 0 (Nat.le_refl _) (by simp [maxLen]) rfl
  have hL2 := World.ownsRow_lit (base := w.heap.size) (e := 26) (size := 1) (w.alloc (.cells #[] 3)) #[] 0 (by simp) (by simp [maxLen]) rfl
  rw [World.size_alloc] at hL2
  exact ⟨n, 0, .z, [], _, _, 0, 0, rfl, Nat.le_refl _, rfl, rfl, rfl, rfl, hL.alloc _, hL2, rfl, ((Below.refl _ _).alloc (Nat.le_refl _) _).alloc (by simp) _⟩

theorem wrap_nat (q : Nat) (h : q ≤ 1000000000) : wrap64 (q : Int) = q := wrap_in (by omega) (by omega)
theorem quo_nat (m b d : Nat) (h : d = m / b) (hm : m ≤ 1000000000) : wrap64 ((m : Int) / (b : Int)) = (d : Int) := by
  rw [nat_div, h]; exact wrap_nat _ (Nat.le_trans (Nat.div_le_self _ _) hm)
theorem rem_nat (m b d : Nat) (h : d = m % b) (hm : m ≤ 1000000000) : wrap64 ((m : Int) % (b : Int)) = (d : Int) := by
  rw [nat_mod, h]; exact wrap_nat _ (Nat.le_trans (Nat.mod_le _ _) hm)
theorem up_measure {m p y : Nat} {x : Int} (hx : x = (y : Int)) (h1 : p < y) (h2 : y ≤ m) : m - (intOf (.int .i64 x)).toNat < m - (intOf (.int .i64 (p : Int))).toNat := by
  subst hx
  show m - (y : Int).toNat < m - (p : Int).toNat
  rw [Int.toNat_natCast, Int.toNat_natCast]
  omega
theorem rem_measure {m r : Nat} {x : Int} (hx : x = (r : Int)) (h : r < m) : (intOf (.int .i64 x)).toNat < (intOf (.int .i64 (m : Int))).toNat := by
  rw [hx]; exact nat_measure h
theorem mul_nat (x b y : Nat) (h : y = x * b) (hy : y ≤ 1000000000) : wrap64 ((x : Int) * (b : Int)) = (y : Int) := by
  rw [show (x : Int) * (b : Int) = (y : Int) by rw [h]; exact (Int.natCast_mul _ _).symm]; exact wrap_nat _ hy

set_option maxRecDepth 100000 in
set_option maxHeartbeats 8000000 in
theorem l4Ord_any (N : Nat) : ∀ (n b : Nat) (w : World), n < N → 2 ≤ b → b ≤ 90 → n ≤ 1000000000 →
    Calls Try.prog 64 #[.int .i64 n, .int .i64 b] w (IntPost w (T.ordB b n).enc) := by
  induction N with
  | zero => intro n b w h; omega
  | succ N ih =>
  intro n b w hN hb hb2 hn
  obtain ⟨i0, hi, hz0, hz1, hz2⟩ := info_parts info_int
  obtain ⟨j0, hj, hy0, hy1, hy2⟩ := info_parts info_ints
  have HFF := Lib.hid (show ∀ (e : Nat) (wr : World), b ^ e ≤ n → Calls Try.prog 64 #[.int .i64 e, .int .i64 b] wr (IntPost wr (T.ordB b e).enc) from fun e wr he => ih e b wr (by have := T.pow_gt hb e; omega) hb hb2 (by have := T.exp_le hb hn he; omega))
  have HCnt := Lib.hid (show (T.dig (T.ordB b) b n).cnt ≤ 30 by rw [← T.ordB_eq hb]; exact T.ordB_cnt hb hn)
  have Hlen := Lib.hid (show (T.dig (T.ordB b) b n).enc.length ≤ 2000 by rw [← T.ordB_eq hb]; exact T.base_len hb hn)
  have Hst := Lib.hid (los_start w (T.ordB b) b n)
  rw [T.ordB_eq hb n]
  obtain ⟨f, hf⟩ : ∃ f, f = T.ordB b := ⟨_, rfl⟩
  rw [← hf] at HFF HCnt Hlen Hst ⊢
  obtain ⟨res, hres⟩ : ∃ res, res = T.dig f b n := ⟨_, rfl⟩
  rw [← hres] at Hlen ⊢
  have HR := Lib.hid hres
  clear ih hf hres hN
  go_enter Try.func64, Try.ntmps64
  go_wp2_with fail
  go_loopw [0, 5, 6] (fun v0 v5 v6 wr => LoS w f b n v0 v5 v6 wr) (fun v0 _ _ _ => (intOf v0).toNat)
  case atStart => exact Hst.out
  case round =>
    obtain ⟨m, qn, q, es, a5, a6, c5, c6, rfl, hm, hdi, hqn, rfl, rfl, ho5, ho6, hEF, hbw⟩ := hrel
    have hq30 : qn ≤ 30 := by have h1 := congrArg T.cnt hdi; rw [T.app_cnt, hqn] at h1; have h2 := HCnt.out; omega
    have hm9 : m ≤ 1000000000 := Nat.le_trans hm hn
    have Hdi := Lib.hid hdi
    have Hqn := Lib.hid hqn
    have Ho5 := Lib.hid ho5
    have Ho6 := Lib.hid ho6
    have HEF := Lib.hid hEF
    have Hbw := Lib.hid hbw
    have hws := hbw.size
    clear hdi hqn ho5 ho6 hEF hbw
    by_cases hm0 : 0 < m
    · obtain ⟨mb, hmb⟩ : ∃ mb, mb = m / b := ⟨_, rfl⟩
      have hqw := quo_nat m b mb hmb hm9
      have Hmb := Lib.hid hmb
      have hm0' : (0 : Int) < (m : Int) := by omega
      clear hmb
      go_wp2_with fail
      go_loop [7, 8] (fun v7 v8 => ∃ (t p : Nat), Hid (p = b ^ t) ∧ p ≤ m ∧ 0 < p ∧ t ≤ 29 ∧ v7 = .int .i64 p ∧ v8 = .int .i64 t) (fun v7 _ => m - (intOf v7).toNat)
      case atStart => exact ⟨0, 1, Lib.hid (Nat.pow_zero b).symm, hm0, Nat.one_pos, by omega, rfl, rfl⟩
      case round =>
        obtain ⟨t, p, HP, hpm, hp0, ht29, rfl, rfl⟩ := hrel
        by_cases hlt : p ≤ mb
        · obtain ⟨y, hy⟩ : ∃ y, y = p * b := ⟨_, rfl⟩
          have hym : y ≤ m := by rw [hy]; exact (Nat.le_div_iff_mul_le (by omega)).1 (by rw [← Hmb.out]; exact hlt)
          have hpy : p + p ≤ y := by rw [hy, ← Nat.mul_two]; exact Nat.mul_le_mul_left _ hb
          have hy0 : 0 < y := by clear hqw; omega
          have hpl : p < y := by clear hqw; omega
          have hyw := mul_nat p b y hy (by clear hqw; omega)
          have hyt : y = b ^ (t + 1) := by rw [hy, HP.out, Nat.pow_succ]
          have ht30 : t + 1 ≤ 29 := T.exp_le hb hm9 (by rw [← hyt]; exact hym)
          have HYT := Lib.hid hyt
          clear hy hyt
          go_wp2_with fail
          go_round
          case rel =>
            refine ⟨t + 1, y, HYT, hym, hy0, ht30, congrArg (Value.int .i64) hyw, ?_⟩
            clear hqw hyw
            go_num
          case measure => exact up_measure hyw hpl hym
        · have hmt : m < b ^ (t + 1) := by rw [Nat.pow_succ, ← HP.out]; exact (Nat.div_lt_iff_lt_mul (by omega)).1 (by rw [← Hmb.out]; omega)
          have hptm : b ^ t ≤ m := by rw [← HP.out]; exact hpm
          obtain ⟨d, hd⟩ : ∃ d, d = m / p := ⟨_, rfl⟩
          obtain ⟨r, hr⟩ : ∃ r, r = m % p := ⟨_, rfl⟩
          have hdw := quo_nat m p d hd hm9
          have hrw := rem_nat m p r hr hm9
          have HRI := Lib.hid (show (m : Int) % (p : Int) = (r : Int) by rw [nat_mod, hr])
          have hrm : r < m := by rw [hr]; exact Nat.lt_of_lt_of_le (Nat.mod_lt _ hp0) hpm
          have hnx := T.dig_c f hb hptm hmt
          rw [← HP.out, ← hd, ← hr] at hnx
          have Hnx := Lib.hid hnx
          have Hpt := Lib.hid (show b ^ t ≤ n from Nat.le_trans hptm hm)
          have hd9 : d ≤ 1000000000 := by rw [hd]; exact Nat.le_trans (Nat.div_le_self _ _) hm9
          clear hmt hptm hd hr hnx
          go_wp2_with (first
            | (at_builtin; refine wpList_append_own_at _ rfl (.tmp 23) (.tmp 27) 26 rfl w.heap.size 3 i0 (.int .i64 0) 1 8 Try.underlying26 hi hz0 hz1 hz2 rfl (by decide) _ qn (ints q.times) rfl (Ho5.out.alloc _) ⟨wr.heap.size, 0, none⟩ 1 1 [.int .i64 d] rfl rfl (cell_one_new _ _ _) (ints_oneCell _ [(d : Int)]) (by unfold maxLen; omega) (by omega) (by simp; omega) ?_; intro v1 wa ho1 hg1 _ hat1))
          obtain ⟨a1, c1', rfl, _⟩ := own_form ho1
          have hE1 := HEF.out.below ((Below.refl wr.heap.size wr).alloc (Nat.le_refl _) (.cells #[.int .i64 d] 3))
          obtain ⟨ho6a, hE2⟩ := mul_numbers (Ho5.out.alloc _) (Ho6.out.alloc _) hE1 hg1 hat1
          have hba := (Hbw.out.alloc hws _).grown hg1 (by simp; omega) (fun k h => (Ho5.out.lt k h).1)
          have Ho1 := Lib.hid ho1
          have Ho6a := Lib.hid ho6a
          have HE2 := Lib.hid hE2
          have Hba := Lib.hid hba
          have hwa := hba.size
          have kF := Lib.hid (HFF.out t wa Hpt.out)
          clear ho1 hg1 hat1 hE1 ho6a hE2 hba
          go_wp2_with fail
          refine (kF.out).mono ?_
          rintro ee wb ⟨aN, cN, rfl, hoN, hbN⟩
          obtain ⟨LN, hLN⟩ : ∃ LN, LN = (f t).enc.length := ⟨_, rfl⟩
          rw [← hLN] at hoN ⊢
          have hL0 : 0 < LN := by rw [hLN, T.enc_len]; omega
          obtain ⟨gN, cN', hform⟩ := Joins.ownsRow_form hoN hL0
          simp only [Value.slice.injEq] at hform
          obtain ⟨rfl, _, rfl⟩ := hform
          have hslN := Sl.of_own hoN
          obtain ⟨bN, oN, heN, hatN⟩ := hslN.2.2.2 hL0
          simp only [Option.some.injEq, Addr.mk.injEq, and_true] at heN
          obtain ⟨rfl, rfl⟩ := heN
          have HatN := Lib.hid hatN
          have HcN := Lib.hid (And.intro hslN.2.1 hslN.2.2.1)
          have hgNb : wa.heap.size ≤ gN := (hoN.lt gN rfl).1
          have Ho1b := Lib.hid (ownsRow_below' Ho1.out hbN)
          have Ho6b := Lib.hid (ownsRow_below' Ho6a.out hbN)
          have HE3 := Lib.hid (HE2.out.below hbN)
          have Hbb := Lib.hid (Hba.out.trans (hbN.mono hwa))
          have hwb := Hbb.out.size
          have HLh := Lib.hid hLN
          clear hL0 hLN hslN hatN hoN hbN
          go_wp2_with (first
            | (at_builtin; refine wpList_append_own_at _ rfl (.tmp 29) (.tmp 33) 56 rfl w.heap.size 26 j0 (.slice none 0 0) 1 24 Try.underlying56 hj hy0 hy1 hy2 rfl (by decide) _ qn es rfl (Ho6b.out.alloc _) ⟨wb.heap.size, 0, none⟩ 1 1 [.slice (some ⟨gN, 0, none⟩) LN cN] rfl rfl (cell_one_new _ _ _) (slice_oneCell _ _ _) (by unfold maxLen; omega) (by omega) (by simp; omega) ?_; intro v2 wd ho2 hg2 _ hat2))
          obtain ⟨a2, c2', rfl, _⟩ := own_form ho2
          have hfin : LoS w f b n (.int .i64 r) (.slice a1 (qn + 1) c1') (.slice a2 (qn + 1) c2') wd := by
            have hE4 := ((HE3.out.below ((Below.refl wb.heap.size wb).alloc (Nat.le_refl _) (.cells #[.slice (some ⟨gN, 0, none⟩) LN cN] 26)))).snoc (n := (d : Int)) (HatN.out.alloc (T.enc_ne (f t)) _) (own_row_lt Ho1.out hgNb) (own_row_lt Ho6a.out hgNb) (by have := HcN.out.1; have := HLh.out; omega) HcN.out.2
            rw [← HLh.out] at hE4
            obtain ⟨ho5', hE5⟩ := mul_exps (Ho1b.out.alloc _) (Ho6b.out.alloc _) hE4 hg2 hat2
            refine ⟨r, qn + 1, q.app (.c d (f t) .z), _, a1, a2, c1', c2', rfl, by omega, ?_, by rw [T.app_cnt, Hqn.out]; rfl, rfl, rfl, ?_, ho2, hE5, (Hbb.out.alloc hwb _).grown hg2 (by simp; omega) (fun k h => (Ho6b.out.lt k h).1)⟩
            · rw [Hdi.out, Hnx.out, T.app_assoc]; rfl
            · rw [← ints_snoc q (f t) d]; exact ho5'
          have Hfin := Lib.hid hfin
          clear ho2 hg2 hat2 hfin
          go_wp2_with fail
          go_roundw
          case measure => exact rem_measure HRI.out hrm
          case rel => have h9 := Hfin.out; rw [← HRI.out] at h9; exact h9
    · obtain rfl : m = 0 := by omega
      have hrt : q = res := by rw [HR.out, Hdi.out, T.dig_z, T.app_z]
      have hql : qn = q.cnt := Hqn.out.symm
      have k5 := Lib.hid (fun wx (hB : Below wr.heap.size wr wx) => l1Make_any a5 a6 qn c5 c6 q wx (by rw [hrt]; have := Hlen.out; omega) (Ex.of_own (ownsRow_below' Ho6.out hB) (HEF.out.below hB).ec hql) (sum_sl (ownsRow_below' Ho5.out hB) rfl))
      rw [hrt] at k5
      have Hrt := Lib.hid hrt
      clear hrt hql
      go_wp2_with fail
      refine (k5.out _ (Below.refl _ _)).mono ?_
      rintro ee w5 ⟨a3, c3, rfl, ho3, hb5⟩
      have hfin : IntPost w res.enc (.returned (.slice a3 res.enc.length c3)) w5 :=
        ⟨a3, c3, rfl, Joins.ownsRow_le ho3 hws, Hbw.out.trans (hb5.mono hws)⟩
      have Hfin := Lib.hid hfin
      clear ho3 hb5 hfin
      go_wp2_with fail
      go_ret
      exact Hfin.out


end Go.Proofs.Ytfclhepmakhimaa
