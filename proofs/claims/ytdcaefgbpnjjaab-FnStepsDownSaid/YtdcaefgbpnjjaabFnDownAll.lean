/- FnDownAll: one text out of Slow, StepS, SlowS, StepsL, StepsE, DrawS, DownA, DownB, DownM, DownC, DownS, LFnStepsDown. -/
import Derived.Test.YtdcaefgbpnjjaabMost
import Derived.Test.YtdcaefgbpnjjaabStepI
import Derived.Deep.CutBlock
import Derived.Deep.DeepCutAuto
import Derived.Test.YtdcaefgbpnjjaabStepsD
import Derived.Test.YtdcaefgbpnjjaabDraw2
import Derived.Test.YtdcaefgbpnjjaabDrawL
import Derived.Test.YtdcaefgbpnjjaabRange
import Derived.RangeFuncBox
import Derived.Shelf.Abstract
import Derived.TacticsInMore
import Derived.LoopNIn
import Derived.LoopIn
import Derived.Test.YtdcaefgbpnjjaabNatJ
import Derived.Test.YtdcaefgbpnjjaabAddJ
import Derived.Test.YtdcaefgbpnjjaabFn1
/- Slow -/
/- SlowValue: the program's and the model's answers. -/
namespace Go.Proofs.Ytdcaefgbpnjjaab
open Go.RowKit

/-- A power, if it is not too great. -/
def powI (b v : Nat) : Int := if b ^ v ≤ 1000000000 then ((b ^ v : Nat) : Int) else -1
theorem powI_le {b v : Nat} (h : b ^ v ≤ 1000000000) : powI b v = ((b ^ v : Nat) : Int) := if_pos h
theorem powI_gt {b v : Nat} (h : 1000000000 < b ^ v) : powI b v = -1 := if_neg (by omega)
theorem pow_step (b k : Nat) : b ^ (k + 1) = b ^ k * b := Nat.pow_succ b k
theorem pow_more {b : Nat} (hb : 1 ≤ b) {k v : Nat} (h : k ≤ v) : b ^ k ≤ b ^ v := Nat.pow_le_pow_right hb h

theorem wrap_in {n : Int} (h : -9223372036854775808 ≤ n) (h2 : n ≤ 9223372036854775807) : wrap64 n = n := by unfold wrap64; omega

set_option maxHeartbeats 1000000 in
theorem powerOf_any (b v : Nat) (w : World) (hb1 : 1 ≤ b) (hb2 : b ≤ 99) (hv : v ≤ 1000000000) :
    Calls Try.prog 81 #[.int .i64 b, .int .i64 v] w fun e w' => e = .returned (.int .i64 (powI b v)) ∧ w = w' := by
  have hn : ¬ ((v : Int) < 0) := by omega
  by_cases h1 : b = 1
  · have hr : powI b v = 1 := by rw [h1, powI_le (by simp)]; simp
    have hz : ((b : Int) == 1) = true := by rw [h1]; rfl
    rw [hr]
    clear h1 hr
    go_enter Try.func81, Try.ntmps81
    go_wp2_with fail
    go_ret
    exact ⟨rfl, rfl⟩
  · have hz : ((b : Int) == 1) = false := by simp; omega
    go_enter Try.func81, Try.ntmps81
    go_wp2_with fail
    go_loop [5, 11] (fun p i => ∃ (k x : Nat), k ≤ v ∧ x ≤ 1000000000 ∧ Hid (x = b ^ k) ∧ p = .int .i64 x ∧ i = .int .i64 k) (fun _ i => v - (intOf i).toNat)
    case atStart => exact ⟨0, 1, Nat.zero_le _, by omega, Lib.hid (by simp), rfl, rfl⟩
    case round =>
      obtain ⟨k, x, hk, hx, HX, rfl, rfl⟩ := hrel
      by_cases hlt : k < v
      · have hqc : (1000000000 : Int) / (b : Int) = ((1000000000 / b : Nat) : Int) := rfl
        have hq : wrap64 (1000000000 / (b : Int)) = 1000000000 / (b : Int) := by
          have h2 : 1000000000 / b ≤ 1000000000 := Nat.div_le_self _ _
          have h3 : ∀ q : Nat, q ≤ 1000000000 → wrap64 (q : Int) = q := fun q h => wrap_in (by omega) (by omega)
          rw [hqc]
          exact h3 _ h2
        by_cases hg : 1000000000 / b < x
        · have hlarge : 1000000000 < b ^ v := by
            have h2 : 1000000000 < x * b := (Nat.div_lt_iff_lt_mul (by omega)).1 hg
            have h3 : b ^ (k + 1) ≤ b ^ v := pow_more hb1 (by omega)
            rw [pow_step, ← HX.out] at h3
            omega
          have HL := Lib.hid hlarge
          have hgi : (1000000000 : Int) / (b : Int) < (x : Int) := by rw [hqc]; omega
          clear hlarge hqc
          go_wp2_with fail
          go_ret
          exact ⟨ret_int (by rw [powI_gt HL.out]), rfl⟩
        · have hle : x * b ≤ 1000000000 := by
            have h2 := mt (Nat.div_lt_iff_lt_mul (show 0 < b by omega)).2 hg
            omega
          have hgi : ¬ (1000000000 : Int) / (b : Int) < (x : Int) := by rw [hqc]; omega
          clear hqc
          go_wp2_with fail
          go_round
          case rel => exact ⟨k + 1, x * b, by omega, hle, Lib.hid (by rw [pow_step, HX.out]), by go_num, by go_num⟩
          case measure => simp [intOf]; omega
      · obtain rfl : k = v := by omega
        have HR := Lib.hid (show powI b k = (x : Int) by rw [powI_le (by rw [← HX.out]; exact hx), ← HX.out])
        go_wp2_with fail
        go_ret
        exact ⟨ret_int HR.out.symm, rfl⟩

theorem powerOf_neg (b : Nat) (w : World) :
    Calls Try.prog 81 #[.int .i64 b, .int .i64 (-1)] w fun e w' => e = .returned (.int .i64 (-1)) ∧ w = w' := by
  go_enter Try.func81, Try.ntmps81
  go_wp2_with fail
  go_ret
  exact ⟨rfl, rfl⟩

/-- The value of a part, ahead. -/
theorem T.slow_part {b : Nat} {d e r t : T} {x : Int} (h : d.app (.c x e r) = t) : t.slow b = d.slow b + (x.toNat * b ^ e.slow b + r.slow b) := by
  rw [← h, T.slow_app]; rfl
theorem T.slowI_le {b : Nat} {t : T} (h : t.slow b ≤ 1000000000) : T.slowI b t = (t.slow b : Int) := if_pos h
theorem T.slowI_gt {b : Nat} {t : T} (h : 1000000000 < t.slow b) : T.slowI b t = -1 := if_neg (by omega)

set_option maxHeartbeats 2000000 in
theorem valueOf_any (v : Nat) (hv1 : 1 ≤ v) (hv2 : v ≤ 99) (N : Nat) : ∀ (b off n cap : Nat) (t : T) (w : World), t.body.length < N → n = t.enc.length → n ≤ 60 → n ≤ cap → cap ≤ maxLen → At w b off t.enc → t.Nf →
    Calls Try.prog 63 #[.slice (some ⟨b, off, none⟩) n cap, .int .i64 v] w fun e w' => e = .returned (.int .i64 (T.slowI v t)) ∧ Below w.heap.size w w' := by
  induction N with
  | zero => intro b off n cap t w h; omega
  | succ N ih =>
    intro b off n cap t w hN hn hb hc hm hat hnf
    have IH := Lib.hid ih
    have HA := Lib.hid hat
    have Hn := Lib.hid hn
    have HN := Lib.hid hN
    have HF := Lib.hid hnf
    have kt := Lib.hid (termsOf_any b off n cap t.enc t w hn.symm (by omega) hc hm hat rfl)
    clear ih hN hn hat hnf
    go_enter Try.func63, Try.ntmps63
    go_wp2_with fail
    refine (kt.out).mono ?_
    rintro ee w1 ⟨cs, rfl, ho, hT, hb1⟩
    obtain ⟨cn, hcn⟩ : ∃ cn, cn = t.cnt := ⟨_, rfl⟩
    rw [← hcn] at ho ⊢
    have hcb : cn ≤ 60 := by have := T.cnt_le t; have := T.enc_len t; have := Hn.out; omega
    obtain ⟨g, hg⟩ : ∃ g, g = w.heap.size := ⟨_, rfl⟩
    rw [← hg] at ho ⊢
    have Hcn := Lib.hid hcn
    have Hg := Lib.hid hg
    have Hb1 := Lib.hid hb1
    have Ho := Lib.hid ho
    have HTc := Lib.hid hT
    clear hcn hg hb1 ho hT
    go_wp2_with fail
    go_loopw [5, 12] (fun v2 v8 wr => ∃ (i s : Nat) (d u : T), i ≤ cn ∧ s ≤ 1000000000 ∧ Hid (d.app u = t ∧ d.cnt = i ∧ i + u.cnt = cn ∧ s = d.slow v) ∧ v8 = .int .i64 i ∧ v2 = .int .i64 s ∧ Below w1.heap.size w1 wr) (fun _ i _ => cn - (intOf i).toNat)
    case atStart => exact ⟨0, 0, .z, t, Nat.zero_le _, Nat.zero_le _, ⟨rfl, rfl, by have := Hcn.out; omega, rfl⟩, rfl, rfl, Below.refl _ _⟩
    case round =>
      obtain ⟨i, s, d, u, hi, hs, HU, rfl, rfl, hbr⟩ := hrel
      obtain ⟨h1, h2, h3, h4⟩ := HU.out
      have hsr := hbr.size
      by_cases hlt : i < cn
      · obtain ⟨x, e, r, rfl⟩ : ∃ x e r, u = .c x e r := T.cnt_pos (by omega)
        obtain ⟨be, oe, ce, p1, p2, p3, p4, p5⟩ := HTc.out.pick h1 h2
        have hg1 : g < w1.heap.size := (Ho.out.lt g rfl).2
        have y0 : wr.cell? ⟨g, i * 2, none⟩ = some (.int .i64 x) := (hbr.cell (p := ⟨g, i * 2, none⟩) hg1).trans ((Ho.out.cellAt (i * 2) (by omega)).trans (by rw [Nat.mul_comm]; exact p1))
        have y1 : wr.cell? ⟨g, i * 2 + 1, none⟩ = some (.slice (some ⟨be, oe, none⟩) e.enc.length ce) := (hbr.cell (p := ⟨g, i * 2 + 1, none⟩) hg1).trans ((Ho.out.cellAt (i * 2 + 1) (by omega)).trans (by rw [Nat.mul_comm]; exact p2))
        have hpl := T.part_len h1
        obtain ⟨q1, q2, q3⟩ := T.part_nf h1 HF.out
        obtain ⟨W, hW⟩ : ∃ W, W = wr.alloc (.cells #[.int .i64 x, .slice (some ⟨be, oe, none⟩) e.enc.length ce] 72) := ⟨_, rfl⟩
        have hbW : Below w1.heap.size w1 W := by rw [hW]; exact hbr.alloc hsr _
        have hatW : At W be oe e.enc := p3.below hbW (p3.lt (T.enc_ne e))
        have z0 : W.cell? ⟨wr.heap.size, 0, none⟩ = some (.int .i64 x) := by rw [hW, Joins.cell_alloc_mark_at _ _ _ _ _ _ rfl]; rfl
        have z1 : W.cell? ⟨wr.heap.size, 1, none⟩ = some (.slice (some ⟨be, oe, none⟩) e.enc.length ce) := by rw [hW, Joins.cell_alloc_mark_at _ _ _ _ _ _ rfl]; rfl
        have hwl : wr.heap.size < W.heap.size := by rw [hW]; simp
        have hel : e.enc.length ≤ 60 := by have := Hn.out; have := T.enc_len t; omega
        have kt2 := Lib.hid (IH.out be oe e.enc.length ce e W (by have := HN.out; omega) rfl hel p4 p5 hatW q3)
        have hecn : e.cnt ≤ 60 := by have := T.cnt_le e; have := T.enc_len e; omega
        have hsp := T.slow_part (b := v) h1
        have HSP := Lib.hid hsp
        have Q3 := Lib.hid q3
        have HW := Lib.hid hW.symm
        have HbW := Lib.hid hbW
        clear h1 h2 h3 h4 p1 p2 p3 p4 p5 hbW hatW hbr hW hpl hel hsp q3
        by_cases hv : 1000000000 < e.slow v
        · have hbig : 1000000000 < t.slow v := by
            have h5 := T.slow_exp hv1 q1 Q3.out hecn hv
            have h6 := HSP.out
            simp only [T.slow, Nat.add_zero] at h5
            omega
          have HB := Lib.hid hbig
          rw [T.slowI_gt hv] at kt2
          clear hv hbig
          go_wp2_with fail
          rw [HW.out]
          refine (kt2.out).mono ?_
          rintro ee w2 ⟨rfl, hb2⟩
          have hb2' := HbW.out.trans (hb2.mono HbW.out.size)
          have k4 := Lib.hid (powerOf_neg v w2)
          have z0' := (hb2.cell (p := ⟨wr.heap.size, 0, none⟩) hwl).trans z0
          have HB2 := Lib.hid hb2'
          clear hb2 hb2'
          go_wp2_with fail
          refine (k4.out).mono ?_
          rintro ee w3 ⟨rfl, rfl⟩
          go_wp2_with fail
          go_ret
          exact ⟨ret_int (T.slowI_gt HB.out).symm, by have := Hb1.out.trans (HB2.out.mono Hb1.out.size); exact this⟩
        · have hpe : e.slow v ≤ 1000000000 := by omega
          obtain ⟨ev, hev⟩ : ∃ ev, ev = e.slow v := ⟨_, rfl⟩
          rw [T.slowI_le hpe, ← hev] at kt2
          rw [← hev] at hpe
          have Hev := Lib.hid hev
          clear hev hv
          by_cases hp : 1000000000 < v ^ ev
          · have hbig : 1000000000 < t.slow v := by
              have h6 := HSP.out
              rw [← Hev.out] at h6
              have h7 : 1 * v ^ ev ≤ x.toNat * v ^ ev := Nat.mul_le_mul_right _ (by omega)
              omega
            have HB := Lib.hid hbig
            have HP := Lib.hid hp
            clear hp hbig
            go_wp2_with fail
            rw [HW.out]
            refine (kt2.out).mono ?_
            rintro ee w2 ⟨rfl, hb2⟩
            have hb2' := HbW.out.trans (hb2.mono HbW.out.size)
            have k4 := Lib.hid (powerOf_any v ev w2 hv1 hv2 hpe)
            rw [powI_gt HP.out] at k4
            have z0' := (hb2.cell (p := ⟨wr.heap.size, 0, none⟩) hwl).trans z0
            have HB2 := Lib.hid hb2'
            clear hb2 hb2'
            go_wp2_with fail
            refine (k4.out).mono ?_
            rintro ee w3 ⟨rfl, rfl⟩
            go_wp2_with fail
            go_ret
            exact ⟨ret_int (T.slowI_gt HB.out).symm, by have := Hb1.out.trans (HB2.out.mono Hb1.out.size); exact this⟩
          · obtain ⟨P, hP⟩ : ∃ P, P = v ^ ev := ⟨_, rfl⟩
            have hp1 : P ≤ 1000000000 := by omega
            have HP := Lib.hid hP
            have hp0 : ¬ ((P : Int) < 0) := by omega
            have hx0 : ¬ x = 0 := by omega
            have hdv : ((1000000000 : Int) - (s : Int)) / x = (((1000000000 - s) / x.toNat : Nat) : Int) := by
              have h7 : ((1000000000 : Int) - (s : Int)) = ((1000000000 - s : Nat) : Int) := by omega
              have h8 : x = ((x.toNat : Nat) : Int) := by omega
              rw [h7]
              conv => lhs; rw [h8]
              rfl
            have hdl : (1000000000 - s) / x.toNat ≤ 1000000000 := Nat.le_trans (Nat.div_le_self _ _) (Nat.sub_le _ _)
            have hdw : wrap64 (((1000000000 : Int) - (s : Int)) / x) = ((1000000000 : Int) - (s : Int)) / x := by
              have h3 : ∀ q : Nat, q ≤ 1000000000 → wrap64 (q : Int) = q := fun q h => wrap_in (by omega) (by omega)
              rw [hdv]; exact h3 _ hdl
            by_cases hd : (1000000000 - s) / x.toNat < P
            · have hbig : 1000000000 < t.slow v := by
                have h6 := HSP.out
                rw [← Hev.out, ← HP.out] at h6
                have h7 := (Nat.div_lt_iff_lt_mul (show 0 < x.toNat by omega)).1 hd
                rw [Nat.mul_comm] at h7
                have h8 := HU.out.2.2.2
                omega
              have HB := Lib.hid hbig
              have hgi : ((1000000000 : Int) - (s : Int)) / x < (P : Int) := by rw [hdv]; exact Int.ofNat_lt.2 hd
              clear hp hbig hd hdv hdl hP
              go_wp2_with fail
              rw [HW.out]
              refine (kt2.out).mono ?_
              rintro ee w2 ⟨rfl, hb2⟩
              have hb2' := HbW.out.trans (hb2.mono HbW.out.size)
              have k4 := Lib.hid (powerOf_any v ev w2 hv1 hv2 hpe)
              rw [powI_le (by rw [← HP.out]; exact hp1), ← HP.out] at k4
              have z0' := (hb2.cell (p := ⟨wr.heap.size, 0, none⟩) hwl).trans z0
              have HB2 := Lib.hid hb2'
              clear hb2 hb2'
              go_wp2_with fail
              refine (k4.out).mono ?_
              rintro ee w3 ⟨rfl, rfl⟩
              go_wp2_with fail
              go_ret
              exact ⟨ret_int (T.slowI_gt HB.out).symm, by have := Hb1.out.trans (HB2.out.mono Hb1.out.size); exact this⟩
            · have hfit : x.toNat * P ≤ 1000000000 - s := by
                have h7 := mt (Nat.div_lt_iff_lt_mul (show 0 < x.toNat by omega)).2 hd
                rw [Nat.mul_comm]
                omega
              have hxP : x * (P : Int) = ((x.toNat * P : Nat) : Int) := by
                have h8 : x = ((x.toNat : Nat) : Int) := by omega
                conv => lhs; rw [h8]
                exact (Int.natCast_mul _ _).symm
              obtain ⟨X, hX⟩ : ∃ X, X = x.toNat * P := ⟨_, rfl⟩
              rw [← hX] at hfit hxP
              have HX := Lib.hid hX
              have hgi : ¬ ((1000000000 : Int) - (s : Int)) / x < (P : Int) := by rw [hdv]; exact fun h => hd (Int.ofNat_lt.1 h)
              have hwm : wrap64 (x * (P : Int)) = (X : Int) := by rw [hxP]; exact wrap_in (by omega) (by omega)
              clear hp hd hdv hdl hP hX
              go_wp2_with fail
              rw [HW.out]
              refine (kt2.out).mono ?_
              rintro ee w2 ⟨rfl, hb2⟩
              have hb2' := HbW.out.trans (hb2.mono HbW.out.size)
              have k4 := Lib.hid (powerOf_any v ev w2 hv1 hv2 hpe)
              rw [powI_le (by rw [← HP.out]; exact hp1), ← HP.out] at k4
              have z0' := (hb2.cell (p := ⟨wr.heap.size, 0, none⟩) hwl).trans z0
              have HB2 := Lib.hid hb2'
              clear hb2 hb2'
              go_wp2_with fail
              refine (k4.out).mono ?_
              rintro ee w3 ⟨rfl, rfl⟩
              go_wp2_with fail
              go_roundw
              case rel =>
                obtain ⟨h1, h2, h3, h4⟩ := HU.out
                refine ⟨i + 1, s + X, d.app (.c x e .z), r, by omega, by omega, ⟨by rw [T.app_assoc]; exact h1, by rw [T.app_cnt, h2]; rfl, by simp only [T.cnt] at h3; omega, ?_⟩, by go_num, by go_num, HB2.out⟩
                rw [T.slow_app, ← h4, HX.out, HP.out, Hev.out]
                simp only [T.slow, Nat.add_zero]
              case measure => simp [intOf]; omega
      · have hu : u = .z := T.cnt_zero (by omega)
        subst hu
        have hdt : d = t := by rw [T.app_z] at h1; exact h1
        subst hdt
        have HR := Lib.hid (show T.slowI v d = (s : Int) by rw [T.slowI_le (by omega), h4])
        clear h1 h2 h3 h4
        go_wp2_with fail
        go_ret
        exact ⟨ret_int HR.out.symm, by have := Hb1.out.trans (hbr.mono Hb1.out.size); exact this⟩

theorem T.slowRow_bad {xs : List Int} {n : Int} (h : T.vldB xs = false ∨ n < 1 ∨ 99 < n) : T.slowRow xs n = -1 := by
  rw [T.slowRow, if_neg]
  rintro ⟨h1, h2, h3⟩
  rcases h with h | h | h
  · rw [h] at h1; cases h1
  · omega
  · omega

theorem impl_SlowValue (ao : Option Addr) (len cap : Nat) (xs : List Int) (n : Int) (w : World) (h : Sl w ao len cap xs) (hn0 : -9223372036854775808 ≤ n) (hn1 : n ≤ 9223372036854775807) :
    Calls Try.prog 28 #[.slice ao len cap, .int .i64 n] w fun e w' => e = .returned (.int .i64 (T.slowRow xs n)) ∧ Below w.heap.size w w' := by
  rcases vld_tf xs with h1 | h1
  · have k1 := Lib.hid (impl_valid ao len cap xs w h h1)
    by_cases hout : n < 1 ∨ 99 < n
    · have hr := T.slowRow_bad (xs := xs) (n := n) (.inr hout)
      rw [hr]
      clear h h1 hr
      by_cases h0 : n < 1
      · clear hout
        go_enter Try.func28, Try.ntmps28
        go_wp2_with fail
        refine (k1.out).mono ?_
        rintro ee w1 ⟨rfl, hb1⟩
        have Hb1 := Lib.hid hb1
        clear hb1
        go_wp2_with fail
        go_ret
        exact ⟨rfl, Hb1.out⟩
      · have h9 : 99 < n := by omega
        have h0' : decide (n < 1) = false := by simp; omega
        clear hout
        go_enter Try.func28, Try.ntmps28
        go_wp2_with fail
        refine (k1.out).mono ?_
        rintro ee w1 ⟨rfl, hb1⟩
        have Hb1 := Lib.hid hb1
        clear hb1
        go_wp2_with fail
        go_ret
        exact ⟨rfl, Hb1.out⟩
    · obtain ⟨k, rfl⟩ := Int.eq_ofNat_of_zero_le (show 0 ≤ n by omega)
      have hk1 : decide ((k : Int) < 1) = false := decide_eq_false (by omega)
      have hk2 : decide ((99 : Int) < (k : Int)) = false := decide_eq_false (by omega)
      have hk3 : ¬ ((99 : Int) < (k : Int)) := by omega
      have hk4 : ¬ ((k : Int) < 1) := by omega
      obtain ⟨b, off, t, rfl, rfl, hs, hos, hat, hn, hl, hp, hc, hm⟩ := h.valid h1
      have hr : T.slowRow t.enc (k : Int) = T.slowI k t := by rw [T.slowRow, if_pos ⟨h1, by omega, by omega⟩, hos]; rfl
      rw [hr]
      have HA := Lib.hid hat
      have HN := Lib.hid hn
      have HS := Lib.hid hs
      have hkk : 1 ≤ k ∧ k ≤ 99 := by omega
      have HK := Lib.hid hkk
      clear h h1 hos hs hat hn hr hout hkk hn0 hn1
      go_enter Try.func28, Try.ntmps28
      go_wp2_with fail
      refine (k1.out).mono ?_
      rintro ee w1 ⟨rfl, hb1⟩
      have Hb1 := Lib.hid hb1
      have k2 := Lib.hid (valueOf_any k HK.out.1 HK.out.2 (t.body.length + 1) b off len cap t w1 (by omega) HN.out hl hc hm (HA.out.below hb1 (HA.out.lt (T.enc_ne t))) HS.out)
      clear hb1
      go_wp2_with fail
      refine (k2.out).mono ?_
      rintro ee w2 ⟨rfl, hb2⟩
      have Hb2 := Lib.hid (Hb1.out.trans (hb2.mono Hb1.out.size))
      clear hb2
      go_wp2_with fail
      go_ret
      exact ⟨rfl, Hb2.out⟩
  · have k1 := Lib.hid (impl_valid ao len cap xs w h h1)
    have hr := T.slowRow_bad (xs := xs) (n := n) (.inl h1)
    rw [hr]
    clear h h1 hr
    go_enter Try.func28, Try.ntmps28
    go_wp2_with fail
    refine (k1.out).mono ?_
    rintro ee w1 ⟨rfl, hb1⟩
    have Hb1 := Lib.hid hb1
    clear hb1
    go_wp2_with fail
    go_ret
    exact ⟨rfl, Hb1.out⟩
end Go.Proofs.Ytdcaefgbpnjjaab

/- StepS -/
/- OrdStep of the model. -/
namespace Go.Proofs.Ytdcaefgbpnjjaab
open Go.RowKit

def RowPost (w : World) (t : T) (e : Ending) (w' : World) : Prop :=
  ∃ a c, e = .returned (.slice a t.enc.length c) ∧ w'.ownsRow w.heap.size 3 1 (.slice a t.enc.length c) t.enc.length (ints t.enc) ∧ Below w.heap.size w w'

/-- The front of a row, read once more behind a new block. -/
theorem own_front {w : World} {B e n g c : Nat} {xs : List Value} (h : w.ownsRow B e 1 (.slice (some ⟨g, 0, none⟩) n c) n xs) (o : Obj) (k : Nat) :
    ∀ j u, (xs.take k)[j]? = some u → (w.alloc o).cell? ((⟨g, 0, none⟩ : Addr).add j) = some u := by
  intro j u hj
  rw [List.getElem?_take] at hj
  split at hj
  · have hl : j < xs.length := (List.getElem?_eq_some_iff.1 hj).1
    rw [Addr.add_lit, World.cell?_alloc_past _ _ _ (h.lt g rfl).2, Nat.zero_add, h.cellAt j (by rw [h.1] at hl; exact hl)]
    exact hj
  · cases hj

theorem ec_one' {w : World} {t : T} {es : List Value} (h : EC w t es) : ∀ u ∈ es, u.oneCell' = true := by
  induction t generalizing es with
  | z => simp only [EC] at h; subst h; intro u hu; cases hu
  | c n e r _ ih =>
    obtain ⟨b, off, cap, es', rfl, _, _, _, h⟩ := h
    intro u hu
    rcases List.mem_cons.1 hu with rfl | hu
    · rfl
    · exact ih h u hu

/-- The head of the terms that are left. -/
def HeadRel (w1 : World) (s : T) (v8 v9 : Value) (wx : World) : Prop :=
  ∃ a8 c8 a9 c9 es, v8 = .slice a8 s.cnt c8 ∧ v9 = .slice a9 s.cnt c9 ∧ wx.ownsRow w1.heap.size 3 1 (.slice a8 s.cnt c8) s.cnt (ints s.times) ∧
    wx.ownsRow w1.heap.size 23 1 (.slice a9 s.cnt c9) s.cnt es ∧ EC w1 s es ∧ Below w1.heap.size w1 wx

theorem T.kind_last {d f t : T} {m : Int} (h : t = d.app (.c m f .z)) : t.kind = if f.cnt = 0 then 1 else 2 := by rw [h, T.kind_app]

set_option maxRecDepth 100000 in
set_option maxHeartbeats 4000000 in
theorem l3Step_any (k : Int) (hk0 : 0 ≤ k) (N : Nat) : ∀ (b off n cap : Nat) (t : T) (w : World), t.body.length < N → n = t.enc.length → n ≤ 60 → n ≤ cap → cap ≤ maxLen → At w b off t.enc → t.Nf →
    Calls Try.prog 50 #[.slice (some ⟨b, off, none⟩) n cap, .int .i64 k] w (RowPost w (t.step k)) := by
  induction N with
  | zero => intro b off n cap t w h; omega
  | succ N ih =>
    intro b off n cap t w hN hn hb hc hm hat hnf
    obtain ⟨i0, hi, hz0, hz1, hz2⟩ := info_parts info_int
    obtain ⟨j0, hj, hy0, hy1, hy2⟩ := info_parts info_ints
    have IH := Lib.hid ih
    have HA := Lib.hid hat
    have Hn := Lib.hid hn
    have HN := Lib.hid hN
    have HF := Lib.hid hnf
    have kt := Lib.hid (l1Terms_some b off n cap t.enc t w hn.symm (by omega) hc hm hat rfl)
    clear ih hN hn hat hnf
    by_cases htz : t.cnt = 0
    · have Hz := Lib.hid (T.cnt_zero htz)
      rw [htz] at kt
      clear htz
      go_enter Try.func50, Try.ntmps50
      go_wp2_with fail
      refine (kt.out).mono ?_
      rintro ee w1 ⟨g1, k1, g2, k2, es, rfl, ho1, ho2, hE, hb1⟩
      have Hb1 := Lib.hid hb1
      clear ho1 ho2 hE hb1
      go_wp2_with fail
      go_ret
      refine ⟨some ⟨w1.heap.size, 0, none⟩, 1, by rw [Hz.out]; rfl, ?_, Hb1.out.alloc Hb1.out.size _⟩
      rw [Hz.out]
      exact World.ownsRow_lit w1 _ 1 Hb1.out.size (by simp [maxLen]) rfl
    · obtain ⟨d, m, e, hd1, hd2⟩ := T.last_of t (by omega)
      have hst : t.step k = t.less.app (T.tail k e) := by rw [hd1, T.step_app]
      have hls : t.less = if m = 1 then d else d.app (.c (m - 1) e .z) := by rw [hd1, T.less_app]
      obtain ⟨q1, q2, q3⟩ := T.part_nf hd1.symm HF.out
      have hpl := T.part_len hd1.symm
      have hel : e.enc.length ≤ 60 := by have := Hn.out; have := T.enc_len t; omega
      have heN : e.body.length < N := by have := HN.out; omega
      obtain ⟨E, hE⟩ : ∃ E, E = e.step k := ⟨_, rfl⟩
      have HE := Lib.hid hE.symm
      have HEL := Lib.hid (hE ▸ (T.step_small k hel).2.1 : E.enc.length ≤ 1000000000000)
      have HSL := Lib.hid (T.step_small k (show t.enc.length ≤ 60 by have := Hn.out; omega)).2.1
      have HLL := Lib.hid (show t.less.enc.length ≤ 1000000000000 by have := T.less_len t; have := T.enc_len t; have := T.enc_len t.less; have := Hn.out; omega)
      have hlc : t.less.cnt ≤ 60 := by have := T.less_len t; have := T.enc_len t; have := T.cnt_le t.less; have := Hn.out; omega
      have HST := Lib.hid hst
      have HLS := Lib.hid hls
      have Hd1 := Lib.hid hd1
      have HEF := Lib.hid q3
      obtain ⟨cn, hcn⟩ : ∃ cn, cn = t.cnt := ⟨_, rfl⟩
      rw [← hcn] at kt hd2 htz
      have hcl : cn ≤ 60 := by rw [hcn]; have := T.cnt_le t; have := T.enc_len t; have := Hn.out; omega
      have hdc : cn - 1 = d.cnt := by omega
      have HDC := Lib.hid hdc
      have hge : 1 ≤ cn := by omega
      have Hcn := Lib.hid hcn
      have HLC := Lib.hid hlc
      clear hst hls hd1 hpl hE q3 hcn hdc hd2 htz hlc
      go_enter Try.func50, Try.ntmps50
      go_wp2_with fail
      refine (kt.out).mono ?_
      rintro ee w1 ⟨g1, k1, g2, k2, es, rfl, ho1, ho2, hE, hb1⟩
      have hEt := hE.below hb1
      rw [Hd1.out] at hEt
      obtain ⟨be, oe, ce, p2, p3, p4, p5⟩ := hEt.pick (d := d) (k := d.cnt) rfl rfl
      have hl1 : g1 < w1.heap.size := (ho1.lt g1 rfl).2
      have hl2 : g2 < w1.heap.size := (ho2.lt g2 rfl).2
      have x1 : w1.cell? ⟨g1, cn - 1, none⟩ = some (.int .i64 m) := by rw [ho1.cellAt _ (by omega), HDC.out, List.getElem?_map, T.times_pick Hd1.out.symm rfl]; rfl
      have x2 : w1.cell? ⟨g2, cn - 1, none⟩ = some (.slice (some ⟨be, oe, none⟩) e.enc.length ce) := by rw [ho2.cellAt _ (by omega), HDC.out]; exact p2
      have hft : (t.times.map (Value.int .i64)).take (cn - 1) = ints d.times := by
        rw [HDC.out]
        have h := T.times_front d (.c m e .z)
        rw [← Hd1.out] at h
        rw [← List.map_take, h]; rfl
      have hn1 := own_front ho1 (.cells #[] 3) (cn - 1)
      rw [hft] at hn1
      have hc1 : cn ≤ k1 ∧ k1 ≤ maxLen := by
        rcases ho1.2 with ⟨h1, _⟩ | ⟨_, _, _, h1, _, _, h3, h4, _⟩
        · cases h1
        · cases h1; exact ⟨h3, h4⟩
      have hc2 : cn ≤ k2 ∧ k2 ≤ maxLen := by
        rcases ho2.2 with ⟨h1, _⟩ | ⟨_, _, _, h1, _, _, h3, h4, _⟩
        · cases h1
        · cases h1; exact ⟨h3, h4⟩
      have hc1a := hc1.1
      have hc2a := hc2.1
      have hec : EC w1 d (es.take (cn - 1)) := by rw [HDC.out]; exact hEt.front
      have hel2 : (es.take (cn - 1)).length = cn - 1 := by rw [hec.length, HDC.out]
      have he1 : ∀ u ∈ es.take (cn - 1), u.oneCell' = true := ec_one' hec
      have HAe := Lib.hid p3
      have Hb01 := Lib.hid hb1
      have Hn1 := Lib.hid hn1
      have Ho2 := Lib.hid ho2
      have HEd := Lib.hid hec
      have Hel2 := Lib.hid hel2
      have He1 := Lib.hid he1
      have Hdl := Lib.hid (show (ints d.times).length = cn - 1 by rw [ints_len, T.times_len, HDC.out])
      clear ho1 ho2 hE hb1 hEt p2 p3 hft hn1 hc1 hc2 hec hel2 he1
      have hlt0 : ¬ ((cn : Int) - 1 < 0) := by omega
      go_upto_if 38 with (first
        | (at_builtin; refine wpList_append_own _ rfl (.tmp 24) (.tmp 27) 23 rfl w1.heap.size 3 i0 (.int .i64 0) 1 8 Try.underlying23 hi hz0 hz1 hz2 rfl (by decide) _ 0 [] rfl (World.ownsRow_lit w1 #[] 0 (Nat.le_refl _) (by simp [maxLen]) rfl) ⟨g1, 0, none⟩ (cn - 1) k1 (ints d.times) rfl (by rw [Hdl.out, Nat.mul_one]) Hn1.out (ints_one _) (by unfold maxLen; omega) (by omega) (by simp) ?_; intro v8 w2 ho8 hg8 _; have hb2 : Below w1.heap.size w1 w2 := ((Below.refl _ _).alloc (Nat.le_refl _) _).grown hg8 (by simp) (fun k hk => by cases hk; exact Nat.le_refl _); have hs2 := hb2.size; have Hn2 := Lib.hid (own_front (ownsRow_below' Ho2.out hb2) (.cells #[] 23) (cn - 1)))
        | (at_builtin; refine wpList_append_own _ rfl (.tmp 29) (.tmp 32) 36 rfl w1.heap.size 23 j0 (.slice none 0 0) 1 24 Try.underlying36 hj hy0 hy1 hy2 rfl (by decide) _ 0 [] rfl (World.ownsRow_lit w2 #[] 0 hs2 (by simp [maxLen]) rfl) ⟨g2, 0, none⟩ (cn - 1) k2 (es.take (cn - 1)) rfl (by rw [Hel2.out, Nat.mul_one]) Hn2.out He1.out (by unfold maxLen; omega) (by omega) (by simp; omega) ?_; intro v9 w3 ho9 hg9 _; have hb3 : Below w1.heap.size w1 w3 := (hb2.alloc hs2 _).grown hg9 (by simp; omega) (fun k hk => by cases hk; exact hs2); have x1' := (hb3.cell (p := ⟨g1, cn - 1, none⟩) hl1).trans x1; have x2' := (hb3.cell (p := ⟨g2, cn - 1, none⟩) hl2).trans x2))
      have hg9' : (w2.alloc (.cells #[] 23)).grownBy w3 (some w2.heap.size) := hg9
      have ho8c := (ho8.alloc (.cells #[] 23)).kept hg9' (.inr (fun he => by have h := (ho8.lt _ he).2; exact absurd h (Nat.lt_irrefl _)))
      rw [Nat.zero_add, List.nil_append] at ho8c ho9
      obtain ⟨a8, c8, rfl, _⟩ := own_form ho8c
      obtain ⟨a9, c9, rfl, _⟩ := own_form ho9
      have Hb3 := Lib.hid hb3
      have hs3 : w1.heap.size ≤ w3.heap.size := hb3.size
      have Ho8 := Lib.hid ho8c
      have Ho9 := Lib.hid ho9
      clear hb2 hs2 Hn2 ho8 hg8 ho9 hg9 hg9' ho8c hb3
      go_cut [8, 9] (fun v8 v9 wx => HeadRel w1 t.less v8 v9 wx)
      case first =>
        by_cases hm1 : m = 1
        · have hd2 : ¬ ((1 : Int) < m) := by omega
          have hl : t.less = d := by rw [HLS.out, if_pos hm1]
          have hfin : HeadRel w1 t.less (.slice a8 (cn - 1) c8) (.slice a9 (cn - 1) c9) w3 := by
            rw [hl]
            have h8 := Ho8.out
            have h9 := Ho9.out
            have hE' := HEd.out
            rw [HDC.out] at h8 h9 hE' ⊢
            exact ⟨a8, c8, a9, c9, _, rfl, rfl, h8, h9, hE', Hb3.out⟩
          have Hfin := Lib.hid hfin
          clear hm1 hl hfin
          go_wp2_with fail
          go_meet
          exact Hfin.out
        · have hl : t.less = d.app (.c (m - 1) e .z) := by rw [HLS.out, if_neg hm1]
          have Hl := Lib.hid hl
          have hd2 : (1 : Int) < m := by omega
          clear hm1 hl
          go_wp2_with (first
            | (at_builtin; refine wpList_append_own _ rfl (.tmp 39) (.tmp 45) 23 rfl w1.heap.size 3 i0 (.int .i64 0) 1 8 Try.underlying23 hi hz0 hz1 hz2 rfl (by decide) _ (cn - 1) (ints d.times) rfl (Ho8.out.alloc _) ⟨w3.heap.size, 0, none⟩ 1 1 [.int .i64 (m - 1)] rfl rfl (cell_one_new _ _ _) (ints_oneCell _ [m - 1]) (by unfold maxLen; omega) (by omega) (by simp; omega) ?_; intro v8 w4 ho8' hg8 _; have hb4 : Below w1.heap.size w1 w4 := (Hb3.out.alloc hs3 _).grown hg8 (by simp; omega) (fun k hk => (Ho8.out.lt k hk).1); have hs4 := hb4.size; have x2q := (hb4.cell (p := ⟨g2, cn - 1, none⟩) hl2).trans x2; have Ho9b := Lib.hid (kept_of Ho9.out hg8 (own_ne Ho9.out Ho8.out (by decide))))
            | (at_builtin; refine wpList_append_own _ rfl (.tmp 47) (.tmp 52) 36 rfl w1.heap.size 23 j0 (.slice none 0 0) 1 24 Try.underlying36 hj hy0 hy1 hy2 rfl (by decide) _ (cn - 1) (es.take (cn - 1)) rfl (Ho9b.out.alloc _) ⟨w4.heap.size, 0, none⟩ 1 1 [.slice (some ⟨be, oe, none⟩) e.enc.length ce] rfl rfl (cell_one_new _ _ _) (slice_oneCell _ _ _) (by unfold maxLen; omega) (by omega) (by simp; omega) ?_; intro v9 w5 ho9' hg9 _))
          have hb5 : Below w1.heap.size w1 w5 := (hb4.alloc hs4 _).grown hg9 (by simp; omega) (fun k hk => (Ho9b.out.lt k hk).1)
          have ho8c := kept_of ho8' hg9 (own_ne ho8' Ho9b.out (by decide))
          have hfin : HeadRel w1 t.less v8 v9 w5 := by
            rw [Hl.out]
            have hE' := HEd.out.snoc (n := m - 1) HAe.out p4 p5
            rw [HDC.out] at ho8c ho9' hE'
            have h6 : ints (d.app (.c (m - 1) e .z)).times = ints d.times ++ [.int .i64 (m - 1)] := by rw [T.times_app]; simp [ints, T.times]
            have hcc : (d.app (.c (m - 1) e .z)).cnt = d.cnt + 1 := by rw [T.app_cnt]; rfl
            obtain ⟨a8', c8', rfl, _⟩ := own_form ho8c
            obtain ⟨a9', c9', rfl, _⟩ := own_form ho9'
            refine ⟨a8', c8', a9', c9', _, ?_, ?_, ?_, ?_, hE', hb5⟩
            · rw [hcc]
            · rw [hcc]
            · rw [hcc, h6]; exact ho8c
            · rw [hcc]; exact ho9'
          have Hfin := Lib.hid hfin
          clear ho8' hg8 hb4 hs4 x2q ho9' hg9 hb5 ho8c hfin
          go_wp2_with fail
          go_meet
          exact Hfin.out
      case rest =>
        obtain ⟨a8, c8, a9, c9, esl, rfl, rfl, ho8, ho9, hEl, hbW⟩ := hcut
        go_step
        obtain ⟨WW, rfl⟩ : ∃ wt : World, wt = wc := ⟨_, rfl⟩
        obtain ⟨ln, hln⟩ : ∃ ln, ln = t.less.cnt := ⟨_, rfl⟩
        rw [← hln] at ho8 ho9 ⊢
        have hlb : ln ≤ 60 := by rw [hln]; exact HLC.out
        have xW := (hbW.cell (p := ⟨g2, cn - 1, none⟩) hl2).trans x2
        have Hln := Lib.hid hln
        have HoW8 := Lib.hid ho8
        have HoW9 := Lib.hid ho9
        have HEl := Lib.hid hEl
        have HbW := Lib.hid hbW
        clear hln ho8 ho9 hEl hbW
        by_cases hez : e.cnt = 0
        · have hze1 : (((e.enc.length : Nat) : Int) == 1) = true := by rw [T.cnt_zero hez]; rfl
          have HK := Lib.hid (show e.kind = 0 by rw [T.cnt_zero hez]; rfl)
          clear hez
          have hstep : t.step k = t.less := by rw [HST.out, T.tail, if_pos HK.out, T.app_z]
          have kmk := Lib.hid (l1Make_any a8 a9 ln c8 c9 t.less WW HLL.out (Ex.of_own HoW9.out (HEl.out.below HbW.out) Hln.out) (Sl.of_own HoW8.out))
          rw [← hstep] at kmk
          have hb0 := Hb01.out.trans (HbW.out.mono Hb01.out.size)
          have Hb0 := Lib.hid hb0
          clear hstep hb0
          go_wp2_with fail
          refine (kmk.out).mono ?_
          rintro ee wr ⟨ar, cr, rfl, hor, hbr⟩
          have hfin : RowPost w (t.step k) (.returned (.slice ar (t.step k).enc.length cr)) wr := ⟨ar, cr, rfl, Joins.ownsRow_le (base' := w.heap.size) hor Hb0.out.size, Hb0.out.trans (hbr.mono Hb0.out.size)⟩
          have Hfin := Lib.hid hfin
          clear hor hbr hfin
          go_wp2_with fail
          go_ret
          exact Hfin.out
        · have hze1 : (((e.enc.length : Nat) : Int) == 1) = false := by
            have h1 := T.enc_len e
            have h2 := T.cnt_le e
            simp; omega
          have kte := Lib.hid (l1Terms_some be oe e.enc.length ce e.enc e WW rfl (by omega) p4 p5 (HAe.out.below HbW.out (HAe.out.lt (T.enc_ne e))) rfl)
          obtain ⟨d', m', f, hf1, hf2⟩ := T.last_of e (by omega)
          have hkl := T.kind_last hf1
          obtain ⟨ecn, hecn⟩ : ∃ ecn, ecn = e.cnt := ⟨_, rfl⟩
          rw [← hecn] at kte hf2 hez
          have hecl : ecn ≤ 60 := by rw [hecn]; have := T.cnt_le e; have := T.enc_len e; omega
          have hege : 1 ≤ ecn := by omega
          have Hkl := Lib.hid hkl
          have Hf1 := Lib.hid hf1
          have Hf2 := Lib.hid hf2
          clear hez hf1 hf2 hkl hecn
          go_wp2_with fail
          refine (kte.out).mono ?_
          rintro ee w4 ⟨gg1, kk1, gg2, kk2, ess, rfl, hoe1, hoe2, hEe, hb4⟩
          rw [Hf1.out] at hEe
          obtain ⟨bf, of, cf, r2, r3, r4, r5⟩ := hEe.pick (d := d') (k := d'.cnt) rfl rfl
          have y2 : w4.cell? ⟨gg2, ecn - 1, none⟩ = some (.slice (some ⟨bf, of, none⟩) f.enc.length cf) := by rw [hoe2.cellAt _ (by omega), show ecn - 1 = d'.cnt by have := Hf2.out; omega]; exact r2
          have Ho48 := Lib.hid (ownsRow_below' HoW8.out hb4)
          have Ho49 := Lib.hid (ownsRow_below' HoW9.out hb4)
          have Hb4 := Lib.hid (HbW.out.trans (hb4.mono HbW.out.size))
          clear hoe1 hoe2 hEe hb4 r2 r3 r4 r5
          by_cases hfz : f.cnt = 0
          · have hzf2 : (((f.enc.length : Nat) : Int) == 1) = true := by rw [T.cnt_zero hfz]; rfl
            have HK := Lib.hid (show e.kind = 1 by rw [Hkl.out, if_pos hfz])
            clear hfz
            by_cases hkz : k = 0
            · have hkb : ¬ ((0 : Int) < k) := by omega
              have HKZ := Lib.hid hkz
              clear hkz
              have hstep : t.step k = t.less := by rw [HST.out, T.tail, if_neg (by rw [HK.out]; decide), if_pos HK.out, if_pos HKZ.out, T.app_z]
              have kmk := Lib.hid (l1Make_any a8 a9 ln c8 c9 t.less w4 HLL.out (Ex.of_own Ho49.out (HEl.out.below Hb4.out) Hln.out) (Sl.of_own Ho48.out))
              rw [← hstep] at kmk
              have hb0 := Hb01.out.trans (Hb4.out.mono Hb01.out.size)
              have Hb0 := Lib.hid hb0
              clear hstep hb0
              go_wp2_with fail
              refine (kmk.out).mono ?_
              rintro ee wr ⟨ar, cr, rfl, hor, hbr⟩
              have hfin : RowPost w (t.step k) (.returned (.slice ar (t.step k).enc.length cr)) wr := ⟨ar, cr, rfl, Joins.ownsRow_le (base' := w.heap.size) hor Hb0.out.size, Hb0.out.trans (hbr.mono Hb0.out.size)⟩
              have Hfin := Lib.hid hfin
              clear hor hbr hfin
              go_wp2_with fail
              go_ret
              exact Hfin.out
            · have hkb : (0 : Int) < k := by omega
              have HKZ := Lib.hid hkz
              clear hkz
              have hstep : t.step k = t.less.app (.c k E .z) := by rw [HST.out, T.tail, if_neg (by rw [HK.out]; decide), if_pos HK.out, if_neg HKZ.out, HE.out]
              have Hst2 := Lib.hid hstep
              have hsW : w1.heap.size ≤ w4.heap.size := Hb4.out.size
              clear hstep
              go_wp2_with (first
                | (at_builtin; refine wpList_append_own _ rfl (.tmp 79) (.tmp 81) 23 rfl w1.heap.size 3 i0 (.int .i64 0) 1 8 Try.underlying23 hi hz0 hz1 hz2 rfl (by decide) _ ln (ints t.less.times) rfl (Ho48.out.alloc _) ⟨w4.heap.size, 0, none⟩ 1 1 [.int .i64 k] rfl rfl (cell_one_new _ _ _) (ints_oneCell _ [k]) (by unfold maxLen; omega) (by omega) (by simp; omega) ?_; intro v5' w5 ho5 hg5 _))
              have hb5 : Below w1.heap.size w1 w5 := (Hb4.out.alloc hsW _).grown hg5 (by simp; omega) (fun k hk => (Ho48.out.lt k hk).1)
              have Ho9b := Lib.hid (kept_of Ho49.out hg5 (own_ne Ho49.out Ho48.out (by decide)))
              have Ho5 := Lib.hid ho5
              have k5 := Lib.hid (IH.out be oe e.enc.length ce e w5 heN rfl hel p4 p5 (HAe.out.below hb5 (HAe.out.lt (T.enc_ne e))) HEF.out)
              unfold RowPost at k5
              rw [HE.out] at k5
              have Hb5 := Lib.hid hb5
              clear ho5 hg5 hb5
              go_wp2_with fail
              refine (k5.out).mono ?_
              rintro ee w6 ⟨a6, c6, rfl, ho6, hb6⟩
              obtain ⟨g6, rfl, hg6, hat6, hc6, hm6⟩ := own_rowT ho6
              have hb06 := Hb5.out.trans (hb6.mono Hb5.out.size)
              have Ho5b := Lib.hid (ownsRow_below' Ho5.out hb6)
              have Ho9c := Lib.hid (ownsRow_below' Ho9b.out hb6)
              have Ho6 := Lib.hid ho6
              have Hb06 := Lib.hid hb06
              have hs06 : w1.heap.size ≤ w6.heap.size := hb06.size
              clear ho6 hb6 hb06 hat6 hg6
              go_wp2_with (first
                | (at_builtin; refine wpList_append_own _ rfl (.tmp 83) (.tmp 87) 36 rfl w1.heap.size 23 j0 (.slice none 0 0) 1 24 Try.underlying36 hj hy0 hy1 hy2 rfl (by decide) _ ln esl rfl (Ho9c.out.alloc _) ⟨w6.heap.size, 0, none⟩ 1 1 [.slice (some ⟨g6, 0, none⟩) E.enc.length c6] rfl rfl (cell_one_new _ _ _) (slice_oneCell _ _ _) (by unfold maxLen; omega) (by omega) (by simp; omega) ?_; intro v7' w7 ho7 hg7 _; have hb7 : Below w1.heap.size w1 w7 := (Hb06.out.alloc hs06 _).grown hg7 (by simp; omega) (fun k hk => (Ho9c.out.lt k hk).1); have hz7 := kept_of Ho6.out hg7 (own_ne Ho6.out Ho9c.out (by decide)); have ho5c := kept_of Ho5b.out hg7 (own_ne Ho5b.out Ho9c.out (by decide)); obtain ⟨g7', hq7, _, hat7, _, _⟩ := own_rowT hz7; simp only [Option.some.injEq, Addr.mk.injEq, and_true] at hq7; subst hq7; obtain ⟨a5, c5, rfl, _⟩ := own_form ho5c; obtain ⟨a7, c7, rfl, _⟩ := own_form ho7; have kmk := Lib.hid (l1Make_any a5 a7 (ln + 1) c5 c7 (t.step k) w7 HSL.out (Ex.of_own ho7 (by rw [Hst2.out]; exact (HEl.out.below hb7).snoc hat7 hc6 hm6) (by rw [Hst2.out, T.app_cnt, Hln.out]; rfl)) (Sl.of_own (by have h := ho5c; rw [Hst2.out, T.times_app]; simpa [ints, T.times] using h)))))
              have hb07 := Hb01.out.trans (hb7.mono Hb01.out.size)
              have Hb07 := Lib.hid hb07
              clear hb7 hz7 ho5c hat7 ho7 hg7 hb07
              go_wp2_with fail
              refine (kmk.out).mono ?_
              rintro ee wr ⟨ar, cr, rfl, hor, hbr⟩
              have hfin : RowPost w (t.step k) (.returned (.slice ar (t.step k).enc.length cr)) wr := ⟨ar, cr, rfl, Joins.ownsRow_le (base' := w.heap.size) hor Hb07.out.size, Hb07.out.trans (hbr.mono Hb07.out.size)⟩
              have Hfin := Lib.hid hfin
              clear hor hbr hfin
              go_wp2_with fail
              go_ret
              exact Hfin.out
          · have hzf2 : (((f.enc.length : Nat) : Int) == 1) = false := by
              have h1 := T.enc_len f
              have h2 := T.cnt_le f
              simp; omega
            have HK := Lib.hid (show e.kind = 2 by rw [Hkl.out, if_neg hfz])
            clear hfz
            have hstep : t.step k = t.less.app (.c 1 E .z) := by rw [HST.out, T.tail, if_neg (by rw [HK.out]; decide), if_neg (by rw [HK.out]; decide), HE.out]
            have Hst2 := Lib.hid hstep
            have hsW : w1.heap.size ≤ w4.heap.size := Hb4.out.size
            clear hstep
            go_wp2_with (first
              | (at_builtin; refine wpList_append_own _ rfl (.tmp 92) (.tmp 93) 23 rfl w1.heap.size 3 i0 (.int .i64 0) 1 8 Try.underlying23 hi hz0 hz1 hz2 rfl (by decide) _ ln (ints t.less.times) rfl (Ho48.out.alloc _) ⟨w4.heap.size, 0, none⟩ 1 1 [.int .i64 1] rfl rfl (cell_one_new _ _ _) (ints_oneCell _ [1]) (by unfold maxLen; omega) (by omega) (by simp; omega) ?_; intro v5' w5 ho5 hg5 _))
            have hb5 : Below w1.heap.size w1 w5 := (Hb4.out.alloc hsW _).grown hg5 (by simp; omega) (fun k hk => (Ho48.out.lt k hk).1)
            have Ho9b := Lib.hid (kept_of Ho49.out hg5 (own_ne Ho49.out Ho48.out (by decide)))
            have Ho5 := Lib.hid ho5
            have k5 := Lib.hid (IH.out be oe e.enc.length ce e w5 heN rfl hel p4 p5 (HAe.out.below hb5 (HAe.out.lt (T.enc_ne e))) HEF.out)
            unfold RowPost at k5
            rw [HE.out] at k5
            have Hb5 := Lib.hid hb5
            clear ho5 hg5 hb5
            go_wp2_with fail
            refine (k5.out).mono ?_
            rintro ee w6 ⟨a6, c6, rfl, ho6, hb6⟩
            obtain ⟨g6, rfl, hg6, hat6, hc6, hm6⟩ := own_rowT ho6
            have hb06 := Hb5.out.trans (hb6.mono Hb5.out.size)
            have Ho5b := Lib.hid (ownsRow_below' Ho5.out hb6)
            have Ho9c := Lib.hid (ownsRow_below' Ho9b.out hb6)
            have Ho6 := Lib.hid ho6
            have Hb06 := Lib.hid hb06
            have hs06 : w1.heap.size ≤ w6.heap.size := hb06.size
            clear ho6 hb6 hb06 hat6 hg6
            go_wp2_with (first
              | (at_builtin; refine wpList_append_own _ rfl (.tmp 95) (.tmp 99) 36 rfl w1.heap.size 23 j0 (.slice none 0 0) 1 24 Try.underlying36 hj hy0 hy1 hy2 rfl (by decide) _ ln esl rfl (Ho9c.out.alloc _) ⟨w6.heap.size, 0, none⟩ 1 1 [.slice (some ⟨g6, 0, none⟩) E.enc.length c6] rfl rfl (cell_one_new _ _ _) (slice_oneCell _ _ _) (by unfold maxLen; omega) (by omega) (by simp; omega) ?_; intro v7' w7 ho7 hg7 _; have hb7 : Below w1.heap.size w1 w7 := (Hb06.out.alloc hs06 _).grown hg7 (by simp; omega) (fun k hk => (Ho9c.out.lt k hk).1); have hz7 := kept_of Ho6.out hg7 (own_ne Ho6.out Ho9c.out (by decide)); have ho5c := kept_of Ho5b.out hg7 (own_ne Ho5b.out Ho9c.out (by decide)); obtain ⟨g7', hq7, _, hat7, _, _⟩ := own_rowT hz7; simp only [Option.some.injEq, Addr.mk.injEq, and_true] at hq7; subst hq7; obtain ⟨a5, c5, rfl, _⟩ := own_form ho5c; obtain ⟨a7, c7, rfl, _⟩ := own_form ho7; have kmk := Lib.hid (l1Make_any a5 a7 (ln + 1) c5 c7 (t.step k) w7 HSL.out (Ex.of_own ho7 (by rw [Hst2.out]; exact (HEl.out.below hb7).snoc hat7 hc6 hm6) (by rw [Hst2.out, T.app_cnt, Hln.out]; rfl)) (Sl.of_own (by have h := ho5c; rw [Hst2.out, T.times_app]; simpa [ints, T.times] using h)))))
            have hb07 := Hb01.out.trans (hb7.mono Hb01.out.size)
            have Hb07 := Lib.hid hb07
            clear hb7 hz7 ho5c hat7 ho7 hg7 hb07
            go_wp2_with fail
            refine (kmk.out).mono ?_
            rintro ee wr ⟨ar, cr, rfl, hor, hbr⟩
            have hfin : RowPost w (t.step k) (.returned (.slice ar (t.step k).enc.length cr)) wr := ⟨ar, cr, rfl, Joins.ownsRow_le (base' := w.heap.size) hor Hb07.out.size, Hb07.out.trans (hbr.mono Hb07.out.size)⟩
            have Hfin := Lib.hid hfin
            clear hor hbr hfin
            go_wp2_with fail
            go_ret
            exact Hfin.out

theorem spec_OrdStep (ao : Option Addr) (len cap : Nat) (xs : List Int) (n : Int) (w : World) (h : Sl w ao len cap xs) (_hn0 : -9223372036854775808 ≤ n) (_hn1 : n ≤ 9223372036854775807) :
    Calls Try.prog 13 #[.slice ao len cap, .int .i64 n] w (OrdOkPost w (T.stepRow xs n) (T.stepOk xs n)) := by
  rcases vld_tf xs with h1 | h1
  · have k1 := Lib.hid (spec_valid ao len cap xs w h h1)
    by_cases hin : 0 ≤ n ∧ n ≤ 99
    · have ks := Lib.hid (fun w => l1In_yes n 0 99 w hin.1 hin.2)
      obtain ⟨b, off, t, rfl, rfl, hs, hos, hat, hn, hl, hp, hc, hm⟩ := h.valid h1
      obtain ⟨e1, e2⟩ := T.stepRow_val h1 hin.1 hin.2
      rw [e1, e2]
      have HA := Lib.hid hat
      have HN := Lib.hid hn
      have HS := Lib.hid hs
      have HIN := Lib.hid hin
      obtain ⟨S, hS⟩ : ∃ S, S = t.step n := ⟨_, rfl⟩
      obtain ⟨r, hr⟩ : ∃ r, r = T.fit S := ⟨_, rfl⟩
      obtain ⟨v, hv⟩ : ∃ v, v = T.vldB S.enc := ⟨_, rfl⟩
      rw [← hS, ← hr, ← hv]
      have Hr := Lib.hid hr
      have Hv := Lib.hid hv
      have HSS := Lib.hid hS
      clear h h1 hos hs hat hn hin _hn0 _hn1 e1 e2 hr hv hS
      go_enter Try.func13, Try.ntmps13
      go_wp2_with fail
      refine (k1.out).mono ?_
      rintro ee w1 ⟨rfl, hb1⟩
      have Hb1 := Lib.hid hb1
      have k2 := Lib.hid (l3Step_any n HIN.out.1 (t.body.length + 1) b off len cap t w1 (by omega) HN.out hl hc hm (HA.out.below hb1 (HA.out.lt (T.enc_ne t))) HS.out)
      unfold RowPost at k2
      rw [← HSS.out] at k2
      clear hb1
      go_wp2_with fail
      refine (ks.out _).mono ?_
      rintro ee w2 ⟨rfl, rfl⟩
      go_wp2_with fail
      refine (k2.out).mono ?_
      rintro ee w2 ⟨a2, c2, rfl, ho2, hb2⟩
      have Hb2 := Lib.hid (Hb1.out.trans (hb2.mono Hb1.out.size))
      have k3 := Lib.hid (l2Fit_any a2 c2 S w w2 Hb2.out (Joins.ownsRow_le (base' := w.heap.size) ho2 Hb1.out.size))
      unfold OrdOkPost at k3
      rw [← Hr.out, ← Hv.out] at k3
      clear ho2 hb2
      go_wp2_with fail
      refine (k3.out).mono ?_
      rintro ee w3 ⟨a3, c3, rfl, ho3, hb3⟩
      have Ho3 := Lib.hid ho3
      have Hb3 := Lib.hid hb3
      clear ho3 hb3
      go_wp2_with fail
      go_ret2
      exact ⟨a3, c3, rfl, Ho3.out, Hb3.out⟩
    · have ks := Lib.hid (fun w => l1In_no n 0 99 w (by omega))
      obtain ⟨e1, e2⟩ := T.stepRow_bad (xs := xs) (n := n) (.inr hin)
      rw [e1, e2]
      clear h h1 hin _hn0 _hn1 e1 e2
      go_enter Try.func13, Try.ntmps13
      go_wp2_with fail
      refine (k1.out).mono ?_
      rintro ee w1 ⟨rfl, hb1⟩
      have Hb1 := Lib.hid hb1
      clear hb1
      go_wp2_with fail
      refine (ks.out _).mono ?_
      rintro ee w2 ⟨rfl, rfl⟩
      go_wp2_with fail
      go_ret2
      exact lit_post Hb1.out
  · have k1 := Lib.hid (spec_valid ao len cap xs w h h1)
    obtain ⟨e1, e2⟩ := T.stepRow_bad (xs := xs) (n := n) (.inl h1)
    rw [e1, e2]
    clear h h1 _hn0 _hn1 e1 e2
    go_enter Try.func13, Try.ntmps13
    go_wp2_with fail
    refine (k1.out).mono ?_
    rintro ee w1 ⟨rfl, hb1⟩
    have Hb1 := Lib.hid hb1
    clear hb1
    go_wp2_with fail
    go_ret2
    exact lit_post Hb1.out
end Go.Proofs.Ytdcaefgbpnjjaab

/- SlowS -/
/- SlowValue: the model's answer. -/
namespace Go.Proofs.Ytdcaefgbpnjjaab
open Go.RowKit

set_option maxHeartbeats 1000000 in
theorem l3Raise_any (b v : Nat) (w : World) (hb1 : 1 ≤ b) (hb2 : b ≤ 99) (hv : v ≤ 1000000000) :
    Calls Try.prog 85 #[.int .i64 b, .int .i64 v] w fun e w' => e = .returned (.int .i64 (powI b v)) ∧ w = w' := by
  go_enter Try.func85, Try.ntmps85
  go_wp2_with fail
  go_loop [5, 6] (fun p i => ∃ (k x : Nat), k ≤ v ∧ x ≤ 1000000000 ∧ Hid (x = b ^ k ∧ (b = 1 → k = 0)) ∧ p = .int .i64 x ∧ i = .int .i64 k) (fun _ i => v - (intOf i).toNat)
  case atStart => exact ⟨0, 1, Nat.zero_le _, by omega, Lib.hid (by simp), rfl, rfl⟩
  case round =>
    obtain ⟨k, x, hk, hx, HX, rfl, rfl⟩ := hrel
    by_cases hlt : k < v
    · have hb99 : x * b ≤ 1000000000 * 99 := Nat.mul_le_mul hx hb2
      obtain ⟨y, hy⟩ : ∃ y, y = x * b := ⟨_, rfl⟩
      have hyi : (x : Int) * (b : Int) = (y : Int) := by rw [hy]; exact (Int.natCast_mul _ _).symm
      have hyw : wrap64 ((x : Int) * (b : Int)) = (y : Int) := by rw [hyi]; exact wrap_in (by omega) (by omega)
      have HY := Lib.hid hy
      rw [← hy] at hb99
      clear hy
      by_cases hg : 1000000000 < y
      · have hlarge : 1000000000 < b ^ v := by
          have h3 : b ^ (k + 1) ≤ b ^ v := pow_more hb1 (by omega)
          rw [pow_step, ← HX.out.1, ← HY.out] at h3
          omega
        have HL := Lib.hid hlarge
        have hgi : (1000000000 : Int) < (y : Int) := by omega
        clear hlarge
        go_wp2_with fail
        go_ret
        exact ⟨ret_int (by rw [powI_gt HL.out]), rfl⟩
      · have hgi : ¬ (1000000000 : Int) < (y : Int) := by omega
        by_cases h1 : b = 1
        · have hr : powI b v = 1 := by rw [h1, powI_le (by simp)]; simp
          have HR := Lib.hid hr
          have h2 : (b : Int) < 2 := by omega
          have h3 : (b : Int) = 1 := by omega
          have H3 := Lib.hid h3
          clear hr h1 h3
          go_wp2_with fail
          go_ret
          exact ⟨ret_int (by rw [HR.out]; exact H3.out), rfl⟩
        · have h2 : ¬ (b : Int) < 2 := by omega
          go_wp2_with fail
          go_round
          case rel => exact ⟨k + 1, y, by omega, by omega, Lib.hid ⟨by rw [pow_step, HY.out, HX.out.1], fun h => absurd h h1⟩, by go_num, by go_num⟩
          case measure => simp [intOf]; omega
    · obtain rfl : k = v := by omega
      have HR := Lib.hid (show powI b k = (x : Int) by rw [powI_le (by rw [← HX.out.1]; exact hx), ← HX.out.1])
      go_wp2_with fail
      go_ret
      exact ⟨ret_int HR.out.symm, rfl⟩
set_option maxHeartbeats 2000000 in
theorem l3Value_any (v : Nat) (hv1 : 1 ≤ v) (hv2 : v ≤ 99) (N : Nat) : ∀ (b off n cap : Nat) (t : T) (w : World), t.body.length < N → n = t.enc.length → n ≤ 60 → n ≤ cap → cap ≤ maxLen → At w b off t.enc → t.Nf →
    Calls Try.prog 68 #[.slice (some ⟨b, off, none⟩) n cap, .int .i64 v] w fun e w' => e = .returned (.int .i64 (T.slowI v t)) ∧ Below w.heap.size w w' := by
  induction N with
  | zero => intro b off n cap t w h; omega
  | succ N ih =>
    intro b off n cap t w hN hn hb hc hm hat hnf
    have IH := Lib.hid ih
    have HA := Lib.hid hat
    have Hn := Lib.hid hn
    have HN := Lib.hid hN
    have HF := Lib.hid hnf
    have kt := Lib.hid (l1Terms_some b off n cap t.enc t w hn.symm (by omega) hc hm hat rfl)
    clear ih hN hn hat hnf
    go_enter Try.func68, Try.ntmps68
    go_wp2_with fail
    refine (kt.out).mono ?_
    rintro ee w1 ⟨g1, q1, g2, q2, es, rfl, ho1, ho2, hE, hb1⟩
    obtain ⟨cn, hcn⟩ : ∃ cn, cn = t.cnt := ⟨_, rfl⟩
    rw [← hcn] at ho1 ho2 ⊢
    have hcb : cn ≤ 60 := by have := T.cnt_le t; have := T.enc_len t; have := Hn.out; omega
    have hl1 : g1 < w1.heap.size := (ho1.lt g1 rfl).2
    have hl2 : g2 < w1.heap.size := (ho2.lt g2 rfl).2
    have Hcn := Lib.hid hcn
    have Hb1 := Lib.hid hb1
    have Ho1 := Lib.hid ho1
    have Ho2 := Lib.hid ho2
    have HE := Lib.hid (hE.below hb1)
    clear hcn hb1 ho1 ho2 hE
    go_wp2_with fail
    go_loopw [7, 8] (fun v3 v4 wr => ∃ (i s : Nat) (d u : T), i ≤ cn ∧ s ≤ 1000000000 ∧ Hid (d.app u = t ∧ d.cnt = i ∧ i + u.cnt = cn ∧ s = d.slow v) ∧ v4 = .int .i64 i ∧ v3 = .int .i64 s ∧ Below w1.heap.size w1 wr) (fun _ i _ => cn - (intOf i).toNat)
    case atStart => exact ⟨0, 0, .z, t, Nat.zero_le _, Nat.zero_le _, ⟨rfl, rfl, by have := Hcn.out; omega, rfl⟩, rfl, rfl, Below.refl _ _⟩
    case round =>
      obtain ⟨i, s, d, u, hi, hs, HU, rfl, rfl, hbr⟩ := hrel
      obtain ⟨h1, h2, h3, h4⟩ := HU.out
      have hsr := hbr.size
      by_cases hlt : i < cn
      · obtain ⟨x, e, r, rfl⟩ : ∃ x e r, u = .c x e r := T.cnt_pos (by omega)
        obtain ⟨be, oe, ce, p2, p3, p4, p5⟩ := HE.out.pick h1 h2
        have x1 : wr.cell? ⟨g1, i, none⟩ = some (.int .i64 x) := (hbr.cell (p := ⟨g1, i, none⟩) hl1).trans ((Ho1.out.cellAt i (by omega)).trans (by rw [List.getElem?_map, T.times_pick h1 h2]; rfl))
        have x2 : wr.cell? ⟨g2, i, none⟩ = some (.slice (some ⟨be, oe, none⟩) e.enc.length ce) := (hbr.cell (p := ⟨g2, i, none⟩) hl2).trans ((Ho2.out.cellAt i (by omega)).trans p2)
        have hpl := T.part_len h1
        obtain ⟨z1, z2, z3⟩ := T.part_nf h1 HF.out
        have hatr : At wr be oe e.enc := p3.below hbr (p3.lt (T.enc_ne e))
        have hl1' : g1 < wr.heap.size := Nat.lt_of_lt_of_le hl1 hsr
        have hel : e.enc.length ≤ 60 := by have := Hn.out; have := T.enc_len t; omega
        have kt2 := Lib.hid (IH.out be oe e.enc.length ce e wr (by have := HN.out; omega) rfl hel p4 p5 hatr z3)
        have hecn : e.cnt ≤ 60 := by have := T.cnt_le e; have := T.enc_len e; omega
        have HSP := Lib.hid (T.slow_part (b := v) h1)
        have Q3 := Lib.hid z3
        have Hbr := Lib.hid hbr
        have hi1 : ((i : Nat) : Int) < cn := by omega
        clear h1 h2 h3 h4 p2 p3 p4 p5 hatr hbr hpl hel z3
        by_cases hv : 1000000000 < e.slow v
        · have hbig : 1000000000 < t.slow v := by
            have h5 := T.slow_exp hv1 z1 Q3.out hecn hv
            simp only [T.slow, Nat.add_zero] at h5
            rw [HSP.out]
            exact Nat.lt_of_lt_of_le h5 (Nat.le_trans (Nat.le_add_right _ _) (Nat.le_add_left _ _))
          have HB := Lib.hid hbig
          rw [T.slowI_gt hv] at kt2
          clear hv hbig
          go_wp2_with fail
          refine (kt2.out).mono ?_
          rintro ee w2 ⟨rfl, hb2⟩
          have HB2 := Lib.hid (Hbr.out.trans (hb2.mono Hbr.out.size))
          clear hb2
          go_wp2_with fail
          go_ret
          exact ⟨ret_int (T.slowI_gt HB.out).symm, by have := Hb1.out.trans (HB2.out.mono Hb1.out.size); exact this⟩
        · have hpe : e.slow v ≤ 1000000000 := by omega
          obtain ⟨ev, hev⟩ : ∃ ev, ev = e.slow v := ⟨_, rfl⟩
          rw [T.slowI_le hpe, ← hev] at kt2
          rw [← hev] at hpe
          have Hev := Lib.hid hev
          have hev0 : ¬ ((ev : Int) < 0) := by omega
          clear hev hv
          by_cases hp : 1000000000 < v ^ ev
          · have hbig : 1000000000 < t.slow v := by
              have h8 : 0 < x.toNat := by omega
              have h7 : v ^ ev ≤ x.toNat * v ^ ev := Nat.le_mul_of_pos_left _ h8
              rw [HSP.out, ← Hev.out]
              exact Nat.lt_of_lt_of_le hp (Nat.le_trans h7 (Nat.le_trans (Nat.le_add_right _ _) (Nat.le_add_left _ _)))
            have HB := Lib.hid hbig
            have HP := Lib.hid hp
            clear hp hbig
            go_wp2_with fail
            refine (kt2.out).mono ?_
            rintro ee w2 ⟨rfl, hb2⟩
            have k4 := Lib.hid (l3Raise_any v ev w2 hv1 hv2 hpe)
            rw [powI_gt HP.out] at k4
            have HB2 := Lib.hid (Hbr.out.trans (hb2.mono Hbr.out.size))
            clear hb2
            go_wp2_with fail
            refine (k4.out).mono ?_
            rintro ee w3 ⟨rfl, rfl⟩
            go_wp2_with fail
            go_ret
            exact ⟨ret_int (T.slowI_gt HB.out).symm, by have := Hb1.out.trans (HB2.out.mono Hb1.out.size); exact this⟩
          · obtain ⟨P, hP⟩ : ∃ P, P = v ^ ev := ⟨_, rfl⟩
            have hp1 : P ≤ 1000000000 := by omega
            have HP := Lib.hid hP
            have hp0 : ¬ ((P : Int) < 0) := by omega
            obtain ⟨X, hX⟩ : ∃ X, X = x.toNat * P := ⟨_, rfl⟩
            have hXb : X ≤ 9999000000000 := by rw [hX]; exact Nat.mul_le_mul (show x.toNat ≤ 9999 by omega) hp1
            have hxP : x * (P : Int) = (X : Int) := by
              have h8 : x = ((x.toNat : Nat) : Int) := by omega
              conv => lhs; rw [h8]
              rw [hX]
              exact (Int.natCast_mul _ _).symm
            have HX := Lib.hid hX
            have hwm : wrap64 (x * (P : Int)) = (X : Int) := by rw [hxP]; exact wrap_in (by omega) (by omega)
            have HsX := Lib.hid (show t.slow v = s + (X + r.slow v) by rw [HSP.out, ← Hev.out, ← HP.out, ← hX, ← HU.out.2.2.2])
            by_cases hd : 1000000000 < s + X
            · have HB := Lib.hid (show 1000000000 < t.slow v by rw [HsX.out, ← Nat.add_assoc]; exact Nat.lt_of_lt_of_le hd (Nat.le_add_right _ _))
              have hgi : (1000000000 : Int) < (s : Int) + (X : Int) := by omega
              clear hp hd hP hX
              go_wp2_with fail
              refine (kt2.out).mono ?_
              rintro ee w2 ⟨rfl, hb2⟩
              have k4 := Lib.hid (l3Raise_any v ev w2 hv1 hv2 hpe)
              rw [powI_le (by rw [← HP.out]; exact hp1), ← HP.out] at k4
              have x1' := (hb2.cell (p := ⟨g1, i, none⟩) hl1').trans x1
              have HB2 := Lib.hid (Hbr.out.trans (hb2.mono Hbr.out.size))
              clear hb2
              go_wp2_with fail
              refine (k4.out).mono ?_
              rintro ee w3 ⟨rfl, rfl⟩
              go_wp2_with fail
              go_ret
              exact ⟨ret_int (T.slowI_gt HB.out).symm, by have := Hb1.out.trans (HB2.out.mono Hb1.out.size); exact this⟩
            · have hgi : ¬ (1000000000 : Int) < (s : Int) + (X : Int) := by omega
              clear hp hP hX
              go_wp2_with fail
              refine (kt2.out).mono ?_
              rintro ee w2 ⟨rfl, hb2⟩
              have k4 := Lib.hid (l3Raise_any v ev w2 hv1 hv2 hpe)
              rw [powI_le (by rw [← HP.out]; exact hp1), ← HP.out] at k4
              have x1' := (hb2.cell (p := ⟨g1, i, none⟩) hl1').trans x1
              have HB2 := Lib.hid (Hbr.out.trans (hb2.mono Hbr.out.size))
              clear hb2
              go_wp2_with fail
              refine (k4.out).mono ?_
              rintro ee w3 ⟨rfl, rfl⟩
              go_wp2_with fail
              go_roundw
              case rel =>
                obtain ⟨h1, h2, h3, h4⟩ := HU.out
                refine ⟨i + 1, s + X, d.app (.c x e .z), r, by omega, by omega, ⟨by rw [T.app_assoc]; exact h1, by rw [T.app_cnt, h2]; rfl, by simp only [T.cnt] at h3; omega, ?_⟩, by go_num, by go_num, HB2.out⟩
                rw [T.slow_app, ← h4, HX.out, HP.out, Hev.out]
                simp only [T.slow, Nat.add_zero]
              case measure => simp [intOf]; omega
      · have hu : u = .z := T.cnt_zero (by omega)
        subst hu
        have hdt : d = t := by rw [T.app_z] at h1; exact h1
        subst hdt
        have HR := Lib.hid (show T.slowI v d = (s : Int) by rw [T.slowI_le (by omega), h4])
        clear h1 h2 h3 h4
        go_wp2_with fail
        go_ret
        exact ⟨ret_int HR.out.symm, by have := Hb1.out.trans (hbr.mono Hb1.out.size); exact this⟩

theorem spec_SlowValue (ao : Option Addr) (len cap : Nat) (xs : List Int) (n : Int) (w : World) (h : Sl w ao len cap xs) (hn0 : -9223372036854775808 ≤ n) (hn1 : n ≤ 9223372036854775807) :
    Calls Try.prog 32 #[.slice ao len cap, .int .i64 n] w fun e w' => e = .returned (.int .i64 (T.slowRow xs n)) ∧ Below w.heap.size w w' := by
  rcases vld_tf xs with h1 | h1
  · have k1 := Lib.hid (spec_valid ao len cap xs w h h1)
    by_cases hout : n < 1 ∨ 99 < n
    · have hr := T.slowRow_bad (xs := xs) (n := n) (.inr hout)
      rw [hr]
      have k2 := Lib.hid (fun w => l1In_no n 1 99 w hout)
      clear h h1 hr hout
      go_enter Try.func32, Try.ntmps32
      go_wp2_with fail
      refine (k1.out).mono ?_
      rintro ee w1 ⟨rfl, hb1⟩
      have Hb1 := Lib.hid hb1
      clear hb1
      go_wp2_with fail
      refine (k2.out _).mono ?_
      rintro ee w2 ⟨rfl, rfl⟩
      go_wp2_with fail
      go_ret
      exact ⟨rfl, Hb1.out⟩
    · obtain ⟨k, rfl⟩ := Int.eq_ofNat_of_zero_le (show 0 ≤ n by omega)
      have k2 := Lib.hid (fun w => l1In_yes (k : Int) 1 99 w (by omega) (by omega))
      obtain ⟨b, off, t, rfl, rfl, hs, hos, hat, hn, hl, hp, hc, hm⟩ := h.valid h1
      have hr : T.slowRow t.enc (k : Int) = T.slowI k t := by rw [T.slowRow, if_pos ⟨h1, by omega, by omega⟩, hos]; rfl
      rw [hr]
      have HA := Lib.hid hat
      have HN := Lib.hid hn
      have HS := Lib.hid hs
      have hkk : 1 ≤ k ∧ k ≤ 99 := by omega
      have HK := Lib.hid hkk
      clear h h1 hos hs hat hn hr hout hkk hn0 hn1
      go_enter Try.func32, Try.ntmps32
      go_wp2_with fail
      refine (k1.out).mono ?_
      rintro ee w1 ⟨rfl, hb1⟩
      have Hb1 := Lib.hid hb1
      have k3 := Lib.hid (l3Value_any k HK.out.1 HK.out.2 (t.body.length + 1) b off len cap t w1 (by omega) HN.out hl hc hm (HA.out.below hb1 (HA.out.lt (T.enc_ne t))) HS.out)
      clear hb1
      go_wp2_with fail
      refine (k2.out _).mono ?_
      rintro ee w2 ⟨rfl, rfl⟩
      go_wp2_with fail
      refine (k3.out).mono ?_
      rintro ee w2 ⟨rfl, hb2⟩
      have Hb2 := Lib.hid (Hb1.out.trans (hb2.mono Hb1.out.size))
      clear hb2
      go_wp2_with fail
      go_ret
      exact ⟨rfl, Hb2.out⟩
  · have k1 := Lib.hid (spec_valid ao len cap xs w h h1)
    have hr := T.slowRow_bad (xs := xs) (n := n) (.inl h1)
    rw [hr]
    clear h h1 hr
    go_enter Try.func32, Try.ntmps32
    go_wp2_with fail
    refine (k1.out).mono ?_
    rintro ee w1 ⟨rfl, hb1⟩
    have Hb1 := Lib.hid hb1
    clear hb1
    go_wp2_with fail
    go_ret
    exact ⟨rfl, Hb1.out⟩
end Go.Proofs.Ytdcaefgbpnjjaab

/- StepsL -/
/- What the laws of the third chapter say, on rows. -/
namespace Go.Proofs.Ytdcaefgbpnjjaab
namespace T

theorem mostRow_bad {xs : List Int} (h : vldB xs = false) : mostRow xs = -1 := by rw [mostRow, if_neg (by rw [h]; decide)]
theorem mostRow_val {xs : List Int} (h : vldB xs = true) : mostRow xs = (of xs).most := by rw [mostRow, if_pos h]
theorem mostRow_ok {xs : List Int} (h : vldB xs = true) : 0 ≤ mostRow xs ∧ mostRow xs ≤ 9999 := by
  rw [mostRow_val h]
  exact ⟨most_nonneg _, most_le (nf_of h)⟩
theorem mostRow_bnd (xs : List Int) : -1 ≤ mostRow xs ∧ mostRow xs ≤ 9999 := by
  cases h : vldB xs with
  | false => rw [mostRow_bad h]; omega
  | true => have := mostRow_ok h; omega
theorem mostRow_cases {xs : List Int} (h : vldB xs = true) : (xs = [0] ∧ mostRow xs = 0) ∨ ∃ k m ys, xs = k :: m :: ys ∧ 1 ≤ ys.length ∧ 1 ≤ mostRow xs ∧ m ≤ mostRow xs := by
  have h1 := mostRow_val h
  have h2 := nf_of h
  have h3 := enc_of h
  cases ht : of xs with
  | z =>
    rw [ht] at h1 h3
    exact .inl ⟨h3.symm, h1⟩
  | c n e r =>
    rw [ht] at h1 h2 h3
    have h4 := h2.1
    refine .inr ⟨((c n e r).cnt : Int), n, e.enc ++ r.body, by rw [← h3]; simp [enc, body], by simp [enc], ?_, ?_⟩
    · rw [h1]; simp only [most]; omega
    · rw [h1]; simp only [most]; omega
theorem mostRow_nat {xs zs : List Int} (h : natOk xs zs = true) : mostRow (natRow xs zs) ≤ mostRow xs + mostRow zs := by
  obtain ⟨h1, h2, h3, h4⟩ := natOk_true h
  rw [mostRow_val h1, mostRow_val h2, mostRow_val h3, h4]
  exact nat_most _ _

theorem stepOk_true {xs : List Int} {n : Int} (h : stepOk xs n = true) : vldB xs = true ∧ 0 ≤ n ∧ n ≤ 99 ∧ vldB (stepRow xs n) = true ∧ of (stepRow xs n) = (of xs).step n := by
  have h0 := h
  rw [stepOk, Bool.and_eq_true, Bool.and_eq_true, decide_eq_true_eq] at h
  obtain ⟨h1, ⟨h2, h3⟩, h4⟩ := h
  have h5 : stepRow xs n = ((of xs).step n).enc := by rw [stepRow, if_pos ⟨h1, h2, h3⟩, fit, if_pos h4]
  exact ⟨h1, h2, h3, by rw [h5]; exact h4, by rw [h5, of_enc]⟩
theorem stepOk_false {xs : List Int} {n : Int} (h : stepOk xs n = false) : stepRow xs n = [] := by
  rw [stepRow]
  split
  · rename_i h2
    rw [stepOk, h2.1, decide_eq_true h2.2] at h
    rw [fit, if_neg]
    intro h3
    rw [h3] at h
    cases h
  · rfl
theorem stepRow_zero {n : Int} (h : stepOk [0] n = true) : stepRow [0] n = [0] := by
  obtain ⟨h1, h2, h3, h4, h5⟩ := stepOk_true h
  rw [show ([0] : List Int) = (z : T).enc from rfl, of_enc] at h5
  rw [← enc_of h4]
  rw [show ([0] : List Int) = (z : T).enc from rfl, h5]
  rfl
theorem of_ne {xs : List Int} (h : vldB xs = true) (hz : xs ≠ [0]) : of xs ≠ z := by
  intro h1
  exact hz (by rw [← enc_of h, h1]; rfl)
theorem stepRow_lt {xs : List Int} {n : Int} (h : stepOk xs n = true) (hz : xs ≠ [0]) : cmpRow (stepRow xs n) xs = -1 := by
  obtain ⟨h1, h2, h3, h4, h5⟩ := stepOk_true h
  rw [cmpRow_val h4 h1, h5]
  exact step_lt n (of_ne h1 hz)
theorem kindRow_val {xs : List Int} (h : vldB xs = true) : kindRow xs = (of xs).kind := by rw [kindRow, if_pos h]
theorem stepRow_mono {xs : List Int} {n : Int} (h : stepOk xs n = true) (h' : stepOk xs (n + 1) = true) (hk : kindRow xs = 2) : cmpRow (stepRow xs n) (stepRow xs (n + 1)) = -1 := by
  obtain ⟨h1, h2, h3, h4, h5⟩ := stepOk_true h
  obtain ⟨_, _, _, k4, k5⟩ := stepOk_true h'
  rw [cmpRow_val h4 k4, h5, k5]
  exact step_mono h2 (by rw [← kindRow_val h1]; exact hk)
theorem stepRow_over {xs zs : List Int} {n : Int} (h : stepOk xs n = true) (hk : kindRow xs = 2) (hz : vldB zs = true) (hm : mostRow zs < n) (hc : cmpRow zs xs = -1) : cmpRow zs (stepRow xs n) = -1 := by
  obtain ⟨h1, h2, h3, h4, h5⟩ := stepOk_true h
  rw [cmpRow_val hz h1] at hc
  rw [cmpRow_val hz h4, h5]
  have h6 := mostRow_ok hz
  rw [mostRow_val hz] at hm h6
  exact step_over (by omega) (nf_of h1) (by rw [← kindRow_val h1]; exact hk) _ (nf_of hz) hm hc

/-- SlowValue, where there is one. -/
theorem slowRow_vals (xs : List Int) (n : Int) : slowRow xs n = -1 ∨ 0 ≤ slowRow xs n ∧ slowRow xs n ≤ 1000000000 := by
  rw [slowRow]
  split
  · rw [slowI]
    split
    · right; omega
    · left; rfl
  · left; rfl
theorem slowRow_some {xs : List Int} {n : Int} (h : 0 ≤ slowRow xs n) : vldB xs = true ∧ 1 ≤ n ∧ n ≤ 99 ∧ (of xs).slow n.toNat ≤ 1000000000 ∧ slowRow xs n = ((of xs).slow n.toNat : Int) := by
  rw [slowRow] at h ⊢
  split at h
  · rename_i h2
    rw [if_pos h2]
    rw [slowI] at h ⊢
    split at h
    · rename_i h3
      rw [if_pos h3]
      exact ⟨h2.1, h2.2.1, h2.2.2, h3, rfl⟩
    · omega
  · omega
theorem slowRow_kind {xs : List Int} {n : Int} (h : 0 ≤ slowRow xs n) : (kindRow xs = 0 ∧ slowRow xs n = 0) ∨ ((kindRow xs = 1 ∨ kindRow xs = 2) ∧ 1 ≤ slowRow xs n) := by
  obtain ⟨h1, h2, h3, h4, h5⟩ := slowRow_some h
  rw [kindRow_val h1, h5]
  rcases kind_vals (of xs) with ⟨k1, k2⟩ | ⟨k1, k2⟩
  · left; rw [k2]; exact ⟨rfl, rfl⟩
  · right
    have h6 := slow_pos (k := n.toNat) (by omega) (nf_of h1) k2
    exact ⟨k1, by omega⟩
theorem slowRow_step {xs : List Int} {n : Int} (h : 0 ≤ slowRow xs n) (ho : stepOk xs n = true) : (kindRow xs = 1 → slowRow (stepRow xs n) n = slowRow xs n - 1) ∧ (kindRow xs = 2 → slowRow (stepRow xs n) n = slowRow xs n) := by
  obtain ⟨h1, h2, h3, h4, h5⟩ := slowRow_some h
  obtain ⟨_, _, _, k4, k5⟩ := stepOk_true ho
  have hn : ((n.toNat : Nat) : Int) = n := by omega
  obtain ⟨j1, j2⟩ := slow_step (k := n.toNat) (by omega) (nf_of h1)
  rw [hn] at j1 j2
  rw [kindRow_val h1, h5]
  refine ⟨fun hk => ?_, fun hk => ?_⟩
  · have := j1 hk
    rw [slowRow, if_pos ⟨k4, h2, h3⟩, k5, slowI, if_pos (by omega)]
    omega
  · have := j2 hk
    rw [slowRow, if_pos ⟨k4, h2, h3⟩, k5, slowI, if_pos (by omega)]
    omega

end T
end Go.Proofs.Ytdcaefgbpnjjaab

/- StepsE -/
/- What the law of StepsDown says, on rows. -/
namespace Go.Proofs.Ytdcaefgbpnjjaab
namespace T

theorem downP_facts {xs : List Int} {n : Int} {p : Nat × Nat} (h : downP xs n = some p) : vldB xs = true ∧ 0 ≤ n ∧ n ≤ 99 ∧ down n 3000 (of xs) = some p ∧ Runs n (of xs) p.1 ∧ p.2 ≤ p.1 ∧ p.1 ≤ 3000 := by
  rw [downP] at h
  split at h
  · rename_i h1
    obtain ⟨k1, k2, k3⟩ := down_some h
    exact ⟨h1.1, h1.2.1, h1.2.2, h, k1, k2, k3⟩
  · cases h
theorem downS_cases (xs : List Int) (n : Int) : (downS xs n = -1 ∧ downO xs n = -1) ∨ (0 ≤ downO xs n ∧ downO xs n ≤ downS xs n ∧ downS xs n ≤ 3000) := by
  cases h : downP xs n with
  | none => left; exact ⟨by rw [downS, h], by rw [downO, h]⟩
  | some p =>
    right
    obtain ⟨_, _, _, _, _, k2, k3⟩ := downP_facts h
    rw [downS, downO, h]
    dsimp only
    omega
theorem downS_bnd (xs : List Int) (n : Int) : -1 ≤ downS xs n ∧ downS xs n ≤ 3000 := by
  rcases downS_cases xs n with ⟨h, _⟩ | h <;> omega
theorem downS_some {xs : List Int} {n : Int} (h : 0 ≤ downS xs n) : ∃ p, downP xs n = some p ∧ downS xs n = p.1 ∧ downO xs n = p.2 := by
  cases h2 : downP xs n with
  | none => rw [downS, h2] at h; exact absurd h (by decide)
  | some p => exact ⟨p, rfl, by rw [downS, h2], by rw [downO, h2]⟩
theorem downS_slow {xs : List Int} {n : Int} (h : 0 ≤ downS xs n) (hn : 0 < n) : slowRow xs n = downO xs n := by
  obtain ⟨p, h1, h2, h3⟩ := downS_some h
  obtain ⟨k1, k2, k3, k4, k5, k6, k7⟩ := downP_facts h1
  have hc : ((n.toNat : Nat) : Int) = n := by omega
  have h4 := down_slow (k := n.toNat) (g := 3000) (p := p) (by omega) (nf_of k1) (by rw [hc]; exact k4)
  rw [slowRow, if_pos ⟨k1, by omega, k3⟩, slowI, if_pos (by omega), h4, h3]
theorem downS_add {xs ys : List Int} {n : Int} (h : 0 ≤ downS xs n) (ha : addOk xs ys = true) (hn : natOk xs ys = true) (he : addRow xs ys = natRow xs ys) (hp : 0 ≤ downS ys n) (hq : 0 ≤ downS (addRow xs ys) n) :
    downS (addRow xs ys) n = downS xs n + downS ys n := by
  obtain ⟨a1, a2, a3, a4⟩ := addOk_true ha
  obtain ⟨_, _, _, b4⟩ := natOk_true hn
  obtain ⟨s, s1, s2, _⟩ := downS_some h
  obtain ⟨p, p1, p2, _⟩ := downS_some hp
  obtain ⟨q, q1, q2, _⟩ := downS_some hq
  obtain ⟨_, k2, _, _, sr, _, _⟩ := downP_facts s1
  obtain ⟨_, _, _, _, pr, _, _⟩ := downP_facts p1
  obtain ⟨_, _, _, _, qr, _, _⟩ := downP_facts q1
  have hsame : add (of xs) (of ys) = T.nat (of xs) (of ys) := by rw [← a4, ← b4, he]
  have po := nf_pos (nf_of a1)
  have pb := nf_pos (nf_of a2)
  have hge : GeB (of ys) (of xs) := fun m f r hb => by
    rw [hb] at hsame pb
    exact ge_of pb.1 po hsame
  have hr := Runs.nat k2 pr sr pb po hge
  rw [a4, hsame] at qr
  have := qr.unique hr
  rw [q2, s2, p2]
  omega

end T
end Go.Proofs.Ytdcaefgbpnjjaab

/- DrawS -/
/- What the laws of chapter 3 draw. -/
namespace Go.Proofs.Ytdcaefgbpnjjaab
open Go.RowKit

set_option maxHeartbeats 1000000 in
theorem drawOrdMost_any (a : Option Addr) (len cap : Nat) (w : World) (h : By w a len cap) : Calls Try.prog 33 #[.slice a len cap] w (DrawPost w) := by
  have k0 := Lib.hid (open_any a len cap w h)
  obtain ⟨g, hg⟩ : ∃ g, g = w.heap.size := ⟨_, rfl⟩
  rw [← hg] at k0
  have Hg := Lib.hid hg
  clear hg h
  go_enter Try.func33, Try.ntmps33
  go_wp2_with fail
  refine (k0.out).mono ?_
  rintro ee w1 ⟨rfl, hr1, hb1⟩
  have Hb1 := Lib.hid hb1
  have k1 := Lib.hid (l20Ord_any g 0 9 w1 (by decide) (by decide) (by decide) hr1)
  clear hb1 hr1
  go_wp2_with fail
  refine (k1.out).mono ?_
  intro ee w2 hpost
  obtain ⟨v, he⟩ : ∃ v, ee = .returned v := by obtain ⟨_, g', n, c, _, h, _⟩ := hpost; exact ⟨_, h⟩
  subst he
  have Hp := Lib.hid hpost
  clear hpost
  go_wp2_with fail
  go_ret
  rw [Hg.out] at Hp
  exact Hp.out.draw (by rw [← Hg.out]; exact Hb1.out)
def NumPost (w : World) (g P : Nat) (e : Ending) (w' : World) : Prop :=
  ∃ v : Int, e = .returned (.int .i64 v) ∧ -7 ≤ v ∧ v ≤ 105 ∧ RdOk w' g (P + 3) ∧ w.grownBy w' (some g)

set_option maxHeartbeats 2000000 in
theorem l20Number_any (g P : Nat) (w : World) (hP : P ≤ 80000000) (hrd : RdOk w g P) :
    Calls Try.prog 45 #[.pointer (some ⟨g, 0, none⟩)] w (NumPost w g P) := by
  have hgl : g < w.heap.size := by obtain ⟨_, _, _, _, h1, _⟩ := hrd; exact (Array.getElem?_eq_some_iff.1 h1).1
  have k2 := Lib.hid (pick_any g P 6 w (by omega) (by decide) (by decide) hrd)
  clear hrd
  go_enter Try.func45, Try.ntmps45
  go_wp2_with fail
  refine (k2.out).mono ?_
  rintro ee w3 ⟨x2, rfl, hx2, hr3, hg3⟩
  have hx20 := hx2.1
  have hx21 := hx2.2.1 (by decide)
  have Hg3 := Lib.hid hg3
  have k3 := Lib.hid (pick_any g (P + 1) 30 w3 (by omega) (by decide) (by decide) hr3)
  clear hx2 hr3 hg3
  go_wp2_with fail
  refine (k3.out).mono ?_
  rintro ee w4 ⟨x3, rfl, hx3, hr4, hg4⟩
  have hx30 := hx3.1
  have hx31 := hx3.2.1 (by decide)
  have Hg4 := Lib.hid (grownBy_trans Hg3.out hg4)
  have k4 := Lib.hid (pick_any g (P + 1 + 1) 30 w4 (by omega) (by decide) (by decide) hr4)
  have hd0 : 0 ≤ x3 / 29 := by omega
  have hd1 : x3 / 29 ≤ 1 := by omega
  have q3 : x3.tdiv 29 = x3 / 29 := Int.tdiv_eq_ediv_of_nonneg hx30
  clear hx3 hr4 hg4
  go_wp2_with fail
  refine (k4.out).mono ?_
  rintro ee w5 ⟨x4, rfl, hx4, hr5, hg5⟩
  have hx40 := hx4.1
  have hx41 := hx4.2.1 (by decide)
  have Hg5 := Lib.hid (grownBy_trans Hg4.out hg5)
  have Hr5 := Lib.hid hr5
  have hd2 : 0 ≤ x4 / 29 := by omega
  have hd3 : x4 / 29 ≤ 1 := by omega
  have q4 : x4.tdiv 29 = x4 / 29 := Int.tdiv_eq_ediv_of_nonneg hx40
  clear hx4 hr5 hg5
  go_wp2_with fail
  go_ret
  refine ⟨_, rfl, ?_, ?_, Hr5.out.mono (by omega), Hg5.out⟩
  · omega
  · omega

def DrawNum (w : World) (e : Ending) (w' : World) : Prop :=
  ∃ (xs : List Int) (v : Int) (g n c : Nat), n = xs.length ∧ -7 ≤ v ∧ v ≤ 105 ∧ e = .returned (.tuple #[.slice (some ⟨g, 0, none⟩) n c, .int .i64 v]) ∧
    w'.ownsRow w.heap.size 3 1 (.slice (some ⟨g, 0, none⟩) n c) n (ints xs) ∧ n ≤ 200 ∧ Below w.heap.size w w'
set_option maxHeartbeats 2000000 in
theorem drawOrdStep_any (a : Option Addr) (len cap : Nat) (w : World) (h : By w a len cap) : Calls Try.prog 11 #[.slice a len cap] w (DrawNum w) := by
  have k0 := Lib.hid (open_any a len cap w h)
  obtain ⟨g, hg⟩ : ∃ g, g = w.heap.size := ⟨_, rfl⟩
  rw [← hg] at k0
  have Hg := Lib.hid hg
  clear hg h
  go_enter Try.func11, Try.ntmps11
  go_wp2_with fail
  refine (k0.out).mono ?_
  rintro ee w1 ⟨rfl, hr1, hb1⟩
  have Hb1 := Lib.hid hb1
  have hgl : g < w1.heap.size := by obtain ⟨_, _, _, _, h1, _⟩ := hr1; exact (Array.getElem?_eq_some_iff.1 h1).1
  have k1 := Lib.hid (l20Ord_any g 0 9 w1 (by decide) (by decide) (by decide) hr1)
  clear hb1 hr1
  go_wp2_with fail
  refine (k1.out).mono ?_
  rintro ee w2 ⟨xs, g1, n, c, hn, rfl, ho, hl, hr2, hg2⟩
  have Hn := Lib.hid hn
  have Ho2 := Lib.hid ho
  have Hg2 := Lib.hid hg2
  have k2 := Lib.hid (l20Number_any g (0 + 2000) w2 (by decide) hr2)
  clear hn ho hr2 hg2
  go_wp2_with fail
  refine (k2.out).mono ?_
  rintro ee w5 ⟨v, rfl, hv0, hv1, hr5, hg5⟩
  have Hg5 := Lib.hid (grownBy_trans Hg2.out hg5)
  have Ho5 := Lib.hid (own_rd Ho2.out hg5 hgl)
  clear hr5 hg5
  go_wp2_with fail
  go_ret2
  have hs1 : g ≤ w1.heap.size := by omega
  have hs2 : w.heap.size ≤ w1.heap.size := Hb1.out.size
  exact ⟨xs, v, g1, n, c, Hn.out, hv0, hv1, rfl, Joins.ownsRow_le Ho5.out hs2, hl, by rw [← Hg.out]; exact Hb1.out.grown Hg5.out hs1 (fun k e => by cases e; exact Nat.le_refl _)⟩
set_option maxHeartbeats 2000000 in
theorem drawSlowValue_any (a : Option Addr) (len cap : Nat) (w : World) (h : By w a len cap) : Calls Try.prog 31 #[.slice a len cap] w (DrawNum w) := by
  have k0 := Lib.hid (open_any a len cap w h)
  obtain ⟨g, hg⟩ : ∃ g, g = w.heap.size := ⟨_, rfl⟩
  rw [← hg] at k0
  have Hg := Lib.hid hg
  clear hg h
  go_enter Try.func31, Try.ntmps31
  go_wp2_with fail
  refine (k0.out).mono ?_
  rintro ee w1 ⟨rfl, hr1, hb1⟩
  have Hb1 := Lib.hid hb1
  have hgl : g < w1.heap.size := by obtain ⟨_, _, _, _, h1, _⟩ := hr1; exact (Array.getElem?_eq_some_iff.1 h1).1
  have k1 := Lib.hid (l20Ord_any g 0 9 w1 (by decide) (by decide) (by decide) hr1)
  clear hb1 hr1
  go_wp2_with fail
  refine (k1.out).mono ?_
  rintro ee w2 ⟨xs, g1, n, c, hn, rfl, ho, hl, hr2, hg2⟩
  have Hn := Lib.hid hn
  have Ho2 := Lib.hid ho
  have Hg2 := Lib.hid hg2
  have k2 := Lib.hid (l20Number_any g (0 + 2000) w2 (by decide) hr2)
  clear hn ho hr2 hg2
  go_wp2_with fail
  refine (k2.out).mono ?_
  rintro ee w5 ⟨v, rfl, hv0, hv1, hr5, hg5⟩
  have Hg5 := Lib.hid (grownBy_trans Hg2.out hg5)
  have Ho5 := Lib.hid (own_rd Ho2.out hg5 hgl)
  clear hr5 hg5
  go_wp2_with fail
  go_ret2
  have hs1 : g ≤ w1.heap.size := by omega
  have hs2 : w.heap.size ≤ w1.heap.size := Hb1.out.size
  exact ⟨xs, v, g1, n, c, Hn.out, hv0, hv1, rfl, Joins.ownsRow_le Ho5.out hs2, hl, by rw [← Hg.out]; exact Hb1.out.grown Hg5.out hs1 (fun k e => by cases e; exact Nat.le_refl _)⟩
set_option maxHeartbeats 2000000 in
theorem drawStepsDown_any (a : Option Addr) (len cap : Nat) (w : World) (h : By w a len cap) : Calls Try.prog 25 #[.slice a len cap] w (DrawNum w) := by
  have k0 := Lib.hid (open_any a len cap w h)
  obtain ⟨g, hg⟩ : ∃ g, g = w.heap.size := ⟨_, rfl⟩
  rw [← hg] at k0
  have Hg := Lib.hid hg
  clear hg h
  go_enter Try.func25, Try.ntmps25
  go_wp2_with fail
  refine (k0.out).mono ?_
  rintro ee w1 ⟨rfl, hr1, hb1⟩
  have Hb1 := Lib.hid hb1
  have hgl : g < w1.heap.size := by obtain ⟨_, _, _, _, h1, _⟩ := hr1; exact (Array.getElem?_eq_some_iff.1 h1).1
  have k1 := Lib.hid (l20Little_any g 0 9 w1 (by decide) (by decide) (by decide) hr1)
  clear hb1 hr1
  go_wp2_with fail
  refine (k1.out).mono ?_
  rintro ee w2 ⟨xs, g1, n, c, hn, rfl, ho, hl, hr2, hg2⟩
  have Hn := Lib.hid hn
  have Ho2 := Lib.hid ho
  have Hg2 := Lib.hid hg2
  have k2 := Lib.hid (l20Number_any g (0 + 2100) w2 (by decide) hr2)
  clear hn ho hr2 hg2
  go_wp2_with fail
  refine (k2.out).mono ?_
  rintro ee w5 ⟨v, rfl, hv0, hv1, hr5, hg5⟩
  have Hg5 := Lib.hid (grownBy_trans Hg2.out hg5)
  have Ho5 := Lib.hid (own_rd Ho2.out hg5 hgl)
  clear hr5 hg5
  go_wp2_with fail
  go_ret2
  have hs1 : g ≤ w1.heap.size := by omega
  have hs2 : w.heap.size ≤ w1.heap.size := Hb1.out.size
  exact ⟨xs, v, g1, n, c, Hn.out, hv0, hv1, rfl, Joins.ownsRow_le Ho5.out hs2, hl, by rw [← Hg.out]; exact Hb1.out.grown Hg5.out hs1 (fun k e => by cases e; exact Nat.le_refl _)⟩
end Go.Proofs.Ytdcaefgbpnjjaab

/- DownA -/
/- The iterators of the steps down: 'repeated'. -/
namespace Go.Proofs.Ytdcaefgbpnjjaab
open Go.RowKit Go.Shelf

attribute [local go_sem] Oper.semAt_some

/-- What lay below n₀, but for the blocks from lo up to hi, lies as it lay. -/
def KL (lo hi n₀ : Nat) (W W' : World) : Prop := W.heap.size ≤ W'.heap.size ∧ ∀ b, b < n₀ → b < W.heap.size → (b < lo ∨ hi ≤ b) → W'.heap[b]? = W.heap[b]?
theorem KL.refl (lo hi n₀ : Nat) (W : World) : KL lo hi n₀ W W := ⟨Nat.le_refl _, fun _ _ _ _ => rfl⟩
theorem KL.trans {lo hi n₀ : Nat} {A B C : World} (h : KL lo hi n₀ A B) (k : KL lo hi n₀ B C) : KL lo hi n₀ A C :=
  ⟨Nat.le_trans h.1 k.1, fun b h1 h2 h3 => (k.2 b h1 (Nat.lt_of_lt_of_le h2 h.1) h3).trans (h.2 b h1 h2 h3)⟩
theorem KL.cell {lo hi n₀ : Nat} {A B : World} (h : KL lo hi n₀ A B) {b o : Nat} {v : Value} (hc : A.cell? ⟨b, o, none⟩ = some v) (h1 : b < n₀) (h3 : b < lo ∨ hi ≤ b) : B.cell? ⟨b, o, none⟩ = some v :=
  (World.cell?_of_block (h.2 b h1 (World.block_lt_of_cell? A _ hc) h3)).trans hc
theorem KL.put {lo hi n₀ : Nat} {w : World} (hn : n₀ ≤ w.heap.size) (W : World) (l : Nat) (o o' : Obj) (hl : w.heap.size ≤ l) (_ : W.heap[l]? = some o) (_ : o.isCells = false) (_ : o.isWalk = false) : KL lo hi n₀ W (W.putObj l o') :=
  ⟨by simp [World.putObj], fun b h1 _ _ => World.putObj_heap_other (by omega)⟩

/-- At the widest fence a call of yield wants no room. -/
theorem YieldAt.wide {n m l : Nat} {P : Program} {args : Array Value} {W : World} {R : Ending → World → Prop} (h : YieldAt Fence.wide n P l args W R) : YieldAt Fence.wide m P l args W R := by
  obtain ⟨fn, tmps, assign, body, hy, h1, h2⟩ := h
  exact ⟨fn, tmps, assign, body, hy, h1, fun c cs _ => h2 c cs (room_wide _)⟩

set_option maxRecDepth 100000 in
set_option maxHeartbeats 2000000 in
theorem repeated1_stops (n : Nat) (v : Int) (M lo hi n₀ b1 b2 : Nat) (w0 : World) (hM : M ≤ 3000) (hn0 : n₀ ≤ w0.heap.size) (h1 : b1 < n₀ ∧ (b1 < lo ∨ hi ≤ b1)) (h2 : b2 < n₀ ∧ (b2 < lo ∨ hi ≤ b2))
    (hc1 : w0.cell? ⟨b1, 0, none⟩ = some (.int .i64 M)) (hc2 : w0.cell? ⟨b2, 0, none⟩ = some (.int .i64 v)) :
    SeqStopsK Fence.wide n Try.prog 80 #[.pointer (some ⟨b1, 0, none⟩), .pointer (some ⟨b2, 0, none⟩)] (fun _ : Unit => #[.int .i64 v]) (KL lo hi n₀)
      (fun xs => xs.length = M) (fun pre => 1 ≤ pre.length ∧ pre.length ≤ M) M w0 := by
  intro l J Jx W hW _ _ hY h0
  have hd1 := (hW.cell (p := ⟨b1, 0, none⟩) (Nat.lt_of_lt_of_le h1.1 hn0)).trans hc1
  have hd2 := (hW.cell (p := ⟨b2, 0, none⟩) (Nat.lt_of_lt_of_le h2.1 hn0)).trans hc2
  have H1 := Lib.hid h1
  have H2 := Lib.hid h2
  clear hW hc1 hc2 h1 h2
  refine callsIn_of_wp Try.func80 rfl trivial ?_ rfl
  simp only [Try.ntmps80, List.size_toArray, List.length_cons, List.length_nil, Nat.reduceAdd, Nat.reduceSub, Array.replicate_succ, Array.replicate_zero, List.push_toArray, List.append_toArray, List.nil_append, List.cons_append]
  gi_wp2
  gi_loopw [5] (fun i wr => ∃ pre : List Unit, pre.length ≤ M ∧ i = .int .i64 (pre.length : Nat) ∧ J pre wr ∧ KL lo hi n₀ W wr)
    (fun i _ => M - (intOf i).toNat)
  case atStart => exact ⟨[], Nat.zero_le _, rfl, h0, KL.refl _ _ _ _⟩
  case round =>
    obtain ⟨pre, hk, rfl, hJs, hnx⟩ := hrel
    obtain ⟨k, hkl⟩ : ∃ k, k = pre.length := ⟨_, rfl⟩
    rw [← hkl] at hk ⊢
    have Hkl := Lib.hid hkl
    have Hnx := Lib.hid hnx
    have hcx := hnx.cell hd2 H2.out.1 H2.out.2
    by_cases hlt : k < M
    · obtain ⟨fn, tmps, assign, body, hy, hR⟩ := hY pre () wr hJs (by rw [← hkl]; exact hlt)
      clear hkl hnx
      gi_wp2
      refine ⟨fun h => (by cases h), hR.mono ?_⟩
      rintro e W3 (⟨rfl, hJ3, hk3⟩ | ⟨rfl, hJx3⟩)
      · gi_wp2
        go_roundw
        case rel => exact ⟨pre ++ [()], by have := Hkl.out; simp; omega, by have := Hkl.out; simp; omega, hJ3, Hnx.out.trans hk3⟩
        case measure => simp [intOf]; omega
      · gi_wp2
        refine bodyPost_ret (results_none rfl _ _ _) rfl ?_
        exact ⟨⟨_, rfl⟩, .inr ⟨_, ⟨by simp, by have := Hkl.out; simp; omega⟩, hJx3⟩⟩
    · obtain rfl : k = M := by omega
      clear hkl hnx
      gi_wp2
      go_end0
      exact ⟨⟨_, rfl⟩, .inl ⟨_, Hkl.out.symm, hJs⟩⟩
end Go.Proofs.Ytdcaefgbpnjjaab

/- DownB -/
/- The iterators of the steps down: 'stepsFrom'. -/
namespace Go.Proofs.Ytdcaefgbpnjjaab
open Go.RowKit Go.Shelf

attribute [local go_sem] Oper.semAt_some

namespace T
/-- So many steps down. -/
def it (v : Int) (t : T) : Nat → T
  | 0 => t
  | i + 1 => (it v t i).step v
/-- All ordinals so far are valid. -/
def VU (v : Int) (t : T) (i : Nat) : Prop := ∀ j, j ≤ i → vldB (it v t j).enc = true
/-- None before is 0. -/
def NZ (v : Int) (t : T) (i : Nat) : Prop := ∀ j, j < i → it v t j ≠ z
theorem VU.snoc {v : Int} {t : T} {i : Nat} (h : VU v t i) (h' : vldB (it v t (i + 1)).enc = true) : VU v t (i + 1) := fun j hj => by
  rcases Nat.lt_or_ge j (i + 1) with h1 | h1
  · exact h j (by omega)
  · obtain rfl : j = i + 1 := by omega
    exact h'
theorem NZ.snoc {v : Int} {t : T} {i : Nat} (h : NZ v t i) (h' : it v t i ≠ z) : NZ v t (i + 1) := fun j hj => by
  rcases Nat.lt_or_ge j i with h1 | h1
  · exact h j h1
  · obtain rfl : j = i := by omega
    exact h'
end T

theorem grown_of_below {w w' : World} (h : Below w.heap.size w w') (row : Option Nat) : w.grownBy w' row := ⟨h.os, h.tape, h.output, h.size, fun k hk _ => h.block k hk⟩

/-- What the iterator hands over: the row of the next ordinal, and whether it is valid. -/
abbrev Handed := Option Addr × Nat × Nat × Bool
def encsH (x : Handed) : Array Value := #[.slice x.1 x.2.1 x.2.2.1, .bool x.2.2.2]
def GH (v : Int) (t : T) (M rb i : Nat) (x : Handed) (W : World) : Prop :=
  i < M ∧ T.VU v t i ∧ T.it v t i ≠ .z ∧ x.2.1 = (T.fit (T.it v t (i + 1))).length ∧ x.2.2.2 = T.vldB (T.it v t (i + 1)).enc ∧ W.ownsRow rb 3 1 (.slice x.1 x.2.1 x.2.2.1) x.2.1 (ints (T.fit (T.it v t (i + 1))))
def SH (v : Int) (t : T) (M m : Nat) : Prop := m ≤ M ∧ T.NZ v t m ∧ (m = M ∨ T.it v t m = .z ∨ T.vldB (T.it v t m).enc = false)
def SpH (v : Int) (t : T) (M m : Nat) : Prop := 1 ≤ m ∧ m ≤ M ∧ T.VU v t (m - 1) ∧ T.NZ v t m

/-- Between two rounds of the iterator's own loop. -/
def InI (v : Int) (t : T) (lo hi B l : Nat) (J : Nat → World → Prop) (W2 : World) (pre : List Unit) (W : World) : Prop :=
  J pre.length W ∧ T.VU v t pre.length ∧ T.NZ v t pre.length ∧ Boxed W B 78 (.func (.yield l) #[] #[]) ∧ KL lo hi B W2 W ∧
    ∃ bb off c, Boxed W (B + 1) 23 (.slice (some ⟨bb, off, none⟩) (T.it v t pre.length).enc.length c) ∧ (T.it v t pre.length).enc.length ≤ c ∧ c ≤ maxLen ∧ At W bb off (T.it v t pre.length).enc ∧ (bb < lo ∨ hi ≤ bb)
def InX (v : Int) (t : T) (M : Nat) (J Jx : Nat → World → Prop) (c : Code) (_ : List Unit) (W : World) : Prop :=
  c = .ret ∧ ((∃ i, SH v t M i ∧ J i W) ∨ (∃ i, SpH v t M i ∧ Jx i W))

set_option maxRecDepth 100000 in
set_option maxHeartbeats 4000000 in
theorem stepsFrom1_seq (n : Nat) (v : Int) (hv0 : 0 ≤ v) (hv1 : v ≤ 99) (M lo hi rb bo bn b1 b2 bb off len cap : Nat) (t : T) (w0 : World) (hn : 4 ≤ n) (hM : M ≤ 3000) (hhi : hi ≤ w0.heap.size) (hrb : rb ≤ w0.heap.size + 4)
    (ho : bo < w0.heap.size ∧ (bo < lo ∨ hi ≤ bo)) (hbn : bn < w0.heap.size ∧ (bn < lo ∨ hi ≤ bn)) (h1 : b1 < w0.heap.size ∧ (b1 < lo ∨ hi ≤ b1)) (h2 : b2 < w0.heap.size ∧ (b2 < lo ∨ hi ≤ b2)) (hbb : bb < lo ∨ hi ≤ bb)
    (hco : w0.cell? ⟨bo, 0, none⟩ = some (.slice (some ⟨bb, off, none⟩) len cap)) (hcn : w0.cell? ⟨bn, 0, none⟩ = some (.func (.func 80) #[] #[.pointer (some ⟨b1, 0, none⟩), .pointer (some ⟨b2, 0, none⟩)]))
    (hc1 : w0.cell? ⟨b1, 0, none⟩ = some (.int .i64 M)) (hc2 : w0.cell? ⟨b2, 0, none⟩ = some (.int .i64 v))
    (hl : len = t.enc.length) (hlc : len ≤ cap) (hcm : cap ≤ maxLen) (hat : At w0 bb off t.enc) (hvt : T.vldB t.enc = true) :
    SeqX Fence.wide n Try.prog 78 #[.pointer (some ⟨bo, 0, none⟩), .pointer (some ⟨bn, 0, none⟩)] encsH 2 lo hi (GH v t M rb) (SH v t M) (SpH v t M) w0 := by
  intro l J Jx W hW hW2s hJ hJx hY h0
  have hBs : w0.heap.size ≤ W.heap.size := hW.size
  have hdo := (hW.cell (p := ⟨bo, 0, none⟩) ho.1).trans hco
  have hdn := (hW.cell (p := ⟨bn, 0, none⟩) hbn.1).trans hcn
  have hd1 := (hW.cell (p := ⟨b1, 0, none⟩) h1.1).trans hc1
  have hd2 := (hW.cell (p := ⟨b2, 0, none⟩) h2.1).trans hc2
  have hatW : At W bb off t.enc := hat.below hW (hat.lt (T.enc_ne t))
  have hboW : bo < W.heap.size := Nat.lt_of_lt_of_le ho.1 hBs
  have hbnW : bn < W.heap.size := Nat.lt_of_lt_of_le hbn.1 hBs
  have hdo1 : (W.alloc (.cells #[.func (.yield l) #[] #[]] 78)).cell? ⟨bo, 0, none⟩ = some (.slice (some ⟨bb, off, none⟩) len cap) := (World.cell?_alloc_past _ _ _ hboW).trans hdo
  have hdn2 : ((W.alloc (.cells #[.func (.yield l) #[] #[]] 78)).alloc (.cells #[.slice (some ⟨bb, off, none⟩) len cap] 23)).cell? ⟨bn, 0, none⟩ = some (.func (.func 80) #[] #[.pointer (some ⟨b1, 0, none⟩), .pointer (some ⟨b2, 0, none⟩)]) := (World.cell?_alloc_past _ _ _ (by simp; omega)).trans ((World.cell?_alloc_past _ _ _ hbnW).trans hdn)
  have HL := Lib.hid hl
  have HVT := Lib.hid hvt
  have HATW := Lib.hid hatW
  have HJ := Lib.hid hJ
  have HJx := Lib.hid hJx
  have HY := Lib.hid hY
  have HO1 := Lib.hid h1
  have HO2 := Lib.hid h2
  have H0 := Lib.hid h0
  clear hl hvt hat hatW hJ hJx hY h0 hco hcn hc1 hc2 hW
  refine callsIn_of_wp_marks Try.func78 rfl trivial ?_ rfl
  simp only [Try.ntmps78, List.size_toArray, List.length_cons, List.length_nil, Nat.reduceAdd, Nat.reduceSub, Array.replicate_succ, Array.replicate_zero, List.push_toArray, List.append_toArray, List.nil_append, List.cons_append]
  gi_wp2
  obtain ⟨W2, hW2⟩ : ∃ W2, W2 = ((W.alloc (.cells #[.func (.yield l) #[] #[]] 78)).alloc (.cells #[.slice (some ⟨bb, off, none⟩) len cap] 23)) := ⟨_, rfl⟩
  rw [← hW2]
  have hs2 : W2.heap.size = W.heap.size + 2 := by rw [hW2]; simp
  have hbx1 : Boxed W2 W.heap.size 78 (.func (.yield l) #[] #[]) := by rw [hW2]; exact (Boxed.new W _ _).alloc _
  have hbx2 : Boxed W2 (W.heap.size + 1) 23 (.slice (some ⟨bb, off, none⟩) len cap) := by
    have h := Boxed.new (W.alloc (.cells #[.func (.yield l) #[] #[]] 78)) 23 (.slice (some ⟨bb, off, none⟩) len cap)
    rw [World.size_alloc] at h
    rw [hW2]; exact h
  have hbW : Below W.heap.size W W2 := by rw [hW2]; exact ((Below.refl _ _).alloc (Nat.le_refl _) _).alloc (by simp) _
  have hd1' := (hbW.cell (p := ⟨b1, 0, none⟩) (Nat.lt_of_lt_of_le HO1.out.1 hBs)).trans hd1
  have hd2' := (hbW.cell (p := ⟨b2, 0, none⟩) (Nat.lt_of_lt_of_le HO2.out.1 hBs)).trans hd2
  have hJ2 : J 0 W2 := by
    rw [hW2]
    refine HJ.out 0 _ _ none (HJ.out 0 _ _ none H0.out (World.grownBy_alloc W _ none) (fun r e => by cases e)) (World.grownBy_alloc _ _ none) (fun r e => by cases e)
  have hst := repeated1_stops (n - 1) v M lo hi W.heap.size b1 b2 W2 hM (by omega) ⟨Nat.lt_of_lt_of_le HO1.out.1 hBs, HO1.out.2⟩ ⟨Nat.lt_of_lt_of_le HO2.out.1 hBs, HO2.out.2⟩ hd1' hd2'
  have hcap : t.enc.length ≤ cap := by rw [← HL.out]; exact hlc
  have hbx3 : Boxed W2 (W.heap.size + 1) 23 (.slice (some ⟨bb, off, none⟩) t.enc.length cap) := by rw [← HL.out]; exact hbx2
  have hvu : T.VU v t 0 := fun j hj => by
    obtain rfl : j = 0 := by omega
    exact HVT.out
  have hnz : T.NZ v t 0 := fun j hj => by omega
  have h00 : InI v t lo hi W.heap.size l J W2 [] W2 := ⟨hJ2, hvu, hnz, hbx1, KL.refl _ _ _ _, bb, off, cap, hbx3, hcap, hcm, HATW.out.below hbW (HATW.out.lt (T.enc_ne t)), hbb⟩
  clear hW2
  refine wpIn_rangeFunc_ownH rfl (by omega) (gf := 80) (lb := #[.pointer (some ⟨b1, 0, none⟩), .pointer (some ⟨b2, 0, none⟩)]) rfl trivial (enters_of Try.func80 (by kernel_rfl) rfl)
    hst KL.trans (KL.put (by omega)) (Below.refl _ _) (fun _ => rfl) (InI v t lo hi W.heap.size l J W2) (InX v t M J Jx) ?hI ?hIx h00
    (fun _ a' _ => a' = { tmps := #[.func (.yield l) #[] #[], .pointer (some ⟨bo, 0, none⟩), .pointer (some ⟨bn, 0, none⟩), .pointer (some ⟨W.heap.size, 0, none⟩), .pointer (some ⟨W.heap.size + 1, 0, none⟩), .int .i64 v, undef, undef, .slice (some ⟨bb, off, none⟩) len cap, .func (.func 80) #[] #[.pointer (some ⟨b1, 0, none⟩), .pointer (some ⟨b2, 0, none⟩)], .int .i64 v, undef, undef, undef, undef, undef, undef, undef, undef, undef, undef, undef, undef, undef, undef, undef, undef, undef, undef], defers := [] })
    (fun _ _ => ownFrom_pure _ _) ?assign ?body ?done ?stop
  case hI =>
    rintro s A C row ⟨hJa, hvu, hnz, hbxa, hkl, bb', off', c', hbxa2, hle, hm, hata, hout⟩ hg hr
    refine ⟨HJ.out _ A C row hJa hg (fun r e => by obtain ⟨k1, o, ho, hc⟩ := hr r e; exact ⟨by omega, .inr ⟨o, ho, hc⟩⟩), hvu, hnz, hbxa.kept hg (fun e => by have := (hr _ e.symm).1; omega), ?_, bb', off', c', hbxa2.kept hg (fun e => by have := (hr _ e.symm).1; omega), hle, hm, fun j hj => cell_kept (hata j hj) hg (fun r e => (hr r e).2), hout⟩
    exact ⟨Nat.le_trans hkl.1 hg.size, fun b k1 k2 k3 => (hg.block b (Nat.lt_of_lt_of_le k2 hkl.1) (fun e => by have := (hr _ e.symm).1; omega)).trans (hkl.2 b k1 k2 k3)⟩
  case hIx =>
    rintro c s A C row ⟨hc, h⟩ hg hr
    have hup : ∀ r, row = some r → W.heap.size ≤ r ∧ (r < W.heap.size + 2 ∨ ∃ o : Obj, A.heap[r]? = some o ∧ o.isCells = false) := fun r e => by obtain ⟨k1, o, ho, hc⟩ := hr r e; exact ⟨by omega, .inr ⟨o, ho, hc⟩⟩
    rcases h with ⟨i, h3, h4⟩ | ⟨i, h3, h4⟩
    · exact ⟨hc, .inl ⟨i, h3, HJ.out _ A C row h4 hg hup⟩⟩
    · exact ⟨hc, .inr ⟨i, h3, HJx.out _ A C row h4 hg hup⟩⟩
  case assign =>
    intro l' pre x W' K hi' hK
    gi_wp2
    exact hK _ W' (KeepsFrom.refl _ _) (KL.refl _ _ _ _) hi' rfl
  case body =>
    rintro l' pre x a' Wr hl' ⟨r, hr⟩ ⟨hJr, hvu, hnz, hbxr1, hkl, bb', off', c', hbxr2, hle', hm', hat', hout'⟩ rfl hlt
    obtain ⟨i, hi⟩ : ∃ i, i = pre.length := ⟨_, rfl⟩
    rw [← hi] at hJr hvu hnz hbxr2 hle' hat' hlt
    have hvi := hvu i (Nat.le_refl _)
    obtain ⟨ti, hti⟩ : ∃ ti, ti = T.it v t i := ⟨_, rfl⟩
    rw [← hti] at hbxr2 hle' hat' hvi
    have hn60 : ti.enc.length ≤ 60 := (T.vldB_true.1 hvi).1
    have hnf := T.nf_enc hvi
    have z1 := hbxr1.cell
    have z2 := hbxr2.cell
    have f2 := hbxr2.frozen
    have hpos : 0 < ti.enc.length := by rw [T.enc_len]; omega
    have ki := Lib.hid (isZero_any bb' off' ti.enc.length c' (ti.cnt : Int) Wr hpos hat'.head)
    have HNX := Lib.hid (show T.it v t (i + 1) = ti.step v by rw [hti]; rfl)
    have HI := Lib.hid hi
    have HTI := Lib.hid hti
    have HVU := Lib.hid hvu
    have HNZ := Lib.hid hnz
    have HVI := Lib.hid hvi
    have HKL := Lib.hid hkl
    have HB1 := Lib.hid hbxr1
    have HB2 := Lib.hid hbxr2
    have HAT := Lib.hid hat'
    have HJR := Lib.hid hJr
    have HNF := Lib.hid hnf
    have hWr2 : W2.heap.size ≤ Wr.heap.size := hkl.1
    clear hi hti hvu hnz hvi hkl hbxr1 hbxr2 hat' hJr hnf hr
    by_cases htz : ti = .z
    · have hz : ((ti.cnt : Int) == 0) = true := by rw [htz]; rfl
      have HTZ := Lib.hid htz
      clear htz
      gi_wp2
      refine ⟨trivial, fun h => (by cases h), (CallsIn.inRound l' (callsIn_wide.2 ki.out)).mono ?_⟩
      rintro ee wx ⟨rfl, rfl⟩
      gi_wp2
      exact ⟨KeepsFrom.refl _ _, rfl, .inl ⟨i, ⟨Nat.le_of_lt hlt, HNZ.out, .inr (.inl (by rw [← HTI.out]; exact HTZ.out))⟩, HJR.out⟩⟩
    · have hz : ((ti.cnt : Int) == 0) = false := by
        cases ti with
        | z => exact absurd rfl htz
        | c q f u => simp [T.cnt]; omega
      have HTZ := Lib.hid htz
      have kd := Lib.hid (stepDown_any v hv0 hv1 bb' off' ti.enc.length c' ti Wr rfl hn60 hle' hm' HAT.out HNF.out)
      obtain ⟨nr, hnr⟩ : ∃ nr, nr = T.fit (ti.step v) := ⟨_, rfl⟩
      obtain ⟨no, hno⟩ : ∃ no, no = T.vldB (ti.step v).enc := ⟨_, rfl⟩
      unfold OrdOkPost at kd
      rw [← hnr, ← hno] at kd
      have Hnr := Lib.hid hnr
      have Hno := Lib.hid hno
      clear htz hnr hno
      gi_wp2
      refine ⟨trivial, fun h => (by cases h), (CallsIn.inRound l' (callsIn_wide.2 ki.out)).mono ?_⟩
      rintro ee wx ⟨rfl, rfl⟩
      gi_wp2
      refine ⟨trivial, fun h => (by cases h), (CallsIn.inRound l' (callsIn_wide.2 kd.out)).mono ?_⟩
      rintro ee w1 ⟨a2, c2, rfl, ho2, hb2⟩
      have hlB : W.heap.size < Wr.heap.size := by omega
      have hlB1 : W.heap.size + 1 < Wr.heap.size := by omega
      have y1 := (hb2.cell (p := ⟨W.heap.size, 0, none⟩) hlB).trans z1
      have hJ1 : J i w1 := HJ.out i Wr w1 none HJR.out (grown_of_below hb2 none) (fun r e => by cases e)
      have hG1 : GH v t M rb i (a2, nr.length, c2, no) w1 := ⟨hlt, HVU.out, by rw [← HTI.out]; exact HTZ.out, by rw [HNX.out, ← Hnr.out], by rw [HNX.out]; exact Hno.out, by
        rw [HNX.out, ← Hnr.out]
        exact Joins.ownsRow_le (base' := rb) ho2 (by omega)⟩
      obtain ⟨fn, tmps, assign, body, hy, hR⟩ := YieldAt.wide (m := n - 1 - 1 - 1) (HY.out i (a2, nr.length, c2, no) w1 hJ1 hG1)
      dsimp only [encsH] at hy
      have Ho2 := Lib.hid ho2
      have Hb2 := Lib.hid hb2
      have HG1 := Lib.hid hG1
      clear ho2 hb2 hJ1 hG1
      gi_wp2
      refine ⟨fun h => (by cases h), hR.mono ?_⟩
      have hs1 := Hb2.out.size
      rintro e W' (⟨rfl, hJ', hk⟩ | ⟨rfl, hJx', hsz, hk⟩)
      · have hs' := hk.size
        have hkf : KeepsFrom (W.heap.size + 2) Wr W' := ⟨by omega, fun b o k1 k2 _ => by
          have k3 := (Array.getElem?_eq_some_iff.1 k2).1
          exact (hk.block b (by omega) (by omega)).trans ((Hb2.out.block b k3).trans k2)⟩
        have hkl' : KL lo hi W.heap.size Wr W' := ⟨by omega, fun b k1 k2 k3 => (hk.block b (by omega) k3).trans (Hb2.out.block b k2)⟩
        have hJ'' : J (i + 1) W' := hJ'
        have hbX1 : Boxed W' W.heap.size 78 (.func (.yield l) #[] #[]) := (hk.block W.heap.size (by omega) (by omega)).trans ((Hb2.out.block W.heap.size hlB).trans HB1.out)
        have hbX2 : Boxed W' (W.heap.size + 1) 23 (.slice (some ⟨bb', off', none⟩) ti.enc.length c') := (hk.block (W.heap.size + 1) (by omega) (by omega)).trans ((Hb2.out.block (W.heap.size + 1) hlB1).trans HB2.out)
        have Hkf := Lib.hid hkf
        have Hkl := Lib.hid hkl'
        have HJ'' := Lib.hid hJ''
        have HbX1 := Lib.hid hbX1
        have HbX2 := Lib.hid hbX2
        have Hk := Lib.hid hk
        clear hkf hkl' hJ'' hJ' hbX1 hk
        cases hno2 : no with
        | false =>
          have Hno2 := Lib.hid hno2
          clear hno2 hbX2
          gi_wp2
          exact ⟨by rw [hs2]; exact Hkf.out, rfl, .inl ⟨i + 1, ⟨by omega, HNZ.out.snoc (by rw [← HTI.out]; exact HTZ.out), .inr (.inr (by rw [HNX.out, ← Hno.out, Hno2.out]))⟩, HJ''.out⟩⟩
        | true =>
          have Hno2 := Lib.hid hno2
          have q2 := hbX2.cell
          have q3 := hbX2.frozen
          clear hno2 hbX2
          gi_wp2
          have hvn : T.vldB (ti.step v).enc = true := by rw [← Hno.out, Hno2.out]
          have hfe : nr = (ti.step v).enc := by rw [Hnr.out, T.fit, if_pos hvn]
          have ho2 := Ho2.out
          rw [hfe] at ho2
          obtain ⟨g2, rfl, hg2, hatn, hcn, hcmn⟩ := own_rowT ho2
          have hg2l : g2 < w1.heap.size := hatn.lt (T.enc_ne _)
          have hg2n : g2 ≠ W.heap.size + 1 := by omega
          have hat2 : At W' g2 0 (ti.step v).enc := fun j hj => (World.cell?_of_block (Hk.out.block g2 hg2l (by omega))).trans (hatn j hj)
          refine ⟨⟨Nat.le_trans Hkf.out.size (grownBy_setCell' _ _ _).size, fun b o k1 k2 k3 => ((grownBy_setCell' _ _ _).block b (by have := (Array.getElem?_eq_some_iff.1 k2).1; omega) (by intro e; cases e; omega)).trans (Hkf.out.same b o (by omega) k2 k3)⟩,
            Hkl.out.trans ⟨(grownBy_setCell' _ _ _).size, fun b k1 k2 _ => (grownBy_setCell' _ _ _).block b k2 (by intro e; cases e; omega)⟩, ?_⟩
          have hlen : (pre ++ [x]).length = i + 1 := by rw [HI.out]; simp
          unfold InI
          rw [hlen]
          refine ⟨HJ.out (i + 1) W' _ (some (W.heap.size + 1)) HJ''.out (grownBy_setCell' _ _ _) (fun r e => by cases e; exact ⟨by omega, .inl (by omega)⟩), HVU.out.snoc (by rw [HNX.out]; exact hvn), HNZ.out.snoc (by rw [← HTI.out]; exact HTZ.out),
            HbX1.out.other (by omega) _, (HKL.out.trans Hkl.out).trans ⟨(grownBy_setCell' _ _ _).size, fun b k1 k2 _ => (grownBy_setCell' _ _ _).block b k2 (by intro e; cases e; omega)⟩, g2, 0, c2, ?_, ?_, hcmn, ?_, by omega⟩
          · rw [HNX.out, ← hfe]; exact HbX2.out.set _
          · rw [HNX.out]; exact hcn
          · rw [HNX.out]
            intro j hj
            exact (World.cell?_of_block ((grownBy_setCell' _ _ _).block g2 (by omega) (by intro e; cases e; exact hg2n rfl))).trans (hat2 j hj)
      · gi_wp2
        exact ⟨⟨by omega, fun b o k1 k2 _ => by
          have k3 := (Array.getElem?_eq_some_iff.1 k2).1
          exact (hk b (by omega) (by omega)).trans ((Hb2.out.block b k3).trans k2)⟩, rfl, .inr ⟨i + 1, ⟨by omega, by omega, HVU.out, HNZ.out.snoc (by rw [← HTI.out]; exact HTZ.out)⟩, hJx'⟩⟩
  case done =>
    rintro D xs Wd hD hlen ⟨hJd, hvu, hnz, _, _, _⟩ hK
    gi_wp2
    refine ⟨by simp, .inl ⟨_, _, rfl, run_takeDeferred hK, ?_⟩⟩
    refine ⟨_, results_none rfl _ _ _, ⟨_, rfl⟩, .inl ⟨xs.length, ⟨Nat.le_of_eq hlen, hnz, .inl hlen⟩, ?_⟩⟩
    exact HJ.out _ Wd _ (some D) hJd (grownBy_putObj' Wd D _) (fun r e => by cases e; exact ⟨by omega, .inr ⟨_, hK, rfl⟩⟩)
  case stop =>
    rintro D c pre Wd hD _ ⟨rfl, h⟩ hK
    gi_wp2
    refine ⟨by simp, .inl ⟨_, _, rfl, run_takeDeferred hK, ?_⟩⟩
    have hup : ∀ r, some D = some r → W.heap.size ≤ r ∧ (r < W.heap.size + 2 ∨ ∃ o : Obj, Wd.heap[r]? = some o ∧ o.isCells = false) := fun r e => by cases e; exact ⟨by omega, .inr ⟨_, hK, rfl⟩⟩
    refine ⟨_, results_none rfl _ _ _, ⟨_, rfl⟩, ?_⟩
    rcases h with ⟨i, h3, h4⟩ | ⟨i, h3, h4⟩
    · exact .inl ⟨i, h3, HJ.out _ Wd _ (some D) h4 (grownBy_putObj' Wd D _) hup⟩
    · exact .inr ⟨i, h3, HJx.out _ Wd _ (some D) h4 (grownBy_putObj' Wd D _) hup⟩
end Go.Proofs.Ytdcaefgbpnjjaab

/- DownM -/
/- Steps down until 0: what the loop answers. -/
namespace Go.Proofs.Ytdcaefgbpnjjaab
namespace T

theorem it_shift (v : Int) (t : T) (i : Nat) : it v (t.step v) i = it v t (i + 1) := by
  induction i with
  | zero => rfl
  | succ i ih => rw [it, ih]; rfl
/-- How many of the first steps are from an ordinal of the kind 1. -/
def ones (v : Int) (t : T) : Nat → Nat
  | 0 => 0
  | m + 1 => ones v t m + if (it v t m).kind = 1 then 1 else 0
theorem ones_le (v : Int) (t : T) (m : Nat) : ones v t m ≤ m := by
  induction m with
  | zero => exact Nat.le_refl _
  | succ m ih => rw [ones]; split <;> omega
theorem ones_shift (v : Int) (t : T) (m : Nat) : ones v t (m + 1) = (if t.kind = 1 then 1 else 0) + ones v (t.step v) m := by
  induction m with
  | zero => by_cases h : t.kind = 1 <;> simp [ones, it, h]
  | succ m ih => rw [ones, ih, ones, it_shift]; omega
theorem VU.tail {v : Int} {t : T} {m : Nat} (h : VU v t (m + 1)) : VU v (t.step v) m := fun j hj => by rw [it_shift]; exact h (j + 1) (by omega)
theorem NZ.tail {v : Int} {t : T} {m : Nat} (h : NZ v t (m + 1)) : NZ v (t.step v) m := fun j hj => by rw [it_shift]; exact h (j + 1) (by omega)

theorem down_end {v : Int} : ∀ {m g : Nat} {t : T}, VU v t m → NZ v t m → it v t m = z → m ≤ g → down v g t = some (m, ones v t m)
  | 0, g, t, _, _, hz, _ => by
    have hz' : t = z := hz
    rw [hz', down_z]; rfl
  | m + 1, g, t, hv, hn, hz, hg => by
    obtain ⟨g, rfl⟩ : ∃ g', g = g' + 1 := ⟨g - 1, by omega⟩
    have h0 : t ≠ z := hn 0 (by omega)
    have h1 : vldB (t.step v).enc = true := hv 1 (by omega)
    rw [down_s v g h0, if_pos h1, down_end hv.tail hn.tail (by rw [it_shift]; exact hz) (by omega), ones_shift]
    simp only [Option.map_some, Option.some.injEq, Prod.mk.injEq, true_and]
    omega
theorem down_long {v : Int} : ∀ {m : Nat} {t : T}, NZ v t m → it v t m ≠ z → down v m t = none
  | 0, t, _, hz => down_0 v hz
  | m + 1, t, hn, hz => by
    have h0 : t ≠ z := hn 0 (by omega)
    rw [down_s v m h0]
    split
    · rw [down_long hn.tail (by rw [it_shift]; exact hz)]; rfl
    · rfl
theorem down_bad {v : Int} : ∀ {m g : Nat} {t : T}, NZ v t (m + 1) → vldB (it v t (m + 1)).enc = false → m + 1 ≤ g → down v g t = none
  | m, 0, t, _, _, hg => by omega
  | 0, g + 1, t, hn, hb, _ => by
    have hb' : vldB (t.step v).enc = false := hb
    have h0 : t ≠ z := hn 0 (by omega)
    rw [down_s v g h0, if_neg (by rw [hb']; decide)]
  | m + 1, g + 1, t, hn, hb, hg => by
    have h0 : t ≠ z := hn 0 (by omega)
    rw [down_s v g h0]
    split
    · rw [down_bad (m := m) hn.tail (by rw [it_shift]; exact hb) (by omega)]; rfl
    · rfl

theorem downP_bad {xs : List Int} {n : Int} (h : vldB xs = false ∨ ¬ (0 ≤ n ∧ n ≤ 99)) : downS xs n = -1 ∧ downO xs n = -1 := by
  have h1 : downP xs n = none := by
    rw [downP, if_neg]
    rintro ⟨k1, k2⟩
    rcases h with h | h
    · rw [h] at k1; cases k1
    · exact h k2
  exact ⟨by rw [downS, h1], by rw [downO, h1]⟩
theorem downP_none {t : T} {n : Int} (h : down n 3000 t = none) : downS t.enc n = -1 ∧ downO t.enc n = -1 := by
  have h1 : downP t.enc n = none := by
    rw [downP]
    split
    · rw [of_enc]; exact h
    · rfl
  exact ⟨by rw [downS, h1], by rw [downO, h1]⟩
theorem downP_some {t : T} {n : Int} {p : Nat × Nat} (hv : vldB t.enc = true) (hn : 0 ≤ n ∧ n ≤ 99) (h : down n 3000 t = some p) : downS t.enc n = p.1 ∧ downO t.enc n = p.2 := by
  have h1 : downP t.enc n = some p := by rw [downP, if_pos ⟨hv, hn⟩, of_enc]; exact h
  exact ⟨by rw [downS, h1], by rw [downO, h1]⟩

end T
end Go.Proofs.Ytdcaefgbpnjjaab

/- DownC -/
/- StepsDown of the program. -/
namespace Go.Proofs.Ytdcaefgbpnjjaab
open Go.RowKit Go.Shelf

attribute [local go_sem] Oper.semAt_some

theorem repeated_any (v m : Int) (w : World) :
    Calls Try.prog 61 #[.int .i64 v, .int .i64 m] w fun e w' => e = .returned (.func (.func 80) #[] #[.pointer (some ⟨w.heap.size + 1, 0, none⟩), .pointer (some ⟨w.heap.size, 0, none⟩)]) ∧
      w' = (w.alloc (.cells #[.int .i64 v] 3)).alloc (.cells #[.int .i64 m] 3) := by
  go_enter Try.func61, Try.ntmps61
  go_wp2
  go_ret
  exact ⟨rfl, rfl⟩

theorem stepsFrom_any (a : Option Addr) (n c k : Nat) (ls : Array Value) (w : World) :
    Calls Try.prog 58 #[.slice a n c, .func (.func k) #[] ls] w fun e w' => e = .returned (.func (.func 78) #[] #[.pointer (some ⟨w.heap.size, 0, none⟩), .pointer (some ⟨w.heap.size + 1, 0, none⟩)]) ∧
      w' = (w.alloc (.cells #[.slice a n c] 23)).alloc (.cells #[.func (.func k) #[] ls] 60) := by
  go_enter Try.func58, Try.ntmps58
  go_wp2
  go_ret
  exact ⟨rfl, rfl⟩

theorem two_set {W : World} {s : Nat} {x y : Value} (h4 : W.cell? ⟨s, 0, none⟩ = some x) (h5 : W.cell? ⟨s + 1, 0, none⟩ = some y) (u v : Value) :
    ((W.setCell ⟨s, 0, none⟩ u).setCell ⟨s + 1, 0, none⟩ v).cell? ⟨s, 0, none⟩ = some u ∧ ((W.setCell ⟨s, 0, none⟩ u).setCell ⟨s + 1, 0, none⟩ v).cell? ⟨s + 1, 0, none⟩ = some v := by
  have k4 : (W.setCell ⟨s, 0, none⟩ u).cell? ⟨s, 0, none⟩ = some u := World.cell?_setCell_same _ _ _ h4
  have k5 : (W.setCell ⟨s, 0, none⟩ u).cell? ⟨s + 1, 0, none⟩ = some y :=
    (World.cell?_of_block ((grownBy_setCell' _ _ _).block _ (World.block_lt_of_cell? _ _ h5) (fun e => by have h : s + 1 = s := Option.some.inj e; omega))).trans h5
  exact ⟨(World.cell?_of_block ((grownBy_setCell' _ _ _).block _ (World.block_lt_of_cell? _ _ k4) (fun e => by have h : s = s + 1 := Option.some.inj e; omega))).trans k4, World.cell?_setCell_same _ _ _ k5⟩
theorem below_two {w W : World} (h : Below w.heap.size w W) (u v : Value) : Below w.heap.size w ((W.setCell ⟨w.heap.size, 0, none⟩ u).setCell ⟨w.heap.size + 1, 0, none⟩ v) :=
  (h.setCell (p := ⟨w.heap.size, 0, none⟩) (Nat.le_refl _) _).setCell (p := ⟨w.heap.size + 1, 0, none⟩) (Nat.le_succ _) _

/-- Between two rounds of StepsDown's loop. -/
def DnI (v : Int) (t : T) (w W0 : World) (s3 m : Nat) (W : World) : Prop :=
  m ≤ 3000 ∧ T.VU v t m ∧ T.NZ v t m ∧ Boxed W w.heap.size 3 (.int .i64 0) ∧ Boxed W (w.heap.size + 1) 3 (.int .i64 0) ∧ Boxed W s3 3 (.int .i64 m) ∧ Boxed W (s3 + 1) 3 (.int .i64 (T.ones v t m)) ∧ Below w.heap.size w W ∧
    ∃ bb off c, Boxed W (s3 + 1 + 1) 23 (.slice (some ⟨bb, off, none⟩) (T.it v t m).enc.length c) ∧ (T.it v t m).enc.length ≤ c ∧ c ≤ maxLen ∧ At W bb off (T.it v t m).enc ∧ (bb < w.heap.size ∨ W0.heap.size + 4 ≤ bb)
def DnX (v : Int) (t : T) (w : World) (c : Code) (m : Nat) (W : World) : Prop :=
  c = .ret ∧ 1 ≤ m ∧ m ≤ 3000 ∧ T.NZ v t m ∧ T.vldB (T.it v t m).enc = false ∧ Boxed W w.heap.size 3 (.int .i64 (-1)) ∧ Boxed W (w.heap.size + 1) 3 (.int .i64 (-1)) ∧ Below w.heap.size w W

theorem box_at {W : World} {s : Nat} (t : TypeId) (v : Value) (hs : W.heap.size = s) : Boxed (W.alloc (.cells #[v] t)) s t v := by
  subst hs; exact Boxed.new W t v
theorem Boxed.below {W W' : World} {B n₀ : Nat} {t : TypeId} {v : Value} (h : Boxed W B t v) (hb : Below n₀ W W') (hB : B < n₀) : Boxed W' B t v := (hb.block B hB).trans h

theorem at_set {W : World} {b o s : Nat} {xs : List Int} (h : At W b o xs) (hne : b ≠ s) (u : Value) : At (W.setCell ⟨s, 0, none⟩ u) b o xs := fun j hj =>
  (World.cell?_of_block ((grownBy_setCell' W s u).block b (World.block_lt_of_cell? W _ (h j hj)) (fun e => hne (Option.some.inj e)))).trans (h j hj)

/-- The two results lie in cells. -/
theorem down_out {W : World} {n : Nat} {tmps : Array Value} {c4 c5 : Nat} {x y : Int} (ht4 : tmps[4]?.getD undef = .pointer (some ⟨c4, 0, none⟩)) (ht5 : tmps[5]?.getD undef = .pointer (some ⟨c5, 0, none⟩))
    (h4 : W.cell? ⟨c4, 0, none⟩ = some (.int .i64 x)) (h5 : W.cell? ⟨c5, 0, none⟩ = some (.int .i64 y)) {R : Ending → World → Prop} (hR : R (.returned (.tuple #[.int .i64 x, .int .i64 y])) W) :
    LeavesInM Fence.wide n Try.prog Try.f26 tmps R [] .returning W := by
  refine ⟨_, ?_, hR⟩
  simp [results, Try.f26, go_sem, ht4, ht5, h4, h5]

set_option maxRecDepth 100000 in
set_option maxHeartbeats 4000000 in
theorem impl_StepsDown (ao : Option Addr) (len cap : Nat) (xs : List Int) (n : Int) (w : World) (h : Sl w ao len cap xs) (_hn0 : -9223372036854775808 ≤ n) (_hn1 : n ≤ 9223372036854775807) :
    Calls Try.prog 26 #[.slice ao len cap, .int .i64 n] w fun e w' => e = .returned (.tuple #[.int .i64 (T.downS xs n), .int .i64 (T.downO xs n)]) ∧ Below w.heap.size w w' := by
  have hw2 : Below w.heap.size w ((w.alloc (.cells #[.int .i64 0] 3)).alloc (.cells #[.int .i64 0] 3)) := ((Below.refl _ _).alloc (Nat.le_refl _) _).alloc (by simp) _
  have ks := Lib.hid (isStepNumber_any n)
  obtain ⟨w2, hww⟩ : ∃ w2, w2 = (w.alloc (.cells #[.int .i64 0] 3)).alloc (.cells #[.int .i64 0] 3) := ⟨_, rfl⟩
  have hs2 : w2.heap.size = w.heap.size + 2 := by rw [hww]; simp
  have hx4 : Boxed w2 w.heap.size 3 (.int .i64 0) := by rw [hww]; exact (Boxed.new w _ _).alloc _
  have hx5 : Boxed w2 (w.heap.size + 1) 3 (.int .i64 0) := by
    have h := Boxed.new (w.alloc (.cells #[.int .i64 0] 3)) 3 (.int .i64 0)
    rw [World.size_alloc] at h
    rw [hww]; exact h
  rw [← hww] at hw2
  have HWW := Lib.hid hww.symm
  clear hww
  refine (callsIn_wide (n := 20)).1 ?_
  rcases vld_tf xs with h1 | h1
  · have k1 := Lib.hid (impl_valid ao len cap xs w2 (h.below hw2) h1)
    by_cases hin : 0 ≤ n ∧ n ≤ 99
    · obtain ⟨b, off, t, rfl, rfl, hs, hos, hat, hn, hl, hp, hc, hm⟩ := h.valid h1
      have hkt : decide (0 ≤ n ∧ n ≤ 99) = true := decide_eq_true hin
      rw [hkt] at ks
      have hbw : b < w.heap.size := hat.lt (T.enc_ne t)
      have HAT := Lib.hid hat
      have HN := Lib.hid hn
      have H1 := Lib.hid h1
      clear h h1 hos hs hat hn hkt
      refine callsIn_of_wp_marks Try.func26 rfl trivial ?_ rfl
      simp only [Try.ntmps26, List.size_toArray, List.length_cons, List.length_nil, Nat.reduceAdd, Nat.reduceSub, Array.replicate_succ, Array.replicate_zero, List.push_toArray, List.append_toArray, List.nil_append, List.cons_append]
      gi_wp2
      rw [HWW.out]
      refine ⟨trivial, (callsIn_wide.2 k1.out).mono ?_⟩
      rintro ee w3 ⟨rfl, hb3⟩
      gi_wp2
      refine ⟨trivial, (callsIn_wide.2 (ks.out _)).mono ?_⟩
      rintro ee wx ⟨rfl, rfl⟩
      gi_wp2
      refine ⟨trivial, (callsIn_wide.2 (repeated_any n 3000 _)).mono ?_⟩
      rintro ee wr ⟨rfl, rfl⟩
      gi_wp2
      refine ⟨trivial, (callsIn_wide.2 (stepsFrom_any _ _ _ _ _ _)).mono ?_⟩
      rintro ee ws ⟨rfl, rfl⟩
      gi_wp2
      obtain ⟨s3, hs3⟩ : ∃ s3, s3 = w3.heap.size := ⟨_, rfl⟩
      rw [← hs3]
      obtain ⟨W0, hW0⟩ : ∃ W0, W0 = (((((((w3.alloc (.cells #[.int .i64 0] 3)).alloc (.cells #[.int .i64 0] 3)).alloc (.cells #[.slice (some ⟨b, off, none⟩) len cap] 23)).alloc (.cells #[.int .i64 n] 3)).alloc (.cells #[.int .i64 3000] 3)).alloc (.cells #[.slice (some ⟨b, off, none⟩) len cap] 23)).alloc (.cells #[.func (.func 80) #[] #[.pointer (some ⟨s3 + 1 + 1 + 1 + 1, 0, none⟩), .pointer (some ⟨s3 + 1 + 1 + 1, 0, none⟩)]] 60)) := ⟨_, rfl⟩
      rw [← hW0]
      have hsz : W0.heap.size = s3 + 7 := by rw [hW0, hs3]; simp
      have hb30 : Below w3.heap.size w3 W0 := by
        rw [hW0]
        exact (((((((Below.refl _ _).alloc (Nat.le_refl _) _).alloc (by simp) _).alloc (by simp; omega) _).alloc (by simp; omega) _).alloc (by simp; omega) _).alloc (by simp; omega) _).alloc (by simp; omega) _
      have e6 : Boxed W0 s3 3 (.int .i64 0) := by rw [hW0]; exact ((((((box_at _ _ hs3.symm).alloc _).alloc _).alloc _).alloc _).alloc _).alloc _
      have e7 : Boxed W0 (s3 + 1) 3 (.int .i64 0) := by rw [hW0]; exact (((((box_at _ _ (by rw [hs3]; simp)).alloc _).alloc _).alloc _).alloc _).alloc _
      have e8 : Boxed W0 (s3 + 1 + 1) 23 (.slice (some ⟨b, off, none⟩) len cap) := by rw [hW0]; exact ((((box_at _ _ (by rw [hs3]; simp)).alloc _).alloc _).alloc _).alloc _
      have eN : Boxed W0 (s3 + 1 + 1 + 1) 3 (.int .i64 n) := by rw [hW0]; exact (((box_at _ _ (by rw [hs3]; simp)).alloc _).alloc _).alloc _
      have eM : Boxed W0 (s3 + 1 + 1 + 1 + 1) 3 (.int .i64 3000) := by rw [hW0]; exact ((box_at _ _ (by rw [hs3]; simp)).alloc _).alloc _
      have eO : Boxed W0 (s3 + 1 + 1 + 1 + 1 + 1) 23 (.slice (some ⟨b, off, none⟩) len cap) := by rw [hW0]; exact (box_at _ _ (by rw [hs3]; simp)).alloc _
      have eF : Boxed W0 (s3 + 1 + 1 + 1 + 1 + 1 + 1) 60 (.func (.func 80) #[] #[.pointer (some ⟨s3 + 1 + 1 + 1 + 1, 0, none⟩), .pointer (some ⟨s3 + 1 + 1 + 1, 0, none⟩)]) := by rw [hW0]; exact box_at _ _ (by rw [hs3]; simp)
      have hs23 : w2.heap.size ≤ s3 := by rw [hs3]; exact hb3.size
      have hb20 : Below w2.heap.size w2 W0 := hb3.trans (hb30.mono hb3.size)
      have e4 : Boxed W0 w.heap.size 3 (.int .i64 0) := Boxed.below hx4 hb20 (by omega)
      have e5 : Boxed W0 (w.heap.size + 1) 3 (.int .i64 0) := Boxed.below hx5 hb20 (by omega)
      have hbw0 : Below w.heap.size w W0 := hw2.trans (hb20.mono hw2.size)
      have hat0 : At W0 b off t.enc := HAT.out.below hbw0 hbw
      clear hW0 hb30 hb20 hb3 hs3
      have hvt := H1.out
      have hseq := stepsFrom1_seq 19 n hin.1 hin.2 3000 w.heap.size (s3 + 3) (W0.heap.size + 4) (s3 + 1 + 1 + 1 + 1 + 1) (s3 + 1 + 1 + 1 + 1 + 1 + 1) (s3 + 1 + 1 + 1 + 1) (s3 + 1 + 1 + 1) b off len cap t W0 (by omega) (Nat.le_refl _) (by omega) (Nat.le_refl _)
        ⟨by omega, .inr (by omega)⟩ ⟨by omega, .inr (by omega)⟩ ⟨by omega, .inr (by omega)⟩ ⟨by omega, .inr (by omega)⟩ (.inl hbw) eO.cell eF.cell eM.cell eN.cell HN.out hc hm hat0 hvt
      have hvu : T.VU n t 0 := fun j hj => by
        obtain rfl : j = 0 := by omega
        exact hvt
      have hnz : T.NZ n t 0 := fun j hj => by omega
      have hlen0 : (T.it n t 0).enc.length = len := HN.out.symm
      have h00 : DnI n t w W0 s3 0 W0 := ⟨Nat.zero_le _, hvu, hnz, e4, e5, e6, e7, hbw0, b, off, cap, by rw [hlen0]; exact e8, by rw [hlen0]; exact hc, hm, hat0, .inl hbw⟩
      have Hseq := Lib.hid hseq
      clear hseq eO eF eM eN e6 e7 e8 e4 e5 hat0 hvu hnz hlen0
      refine wpIn_rangeX rfl (by omega) (gf := 78) (lb := #[.pointer (some ⟨s3 + 1 + 1 + 1 + 1 + 1, 0, none⟩), .pointer (some ⟨s3 + 1 + 1 + 1 + 1 + 1 + 1, 0, none⟩)]) rfl trivial (enters_of Try.func78 (by kernel_rfl) rfl)
        Hseq.out (by omega) (Below.refl _ _) (fun _ => rfl) (fun i x W l o o' hg _ ho hc => ⟨hg.1, hg.2.1, hg.2.2.1, hg.2.2.2.1, hg.2.2.2.2.1, ownsRow_putObj hg.2.2.2.2.2 o' ho hc⟩) (DnI n t w W0 s3) (DnX n t w) ?hI ?hIx h00
        (fun x => { tmps := #[.slice (some ⟨b, off, none⟩) len cap, .int .i64 n, undef, undef, .pointer (some ⟨w.heap.size, 0, none⟩), .pointer (some ⟨w.heap.size + 1, 0, none⟩), .pointer (some ⟨s3, 0, none⟩), .pointer (some ⟨s3 + 1, 0, none⟩), .pointer (some ⟨s3 + 1 + 1, 0, none⟩), .slice x.1 x.2.1 x.2.2.1, .bool x.2.2.2, .slice (some ⟨b, off, none⟩) len cap, .bool true, .bool false, .bool false, .int .i64 n, .bool true, .bool false, .bool false, .slice (some ⟨b, off, none⟩) len cap, .slice (some ⟨b, off, none⟩) len cap, .int .i64 n, .func (.func 80) #[] #[.pointer (some ⟨s3 + 1 + 1 + 1 + 1, 0, none⟩), .pointer (some ⟨s3 + 1 + 1 + 1, 0, none⟩)], .func (.func 78) #[] #[.pointer (some ⟨s3 + 1 + 1 + 1 + 1 + 1, 0, none⟩), .pointer (some ⟨s3 + 1 + 1 + 1 + 1 + 1 + 1, 0, none⟩)], .slice x.1 x.2.1 x.2.2.1, .bool x.2.2.2, undef, undef, undef, undef, undef, undef, undef, undef, undef, undef, undef, undef, undef, undef, undef], defers := [] })
        ?assign ?body ?done ?stop
      case hI =>
        rintro m A C row ⟨hm', hvu, hnz, b4, b5, b6, b7, hb, bb, off', c', b8, hle, hcm', hata, hbb⟩ hg hr
        have hup : ∀ r, row = some r → W0.heap.size ≤ r := fun r e => (hr r e).1
        refine ⟨hm', hvu, hnz, b4.kept hg (fun e => by have := hup _ e.symm; omega), b5.kept hg (fun e => by have := hup _ e.symm; omega), b6.kept hg (fun e => by have := hup _ e.symm; omega), b7.kept hg (fun e => by have := hup _ e.symm; omega),
          hb.grown hg hb.size (fun k e => by have := hup k e; omega), bb, off', c', b8.kept hg (fun e => by have := hup _ e.symm; omega), hle, hcm', fun j hj => hg.cell (hata j hj) (fun e => ?_), hbb⟩
        obtain ⟨k1, k2⟩ := hr bb e.symm
        rcases hbb with h | h
        · omega
        · rcases k2 with k2 | ⟨o, ho, hc⟩
          · omega
          · obtain ⟨o', ho', hc'⟩ := cells_of_cell (hata j hj)
            rw [ho] at ho'
            cases ho'
            rw [hc] at hc'
            cases hc'
      case hIx =>
        rintro c m A C row ⟨hc', h2, h3, h4, h5, b4, b5, hb⟩ hg hr
        have hup : ∀ r, row = some r → W0.heap.size ≤ r := fun r e => (hr r e).1
        exact ⟨hc', h2, h3, h4, h5, b4.kept hg (fun e => by have := hup _ e.symm; omega), b5.kept hg (fun e => by have := hup _ e.symm; omega), hb.grown hg hb.size (fun k e => by have := hup k e; omega)⟩
      case assign =>
        rintro l ⟨xa, xn, xc, xo⟩ W K hK
        dsimp only [encsH] at hK ⊢
        gi_wp2
        exact hK
      case body =>
        rintro l m ⟨xa, xn, xc, xo⟩ Wr hl' ⟨hm', hvu, hnz, b4, b5, b6, b7, hb, bb, off', c', b8, hle, hcm', hata, hbb⟩ ⟨hm2, _, hnz0, hxn, hxo, hown⟩
        dsimp only at hxn hxo hown ⊢
        have z4 := b4.cell
        have z5 := b5.cell
        have z6 := b6.cell
        have z7 := b7.cell
        have z8 := b8.cell
        have f4 := b4.frozen
        have f5 := b5.frozen
        have f6 := b6.frozen
        have f7 := b7.frozen
        have f8 := b8.frozen
        have HB := Lib.hid hb
        have Hown := Lib.hid hown
        have Hxn := Lib.hid hxn
        have HVU := Lib.hid hvu
        have HNZ := Lib.hid (hnz.snoc hnz0)
        have HBB := Lib.hid hbb
        have HATA := Lib.hid hata
        have B4 := Lib.hid b4
        have B5 := Lib.hid b5
        have B6 := Lib.hid b6
        have B7 := Lib.hid b7
        have B8 := Lib.hid b8
        clear hb hown hxn hvu hnz hnz0 hbb hata b4 b5 b6 b7 b8
        cases hxo2 : xo with
        | false =>
          have HXO := Lib.hid (hxo.symm.trans hxo2)
          clear hxo hxo2
          gi_wp2
          refine ⟨((KO.refl _ _ _).setCell _ _ ⟨Nat.le_refl _, by omega⟩).setCell _ _ ⟨by omega, by omega⟩, rfl, by omega, by omega, HNZ.out, HXO.out, (B4.out.set _).other (by omega) _, (B5.out.other (by omega) _).set _, below_two HB.out _ _⟩
        | true =>
          have hvn : T.vldB (T.it n t (m + 1)).enc = true := hxo.symm.trans hxo2
          have hfe : T.fit (T.it n t (m + 1)) = (T.it n t (m + 1)).enc := by rw [T.fit, if_pos hvn]
          have hown := Hown.out
          have hxn := Hxn.out
          rw [hfe] at hown hxn
          subst hxn
          obtain ⟨g2, rfl, hg2, hatn, hcn, hcmn⟩ := own_rowT hown
          have HXO := Lib.hid hvn
          have hn60 : (T.it n t m).enc.length ≤ 60 := (T.vldB_true.1 (HVU.out m (Nat.le_refl _))).1
          obtain ⟨on, hon⟩ : ∃ on, on = T.ones n t m := ⟨_, rfl⟩
          have hob : on ≤ 3000 := by rw [hon]; have := T.ones_le n t m; omega
          rw [← hon] at z7 B7
          have Hon := Lib.hid hon
          have hbs3 : bb ≠ s3 := by have := HBB.out; omega
          have at1 : At (Wr.setCell ⟨s3, 0, none⟩ (.int .i64 ((m : Int) + 1))) bb off' (T.it n t m).enc := at_set HATA.out hbs3 _
          have kk := Lib.hid (kindOf_any bb off' _ c' (T.it n t m) _ rfl (by omega) hle hcm' at1)
          have HAtn := Lib.hid hatn
          have q7 := (B7.out.other (show s3 + 1 ≠ s3 by omega) (.int .i64 ((m : Int) + 1))).cell
          have q8 := (B8.out.other (show s3 + 1 + 1 ≠ s3 by omega) (.int .i64 ((m : Int) + 1))).cell
          have hg2l : g2 < Wr.heap.size := hatn.lt (T.enc_ne _)
          have hl6 : s3 < Wr.heap.size := B6.out.lt
          have hl7 : s3 + 1 < Wr.heap.size := B7.out.lt
          have hl8 : s3 + 1 + 1 < Wr.heap.size := B8.out.lt
          have hl4 : w.heap.size < Wr.heap.size := B4.out.lt
          have hl5 : w.heap.size + 1 < Wr.heap.size := B5.out.lt
          clear hxo hxo2 hvn hfe hown hon at1 hatn
          gi_wp2
          refine ⟨trivial, (CallsIn.inRound l (callsIn_wide.2 kk.out)).mono ?_⟩
          rintro ee w5 ⟨rfl, hb5⟩
          have hsz1 : (Wr.setCell ⟨s3, 0, none⟩ (.int .i64 ((m : Int) + 1))).heap.size = Wr.heap.size := by simp [World.setCell]
          have x4 := Boxed.below (B4.out.other (show w.heap.size ≠ s3 by omega) (.int .i64 ((m : Int) + 1))) hb5 (by rw [hsz1]; omega)
          have x5 := Boxed.below (B5.out.other (show w.heap.size + 1 ≠ s3 by omega) (.int .i64 ((m : Int) + 1))) hb5 (by rw [hsz1]; omega)
          have x6 := Boxed.below (B6.out.set (.int .i64 ((m : Int) + 1))) hb5 (by rw [hsz1]; omega)
          have x7 := Boxed.below (B7.out.other (show s3 + 1 ≠ s3 by omega) (.int .i64 ((m : Int) + 1))) hb5 (by rw [hsz1]; omega)
          have x8 := Boxed.below (B8.out.other (show s3 + 1 + 1 ≠ s3 by omega) (.int .i64 ((m : Int) + 1))) hb5 (by rw [hsz1]; omega)
          have v7 := x7.cell
          have v8 := x8.cell
          have h7f := x7.frozen
          have h8f := x8.frozen
          have HKO := Lib.hid (((KO.refl w.heap.size (s3 + 3) Wr).setCell s3 (.int .i64 ((m : Int) + 1)) ⟨by omega, by omega⟩).trans (KO.of_below hb5))
          have HBW := Lib.hid ((HB.out.setCell (p := ⟨s3, 0, none⟩) (by show w.heap.size ≤ s3; omega) (.int .i64 ((m : Int) + 1))).trans (hb5.mono (by rw [hsz1]; omega)))
          have HAN := Lib.hid ((at_set HAtn.out (show g2 ≠ s3 by omega) (.int .i64 ((m : Int) + 1))).below hb5 (by rw [hsz1]; omega))
          have X4 := Lib.hid x4
          have X5 := Lib.hid x5
          have X6 := Lib.hid x6
          have X7 := Lib.hid x7
          have X8 := Lib.hid x8
          clear x4 x5 x6 x7 x8 hb5
          by_cases hkd : (T.it n t m).kind = 1
          · have hkb : ((T.it n t m).kind == 1) = true := by rw [hkd]; rfl
            have HKD := Lib.hid hkd
            clear hkd
            gi_wp2
            have hon1 : ((T.ones n t (m + 1) : Nat) : Int) = (on : Int) + 1 := by rw [T.ones, if_pos HKD.out, ← Hon.out]; simp
            have hm1 : (((m + 1 : Nat)) : Int) = (m : Int) + 1 := by omega
            refine ⟨(HKO.out.setCell _ _ ⟨by omega, by omega⟩).setCell _ _ ⟨by omega, by omega⟩, by omega, HVU.out.snoc HXO.out, HNZ.out, ?_, ?_, ?_, ?_, ?_, g2, 0, xc, ?_, hcn, hcmn, ?_, .inr (by omega)⟩
            · exact (X4.out.other (by omega) _).other (by omega) _
            · exact (X5.out.other (by omega) _).other (by omega) _
            · rw [hm1]; exact (X6.out.other (by omega) _).other (by omega) _
            · rw [hon1]; exact (X7.out.set _).other (by omega) _
            · exact (HBW.out.setCell (p := ⟨s3 + 1, 0, none⟩) (by show w.heap.size ≤ s3 + 1; omega) _).setCell (p := ⟨s3 + 1 + 1, 0, none⟩) (by show w.heap.size ≤ s3 + 1 + 1; omega) _
            · exact (X8.out.other (by omega) _).set _
            · exact fun j hj => at_set (at_set HAN.out (by omega) _) (by omega) _ j hj
          · have hkb : ((T.it n t m).kind == 1) = false := by simpa using hkd
            have HKD := Lib.hid hkd
            clear hkd
            gi_wp2
            have hon1 : ((T.ones n t (m + 1) : Nat) : Int) = (on : Int) := by rw [T.ones, if_neg HKD.out, ← Hon.out]; simp
            have hm1 : (((m + 1 : Nat)) : Int) = (m : Int) + 1 := by omega
            refine ⟨HKO.out.setCell _ _ ⟨by omega, by omega⟩, by omega, HVU.out.snoc HXO.out, HNZ.out, ?_, ?_, ?_, ?_, ?_, g2, 0, xc, ?_, hcn, hcmn, ?_, .inr (by omega)⟩
            · exact X4.out.other (by omega) _
            · exact X5.out.other (by omega) _
            · rw [hm1]; exact X6.out.other (by omega) _
            · rw [hon1]; exact X7.out.other (by omega) _
            · exact HBW.out.setCell (p := ⟨s3 + 1 + 1, 0, none⟩) (by show w.heap.size ≤ s3 + 1 + 1; omega) _
            · exact X8.out.set _
            · exact fun j hj => at_set HAN.out (by omega) _ j hj
      case done =>
        rintro D m Wd hD ⟨hm3, _, hend⟩ ⟨hm', hvu, hnz, b4, b5, b6, b7, hb, bb, off', c', b8, hle, hcm', hata, hbb⟩ hK
        have z4 := b4.cell
        have z5 := b5.cell
        have z6 := b6.cell
        have z7 := b7.cell
        have z8 := b8.cell
        have f4 := b4.frozen
        have f5 := b5.frozen
        have hvm := hvu m (Nat.le_refl _)
        obtain ⟨on, hon⟩ : ∃ on, on = T.ones n t m := ⟨_, rfl⟩
        have hob : on ≤ 3000 := by rw [hon]; have := T.ones_le n t m; omega
        rw [← hon] at z7
        have Hon := Lib.hid hon
        have ki := Lib.hid (isZero_any bb off' (T.it n t m).enc.length c' ((T.it n t m).cnt : Int) Wd (by rw [T.enc_len]; omega) hata.head)
        have HK := Lib.hid hK
        have HB := Lib.hid hb
        have HVU := Lib.hid hvu
        have HNZ := Lib.hid hnz
        have hl4 : w.heap.size ≠ D := by have := b4.lt; omega
        have hl5 : w.heap.size + 1 ≠ D := by have := b5.lt; omega
        have hDl : D < Wd.heap.size := (Array.getElem?_eq_some_iff.1 hK).1
        clear hon hK hb hata b6 b7 b8
        by_cases hz : T.it n t m = .z
        · have hzb : (((T.it n t m).cnt : Int) == 0) = true := by rw [hz]; rfl
          obtain ⟨e1, e2⟩ := T.downP_some hvt hin (T.down_end HVU.out HNZ.out hz hm3)
          have E1 := Lib.hid e1
          have E2 := Lib.hid e2
          clear hz hvu hnz hend e1 e2
          gi_wp2
          refine ⟨trivial, (callsIn_wide.2 ki.out).mono ?_⟩
          rintro ee wx ⟨rfl, rfl⟩
          gi_wp2
          gi_region
          gi_wp2
          obtain ⟨y4, y5⟩ := two_set z4 z5 (.int .i64 m) (.int .i64 on)
          have hK2 : ((Wd.setCell ⟨w.heap.size, 0, none⟩ (.int .i64 m)).setCell ⟨w.heap.size + 1, 0, none⟩ (.int .i64 on)).drew.heap[D]? = some (.deferred (some [])) :=
            ((grownBy_setCell' _ _ _).block D (by rw [show (Wd.setCell ⟨w.heap.size, 0, none⟩ (.int .i64 m)).heap.size = Wd.heap.size by simp [World.setCell]]; exact hDl) (fun e => hl5 (Option.some.inj e).symm)).trans (((grownBy_setCell' _ _ _).block D hDl (fun e => hl4 (Option.some.inj e).symm)).trans HK.out)
          refine ⟨by simp, .inl ⟨_, _, rfl, run_takeDeferred hK2, ?_⟩⟩
          have hbd := (below_two HB.out (.int .i64 m) (.int .i64 on)).drew
          have hfin := hbd.grown (grownBy_putObj' _ D (.deferred none)) hbd.size (fun k e => by cases e; omega)
          refine down_out rfl rfl (x := (m : Int)) (y := (on : Int)) ?_ ?_ ⟨by rw [E1.out, E2.out, Hon.out], hfin⟩
          · exact (World.cell?_of_block (World.putObj_heap_other hl4)).trans y4
          · exact (World.cell?_of_block (World.putObj_heap_other hl5)).trans y5
        · have hzb : (((T.it n t m).cnt : Int) == 0) = false := by
            cases hti : T.it n t m with
            | z => exact absurd hti hz
            | c q f u => simp [T.cnt]; omega
          obtain ⟨e1, e2⟩ := T.downP_none (t := t) (n := n) (by
            rcases hend with h | h | h
            · rw [← h]; exact T.down_long HNZ.out hz
            · exact absurd h hz
            · rw [hvm] at h; cases h)
          have E1 := Lib.hid e1
          have E2 := Lib.hid e2
          clear hz hvu hnz hend e1 e2
          gi_wp2
          refine ⟨trivial, (callsIn_wide.2 ki.out).mono ?_⟩
          rintro ee wx ⟨rfl, rfl⟩
          gi_wp2
          obtain ⟨y4, y5⟩ := two_set z4 z5 (.int .i64 (-1)) (.int .i64 (-1))
          have hK2 : ((Wd.setCell ⟨w.heap.size, 0, none⟩ (.int .i64 (-1))).setCell ⟨w.heap.size + 1, 0, none⟩ (.int .i64 (-1))).heap[D]? = some (.deferred (some [])) :=
            ((grownBy_setCell' _ _ _).block D (by rw [show (Wd.setCell ⟨w.heap.size, 0, none⟩ (.int .i64 (-1))).heap.size = Wd.heap.size by simp [World.setCell]]; exact hDl) (fun e => hl5 (Option.some.inj e).symm)).trans (((grownBy_setCell' _ _ _).block D hDl (fun e => hl4 (Option.some.inj e).symm)).trans HK.out)
          refine ⟨by simp, .inl ⟨_, _, rfl, run_takeDeferred hK2, ?_⟩⟩
          exact down_out rfl rfl ((World.cell?_of_block (World.putObj_heap_other hl4)).trans y4) ((World.cell?_of_block (World.putObj_heap_other hl5)).trans y5) ⟨by rw [E1.out, E2.out], (below_two HB.out _ _).grown (grownBy_putObj' _ D _) (below_two HB.out _ _).size (fun k e => by cases e; omega)⟩
      case stop =>
        rintro D c m Wd hD _ ⟨rfl, h2, h3, h4, h5, b4, b5, hb⟩ hK
        obtain ⟨e1, e2⟩ := T.downP_none (t := t) (n := n) (T.down_bad (m := m - 1) (g := 3000) (by rw [show m - 1 + 1 = m by omega]; exact h4) (by rw [show m - 1 + 1 = m by omega]; exact h5) (by omega))
        have y4 : (Wd.putObj D (.deferred none)).cell? ⟨w.heap.size, 0, none⟩ = some (.int .i64 (-1)) := (b4.kept (grownBy_putObj' Wd D _) (fun e => by have h : w.heap.size = D := Option.some.inj e; omega)).cell
        have y5 : (Wd.putObj D (.deferred none)).cell? ⟨w.heap.size + 1, 0, none⟩ = some (.int .i64 (-1)) := (b5.kept (grownBy_putObj' Wd D _) (fun e => by have h : w.heap.size + 1 = D := Option.some.inj e; omega)).cell
        have hbD : Below w.heap.size w (Wd.putObj D (.deferred none)) := hb.grown (grownBy_putObj' Wd D _) hb.size (fun k e => by cases e; omega)
        gi_wp2
        refine ⟨by simp, .inl ⟨_, _, rfl, run_takeDeferred hK, ?_⟩⟩
        exact down_out rfl rfl y4 y5 ⟨by rw [e1, e2], hbD⟩
    · have hkt : decide (0 ≤ n ∧ n ≤ 99) = false := decide_eq_false hin
      rw [hkt] at ks
      obtain ⟨e1, e2⟩ := T.downP_bad (xs := xs) (n := n) (.inr hin)
      rw [e1, e2]
      clear h h1 e1 e2 hkt hin
      refine callsIn_of_wp_marks Try.func26 rfl trivial ?_ rfl
      simp only [Try.ntmps26, List.size_toArray, List.length_cons, List.length_nil, Nat.reduceAdd, Nat.reduceSub, Array.replicate_succ, Array.replicate_zero, List.push_toArray, List.append_toArray, List.nil_append, List.cons_append]
      gi_wp2
      rw [HWW.out]
      refine ⟨trivial, (callsIn_wide.2 k1.out).mono ?_⟩
      rintro ee w3 ⟨rfl, hb3⟩
      have hl4 : w.heap.size < w2.heap.size := by omega
      have hl5 : w.heap.size + 1 < w2.heap.size := by omega
      have z4 := (hb3.cell (p := ⟨w.heap.size, 0, none⟩) hl4).trans hx4.cell
      have z5 := (hb3.cell (p := ⟨w.heap.size + 1, 0, none⟩) hl5).trans hx5.cell
      have f4 : w3.frozen? ⟨w.heap.size, 0, none⟩ = false := (World.frozen?_of_block (hb3.block _ hl4)).trans hx4.frozen
      have f5 : w3.frozen? ⟨w.heap.size + 1, 0, none⟩ = false := (World.frozen?_of_block (hb3.block _ hl5)).trans hx5.frozen
      have Hb3 := Lib.hid (hw2.trans (hb3.mono hw2.size))
      clear hb3
      gi_wp2
      refine ⟨trivial, (callsIn_wide.2 (ks.out _)).mono ?_⟩
      rintro ee wx ⟨rfl, rfl⟩
      gi_wp2
      obtain ⟨y4, y5⟩ := two_set z4 z5 (.int .i64 (-1)) (.int .i64 (-1))
      exact down_out rfl rfl y4 y5 ⟨rfl, below_two Hb3.out _ _⟩
  · have k1 := Lib.hid (impl_valid ao len cap xs w2 (h.below hw2) h1)
    obtain ⟨e1, e2⟩ := T.downP_bad (xs := xs) (n := n) (.inl h1)
    rw [e1, e2]
    clear h h1 e1 e2
    refine callsIn_of_wp_marks Try.func26 rfl trivial ?_ rfl
    simp only [Try.ntmps26, List.size_toArray, List.length_cons, List.length_nil, Nat.reduceAdd, Nat.reduceSub, Array.replicate_succ, Array.replicate_zero, List.push_toArray, List.append_toArray, List.nil_append, List.cons_append]
    gi_wp2
    rw [HWW.out]
    refine ⟨trivial, (callsIn_wide.2 k1.out).mono ?_⟩
    rintro ee w3 ⟨rfl, hb3⟩
    have hl4 : w.heap.size < w2.heap.size := by omega
    have hl5 : w.heap.size + 1 < w2.heap.size := by omega
    have z4 := (hb3.cell (p := ⟨w.heap.size, 0, none⟩) hl4).trans hx4.cell
    have z5 := (hb3.cell (p := ⟨w.heap.size + 1, 0, none⟩) hl5).trans hx5.cell
    have f4 : w3.frozen? ⟨w.heap.size, 0, none⟩ = false := (World.frozen?_of_block (hb3.block _ hl4)).trans hx4.frozen
    have f5 : w3.frozen? ⟨w.heap.size + 1, 0, none⟩ = false := (World.frozen?_of_block (hb3.block _ hl5)).trans hx5.frozen
    have Hb3 := Lib.hid (hw2.trans (hb3.mono hw2.size))
    clear hb3
    gi_wp2
    refine ⟨trivial, ?_⟩
    gi_wp2
    obtain ⟨y4, y5⟩ := two_set z4 z5 (.int .i64 (-1)) (.int .i64 (-1))
    exact down_out rfl rfl y4 y5 ⟨rfl, below_two Hb3.out _ _⟩
end Go.Proofs.Ytdcaefgbpnjjaab

/- DownS -/
/- StepsDown of the model. -/
namespace Go.Proofs.Ytdcaefgbpnjjaab
open Go.RowKit

/-- A row, as a slice. -/
theorem Sl.of_at {w : World} {b off len cap : Nat} {t : T} (hl : len = t.enc.length) (hc : len ≤ cap) (hm : cap ≤ maxLen) (h : At w b off t.enc) : Sl w (some ⟨b, off, none⟩) len cap t.enc :=
  ⟨hl.symm, hc, hm, fun _ => ⟨b, off, rfl, h⟩⟩

def SdRel (v : Int) (t : T) (w : World) (m : Nat) (v0 v6 v7 : Value) (wr : World) : Prop :=
  m ≤ 3001 ∧ T.VU v t m ∧ T.NZ v t m ∧ v7 = .int .i64 m ∧ v6 = .int .i64 (T.ones v t m) ∧ Below w.heap.size w wr ∧
    ∃ bb off c, v0 = .slice (some ⟨bb, off, none⟩) (T.it v t m).enc.length c ∧ (T.it v t m).enc.length ≤ c ∧ c ≤ maxLen ∧ At wr bb off (T.it v t m).enc

set_option maxRecDepth 100000 in
set_option maxHeartbeats 4000000 in
theorem spec_StepsDown (ao : Option Addr) (len cap : Nat) (xs : List Int) (n : Int) (w : World) (h : Sl w ao len cap xs) (hn0 : -9223372036854775808 ≤ n) (hn1 : n ≤ 9223372036854775807) :
    Calls Try.prog 27 #[.slice ao len cap, .int .i64 n] w fun e w' => e = .returned (.tuple #[.int .i64 (T.downS xs n), .int .i64 (T.downO xs n)]) ∧ Below w.heap.size w w' := by
  rcases vld_tf xs with h1 | h1
  · have k1 := Lib.hid (spec_valid ao len cap xs w h h1)
    by_cases hin : 0 ≤ n ∧ n ≤ 99
    · have ks := Lib.hid (fun w => l1In_yes n 0 99 w hin.1 hin.2)
      obtain ⟨b, off, t, rfl, rfl, hs, hos, hat, hn, hl, hp, hc, hm⟩ := h.valid h1
      have HAT := Lib.hid hat
      have HN := Lib.hid hn
      have H1 := Lib.hid h1
      have hN0 := Lib.hid hn0
      have hN1 := Lib.hid hn1
      clear h h1 hos hs hat hn hn0 hn1
      go_enter Try.func27, Try.ntmps27
      go_wp2_with fail
      refine (k1.out).mono ?_
      rintro ee w1 ⟨rfl, hb1⟩
      have hst : SdRel n t w 0 (.slice (some ⟨b, off, none⟩) len cap) (.int .i64 (0 : Nat)) (.int .i64 (0 : Nat)) w1 := by
        refine ⟨Nat.zero_le _, fun j hj => ?_, fun j hj => by omega, rfl, rfl, hb1, b, off, cap, ?_, ?_, hm, HAT.out.below hb1 (HAT.out.lt (T.enc_ne t))⟩
        · obtain rfl : j = 0 := by omega
          exact H1.out
        · rw [show (T.it n t 0).enc.length = len from HN.out.symm]
        · rw [show (T.it n t 0).enc.length = len from HN.out.symm]; exact hc
      have Hst := Lib.hid hst
      clear hb1 hst
      go_wp2_with fail
      refine (ks.out _).mono ?_
      rintro ee wx ⟨rfl, rfl⟩
      go_wp2_with fail
      go_loopw [0, 6, 7] (fun v0 v6 v7 wr => ∃ m, SdRel n t w m v0 v6 v7 wr) (fun _ _ v7 _ => 3001 - (intOf v7).toNat)
      case atStart => exact ⟨0, Hst.out⟩
      case round =>
        obtain ⟨m, hm2, hvu, hnz, rfl, rfl, hb, bb, off', c', rfl, hle, hcm', hata⟩ := hrel
        obtain ⟨tm, htm⟩ : ∃ tm, tm = T.it n t m := ⟨_, rfl⟩
        have hvm := hvu m (Nat.le_refl _)
        rw [← htm] at hle hata hvm ⊢
        obtain ⟨on, hon⟩ : ∃ on, on = T.ones n t m := ⟨_, rfl⟩
        have hob : on ≤ 3001 := by rw [hon]; have := T.ones_le n t m; omega
        rw [← hon]
        have Hon := Lib.hid hon
        have Htm := Lib.hid htm
        have HVU := Lib.hid hvu
        have HNZ := Lib.hid hnz
        have HB := Lib.hid hb
        have HVM := Lib.hid hvm
        obtain ⟨ln, hln⟩ : ∃ ln, ln = tm.enc.length := ⟨_, rfl⟩
        rw [← hln] at hle ⊢
        have HLN := Lib.hid hln
        have hsl := Sl.of_at (t := tm) hln hle hcm' hata
        have kk := Lib.hid (spec_OrdKind (some ⟨bb, off', none⟩) ln c' tm.enc wr hsl)
        rw [T.kindRow, if_pos hvm, T.of_enc] at kk
        have HSL := Lib.hid hsl
        clear hon htm hvu hnz hb hata hvm hln hsl
        by_cases hlt : m ≤ 3000
        · by_cases hz : tm = .z
          · have hl1 : ln = 1 := by rw [HLN.out, hz]; rfl
            have hlb : ((ln : Int) == 1) = true := by rw [hl1]; rfl
            obtain ⟨e1, e2⟩ := T.downP_some H1.out hin (T.down_end HVU.out HNZ.out (by rw [← Htm.out]; exact hz) hlt)
            have E1 := Lib.hid e1
            have E2 := Lib.hid e2
            clear hz hl1 e1 e2
            go_wp2_with fail
            go_ret2
            exact ⟨by rw [E1.out, E2.out, Hon.out]; rfl, HB.out⟩
          · have hlb : ((ln : Int) == 1) = false := by
              cases tm with
              | z => exact absurd rfl hz
              | c q f u =>
                have h1 := HLN.out
                rw [T.enc_len, T.body_c] at h1
                simp [T.enc] at h1 ⊢
                omega
            have HZ := Lib.hid hz
            obtain ⟨nr, hnr⟩ : ∃ nr, nr = T.stepRow tm.enc n := ⟨_, rfl⟩
            obtain ⟨no, hno⟩ : ∃ no, no = T.stepOk tm.enc n := ⟨_, rfl⟩
            have hv2 := T.stepRow_val HVM.out hin.1 hin.2
            have Hnr := Lib.hid (hnr.trans hv2.1)
            have Hno := Lib.hid (hno.trans hv2.2)
            have Hnr0 := Lib.hid hnr
            have Hno0 := Lib.hid hno
            have HNX := Lib.hid (show T.it n t (m + 1) = tm.step n by rw [Htm.out]; rfl)
            have HNZ2 := Lib.hid (HNZ.out.snoc (by rw [← Htm.out]; exact hz))
            clear hz hnr hno hv2
            by_cases hkd : tm.kind = 1
            · have hkb : (tm.kind == 1) = true := by rw [hkd]; rfl
              have HKD := Lib.hid hkd
              clear hkd
              go_wp2_with fail
              refine (kk.out).mono ?_
              rintro ee w2 ⟨rfl, hb2⟩
              have ks2 := Lib.hid (spec_OrdStep (some ⟨bb, off', none⟩) ln c' tm.enc n w2 (HSL.out.below hb2) hN0.out hN1.out)
              unfold OrdOkPost at ks2
              rw [← Hnr0.out, ← Hno0.out] at ks2
              have Hb2 := Lib.hid (HB.out.trans (hb2.mono HB.out.size))
              clear hb2
              go_wp2_with fail
              refine (ks2.out).mono ?_
              rintro ee w3 ⟨a3, c3, rfl, ho3, hb3⟩
              have Hb3 := Lib.hid (Hb2.out.trans (hb3.mono Hb2.out.size))
              have Ho3 := Lib.hid ho3
              clear ho3 hb3
              cases hno2 : no with
              | false =>
                have hbad : T.down n 3000 t = none := by
                  have hv : T.vldB (T.it n t (m + 1)).enc = false := by rw [HNX.out, ← Hno.out, hno2]
                  rcases Nat.lt_or_ge m 3000 with h | h
                  · exact T.down_bad (m := m) HNZ2.out hv (by omega)
                  · exact T.down_long (m := 3000) (fun j hj => HNZ2.out j (by omega)) (HNZ2.out 3000 (by omega))
                obtain ⟨e1, e2⟩ := T.downP_none hbad
                have E1 := Lib.hid e1
                have E2 := Lib.hid e2
                clear hno2 hbad e1 e2
                go_wp2_with fail
                go_ret2
                exact ⟨by rw [E1.out, E2.out]; rfl, Hb3.out⟩
              | true =>
                have hvn : T.vldB (tm.step n).enc = true := by rw [← Hno.out, hno2]
                have hfe : nr = (tm.step n).enc := by rw [Hnr.out, T.fit, if_pos hvn]
                have ho3 := Ho3.out
                rw [hfe] at ho3
                obtain ⟨g2, rfl, hg2, hatn, hcn, hcmn⟩ := own_rowT ho3
                have hfin : SdRel n t w (m + 1) (.slice (some ⟨g2, 0, none⟩) nr.length c3) (.int .i64 ((on + 1 : Nat) : Int)) (.int .i64 ((m + 1 : Nat) : Int)) w3 := by
                  refine ⟨by omega, HVU.out.snoc (by rw [HNX.out]; exact hvn), HNZ2.out, rfl, ?_, Hb3.out, g2, 0, c3, by rw [HNX.out, hfe], by rw [HNX.out]; exact hcn, hcmn, by rw [HNX.out]; exact hatn⟩
                  rw [T.ones, if_pos (by rw [← Htm.out]; exact HKD.out), ← Hon.out]
                have Hfin := Lib.hid hfin
                clear hno2 hvn hfe ho3 hatn hcn hcmn hfin hg2
                go_wp2_with fail
                go_roundw
                case rel => exact ⟨m + 1, by have h := Hfin.out; simpa using h⟩
                case measure => simp [intOf]; omega
            · have hkb : (tm.kind == 1) = false := by simpa using hkd
              have HKD := Lib.hid hkd
              clear hkd
              go_wp2_with fail
              refine (kk.out).mono ?_
              rintro ee w2 ⟨rfl, hb2⟩
              have ks2 := Lib.hid (spec_OrdStep (some ⟨bb, off', none⟩) ln c' tm.enc n w2 (HSL.out.below hb2) hN0.out hN1.out)
              unfold OrdOkPost at ks2
              rw [← Hnr0.out, ← Hno0.out] at ks2
              have Hb2 := Lib.hid (HB.out.trans (hb2.mono HB.out.size))
              clear hb2
              go_wp2_with fail
              refine (ks2.out).mono ?_
              rintro ee w3 ⟨a3, c3, rfl, ho3, hb3⟩
              have Hb3 := Lib.hid (Hb2.out.trans (hb3.mono Hb2.out.size))
              have Ho3 := Lib.hid ho3
              clear ho3 hb3
              cases hno2 : no with
              | false =>
                have hbad : T.down n 3000 t = none := by
                  have hv : T.vldB (T.it n t (m + 1)).enc = false := by rw [HNX.out, ← Hno.out, hno2]
                  rcases Nat.lt_or_ge m 3000 with h | h
                  · exact T.down_bad (m := m) HNZ2.out hv (by omega)
                  · exact T.down_long (m := 3000) (fun j hj => HNZ2.out j (by omega)) (HNZ2.out 3000 (by omega))
                obtain ⟨e1, e2⟩ := T.downP_none hbad
                have E1 := Lib.hid e1
                have E2 := Lib.hid e2
                clear hno2 hbad e1 e2
                go_wp2_with fail
                go_ret2
                exact ⟨by rw [E1.out, E2.out]; rfl, Hb3.out⟩
              | true =>
                have hvn : T.vldB (tm.step n).enc = true := by rw [← Hno.out, hno2]
                have hfe : nr = (tm.step n).enc := by rw [Hnr.out, T.fit, if_pos hvn]
                have ho3 := Ho3.out
                rw [hfe] at ho3
                obtain ⟨g2, rfl, hg2, hatn, hcn, hcmn⟩ := own_rowT ho3
                have hfin : SdRel n t w (m + 1) (.slice (some ⟨g2, 0, none⟩) nr.length c3) (.int .i64 ((on : Nat) : Int)) (.int .i64 ((m + 1 : Nat) : Int)) w3 := by
                  refine ⟨by omega, HVU.out.snoc (by rw [HNX.out]; exact hvn), HNZ2.out, rfl, ?_, Hb3.out, g2, 0, c3, by rw [HNX.out, hfe], by rw [HNX.out]; exact hcn, hcmn, by rw [HNX.out]; exact hatn⟩
                  rw [T.ones, if_neg (by rw [← Htm.out]; exact HKD.out), ← Hon.out]; rfl
                have Hfin := Lib.hid hfin
                clear hno2 hvn hfe ho3 hatn hcn hcmn hfin hg2
                go_wp2_with fail
                go_roundw
                case rel => exact ⟨m + 1, by have h := Hfin.out; simpa using h⟩
                case measure => simp [intOf]; omega
        · have hm3 : m = 3001 := by omega
          obtain ⟨e1, e2⟩ := T.downP_none (t := t) (n := n) (T.down_long (m := 3000) (fun j hj => HNZ.out j (by omega)) (HNZ.out 3000 (by omega)))
          have E1 := Lib.hid e1
          have E2 := Lib.hid e2
          clear e1 e2
          go_wp2_with fail
          go_ret2
          exact ⟨by rw [E1.out, E2.out]; rfl, HB.out⟩
    · have ks := Lib.hid (fun w => l1In_no n 0 99 w (by omega))
      obtain ⟨e1, e2⟩ := T.downP_bad (xs := xs) (n := n) (.inr hin)
      rw [e1, e2]
      clear h h1 hin hn0 hn1 e1 e2
      go_enter Try.func27, Try.ntmps27
      go_wp2_with fail
      refine (k1.out).mono ?_
      rintro ee w1 ⟨rfl, hb1⟩
      have Hb1 := Lib.hid hb1
      clear hb1
      go_wp2_with fail
      refine (ks.out _).mono ?_
      rintro ee w2 ⟨rfl, rfl⟩
      go_wp2_with fail
      go_ret2
      exact ⟨rfl, Hb1.out⟩
  · have k1 := Lib.hid (spec_valid ao len cap xs w h h1)
    obtain ⟨e1, e2⟩ := T.downP_bad (xs := xs) (n := n) (.inl h1)
    rw [e1, e2]
    clear h h1 hn0 hn1 e1 e2
    go_enter Try.func27, Try.ntmps27
    go_wp2_with fail
    refine (k1.out).mono ?_
    rintro ee w1 ⟨rfl, hb1⟩
    have Hb1 := Lib.hid hb1
    clear hb1
    go_wp2_with fail
    go_ret2
    exact ⟨rfl, Hb1.out⟩
end Go.Proofs.Ytdcaefgbpnjjaab

/- LFnStepsDown -/
/- FnStepsDown: the walk of the law. -/
namespace Go.Proofs.Ytdcaefgbpnjjaab
open Go.RowKit

set_option maxHeartbeats 4000000 in
theorem fnStepsDown_walk (a : Option Addr) (len cap : Nat) (a2 : Option Addr) (len2 cap2 : Nat) (w : World) (h : By w a len cap) (h2 : By w a2 len2 cap2) :
    Calls Try.prog 5 #[.slice a len cap, .slice a2 len2 cap2] w fun e w' => e = .returned (.bool true) ∧ Below w.heap.size w w' := by
  have hlm : len ≤ 9223372036854775807 := by have := h.1; have := h.2.1; unfold maxLen at this; omega
  have hlm2 : len2 ≤ 9223372036854775807 := by have := h2.1; have := h2.2.1; unfold maxLen at this; omega
  by_cases hbig : 1048576 < len
  · clear h h2
    go_enter Try.func5, Try.ntmps5
    go_wp2_with fail
    go_ret
    exact ⟨rfl, Below.refl _ _⟩
  by_cases hbig2 : 1048576 < len2
  · clear h h2
    go_enter Try.func5, Try.ntmps5
    go_wp2_with fail
    go_ret
    exact ⟨rfl, Below.refl _ _⟩
  have k0 := Lib.hid (drawStepsDown_any a len cap w h)
  have H2 := Lib.hid h2
  clear h h2
  go_enter Try.func5, Try.ntmps5
  go_wp2_with fail
  refine (k0.out).mono ?_
  rintro ee w1 ⟨xs, V, g, n, c, hn, hV0, hV1, rfl, ho, hl, hb0⟩
  have Hn := Lib.hid hn
  clear hn
  have X_0 := Lib.hid (Sl.of_own ho)
  have Ht0 := Lib.hid hb0
  have hws := hb0.size
  clear ho hb0
  rcases T.downS_cases xs V with ⟨hs, ho'⟩ | ⟨ho0, hos, hs3⟩
  · have Hs := Lib.hid hs
    have Ho := Lib.hid ho'
    clear hs ho'
    have k1 := Lib.hid (impl_StepsDown (some ⟨g, 0, none⟩) n c xs V w1 X_0.out (by omega) (by omega))
    rw [Hs.out, Ho.out] at k1
    go_wp2_with fail
    refine (k1.out).mono ?_
    rintro ee w101 ⟨rfl, hb1⟩
    have Ht1 := Lib.hid (Ht0.out.trans (hb1.mono (by have h1 := Ht0.out.size; omega)))
    have X_1 := Lib.hid (X_0.out.below hb1)
    clear hb1
    have k2 := Lib.hid (spec_StepsDown (some ⟨g, 0, none⟩) n c xs V w101 X_1.out (by omega) (by omega))
    rw [Hs.out, Ho.out] at k2
    go_wp2_with fail
    refine (k2.out).mono ?_
    rintro ee w102 ⟨rfl, hb2⟩
    have Ht2 := Lib.hid (Ht1.out.trans (hb2.mono (by have h1 := Ht1.out.size; omega)))
    have X_2 := Lib.hid (X_1.out.below hb2)
    clear hb2
    have k3 := Lib.hid (alive_any w102)
    go_wp2_with fail
    refine (k3.out).mono ?_
    rintro ee w103 ⟨rfl, hb3⟩
    have Ht3 := Lib.hid (Ht2.out.trans (hb3.mono (by have h1 := Ht2.out.size; omega)))
    have X_3 := Lib.hid (X_2.out.below hb3)
    clear hb3
    go_wp2_with fail
    go_ret
    exact ⟨rfl, Ht3.out⟩
  · have hsl := T.downS_slow (xs := xs) (n := V) (by omega)
    have had := fun ys => T.downS_add (xs := xs) (ys := ys) (n := V) (by omega)
    obtain ⟨sv, hsv⟩ : ∃ x, x = T.downS xs V := ⟨_, rfl⟩
    obtain ⟨ov, hov⟩ : ∃ x, x = T.downO xs V := ⟨_, rfl⟩
    rw [← hsv] at hos hs3
    rw [← hov] at ho0 hos hsl
    have Had := Lib.hid had
    have Hsl := Lib.hid hsl
    have Hsv := Lib.hid hsv
    have Hov := Lib.hid hov
    clear hsl had hsv hov
    have k4 := Lib.hid (impl_StepsDown (some ⟨g, 0, none⟩) n c xs V w1 X_0.out (by omega) (by omega))
    rw [← Hsv.out, ← Hov.out] at k4
    go_wp2_with fail
    refine (k4.out).mono ?_
    rintro ee w104 ⟨rfl, hb4⟩
    have Ht4 := Lib.hid (Ht0.out.trans (hb4.mono (by have h1 := Ht0.out.size; omega)))
    have X_4 := Lib.hid (X_0.out.below hb4)
    clear hb4
    have k5 := Lib.hid (spec_StepsDown (some ⟨g, 0, none⟩) n c xs V w104 X_4.out (by omega) (by omega))
    rw [← Hsv.out, ← Hov.out] at k5
    go_wp2_with fail
    refine (k5.out).mono ?_
    rintro ee w105 ⟨rfl, hb5⟩
    have Ht5 := Lib.hid (Ht4.out.trans (hb5.mono (by have h1 := Ht4.out.size; omega)))
    have X_5 := Lib.hid (X_4.out.below hb5)
    clear hb5
    by_cases hV : 0 < V
    · have hsl := Hsl.out hV
      have Hsl2 := Lib.hid hsl
      clear hsl
      have k6 := Lib.hid (impl_SlowValue (some ⟨g, 0, none⟩) n c xs V w105 X_5.out (by omega) (by omega))
      rw [Hsl2.out] at k6
      go_wp2_with fail
      refine (k6.out).mono ?_
      rintro ee w106 ⟨rfl, hb6⟩
      have Ht6 := Lib.hid (Ht5.out.trans (hb6.mono (by have h1 := Ht5.out.size; omega)))
      have X_6 := Lib.hid (X_5.out.below hb6)
      clear hb6
      have k7 := Lib.hid (drawStepsDown_any a2 len2 cap2 w106 (H2.out.later Ht6.out))
      go_wp2_with fail
      refine (k7.out).mono ?_
      rintro ee w107 ⟨zs, V2, gz, nz, cz, hnz, _, _, rfl, ho, hlz, hb7⟩
      have Ht7 := Lib.hid (Ht6.out.trans (hb7.mono (by have h1 := Ht6.out.size; omega)))
      have X_7 := Lib.hid (X_6.out.below hb7)
      have Z_7 := Lib.hid (Sl.of_own ho)
      clear hb7 ho
      have Hnz := Lib.hid hnz
      clear hnz
      obtain ⟨sr, hsr⟩ : ∃ x, x = T.addRow xs zs := ⟨_, rfl⟩
      have Hsr := Lib.hid hsr
      clear hsr
      obtain ⟨so, hso⟩ : ∃ x, x = T.addOk xs zs := ⟨_, rfl⟩
      have Hso := Lib.hid hso
      clear hso
      obtain ⟨nr, hnr⟩ : ∃ x, x = T.natRow xs zs := ⟨_, rfl⟩
      have Hnr := Lib.hid hnr
      clear hnr
      obtain ⟨no, hno⟩ : ∃ x, x = T.natOk xs zs := ⟨_, rfl⟩
      have Hno := Lib.hid hno
      clear hno
      have hsrl : sr.length ≤ 1000 := by rw [Hsr.out]; exact T.addRow_len _ _
      have k8 := Lib.hid (impl_OrdAdd (some ⟨g, 0, none⟩) (some ⟨gz, 0, none⟩) n c nz cz xs zs w107 X_7.out Z_7.out)
      unfold OrdOkPost at k8
      rw [← Hsr.out, ← Hso.out] at k8
      go_wp2_with fail
      refine (k8.out).mono ?_
      rintro ee w108 ⟨aS, cS, rfl, ho, hb8⟩
      have Ht8 := Lib.hid (Ht7.out.trans (hb8.mono (by have h1 := Ht7.out.size; omega)))
      have X_8 := Lib.hid (X_7.out.below hb8)
      have Z_8 := Lib.hid (Z_7.out.below hb8)
      have S_8 := Lib.hid (Sl.of_own ho)
      clear hb8 ho
      have k9 := Lib.hid (impl_OrdNatural (some ⟨g, 0, none⟩) (some ⟨gz, 0, none⟩) n c nz cz xs zs w108 X_8.out Z_8.out)
      unfold OrdOkPost at k9
      rw [← Hnr.out, ← Hno.out] at k9
      go_wp2_with fail
      refine (k9.out).mono ?_
      rintro ee w109 ⟨aM, cM, rfl, ho, hb9⟩
      have Ht9 := Lib.hid (Ht8.out.trans (hb9.mono (by have h1 := Ht8.out.size; omega)))
      have X_9 := Lib.hid (X_8.out.below hb9)
      have Z_9 := Lib.hid (Z_8.out.below hb9)
      have S_9 := Lib.hid (S_8.out.below hb9)
      have M_9 := Lib.hid (Sl.of_own ho)
      clear hb9 ho
      obtain ⟨hp0, hp9⟩ := T.downS_bnd zs V
      obtain ⟨pv, hpv⟩ : ∃ x, x = T.downS zs V := ⟨_, rfl⟩
      rw [← hpv] at hp0 hp9
      have Hpv := Lib.hid hpv
      obtain ⟨hq0, hq9⟩ := T.downS_bnd sr V
      obtain ⟨qv, hqv⟩ : ∃ x, x = T.downS sr V := ⟨_, rfl⟩
      rw [← hqv] at hq0 hq9
      have Hqv := Lib.hid hqv
      clear hpv hqv
      have k10 := Lib.hid (impl_StepsDown (some ⟨gz, 0, none⟩) nz cz zs V w109 Z_9.out (by omega) (by omega))
      rw [← Hpv.out] at k10
      go_wp2_with fail
      refine (k10.out).mono ?_
      rintro ee w110 ⟨rfl, hb10⟩
      have Ht10 := Lib.hid (Ht9.out.trans (hb10.mono (by have h1 := Ht9.out.size; omega)))
      have X_10 := Lib.hid (X_9.out.below hb10)
      have Z_10 := Lib.hid (Z_9.out.below hb10)
      have S_10 := Lib.hid (S_9.out.below hb10)
      have M_10 := Lib.hid (M_9.out.below hb10)
      clear hb10
      have k11 := Lib.hid (impl_StepsDown aS sr.length cS sr V w110 S_10.out (by omega) (by omega))
      rw [← Hqv.out] at k11
      go_wp2_with fail
      refine (k11.out).mono ?_
      rintro ee w111 ⟨rfl, hb11⟩
      have Ht11 := Lib.hid (Ht10.out.trans (hb11.mono (by have h1 := Ht10.out.size; omega)))
      have X_11 := Lib.hid (X_10.out.below hb11)
      have Z_11 := Lib.hid (Z_10.out.below hb11)
      have S_11 := Lib.hid (S_10.out.below hb11)
      have M_11 := Lib.hid (M_10.out.below hb11)
      clear hb11
      cases so with
      | false =>
        skip
        go_wp2_with fail
        go_ret
        exact ⟨rfl, Ht11.out⟩
      | true =>
        cases no with
        | false =>
          skip
          go_wp2_with fail
          go_ret
          exact ⟨rfl, Ht11.out⟩
        | true =>
          cases heq : eqB sr nr with
          | false =>
            have Heq := Lib.hid heq
            clear heq
            have k12 := Lib.hid (sameInts_any aS aM sr.length cS nr.length cM sr nr w111 (by omega) S_11.out M_11.out)
            rw [Heq.out] at k12
            go_wp2_with fail
            refine (k12.out).mono ?_
            rintro ee w112 ⟨rfl, hb12⟩
            have Ht12 := Lib.hid (Ht11.out.trans (hb12.mono (by have h1 := Ht11.out.size; omega)))
            have X_12 := Lib.hid (X_11.out.below hb12)
            have Z_12 := Lib.hid (Z_11.out.below hb12)
            have S_12 := Lib.hid (S_11.out.below hb12)
            have M_12 := Lib.hid (M_11.out.below hb12)
            clear hb12
            go_wp2_with fail
            go_ret
            exact ⟨rfl, Ht12.out⟩
          | true =>
            have Heq := Lib.hid heq
            have hfin : pv < 0 ∨ qv < 0 ∨ (0 ≤ pv ∧ 0 ≤ qv ∧ qv = sv + pv) := by
              by_cases h1 : pv < 0
              · exact .inl h1
              · by_cases h2 : qv < 0
                · exact .inr (.inl h2)
                · have h3 := eqB_true.1 heq
                  have h4 := Had.out zs Hso.out.symm Hno.out.symm (by rw [← Hsr.out, ← Hnr.out]; exact h3) (by rw [← Hpv.out]; omega) (by rw [← Hsr.out, ← Hqv.out]; omega)
                  rw [← Hsr.out, ← Hqv.out, ← Hsv.out, ← Hpv.out] at h4
                  exact .inr (.inr ⟨by omega, by omega, h4⟩)
            clear heq
            have k13 := Lib.hid (sameInts_any aS aM sr.length cS nr.length cM sr nr w111 (by omega) S_11.out M_11.out)
            rw [Heq.out] at k13
            go_wp2_with fail
            refine (k13.out).mono ?_
            rintro ee w113 ⟨rfl, hb13⟩
            have Ht13 := Lib.hid (Ht11.out.trans (hb13.mono (by have h1 := Ht11.out.size; omega)))
            have X_13 := Lib.hid (X_11.out.below hb13)
            have Z_13 := Lib.hid (Z_11.out.below hb13)
            have S_13 := Lib.hid (S_11.out.below hb13)
            have M_13 := Lib.hid (M_11.out.below hb13)
            clear hb13
            rcases hfin with h | h | ⟨h1, h2, h3⟩
            · skip
              go_wp2_with fail
              go_ret
              exact ⟨rfl, Ht13.out⟩
            · by_cases hpn : pv < 0
              · skip
                go_wp2_with fail
                go_ret
                exact ⟨rfl, Ht13.out⟩
              · skip
                go_wp2_with fail
                go_ret
                exact ⟨rfl, Ht13.out⟩
            · have hpn : ¬ pv < 0 := by omega
              have hqn : ¬ qv < 0 := by omega
              have hqe : (qv == sv + pv) = true := by rw [h3]; simp
              have Hqe := Lib.hid h3
              subst h3
              go_wp2_with fail
              go_ret
              exact ⟨rfl, Ht13.out⟩
    · have k14 := Lib.hid (drawStepsDown_any a2 len2 cap2 w105 (H2.out.later Ht5.out))
      go_wp2_with fail
      refine (k14.out).mono ?_
      rintro ee w114 ⟨zs, V2, gz, nz, cz, hnz, _, _, rfl, ho, hlz, hb14⟩
      have Ht14 := Lib.hid (Ht5.out.trans (hb14.mono (by have h1 := Ht5.out.size; omega)))
      have X_14 := Lib.hid (X_5.out.below hb14)
      have Z_14 := Lib.hid (Sl.of_own ho)
      clear hb14 ho
      have Hnz := Lib.hid hnz
      clear hnz
      obtain ⟨sr, hsr⟩ : ∃ x, x = T.addRow xs zs := ⟨_, rfl⟩
      have Hsr := Lib.hid hsr
      clear hsr
      obtain ⟨so, hso⟩ : ∃ x, x = T.addOk xs zs := ⟨_, rfl⟩
      have Hso := Lib.hid hso
      clear hso
      obtain ⟨nr, hnr⟩ : ∃ x, x = T.natRow xs zs := ⟨_, rfl⟩
      have Hnr := Lib.hid hnr
      clear hnr
      obtain ⟨no, hno⟩ : ∃ x, x = T.natOk xs zs := ⟨_, rfl⟩
      have Hno := Lib.hid hno
      clear hno
      have hsrl : sr.length ≤ 1000 := by rw [Hsr.out]; exact T.addRow_len _ _
      have k15 := Lib.hid (impl_OrdAdd (some ⟨g, 0, none⟩) (some ⟨gz, 0, none⟩) n c nz cz xs zs w114 X_14.out Z_14.out)
      unfold OrdOkPost at k15
      rw [← Hsr.out, ← Hso.out] at k15
      go_wp2_with fail
      refine (k15.out).mono ?_
      rintro ee w115 ⟨aS, cS, rfl, ho, hb15⟩
      have Ht15 := Lib.hid (Ht14.out.trans (hb15.mono (by have h1 := Ht14.out.size; omega)))
      have X_15 := Lib.hid (X_14.out.below hb15)
      have Z_15 := Lib.hid (Z_14.out.below hb15)
      have S_15 := Lib.hid (Sl.of_own ho)
      clear hb15 ho
      have k16 := Lib.hid (impl_OrdNatural (some ⟨g, 0, none⟩) (some ⟨gz, 0, none⟩) n c nz cz xs zs w115 X_15.out Z_15.out)
      unfold OrdOkPost at k16
      rw [← Hnr.out, ← Hno.out] at k16
      go_wp2_with fail
      refine (k16.out).mono ?_
      rintro ee w116 ⟨aM, cM, rfl, ho, hb16⟩
      have Ht16 := Lib.hid (Ht15.out.trans (hb16.mono (by have h1 := Ht15.out.size; omega)))
      have X_16 := Lib.hid (X_15.out.below hb16)
      have Z_16 := Lib.hid (Z_15.out.below hb16)
      have S_16 := Lib.hid (S_15.out.below hb16)
      have M_16 := Lib.hid (Sl.of_own ho)
      clear hb16 ho
      obtain ⟨hp0, hp9⟩ := T.downS_bnd zs V
      obtain ⟨pv, hpv⟩ : ∃ x, x = T.downS zs V := ⟨_, rfl⟩
      rw [← hpv] at hp0 hp9
      have Hpv := Lib.hid hpv
      obtain ⟨hq0, hq9⟩ := T.downS_bnd sr V
      obtain ⟨qv, hqv⟩ : ∃ x, x = T.downS sr V := ⟨_, rfl⟩
      rw [← hqv] at hq0 hq9
      have Hqv := Lib.hid hqv
      clear hpv hqv
      have k17 := Lib.hid (impl_StepsDown (some ⟨gz, 0, none⟩) nz cz zs V w116 Z_16.out (by omega) (by omega))
      rw [← Hpv.out] at k17
      go_wp2_with fail
      refine (k17.out).mono ?_
      rintro ee w117 ⟨rfl, hb17⟩
      have Ht17 := Lib.hid (Ht16.out.trans (hb17.mono (by have h1 := Ht16.out.size; omega)))
      have X_17 := Lib.hid (X_16.out.below hb17)
      have Z_17 := Lib.hid (Z_16.out.below hb17)
      have S_17 := Lib.hid (S_16.out.below hb17)
      have M_17 := Lib.hid (M_16.out.below hb17)
      clear hb17
      have k18 := Lib.hid (impl_StepsDown aS sr.length cS sr V w117 S_17.out (by omega) (by omega))
      rw [← Hqv.out] at k18
      go_wp2_with fail
      refine (k18.out).mono ?_
      rintro ee w118 ⟨rfl, hb18⟩
      have Ht18 := Lib.hid (Ht17.out.trans (hb18.mono (by have h1 := Ht17.out.size; omega)))
      have X_18 := Lib.hid (X_17.out.below hb18)
      have Z_18 := Lib.hid (Z_17.out.below hb18)
      have S_18 := Lib.hid (S_17.out.below hb18)
      have M_18 := Lib.hid (M_17.out.below hb18)
      clear hb18
      cases so with
      | false =>
        skip
        go_wp2_with fail
        go_ret
        exact ⟨rfl, Ht18.out⟩
      | true =>
        cases no with
        | false =>
          skip
          go_wp2_with fail
          go_ret
          exact ⟨rfl, Ht18.out⟩
        | true =>
          cases heq : eqB sr nr with
          | false =>
            have Heq := Lib.hid heq
            clear heq
            have k19 := Lib.hid (sameInts_any aS aM sr.length cS nr.length cM sr nr w118 (by omega) S_18.out M_18.out)
            rw [Heq.out] at k19
            go_wp2_with fail
            refine (k19.out).mono ?_
            rintro ee w119 ⟨rfl, hb19⟩
            have Ht19 := Lib.hid (Ht18.out.trans (hb19.mono (by have h1 := Ht18.out.size; omega)))
            have X_19 := Lib.hid (X_18.out.below hb19)
            have Z_19 := Lib.hid (Z_18.out.below hb19)
            have S_19 := Lib.hid (S_18.out.below hb19)
            have M_19 := Lib.hid (M_18.out.below hb19)
            clear hb19
            go_wp2_with fail
            go_ret
            exact ⟨rfl, Ht19.out⟩
          | true =>
            have Heq := Lib.hid heq
            have hfin : pv < 0 ∨ qv < 0 ∨ (0 ≤ pv ∧ 0 ≤ qv ∧ qv = sv + pv) := by
              by_cases h1 : pv < 0
              · exact .inl h1
              · by_cases h2 : qv < 0
                · exact .inr (.inl h2)
                · have h3 := eqB_true.1 heq
                  have h4 := Had.out zs Hso.out.symm Hno.out.symm (by rw [← Hsr.out, ← Hnr.out]; exact h3) (by rw [← Hpv.out]; omega) (by rw [← Hsr.out, ← Hqv.out]; omega)
                  rw [← Hsr.out, ← Hqv.out, ← Hsv.out, ← Hpv.out] at h4
                  exact .inr (.inr ⟨by omega, by omega, h4⟩)
            clear heq
            have k20 := Lib.hid (sameInts_any aS aM sr.length cS nr.length cM sr nr w118 (by omega) S_18.out M_18.out)
            rw [Heq.out] at k20
            go_wp2_with fail
            refine (k20.out).mono ?_
            rintro ee w120 ⟨rfl, hb20⟩
            have Ht20 := Lib.hid (Ht18.out.trans (hb20.mono (by have h1 := Ht18.out.size; omega)))
            have X_20 := Lib.hid (X_18.out.below hb20)
            have Z_20 := Lib.hid (Z_18.out.below hb20)
            have S_20 := Lib.hid (S_18.out.below hb20)
            have M_20 := Lib.hid (M_18.out.below hb20)
            clear hb20
            rcases hfin with h | h | ⟨h1, h2, h3⟩
            · skip
              go_wp2_with fail
              go_ret
              exact ⟨rfl, Ht20.out⟩
            · by_cases hpn : pv < 0
              · skip
                go_wp2_with fail
                go_ret
                exact ⟨rfl, Ht20.out⟩
              · skip
                go_wp2_with fail
                go_ret
                exact ⟨rfl, Ht20.out⟩
            · have hpn : ¬ pv < 0 := by omega
              have hqn : ¬ qv < 0 := by omega
              have hqe : (qv == sv + pv) = true := by rw [h3]; simp
              have Hqe := Lib.hid h3
              subst h3
              go_wp2_with fail
              go_ret
              exact ⟨rfl, Ht20.out⟩

end Go.Proofs.Ytdcaefgbpnjjaab
