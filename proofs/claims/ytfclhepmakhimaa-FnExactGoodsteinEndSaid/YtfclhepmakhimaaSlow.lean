/- SlowValue: the program's and the model's answers. -/
import Derived.Test.YtfclhepmakhimaaMost
namespace Go.Proofs.Ytfclhepmakhimaa
set_option maxRecDepth 100000
open Go.RowKit

/-- A power, if it is not too great. -/
def powI (b v : Nat) : Int := if b ^ v ≤ 1000000000 then ((b ^ v : Nat) : Int) else -1
theorem powI_le {b v : Nat} (h : b ^ v ≤ 1000000000) : powI b v = ((b ^ v : Nat) : Int) := if_pos h
theorem powI_gt {b v : Nat} (h : 1000000000 < b ^ v) : powI b v = -1 := if_neg (by omega)
theorem pow_step (b k : Nat) : b ^ (k + 1) = b ^ k * b := Nat.pow_succ b k
theorem pow_more {b : Nat} (hb : 1 ≤ b) {k v : Nat} (h : k ≤ v) : b ^ k ≤ b ^ v := Nat.pow_le_pow_right hb h

theorem wrap_in {n : Int} (h : -9223372036854775808 ≤ n) (h2 : n ≤ 9223372036854775807) : wrap64 n = n := by unfold wrap64; omega

set_option maxHeartbeats 1000000 in
theorem powerOf_any (b v : Nat) (w : World) (hb1 : 1 ≤ b) (hb2 : b ≤ 99) (hv : v ≤ 1000000000) :
    Calls Try.prog 76 #[.int .i64 b, .int .i64 v] w fun e w' => e = .returned (.int .i64 (powI b v)) ∧ w = w' := by
  have hn : ¬ ((v : Int) < 0) := by omega
  by_cases h1 : b = 1
  · have hr : powI b v = 1 := by rw [h1, powI_le (by simp)]; simp
    have hz : ((b : Int) == 1) = true := by rw [h1]; rfl
    rw [hr]
    clear h1 hr
    go_enter Try.func76, Try.ntmps76
    go_wp2_with fail
    go_ret
    exact ⟨rfl, rfl⟩
  · have hz : ((b : Int) == 1) = false := by simp; omega
    go_enter Try.func76, Try.ntmps76
    go_wp2_with fail
    go_loop [5, 11] (fun p i => ∃ (k x : Nat), k ≤ v ∧ x ≤ 1000000000 ∧ Hid (x = b ^ k) ∧ p = .int .i64 x ∧ i = .int .i64 k) (fun _ i => v - (intOf i).toNat)
    case atStart => exact ⟨0, 1, Nat.zero_le _, by omega, Lib.hid (by simp), rfl, rfl⟩
    case round =>
      obtain ⟨k, x, hk, hx, HX, rfl, rfl⟩ := hrel
      by_cases hlt : k < v
      · have hqc : (1000000000 : Int) / (b : Int) = ((1000000000 / b : Nat) : Int) := rfl
        have hq : wrap64 (1000000000 / (b : Int)) = 1000000000 / (b : Int) := by
          have h2 : 1000000000 / b ≤ 1000000000 := Nat.div_le_self _ _
          have h3 : ∀ q : Nat, q ≤ 1000000000 → wrap64 (q : Int) = q := fun q h => wrap_in (by omega) (by omega)
          rw [hqc]
          exact h3 _ h2
        by_cases hg : 1000000000 / b < x
        · have hlarge : 1000000000 < b ^ v := by
            have h2 : 1000000000 < x * b := (Nat.div_lt_iff_lt_mul (by omega)).1 hg
            have h3 : b ^ (k + 1) ≤ b ^ v := pow_more hb1 (by omega)
            rw [pow_step, ← HX.out] at h3
            omega
          have HL := Lib.hid hlarge
          have hgi : (1000000000 : Int) / (b : Int) < (x : Int) := by rw [hqc]; omega
          clear hlarge hqc
          go_wp2_with fail
          go_ret
          exact ⟨ret_int (by rw [powI_gt HL.out]), rfl⟩
        · have hle : x * b ≤ 1000000000 := by
            have h2 := mt (Nat.div_lt_iff_lt_mul (show 0 < b by omega)).2 hg
            omega
          have hgi : ¬ (1000000000 : Int) / (b : Int) < (x : Int) := by rw [hqc]; omega
          clear hqc
          go_wp2_with fail
          go_round
          case rel => exact ⟨k + 1, x * b, by omega, hle, Lib.hid (by rw [pow_step, HX.out]), by go_num, by go_num⟩
          case measure => simp [intOf]; omega
      · obtain rfl : k = v := by omega
        have HR := Lib.hid (show powI b k = (x : Int) by rw [powI_le (by rw [← HX.out]; exact hx), ← HX.out])
        go_wp2_with fail
        go_ret
        exact ⟨ret_int HR.out.symm, rfl⟩

theorem powerOf_neg (b : Nat) (w : World) :
    Calls Try.prog 76 #[.int .i64 b, .int .i64 (-1)] w fun e w' => e = .returned (.int .i64 (-1)) ∧ w = w' := by
  go_enter Try.func76, Try.ntmps76
  go_wp2_with fail
  go_ret
  exact ⟨rfl, rfl⟩

/-- The value of a part, ahead. -/
theorem T.slow_part {b : Nat} {d e r t : T} {x : Int} (h : d.app (.c x e r) = t) : t.slow b = d.slow b + (x.toNat * b ^ e.slow b + r.slow b) := by
  rw [← h, T.slow_app]; rfl
theorem T.slowI_le {b : Nat} {t : T} (h : t.slow b ≤ 1000000000) : T.slowI b t = (t.slow b : Int) := if_pos h
theorem T.slowI_gt {b : Nat} {t : T} (h : 1000000000 < t.slow b) : T.slowI b t = -1 := if_neg (by omega)

set_option maxHeartbeats 2000000 in
theorem valueOf_any (v : Nat) (hv1 : 1 ≤ v) (hv2 : v ≤ 99) (N : Nat) : ∀ (b off n cap : Nat) (t : T) (w : World), t.body.length < N → n = t.enc.length → n ≤ 60 → n ≤ cap → cap ≤ maxLen → At w b off t.enc → t.Nf →
    Calls Try.prog 66 #[.slice (some ⟨b, off, none⟩) n cap, .int .i64 v] w fun e w' => e = .returned (.int .i64 (T.slowI v t)) ∧ Below w.heap.size w w' := by
  induction N with
  | zero => intro b off n cap t w h; omega
  | succ N ih =>
    intro b off n cap t w hN hn hb hc hm hat hnf
    have IH := Lib.hid ih
    have HA := Lib.hid hat
    have Hn := Lib.hid hn
    have HN := Lib.hid hN
    have HF := Lib.hid hnf
    have kt := Lib.hid (termsOf_any b off n cap t.enc t w hn.symm (by omega) hc hm hat rfl)
    clear ih hN hn hat hnf
    go_enter Try.func66, Try.ntmps66
    go_wp2_with fail
    refine (kt.out).mono ?_
    rintro ee w1 ⟨cs, rfl, ho, hT, hb1⟩
    obtain ⟨cn, hcn⟩ : ∃ cn, cn = t.cnt := ⟨_, rfl⟩
    rw [← hcn] at ho ⊢
    have hcb : cn ≤ 60 := by have := T.cnt_le t; have := T.enc_len t; have := Hn.out; omega
    obtain ⟨g, hg⟩ : ∃ g, g = w.heap.size := ⟨_, rfl⟩
    rw [← hg] at ho ⊢
    have Hcn := Lib.hid hcn
    have Hg := Lib.hid hg
    have Hb1 := Lib.hid hb1
    have Ho := Lib.hid ho
    have HTc := Lib.hid hT
    clear hcn hg hb1 ho hT
    go_wp2_with fail
    go_loopw [5, 12] (fun v2 v8 wr => ∃ (i s : Nat) (d u : T), i ≤ cn ∧ s ≤ 1000000000 ∧ Hid (d.app u = t ∧ d.cnt = i ∧ i + u.cnt = cn ∧ s = d.slow v) ∧ v8 = .int .i64 i ∧ v2 = .int .i64 s ∧ Below w1.heap.size w1 wr) (fun _ i _ => cn - (intOf i).toNat)
    case atStart => exact ⟨0, 0, .z, t, Nat.zero_le _, Nat.zero_le _, ⟨rfl, rfl, by have := Hcn.out; omega, rfl⟩, rfl, rfl, Below.refl _ _⟩
    case round =>
      obtain ⟨i, s, d, u, hi, hs, HU, rfl, rfl, hbr⟩ := hrel
      obtain ⟨h1, h2, h3, h4⟩ := HU.out
      have hsr := hbr.size
      by_cases hlt : i < cn
      · obtain ⟨x, e, r, rfl⟩ : ∃ x e r, u = .c x e r := T.cnt_pos (by omega)
        obtain ⟨be, oe, ce, p1, p2, p3, p4, p5⟩ := HTc.out.pick h1 h2
        have hg1 : g < w1.heap.size := (Ho.out.lt g rfl).2
        have y0 : wr.cell? ⟨g, i * 2, none⟩ = some (.int .i64 x) := (hbr.cell (p := ⟨g, i * 2, none⟩) hg1).trans ((Ho.out.cellAt (i * 2) (by omega)).trans (by rw [Nat.mul_comm]; exact p1))
        have y1 : wr.cell? ⟨g, i * 2 + 1, none⟩ = some (.slice (some ⟨be, oe, none⟩) e.enc.length ce) := (hbr.cell (p := ⟨g, i * 2 + 1, none⟩) hg1).trans ((Ho.out.cellAt (i * 2 + 1) (by omega)).trans (by rw [Nat.mul_comm]; exact p2))
        have hpl := T.part_len h1
        obtain ⟨q1, q2, q3⟩ := T.part_nf h1 HF.out
        obtain ⟨W, hW⟩ : ∃ W, W = wr.alloc (.cells #[.int .i64 x, .slice (some ⟨be, oe, none⟩) e.enc.length ce] 54) := ⟨_, rfl⟩
        have hbW : Below w1.heap.size w1 W := by rw [hW]; exact hbr.alloc hsr _
        have hatW : At W be oe e.enc := p3.below hbW (p3.lt (T.enc_ne e))
        have z0 : W.cell? ⟨wr.heap.size, 0, none⟩ = some (.int .i64 x) := by rw [hW, Joins.cell_alloc_mark_at _ _ _ _ _ _ rfl]; rfl
        have z1 : W.cell? ⟨wr.heap.size, 1, none⟩ = some (.slice (some ⟨be, oe, none⟩) e.enc.length ce) := by rw [hW, Joins.cell_alloc_mark_at _ _ _ _ _ _ rfl]; rfl
        have hwl : wr.heap.size < W.heap.size := by rw [hW]; simp
        have hel : e.enc.length ≤ 60 := by have := Hn.out; have := T.enc_len t; omega
        have kt2 := Lib.hid (IH.out be oe e.enc.length ce e W (by have := HN.out; omega) rfl hel p4 p5 hatW q3)
        have hecn : e.cnt ≤ 60 := by have := T.cnt_le e; have := T.enc_len e; omega
        have hsp := T.slow_part (b := v) h1
        have HSP := Lib.hid hsp
        have Q3 := Lib.hid q3
        have HW := Lib.hid hW.symm
        have HbW := Lib.hid hbW
        clear h1 h2 h3 h4 p1 p2 p3 p4 p5 hbW hatW hbr hW hpl hel hsp q3
        by_cases hv : 1000000000 < e.slow v
        · have hbig : 1000000000 < t.slow v := by
            have h5 := T.slow_exp hv1 q1 Q3.out hecn hv
            have h6 := HSP.out
            simp only [T.slow, Nat.add_zero] at h5
            omega
          have HB := Lib.hid hbig
          rw [T.slowI_gt hv] at kt2
          clear hv hbig
          go_wp2_with fail
          rw [HW.out]
          refine (kt2.out).mono ?_
          rintro ee w2 ⟨rfl, hb2⟩
          have hb2' := HbW.out.trans (hb2.mono HbW.out.size)
          have k4 := Lib.hid (powerOf_neg v w2)
          have z0' := (hb2.cell (p := ⟨wr.heap.size, 0, none⟩) hwl).trans z0
          have HB2 := Lib.hid hb2'
          clear hb2 hb2'
          go_wp2_with fail
          refine (k4.out).mono ?_
          rintro ee w3 ⟨rfl, rfl⟩
          go_wp2_with fail
          go_ret
          exact ⟨ret_int (T.slowI_gt HB.out).symm, by have := Hb1.out.trans (HB2.out.mono Hb1.out.size); exact this⟩
        · have hpe : e.slow v ≤ 1000000000 := by omega
          obtain ⟨ev, hev⟩ : ∃ ev, ev = e.slow v := ⟨_, rfl⟩
          rw [T.slowI_le hpe, ← hev] at kt2
          rw [← hev] at hpe
          have Hev := Lib.hid hev
          clear hev hv
          by_cases hp : 1000000000 < v ^ ev
          · have hbig : 1000000000 < t.slow v := by
              have h6 := HSP.out
              rw [← Hev.out] at h6
              have h7 : 1 * v ^ ev ≤ x.toNat * v ^ ev := Nat.mul_le_mul_right _ (by omega)
              omega
            have HB := Lib.hid hbig
            have HP := Lib.hid hp
            clear hp hbig
            go_wp2_with fail
            rw [HW.out]
            refine (kt2.out).mono ?_
            rintro ee w2 ⟨rfl, hb2⟩
            have hb2' := HbW.out.trans (hb2.mono HbW.out.size)
            have k4 := Lib.hid (powerOf_any v ev w2 hv1 hv2 hpe)
            rw [powI_gt HP.out] at k4
            have z0' := (hb2.cell (p := ⟨wr.heap.size, 0, none⟩) hwl).trans z0
            have HB2 := Lib.hid hb2'
            clear hb2 hb2'
            go_wp2_with fail
            refine (k4.out).mono ?_
            rintro ee w3 ⟨rfl, rfl⟩
            go_wp2_with fail
            go_ret
            exact ⟨ret_int (T.slowI_gt HB.out).symm, by have := Hb1.out.trans (HB2.out.mono Hb1.out.size); exact this⟩
          · obtain ⟨P, hP⟩ : ∃ P, P = v ^ ev := ⟨_, rfl⟩
            have hp1 : P ≤ 1000000000 := by omega
            have HP := Lib.hid hP
            have hp0 : ¬ ((P : Int) < 0) := by omega
            have hx0 : ¬ x = 0 := by omega
            have hdv : ((1000000000 : Int) - (s : Int)) / x = (((1000000000 - s) / x.toNat : Nat) : Int) := by
              have h7 : ((1000000000 : Int) - (s : Int)) = ((1000000000 - s : Nat) : Int) := by omega
              have h8 : x = ((x.toNat : Nat) : Int) := by omega
              rw [h7]
              conv => lhs; rw [h8]
              rfl
            have hdl : (1000000000 - s) / x.toNat ≤ 1000000000 := Nat.le_trans (Nat.div_le_self _ _) (Nat.sub_le _ _)
            have hdw : wrap64 (((1000000000 : Int) - (s : Int)) / x) = ((1000000000 : Int) - (s : Int)) / x := by
              have h3 : ∀ q : Nat, q ≤ 1000000000 → wrap64 (q : Int) = q := fun q h => wrap_in (by omega) (by omega)
              rw [hdv]; exact h3 _ hdl
            by_cases hd : (1000000000 - s) / x.toNat < P
            · have hbig : 1000000000 < t.slow v := by
                have h6 := HSP.out
                rw [← Hev.out, ← HP.out] at h6
                have h7 := (Nat.div_lt_iff_lt_mul (show 0 < x.toNat by omega)).1 hd
                rw [Nat.mul_comm] at h7
                have h8 := HU.out.2.2.2
                omega
              have HB := Lib.hid hbig
              have hgi : ((1000000000 : Int) - (s : Int)) / x < (P : Int) := by rw [hdv]; exact Int.ofNat_lt.2 hd
              clear hp hbig hd hdv hdl hP
              go_wp2_with fail
              rw [HW.out]
              refine (kt2.out).mono ?_
              rintro ee w2 ⟨rfl, hb2⟩
              have hb2' := HbW.out.trans (hb2.mono HbW.out.size)
              have k4 := Lib.hid (powerOf_any v ev w2 hv1 hv2 hpe)
              rw [powI_le (by rw [← HP.out]; exact hp1), ← HP.out] at k4
              have z0' := (hb2.cell (p := ⟨wr.heap.size, 0, none⟩) hwl).trans z0
              have HB2 := Lib.hid hb2'
              clear hb2 hb2'
              go_wp2_with fail
              refine (k4.out).mono ?_
              rintro ee w3 ⟨rfl, rfl⟩
              go_wp2_with fail
              go_ret
              exact ⟨ret_int (T.slowI_gt HB.out).symm, by have := Hb1.out.trans (HB2.out.mono Hb1.out.size); exact this⟩
            · have hfit : x.toNat * P ≤ 1000000000 - s := by
                have h7 := mt (Nat.div_lt_iff_lt_mul (show 0 < x.toNat by omega)).2 hd
                rw [Nat.mul_comm]
                omega
              have hxP : x * (P : Int) = ((x.toNat * P : Nat) : Int) := by
                have h8 : x = ((x.toNat : Nat) : Int) := by omega
                conv => lhs; rw [h8]
                exact (Int.natCast_mul _ _).symm
              obtain ⟨X, hX⟩ : ∃ X, X = x.toNat * P := ⟨_, rfl⟩
              rw [← hX] at hfit hxP
              have HX := Lib.hid hX
              have hgi : ¬ ((1000000000 : Int) - (s : Int)) / x < (P : Int) := by rw [hdv]; exact fun h => hd (Int.ofNat_lt.1 h)
              have hwm : wrap64 (x * (P : Int)) = (X : Int) := by rw [hxP]; exact wrap_in (by omega) (by omega)
              clear hp hd hdv hdl hP hX
              go_wp2_with fail
              rw [HW.out]
              refine (kt2.out).mono ?_
              rintro ee w2 ⟨rfl, hb2⟩
              have hb2' := HbW.out.trans (hb2.mono HbW.out.size)
              have k4 := Lib.hid (powerOf_any v ev w2 hv1 hv2 hpe)
              rw [powI_le (by rw [← HP.out]; exact hp1), ← HP.out] at k4
              have z0' := (hb2.cell (p := ⟨wr.heap.size, 0, none⟩) hwl).trans z0
              have HB2 := Lib.hid hb2'
              clear hb2 hb2'
              go_wp2_with fail
              refine (k4.out).mono ?_
              rintro ee w3 ⟨rfl, rfl⟩
              go_wp2_with fail
              go_roundw
              case rel =>
                obtain ⟨h1, h2, h3, h4⟩ := HU.out
                refine ⟨i + 1, s + X, d.app (.c x e .z), r, by omega, by omega, ⟨by rw [T.app_assoc]; exact h1, by rw [T.app_cnt, h2]; rfl, by simp only [T.cnt] at h3; omega, ?_⟩, by go_num, by go_num, HB2.out⟩
                rw [T.slow_app, ← h4, HX.out, HP.out, Hev.out]
                simp only [T.slow, Nat.add_zero]
              case measure => simp [intOf]; omega
      · have hu : u = .z := T.cnt_zero (by omega)
        subst hu
        have hdt : d = t := by rw [T.app_z] at h1; exact h1
        subst hdt
        have HR := Lib.hid (show T.slowI v d = (s : Int) by rw [T.slowI_le (by omega), h4])
        clear h1 h2 h3 h4
        go_wp2_with fail
        go_ret
        exact ⟨ret_int HR.out.symm, by have := Hb1.out.trans (hbr.mono Hb1.out.size); exact this⟩

theorem T.slowRow_bad {xs : List Int} {n : Int} (h : T.vldB xs = false ∨ n < 1 ∨ 99 < n) : T.slowRow xs n = -1 := by
  rw [T.slowRow, if_neg]
  rintro ⟨h1, h2, h3⟩
  rcases h with h | h | h
  · rw [h] at h1; cases h1
  · omega
  · omega

theorem impl_SlowValue (ao : Option Addr) (len cap : Nat) (xs : List Int) (n : Int) (w : World) (h : Sl w ao len cap xs) (hn0 : -9223372036854775808 ≤ n) (hn1 : n ≤ 9223372036854775807) :
    Calls Try.prog 42 #[.slice ao len cap, .int .i64 n] w fun e w' => e = .returned (.int .i64 (T.slowRow xs n)) ∧ Below w.heap.size w w' := by
  rcases vld_tf xs with h1 | h1
  · have k1 := Lib.hid (impl_valid ao len cap xs w h h1)
    by_cases hout : n < 1 ∨ 99 < n
    · have hr := T.slowRow_bad (xs := xs) (n := n) (.inr hout)
      rw [hr]
      clear h h1 hr
      by_cases h0 : n < 1
      · clear hout
        go_enter Try.func42, Try.ntmps42
        go_wp2_with fail
        refine (k1.out).mono ?_
        rintro ee w1 ⟨rfl, hb1⟩
        have Hb1 := Lib.hid hb1
        clear hb1
        go_wp2_with fail
        go_ret
        exact ⟨rfl, Hb1.out⟩
      · have h9 : 99 < n := by omega
        have h0' : decide (n < 1) = false := by simp; omega
        clear hout
        go_enter Try.func42, Try.ntmps42
        go_wp2_with fail
        refine (k1.out).mono ?_
        rintro ee w1 ⟨rfl, hb1⟩
        have Hb1 := Lib.hid hb1
        clear hb1
        go_wp2_with fail
        go_ret
        exact ⟨rfl, Hb1.out⟩
    · obtain ⟨k, rfl⟩ := Int.eq_ofNat_of_zero_le (show 0 ≤ n by omega)
      have hk1 : decide ((k : Int) < 1) = false := decide_eq_false (by omega)
      have hk2 : decide ((99 : Int) < (k : Int)) = false := decide_eq_false (by omega)
      have hk3 : ¬ ((99 : Int) < (k : Int)) := by omega
      have hk4 : ¬ ((k : Int) < 1) := by omega
      obtain ⟨b, off, t, rfl, rfl, hs, hos, hat, hn, hl, hp, hc, hm⟩ := h.valid h1
      have hr : T.slowRow t.enc (k : Int) = T.slowI k t := by rw [T.slowRow, if_pos ⟨h1, by omega, by omega⟩, hos]; rfl
      rw [hr]
      have HA := Lib.hid hat
      have HN := Lib.hid hn
      have HS := Lib.hid hs
      have hkk : 1 ≤ k ∧ k ≤ 99 := by omega
      have HK := Lib.hid hkk
      clear h h1 hos hs hat hn hr hout hkk hn0 hn1
      go_enter Try.func42, Try.ntmps42
      go_wp2_with fail
      refine (k1.out).mono ?_
      rintro ee w1 ⟨rfl, hb1⟩
      have Hb1 := Lib.hid hb1
      have k2 := Lib.hid (valueOf_any k HK.out.1 HK.out.2 (t.body.length + 1) b off len cap t w1 (by omega) HN.out hl hc hm (HA.out.below hb1 (HA.out.lt (T.enc_ne t))) HS.out)
      clear hb1
      go_wp2_with fail
      refine (k2.out).mono ?_
      rintro ee w2 ⟨rfl, hb2⟩
      have Hb2 := Lib.hid (Hb1.out.trans (hb2.mono Hb1.out.size))
      clear hb2
      go_wp2_with fail
      go_ret
      exact ⟨rfl, Hb2.out⟩
  · have k1 := Lib.hid (impl_valid ao len cap xs w h h1)
    have hr := T.slowRow_bad (xs := xs) (n := n) (.inl h1)
    rw [hr]
    clear h h1 hr
    go_enter Try.func42, Try.ntmps42
    go_wp2_with fail
    refine (k1.out).mono ?_
    rintro ee w1 ⟨rfl, hb1⟩
    have Hb1 := Lib.hid hb1
    clear hb1
    go_wp2_with fail
    go_ret
    exact ⟨rfl, Hb1.out⟩
end Go.Proofs.Ytfclhepmakhimaa
