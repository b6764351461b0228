/- The program's OrdTimes. -/
import Derived.Test.YtaleaagnkfbhpabMulI
import Derived.Deep.LoopGhost
import Derived.Deep.RegionHeld3
namespace Go.Proofs.Ytaleaagnkfbhpab
open Go.RowKit

def MulLoop (w : World) (m : Int) (p a t : T) (gk : Nat) (v7 v32 : Value) (wr : World) : Prop :=
  ∃ (i : Nat) (d u q : T) (cs : List Value) (a7 : Option Addr) (c7 qn : Nat), v32 = .int .i64 i ∧ gk + i = t.cnt ∧ d.app u = t ∧ d.cnt = i ∧ T.mulT m p a t = q.app (T.mulT m p a u) ∧ q.cnt = qn ∧ qn ≤ i ∧ v7 = .slice a7 qn c7 ∧
    wr.ownsRow w.heap.size 53 2 v7 qn cs ∧ TF wr v7.ownBlock q cs ∧ Below w.heap.size w wr

theorem mul_zero_row : T.fit .z = [0] ∧ T.vldB (T.z).enc = true ∧ T.num' 0 = [0] := by
  have h1 : T.vldB (T.z).enc = true := T.vldB_true.2 ⟨by decide, _, rfl, trivial⟩
  exact ⟨by rw [T.fit, if_pos h1]; rfl, h1, rfl⟩

theorem vld_enc {t : T} (h1 : t.Nf) (h2 : t.enc.length ≤ 60) : T.vldB t.enc = true := T.vldB_true.2 ⟨h2, t, rfl, h1⟩

/-- The number of one term of those that are there. -/
theorem mul_part {m : Int} {p a t q u : T} {n : Int} {f r : T} (h : T.mulT m p a t = q.app (T.mulT m p a u)) (hu : u = .c n f r) (hf : f ≠ .z) : T.mulT m p a t = q.app (.c n (T.add p f) (T.mulT m p a r)) := by
  rw [h, hu, T.mulT_pos _ _ _ _ _ hf]

set_option maxRecDepth 100000 in
set_option maxHeartbeats 4000000 in
theorem impl_OrdTimes (a1 a2 : Option Addr) (n1 c1 n2 c2 : Nat) (xs ys : List Int) (w : World) (hx : Sl w a1 n1 c1 xs) (hy : Sl w a2 n2 c2 ys) :
    Calls Try.prog 16 #[.slice a1 n1 c1, .slice a2 n2 c2] w (OrdOkPost w (T.mulRow xs ys) (T.mulOk xs ys)) := by
  obtain ⟨i0, hi, hz0, hz1, hz2⟩ := info_parts info_term
  have HX := Lib.hid hx
  have HY := Lib.hid hy
  rcases vld_tf xs with h1 | h1
  · have k1 := Lib.hid (impl_valid a1 n1 c1 xs w hx h1)
    rcases vld_tf ys with h2 | h2
    · obtain ⟨e1, e2⟩ := T.mulRow_val h1 h2
      rw [e1, e2]
      obtain ⟨b1, o1, s, rfl, rfl, hs, hos, hat1, hn1, hl1, hp1, hcc1, hm1⟩ := hx.valid h1
      obtain ⟨b2, o2, t, rfl, rfl, ht, hot, hat2, hn2, hl2, hp2, hcc2, hm2⟩ := hy.valid h2
      rw [hos, hot]
      have Hn1 := Lib.hid hn1
      have Hn2 := Lib.hid hn2
      have HA1 := Lib.hid hat1
      have HA2 := Lib.hid hat2
      have HS := Lib.hid hs
      have HT := Lib.hid ht
      have H2v := Lib.hid h2
      have hle1 : s.enc.length ≤ 60 := by omega
      have hle2 : t.enc.length ≤ 60 := by omega
      have hle3 : (T.mul s t).enc.length ≤ 10000000 := T.mul_len s t (by omega) (by omega)
      clear hx hy h1 h2 e1 e2 hos hot hat1 hat2 hs ht hn1 hn2
      go_enter Try.func16, Try.ntmps16
      go_wp2_with fail
      refine (k1.out).mono ?_
      rintro ee w1 ⟨rfl, hb1⟩
      have Hb1 := Lib.hid hb1
      have k2 := Lib.hid (impl_valid (some ⟨b2, o2, none⟩) n2 c2 t.enc w1 (HY.out.below hb1) H2v.out)
      clear hb1
      go_wp2_with fail
      refine (k2.out).mono ?_
      rintro ee w2 ⟨rfl, hb2⟩
      have Hb2 := Lib.hid (Hb1.out.trans (hb2.mono Hb1.out.size))
      have HA1w := Lib.hid (HA1.out.below Hb2.out (HA1.out.lt (T.enc_ne s)))
      have HA2w := Lib.hid (HA2.out.below Hb2.out (HA2.out.lt (T.enc_ne t)))
      have kz1 := Lib.hid (isZero_any b1 o1 n1 c1 (s.cnt : Int) w2 hp1 HA1w.out.head)
      have kz2 := Lib.hid (isZero_any b2 o2 n2 c2 (t.cnt : Int) w2 hp2 HA2w.out.head)
      clear hb2
      go_wp2_with fail
      refine (kz1.out).mono ?_
      rintro ee w3 ⟨rfl, rfl⟩
      have k0 := Lib.hid (impl_OrdOf 0 w2 (by decide) (by decide))
      rw [mul_zero_row.2.2] at k0
      cases s with
      | z =>
        have hz : (((T.z).cnt : Nat) : Int) = 0 := rfl
        rw [hz]
        go_wp2_with fail
        refine (k0.out).mono ?_
        rintro ee w4 ⟨a4, c4, rfl, ho4, hb4⟩
        have hfin : OrdOkPost w (T.fit (T.mul .z t)) (T.vldB (T.mul .z t).enc) (.returned (.tuple #[.slice a4 1 c4, .bool true])) w4 := by
          rw [T.z_mul, mul_zero_row.1, mul_zero_row.2.1]
          exact ⟨a4, c4, rfl, Joins.ownsRow_le ho4 Hb2.out.size, Hb2.out.trans (hb4.mono Hb2.out.size)⟩
        have Hfin := Lib.hid hfin
        clear ho4 hb4 hfin
        go_wp2_with fail
        go_ret2
        exact Hfin.out
      | c m p a =>
        have hz : ((((T.c m p a).cnt : Nat) : Int) == 0) = false := by simp [T.cnt]; omega
        have Hz := Lib.hid hz
        clear hz
        rw [Hz.out]
        go_wp2_with fail
        refine (kz2.out).mono ?_
        rintro ee w3 ⟨rfl, rfl⟩
        by_cases htz : t = .z
        · subst htz
          have hz : (((T.z).cnt : Nat) : Int) = 0 := rfl
          rw [hz]
          go_wp2_with fail
          refine (k0.out).mono ?_
          rintro ee w4 ⟨a4, c4, rfl, ho4, hb4⟩
          have hfin : OrdOkPost w (T.fit (T.mul (.c m p a) .z)) (T.vldB (T.mul (.c m p a) .z).enc) (.returned (.tuple #[.slice a4 1 c4, .bool true])) w4 := by
            rw [T.mul_z, mul_zero_row.1, mul_zero_row.2.1]
            exact ⟨a4, c4, rfl, Joins.ownsRow_le ho4 Hb2.out.size, Hb2.out.trans (hb4.mono Hb2.out.size)⟩
          have Hfin := Lib.hid hfin
          clear ho4 hb4 hfin
          go_wp2_with fail
          go_ret2
          exact Hfin.out
        · have hz : (((t.cnt : Nat) : Int) == 0) = false := by
            cases t with
            | z => exact absurd rfl htz
            | c n0 q0 r0 => simp [T.cnt]; omega
          have Hz2 := Lib.hid hz
          clear hz htz
          rw [Hz2.out]
          have k3 := Lib.hid (termsOf_any b1 o1 n1 c1 (T.c m p a).enc (T.c m p a) w2 Hn1.out.symm (by omega) hcc1 hm1 HA1w.out rfl)
          go_wp2_with fail
          refine (k3.out).mono ?_
          rintro ee w3 ⟨cs, rfl, ho3, ht3, hb3⟩
          have Hb3 := Lib.hid (Hb2.out.trans (hb3.mono Hb2.out.size))
          have Hz3 := Lib.hid (Tz.of_own ho3 ht3 rfl)
          have k4 := Lib.hid (termsOf_any b2 o2 n2 c2 t.enc t w3 Hn2.out.symm (by omega) hcc2 hm2 (HA2.out.below Hb3.out (HA2.out.lt (T.enc_ne t))) rfl)
          clear ho3 ht3 hb3
          go_wp2_with fail
          refine (k4.out).mono ?_
          rintro ee w4 ⟨ds, rfl, ho4, ht4, hb4⟩
          have Hb4 := Lib.hid (Hb3.out.trans (hb4.mono Hb3.out.size))
          have Hz3' := Lib.hid (Hz3.out.below hb4)
          have Hz4 := Lib.hid (Tz.of_own ho4 ht4 rfl)
          have hs34 := hb4.size
          obtain ⟨be, oe, ce, cs', rfl, hate, hce, hcem, hTa⟩ := Hz3'.out.2.2.2.1
          have Hate := Lib.hid hate
          have HTa := Lib.hid hTa
          have hg3 : w2.heap.size < w4.heap.size := Hz3'.out.2.2.2.2.1
          have hg4 : w3.heap.size < w4.heap.size := Hz4.out.2.2.2.2.1
          obtain ⟨na, hna⟩ : ∃ na, na = (T.c m p a).cnt := ⟨_, rfl⟩
          obtain ⟨nt, hnt⟩ : ∃ nt, nt = t.cnt := ⟨_, rfl⟩
          have hna0 : 0 < na := by rw [hna]; simp [T.cnt]
          have hnab : na ≤ 60 := by have := T.cnt_le (T.c m p a); have := T.enc_len (T.c m p a); omega
          have hntb : nt ≤ 60 := by have := T.cnt_le t; have := T.enc_len t; omega
          have hpl : p.enc.length ≤ 60 := by have h1 := T.enc_len (T.c m p a); rw [T.body_c, List.length_cons, List.length_append] at h1; omega
          have x3 : w4.cell? ⟨w2.heap.size, 0, none⟩ = some (.int .i64 m) := Hz3'.out.2.2.2.2.2 0 (by omega)
          have x3' : w4.cell? ⟨w2.heap.size, 1, none⟩ = some (.slice (some ⟨be, oe, none⟩) p.enc.length ce) := Hz3'.out.2.2.2.2.2 1 (by omega)
          have Hmb := Lib.hid (show 1 ≤ m ∧ m ≤ 9999 from ⟨HS.out.1, HS.out.2.1⟩)
          have Hpn := Lib.hid HS.out.2.2.1
          obtain ⟨res, hres⟩ : ∃ res, res = T.mul (.c m p a) t := ⟨_, rfl⟩
          have hmulT : T.mulT m p a t = res := hres.symm
          have Hfin0 := Lib.hid hmulT
          rw [← hna, ← hnt]
          have hle4 : res.enc.length ≤ 10000000 := by rw [hres]; exact hle3
          have Hna := Lib.hid hna
          have Hnt := Lib.hid hnt
          have Hres := Lib.hid hres
          clear ho4 ht4 hb4 hate hTa hna hnt hres hmulT
          go_wp2_with fail
          go_loopg [7, 32] nt (fun gk v7 v32 wr => MulLoop w4 m p a t gk v7 v32 wr)
          case atStart => exact ⟨0, .z, t, .z, [], none, 0, 0, rfl, Hnt.out, rfl, rfl, rfl, rfl, Nat.le_refl _, rfl, ⟨rfl, .inl ⟨rfl, rfl⟩⟩, rfl, Below.refl _ _⟩
          case round =>
            obtain ⟨i, d, u, q, qs, a7, c7, qn, rfl, hgk, hdu, hdi, hmu, hqn, hqi, rfl, ho, hTF, hbw⟩ := hrel
            have Hgk := Lib.hid hgk
            have Hdu := Lib.hid hdu
            have Hdi := Lib.hid hdi
            have Hmu := Lib.hid hmu
            have Hqn := Lib.hid hqn
            have Ho := Lib.hid ho
            have HTF := Lib.hid hTF
            have Hbw := Lib.hid hbw
            have hws := hbw.size
            have hcnt : nt = i + u.cnt := by rw [Hnt.out, ← hdu, T.app_cnt, hdi]
            have Hcnt := Lib.hid hcnt
            have hup : i < nt → 0 < u.cnt := fun h => by omega
            have hiu : ¬ i < nt → u.cnt = 0 := fun h => by have := Hgk.out; omega
            have hqb : qn ≤ 60 := by omega
            clear hgk hdu hdi hmu hqn ho hTF hbw hcnt
            by_cases hlt : i < nt
            · obtain ⟨n, f, r, hu⟩ : ∃ n f r, u = .c n f r := T.cnt_pos (hup hlt)
              subst hu
              have hback := Hz4.out.2.2.2.1
              rw [← Hdu.out] at hback
              obtain ⟨bf, of, cf, ds', hds, hatf, hcf, hcfm, _⟩ := hback.back
              have hdl := Hz4.out.2.2.2.1.length
              have y0 : wr.cell? ⟨w3.heap.size, i * 2, none⟩ = some (.int .i64 n) := by
                rw [Hbw.out.cell (p := ⟨w3.heap.size, i * 2, none⟩) hg4, Hz4.out.2.2.2.2.2 (i * 2) (by have := Hnt.out; omega)]
                have h1 := congrArg (fun l => l[0]?) hds
                simp only [List.getElem?_drop, Hdi.out] at h1
                rw [show i * 2 = 2 * i + 0 by omega, h1]; rfl
              have y1 : wr.cell? ⟨w3.heap.size, i * 2 + 1, none⟩ = some (.slice (some ⟨bf, of, none⟩) f.enc.length cf) := by
                rw [Hbw.out.cell (p := ⟨w3.heap.size, i * 2 + 1, none⟩) hg4, Hz4.out.2.2.2.2.2 (i * 2 + 1) (by have := Hnt.out; omega)]
                have h1 := congrArg (fun l => l[1]?) hds
                simp only [List.getElem?_drop, Hdi.out] at h1
                rw [show i * 2 + 1 = 2 * i + 1 by omega, h1]; rfl
              have hnfu : n ≥ 1 ∧ n ≤ 9999 ∧ f.Nf ∧ f.enc.length ≤ 60 := by
                have h1 := HT.out
                rw [← Hdu.out] at h1
                have h2 := T.nf_last h1
                refine ⟨h2.1, h2.2.1, h2.2.2, ?_⟩
                have h3 := T.enc_len t
                rw [← Hdu.out, T.app_body, T.body_c, Hdu.out] at h3
                simp at h3
                omega
              have Hnf := Lib.hid hnfu
              have hfl : f.enc.length ≤ 60 := hnfu.2.2.2
              have Hatf := Lib.hid (hatf.below Hbw.out (hatf.lt (T.enc_ne f)))
              have Hcf := Lib.hid (And.intro hcf hcfm)
              have hbB : Below wr.heap.size wr (wr.alloc (.cells #[.int .i64 n, .slice (some ⟨bf, of, none⟩) f.enc.length cf] 53)) := (Below.refl _ _).alloc (Nat.le_refl _) _
              have HbB := Lib.hid hbB
              have Hatb := Lib.hid (Hatf.out.below hbB (Hatf.out.lt (T.enc_ne f)))
              have kz := Lib.hid (isZero_any bf of f.enc.length cf (f.cnt : Int) _ (by rw [T.enc_len]; omega) Hatb.out.head)
              clear hback hds hatf hcf hcfm hdl hnfu hbB hup hiu
              by_cases hf : f = .z
              · have hzf : (((f.cnt : Nat) : Int) == 0) = true := by rw [hf]; rfl
                rw [hzf] at kz
                have hmn : 0 ≤ m * n ∧ m * n ≤ 9999 * 9999 := ⟨Int.mul_nonneg (by have := Hmb.out.1; omega) (by have := Hnf.out.1; omega), Int.mul_le_mul Hmb.out.2 Hnf.out.2.1 (by have := Hnf.out.1; omega) (by omega)⟩
                have kn := Lib.hid (timesNumber_any w2.heap.size na na be oe ce m n p a cs' _ (by have h1 := Hz3'.out.below (Hbw.out.trans (HbB.out.mono hws)); rw [← Hna.out] at h1; exact h1) (by omega) (by omega) (by omega))
                have Hf := Lib.hid hf
                clear hf hzf
                go_wp2_with fail
                refine (kz.out).mono ?_
                rintro ee wz ⟨rfl, rfl⟩
                go_wp2_with fail
                refine (kn.out).mono ?_
                rintro ee w5 ⟨g5, c5, rfl, ho5, hb5⟩
                have hb5' := HbB.out.trans (hb5.mono HbB.out.size)
                have HO5 := Lib.hid (ownsRow_below' Ho.out hb5')
                have hTC : TC w4 (.c (m * n) p a) (.int .i64 (m * n) :: .slice (some ⟨be, oe, none⟩) p.enc.length ce :: cs') := ⟨be, oe, ce, cs', rfl, Hate.out, hce, hcem, HTa.out⟩
                have H1 := Lib.hid hTC.one
                have HL := Lib.hid (show (Value.int .i64 (m * n) :: .slice (some ⟨be, oe, none⟩) p.enc.length ce :: cs').length = na * 2 by have h1 := hTC.length; have h2 := Hna.out; simp only [T.cnt] at h1 h2; omega)
                have HT5 := Lib.hid ((HTF.out.below hb5').join ((hTC.tf (r := (Value.slice a7 qn c7).ownBlock) (fun k e => (Ho.out.lt k e).1)).below (Hbw.out.trans (hb5'.mono hws))))
                have HN := Lib.hid (ho5.cells (g := g5) rfl)
                have Hb5 := Lib.hid (Hbw.out.trans (hb5'.mono hws))
                have hw5 := Hb5.out.size
                clear ho5 hb5 hb5' hTC
                go_wp2_with (first
                  | (at_builtin; refine wpList_append_own_at _ rfl (.tmp 39) (.tmp 43) 44 rfl w4.heap.size 53 i0 _ 2 32 Try.underlying44 hi hz0 hz1 hz2 rfl (by decide) _ qn qs rfl HO5.out ⟨g5, 0, none⟩ na c5 _ rfl HL.out HN.out H1.out (by unfold maxLen; omega) (by omega) (by omega) ?_; intro v6 w6 ho6 hg6 _ _))
                obtain ⟨a6, c6, rfl⟩ := own_shape ho6
                have hrt : q.app (.c (m * n) p a) = res := by rw [← Hfin0.out, Hmu.out, Hf.out, T.mulT_zero]
                have hT6 := (HT5.out.go hg6 (fun _ _ => .inl rfl) (fun _ _ => .inl rfl)).tc
                have hb6 := Hb5.out.grown hg6 (by omega) (fun k e => (HO5.out.lt k e).1)
                have htm := Tm.of_own ho6 hT6 (by rw [T.app_cnt, Hqn.out]; have h2 := Hna.out; simp only [T.cnt] at h2 ⊢; omega)
                rw [hrt] at htm
                have k6 := Lib.hid (fittingOrd_any a6 (qn + na) c6 res w6 (by omega) htm)
                have Hb6 := Lib.hid hb6
                clear ho6 hg6 hrt hT6 hb6 htm
                go_wp2_with fail
                refine (k6.out).mono ?_
                rintro ee w7 ⟨a7', c7', rfl, ho7, hb7⟩
                have hfin : OrdOkPost w (T.fit (T.mul (.c m p a) t)) (T.vldB (T.mul (.c m p a) t).enc) (.returned (.tuple #[.slice a7' (T.fit res).length c7', .bool (T.vldB res.enc)])) w7 := by
                  rw [← Hres.out]
                  exact ⟨a7', c7', rfl, Joins.ownsRow_le ho7 (Nat.le_trans Hb4.out.size Hb6.out.size), Hb4.out.trans ((Hb6.out.trans (hb7.mono Hb6.out.size)).mono Hb4.out.size)⟩
                have Hfin := Lib.hid hfin
                clear ho7 hb7 hfin
                go_wp2_with fail
                go_ret2
                exact Hfin.out
              · have hzf : (((f.cnt : Nat) : Int) == 0) = false := by
                  cases f with
                  | z => exact absurd rfl hf
                  | c n' f' r' => simp [T.cnt]; omega
                rw [hzf] at kz
                have Hf := Lib.hid hf
                clear hf hzf
                go_upto_region 12 with fail
                refine (kz.out).mono ?_
                rintro ee wz ⟨rfl, rfl⟩
                go_upto_region 12 with fail
                obtain ⟨wb, hwb⟩ : ∃ wb, wb = wr.alloc (.cells #[.int .i64 n, .slice (some ⟨bf, of, none⟩) f.enc.length cf] 53) := ⟨_, rfl⟩
                have hBs : wr.heap.size < wb.heap.size := by rw [hwb, World.size_alloc]; omega
                have z0 : wb.cell? ⟨wr.heap.size, 0, none⟩ = some (.int .i64 n) := by rw [hwb, Joins.cell_alloc_mark_at _ _ _ _ _ _ rfl]; rfl
                have z1 : wb.cell? ⟨wr.heap.size, 1, none⟩ = some (.slice (some ⟨bf, of, none⟩) f.enc.length cf) := by rw [hwb, Joins.cell_alloc_mark_at _ _ _ _ _ _ rfl]; rfl
                rw [← hwb] at HbB Hatb ⊢
                have z3 : wb.cell? ⟨w2.heap.size, 1, none⟩ = some (.slice (some ⟨be, oe, none⟩) p.enc.length ce) := ((Hbw.out.trans (HbB.out.mono hws)).cell (p := ⟨w2.heap.size, 1, none⟩) hg3).trans x3'
                have hdr : Below wb.heap.size wb wb.drew := (Below.refl _ _).drew
                have hSp : Sl wb.drew (some ⟨be, oe, none⟩) p.enc.length ce p.enc := ⟨rfl, hce, hcem, fun _ => ⟨be, oe, rfl, Hate.out.below ((Hbw.out.trans (HbB.out.mono hws)).drew) (Hate.out.lt (T.enc_ne p))⟩⟩
                have hSf : Sl wb.drew (some ⟨bf, of, none⟩) f.enc.length cf f.enc := ⟨rfl, Hcf.out.1, Hcf.out.2, fun _ => ⟨bf, of, rfl, Hatb.out.below hdr (Hatb.out.lt (T.enc_ne f))⟩⟩
                have ka := Lib.hid (impl_OrdAdd (some ⟨be, oe, none⟩) (some ⟨bf, of, none⟩) p.enc.length ce f.enc.length cf p.enc f.enc wb.drew hSp hSf)
                have hvp := vld_enc Hpn.out hpl
                have hvf := vld_enc Hnf.out.2.2.1 hfl
                obtain ⟨er, eo⟩ := T.addRow_val hvp hvf
                rw [T.of_enc, T.of_enc] at er eo
                unfold OrdOkPost at ka
                rw [er, eo] at ka
                have hnapos : (0 : Int) < (na : Int) := by omega
                clear hwb hdr hSp hSf hvp hvf er eo
                have hg3b : w2.heap.size < wb.heap.size := by omega
                go_upto_region 12 with fail
                go_region_held3 (fun w' => w'.cell? ⟨w2.heap.size, 1, none⟩ = some (.slice (some ⟨be, oe, none⟩) p.enc.length ce) ∧ w'.cell? ⟨wr.heap.size, 1, none⟩ = some (.slice (some ⟨bf, of, none⟩) f.enc.length cf)) (first | go_keep | exact ⟨kS0, kS1⟩)
                  (first
                    | (go_at_call 13; (with_reducible refine (ka.out).mono ?_); rintro ee w5 ⟨aN, cN, rfl, hoN, hbN⟩; have kS0 := (hbN.cell (p := ⟨w2.heap.size, 1, none⟩) hg3b).trans z3; have kS1 := (hbN.cell (p := ⟨wr.heap.size, 1, none⟩) hBs).trans z1))
                have hbr5 := HbB.out.drew.trans (hbN.mono HbB.out.drew.size)
                have Hbr5 := Lib.hid hbr5
                have Hb5 := Lib.hid (Hbw.out.trans (hbr5.mono hws))
                have hw5 := Hb5.out.size
                have z0' := (hbN.cell (p := ⟨wr.heap.size, 0, none⟩) hBs).trans z0
                have HoN := Lib.hid hoN
                have hsN : wb.heap.size ≤ w5.heap.size := hbN.size
                clear hbN hoN z0 z1 z3 hbr5
                rcases vld_tf (T.add p f).enc with hv | hv
                · have hfit : T.fit (T.add p f) = (T.add p f).enc := by rw [T.fit, if_pos hv]
                  rw [hfit] at HoN ⊢
                  rw [hv]
                  obtain ⟨L, hL⟩ : ∃ L, L = (T.add p f).enc.length := ⟨_, rfl⟩
                  rw [← hL] at HoN ⊢
                  have hL0 : 0 < L := by rw [hL, T.enc_len]; omega
                  obtain ⟨gN, cN', hform⟩ := Joins.ownsRow_form HoN.out hL0
                  simp only [Value.slice.injEq] at hform
                  obtain ⟨rfl, _, rfl⟩ := hform
                  have hslN := Sl.of_own HoN.out
                  obtain ⟨bN, oN, heN, hatN⟩ := hslN.2.2.2 hL0
                  simp only [Option.some.injEq, Addr.mk.injEq, and_true] at heN
                  obtain ⟨rfl, rfl⟩ := heN
                  have HatN := Lib.hid hatN
                  have HcN := Lib.hid (And.intro hslN.2.1 hslN.2.2.1)
                  have hgNb : wr.heap.size ≤ gN := by have h1 := (HoN.out.lt gN rfl).1; have h2 : wb.drew.heap.size = wb.heap.size := rfl; omega
                  have HO5 := Lib.hid (ownsRow_below' Ho.out Hbr5.out)
                  have HT5 := Lib.hid (HTF.out.below Hbr5.out)
                  have HLh := Lib.hid hL
                  clear hv hfit hL hslN hatN
                  go_wp2_with (first
                    | (at_builtin; refine wpList_append_own_at _ rfl (.tmp 57) (.tmp 62) 44 rfl w4.heap.size 53 i0 _ 2 32 Try.underlying44 hi hz0 hz1 hz2 rfl (by decide) _ qn qs rfl (HO5.out.alloc _) ⟨w5.heap.size, 0, none⟩ 1 1 [.int .i64 n, .slice (some ⟨gN, 0, none⟩) L cN] rfl rfl (cell_two_new _ _ _ _) (two_one _ _ rfl rfl) (by unfold maxLen; omega) (by omega) (by simp; omega) ?_; intro v6 w6 ho6 hg6 _ hat6))
                  obtain ⟨a6, c6, rfl⟩ := own_shape ho6
                  have hfin : MulLoop w4 m p a t (gk - 1) (.slice a6 (qn + 1) c6) (.int .i64 ((i : Int) + 1)) w6 := by
                    have hTa := (HT5.out.below ((Below.refl w5.heap.size w5).alloc (Nat.le_refl _) (.cells #[.int .i64 n, .slice (some ⟨gN, 0, none⟩) L cN] 53))).snoc (n := n)
                      (HatN.out.alloc (T.enc_ne (T.add p f)) _) (own_row_lt Ho.out hgNb) (by have := HcN.out.1; have := HLh.out; omega) HcN.out.2
                    rw [← HLh.out] at hTa
                    refine ⟨i + 1, d.app (.c n f .z), r, q.app (.c n (T.add p f) .z), _, a6, c6, qn + 1, by go_num, by have := Hgk.out; have := Hnt.out; omega, by rw [T.app_assoc]; exact Hdu.out, by rw [T.app_cnt, Hdi.out]; rfl, ?_, by rw [T.app_cnt, Hqn.out]; rfl, by omega, rfl, ho6,
                      hTa.go hg6 (fun _ _ => .inl rfl) (fun k e => ?_), (Hb5.out.alloc hw5 _).grown hg6 (by simp; omega) (fun k e => (HO5.out.lt k e).1)⟩
                    · rw [T.app_assoc]; exact mul_part Hmu.out rfl Hf.out
                    · rcases hat6 with h | h
                      · exact .inl h
                      · right
                        rw [h] at e
                        cases e
                        exact Nat.le_refl _
                  have Hfin := Lib.hid hfin
                  clear ho6 hg6 hat6 hfin
                  go_roundg (gk - 1)
                  case measure => have := Hgk.out; have := Hnt.out; omega
                  case rel => exact Hfin.out
                · have hfit : T.fit (T.add p f) = [] := by rw [T.fit, if_neg (by rw [hv]; simp)]
                  have hbad : T.vldB (T.mul (.c m p a) t).enc = false := by
                    rw [← Hres.out, ← Hfin0.out, mul_part Hmu.out rfl Hf.out]
                    rcases vld_tf (q.app (.c n (T.add p f) (T.mulT m p a r))).enc with h1 | h1
                    · rw [T.vld_part h1] at hv; cases hv
                    · exact h1
                  have hfit2 : T.fit (T.mul (.c m p a) t) = [] := by rw [T.fit, if_neg (by rw [hbad]; simp)]
                  have hfin : ∀ wx, w5 = wx → OrdOkPost w (T.fit (T.mul (.c m p a) t)) (T.vldB (T.mul (.c m p a) t).enc) (.returned (.tuple #[.slice none 0 0, .bool false])) wx := by
                    rintro wx rfl
                    rw [hfit2, hbad]
                    exact OrdOkPost.nil (nil_own w w5) (Hb4.out.trans (Hb5.out.mono Hb4.out.size))
                  have Hfin := Lib.hid hfin
                  rw [hfit, hv]
                  clear hfit hbad hfit2 hfin hv
                  go_wp2_with fail
                  go_ret2
                  exact Hfin.out _ rfl
            · have hu : u = .z := T.cnt_zero (hiu hlt)
              subst hu
              have hrt : q = res := by rw [← Hfin0.out, Hmu.out]; show q = q.app .z; rw [T.app_z]
              have htm := Tm.of_own Ho.out (HTF.out.tc) Hqn.out.symm
              rw [hrt] at htm
              have k6 := Lib.hid (fittingOrd_any a7 qn c7 res wr (by omega) htm)
              have hle : nt ≤ i := by omega
              clear hrt htm hup hiu
              go_wp2_with fail
              refine (k6.out).mono ?_
              rintro ee w7 ⟨a7', c7', rfl, ho7, hb7⟩
              have hfin : OrdOkPost w (T.fit (T.mul (.c m p a) t)) (T.vldB (T.mul (.c m p a) t).enc) (.returned (.tuple #[.slice a7' (T.fit res).length c7', .bool (T.vldB res.enc)])) w7 := by
                rw [← Hres.out]
                exact ⟨a7', c7', rfl, Joins.ownsRow_le ho7 (Nat.le_trans Hb4.out.size Hbw.out.size), Hb4.out.trans ((Hbw.out.trans (hb7.mono Hbw.out.size)).mono Hb4.out.size)⟩
              have Hfin := Lib.hid hfin
              clear ho7 hb7 hfin
              go_wp2_with fail
              go_ret2
              exact Hfin.out
    · obtain ⟨e1, e2⟩ := T.mulRow_bad (xs := xs) (.inr h2)
      rw [e1, e2]
      have H2v := Lib.hid h2
      clear hx hy h1 h2 e1 e2
      go_enter Try.func16, Try.ntmps16
      go_wp2_with fail
      refine (k1.out).mono ?_
      rintro ee w1 ⟨rfl, hb1⟩
      have Hb1 := Lib.hid hb1
      have k2 := Lib.hid (impl_valid a2 n2 c2 ys w1 (HY.out.below hb1) H2v.out)
      clear hb1
      go_wp2_with fail
      refine (k2.out).mono ?_
      rintro ee w2 ⟨rfl, hb2⟩
      have Hb2 := Lib.hid (Hb1.out.trans (hb2.mono Hb1.out.size))
      clear hb2
      go_wp2_with fail
      go_ret2
      exact OrdOkPost.nil (nil_own w w2) Hb2.out
  · have k1 := Lib.hid (impl_valid a1 n1 c1 xs w hx h1)
    obtain ⟨e1, e2⟩ := T.mulRow_bad (ys := ys) (.inl h1)
    rw [e1, e2]
    clear hx hy h1 e1 e2
    go_enter Try.func16, Try.ntmps16
    go_wp2_with fail
    refine (k1.out).mono ?_
    rintro ee w1 ⟨rfl, hb1⟩
    have Hb1 := Lib.hid hb1
    clear hb1
    go_wp2_with fail
    go_ret2
    exact OrdOkPost.nil (nil_own w w1) Hb1.out

end Go.Proofs.Ytaleaagnkfbhpab
